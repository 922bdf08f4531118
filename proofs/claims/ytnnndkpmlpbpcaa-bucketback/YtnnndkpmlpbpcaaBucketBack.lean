/- For every bucket the call BucketBack of the statements returns true and its argument reads as it did: no condition. -/
import Derived.Test.YtnnndkpmlpbpcaaRows
import Derived.Test.YtnnndkpmlpbpcaaArg
import Derived.WalkKit
import Derived.ProofKit
import Derived.OpenShut
import Derived.ShutString
import Derived.ChangeOld
import Derived.Below
namespace Go.Proofs.Ytnnndkpmlpbpcaa.bucketBack
open Go.ChangeShapes Go.WideShapes Go.ChangeAt Go.RowKit
set_option linter.unusedVariables false
set_option linter.unusedSimpArgs false
set_option maxRecDepth 20000

theorem own : ownKnob Try.prog.godebug = none := by kernel_rfl
theorem laidOut : laidOutB Try.prog = true := by kernel_rfl
theorem longer {d n : Int} {ps : List PR} (h : Fine d n ps) (r : List Int) (hr : r ≠ []) : isB (putS d n ps ++ r) = false := by
  cases hb : isB (putS d n ps ++ r)
  · rfl
  · obtain ⟨h1, h2, _, _, h5⟩ := read_put r h
    have h6 := (isB_fine hb).2
    rw [h1, h2, h5] at h6
    have h7 := congrArg List.length h6
    rw [List.length_append] at h7
    have : 0 < r.length := List.length_pos_iff.2 hr
    omega
theorem shorter {d n : Int} {ps : List PR} (h : Fine d n ps) (m : Nat) (hm : (putS d n ps).length = m + 1) : isB ((putS d n ps).take m) = false := by
  cases hb : isB ((putS d n ps).take m)
  · rfl
  · exfalso
    obtain ⟨h1, h2⟩ := isB_fine hb
    have hd : (putS d n ps).take m ++ (putS d n ps).drop m = putS d n ps := List.take_append_drop _ _
    have hne : (putS d n ps).drop m ≠ [] := by
      intro e
      have := congrArg List.length e
      rw [List.length_drop] at this
      simp at this
      omega
    have h3 := longer h1 _ hne
    rw [h2, hd] at h3
    rw [isB_put h] at h3
    cases h3
theorem own0 (w : World) (o : Obj) : Own ((w.alloc o).alloc (.cells #[] 5)) (w.alloc o).heap.size (.slice (some ⟨w.heap.size + 1, 0, none⟩) 0 0) [] := by
  have h := World.ownsRow_lit (e := 5) (size := 1) (w.alloc o) #[] 0 (Nat.le_refl _) (by decide) rfl
  rw [show (w.alloc o).heap.size = w.heap.size + 1 by simp] at h ⊢
  exact h
theorem own_sl {w : World} {base k : Nat} {v : Value} {zs : List Int} (h : Own w base v zs) (hz : AllB zs) (hk : zs.length = k) : ∃ a c, v = .slice a k c ∧ (a = none → c = 0) ∧ BV w a zs := by
  subst hk
  obtain ⟨a, c, rfl, n, b, _, _⟩ := h.slice hz
  exact ⟨a, c, rfl, n, b⟩
set_option maxHeartbeats 8000000 in
theorem walk_good (d0 n0 : Int) (a0 : Option Addr) (len0 cap0 : Nat) (y0 : List PR) (w : World) (w0 : Prs w a0 len0 cap0 y0) (hl : lightB y0 100 = true) (hF : Fine d0 n0 y0) :
    Calls Try.prog 7 #[bkv d0 n0 a0 len0 cap0] w fun e w' => e = .returned (.bool true) ∧ Below w.heap.size w w' := by
  obtain ⟨rfl, hp, hn, hcl, hcap, _, _⟩ := w0
  obtain ⟨hlen, hL⟩ := light_of hl
  have HF : Hid (Fine d0 n0 y0) := hF
  obtain ⟨W0, hW0⟩ : ∃ W0, W0 = w.alloc (.cells #[.int .i64 d0, .int .i64 n0, .slice a0 y0.length cap0] 24) := ⟨_, rfl⟩
  have HB0 : Hid (Below w.heap.size w W0) := by rw [hW0]; exact one_block _ _
  have CL : Hid (∀ W, Below W0.heap.size W0 W → W.cell? ⟨w.heap.size, 0, none⟩ = some (.int .i64 d0) ∧ W.cell? ⟨w.heap.size, 1, none⟩ = some (.int .i64 n0) ∧ W.cell? ⟨w.heap.size, 2, none⟩ = some (.slice a0 y0.length cap0)) := fun W hW => by
    rw [hW0] at hW
    exact ⟨(hW.cell (p := ⟨w.heap.size, 0, none⟩) (by simp)).trans (by go_simp), (hW.cell (p := ⟨w.heap.size, 1, none⟩) (by simp)).trans (by go_simp), (hW.cell (p := ⟨w.heap.size, 2, none⟩) (by simp)).trans (by go_simp)⟩
  have LT : Hid (Calls Try.prog 8 #[.slice a0 y0.length cap0, .int .i64 100] W0 fun e w' => e = .returned (.bool true) ∧ Below W0.heap.size W0 w') := by
    have := light_any a0 cap0 100 y0 W0 (hp.below HB0.out) (by decide)
    rw [hl] at this
    exact this
  obtain ⟨bs, hbs⟩ : ∃ bs, bs = putS d0 n0 y0 := ⟨_, rfl⟩
  have hb4 : 4 ≤ bs.length := by rw [hbs]; simp [putS, headS]
  have hb5 : bs.length ≤ 246 := by have := putB_len d0 n0 y0; unfold putB at this; rw [if_pos hF.check] at this; rw [hbs]; exact this
  obtain ⟨M, hM⟩ : ∃ M, bs.length = M + 1 := ⟨bs.length - 1, by omega⟩
  have HAB : Hid (AllB bs) := by rw [hbs]; exact hF.all
  have PT : Hid (∀ W, Below W0.heap.size W0 W → Calls Try.prog 10 #[.agg #[.int .i64 d0, .int .i64 n0, .slice a0 y0.length cap0]] W fun e w' => ∃ a c, e = .returned (.tuple #[.slice (some a) (M + 1) c, .int .i64 0]) ∧ BV w' (some a) bs ∧ M + 1 ≤ c ∧ c ≤ 9223372036854775807 ∧ Below W.heap.size W w') := fun W hW => by
    refine (put_good d0 n0 a0 cap0 y0 W ((hp.below HB0.out).below hW) hL hF).mono ?_
    rintro e w' ⟨v, rfl, h1, h2⟩
    rw [← hbs] at h1
    obtain ⟨a, c, rfl, n2, bv2, h3, h4⟩ := h1.slice HAB.out
    rw [hM] at *
    cases a with
    | none => have := n2 rfl; omega
    | some a => exact ⟨a, c, rfl, bv2, h3, by unfold maxLen at h4; omega, h2⟩
  have G1 : Hid (∀ W a c, BV W (some a) bs → Calls Try.prog 12 #[.slice (some a) (M + 1) c] W fun e w' => ∃ a8 c8, e = .returned (.tuple #[.agg #[.int .i64 d0, .int .i64 n0, .slice a8 y0.length c8], .int .i64 0]) ∧ PV w' a8 y0 ∧ Below W.heap.size W w') := fun W a c h1 => by
    have := get_any2 (some a) c bs W h1 (by omega) (fun h => by cases h)
    have hB := isB_put hF
    obtain ⟨e1, e2, _, _, e5⟩ := read_put [] hF
    rw [List.append_nil, ← hbs] at e1 e2 e5
    rw [← hbs] at hB
    unfold gD gN gP gE at this
    rw [hB, e1, e2, e5, hM] at this
    refine this.mono ?_
    rintro e w' ⟨v, rfl, h1, h2⟩
    obtain ⟨a8, c8, rfl, _, h3, _⟩ := h1.view
    exact ⟨a8, c8, rfl, h3, h2⟩
  have G2 : Hid (∀ W a c, BV W a (bs ++ [0]) → (a = none → c = 0) → Calls Try.prog 12 #[.slice a (M + 1 + 1) c] W fun e w' => ∃ a8 l8 c8, e = .returned (.tuple #[.agg #[.int .i64 0, .int .i64 0, .slice a8 l8 c8], .int .i64 4]) ∧ Below W.heap.size W w') := fun W a c h1 h2 => by
    have := get_any2 a c (bs ++ [0]) W h1 (by simp; omega) h2
    have hB := longer hF [0] (by simp)
    rw [← hbs] at hB
    unfold gD gN gP gE at this
    rw [hB, List.length_append, hM] at this
    refine this.mono ?_
    rintro e w' ⟨v, rfl, h1, h2⟩
    obtain ⟨a8, l8, c8, rfl⟩ := h1.isSlice
    exact ⟨a8, l8, c8, rfl, h2⟩
  have G3 : Hid (∀ W a c, BV W (some a) bs → Calls Try.prog 12 #[.slice (some a) M c] W fun e w' => ∃ a8 l8 c8, e = .returned (.tuple #[.agg #[.int .i64 0, .int .i64 0, .slice a8 l8 c8], .int .i64 4]) ∧ Below W.heap.size W w') := fun W a c h1 => by
    have := get_any2 (some a) c (bs.take M) W (h1.take M) (by simp; omega) (fun h => by cases h)
    have hB := shorter hF M (by rw [← hbs]; exact hM)
    rw [← hbs] at hB
    unfold gD gN gP gE at this
    rw [hB, List.length_take, hM, Nat.min_eq_left (by omega)] at this
    refine this.mono ?_
    rintro e w' ⟨v, rfl, h1, h2⟩
    obtain ⟨a8, l8, c8, rfl⟩ := h1.isSlice
    exact ⟨a8, l8, c8, rfl, h2⟩
  have SM : Hid (∀ W a8 c8, Below W0.heap.size W0 W → PV W a8 y0 → Calls Try.prog 17 #[.agg #[.int .i64 d0, .int .i64 n0, .slice a8 y0.length c8], .agg #[.int .i64 d0, .int .i64 n0, .slice a0 y0.length cap0]] W fun e w' => e = .returned (.bool true) ∧ Below W.heap.size W w') := fun W a8 c8 hW h1 => by
    have := rsameb_any d0 n0 d0 n0 a8 a0 c8 cap0 y0 y0 W h1 ((hp.below HB0.out).below hW) (by omega) (by omega)
    rw [show sameBk d0 n0 y0 d0 n0 y0 = true by simp [sameBk]] at this
    exact this
  have HM3 : 3 ≤ M := by omega
  have HM4 : M ≤ 245 := by omega
  have HML : Hid (bs.length = M + 1) := hM
  have HW0 : Hid (W0 = w.alloc (.cells #[.int .i64 d0, .int .i64 n0, .slice a0 y0.length cap0] 24)) := hW0
  unfold bkv
  clear hW0 hbs hM hp hF hb4 hb5
  have A1 : True := trivial
  go_enter Try.func7, Try.ntmps7
  go_wp2_with (first | (go_at_call 8; rw [← HW0.out]; refine LT.out.mono ?_; rintro e w1 ⟨rfl, hb1⟩; clear LT; obtain ⟨x0, x1, x2⟩ := CL.out _ hb1) | (go_at_call 10; refine (PT.out _ hb1).mono ?_; rintro e w2 ⟨a2, c2, rfl, bv2, hc2, hc3, hb2⟩; clear PT) | (go_at_call 12; refine (G1.out _ _ _ bv2).mono ?_; rintro e w3 ⟨a3, c3, rfl, pv3, hb3⟩; clear G1; have HV : Hid (Below W0.heap.size W0 (w3.alloc (.cells #[.int .i64 d0, .int .i64 n0, .slice a3 y0.length c3] 28))) := bt (bt (bt hb1 hb2) hb3) (one_block _ _); have BVV : Hid (BV (w3.alloc (.cells #[.int .i64 d0, .int .i64 n0, .slice a3 y0.length c3] 28)) (some a2) bs) := (bv2.below hb3).below (one_block _ _); have PVV : Hid (PV (w3.alloc (.cells #[.int .i64 d0, .int .i64 n0, .slice a3 y0.length c3] 28)) a3 y0) := pv3.below (one_block _ _); clear bv2 pv3 hb1 hb2 hb3 x0 x1 x2) | (at_builtin; refine wp_app_bv rfl _ _ rfl (w3.alloc (.cells #[.int .i64 d0, .int .i64 n0, .slice a3 y0.length c3] 28)).heap.size (.slice (some ⟨w3.heap.size + 1, 0, none⟩) 0 0) [] bs rfl (own0 w3 _) (some a2) c2 (by rw [HML.out]; rfl) (BVV.out.below (one_block _ _)) (fun h => by cases h) (by have := HML.out; simp; omega) (by simp) ?_; intro v4 w4 ho4 hb4; rw [List.nil_append] at ho4; have K4 : Hid (Below (w3.alloc (.cells #[.int .i64 d0, .int .i64 n0, .slice a3 y0.length c3] 28)).heap.size (w3.alloc (.cells #[.int .i64 d0, .int .i64 n0, .slice a3 y0.length c3] 28)) w4) := (one_block _ _).trans hb4; clear hb4; clear A1) | (at_builtin; refine wp_app_bv rfl _ _ rfl (w3.alloc (.cells #[.int .i64 d0, .int .i64 n0, .slice a3 y0.length c3] 28)).heap.size _ bs [0] rfl (ho4.below (one_block _ _)) (some ⟨w4.heap.size, 0, none⟩) 1 rfl (bv_lit w4 [0] (by intro z hz; simp at hz; omega) (0, 0)) (fun h => by cases h) (by have := HML.out; simp; omega) (bt K4.out (one_block _ _)).size ?_; intro v5 w5 ho5 hb5; obtain ⟨a5, c5, rfl, n5, bv5⟩ := own_sl ho5 (AllB.append HAB.out (by intro z hz; simp at hz; omega)) (show (bs ++ [0]).length = M + 1 + 1 by rw [List.length_append, HML.out]; rfl); have K5 : Hid (Below (w3.alloc (.cells #[.int .i64 d0, .int .i64 n0, .slice a3 y0.length c3] 28)).heap.size (w3.alloc (.cells #[.int .i64 d0, .int .i64 n0, .slice a3 y0.length c3] 28)) w5) := (bt K4.out (one_block _ _)).trans hb5; clear ho4 hb5) | (go_at_call 12; refine (G2.out _ _ _ bv5 n5).mono ?_; rintro e w6 ⟨a6, l6, c6, rfl, hb6⟩; clear G2; have K6 : Hid (Below (w3.alloc (.cells #[.int .i64 d0, .int .i64 n0, .slice a3 y0.length c3] 28)).heap.size (w3.alloc (.cells #[.int .i64 d0, .int .i64 n0, .slice a3 y0.length c3] 28)) (w6.alloc (.cells #[.int .i64 0, .int .i64 0, .slice a6 l6 c6] 28))) := bt (bt K5.out hb6) (one_block _ _)) | (go_at_call 12; refine (G3.out _ _ _ (BVV.out.below K6.out)).mono ?_; rintro e w7 ⟨a7, l7, c7, rfl, hb7⟩; clear G3; have K7 : Hid (Below (w3.alloc (.cells #[.int .i64 d0, .int .i64 n0, .slice a3 y0.length c3] 28)).heap.size (w3.alloc (.cells #[.int .i64 d0, .int .i64 n0, .slice a3 y0.length c3] 28)) (w7.alloc (.cells #[.int .i64 0, .int .i64 0, .slice a7 l7 c7] 28))) := bt (bt K6.out hb7) (one_block _ _); obtain ⟨x0, x1, x2⟩ := CL.out _ (bt HV.out K7.out); obtain ⟨m0, m1, m2⟩ := box3' K7.out) | (go_at_call 17; refine (SM.out _ _ _ (bt HV.out K7.out) (PVV.out.below K7.out)).mono ?_; rintro e w8 ⟨rfl, hb8⟩; clear SM) | (go_at_call 9; refine (awake_any _).mono ?_; rintro e w9 ⟨rfl, hb9⟩))
  go_ret
  exact ⟨rfl, bt HB0.out (bt (bt (bt HV.out K7.out) hb8) hb9)⟩
set_option maxHeartbeats 2000000 in
theorem walk_bad (d0 n0 : Int) (a0 : Option Addr) (len0 cap0 : Nat) (y0 : List PR) (w : World) (w0 : Prs w a0 len0 cap0 y0) (hl : lightB y0 100 = true) (hE : checkE d0 n0 y0 ≠ 0) :
    Calls Try.prog 7 #[bkv d0 n0 a0 len0 cap0] w fun e w' => e = .returned (.bool true) ∧ Below w.heap.size w w' := by
  obtain ⟨rfl, hp, hn, hcl, hcap, _, _⟩ := w0
  obtain ⟨hlen, hL⟩ := light_of hl
  obtain ⟨W0, hW0⟩ : ∃ W0, W0 = w.alloc (.cells #[.int .i64 d0, .int .i64 n0, .slice a0 y0.length cap0] 24) := ⟨_, rfl⟩
  have HB0 : Hid (Below w.heap.size w W0) := by rw [hW0]; exact one_block _ _
  have CL : Hid (∀ W, Below W0.heap.size W0 W → W.cell? ⟨w.heap.size, 0, none⟩ = some (.int .i64 d0) ∧ W.cell? ⟨w.heap.size, 1, none⟩ = some (.int .i64 n0) ∧ W.cell? ⟨w.heap.size, 2, none⟩ = some (.slice a0 y0.length cap0)) := fun W hW => by
    rw [hW0] at hW
    exact ⟨(hW.cell (p := ⟨w.heap.size, 0, none⟩) (by simp)).trans (by go_simp), (hW.cell (p := ⟨w.heap.size, 1, none⟩) (by simp)).trans (by go_simp), (hW.cell (p := ⟨w.heap.size, 2, none⟩) (by simp)).trans (by go_simp)⟩
  have LT : Hid (Calls Try.prog 8 #[.slice a0 y0.length cap0, .int .i64 100] W0 fun e w' => e = .returned (.bool true) ∧ Below W0.heap.size W0 w') := by
    have := light_any a0 cap0 100 y0 W0 (hp.below HB0.out) (by decide)
    rw [hl] at this
    exact this
  have PT : Hid (∀ W, Below W0.heap.size W0 W → Calls Try.prog 10 #[.agg #[.int .i64 d0, .int .i64 n0, .slice a0 y0.length cap0]] W fun e w' => e = .returned (.tuple #[.slice none 0 0, .int .i64 (checkE d0 n0 y0)]) ∧ Below W.heap.size W w') := fun W hW => put_bad d0 n0 a0 cap0 y0 W ((hp.below HB0.out).below hW) (by omega) hL hE
  generalize checkE d0 n0 y0 = E at *
  have hb : (E == 0) = false := by simpa using hE
  have HW0 : Hid (W0 = w.alloc (.cells #[.int .i64 d0, .int .i64 n0, .slice a0 y0.length cap0] 24)) := hW0
  unfold bkv
  clear hW0 hp
  go_enter Try.func7, Try.ntmps7
  go_wp2_with (first | (go_at_call 8; rw [← HW0.out]; refine LT.out.mono ?_; rintro e w1 ⟨rfl, hb1⟩; clear LT; obtain ⟨x0, x1, x2⟩ := CL.out _ hb1) | (go_at_call 10; refine (PT.out _ hb1).mono ?_; rintro e w2 ⟨rfl, hb2⟩; clear PT) | (go_at_call 9; refine (awake_any _).mono ?_; rintro e w9 ⟨rfl, hb9⟩))
  go_ret
  exact ⟨rfl, bt HB0.out (bt (bt hb1 hb2) hb9)⟩
set_option maxHeartbeats 2000000 in
theorem walk_dark (d0 n0 : Int) (a0 : Option Addr) (len0 cap0 : Nat) (y0 : List PR) (w : World) (w0 : Prs w a0 len0 cap0 y0) (hl : lightB y0 100 = false) :
    Calls Try.prog 7 #[bkv d0 n0 a0 len0 cap0] w fun e w' => e = .returned (.bool true) ∧ Below w.heap.size w w' := by
  obtain ⟨rfl, hp, hn, hcl, hcap, _, _⟩ := w0
  obtain ⟨W0, hW0⟩ : ∃ W0, W0 = w.alloc (.cells #[.int .i64 d0, .int .i64 n0, .slice a0 y0.length cap0] 24) := ⟨_, rfl⟩
  have HB0 : Hid (Below w.heap.size w W0) := by rw [hW0]; exact one_block _ _
  have LT : Hid (Calls Try.prog 8 #[.slice a0 y0.length cap0, .int .i64 100] W0 fun e w' => e = .returned (.bool false) ∧ Below W0.heap.size W0 w') := by
    have := light_any a0 cap0 100 y0 W0 (hp.below HB0.out) (by decide)
    rw [hl] at this
    exact this
  have HW0 : Hid (W0 = w.alloc (.cells #[.int .i64 d0, .int .i64 n0, .slice a0 y0.length cap0] 24)) := hW0
  unfold bkv
  clear hW0 hp
  go_enter Try.func7, Try.ntmps7
  go_wp2_with (first | (go_at_call 8; rw [← HW0.out]; refine LT.out.mono ?_; rintro e w1 ⟨rfl, hb1⟩; clear LT) | (go_at_call 9; refine (awake_any _).mono ?_; rintro e w9 ⟨rfl, hb9⟩))
  go_ret
  exact ⟨rfl, bt HB0.out (bt hb1 hb9)⟩
theorem walk (d0 n0 : Int) (a0 : Option Addr) (len0 cap0 : Nat) (y0 : List PR) (w : World) (w0 : Prs w a0 len0 cap0 y0) :
    Calls Try.prog 7 #[bkv d0 n0 a0 len0 cap0] w fun e w' => e = .returned (.bool true) ∧ Below w.heap.size w w' := by
  cases hl : lightB y0 100
  · exact walk_dark d0 n0 a0 len0 cap0 y0 w w0 hl
  · by_cases hE : checkE d0 n0 y0 = 0
    · exact walk_good d0 n0 a0 len0 cap0 y0 w w0 hl (fine_of hE)
    · exact walk_bad d0 n0 a0 len0 cap0 y0 w w0 hl hE
set_option maxRecDepth 100000 in
theorem lifted (os : Os) (started : os.Started) (H : Type) (enc : TypeId × Value → H) :
    ReturnsInHanded {} Try.checked os 7 .any (Rows.bucketBackSpec.pre6 enc Try.prog Try.f7 Rows.bucketBackRow.domain false) (Rows.bucketBackSpec.post enc Try.prog Try.f7 false true false false) := by
  refine returnsInHanded_of_change (C := Try.checked) own started (by kernel_rfl) Try.func7
    (ChangeSpec.witness6 (enc := enc) (C := Try.checked) false ⟨#[], #[.agg #[.int .i64 0, .int .i64 0, .slice none 0 0]], []⟩ 8 (by kernel_rfl) (by kernel_rfl) (by kernel_rfl) (by kernel_rfl)) ?_
  intro W base args ds gs before hval0 hW hcnd _
  have hval : ∀ (j : Nat) t v, Try.f7.params[j]? = some t → args[j]? = some v → Value.okWide Try.prog W .any base t v := hval0
  have hW' := hW
  obtain ⟨p, q, hA0, hV, rfl, hfz, hnd⟩ := hW
  have hA : DataW.TrodAll enc Try.prog W 0 (fun _ => true) true Try.f7.params.toList args.toList ds p := hA0
  rw [Try.params7] at hA hval
  obtain ⟨v0, vs0, d'0, ds0, q0, r'0, hargs, rfl, rfl, h0, r0⟩ := trodAll_cons hA
  obtain ⟨rfl, rfl, rfl⟩ := trodAll_nil r0
  obtain rfl : args = #[v0] := by cases args; simp_all
  obtain ⟨rfl, rfl⟩ := trodVars_none hV
  have k0 := h0
  have lt0 : ∀ x ∈ q0, x.block < W.heap.size := by obtain ⟨m, hm⟩ := k0; exact DataW.trod_lt m _ _ _ hm
  obtain ⟨d0, n0, a0, len0, cap0, y0, rfl, w0⟩ := open_b (hval 0 24 v0 rfl rfl) h0
  clear hA0 hval0
  refine (walk d0 n0 a0 len0 cap0 y0 W w0).mono fun e W' ⟨he, bel⟩ => ?_
  subst he
  exact ⟨_, rfl, _, _, _, [], _, [], hW', trodAll_mk1 (shut_bool Try.underlying4 _), (trodAll_cons_mk (Below.trod laidOut (by kernel_rfl) (of_decide_eq_true (by kernel_rfl)) k0 bel lt0) trodAll_mk0), rfl, bel.frame _, fun h => by cases h⟩

theorem over : Rows.bucketBackRow.holds Try.pinned (OpenSpec.ofChange Rows.bucketBackSpec) :=
  OpenClaim.holds_of_wide 7 Try.f7 rfl rfl rfl rfl rfl rfl rfl ⟨rfl, rfl, rfl, rfl, rfl⟩ rfl rfl rfl rfl rfl (by kernel_rfl) Try.func7 (by kernel_rfl)
    (of_decide_eq_true (by kernel_rfl)) (by unfold Func.isWrapper; first | (rw [if_pos (by decide +kernel)]; kernel_rfl) | (rw [if_neg (by decide +kernel)]; exact ⟨rfl, rfl⟩))
    (fun os started H enc _ => lifted os started H enc)
end Go.Proofs.Ytnnndkpmlpbpcaa.bucketBack

namespace Go.Proofs.Ytnnndkpmlpbpcaa
theorem bucketBack_holds : Rows.BucketBackSaid := bucketBack.over
#print axioms bucketBack_holds
end Go.Proofs.Ytnnndkpmlpbpcaa
