/- For every two directories and every key the call DirLooks of the statements returns true and its arguments read as they did: no condition. -/
import Derived.Test.YtophkfbdhejmcaaRows
import Derived.Test.YtophkfbdhejmcaaArg
import Derived.Test.YtophkfbdhejmcaaPu
import Derived.WalkKit
import Derived.ProofKit
import Derived.OpenShut
import Derived.ShutString
import Derived.ChangeOld
import Derived.Below
namespace Go.Proofs.Ytophkfbdhejmcaa.dirLooks
open Go.ChangeShapes Go.WideShapes Go.ChangeAt Go.RowKit
set_option linter.unusedVariables false
set_option linter.unusedSimpArgs false
set_option maxRecDepth 20000

theorem own : ownKnob Try.prog.godebug = none := by kernel_rfl
theorem laidOut : laidOutB Try.prog = true := by kernel_rfl
set_option maxHeartbeats 1600000 in
theorem walk_a (d0 : Int) (a0 : Option Addr) (len0 cap0 : Nat) (y0 : List Int) (d1 : Int) (a1 : Option Addr) (len1 cap1 : Nat) (y1 : List Int) (s2 : ByteArray) (w : World) (w0 : Sli w a0 len0 cap0 y0 ∧ WfI d0) (w1 : Sli w a1 len1 cap1 y1 ∧ WfI d1) (w2 : s2.size ≤ maxLen) (h : 300 < len0) : Calls Try.prog 3 #[dv d0 a0 len0 cap0, dv d1 a1 len1 cap1, .string s2] w fun e w' => e = .returned (.bool true) ∧ Below w.heap.size w w' := by
  have HA := awake_any
  obtain ⟨⟨rfl, hiv, hn, hc, hm, hwf⟩, hd0⟩ := w0
  obtain ⟨⟨rfl, hiv1, hn1, hc1, hm1, hwf1⟩, hd1⟩ := w1
  unfold dv
  have h1 : decide ((300 : Int) < (y0.length : Int)) = true := by simp; omega
  unfold maxLen at w2
  go_enter Try.func3, Try.ntmps3
  go_wp2_with (first | (go_at_call 8; refine (HA _).mono ?_; rintro e wz ⟨rfl, bz⟩; clear HA))
  go_ret
  exact ⟨rfl, bt (two_blocks _ _ _) bz⟩
set_option maxHeartbeats 1600000 in
theorem walk_b (d0 : Int) (a0 : Option Addr) (len0 cap0 : Nat) (y0 : List Int) (d1 : Int) (a1 : Option Addr) (len1 cap1 : Nat) (y1 : List Int) (s2 : ByteArray) (w : World) (w0 : Sli w a0 len0 cap0 y0 ∧ WfI d0) (w1 : Sli w a1 len1 cap1 y1 ∧ WfI d1) (w2 : s2.size ≤ maxLen) (h : ¬ 300 < len0) (h2 : 300 < len1) : Calls Try.prog 3 #[dv d0 a0 len0 cap0, dv d1 a1 len1 cap1, .string s2] w fun e w' => e = .returned (.bool true) ∧ Below w.heap.size w w' := by
  have HA := awake_any
  obtain ⟨⟨rfl, hiv, hn, hc, hm, hwf⟩, hd0⟩ := w0
  obtain ⟨⟨rfl, hiv1, hn1, hc1, hm1, hwf1⟩, hd1⟩ := w1
  unfold dv
  have h1 : decide ((300 : Int) < (y0.length : Int)) = false := by simp; omega
  have h4 : decide ((300 : Int) < (y1.length : Int)) = true := by simp; omega
  unfold maxLen at w2
  go_enter Try.func3, Try.ntmps3
  go_wp2_with (first | (go_at_call 8; refine (HA _).mono ?_; rintro e wz ⟨rfl, bz⟩; clear HA))
  go_ret
  exact ⟨rfl, bt (two_blocks _ _ _) bz⟩
set_option maxHeartbeats 1600000 in
theorem walk_c (d0 : Int) (a0 : Option Addr) (len0 cap0 : Nat) (y0 : List Int) (d1 : Int) (a1 : Option Addr) (len1 cap1 : Nat) (y1 : List Int) (s2 : ByteArray) (w : World) (w0 : Sli w a0 len0 cap0 y0 ∧ WfI d0) (w1 : Sli w a1 len1 cap1 y1 ∧ WfI d1) (w2 : s2.size ≤ maxLen) (h : ¬ 300 < len0) (h2 : ¬ 300 < len1) (h3 : 300 < s2.size) : Calls Try.prog 3 #[dv d0 a0 len0 cap0, dv d1 a1 len1 cap1, .string s2] w fun e w' => e = .returned (.bool true) ∧ Below w.heap.size w w' := by
  have HA := awake_any
  obtain ⟨⟨rfl, hiv, hn, hc, hm, hwf⟩, hd0⟩ := w0
  obtain ⟨⟨rfl, hiv1, hn1, hc1, hm1, hwf1⟩, hd1⟩ := w1
  unfold dv
  have h1 : decide ((300 : Int) < (y0.length : Int)) = false := by simp; omega
  have h4 : decide ((300 : Int) < (y1.length : Int)) = false := by simp; omega
  have h5 : decide ((300 : Int) < (s2.size : Int)) = true := by simp; omega
  unfold maxLen at w2
  go_enter Try.func3, Try.ntmps3
  go_wp2_with (first | (go_at_call 8; refine (HA _).mono ?_; rintro e wz ⟨rfl, bz⟩; clear HA))
  go_ret
  exact ⟨rfl, bt (two_blocks _ _ _) bz⟩
theorem boxes2 {w W : World} {t t' : Nat} {x y x' y' : Value} (hb : Below ((w.alloc (.cells #[x, y] t)).alloc (.cells #[x', y'] t')).heap.size ((w.alloc (.cells #[x, y] t)).alloc (.cells #[x', y'] t')) W) :
    W.cell? ⟨w.heap.size, 0, none⟩ = some x ∧ W.cell? ⟨w.heap.size, 1, none⟩ = some y ∧ W.cell? ⟨w.heap.size + 1, 0, none⟩ = some x' ∧ W.cell? ⟨w.heap.size + 1, 1, none⟩ = some y' :=
  ⟨(hb.cell (p := ⟨w.heap.size, 0, none⟩) (by simp; omega)).trans (by go_simp), (hb.cell (p := ⟨w.heap.size, 1, none⟩) (by simp; omega)).trans (by go_simp), (hb.cell (p := ⟨w.heap.size + 1, 0, none⟩) (by simp)).trans (by go_simp), (hb.cell (p := ⟨w.heap.size + 1, 1, none⟩) (by simp)).trans (by go_simp)⟩
set_option maxHeartbeats 12800000 in
theorem walk_d (d0 : Int) (a0 : Option Addr) (len0 cap0 : Nat) (y0 : List Int) (d1 : Int) (a1 : Option Addr) (len1 cap1 : Nat) (y1 : List Int) (s2 : ByteArray) (w : World) (w0 : Sli w a0 len0 cap0 y0 ∧ WfI d0) (w1 : Sli w a1 len1 cap1 y1 ∧ WfI d1) (w2 : s2.size ≤ maxLen) (h : ¬ 300 < len0) (h2 : ¬ 300 < len1) (h3 : ¬ 300 < s2.size) : Calls Try.prog 3 #[dv d0 a0 len0 cap0, dv d1 a1 len1 cap1, .string s2] w fun e w' => e = .returned (.bool true) ∧ Below w.heap.size w w' := by
  have HA := awake_any
  obtain ⟨⟨rfl, hiv, hn, hc, hm, hwf⟩, hd0⟩ := w0
  obtain ⟨⟨rfl, hiv1, hn1, hc1, hm1, hwf1⟩, hd1⟩ := w1
  unfold dv
  have h1 : decide ((300 : Int) < (y0.length : Int)) = false := by simp; omega
  have h4 : decide ((300 : Int) < (y1.length : Int)) = false := by simp; omega
  have h5 : decide ((300 : Int) < (s2.size : Int)) = false := by simp; omega
  have HW2 : Hid (s2.size ≤ maxLen) := w2
  have HIV : Hid (∀ W, Below w.heap.size w W → IV W a0 y0) := fun W hW => hiv.below hW
  have HIV1 : Hid (∀ W, Below w.heap.size w W → IV W a1 y1) := fun W hW => hiv1.below hW
  have HC : Hid (∀ W, Below w.heap.size w W → Calls Try.prog 11 #[.agg #[.int .i64 d0, .slice a0 y0.length cap0]] W fun e w' => e = .returned (.int .i64 (chkE d0 y0)) ∧ Below W.heap.size W w') := fun W hW => check_any d0 a0 cap0 y0 W (HIV.out W hW) (by omega)
  have HC2 : Hid (∀ W, Below w.heap.size w W → Calls Try.prog 12 #[.agg #[.int .i64 d0, .slice a0 y0.length cap0]] W fun e w' => e = .returned (.int .i64 (chkE d0 y0)) ∧ Below W.heap.size W w') := fun W hW => rcheck_any d0 a0 cap0 y0 W (HIV.out W hW) (by omega)
  have HT : Hid (∀ W, Below w.heap.size w W → Calls Try.prog 13 #[.agg #[.int .i64 d0, .slice a0 y0.length cap0], .string s2] W fun e w' => e = .returned (.int .i64 (atS d0 y0 s2)) ∧ Below W.heap.size W w') := fun W hW => at_any d0 a0 cap0 y0 s2 W (HIV.out W hW) (by omega) HW2.out
  have HT2 : Hid (∀ W, Below w.heap.size w W → Calls Try.prog 14 #[.agg #[.int .i64 d0, .slice a0 y0.length cap0], .string s2] W fun e w' => e = .returned (.int .i64 (atS d0 y0 s2)) ∧ Below W.heap.size W w') := fun W hW => rat_any d0 a0 cap0 y0 s2 W (HIV.out W hW) (by omega) HW2.out
  have HP : Hid (∀ W, Below w.heap.size w W → Calls Try.prog 15 #[.agg #[.int .i64 d0, .slice a0 y0.length cap0], .string s2] W fun e w' => e = .returned (.int .i64 (placeS d0 y0 s2)) ∧ Below W.heap.size W w') := fun W hW => place_any d0 a0 cap0 y0 s2 W (HIV.out W hW) (by omega) HW2.out
  have HP2 : Hid (∀ W, Below w.heap.size w W → Calls Try.prog 16 #[.agg #[.int .i64 d0, .slice a0 y0.length cap0], .string s2] W fun e w' => e = .returned (.int .i64 (placeS d0 y0 s2)) ∧ Below W.heap.size W w') := fun W hW => rplace_any d0 a0 cap0 y0 s2 W (HIV.out W hW) (by omega) HW2.out
  have HS : Hid (∀ W, Below w.heap.size w W → Calls Try.prog 20 #[.agg #[.int .i64 d0, .slice a0 y0.length cap0], .agg #[.int .i64 d1, .slice a1 y1.length cap1]] W fun e w' => e = .returned (.bool (sameD d0 y0 d1 y1)) ∧ Below W.heap.size W w') := fun W hW => same_any d0 d1 a0 a1 cap0 cap1 y0 y1 W (HIV.out W hW) (HIV1.out W hW) (by omega) (by omega)
  have HS2 : Hid (∀ W, Below w.heap.size w W → Calls Try.prog 21 #[.agg #[.int .i64 d0, .slice a0 y0.length cap0], .agg #[.int .i64 d1, .slice a1 y1.length cap1]] W fun e w' => e = .returned (.bool (sameD d0 y0 d1 y1)) ∧ Below W.heap.size W w') := fun W hW => rsame_any d0 d1 a0 a1 cap0 cap1 y0 y1 W (HIV.out W hW) (HIV1.out W hW) (by omega) (by omega)
  have HI : Hid (∀ W, Below w.heap.size w W → Calls Try.prog 18 #[.agg #[.int .i64 d0, .slice a0 y0.length cap0]] W fun e w' => ∃ a c, e = .returned (.slice a (idsK y0 y0.length).length c) ∧ IV w' a (idsK y0 y0.length) ∧ Below W.heap.size W w') := fun W hW => by
    refine (ids_any d0 a0 cap0 y0 W (HIV.out W hW) (by omega) hwf).mono ?_
    rintro e w' ⟨v, rfl, h1, h2⟩
    obtain ⟨a', c', rfl, _, hv, _, _⟩ := h1.view
    exact ⟨a', c', rfl, hv.iv, h2⟩
  have HI2 : Hid (∀ W, Below w.heap.size w W → Calls Try.prog 19 #[.agg #[.int .i64 d0, .slice a0 y0.length cap0]] W fun e w' => ∃ a c, e = .returned (.slice a (idsK y0 y0.length).length c) ∧ IV w' a (idsK y0 y0.length) ∧ Below W.heap.size W w') := fun W hW => by
    refine (rids_any d0 a0 cap0 y0 W (HIV.out W hW) (by omega)).mono ?_
    rintro e w' ⟨v, rfl, h1, h2⟩
    obtain ⟨a', c', rfl, _, hv, _, _⟩ := h1.view
    exact ⟨a', c', rfl, hv.iv, h2⟩
  have HPT : Hid (∀ W, Below w.heap.size w W → Calls Try.prog 9 #[.agg #[.int .i64 d0, .slice a0 y0.length cap0]] W fun e w' => ∃ v, e = .returned (.tuple #[v, .int .i64 (putDE d0 y0)]) ∧ Own w' W.heap.size v (putDL d0 y0) ∧ Below W.heap.size W w') := fun W hW => put_d d0 a0 cap0 y0 W (HIV.out W hW) (by omega)
  have HPT2 : Hid (∀ W, Below w.heap.size w W → Calls Try.prog 10 #[.agg #[.int .i64 d0, .slice a0 y0.length cap0]] W fun e w' => ∃ v, e = .returned (.tuple #[v, .int .i64 (putDE d0 y0)]) ∧ Own w' W.heap.size v (putDL d0 y0) ∧ Below W.heap.size W w') := fun W hW => rput_d d0 a0 cap0 y0 W (HIV.out W hW) (by omega)
  have HAL : Hid (AllB (putDL d0 y0)) := putDL_all d0 y0
  have hil := idsK_len y0 y0.length
  have HSI : Hid (∀ W a b c e, IV W a (idsK y0 y0.length) → IV W b (idsK y0 y0.length) → Calls Try.prog 17 #[.slice a (idsK y0 y0.length).length c, .slice b (idsK y0 y0.length).length e] W fun e w' => e = .returned (.bool true) ∧ Below W.heap.size W w') := fun W a b c e h1 h2 => by
    have := sints_any a b c e _ _ W h1 h2 (by omega) (by omega)
    rw [decide_eq_true rfl] at this
    exact this
  clear hiv hiv1 hwf hwf1 hc hm hc1 hm1 w2 hd0 hd1 hn hn1
  generalize idsK y0 y0.length = is at *
  generalize chkE d0 y0 = ce at *
  generalize atS d0 y0 s2 = az at *
  generalize placeS d0 y0 s2 = pz at *
  generalize sameD d0 y0 d1 y1 = sb at *
  generalize putDL d0 y0 = pl at *
  generalize putDE d0 y0 = pe at *
  obtain ⟨W0, hW0⟩ : ∃ W0, W0 = ((w.alloc (.cells #[.int .i64 d0, .slice a0 y0.length cap0] 24)).alloc (.cells #[.int .i64 d1, .slice a1 y1.length cap1] 24)).alloc (.cells #[.int .i64 d0, .slice a0 y0.length cap0] 26) := ⟨_, rfl⟩
  have HB0 : Hid (Below w.heap.size w W0) := by rw [hW0]; exact three_blocks _ _ _ _
  have HS0 : Hid (W0.heap.size = w.heap.size + 1 + 1 + 1) := by rw [hW0]; simp [Hid]
  have SL : Hid (∀ W, Below W0.heap.size W0 W → (W.cell? ⟨w.heap.size, 0, none⟩ = some (.int .i64 d0) ∧ W.cell? ⟨w.heap.size, 1, none⟩ = some (.slice a0 y0.length cap0)) ∧ (W.cell? ⟨w.heap.size + 1, 0, none⟩ = some (.int .i64 d1) ∧ W.cell? ⟨w.heap.size + 1, 1, none⟩ = some (.slice a1 y1.length cap1)) ∧ (W.cell? ⟨w.heap.size + 1 + 1, 0, none⟩ = some (.int .i64 d0) ∧ W.cell? ⟨w.heap.size + 1 + 1, 1, none⟩ = some (.slice a0 y0.length cap0))) := fun W hW => by
    rw [hW0] at hW
    have k := boxes2 (bt (one_block _ _) hW)
    refine ⟨⟨k.1, k.2.1⟩, k.2.2, ?_⟩
    have k2 := box2 hW
    simpa using k2
  go_enter Try.func3, Try.ntmps3
  go_wp2_with (first
    | (go_at_call 9; rw [← hW0]; refine (HPT.out _ HB0.out).mono ?_; rintro e w3 ⟨v3, rfl, o3, b3⟩; clear hW0 HPT; obtain ⟨⟨c0, c1⟩, _, _⟩ := SL.out _ b3)
    | (go_at_call 10; refine (HPT2.out _ (bt HB0.out b3)).mono ?_; rintro e w4 ⟨v4, rfl, o4, b4⟩; clear HPT2))
  have BB : Hid (Below W0.heap.size W0 w4) := bt b3 b4
  obtain ⟨a3, c3, rfl, n3, bv3, _, _⟩ := (o3.below b4).slice HAL.out
  obtain ⟨a4, c4, rfl, n4, bv4, _, _⟩ := o4.slice HAL.out
  have HV3 : Hid (∀ W, Below w4.heap.size w4 W → (convert 27 9 (.slice a3 pl.length c3)).run Try.prog W = .ok (.string (strOfNums pl)) W) := fun W hW => conv_bv (bv3.below hW) n3
  have HV4 : Hid (∀ W, Below w4.heap.size w4 W → (convert 27 9 (.slice a4 pl.length c4)).run Try.prog W = .ok (.string (strOfNums pl)) W) := fun W hW => conv_bv (bv4.below hW) n4
  have SM : Hid (∀ W, Below w4.heap.size w4 W → Below W0.heap.size W0 W) := fun W hW => bt BB.out hW
  have HBW : Hid (∀ W, Below w4.heap.size w4 W → Below w.heap.size w W) := fun W hW => bt HB0.out (bt BB.out hW)
  clear c0 c1 o3 o4 b3 b4 bv3 bv4 HB0
  generalize strOfNums pl = sx at *
  generalize pl.length = pn at *
  refine wp_region_noPanic ?_
  refine name_ops ?_
  intro O QQ HO HQ
  refine wp_region_held_drew (S := fun W => Below w4.heap.size w4 W) (by kernel_rfl) (Below.refl _ _).drew (fun hS => ?_)
  rw [show O.size = 55 by rw [HO.out]; rfl]
  refine wpAnyH_take (i := 0) (v := .agg #[.int .i64 d0, .slice a0 y0.length cap0]) (by rw [HO.out]; simp only [List.getElem?_toArray, List.getElem?_cons_succ, List.getElem?_cons_zero]; rfl) (by rw [HO.out]; kernel_rfl) (by rw [HO.out]; kernel_rfl) (by rw [HO.out]; kernel_rfl) (by rw [HQ.out]; exact fun _ _ _ h => h) (Or.inl ⟨by first | rfl | (rw [HO.out]; kernel_rfl), ?_⟩) hS ?_
  · intro w' hSw
    have q := (SL.out _ (SM.out _ hSw)).2.2
    obtain ⟨q0, q1⟩ := q
    go_simp
  try simp only [Act.put, List.setIfInBounds_toArray, List.set_cons_zero, List.set_cons_succ]
  refine wpAnyH_take (i := 2) (v := .agg #[.int .i64 d0, .slice a0 y0.length cap0]) (by rw [HO.out]; simp only [List.getElem?_toArray, List.getElem?_cons_succ, List.getElem?_cons_zero]; rfl) (by rw [HO.out]; kernel_rfl) (by rw [HO.out]; kernel_rfl) (by rw [HO.out]; kernel_rfl) (by rw [HQ.out]; exact fun _ _ _ h => h) (Or.inl ⟨by first | rfl | (rw [HO.out]; kernel_rfl), ?_⟩) hS ?_
  · intro w' hSw
    have q := (SL.out _ (SM.out _ hSw)).1
    obtain ⟨q0, q1⟩ := q
    go_simp
  try simp only [Act.put, List.setIfInBounds_toArray, List.set_cons_zero, List.set_cons_succ]
  refine wpAnyH_one (i := 1) (x := 40) (R := fun v _ => v = .int .i64 ce) (by rw [HO.out]; simp only [List.getElem?_toArray, List.getElem?_cons_succ, List.getElem?_cons_zero]; rfl) (by rw [HO.out]; kernel_rfl) hS ?_ ?_
  · intro K hK
    simp only [Act.put, List.setIfInBounds_toArray, List.set_cons_zero, List.set_cons_succ] at hK
    unfold Steps
    rw [if_pos (by rw [HO.out]; kernel_rfl)]
    go_simp
    refine (HC.out _ (HBW.out _ hS)).mono ?_
    rintro e w9 ⟨rfl, hb9⟩
    exact hK _ _ rfl hb9
  rintro v9 w9 hv9 hb9 hS9
  obtain rfl := hv9
  clear hb9
  replace hS := hS9
  clear hS9
  try simp only [Act.put, List.setIfInBounds_toArray, List.set_cons_zero, List.set_cons_succ]
  refine wpAnyH_one (i := 3) (x := 42) (R := fun v _ => v = .int .i64 ce) (by rw [HO.out]; simp only [List.getElem?_toArray, List.getElem?_cons_succ, List.getElem?_cons_zero]; rfl) (by rw [HO.out]; kernel_rfl) hS ?_ ?_
  · intro K hK
    simp only [Act.put, List.setIfInBounds_toArray, List.set_cons_zero, List.set_cons_succ] at hK
    unfold Steps
    rw [if_pos (by rw [HO.out]; kernel_rfl)]
    go_simp
    refine (HC2.out _ (HBW.out _ hS)).mono ?_
    rintro e w9 ⟨rfl, hb9⟩
    exact hK _ _ rfl hb9
  rintro v9 w9 hv9 hb9 hS9
  obtain rfl := hv9
  clear hb9
  replace hS := hS9
  clear hS9
  try simp only [Act.put, List.setIfInBounds_toArray, List.set_cons_zero, List.set_cons_succ]
  refine wpAnyH_take (i := 4) (v := .bool true) (by rw [HO.out]; simp only [List.getElem?_toArray, List.getElem?_cons_succ, List.getElem?_cons_zero]; rfl) (by rw [HO.out]; kernel_rfl) (by rw [HO.out]; kernel_rfl) (by rw [HO.out]; kernel_rfl) (by rw [HQ.out]; exact fun _ _ _ h => h) (Or.inl ⟨by first | rfl | (rw [HO.out]; kernel_rfl), ?_⟩) hS ?_
  · intro w' hSw
    go_simp
  try simp only [Act.put, List.setIfInBounds_toArray, List.set_cons_zero, List.set_cons_succ]
  refine wpAnyH_take (i := 5) (v := .bool true) (by rw [HO.out]; simp only [List.getElem?_toArray, List.getElem?_cons_succ, List.getElem?_cons_zero]; rfl) (by rw [HO.out]; kernel_rfl) (by rw [HO.out]; kernel_rfl) (by rw [HO.out]; kernel_rfl) (by rw [HQ.out]; exact fun _ _ _ h => h) (Or.inl ⟨by first | rfl | (rw [HO.out]; kernel_rfl), ?_⟩) hS ?_
  · intro w' hSw
    go_simp
  try simp only [Act.put, List.setIfInBounds_toArray, List.set_cons_zero, List.set_cons_succ]
  refine wpAnyH_take (i := 6) (v := .agg #[.int .i64 d0, .slice a0 y0.length cap0]) (by rw [HO.out]; simp only [List.getElem?_toArray, List.getElem?_cons_succ, List.getElem?_cons_zero]; rfl) (by rw [HO.out]; kernel_rfl) (by rw [HO.out]; kernel_rfl) (by rw [HO.out]; kernel_rfl) (by rw [HQ.out]; exact fun _ _ _ h => h) (Or.inl ⟨by first | rfl | (rw [HO.out]; kernel_rfl), ?_⟩) hS ?_
  · intro w' hSw
    have q := (SL.out _ (SM.out _ hSw)).2.2
    obtain ⟨q0, q1⟩ := q
    go_simp
  try simp only [Act.put, List.setIfInBounds_toArray, List.set_cons_zero, List.set_cons_succ]
  refine wpAnyH_take (i := 7) (v := .string s2) (by rw [HO.out]; simp only [List.getElem?_toArray, List.getElem?_cons_succ, List.getElem?_cons_zero]; rfl) (by rw [HO.out]; kernel_rfl) (by rw [HO.out]; kernel_rfl) (by rw [HO.out]; kernel_rfl) (by rw [HQ.out]; exact fun _ _ _ h => h) (Or.inl ⟨by first | rfl | (rw [HO.out]; kernel_rfl), ?_⟩) hS ?_
  · intro w' hSw
    go_simp
  try simp only [Act.put, List.setIfInBounds_toArray, List.set_cons_zero, List.set_cons_succ]
  refine wpAnyH_take (i := 9) (v := .agg #[.int .i64 d0, .slice a0 y0.length cap0]) (by rw [HO.out]; simp only [List.getElem?_toArray, List.getElem?_cons_succ, List.getElem?_cons_zero]; rfl) (by rw [HO.out]; kernel_rfl) (by rw [HO.out]; kernel_rfl) (by rw [HO.out]; kernel_rfl) (by rw [HQ.out]; exact fun _ _ _ h => h) (Or.inl ⟨by first | rfl | (rw [HO.out]; kernel_rfl), ?_⟩) hS ?_
  · intro w' hSw
    have q := (SL.out _ (SM.out _ hSw)).1
    obtain ⟨q0, q1⟩ := q
    go_simp
  try simp only [Act.put, List.setIfInBounds_toArray, List.set_cons_zero, List.set_cons_succ]
  refine wpAnyH_take (i := 10) (v := .string s2) (by rw [HO.out]; simp only [List.getElem?_toArray, List.getElem?_cons_succ, List.getElem?_cons_zero]; rfl) (by rw [HO.out]; kernel_rfl) (by rw [HO.out]; kernel_rfl) (by rw [HO.out]; kernel_rfl) (by rw [HQ.out]; exact fun _ _ _ h => h) (Or.inl ⟨by first | rfl | (rw [HO.out]; kernel_rfl), ?_⟩) hS ?_
  · intro w' hSw
    go_simp
  try simp only [Act.put, List.setIfInBounds_toArray, List.set_cons_zero, List.set_cons_succ]
  refine wpAnyH_one (i := 8) (x := 47) (R := fun v _ => v = .int .i64 az) (by rw [HO.out]; simp only [List.getElem?_toArray, List.getElem?_cons_succ, List.getElem?_cons_zero]; rfl) (by rw [HO.out]; kernel_rfl) hS ?_ ?_
  · intro K hK
    simp only [Act.put, List.setIfInBounds_toArray, List.set_cons_zero, List.set_cons_succ] at hK
    unfold Steps
    rw [if_pos (by rw [HO.out]; kernel_rfl)]
    go_simp
    refine (HT.out _ (HBW.out _ hS)).mono ?_
    rintro e w9 ⟨rfl, hb9⟩
    exact hK _ _ rfl hb9
  rintro v9 w9 hv9 hb9 hS9
  obtain rfl := hv9
  clear hb9
  replace hS := hS9
  clear hS9
  try simp only [Act.put, List.setIfInBounds_toArray, List.set_cons_zero, List.set_cons_succ]
  refine wpAnyH_one (i := 11) (x := 50) (R := fun v _ => v = .int .i64 az) (by rw [HO.out]; simp only [List.getElem?_toArray, List.getElem?_cons_succ, List.getElem?_cons_zero]; rfl) (by rw [HO.out]; kernel_rfl) hS ?_ ?_
  · intro K hK
    simp only [Act.put, List.setIfInBounds_toArray, List.set_cons_zero, List.set_cons_succ] at hK
    unfold Steps
    rw [if_pos (by rw [HO.out]; kernel_rfl)]
    go_simp
    refine (HT2.out _ (HBW.out _ hS)).mono ?_
    rintro e w9 ⟨rfl, hb9⟩
    exact hK _ _ rfl hb9
  rintro v9 w9 hv9 hb9 hS9
  obtain rfl := hv9
  clear hb9
  replace hS := hS9
  clear hS9
  try simp only [Act.put, List.setIfInBounds_toArray, List.set_cons_zero, List.set_cons_succ]
  refine wpAnyH_take (i := 12) (v := .bool true) (by rw [HO.out]; simp only [List.getElem?_toArray, List.getElem?_cons_succ, List.getElem?_cons_zero]; rfl) (by rw [HO.out]; kernel_rfl) (by rw [HO.out]; kernel_rfl) (by rw [HO.out]; kernel_rfl) (by rw [HQ.out]; exact fun _ _ _ h => h) (Or.inl ⟨by first | rfl | (rw [HO.out]; kernel_rfl), ?_⟩) hS ?_
  · intro w' hSw
    go_simp
  try simp only [Act.put, List.setIfInBounds_toArray, List.set_cons_zero, List.set_cons_succ]
  refine wpAnyH_take (i := 13) (v := .bool true) (by rw [HO.out]; simp only [List.getElem?_toArray, List.getElem?_cons_succ, List.getElem?_cons_zero]; rfl) (by rw [HO.out]; kernel_rfl) (by rw [HO.out]; kernel_rfl) (by rw [HO.out]; kernel_rfl) (by rw [HQ.out]; exact fun _ _ _ h => h) (Or.inl ⟨by first | rfl | (rw [HO.out]; kernel_rfl), ?_⟩) hS ?_
  · intro w' hSw
    go_simp
  try simp only [Act.put, List.setIfInBounds_toArray, List.set_cons_zero, List.set_cons_succ]
  refine wpAnyH_take (i := 14) (v := .bool true) (by rw [HO.out]; simp only [List.getElem?_toArray, List.getElem?_cons_succ, List.getElem?_cons_zero]; rfl) (by rw [HO.out]; kernel_rfl) (by rw [HO.out]; kernel_rfl) (by rw [HO.out]; kernel_rfl) (by rw [HQ.out]; exact fun _ _ _ h => h) (Or.inl ⟨by first | rfl | (rw [HO.out]; kernel_rfl), ?_⟩) hS ?_
  · intro w' hSw
    go_simp
  try simp only [Act.put, List.setIfInBounds_toArray, List.set_cons_zero, List.set_cons_succ]
  refine wpAnyH_take (i := 15) (v := .agg #[.int .i64 d0, .slice a0 y0.length cap0]) (by rw [HO.out]; simp only [List.getElem?_toArray, List.getElem?_cons_succ, List.getElem?_cons_zero]; rfl) (by rw [HO.out]; kernel_rfl) (by rw [HO.out]; kernel_rfl) (by rw [HO.out]; kernel_rfl) (by rw [HQ.out]; exact fun _ _ _ h => h) (Or.inl ⟨by first | rfl | (rw [HO.out]; kernel_rfl), ?_⟩) hS ?_
  · intro w' hSw
    have q := (SL.out _ (SM.out _ hSw)).2.2
    obtain ⟨q0, q1⟩ := q
    go_simp
  try simp only [Act.put, List.setIfInBounds_toArray, List.set_cons_zero, List.set_cons_succ]
  refine wpAnyH_take (i := 16) (v := .string s2) (by rw [HO.out]; simp only [List.getElem?_toArray, List.getElem?_cons_succ, List.getElem?_cons_zero]; rfl) (by rw [HO.out]; kernel_rfl) (by rw [HO.out]; kernel_rfl) (by rw [HO.out]; kernel_rfl) (by rw [HQ.out]; exact fun _ _ _ h => h) (Or.inl ⟨by first | rfl | (rw [HO.out]; kernel_rfl), ?_⟩) hS ?_
  · intro w' hSw
    go_simp
  try simp only [Act.put, List.setIfInBounds_toArray, List.set_cons_zero, List.set_cons_succ]
  refine wpAnyH_take (i := 18) (v := .agg #[.int .i64 d0, .slice a0 y0.length cap0]) (by rw [HO.out]; simp only [List.getElem?_toArray, List.getElem?_cons_succ, List.getElem?_cons_zero]; rfl) (by rw [HO.out]; kernel_rfl) (by rw [HO.out]; kernel_rfl) (by rw [HO.out]; kernel_rfl) (by rw [HQ.out]; exact fun _ _ _ h => h) (Or.inl ⟨by first | rfl | (rw [HO.out]; kernel_rfl), ?_⟩) hS ?_
  · intro w' hSw
    have q := (SL.out _ (SM.out _ hSw)).1
    obtain ⟨q0, q1⟩ := q
    go_simp
  try simp only [Act.put, List.setIfInBounds_toArray, List.set_cons_zero, List.set_cons_succ]
  refine wpAnyH_take (i := 19) (v := .string s2) (by rw [HO.out]; simp only [List.getElem?_toArray, List.getElem?_cons_succ, List.getElem?_cons_zero]; rfl) (by rw [HO.out]; kernel_rfl) (by rw [HO.out]; kernel_rfl) (by rw [HO.out]; kernel_rfl) (by rw [HQ.out]; exact fun _ _ _ h => h) (Or.inl ⟨by first | rfl | (rw [HO.out]; kernel_rfl), ?_⟩) hS ?_
  · intro w' hSw
    go_simp
  try simp only [Act.put, List.setIfInBounds_toArray, List.set_cons_zero, List.set_cons_succ]
  refine wpAnyH_one (i := 17) (x := 56) (R := fun v _ => v = .int .i64 pz) (by rw [HO.out]; simp only [List.getElem?_toArray, List.getElem?_cons_succ, List.getElem?_cons_zero]; rfl) (by rw [HO.out]; kernel_rfl) hS ?_ ?_
  · intro K hK
    simp only [Act.put, List.setIfInBounds_toArray, List.set_cons_zero, List.set_cons_succ] at hK
    unfold Steps
    rw [if_pos (by rw [HO.out]; kernel_rfl)]
    go_simp
    refine (HP.out _ (HBW.out _ hS)).mono ?_
    rintro e w9 ⟨rfl, hb9⟩
    exact hK _ _ rfl hb9
  rintro v9 w9 hv9 hb9 hS9
  obtain rfl := hv9
  clear hb9
  replace hS := hS9
  clear hS9
  try simp only [Act.put, List.setIfInBounds_toArray, List.set_cons_zero, List.set_cons_succ]
  refine wpAnyH_one (i := 20) (x := 59) (R := fun v _ => v = .int .i64 pz) (by rw [HO.out]; simp only [List.getElem?_toArray, List.getElem?_cons_succ, List.getElem?_cons_zero]; rfl) (by rw [HO.out]; kernel_rfl) hS ?_ ?_
  · intro K hK
    simp only [Act.put, List.setIfInBounds_toArray, List.set_cons_zero, List.set_cons_succ] at hK
    unfold Steps
    rw [if_pos (by rw [HO.out]; kernel_rfl)]
    go_simp
    refine (HP2.out _ (HBW.out _ hS)).mono ?_
    rintro e w9 ⟨rfl, hb9⟩
    exact hK _ _ rfl hb9
  rintro v9 w9 hv9 hb9 hS9
  obtain rfl := hv9
  clear hb9
  replace hS := hS9
  clear hS9
  try simp only [Act.put, List.setIfInBounds_toArray, List.set_cons_zero, List.set_cons_succ]
  refine wpAnyH_take (i := 21) (v := .bool true) (by rw [HO.out]; simp only [List.getElem?_toArray, List.getElem?_cons_succ, List.getElem?_cons_zero]; rfl) (by rw [HO.out]; kernel_rfl) (by rw [HO.out]; kernel_rfl) (by rw [HO.out]; kernel_rfl) (by rw [HQ.out]; exact fun _ _ _ h => h) (Or.inl ⟨by first | rfl | (rw [HO.out]; kernel_rfl), ?_⟩) hS ?_
  · intro w' hSw
    go_simp
  try simp only [Act.put, List.setIfInBounds_toArray, List.set_cons_zero, List.set_cons_succ]
  refine wpAnyH_take (i := 22) (v := .bool true) (by rw [HO.out]; simp only [List.getElem?_toArray, List.getElem?_cons_succ, List.getElem?_cons_zero]; rfl) (by rw [HO.out]; kernel_rfl) (by rw [HO.out]; kernel_rfl) (by rw [HO.out]; kernel_rfl) (by rw [HQ.out]; exact fun _ _ _ h => h) (Or.inl ⟨by first | rfl | (rw [HO.out]; kernel_rfl), ?_⟩) hS ?_
  · intro w' hSw
    go_simp
  try simp only [Act.put, List.setIfInBounds_toArray, List.set_cons_zero, List.set_cons_succ]
  refine wpAnyH_take (i := 23) (v := .bool true) (by rw [HO.out]; simp only [List.getElem?_toArray, List.getElem?_cons_succ, List.getElem?_cons_zero]; rfl) (by rw [HO.out]; kernel_rfl) (by rw [HO.out]; kernel_rfl) (by rw [HO.out]; kernel_rfl) (by rw [HQ.out]; exact fun _ _ _ h => h) (Or.inl ⟨by first | rfl | (rw [HO.out]; kernel_rfl), ?_⟩) hS ?_
  · intro w' hSw
    go_simp
  try simp only [Act.put, List.setIfInBounds_toArray, List.set_cons_zero, List.set_cons_succ]
  refine wpAnyH_take (i := 24) (v := .agg #[.int .i64 d0, .slice a0 y0.length cap0]) (by rw [HO.out]; simp only [List.getElem?_toArray, List.getElem?_cons_succ, List.getElem?_cons_zero]; rfl) (by rw [HO.out]; kernel_rfl) (by rw [HO.out]; kernel_rfl) (by rw [HO.out]; kernel_rfl) (by rw [HQ.out]; exact fun _ _ _ h => h) (Or.inl ⟨by first | rfl | (rw [HO.out]; kernel_rfl), ?_⟩) hS ?_
  · intro w' hSw
    have q := (SL.out _ (SM.out _ hSw)).2.2
    obtain ⟨q0, q1⟩ := q
    go_simp
  try simp only [Act.put, List.setIfInBounds_toArray, List.set_cons_zero, List.set_cons_succ]
  refine wpAnyH_take (i := 26) (v := .agg #[.int .i64 d0, .slice a0 y0.length cap0]) (by rw [HO.out]; simp only [List.getElem?_toArray, List.getElem?_cons_succ, List.getElem?_cons_zero]; rfl) (by rw [HO.out]; kernel_rfl) (by rw [HO.out]; kernel_rfl) (by rw [HO.out]; kernel_rfl) (by rw [HQ.out]; exact fun _ _ _ h => h) (Or.inl ⟨by first | rfl | (rw [HO.out]; kernel_rfl), ?_⟩) hS ?_
  · intro w' hSw
    have q := (SL.out _ (SM.out _ hSw)).1
    obtain ⟨q0, q1⟩ := q
    go_simp
  try simp only [Act.put, List.setIfInBounds_toArray, List.set_cons_zero, List.set_cons_succ]
  refine wpAnyH_one (i := 25) (x := 64) (R := fun v W => ∃ a c, v = .slice a is.length c ∧ IV W a is) (by rw [HO.out]; simp only [List.getElem?_toArray, List.getElem?_cons_succ, List.getElem?_cons_zero]; rfl) (by rw [HO.out]; kernel_rfl) hS ?_ ?_
  · intro K hK
    simp only [Act.put, List.setIfInBounds_toArray, List.set_cons_zero, List.set_cons_succ] at hK
    unfold Steps
    rw [if_pos (by rw [HO.out]; kernel_rfl)]
    go_simp
    refine (HI.out _ (HBW.out _ hS)).mono ?_
    rintro e w9 ⟨a9, c9, rfl, iv9, hb9⟩
    exact hK _ _ ⟨a9, c9, rfl, iv9⟩ hb9
  rintro v9 w5 hv9 hb9 hS9
  obtain ⟨a5, c5, rfl, iv5⟩ := hv9
  clear hb9
  replace hS := hS9
  clear hS9
  try simp only [Act.put, List.setIfInBounds_toArray, List.set_cons_zero, List.set_cons_succ]
  refine wpAnyH_one (i := 27) (x := 66) (R := fun v W => ∃ a c, v = .slice a is.length c ∧ IV W a is) (by rw [HO.out]; simp only [List.getElem?_toArray, List.getElem?_cons_succ, List.getElem?_cons_zero]; rfl) (by rw [HO.out]; kernel_rfl) hS ?_ ?_
  · intro K hK
    simp only [Act.put, List.setIfInBounds_toArray, List.set_cons_zero, List.set_cons_succ] at hK
    unfold Steps
    rw [if_pos (by rw [HO.out]; kernel_rfl)]
    go_simp
    refine (HI2.out _ (HBW.out _ hS)).mono ?_
    rintro e w9 ⟨a9, c9, rfl, iv9, hb9⟩
    exact hK _ _ ⟨a9, c9, rfl, iv9⟩ hb9
  rintro v9 w6 hv9 hb9 hS9
  obtain ⟨a6, c6, rfl, iv6⟩ := hv9
  replace iv5 := iv5.below hb9
  clear hb9
  replace hS := hS9
  clear hS9
  try simp only [Act.put, List.setIfInBounds_toArray, List.set_cons_zero, List.set_cons_succ]
  refine wpAnyH_one (i := 28) (x := 67) (R := fun v _ => v = .bool true) (by rw [HO.out]; simp only [List.getElem?_toArray, List.getElem?_cons_succ, List.getElem?_cons_zero]; rfl) (by rw [HO.out]; kernel_rfl) hS ?_ ?_
  · intro K hK
    simp only [Act.put, List.setIfInBounds_toArray, List.set_cons_zero, List.set_cons_succ] at hK
    unfold Steps
    rw [if_pos (by rw [HO.out]; kernel_rfl)]
    go_simp
    refine (HSI.out _ a5 a6 c5 c6 iv5 iv6).mono ?_
    rintro e w9 ⟨rfl, hb9⟩
    exact hK _ _ rfl hb9
  rintro v9 w9 hv9 hb9 hS9
  obtain rfl := hv9
  clear hb9
  replace hS := hS9
  clear hS9
  try simp only [Act.put, List.setIfInBounds_toArray, List.set_cons_zero, List.set_cons_succ]
  clear iv5 iv6
  refine wpAnyH_take (i := 29) (v := .bool true) (by rw [HO.out]; simp only [List.getElem?_toArray, List.getElem?_cons_succ, List.getElem?_cons_zero]; rfl) (by rw [HO.out]; kernel_rfl) (by rw [HO.out]; kernel_rfl) (by rw [HO.out]; kernel_rfl) (by rw [HQ.out]; exact fun _ _ _ h => h) (Or.inl ⟨by first | rfl | (rw [HO.out]; kernel_rfl), ?_⟩) hS ?_
  · intro w' hSw
    go_simp
  try simp only [Act.put, List.setIfInBounds_toArray, List.set_cons_zero, List.set_cons_succ]
  refine wpAnyH_take (i := 30) (v := .bool true) (by rw [HO.out]; simp only [List.getElem?_toArray, List.getElem?_cons_succ, List.getElem?_cons_zero]; rfl) (by rw [HO.out]; kernel_rfl) (by rw [HO.out]; kernel_rfl) (by rw [HO.out]; kernel_rfl) (by rw [HQ.out]; exact fun _ _ _ h => h) (Or.inl ⟨by first | rfl | (rw [HO.out]; kernel_rfl), ?_⟩) hS ?_
  · intro w' hSw
    go_simp
  try simp only [Act.put, List.setIfInBounds_toArray, List.set_cons_zero, List.set_cons_succ]
  refine wpAnyH_take (i := 31) (v := .slice a3 pn c3) (by rw [HO.out]; simp only [List.getElem?_toArray, List.getElem?_cons_succ, List.getElem?_cons_zero]; rfl) (by rw [HO.out]; kernel_rfl) (by rw [HO.out]; kernel_rfl) (by rw [HO.out]; kernel_rfl) (by rw [HQ.out]; exact fun _ _ _ h => h) (Or.inl ⟨by first | rfl | (rw [HO.out]; kernel_rfl), ?_⟩) hS ?_
  · intro w' hSw
    go_simp
  try simp only [Act.put, List.setIfInBounds_toArray, List.set_cons_zero, List.set_cons_succ]
  refine wpAnyH_take (i := 32) (v := .string sx) (by rw [HO.out]; simp only [List.getElem?_toArray, List.getElem?_cons_succ, List.getElem?_cons_zero]; rfl) (by rw [HO.out]; kernel_rfl) (by rw [HO.out]; kernel_rfl) (by rw [HO.out]; kernel_rfl) (by rw [HQ.out]; exact fun _ _ _ h => h) (Or.inl ⟨by first | rfl | (rw [HO.out]; kernel_rfl), ?_⟩) hS ?_
  · intro w' hSw
    have q := HV3.out _ hSw
    go_simp
  try simp only [Act.put, List.setIfInBounds_toArray, List.set_cons_zero, List.set_cons_succ]
  refine wpAnyH_take (i := 33) (v := .slice a4 pn c4) (by rw [HO.out]; simp only [List.getElem?_toArray, List.getElem?_cons_succ, List.getElem?_cons_zero]; rfl) (by rw [HO.out]; kernel_rfl) (by rw [HO.out]; kernel_rfl) (by rw [HO.out]; kernel_rfl) (by rw [HQ.out]; exact fun _ _ _ h => h) (Or.inl ⟨by first | rfl | (rw [HO.out]; kernel_rfl), ?_⟩) hS ?_
  · intro w' hSw
    go_simp
  try simp only [Act.put, List.setIfInBounds_toArray, List.set_cons_zero, List.set_cons_succ]
  refine wpAnyH_take (i := 34) (v := .string sx) (by rw [HO.out]; simp only [List.getElem?_toArray, List.getElem?_cons_succ, List.getElem?_cons_zero]; rfl) (by rw [HO.out]; kernel_rfl) (by rw [HO.out]; kernel_rfl) (by rw [HO.out]; kernel_rfl) (by rw [HQ.out]; exact fun _ _ _ h => h) (Or.inl ⟨by first | rfl | (rw [HO.out]; kernel_rfl), ?_⟩) hS ?_
  · intro w' hSw
    have q := HV4.out _ hSw
    go_simp
  try simp only [Act.put, List.setIfInBounds_toArray, List.set_cons_zero, List.set_cons_succ]
  refine wpAnyH_take (i := 35) (v := .bool true) (by rw [HO.out]; simp only [List.getElem?_toArray, List.getElem?_cons_succ, List.getElem?_cons_zero]; rfl) (by rw [HO.out]; kernel_rfl) (by rw [HO.out]; kernel_rfl) (by rw [HO.out]; kernel_rfl) (by rw [HQ.out]; exact fun _ _ _ h => h) (Or.inl ⟨by first | rfl | (rw [HO.out]; kernel_rfl), ?_⟩) hS ?_
  · intro w' hSw
    go_simp
  try simp only [Act.put, List.setIfInBounds_toArray, List.set_cons_zero, List.set_cons_succ]
  refine wpAnyH_take (i := 36) (v := .bool true) (by rw [HO.out]; simp only [List.getElem?_toArray, List.getElem?_cons_succ, List.getElem?_cons_zero]; rfl) (by rw [HO.out]; kernel_rfl) (by rw [HO.out]; kernel_rfl) (by rw [HO.out]; kernel_rfl) (by rw [HQ.out]; exact fun _ _ _ h => h) (Or.inl ⟨by first | rfl | (rw [HO.out]; kernel_rfl), ?_⟩) hS ?_
  · intro w' hSw
    go_simp
  try simp only [Act.put, List.setIfInBounds_toArray, List.set_cons_zero, List.set_cons_succ]
  refine wpAnyH_take (i := 37) (v := .bool true) (by rw [HO.out]; simp only [List.getElem?_toArray, List.getElem?_cons_succ, List.getElem?_cons_zero]; rfl) (by rw [HO.out]; kernel_rfl) (by rw [HO.out]; kernel_rfl) (by rw [HO.out]; kernel_rfl) (by rw [HQ.out]; exact fun _ _ _ h => h) (Or.inl ⟨by first | rfl | (rw [HO.out]; kernel_rfl), ?_⟩) hS ?_
  · intro w' hSw
    go_simp
  try simp only [Act.put, List.setIfInBounds_toArray, List.set_cons_zero, List.set_cons_succ]
  refine wpAnyH_take (i := 38) (v := .int .i64 pe) (by rw [HO.out]; simp only [List.getElem?_toArray, List.getElem?_cons_succ, List.getElem?_cons_zero]; rfl) (by rw [HO.out]; kernel_rfl) (by rw [HO.out]; kernel_rfl) (by rw [HO.out]; kernel_rfl) (by rw [HQ.out]; exact fun _ _ _ h => h) (Or.inl ⟨by first | rfl | (rw [HO.out]; kernel_rfl), ?_⟩) hS ?_
  · intro w' hSw
    go_simp
  try simp only [Act.put, List.setIfInBounds_toArray, List.set_cons_zero, List.set_cons_succ]
  refine wpAnyH_take (i := 39) (v := .int .i64 pe) (by rw [HO.out]; simp only [List.getElem?_toArray, List.getElem?_cons_succ, List.getElem?_cons_zero]; rfl) (by rw [HO.out]; kernel_rfl) (by rw [HO.out]; kernel_rfl) (by rw [HO.out]; kernel_rfl) (by rw [HQ.out]; exact fun _ _ _ h => h) (Or.inl ⟨by first | rfl | (rw [HO.out]; kernel_rfl), ?_⟩) hS ?_
  · intro w' hSw
    go_simp
  try simp only [Act.put, List.setIfInBounds_toArray, List.set_cons_zero, List.set_cons_succ]
  refine wpAnyH_take (i := 40) (v := .bool true) (by rw [HO.out]; simp only [List.getElem?_toArray, List.getElem?_cons_succ, List.getElem?_cons_zero]; rfl) (by rw [HO.out]; kernel_rfl) (by rw [HO.out]; kernel_rfl) (by rw [HO.out]; kernel_rfl) (by rw [HQ.out]; exact fun _ _ _ h => h) (Or.inl ⟨by first | rfl | (rw [HO.out]; kernel_rfl), ?_⟩) hS ?_
  · intro w' hSw
    go_simp
  try simp only [Act.put, List.setIfInBounds_toArray, List.set_cons_zero, List.set_cons_succ]
  refine wpAnyH_take (i := 41) (v := .bool true) (by rw [HO.out]; simp only [List.getElem?_toArray, List.getElem?_cons_succ, List.getElem?_cons_zero]; rfl) (by rw [HO.out]; kernel_rfl) (by rw [HO.out]; kernel_rfl) (by rw [HO.out]; kernel_rfl) (by rw [HQ.out]; exact fun _ _ _ h => h) (Or.inl ⟨by first | rfl | (rw [HO.out]; kernel_rfl), ?_⟩) hS ?_
  · intro w' hSw
    go_simp
  try simp only [Act.put, List.setIfInBounds_toArray, List.set_cons_zero, List.set_cons_succ]
  refine wpAnyH_take (i := 42) (v := .bool true) (by rw [HO.out]; simp only [List.getElem?_toArray, List.getElem?_cons_succ, List.getElem?_cons_zero]; rfl) (by rw [HO.out]; kernel_rfl) (by rw [HO.out]; kernel_rfl) (by rw [HO.out]; kernel_rfl) (by rw [HQ.out]; exact fun _ _ _ h => h) (Or.inl ⟨by first | rfl | (rw [HO.out]; kernel_rfl), ?_⟩) hS ?_
  · intro w' hSw
    go_simp
  try simp only [Act.put, List.setIfInBounds_toArray, List.set_cons_zero, List.set_cons_succ]
  refine wpAnyH_take (i := 43) (v := .agg #[.int .i64 d0, .slice a0 y0.length cap0]) (by rw [HO.out]; simp only [List.getElem?_toArray, List.getElem?_cons_succ, List.getElem?_cons_zero]; rfl) (by rw [HO.out]; kernel_rfl) (by rw [HO.out]; kernel_rfl) (by rw [HO.out]; kernel_rfl) (by rw [HQ.out]; exact fun _ _ _ h => h) (Or.inl ⟨by first | rfl | (rw [HO.out]; kernel_rfl), ?_⟩) hS ?_
  · intro w' hSw
    have q := (SL.out _ (SM.out _ hSw)).2.2
    obtain ⟨q0, q1⟩ := q
    go_simp
  try simp only [Act.put, List.setIfInBounds_toArray, List.set_cons_zero, List.set_cons_succ]
  refine wpAnyH_take (i := 44) (v := .agg #[.int .i64 d1, .slice a1 y1.length cap1]) (by rw [HO.out]; simp only [List.getElem?_toArray, List.getElem?_cons_succ, List.getElem?_cons_zero]; rfl) (by rw [HO.out]; kernel_rfl) (by rw [HO.out]; kernel_rfl) (by rw [HO.out]; kernel_rfl) (by rw [HQ.out]; exact fun _ _ _ h => h) (Or.inl ⟨by first | rfl | (rw [HO.out]; kernel_rfl), ?_⟩) hS ?_
  · intro w' hSw
    have q := (SL.out _ (SM.out _ hSw)).2.1
    obtain ⟨q0, q1⟩ := q
    go_simp
  try simp only [Act.put, List.setIfInBounds_toArray, List.set_cons_zero, List.set_cons_succ]
  refine wpAnyH_take (i := 46) (v := .agg #[.int .i64 d0, .slice a0 y0.length cap0]) (by rw [HO.out]; simp only [List.getElem?_toArray, List.getElem?_cons_succ, List.getElem?_cons_zero]; rfl) (by rw [HO.out]; kernel_rfl) (by rw [HO.out]; kernel_rfl) (by rw [HO.out]; kernel_rfl) (by rw [HQ.out]; exact fun _ _ _ h => h) (Or.inl ⟨by first | rfl | (rw [HO.out]; kernel_rfl), ?_⟩) hS ?_
  · intro w' hSw
    have q := (SL.out _ (SM.out _ hSw)).1
    obtain ⟨q0, q1⟩ := q
    go_simp
  try simp only [Act.put, List.setIfInBounds_toArray, List.set_cons_zero, List.set_cons_succ]
  refine wpAnyH_take (i := 47) (v := .agg #[.int .i64 d1, .slice a1 y1.length cap1]) (by rw [HO.out]; simp only [List.getElem?_toArray, List.getElem?_cons_succ, List.getElem?_cons_zero]; rfl) (by rw [HO.out]; kernel_rfl) (by rw [HO.out]; kernel_rfl) (by rw [HO.out]; kernel_rfl) (by rw [HQ.out]; exact fun _ _ _ h => h) (Or.inl ⟨by first | rfl | (rw [HO.out]; kernel_rfl), ?_⟩) hS ?_
  · intro w' hSw
    have q := (SL.out _ (SM.out _ hSw)).2.1
    obtain ⟨q0, q1⟩ := q
    go_simp
  try simp only [Act.put, List.setIfInBounds_toArray, List.set_cons_zero, List.set_cons_succ]
  refine wpAnyH_one (i := 45) (x := 84) (R := fun v _ => v = .bool sb) (by rw [HO.out]; simp only [List.getElem?_toArray, List.getElem?_cons_succ, List.getElem?_cons_zero]; rfl) (by rw [HO.out]; kernel_rfl) hS ?_ ?_
  · intro K hK
    simp only [Act.put, List.setIfInBounds_toArray, List.set_cons_zero, List.set_cons_succ] at hK
    unfold Steps
    rw [if_pos (by rw [HO.out]; kernel_rfl)]
    go_simp
    refine (HS.out _ (HBW.out _ hS)).mono ?_
    rintro e w9 ⟨rfl, hb9⟩
    exact hK _ _ rfl hb9
  rintro v9 w9 hv9 hb9 hS9
  obtain rfl := hv9
  clear hb9
  replace hS := hS9
  clear hS9
  try simp only [Act.put, List.setIfInBounds_toArray, List.set_cons_zero, List.set_cons_succ]
  refine wpAnyH_one (i := 48) (x := 87) (R := fun v _ => v = .bool sb) (by rw [HO.out]; simp only [List.getElem?_toArray, List.getElem?_cons_succ, List.getElem?_cons_zero]; rfl) (by rw [HO.out]; kernel_rfl) hS ?_ ?_
  · intro K hK
    simp only [Act.put, List.setIfInBounds_toArray, List.set_cons_zero, List.set_cons_succ] at hK
    unfold Steps
    rw [if_pos (by rw [HO.out]; kernel_rfl)]
    go_simp
    refine (HS2.out _ (HBW.out _ hS)).mono ?_
    rintro e w9 ⟨rfl, hb9⟩
    exact hK _ _ rfl hb9
  rintro v9 w9 hv9 hb9 hS9
  obtain rfl := hv9
  clear hb9
  replace hS := hS9
  clear hS9
  try simp only [Act.put, List.setIfInBounds_toArray, List.set_cons_zero, List.set_cons_succ]
  refine wpAnyH_take (i := 49) (v := .bool true) (by rw [HO.out]; simp only [List.getElem?_toArray, List.getElem?_cons_succ, List.getElem?_cons_zero]; rfl) (by rw [HO.out]; kernel_rfl) (by rw [HO.out]; kernel_rfl) (by rw [HO.out]; kernel_rfl) (by rw [HQ.out]; exact fun _ _ _ h => h) (Or.inl ⟨by first | rfl | (rw [HO.out]; kernel_rfl), ?_⟩) hS ?_
  · intro w' hSw
    go_simp
  try simp only [Act.put, List.setIfInBounds_toArray, List.set_cons_zero, List.set_cons_succ]
  refine wpAnyH_take (i := 50) (v := .bool true) (by rw [HO.out]; simp only [List.getElem?_toArray, List.getElem?_cons_succ, List.getElem?_cons_zero]; rfl) (by rw [HO.out]; kernel_rfl) (by rw [HO.out]; kernel_rfl) (by rw [HO.out]; kernel_rfl) (by rw [HQ.out]; exact fun _ _ _ h => h) (Or.inl ⟨by first | rfl | (rw [HO.out]; kernel_rfl), ?_⟩) hS ?_
  · intro w' hSw
    go_simp
  try simp only [Act.put, List.setIfInBounds_toArray, List.set_cons_zero, List.set_cons_succ]
  refine wpAnyH_take (i := 51) (v := .bool true) (by rw [HO.out]; simp only [List.getElem?_toArray, List.getElem?_cons_succ, List.getElem?_cons_zero]; rfl) (by rw [HO.out]; kernel_rfl) (by rw [HO.out]; kernel_rfl) (by rw [HO.out]; kernel_rfl) (by rw [HQ.out]; exact fun _ _ _ h => h) (Or.inl ⟨by first | rfl | (rw [HO.out]; kernel_rfl), ?_⟩) hS ?_
  · intro w' hSw
    go_simp
  try simp only [Act.put, List.setIfInBounds_toArray, List.set_cons_zero, List.set_cons_succ]
  refine wpAnyH_one (i := 52) (x := 91) (R := fun v _ => v = .bool true) (by rw [HO.out]; simp only [List.getElem?_toArray, List.getElem?_cons_succ, List.getElem?_cons_zero]; rfl) (by rw [HO.out]; kernel_rfl) hS ?_ ?_
  · intro K hK
    simp only [Act.put, List.setIfInBounds_toArray, List.set_cons_zero, List.set_cons_succ] at hK
    unfold Steps
    rw [if_pos (by rw [HO.out]; kernel_rfl)]
    go_simp
    refine (HA _).mono ?_
    rintro e w9 ⟨rfl, hb9⟩
    exact hK _ _ rfl hb9
  rintro v9 w9 hv9 hb9 hS9
  obtain rfl := hv9
  clear hb9
  replace hS := hS9
  clear hS9
  try simp only [Act.put, List.setIfInBounds_toArray, List.set_cons_zero, List.set_cons_succ]
  refine wpAnyH_take (i := 53) (v := .bool true) (by rw [HO.out]; simp only [List.getElem?_toArray, List.getElem?_cons_succ, List.getElem?_cons_zero]; rfl) (by rw [HO.out]; kernel_rfl) (by rw [HO.out]; kernel_rfl) (by rw [HO.out]; kernel_rfl) (by rw [HQ.out]; exact fun _ _ _ h => h) (Or.inl ⟨by first | rfl | (rw [HO.out]; kernel_rfl), ?_⟩) hS ?_
  · intro w' hSw
    go_simp
  try simp only [Act.put, List.setIfInBounds_toArray, List.set_cons_zero, List.set_cons_succ]
  refine wpAnyH_take (i := 54) (v := .bool true) (by rw [HO.out]; simp only [List.getElem?_toArray, List.getElem?_cons_succ, List.getElem?_cons_zero]; rfl) (by rw [HO.out]; kernel_rfl) (by rw [HO.out]; kernel_rfl) (by rw [HO.out]; kernel_rfl) (by rw [HQ.out]; exact fun _ _ _ h => h) (Or.inl ⟨by first | rfl | (rw [HO.out]; kernel_rfl), ?_⟩) hS ?_
  · intro w' hSw
    go_simp
  try simp only [Act.put, List.setIfInBounds_toArray, List.set_cons_zero, List.set_cons_succ]
  refine wpAnyH_done (by rw [HO.out]; kernel_rfl) ?_ _
  rw [HQ.out]
  refine NoPanic.normal ?_
  go_wp2
  go_ret
  exact ⟨rfl, HBW.out _ hS⟩
theorem walk (d0 : Int) (a0 : Option Addr) (len0 cap0 : Nat) (y0 : List Int) (d1 : Int) (a1 : Option Addr) (len1 cap1 : Nat) (y1 : List Int) (s2 : ByteArray) (w : World) (w0 : Sli w a0 len0 cap0 y0 ∧ WfI d0) (w1 : Sli w a1 len1 cap1 y1 ∧ WfI d1) (w2 : s2.size ≤ maxLen) : Calls Try.prog 3 #[dv d0 a0 len0 cap0, dv d1 a1 len1 cap1, .string s2] w fun e w' => e = .returned (.bool true) ∧ Below w.heap.size w w' := by
  by_cases h : 300 < len0
  · exact walk_a d0 a0 len0 cap0 y0 d1 a1 len1 cap1 y1 s2 w w0 w1 w2 h
  · by_cases h2 : 300 < len1
    · exact walk_b d0 a0 len0 cap0 y0 d1 a1 len1 cap1 y1 s2 w w0 w1 w2 h h2
    · by_cases h3 : 300 < s2.size
      · exact walk_c d0 a0 len0 cap0 y0 d1 a1 len1 cap1 y1 s2 w w0 w1 w2 h h2 h3
      · exact walk_d d0 a0 len0 cap0 y0 d1 a1 len1 cap1 y1 s2 w w0 w1 w2 h h2 h3
set_option maxRecDepth 100000 in
theorem lifted (os : Os) (started : os.Started) (H : Type) (enc : TypeId × Value → H) :
    ReturnsInHanded {} Try.checked os 3 .any (Rows.dirLooksSpec.pre6 enc Try.prog Try.f3 Rows.dirLooksRow.domain false) (Rows.dirLooksSpec.post enc Try.prog Try.f3 false true false false) := by
  refine returnsInHanded_of_change (C := Try.checked) own started (by kernel_rfl) Try.func3
    (ChangeSpec.witness6 (enc := enc) (C := Try.checked) false ⟨#[], #[.agg #[.int .i64 0, .slice none 0 0], .agg #[.int .i64 0, .slice none 0 0], .string ByteArray.empty], []⟩ 8 (by kernel_rfl) (by kernel_rfl) (by kernel_rfl) (by kernel_rfl)) ?_
  intro W base args ds gs before hval0 hW hcnd _
  have hval : ∀ (j : Nat) t v, Try.f3.params[j]? = some t → args[j]? = some v → Value.okWide Try.prog W .any base t v := hval0
  have hW' := hW
  obtain ⟨p, q, hA0, hV, rfl, hfz, hnd⟩ := hW
  have hA : DataW.TrodAll enc Try.prog W 0 (fun _ => true) true Try.f3.params.toList args.toList ds p := hA0
  rw [Try.params3] at hA hval
  obtain ⟨v0, vs0, d'0, ds0, q0, r'0, hargs, rfl, rfl, h0, r0⟩ := trodAll_cons hA
  obtain ⟨v1, vs1, d'1, ds1, q1, r'1, rfl, rfl, rfl, h1, r1⟩ := trodAll_cons r0
  obtain ⟨v2, vs2, d'2, ds2, q2, r'2, rfl, rfl, rfl, h2, r2⟩ := trodAll_cons r1
  obtain ⟨rfl, rfl, rfl⟩ := trodAll_nil r2
  obtain rfl : args = #[v0, v1, v2] := by cases args; simp_all
  obtain ⟨rfl, rfl⟩ := trodVars_none hV
  have k0' := h0
  have lt0 : ∀ x ∈ q0, x.block < W.heap.size := by obtain ⟨m, hm⟩ := k0'; exact DataW.trod_lt m _ _ _ hm
  obtain ⟨d0, a0, len0, cap0, y0, rfl, w0⟩ := open_d (hval 0 24 v0 rfl rfl) h0
  have k1' := h1
  have lt1 : ∀ x ∈ q1, x.block < W.heap.size := by obtain ⟨m, hm⟩ := k1'; exact DataW.trod_lt m _ _ _ hm
  obtain ⟨d1, a1, len1, cap1, y1, rfl, w1⟩ := open_d (hval 1 24 v1 rfl rfl) h1
  obtain ⟨s2, rfl, rfl, rfl, w2⟩ := Go.ChangeMaps.open_string Try.underlying9 (hval 2 9 v2 rfl rfl) h2
  clear hA0 hval0
  refine (walk d0 a0 len0 cap0 y0 d1 a1 len1 cap1 y1 s2 W w0 w1 w2).mono fun e W' ⟨he, bel⟩ => ?_
  subst he
  exact ⟨_, rfl, _, _, _, [], _, [], hW', trodAll_mk1 (shut_bool Try.underlying4 _), (trodAll_cons_mk (Below.trod laidOut (by kernel_rfl) (of_decide_eq_true (by kernel_rfl)) k0' bel lt0) (trodAll_cons_mk (Below.trod laidOut (by kernel_rfl) (of_decide_eq_true (by kernel_rfl)) k1' bel lt1) (trodAll_cons_mk (Go.ChangeMaps.shut_string Try.underlying9 w2) trodAll_mk0))), rfl, bel.frame _, fun h => by cases h⟩

theorem over : Rows.dirLooksRow.holds Try.pinned (OpenSpec.ofChange Rows.dirLooksSpec) :=
  OpenClaim.holds_of_wide 3 Try.f3 rfl rfl rfl rfl rfl rfl rfl ⟨rfl, rfl, rfl, rfl, rfl⟩ rfl rfl rfl rfl rfl (by kernel_rfl) Try.func3 (by kernel_rfl)
    (of_decide_eq_true (by kernel_rfl)) (by unfold Func.isWrapper; first | (rw [if_pos (by decide +kernel)]; kernel_rfl) | (rw [if_neg (by decide +kernel)]; exact ⟨rfl, rfl⟩))
    (fun os started H enc _ => lifted os started H enc)
end Go.Proofs.Ytophkfbdhejmcaa.dirLooks

namespace Go.Proofs.Ytophkfbdhejmcaa
theorem dirLooks_holds : Rows.DirLooksSaid := dirLooks.over
#print axioms dirLooks_holds
end Go.Proofs.Ytophkfbdhejmcaa
