/- For every directory, whatever slots are set by and every bytes the call DirChanges of the statements returns true and its arguments read as they did: no condition. -/
import Derived.Test.YtophkfbdhejmcaaRows
import Derived.Test.YtophkfbdhejmcaaArg
import Derived.Test.YtophkfbdhejmcaaPu
import Derived.WalkKit
import Derived.ProofKit
import Derived.OpenShut
import Derived.ShutString
import Derived.ChangeOld
import Derived.Below
namespace Go.Proofs.Ytophkfbdhejmcaa.dirChanges
open Go.ChangeShapes Go.WideShapes Go.ChangeAt Go.RowKit
set_option linter.unusedVariables false
set_option linter.unusedSimpArgs false
set_option maxRecDepth 20000

theorem own : ownKnob Try.prog.godebug = none := by kernel_rfl
theorem laidOut : laidOutB Try.prog = true := by kernel_rfl
set_option maxHeartbeats 1600000 in
theorem walk_a (d0 : Int) (a0 : Option Addr) (len0 cap0 : Nat) (y0 : List Int) (p1 k1 i1 : Int) (a2 : Option Addr) (len2 cap2 : Nat) (y2 : List Int) (w : World) (w0 : Sli w a0 len0 cap0 y0 ∧ WfI d0) (w1 : WfI p1 ∧ WfI k1 ∧ WfI i1) (w2 : y2.length = len2 ∧ BV w a2 y2 ∧ (a2 = none → cap2 = 0) ∧ len2 ≤ cap2 ∧ cap2 ≤ 9223372036854775807) (h : 300 < len0) : Calls Try.prog 4 #[dv d0 a0 len0 cap0, hwv p1 k1 i1, .slice a2 len2 cap2] w fun e w' => e = .returned (.bool true) ∧ Below w.heap.size w w' := by
  have HA := awake_any
  obtain ⟨⟨rfl, hiv, hn, hc, hm, hwf⟩, hd0⟩ := w0
  obtain ⟨rfl, hbv, hn2, hc2, hm2⟩ := w2
  obtain ⟨wp1, wk1, wi1⟩ := w1
  unfold dv hwv
  unfold WfI at *
  have h1 : decide ((300 : Int) < (y0.length : Int)) = true := by simp; omega
  go_enter Try.func4, Try.ntmps4
  go_wp2_with (first | (go_at_call 8; refine (HA _).mono ?_; rintro e wz ⟨rfl, bz⟩; clear HA))
  go_ret
  exact ⟨rfl, bt (two_blocks _ _ _) bz⟩
set_option maxHeartbeats 1600000 in
theorem walk_b (d0 : Int) (a0 : Option Addr) (len0 cap0 : Nat) (y0 : List Int) (p1 k1 i1 : Int) (a2 : Option Addr) (len2 cap2 : Nat) (y2 : List Int) (w : World) (w0 : Sli w a0 len0 cap0 y0 ∧ WfI d0) (w1 : WfI p1 ∧ WfI k1 ∧ WfI i1) (w2 : y2.length = len2 ∧ BV w a2 y2 ∧ (a2 = none → cap2 = 0) ∧ len2 ≤ cap2 ∧ cap2 ≤ 9223372036854775807) (h : ¬ 300 < len0) (h2 : 600 < len2) : Calls Try.prog 4 #[dv d0 a0 len0 cap0, hwv p1 k1 i1, .slice a2 len2 cap2] w fun e w' => e = .returned (.bool true) ∧ Below w.heap.size w w' := by
  have HA := awake_any
  obtain ⟨⟨rfl, hiv, hn, hc, hm, hwf⟩, hd0⟩ := w0
  obtain ⟨rfl, hbv, hn2, hc2, hm2⟩ := w2
  obtain ⟨wp1, wk1, wi1⟩ := w1
  unfold dv hwv
  unfold WfI at *
  have h1 : decide ((300 : Int) < (y0.length : Int)) = false := by simp; omega
  have h4 : decide ((600 : Int) < (y2.length : Int)) = true := by simp; omega
  go_enter Try.func4, Try.ntmps4
  go_wp2_with (first | (go_at_call 8; refine (HA _).mono ?_; rintro e wz ⟨rfl, bz⟩; clear HA))
  go_ret
  exact ⟨rfl, bt (two_blocks _ _ _) bz⟩
theorem boxesH {w W : World} {x y x' y' z' : Value} (hb : Below ((w.alloc (.cells #[x, y] 24)).alloc (.cells #[x', y', z'] 44)).heap.size ((w.alloc (.cells #[x, y] 24)).alloc (.cells #[x', y', z'] 44)) W) :
    (W.cell? ⟨w.heap.size, 0, none⟩ = some x ∧ W.cell? ⟨w.heap.size, 1, none⟩ = some y) ∧ (W.cell? ⟨w.heap.size + 1, 0, none⟩ = some x' ∧ W.cell? ⟨w.heap.size + 1, 1, none⟩ = some y' ∧ W.cell? ⟨w.heap.size + 1, 2, none⟩ = some z') :=
  ⟨⟨(hb.cell (p := ⟨w.heap.size, 0, none⟩) (by simp; omega)).trans (by go_simp), (hb.cell (p := ⟨w.heap.size, 1, none⟩) (by simp; omega)).trans (by go_simp)⟩, (hb.cell (p := ⟨w.heap.size + 1, 0, none⟩) (by simp)).trans (by go_simp), (hb.cell (p := ⟨w.heap.size + 1, 1, none⟩) (by simp)).trans (by go_simp), (hb.cell (p := ⟨w.heap.size + 1, 2, none⟩) (by simp)).trans (by go_simp)⟩
set_option maxHeartbeats 12800000 in
theorem walk_c (d0 : Int) (a0 : Option Addr) (len0 cap0 : Nat) (y0 : List Int) (p1 k1 i1 : Int) (a2 : Option Addr) (len2 cap2 : Nat) (y2 : List Int) (w : World) (w0 : Sli w a0 len0 cap0 y0 ∧ WfI d0) (w1 : WfI p1 ∧ WfI k1 ∧ WfI i1) (w2 : y2.length = len2 ∧ BV w a2 y2 ∧ (a2 = none → cap2 = 0) ∧ len2 ≤ cap2 ∧ cap2 ≤ 9223372036854775807) (h : ¬ 300 < len0) (h2 : ¬ 600 < len2) (x0 : Addr) (hx0 : a0 = some x0) : Calls Try.prog 4 #[dv d0 a0 len0 cap0, hwv p1 k1 i1, .slice a2 len2 cap2] w fun e w' => e = .returned (.bool true) ∧ Below w.heap.size w w' := by
  have HX0 : Hid (a0 = some x0) := hx0
  clear hx0
  have HA := awake_any
  obtain ⟨⟨rfl, hiv, hn, hc, hm, hwf⟩, hd0⟩ := w0
  obtain ⟨rfl, hbv, hn2, hc2, hm2⟩ := w2
  obtain ⟨wp1, wk1, wi1⟩ := w1
  unfold dv hwv
  unfold WfI at *
  have h1 : decide ((300 : Int) < (y0.length : Int)) = false := by simp; omega
  have h4 : decide ((600 : Int) < (y2.length : Int)) = false := by simp; omega
  have HIV : Hid (∀ W, Below w.heap.size w W → IV W a0 y0) := fun W hW => hiv.below hW
  have HRAW : Hid (∀ W, Below w.heap.size w W → BV W a2 y2) := fun W hW => hbv.below hW
  have hdl : (dblL d0 y0).length ≤ 600 := by
    unfold dblL
    split
    · rw [tabL_len]; omega
    · omega
  have hhl : (hlvL d0 y0).length ≤ 300 := by
    unfold hlvL
    split
    · rw [tabL_len]; omega
    · omega
  have hsl : (setL d0 y0 p1 k1 i1).length ≤ 300 := by rw [setL_len]; omega
  have hgl : (gtL k1 y2).length ≤ 600 := by
    unfold gtL
    split
    · have := unL_len y2; omega
    · simp
  obtain ⟨W0, hW0⟩ : ∃ W0, W0 = (w.alloc (.cells #[.int .i64 d0, .slice a0 y0.length cap0] 24)).alloc (.cells #[.int .i64 p1, .int .i64 k1, .int .i64 i1] 44) := ⟨_, rfl⟩
  have HB0 : Hid (Below w.heap.size w W0) := by rw [hW0]; exact two_blocks _ _ _
  have HS0 : Hid (W0.heap.size = w.heap.size + 1 + 1) := by rw [hW0]; simp [Hid]
  have CL : Hid (∀ W, Below W0.heap.size W0 W → (W.cell? ⟨w.heap.size, 0, none⟩ = some (.int .i64 d0) ∧ W.cell? ⟨w.heap.size, 1, none⟩ = some (.slice a0 y0.length cap0)) ∧ (W.cell? ⟨w.heap.size + 1, 0, none⟩ = some (.int .i64 p1) ∧ W.cell? ⟨w.heap.size + 1, 1, none⟩ = some (.int .i64 k1) ∧ W.cell? ⟨w.heap.size + 1, 2, none⟩ = some (.int .i64 i1))) := fun W hW => by
    rw [hW0] at hW
    exact boxesH hW
  obtain ⟨i0, hi, hz0, hz1, hz2⟩ := info_parts Try.info3
  clear hiv hwf hc hm hd0 hbv hc2 hm2
  go_enter Try.func4, Try.ntmps4
  go_wp2
  rw [← hW0]
  clear hW0 h1 h4
  obtain rfl := HX0.out
  refine wp_region_noPanic ?_
  refine name_ops ?_
  intro O QQ HO HQ
  refine wp_region_held_drew (S := fun W => Below W0.heap.size W0 W) (by kernel_rfl) (Below.refl _ _).drew (fun hS => ?_)
  rw [show O.size = 9 by rw [HO.out]; rfl]
  refine wpAnyH_take (i := 0) (v := .pointer (some ⟨w.heap.size, 0, none⟩)) (by rw [HO.out]; simp only [List.getElem?_toArray, List.getElem?_cons_succ, List.getElem?_cons_zero]; rfl) (by rw [HO.out]; kernel_rfl) (by rw [HO.out]; kernel_rfl) (by rw [HO.out]; kernel_rfl) (by rw [HQ.out]; exact fun _ _ _ h => h) (Or.inl ⟨by first | rfl | (rw [HO.out]; kernel_rfl), ?_⟩) hS ?_
  · intro w' hSw
    go_simp
  try simp only [Act.put, List.setIfInBounds_toArray, List.set_cons_zero, List.set_cons_succ]
  refine wpAnyH_take (i := 1) (v := .int .i64 d0) (by rw [HO.out]; simp only [List.getElem?_toArray, List.getElem?_cons_succ, List.getElem?_cons_zero]; rfl) (by rw [HO.out]; kernel_rfl) (by rw [HO.out]; kernel_rfl) (by rw [HO.out]; kernel_rfl) (by rw [HQ.out]; exact fun _ _ _ h => h) (Or.inl ⟨by first | rfl | (rw [HO.out]; kernel_rfl), ?_⟩) hS ?_
  · intro w' hSw
    have q := (CL.out _ hSw).1
    obtain ⟨q0, q1⟩ := q
    go_simp
  try simp only [Act.put, List.setIfInBounds_toArray, List.set_cons_zero, List.set_cons_succ]
  refine wpAnyH_take (i := 2) (v := .slice none 0 0) (by rw [HO.out]; simp only [List.getElem?_toArray, List.getElem?_cons_succ, List.getElem?_cons_zero]; rfl) (by rw [HO.out]; kernel_rfl) (by rw [HO.out]; kernel_rfl) (by rw [HO.out]; kernel_rfl) (by rw [HQ.out]; exact fun _ _ _ h => h) (Or.inl ⟨by first | rfl | (rw [HO.out]; kernel_rfl), ?_⟩) hS ?_
  · intro w' hSw
    go_simp
  try simp only [Act.put, List.setIfInBounds_toArray, List.set_cons_zero, List.set_cons_succ]
  refine wpAnyH_take (i := 3) (v := .pointer (some ⟨w.heap.size, 1, none⟩)) (by rw [HO.out]; simp only [List.getElem?_toArray, List.getElem?_cons_succ, List.getElem?_cons_zero]; rfl) (by rw [HO.out]; kernel_rfl) (by rw [HO.out]; kernel_rfl) (by rw [HO.out]; kernel_rfl) (by rw [HQ.out]; exact fun _ _ _ h => h) (Or.inl ⟨by first | rfl | (rw [HO.out]; kernel_rfl), ?_⟩) hS ?_
  · intro w' hSw
    go_simp
  try simp only [Act.put, List.setIfInBounds_toArray, List.set_cons_zero, List.set_cons_succ]
  refine wpAnyH_take (i := 4) (v := .slice (some x0) y0.length cap0) (by rw [HO.out]; simp only [List.getElem?_toArray, List.getElem?_cons_succ, List.getElem?_cons_zero]; rfl) (by rw [HO.out]; kernel_rfl) (by rw [HO.out]; kernel_rfl) (by rw [HO.out]; kernel_rfl) (by rw [HQ.out]; exact fun _ _ _ h => h) (Or.inl ⟨by first | rfl | (rw [HO.out]; kernel_rfl), ?_⟩) hS ?_
  · intro w' hSw
    have q := (CL.out _ hSw).1
    obtain ⟨q0, q1⟩ := q
    go_simp
  try simp only [Act.put, List.setIfInBounds_toArray, List.set_cons_zero, List.set_cons_succ]
  refine wpAnyH_ready (rs := [5, 7]) (by rw [HO.out]; kernel_rfl) (by simp) ?_
  refine AllReadyH.cons (o := _) (by rw [HO.out]; simp only [List.getElem?_toArray, List.getElem?_cons_succ, List.getElem?_cons_zero]; rfl) (fun K5 hK5 => ?_) (AllReadyH.cons (o := _) (by rw [HO.out]; simp only [List.getElem?_toArray, List.getElem?_cons_succ, List.getElem?_cons_zero]; rfl) (fun K7 hK7 => ?_) AllReadyH.nil)
  · rw [if_pos (by rfl)]
    refine wp_append_own _ _ _ 22 rfl W0.heap.size 3 i0 (.int .i64 0) 1 8 Try.underlying22 hi hz0 hz1 hz2 rfl (by decide) (.slice none 0 0) 0 [] rfl (World.ownsRow_nil _ _ _ _) x0 y0.length cap0 (y0.map (Value.int .i64)) rfl (by simp) (HIV.out _ (bt HB0.out (Below.refl _ _).drew)).cells (i64row _) (by unfold maxLen; omega) (by omega) (by simp) ?_
    intro v2 w2 ho2 hg2 _
    have HG2 : Hid (Below W0.heap.size W0 w2) := (Below.refl _ _).drew.trans ((Below.refl W0.heap.size _).grown hg2 (by simp) (fun j hj => by cases hj))
    have HO2 : Hid (OwnI w2 W0.heap.size v2 y0) := (by simpa [OwnI, Hid] using ho2)
    clear ho2 hg2
    obtain ⟨ax, cx, rfl, nx, hvx, _, _⟩ := HO2.out.view
    refine hK5.out _ _ HG2.out (fun hS2 => ?_)
    try simp only [Act.put, List.setIfInBounds_toArray, List.set_cons_zero, List.set_cons_succ]
    refine wpAnyH_take (i := 6) (v := .agg #[.int .i64 d0, .slice ax y0.length cx]) (by rw [HO.out]; simp only [List.getElem?_toArray, List.getElem?_cons_succ, List.getElem?_cons_zero]; rfl) (by rw [HO.out]; kernel_rfl) (by rw [HO.out]; kernel_rfl) (by rw [HO.out]; kernel_rfl) (by rw [HQ.out]; exact fun _ _ _ h => h) (Or.inl ⟨by first | rfl | (rw [HO.out]; kernel_rfl), ?_⟩) hS2 ?_
    · intro w' hSw
      go_simp
    try simp only [Act.put, List.setIfInBounds_toArray, List.set_cons_zero, List.set_cons_succ]
    refine wpAnyH_ready (rs := [7]) (by rw [HO.out]; kernel_rfl) (by simp) ?_
    refine AllReadyH.cons (o := _) (by rw [HO.out]; simp only [List.getElem?_toArray, List.getElem?_cons_succ, List.getElem?_cons_zero]; rfl) (fun Ka hKa => ?_) AllReadyH.nil
    go_simp
    refine hKa.out _ _ (bt HG2.out (one_block _ _)) (fun hS3 => ?_)
    try simp only [Act.put, List.setIfInBounds_toArray, List.set_cons_zero, List.set_cons_succ]
    refine wpAnyH_ready (rs := [8]) (by rw [HO.out]; kernel_rfl) (by simp) ?_
    refine AllReadyH.cons (o := _) (by rw [HO.out]; simp only [List.getElem?_toArray, List.getElem?_cons_succ, List.getElem?_cons_zero]; rfl) (fun Kb hKb => ?_) AllReadyH.nil
    go_simp
    refine hKb.out _ _ (bt HG2.out (one_block _ _)) (fun hS4 => ?_)
    try simp only [Act.put, List.setIfInBounds_toArray, List.set_cons_zero, List.set_cons_succ]
    refine wpAnyH_done (by rw [HO.out]; kernel_rfl) ?_ _
    rw [HQ.out]
    refine NoPanic.normal ?_
    obtain ⟨W1, hW1⟩ : ∃ W1, W1 = w2.alloc (.cells #[.int .i64 d0, .slice ax y0.length cx] 26) := ⟨_, rfl⟩
    have HW1 : Hid (Below w.heap.size w W1) := by rw [hW1]; exact bt HB0.out (bt HG2.out (one_block _ _))
    have HVX : Hid (∀ W, Below W1.heap.size W1 W → IV W ax y0) := fun W hW => by rw [hW1] at hW; exact hvx.iv.below (bt (one_block _ _) hW)
    obtain ⟨bx, hbx⟩ : ∃ bx, bx = w2.heap.size := ⟨_, rfl⟩
    have KK : Hid (∀ W, Below W1.heap.size W1 W → (W.cell? ⟨w.heap.size, 0, none⟩ = some (.int .i64 d0) ∧ W.cell? ⟨w.heap.size, 1, none⟩ = some (.slice (some x0) y0.length cap0)) ∧ (W.cell? ⟨w.heap.size + 1, 0, none⟩ = some (.int .i64 p1) ∧ W.cell? ⟨w.heap.size + 1, 1, none⟩ = some (.int .i64 k1) ∧ W.cell? ⟨w.heap.size + 1, 2, none⟩ = some (.int .i64 i1)) ∧ (W.cell? ⟨bx, 0, none⟩ = some (.int .i64 d0) ∧ W.cell? ⟨bx, 1, none⟩ = some (.slice ax y0.length cx)) ∧ w.heap.size + 1 < W.heap.size ∧ bx < W.heap.size) := fun W hW => by
      rw [hW1] at hW
      have k := CL.out _ (bt HG2.out (bt (one_block _ _) hW))
      have kb := box2 hW
      rw [← hbx] at kb
      exact ⟨k.1, k.2, kb, (by have := World.block_lt_of_cell? _ _ k.2.1; simpa using this), (by have := World.block_lt_of_cell? _ _ kb.1; simpa using this)⟩
    try rw [← hW1]
    rw [← hbx]
    clear hW1 hbx hvx HO2 HG2 CL hS hS2 hS3 hS4 hKa hKb hK5 Ka Kb K5
    have HDX : Hid (∀ W, Below W1.heap.size W1 W → IV W ax y0) := HVX
    have HBW : Hid (∀ W, Below W1.heap.size W1 W → Below w.heap.size w W) := fun W hW => bt HW1.out hW
    obtain ⟨⟨cd0, cd1⟩, ⟨ch0, ch1, ch2⟩, ⟨cx0, cx1⟩, lh, lx⟩ := KK.out W1 (Below.refl _ _)
    have ld := Nat.lt_of_succ_lt lh
    have T0 : Hid (Below W1.heap.size W1 W1) := Below.refl _ _
    have C5 : Hid (∀ W, Below W1.heap.size W1 W → Calls Try.prog 22 #[.agg #[.int .i64 d0, .slice ax y0.length cx]] W fun e w' => ∃ a c, e = .returned (.tuple #[.agg #[.int .i64 (dblD d0 y0), .slice a (dblL d0 y0).length c], .bool (dblB d0 y0)]) ∧ IV w' a (dblL d0 y0) ∧ Below W.heap.size W w') := fun W hW => by
      refine (double_any d0 ax cx y0 W (HVX.out W hW) (by omega) nx).mono ?_
      rintro e w' ⟨v, rfl, ⟨a, c, rfl, h1, h2⟩, h3⟩
      exact ⟨a, c, rfl, h2, h3⟩
    have C6 : Hid (∀ W, Below W1.heap.size W1 W → Calls Try.prog 23 #[.agg #[.int .i64 d0, .slice (some x0) y0.length cap0]] W fun e w' => ∃ a c, e = .returned (.tuple #[.agg #[.int .i64 (dblD d0 y0), .slice a (dblL d0 y0).length c], .bool (dblB d0 y0)]) ∧ IV w' a (dblL d0 y0) ∧ Below W.heap.size W w') := fun W hW => by
      refine (rdouble_any d0 (some x0) cap0 y0 W (HIV.out W (HBW.out W hW)) (by omega) hn).mono ?_
      rintro e w' ⟨v, rfl, ⟨a, c, rfl, h1, h2⟩, h3⟩
      exact ⟨a, c, rfl, h2, h3⟩
    have C7 : Hid (∀ W, Below W1.heap.size W1 W → Calls Try.prog 24 #[.agg #[.int .i64 d0, .slice ax y0.length cx]] W fun e w' => ∃ a c, e = .returned (.tuple #[.agg #[.int .i64 (hlvD d0 y0), .slice a (hlvL d0 y0).length c], .bool (hlvB d0 y0)]) ∧ IV w' a (hlvL d0 y0) ∧ Below W.heap.size W w') := fun W hW => by
      refine (halve_any d0 ax cx y0 W (HVX.out W hW) (by omega) nx).mono ?_
      rintro e w' ⟨v, rfl, ⟨a, c, rfl, h1, h2⟩, h3⟩
      exact ⟨a, c, rfl, h2, h3⟩
    have C8 : Hid (∀ W, Below W1.heap.size W1 W → Calls Try.prog 25 #[.agg #[.int .i64 d0, .slice (some x0) y0.length cap0]] W fun e w' => ∃ a c, e = .returned (.tuple #[.agg #[.int .i64 (hlvD d0 y0), .slice a (hlvL d0 y0).length c], .bool (hlvB d0 y0)]) ∧ IV w' a (hlvL d0 y0) ∧ Below W.heap.size W w') := fun W hW => by
      refine (rhalve_any d0 (some x0) cap0 y0 W (HIV.out W (HBW.out W hW)) (by omega) hn).mono ?_
      rintro e w' ⟨v, rfl, ⟨a, c, rfl, h1, h2⟩, h3⟩
      exact ⟨a, c, rfl, h2, h3⟩
    have C9 : Hid (∀ W, Below W1.heap.size W1 W → Calls Try.prog 26 #[.agg #[.int .i64 d0, .slice ax y0.length cx], .int .i64 p1, .int .i64 k1, .int .i64 i1] W fun e w' => ∃ a c, e = .returned (.agg #[.int .i64 d0, .slice a (setL d0 y0 p1 k1 i1).length c]) ∧ IV w' a (setL d0 y0 p1 k1 i1) ∧ Below W.heap.size W w') := fun W hW => by
      refine (set_any d0 ax cx y0 p1 k1 i1 W (HVX.out W hW) (by omega) nx).mono ?_
      rintro e w' ⟨v, rfl, ⟨a, c, rfl, h1, h2⟩, h3⟩
      exact ⟨a, c, rfl, h2, h3⟩
    have C10 : Hid (∀ W, Below W1.heap.size W1 W → Calls Try.prog 27 #[.agg #[.int .i64 d0, .slice (some x0) y0.length cap0], .int .i64 p1, .int .i64 k1, .int .i64 i1] W fun e w' => ∃ a c, e = .returned (.agg #[.int .i64 d0, .slice a (setL d0 y0 p1 k1 i1).length c]) ∧ IV w' a (setL d0 y0 p1 k1 i1) ∧ Below W.heap.size W w') := fun W hW => by
      refine (rset_any d0 (some x0) cap0 y0 p1 k1 i1 W (HIV.out W (HBW.out W hW)) (by omega) hn).mono ?_
      rintro e w' ⟨v, rfl, ⟨a, c, rfl, h1, h2⟩, h3⟩
      exact ⟨a, c, rfl, h2, h3⟩
    have C11 : Hid (∀ W, Below W1.heap.size W1 W → Calls Try.prog 28 #[.int .i64 k1, .slice a2 y2.length cap2] W fun e w' => ∃ a c, e = .returned (.tuple #[.agg #[.int .i64 (gtD k1 y2), .slice a (gtL k1 y2).length c], .int .i64 (gtE k1 y2)]) ∧ IV w' a (gtL k1 y2) ∧ Below W.heap.size W w') := fun W hW => by
      refine (get_main k1 a2 cap2 y2 W (HRAW.out W (HBW.out W hW)) hn2 (by omega)).mono ?_
      rintro e w' ⟨v, rfl, ⟨a, c, rfl, h1, h2⟩, h3⟩
      exact ⟨a, c, rfl, h2, h3⟩
    have C12 : Hid (∀ W, Below W1.heap.size W1 W → Calls Try.prog 29 #[.int .i64 k1, .slice a2 y2.length cap2] W fun e w' => ∃ a c, e = .returned (.tuple #[.agg #[.int .i64 (gtD k1 y2), .slice a (gtL k1 y2).length c], .int .i64 (gtE k1 y2)]) ∧ IV w' a (gtL k1 y2) ∧ Below W.heap.size W w') := fun W hW => by
      refine (rget_main k1 a2 cap2 y2 W (HRAW.out W (HBW.out W hW)) hn2 (by omega)).mono ?_
      rintro e w' ⟨v, rfl, ⟨a, c, rfl, h1, h2⟩, h3⟩
      exact ⟨a, c, rfl, h2, h3⟩
    generalize dblD d0 y0 = dD at *
    generalize dblL d0 y0 = dL at *
    generalize dblB d0 y0 = dB at *
    generalize hlvD d0 y0 = hD at *
    generalize hlvL d0 y0 = hL at *
    generalize hlvB d0 y0 = hB at *
    generalize setL d0 y0 p1 k1 i1 = sL at *
    generalize gtD k1 y2 = gD at *
    generalize gtL k1 y2 = gL at *
    generalize gtE k1 y2 = gE at *
    go_wp2_with fail
    refine (C5.out W1 T0.out).mono ?_
    rintro e w5 ⟨a5', c5', rfl, iv5, b5⟩
    clear cd0 cd1 ch0 ch1 ch2 cx0 cx1 lh lx ld C5
    obtain ⟨⟨cd0, cd1⟩, ⟨ch0, ch1, ch2⟩, ⟨cx0, cx1⟩, lh, lx⟩ := KK.out w5 (bt T0.out b5)
    have ld := Nat.lt_of_succ_lt lh
    obtain ⟨X5, hX5⟩ : ∃ X, X = w5.alloc (.cells #[.int .i64 dD, .slice a5' dL.length c5'] 26) := ⟨_, rfl⟩
    have S5 : Hid (Below W1.heap.size W1 X5) := by rw [hX5]; exact bt b5 (one_block _ _)
    have T5 : Hid (Below W1.heap.size W1 X5) := bt T0.out S5.out
    have K5 : Hid (∀ W, Below X5.heap.size X5 W → W.cell? ⟨w5.heap.size, 0, none⟩ = some (.int .i64 dD) ∧ W.cell? ⟨w5.heap.size, 1, none⟩ = some (.slice a5' dL.length c5') ∧ w5.heap.size < W.heap.size) := fun W hW => by
      rw [hX5] at hW
      have hb := box2 hW
      exact ⟨hb.1, hb.2, (by have := World.block_lt_of_cell? _ _ hb.1; simpa using this)⟩
    have V5 : Hid (∀ W, Below X5.heap.size X5 W → IV W a5' dL) := fun W hW => by
      rw [hX5] at hW
      exact iv5.below (bt (one_block _ _) hW)
    clear iv5 b5
    go_wp2_with fail
    rw [← hX5]
    clear hX5
    refine (C6.out X5 T5.out).mono ?_
    rintro e w6 ⟨a6', c6', rfl, iv6, b6⟩
    clear cd0 cd1 ch0 ch1 ch2 cx0 cx1 lh lx ld C6
    obtain ⟨⟨cd0, cd1⟩, ⟨ch0, ch1, ch2⟩, ⟨cx0, cx1⟩, lh, lx⟩ := KK.out w6 (bt T5.out b6)
    have ld := Nat.lt_of_succ_lt lh
    obtain ⟨X6, hX6⟩ : ∃ X, X = w6.alloc (.cells #[.int .i64 dD, .slice a6' dL.length c6'] 24) := ⟨_, rfl⟩
    have S6 : Hid (Below X5.heap.size X5 X6) := by rw [hX6]; exact bt b6 (one_block _ _)
    have T6 : Hid (Below W1.heap.size W1 X6) := bt T5.out S6.out
    have K6 : Hid (∀ W, Below X6.heap.size X6 W → W.cell? ⟨w6.heap.size, 0, none⟩ = some (.int .i64 dD) ∧ W.cell? ⟨w6.heap.size, 1, none⟩ = some (.slice a6' dL.length c6') ∧ w6.heap.size < W.heap.size) := fun W hW => by
      rw [hX6] at hW
      have hb := box2 hW
      exact ⟨hb.1, hb.2, (by have := World.block_lt_of_cell? _ _ hb.1; simpa using this)⟩
    have V6 : Hid (∀ W, Below X6.heap.size X6 W → IV W a6' dL) := fun W hW => by
      rw [hX6] at hW
      exact iv6.below (bt (one_block _ _) hW)
    clear iv6 b6
    go_wp2_with fail
    rw [← hX6]
    clear hX6
    refine (C7.out X6 T6.out).mono ?_
    rintro e w7 ⟨a7', c7', rfl, iv7, b7⟩
    clear cd0 cd1 ch0 ch1 ch2 cx0 cx1 lh lx ld C7
    obtain ⟨⟨cd0, cd1⟩, ⟨ch0, ch1, ch2⟩, ⟨cx0, cx1⟩, lh, lx⟩ := KK.out w7 (bt T6.out b7)
    have ld := Nat.lt_of_succ_lt lh
    obtain ⟨X7, hX7⟩ : ∃ X, X = w7.alloc (.cells #[.int .i64 hD, .slice a7' hL.length c7'] 26) := ⟨_, rfl⟩
    have S7 : Hid (Below X6.heap.size X6 X7) := by rw [hX7]; exact bt b7 (one_block _ _)
    have T7 : Hid (Below W1.heap.size W1 X7) := bt T6.out S7.out
    have K7 : Hid (∀ W, Below X7.heap.size X7 W → W.cell? ⟨w7.heap.size, 0, none⟩ = some (.int .i64 hD) ∧ W.cell? ⟨w7.heap.size, 1, none⟩ = some (.slice a7' hL.length c7') ∧ w7.heap.size < W.heap.size) := fun W hW => by
      rw [hX7] at hW
      have hb := box2 hW
      exact ⟨hb.1, hb.2, (by have := World.block_lt_of_cell? _ _ hb.1; simpa using this)⟩
    have V7 : Hid (∀ W, Below X7.heap.size X7 W → IV W a7' hL) := fun W hW => by
      rw [hX7] at hW
      exact iv7.below (bt (one_block _ _) hW)
    clear iv7 b7
    go_wp2_with fail
    rw [← hX7]
    clear hX7
    refine (C8.out X7 T7.out).mono ?_
    rintro e w8 ⟨a8', c8', rfl, iv8, b8⟩
    clear cd0 cd1 ch0 ch1 ch2 cx0 cx1 lh lx ld C8
    obtain ⟨⟨cd0, cd1⟩, ⟨ch0, ch1, ch2⟩, ⟨cx0, cx1⟩, lh, lx⟩ := KK.out w8 (bt T7.out b8)
    have ld := Nat.lt_of_succ_lt lh
    obtain ⟨X8, hX8⟩ : ∃ X, X = w8.alloc (.cells #[.int .i64 hD, .slice a8' hL.length c8'] 24) := ⟨_, rfl⟩
    have S8 : Hid (Below X7.heap.size X7 X8) := by rw [hX8]; exact bt b8 (one_block _ _)
    have T8 : Hid (Below W1.heap.size W1 X8) := bt T7.out S8.out
    have K8 : Hid (∀ W, Below X8.heap.size X8 W → W.cell? ⟨w8.heap.size, 0, none⟩ = some (.int .i64 hD) ∧ W.cell? ⟨w8.heap.size, 1, none⟩ = some (.slice a8' hL.length c8') ∧ w8.heap.size < W.heap.size) := fun W hW => by
      rw [hX8] at hW
      have hb := box2 hW
      exact ⟨hb.1, hb.2, (by have := World.block_lt_of_cell? _ _ hb.1; simpa using this)⟩
    have V8 : Hid (∀ W, Below X8.heap.size X8 W → IV W a8' hL) := fun W hW => by
      rw [hX8] at hW
      exact iv8.below (bt (one_block _ _) hW)
    clear iv8 b8
    go_wp2_with fail
    rw [← hX8]
    clear hX8
    refine (C9.out X8 T8.out).mono ?_
    rintro e w9 ⟨a9', c9', rfl, iv9, b9⟩
    clear cd0 cd1 ch0 ch1 ch2 cx0 cx1 lh lx ld C9
    obtain ⟨⟨cd0, cd1⟩, ⟨ch0, ch1, ch2⟩, ⟨cx0, cx1⟩, lh, lx⟩ := KK.out w9 (bt T8.out b9)
    have ld := Nat.lt_of_succ_lt lh
    obtain ⟨X9, hX9⟩ : ∃ X, X = w9.alloc (.cells #[.int .i64 d0, .slice a9' sL.length c9'] 26) := ⟨_, rfl⟩
    have S9 : Hid (Below X8.heap.size X8 X9) := by rw [hX9]; exact bt b9 (one_block _ _)
    have T9 : Hid (Below W1.heap.size W1 X9) := bt T8.out S9.out
    have K9 : Hid (∀ W, Below X9.heap.size X9 W → W.cell? ⟨w9.heap.size, 0, none⟩ = some (.int .i64 d0) ∧ W.cell? ⟨w9.heap.size, 1, none⟩ = some (.slice a9' sL.length c9') ∧ w9.heap.size < W.heap.size) := fun W hW => by
      rw [hX9] at hW
      have hb := box2 hW
      exact ⟨hb.1, hb.2, (by have := World.block_lt_of_cell? _ _ hb.1; simpa using this)⟩
    have V9 : Hid (∀ W, Below X9.heap.size X9 W → IV W a9' sL) := fun W hW => by
      rw [hX9] at hW
      exact iv9.below (bt (one_block _ _) hW)
    clear iv9 b9
    go_wp2_with fail
    rw [← hX9]
    clear hX9
    refine (C10.out X9 T9.out).mono ?_
    rintro e w10 ⟨a10', c10', rfl, iv10, b10⟩
    clear cd0 cd1 ch0 ch1 ch2 cx0 cx1 lh lx ld C10
    obtain ⟨⟨cd0, cd1⟩, ⟨ch0, ch1, ch2⟩, ⟨cx0, cx1⟩, lh, lx⟩ := KK.out w10 (bt T9.out b10)
    have ld := Nat.lt_of_succ_lt lh
    obtain ⟨X10, hX10⟩ : ∃ X, X = w10.alloc (.cells #[.int .i64 d0, .slice a10' sL.length c10'] 24) := ⟨_, rfl⟩
    have S10 : Hid (Below X9.heap.size X9 X10) := by rw [hX10]; exact bt b10 (one_block _ _)
    have T10 : Hid (Below W1.heap.size W1 X10) := bt T9.out S10.out
    have K10 : Hid (∀ W, Below X10.heap.size X10 W → W.cell? ⟨w10.heap.size, 0, none⟩ = some (.int .i64 d0) ∧ W.cell? ⟨w10.heap.size, 1, none⟩ = some (.slice a10' sL.length c10') ∧ w10.heap.size < W.heap.size) := fun W hW => by
      rw [hX10] at hW
      have hb := box2 hW
      exact ⟨hb.1, hb.2, (by have := World.block_lt_of_cell? _ _ hb.1; simpa using this)⟩
    have V10 : Hid (∀ W, Below X10.heap.size X10 W → IV W a10' sL) := fun W hW => by
      rw [hX10] at hW
      exact iv10.below (bt (one_block _ _) hW)
    clear iv10 b10
    go_wp2_with fail
    rw [← hX10]
    clear hX10
    refine (C11.out X10 T10.out).mono ?_
    rintro e w11 ⟨a11', c11', rfl, iv11, b11⟩
    clear cd0 cd1 ch0 ch1 ch2 cx0 cx1 lh lx ld C11
    obtain ⟨⟨cd0, cd1⟩, ⟨ch0, ch1, ch2⟩, ⟨cx0, cx1⟩, lh, lx⟩ := KK.out w11 (bt T10.out b11)
    have ld := Nat.lt_of_succ_lt lh
    obtain ⟨X11, hX11⟩ : ∃ X, X = w11.alloc (.cells #[.int .i64 gD, .slice a11' gL.length c11'] 26) := ⟨_, rfl⟩
    have S11 : Hid (Below X10.heap.size X10 X11) := by rw [hX11]; exact bt b11 (one_block _ _)
    have T11 : Hid (Below W1.heap.size W1 X11) := bt T10.out S11.out
    have K11 : Hid (∀ W, Below X11.heap.size X11 W → W.cell? ⟨w11.heap.size, 0, none⟩ = some (.int .i64 gD) ∧ W.cell? ⟨w11.heap.size, 1, none⟩ = some (.slice a11' gL.length c11') ∧ w11.heap.size < W.heap.size) := fun W hW => by
      rw [hX11] at hW
      have hb := box2 hW
      exact ⟨hb.1, hb.2, (by have := World.block_lt_of_cell? _ _ hb.1; simpa using this)⟩
    have V11 : Hid (∀ W, Below X11.heap.size X11 W → IV W a11' gL) := fun W hW => by
      rw [hX11] at hW
      exact iv11.below (bt (one_block _ _) hW)
    clear iv11 b11
    go_wp2_with fail
    rw [← hX11]
    clear hX11
    refine (C12.out X11 T11.out).mono ?_
    rintro e w12 ⟨a12', c12', rfl, iv12, b12⟩
    clear cd0 cd1 ch0 ch1 ch2 cx0 cx1 lh lx ld C12
    obtain ⟨⟨cd0, cd1⟩, ⟨ch0, ch1, ch2⟩, ⟨cx0, cx1⟩, lh, lx⟩ := KK.out w12 (bt T11.out b12)
    have ld := Nat.lt_of_succ_lt lh
    obtain ⟨X12, hX12⟩ : ∃ X, X = w12.alloc (.cells #[.int .i64 gD, .slice a12' gL.length c12'] 24) := ⟨_, rfl⟩
    have S12 : Hid (Below X11.heap.size X11 X12) := by rw [hX12]; exact bt b12 (one_block _ _)
    have T12 : Hid (Below W1.heap.size W1 X12) := bt T11.out S12.out
    have K12 : Hid (∀ W, Below X12.heap.size X12 W → W.cell? ⟨w12.heap.size, 0, none⟩ = some (.int .i64 gD) ∧ W.cell? ⟨w12.heap.size, 1, none⟩ = some (.slice a12' gL.length c12') ∧ w12.heap.size < W.heap.size) := fun W hW => by
      rw [hX12] at hW
      have hb := box2 hW
      exact ⟨hb.1, hb.2, (by have := World.block_lt_of_cell? _ _ hb.1; simpa using this)⟩
    have V12 : Hid (∀ W, Below X12.heap.size X12 W → IV W a12' gL) := fun W hW => by
      rw [hX12] at hW
      exact iv12.below (bt (one_block _ _) hW)
    clear iv12 b12
    go_wp2_with fail
    rw [← hX12]
    clear hX12
    refine (one_any i1 X12).mono ?_
    rintro e w13 ⟨g13, rfl, iv13, _, b13⟩
    clear cd0 cd1 ch0 ch1 ch2 cx0 cx1 lh lx ld
    obtain ⟨W14, hW14⟩ : ∃ X, X = w13.alloc (.cells #[.int .i64 0, .slice (some ⟨g13, 0, none⟩) 1 1] 26) := ⟨_, rfl⟩
    have S14 : Hid (Below X12.heap.size X12 w13) := b13
    have K13 : Hid (∀ W, Below W14.heap.size W14 W → W.cell? ⟨w13.heap.size, 0, none⟩ = some (.int .i64 0) ∧ W.cell? ⟨w13.heap.size, 1, none⟩ = some (.slice (some ⟨g13, 0, none⟩) 1 1)) := fun W hW => by
      rw [hW14] at hW
      exact box2 hW
    have V13 : Hid (∀ W, Below W14.heap.size W14 W → IV W (some ⟨g13, 0, none⟩) [i1]) := fun W hW => by
      rw [hW14] at hW
      exact iv13.below (bt (one_block _ _) hW)
    have OB : Hid (Below w13.heap.size w13 W14) := by rw [hW14]; exact one_block _ _
    clear iv13 b13
    have E12 : Hid (∀ W, Below w13.heap.size w13 W → Below X12.heap.size X12 W) := fun W hW => bt S14.out hW
    have E11 : Hid (∀ W, Below w13.heap.size w13 W → Below X11.heap.size X11 W) := fun W hW => bt S12.out (E12.out W hW)
    have E10 : Hid (∀ W, Below w13.heap.size w13 W → Below X10.heap.size X10 W) := fun W hW => bt S11.out (E11.out W hW)
    have E9 : Hid (∀ W, Below w13.heap.size w13 W → Below X9.heap.size X9 W) := fun W hW => bt S10.out (E10.out W hW)
    have E8 : Hid (∀ W, Below w13.heap.size w13 W → Below X8.heap.size X8 W) := fun W hW => bt S9.out (E9.out W hW)
    have E7 : Hid (∀ W, Below w13.heap.size w13 W → Below X7.heap.size X7 W) := fun W hW => bt S8.out (E8.out W hW)
    have E6 : Hid (∀ W, Below w13.heap.size w13 W → Below X6.heap.size X6 W) := fun W hW => bt S7.out (E7.out W hW)
    have E5 : Hid (∀ W, Below w13.heap.size w13 W → Below X5.heap.size X5 W) := fun W hW => bt S6.out (E6.out W hW)
    have E0 : Hid (∀ W, Below w13.heap.size w13 W → Below W1.heap.size W1 W) := fun W hW => bt S5.out (E5.out W hW)
    obtain ⟨p0, p1, p2⟩ := K5.out w13 (E5.out _ (Below.refl _ _))
    obtain ⟨q0, q1, q2⟩ := K6.out w13 (E6.out _ (Below.refl _ _))
    go_wp2_with fail
    rw [← hW14]
    clear hW14 p0 p1 p2 q0 q1 q2
    have EW : Hid (∀ W, Below W14.heap.size W14 W → Below w13.heap.size w13 W) := fun W hW => bt OB.out hW
    have R1 := rsame_any dD dD a5' a6' c5' c6' dL dL W14 (V5.out _ (E5.out _ (EW.out _ (Below.refl _ _)))) (V6.out _ (E6.out _ (EW.out _ (Below.refl _ _)))) (by omega) (by omega)
    rw [sameD_refl] at R1
    unfold dv at R1
    refine R1.mono ?_
    rintro e y1 ⟨rfl, z1⟩
    clear R1
    have Z1 : Hid (Below W14.heap.size W14 y1) := bt (Below.refl _ _) z1
    clear z1
    obtain ⟨p0, p1, p2⟩ := K7.out y1 (E7.out _ (EW.out _ Z1.out))
    obtain ⟨q0, q1, q2⟩ := K8.out y1 (E8.out _ (EW.out _ Z1.out))
    go_wp2_with fail
    clear p0 p1 p2 q0 q1 q2
    have R2 := rsame_any hD hD a7' a8' c7' c8' hL hL y1 (V7.out _ (E7.out _ (EW.out _ Z1.out))) (V8.out _ (E8.out _ (EW.out _ Z1.out))) (by omega) (by omega)
    rw [sameD_refl] at R2
    unfold dv at R2
    refine R2.mono ?_
    rintro e y2 ⟨rfl, z2⟩
    clear R2
    have Z2 : Hid (Below W14.heap.size W14 y2) := bt Z1.out z2
    clear z2
    obtain ⟨p0, p1, p2⟩ := K9.out y2 (E9.out _ (EW.out _ Z2.out))
    obtain ⟨q0, q1, q2⟩ := K10.out y2 (E10.out _ (EW.out _ Z2.out))
    go_wp2_with fail
    clear p0 p1 p2 q0 q1 q2
    have R3 := rsame_any d0 d0 a9' a10' c9' c10' sL sL y2 (V9.out _ (E9.out _ (EW.out _ Z2.out))) (V10.out _ (E10.out _ (EW.out _ Z2.out))) (by omega) (by omega)
    rw [sameD_refl] at R3
    unfold dv at R3
    refine R3.mono ?_
    rintro e y3 ⟨rfl, z3⟩
    clear R3
    have Z3 : Hid (Below W14.heap.size W14 y3) := bt Z2.out z3
    clear z3
    obtain ⟨p0, p1, p2⟩ := K11.out y3 (E11.out _ (EW.out _ Z3.out))
    obtain ⟨q0, q1, q2⟩ := K12.out y3 (E12.out _ (EW.out _ Z3.out))
    go_wp2_with fail
    clear p0 p1 p2 q0 q1 q2
    have R4 := rsame_any gD gD a11' a12' c11' c12' gL gL y3 (V11.out _ (E11.out _ (EW.out _ Z3.out))) (V12.out _ (E12.out _ (EW.out _ Z3.out))) (by omega) (by omega)
    rw [sameD_refl] at R4
    unfold dv at R4
    refine R4.mono ?_
    rintro e y4 ⟨rfl, z4⟩
    clear R4
    have Z4 : Hid (Below W14.heap.size W14 y4) := bt Z3.out z4
    clear z4
    obtain ⟨⟨cd0, cd1⟩, ⟨ch0, ch1, ch2⟩, ⟨cx0, cx1⟩, lh, lx⟩ := KK.out y4 (E0.out _ (EW.out _ Z4.out))
    have ld := Nat.lt_of_succ_lt lh
    go_wp2_with fail
    clear cd0 cd1 ch0 ch1 ch2 cx0 cx1 lh lx ld
    have R5 := rsame_any d0 d0 ax (some x0) cx cap0 y0 y0 y4 (HVX.out _ (E0.out _ (EW.out _ Z4.out))) (HIV.out _ (HBW.out _ (E0.out _ (EW.out _ Z4.out)))) (by omega) (by omega)
    rw [sameD_refl] at R5
    unfold dv at R5
    refine R5.mono ?_
    rintro e y5 ⟨rfl, z5⟩
    clear R5
    have Z5 : Hid (Below W14.heap.size W14 y5) := bt Z4.out z5
    clear z5
    obtain ⟨⟨cd0, cd1⟩, ⟨ch0, ch1, ch2⟩, ⟨cx0, cx1⟩, lh, lx⟩ := KK.out y5 (E0.out _ (EW.out _ Z5.out))
    have ld := Nat.lt_of_succ_lt lh
    obtain ⟨p0, p1⟩ := K13.out y5 Z5.out
    have R6 := sints_any (some ⟨g13, 0, none⟩) (some ⟨y5.heap.size, 0, none⟩) 1 1 [i1] [i1] (y5.alloc (.cells #[.int .i64 i1] 3)) ((V13.out _ Z5.out).below (one_block _ _)) (iv_one y5 i1) (by simp) (by simp)
    rw [decide_eq_true rfl] at R6
    go_wp2_with (first
      | (go_at_call 17; refine R6.mono ?_; rintro e y6 ⟨rfl, z6⟩; clear R6)
      | (go_at_call 8; refine (HA _).mono ?_; rintro e wz ⟨rfl, bz⟩; clear HA))
    go_ret
    exact ⟨rfl, bt (HBW.out _ (E0.out _ (EW.out _ Z5.out))) (bt (one_block _ _) (bt z6 bz))⟩
  · go_simp
    have BA : Hid (Below W0.heap.size W0 (W0.alloc (.cells #[.int .i64 0, .slice none 0 0] 26)).drew) := (one_block _ _).drew
    refine hK7.out _ _ BA.out (fun hS2 => ?_)
    try simp only [Act.put, List.setIfInBounds_toArray, List.set_cons_zero, List.set_cons_succ]
    refine wpAnyH_ready (rs := [5]) (by rw [HO.out]; kernel_rfl) (by simp) ?_
    refine AllReadyH.cons (o := _) (by rw [HO.out]; simp only [List.getElem?_toArray, List.getElem?_cons_succ, List.getElem?_cons_zero]; rfl) (fun Ka hKa => ?_) AllReadyH.nil
    rw [if_pos (by rfl)]
    refine wp_append_own _ _ _ 22 rfl (W0.heap.size + 1) 3 i0 (.int .i64 0) 1 8 Try.underlying22 hi hz0 hz1 hz2 rfl (by decide) (.slice none 0 0) 0 [] rfl (World.ownsRow_nil _ _ _ _) x0 y0.length cap0 (y0.map (Value.int .i64)) rfl (by simp) (HIV.out _ (bt HB0.out BA.out)).cells (i64row _) (by unfold maxLen; omega) (by omega) (by simp) ?_
    intro v2 w2 ho2 hg2 _
    have HG2 : Hid (Below (W0.heap.size + 1) (W0.alloc (.cells #[.int .i64 0, .slice none 0 0] 26)).drew w2) := (Below.refl _ _).grown hg2 (by simp) (fun j hj => by cases hj)
    have HO2 : Hid (OwnI w2 (W0.heap.size + 1) v2 y0) := (by simpa [OwnI, Hid] using ho2)
    clear ho2 hg2
    have r0 : w2.cell? ⟨W0.heap.size, 0, none⟩ = some (.int .i64 0) := (HG2.out.cell (p := ⟨W0.heap.size, 0, none⟩) (by simp)).trans (by go_simp)
    have r1 : w2.cell? ⟨W0.heap.size, 1, none⟩ = some (.slice none 0 0) := (HG2.out.cell (p := ⟨W0.heap.size, 1, none⟩) (by simp)).trans (by go_simp)
    have f0 : w2.frozen? ⟨W0.heap.size, 0, none⟩ = false := (HG2.out.frozen (p := ⟨W0.heap.size, 0, none⟩) (by simp)).trans (by go_simp)
    have f1 : w2.frozen? ⟨W0.heap.size, 1, none⟩ = false := (HG2.out.frozen (p := ⟨W0.heap.size, 1, none⟩) (by simp)).trans (by go_simp)
    obtain ⟨ax, cx, rfl, nx, hvx, _, _⟩ := HO2.out.view
    have B2 : Hid (Below W0.heap.size W0 w2) := BA.out.trans (HG2.out.mono (by omega))
    refine hKa.out _ _ B2.out (fun hS3 => ?_)
    try simp only [Act.put, List.setIfInBounds_toArray, List.set_cons_zero, List.set_cons_succ]
    refine wpAnyH_take (i := 6) (v := .agg #[.int .i64 d0, .slice ax y0.length cx]) (by rw [HO.out]; simp only [List.getElem?_toArray, List.getElem?_cons_succ, List.getElem?_cons_zero]; rfl) (by rw [HO.out]; kernel_rfl) (by rw [HO.out]; kernel_rfl) (by rw [HO.out]; kernel_rfl) (by rw [HQ.out]; exact fun _ _ _ h => h) (Or.inl ⟨by first | rfl | (rw [HO.out]; kernel_rfl), ?_⟩) hS3 ?_
    · intro w' hSw
      go_simp
    try simp only [Act.put, List.setIfInBounds_toArray, List.set_cons_zero, List.set_cons_succ]
    refine wpAnyH_ready (rs := [8]) (by rw [HO.out]; kernel_rfl) (by simp) ?_
    refine AllReadyH.cons (o := _) (by rw [HO.out]; simp only [List.getElem?_toArray, List.getElem?_cons_succ, List.getElem?_cons_zero]; rfl) (fun Kb hKb => ?_) AllReadyH.nil
    go_simp
    have B3 : Hid (Below W0.heap.size W0 ((w2.setCell ⟨W0.heap.size, 0, none⟩ (.int .i64 d0)).setCell ⟨W0.heap.size, 1, none⟩ (.slice ax y0.length cx))) := set2_below B2.out (Nat.le_refl _) _ _
    refine hKb.out _ _ B3.out (fun hS4 => ?_)
    try simp only [Act.put, List.setIfInBounds_toArray, List.set_cons_zero, List.set_cons_succ]
    refine wpAnyH_done (by rw [HO.out]; kernel_rfl) ?_ _
    rw [HQ.out]
    refine NoPanic.normal ?_
    obtain ⟨W1, hW1⟩ : ∃ W1, W1 = (w2.setCell ⟨W0.heap.size, 0, none⟩ (.int .i64 d0)).setCell ⟨W0.heap.size, 1, none⟩ (.slice ax y0.length cx) := ⟨_, rfl⟩
    have HW1 : Hid (Below w.heap.size w W1) := by rw [hW1]; exact bt HB0.out B3.out
    have HVX : Hid (∀ W, Below W1.heap.size W1 W → IV W ax y0) := fun W hW => by rw [hW1] at hW; exact (hvx.set2 (L := 0) (by omega) (by omega) _ _).iv.below hW
    obtain ⟨bx, hbx⟩ : ∃ bx, bx = W0.heap.size := ⟨_, rfl⟩
    have KK : Hid (∀ W, Below W1.heap.size W1 W → (W.cell? ⟨w.heap.size, 0, none⟩ = some (.int .i64 d0) ∧ W.cell? ⟨w.heap.size, 1, none⟩ = some (.slice (some x0) y0.length cap0)) ∧ (W.cell? ⟨w.heap.size + 1, 0, none⟩ = some (.int .i64 p1) ∧ W.cell? ⟨w.heap.size + 1, 1, none⟩ = some (.int .i64 k1) ∧ W.cell? ⟨w.heap.size + 1, 2, none⟩ = some (.int .i64 i1)) ∧ (W.cell? ⟨bx, 0, none⟩ = some (.int .i64 d0) ∧ W.cell? ⟨bx, 1, none⟩ = some (.slice ax y0.length cx)) ∧ w.heap.size + 1 < W.heap.size ∧ bx < W.heap.size) := fun W hW => by
      rw [hW1] at hW
      have k := CL.out _ (bt B3.out hW)
      have s1 : (w2.setCell ⟨W0.heap.size, 0, none⟩ (.int .i64 d0)).cell? ⟨W0.heap.size, 1, none⟩ = some (.slice none 0 0) := (World.cell?_setCell_other _ _ _ _ (by simp)).trans r1
      have t1 : ((w2.setCell ⟨W0.heap.size, 0, none⟩ (.int .i64 d0)).setCell ⟨W0.heap.size, 1, none⟩ (.slice ax y0.length cx)).cell? ⟨W0.heap.size, 1, none⟩ = some (.slice ax y0.length cx) := World.cell?_setCell_same _ _ _ s1
      have t0 : ((w2.setCell ⟨W0.heap.size, 0, none⟩ (.int .i64 d0)).setCell ⟨W0.heap.size, 1, none⟩ (.slice ax y0.length cx)).cell? ⟨W0.heap.size, 0, none⟩ = some (.int .i64 d0) := (World.cell?_setCell_other _ _ _ _ (by simp)).trans (World.cell?_setCell_same _ _ _ r0)
      have lb : W0.heap.size < ((w2.setCell ⟨W0.heap.size, 0, none⟩ (.int .i64 d0)).setCell ⟨W0.heap.size, 1, none⟩ (.slice ax y0.length cx)).heap.size := by have := World.block_lt_of_cell? _ _ t0; simpa using this
      have kb : W.cell? ⟨bx, 0, none⟩ = some (.int .i64 d0) ∧ W.cell? ⟨bx, 1, none⟩ = some (.slice ax y0.length cx) := by
        rw [hbx]
        exact ⟨(hW.cell (p := ⟨W0.heap.size, 0, none⟩) lb).trans t0, (hW.cell (p := ⟨W0.heap.size, 1, none⟩) lb).trans t1⟩
      exact ⟨k.1, k.2, kb, (by have := World.block_lt_of_cell? _ _ k.2.1; simpa using this), (by have := World.block_lt_of_cell? _ _ kb.1; simpa using this)⟩
    try rw [← hW1]
    rw [← hbx]
    clear hW1 hbx hvx HO2 HG2 CL hS hS2 hS3 hS4 hKa hKb hK7 Ka Kb K7 r0 r1 f0 f1 B2 B3 BA
    have HDX : Hid (∀ W, Below W1.heap.size W1 W → IV W ax y0) := HVX
    have HBW : Hid (∀ W, Below W1.heap.size W1 W → Below w.heap.size w W) := fun W hW => bt HW1.out hW
    obtain ⟨⟨cd0, cd1⟩, ⟨ch0, ch1, ch2⟩, ⟨cx0, cx1⟩, lh, lx⟩ := KK.out W1 (Below.refl _ _)
    have ld := Nat.lt_of_succ_lt lh
    have T0 : Hid (Below W1.heap.size W1 W1) := Below.refl _ _
    have C5 : Hid (∀ W, Below W1.heap.size W1 W → Calls Try.prog 22 #[.agg #[.int .i64 d0, .slice ax y0.length cx]] W fun e w' => ∃ a c, e = .returned (.tuple #[.agg #[.int .i64 (dblD d0 y0), .slice a (dblL d0 y0).length c], .bool (dblB d0 y0)]) ∧ IV w' a (dblL d0 y0) ∧ Below W.heap.size W w') := fun W hW => by
      refine (double_any d0 ax cx y0 W (HVX.out W hW) (by omega) nx).mono ?_
      rintro e w' ⟨v, rfl, ⟨a, c, rfl, h1, h2⟩, h3⟩
      exact ⟨a, c, rfl, h2, h3⟩
    have C6 : Hid (∀ W, Below W1.heap.size W1 W → Calls Try.prog 23 #[.agg #[.int .i64 d0, .slice (some x0) y0.length cap0]] W fun e w' => ∃ a c, e = .returned (.tuple #[.agg #[.int .i64 (dblD d0 y0), .slice a (dblL d0 y0).length c], .bool (dblB d0 y0)]) ∧ IV w' a (dblL d0 y0) ∧ Below W.heap.size W w') := fun W hW => by
      refine (rdouble_any d0 (some x0) cap0 y0 W (HIV.out W (HBW.out W hW)) (by omega) hn).mono ?_
      rintro e w' ⟨v, rfl, ⟨a, c, rfl, h1, h2⟩, h3⟩
      exact ⟨a, c, rfl, h2, h3⟩
    have C7 : Hid (∀ W, Below W1.heap.size W1 W → Calls Try.prog 24 #[.agg #[.int .i64 d0, .slice ax y0.length cx]] W fun e w' => ∃ a c, e = .returned (.tuple #[.agg #[.int .i64 (hlvD d0 y0), .slice a (hlvL d0 y0).length c], .bool (hlvB d0 y0)]) ∧ IV w' a (hlvL d0 y0) ∧ Below W.heap.size W w') := fun W hW => by
      refine (halve_any d0 ax cx y0 W (HVX.out W hW) (by omega) nx).mono ?_
      rintro e w' ⟨v, rfl, ⟨a, c, rfl, h1, h2⟩, h3⟩
      exact ⟨a, c, rfl, h2, h3⟩
    have C8 : Hid (∀ W, Below W1.heap.size W1 W → Calls Try.prog 25 #[.agg #[.int .i64 d0, .slice (some x0) y0.length cap0]] W fun e w' => ∃ a c, e = .returned (.tuple #[.agg #[.int .i64 (hlvD d0 y0), .slice a (hlvL d0 y0).length c], .bool (hlvB d0 y0)]) ∧ IV w' a (hlvL d0 y0) ∧ Below W.heap.size W w') := fun W hW => by
      refine (rhalve_any d0 (some x0) cap0 y0 W (HIV.out W (HBW.out W hW)) (by omega) hn).mono ?_
      rintro e w' ⟨v, rfl, ⟨a, c, rfl, h1, h2⟩, h3⟩
      exact ⟨a, c, rfl, h2, h3⟩
    have C9 : Hid (∀ W, Below W1.heap.size W1 W → Calls Try.prog 26 #[.agg #[.int .i64 d0, .slice ax y0.length cx], .int .i64 p1, .int .i64 k1, .int .i64 i1] W fun e w' => ∃ a c, e = .returned (.agg #[.int .i64 d0, .slice a (setL d0 y0 p1 k1 i1).length c]) ∧ IV w' a (setL d0 y0 p1 k1 i1) ∧ Below W.heap.size W w') := fun W hW => by
      refine (set_any d0 ax cx y0 p1 k1 i1 W (HVX.out W hW) (by omega) nx).mono ?_
      rintro e w' ⟨v, rfl, ⟨a, c, rfl, h1, h2⟩, h3⟩
      exact ⟨a, c, rfl, h2, h3⟩
    have C10 : Hid (∀ W, Below W1.heap.size W1 W → Calls Try.prog 27 #[.agg #[.int .i64 d0, .slice (some x0) y0.length cap0], .int .i64 p1, .int .i64 k1, .int .i64 i1] W fun e w' => ∃ a c, e = .returned (.agg #[.int .i64 d0, .slice a (setL d0 y0 p1 k1 i1).length c]) ∧ IV w' a (setL d0 y0 p1 k1 i1) ∧ Below W.heap.size W w') := fun W hW => by
      refine (rset_any d0 (some x0) cap0 y0 p1 k1 i1 W (HIV.out W (HBW.out W hW)) (by omega) hn).mono ?_
      rintro e w' ⟨v, rfl, ⟨a, c, rfl, h1, h2⟩, h3⟩
      exact ⟨a, c, rfl, h2, h3⟩
    have C11 : Hid (∀ W, Below W1.heap.size W1 W → Calls Try.prog 28 #[.int .i64 k1, .slice a2 y2.length cap2] W fun e w' => ∃ a c, e = .returned (.tuple #[.agg #[.int .i64 (gtD k1 y2), .slice a (gtL k1 y2).length c], .int .i64 (gtE k1 y2)]) ∧ IV w' a (gtL k1 y2) ∧ Below W.heap.size W w') := fun W hW => by
      refine (get_main k1 a2 cap2 y2 W (HRAW.out W (HBW.out W hW)) hn2 (by omega)).mono ?_
      rintro e w' ⟨v, rfl, ⟨a, c, rfl, h1, h2⟩, h3⟩
      exact ⟨a, c, rfl, h2, h3⟩
    have C12 : Hid (∀ W, Below W1.heap.size W1 W → Calls Try.prog 29 #[.int .i64 k1, .slice a2 y2.length cap2] W fun e w' => ∃ a c, e = .returned (.tuple #[.agg #[.int .i64 (gtD k1 y2), .slice a (gtL k1 y2).length c], .int .i64 (gtE k1 y2)]) ∧ IV w' a (gtL k1 y2) ∧ Below W.heap.size W w') := fun W hW => by
      refine (rget_main k1 a2 cap2 y2 W (HRAW.out W (HBW.out W hW)) hn2 (by omega)).mono ?_
      rintro e w' ⟨v, rfl, ⟨a, c, rfl, h1, h2⟩, h3⟩
      exact ⟨a, c, rfl, h2, h3⟩
    generalize dblD d0 y0 = dD at *
    generalize dblL d0 y0 = dL at *
    generalize dblB d0 y0 = dB at *
    generalize hlvD d0 y0 = hD at *
    generalize hlvL d0 y0 = hL at *
    generalize hlvB d0 y0 = hB at *
    generalize setL d0 y0 p1 k1 i1 = sL at *
    generalize gtD k1 y2 = gD at *
    generalize gtL k1 y2 = gL at *
    generalize gtE k1 y2 = gE at *
    go_wp2_with fail
    refine (C5.out W1 T0.out).mono ?_
    rintro e w5 ⟨a5', c5', rfl, iv5, b5⟩
    clear cd0 cd1 ch0 ch1 ch2 cx0 cx1 lh lx ld C5
    obtain ⟨⟨cd0, cd1⟩, ⟨ch0, ch1, ch2⟩, ⟨cx0, cx1⟩, lh, lx⟩ := KK.out w5 (bt T0.out b5)
    have ld := Nat.lt_of_succ_lt lh
    obtain ⟨X5, hX5⟩ : ∃ X, X = w5.alloc (.cells #[.int .i64 dD, .slice a5' dL.length c5'] 26) := ⟨_, rfl⟩
    have S5 : Hid (Below W1.heap.size W1 X5) := by rw [hX5]; exact bt b5 (one_block _ _)
    have T5 : Hid (Below W1.heap.size W1 X5) := bt T0.out S5.out
    have K5 : Hid (∀ W, Below X5.heap.size X5 W → W.cell? ⟨w5.heap.size, 0, none⟩ = some (.int .i64 dD) ∧ W.cell? ⟨w5.heap.size, 1, none⟩ = some (.slice a5' dL.length c5') ∧ w5.heap.size < W.heap.size) := fun W hW => by
      rw [hX5] at hW
      have hb := box2 hW
      exact ⟨hb.1, hb.2, (by have := World.block_lt_of_cell? _ _ hb.1; simpa using this)⟩
    have V5 : Hid (∀ W, Below X5.heap.size X5 W → IV W a5' dL) := fun W hW => by
      rw [hX5] at hW
      exact iv5.below (bt (one_block _ _) hW)
    clear iv5 b5
    go_wp2_with fail
    rw [← hX5]
    clear hX5
    refine (C6.out X5 T5.out).mono ?_
    rintro e w6 ⟨a6', c6', rfl, iv6, b6⟩
    clear cd0 cd1 ch0 ch1 ch2 cx0 cx1 lh lx ld C6
    obtain ⟨⟨cd0, cd1⟩, ⟨ch0, ch1, ch2⟩, ⟨cx0, cx1⟩, lh, lx⟩ := KK.out w6 (bt T5.out b6)
    have ld := Nat.lt_of_succ_lt lh
    obtain ⟨X6, hX6⟩ : ∃ X, X = w6.alloc (.cells #[.int .i64 dD, .slice a6' dL.length c6'] 24) := ⟨_, rfl⟩
    have S6 : Hid (Below X5.heap.size X5 X6) := by rw [hX6]; exact bt b6 (one_block _ _)
    have T6 : Hid (Below W1.heap.size W1 X6) := bt T5.out S6.out
    have K6 : Hid (∀ W, Below X6.heap.size X6 W → W.cell? ⟨w6.heap.size, 0, none⟩ = some (.int .i64 dD) ∧ W.cell? ⟨w6.heap.size, 1, none⟩ = some (.slice a6' dL.length c6') ∧ w6.heap.size < W.heap.size) := fun W hW => by
      rw [hX6] at hW
      have hb := box2 hW
      exact ⟨hb.1, hb.2, (by have := World.block_lt_of_cell? _ _ hb.1; simpa using this)⟩
    have V6 : Hid (∀ W, Below X6.heap.size X6 W → IV W a6' dL) := fun W hW => by
      rw [hX6] at hW
      exact iv6.below (bt (one_block _ _) hW)
    clear iv6 b6
    go_wp2_with fail
    rw [← hX6]
    clear hX6
    refine (C7.out X6 T6.out).mono ?_
    rintro e w7 ⟨a7', c7', rfl, iv7, b7⟩
    clear cd0 cd1 ch0 ch1 ch2 cx0 cx1 lh lx ld C7
    obtain ⟨⟨cd0, cd1⟩, ⟨ch0, ch1, ch2⟩, ⟨cx0, cx1⟩, lh, lx⟩ := KK.out w7 (bt T6.out b7)
    have ld := Nat.lt_of_succ_lt lh
    obtain ⟨X7, hX7⟩ : ∃ X, X = w7.alloc (.cells #[.int .i64 hD, .slice a7' hL.length c7'] 26) := ⟨_, rfl⟩
    have S7 : Hid (Below X6.heap.size X6 X7) := by rw [hX7]; exact bt b7 (one_block _ _)
    have T7 : Hid (Below W1.heap.size W1 X7) := bt T6.out S7.out
    have K7 : Hid (∀ W, Below X7.heap.size X7 W → W.cell? ⟨w7.heap.size, 0, none⟩ = some (.int .i64 hD) ∧ W.cell? ⟨w7.heap.size, 1, none⟩ = some (.slice a7' hL.length c7') ∧ w7.heap.size < W.heap.size) := fun W hW => by
      rw [hX7] at hW
      have hb := box2 hW
      exact ⟨hb.1, hb.2, (by have := World.block_lt_of_cell? _ _ hb.1; simpa using this)⟩
    have V7 : Hid (∀ W, Below X7.heap.size X7 W → IV W a7' hL) := fun W hW => by
      rw [hX7] at hW
      exact iv7.below (bt (one_block _ _) hW)
    clear iv7 b7
    go_wp2_with fail
    rw [← hX7]
    clear hX7
    refine (C8.out X7 T7.out).mono ?_
    rintro e w8 ⟨a8', c8', rfl, iv8, b8⟩
    clear cd0 cd1 ch0 ch1 ch2 cx0 cx1 lh lx ld C8
    obtain ⟨⟨cd0, cd1⟩, ⟨ch0, ch1, ch2⟩, ⟨cx0, cx1⟩, lh, lx⟩ := KK.out w8 (bt T7.out b8)
    have ld := Nat.lt_of_succ_lt lh
    obtain ⟨X8, hX8⟩ : ∃ X, X = w8.alloc (.cells #[.int .i64 hD, .slice a8' hL.length c8'] 24) := ⟨_, rfl⟩
    have S8 : Hid (Below X7.heap.size X7 X8) := by rw [hX8]; exact bt b8 (one_block _ _)
    have T8 : Hid (Below W1.heap.size W1 X8) := bt T7.out S8.out
    have K8 : Hid (∀ W, Below X8.heap.size X8 W → W.cell? ⟨w8.heap.size, 0, none⟩ = some (.int .i64 hD) ∧ W.cell? ⟨w8.heap.size, 1, none⟩ = some (.slice a8' hL.length c8') ∧ w8.heap.size < W.heap.size) := fun W hW => by
      rw [hX8] at hW
      have hb := box2 hW
      exact ⟨hb.1, hb.2, (by have := World.block_lt_of_cell? _ _ hb.1; simpa using this)⟩
    have V8 : Hid (∀ W, Below X8.heap.size X8 W → IV W a8' hL) := fun W hW => by
      rw [hX8] at hW
      exact iv8.below (bt (one_block _ _) hW)
    clear iv8 b8
    go_wp2_with fail
    rw [← hX8]
    clear hX8
    refine (C9.out X8 T8.out).mono ?_
    rintro e w9 ⟨a9', c9', rfl, iv9, b9⟩
    clear cd0 cd1 ch0 ch1 ch2 cx0 cx1 lh lx ld C9
    obtain ⟨⟨cd0, cd1⟩, ⟨ch0, ch1, ch2⟩, ⟨cx0, cx1⟩, lh, lx⟩ := KK.out w9 (bt T8.out b9)
    have ld := Nat.lt_of_succ_lt lh
    obtain ⟨X9, hX9⟩ : ∃ X, X = w9.alloc (.cells #[.int .i64 d0, .slice a9' sL.length c9'] 26) := ⟨_, rfl⟩
    have S9 : Hid (Below X8.heap.size X8 X9) := by rw [hX9]; exact bt b9 (one_block _ _)
    have T9 : Hid (Below W1.heap.size W1 X9) := bt T8.out S9.out
    have K9 : Hid (∀ W, Below X9.heap.size X9 W → W.cell? ⟨w9.heap.size, 0, none⟩ = some (.int .i64 d0) ∧ W.cell? ⟨w9.heap.size, 1, none⟩ = some (.slice a9' sL.length c9') ∧ w9.heap.size < W.heap.size) := fun W hW => by
      rw [hX9] at hW
      have hb := box2 hW
      exact ⟨hb.1, hb.2, (by have := World.block_lt_of_cell? _ _ hb.1; simpa using this)⟩
    have V9 : Hid (∀ W, Below X9.heap.size X9 W → IV W a9' sL) := fun W hW => by
      rw [hX9] at hW
      exact iv9.below (bt (one_block _ _) hW)
    clear iv9 b9
    go_wp2_with fail
    rw [← hX9]
    clear hX9
    refine (C10.out X9 T9.out).mono ?_
    rintro e w10 ⟨a10', c10', rfl, iv10, b10⟩
    clear cd0 cd1 ch0 ch1 ch2 cx0 cx1 lh lx ld C10
    obtain ⟨⟨cd0, cd1⟩, ⟨ch0, ch1, ch2⟩, ⟨cx0, cx1⟩, lh, lx⟩ := KK.out w10 (bt T9.out b10)
    have ld := Nat.lt_of_succ_lt lh
    obtain ⟨X10, hX10⟩ : ∃ X, X = w10.alloc (.cells #[.int .i64 d0, .slice a10' sL.length c10'] 24) := ⟨_, rfl⟩
    have S10 : Hid (Below X9.heap.size X9 X10) := by rw [hX10]; exact bt b10 (one_block _ _)
    have T10 : Hid (Below W1.heap.size W1 X10) := bt T9.out S10.out
    have K10 : Hid (∀ W, Below X10.heap.size X10 W → W.cell? ⟨w10.heap.size, 0, none⟩ = some (.int .i64 d0) ∧ W.cell? ⟨w10.heap.size, 1, none⟩ = some (.slice a10' sL.length c10') ∧ w10.heap.size < W.heap.size) := fun W hW => by
      rw [hX10] at hW
      have hb := box2 hW
      exact ⟨hb.1, hb.2, (by have := World.block_lt_of_cell? _ _ hb.1; simpa using this)⟩
    have V10 : Hid (∀ W, Below X10.heap.size X10 W → IV W a10' sL) := fun W hW => by
      rw [hX10] at hW
      exact iv10.below (bt (one_block _ _) hW)
    clear iv10 b10
    go_wp2_with fail
    rw [← hX10]
    clear hX10
    refine (C11.out X10 T10.out).mono ?_
    rintro e w11 ⟨a11', c11', rfl, iv11, b11⟩
    clear cd0 cd1 ch0 ch1 ch2 cx0 cx1 lh lx ld C11
    obtain ⟨⟨cd0, cd1⟩, ⟨ch0, ch1, ch2⟩, ⟨cx0, cx1⟩, lh, lx⟩ := KK.out w11 (bt T10.out b11)
    have ld := Nat.lt_of_succ_lt lh
    obtain ⟨X11, hX11⟩ : ∃ X, X = w11.alloc (.cells #[.int .i64 gD, .slice a11' gL.length c11'] 26) := ⟨_, rfl⟩
    have S11 : Hid (Below X10.heap.size X10 X11) := by rw [hX11]; exact bt b11 (one_block _ _)
    have T11 : Hid (Below W1.heap.size W1 X11) := bt T10.out S11.out
    have K11 : Hid (∀ W, Below X11.heap.size X11 W → W.cell? ⟨w11.heap.size, 0, none⟩ = some (.int .i64 gD) ∧ W.cell? ⟨w11.heap.size, 1, none⟩ = some (.slice a11' gL.length c11') ∧ w11.heap.size < W.heap.size) := fun W hW => by
      rw [hX11] at hW
      have hb := box2 hW
      exact ⟨hb.1, hb.2, (by have := World.block_lt_of_cell? _ _ hb.1; simpa using this)⟩
    have V11 : Hid (∀ W, Below X11.heap.size X11 W → IV W a11' gL) := fun W hW => by
      rw [hX11] at hW
      exact iv11.below (bt (one_block _ _) hW)
    clear iv11 b11
    go_wp2_with fail
    rw [← hX11]
    clear hX11
    refine (C12.out X11 T11.out).mono ?_
    rintro e w12 ⟨a12', c12', rfl, iv12, b12⟩
    clear cd0 cd1 ch0 ch1 ch2 cx0 cx1 lh lx ld C12
    obtain ⟨⟨cd0, cd1⟩, ⟨ch0, ch1, ch2⟩, ⟨cx0, cx1⟩, lh, lx⟩ := KK.out w12 (bt T11.out b12)
    have ld := Nat.lt_of_succ_lt lh
    obtain ⟨X12, hX12⟩ : ∃ X, X = w12.alloc (.cells #[.int .i64 gD, .slice a12' gL.length c12'] 24) := ⟨_, rfl⟩
    have S12 : Hid (Below X11.heap.size X11 X12) := by rw [hX12]; exact bt b12 (one_block _ _)
    have T12 : Hid (Below W1.heap.size W1 X12) := bt T11.out S12.out
    have K12 : Hid (∀ W, Below X12.heap.size X12 W → W.cell? ⟨w12.heap.size, 0, none⟩ = some (.int .i64 gD) ∧ W.cell? ⟨w12.heap.size, 1, none⟩ = some (.slice a12' gL.length c12') ∧ w12.heap.size < W.heap.size) := fun W hW => by
      rw [hX12] at hW
      have hb := box2 hW
      exact ⟨hb.1, hb.2, (by have := World.block_lt_of_cell? _ _ hb.1; simpa using this)⟩
    have V12 : Hid (∀ W, Below X12.heap.size X12 W → IV W a12' gL) := fun W hW => by
      rw [hX12] at hW
      exact iv12.below (bt (one_block _ _) hW)
    clear iv12 b12
    go_wp2_with fail
    rw [← hX12]
    clear hX12
    refine (one_any i1 X12).mono ?_
    rintro e w13 ⟨g13, rfl, iv13, _, b13⟩
    clear cd0 cd1 ch0 ch1 ch2 cx0 cx1 lh lx ld
    obtain ⟨W14, hW14⟩ : ∃ X, X = w13.alloc (.cells #[.int .i64 0, .slice (some ⟨g13, 0, none⟩) 1 1] 26) := ⟨_, rfl⟩
    have S14 : Hid (Below X12.heap.size X12 w13) := b13
    have K13 : Hid (∀ W, Below W14.heap.size W14 W → W.cell? ⟨w13.heap.size, 0, none⟩ = some (.int .i64 0) ∧ W.cell? ⟨w13.heap.size, 1, none⟩ = some (.slice (some ⟨g13, 0, none⟩) 1 1)) := fun W hW => by
      rw [hW14] at hW
      exact box2 hW
    have V13 : Hid (∀ W, Below W14.heap.size W14 W → IV W (some ⟨g13, 0, none⟩) [i1]) := fun W hW => by
      rw [hW14] at hW
      exact iv13.below (bt (one_block _ _) hW)
    have OB : Hid (Below w13.heap.size w13 W14) := by rw [hW14]; exact one_block _ _
    clear iv13 b13
    have E12 : Hid (∀ W, Below w13.heap.size w13 W → Below X12.heap.size X12 W) := fun W hW => bt S14.out hW
    have E11 : Hid (∀ W, Below w13.heap.size w13 W → Below X11.heap.size X11 W) := fun W hW => bt S12.out (E12.out W hW)
    have E10 : Hid (∀ W, Below w13.heap.size w13 W → Below X10.heap.size X10 W) := fun W hW => bt S11.out (E11.out W hW)
    have E9 : Hid (∀ W, Below w13.heap.size w13 W → Below X9.heap.size X9 W) := fun W hW => bt S10.out (E10.out W hW)
    have E8 : Hid (∀ W, Below w13.heap.size w13 W → Below X8.heap.size X8 W) := fun W hW => bt S9.out (E9.out W hW)
    have E7 : Hid (∀ W, Below w13.heap.size w13 W → Below X7.heap.size X7 W) := fun W hW => bt S8.out (E8.out W hW)
    have E6 : Hid (∀ W, Below w13.heap.size w13 W → Below X6.heap.size X6 W) := fun W hW => bt S7.out (E7.out W hW)
    have E5 : Hid (∀ W, Below w13.heap.size w13 W → Below X5.heap.size X5 W) := fun W hW => bt S6.out (E6.out W hW)
    have E0 : Hid (∀ W, Below w13.heap.size w13 W → Below W1.heap.size W1 W) := fun W hW => bt S5.out (E5.out W hW)
    obtain ⟨p0, p1, p2⟩ := K5.out w13 (E5.out _ (Below.refl _ _))
    obtain ⟨q0, q1, q2⟩ := K6.out w13 (E6.out _ (Below.refl _ _))
    go_wp2_with fail
    rw [← hW14]
    clear hW14 p0 p1 p2 q0 q1 q2
    have EW : Hid (∀ W, Below W14.heap.size W14 W → Below w13.heap.size w13 W) := fun W hW => bt OB.out hW
    have R1 := rsame_any dD dD a5' a6' c5' c6' dL dL W14 (V5.out _ (E5.out _ (EW.out _ (Below.refl _ _)))) (V6.out _ (E6.out _ (EW.out _ (Below.refl _ _)))) (by omega) (by omega)
    rw [sameD_refl] at R1
    unfold dv at R1
    refine R1.mono ?_
    rintro e y1 ⟨rfl, z1⟩
    clear R1
    have Z1 : Hid (Below W14.heap.size W14 y1) := bt (Below.refl _ _) z1
    clear z1
    obtain ⟨p0, p1, p2⟩ := K7.out y1 (E7.out _ (EW.out _ Z1.out))
    obtain ⟨q0, q1, q2⟩ := K8.out y1 (E8.out _ (EW.out _ Z1.out))
    go_wp2_with fail
    clear p0 p1 p2 q0 q1 q2
    have R2 := rsame_any hD hD a7' a8' c7' c8' hL hL y1 (V7.out _ (E7.out _ (EW.out _ Z1.out))) (V8.out _ (E8.out _ (EW.out _ Z1.out))) (by omega) (by omega)
    rw [sameD_refl] at R2
    unfold dv at R2
    refine R2.mono ?_
    rintro e y2 ⟨rfl, z2⟩
    clear R2
    have Z2 : Hid (Below W14.heap.size W14 y2) := bt Z1.out z2
    clear z2
    obtain ⟨p0, p1, p2⟩ := K9.out y2 (E9.out _ (EW.out _ Z2.out))
    obtain ⟨q0, q1, q2⟩ := K10.out y2 (E10.out _ (EW.out _ Z2.out))
    go_wp2_with fail
    clear p0 p1 p2 q0 q1 q2
    have R3 := rsame_any d0 d0 a9' a10' c9' c10' sL sL y2 (V9.out _ (E9.out _ (EW.out _ Z2.out))) (V10.out _ (E10.out _ (EW.out _ Z2.out))) (by omega) (by omega)
    rw [sameD_refl] at R3
    unfold dv at R3
    refine R3.mono ?_
    rintro e y3 ⟨rfl, z3⟩
    clear R3
    have Z3 : Hid (Below W14.heap.size W14 y3) := bt Z2.out z3
    clear z3
    obtain ⟨p0, p1, p2⟩ := K11.out y3 (E11.out _ (EW.out _ Z3.out))
    obtain ⟨q0, q1, q2⟩ := K12.out y3 (E12.out _ (EW.out _ Z3.out))
    go_wp2_with fail
    clear p0 p1 p2 q0 q1 q2
    have R4 := rsame_any gD gD a11' a12' c11' c12' gL gL y3 (V11.out _ (E11.out _ (EW.out _ Z3.out))) (V12.out _ (E12.out _ (EW.out _ Z3.out))) (by omega) (by omega)
    rw [sameD_refl] at R4
    unfold dv at R4
    refine R4.mono ?_
    rintro e y4 ⟨rfl, z4⟩
    clear R4
    have Z4 : Hid (Below W14.heap.size W14 y4) := bt Z3.out z4
    clear z4
    obtain ⟨⟨cd0, cd1⟩, ⟨ch0, ch1, ch2⟩, ⟨cx0, cx1⟩, lh, lx⟩ := KK.out y4 (E0.out _ (EW.out _ Z4.out))
    have ld := Nat.lt_of_succ_lt lh
    go_wp2_with fail
    clear cd0 cd1 ch0 ch1 ch2 cx0 cx1 lh lx ld
    have R5 := rsame_any d0 d0 ax (some x0) cx cap0 y0 y0 y4 (HVX.out _ (E0.out _ (EW.out _ Z4.out))) (HIV.out _ (HBW.out _ (E0.out _ (EW.out _ Z4.out)))) (by omega) (by omega)
    rw [sameD_refl] at R5
    unfold dv at R5
    refine R5.mono ?_
    rintro e y5 ⟨rfl, z5⟩
    clear R5
    have Z5 : Hid (Below W14.heap.size W14 y5) := bt Z4.out z5
    clear z5
    obtain ⟨⟨cd0, cd1⟩, ⟨ch0, ch1, ch2⟩, ⟨cx0, cx1⟩, lh, lx⟩ := KK.out y5 (E0.out _ (EW.out _ Z5.out))
    have ld := Nat.lt_of_succ_lt lh
    obtain ⟨p0, p1⟩ := K13.out y5 Z5.out
    have R6 := sints_any (some ⟨g13, 0, none⟩) (some ⟨y5.heap.size, 0, none⟩) 1 1 [i1] [i1] (y5.alloc (.cells #[.int .i64 i1] 3)) ((V13.out _ Z5.out).below (one_block _ _)) (iv_one y5 i1) (by simp) (by simp)
    rw [decide_eq_true rfl] at R6
    go_wp2_with (first
      | (go_at_call 17; refine R6.mono ?_; rintro e y6 ⟨rfl, z6⟩; clear R6)
      | (go_at_call 8; refine (HA _).mono ?_; rintro e wz ⟨rfl, bz⟩; clear HA))
    go_ret
    exact ⟨rfl, bt (HBW.out _ (E0.out _ (EW.out _ Z5.out))) (bt (one_block _ _) (bt z6 bz))⟩
set_option maxHeartbeats 12800000 in
theorem walk_d (d0 : Int) (p1 k1 i1 : Int) (a2 : Option Addr) (len2 cap2 : Nat) (y2 : List Int) (w : World) (hd0 : WfI d0) (w1 : WfI p1 ∧ WfI k1 ∧ WfI i1) (w2 : y2.length = len2 ∧ BV w a2 y2 ∧ (a2 = none → cap2 = 0) ∧ len2 ≤ cap2 ∧ cap2 ≤ 9223372036854775807) (h2 : ¬ 600 < len2) : Calls Try.prog 4 #[dv d0 none 0 0, hwv p1 k1 i1, .slice a2 len2 cap2] w fun e w' => e = .returned (.bool true) ∧ Below w.heap.size w w' := by
  have HA := awake_any
  obtain ⟨rfl, hbv, hn2, hc2, hm2⟩ := w2
  obtain ⟨wp1, wk1, wi1⟩ := w1
  unfold dv hwv
  unfold WfI at *
  have hn : (none : Option Addr) = none → 0 = 0 := fun _ => rfl
  have h4 : decide ((600 : Int) < (y2.length : Int)) = false := by simp; omega
  have HIV : Hid (∀ W, Below w.heap.size w W → IV W none []) := fun W hW => .inl rfl
  have HRAW : Hid (∀ W, Below w.heap.size w W → BV W a2 y2) := fun W hW => hbv.below hW
  have hdl : (dblL d0 []).length ≤ 600 := by
    unfold dblL
    split
    · rw [tabL_len]; simp
    · simp
  have hhl : (hlvL d0 []).length ≤ 300 := by
    unfold hlvL
    split
    · rw [tabL_len]; simp
    · simp
  have hsl : (setL d0 [] p1 k1 i1).length ≤ 300 := by rw [setL_len]; simp
  have hgl : (gtL k1 y2).length ≤ 600 := by
    unfold gtL
    split
    · have := unL_len y2; omega
    · simp
  obtain ⟨W0, hW0⟩ : ∃ W0, W0 = (w.alloc (.cells #[.int .i64 d0, .slice none 0 0] 24)).alloc (.cells #[.int .i64 p1, .int .i64 k1, .int .i64 i1] 44) := ⟨_, rfl⟩
  have HB0 : Hid (Below w.heap.size w W0) := by rw [hW0]; exact two_blocks _ _ _
  have HS0 : Hid (W0.heap.size = w.heap.size + 1 + 1) := by rw [hW0]; simp [Hid]
  have CL : Hid (∀ W, Below W0.heap.size W0 W → (W.cell? ⟨w.heap.size, 0, none⟩ = some (.int .i64 d0) ∧ W.cell? ⟨w.heap.size, 1, none⟩ = some (.slice none 0 0)) ∧ (W.cell? ⟨w.heap.size + 1, 0, none⟩ = some (.int .i64 p1) ∧ W.cell? ⟨w.heap.size + 1, 1, none⟩ = some (.int .i64 k1) ∧ W.cell? ⟨w.heap.size + 1, 2, none⟩ = some (.int .i64 i1))) := fun W hW => by
    rw [hW0] at hW
    exact boxesH hW
  obtain ⟨i0, hi, hz0, hz1, hz2⟩ := info_parts Try.info3
  clear hd0 hbv hc2 hm2
  go_enter Try.func4, Try.ntmps4
  go_wp2
  rw [← hW0]
  clear hW0 h4
  refine wp_region_noPanic ?_
  refine name_ops ?_
  intro O QQ HO HQ
  refine wp_region_held_drew (S := fun W => Below W0.heap.size W0 W) (by kernel_rfl) (Below.refl _ _).drew (fun hS => ?_)
  rw [show O.size = 9 by rw [HO.out]; rfl]
  refine wpAnyH_take (i := 0) (v := .pointer (some ⟨w.heap.size, 0, none⟩)) (by rw [HO.out]; simp only [List.getElem?_toArray, List.getElem?_cons_succ, List.getElem?_cons_zero]; rfl) (by rw [HO.out]; kernel_rfl) (by rw [HO.out]; kernel_rfl) (by rw [HO.out]; kernel_rfl) (by rw [HQ.out]; exact fun _ _ _ h => h) (Or.inl ⟨by first | rfl | (rw [HO.out]; kernel_rfl), ?_⟩) hS ?_
  · intro w' hSw
    go_simp
  try simp only [Act.put, List.setIfInBounds_toArray, List.set_cons_zero, List.set_cons_succ]
  refine wpAnyH_take (i := 1) (v := .int .i64 d0) (by rw [HO.out]; simp only [List.getElem?_toArray, List.getElem?_cons_succ, List.getElem?_cons_zero]; rfl) (by rw [HO.out]; kernel_rfl) (by rw [HO.out]; kernel_rfl) (by rw [HO.out]; kernel_rfl) (by rw [HQ.out]; exact fun _ _ _ h => h) (Or.inl ⟨by first | rfl | (rw [HO.out]; kernel_rfl), ?_⟩) hS ?_
  · intro w' hSw
    have q := (CL.out _ hSw).1
    obtain ⟨q0, q1⟩ := q
    go_simp
  try simp only [Act.put, List.setIfInBounds_toArray, List.set_cons_zero, List.set_cons_succ]
  refine wpAnyH_take (i := 2) (v := .slice none 0 0) (by rw [HO.out]; simp only [List.getElem?_toArray, List.getElem?_cons_succ, List.getElem?_cons_zero]; rfl) (by rw [HO.out]; kernel_rfl) (by rw [HO.out]; kernel_rfl) (by rw [HO.out]; kernel_rfl) (by rw [HQ.out]; exact fun _ _ _ h => h) (Or.inl ⟨by first | rfl | (rw [HO.out]; kernel_rfl), ?_⟩) hS ?_
  · intro w' hSw
    go_simp
  try simp only [Act.put, List.setIfInBounds_toArray, List.set_cons_zero, List.set_cons_succ]
  refine wpAnyH_take (i := 3) (v := .pointer (some ⟨w.heap.size, 1, none⟩)) (by rw [HO.out]; simp only [List.getElem?_toArray, List.getElem?_cons_succ, List.getElem?_cons_zero]; rfl) (by rw [HO.out]; kernel_rfl) (by rw [HO.out]; kernel_rfl) (by rw [HO.out]; kernel_rfl) (by rw [HQ.out]; exact fun _ _ _ h => h) (Or.inl ⟨by first | rfl | (rw [HO.out]; kernel_rfl), ?_⟩) hS ?_
  · intro w' hSw
    go_simp
  try simp only [Act.put, List.setIfInBounds_toArray, List.set_cons_zero, List.set_cons_succ]
  refine wpAnyH_take (i := 4) (v := .slice none 0 0) (by rw [HO.out]; simp only [List.getElem?_toArray, List.getElem?_cons_succ, List.getElem?_cons_zero]; rfl) (by rw [HO.out]; kernel_rfl) (by rw [HO.out]; kernel_rfl) (by rw [HO.out]; kernel_rfl) (by rw [HQ.out]; exact fun _ _ _ h => h) (Or.inl ⟨by first | rfl | (rw [HO.out]; kernel_rfl), ?_⟩) hS ?_
  · intro w' hSw
    have q := (CL.out _ hSw).1
    obtain ⟨q0, q1⟩ := q
    go_simp
  try simp only [Act.put, List.setIfInBounds_toArray, List.set_cons_zero, List.set_cons_succ]
  refine wpAnyH_ready (rs := [5, 7]) (by rw [HO.out]; kernel_rfl) (by simp) ?_
  refine AllReadyH.cons (o := _) (by rw [HO.out]; simp only [List.getElem?_toArray, List.getElem?_cons_succ, List.getElem?_cons_zero]; rfl) (fun K5 hK5 => ?_) (AllReadyH.cons (o := _) (by rw [HO.out]; simp only [List.getElem?_toArray, List.getElem?_cons_succ, List.getElem?_cons_zero]; rfl) (fun K7 hK7 => ?_) AllReadyH.nil)
  · go_simp
    refine hK5.out _ _ (Below.refl _ _).drew (fun hS2 => ?_)
    try simp only [Act.put, List.setIfInBounds_toArray, List.set_cons_zero, List.set_cons_succ]
    refine wpAnyH_take (i := 6) (v := .agg #[.int .i64 d0, .slice none 0 0]) (by rw [HO.out]; simp only [List.getElem?_toArray, List.getElem?_cons_succ, List.getElem?_cons_zero]; rfl) (by rw [HO.out]; kernel_rfl) (by rw [HO.out]; kernel_rfl) (by rw [HO.out]; kernel_rfl) (by rw [HQ.out]; exact fun _ _ _ h => h) (Or.inl ⟨by first | rfl | (rw [HO.out]; kernel_rfl), ?_⟩) hS2 ?_
    · intro w' hSw
      go_simp
    try simp only [Act.put, List.setIfInBounds_toArray, List.set_cons_zero, List.set_cons_succ]
    refine wpAnyH_ready (rs := [7]) (by rw [HO.out]; kernel_rfl) (by simp) ?_
    refine AllReadyH.cons (o := _) (by rw [HO.out]; simp only [List.getElem?_toArray, List.getElem?_cons_succ, List.getElem?_cons_zero]; rfl) (fun Ka hKa => ?_) AllReadyH.nil
    go_simp
    refine hKa.out _ _ (one_block _ _).drew (fun hS3 => ?_)
    try simp only [Act.put, List.setIfInBounds_toArray, List.set_cons_zero, List.set_cons_succ]
    refine wpAnyH_ready (rs := [8]) (by rw [HO.out]; kernel_rfl) (by simp) ?_
    refine AllReadyH.cons (o := _) (by rw [HO.out]; simp only [List.getElem?_toArray, List.getElem?_cons_succ, List.getElem?_cons_zero]; rfl) (fun Kb hKb => ?_) AllReadyH.nil
    go_simp
    refine hKb.out _ _ (one_block _ _).drew (fun hS4 => ?_)
    try simp only [Act.put, List.setIfInBounds_toArray, List.set_cons_zero, List.set_cons_succ]
    refine wpAnyH_done (by rw [HO.out]; kernel_rfl) ?_ _
    rw [HQ.out]
    refine NoPanic.normal ?_
    obtain ⟨W1, hW1⟩ : ∃ W1, W1 = (W0.alloc (.cells #[.int .i64 d0, .slice none 0 0] 26)).drew := ⟨_, rfl⟩
    have HW1 : Hid (Below w.heap.size w W1) := by rw [hW1]; exact bt HB0.out (one_block _ _).drew
    obtain ⟨ax, hax⟩ : ∃ ax : Option Addr, ax = none := ⟨_, rfl⟩
    have HVX : Hid (∀ W, Below W1.heap.size W1 W → IV W none []) := fun W hW => .inl rfl
    have nx : (none : Option Addr) = none → 0 = 0 := fun _ => rfl
    obtain ⟨bx, hbx⟩ : ∃ bx, bx = W0.heap.size := ⟨_, rfl⟩
    have KK : Hid (∀ W, Below W1.heap.size W1 W → (W.cell? ⟨w.heap.size, 0, none⟩ = some (.int .i64 d0) ∧ W.cell? ⟨w.heap.size, 1, none⟩ = some (.slice none 0 0)) ∧ (W.cell? ⟨w.heap.size + 1, 0, none⟩ = some (.int .i64 p1) ∧ W.cell? ⟨w.heap.size + 1, 1, none⟩ = some (.int .i64 k1) ∧ W.cell? ⟨w.heap.size + 1, 2, none⟩ = some (.int .i64 i1)) ∧ (W.cell? ⟨bx, 0, none⟩ = some (.int .i64 d0) ∧ W.cell? ⟨bx, 1, none⟩ = some (.slice none 0 0)) ∧ w.heap.size + 1 < W.heap.size ∧ bx < W.heap.size) := fun W hW => by
      rw [hW1] at hW
      have k := CL.out _ (bt (one_block _ _).drew hW)
      have kb := box2 (w := W0) (bt (Below.refl _ _).drew hW)
      rw [← hbx] at kb
      exact ⟨k.1, k.2, kb, (by have := World.block_lt_of_cell? _ _ k.2.1; simpa using this), (by have := World.block_lt_of_cell? _ _ kb.1; simpa using this)⟩
    try rw [← hW1]
    rw [← hbx]
    clear hW1 hbx CL
    clear hS hS2 hS3 hS4 hKa hKb hK5 Ka Kb K5
    have HDX : Hid (∀ W, Below W1.heap.size W1 W → IV W none []) := HVX
    have HBW : Hid (∀ W, Below W1.heap.size W1 W → Below w.heap.size w W) := fun W hW => bt HW1.out hW
    obtain ⟨⟨cd0, cd1⟩, ⟨ch0, ch1, ch2⟩, ⟨cx0, cx1⟩, lh, lx⟩ := KK.out W1 (Below.refl _ _)
    have ld := Nat.lt_of_succ_lt lh
    have T0 : Hid (Below W1.heap.size W1 W1) := Below.refl _ _
    have C5 : Hid (∀ W, Below W1.heap.size W1 W → Calls Try.prog 22 #[.agg #[.int .i64 d0, .slice none 0 0]] W fun e w' => ∃ a c, e = .returned (.tuple #[.agg #[.int .i64 (dblD d0 []), .slice a (dblL d0 []).length c], .bool (dblB d0 [])]) ∧ IV w' a (dblL d0 []) ∧ Below W.heap.size W w') := fun W hW => by
      refine (double_any d0 none 0 [] W (HVX.out W hW) (by first | omega | simp) (fun _ => rfl)).mono ?_
      rintro e w' ⟨v, rfl, ⟨a, c, rfl, h1, h2⟩, h3⟩
      exact ⟨a, c, rfl, h2, h3⟩
    have C6 : Hid (∀ W, Below W1.heap.size W1 W → Calls Try.prog 23 #[.agg #[.int .i64 d0, .slice none 0 0]] W fun e w' => ∃ a c, e = .returned (.tuple #[.agg #[.int .i64 (dblD d0 []), .slice a (dblL d0 []).length c], .bool (dblB d0 [])]) ∧ IV w' a (dblL d0 []) ∧ Below W.heap.size W w') := fun W hW => by
      refine (rdouble_any d0 none 0 [] W (HIV.out W (HBW.out W hW)) (by first | omega | simp) (fun _ => rfl)).mono ?_
      rintro e w' ⟨v, rfl, ⟨a, c, rfl, h1, h2⟩, h3⟩
      exact ⟨a, c, rfl, h2, h3⟩
    have C7 : Hid (∀ W, Below W1.heap.size W1 W → Calls Try.prog 24 #[.agg #[.int .i64 d0, .slice none 0 0]] W fun e w' => ∃ a c, e = .returned (.tuple #[.agg #[.int .i64 (hlvD d0 []), .slice a (hlvL d0 []).length c], .bool (hlvB d0 [])]) ∧ IV w' a (hlvL d0 []) ∧ Below W.heap.size W w') := fun W hW => by
      refine (halve_any d0 none 0 [] W (HVX.out W hW) (by first | omega | simp) (fun _ => rfl)).mono ?_
      rintro e w' ⟨v, rfl, ⟨a, c, rfl, h1, h2⟩, h3⟩
      exact ⟨a, c, rfl, h2, h3⟩
    have C8 : Hid (∀ W, Below W1.heap.size W1 W → Calls Try.prog 25 #[.agg #[.int .i64 d0, .slice none 0 0]] W fun e w' => ∃ a c, e = .returned (.tuple #[.agg #[.int .i64 (hlvD d0 []), .slice a (hlvL d0 []).length c], .bool (hlvB d0 [])]) ∧ IV w' a (hlvL d0 []) ∧ Below W.heap.size W w') := fun W hW => by
      refine (rhalve_any d0 none 0 [] W (HIV.out W (HBW.out W hW)) (by first | omega | simp) (fun _ => rfl)).mono ?_
      rintro e w' ⟨v, rfl, ⟨a, c, rfl, h1, h2⟩, h3⟩
      exact ⟨a, c, rfl, h2, h3⟩
    have C9 : Hid (∀ W, Below W1.heap.size W1 W → Calls Try.prog 26 #[.agg #[.int .i64 d0, .slice none 0 0], .int .i64 p1, .int .i64 k1, .int .i64 i1] W fun e w' => ∃ a c, e = .returned (.agg #[.int .i64 d0, .slice a (setL d0 [] p1 k1 i1).length c]) ∧ IV w' a (setL d0 [] p1 k1 i1) ∧ Below W.heap.size W w') := fun W hW => by
      refine (set_any d0 none 0 [] p1 k1 i1 W (HVX.out W hW) (by first | omega | simp) (fun _ => rfl)).mono ?_
      rintro e w' ⟨v, rfl, ⟨a, c, rfl, h1, h2⟩, h3⟩
      exact ⟨a, c, rfl, h2, h3⟩
    have C10 : Hid (∀ W, Below W1.heap.size W1 W → Calls Try.prog 27 #[.agg #[.int .i64 d0, .slice none 0 0], .int .i64 p1, .int .i64 k1, .int .i64 i1] W fun e w' => ∃ a c, e = .returned (.agg #[.int .i64 d0, .slice a (setL d0 [] p1 k1 i1).length c]) ∧ IV w' a (setL d0 [] p1 k1 i1) ∧ Below W.heap.size W w') := fun W hW => by
      refine (rset_any d0 none 0 [] p1 k1 i1 W (HIV.out W (HBW.out W hW)) (by first | omega | simp) (fun _ => rfl)).mono ?_
      rintro e w' ⟨v, rfl, ⟨a, c, rfl, h1, h2⟩, h3⟩
      exact ⟨a, c, rfl, h2, h3⟩
    have C11 : Hid (∀ W, Below W1.heap.size W1 W → Calls Try.prog 28 #[.int .i64 k1, .slice a2 y2.length cap2] W fun e w' => ∃ a c, e = .returned (.tuple #[.agg #[.int .i64 (gtD k1 y2), .slice a (gtL k1 y2).length c], .int .i64 (gtE k1 y2)]) ∧ IV w' a (gtL k1 y2) ∧ Below W.heap.size W w') := fun W hW => by
      refine (get_main k1 a2 cap2 y2 W (HRAW.out W (HBW.out W hW)) hn2 (by first | omega | simp)).mono ?_
      rintro e w' ⟨v, rfl, ⟨a, c, rfl, h1, h2⟩, h3⟩
      exact ⟨a, c, rfl, h2, h3⟩
    have C12 : Hid (∀ W, Below W1.heap.size W1 W → Calls Try.prog 29 #[.int .i64 k1, .slice a2 y2.length cap2] W fun e w' => ∃ a c, e = .returned (.tuple #[.agg #[.int .i64 (gtD k1 y2), .slice a (gtL k1 y2).length c], .int .i64 (gtE k1 y2)]) ∧ IV w' a (gtL k1 y2) ∧ Below W.heap.size W w') := fun W hW => by
      refine (rget_main k1 a2 cap2 y2 W (HRAW.out W (HBW.out W hW)) hn2 (by first | omega | simp)).mono ?_
      rintro e w' ⟨v, rfl, ⟨a, c, rfl, h1, h2⟩, h3⟩
      exact ⟨a, c, rfl, h2, h3⟩
    generalize dblD d0 [] = dD at *
    generalize dblL d0 [] = dL at *
    generalize dblB d0 [] = dB at *
    generalize hlvD d0 [] = hD at *
    generalize hlvL d0 [] = hL at *
    generalize hlvB d0 [] = hB at *
    generalize setL d0 [] p1 k1 i1 = sL at *
    generalize gtD k1 y2 = gD at *
    generalize gtL k1 y2 = gL at *
    generalize gtE k1 y2 = gE at *
    go_wp2_with fail
    refine (C5.out W1 T0.out).mono ?_
    rintro e w5 ⟨a5', c5', rfl, iv5, b5⟩
    clear cd0 cd1 ch0 ch1 ch2 cx0 cx1 lh lx ld C5
    obtain ⟨⟨cd0, cd1⟩, ⟨ch0, ch1, ch2⟩, ⟨cx0, cx1⟩, lh, lx⟩ := KK.out w5 (bt T0.out b5)
    have ld := Nat.lt_of_succ_lt lh
    obtain ⟨X5, hX5⟩ : ∃ X, X = w5.alloc (.cells #[.int .i64 dD, .slice a5' dL.length c5'] 26) := ⟨_, rfl⟩
    have S5 : Hid (Below W1.heap.size W1 X5) := by rw [hX5]; exact bt b5 (one_block _ _)
    have T5 : Hid (Below W1.heap.size W1 X5) := bt T0.out S5.out
    have K5 : Hid (∀ W, Below X5.heap.size X5 W → W.cell? ⟨w5.heap.size, 0, none⟩ = some (.int .i64 dD) ∧ W.cell? ⟨w5.heap.size, 1, none⟩ = some (.slice a5' dL.length c5') ∧ w5.heap.size < W.heap.size) := fun W hW => by
      rw [hX5] at hW
      have hb := box2 hW
      exact ⟨hb.1, hb.2, (by have := World.block_lt_of_cell? _ _ hb.1; simpa using this)⟩
    have V5 : Hid (∀ W, Below X5.heap.size X5 W → IV W a5' dL) := fun W hW => by
      rw [hX5] at hW
      exact iv5.below (bt (one_block _ _) hW)
    clear iv5 b5
    go_wp2_with fail
    rw [← hX5]
    clear hX5
    refine (C6.out X5 T5.out).mono ?_
    rintro e w6 ⟨a6', c6', rfl, iv6, b6⟩
    clear cd0 cd1 ch0 ch1 ch2 cx0 cx1 lh lx ld C6
    obtain ⟨⟨cd0, cd1⟩, ⟨ch0, ch1, ch2⟩, ⟨cx0, cx1⟩, lh, lx⟩ := KK.out w6 (bt T5.out b6)
    have ld := Nat.lt_of_succ_lt lh
    obtain ⟨X6, hX6⟩ : ∃ X, X = w6.alloc (.cells #[.int .i64 dD, .slice a6' dL.length c6'] 24) := ⟨_, rfl⟩
    have S6 : Hid (Below X5.heap.size X5 X6) := by rw [hX6]; exact bt b6 (one_block _ _)
    have T6 : Hid (Below W1.heap.size W1 X6) := bt T5.out S6.out
    have K6 : Hid (∀ W, Below X6.heap.size X6 W → W.cell? ⟨w6.heap.size, 0, none⟩ = some (.int .i64 dD) ∧ W.cell? ⟨w6.heap.size, 1, none⟩ = some (.slice a6' dL.length c6') ∧ w6.heap.size < W.heap.size) := fun W hW => by
      rw [hX6] at hW
      have hb := box2 hW
      exact ⟨hb.1, hb.2, (by have := World.block_lt_of_cell? _ _ hb.1; simpa using this)⟩
    have V6 : Hid (∀ W, Below X6.heap.size X6 W → IV W a6' dL) := fun W hW => by
      rw [hX6] at hW
      exact iv6.below (bt (one_block _ _) hW)
    clear iv6 b6
    go_wp2_with fail
    rw [← hX6]
    clear hX6
    refine (C7.out X6 T6.out).mono ?_
    rintro e w7 ⟨a7', c7', rfl, iv7, b7⟩
    clear cd0 cd1 ch0 ch1 ch2 cx0 cx1 lh lx ld C7
    obtain ⟨⟨cd0, cd1⟩, ⟨ch0, ch1, ch2⟩, ⟨cx0, cx1⟩, lh, lx⟩ := KK.out w7 (bt T6.out b7)
    have ld := Nat.lt_of_succ_lt lh
    obtain ⟨X7, hX7⟩ : ∃ X, X = w7.alloc (.cells #[.int .i64 hD, .slice a7' hL.length c7'] 26) := ⟨_, rfl⟩
    have S7 : Hid (Below X6.heap.size X6 X7) := by rw [hX7]; exact bt b7 (one_block _ _)
    have T7 : Hid (Below W1.heap.size W1 X7) := bt T6.out S7.out
    have K7 : Hid (∀ W, Below X7.heap.size X7 W → W.cell? ⟨w7.heap.size, 0, none⟩ = some (.int .i64 hD) ∧ W.cell? ⟨w7.heap.size, 1, none⟩ = some (.slice a7' hL.length c7') ∧ w7.heap.size < W.heap.size) := fun W hW => by
      rw [hX7] at hW
      have hb := box2 hW
      exact ⟨hb.1, hb.2, (by have := World.block_lt_of_cell? _ _ hb.1; simpa using this)⟩
    have V7 : Hid (∀ W, Below X7.heap.size X7 W → IV W a7' hL) := fun W hW => by
      rw [hX7] at hW
      exact iv7.below (bt (one_block _ _) hW)
    clear iv7 b7
    go_wp2_with fail
    rw [← hX7]
    clear hX7
    refine (C8.out X7 T7.out).mono ?_
    rintro e w8 ⟨a8', c8', rfl, iv8, b8⟩
    clear cd0 cd1 ch0 ch1 ch2 cx0 cx1 lh lx ld C8
    obtain ⟨⟨cd0, cd1⟩, ⟨ch0, ch1, ch2⟩, ⟨cx0, cx1⟩, lh, lx⟩ := KK.out w8 (bt T7.out b8)
    have ld := Nat.lt_of_succ_lt lh
    obtain ⟨X8, hX8⟩ : ∃ X, X = w8.alloc (.cells #[.int .i64 hD, .slice a8' hL.length c8'] 24) := ⟨_, rfl⟩
    have S8 : Hid (Below X7.heap.size X7 X8) := by rw [hX8]; exact bt b8 (one_block _ _)
    have T8 : Hid (Below W1.heap.size W1 X8) := bt T7.out S8.out
    have K8 : Hid (∀ W, Below X8.heap.size X8 W → W.cell? ⟨w8.heap.size, 0, none⟩ = some (.int .i64 hD) ∧ W.cell? ⟨w8.heap.size, 1, none⟩ = some (.slice a8' hL.length c8') ∧ w8.heap.size < W.heap.size) := fun W hW => by
      rw [hX8] at hW
      have hb := box2 hW
      exact ⟨hb.1, hb.2, (by have := World.block_lt_of_cell? _ _ hb.1; simpa using this)⟩
    have V8 : Hid (∀ W, Below X8.heap.size X8 W → IV W a8' hL) := fun W hW => by
      rw [hX8] at hW
      exact iv8.below (bt (one_block _ _) hW)
    clear iv8 b8
    go_wp2_with fail
    rw [← hX8]
    clear hX8
    refine (C9.out X8 T8.out).mono ?_
    rintro e w9 ⟨a9', c9', rfl, iv9, b9⟩
    clear cd0 cd1 ch0 ch1 ch2 cx0 cx1 lh lx ld C9
    obtain ⟨⟨cd0, cd1⟩, ⟨ch0, ch1, ch2⟩, ⟨cx0, cx1⟩, lh, lx⟩ := KK.out w9 (bt T8.out b9)
    have ld := Nat.lt_of_succ_lt lh
    obtain ⟨X9, hX9⟩ : ∃ X, X = w9.alloc (.cells #[.int .i64 d0, .slice a9' sL.length c9'] 26) := ⟨_, rfl⟩
    have S9 : Hid (Below X8.heap.size X8 X9) := by rw [hX9]; exact bt b9 (one_block _ _)
    have T9 : Hid (Below W1.heap.size W1 X9) := bt T8.out S9.out
    have K9 : Hid (∀ W, Below X9.heap.size X9 W → W.cell? ⟨w9.heap.size, 0, none⟩ = some (.int .i64 d0) ∧ W.cell? ⟨w9.heap.size, 1, none⟩ = some (.slice a9' sL.length c9') ∧ w9.heap.size < W.heap.size) := fun W hW => by
      rw [hX9] at hW
      have hb := box2 hW
      exact ⟨hb.1, hb.2, (by have := World.block_lt_of_cell? _ _ hb.1; simpa using this)⟩
    have V9 : Hid (∀ W, Below X9.heap.size X9 W → IV W a9' sL) := fun W hW => by
      rw [hX9] at hW
      exact iv9.below (bt (one_block _ _) hW)
    clear iv9 b9
    go_wp2_with fail
    rw [← hX9]
    clear hX9
    refine (C10.out X9 T9.out).mono ?_
    rintro e w10 ⟨a10', c10', rfl, iv10, b10⟩
    clear cd0 cd1 ch0 ch1 ch2 cx0 cx1 lh lx ld C10
    obtain ⟨⟨cd0, cd1⟩, ⟨ch0, ch1, ch2⟩, ⟨cx0, cx1⟩, lh, lx⟩ := KK.out w10 (bt T9.out b10)
    have ld := Nat.lt_of_succ_lt lh
    obtain ⟨X10, hX10⟩ : ∃ X, X = w10.alloc (.cells #[.int .i64 d0, .slice a10' sL.length c10'] 24) := ⟨_, rfl⟩
    have S10 : Hid (Below X9.heap.size X9 X10) := by rw [hX10]; exact bt b10 (one_block _ _)
    have T10 : Hid (Below W1.heap.size W1 X10) := bt T9.out S10.out
    have K10 : Hid (∀ W, Below X10.heap.size X10 W → W.cell? ⟨w10.heap.size, 0, none⟩ = some (.int .i64 d0) ∧ W.cell? ⟨w10.heap.size, 1, none⟩ = some (.slice a10' sL.length c10') ∧ w10.heap.size < W.heap.size) := fun W hW => by
      rw [hX10] at hW
      have hb := box2 hW
      exact ⟨hb.1, hb.2, (by have := World.block_lt_of_cell? _ _ hb.1; simpa using this)⟩
    have V10 : Hid (∀ W, Below X10.heap.size X10 W → IV W a10' sL) := fun W hW => by
      rw [hX10] at hW
      exact iv10.below (bt (one_block _ _) hW)
    clear iv10 b10
    go_wp2_with fail
    rw [← hX10]
    clear hX10
    refine (C11.out X10 T10.out).mono ?_
    rintro e w11 ⟨a11', c11', rfl, iv11, b11⟩
    clear cd0 cd1 ch0 ch1 ch2 cx0 cx1 lh lx ld C11
    obtain ⟨⟨cd0, cd1⟩, ⟨ch0, ch1, ch2⟩, ⟨cx0, cx1⟩, lh, lx⟩ := KK.out w11 (bt T10.out b11)
    have ld := Nat.lt_of_succ_lt lh
    obtain ⟨X11, hX11⟩ : ∃ X, X = w11.alloc (.cells #[.int .i64 gD, .slice a11' gL.length c11'] 26) := ⟨_, rfl⟩
    have S11 : Hid (Below X10.heap.size X10 X11) := by rw [hX11]; exact bt b11 (one_block _ _)
    have T11 : Hid (Below W1.heap.size W1 X11) := bt T10.out S11.out
    have K11 : Hid (∀ W, Below X11.heap.size X11 W → W.cell? ⟨w11.heap.size, 0, none⟩ = some (.int .i64 gD) ∧ W.cell? ⟨w11.heap.size, 1, none⟩ = some (.slice a11' gL.length c11') ∧ w11.heap.size < W.heap.size) := fun W hW => by
      rw [hX11] at hW
      have hb := box2 hW
      exact ⟨hb.1, hb.2, (by have := World.block_lt_of_cell? _ _ hb.1; simpa using this)⟩
    have V11 : Hid (∀ W, Below X11.heap.size X11 W → IV W a11' gL) := fun W hW => by
      rw [hX11] at hW
      exact iv11.below (bt (one_block _ _) hW)
    clear iv11 b11
    go_wp2_with fail
    rw [← hX11]
    clear hX11
    refine (C12.out X11 T11.out).mono ?_
    rintro e w12 ⟨a12', c12', rfl, iv12, b12⟩
    clear cd0 cd1 ch0 ch1 ch2 cx0 cx1 lh lx ld C12
    obtain ⟨⟨cd0, cd1⟩, ⟨ch0, ch1, ch2⟩, ⟨cx0, cx1⟩, lh, lx⟩ := KK.out w12 (bt T11.out b12)
    have ld := Nat.lt_of_succ_lt lh
    obtain ⟨X12, hX12⟩ : ∃ X, X = w12.alloc (.cells #[.int .i64 gD, .slice a12' gL.length c12'] 24) := ⟨_, rfl⟩
    have S12 : Hid (Below X11.heap.size X11 X12) := by rw [hX12]; exact bt b12 (one_block _ _)
    have T12 : Hid (Below W1.heap.size W1 X12) := bt T11.out S12.out
    have K12 : Hid (∀ W, Below X12.heap.size X12 W → W.cell? ⟨w12.heap.size, 0, none⟩ = some (.int .i64 gD) ∧ W.cell? ⟨w12.heap.size, 1, none⟩ = some (.slice a12' gL.length c12') ∧ w12.heap.size < W.heap.size) := fun W hW => by
      rw [hX12] at hW
      have hb := box2 hW
      exact ⟨hb.1, hb.2, (by have := World.block_lt_of_cell? _ _ hb.1; simpa using this)⟩
    have V12 : Hid (∀ W, Below X12.heap.size X12 W → IV W a12' gL) := fun W hW => by
      rw [hX12] at hW
      exact iv12.below (bt (one_block _ _) hW)
    clear iv12 b12
    go_wp2_with fail
    rw [← hX12]
    clear hX12
    refine (one_any i1 X12).mono ?_
    rintro e w13 ⟨g13, rfl, iv13, _, b13⟩
    clear cd0 cd1 ch0 ch1 ch2 cx0 cx1 lh lx ld
    obtain ⟨W14, hW14⟩ : ∃ X, X = w13.alloc (.cells #[.int .i64 0, .slice (some ⟨g13, 0, none⟩) 1 1] 26) := ⟨_, rfl⟩
    have S14 : Hid (Below X12.heap.size X12 w13) := b13
    have K13 : Hid (∀ W, Below W14.heap.size W14 W → W.cell? ⟨w13.heap.size, 0, none⟩ = some (.int .i64 0) ∧ W.cell? ⟨w13.heap.size, 1, none⟩ = some (.slice (some ⟨g13, 0, none⟩) 1 1)) := fun W hW => by
      rw [hW14] at hW
      exact box2 hW
    have V13 : Hid (∀ W, Below W14.heap.size W14 W → IV W (some ⟨g13, 0, none⟩) [i1]) := fun W hW => by
      rw [hW14] at hW
      exact iv13.below (bt (one_block _ _) hW)
    have OB : Hid (Below w13.heap.size w13 W14) := by rw [hW14]; exact one_block _ _
    clear iv13 b13
    have E12 : Hid (∀ W, Below w13.heap.size w13 W → Below X12.heap.size X12 W) := fun W hW => bt S14.out hW
    have E11 : Hid (∀ W, Below w13.heap.size w13 W → Below X11.heap.size X11 W) := fun W hW => bt S12.out (E12.out W hW)
    have E10 : Hid (∀ W, Below w13.heap.size w13 W → Below X10.heap.size X10 W) := fun W hW => bt S11.out (E11.out W hW)
    have E9 : Hid (∀ W, Below w13.heap.size w13 W → Below X9.heap.size X9 W) := fun W hW => bt S10.out (E10.out W hW)
    have E8 : Hid (∀ W, Below w13.heap.size w13 W → Below X8.heap.size X8 W) := fun W hW => bt S9.out (E9.out W hW)
    have E7 : Hid (∀ W, Below w13.heap.size w13 W → Below X7.heap.size X7 W) := fun W hW => bt S8.out (E8.out W hW)
    have E6 : Hid (∀ W, Below w13.heap.size w13 W → Below X6.heap.size X6 W) := fun W hW => bt S7.out (E7.out W hW)
    have E5 : Hid (∀ W, Below w13.heap.size w13 W → Below X5.heap.size X5 W) := fun W hW => bt S6.out (E6.out W hW)
    have E0 : Hid (∀ W, Below w13.heap.size w13 W → Below W1.heap.size W1 W) := fun W hW => bt S5.out (E5.out W hW)
    obtain ⟨p0, p1, p2⟩ := K5.out w13 (E5.out _ (Below.refl _ _))
    obtain ⟨q0, q1, q2⟩ := K6.out w13 (E6.out _ (Below.refl _ _))
    go_wp2_with fail
    rw [← hW14]
    clear hW14 p0 p1 p2 q0 q1 q2
    have EW : Hid (∀ W, Below W14.heap.size W14 W → Below w13.heap.size w13 W) := fun W hW => bt OB.out hW
    have R1 := rsame_any dD dD a5' a6' c5' c6' dL dL W14 (V5.out _ (E5.out _ (EW.out _ (Below.refl _ _)))) (V6.out _ (E6.out _ (EW.out _ (Below.refl _ _)))) (by first | omega | simp) (by first | omega | simp)
    rw [sameD_refl] at R1
    unfold dv at R1
    refine R1.mono ?_
    rintro e y1 ⟨rfl, z1⟩
    clear R1
    have Z1 : Hid (Below W14.heap.size W14 y1) := bt (Below.refl _ _) z1
    clear z1
    obtain ⟨p0, p1, p2⟩ := K7.out y1 (E7.out _ (EW.out _ Z1.out))
    obtain ⟨q0, q1, q2⟩ := K8.out y1 (E8.out _ (EW.out _ Z1.out))
    go_wp2_with fail
    clear p0 p1 p2 q0 q1 q2
    have R2 := rsame_any hD hD a7' a8' c7' c8' hL hL y1 (V7.out _ (E7.out _ (EW.out _ Z1.out))) (V8.out _ (E8.out _ (EW.out _ Z1.out))) (by first | omega | simp) (by first | omega | simp)
    rw [sameD_refl] at R2
    unfold dv at R2
    refine R2.mono ?_
    rintro e y2 ⟨rfl, z2⟩
    clear R2
    have Z2 : Hid (Below W14.heap.size W14 y2) := bt Z1.out z2
    clear z2
    obtain ⟨p0, p1, p2⟩ := K9.out y2 (E9.out _ (EW.out _ Z2.out))
    obtain ⟨q0, q1, q2⟩ := K10.out y2 (E10.out _ (EW.out _ Z2.out))
    go_wp2_with fail
    clear p0 p1 p2 q0 q1 q2
    have R3 := rsame_any d0 d0 a9' a10' c9' c10' sL sL y2 (V9.out _ (E9.out _ (EW.out _ Z2.out))) (V10.out _ (E10.out _ (EW.out _ Z2.out))) (by first | omega | simp) (by first | omega | simp)
    rw [sameD_refl] at R3
    unfold dv at R3
    refine R3.mono ?_
    rintro e y3 ⟨rfl, z3⟩
    clear R3
    have Z3 : Hid (Below W14.heap.size W14 y3) := bt Z2.out z3
    clear z3
    obtain ⟨p0, p1, p2⟩ := K11.out y3 (E11.out _ (EW.out _ Z3.out))
    obtain ⟨q0, q1, q2⟩ := K12.out y3 (E12.out _ (EW.out _ Z3.out))
    go_wp2_with fail
    clear p0 p1 p2 q0 q1 q2
    have R4 := rsame_any gD gD a11' a12' c11' c12' gL gL y3 (V11.out _ (E11.out _ (EW.out _ Z3.out))) (V12.out _ (E12.out _ (EW.out _ Z3.out))) (by first | omega | simp) (by first | omega | simp)
    rw [sameD_refl] at R4
    unfold dv at R4
    refine R4.mono ?_
    rintro e y4 ⟨rfl, z4⟩
    clear R4
    have Z4 : Hid (Below W14.heap.size W14 y4) := bt Z3.out z4
    clear z4
    obtain ⟨⟨cd0, cd1⟩, ⟨ch0, ch1, ch2⟩, ⟨cx0, cx1⟩, lh, lx⟩ := KK.out y4 (E0.out _ (EW.out _ Z4.out))
    have ld := Nat.lt_of_succ_lt lh
    go_wp2_with fail
    clear cd0 cd1 ch0 ch1 ch2 cx0 cx1 lh lx ld
    have R5 := rsame_any d0 d0 none none 0 0 [] [] y4 (HVX.out _ (E0.out _ (EW.out _ Z4.out))) (HIV.out _ (HBW.out _ (E0.out _ (EW.out _ Z4.out)))) (by first | omega | simp) (by first | omega | simp)
    rw [sameD_refl] at R5
    unfold dv at R5
    refine R5.mono ?_
    rintro e y5 ⟨rfl, z5⟩
    clear R5
    have Z5 : Hid (Below W14.heap.size W14 y5) := bt Z4.out z5
    clear z5
    obtain ⟨⟨cd0, cd1⟩, ⟨ch0, ch1, ch2⟩, ⟨cx0, cx1⟩, lh, lx⟩ := KK.out y5 (E0.out _ (EW.out _ Z5.out))
    have ld := Nat.lt_of_succ_lt lh
    obtain ⟨p0, p1⟩ := K13.out y5 Z5.out
    have R6 := sints_any (some ⟨g13, 0, none⟩) (some ⟨y5.heap.size, 0, none⟩) 1 1 [i1] [i1] (y5.alloc (.cells #[.int .i64 i1] 3)) ((V13.out _ Z5.out).below (one_block _ _)) (iv_one y5 i1) (by simp) (by simp)
    rw [decide_eq_true rfl] at R6
    go_wp2_with (first
      | (go_at_call 17; refine R6.mono ?_; rintro e y6 ⟨rfl, z6⟩; clear R6)
      | (go_at_call 8; refine (HA _).mono ?_; rintro e wz ⟨rfl, bz⟩; clear HA))
    go_ret
    exact ⟨rfl, bt (HBW.out _ (E0.out _ (EW.out _ Z5.out))) (bt (one_block _ _) (bt z6 bz))⟩
  · go_simp
    refine hK7.out _ _ (one_block _ _).drew (fun hS2 => ?_)
    try simp only [Act.put, List.setIfInBounds_toArray, List.set_cons_zero, List.set_cons_succ]
    refine wpAnyH_ready (rs := [5]) (by rw [HO.out]; kernel_rfl) (by simp) ?_
    refine AllReadyH.cons (o := _) (by rw [HO.out]; simp only [List.getElem?_toArray, List.getElem?_cons_succ, List.getElem?_cons_zero]; rfl) (fun Ka hKa => ?_) AllReadyH.nil
    go_simp
    refine hKa.out _ _ (one_block _ _).drew (fun hS3 => ?_)
    try simp only [Act.put, List.setIfInBounds_toArray, List.set_cons_zero, List.set_cons_succ]
    refine wpAnyH_take (i := 6) (v := .agg #[.int .i64 d0, .slice none 0 0]) (by rw [HO.out]; simp only [List.getElem?_toArray, List.getElem?_cons_succ, List.getElem?_cons_zero]; rfl) (by rw [HO.out]; kernel_rfl) (by rw [HO.out]; kernel_rfl) (by rw [HO.out]; kernel_rfl) (by rw [HQ.out]; exact fun _ _ _ h => h) (Or.inl ⟨by first | rfl | (rw [HO.out]; kernel_rfl), ?_⟩) hS3 ?_
    · intro w' hSw
      go_simp
    try simp only [Act.put, List.setIfInBounds_toArray, List.set_cons_zero, List.set_cons_succ]
    refine wpAnyH_ready (rs := [8]) (by rw [HO.out]; kernel_rfl) (by simp) ?_
    refine AllReadyH.cons (o := _) (by rw [HO.out]; simp only [List.getElem?_toArray, List.getElem?_cons_succ, List.getElem?_cons_zero]; rfl) (fun Kb hKb => ?_) AllReadyH.nil
    go_simp
    refine hKb.out _ _ (one_block _ _).drew (fun hS4 => ?_)
    try simp only [Act.put, List.setIfInBounds_toArray, List.set_cons_zero, List.set_cons_succ]
    refine wpAnyH_done (by rw [HO.out]; kernel_rfl) ?_ _
    rw [HQ.out]
    refine NoPanic.normal ?_
    obtain ⟨W1, hW1⟩ : ∃ W1, W1 = (W0.alloc (.cells #[.int .i64 d0, .slice none 0 0] 26)).drew := ⟨_, rfl⟩
    have HW1 : Hid (Below w.heap.size w W1) := by rw [hW1]; exact bt HB0.out (one_block _ _).drew
    obtain ⟨ax, hax⟩ : ∃ ax : Option Addr, ax = none := ⟨_, rfl⟩
    have HVX : Hid (∀ W, Below W1.heap.size W1 W → IV W none []) := fun W hW => .inl rfl
    have nx : (none : Option Addr) = none → 0 = 0 := fun _ => rfl
    obtain ⟨bx, hbx⟩ : ∃ bx, bx = W0.heap.size := ⟨_, rfl⟩
    have KK : Hid (∀ W, Below W1.heap.size W1 W → (W.cell? ⟨w.heap.size, 0, none⟩ = some (.int .i64 d0) ∧ W.cell? ⟨w.heap.size, 1, none⟩ = some (.slice none 0 0)) ∧ (W.cell? ⟨w.heap.size + 1, 0, none⟩ = some (.int .i64 p1) ∧ W.cell? ⟨w.heap.size + 1, 1, none⟩ = some (.int .i64 k1) ∧ W.cell? ⟨w.heap.size + 1, 2, none⟩ = some (.int .i64 i1)) ∧ (W.cell? ⟨bx, 0, none⟩ = some (.int .i64 d0) ∧ W.cell? ⟨bx, 1, none⟩ = some (.slice none 0 0)) ∧ w.heap.size + 1 < W.heap.size ∧ bx < W.heap.size) := fun W hW => by
      rw [hW1] at hW
      have k := CL.out _ (bt (one_block _ _).drew hW)
      have kb := box2 (w := W0) (bt (Below.refl _ _).drew hW)
      rw [← hbx] at kb
      exact ⟨k.1, k.2, kb, (by have := World.block_lt_of_cell? _ _ k.2.1; simpa using this), (by have := World.block_lt_of_cell? _ _ kb.1; simpa using this)⟩
    try rw [← hW1]
    rw [← hbx]
    clear hW1 hbx CL
    clear hS hS2 hS3 hS4 hKa hKb hK7 Ka Kb K7
    have HDX : Hid (∀ W, Below W1.heap.size W1 W → IV W none []) := HVX
    have HBW : Hid (∀ W, Below W1.heap.size W1 W → Below w.heap.size w W) := fun W hW => bt HW1.out hW
    obtain ⟨⟨cd0, cd1⟩, ⟨ch0, ch1, ch2⟩, ⟨cx0, cx1⟩, lh, lx⟩ := KK.out W1 (Below.refl _ _)
    have ld := Nat.lt_of_succ_lt lh
    have T0 : Hid (Below W1.heap.size W1 W1) := Below.refl _ _
    have C5 : Hid (∀ W, Below W1.heap.size W1 W → Calls Try.prog 22 #[.agg #[.int .i64 d0, .slice none 0 0]] W fun e w' => ∃ a c, e = .returned (.tuple #[.agg #[.int .i64 (dblD d0 []), .slice a (dblL d0 []).length c], .bool (dblB d0 [])]) ∧ IV w' a (dblL d0 []) ∧ Below W.heap.size W w') := fun W hW => by
      refine (double_any d0 none 0 [] W (HVX.out W hW) (by first | omega | simp) (fun _ => rfl)).mono ?_
      rintro e w' ⟨v, rfl, ⟨a, c, rfl, h1, h2⟩, h3⟩
      exact ⟨a, c, rfl, h2, h3⟩
    have C6 : Hid (∀ W, Below W1.heap.size W1 W → Calls Try.prog 23 #[.agg #[.int .i64 d0, .slice none 0 0]] W fun e w' => ∃ a c, e = .returned (.tuple #[.agg #[.int .i64 (dblD d0 []), .slice a (dblL d0 []).length c], .bool (dblB d0 [])]) ∧ IV w' a (dblL d0 []) ∧ Below W.heap.size W w') := fun W hW => by
      refine (rdouble_any d0 none 0 [] W (HIV.out W (HBW.out W hW)) (by first | omega | simp) (fun _ => rfl)).mono ?_
      rintro e w' ⟨v, rfl, ⟨a, c, rfl, h1, h2⟩, h3⟩
      exact ⟨a, c, rfl, h2, h3⟩
    have C7 : Hid (∀ W, Below W1.heap.size W1 W → Calls Try.prog 24 #[.agg #[.int .i64 d0, .slice none 0 0]] W fun e w' => ∃ a c, e = .returned (.tuple #[.agg #[.int .i64 (hlvD d0 []), .slice a (hlvL d0 []).length c], .bool (hlvB d0 [])]) ∧ IV w' a (hlvL d0 []) ∧ Below W.heap.size W w') := fun W hW => by
      refine (halve_any d0 none 0 [] W (HVX.out W hW) (by first | omega | simp) (fun _ => rfl)).mono ?_
      rintro e w' ⟨v, rfl, ⟨a, c, rfl, h1, h2⟩, h3⟩
      exact ⟨a, c, rfl, h2, h3⟩
    have C8 : Hid (∀ W, Below W1.heap.size W1 W → Calls Try.prog 25 #[.agg #[.int .i64 d0, .slice none 0 0]] W fun e w' => ∃ a c, e = .returned (.tuple #[.agg #[.int .i64 (hlvD d0 []), .slice a (hlvL d0 []).length c], .bool (hlvB d0 [])]) ∧ IV w' a (hlvL d0 []) ∧ Below W.heap.size W w') := fun W hW => by
      refine (rhalve_any d0 none 0 [] W (HIV.out W (HBW.out W hW)) (by first | omega | simp) (fun _ => rfl)).mono ?_
      rintro e w' ⟨v, rfl, ⟨a, c, rfl, h1, h2⟩, h3⟩
      exact ⟨a, c, rfl, h2, h3⟩
    have C9 : Hid (∀ W, Below W1.heap.size W1 W → Calls Try.prog 26 #[.agg #[.int .i64 d0, .slice none 0 0], .int .i64 p1, .int .i64 k1, .int .i64 i1] W fun e w' => ∃ a c, e = .returned (.agg #[.int .i64 d0, .slice a (setL d0 [] p1 k1 i1).length c]) ∧ IV w' a (setL d0 [] p1 k1 i1) ∧ Below W.heap.size W w') := fun W hW => by
      refine (set_any d0 none 0 [] p1 k1 i1 W (HVX.out W hW) (by first | omega | simp) (fun _ => rfl)).mono ?_
      rintro e w' ⟨v, rfl, ⟨a, c, rfl, h1, h2⟩, h3⟩
      exact ⟨a, c, rfl, h2, h3⟩
    have C10 : Hid (∀ W, Below W1.heap.size W1 W → Calls Try.prog 27 #[.agg #[.int .i64 d0, .slice none 0 0], .int .i64 p1, .int .i64 k1, .int .i64 i1] W fun e w' => ∃ a c, e = .returned (.agg #[.int .i64 d0, .slice a (setL d0 [] p1 k1 i1).length c]) ∧ IV w' a (setL d0 [] p1 k1 i1) ∧ Below W.heap.size W w') := fun W hW => by
      refine (rset_any d0 none 0 [] p1 k1 i1 W (HIV.out W (HBW.out W hW)) (by first | omega | simp) (fun _ => rfl)).mono ?_
      rintro e w' ⟨v, rfl, ⟨a, c, rfl, h1, h2⟩, h3⟩
      exact ⟨a, c, rfl, h2, h3⟩
    have C11 : Hid (∀ W, Below W1.heap.size W1 W → Calls Try.prog 28 #[.int .i64 k1, .slice a2 y2.length cap2] W fun e w' => ∃ a c, e = .returned (.tuple #[.agg #[.int .i64 (gtD k1 y2), .slice a (gtL k1 y2).length c], .int .i64 (gtE k1 y2)]) ∧ IV w' a (gtL k1 y2) ∧ Below W.heap.size W w') := fun W hW => by
      refine (get_main k1 a2 cap2 y2 W (HRAW.out W (HBW.out W hW)) hn2 (by first | omega | simp)).mono ?_
      rintro e w' ⟨v, rfl, ⟨a, c, rfl, h1, h2⟩, h3⟩
      exact ⟨a, c, rfl, h2, h3⟩
    have C12 : Hid (∀ W, Below W1.heap.size W1 W → Calls Try.prog 29 #[.int .i64 k1, .slice a2 y2.length cap2] W fun e w' => ∃ a c, e = .returned (.tuple #[.agg #[.int .i64 (gtD k1 y2), .slice a (gtL k1 y2).length c], .int .i64 (gtE k1 y2)]) ∧ IV w' a (gtL k1 y2) ∧ Below W.heap.size W w') := fun W hW => by
      refine (rget_main k1 a2 cap2 y2 W (HRAW.out W (HBW.out W hW)) hn2 (by first | omega | simp)).mono ?_
      rintro e w' ⟨v, rfl, ⟨a, c, rfl, h1, h2⟩, h3⟩
      exact ⟨a, c, rfl, h2, h3⟩
    generalize dblD d0 [] = dD at *
    generalize dblL d0 [] = dL at *
    generalize dblB d0 [] = dB at *
    generalize hlvD d0 [] = hD at *
    generalize hlvL d0 [] = hL at *
    generalize hlvB d0 [] = hB at *
    generalize setL d0 [] p1 k1 i1 = sL at *
    generalize gtD k1 y2 = gD at *
    generalize gtL k1 y2 = gL at *
    generalize gtE k1 y2 = gE at *
    go_wp2_with fail
    refine (C5.out W1 T0.out).mono ?_
    rintro e w5 ⟨a5', c5', rfl, iv5, b5⟩
    clear cd0 cd1 ch0 ch1 ch2 cx0 cx1 lh lx ld C5
    obtain ⟨⟨cd0, cd1⟩, ⟨ch0, ch1, ch2⟩, ⟨cx0, cx1⟩, lh, lx⟩ := KK.out w5 (bt T0.out b5)
    have ld := Nat.lt_of_succ_lt lh
    obtain ⟨X5, hX5⟩ : ∃ X, X = w5.alloc (.cells #[.int .i64 dD, .slice a5' dL.length c5'] 26) := ⟨_, rfl⟩
    have S5 : Hid (Below W1.heap.size W1 X5) := by rw [hX5]; exact bt b5 (one_block _ _)
    have T5 : Hid (Below W1.heap.size W1 X5) := bt T0.out S5.out
    have K5 : Hid (∀ W, Below X5.heap.size X5 W → W.cell? ⟨w5.heap.size, 0, none⟩ = some (.int .i64 dD) ∧ W.cell? ⟨w5.heap.size, 1, none⟩ = some (.slice a5' dL.length c5') ∧ w5.heap.size < W.heap.size) := fun W hW => by
      rw [hX5] at hW
      have hb := box2 hW
      exact ⟨hb.1, hb.2, (by have := World.block_lt_of_cell? _ _ hb.1; simpa using this)⟩
    have V5 : Hid (∀ W, Below X5.heap.size X5 W → IV W a5' dL) := fun W hW => by
      rw [hX5] at hW
      exact iv5.below (bt (one_block _ _) hW)
    clear iv5 b5
    go_wp2_with fail
    rw [← hX5]
    clear hX5
    refine (C6.out X5 T5.out).mono ?_
    rintro e w6 ⟨a6', c6', rfl, iv6, b6⟩
    clear cd0 cd1 ch0 ch1 ch2 cx0 cx1 lh lx ld C6
    obtain ⟨⟨cd0, cd1⟩, ⟨ch0, ch1, ch2⟩, ⟨cx0, cx1⟩, lh, lx⟩ := KK.out w6 (bt T5.out b6)
    have ld := Nat.lt_of_succ_lt lh
    obtain ⟨X6, hX6⟩ : ∃ X, X = w6.alloc (.cells #[.int .i64 dD, .slice a6' dL.length c6'] 24) := ⟨_, rfl⟩
    have S6 : Hid (Below X5.heap.size X5 X6) := by rw [hX6]; exact bt b6 (one_block _ _)
    have T6 : Hid (Below W1.heap.size W1 X6) := bt T5.out S6.out
    have K6 : Hid (∀ W, Below X6.heap.size X6 W → W.cell? ⟨w6.heap.size, 0, none⟩ = some (.int .i64 dD) ∧ W.cell? ⟨w6.heap.size, 1, none⟩ = some (.slice a6' dL.length c6') ∧ w6.heap.size < W.heap.size) := fun W hW => by
      rw [hX6] at hW
      have hb := box2 hW
      exact ⟨hb.1, hb.2, (by have := World.block_lt_of_cell? _ _ hb.1; simpa using this)⟩
    have V6 : Hid (∀ W, Below X6.heap.size X6 W → IV W a6' dL) := fun W hW => by
      rw [hX6] at hW
      exact iv6.below (bt (one_block _ _) hW)
    clear iv6 b6
    go_wp2_with fail
    rw [← hX6]
    clear hX6
    refine (C7.out X6 T6.out).mono ?_
    rintro e w7 ⟨a7', c7', rfl, iv7, b7⟩
    clear cd0 cd1 ch0 ch1 ch2 cx0 cx1 lh lx ld C7
    obtain ⟨⟨cd0, cd1⟩, ⟨ch0, ch1, ch2⟩, ⟨cx0, cx1⟩, lh, lx⟩ := KK.out w7 (bt T6.out b7)
    have ld := Nat.lt_of_succ_lt lh
    obtain ⟨X7, hX7⟩ : ∃ X, X = w7.alloc (.cells #[.int .i64 hD, .slice a7' hL.length c7'] 26) := ⟨_, rfl⟩
    have S7 : Hid (Below X6.heap.size X6 X7) := by rw [hX7]; exact bt b7 (one_block _ _)
    have T7 : Hid (Below W1.heap.size W1 X7) := bt T6.out S7.out
    have K7 : Hid (∀ W, Below X7.heap.size X7 W → W.cell? ⟨w7.heap.size, 0, none⟩ = some (.int .i64 hD) ∧ W.cell? ⟨w7.heap.size, 1, none⟩ = some (.slice a7' hL.length c7') ∧ w7.heap.size < W.heap.size) := fun W hW => by
      rw [hX7] at hW
      have hb := box2 hW
      exact ⟨hb.1, hb.2, (by have := World.block_lt_of_cell? _ _ hb.1; simpa using this)⟩
    have V7 : Hid (∀ W, Below X7.heap.size X7 W → IV W a7' hL) := fun W hW => by
      rw [hX7] at hW
      exact iv7.below (bt (one_block _ _) hW)
    clear iv7 b7
    go_wp2_with fail
    rw [← hX7]
    clear hX7
    refine (C8.out X7 T7.out).mono ?_
    rintro e w8 ⟨a8', c8', rfl, iv8, b8⟩
    clear cd0 cd1 ch0 ch1 ch2 cx0 cx1 lh lx ld C8
    obtain ⟨⟨cd0, cd1⟩, ⟨ch0, ch1, ch2⟩, ⟨cx0, cx1⟩, lh, lx⟩ := KK.out w8 (bt T7.out b8)
    have ld := Nat.lt_of_succ_lt lh
    obtain ⟨X8, hX8⟩ : ∃ X, X = w8.alloc (.cells #[.int .i64 hD, .slice a8' hL.length c8'] 24) := ⟨_, rfl⟩
    have S8 : Hid (Below X7.heap.size X7 X8) := by rw [hX8]; exact bt b8 (one_block _ _)
    have T8 : Hid (Below W1.heap.size W1 X8) := bt T7.out S8.out
    have K8 : Hid (∀ W, Below X8.heap.size X8 W → W.cell? ⟨w8.heap.size, 0, none⟩ = some (.int .i64 hD) ∧ W.cell? ⟨w8.heap.size, 1, none⟩ = some (.slice a8' hL.length c8') ∧ w8.heap.size < W.heap.size) := fun W hW => by
      rw [hX8] at hW
      have hb := box2 hW
      exact ⟨hb.1, hb.2, (by have := World.block_lt_of_cell? _ _ hb.1; simpa using this)⟩
    have V8 : Hid (∀ W, Below X8.heap.size X8 W → IV W a8' hL) := fun W hW => by
      rw [hX8] at hW
      exact iv8.below (bt (one_block _ _) hW)
    clear iv8 b8
    go_wp2_with fail
    rw [← hX8]
    clear hX8
    refine (C9.out X8 T8.out).mono ?_
    rintro e w9 ⟨a9', c9', rfl, iv9, b9⟩
    clear cd0 cd1 ch0 ch1 ch2 cx0 cx1 lh lx ld C9
    obtain ⟨⟨cd0, cd1⟩, ⟨ch0, ch1, ch2⟩, ⟨cx0, cx1⟩, lh, lx⟩ := KK.out w9 (bt T8.out b9)
    have ld := Nat.lt_of_succ_lt lh
    obtain ⟨X9, hX9⟩ : ∃ X, X = w9.alloc (.cells #[.int .i64 d0, .slice a9' sL.length c9'] 26) := ⟨_, rfl⟩
    have S9 : Hid (Below X8.heap.size X8 X9) := by rw [hX9]; exact bt b9 (one_block _ _)
    have T9 : Hid (Below W1.heap.size W1 X9) := bt T8.out S9.out
    have K9 : Hid (∀ W, Below X9.heap.size X9 W → W.cell? ⟨w9.heap.size, 0, none⟩ = some (.int .i64 d0) ∧ W.cell? ⟨w9.heap.size, 1, none⟩ = some (.slice a9' sL.length c9') ∧ w9.heap.size < W.heap.size) := fun W hW => by
      rw [hX9] at hW
      have hb := box2 hW
      exact ⟨hb.1, hb.2, (by have := World.block_lt_of_cell? _ _ hb.1; simpa using this)⟩
    have V9 : Hid (∀ W, Below X9.heap.size X9 W → IV W a9' sL) := fun W hW => by
      rw [hX9] at hW
      exact iv9.below (bt (one_block _ _) hW)
    clear iv9 b9
    go_wp2_with fail
    rw [← hX9]
    clear hX9
    refine (C10.out X9 T9.out).mono ?_
    rintro e w10 ⟨a10', c10', rfl, iv10, b10⟩
    clear cd0 cd1 ch0 ch1 ch2 cx0 cx1 lh lx ld C10
    obtain ⟨⟨cd0, cd1⟩, ⟨ch0, ch1, ch2⟩, ⟨cx0, cx1⟩, lh, lx⟩ := KK.out w10 (bt T9.out b10)
    have ld := Nat.lt_of_succ_lt lh
    obtain ⟨X10, hX10⟩ : ∃ X, X = w10.alloc (.cells #[.int .i64 d0, .slice a10' sL.length c10'] 24) := ⟨_, rfl⟩
    have S10 : Hid (Below X9.heap.size X9 X10) := by rw [hX10]; exact bt b10 (one_block _ _)
    have T10 : Hid (Below W1.heap.size W1 X10) := bt T9.out S10.out
    have K10 : Hid (∀ W, Below X10.heap.size X10 W → W.cell? ⟨w10.heap.size, 0, none⟩ = some (.int .i64 d0) ∧ W.cell? ⟨w10.heap.size, 1, none⟩ = some (.slice a10' sL.length c10') ∧ w10.heap.size < W.heap.size) := fun W hW => by
      rw [hX10] at hW
      have hb := box2 hW
      exact ⟨hb.1, hb.2, (by have := World.block_lt_of_cell? _ _ hb.1; simpa using this)⟩
    have V10 : Hid (∀ W, Below X10.heap.size X10 W → IV W a10' sL) := fun W hW => by
      rw [hX10] at hW
      exact iv10.below (bt (one_block _ _) hW)
    clear iv10 b10
    go_wp2_with fail
    rw [← hX10]
    clear hX10
    refine (C11.out X10 T10.out).mono ?_
    rintro e w11 ⟨a11', c11', rfl, iv11, b11⟩
    clear cd0 cd1 ch0 ch1 ch2 cx0 cx1 lh lx ld C11
    obtain ⟨⟨cd0, cd1⟩, ⟨ch0, ch1, ch2⟩, ⟨cx0, cx1⟩, lh, lx⟩ := KK.out w11 (bt T10.out b11)
    have ld := Nat.lt_of_succ_lt lh
    obtain ⟨X11, hX11⟩ : ∃ X, X = w11.alloc (.cells #[.int .i64 gD, .slice a11' gL.length c11'] 26) := ⟨_, rfl⟩
    have S11 : Hid (Below X10.heap.size X10 X11) := by rw [hX11]; exact bt b11 (one_block _ _)
    have T11 : Hid (Below W1.heap.size W1 X11) := bt T10.out S11.out
    have K11 : Hid (∀ W, Below X11.heap.size X11 W → W.cell? ⟨w11.heap.size, 0, none⟩ = some (.int .i64 gD) ∧ W.cell? ⟨w11.heap.size, 1, none⟩ = some (.slice a11' gL.length c11') ∧ w11.heap.size < W.heap.size) := fun W hW => by
      rw [hX11] at hW
      have hb := box2 hW
      exact ⟨hb.1, hb.2, (by have := World.block_lt_of_cell? _ _ hb.1; simpa using this)⟩
    have V11 : Hid (∀ W, Below X11.heap.size X11 W → IV W a11' gL) := fun W hW => by
      rw [hX11] at hW
      exact iv11.below (bt (one_block _ _) hW)
    clear iv11 b11
    go_wp2_with fail
    rw [← hX11]
    clear hX11
    refine (C12.out X11 T11.out).mono ?_
    rintro e w12 ⟨a12', c12', rfl, iv12, b12⟩
    clear cd0 cd1 ch0 ch1 ch2 cx0 cx1 lh lx ld C12
    obtain ⟨⟨cd0, cd1⟩, ⟨ch0, ch1, ch2⟩, ⟨cx0, cx1⟩, lh, lx⟩ := KK.out w12 (bt T11.out b12)
    have ld := Nat.lt_of_succ_lt lh
    obtain ⟨X12, hX12⟩ : ∃ X, X = w12.alloc (.cells #[.int .i64 gD, .slice a12' gL.length c12'] 24) := ⟨_, rfl⟩
    have S12 : Hid (Below X11.heap.size X11 X12) := by rw [hX12]; exact bt b12 (one_block _ _)
    have T12 : Hid (Below W1.heap.size W1 X12) := bt T11.out S12.out
    have K12 : Hid (∀ W, Below X12.heap.size X12 W → W.cell? ⟨w12.heap.size, 0, none⟩ = some (.int .i64 gD) ∧ W.cell? ⟨w12.heap.size, 1, none⟩ = some (.slice a12' gL.length c12') ∧ w12.heap.size < W.heap.size) := fun W hW => by
      rw [hX12] at hW
      have hb := box2 hW
      exact ⟨hb.1, hb.2, (by have := World.block_lt_of_cell? _ _ hb.1; simpa using this)⟩
    have V12 : Hid (∀ W, Below X12.heap.size X12 W → IV W a12' gL) := fun W hW => by
      rw [hX12] at hW
      exact iv12.below (bt (one_block _ _) hW)
    clear iv12 b12
    go_wp2_with fail
    rw [← hX12]
    clear hX12
    refine (one_any i1 X12).mono ?_
    rintro e w13 ⟨g13, rfl, iv13, _, b13⟩
    clear cd0 cd1 ch0 ch1 ch2 cx0 cx1 lh lx ld
    obtain ⟨W14, hW14⟩ : ∃ X, X = w13.alloc (.cells #[.int .i64 0, .slice (some ⟨g13, 0, none⟩) 1 1] 26) := ⟨_, rfl⟩
    have S14 : Hid (Below X12.heap.size X12 w13) := b13
    have K13 : Hid (∀ W, Below W14.heap.size W14 W → W.cell? ⟨w13.heap.size, 0, none⟩ = some (.int .i64 0) ∧ W.cell? ⟨w13.heap.size, 1, none⟩ = some (.slice (some ⟨g13, 0, none⟩) 1 1)) := fun W hW => by
      rw [hW14] at hW
      exact box2 hW
    have V13 : Hid (∀ W, Below W14.heap.size W14 W → IV W (some ⟨g13, 0, none⟩) [i1]) := fun W hW => by
      rw [hW14] at hW
      exact iv13.below (bt (one_block _ _) hW)
    have OB : Hid (Below w13.heap.size w13 W14) := by rw [hW14]; exact one_block _ _
    clear iv13 b13
    have E12 : Hid (∀ W, Below w13.heap.size w13 W → Below X12.heap.size X12 W) := fun W hW => bt S14.out hW
    have E11 : Hid (∀ W, Below w13.heap.size w13 W → Below X11.heap.size X11 W) := fun W hW => bt S12.out (E12.out W hW)
    have E10 : Hid (∀ W, Below w13.heap.size w13 W → Below X10.heap.size X10 W) := fun W hW => bt S11.out (E11.out W hW)
    have E9 : Hid (∀ W, Below w13.heap.size w13 W → Below X9.heap.size X9 W) := fun W hW => bt S10.out (E10.out W hW)
    have E8 : Hid (∀ W, Below w13.heap.size w13 W → Below X8.heap.size X8 W) := fun W hW => bt S9.out (E9.out W hW)
    have E7 : Hid (∀ W, Below w13.heap.size w13 W → Below X7.heap.size X7 W) := fun W hW => bt S8.out (E8.out W hW)
    have E6 : Hid (∀ W, Below w13.heap.size w13 W → Below X6.heap.size X6 W) := fun W hW => bt S7.out (E7.out W hW)
    have E5 : Hid (∀ W, Below w13.heap.size w13 W → Below X5.heap.size X5 W) := fun W hW => bt S6.out (E6.out W hW)
    have E0 : Hid (∀ W, Below w13.heap.size w13 W → Below W1.heap.size W1 W) := fun W hW => bt S5.out (E5.out W hW)
    obtain ⟨p0, p1, p2⟩ := K5.out w13 (E5.out _ (Below.refl _ _))
    obtain ⟨q0, q1, q2⟩ := K6.out w13 (E6.out _ (Below.refl _ _))
    go_wp2_with fail
    rw [← hW14]
    clear hW14 p0 p1 p2 q0 q1 q2
    have EW : Hid (∀ W, Below W14.heap.size W14 W → Below w13.heap.size w13 W) := fun W hW => bt OB.out hW
    have R1 := rsame_any dD dD a5' a6' c5' c6' dL dL W14 (V5.out _ (E5.out _ (EW.out _ (Below.refl _ _)))) (V6.out _ (E6.out _ (EW.out _ (Below.refl _ _)))) (by first | omega | simp) (by first | omega | simp)
    rw [sameD_refl] at R1
    unfold dv at R1
    refine R1.mono ?_
    rintro e y1 ⟨rfl, z1⟩
    clear R1
    have Z1 : Hid (Below W14.heap.size W14 y1) := bt (Below.refl _ _) z1
    clear z1
    obtain ⟨p0, p1, p2⟩ := K7.out y1 (E7.out _ (EW.out _ Z1.out))
    obtain ⟨q0, q1, q2⟩ := K8.out y1 (E8.out _ (EW.out _ Z1.out))
    go_wp2_with fail
    clear p0 p1 p2 q0 q1 q2
    have R2 := rsame_any hD hD a7' a8' c7' c8' hL hL y1 (V7.out _ (E7.out _ (EW.out _ Z1.out))) (V8.out _ (E8.out _ (EW.out _ Z1.out))) (by first | omega | simp) (by first | omega | simp)
    rw [sameD_refl] at R2
    unfold dv at R2
    refine R2.mono ?_
    rintro e y2 ⟨rfl, z2⟩
    clear R2
    have Z2 : Hid (Below W14.heap.size W14 y2) := bt Z1.out z2
    clear z2
    obtain ⟨p0, p1, p2⟩ := K9.out y2 (E9.out _ (EW.out _ Z2.out))
    obtain ⟨q0, q1, q2⟩ := K10.out y2 (E10.out _ (EW.out _ Z2.out))
    go_wp2_with fail
    clear p0 p1 p2 q0 q1 q2
    have R3 := rsame_any d0 d0 a9' a10' c9' c10' sL sL y2 (V9.out _ (E9.out _ (EW.out _ Z2.out))) (V10.out _ (E10.out _ (EW.out _ Z2.out))) (by first | omega | simp) (by first | omega | simp)
    rw [sameD_refl] at R3
    unfold dv at R3
    refine R3.mono ?_
    rintro e y3 ⟨rfl, z3⟩
    clear R3
    have Z3 : Hid (Below W14.heap.size W14 y3) := bt Z2.out z3
    clear z3
    obtain ⟨p0, p1, p2⟩ := K11.out y3 (E11.out _ (EW.out _ Z3.out))
    obtain ⟨q0, q1, q2⟩ := K12.out y3 (E12.out _ (EW.out _ Z3.out))
    go_wp2_with fail
    clear p0 p1 p2 q0 q1 q2
    have R4 := rsame_any gD gD a11' a12' c11' c12' gL gL y3 (V11.out _ (E11.out _ (EW.out _ Z3.out))) (V12.out _ (E12.out _ (EW.out _ Z3.out))) (by first | omega | simp) (by first | omega | simp)
    rw [sameD_refl] at R4
    unfold dv at R4
    refine R4.mono ?_
    rintro e y4 ⟨rfl, z4⟩
    clear R4
    have Z4 : Hid (Below W14.heap.size W14 y4) := bt Z3.out z4
    clear z4
    obtain ⟨⟨cd0, cd1⟩, ⟨ch0, ch1, ch2⟩, ⟨cx0, cx1⟩, lh, lx⟩ := KK.out y4 (E0.out _ (EW.out _ Z4.out))
    have ld := Nat.lt_of_succ_lt lh
    go_wp2_with fail
    clear cd0 cd1 ch0 ch1 ch2 cx0 cx1 lh lx ld
    have R5 := rsame_any d0 d0 none none 0 0 [] [] y4 (HVX.out _ (E0.out _ (EW.out _ Z4.out))) (HIV.out _ (HBW.out _ (E0.out _ (EW.out _ Z4.out)))) (by first | omega | simp) (by first | omega | simp)
    rw [sameD_refl] at R5
    unfold dv at R5
    refine R5.mono ?_
    rintro e y5 ⟨rfl, z5⟩
    clear R5
    have Z5 : Hid (Below W14.heap.size W14 y5) := bt Z4.out z5
    clear z5
    obtain ⟨⟨cd0, cd1⟩, ⟨ch0, ch1, ch2⟩, ⟨cx0, cx1⟩, lh, lx⟩ := KK.out y5 (E0.out _ (EW.out _ Z5.out))
    have ld := Nat.lt_of_succ_lt lh
    obtain ⟨p0, p1⟩ := K13.out y5 Z5.out
    have R6 := sints_any (some ⟨g13, 0, none⟩) (some ⟨y5.heap.size, 0, none⟩) 1 1 [i1] [i1] (y5.alloc (.cells #[.int .i64 i1] 3)) ((V13.out _ Z5.out).below (one_block _ _)) (iv_one y5 i1) (by simp) (by simp)
    rw [decide_eq_true rfl] at R6
    go_wp2_with (first
      | (go_at_call 17; refine R6.mono ?_; rintro e y6 ⟨rfl, z6⟩; clear R6)
      | (go_at_call 8; refine (HA _).mono ?_; rintro e wz ⟨rfl, bz⟩; clear HA))
    go_ret
    exact ⟨rfl, bt (HBW.out _ (E0.out _ (EW.out _ Z5.out))) (bt (one_block _ _) (bt z6 bz))⟩
theorem walk (d0 : Int) (a0 : Option Addr) (len0 cap0 : Nat) (y0 : List Int) (p1 k1 i1 : Int) (a2 : Option Addr) (len2 cap2 : Nat) (y2 : List Int) (w : World) (w0 : Sli w a0 len0 cap0 y0 ∧ WfI d0) (w1 : WfI p1 ∧ WfI k1 ∧ WfI i1) (w2 : y2.length = len2 ∧ BV w a2 y2 ∧ (a2 = none → cap2 = 0) ∧ len2 ≤ cap2 ∧ cap2 ≤ 9223372036854775807) : Calls Try.prog 4 #[dv d0 a0 len0 cap0, hwv p1 k1 i1, .slice a2 len2 cap2] w fun e w' => e = .returned (.bool true) ∧ Below w.heap.size w w' := by
  by_cases h : 300 < len0
  · exact walk_a d0 a0 len0 cap0 y0 p1 k1 i1 a2 len2 cap2 y2 w w0 w1 w2 h
  · by_cases h2 : 600 < len2
    · exact walk_b d0 a0 len0 cap0 y0 p1 k1 i1 a2 len2 cap2 y2 w w0 w1 w2 h h2
    · cases a0 with
      | some x0 => exact walk_c d0 (some x0) len0 cap0 y0 p1 k1 i1 a2 len2 cap2 y2 w w0 w1 w2 h h2 x0 rfl
      | none =>
        obtain ⟨⟨rfl, hiv, hn, _, _, _⟩, hd0⟩ := w0
        obtain rfl : y0 = [] := hiv.nones
        obtain rfl := hn rfl
        exact walk_d d0 p1 k1 i1 a2 len2 cap2 y2 w hd0 w1 w2 h2
set_option maxRecDepth 100000 in
theorem lifted (os : Os) (started : os.Started) (H : Type) (enc : TypeId × Value → H) :
    ReturnsInHanded {} Try.checked os 4 .any (Rows.dirChangesSpec.pre6 enc Try.prog Try.f4 Rows.dirChangesRow.domain false) (Rows.dirChangesSpec.post enc Try.prog Try.f4 false true false false) := by
  refine returnsInHanded_of_change (C := Try.checked) own started (by kernel_rfl) Try.func4
    (ChangeSpec.witness6 (enc := enc) (C := Try.checked) false ⟨#[], #[.agg #[.int .i64 0, .slice none 0 0], .agg #[.int .i64 0, .int .i64 0, .int .i64 0], .slice none 0 0], []⟩ 8 (by kernel_rfl) (by kernel_rfl) (by kernel_rfl) (by kernel_rfl)) ?_
  intro W base args ds gs before hval0 hW hcnd _
  have hval : ∀ (j : Nat) t v, Try.f4.params[j]? = some t → args[j]? = some v → Value.okWide Try.prog W .any base t v := hval0
  have hW' := hW
  obtain ⟨p, q, hA0, hV, rfl, hfz, hnd⟩ := hW
  have hA : DataW.TrodAll enc Try.prog W 0 (fun _ => true) true Try.f4.params.toList args.toList ds p := hA0
  rw [Try.params4] at hA hval
  obtain ⟨v0, vs0, d'0, ds0, q0, r'0, hargs, rfl, rfl, h0, r0⟩ := trodAll_cons hA
  obtain ⟨v1, vs1, d'1, ds1, q1, r'1, rfl, rfl, rfl, h1, r1⟩ := trodAll_cons r0
  obtain ⟨v2, vs2, d'2, ds2, q2, r'2, rfl, rfl, rfl, h2, r2⟩ := trodAll_cons r1
  obtain ⟨rfl, rfl, rfl⟩ := trodAll_nil r2
  obtain rfl : args = #[v0, v1, v2] := by cases args; simp_all
  obtain ⟨rfl, rfl⟩ := trodVars_none hV
  have k0' := h0
  have lt0 : ∀ x ∈ q0, x.block < W.heap.size := by obtain ⟨m, hm⟩ := k0'; exact DataW.trod_lt m _ _ _ hm
  obtain ⟨d0, a0, len0, cap0, y0, rfl, w0⟩ := open_d (hval 0 24 v0 rfl rfl) h0
  have k1' := h1
  have lt1 : ∀ x ∈ q1, x.block < W.heap.size := by obtain ⟨m, hm⟩ := k1'; exact DataW.trod_lt m _ _ _ hm
  obtain ⟨p1, k1, i1, rfl, w1⟩ := open_h (hval 1 44 v1 rfl rfl) h1
  obtain ⟨a2, len2, cap2, rfl⟩ := okWide_slice Try.underlying27 (hval 2 27 v2 rfl rfl)
  have k2' := h2
  have lt2 : ∀ x ∈ q2, x.block < W.heap.size := by obtain ⟨m, hm⟩ := k2'; exact DataW.trod_lt m _ _ _ hm
  obtain ⟨y2, w2⟩ : ∃ ys : List Int, ys.length = len2 ∧ BV W a2 ys ∧ (a2 = none → cap2 = 0) ∧ len2 ≤ cap2 ∧ cap2 ≤ 9223372036854775807 := by
    obtain ⟨fuel, hf⟩ := h2
    rcases open_ints Try.underlying27 Try.underlying5 (by kernel_rfl) hf with ⟨hcs, _⟩ | ⟨x, l, c, zs, hcs, _, hl, hm, hz, _, hcell, hwz⟩
    · simp [Value.cells] at hcs
      obtain ⟨rfl, rfl, rfl⟩ := hcs
      exact bytes_of (zs := []) (.inl ⟨rfl, rfl, rfl, rfl⟩)
    · simp [Value.cells] at hcs
      obtain ⟨rfl, rfl, rfl⟩ := hcs
      exact bytes_of (.inr ⟨_, rfl, hl, hm, by simpa using hz, hcell, hwz⟩)
  clear hA0 hval0
  refine (walk d0 a0 len0 cap0 y0 p1 k1 i1 a2 len2 cap2 y2 W w0 w1 w2).mono fun e W' ⟨he, bel⟩ => ?_
  subst he
  exact ⟨_, rfl, _, _, _, [], _, [], hW', trodAll_mk1 (shut_bool Try.underlying4 _), (trodAll_cons_mk (Below.trod laidOut (by kernel_rfl) (of_decide_eq_true (by kernel_rfl)) k0' bel lt0) (trodAll_cons_mk (Below.trod laidOut (by kernel_rfl) (of_decide_eq_true (by kernel_rfl)) k1' bel lt1) (trodAll_cons_mk (Below.trod laidOut (by kernel_rfl) (of_decide_eq_true (by kernel_rfl)) k2' bel lt2) trodAll_mk0))), rfl, bel.frame _, fun h => by cases h⟩

theorem over : Rows.dirChangesRow.holds Try.pinned (OpenSpec.ofChange Rows.dirChangesSpec) :=
  OpenClaim.holds_of_wide 4 Try.f4 rfl rfl rfl rfl rfl rfl rfl ⟨rfl, rfl, rfl, rfl, rfl⟩ rfl rfl rfl rfl rfl (by kernel_rfl) Try.func4 (by kernel_rfl)
    (of_decide_eq_true (by kernel_rfl)) (by unfold Func.isWrapper; first | (rw [if_pos (by decide +kernel)]; kernel_rfl) | (rw [if_neg (by decide +kernel)]; exact ⟨rfl, rfl⟩))
    (fun os started H enc _ => lifted os started H enc)
end Go.Proofs.Ytophkfbdhejmcaa.dirChanges

namespace Go.Proofs.Ytophkfbdhejmcaa
theorem dirChanges_holds : Rows.DirChangesSaid := dirChanges.over
#print axioms dirChanges_holds
end Go.Proofs.Ytophkfbdhejmcaa
