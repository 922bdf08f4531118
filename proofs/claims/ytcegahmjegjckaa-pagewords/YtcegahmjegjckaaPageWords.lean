/- For all numbers, bytes and sizes the call PageWords of the statements returns true and its arguments read as they did: no condition. -/
import Derived.Test.YtcegahmjegjckaaRows
import Derived.Test.YtcegahmjegjckaaArg
import Derived.WalkKit
import Derived.ProofKit
import Derived.OpenShut
import Derived.ShutString
import Derived.ChangeOld
import Derived.Below
import Derived.Test.YtcegahmjegjckaaRUnw
namespace Go.Proofs.Ytcegahmjegjckaa.pageWords
open Go.ChangeShapes Go.WideShapes Go.ChangeAt Go.RowKit
set_option linter.unusedVariables false
set_option linter.unusedSimpArgs false
set_option maxRecDepth 20000

theorem own : ownKnob Try.prog.godebug = none := by kernel_rfl
theorem laidOut : laidOutB Try.prog = true := by kernel_rfl
set_option maxHeartbeats 800000 in
theorem walk_l (a0 : Option Addr) (len0 cap0 : Nat) (y0 : List Int) (a1 : Option Addr) (len1 cap1 : Nat) (y1 : List Int) (a2 : Int) (w : World) (w0 : y0.length = len0 ∧ IV w a0 y0 ∧ (a0 = none → cap0 = 0) ∧ len0 ≤ cap0 ∧ cap0 ≤ 9223372036854775807) (w1 : y1.length = len1 ∧ BV w a1 y1 ∧ (a1 = none → cap1 = 0) ∧ len1 ≤ cap1 ∧ cap1 ≤ 9223372036854775807) (w2 : (Lit.int .i64 a2).wf = true) (h : 400 < len0) :
    Calls Try.prog 5 #[.slice a0 len0 cap0, .slice a1 len1 cap1, .int .i64 a2] w fun e w' => e = .returned (.bool true) ∧ Below w.heap.size w w' := by
  have HA := awake_any w
  have h1 : decide ((400 : Int) < (len0 : Int)) = true := by simp; omega
  clear w0 w1 w2
  go_enter Try.func5, Try.ntmps5
  go_wp2_with (first | (go_at_call 8; refine HA.mono ?_; rintro e w2 ⟨rfl, hb2⟩; clear HA) | fail)
  go_ret
  exact ⟨rfl, hb2⟩
set_option maxHeartbeats 800000 in
theorem walk_r (a0 : Option Addr) (len0 cap0 : Nat) (y0 : List Int) (a1 : Option Addr) (len1 cap1 : Nat) (y1 : List Int) (a2 : Int) (w : World) (w0 : y0.length = len0 ∧ IV w a0 y0 ∧ (a0 = none → cap0 = 0) ∧ len0 ≤ cap0 ∧ cap0 ≤ 9223372036854775807) (w1 : y1.length = len1 ∧ BV w a1 y1 ∧ (a1 = none → cap1 = 0) ∧ len1 ≤ cap1 ∧ cap1 ≤ 9223372036854775807) (w2 : (Lit.int .i64 a2).wf = true) (h : ¬ 400 < len0) (h2 : 400 < len1) :
    Calls Try.prog 5 #[.slice a0 len0 cap0, .slice a1 len1 cap1, .int .i64 a2] w fun e w' => e = .returned (.bool true) ∧ Below w.heap.size w w' := by
  have HA := awake_any w
  have h1 : decide ((400 : Int) < (len0 : Int)) = false := by simp; omega
  have h3 : decide ((400 : Int) < (len1 : Int)) = true := by simp; omega
  clear w0 w1 w2
  go_enter Try.func5, Try.ntmps5
  go_wp2_with (first | (go_at_call 8; refine HA.mono ?_; rintro e w2 ⟨rfl, hb2⟩; clear HA) | fail)
  go_ret
  exact ⟨rfl, hb2⟩
/-- A slice of ints, as the law's loop looks at it. -/
theorem ints_view {w : World} {base : Nat} {v : Value} {zs : List Int} (h : OwnI w base v zs) : ∃ a c, v = .slice a zs.length c ∧ Hid (zs = [] ∨ ∃ g off, a = some ⟨g, off, none⟩ ∧ g < w.heap.size ∧ ∀ i, i < zs.length → w.cell? ⟨g, off + i, none⟩ = some (.int .i64 (zs.getD i 0))) := by
  obtain ⟨a, c, rfl, _, h | ⟨b, off, rfl, _, hlt, hc⟩, _, _⟩ := h.view
  · exact ⟨a, c, rfl, .inl h⟩
  · exact ⟨_, c, rfl, .inr ⟨b, off, rfl, hlt, hc⟩⟩
theorem pcs_view {w : World} {base : Nat} {v : Value} {zss : List (List Int)} (h : OwnP w base v zss) : ∃ a c, v = .slice a zss.length c ∧ Hid (zss = [] ∨ ∃ g, a = some ⟨g, 0, none⟩ ∧ g < w.heap.size ∧ ∀ i, i < zss.length → ∃ x xc, w.cell? ⟨g, i, none⟩ = some (.slice x (zss.getD i []).length xc) ∧ (x = none → xc = 0) ∧ BT w x (zss.getD i [])) := by
  obtain ⟨a, c, rfl, _, _, h | ⟨g, rfl, _, hlt, hc⟩⟩ := h.view
  · exact ⟨a, c, rfl, .inl h⟩
  · exact ⟨_, c, rfl, .inr ⟨g, rfl, hlt, hc⟩⟩
set_option maxHeartbeats 3200000 in
theorem walk_m (a0 : Option Addr) (len0 cap0 : Nat) (y0 : List Int) (a1 : Option Addr) (len1 cap1 : Nat) (y1 : List Int) (a2 : Int) (w : World) (w0 : y0.length = len0 ∧ IV w a0 y0 ∧ (a0 = none → cap0 = 0) ∧ len0 ≤ cap0 ∧ cap0 ≤ 9223372036854775807) (w1 : y1.length = len1 ∧ BV w a1 y1 ∧ (a1 = none → cap1 = 0) ∧ len1 ≤ cap1 ∧ cap1 ≤ 9223372036854775807) (w2 : (Lit.int .i64 a2).wf = true) (h : ¬ 400 < len0) (h2 : ¬ 400 < len1) :
    Calls Try.prog 5 #[.slice a0 len0 cap0, .slice a1 len1 cap1, .int .i64 a2] w fun e w' => e = .returned (.bool true) ∧ Below w.heap.size w w' := by
  have HA := awake_any
  have h1 : decide ((400 : Int) < (len0 : Int)) = false := by simp; omega
  have h3 : decide ((400 : Int) < (len1 : Int)) = false := by simp; omega
  obtain ⟨rfl, hb0, _, hc0, hm0⟩ := w0
  obtain ⟨rfl, hb1, hn1, hc1, hm1⟩ := w1
  have G1 := words_any a0 cap0 y0 w hb0 (by omega)
  have G2 : Hid (∀ W, Below w.heap.size w W → Calls Try.prog 14 #[.slice a0 y0.length cap0] W fun e w' => ∃ v, e = .returned (.tuple #[v, .int .i64 (wordsE y0)]) ∧ Own w' W.heap.size v (wordsL y0) ∧ Below W.heap.size W w') := fun W hW => rwords_any a0 cap0 y0 W (hb0.below hW) (by omega)
  have G3 : Hid (∀ W, Below w.heap.size w W → Calls Try.prog 15 #[.slice a1 y1.length cap1] W fun e w' => ∃ v, e = .returned (.tuple #[v, .int .i64 (unE y1)]) ∧ OwnI w' W.heap.size v (unL y1) ∧ Below W.heap.size W w') := fun W hW => unw_any a1 cap1 y1 W (hb1.below hW) hn1 (by omega)
  have G4 : Hid (∀ W, Below w.heap.size w W → Calls Try.prog 16 #[.slice a1 y1.length cap1] W fun e w' => ∃ v, e = .returned (.tuple #[v, .int .i64 (unE y1)]) ∧ OwnI w' W.heap.size v (unL y1) ∧ Below W.heap.size W w') := fun W hW => runw_any a1 cap1 y1 W (hb1.below hW) hn1 (by omega)
  have G5 : Hid (∀ W, Below w.heap.size w W → Calls Try.prog 17 #[.slice a1 y1.length cap1, .int .i64 a2] W fun e w' => ∃ v, e = .returned v ∧ OwnP w' W.heap.size v (splitS y1 a2) ∧ Below W.heap.size W w') := fun W hW => split_any a1 cap1 y1 a2 W (hb1.below hW) hn1 (by omega)
  have G6 : Hid (∀ W, Below w.heap.size w W → Calls Try.prog 18 #[.slice a1 y1.length cap1, .int .i64 a2] W fun e w' => ∃ v, e = .returned v ∧ OwnP w' W.heap.size v (splitS y1 a2) ∧ Below W.heap.size W w') := fun W hW => rsplit_any a1 cap1 y1 a2 W (hb1.below hW) hn1 (by omega) hc1 hm1
  have HSA : Hid (AllB (wordsL y0)) := wordsL_all y0
  have HUN : Hid ((unL y1).length ≤ 400) := by
    show (unL y1).length ≤ 400
    unfold unL
    split
    · rw [unS_len]; omega
    · simp
  have HSN : Hid ((splitS y1 a2).length ≤ 400) := by
    have := splitS_len y1 a2
    show (splitS y1 a2).length ≤ 400
    omega
  clear hb0 hc0 hm0 hb1 hc1 hm1 hn1 h h2 w2
  generalize wordsL y0 = ws at *
  generalize wordsE y0 = we at *
  generalize unL y1 = us at *
  generalize unE y1 = ue at *
  generalize splitS y1 a2 = ps at *
  generalize y0.length = n0 at *
  generalize y1.length = n1 at *
  go_enter Try.func5, Try.ntmps5
  go_wp2_with fail
  refine G1.mono ?_
  rintro e w1 ⟨v1, rfl, o1, b1⟩
  have B1 : Hid (Below w.heap.size w w1) := b1
  have O1 : Hid (Own w1 w.heap.size v1 ws) := o1
  clear G1 o1 b1
  go_wp2_with fail
  refine (G2.out w1 B1.out).mono ?_
  rintro e w2 ⟨v2, rfl, o2, b2⟩
  have B2 : Hid (Below w.heap.size w w2) := B1.out.trans (b2.mono B1.out.size)
  have O12 : Hid (Own w2 w.heap.size v1 ws ∧ Own w2 w1.heap.size v2 ws) := ⟨O1.out.below b2, o2⟩
  clear G2 o2 b2 O1 B1
  go_wp2_with fail
  refine (G3.out w2 B2.out).mono ?_
  rintro e w3 ⟨v3, rfl, o3, b3⟩
  have B3 : Hid (Below w.heap.size w w3) := B2.out.trans (b3.mono B2.out.size)
  have D3 : Hid (Below w2.heap.size w2 w3) := b3
  have O3 : Hid (OwnI w3 w2.heap.size v3 us) := o3
  clear G3 o3 b3 B2
  go_wp2_with fail
  refine (G4.out w3 B3.out).mono ?_
  rintro e w4 ⟨v4, rfl, o4, b4⟩
  have B4 : Hid (Below w.heap.size w w4) := B3.out.trans (b4.mono B3.out.size)
  have D4 : Hid (Below w2.heap.size w2 w4) := D3.out.trans (b4.mono D3.out.size)
  have O34 : Hid (OwnI w4 w2.heap.size v3 us ∧ OwnI w4 w3.heap.size v4 us) := ⟨O3.out.below b4, o4⟩
  clear G4 o4 b4 B3 D3 O3
  go_wp2_with fail
  refine (G5.out w4 B4.out).mono ?_
  rintro e w5 ⟨v5, rfl, o5, b5⟩
  have B5 : Hid (Below w.heap.size w w5) := B4.out.trans (b5.mono B4.out.size)
  have D5 : Hid (Below w2.heap.size w2 w5) := D4.out.trans (b5.mono D4.out.size)
  have F5 : Hid (Below w4.heap.size w4 w5) := b5
  have O5 : Hid (OwnP w5 w4.heap.size v5 ps) := o5
  clear G5 o5 b5 B4 D4
  go_wp2_with fail
  refine (G6.out w5 B5.out).mono ?_
  rintro e w6 ⟨v6, rfl, o6, b6⟩
  have B6 : Hid (Below w.heap.size w w6) := B5.out.trans (b6.mono B5.out.size)
  have D6 := D5.out.trans (b6.mono D5.out.size)
  have F6 := F5.out.trans (b6.mono F5.out.size)
  have c1 := conv_own (O12.out.1.below D6) HSA.out
  have c2 := conv_own (O12.out.2.below D6) HSA.out
  obtain ⟨ma, mc, rfl, HM⟩ := ints_view (O34.out.1.below F6)
  obtain ⟨na, nc, rfl, HN⟩ := ints_view (O34.out.2.below F6)
  obtain ⟨pa, pc, rfl, HP⟩ := pcs_view (O5.out.below b6)
  obtain ⟨qa, qc, rfl, HQ6⟩ := pcs_view o6
  obtain ⟨un, hun⟩ : ∃ un, un = us.length := ⟨_, rfl⟩
  obtain ⟨sn, hsn⟩ : ∃ sn, sn = ps.length := ⟨_, rfl⟩
  have hu4 : un ≤ 400 := by rw [hun]; exact HUN.out
  have hs4 : sn ≤ 400 := by rw [hsn]; exact HSN.out
  rw [← hun, ← hsn]
  have HUL : Hid (un = us.length) := hun
  have HSL : Hid (sn = ps.length) := hsn
  clear G6 o6 b6 B5 D5 D6 F5 F6 O12 O34 O5 hun hsn HUN HSN
  generalize strOfNums ws = sw at *
  clear HSA
  go_wp2_with fail
  clear c1 c2 h1 h3
  go_loopw [17] (fun iv wr => ∃ k : Nat, k ≤ un ∧ iv = .int .i64 k ∧ Hid (Below w6.heap.size w6 wr)) (fun iv _ => un - (intOf iv).toNat)
  case atStart => exact ⟨0, Nat.zero_le _, rfl, Below.refl _ _⟩
  case round =>
    obtain ⟨k, hk, rfl, HW⟩ := hrel
    by_cases hlt : k < un
    · obtain ⟨mg, mo, rfl, hmg, cm⟩ : ∃ g off, ma = some ⟨g, off, none⟩ ∧ g < w6.heap.size ∧ w6.cell? ⟨g, off + k, none⟩ = some (.int .i64 (us.getD k 0)) := by
        rcases HM.out with h | ⟨g, off, e, h1, h2⟩
        · have := HUL.out; rw [h] at this; simp at this; omega
        · exact ⟨g, off, e, h1, h2 k (by have := HUL.out; omega)⟩
      obtain ⟨ng, no, rfl, hng, cn⟩ : ∃ g off, na = some ⟨g, off, none⟩ ∧ g < w6.heap.size ∧ w6.cell? ⟨g, off + k, none⟩ = some (.int .i64 (us.getD k 0)) := by
        rcases HN.out with h | ⟨g, off, e, h1, h2⟩
        · have := HUL.out; rw [h] at this; simp at this; omega
        · exact ⟨g, off, e, h1, h2 k (by have := HUL.out; omega)⟩
      generalize us.getD k 0 = z at *
      go_wp2_with fail
      refine wp_region_noPanic ?_
      refine name_ops ?_
      intro O QQ HO HQ
      refine wp_region_held_drew (S := fun W' => Below w6.heap.size w6 W') (by kernel_rfl) HW.out.drew (fun hS => ?_)
      rw [show O.size = 9 by rw [HO.out]; rfl]
      refine wpAnyH_take (i := 0) (v := .slice (some ⟨mg, mo, none⟩) un mc) (by rw [HO.out]; simp only [List.getElem?_toArray, List.getElem?_cons_succ, List.getElem?_cons_zero]; rfl) (by rw [HO.out]; kernel_rfl) (by rw [HO.out]; kernel_rfl) (by rw [HO.out]; kernel_rfl) (by rw [HQ.out]; exact fun _ _ _ h => h) (Or.inl ⟨by rfl, ?_⟩) hS ?_
      · intro w' hSw
        go_simp
      try simp only [Act.put, List.setIfInBounds_toArray, List.set_cons_zero, List.set_cons_succ]
      refine wpAnyH_take (i := 1) (v := .int .i64 k) (by rw [HO.out]; simp only [List.getElem?_toArray, List.getElem?_cons_succ, List.getElem?_cons_zero]; rfl) (by rw [HO.out]; kernel_rfl) (by rw [HO.out]; kernel_rfl) (by rw [HO.out]; kernel_rfl) (by rw [HQ.out]; exact fun _ _ _ h => h) (Or.inl ⟨by rfl, ?_⟩) hS ?_
      · intro w' hSw
        go_simp
      try simp only [Act.put, List.setIfInBounds_toArray, List.set_cons_zero, List.set_cons_succ]
      refine wpAnyH_take (i := 2) (v := .pointer (some ⟨mg, mo + k, none⟩)) (by rw [HO.out]; simp only [List.getElem?_toArray, List.getElem?_cons_succ, List.getElem?_cons_zero]; rfl) (by rw [HO.out]; kernel_rfl) (by rw [HO.out]; kernel_rfl) (by rw [HO.out]; kernel_rfl) (by rw [HQ.out]; exact fun _ _ _ h => h) (Or.inl ⟨by rfl, ?_⟩) hS ?_
      · intro w' hSw
        go_simp
      try simp only [Act.put, List.setIfInBounds_toArray, List.set_cons_zero, List.set_cons_succ]
      refine wpAnyH_take (i := 3) (v := .int .i64 z) (by rw [HO.out]; simp only [List.getElem?_toArray, List.getElem?_cons_succ, List.getElem?_cons_zero]; rfl) (by rw [HO.out]; kernel_rfl) (by rw [HO.out]; kernel_rfl) (by rw [HO.out]; kernel_rfl) (by rw [HQ.out]; exact fun _ _ _ h => h) (Or.inl ⟨by rfl, ?_⟩) hS ?_
      · intro w' hSw
        have q := (hSw.cell (p := ⟨mg, mo + k, none⟩) hmg).trans cm
        go_simp
      try simp only [Act.put, List.setIfInBounds_toArray, List.set_cons_zero, List.set_cons_succ]
      refine wpAnyH_take (i := 4) (v := .slice (some ⟨ng, no, none⟩) un nc) (by rw [HO.out]; simp only [List.getElem?_toArray, List.getElem?_cons_succ, List.getElem?_cons_zero]; rfl) (by rw [HO.out]; kernel_rfl) (by rw [HO.out]; kernel_rfl) (by rw [HO.out]; kernel_rfl) (by rw [HQ.out]; exact fun _ _ _ h => h) (Or.inl ⟨by rfl, ?_⟩) hS ?_
      · intro w' hSw
        go_simp
      try simp only [Act.put, List.setIfInBounds_toArray, List.set_cons_zero, List.set_cons_succ]
      refine wpAnyH_take (i := 5) (v := .int .i64 k) (by rw [HO.out]; simp only [List.getElem?_toArray, List.getElem?_cons_succ, List.getElem?_cons_zero]; rfl) (by rw [HO.out]; kernel_rfl) (by rw [HO.out]; kernel_rfl) (by rw [HO.out]; kernel_rfl) (by rw [HQ.out]; exact fun _ _ _ h => h) (Or.inl ⟨by rfl, ?_⟩) hS ?_
      · intro w' hSw
        go_simp
      try simp only [Act.put, List.setIfInBounds_toArray, List.set_cons_zero, List.set_cons_succ]
      refine wpAnyH_take (i := 6) (v := .pointer (some ⟨ng, no + k, none⟩)) (by rw [HO.out]; simp only [List.getElem?_toArray, List.getElem?_cons_succ, List.getElem?_cons_zero]; rfl) (by rw [HO.out]; kernel_rfl) (by rw [HO.out]; kernel_rfl) (by rw [HO.out]; kernel_rfl) (by rw [HQ.out]; exact fun _ _ _ h => h) (Or.inl ⟨by rfl, ?_⟩) hS ?_
      · intro w' hSw
        go_simp
      try simp only [Act.put, List.setIfInBounds_toArray, List.set_cons_zero, List.set_cons_succ]
      refine wpAnyH_take (i := 7) (v := .int .i64 z) (by rw [HO.out]; simp only [List.getElem?_toArray, List.getElem?_cons_succ, List.getElem?_cons_zero]; rfl) (by rw [HO.out]; kernel_rfl) (by rw [HO.out]; kernel_rfl) (by rw [HO.out]; kernel_rfl) (by rw [HQ.out]; exact fun _ _ _ h => h) (Or.inl ⟨by rfl, ?_⟩) hS ?_
      · intro w' hSw
        have q := (hSw.cell (p := ⟨ng, no + k, none⟩) hng).trans cn
        go_simp
      try simp only [Act.put, List.setIfInBounds_toArray, List.set_cons_zero, List.set_cons_succ]
      refine wpAnyH_take (i := 8) (v := .bool false) (by rw [HO.out]; simp only [List.getElem?_toArray, List.getElem?_cons_succ, List.getElem?_cons_zero]; rfl) (by rw [HO.out]; kernel_rfl) (by rw [HO.out]; kernel_rfl) (by rw [HO.out]; kernel_rfl) (by rw [HQ.out]; exact fun _ _ _ h => h) (Or.inl ⟨by rfl, ?_⟩) hS ?_
      · intro w' hSw
        go_simp
      try simp only [Act.put, List.setIfInBounds_toArray, List.set_cons_zero, List.set_cons_succ]
      refine wpAnyH_done (by rw [HO.out]; kernel_rfl) ?_ _
      rw [HQ.out]
      refine NoPanic.normal ?_
      go_wp2
      go_roundw
      case rel => exact ⟨k + 1, by omega, by go_num, HW.out.drew⟩
      case measure => simp [intOf]; omega
    · have : k = un := by omega
      subst this
      go_wp2_with fail
      go_loopw [18] (fun iv wr => ∃ k : Nat, k ≤ sn ∧ iv = .int .i64 k ∧ Hid (Below w6.heap.size w6 wr)) (fun iv _ => sn - (intOf iv).toNat)
      case atStart => exact ⟨0, Nat.zero_le _, rfl, HW.out⟩
      case round =>
        clear HW
        obtain ⟨k, hk, rfl, HW⟩ := hrel
        by_cases hlt : k < sn
        · obtain ⟨pg, rfl, hpg, px, pxc, cp, np, tp⟩ : ∃ g, pa = some ⟨g, 0, none⟩ ∧ g < w6.heap.size ∧ ∃ x xc, w6.cell? ⟨g, k, none⟩ = some (.slice x (ps.getD k []).length xc) ∧ (x = none → xc = 0) ∧ BT w6 x (ps.getD k []) := by
            rcases HP.out with h | ⟨g, e, h1, h2⟩
            · have := HSL.out; rw [h] at this; simp at this; omega
            · exact ⟨g, e, h1, h2 k (by have := HSL.out; omega)⟩
          obtain ⟨qg, rfl, hqg, qx, qxc, cq, nq, tq⟩ : ∃ g, qa = some ⟨g, 0, none⟩ ∧ g < w6.heap.size ∧ ∃ x xc, w6.cell? ⟨g, k, none⟩ = some (.slice x (ps.getD k []).length xc) ∧ (x = none → xc = 0) ∧ BT w6 x (ps.getD k []) := by
            rcases HQ6.out with h | ⟨g, e, h1, h2⟩
            · have := HSL.out; rw [h] at this; simp at this; omega
            · exact ⟨g, e, h1, h2 k (by have := HSL.out; omega)⟩
          have HVp : Hid (∀ W, Below w6.heap.size w6 W → (convert 22 9 (.slice px (ps.getD k []).length pxc)).run Try.prog W = .ok (.string (strOfNums (ps.getD k []))) W) := fun W hW => conv_bv (tp.below hW).bv np
          have HVq : Hid (∀ W, Below w6.heap.size w6 W → (convert 22 9 (.slice qx (ps.getD k []).length qxc)).run Try.prog W = .ok (.string (strOfNums (ps.getD k []))) W) := fun W hW => conv_bv (tq.below hW).bv nq
          clear tp tq np nq
          generalize strOfNums (ps.getD k []) = sx at *
          generalize (ps.getD k []).length = pl at *
          go_wp2_with fail
          refine wp_region_noPanic ?_
          refine name_ops ?_
          intro O QQ HO HQ
          refine wp_region_held_drew (S := fun W' => Below w6.heap.size w6 W') (by kernel_rfl) HW.out.drew (fun hS => ?_)
          rw [show O.size = 11 by rw [HO.out]; rfl]
          refine wpAnyH_take (i := 0) (v := .slice (some ⟨pg, 0, none⟩) sn pc) (by rw [HO.out]; simp only [List.getElem?_toArray, List.getElem?_cons_succ, List.getElem?_cons_zero]; rfl) (by rw [HO.out]; kernel_rfl) (by rw [HO.out]; kernel_rfl) (by rw [HO.out]; kernel_rfl) (by rw [HQ.out]; exact fun _ _ _ h => h) (Or.inl ⟨by rfl, ?_⟩) hS ?_
          · intro w' hSw
            go_simp
          try simp only [Act.put, List.setIfInBounds_toArray, List.set_cons_zero, List.set_cons_succ]
          refine wpAnyH_take (i := 1) (v := .int .i64 k) (by rw [HO.out]; simp only [List.getElem?_toArray, List.getElem?_cons_succ, List.getElem?_cons_zero]; rfl) (by rw [HO.out]; kernel_rfl) (by rw [HO.out]; kernel_rfl) (by rw [HO.out]; kernel_rfl) (by rw [HQ.out]; exact fun _ _ _ h => h) (Or.inl ⟨by rfl, ?_⟩) hS ?_
          · intro w' hSw
            go_simp
          try simp only [Act.put, List.setIfInBounds_toArray, List.set_cons_zero, List.set_cons_succ]
          refine wpAnyH_take (i := 2) (v := .pointer (some ⟨pg, k, none⟩)) (by rw [HO.out]; simp only [List.getElem?_toArray, List.getElem?_cons_succ, List.getElem?_cons_zero]; rfl) (by rw [HO.out]; kernel_rfl) (by rw [HO.out]; kernel_rfl) (by rw [HO.out]; kernel_rfl) (by rw [HQ.out]; exact fun _ _ _ h => h) (Or.inl ⟨by rfl, ?_⟩) hS ?_
          · intro w' hSw
            go_simp
          try simp only [Act.put, List.setIfInBounds_toArray, List.set_cons_zero, List.set_cons_succ]
          refine wpAnyH_take (i := 3) (v := .slice px pl pxc) (by rw [HO.out]; simp only [List.getElem?_toArray, List.getElem?_cons_succ, List.getElem?_cons_zero]; rfl) (by rw [HO.out]; kernel_rfl) (by rw [HO.out]; kernel_rfl) (by rw [HO.out]; kernel_rfl) (by rw [HQ.out]; exact fun _ _ _ h => h) (Or.inl ⟨by rfl, ?_⟩) hS ?_
          · intro w' hSw
            have q := (hSw.cell (p := ⟨pg, k, none⟩) hpg).trans cp
            go_simp
          try simp only [Act.put, List.setIfInBounds_toArray, List.set_cons_zero, List.set_cons_succ]
          refine wpAnyH_take (i := 4) (v := .string sx) (by rw [HO.out]; simp only [List.getElem?_toArray, List.getElem?_cons_succ, List.getElem?_cons_zero]; rfl) (by rw [HO.out]; kernel_rfl) (by rw [HO.out]; kernel_rfl) (by rw [HO.out]; kernel_rfl) (by rw [HQ.out]; exact fun _ _ _ h => h) (Or.inl ⟨by rfl, ?_⟩) hS ?_
          · intro w' hSw
            have q := HVp.out w' hSw
            go_simp
          try simp only [Act.put, List.setIfInBounds_toArray, List.set_cons_zero, List.set_cons_succ]
          refine wpAnyH_take (i := 5) (v := .slice (some ⟨qg, 0, none⟩) sn qc) (by rw [HO.out]; simp only [List.getElem?_toArray, List.getElem?_cons_succ, List.getElem?_cons_zero]; rfl) (by rw [HO.out]; kernel_rfl) (by rw [HO.out]; kernel_rfl) (by rw [HO.out]; kernel_rfl) (by rw [HQ.out]; exact fun _ _ _ h => h) (Or.inl ⟨by rfl, ?_⟩) hS ?_
          · intro w' hSw
            go_simp
          try simp only [Act.put, List.setIfInBounds_toArray, List.set_cons_zero, List.set_cons_succ]
          refine wpAnyH_take (i := 6) (v := .int .i64 k) (by rw [HO.out]; simp only [List.getElem?_toArray, List.getElem?_cons_succ, List.getElem?_cons_zero]; rfl) (by rw [HO.out]; kernel_rfl) (by rw [HO.out]; kernel_rfl) (by rw [HO.out]; kernel_rfl) (by rw [HQ.out]; exact fun _ _ _ h => h) (Or.inl ⟨by rfl, ?_⟩) hS ?_
          · intro w' hSw
            go_simp
          try simp only [Act.put, List.setIfInBounds_toArray, List.set_cons_zero, List.set_cons_succ]
          refine wpAnyH_take (i := 7) (v := .pointer (some ⟨qg, k, none⟩)) (by rw [HO.out]; simp only [List.getElem?_toArray, List.getElem?_cons_succ, List.getElem?_cons_zero]; rfl) (by rw [HO.out]; kernel_rfl) (by rw [HO.out]; kernel_rfl) (by rw [HO.out]; kernel_rfl) (by rw [HQ.out]; exact fun _ _ _ h => h) (Or.inl ⟨by rfl, ?_⟩) hS ?_
          · intro w' hSw
            go_simp
          try simp only [Act.put, List.setIfInBounds_toArray, List.set_cons_zero, List.set_cons_succ]
          refine wpAnyH_take (i := 8) (v := .slice qx pl qxc) (by rw [HO.out]; simp only [List.getElem?_toArray, List.getElem?_cons_succ, List.getElem?_cons_zero]; rfl) (by rw [HO.out]; kernel_rfl) (by rw [HO.out]; kernel_rfl) (by rw [HO.out]; kernel_rfl) (by rw [HQ.out]; exact fun _ _ _ h => h) (Or.inl ⟨by rfl, ?_⟩) hS ?_
          · intro w' hSw
            have q := (hSw.cell (p := ⟨qg, k, none⟩) hqg).trans cq
            go_simp
          try simp only [Act.put, List.setIfInBounds_toArray, List.set_cons_zero, List.set_cons_succ]
          refine wpAnyH_take (i := 9) (v := .string sx) (by rw [HO.out]; simp only [List.getElem?_toArray, List.getElem?_cons_succ, List.getElem?_cons_zero]; rfl) (by rw [HO.out]; kernel_rfl) (by rw [HO.out]; kernel_rfl) (by rw [HO.out]; kernel_rfl) (by rw [HQ.out]; exact fun _ _ _ h => h) (Or.inl ⟨by rfl, ?_⟩) hS ?_
          · intro w' hSw
            have q := HVq.out w' hSw
            go_simp
          try simp only [Act.put, List.setIfInBounds_toArray, List.set_cons_zero, List.set_cons_succ]
          refine wpAnyH_take (i := 10) (v := .bool false) (by rw [HO.out]; simp only [List.getElem?_toArray, List.getElem?_cons_succ, List.getElem?_cons_zero]; rfl) (by rw [HO.out]; kernel_rfl) (by rw [HO.out]; kernel_rfl) (by rw [HO.out]; kernel_rfl) (by rw [HQ.out]; exact fun _ _ _ h => h) (Or.inl ⟨by rfl, ?_⟩) hS ?_
          · intro w' hSw
            go_simp
          try simp only [Act.put, List.setIfInBounds_toArray, List.set_cons_zero, List.set_cons_succ]
          refine wpAnyH_done (by rw [HO.out]; kernel_rfl) ?_ _
          rw [HQ.out]
          refine NoPanic.normal ?_
          go_wp2
          go_roundw
          case rel => exact ⟨k + 1, by omega, by go_num, HW.out.drew⟩
          case measure => simp [intOf]; omega
        · have : k = sn := by omega
          subst this
          have HA2 := HA wr
          go_wp2_with (first | (go_at_call 8; refine HA2.mono ?_; rintro e w7 ⟨rfl, hb7⟩; clear HA2) | fail)
          go_ret
          exact ⟨rfl, B6.out.trans ((HW.out.trans (hb7.mono HW.out.size)).mono B6.out.size)⟩
theorem walk (a0 : Option Addr) (len0 cap0 : Nat) (y0 : List Int) (a1 : Option Addr) (len1 cap1 : Nat) (y1 : List Int) (a2 : Int) (w : World) (w0 : y0.length = len0 ∧ IV w a0 y0 ∧ (a0 = none → cap0 = 0) ∧ len0 ≤ cap0 ∧ cap0 ≤ 9223372036854775807) (w1 : y1.length = len1 ∧ BV w a1 y1 ∧ (a1 = none → cap1 = 0) ∧ len1 ≤ cap1 ∧ cap1 ≤ 9223372036854775807) (w2 : (Lit.int .i64 a2).wf = true) :
    Calls Try.prog 5 #[.slice a0 len0 cap0, .slice a1 len1 cap1, .int .i64 a2] w fun e w' => e = .returned (.bool true) ∧ Below w.heap.size w w' := by
  by_cases h : 400 < len0
  · exact walk_l a0 len0 cap0 y0 a1 len1 cap1 y1 a2 w w0 w1 w2 h
  · by_cases h2 : 400 < len1
    · exact walk_r a0 len0 cap0 y0 a1 len1 cap1 y1 a2 w w0 w1 w2 h h2
    · exact walk_m a0 len0 cap0 y0 a1 len1 cap1 y1 a2 w w0 w1 w2 h h2
set_option maxRecDepth 100000 in
theorem lifted (os : Os) (started : os.Started) (H : Type) (enc : TypeId × Value → H) :
    ReturnsInHanded {} Try.checked os 5 .any (Rows.pageWordsSpec.pre6 enc Try.prog Try.f5 Rows.pageWordsRow.domain false) (Rows.pageWordsSpec.post enc Try.prog Try.f5 false true false false) := by
  refine returnsInHanded_of_change (C := Try.checked) own started (by kernel_rfl) Try.func5
    (ChangeSpec.witness6 (enc := enc) (C := Try.checked) false ⟨#[], #[.slice none 0 0, .slice none 0 0, .int .i64 0], []⟩ 8 (by kernel_rfl) (by kernel_rfl) (by kernel_rfl) (by kernel_rfl)) ?_
  intro W base args ds gs before hval0 hW hcnd _
  have hval : ∀ (j : Nat) t v, Try.f5.params[j]? = some t → args[j]? = some v → Value.okWide Try.prog W .any base t v := hval0
  have hW' := hW
  obtain ⟨p, q, hA0, hV, rfl, hfz, hnd⟩ := hW
  have hA : DataW.TrodAll enc Try.prog W 0 (fun _ => true) true Try.f5.params.toList args.toList ds p := hA0
  rw [Try.params5] at hA hval
  obtain ⟨v0, vs0, d0, ds0, p0, q0, hargs, rfl, rfl, h0, r0⟩ := trodAll_cons hA
  obtain ⟨v1, vs1, d1, ds1, p1, q1, rfl, rfl, rfl, h1, r1⟩ := trodAll_cons r0
  obtain ⟨v2, vs2, d2, ds2, p2, q2, rfl, rfl, rfl, h2, r2⟩ := trodAll_cons r1
  obtain ⟨rfl, rfl, rfl⟩ := trodAll_nil r2
  obtain rfl : args = #[v0, v1, v2] := by cases args; simp_all
  obtain ⟨rfl, rfl⟩ := trodVars_none hV
  obtain ⟨a0, len0, cap0, rfl⟩ := okWide_slice Try.underlying35 (hval 0 35 v0 rfl rfl)
  have k0 := h0
  have lt0 : ∀ x ∈ p0, x.block < W.heap.size := by obtain ⟨m, hm⟩ := k0; exact DataW.trod_lt m _ _ _ hm
  obtain ⟨y0, w0⟩ : ∃ ys : List Int, ys.length = len0 ∧ IV W a0 ys ∧ (a0 = none → cap0 = 0) ∧ len0 ≤ cap0 ∧ cap0 ≤ 9223372036854775807 := by
    obtain ⟨fuel, hf⟩ := h0
    rcases open_ints Try.underlying35 Try.underlying3 (by kernel_rfl) hf with ⟨hcs, _⟩ | ⟨x, l, c, zs, hcs, _, hl, hm, hz, _, hcell, hwz⟩
    · simp [Value.cells] at hcs
      obtain ⟨rfl, rfl, rfl⟩ := hcs
      exact ints_of (zs := []) (.inl ⟨rfl, rfl, rfl, rfl⟩)
    · simp [Value.cells] at hcs
      obtain ⟨rfl, rfl, rfl⟩ := hcs
      exact ints_of (.inr ⟨_, rfl, hl, hm, by simpa using hz, hcell⟩)
  obtain ⟨a1, len1, cap1, rfl⟩ := okWide_slice Try.underlying22 (hval 1 22 v1 rfl rfl)
  have k1 := h1
  have lt1 : ∀ x ∈ p1, x.block < W.heap.size := by obtain ⟨m, hm⟩ := k1; exact DataW.trod_lt m _ _ _ hm
  obtain ⟨y1, w1⟩ : ∃ ys : List Int, ys.length = len1 ∧ BV W a1 ys ∧ (a1 = none → cap1 = 0) ∧ len1 ≤ cap1 ∧ cap1 ≤ 9223372036854775807 := by
    obtain ⟨fuel, hf⟩ := h1
    rcases open_ints Try.underlying22 Try.underlying5 (by kernel_rfl) hf with ⟨hcs, _⟩ | ⟨x, l, c, zs, hcs, _, hl, hm, hz, _, hcell, hwz⟩
    · simp [Value.cells] at hcs
      obtain ⟨rfl, rfl, rfl⟩ := hcs
      exact bytes_of (zs := []) (.inl ⟨rfl, rfl, rfl, rfl⟩)
    · simp [Value.cells] at hcs
      obtain ⟨rfl, rfl, rfl⟩ := hcs
      exact bytes_of (.inr ⟨_, rfl, hl, hm, by simpa using hz, hcell, hwz⟩)
  obtain ⟨a2, rfl, rfl, rfl, w2⟩ := open_int Try.underlying3 (hval 2 3 v2 rfl rfl) h2
  clear hA0 hval0
  refine (walk a0 len0 cap0 y0 a1 len1 cap1 y1 a2 W w0 w1 w2).mono fun e W' ⟨he, bel⟩ => ?_
  subst he
  exact ⟨_, rfl, _, _, _, [], _, [], hW', trodAll_mk1 (shut_bool Try.underlying4 _), (trodAll_cons_mk (Below.trod laidOut (by kernel_rfl) (of_decide_eq_true (by kernel_rfl)) k0 bel lt0) (trodAll_cons_mk (Below.trod laidOut (by kernel_rfl) (of_decide_eq_true (by kernel_rfl)) k1 bel lt1) (trodAll_cons_mk (shut_int Try.underlying3 w2) trodAll_mk0))), rfl, bel.frame _, fun h => by cases h⟩

theorem over : Rows.pageWordsRow.holds Try.pinned (OpenSpec.ofChange Rows.pageWordsSpec) :=
  OpenClaim.holds_of_wide 5 Try.f5 rfl rfl rfl rfl rfl rfl rfl ⟨rfl, rfl, rfl, rfl, rfl⟩ rfl rfl rfl rfl rfl (by kernel_rfl) Try.func5 (by kernel_rfl)
    (of_decide_eq_true (by kernel_rfl)) (by unfold Func.isWrapper; first | (rw [if_pos (by decide +kernel)]; kernel_rfl) | (rw [if_neg (by decide +kernel)]; exact ⟨rfl, rfl⟩))
    (fun os started H enc _ => lifted os started H enc)
end Go.Proofs.Ytcegahmjegjckaa.pageWords

namespace Go.Proofs.Ytcegahmjegjckaa
theorem pageWords_holds : Rows.PageWordsSaid := pageWords.over
#print axioms pageWords_holds
end Go.Proofs.Ytcegahmjegjckaa
