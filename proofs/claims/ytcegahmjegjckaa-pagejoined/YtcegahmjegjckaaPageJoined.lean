/- For all words, bytes and sizes the call PageJoined of the statements returns true and its arguments read as they did: no condition. -/
import Derived.Test.YtcegahmjegjckaaRows
import Derived.Test.YtcegahmjegjckaaArg
import Derived.WalkKit
import Derived.ProofKit
import Derived.OpenShut
import Derived.ShutString
import Derived.ChangeOld
import Derived.Below
import Derived.Test.YtcegahmjegjckaaJoin
namespace Go.Proofs.Ytcegahmjegjckaa.pageJoined
open Go.ChangeShapes Go.WideShapes Go.ChangeAt Go.RowKit
set_option linter.unusedVariables false
set_option linter.unusedSimpArgs false
set_option maxRecDepth 20000

theorem own : ownKnob Try.prog.godebug = none := by kernel_rfl
theorem laidOut : laidOutB Try.prog = true := by kernel_rfl
set_option maxHeartbeats 800000 in
theorem walk_l (a0 : Option Addr) (len0 cap0 : Nat) (y0 : List Int) (a1 : Option Addr) (len1 cap1 : Nat) (y1 : List Int) (a2 : Int) (w : World) (w0 : y0.length = len0 ∧ UV w a0 y0 ∧ (a0 = none → cap0 = 0) ∧ len0 ≤ cap0 ∧ cap0 ≤ 9223372036854775807) (w1 : y1.length = len1 ∧ BV w a1 y1 ∧ (a1 = none → cap1 = 0) ∧ len1 ≤ cap1 ∧ cap1 ≤ 9223372036854775807) (w2 : (Lit.int .u8 a2).wf = true) (h : 400 < len0) :
    Calls Try.prog 7 #[.slice a0 len0 cap0, .slice a1 len1 cap1, .int .u8 a2] w fun e w' => e = .returned (.bool true) ∧ Below w.heap.size w w' := by
  have HA := awake_any w
  have h1 : decide ((400 : Int) < (len0 : Int)) = true := by simp; omega
  clear w0 w1 w2
  go_enter Try.func7, Try.ntmps7
  go_wp2_with (first | (go_at_call 8; refine HA.mono ?_; rintro e w2 ⟨rfl, hb2⟩; clear HA) | fail)
  go_ret
  exact ⟨rfl, hb2⟩
set_option maxHeartbeats 800000 in
theorem walk_r (a0 : Option Addr) (len0 cap0 : Nat) (y0 : List Int) (a1 : Option Addr) (len1 cap1 : Nat) (y1 : List Int) (a2 : Int) (w : World) (w0 : y0.length = len0 ∧ UV w a0 y0 ∧ (a0 = none → cap0 = 0) ∧ len0 ≤ cap0 ∧ cap0 ≤ 9223372036854775807) (w1 : y1.length = len1 ∧ BV w a1 y1 ∧ (a1 = none → cap1 = 0) ∧ len1 ≤ cap1 ∧ cap1 ≤ 9223372036854775807) (w2 : (Lit.int .u8 a2).wf = true) (h : ¬ 400 < len0) (h2 : 400 < len1) :
    Calls Try.prog 7 #[.slice a0 len0 cap0, .slice a1 len1 cap1, .int .u8 a2] w fun e w' => e = .returned (.bool true) ∧ Below w.heap.size w w' := by
  have HA := awake_any w
  have h1 : decide ((400 : Int) < (len0 : Int)) = false := by simp; omega
  have h3 : decide ((400 : Int) < (len1 : Int)) = true := by simp; omega
  clear w0 w1 w2
  go_enter Try.func7, Try.ntmps7
  go_wp2_with (first | (go_at_call 8; refine HA.mono ?_; rintro e w2 ⟨rfl, hb2⟩; clear HA) | fail)
  go_ret
  exact ⟨rfl, hb2⟩
theorem ints_view {w : World} {base : Nat} {v : Value} {zs : List Int} (h : OwnI w base v zs) : ∃ a c, v = .slice a zs.length c ∧ Hid (zs = [] ∨ ∃ g off, a = some ⟨g, off, none⟩ ∧ g < w.heap.size ∧ ∀ i, i < zs.length → w.cell? ⟨g, off + i, none⟩ = some (.int .i64 (zs.getD i 0))) := by
  obtain ⟨a, c, rfl, _, h | ⟨b, off, rfl, _, hlt, hc⟩, _, _⟩ := h.view
  · exact ⟨a, c, rfl, .inl h⟩
  · exact ⟨_, c, rfl, .inr ⟨b, off, rfl, hlt, hc⟩⟩
theorem pcs_view {w : World} {base : Nat} {v : Value} {zss : List (List Int)} (h : OwnP w base v zss) : ∃ a c, v = .slice a zss.length c ∧ Hid (zss = [] ∨ ∃ g, a = some ⟨g, 0, none⟩ ∧ g < w.heap.size ∧ ∀ i, i < zss.length → ∃ x xc, w.cell? ⟨g, i, none⟩ = some (.slice x (zss.getD i []).length xc) ∧ (x = none → xc = 0) ∧ BT w x (zss.getD i [])) := by
  obtain ⟨a, c, rfl, _, _, h | ⟨g, rfl, _, hlt, hc⟩⟩ := h.view
  · exact ⟨a, c, rfl, .inl h⟩
  · exact ⟨_, c, rfl, .inr ⟨g, rfl, hlt, hc⟩⟩
theorem split_pos (zs : List Int) (sz : Nat) : splitS zs (1 + (sz : Int)) = splitF (1 + sz) zs.length zs := by
  have h1 : ¬ (1 + (sz : Int) < 1) := by omega
  have h2 : (1 + (sz : Int)).toNat = 1 + sz := by omega
  unfold splitS
  rw [if_neg h1, h2]
theorem join_flat (zs : List Int) (sz : Nat) : (splitS zs (1 + (sz : Int))).flatten = zs := by
  rw [split_pos]
  exact split_flat (1 + sz) (by omega) zs.length zs (Nat.le_refl _)
theorem join_sizes (zs : List Int) (sz : Nat) : ∀ i, i < (splitS zs (1 + (sz : Int))).length → ((splitS zs (1 + (sz : Int))).getD i []).length = 1 + sz ∨ (i + 1 = (splitS zs (1 + (sz : Int))).length ∧ 0 < ((splitS zs (1 + (sz : Int))).getD i []).length ∧ ((splitS zs (1 + (sz : Int))).getD i []).length ≤ 1 + sz) := by
  rw [split_pos]
  exact split_sizes (1 + sz) (by omega) zs.length zs (Nat.le_refl _)
set_option maxHeartbeats 3200000 in
theorem walk_m (a0 : Option Addr) (len0 cap0 : Nat) (y0 : List Int) (a1 : Option Addr) (len1 cap1 : Nat) (y1 : List Int) (a2 : Int) (w : World) (w0 : y0.length = len0 ∧ UV w a0 y0 ∧ (a0 = none → cap0 = 0) ∧ len0 ≤ cap0 ∧ cap0 ≤ 9223372036854775807) (w1 : y1.length = len1 ∧ BV w a1 y1 ∧ (a1 = none → cap1 = 0) ∧ len1 ≤ cap1 ∧ cap1 ≤ 9223372036854775807) (w2 : (Lit.int .u8 a2).wf = true) (h : ¬ 400 < len0) (h2 : ¬ 400 < len1) :
    Calls Try.prog 7 #[.slice a0 len0 cap0, .slice a1 len1 cap1, .int .u8 a2] w fun e w' => e = .returned (.bool true) ∧ Below w.heap.size w w' := by
  have HA := awake_any
  have h1 : decide ((400 : Int) < (len0 : Int)) = false := by simp; omega
  have h3 : decide ((400 : Int) < (len1 : Int)) = false := by simp; omega
  obtain ⟨rfl, hb0, _, hc0, hm0⟩ := w0
  obtain ⟨rfl, hb1, hn1, hc1, hm1⟩ := w1
  have hz8 := bounds_u8 w2
  obtain ⟨sz, rfl⟩ := Int.eq_ofNat_of_zero_le (show 0 ≤ a2 by omega)
  have hsz : sz ≤ 255 := by omega
  obtain ⟨n0, hn0⟩ : ∃ n0, n0 = y0.length := ⟨_, rfl⟩
  obtain ⟨n1, hn1'⟩ : ∃ n1, n1 = y1.length := ⟨_, rfl⟩
  have HU : Hid (UV w a0 y0) := hb0
  have HBV : Hid (BV w a1 y1) := hb1
  have HN1 : Hid (a1 = none → cap1 = 0) := hn1
  have HL0 : Hid (n0 = y0.length) := hn0
  have HL1 : Hid (n1 = y1.length) := hn1'
  have h04 : n0 ≤ 400 := by omega
  have h14 : n1 ≤ 400 := by omega
  rw [← hn0] at h1 hc0 ⊢
  rw [← hn1'] at h3 hc1 ⊢
  clear h h2 hb0 hb1 hn1 hn0 hn1' w2 hz8
  go_enter Try.func7, Try.ntmps7
  go_wp2_with fail
  go_loopw [7, 8] (fun pv iv wr => ∃ k : Nat, k ≤ n0 ∧ iv = .int .i64 k ∧ Hid (OwnI wr w.heap.size pv (y0.take k)) ∧ Hid (Below w.heap.size w wr)) (fun _ iv _ => n0 - (intOf iv).toNat)
  case atStart => exact ⟨0, Nat.zero_le _, rfl, OwnI.nil _ _, Below.refl _ _⟩
  case round =>
    obtain ⟨k, hk, rfl, HO, HB⟩ := hrel
    by_cases hlt : k < n0
    · obtain ⟨b, off, rfl, hblt, hcl⟩ : ∃ b off, a0 = some ⟨b, off, none⟩ ∧ b < w.heap.size ∧ w.cell? ⟨b, off + k, none⟩ = some (.int .u16 (y0.getD k 0)) := by
        obtain ⟨_, h | ⟨b, off, e, h1, h2⟩⟩ := HU.out
        · have := HL0.out; rw [h] at this; simp at this; omega
        · exact ⟨b, off, e, h1, h2 k (by have := HL0.out; omega)⟩
      have hck : wr.cell? ⟨b, off + k, none⟩ = some (.int .u16 (y0.getD k 0)) := (HB.out.cell (p := ⟨b, off + k, none⟩) hblt).trans hcl
      have HT : Hid (y0.take (k + 1) = y0.take k ++ [y0.getD k 0]) := take_snoc y0 k (by have := HL0.out; omega)
      have hzz : 0 ≤ y0.getD k 0 ∧ y0.getD k 0 ≤ 65535 := by
        have hlt2 : k < y0.length := by have := HL0.out; omega
        refine HU.out.1 _ ?_
        rw [List.getD_eq_getElem?_getD, List.getElem?_eq_getElem hlt2]; simp
      have HLE : Hid ((y0.take k).length ≤ 1000000) := by
        show (y0.take k).length ≤ 1000000
        rw [List.length_take]; omega
      have hwr := HB.out.size
      generalize y0.getD k 0 = z at *
      have hw : IntKind.i64.wrap z = z := wrap_sm (by omega) (by omega)
      have hw2 : wrap64 z = z := by unfold wrap64; omega
      have HBA : Hid (Below wr.heap.size wr (wr.alloc (.cells #[.int .i64 z] 3 (0, 0)))) := (Below.refl _ _).alloc (Nat.le_refl _) _
      clear hcl
      go_wp2_with (first
        | (at_builtin; refine wp_appI rfl _ _ rfl w.heap.size _ (y0.take k) z rfl (HO.out.below HBA.out) wr.heap.size rfl (heap_alloc_last _ _) HLE.out (Nat.le_trans HB.out.size HBA.out.size) ?_; intro v3 w3 o3 b3; have O3 : Hid (OwnI w3 w.heap.size v3 (y0.take k ++ [z])) := o3; have B3 : Hid (Below w.heap.size w w3) := HB.out.trans ((HBA.out.mono HB.out.size).trans b3); clear o3 b3)
        | fail)
      go_roundw
      case rel => exact ⟨k + 1, by omega, by go_num, by rw [HT.out]; exact O3.out, B3.out⟩
      case measure => simp [intOf]; omega
    · have : k = n0 := by omega
      subst this
      have h1 := HO.out
      rw [List.take_of_length_le (by have := HL0.out; omega)] at h1
      obtain ⟨ia, ic, rfl, _, hiv, hi1, hi2⟩ := h1.view
      have hE := words_in HU.out.1
      have hN := un_words HU.out.1
      have hWL := wordsS_len y0
      have W1 := words_any ia ic y0 wr hiv.iv (by have := HL0.out; omega)
      rw [hE.1, hE.2] at W1
      rw [← HL0.out] at W1 ⊢
      have HW2 : Hid (∀ (a : Option Addr) (c : Nat) (W : World), BV W a (wordsS y0) → (a = none → c = 0) → Calls Try.prog 15 #[.slice a (wordsS y0).length c] W fun e w' => ∃ v, e = .returned (.tuple #[v, .int .i64 0]) ∧ OwnI w' W.heap.size v y0 ∧ Below W.heap.size W w') := by
        intro a c W q1 q2
        have := unw_any a c (wordsS y0) W q1 q2 (by have := HL0.out; omega)
        unfold UnPost at this
        rw [hN.1, hN.2] at this
        exact this
      have HWA : Hid (AllB (wordsS y0)) := wordsS_all y0
      generalize wordsS y0 = ws at *
      clear hE hN hWL hiv hi1 hi2 h1 HO
      go_wp2_with fail
      refine W1.mono ?_
      rintro e w1 ⟨v1, rfl, o1, b1⟩
      have B1 : Hid (Below w.heap.size w w1) := HB.out.trans (b1.mono HB.out.size)
      obtain ⟨xa, xc, rfl, xn, xb, _, _⟩ := o1.slice HWA.out
      have W2 : Hid (Calls Try.prog 15 #[.slice xa ws.length xc] w1 fun e w' => ∃ v, e = .returned (.tuple #[v, .int .i64 0]) ∧ OwnI w' w1.heap.size v y0 ∧ Below w1.heap.size w1 w') := HW2.out xa xc w1 xb xn
      clear W1 HW2 o1 b1 xb HB HWA
      go_wp2_with fail
      refine W2.out.mono ?_
      rintro e w2 ⟨v2, rfl, o2, b2⟩
      have B2 : Hid (Below w.heap.size w w2) := B1.out.trans (b2.mono B1.out.size)
      obtain ⟨ma, mc, rfl, HM⟩ := ints_view o2
      rw [← HL0.out]
      clear W2 o2 b2 B1
      go_wp2_with fail
      go_loopw [13] (fun iv wr => ∃ j : Nat, j ≤ k ∧ iv = .int .i64 j ∧ Hid (Below w.heap.size w wr ∧ Below w2.heap.size w2 wr)) (fun iv _ => k - (intOf iv).toNat)
      case atStart => exact ⟨0, Nat.zero_le _, rfl, B2.out, Below.refl _ _⟩
      case round =>
        clear B2
        obtain ⟨j, hj, rfl, HW⟩ := hrel
        by_cases hlt : j < k
        · obtain ⟨mg, mo, rfl, hmg, cm⟩ : ∃ g off, ma = some ⟨g, off, none⟩ ∧ g < w2.heap.size ∧ w2.cell? ⟨g, off + j, none⟩ = some (.int .i64 (y0.getD j 0)) := by
            rcases HM.out with h | ⟨g, off, e, h1, h2⟩
            · have := HL0.out; rw [h] at this; simp at this; omega
            · exact ⟨g, off, e, h1, h2 j (by have := HL0.out; omega)⟩
          obtain ⟨lg, lo, rfl, hlg, cl⟩ : ∃ b off, a0 = some ⟨b, off, none⟩ ∧ b < w.heap.size ∧ w.cell? ⟨b, off + j, none⟩ = some (.int .u16 (y0.getD j 0)) := by
            obtain ⟨_, h | ⟨b, off, e, h1, h2⟩⟩ := HU.out
            · have := HL0.out; rw [h] at this; simp at this; omega
            · exact ⟨b, off, e, h1, h2 j (by have := HL0.out; omega)⟩
          have hzz : 0 ≤ y0.getD j 0 ∧ y0.getD j 0 ≤ 65535 := by
            have hlt2 : j < y0.length := by have := HL0.out; omega
            refine HU.out.1 _ ?_
            rw [List.getD_eq_getElem?_getD, List.getElem?_eq_getElem hlt2]; simp
          generalize y0.getD j 0 = z at *
          have hw : IntKind.i64.wrap z = z := wrap_sm (by omega) (by omega)
          go_wp2_with fail
          refine wp_region_noPanic ?_
          refine name_ops ?_
          intro O QQ HO HQ
          refine wp_region_held_drew (S := fun W' => Below w.heap.size w W' ∧ Below w2.heap.size w2 W') (by kernel_rfl) ⟨HW.out.1.drew, HW.out.2.drew⟩ (fun hS => ?_)
          rw [show O.size = 10 by rw [HO.out]; rfl]
          refine wpAnyH_take (i := 0) (v := .slice (some ⟨mg, mo, none⟩) k mc) (by rw [HO.out]; simp only [List.getElem?_toArray, List.getElem?_cons_succ, List.getElem?_cons_zero]; rfl) (by rw [HO.out]; kernel_rfl) (by rw [HO.out]; kernel_rfl) (by rw [HO.out]; kernel_rfl) (by rw [HQ.out]; exact fun _ _ _ h => h) (Or.inl ⟨by rfl, ?_⟩) hS ?_
          · intro w' hSw
            go_simp
          try simp only [Act.put, List.setIfInBounds_toArray, List.set_cons_zero, List.set_cons_succ]
          refine wpAnyH_take (i := 1) (v := .int .i64 j) (by rw [HO.out]; simp only [List.getElem?_toArray, List.getElem?_cons_succ, List.getElem?_cons_zero]; rfl) (by rw [HO.out]; kernel_rfl) (by rw [HO.out]; kernel_rfl) (by rw [HO.out]; kernel_rfl) (by rw [HQ.out]; exact fun _ _ _ h => h) (Or.inl ⟨by rfl, ?_⟩) hS ?_
          · intro w' hSw
            go_simp
          try simp only [Act.put, List.setIfInBounds_toArray, List.set_cons_zero, List.set_cons_succ]
          refine wpAnyH_take (i := 2) (v := .pointer (some ⟨mg, mo + j, none⟩)) (by rw [HO.out]; simp only [List.getElem?_toArray, List.getElem?_cons_succ, List.getElem?_cons_zero]; rfl) (by rw [HO.out]; kernel_rfl) (by rw [HO.out]; kernel_rfl) (by rw [HO.out]; kernel_rfl) (by rw [HQ.out]; exact fun _ _ _ h => h) (Or.inl ⟨by rfl, ?_⟩) hS ?_
          · intro w' hSw
            go_simp
          try simp only [Act.put, List.setIfInBounds_toArray, List.set_cons_zero, List.set_cons_succ]
          refine wpAnyH_take (i := 3) (v := .int .i64 z) (by rw [HO.out]; simp only [List.getElem?_toArray, List.getElem?_cons_succ, List.getElem?_cons_zero]; rfl) (by rw [HO.out]; kernel_rfl) (by rw [HO.out]; kernel_rfl) (by rw [HO.out]; kernel_rfl) (by rw [HQ.out]; exact fun _ _ _ h => h) (Or.inl ⟨by rfl, ?_⟩) hS ?_
          · intro w' hSw
            have q := (hSw.2.cell (p := ⟨mg, mo + j, none⟩) hmg).trans cm
            go_simp
          try simp only [Act.put, List.setIfInBounds_toArray, List.set_cons_zero, List.set_cons_succ]
          refine wpAnyH_take (i := 4) (v := .slice (some ⟨lg, lo, none⟩) k cap0) (by rw [HO.out]; simp only [List.getElem?_toArray, List.getElem?_cons_succ, List.getElem?_cons_zero]; rfl) (by rw [HO.out]; kernel_rfl) (by rw [HO.out]; kernel_rfl) (by rw [HO.out]; kernel_rfl) (by rw [HQ.out]; exact fun _ _ _ h => h) (Or.inl ⟨by rfl, ?_⟩) hS ?_
          · intro w' hSw
            go_simp
          try simp only [Act.put, List.setIfInBounds_toArray, List.set_cons_zero, List.set_cons_succ]
          refine wpAnyH_take (i := 5) (v := .int .i64 j) (by rw [HO.out]; simp only [List.getElem?_toArray, List.getElem?_cons_succ, List.getElem?_cons_zero]; rfl) (by rw [HO.out]; kernel_rfl) (by rw [HO.out]; kernel_rfl) (by rw [HO.out]; kernel_rfl) (by rw [HQ.out]; exact fun _ _ _ h => h) (Or.inl ⟨by rfl, ?_⟩) hS ?_
          · intro w' hSw
            go_simp
          try simp only [Act.put, List.setIfInBounds_toArray, List.set_cons_zero, List.set_cons_succ]
          refine wpAnyH_take (i := 6) (v := .pointer (some ⟨lg, lo + j, none⟩)) (by rw [HO.out]; simp only [List.getElem?_toArray, List.getElem?_cons_succ, List.getElem?_cons_zero]; rfl) (by rw [HO.out]; kernel_rfl) (by rw [HO.out]; kernel_rfl) (by rw [HO.out]; kernel_rfl) (by rw [HQ.out]; exact fun _ _ _ h => h) (Or.inl ⟨by rfl, ?_⟩) hS ?_
          · intro w' hSw
            go_simp
          try simp only [Act.put, List.setIfInBounds_toArray, List.set_cons_zero, List.set_cons_succ]
          refine wpAnyH_take (i := 7) (v := .int .u16 z) (by rw [HO.out]; simp only [List.getElem?_toArray, List.getElem?_cons_succ, List.getElem?_cons_zero]; rfl) (by rw [HO.out]; kernel_rfl) (by rw [HO.out]; kernel_rfl) (by rw [HO.out]; kernel_rfl) (by rw [HQ.out]; exact fun _ _ _ h => h) (Or.inl ⟨by rfl, ?_⟩) hS ?_
          · intro w' hSw
            have q := (hSw.1.cell (p := ⟨lg, lo + j, none⟩) hlg).trans cl
            go_simp
          try simp only [Act.put, List.setIfInBounds_toArray, List.set_cons_zero, List.set_cons_succ]
          refine wpAnyH_take (i := 8) (v := .int .i64 z) (by rw [HO.out]; simp only [List.getElem?_toArray, List.getElem?_cons_succ, List.getElem?_cons_zero]; rfl) (by rw [HO.out]; kernel_rfl) (by rw [HO.out]; kernel_rfl) (by rw [HO.out]; kernel_rfl) (by rw [HQ.out]; exact fun _ _ _ h => h) (Or.inl ⟨by rfl, ?_⟩) hS ?_
          · intro w' hSw
            go_simp
          try simp only [Act.put, List.setIfInBounds_toArray, List.set_cons_zero, List.set_cons_succ]
          refine wpAnyH_take (i := 9) (v := .bool false) (by rw [HO.out]; simp only [List.getElem?_toArray, List.getElem?_cons_succ, List.getElem?_cons_zero]; rfl) (by rw [HO.out]; kernel_rfl) (by rw [HO.out]; kernel_rfl) (by rw [HO.out]; kernel_rfl) (by rw [HQ.out]; exact fun _ _ _ h => h) (Or.inl ⟨by rfl, ?_⟩) hS ?_
          · intro w' hSw
            go_simp
          try simp only [Act.put, List.setIfInBounds_toArray, List.set_cons_zero, List.set_cons_succ]
          refine wpAnyH_done (by rw [HO.out]; kernel_rfl) ?_ _
          rw [HQ.out]
          refine NoPanic.normal ?_
          go_wp2
          go_roundw
          case rel => exact ⟨j + 1, by omega, by go_num, HW.out.1.drew, HW.out.2.drew⟩
          case measure => simp [intOf]; omega
        · have : j = k := by omega
          subst this
          have HP0 := split_any a1 cap1 y1 (1 + sz) wr (HBV.out.below HW.out.1) HN1.out (by have := HL1.out; omega)
          rw [← HL1.out] at HP0
          have HFL : Hid ((splitS y1 (1 + (sz : Int))).flatten = y1) := join_flat y1 sz
          have HSZ : Hid (∀ i, i < (splitS y1 (1 + (sz : Int))).length → ((splitS y1 (1 + (sz : Int))).getD i []).length = 1 + sz ∨ (i + 1 = (splitS y1 (1 + (sz : Int))).length ∧ 0 < ((splitS y1 (1 + (sz : Int))).getD i []).length ∧ ((splitS y1 (1 + (sz : Int))).getD i []).length ≤ 1 + sz)) := join_sizes y1 sz
          have HPL : Hid ((splitS y1 (1 + (sz : Int))).length ≤ 400) := by
            have := splitS_len y1 (1 + sz)
            have := HL1.out
            show (splitS y1 (1 + (sz : Int))).length ≤ 400
            omega
          clear HM
          generalize splitS y1 (1 + (sz : Int)) = ps at *
          have B3 : Hid (Below w.heap.size w wr) := HW.out.1
          clear HW
          go_wp2_with fail
          refine HP0.mono ?_
          rintro e w3 ⟨v3, rfl, o3, b3⟩
          have B4 : Hid (Below w.heap.size w w3) := B3.out.trans (b3.mono B3.out.size)
          obtain ⟨pa, pc, rfl, HP⟩ := pcs_view o3
          obtain ⟨pn, hpn⟩ : ∃ pn, pn = ps.length := ⟨_, rfl⟩
          have hp4 : pn ≤ 400 := by rw [hpn]; exact HPL.out
          rw [← hpn]
          have HPN : Hid (pn = ps.length) := hpn
          clear HP0 o3 b3 B3 hpn
          go_wp2_with fail
          go_loopw [16, 17] (fun sv iv wr => ∃ i : Nat, i ≤ pn ∧ iv = .int .i64 i ∧ sv = .string (strOfNums (ps.take i).flatten) ∧ Hid (Below w3.heap.size w3 wr)) (fun _ iv _ => pn - (intOf iv).toNat)
          case atStart => exact ⟨0, Nat.zero_le _, rfl, rfl, Below.refl _ _⟩
          case round =>
            obtain ⟨i, hi, rfl, rfl, HW⟩ := hrel
            by_cases hlt : i < pn
            · obtain ⟨pg, rfl, hpg, px, pxc, cp0, np, tp⟩ : ∃ g, pa = some ⟨g, 0, none⟩ ∧ g < w3.heap.size ∧ ∃ x xc, w3.cell? ⟨g, i, none⟩ = some (.slice x (ps.getD i []).length xc) ∧ (x = none → xc = 0) ∧ BT w3 x (ps.getD i []) := by
                rcases HP.out with h | ⟨g, e, h1, h2⟩
                · have := HPN.out; rw [h] at this; simp at this; omega
                · exact ⟨g, e, h1, h2 i (by have := HPN.out; omega)⟩
              have cp := (HW.out.cell (p := ⟨pg, i, none⟩) hpg).trans cp0
              have HV := conv_bv (cap := pxc) (tp.below HW.out).bv np
              have HS := HSZ.out i (by have := HPN.out; omega)
              have HFT : Hid (strOfNums (ps.take i).flatten ++ strOfNums (ps.getD i []) = strOfNums (ps.take (i + 1)).flatten) := by
                show _ = _
                rw [str_app, ← flat_step ps i (by have := HPN.out; omega)]
              have hsm : ¬ (9223372036854775807 < (strOfNums (ps.take i).flatten).size + (strOfNums (ps.getD i [])).size) := by
                have h1 := congrArg List.length (flat_step ps i (by have := HPN.out; omega))
                have h2 := flat_le ps (i + 1)
                rw [HFL.out] at h2
                rw [List.length_append] at h1
                rw [strOfNums_size, strOfNums_size]
                have h3 := HL1.out
                have h4 : n1 ≤ 400 := h14
                omega
              have hsm2 : (strOfNums (ps.take i).flatten).size + (strOfNums (ps.getD i [])).size ≤ 9223372036854775807 := by omega
              rw [← HPN.out] at HS
              clear tp np cp0 HP HSZ HFL HPL
              generalize (ps.getD i []).length = pl at *
              generalize strOfNums (ps.getD i []) = sx at *
              generalize strOfNums (ps.take i).flatten = sa at *
              by_cases hpl : pl = 1 + sz
              · clear HS
                subst hpl
                go_wp2_with fail
                go_roundw
                case rel => exact ⟨i + 1, by omega, by go_num, by rw [HFT.out], HW.out⟩
                case measure => simp [intOf]; omega
              · obtain ⟨s1, s2, s3⟩ : i + 1 = pn ∧ 0 < pl ∧ pl ≤ 1 + sz := by
                  rcases HS with h | h
                  · exact absurd h hpl
                  · exact h
                have d1 : ((pl : Int) == 1 + (sz : Int)) = false := by simp; omega
                have d4 : ((pl : Int) == 0) = false := by simp; omega
                have d5 : decide (1 + (sz : Int) < (pl : Int)) = false := by simp; omega
                have d7 : ¬ ((pl : Int) = 1 + (sz : Int)) := by omega
                have d8 : ¬ ((pl : Int) = 0) := by omega
                have d9 : ¬ (1 + (sz : Int) < (pl : Int)) := by omega
                subst s1
                clear HS hpl
                go_wp2_with fail
                go_roundw
                case rel => exact ⟨i + 1, by omega, by go_num, by rw [HFT.out], HW.out⟩
                case measure => first | (simp [intOf]; done) | (simp [intOf]; omega)
            · have : i = pn := by omega
              subst this
              rw [List.take_of_length_le (by have := HPN.out; omega), HFL.out]
              have cb := conv_bv (cap := cap1) ((HBV.out.below B4.out).below HW.out) HN1.out
              rw [← HL1.out] at cb
              generalize strOfNums y1 = sy at *
              have HA2 := HA wr
              go_wp2_with (first | (go_at_call 8; refine HA2.mono ?_; rintro e w7 ⟨rfl, hb7⟩; clear HA2) | fail)
              go_ret
              exact ⟨rfl, B4.out.trans ((HW.out.trans (hb7.mono HW.out.size)).mono B4.out.size)⟩
theorem walk (a0 : Option Addr) (len0 cap0 : Nat) (y0 : List Int) (a1 : Option Addr) (len1 cap1 : Nat) (y1 : List Int) (a2 : Int) (w : World) (w0 : y0.length = len0 ∧ UV w a0 y0 ∧ (a0 = none → cap0 = 0) ∧ len0 ≤ cap0 ∧ cap0 ≤ 9223372036854775807) (w1 : y1.length = len1 ∧ BV w a1 y1 ∧ (a1 = none → cap1 = 0) ∧ len1 ≤ cap1 ∧ cap1 ≤ 9223372036854775807) (w2 : (Lit.int .u8 a2).wf = true) :
    Calls Try.prog 7 #[.slice a0 len0 cap0, .slice a1 len1 cap1, .int .u8 a2] w fun e w' => e = .returned (.bool true) ∧ Below w.heap.size w w' := by
  by_cases h : 400 < len0
  · exact walk_l a0 len0 cap0 y0 a1 len1 cap1 y1 a2 w w0 w1 w2 h
  · by_cases h2 : 400 < len1
    · exact walk_r a0 len0 cap0 y0 a1 len1 cap1 y1 a2 w w0 w1 w2 h h2
    · exact walk_m a0 len0 cap0 y0 a1 len1 cap1 y1 a2 w w0 w1 w2 h h2
set_option maxRecDepth 100000 in
theorem lifted (os : Os) (started : os.Started) (H : Type) (enc : TypeId × Value → H) :
    ReturnsInHanded {} Try.checked os 7 .any (Rows.pageJoinedSpec.pre6 enc Try.prog Try.f7 Rows.pageJoinedRow.domain false) (Rows.pageJoinedSpec.post enc Try.prog Try.f7 false true false false) := by
  refine returnsInHanded_of_change (C := Try.checked) own started (by kernel_rfl) Try.func7
    (ChangeSpec.witness6 (enc := enc) (C := Try.checked) false ⟨#[], #[.slice none 0 0, .slice none 0 0, .int .u8 0], []⟩ 8 (by kernel_rfl) (by kernel_rfl) (by kernel_rfl) (by kernel_rfl)) ?_
  intro W base args ds gs before hval0 hW hcnd _
  have hval : ∀ (j : Nat) t v, Try.f7.params[j]? = some t → args[j]? = some v → Value.okWide Try.prog W .any base t v := hval0
  have hW' := hW
  obtain ⟨p, q, hA0, hV, rfl, hfz, hnd⟩ := hW
  have hA : DataW.TrodAll enc Try.prog W 0 (fun _ => true) true Try.f7.params.toList args.toList ds p := hA0
  rw [Try.params7] at hA hval
  obtain ⟨v0, vs0, d0, ds0, p0, q0, hargs, rfl, rfl, h0, r0⟩ := trodAll_cons hA
  obtain ⟨v1, vs1, d1, ds1, p1, q1, rfl, rfl, rfl, h1, r1⟩ := trodAll_cons r0
  obtain ⟨v2, vs2, d2, ds2, p2, q2, rfl, rfl, rfl, h2, r2⟩ := trodAll_cons r1
  obtain ⟨rfl, rfl, rfl⟩ := trodAll_nil r2
  obtain rfl : args = #[v0, v1, v2] := by cases args; simp_all
  obtain ⟨rfl, rfl⟩ := trodVars_none hV
  obtain ⟨a0, len0, cap0, rfl⟩ := okWide_slice Try.underlying48 (hval 0 48 v0 rfl rfl)
  have k0 := h0
  have lt0 : ∀ x ∈ p0, x.block < W.heap.size := by obtain ⟨m, hm⟩ := k0; exact DataW.trod_lt m _ _ _ hm
  obtain ⟨y0, w0⟩ : ∃ ys : List Int, ys.length = len0 ∧ UV W a0 ys ∧ (a0 = none → cap0 = 0) ∧ len0 ≤ cap0 ∧ cap0 ≤ 9223372036854775807 := by
    obtain ⟨fuel, hf⟩ := h0
    rcases open_ints Try.underlying48 Try.underlying49 (by kernel_rfl) hf with ⟨hcs, _⟩ | ⟨x, l, c, zs, hcs, _, hl, hm, hz, _, hcell, hwz⟩
    · simp [Value.cells] at hcs
      obtain ⟨rfl, rfl, rfl⟩ := hcs
      exact u16s_of (zs := []) (.inl ⟨rfl, rfl, rfl, rfl⟩)
    · simp [Value.cells] at hcs
      obtain ⟨rfl, rfl, rfl⟩ := hcs
      exact u16s_of (.inr ⟨_, rfl, hl, hm, by simpa using hz, hcell, hwz⟩)
  obtain ⟨a1, len1, cap1, rfl⟩ := okWide_slice Try.underlying22 (hval 1 22 v1 rfl rfl)
  have k1 := h1
  have lt1 : ∀ x ∈ p1, x.block < W.heap.size := by obtain ⟨m, hm⟩ := k1; exact DataW.trod_lt m _ _ _ hm
  obtain ⟨y1, w1⟩ : ∃ ys : List Int, ys.length = len1 ∧ BV W a1 ys ∧ (a1 = none → cap1 = 0) ∧ len1 ≤ cap1 ∧ cap1 ≤ 9223372036854775807 := by
    obtain ⟨fuel, hf⟩ := h1
    rcases open_ints Try.underlying22 Try.underlying5 (by kernel_rfl) hf with ⟨hcs, _⟩ | ⟨x, l, c, zs, hcs, _, hl, hm, hz, _, hcell, hwz⟩
    · simp [Value.cells] at hcs
      obtain ⟨rfl, rfl, rfl⟩ := hcs
      exact bytes_of (zs := []) (.inl ⟨rfl, rfl, rfl, rfl⟩)
    · simp [Value.cells] at hcs
      obtain ⟨rfl, rfl, rfl⟩ := hcs
      exact bytes_of (.inr ⟨_, rfl, hl, hm, by simpa using hz, hcell, hwz⟩)
  obtain ⟨a2, rfl, rfl, rfl, w2⟩ := open_int Try.underlying5 (hval 2 5 v2 rfl rfl) h2
  clear hA0 hval0
  refine (walk a0 len0 cap0 y0 a1 len1 cap1 y1 a2 W w0 w1 w2).mono fun e W' ⟨he, bel⟩ => ?_
  subst he
  exact ⟨_, rfl, _, _, _, [], _, [], hW', trodAll_mk1 (shut_bool Try.underlying4 _), (trodAll_cons_mk (Below.trod laidOut (by kernel_rfl) (of_decide_eq_true (by kernel_rfl)) k0 bel lt0) (trodAll_cons_mk (Below.trod laidOut (by kernel_rfl) (of_decide_eq_true (by kernel_rfl)) k1 bel lt1) (trodAll_cons_mk (shut_int Try.underlying5 w2) trodAll_mk0))), rfl, bel.frame _, fun h => by cases h⟩

theorem over : Rows.pageJoinedRow.holds Try.pinned (OpenSpec.ofChange Rows.pageJoinedSpec) :=
  OpenClaim.holds_of_wide 7 Try.f7 rfl rfl rfl rfl rfl rfl rfl ⟨rfl, rfl, rfl, rfl, rfl⟩ rfl rfl rfl rfl rfl (by kernel_rfl) Try.func7 (by kernel_rfl)
    (of_decide_eq_true (by kernel_rfl)) (by unfold Func.isWrapper; first | (rw [if_pos (by decide +kernel)]; kernel_rfl) | (rw [if_neg (by decide +kernel)]; exact ⟨rfl, rfl⟩))
    (fun os started H enc _ => lifted os started H enc)
end Go.Proofs.Ytcegahmjegjckaa.pageJoined

namespace Go.Proofs.Ytcegahmjegjckaa
theorem pageJoined_holds : Rows.PageJoinedSaid := pageJoined.over
#print axioms pageJoined_holds
end Go.Proofs.Ytcegahmjegjckaa
