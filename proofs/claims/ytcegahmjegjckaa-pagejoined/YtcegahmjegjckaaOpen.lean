/- sum.Open. -/
import Derived.Test.YtcegahmjegjckaaEqual
import Derived.Test.YtcegahmjegjckaaClone
namespace Go.Proofs.Ytcegahmjegjckaa
open Go.RowKit
set_option linter.unusedVariables false
/-- The last four of the bytes are the sum of what stands ahead. -/
abbrev Good (zs : List Int) : Prop := zs.drop (zs.length - 4) = dig (more 0 (zs.take (zs.length - 4))) 4
def openE (zs : List Int) : Int := if zs.length < 4 then 3 else if Good zs then 0 else 13
def openL (zs : List Int) : List Int := if zs.length < 4 then [] else if Good zs then zs.take (zs.length - 4) else []
theorem openL_all {zs : List Int} (h : AllB zs) : AllB (openL zs) := by
  unfold openL
  split
  · exact AllB.nil
  · split
    · exact h.take _
    · exact AllB.nil
theorem getD_take (zs : List Int) (n i : Nat) (h : i < n) : (zs.take n).getD i 0 = zs.getD i 0 := by
  rw [List.getD_eq_getElem?_getD, List.getElem?_take, if_pos h, ← List.getD_eq_getElem?_getD]
theorem getD_drop (zs : List Int) (n i : Nat) : (zs.drop n).getD i 0 = zs.getD (n + i) 0 := by
  rw [List.getD_eq_getElem?_getD, List.getElem?_drop, ← List.getD_eq_getElem?_getD]
theorem BV.take {w : World} {a : Option Addr} {zs : List Int} (h : BV w a zs) (n : Nat) : BV w a (zs.take n) := by
  obtain ⟨hz, rfl | ⟨b, off, rfl, hlt, hc⟩⟩ := h
  · exact ⟨hz.take _, .inl (by simp)⟩
  · refine ⟨hz.take _, .inr ⟨b, off, rfl, hlt, fun i hi => ?_⟩⟩
    rw [List.length_take] at hi
    rw [getD_take _ _ _ (by omega)]
    exact hc i (by omega)
theorem BV.drop {w : World} {b off : Nat} {zs : List Int} (h : BV w (some ⟨b, off, none⟩) zs) (n : Nat) : BV w (some ⟨b, off + n, none⟩) (zs.drop n) := by
  obtain ⟨hz, rfl | ⟨b', off', e, hlt, hc⟩⟩ := h
  · exact ⟨hz.drop _, .inl (by simp)⟩
  · obtain ⟨rfl, rfl⟩ : b = b' ∧ off = off' := by simpa using e
    refine ⟨hz.drop _, .inr ⟨b, off + n, rfl, hlt, fun i hi => ?_⟩⟩
    rw [List.length_drop] at hi
    rw [getD_drop, Nat.add_assoc]
    exact hc _ (by omega)
set_option maxHeartbeats 400000 in
theorem open_cut (a : Option Addr) (len cap : Nat) (w : World) (h : len < 4) :
    Calls Try.prog 25 #[.slice a len cap] w fun e w' => e = .returned (.tuple #[.slice none 0 0, .int .i64 3]) ∧ w' = w := by
  go_enter Try.func25, Try.ntmps25
  go_wp2
  go_ret2
  exact ⟨rfl, rfl⟩
set_option maxHeartbeats 800000 in
theorem open_ok (b off n cap : Nat) (zs : List Int) (w : World) (hl : zs.length = n + 4) (hc : n + 4 ≤ cap) (hm : n ≤ 900000) (hb : BV w (some ⟨b, off, none⟩) zs) :
    Calls Try.prog 25 #[.slice (some ⟨b, off, none⟩) (n + 4) cap] w fun e w' => ∃ v, e = .returned (.tuple #[v, .int .i64 (openE zs)]) ∧ Own w' w.heap.size v (openL zs) ∧ Below w.heap.size w w' := by
  have hbt := hb.take n
  have hbd := hb.drop n
  have hlt : (zs.take n).length = n := by simp; omega
  have hld : (zs.drop n).length = 4 := by simp; omega
  have hg : Good zs ↔ zs.drop n = dig (more 0 (zs.take n)) 4 := by
    unfold Good
    rw [show zs.length - 4 = n by omega]
  have HE : Hid (openE zs = if zs.drop n = dig (more 0 (zs.take n)) 4 then 0 else 13) := by
    unfold openE Hid
    rw [if_neg (by omega)]
    simp only [hg]
  have HO : Hid (openL zs = if zs.drop n = dig (more 0 (zs.take n)) 4 then zs.take n else []) := by
    unfold openL Hid
    rw [if_neg (by omega)]
    by_cases hG : Good zs
    · rw [if_pos hG, if_pos (hg.1 hG), show zs.length - 4 = n by omega]
    · rw [if_neg hG, if_neg (fun h => hG (hg.2 h))]
  generalize openE zs = E at *
  generalize openL zs = L at *
  clear hg
  have H1 : ∀ wx, Below w.heap.size w wx → Calls Try.prog 36 #[.slice (some ⟨wx.heap.size, 0, none⟩) 1 1] (wx.alloc (.cells #[.slice (some ⟨b, off, none⟩) n cap] 22)) fun e w' => e = .returned (.int .u32 (more 0 (zs.take n))) ∧ Below w.heap.size w w' := by
    intro wx hx
    have h := of_any wx.heap.size 0 1 1 [zs.take n] _ rfl (by decide) (parts1 (cap := cap) (hbt.below hx) (by intro h; cases h) (by omega))
    rw [hlt] at h
    refine h.mono ?_
    rintro e w' ⟨rfl, rfl⟩
    exact ⟨rfl, hx.alloc hx.size _⟩
  have HL := fun wx => lay_any _ wx (more_lt (show 0 < 4294967296 by decide) hbt.1)
  generalize zs.take n = xs at *
  generalize zs.drop n = ys at *
  clear hb hl
  go_enter Try.func25, Try.ntmps25
  go_wp2_with fail
  go_quiet (fail)
  obtain ⟨W, hW⟩ : ∃ W, W = w.drewN nq := ⟨_, rfl⟩
  rw [← hW]
  have BW : Below w.heap.size w W := by rw [hW]; exact below_drewN (Below.refl _ _) nq
  clear hW
  go_wp2_with fail
  refine (H1 W BW).mono ?_
  rintro e w1 ⟨rfl, B1⟩
  clear H1 BW
  go_wp2_with fail
  refine (HL w1).mono ?_
  rintro e w2 ⟨v, rfl, ho, hb2⟩
  obtain ⟨a2, cap2, rfl, hn2, hbv2, hc1, hc2⟩ := ho.slice (dig_all _ _)
  clear HL ho
  have B2 := B1.trans (hb2.mono B1.size)
  have hl4 := dig_length 4 (more 0 xs)
  have H3 := fun c => equal_any (some ⟨b, off + n, none⟩) a2 4 _ c cap2 ys _ w2 hld rfl (by decide) (hbd.below B2) hbv2
  clear hb2 hbv2 B1 hn2 hbd
  by_cases hE : ys = dig (more 0 xs) 4
  · have he := HE.out
    have ho := HO.out
    rw [if_pos hE] at he ho
    subst he ho
    rw [show decide (ys = dig (more 0 L) 4) = true by simpa using hE] at H3
    clear hE HE HO
    go_wp2_with fail
    refine (H3 _).mono ?_
    rintro e w3 ⟨rfl, hb3⟩
    clear H3
    have B3 := B2.trans (hb3.mono B2.size)
    have H4 := clone_some ⟨b, off, none⟩ cap _ w3 (hbt.below B3) (by omega)
    rw [hlt] at H4
    clear B2 hb3 hbt
    go_wp2_with fail
    refine H4.mono ?_
    rintro e w4 ⟨v, rfl, ho4, hb4⟩
    clear H4
    have HB4 : Hid (Below w.heap.size w w4) := B3.trans (hb4.mono B3.size)
    have HO4 : Hid (Own w4 w.heap.size v L) := ho4.mono B3.size
    clear ho4 hb4 B3
    go_wp2
    go_ret2
    exact ⟨_, rfl, HO4.out, HB4.out⟩
  · have he := HE.out
    have ho := HO.out
    rw [if_neg hE] at he ho
    subst he ho
    rw [show decide (ys = dig (more 0 xs) 4) = false by simpa using hE] at H3
    clear hE HE HO
    go_wp2_with fail
    refine (H3 _).mono ?_
    rintro e w3 ⟨rfl, hb3⟩
    clear H3
    have B3 : Hid (Below w.heap.size w w3) := B2.trans (hb3.mono B2.size)
    clear B2 hb3 hbt
    go_wp2
    go_ret2
    exact ⟨_, rfl, Own.nil _ _, B3.out⟩
theorem open_any (a : Option Addr) (cap : Nat) (zs : List Int) (w : World) (hb : BV w a zs) (hm : zs.length ≤ 900000) (hc : zs.length ≤ cap) :
    Calls Try.prog 25 #[.slice a zs.length cap] w fun e w' => ∃ v, e = .returned (.tuple #[v, .int .i64 (openE zs)]) ∧ Own w' w.heap.size v (openL zs) ∧ Below w.heap.size w w' := by
  by_cases h : zs.length < 4
  · have e1 : openE zs = 3 := by unfold openE; rw [if_pos h]
    have e2 : openL zs = [] := by unfold openL; rw [if_pos h]
    rw [e1, e2]
    refine (open_cut a _ cap w h).mono ?_
    rintro e w' ⟨rfl, hw⟩
    obtain rfl := hw.symm
    exact ⟨_, rfl, Own.nil _ _, Below.refl _ _⟩
  · obtain ⟨n, hn⟩ : ∃ n, zs.length = n + 4 := ⟨zs.length - 4, by omega⟩
    have hb' := hb
    obtain ⟨_, rfl | ⟨b, off, rfl, _, _⟩⟩ := hb
    · simp at hn
    · have := open_ok b off n cap zs w hn (by omega) (by omega) hb'
      rw [← hn] at this
      exact this
end Go.Proofs.Ytcegahmjegjckaa
