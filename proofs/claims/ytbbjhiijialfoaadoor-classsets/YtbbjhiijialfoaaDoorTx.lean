/- Both Texts: contracts of single calls. -/
import Derived.Test.YtbbjhiijialfoaaDoorPs
namespace Go.Proofs.YtbbjhiijialfoaaDoor
set_option maxRecDepth 20000
set_option maxRecDepth 20000
set_option maxRecDepth 20000
set_option maxRecDepth 20000
open Go.RowKit
set_option linter.unusedVariables false
set_option linter.unusedSimpArgs false
set_option maxRecDepth 20000

def nilS : ByteArray := ⟨#[110, 105, 108]⟩
/-- What Text tells. -/
def txtS (k n : Int) (s : ByteArray) : ByteArray := if chkE k n s.data.toList ≠ 0 then nilS else if k = 1 then ⟨(Lib.itoa n).toArray⟩ else if k = 2 then s else nilS
theorem chk0 {k n : Int} {l : List UInt8} (h : chkE k n l = 0) : k ≤ 2 ∧ -1099511627776 ≤ n ∧ n ≤ 1099511627776 ∧ (k ≠ 1 → n = 0) ∧ (k ≠ 2 → l = []) ∧ (k = 2 → symB l = true) := by
  unfold chkE at h
  split at h
  · cases h
  · split at h
    · cases h
    · rename_i h1 h2
      split at h
      · cases h
      · rename_i h3
        simp only [Bool.not_eq_false, inB, decide_eq_true_eq] at h3
        split at h
        · cases h
        · rename_i h4
          refine ⟨by omega, h3.1, h3.2, fun hk => ?_, fun hk => ?_, fun hk => ?_⟩
          · by_cases hn : n = 0
            · exact hn
            · exact absurd (.inl ⟨hn, hk⟩) h2
          · by_cases hl : l = []
            · exact hl
            · exact absurd (.inr ⟨hl, hk⟩) h2
          · by_cases hs : symB l = true
            · exact hs
            · exact absurd ⟨hk, by simpa using hs⟩ h4
set_option maxHeartbeats 1000000 in
theorem text_any13 (k n : Int) (s : ByteArray) (w : World) (h0 : 0 ≤ k) (h255 : k ≤ 255) (hs : s.size ≤ 1000000) (hV : Vars w) :
    Calls Tryd.prog 33 #[vv k n s] w fun e w' => e = .returned (.string (txtS k n s)) ∧ Below w.heap.size w w' := by
  have CC := fun w' hv => chk_any k n s w' h0 h255 hs hv
  have HT : Hid (txtS k n s = if chkE k n s.data.toList ≠ 0 then nilS else if k = 1 then ⟨(Lib.itoa n).toArray⟩ else if k = 2 then s else nilS) := rfl
  generalize txtS k n s = ans at *
  by_cases hc0 : chkE k n s.data.toList = 0
  · obtain ⟨hk2, hn0, hn1, -⟩ := chk0 hc0
    rw [hc0] at CC
    unfold vv at CC ⊢
    obtain h | h | h : k = 0 ∨ k = 1 ∨ k = 2 := by omega
    · subst h
      have HA : Hid (ans = nilS) := by show ans = _; rw [HT.out, if_neg (by simp [hc0]), if_neg (by decide), if_neg (by decide)]
      clear HT hc0
      go_enter Tryd.func33, Tryd.ntmps33
      go_wp2_with (first | (go_at_call 42; refine (CC _ (hV.below (box1 _ _))).mono ?_; rintro e w1 ⟨rfl, hb1⟩; clear CC; obtain ⟨hc, hf⟩ := bcell hb1; have hz : w.heap.size < w1.heap.size := by { have := hb1.size; simp at this; omega }) | (go_at_call 49; refine (CD _ (hV.below (up1 hb1))).mono ?_; rintro e w2 ⟨rfl, hb2⟩; clear CD))
      go_ret
      exact ⟨ret_str HA.out.symm, up1 hb1⟩
    · subst h
      have HA : Hid (ans = ⟨(Lib.itoa n).toArray⟩) := by show ans = _; rw [HT.out, if_neg (by simp [hc0]), if_pos rfl]
      have CD := fun w' hv => itoa_any n w' hn0 hn1 hv
      generalize (⟨(Lib.itoa n).toArray⟩ : ByteArray) = it at *
      clear HT hc0
      go_enter Tryd.func33, Tryd.ntmps33
      go_wp2_with (first | (go_at_call 42; refine (CC _ (hV.below (box1 _ _))).mono ?_; rintro e w1 ⟨rfl, hb1⟩; clear CC; obtain ⟨hc, hf⟩ := bcell hb1; have hz : w.heap.size < w1.heap.size := by { have := hb1.size; simp at this; omega }) | (go_at_call 49; refine (CD _ (hV.below (up1 hb1))).mono ?_; rintro e w2 ⟨rfl, hb2⟩; clear CD))
      go_ret
      exact ⟨ret_str HA.out.symm, (up1 hb1).trans (hb2.mono (up1 hb1).size)⟩
    · subst h
      have HA : Hid (ans = s) := by show ans = _; rw [HT.out, if_neg (by simp [hc0]), if_neg (by decide), if_pos rfl]
      clear HT hc0
      go_enter Tryd.func33, Tryd.ntmps33
      go_wp2_with (first | (go_at_call 42; refine (CC _ (hV.below (box1 _ _))).mono ?_; rintro e w1 ⟨rfl, hb1⟩; clear CC; obtain ⟨hc, hf⟩ := bcell hb1; have hz : w.heap.size < w1.heap.size := by { have := hb1.size; simp at this; omega }) | (go_at_call 49; refine (CD _ (hV.below (up1 hb1))).mono ?_; rintro e w2 ⟨rfl, hb2⟩; clear CD))
      go_ret
      exact ⟨ret_str HA.out.symm, up1 hb1⟩
  · have HA : Hid (ans = nilS) := by show ans = _; rw [HT.out, if_pos hc0]
    have hne : ((chkE k n s.data.toList : Int) != 0) = true := by rw [bne_iff_ne]; exact hc0
    unfold vv at CC ⊢
    generalize chkE k n s.data.toList = ce at *
    clear HT hc0
    go_enter Tryd.func33, Tryd.ntmps33
    go_wp2_with (first | (go_at_call 42; refine (CC _ (hV.below (box1 _ _))).mono ?_; rintro e w1 ⟨rfl, hb1⟩; clear CC; obtain ⟨hc, hf⟩ := bcell hb1; have hz : w.heap.size < w1.heap.size := by { have := hb1.size; simp at this; omega }) | (go_at_call 49; refine (CD _ (hV.below (up1 hb1))).mono ?_; rintro e w2 ⟨rfl, hb2⟩; clear CD))
    go_ret
    exact ⟨ret_str HA.out.symm, up1 hb1⟩
end Go.Proofs.YtbbjhiijialfoaaDoor
