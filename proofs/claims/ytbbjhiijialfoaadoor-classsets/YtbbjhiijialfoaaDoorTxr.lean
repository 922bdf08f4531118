import Derived.Test.YtbbjhiijialfoaaDoorTx
import Derived.Test.YtbbjhiijialfoaaDoorCkr
import Derived.Test.YtbbjhiijialfoaaDoorTdr
namespace Go.Proofs.YtbbjhiijialfoaaDoor
set_option maxRecDepth 20000
set_option maxRecDepth 20000
open Go.RowKit
set_option linter.unusedVariables false
set_option linter.unusedSimpArgs false
set_option maxRecDepth 20000
set_option maxHeartbeats 1000000 in
theorem rtext_any13 (k n : Int) (s : ByteArray) (w : World) (h0 : 0 ≤ k) (h255 : k ≤ 255) (hs : s.size ≤ 1000000) :
    Calls Tryd.prog 35 #[vv k n s] w fun e w' => e = .returned (.string (txtS k n s)) ∧ Below w.heap.size w w' := by
  have CC := fun w' => rchk_any k n s w' h0 h255 hs
  have HT : Hid (txtS k n s = if chkE k n s.data.toList ≠ 0 then nilS else if k = 1 then ⟨(Lib.itoa n).toArray⟩ else if k = 2 then s else nilS) := rfl
  generalize txtS k n s = ans at *
  by_cases hc0 : chkE k n s.data.toList = 0
  · obtain ⟨hk2, hn0, hn1, -⟩ := chk0 hc0
    rw [hc0] at CC
    unfold vv at CC ⊢
    obtain h | h | h : k = 0 ∨ k = 1 ∨ k = 2 := by omega
    · subst h
      have HA : Hid (ans = nilS) := by show ans = _; rw [HT.out, if_neg (by simp [hc0]), if_neg (by decide), if_neg (by decide)]
      clear HT hc0
      go_enter Tryd.func35, Tryd.ntmps35
      go_wp2_with (first | (go_at_call 30; refine (CC _).mono ?_; rintro e w1 ⟨rfl, hb1⟩; clear CC; obtain ⟨hc, hf⟩ := bcell hb1; have hz : w.heap.size < w1.heap.size := by { have := hb1.size; simp at this; omega }) | (go_at_call 50; refine (CD _).mono ?_; rintro e w2 ⟨rfl, hw2⟩; obtain rfl := hw2.symm; clear CD))
      go_ret
      exact ⟨ret_str HA.out.symm, up1 hb1⟩
    · subst h
      have HA : Hid (ans = ⟨(Lib.itoa n).toArray⟩) := by show ans = _; rw [HT.out, if_neg (by simp [hc0]), if_pos rfl]
      have CD := fun w' => told_any n w' hn0 hn1
      generalize (⟨(Lib.itoa n).toArray⟩ : ByteArray) = it at *
      clear HT hc0
      go_enter Tryd.func35, Tryd.ntmps35
      go_wp2_with (first | (go_at_call 30; refine (CC _).mono ?_; rintro e w1 ⟨rfl, hb1⟩; clear CC; obtain ⟨hc, hf⟩ := bcell hb1; have hz : w.heap.size < w1.heap.size := by { have := hb1.size; simp at this; omega }) | (go_at_call 50; refine (CD _).mono ?_; rintro e w2 ⟨rfl, hw2⟩; obtain rfl := hw2.symm; clear CD))
      go_ret
      exact ⟨ret_str HA.out.symm, up1 hb1⟩
    · subst h
      have HA : Hid (ans = s) := by show ans = _; rw [HT.out, if_neg (by simp [hc0]), if_neg (by decide), if_pos rfl]
      clear HT hc0
      go_enter Tryd.func35, Tryd.ntmps35
      go_wp2_with (first | (go_at_call 30; refine (CC _).mono ?_; rintro e w1 ⟨rfl, hb1⟩; clear CC; obtain ⟨hc, hf⟩ := bcell hb1; have hz : w.heap.size < w1.heap.size := by { have := hb1.size; simp at this; omega }) | (go_at_call 50; refine (CD _).mono ?_; rintro e w2 ⟨rfl, hw2⟩; obtain rfl := hw2.symm; clear CD))
      go_ret
      exact ⟨ret_str HA.out.symm, up1 hb1⟩
  · have HA : Hid (ans = nilS) := by show ans = _; rw [HT.out, if_pos hc0]
    have hne : ((chkE k n s.data.toList : Int) != 0) = true := by rw [bne_iff_ne]; exact hc0
    unfold vv at CC ⊢
    generalize chkE k n s.data.toList = ce at *
    clear HT hc0
    go_enter Tryd.func35, Tryd.ntmps35
    go_wp2_with (first | (go_at_call 30; refine (CC _).mono ?_; rintro e w1 ⟨rfl, hb1⟩; clear CC; obtain ⟨hc, hf⟩ := bcell hb1; have hz : w.heap.size < w1.heap.size := by { have := hb1.size; simp at this; omega }) | (go_at_call 50; refine (CD _).mono ?_; rintro e w2 ⟨rfl, hw2⟩; obtain rfl := hw2.symm; clear CD))
    go_ret
    exact ⟨ret_str HA.out.symm, up1 hb1⟩
end Go.Proofs.YtbbjhiijialfoaaDoor
