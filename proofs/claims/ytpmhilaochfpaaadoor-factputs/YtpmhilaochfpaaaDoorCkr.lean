import Derived.Test.YtpmhilaochfpaaaDoorCk
namespace Go.Proofs.YtpmhilaochfpaaaDoor
set_option maxRecDepth 20000
set_option maxRecDepth 20000
set_option maxRecDepth 20000
open Go.RowKit
set_option linter.unusedVariables false
set_option linter.unusedSimpArgs false
set_option maxRecDepth 20000
set_option maxHeartbeats 2000000 in
theorem rchk_any (k n : Int) (s : ByteArray) (w : World) (h0 : 0 ≤ k) (h255 : k ≤ 255) (hs : s.size ≤ 1000000) :
    Calls Tryd.prog 40 #[vv k n s] w fun e w' => e = .returned (.int .i64 (chkE k n s.data.toList)) ∧ Below w.heap.size w w' := by
  unfold vv
  have CW := fun w' => rword_any s w' hs
  have CN := fun w' => risnum_any s w' hs
  have HNil := is_nil s
  have HSy : Hid (symB s.data.toList = (wordB s.data.toList && (!numB s.data.toList && !decide (s.data.toList = nil3)))) := rfl
  by_cases h2 : 2 < k
  · skip
    have HA : Hid (chkE k n s.data.toList = 9) := by show chkE _ _ _ = _; unfold chkE; rw [if_pos h2]
    generalize chkE k n s.data.toList = r at *
    go_enter Tryd.func40, Tryd.ntmps40
    go_wp2_with (first | (go_at_call 52; refine (CW _).mono ?_; rintro e w1 ⟨rfl, hw1⟩; obtain rfl := hw1.symm) | (go_at_call 53; refine (CN _).mono ?_; rintro e w2 ⟨rfl, hw2⟩; obtain rfl := hw2.symm))
    go_ret
    exact ⟨ret_i HA.out.symm, box1 _ _⟩
  obtain h | h | h : k = 0 ∨ k = 1 ∨ k = 2 := by omega
  · subst h
    by_cases hn : n = 0
    · subst hn
      by_cases hl : s.data.toList = []
      · obtain rfl := emp_eq hl
        have HA : Hid (chkE 0 0 ByteArray.empty.data.toList = 0) := by show chkE _ _ _ = _; unfold chkE; simp [in0]
        generalize chkE 0 0 ByteArray.empty.data.toList = r at *
        have hin := in0
        go_enter Tryd.func40, Tryd.ntmps40
        go_wp2_with (first | (go_at_call 52; refine (CW _).mono ?_; rintro e w1 ⟨rfl, hw1⟩; obtain rfl := hw1.symm) | (go_at_call 53; refine (CN _).mono ?_; rintro e w2 ⟨rfl, hw2⟩; obtain rfl := hw2.symm))
        go_ret
        exact ⟨ret_i HA.out.symm, box1 _ _⟩
      · have hE := emp_ne hl
        have HA : Hid (chkE 0 0 s.data.toList = 4) := by show chkE _ _ _ = _; unfold chkE; rw [if_neg (by decide), if_pos (.inr ⟨hl, by decide⟩)]
        generalize chkE 0 0 s.data.toList = r at *
        clear hl
        go_enter Tryd.func40, Tryd.ntmps40
        go_wp2_with (first | (go_at_call 52; refine (CW _).mono ?_; rintro e w1 ⟨rfl, hw1⟩; obtain rfl := hw1.symm) | (go_at_call 53; refine (CN _).mono ?_; rintro e w2 ⟨rfl, hw2⟩; obtain rfl := hw2.symm))
        go_ret
        exact ⟨ret_i HA.out.symm, box1 _ _⟩
    · skip
      have HA : Hid (chkE 0 n s.data.toList = 4) := by show chkE _ _ _ = _; unfold chkE; rw [if_neg (by decide), if_pos (.inl ⟨hn, by decide⟩)]
      generalize chkE 0 n s.data.toList = r at *
      have hn' : ((n : Int) != 0) = true := by rw [bne_iff_ne]; exact hn
      clear hn
      go_enter Tryd.func40, Tryd.ntmps40
      go_wp2_with (first | (go_at_call 52; refine (CW _).mono ?_; rintro e w1 ⟨rfl, hw1⟩; obtain rfl := hw1.symm) | (go_at_call 53; refine (CN _).mono ?_; rintro e w2 ⟨rfl, hw2⟩; obtain rfl := hw2.symm))
      go_ret
      exact ⟨ret_i HA.out.symm, box1 _ _⟩
  · subst h
    by_cases hn : n = 0
    · subst hn
      by_cases hl : s.data.toList = []
      · obtain rfl := emp_eq hl
        have HA : Hid (chkE 1 0 ByteArray.empty.data.toList = 0) := by show chkE _ _ _ = _; unfold chkE; simp [in0]
        generalize chkE 1 0 ByteArray.empty.data.toList = r at *
        have hin := in0
        go_enter Tryd.func40, Tryd.ntmps40
        go_wp2_with (first | (go_at_call 52; refine (CW _).mono ?_; rintro e w1 ⟨rfl, hw1⟩; obtain rfl := hw1.symm) | (go_at_call 53; refine (CN _).mono ?_; rintro e w2 ⟨rfl, hw2⟩; obtain rfl := hw2.symm))
        go_ret
        exact ⟨ret_i HA.out.symm, box1 _ _⟩
      · have hE := emp_ne hl
        have HA : Hid (chkE 1 0 s.data.toList = 4) := by show chkE _ _ _ = _; unfold chkE; rw [if_neg (by decide), if_pos (.inr ⟨hl, by decide⟩)]
        generalize chkE 1 0 s.data.toList = r at *
        clear hl
        go_enter Tryd.func40, Tryd.ntmps40
        go_wp2_with (first | (go_at_call 52; refine (CW _).mono ?_; rintro e w1 ⟨rfl, hw1⟩; obtain rfl := hw1.symm) | (go_at_call 53; refine (CN _).mono ?_; rintro e w2 ⟨rfl, hw2⟩; obtain rfl := hw2.symm))
        go_ret
        exact ⟨ret_i HA.out.symm, box1 _ _⟩
    · by_cases hl : s.data.toList = []
      · obtain rfl := emp_eq hl
        by_cases hi : inB n = true
        · skip
          have HA : Hid (chkE 1 n ByteArray.empty.data.toList = 0) := by show chkE _ _ _ = _; unfold chkE; rw [hi]; simp
          generalize chkE 1 n ByteArray.empty.data.toList = r at *
          have hn' : ((n : Int) != 0) = true := by rw [bne_iff_ne]; exact hn
          simp only [inB, decide_eq_true_eq] at hi
          have i1 : ¬ n < -1099511627776 := by omega
          have i2 : ¬ 1099511627776 < n := by omega
          clear hn
          go_enter Tryd.func40, Tryd.ntmps40
          go_wp2_with (first | (go_at_call 52; refine (CW _).mono ?_; rintro e w1 ⟨rfl, hw1⟩; obtain rfl := hw1.symm) | (go_at_call 53; refine (CN _).mono ?_; rintro e w2 ⟨rfl, hw2⟩; obtain rfl := hw2.symm))
          go_ret
          exact ⟨ret_i HA.out.symm, box1 _ _⟩
        · have hif : inB n = false := by simpa using hi
          have HA : Hid (chkE 1 n ByteArray.empty.data.toList = 12) := by show chkE _ _ _ = _; unfold chkE; rw [hif]; simp
          generalize chkE 1 n ByteArray.empty.data.toList = r at *
          have hn' : ((n : Int) != 0) = true := by rw [bne_iff_ne]; exact hn
          simp only [inB, decide_eq_false_iff_not] at hif
          have hif' : n < -1099511627776 ∨ (¬ n < -1099511627776 ∧ 1099511627776 < n) := by omega
          clear hn hi hif
          rcases hif' with i1 | ⟨i1, i2⟩
          all_goals
            go_enter Tryd.func40, Tryd.ntmps40
            go_wp2_with (first | (go_at_call 52; refine (CW _).mono ?_; rintro e w1 ⟨rfl, hw1⟩; obtain rfl := hw1.symm) | (go_at_call 53; refine (CN _).mono ?_; rintro e w2 ⟨rfl, hw2⟩; obtain rfl := hw2.symm))
            go_ret
            exact ⟨ret_i HA.out.symm, box1 _ _⟩
      · have hE := emp_ne hl
        have HA : Hid (chkE 1 n s.data.toList = 4) := by show chkE _ _ _ = _; unfold chkE; rw [if_neg (by decide), if_pos (.inr ⟨hl, by decide⟩)]
        generalize chkE 1 n s.data.toList = r at *
        have hn' : ((n : Int) != 0) = true := by rw [bne_iff_ne]; exact hn
        clear hl hn
        go_enter Tryd.func40, Tryd.ntmps40
        go_wp2_with (first | (go_at_call 52; refine (CW _).mono ?_; rintro e w1 ⟨rfl, hw1⟩; obtain rfl := hw1.symm) | (go_at_call 53; refine (CN _).mono ?_; rintro e w2 ⟨rfl, hw2⟩; obtain rfl := hw2.symm))
        go_ret
        exact ⟨ret_i HA.out.symm, box1 _ _⟩
  · subst h
    by_cases hn : n = 0
    · subst hn
      by_cases hl : s.data.toList = []
      · obtain rfl := emp_eq hl
        have hsf : symB ByteArray.empty.data.toList = false := by decide +kernel
        have hwf : wordB ByteArray.empty.data.toList = false := by decide +kernel
        have HA : Hid (chkE 2 0 ByteArray.empty.data.toList = 6) := by show chkE _ _ _ = _; unfold chkE; rw [hsf]; simp [in0]
        generalize chkE 2 0 ByteArray.empty.data.toList = r at *
        rw [hwf] at CW
        clear hsf hwf hl HSy HNil
        go_enter Tryd.func40, Tryd.ntmps40
        go_wp2_with (first | (go_at_call 52; refine (CW _).mono ?_; rintro e w1 ⟨rfl, hw1⟩; obtain rfl := hw1.symm) | (go_at_call 53; refine (CN _).mono ?_; rintro e w2 ⟨rfl, hw2⟩; obtain rfl := hw2.symm))
        go_ret
        exact ⟨ret_i HA.out.symm, box1 _ _⟩
      · have hE := emp_ne hl
        clear hl
        generalize decide (s.data.toList = nil3) = Z at *
        generalize wordB s.data.toList = Wb at *
        generalize numB s.data.toList = Nb at *
        have HA0 : Hid (chkE 2 0 s.data.toList = if symB s.data.toList = false then 6 else 0) := by show chkE _ _ _ = _; unfold chkE; simp [in0]
        have HA1 : Hid (chkE 2 0 s.data.toList = if (Wb && (!Nb && !Z)) = false then 6 else 0) := by show chkE _ _ _ = _; rw [HA0.out, HSy.out]
        generalize chkE 2 0 s.data.toList = r at *
        clear HA0 HSy
        cases Wb <;> cases Nb <;> cases Z
        all_goals
          have HA : Hid (r = _) := HA1.out
          clear HA1
          go_enter Tryd.func40, Tryd.ntmps40
          go_wp2_with (first | (go_at_call 52; refine (CW _).mono ?_; rintro e w1 ⟨rfl, hw1⟩; obtain rfl := hw1.symm) | (go_at_call 53; refine (CN _).mono ?_; rintro e w2 ⟨rfl, hw2⟩; obtain rfl := hw2.symm))
          go_ret
          exact ⟨ret_i HA.out.symm, box1 _ _⟩
    · skip
      have HA : Hid (chkE 2 n s.data.toList = 4) := by show chkE _ _ _ = _; unfold chkE; rw [if_neg (by decide), if_pos (.inl ⟨hn, by decide⟩)]
      generalize chkE 2 n s.data.toList = r at *
      have hn' : ((n : Int) != 0) = true := by rw [bne_iff_ne]; exact hn
      clear hn
      go_enter Tryd.func40, Tryd.ntmps40
      go_wp2_with (first | (go_at_call 52; refine (CW _).mono ?_; rintro e w1 ⟨rfl, hw1⟩; obtain rfl := hw1.symm) | (go_at_call 53; refine (CN _).mono ?_; rintro e w2 ⟨rfl, hw2⟩; obtain rfl := hw2.symm))
      go_ret
      exact ⟨ret_i HA.out.symm, box1 _ _⟩
end Go.Proofs.YtpmhilaochfpaaaDoor
