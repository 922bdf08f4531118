/- Both Checks: contracts of single calls. -/
import Derived.Test.YtpmhilaochfpaaaDoorWi
namespace Go.Proofs.YtpmhilaochfpaaaDoor
set_option maxRecDepth 20000
set_option maxRecDepth 20000
set_option maxRecDepth 20000
set_option maxRecDepth 20000
set_option maxRecDepth 20000
open Go.RowKit
set_option linter.unusedVariables false
set_option linter.unusedSimpArgs false
set_option maxRecDepth 20000

/-- A value. -/
def vv (k n : Int) (s : ByteArray) : Value := .agg #[.int .u8 k, .int .i64 n, .string s]
/-- What Check tells. -/
def chkE (k n : Int) (l : List UInt8) : Int :=
  if 2 < k then 9 else if (n ≠ 0 ∧ k ≠ 1) ∨ (l ≠ [] ∧ k ≠ 2) then 4 else if inB n = false then 12 else if k = 2 ∧ symB l = false then 6 else 0
theorem emp (s : ByteArray) : s.toList.isEmpty = s.data.toList.isEmpty := by rw [Go.ByteArray.toList_eq]
theorem emp_ne {s : ByteArray} (h : s.data.toList ≠ []) : s.toList.isEmpty = false := by rw [emp]; cases hs : s.data.toList with
  | nil => exact absurd hs h
  | cons a b => rfl
theorem emp_eq {s : ByteArray} (h : s.data.toList = []) : s = ByteArray.empty := by cases s; simp at h; subst h; rfl
theorem in0 : inB 0 = true := by decide
theorem ret_i {a b : Int} (h : a = b) : Ending.returned (.int .i64 a) = .returned (.int .i64 b) := by rw [h]
theorem box1 (w : World) (o : Obj) : Below w.heap.size w (w.alloc o) := (Below.refl _ _).alloc (Nat.le_refl _) _
set_option maxHeartbeats 2000000 in
theorem chk_any (k n : Int) (s : ByteArray) (w : World) (h0 : 0 ≤ k) (h255 : k ≤ 255) (hs : s.size ≤ 1000000) (hV : Vars w) :
    Calls Tryd.prog 37 #[vv k n s] w fun e w' => e = .returned (.int .i64 (chkE k n s.data.toList)) ∧ Below w.heap.size w w' := by
  unfold vv
  have CS := fun w' hv => issym_any s w' hs hv
  by_cases h2 : 2 < k
  · skip
    have HA : Hid (chkE k n s.data.toList = 9) := by show chkE _ _ _ = _; unfold chkE; rw [if_pos h2]
    generalize chkE k n s.data.toList = r at *
    go_enter Tryd.func37, Tryd.ntmps37
    go_wp2_with (first | (go_at_call 48; refine (inr_any _ _).mono ?_; rintro e w1 ⟨rfl, hw1⟩; obtain rfl := hw1.symm) | (go_at_call 49; refine (CS _ (hV.below (box1 _ _))).mono ?_; rintro e w2 ⟨rfl, hb2⟩))
    go_ret
    exact ⟨ret_i HA.out.symm, box1 _ _⟩
  obtain h | h | h : k = 0 ∨ k = 1 ∨ k = 2 := by omega
  · subst h
    by_cases hn : n = 0
    · subst hn
      by_cases hl : s.data.toList = []
      · obtain rfl := emp_eq hl
        have HA : Hid (chkE 0 0 ByteArray.empty.data.toList = 0) := by show chkE _ _ _ = _; unfold chkE; simp [in0]
        generalize chkE 0 0 ByteArray.empty.data.toList = r at *
        have hin := in0
        go_enter Tryd.func37, Tryd.ntmps37
        go_wp2_with (first | (go_at_call 48; refine (inr_any _ _).mono ?_; rintro e w1 ⟨rfl, hw1⟩; obtain rfl := hw1.symm) | (go_at_call 49; refine (CS _ (hV.below (box1 _ _))).mono ?_; rintro e w2 ⟨rfl, hb2⟩))
        go_ret
        exact ⟨ret_i HA.out.symm, box1 _ _⟩
      · have hE := emp_ne hl
        have HA : Hid (chkE 0 0 s.data.toList = 4) := by show chkE _ _ _ = _; unfold chkE; rw [if_neg (by decide), if_pos (.inr ⟨hl, by decide⟩)]
        generalize chkE 0 0 s.data.toList = r at *
        clear hl
        go_enter Tryd.func37, Tryd.ntmps37
        go_wp2_with (first | (go_at_call 48; refine (inr_any _ _).mono ?_; rintro e w1 ⟨rfl, hw1⟩; obtain rfl := hw1.symm) | (go_at_call 49; refine (CS _ (hV.below (box1 _ _))).mono ?_; rintro e w2 ⟨rfl, hb2⟩))
        go_ret
        exact ⟨ret_i HA.out.symm, box1 _ _⟩
    · skip
      have HA : Hid (chkE 0 n s.data.toList = 4) := by show chkE _ _ _ = _; unfold chkE; rw [if_neg (by decide), if_pos (.inl ⟨hn, by decide⟩)]
      generalize chkE 0 n s.data.toList = r at *
      have hn' : ((n : Int) != 0) = true := by rw [bne_iff_ne]; exact hn
      clear hn
      go_enter Tryd.func37, Tryd.ntmps37
      go_wp2_with (first | (go_at_call 48; refine (inr_any _ _).mono ?_; rintro e w1 ⟨rfl, hw1⟩; obtain rfl := hw1.symm) | (go_at_call 49; refine (CS _ (hV.below (box1 _ _))).mono ?_; rintro e w2 ⟨rfl, hb2⟩))
      go_ret
      exact ⟨ret_i HA.out.symm, box1 _ _⟩
  · subst h
    by_cases hn : n = 0
    · subst hn
      by_cases hl : s.data.toList = []
      · obtain rfl := emp_eq hl
        have HA : Hid (chkE 1 0 ByteArray.empty.data.toList = 0) := by show chkE _ _ _ = _; unfold chkE; simp [in0]
        generalize chkE 1 0 ByteArray.empty.data.toList = r at *
        have hin := in0
        go_enter Tryd.func37, Tryd.ntmps37
        go_wp2_with (first | (go_at_call 48; refine (inr_any _ _).mono ?_; rintro e w1 ⟨rfl, hw1⟩; obtain rfl := hw1.symm) | (go_at_call 49; refine (CS _ (hV.below (box1 _ _))).mono ?_; rintro e w2 ⟨rfl, hb2⟩))
        go_ret
        exact ⟨ret_i HA.out.symm, box1 _ _⟩
      · have hE := emp_ne hl
        have HA : Hid (chkE 1 0 s.data.toList = 4) := by show chkE _ _ _ = _; unfold chkE; rw [if_neg (by decide), if_pos (.inr ⟨hl, by decide⟩)]
        generalize chkE 1 0 s.data.toList = r at *
        clear hl
        go_enter Tryd.func37, Tryd.ntmps37
        go_wp2_with (first | (go_at_call 48; refine (inr_any _ _).mono ?_; rintro e w1 ⟨rfl, hw1⟩; obtain rfl := hw1.symm) | (go_at_call 49; refine (CS _ (hV.below (box1 _ _))).mono ?_; rintro e w2 ⟨rfl, hb2⟩))
        go_ret
        exact ⟨ret_i HA.out.symm, box1 _ _⟩
    · by_cases hl : s.data.toList = []
      · obtain rfl := emp_eq hl
        by_cases hi : inB n = true
        · skip
          have HA : Hid (chkE 1 n ByteArray.empty.data.toList = 0) := by show chkE _ _ _ = _; unfold chkE; rw [hi]; simp
          generalize chkE 1 n ByteArray.empty.data.toList = r at *
          have hn' : ((n : Int) != 0) = true := by rw [bne_iff_ne]; exact hn
          clear hn
          go_enter Tryd.func37, Tryd.ntmps37
          go_wp2_with (first | (go_at_call 48; refine (inr_any _ _).mono ?_; rintro e w1 ⟨rfl, hw1⟩; obtain rfl := hw1.symm) | (go_at_call 49; refine (CS _ (hV.below (box1 _ _))).mono ?_; rintro e w2 ⟨rfl, hb2⟩))
          go_ret
          exact ⟨ret_i HA.out.symm, box1 _ _⟩
        · have hif : inB n = false := by simpa using hi
          have HA : Hid (chkE 1 n ByteArray.empty.data.toList = 12) := by show chkE _ _ _ = _; unfold chkE; rw [hif]; simp
          generalize chkE 1 n ByteArray.empty.data.toList = r at *
          have hn' : ((n : Int) != 0) = true := by rw [bne_iff_ne]; exact hn
          clear hn hi
          go_enter Tryd.func37, Tryd.ntmps37
          go_wp2_with (first | (go_at_call 48; refine (inr_any _ _).mono ?_; rintro e w1 ⟨rfl, hw1⟩; obtain rfl := hw1.symm) | (go_at_call 49; refine (CS _ (hV.below (box1 _ _))).mono ?_; rintro e w2 ⟨rfl, hb2⟩))
          go_ret
          exact ⟨ret_i HA.out.symm, box1 _ _⟩
      · have hE := emp_ne hl
        have HA : Hid (chkE 1 n s.data.toList = 4) := by show chkE _ _ _ = _; unfold chkE; rw [if_neg (by decide), if_pos (.inr ⟨hl, by decide⟩)]
        generalize chkE 1 n s.data.toList = r at *
        have hn' : ((n : Int) != 0) = true := by rw [bne_iff_ne]; exact hn
        clear hl hn
        go_enter Tryd.func37, Tryd.ntmps37
        go_wp2_with (first | (go_at_call 48; refine (inr_any _ _).mono ?_; rintro e w1 ⟨rfl, hw1⟩; obtain rfl := hw1.symm) | (go_at_call 49; refine (CS _ (hV.below (box1 _ _))).mono ?_; rintro e w2 ⟨rfl, hb2⟩))
        go_ret
        exact ⟨ret_i HA.out.symm, box1 _ _⟩
  · subst h
    by_cases hn : n = 0
    · subst hn
      by_cases hl : s.data.toList = []
      · obtain rfl := emp_eq hl
        have hsf : symB ByteArray.empty.data.toList = false := by decide +kernel
        have HA : Hid (chkE 2 0 ByteArray.empty.data.toList = 6) := by show chkE _ _ _ = _; unfold chkE; rw [hsf]; simp [in0]
        generalize chkE 2 0 ByteArray.empty.data.toList = r at *
        have hin := in0
        rw [hsf] at CS
        clear hsf hl
        go_enter Tryd.func37, Tryd.ntmps37
        go_wp2_with (first | (go_at_call 48; refine (inr_any _ _).mono ?_; rintro e w1 ⟨rfl, hw1⟩; obtain rfl := hw1.symm) | (go_at_call 49; refine (CS _ (hV.below (box1 _ _))).mono ?_; rintro e w2 ⟨rfl, hb2⟩))
        go_ret
        exact ⟨ret_i HA.out.symm, (box1 _ _).trans (hb2.mono (box1 _ _).size)⟩
      · have hE := emp_ne hl
        clear hl
        by_cases hsy : symB s.data.toList = true
        · skip
          have HA : Hid (chkE 2 0 s.data.toList = 0) := by show chkE _ _ _ = _; unfold chkE; rw [hsy]; simp [in0]
          generalize chkE 2 0 s.data.toList = r at *
          have hin := in0
          rw [hsy] at CS
          clear hsy
          go_enter Tryd.func37, Tryd.ntmps37
          go_wp2_with (first | (go_at_call 48; refine (inr_any _ _).mono ?_; rintro e w1 ⟨rfl, hw1⟩; obtain rfl := hw1.symm) | (go_at_call 49; refine (CS _ (hV.below (box1 _ _))).mono ?_; rintro e w2 ⟨rfl, hb2⟩))
          go_ret
          exact ⟨ret_i HA.out.symm, (box1 _ _).trans (hb2.mono (box1 _ _).size)⟩
        · have hsf : symB s.data.toList = false := by simpa using hsy
          have HA : Hid (chkE 2 0 s.data.toList = 6) := by show chkE _ _ _ = _; unfold chkE; rw [hsf]; simp [in0]
          generalize chkE 2 0 s.data.toList = r at *
          have hin := in0
          rw [hsf] at CS
          clear hsy hsf
          go_enter Tryd.func37, Tryd.ntmps37
          go_wp2_with (first | (go_at_call 48; refine (inr_any _ _).mono ?_; rintro e w1 ⟨rfl, hw1⟩; obtain rfl := hw1.symm) | (go_at_call 49; refine (CS _ (hV.below (box1 _ _))).mono ?_; rintro e w2 ⟨rfl, hb2⟩))
          go_ret
          exact ⟨ret_i HA.out.symm, (box1 _ _).trans (hb2.mono (box1 _ _).size)⟩
    · skip
      have HA : Hid (chkE 2 n s.data.toList = 4) := by show chkE _ _ _ = _; unfold chkE; rw [if_neg (by decide), if_pos (.inl ⟨hn, by decide⟩)]
      generalize chkE 2 n s.data.toList = r at *
      have hn' : ((n : Int) != 0) = true := by rw [bne_iff_ne]; exact hn
      clear hn
      go_enter Tryd.func37, Tryd.ntmps37
      go_wp2_with (first | (go_at_call 48; refine (inr_any _ _).mono ?_; rintro e w1 ⟨rfl, hw1⟩; obtain rfl := hw1.symm) | (go_at_call 49; refine (CS _ (hV.below (box1 _ _))).mono ?_; rintro e w2 ⟨rfl, hb2⟩))
      go_ret
      exact ⟨ret_i HA.out.symm, box1 _ _⟩
end Go.Proofs.YtpmhilaochfpaaaDoor
