/- Both Parses: contracts of single calls. -/
import Derived.Test.YtglimefhiggdeaaDoorPs
namespace Go.Proofs.YtglimefhiggdeaaDoor
set_option maxRecDepth 20000
open Go.RowKit
set_option linter.unusedVariables false
set_option linter.unusedSimpArgs false
set_option maxRecDepth 20000

/-- What Parse answers. -/
def prA (s : ByteArray) : Value := .tuple #[pzV s, .int .i64 (pzE s.data.toList)]
theorem pr_no {s : ByteArray} (h : wordB s.data.toList = false) : prA s = .tuple #[vv 0 0 ByteArray.empty, .int .i64 6] := by unfold prA pzV pzE; rw [if_pos (.inl h), if_pos h]
theorem pr_nil {s : ByteArray} (h : wordB s.data.toList = true) (hn : s.data.toList = nil3) : prA s = .tuple #[vv 0 0 ByteArray.empty, .int .i64 0] := by unfold prA pzV pzE; rw [if_pos (.inr hn), if_neg (by rw [h]; simp), if_pos hn]
theorem pr_num {s : ByteArray} (h : wordB s.data.toList = true) (hn : s.data.toList ≠ nil3) (hb : numB s.data.toList = true) : prA s = if 1099511627776 < decV s.data.toList then .tuple #[vv 0 0 ByteArray.empty, .int .i64 12] else .tuple #[vv 1 (nbV s.data.toList) ByteArray.empty, .int .i64 0] := by
  unfold prA pzV pzE
  by_cases hd : 1099511627776 < decV s.data.toList <;> simp [h, hn, hb, hd]
theorem pr_sym {s : ByteArray} (h : wordB s.data.toList = true) (hn : s.data.toList ≠ nil3) (hb : numB s.data.toList = false) : prA s = .tuple #[vv 2 0 s, .int .i64 0] := by
  unfold prA pzV pzE
  rw [if_neg (by rw [h]; simp [hn]), if_neg (by rw [hb]; simp), if_neg (by rw [h]; simp), if_neg hn, if_neg (by rw [hb]; simp)]
set_option maxHeartbeats 2000000 in
theorem parse_any (s : ByteArray) (w : World) (hs : s.size ≤ 1000000) (hV : Vars w) :
    Calls Tryd.prog 44 #[.string s] w fun e w' => e = .returned (prA s) ∧ Below w.heap.size w w' := by
  have CW := fun w' hv => word_any s w' hs hv
  have CN := fun w' => isnum_any s w' hs
  have HNil := is_nil s
  by_cases hw : wordB s.data.toList = true
  · rw [hw] at CW
    by_cases hnil : s.data.toList = nil3
    · rw [decide_eq_true hnil] at HNil
      have HP : Hid (prA s = .tuple #[vv 0 0 ByteArray.empty, .int .i64 0]) := pr_nil hw hnil
      generalize prA s = ans at *
      clear hw hnil CN
      go_enter Tryd.func44, Tryd.ntmps44
      go_wp2_with (first | (go_at_call 55; refine (CW _ (hV.below (box1 _ _))).mono ?_; rintro e w1 ⟨rfl, hb1⟩; clear CW; obtain ⟨hc, hf⟩ := bcell hb1; have hz : w.heap.size < w1.heap.size := by { have := hb1.size; simp at this; omega }) | (go_at_call 56; refine (CN _).mono ?_; rintro e w2 ⟨rfl, hb2⟩; clear CN; obtain ⟨hc2, hf2⟩ := bcell hb2; have hz2 : w.heap.size < w2.heap.size := by { have := hb2.size; omega }) | (go_at_call 57; refine (CP _ (hV.below ((up1 hb1).trans (hb2.mono (up1 hb1).size)))).mono ?_; rintro e w3 ⟨rfl, hb3⟩; clear CP; obtain ⟨hc3, hf3⟩ := bcell hb3) | (go_at_call 58; refine (CS _).mono ?_; rintro e w3 ⟨rfl, hb3⟩; clear CS; obtain ⟨hc3, hf3⟩ := bcell hb3))
      refine bodyPost_ret (v := .tuple #[vv 0 0 ByteArray.empty, .int .i64 0]) (by simp [results, Tryd.results44, go_sem, vv, hc, hz] <;> rfl) rfl ⟨by rw [HP.out], ?_⟩
      exact set3 (up1 hb1) _ (Nat.le_refl _) _ _ _
    · rw [decide_eq_false hnil] at HNil
      by_cases hb : numB s.data.toList = true
      · have HP0 := pr_num hw hnil hb
        rw [hb] at CN
        have CP := fun w' hv => pnum_any s w' hs hv hb
        unfold pnA at CP
        generalize prA s = ans at *
        clear hw hnil hb
        by_cases hd : 1099511627776 < decV s.data.toList
        · rw [if_pos hd] at HP0 CP
          have HP : Hid (ans = .tuple #[vv 0 0 ByteArray.empty, .int .i64 12]) := HP0
          unfold vv at CP
          clear hd HP0
          go_enter Tryd.func44, Tryd.ntmps44
          go_wp2_with (first | (go_at_call 55; refine (CW _ (hV.below (box1 _ _))).mono ?_; rintro e w1 ⟨rfl, hb1⟩; clear CW; obtain ⟨hc, hf⟩ := bcell hb1; have hz : w.heap.size < w1.heap.size := by { have := hb1.size; simp at this; omega }) | (go_at_call 56; refine (CN _).mono ?_; rintro e w2 ⟨rfl, hb2⟩; clear CN; obtain ⟨hc2, hf2⟩ := bcell hb2; have hz2 : w.heap.size < w2.heap.size := by { have := hb2.size; omega }) | (go_at_call 57; refine (CP _ (hV.below ((up1 hb1).trans (hb2.mono (up1 hb1).size)))).mono ?_; rintro e w3 ⟨rfl, hb3⟩; clear CP; obtain ⟨hc3, hf3⟩ := bcell hb3) | (go_at_call 58; refine (CS _).mono ?_; rintro e w3 ⟨rfl, hb3⟩; clear CS; obtain ⟨hc3, hf3⟩ := bcell hb3))
          refine bodyPost_ret (v := .tuple #[vv 0 0 ByteArray.empty, .int .i64 12]) (by simp [results, Tryd.results44, go_sem, vv, hc, hz, hc2, hz2, hc3] <;> rfl) rfl ⟨by rw [HP.out], ?_⟩
          exact set3 (((up1 hb1).trans (hb2.mono (up1 hb1).size)).trans (hb3.mono ((up1 hb1).trans (hb2.mono (up1 hb1).size)).size)) _ (Nat.le_refl _) _ _ _
        · rw [if_neg hd] at HP0 CP
          generalize nbV s.data.toList = nb at *
          have HP : Hid (ans = .tuple #[vv 1 nb ByteArray.empty, .int .i64 0]) := HP0
          unfold vv at CP
          clear hd HP0
          go_enter Tryd.func44, Tryd.ntmps44
          go_wp2_with (first | (go_at_call 55; refine (CW _ (hV.below (box1 _ _))).mono ?_; rintro e w1 ⟨rfl, hb1⟩; clear CW; obtain ⟨hc, hf⟩ := bcell hb1; have hz : w.heap.size < w1.heap.size := by { have := hb1.size; simp at this; omega }) | (go_at_call 56; refine (CN _).mono ?_; rintro e w2 ⟨rfl, hb2⟩; clear CN; obtain ⟨hc2, hf2⟩ := bcell hb2; have hz2 : w.heap.size < w2.heap.size := by { have := hb2.size; omega }) | (go_at_call 57; refine (CP _ (hV.below ((up1 hb1).trans (hb2.mono (up1 hb1).size)))).mono ?_; rintro e w3 ⟨rfl, hb3⟩; clear CP; obtain ⟨hc3, hf3⟩ := bcell hb3) | (go_at_call 58; refine (CS _).mono ?_; rintro e w3 ⟨rfl, hb3⟩; clear CS; obtain ⟨hc3, hf3⟩ := bcell hb3))
          refine bodyPost_ret (v := .tuple #[vv 1 nb ByteArray.empty, .int .i64 0]) (by simp [results, Tryd.results44, go_sem, vv, hc, hz, hc2, hz2, hc3] <;> rfl) rfl ⟨by rw [HP.out], ?_⟩
          exact set3 (((up1 hb1).trans (hb2.mono (up1 hb1).size)).trans (hb3.mono ((up1 hb1).trans (hb2.mono (up1 hb1).size)).size)) _ (Nat.le_refl _) _ _ _
      · have hbf : numB s.data.toList = false := by simpa using hb
        have HP : Hid (prA s = .tuple #[vv 2 0 s, .int .i64 0]) := pr_sym hw hnil hbf
        rw [hbf] at CN
        have CS := fun w' => symbol_any s w'
        unfold vv at CS
        generalize prA s = ans at *
        clear hw hnil hb hbf
        go_enter Tryd.func44, Tryd.ntmps44
        go_wp2_with (first | (go_at_call 55; refine (CW _ (hV.below (box1 _ _))).mono ?_; rintro e w1 ⟨rfl, hb1⟩; clear CW; obtain ⟨hc, hf⟩ := bcell hb1; have hz : w.heap.size < w1.heap.size := by { have := hb1.size; simp at this; omega }) | (go_at_call 56; refine (CN _).mono ?_; rintro e w2 ⟨rfl, hb2⟩; clear CN; obtain ⟨hc2, hf2⟩ := bcell hb2; have hz2 : w.heap.size < w2.heap.size := by { have := hb2.size; omega }) | (go_at_call 57; refine (CP _ (hV.below ((up1 hb1).trans (hb2.mono (up1 hb1).size)))).mono ?_; rintro e w3 ⟨rfl, hb3⟩; clear CP; obtain ⟨hc3, hf3⟩ := bcell hb3) | (go_at_call 58; refine (CS _).mono ?_; rintro e w3 ⟨rfl, hb3⟩; clear CS; obtain ⟨hc3, hf3⟩ := bcell hb3))
        refine bodyPost_ret (v := .tuple #[vv 2 0 s, .int .i64 0]) (by simp [results, Tryd.results44, go_sem, vv, hc, hz, hc2, hz2, hc3] <;> rfl) rfl ⟨by rw [HP.out], ?_⟩
        exact set3 (((up1 hb1).trans (hb2.mono (up1 hb1).size)).trans (hb3.mono ((up1 hb1).trans (hb2.mono (up1 hb1).size)).size)) _ (Nat.le_refl _) _ _ _
  · have hwf : wordB s.data.toList = false := by simpa using hw
    have HP : Hid (prA s = .tuple #[vv 0 0 ByteArray.empty, .int .i64 6]) := pr_no hwf
    rw [hwf] at CW
    generalize prA s = ans at *
    clear hw hwf CN HNil
    go_enter Tryd.func44, Tryd.ntmps44
    go_wp2_with (first | (go_at_call 55; refine (CW _ (hV.below (box1 _ _))).mono ?_; rintro e w1 ⟨rfl, hb1⟩; clear CW; obtain ⟨hc, hf⟩ := bcell hb1; have hz : w.heap.size < w1.heap.size := by { have := hb1.size; simp at this; omega }) | (go_at_call 56; refine (CN _).mono ?_; rintro e w2 ⟨rfl, hb2⟩; clear CN; obtain ⟨hc2, hf2⟩ := bcell hb2; have hz2 : w.heap.size < w2.heap.size := by { have := hb2.size; omega }) | (go_at_call 57; refine (CP _ (hV.below ((up1 hb1).trans (hb2.mono (up1 hb1).size)))).mono ?_; rintro e w3 ⟨rfl, hb3⟩; clear CP; obtain ⟨hc3, hf3⟩ := bcell hb3) | (go_at_call 58; refine (CS _).mono ?_; rintro e w3 ⟨rfl, hb3⟩; clear CS; obtain ⟨hc3, hf3⟩ := bcell hb3))
    refine bodyPost_ret (v := .tuple #[vv 0 0 ByteArray.empty, .int .i64 6]) (by simp [results, Tryd.results44, go_sem, vv, hc, hz] <;> rfl) rfl ⟨by rw [HP.out], ?_⟩
    exact set3 (up1 hb1) _ (Nat.le_refl _) _ _ _
set_option maxHeartbeats 2000000 in
theorem rparse_any (s : ByteArray) (w : World) (hs : s.size ≤ 1000000) :
    Calls Tryd.prog 36 #[.string s] w fun e w' => e = .returned (prA s) ∧ Below w.heap.size w w' := by
  have CW := fun w' => rword_any s w' hs
  have CN := fun w' => risnum_any s w' hs
  have HNil := is_nil s
  by_cases hw : wordB s.data.toList = true
  · rw [hw] at CW
    by_cases hnil : s.data.toList = nil3
    · rw [decide_eq_true hnil] at HNil
      have HP : Hid (prA s = .tuple #[vv 0 0 ByteArray.empty, .int .i64 0]) := pr_nil hw hnil
      generalize prA s = ans at *
      clear hw hnil CN
      go_enter Tryd.func36, Tryd.ntmps36
      go_wp2_with (first | (go_at_call 47; refine (CW _).mono ?_; rintro e w1 ⟨rfl, hw1⟩; obtain rfl := hw1.symm; clear CW) | (go_at_call 48; refine (CN _).mono ?_; rintro e w2 ⟨rfl, hw2⟩; obtain rfl := hw2.symm; clear CN) | (go_at_call 49; refine (CP _).mono ?_; rintro e w3 ⟨rfl, hw3⟩; obtain rfl := hw3.symm; clear CP))
      refine bodyPost_ret (v := .tuple #[vv 0 0 ByteArray.empty, .int .i64 0]) (by simp [results, Tryd.results36, go_sem, vv] <;> rfl) rfl ⟨by rw [HP.out], ?_⟩
      exact box1 _ _
    · rw [decide_eq_false hnil] at HNil
      by_cases hb : numB s.data.toList = true
      · have HP0 := pr_num hw hnil hb
        rw [hb] at CN
        have CP := fun w' => num13_any s w' hs hb
        have hsv := sv_full s.data.toList
        rw [lenL] at hsv
        have HV : Hid (nbV s.data.toList = if negB s.data.toList = true then -(decV s.data.toList : Int) else decV s.data.toList) := rfl
        generalize sv s.data.toList s.size = q at *
        generalize decV s.data.toList = dv at *
        generalize nbV s.data.toList = nb at *
        generalize prA s = ans at *
        generalize hng : negB s.data.toList = ng at *
        clear hw hnil hb hng
        by_cases hd : 1099511627776 < dv
        · rw [if_pos hd] at HP0
          have HP : Hid (ans = .tuple #[vv 0 0 ByteArray.empty, .int .i64 12]) := HP0
          have hq : q = 1099511627777 := by omega
          clear HP0 hsv hd HV
          subst hq
          cases ng
          · simp only [Bool.false_eq_true, if_false] at CP
            go_enter Tryd.func36, Tryd.ntmps36
            go_wp2_with (first | (go_at_call 47; refine (CW _).mono ?_; rintro e w1 ⟨rfl, hw1⟩; obtain rfl := hw1.symm; clear CW) | (go_at_call 48; refine (CN _).mono ?_; rintro e w2 ⟨rfl, hw2⟩; obtain rfl := hw2.symm; clear CN) | (go_at_call 49; refine (CP _).mono ?_; rintro e w3 ⟨rfl, hw3⟩; obtain rfl := hw3.symm; clear CP))
            refine bodyPost_ret (v := .tuple #[vv 0 0 ByteArray.empty, .int .i64 12]) (by simp [results, Tryd.results36, go_sem, vv] <;> rfl) rfl ⟨by rw [HP.out], ?_⟩
            exact box1 _ _
          · simp only [if_true] at CP
            go_enter Tryd.func36, Tryd.ntmps36
            go_wp2_with (first | (go_at_call 47; refine (CW _).mono ?_; rintro e w1 ⟨rfl, hw1⟩; obtain rfl := hw1.symm; clear CW) | (go_at_call 48; refine (CN _).mono ?_; rintro e w2 ⟨rfl, hw2⟩; obtain rfl := hw2.symm; clear CN) | (go_at_call 49; refine (CP _).mono ?_; rintro e w3 ⟨rfl, hw3⟩; obtain rfl := hw3.symm; clear CP))
            refine bodyPost_ret (v := .tuple #[vv 0 0 ByteArray.empty, .int .i64 12]) (by simp [results, Tryd.results36, go_sem, vv] <;> rfl) rfl ⟨by rw [HP.out], ?_⟩
            exact box1 _ _
        · rw [if_neg hd] at HP0
          have hq : (if ng = true then -(q : Int) else q) = nb := by rw [HV.out, hsv, show min dv 1099511627777 = dv by omega]
          rw [hq] at CP
          have HP : Hid (ans = .tuple #[vv 1 nb ByteArray.empty, .int .i64 0]) := HP0
          have q1 : ¬ nb < -1099511627776 := by rw [HV.out]; split <;> omega
          have q2 : ¬ 1099511627776 < nb := by rw [HV.out]; split <;> omega
          clear HP0 hsv hd HV hq
          go_enter Tryd.func36, Tryd.ntmps36
          go_wp2_with (first | (go_at_call 47; refine (CW _).mono ?_; rintro e w1 ⟨rfl, hw1⟩; obtain rfl := hw1.symm; clear CW) | (go_at_call 48; refine (CN _).mono ?_; rintro e w2 ⟨rfl, hw2⟩; obtain rfl := hw2.symm; clear CN) | (go_at_call 49; refine (CP _).mono ?_; rintro e w3 ⟨rfl, hw3⟩; obtain rfl := hw3.symm; clear CP))
          refine bodyPost_ret (v := .tuple #[vv 1 nb ByteArray.empty, .int .i64 0]) (by simp [results, Tryd.results36, go_sem, vv] <;> rfl) rfl ⟨by rw [HP.out], ?_⟩
          exact box1 _ _
      · have hbf : numB s.data.toList = false := by simpa using hb
        have HP : Hid (prA s = .tuple #[vv 2 0 s, .int .i64 0]) := pr_sym hw hnil hbf
        rw [hbf] at CN
        generalize prA s = ans at *
        clear hw hnil hb hbf
        go_enter Tryd.func36, Tryd.ntmps36
        go_wp2_with (first | (go_at_call 47; refine (CW _).mono ?_; rintro e w1 ⟨rfl, hw1⟩; obtain rfl := hw1.symm; clear CW) | (go_at_call 48; refine (CN _).mono ?_; rintro e w2 ⟨rfl, hw2⟩; obtain rfl := hw2.symm; clear CN) | (go_at_call 49; refine (CP _).mono ?_; rintro e w3 ⟨rfl, hw3⟩; obtain rfl := hw3.symm; clear CP))
        refine bodyPost_ret (v := .tuple #[vv 2 0 s, .int .i64 0]) (by simp [results, Tryd.results36, go_sem, vv] <;> rfl) rfl ⟨by rw [HP.out], ?_⟩
        exact box1 _ _
  · have hwf : wordB s.data.toList = false := by simpa using hw
    have HP : Hid (prA s = .tuple #[vv 0 0 ByteArray.empty, .int .i64 6]) := pr_no hwf
    rw [hwf] at CW
    generalize prA s = ans at *
    clear hw hwf CN HNil
    go_enter Tryd.func36, Tryd.ntmps36
    go_wp2_with (first | (go_at_call 47; refine (CW _).mono ?_; rintro e w1 ⟨rfl, hw1⟩; obtain rfl := hw1.symm; clear CW) | (go_at_call 48; refine (CN _).mono ?_; rintro e w2 ⟨rfl, hw2⟩; obtain rfl := hw2.symm; clear CN) | (go_at_call 49; refine (CP _).mono ?_; rintro e w3 ⟨rfl, hw3⟩; obtain rfl := hw3.symm; clear CP))
    refine bodyPost_ret (v := .tuple #[vv 0 0 ByteArray.empty, .int .i64 6]) (by simp [results, Tryd.results36, go_sem, vv] <;> rfl) rfl ⟨by rw [HP.out], ?_⟩
    exact box1 _ _
end Go.Proofs.YtglimefhiggdeaaDoor
