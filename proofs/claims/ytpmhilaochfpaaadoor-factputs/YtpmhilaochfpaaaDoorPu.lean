/- Both Puts: contracts of single calls. -/
import Derived.Test.YtpmhilaochfpaaaDoorTx
import Derived.Test.YtpmhilaochfpaaaDoorOw
import Derived.Test.YtpmhilaochfpaaaDoorCkr
import Derived.Test.YtpmhilaochfpaaaDoorTexts
namespace Go.Proofs.YtpmhilaochfpaaaDoor
set_option maxRecDepth 20000
open Go.RowKit
set_option linter.unusedVariables false
set_option linter.unusedSimpArgs false
set_option maxRecDepth 20000

theorem Own.mono {w : World} {b b' : Nat} {v : Value} {zs : List Int} (h : Own w b v zs) (hb : b' ≤ b) : Own w b' v zs := by
  unfold Own World.ownsRow at *
  obtain ⟨h1, h2 | ⟨g, cap, cur, h3, h4, h5⟩⟩ := h
  · exact ⟨h1, .inl h2⟩
  · exact ⟨h1, .inr ⟨g, cap, cur, h3, Nat.le_trans hb h4, h5⟩⟩
theorem lit1 (w : World) (k : Int) : Own (w.alloc (.cells #[.int .u8 k] 5)) w.heap.size (.slice (some ⟨w.heap.size, 0, none⟩) 1 1) [k] := World.ownsRow_lit w #[.int .u8 k] 1 (Nat.le_refl _) (by decide) rfl
/-- What stands behind the kind. -/
def rstL (k n : Int) (s : ByteArray) : List Int := if k = 1 then signL n else if k = 2 then textL s else []
def putL13 (k n : Int) (s : ByteArray) : List Int := if chkE k n s.data.toList ≠ 0 then [] else k :: rstL k n s
theorem sym_len {l : List UInt8} (h : symB l = true) : 1 ≤ l.length ∧ l.length ≤ 24 := by
  unfold symB wordB at h
  simp only [Bool.and_eq_true, decide_eq_true_eq] at h
  exact h.1.1
set_option maxHeartbeats 400000 in
theorem rest0 (n : Int) (s : ByteArray) (w : World) : Calls Tryd.prog 38 #[vv 0 n s] w fun e w' => e = .returned (.tuple #[.slice none 0 0, .int .i64 0]) ∧ Below w.heap.size w w' := by
  unfold vv
  go_enter Tryd.func38, Tryd.ntmps38
  go_wp2
  go_ret2
  exact ⟨rfl, box1 _ _⟩
set_option maxHeartbeats 400000 in
theorem rest1 (n : Int) (s : ByteArray) (w : World) (h0 : -1099511627776 ≤ n) (h1 : n ≤ 1099511627776) : Calls Tryd.prog 38 #[vv 1 n s] w fun e w' => ∃ g c, e = .returned (.tuple #[.slice (some ⟨g, 0, none⟩) 6 c, .int .i64 0]) ∧ Own w' w.heap.size (.slice (some ⟨g, 0, none⟩) 6 c) (signL n) ∧ Below w.heap.size w w' := by
  unfold vv
  have CS := fun w' => sign_any n w'
  have e0 : signE n = 0 := by unfold signE; rw [if_neg (by omega)]
  have el : (signL n).length = 6 := by unfold signL; rw [if_neg (by omega)]; simp [dig]
  rw [e0] at CS
  clear e0
  go_enter Tryd.func38, Tryd.ntmps38
  go_wp2_with (go_at_call 50; refine (CS _).mono ?_; rintro e w1 ⟨v, rfl, ho, hb1⟩; clear CS; obtain ⟨g, c, rfl, _, _, _⟩ := ho.shape 6 el (by decide))
  go_ret2
  exact ⟨g, c, rfl, ho.mono (box1 _ _).size, up1 hb1⟩
set_option maxHeartbeats 400000 in
theorem rest2 (n : Int) (s : ByteArray) (w : World) (h : s.size ≤ 255) : Calls Tryd.prog 38 #[vv 2 n s] w fun e w' => ∃ g c, e = .returned (.tuple #[.slice (some ⟨g, 0, none⟩) (1 + s.size) c, .int .i64 0]) ∧ Own w' w.heap.size (.slice (some ⟨g, 0, none⟩) (1 + s.size) c) (textL s) ∧ Below w.heap.size w w' := by
  unfold vv
  have CS := fun w' => text_any s w'
  have e0 : textE s = 0 := by unfold textE; rw [if_neg (by omega)]
  have el : (textL s).length = 1 + s.size := by unfold textL; rw [if_neg (by omega), List.length_cons, bytesOf_length]; omega
  rw [e0] at CS
  have HL : Hid ((textL s).length = 1 + s.size) := el
  clear e0 el
  go_enter Tryd.func38, Tryd.ntmps38
  go_wp2_with (go_at_call 51; refine (CS _).mono ?_; rintro e w1 ⟨v, rfl, ho, hb1⟩; clear CS; obtain ⟨g, c, rfl, _, _, _⟩ := ho.shape (1 + s.size) HL.out (by omega))
  go_ret2
  exact ⟨g, c, rfl, ho.mono (box1 _ _).size, up1 hb1⟩
--PUTS
def PutPost (k n : Int) (s : ByteArray) (w : World) (e : Ending) (w' : World) : Prop := ∃ v, e = .returned (.tuple #[v, .int .i64 (chkE k n s.data.toList)]) ∧ Own w' w.heap.size v (putL13 k n s) ∧ Below w.heap.size w w'
theorem put_len (k n : Int) (s : ByteArray) (hc : chkE k n s.data.toList = 0) : putL13 k n s = k :: rstL k n s := by unfold putL13; rw [if_neg (by simp [hc])]
set_option maxHeartbeats 1000000 in
theorem put_any130 (n : Int) (s : ByteArray) (w : World) (hs : s.size ≤ 1000000) (hV : Vars w) (hc0 : chkE 0 n s.data.toList = 0) :
    Calls Tryd.prog 24 #[vv 0 n s] w (PutPost 0 n s w) := by
  have CC := fun w' hv => chk_any 0 n s w' (by decide) (by decide) hs hv
  have HQ : Hid (∀ v w', Own w' w.heap.size v (0 :: rstL 0 n s) → Below w.heap.size w w' → PutPost 0 n s w (.returned (.tuple #[v, .int .i64 0])) w') := fun v w' h1 h2 => ⟨v, by rw [hc0], by rw [put_len 0 n s hc0]; exact h1, h2⟩
  obtain ⟨-, hn0, hn1, -, -, hsy⟩ := chk0 hc0
  rw [hc0] at CC
  have HR : Hid (rstL 0 n s = []) := rfl
  generalize PutPost 0 n s w = Post at *
  clear hc0 hsy
  have CR := fun w' => rest0 n s w'
  unfold vv at CR
  unfold vv at CC ⊢
  go_enter Tryd.func24, Tryd.ntmps24
  go_wp2_with (first | (go_at_call 37; refine (CC _ (hV.below (box1 _ _))).mono ?_; rintro e w1 ⟨rfl, hb1⟩; clear CC; obtain ⟨hc, hf⟩ := bcell hb1; have hz : w.heap.size < w1.heap.size := by { have := hb1.size; simp at this; omega }) | (go_at_call 38; refine (CR _).mono ?_; rintro e w2 ⟨rfl, hb2⟩; clear CR; obtain ⟨hc2, hf2⟩ := bcell hb2; have hz2 : w.heap.size < w2.heap.size := by { have := hb2.size; omega }) | (at_builtin; obtain ⟨i0, hi, _⟩ := info_parts Tryd.info5; refine wpList_append_own_none rfl _ _ 53 rfl w2.heap.size 5 i0 1 Tryd.underlying53 hi _ 1 [.int .u8 0] rfl (lit1 w2 0) rfl ?_))
  exact HQ.out _ _ (by rw [HR.out]; exact (lit1 w2 0).mono ((up1 hb1).trans (hb2.mono (up1 hb1).size)).size) (((up1 hb1).trans (hb2.mono (up1 hb1).size)).trans ((box1 w2 _).mono ((up1 hb1).trans (hb2.mono (up1 hb1).size)).size))
set_option maxHeartbeats 1000000 in
theorem put_any131 (n : Int) (s : ByteArray) (w : World) (hs : s.size ≤ 1000000) (hV : Vars w) (hc0 : chkE 1 n s.data.toList = 0) :
    Calls Tryd.prog 24 #[vv 1 n s] w (PutPost 1 n s w) := by
  have CC := fun w' hv => chk_any 1 n s w' (by decide) (by decide) hs hv
  have HQ : Hid (∀ v w', Own w' w.heap.size v (1 :: rstL 1 n s) → Below w.heap.size w w' → PutPost 1 n s w (.returned (.tuple #[v, .int .i64 0])) w') := fun v w' h1 h2 => ⟨v, by rw [hc0], by rw [put_len 1 n s hc0]; exact h1, h2⟩
  obtain ⟨-, hn0, hn1, -, -, hsy⟩ := chk0 hc0
  rw [hc0] at CC
  have HR : Hid (rstL 1 n s = signL n) := rfl
  have HL : Hid ((signL n).length = 6) := by show _ = 6; unfold signL; rw [if_neg (by omega)]; simp [dig]
  have CR := fun w' => rest1 n s w' hn0 hn1
  unfold vv at CR
  generalize PutPost 1 n s w = Post at *
  clear hc0 hsy
  unfold vv at CC ⊢
  go_enter Tryd.func24, Tryd.ntmps24
  go_wp2_with (first | (go_at_call 37; refine (CC _ (hV.below (box1 _ _))).mono ?_; rintro e w1 ⟨rfl, hb1⟩; clear CC; obtain ⟨hc, hf⟩ := bcell hb1; have hz : w.heap.size < w1.heap.size := by { have := hb1.size; simp at this; omega }) | (go_at_call 38; refine (CR _).mono ?_; rintro e w2 ⟨g, c, rfl, ho, hb2⟩; clear CR; obtain ⟨hc2, hf2⟩ := bcell hb2; have hz2 : w.heap.size < w2.heap.size := by { have := hb2.size; omega }) | (at_builtin; refine wp_app rfl _ _ rfl w2.heap.size _ _ [1] (signL n) rfl (lit1 w2 1) g 6 c rfl HL.out (ho.below (box1 w2 _)) 7 (by rw [HL.out]; simp; try omega) (by omega) (by omega) (by simp) ?_; intro g' c' w3 ho3 hb3))
  exact HQ.out _ _ (by rw [HR.out]; exact ho3.mono ((up1 hb1).trans (hb2.mono (up1 hb1).size)).size) (((up1 hb1).trans (hb2.mono (up1 hb1).size)).trans (((box1 w2 _).trans hb3).mono ((up1 hb1).trans (hb2.mono (up1 hb1).size)).size))
set_option maxHeartbeats 1000000 in
theorem put_any132 (n : Int) (s : ByteArray) (w : World) (hs : s.size ≤ 1000000) (hV : Vars w) (hc0 : chkE 2 n s.data.toList = 0) :
    Calls Tryd.prog 24 #[vv 2 n s] w (PutPost 2 n s w) := by
  have CC := fun w' hv => chk_any 2 n s w' (by decide) (by decide) hs hv
  have HQ : Hid (∀ v w', Own w' w.heap.size v (2 :: rstL 2 n s) → Below w.heap.size w w' → PutPost 2 n s w (.returned (.tuple #[v, .int .i64 0])) w') := fun v w' h1 h2 => ⟨v, by rw [hc0], by rw [put_len 2 n s hc0]; exact h1, h2⟩
  obtain ⟨-, hn0, hn1, -, -, hsy⟩ := chk0 hc0
  rw [hc0] at CC
  have hsz := (sym_len (hsy rfl)).2
  rw [lenL] at hsz
  have HR : Hid (rstL 2 n s = textL s) := rfl
  have HL : Hid ((textL s).length = 1 + s.size) := by show _ = _; unfold textL; rw [if_neg (by omega), List.length_cons, bytesOf_length]; omega
  have CR := fun w' => rest2 n s w' (by omega)
  unfold vv at CR
  generalize PutPost 2 n s w = Post at *
  clear hc0 hsy
  unfold vv at CC ⊢
  go_enter Tryd.func24, Tryd.ntmps24
  go_wp2_with (first | (go_at_call 37; refine (CC _ (hV.below (box1 _ _))).mono ?_; rintro e w1 ⟨rfl, hb1⟩; clear CC; obtain ⟨hc, hf⟩ := bcell hb1; have hz : w.heap.size < w1.heap.size := by { have := hb1.size; simp at this; omega }) | (go_at_call 38; refine (CR _).mono ?_; rintro e w2 ⟨g, c, rfl, ho, hb2⟩; clear CR; obtain ⟨hc2, hf2⟩ := bcell hb2; have hz2 : w.heap.size < w2.heap.size := by { have := hb2.size; omega }) | (at_builtin; refine wp_app rfl _ _ rfl w2.heap.size _ _ [2] (textL s) rfl (lit1 w2 2) g (1 + s.size) c rfl HL.out (ho.below (box1 w2 _)) (2 + s.size) (by rw [HL.out]; simp; try omega) (by omega) (by omega) (by simp) ?_; intro g' c' w3 ho3 hb3))
  exact HQ.out _ _ (by rw [HR.out]; exact ho3.mono ((up1 hb1).trans (hb2.mono (up1 hb1).size)).size) (((up1 hb1).trans (hb2.mono (up1 hb1).size)).trans (((box1 w2 _).trans hb3).mono ((up1 hb1).trans (hb2.mono (up1 hb1).size)).size))
set_option maxHeartbeats 1000000 in
theorem put_any13 (k n : Int) (s : ByteArray) (w : World) (h0 : 0 ≤ k) (h255 : k ≤ 255) (hs : s.size ≤ 1000000) (hV : Vars w) :
    Calls Tryd.prog 24 #[vv k n s] w (PutPost k n s w) := by
  by_cases hc0 : chkE k n s.data.toList = 0
  · obtain ⟨hk2, _⟩ := chk0 hc0
    obtain h | h | h : k = 0 ∨ k = 1 ∨ k = 2 := by omega
    · subst h; exact put_any130 n s w hs hV hc0
    · subst h; exact put_any131 n s w hs hV hc0
    · subst h; exact put_any132 n s w hs hV hc0
  · have CC := fun w' hv => chk_any k n s w' h0 h255 hs hv
    have HQ : Hid (∀ w', Below w.heap.size w w' → PutPost k n s w (.returned (.tuple #[.slice none 0 0, .int .i64 (chkE k n s.data.toList)])) w') := fun w' h => ⟨_, rfl, by unfold putL13; rw [if_pos hc0]; exact Own.nil _ _, h⟩
    have hne : ((chkE k n s.data.toList : Int) != 0) = true := by rw [bne_iff_ne]; exact hc0
    generalize PutPost k n s w = Post at *
    unfold vv at CC ⊢
    generalize chkE k n s.data.toList = ce at *
    clear hc0
    go_enter Tryd.func24, Tryd.ntmps24
    go_wp2_with (go_at_call 37; refine (CC _ (hV.below (box1 _ _))).mono ?_; rintro e w1 ⟨rfl, hb1⟩; clear CC; obtain ⟨hc, hf⟩ := bcell hb1; have hz : w.heap.size < w1.heap.size := by { have := hb1.size; simp at this; omega })
    exact HQ.out _ (up1 hb1)
set_option maxHeartbeats 1000000 in
theorem rput_any130 (n : Int) (s : ByteArray) (w : World) (hs : s.size ≤ 1000000) (hc0 : chkE 0 n s.data.toList = 0) :
    Calls Tryd.prog 28 #[vv 0 n s] w (PutPost 0 n s w) := by
  have CC := fun w' => rchk_any 0 n s w' (by decide) (by decide) hs
  have HQ : Hid (∀ v w', Own w' w.heap.size v (0 :: rstL 0 n s) → Below w.heap.size w w' → PutPost 0 n s w (.returned (.tuple #[v, .int .i64 0])) w') := fun v w' h1 h2 => ⟨v, by rw [hc0], by rw [put_len 0 n s hc0]; exact h1, h2⟩
  obtain ⟨-, hn0, hn1, -, -, hsy⟩ := chk0 hc0
  rw [hc0] at CC
  have HR : Hid (rstL 0 n s = []) := rfl
  generalize PutPost 0 n s w = Post at *
  clear hc0 hsy
  unfold vv at CC ⊢
  go_enter Tryd.func28, Tryd.ntmps28
  go_wp2_with (first | (go_at_call 40; refine (CC _).mono ?_; rintro e w1 ⟨rfl, hb1⟩; clear CC; obtain ⟨hc, hf⟩ := bcell hb1; have hz : w.heap.size < w1.heap.size := by { have := hb1.size; simp at this; omega }))
  exact HQ.out _ _ (by rw [HR.out]; exact (lit1 w1 0).mono (up1 hb1).size) ((up1 hb1).trans ((box1 w1 _).mono (up1 hb1).size))
set_option maxHeartbeats 1000000 in
theorem rput_any131 (n : Int) (s : ByteArray) (w : World) (hs : s.size ≤ 1000000) (hc0 : chkE 1 n s.data.toList = 0) :
    Calls Tryd.prog 28 #[vv 1 n s] w (PutPost 1 n s w) := by
  have CC := fun w' => rchk_any 1 n s w' (by decide) (by decide) hs
  have HQ : Hid (∀ v w', Own w' w.heap.size v (1 :: rstL 1 n s) → Below w.heap.size w w' → PutPost 1 n s w (.returned (.tuple #[v, .int .i64 0])) w') := fun v w' h1 h2 => ⟨v, by rw [hc0], by rw [put_len 1 n s hc0]; exact h1, h2⟩
  obtain ⟨-, hn0, hn1, -, -, hsy⟩ := chk0 hc0
  rw [hc0] at CC
  have HR : Hid (rstL 1 n s = signL n) := rfl
  have HL : Hid ((signL n).length = 6) := by show _ = 6; unfold signL; rw [if_neg (by omega)]; simp [dig]
  have CR := fun w' => rsign_any n w'
  have e0 : signE n = 0 := by unfold signE; rw [if_neg (by omega)]
  rw [e0] at CR
  clear e0
  generalize PutPost 1 n s w = Post at *
  clear hc0 hsy
  unfold vv at CC ⊢
  go_enter Tryd.func28, Tryd.ntmps28
  go_wp2_with (first | (go_at_call 40; refine (CC _).mono ?_; rintro e w1 ⟨rfl, hb1⟩; clear CC; obtain ⟨hc, hf⟩ := bcell hb1; have hz : w.heap.size < w1.heap.size := by { have := hb1.size; simp at this; omega }) | (go_at_call 41; refine (CR _).mono ?_; rintro e w2 ⟨v, rfl, ho, hb2⟩; clear CR; obtain ⟨hc2, hf2⟩ := bcell hb2; have hz2 : w.heap.size < w2.heap.size := by { have := hb2.size; simp at this; omega }; obtain ⟨g, c, rfl, _, _, _⟩ := ho.shape 6 HL.out (by omega)) | (at_builtin; refine wp_app rfl _ _ rfl w1.heap.size _ _ [1] (signL n) rfl ((lit1 w1 1).below hb2) g 6 c rfl HL.out ho 7 (by rw [HL.out]; simp; try omega) (by omega) (by omega) (by have := hb2.size; simp at this; omega) ?_; intro g' c' w3 ho3 hb3))
  exact HQ.out _ _ (by rw [HR.out]; exact ho3.mono (up1 hb1).size) ((up1 hb1).trans (((up1 hb2).trans hb3).mono (up1 hb1).size))
set_option maxHeartbeats 1000000 in
theorem rput_any132 (n : Int) (s : ByteArray) (w : World) (hs : s.size ≤ 1000000) (hc0 : chkE 2 n s.data.toList = 0) :
    Calls Tryd.prog 28 #[vv 2 n s] w (PutPost 2 n s w) := by
  have CC := fun w' => rchk_any 2 n s w' (by decide) (by decide) hs
  have HQ : Hid (∀ v w', Own w' w.heap.size v (2 :: rstL 2 n s) → Below w.heap.size w w' → PutPost 2 n s w (.returned (.tuple #[v, .int .i64 0])) w') := fun v w' h1 h2 => ⟨v, by rw [hc0], by rw [put_len 2 n s hc0]; exact h1, h2⟩
  obtain ⟨-, hn0, hn1, -, -, hsy⟩ := chk0 hc0
  rw [hc0] at CC
  have hsz := (sym_len (hsy rfl)).2
  rw [lenL] at hsz
  have HR : Hid (rstL 2 n s = textL s) := rfl
  have HL : Hid ((textL s).length = 1 + s.size) := by show _ = _; unfold textL; rw [if_neg (by omega), List.length_cons, bytesOf_length]; omega
  have CR := fun w' => rtext_any s w'
  have e0 : textE s = 0 := by unfold textE; rw [if_neg (by omega)]
  rw [e0] at CR
  clear e0
  generalize PutPost 2 n s w = Post at *
  clear hc0 hsy
  unfold vv at CC ⊢
  go_enter Tryd.func28, Tryd.ntmps28
  go_wp2_with (first | (go_at_call 40; refine (CC _).mono ?_; rintro e w1 ⟨rfl, hb1⟩; clear CC; obtain ⟨hc, hf⟩ := bcell hb1; have hz : w.heap.size < w1.heap.size := by { have := hb1.size; simp at this; omega }) | (go_at_call 42; refine (CR _).mono ?_; rintro e w2 ⟨v, rfl, ho, hb2⟩; clear CR; obtain ⟨hc2, hf2⟩ := bcell hb2; have hz2 : w.heap.size < w2.heap.size := by { have := hb2.size; simp at this; omega }; obtain ⟨g, c, rfl, _, _, _⟩ := ho.shape (1 + s.size) HL.out (by omega)) | (at_builtin; refine wp_app rfl _ _ rfl w1.heap.size _ _ [2] (textL s) rfl ((lit1 w1 2).below hb2) g (1 + s.size) c rfl HL.out ho (2 + s.size) (by rw [HL.out]; simp; try omega) (by omega) (by omega) (by have := hb2.size; simp at this; omega) ?_; intro g' c' w3 ho3 hb3))
  exact HQ.out _ _ (by rw [HR.out]; exact ho3.mono (up1 hb1).size) ((up1 hb1).trans (((up1 hb2).trans hb3).mono (up1 hb1).size))
set_option maxHeartbeats 1000000 in
theorem rput_any13 (k n : Int) (s : ByteArray) (w : World) (h0 : 0 ≤ k) (h255 : k ≤ 255) (hs : s.size ≤ 1000000) :
    Calls Tryd.prog 28 #[vv k n s] w (PutPost k n s w) := by
  by_cases hc0 : chkE k n s.data.toList = 0
  · obtain ⟨hk2, _⟩ := chk0 hc0
    obtain h | h | h : k = 0 ∨ k = 1 ∨ k = 2 := by omega
    · subst h; exact rput_any130 n s w hs hc0
    · subst h; exact rput_any131 n s w hs hc0
    · subst h; exact rput_any132 n s w hs hc0
  · have CC := fun w' => rchk_any k n s w' h0 h255 hs
    have HQ : Hid (∀ w', Below w.heap.size w w' → PutPost k n s w (.returned (.tuple #[.slice none 0 0, .int .i64 (chkE k n s.data.toList)])) w') := fun w' h => ⟨_, rfl, by unfold putL13; rw [if_pos hc0]; exact Own.nil _ _, h⟩
    have hne : ((chkE k n s.data.toList : Int) != 0) = true := by rw [bne_iff_ne]; exact hc0
    generalize PutPost k n s w = Post at *
    unfold vv at CC ⊢
    generalize chkE k n s.data.toList = ce at *
    clear hc0
    go_enter Tryd.func28, Tryd.ntmps28
    go_wp2_with (go_at_call 40; refine (CC _).mono ?_; rintro e w1 ⟨rfl, hb1⟩; clear CC; obtain ⟨hc, hf⟩ := bcell hb1; have hz : w.heap.size < w1.heap.size := by { have := hb1.size; simp at this; omega })
    exact HQ.out _ (up1 hb1)
end Go.Proofs.YtpmhilaochfpaaaDoor
