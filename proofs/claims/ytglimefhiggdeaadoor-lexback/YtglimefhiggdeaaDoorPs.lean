/- Both Parses, Number, Symbol: contracts of single calls. -/
import Derived.Test.YtglimefhiggdeaaDoorCk
import Derived.Test.YtglimefhiggdeaaDoorTd
namespace Go.Proofs.YtglimefhiggdeaaDoor
set_option maxRecDepth 20000
open Go.RowKit
set_option linter.unusedVariables false
set_option linter.unusedSimpArgs false
set_option maxRecDepth 20000

theorem bcell {W w1 : World} (hb : Below W.heap.size W w1) : (∀ b o, b < W.heap.size → w1.cell? ⟨b, o, none⟩ = W.cell? ⟨b, o, none⟩) ∧ (∀ b o, b < W.heap.size → w1.frozen? ⟨b, o, none⟩ = W.frozen? ⟨b, o, none⟩) :=
  ⟨fun b o h => hb.cell (p := ⟨b, o, none⟩) h, fun b o h => hb.frozen (p := ⟨b, o, none⟩) h⟩
def es : ByteArray := ByteArray.empty
set_option maxHeartbeats 400000 in
theorem number_any (n : Int) (w : World) : Calls Tryd.prog 64 #[.int .i64 n] w fun e w' => e = .returned (vv 1 n ByteArray.empty) ∧ Below w.heap.size w w' := by
  go_enter Tryd.func64, Tryd.ntmps64
  go_wp2
  refine bodyPost_ret (v := vv 1 n ByteArray.empty) (by simp [results, Tryd.results64, go_sem, vv]; rfl) rfl ⟨rfl, ?_⟩
  exact box1 _ _
set_option maxHeartbeats 400000 in
theorem symbol_any (s : ByteArray) (w : World) : Calls Tryd.prog 58 #[.string s] w fun e w' => e = .returned (vv 2 0 s) ∧ Below w.heap.size w w' := by
  go_enter Tryd.func58, Tryd.ntmps58
  go_wp2
  refine bodyPost_ret (v := vv 2 0 s) (by simp [results, Tryd.results58, go_sem, vv]) rfl ⟨rfl, ?_⟩
  exact box1 _ _
theorem set3 {B : Nat} {w w1 : World} (h : Below B w w1) (b : Nat) (hb : B ≤ b) (x y z : Value) : Below B w (((w1.setCell ⟨b, 0, none⟩ x).setCell ⟨b, 1, none⟩ y).setCell ⟨b, 2, none⟩ z) :=
  ((h.setCell hb x).setCell hb y).setCell hb z
theorem up1 {w w1 : World} {o : Obj} (hb : Below (w.alloc o).heap.size (w.alloc o) w1) : Below w.heap.size w w1 := (box1 w o).trans (hb.mono (box1 w o).size)
/-- What Parse tells: the error, and the value. -/
def pzE (l : List UInt8) : Int := if wordB l = false then 6 else if l = nil3 then 0 else if numB l = true ∧ 1099511627776 < decV l then 12 else 0
def pzV (s : ByteArray) : Value :=
  if wordB s.data.toList = false ∨ s.data.toList = nil3 then vv 0 0 ByteArray.empty
  else if numB s.data.toList = true then (if 1099511627776 < decV s.data.toList then vv 0 0 ByteArray.empty else vv 1 (nbV s.data.toList) ByteArray.empty)
  else vv 2 0 s
theorem inB_nb (l : List UInt8) : inB (nbV l) = decide (decV l ≤ 1099511627776) := by
  unfold inB nbV; rw [decide_eq_decide]; split <;> omega
/-- What parseNumber answers of a text that is a number. -/
def pnA (l : List UInt8) : Value := if 1099511627776 < decV l then .tuple #[vv 0 0 ByteArray.empty, .int .i64 12] else .tuple #[vv 1 (nbV l) ByteArray.empty, .int .i64 0]
theorem atoi_ok (s : ByteArray) (v : Int) (w : World) (hs : s.size ≤ 1000000) (h : Lib.atoiAll s.data.toList = .ok v) :
    Calls Tryd.prog 63 #[.string s] w fun e w' => e = .returned (.tuple #[.int .i64 v, .nilIface]) ∧ Below w.heap.size w w' := by
  have C : Calls Tryd.prog 63 #[.string s] w _ := Any.strconv_Atoi_ok Tryd.laysAtoi s (by omega) _ h w
  refine C.mono ?_
  rintro e w' ⟨rfl, hw⟩
  refine ⟨rfl, ?_⟩
  rcases hw with rfl | ⟨t, rfl⟩
  · exact Below.refl _ _
  · exact Lib.bytesWorld_below _ _ _
theorem atoi_rng (s : ByteArray) (w : World) (hs : s.size ≤ 1000000) (hT : Vars w) (h : Lib.atoiAll s.data.toList = .range) :
    Calls Tryd.prog 63 #[.string s] w fun e w' => (∃ x T N, e = .returned (.tuple #[.int .i64 x, .iface T (.pointer (some ⟨N, 0, none⟩))])) ∧ Below w.heap.size w w' := by
  obtain ⟨v, hc, hi⟩ := hT.rng
  have C : Calls Tryd.prog 63 #[.string s] w _ := Any.strconv_Atoi_range Tryd.laysAtoi s (by omega) h v w hc hi
  refine C.mono ?_
  rintro e w' ⟨N, rfl, _, _, hb⟩
  exact ⟨⟨_, _, N, rfl⟩, hb⟩
set_option maxHeartbeats 1000000 in
theorem pnum_any (s : ByteArray) (w : World) (hs : s.size ≤ 1000000) (hV : Vars w) (hn : numB s.data.toList = true) :
    Calls Tryd.prog 57 #[.string s] w fun e w' => e = .returned (pnA s.data.toList) ∧ Below w.heap.size w w' := by
  have HB := inB_nb s.data.toList
  have HP : Hid (pnA s.data.toList = if 1099511627776 < decV s.data.toList then .tuple #[vv 0 0 ByteArray.empty, .int .i64 12] else .tuple #[vv 1 (nbV s.data.toList) ByteArray.empty, .int .i64 0]) := rfl
  rcases atoi_num _ hn with h | ⟨h, hd⟩
  · have CA := fun w' => atoi_ok s _ w' hs h
    have CN := fun w' => number_any (nbV s.data.toList) w'
    generalize pnA s.data.toList = ans at *
    generalize nbV s.data.toList = nb at *
    generalize decV s.data.toList = dv at *
    unfold vv at CN
    clear hn h hV
    by_cases hd : 1099511627776 < dv
    · have hin : inB nb = false := by rw [HB]; exact decide_eq_false (by omega)
      have HP2 : Hid (ans = .tuple #[vv 0 0 ByteArray.empty, .int .i64 12]) := by show ans = _; rw [HP.out, if_pos hd]
      clear HB HP hd
      go_enter Tryd.func57, Tryd.ntmps57
      go_wp2_with (first | (go_at_call 63; refine (CA _).mono ?_; rintro e w1 ⟨rfl, hb1⟩; clear CA; obtain ⟨hc, hf⟩ := bcell hb1; have hz : w.heap.size < w1.heap.size := by { have := hb1.size; simp at this; omega }) | (go_at_call 50; refine (inr_any _ _).mono ?_; rintro e w2 ⟨rfl, hw2⟩; obtain rfl := hw2.symm))
      refine bodyPost_ret (v := .tuple #[vv 0 0 ByteArray.empty, .int .i64 12]) (by simp [results, Tryd.results57, go_sem, vv, hc, hz]; rfl) rfl ⟨by rw [HP2.out], ?_⟩
      exact set3 (up1 hb1) _ (Nat.le_refl _) _ _ _
    · have hin : inB nb = true := by rw [HB]; exact decide_eq_true (by omega)
      have HP2 : Hid (ans = .tuple #[vv 1 nb ByteArray.empty, .int .i64 0]) := by show ans = _; rw [HP.out, if_neg hd]
      clear HB HP hd
      go_enter Tryd.func57, Tryd.ntmps57
      go_wp2_with (first | (go_at_call 63; refine (CA _).mono ?_; rintro e w1 ⟨rfl, hb1⟩; clear CA; obtain ⟨hc, hf⟩ := bcell hb1; have hz : w.heap.size < w1.heap.size := by { have := hb1.size; simp at this; omega }) | (go_at_call 50; refine (inr_any _ _).mono ?_; rintro e w2 ⟨rfl, hw2⟩; obtain rfl := hw2.symm) | (go_at_call 64; refine (CN _).mono ?_; rintro e w3 ⟨rfl, hb3⟩; clear CN; obtain ⟨hc3, hf3⟩ := bcell hb3; have hz3 := hb3.size))
      refine bodyPost_ret (v := .tuple #[vv 1 nb ByteArray.empty, .int .i64 0]) (by simp [results, Tryd.results57, go_sem, vv, hc, hz, hc3, hz3]) rfl ⟨by rw [HP2.out], ?_⟩
      exact set3 ((up1 hb1).trans (hb3.mono (up1 hb1).size)) _ (Nat.le_refl _) _ _ _
  · have CA := fun w' hv => atoi_rng s w' hs hv h
    generalize pnA s.data.toList = ans at *
    generalize nbV s.data.toList = nb at *
    generalize decV s.data.toList = dv at *
    have HP2 : Hid (ans = .tuple #[vv 0 0 ByteArray.empty, .int .i64 12]) := by show ans = _; rw [HP.out, if_pos hd]
    clear hn h HB HP hd
    go_enter Tryd.func57, Tryd.ntmps57
    go_wp2_with (go_at_call 63; refine (CA _ (hV.below (box1 _ _))).mono ?_; rintro e w1 ⟨⟨x, T, N, rfl⟩, hb1⟩; clear CA; obtain ⟨hc, hf⟩ := bcell hb1; have hz : w.heap.size < w1.heap.size := by { have := hb1.size; simp at this; omega })
    refine bodyPost_ret (v := .tuple #[vv 0 0 ByteArray.empty, .int .i64 12]) (by simp [results, Tryd.results57, go_sem, vv, hc, hz]; rfl) rfl ⟨by rw [HP2.out], ?_⟩
    exact set3 (up1 hb1) _ (Nat.le_refl _) _ _ _
end Go.Proofs.YtglimefhiggdeaaDoor
