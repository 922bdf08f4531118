/- What is asked of a pair: the closures' contracts. -/
import Derived.Test.YtnnndkpmlpbpcaaOwn
import Derived.Test.YtnnndkpmlpbpcaaMix
import Derived.Deep.QuietTactic
import Derived.BigQuiet
namespace Go.Proofs.Ytnnndkpmlpbpcaa
open Go.RowKit
set_option linter.unusedVariables false
set_option maxRecDepth 20000
def Boxed (w : World) (B : Nat) (p : PR) : Prop := w.cell? ⟨B, 0, none⟩ = some (.string p.1) ∧ w.cell? ⟨B, 1, none⟩ = some (.string p.2) ∧ B < w.heap.size
theorem Boxed.below {w w' : World} {B : Nat} {p : PR} (h : Boxed w B p) (hb : Below w.heap.size w w') : Boxed w' B p := ⟨(hb.cell (p := ⟨B, 0, none⟩) h.2.2).trans h.1, (hb.cell (p := ⟨B, 1, none⟩) h.2.2).trans h.2.1, Nat.lt_of_lt_of_le h.2.2 hb.size⟩
theorem asks43 (w : World) : Asks w 43 #[] longP := ⟨fun _ _ => rfl, fun w' _ p _ => long_any p w'⟩
theorem enters53 (args : Array Value) (w' : World) : Sem.run Try.prog (callFunc 53 args) w' = .ok (.enter 53 args) w' := rfl
theorem enters51 (args : Array Value) (w' : World) : Sem.run Try.prog (callFunc 51 args) w' = .ok (.enter 51 args) w' := rfl
theorem enters52 (args : Array Value) (w' : World) : Sem.run Try.prog (callFunc 52 args) w' = .ok (.enter 52 args) w' := rfl
theorem enters48 (args : Array Value) (w' : World) : Sem.run Try.prog (callFunc 48 args) w' = .ok (.enter 48 args) w' := rfl
theorem enters65 (args : Array Value) (w' : World) : Sem.run Try.prog (callFunc 65 args) w' = .ok (.enter 65 args) w' := rfl
def eqP (q p : PR) : Bool := decide (q.1.toList = p.1.toList) && decide (q.2.toList = p.2.toList)
theorem eqP_iff (q p : PR) : eqP q p = decide (q = p) := by
  unfold eqP
  rw [Bool.eq_iff_iff]
  simp only [Bool.and_eq_true, decide_eq_true_eq, ByteArray.toList_eq]
  constructor
  · rintro ⟨h1, h2⟩
    exact Prod.ext (ByteArray.ext (Array.toList_inj.1 h1)) (ByteArray.ext (Array.toList_inj.1 h2))
  · rintro rfl; exact ⟨rfl, rfl⟩
set_option maxHeartbeats 400000 in
theorem has1 (B : Nat) (p q : PR) (w : World) (h : Boxed w B p) : Calls Try.prog 53 #[pv q, .pointer (some ⟨B, 0, none⟩)] w fun e w' => e = .returned (.bool (eqP q p)) ∧ Below w.heap.size w w' := by
  obtain ⟨k1, v1⟩ := p
  obtain ⟨k2, v2⟩ := q
  obtain ⟨h0, h1, hB⟩ := h.below (one_block w (.cells #[.string k2, .string v2] 45))
  simp only at h0 h1
  unfold pv eqP
  clear h
  go_enter Try.func53, Try.ntmps53
  go_wp2
  all_goals go_ret
  all_goals refine ⟨?_, one_block _ _⟩
  all_goals simp_all
set_option maxHeartbeats 400000 in
theorem rem1 (B : Nat) (p q : PR) (w : World) (h : Boxed w B p) : Calls Try.prog 51 #[pv q, .pointer (some ⟨B, 0, none⟩)] w fun e w' => e = .returned (.bool (!eqP q p)) ∧ Below w.heap.size w w' := by
  obtain ⟨k1, v1⟩ := p
  obtain ⟨k2, v2⟩ := q
  obtain ⟨h0, h1, hB⟩ := h.below (one_block w (.cells #[.string k2, .string v2] 45))
  simp only at h0 h1
  unfold pv eqP
  clear h
  go_enter Try.func51, Try.ntmps51
  go_wp2
  all_goals go_ret
  all_goals refine ⟨?_, one_block _ _⟩
  all_goals simp_all
set_option maxHeartbeats 400000 in
theorem add1 (B : Nat) (p q : PR) (w : World) (h : Boxed w B p) : Calls Try.prog 48 #[pv q, .pointer (some ⟨B, 0, none⟩)] w fun e w' => e = .returned (.bool (lessP p q)) ∧ Below w.heap.size w w' := by
  obtain ⟨k1, v1⟩ := p
  obtain ⟨k2, v2⟩ := q
  obtain ⟨h0, h1, hB⟩ := h.below (one_block w (.cells #[.string k2, .string v2] 45))
  simp only at h0 h1
  have HA := less_any (k1, v1) (k2, v2) (w.alloc (.cells #[.string k2, .string v2] 45))
  generalize lessP (k1, v1) (k2, v2) = r at *
  unfold pv at *
  simp only at HA
  clear h
  go_enter Try.func48, Try.ntmps48
  go_wp2_with (go_at_call 30; refine HA.mono ?_; rintro e w1 ⟨rfl, hb1⟩)
  go_ret
  exact ⟨rfl, bt (one_block _ _) hb1⟩
def keyB (k : ByteArray) (q : PR) : Bool := decide (q.1.toList = k.toList)
set_option maxHeartbeats 400000 in
theorem vals1 (B : Nat) (k : ByteArray) (q : PR) (w : World) (h : w.cell? ⟨B, 0, none⟩ = some (.string k)) (hB : B < w.heap.size) : Calls Try.prog 52 #[pv q, .pointer (some ⟨B, 0, none⟩)] w fun e w' => e = .returned (.bool (keyB k q)) ∧ Below w.heap.size w w' := by
  obtain ⟨k2, v2⟩ := q
  have h0 := ((one_block w (.cells #[.string k2, .string v2] 45)).cell (p := ⟨B, 0, none⟩) hB).trans h
  unfold pv keyB
  clear h
  go_enter Try.func52, Try.ntmps52
  go_wp2
  go_ret
  refine ⟨?_, one_block _ _⟩
  simp only [Ending.returned.injEq]
  rw [← show (k2.toList == k.toList) = decide (k2.toList = k.toList) from by by_cases e : k2.toList = k.toList <;> simp [e]]
  rfl
def bitB (bit at_ : Int) (q : PR) : Bool := decide (((M.bitS (M.ofS q.1) at_ : Nat) : Int) = bit)
set_option maxHeartbeats 800000 in
theorem bit1c (B C : Nat) (bit at_ : Int) (q : PR) (w : World) (hq : Lp q) (ha : -9223372036854775808 ≤ at_) (ha2 : at_ ≤ 9223372036854775807) (hB0 : w.cell? ⟨B, 0, none⟩ = some (.int .i64 at_)) (hC0 : w.cell? ⟨C, 0, none⟩ = some (.int .i64 bit)) (hB : B < w.heap.size) (hC : C < w.heap.size) :
    Calls Try.prog 65 #[pv q, .pointer (some ⟨B, 0, none⟩), .pointer (some ⟨C, 0, none⟩)] w fun e w' => e = .returned (.bool (bitB bit at_ q)) ∧ Below w.heap.size w w' := by
  obtain ⟨k2, v2⟩ := q
  have h0 := ((one_block w (.cells #[.string k2, .string v2] 45)).cell (p := ⟨B, 0, none⟩) hB).trans hB0
  have h1 := ((one_block w (.cells #[.string k2, .string v2] 45)).cell (p := ⟨C, 0, none⟩) hC).trans hC0
  have HS : k2.size ≤ maxLen := by unfold maxLen; have := hq.1; simp only at this; omega
  have HO := fun W => M.of_any k2 W HS
  have HLT : M.ofS k2 < 4294967296 := M.fin_lt _
  have HBt := fun W => M.bit_any (M.ofS k2) at_ W HLT ha ha2
  unfold pv bitB
  simp only
  generalize hx : M.bitS (M.ofS k2) at_ = x at *
  generalize M.ofS k2 = y at *
  clear hB0 hC0 HS hx hq ha ha2
  go_enter Try.func65, Try.ntmps65
  go_wp2_with fail
  go_quiet (first | (go_at_call 67; exact Calls.quiet_of_same (HO _)) | (go_at_call 66; exact Calls.quiet_of_same (HBt _)))
  go_wp2
  go_ret
  refine ⟨?_, below_drewN (one_block _ _) _⟩
  simp only [Ending.returned.injEq]
  rw [← show ((x : Int) == bit) = decide ((x : Int) = bit) from by by_cases e : (x : Int) = bit <;> simp [e]]
  rfl
theorem asks53 {w : World} {B : Nat} {p : PR} (h : Boxed w B p) : Asks w 53 #[.pointer (some ⟨B, 0, none⟩)] (fun q => eqP q p) := ⟨enters53, fun w' hb q _ => has1 B p q w' (h.below hb)⟩
theorem asks51 {w : World} {B : Nat} {p : PR} (h : Boxed w B p) : Asks w 51 #[.pointer (some ⟨B, 0, none⟩)] (fun q => !eqP q p) := ⟨enters51, fun w' hb q _ => rem1 B p q w' (h.below hb)⟩
theorem asks48 {w : World} {B : Nat} {p : PR} (h : Boxed w B p) : Asks w 48 #[.pointer (some ⟨B, 0, none⟩)] (fun q => lessP p q) := ⟨enters48, fun w' hb q _ => add1 B p q w' (h.below hb)⟩
theorem asks52 {w : World} {B : Nat} {k : ByteArray} (h : w.cell? ⟨B, 0, none⟩ = some (.string k)) (hB : B < w.heap.size) : Asks w 52 #[.pointer (some ⟨B, 0, none⟩)] (keyB k) := ⟨enters52, fun w' hb q _ => vals1 B k q w' ((hb.cell (p := ⟨B, 0, none⟩) hB).trans h) (Nat.lt_of_lt_of_le hB hb.size)⟩
theorem asks65 {w : World} {B C : Nat} {bit at_ : Int} (ha : -9223372036854775808 ≤ at_) (ha2 : at_ ≤ 9223372036854775807) (hB0 : w.cell? ⟨B, 0, none⟩ = some (.int .i64 at_)) (hC0 : w.cell? ⟨C, 0, none⟩ = some (.int .i64 bit)) (hB : B < w.heap.size) (hC : C < w.heap.size) :
    Asks w 65 #[.pointer (some ⟨B, 0, none⟩), .pointer (some ⟨C, 0, none⟩)] (bitB bit at_) := ⟨enters65, fun w' hb q hq => bit1c B C bit at_ q w' hq ha ha2 ((hb.cell (p := ⟨B, 0, none⟩) hB).trans hB0) ((hb.cell (p := ⟨C, 0, none⟩) hC).trans hC0) (Nat.lt_of_lt_of_le hB hb.size) (Nat.lt_of_lt_of_le hC hb.size)⟩
end Go.Proofs.Ytnnndkpmlpbpcaa
