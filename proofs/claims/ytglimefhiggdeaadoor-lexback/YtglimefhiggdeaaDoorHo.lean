/- Both Holds, both Signs: contracts of single calls. -/
import Derived.Test.YtglimefhiggdeaaDoorCk
import Derived.Deep.QuietTactic
import Derived.BigQuiet
namespace Go.Proofs.YtglimefhiggdeaaDoor
set_option maxRecDepth 20000
open Go.RowKit
set_option linter.unusedVariables false
set_option linter.unusedSimpArgs false
set_option maxRecDepth 20000

/-- Are two values the same? -/
def sameV (ka na : Int) (sa : ByteArray) (kb nb : Int) (sb : ByteArray) : Bool := (ka == kb) && ((na == nb) && (sa.toList == sb.toList))
theorem eqV (ka na : Int) (sa : ByteArray) (kb nb : Int) (sb : ByteArray) (w : World) : (binOp .eql 31 (.agg #[.int .u8 ka, .int .i64 na, .string sa]) (.agg #[.int .u8 kb, .int .i64 nb, .string sb])).run Tryd.prog w = .ok (.bool (sameV ka na sa kb nb sb)) w := by
  unfold sameV
  by_cases h1 : ka = kb
  · by_cases h2 : na = nb
    · by_cases h3 : sa.toList = sb.toList
      · subst h1; subst h2; go_simp
      · subst h1; subst h2; go_simp
    · subst h1; go_simp
  · go_simp
def hldB (p ka na : Int) (sa : ByteArray) (kb nb : Int) (sb : ByteArray) : Bool :=
  if p = 0 then sameV ka na sa kb nb sb else if p = 1 then !sameV ka na sa kb nb sb else
  (ka == 1 && kb == 1) && (if p = 2 then decide (na < nb) else if p = 3 then decide (na ≤ nb) else if p = 4 then decide (nb < na) else if p = 5 then decide (nb ≤ na) else false)
/-- A pred's sign. -/
def sgnS (p : Int) : ByteArray := if p = 0 then ⟨#[61]⟩ else if p = 1 then ⟨#[60, 62]⟩ else if p = 2 then ⟨#[60]⟩ else if p = 3 then ⟨#[60, 61]⟩ else if p = 4 then ⟨#[62]⟩ else if p = 5 then ⟨#[62, 61]⟩ else ⟨#[]⟩
theorem ret_st {a b : ByteArray} (h : a = b) : Ending.returned (.string a) = .returned (.string b) := by rw [h]
set_option maxHeartbeats 1000000 in
theorem sign_any13 (p : Int) (w : World) : Calls Tryd.prog 17 #[.int .u8 p] w fun e w' => e = .returned (.string (sgnS p)) ∧ w' = w := by
  by_cases hp : 6 ≤ p ∨ p < 0
  · have e0 : (p == 0) = false := by rw [beq_eq_false_iff_ne]; omega
    have e1 : (p == 1) = false := by rw [beq_eq_false_iff_ne]; omega
    have e2 : (p == 2) = false := by rw [beq_eq_false_iff_ne]; omega
    have e3 : (p == 3) = false := by rw [beq_eq_false_iff_ne]; omega
    have e4 : (p == 4) = false := by rw [beq_eq_false_iff_ne]; omega
    have e5 : (p == 5) = false := by rw [beq_eq_false_iff_ne]; omega
    have HB : Hid (sgnS p = ⟨#[]⟩) := by show sgnS p = _; unfold sgnS; rw [if_neg (by omega), if_neg (by omega), if_neg (by omega), if_neg (by omega), if_neg (by omega), if_neg (by omega)]
    generalize sgnS p = r at *
    clear hp
    go_enter Tryd.func17, Tryd.ntmps17
    go_wp2
    go_ret
    exact ⟨ret_st HB.out.symm, rfl⟩
  · obtain h | h | h | h | h | h : p = 0 ∨ p = 1 ∨ p = 2 ∨ p = 3 ∨ p = 4 ∨ p = 5 := by omega
    all_goals
      subst h
      go_enter Tryd.func17, Tryd.ntmps17
      go_wp2
      go_ret
      exact ⟨rfl, rfl⟩
set_option maxHeartbeats 1000000 in
theorem rsign_any13 (p : Int) (w : World) : Calls Tryd.prog 20 #[.int .u8 p] w fun e w' => e = .returned (.string (sgnS p)) ∧ w' = w := by
  by_cases hp : 6 ≤ p ∨ p < 0
  · have e0 : (p == 0) = false := by rw [beq_eq_false_iff_ne]; omega
    have e1 : (p == 1) = false := by rw [beq_eq_false_iff_ne]; omega
    have e2 : (p == 2) = false := by rw [beq_eq_false_iff_ne]; omega
    have e3 : (p == 3) = false := by rw [beq_eq_false_iff_ne]; omega
    have e4 : (p == 4) = false := by rw [beq_eq_false_iff_ne]; omega
    have e5 : (p == 5) = false := by rw [beq_eq_false_iff_ne]; omega
    have HB : Hid (sgnS p = ⟨#[]⟩) := by show sgnS p = _; unfold sgnS; rw [if_neg (by omega), if_neg (by omega), if_neg (by omega), if_neg (by omega), if_neg (by omega), if_neg (by omega)]
    generalize sgnS p = r at *
    clear hp
    go_enter Tryd.func20, Tryd.ntmps20
    go_wp2
    go_ret
    exact ⟨ret_st HB.out.symm, rfl⟩
  · obtain h | h | h | h | h | h : p = 0 ∨ p = 1 ∨ p = 2 ∨ p = 3 ∨ p = 4 ∨ p = 5 := by omega
    all_goals
      subst h
      go_enter Tryd.func20, Tryd.ntmps20
      go_wp2
      go_ret
      exact ⟨rfl, rfl⟩
end Go.Proofs.YtglimefhiggdeaaDoor
