/- The document's words and numbers, and the program's numbers: contracts of single calls. -/
import Derived.Test.YtpmhilaochfpaaaDoorWd
import Derived.Test.YtpmhilaochfpaaaDoorNb
import Derived.Lib.ValidAsc
namespace Go.Proofs.YtpmhilaochfpaaaDoor
set_option maxRecDepth 20000
set_option maxRecDepth 20000
set_option maxRecDepth 20000
set_option maxRecDepth 20000
set_option maxRecDepth 20000
open Go.RowKit
set_option linter.unusedVariables false
set_option linter.unusedSimpArgs false
set_option maxRecDepth 20000

set_option maxHeartbeats 1000000 in
theorem inw_any (c : Nat) (w : World) : Calls Tryd.prog 61 #[.int .i64 c] w fun e w' => e = .returned (.bool (stands c)) ∧ w' = w := by
  by_cases hA : 128 ≤ c ∨ (97 ≤ c ∧ c ≤ 122) ∨ (65 ≤ c ∧ c ≤ 90) ∨ (48 ≤ c ∧ c ≤ 57)
  · have HS : Hid (stands c = true) := by unfold stands; exact decide_eq_true (by omega)
    generalize stands c = st at *
    go_enter Tryd.func61, Tryd.ntmps61
    go_wp2
    all_goals first | (go_ret; exact ⟨ret_bool HS.out.symm, rfl⟩) | (exfalso; omega)
  · have HS : Hid (stands c = decide (c = 95 ∨ c = 45 ∨ c = 63 ∨ c = 33 ∨ c = 43 ∨ c = 42 ∨ c = 46)) := by unfold stands; rw [decide_eq_decide]; constructor <;> intro h <;> omega
    generalize stands c = st at *
    --LOOP
    have hB : (c : Int) < 48 ∨ ((57 : Int) < c ∧ (c : Int) < 65) ∨ ((90 : Int) < c ∧ (c : Int) < 97) ∨ ((122 : Int) < c ∧ (c : Int) < 128) := by omega
    clear hA
    rcases hB with a1 | ⟨a1, a2⟩ | ⟨a1, a2⟩ | ⟨a1, a2⟩
    all_goals
     go_enter Tryd.func61, Tryd.ntmps61
     go_wp2
     go_loop [4] (fun i => (i = .int .i64 0) ∨ (i = .int .i64 1 ∧ ¬ c = 95) ∨ (i = .int .i64 2 ∧ ¬ c = 95 ∧ ¬ c = 45) ∨ (i = .int .i64 3 ∧ ¬ c = 95 ∧ ¬ c = 45 ∧ ¬ c = 63) ∨ (i = .int .i64 4 ∧ ¬ c = 95 ∧ ¬ c = 45 ∧ ¬ c = 63 ∧ ¬ c = 33) ∨ (i = .int .i64 5 ∧ ¬ c = 95 ∧ ¬ c = 45 ∧ ¬ c = 63 ∧ ¬ c = 33 ∧ ¬ c = 43) ∨ (i = .int .i64 6 ∧ ¬ c = 95 ∧ ¬ c = 45 ∧ ¬ c = 63 ∧ ¬ c = 33 ∧ ¬ c = 43 ∧ ¬ c = 42) ∨ (i = .int .i64 7 ∧ ¬ c = 95 ∧ ¬ c = 45 ∧ ¬ c = 63 ∧ ¬ c = 33 ∧ ¬ c = 43 ∧ ¬ c = 42 ∧ ¬ c = 46)) (fun i => (7 - intOf i).toNat)
     case atStart => exact .inl rfl
     case round =>
      rcases hrel with rfl | ⟨rfl, p0⟩ | ⟨rfl, p0, p1⟩ | ⟨rfl, p0, p1, p2⟩ | ⟨rfl, p0, p1, p2, p3⟩ | ⟨rfl, p0, p1, p2, p3, p4⟩ | ⟨rfl, p0, p1, p2, p3, p4, p5⟩ | ⟨rfl, p0, p1, p2, p3, p4, p5, p6⟩
      · have t0 : ({ data := #[95, 45, 63, 33, 43, 42, 46] } : ByteArray)[0]'(by decide) = 95 := rfl
        by_cases hc : c = 95
        · have hc' : ((95 : Int) == (c : Int)) = true := by subst hc; rfl
          have HT : Hid (c = 95) := hc
          clear hc
          go_wp2
          go_ret
          exact ⟨ret_bool (by rw [HS.out]; exact (decide_eq_true (by have := HT.out; omega)).symm), rfl⟩
        · have hc' : ((95 : Int) == (c : Int)) = false := by rw [beq_eq_false_iff_ne]; omega
          go_wp2
          go_round
          case rel => exact .inr (.inl ⟨rfl, by omega⟩)
          case measure => simp [intOf]
      · have t0 : ({ data := #[95, 45, 63, 33, 43, 42, 46] } : ByteArray)[1]'(by decide) = 45 := rfl
        by_cases hc : c = 45
        · have hc' : ((45 : Int) == (c : Int)) = true := by subst hc; rfl
          have HT : Hid (c = 45) := hc
          clear hc
          go_wp2
          go_ret
          exact ⟨ret_bool (by rw [HS.out]; exact (decide_eq_true (by have := HT.out; omega)).symm), rfl⟩
        · have hc' : ((45 : Int) == (c : Int)) = false := by rw [beq_eq_false_iff_ne]; omega
          go_wp2
          go_round
          case rel => exact .inr (.inr (.inl ⟨rfl, p0, by omega⟩))
          case measure => simp [intOf]
      · have t0 : ({ data := #[95, 45, 63, 33, 43, 42, 46] } : ByteArray)[2]'(by decide) = 63 := rfl
        by_cases hc : c = 63
        · have hc' : ((63 : Int) == (c : Int)) = true := by subst hc; rfl
          have HT : Hid (c = 63) := hc
          clear hc
          go_wp2
          go_ret
          exact ⟨ret_bool (by rw [HS.out]; exact (decide_eq_true (by have := HT.out; omega)).symm), rfl⟩
        · have hc' : ((63 : Int) == (c : Int)) = false := by rw [beq_eq_false_iff_ne]; omega
          go_wp2
          go_round
          case rel => exact .inr (.inr (.inr (.inl ⟨rfl, p0, p1, by omega⟩)))
          case measure => simp [intOf]
      · have t0 : ({ data := #[95, 45, 63, 33, 43, 42, 46] } : ByteArray)[3]'(by decide) = 33 := rfl
        by_cases hc : c = 33
        · have hc' : ((33 : Int) == (c : Int)) = true := by subst hc; rfl
          have HT : Hid (c = 33) := hc
          clear hc
          go_wp2
          go_ret
          exact ⟨ret_bool (by rw [HS.out]; exact (decide_eq_true (by have := HT.out; omega)).symm), rfl⟩
        · have hc' : ((33 : Int) == (c : Int)) = false := by rw [beq_eq_false_iff_ne]; omega
          go_wp2
          go_round
          case rel => exact .inr (.inr (.inr (.inr (.inl ⟨rfl, p0, p1, p2, by omega⟩))))
          case measure => simp [intOf]
      · have t0 : ({ data := #[95, 45, 63, 33, 43, 42, 46] } : ByteArray)[4]'(by decide) = 43 := rfl
        by_cases hc : c = 43
        · have hc' : ((43 : Int) == (c : Int)) = true := by subst hc; rfl
          have HT : Hid (c = 43) := hc
          clear hc
          go_wp2
          go_ret
          exact ⟨ret_bool (by rw [HS.out]; exact (decide_eq_true (by have := HT.out; omega)).symm), rfl⟩
        · have hc' : ((43 : Int) == (c : Int)) = false := by rw [beq_eq_false_iff_ne]; omega
          go_wp2
          go_round
          case rel => exact .inr (.inr (.inr (.inr (.inr (.inl ⟨rfl, p0, p1, p2, p3, by omega⟩)))))
          case measure => simp [intOf]
      · have t0 : ({ data := #[95, 45, 63, 33, 43, 42, 46] } : ByteArray)[5]'(by decide) = 42 := rfl
        by_cases hc : c = 42
        · have hc' : ((42 : Int) == (c : Int)) = true := by subst hc; rfl
          have HT : Hid (c = 42) := hc
          clear hc
          go_wp2
          go_ret
          exact ⟨ret_bool (by rw [HS.out]; exact (decide_eq_true (by have := HT.out; omega)).symm), rfl⟩
        · have hc' : ((42 : Int) == (c : Int)) = false := by rw [beq_eq_false_iff_ne]; omega
          go_wp2
          go_round
          case rel => exact .inr (.inr (.inr (.inr (.inr (.inr (.inl ⟨rfl, p0, p1, p2, p3, p4, by omega⟩))))))
          case measure => simp [intOf]
      · have t0 : ({ data := #[95, 45, 63, 33, 43, 42, 46] } : ByteArray)[6]'(by decide) = 46 := rfl
        by_cases hc : c = 46
        · have hc' : ((46 : Int) == (c : Int)) = true := by subst hc; rfl
          have HT : Hid (c = 46) := hc
          clear hc
          go_wp2
          go_ret
          exact ⟨ret_bool (by rw [HS.out]; exact (decide_eq_true (by have := HT.out; omega)).symm), rfl⟩
        · have hc' : ((46 : Int) == (c : Int)) = false := by rw [beq_eq_false_iff_ne]; omega
          go_wp2
          go_round
          case rel => exact .inr (.inr (.inr (.inr (.inr (.inr (.inr (⟨rfl, p0, p1, p2, p3, p4, p5, by omega⟩)))))))
          case measure => simp [intOf]
      · go_wp2
        go_ret
        exact ⟨ret_bool (by rw [HS.out]; exact (decide_eq_false (by omega)).symm), rfl⟩
end Go.Proofs.YtpmhilaochfpaaaDoor
