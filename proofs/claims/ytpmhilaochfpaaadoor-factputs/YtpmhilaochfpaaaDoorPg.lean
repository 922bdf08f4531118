import Derived.Test.YtpmhilaochfpaaaDoorFa
import Derived.Test.YtpmhilaochfpaaaDoorSb
import Derived.Test.YtpmhilaochfpaaaDoorLf
import Derived.Test.YtpmhilaochfpaaaDoorSa
import Derived.Deep.RegionHeld3
namespace Go.Proofs.YtpmhilaochfpaaaDoor
set_option maxRecDepth 20000
set_option maxRecDepth 20000
open Go.RowKit
set_option linter.unusedVariables false
set_option linter.unusedSimpArgs false
set_option maxRecDepth 20000
variable {P Q : Nat → Nat → Prop} {w : World}
theorem nodup_iff : ∀ (l zs : List Str), nodup zs l = true ↔ ∀ j, j < l.length → l.getD j [] ∉ zs ++ l.take j
  | [], zs => by simp [nodup]
  | s :: l, zs => by
    have ih := nodup_iff l (zs ++ [s])
    unfold nodup
    rw [Bool.and_eq_true, decide_eq_true_eq, ih]
    constructor
    · rintro ⟨h1, h2⟩ j hj
      cases j with
      | zero => simpa using h1
      | succ j => have := h2 j (by simpa using hj); simpa using this
    · intro h
      exact ⟨by simpa using h 0 (by simp), fun j hj => by have := h (j + 1) (by simpa using hj); simpa using this⟩
theorem allN_iff (zs l : List Str) : ∀ k, allN zs l k = true ↔ ∀ j, j < k → l.getD j [] ∉ zs ++ l.take j
  | 0 => by simp [allN]
  | k + 1 => by
    have ih := allN_iff zs l k
    unfold allN
    rw [Bool.and_eq_true, decide_eq_true_eq, ih, foldZ_mem, ← List.mem_append]
    constructor
    · rintro ⟨h1, h2⟩ j hj
      rcases Nat.lt_or_eq_of_le (Nat.le_of_lt_succ hj) with hj | rfl
      · exact h2 j hj
      · exact h1
    · intro h
      exact ⟨h k (Nat.lt_succ_self _), fun j hj => h j (Nat.lt_succ_of_lt hj)⟩
theorem allN_nodup (l : List Str) : allN [] l l.length = nodup [] l := by
  rw [Bool.eq_iff_iff, allN_iff, nodup_iff]
theorem clsS_bad {met : List Str} {c : ClassD} {e : Int} (h : clsS met c = .error e) : e = 7 := by
  unfold clsS at h; split at h
  · injection h with h; exact h.symm
  · cases h
end Go.Proofs.YtpmhilaochfpaaaDoor
