/- Both Texts: contracts of single calls. -/
import Derived.Test.YtpmhilaochfpaaaDoorPs
namespace Go.Proofs.YtpmhilaochfpaaaDoor
set_option maxRecDepth 20000
set_option maxRecDepth 20000
set_option maxRecDepth 20000
set_option maxRecDepth 20000
set_option maxRecDepth 20000
open Go.RowKit
set_option linter.unusedVariables false
set_option linter.unusedSimpArgs false
set_option maxRecDepth 20000

def nilS : ByteArray := ⟨#[110, 105, 108]⟩
/-- What Text tells. -/
def txtS (k n : Int) (s : ByteArray) : ByteArray := if chkE k n s.data.toList ≠ 0 then nilS else if k = 1 then ⟨(Lib.itoa n).toArray⟩ else if k = 2 then s else nilS
theorem chk0 {k n : Int} {l : List UInt8} (h : chkE k n l = 0) : k ≤ 2 ∧ -1099511627776 ≤ n ∧ n ≤ 1099511627776 ∧ (k ≠ 1 → n = 0) ∧ (k ≠ 2 → l = []) ∧ (k = 2 → symB l = true) := by
  unfold chkE at h
  split at h
  · cases h
  · split at h
    · cases h
    · rename_i h1 h2
      split at h
      · cases h
      · rename_i h3
        simp only [Bool.not_eq_false, inB, decide_eq_true_eq] at h3
        split at h
        · cases h
        · rename_i h4
          refine ⟨by omega, h3.1, h3.2, fun hk => ?_, fun hk => ?_, fun hk => ?_⟩
          · by_cases hn : n = 0
            · exact hn
            · exact absurd (.inl ⟨hn, hk⟩) h2
          · by_cases hl : l = []
            · exact hl
            · exact absurd (.inr ⟨hl, hk⟩) h2
          · by_cases hs : symB l = true
            · exact hs
            · exact absurd ⟨hk, by simpa using hs⟩ h4
end Go.Proofs.YtpmhilaochfpaaaDoor
