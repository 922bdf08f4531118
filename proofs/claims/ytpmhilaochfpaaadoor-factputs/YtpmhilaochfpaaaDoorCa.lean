/- Tags; values cloned, compared; sets looked through: contracts of single calls. -/
import Derived.Test.YtpmhilaochfpaaaDoorCp
import Derived.Test.YtpmhilaochfpaaaDoorOn
import Derived.Test.YtpmhilaochfpaaaDoorFi
namespace Go.Proofs.YtpmhilaochfpaaaDoor
set_option maxRecDepth 20000
set_option maxRecDepth 20000
open Go.RowKit
set_option linter.unusedVariables false
set_option linter.unusedSimpArgs false

theorem info42 : (Tryd.prog.info? 52).map (fun i => (i.zero, i.size, i.bytes)) = some (some (.agg #[.int .u8 0, .int .i64 0, .string ⟨#[]⟩]), 3, 32) := by kernel_rfl
theorem clV_len {xs : List VD} : ∀ c ∈ xs.map clV, c.length = 3 := fun c hc => by obtain ⟨x, _, rfl⟩ := List.mem_map.1 hc; rfl
theorem clV_one {xs : List VD} : ∀ c ∈ xs.map clV, ∀ u ∈ c, u.oneCell' = true := fun c hc u hu => by
  obtain ⟨x, _, rfl⟩ := List.mem_map.1 hc
  simp only [clV, List.mem_cons, List.not_mem_nil, or_false] at hu
  rcases hu with rfl | rfl | rfl <;> rfl
/-- Values of one's own. -/
abbrev OwnV (w : World) (base : Nat) (v : Value) (xs : List VD) : Prop := OwnN 52 3 w base v (xs.map clV)
theorem istag_any (t : Int) (w : World) : Calls Tryd.prog 46 #[.int .i64 t] w fun e w' => e = .returned (.bool (tagB t)) ∧ Below w.heap.size w w' := by
  by_cases h : 1 ≤ t ∧ t ≤ 1099511627776
  · have e : Hid (tagB t = true) := decide_eq_true h
    obtain ⟨h1, h2⟩ := h
    go_enter Tryd.func46, Tryd.ntmps46
    go_wp2
    go_ret
    exact ⟨by rw [e.out]; rfl, Below.refl _ _⟩
  · have e : Hid (tagB t = false) := decide_eq_false h
    by_cases h1 : 1 ≤ t
    · have h2 : ¬ t ≤ 1099511627776 := fun h2 => h ⟨h1, h2⟩
      clear h
      go_enter Tryd.func46, Tryd.ntmps46
      go_wp2
      go_ret
      exact ⟨by rw [e.out]; rfl, Below.refl _ _⟩
    · clear h
      go_enter Tryd.func46, Tryd.ntmps46
      go_wp2
      go_ret
      exact ⟨by rw [e.out]; rfl, Below.refl _ _⟩
end Go.Proofs.YtpmhilaochfpaaaDoor
