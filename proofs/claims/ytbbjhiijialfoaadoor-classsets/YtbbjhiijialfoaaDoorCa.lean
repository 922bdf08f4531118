/- Tags; values cloned, compared; sets looked through: contracts of single calls. -/
import Derived.Test.YtbbjhiijialfoaaDoorCp
import Derived.Test.YtbbjhiijialfoaaDoorOn
import Derived.Test.YtbbjhiijialfoaaDoorFi
namespace Go.Proofs.YtbbjhiijialfoaaDoor
set_option maxRecDepth 20000
open Go.RowKit
set_option linter.unusedVariables false
set_option linter.unusedSimpArgs false

theorem info42 : (Tryd.prog.info? 42).map (fun i => (i.zero, i.size, i.bytes)) = some (some (.agg #[.int .u8 0, .int .i64 0, .string ⟨#[]⟩]), 3, 32) := by kernel_rfl
theorem clV_len {xs : List VD} : ∀ c ∈ xs.map clV, c.length = 3 := fun c hc => by obtain ⟨x, _, rfl⟩ := List.mem_map.1 hc; rfl
theorem clV_one {xs : List VD} : ∀ c ∈ xs.map clV, ∀ u ∈ c, u.oneCell' = true := fun c hc u hu => by
  obtain ⟨x, _, rfl⟩ := List.mem_map.1 hc
  simp only [clV, List.mem_cons, List.not_mem_nil, or_false] at hu
  rcases hu with rfl | rfl | rfl <;> rfl
/-- Values of one's own. -/
abbrev OwnV (w : World) (base : Nat) (v : Value) (xs : List VD) : Prop := OwnN 42 3 w base v (xs.map clV)
theorem istag_any (t : Int) (w : World) : Calls Tryd.prog 26 #[.int .i64 t] w fun e w' => e = .returned (.bool (tagB t)) ∧ Below w.heap.size w w' := by
  by_cases h : 1 ≤ t ∧ t ≤ 1099511627776
  · have e : Hid (tagB t = true) := decide_eq_true h
    obtain ⟨h1, h2⟩ := h
    go_enter Tryd.func26, Tryd.ntmps26
    go_wp2
    go_ret
    exact ⟨by rw [e.out]; rfl, Below.refl _ _⟩
  · have e : Hid (tagB t = false) := decide_eq_false h
    by_cases h1 : 1 ≤ t
    · have h2 : ¬ t ≤ 1099511627776 := fun h2 => h ⟨h1, h2⟩
      clear h
      go_enter Tryd.func26, Tryd.ntmps26
      go_wp2
      go_ret
      exact ⟨by rw [e.out]; rfl, Below.refl _ _⟩
    · clear h
      go_enter Tryd.func26, Tryd.ntmps26
      go_wp2
      go_ret
      exact ⟨by rw [e.out]; rfl, Below.refl _ _⟩
set_option maxHeartbeats 1600000 in
theorem vclone_any {P : Nat → Prop} (v : Value) (xs : List VD) (w : World) (h : SlW 3 w P v (xs.map clV)) (hl : xs.length ≤ 100000) :
    Calls Tryd.prog 27 #[v] w fun e w' => ∃ v', e = .returned v' ∧ OwnV w' w.heap.size v' xs ∧ Below w.heap.size w w' := by
  have HV : Hid (SlW 3 w P v (xs.map clV)) := h
  obtain ⟨a, cap, rfl⟩ := h.shape
  rw [List.length_map] at *
  clear h
  have heq := fun wx => Lib.run_eql_slice_nil (P := Tryd.prog) wx 23 42 a xs.length cap 0 0 Tryd.underlying23
  cases a with
  | none =>
    have h0 : xs = [] := by
      obtain ⟨a', cap', h1, h2, h3, h4⟩ := HV.out
      rcases h4 with h4 | ⟨b, off, e, _⟩
      · exact List.map_eq_nil_iff.1 h4
      · obtain ⟨rfl, -, -⟩ := Value.slice.inj h1; cases e
    subst h0
    simp only [List.length_nil] at heq
    go_enter Tryd.func27, Tryd.ntmps27
    go_wp2
    go_ret
    exact ⟨_, rfl, OwnN.nil _ _ _ _, Below.refl _ _⟩
  | some ad =>
    go_enter Tryd.func27, Tryd.ntmps27
    go_wp2_with (
      (at_builtin; refine wp_app_n Tryd.underlying23 info42 rfl (by decide) (by decide) rfl _ _ rfl w.heap.size _ [] (xs.map clV) rfl (OwnN.fresh 42 3 (Nat.le_refl _)) _ rfl (HV.out.bl (bxn _ _)) clV_len clV_one (by simp; omega) (by simp) ?_; intro v5 w5 o5 g5 b5))
    go_ret
    exact ⟨_, rfl, o5, (bxn _ _).trans b5⟩
end Go.Proofs.YtbbjhiijialfoaaDoor
