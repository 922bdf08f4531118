/- Get of a fact: the program's. -/
import Derived.Test.YtpmhilaochfpaaaDoorRdf
import Derived.Test.YtpmhilaochfpaaaDoorPt
namespace Go.Proofs.YtpmhilaochfpaaaDoor
open Go.RowKit
set_option linter.unusedVariables false
set_option linter.unusedSimpArgs false
set_option maxRecDepth 20000

theorem nb_all (s : Str) : AllB (nb s) := by
  intro z hz
  obtain ⟨b, _, rfl⟩ := List.mem_map.1 hz
  have := b.toNat_lt
  omega
theorem gv_fV {zs : List Int} {x : VD} {m : Nat} (ha : AllB zs) (h : gvF zs = some (x, m)) : fV x := by
  unfold gvF at h
  split at h
  · injection h with h
    injection h with h1 h2
    subst h1
    have hk := tkK_b ha
    have hs := tkS_le ha
    refine ⟨hk.1, hk.2, ?_⟩
    show (tkS zs).data.toList.length ≤ 100000
    have : (tkS zs).data.toList.length = (tkS zs).size := by simp
    omega
  · cases h
theorem readN_fV : ∀ {n : Nat} {zs : List Int} {vs : List VD}, AllB zs → readN gvF n zs = some vs → (∀ x ∈ vs, fV x) ∧ vs.length = n
  | 0, zs, vs, _, h => by
    injection h with h; subst h; exact ⟨by simp, rfl⟩
  | n + 1, zs, vs, ha, h => by
    cases hg : gvF zs with
    | none => rw [readN_no hg] at h; cases h
    | some p =>
      obtain ⟨x, m⟩ := p
      rw [readN_some hg] at h
      cases hr : readN gvF n (zs.drop m) with
      | none => rw [hr] at h; cases h
      | some ws =>
        rw [hr] at h
        injection h with h
        subst h
        obtain ⟨h1, h2⟩ := readN_fV (ha.drop m) hr
        exact ⟨fun y hy => by
          rcases List.mem_cons.1 hy with rfl | hy
          · exact gv_fV ha hg
          · exact h1 y hy, by simp [h2]⟩
theorem read_fV {cs : List ClassD} {t : Int} {s : Str} {f : FactD} (h : readR cs t s = some f) : (∀ x ∈ f.vs, fV x) ∧ ∃ c ∈ cs, f.vs.length = c.attrs.length := by
  cases s with
  | nil => cases h
  | cons b r =>
    unfold readR at h
    dsimp only at h
    split at h
    · cases h
    · split at h
      · cases h
      · rename_i h1 h2
        cases hr : readN gvF (cs.getD b.toNat ⟨[], []⟩).attrs.length (nb r) with
        | none => rw [hr] at h; cases h
        | some vs =>
          rw [hr] at h
          injection h with h
          subst h
          obtain ⟨g1, g2⟩ := readN_fV (nb_all r) hr
          exact ⟨g1, _, by rw [List.getD_eq_getElem?_getD, List.getElem?_eq_getElem (by omega)]; exact List.getElem_mem _, g2⟩
theorem putVs_all : ∀ {vs : List VD}, (∀ x ∈ vs, fV x) → AllB (putVs pvF vs)
  | [], _ => AllB.nil
  | x :: vs, h => (put_all13 (h x (List.mem_cons_self ..)).1 (h x (List.mem_cons_self ..)).2.1).append (putVs_all fun y hy => h y (List.mem_cons_of_mem _ hy))
theorem nb_b8 {zs : List Int} (h : AllB zs) : nb (b8 zs) = zs := b8_of h
theorem b8_nb (s : Str) : b8 (nb s) = s := of_b8 s
/-- What Put tells, by its text and its error. -/
theorem put_iff {cs : List ClassD} {f : FactD} (hcs : cs.length ≤ 200) (hv : ∀ x ∈ f.vs, fV x) (s : Str) : putF pvF cs f = .ok (nb s) ↔ putEr cs f = 0 ∧ putS cs f = s := by
  cases hp : putF pvF cs f with
  | error e =>
    obtain ⟨h1, _⟩ := putF_err hp
    have e2 : putEr cs f = e := by unfold putEr; rw [hp]
    constructor
    · intro h; cases h
    · intro h; rw [e2] at h; exact absurd h.1 h1
  | ok bs =>
    obtain ⟨h1, h2, h3, _⟩ := putF_ok hp
    have e2 : putEr cs f = 0 := by unfold putEr; rw [hp]
    have e3 : putS cs f = b8 bs := by unfold putS; rw [hp]
    have ha : AllB bs := by
      rw [h2]
      obtain ⟨k, hk, hi, _⟩ := place_of h1
      exact AllB.cons (by omega) (by omega) (putVs_all hv)
    rw [e2, e3]
    constructor
    · intro h; injection h with h; subst h; exact ⟨rfl, b8_nb s⟩
    · intro h; rw [← h.2, nb_b8 ha]
theorem nb_cons (b : UInt8) (r : Str) : nb (b :: r) = (b.toNat : Int) :: nb r := rfl
/-- Get is: read, laid again. -/
theorem get_is {cs : List ClassD} (t : Int) (s : Str) (hcs : cs.length ≤ 200) : getF pvF gvF cs t (nb s) = match readR cs t s with
    | none => none
    | some f => if putEr cs f = 0 ∧ putS cs f = s then some f else none := by
  cases s with
  | nil => rfl
  | cons b r =>
    rw [nb_cons]
    unfold getF readR
    dsimp only
    rw [Int.toNat_natCast]
    by_cases hc : cs.length ≤ b.toNat
    · rw [if_pos (by omega), if_pos hc]; split <;> rename_i h <;> first | rfl | (split at h <;> cases h)
    · rw [if_neg (by omega), if_neg hc]
      by_cases h160 : 160 < (b :: r).length
      · rw [if_pos h160]
        dsimp only
        split
        · rfl
        · rename_i vs hr
          rw [if_neg]
          intro h
          have := (putF_ok h).2.2.2
          simp only [List.length_cons, nb, List.length_map] at this h160
          omega
      · rw [if_neg h160]
        cases hr : readN gvF (cs.getD b.toNat ⟨[], []⟩).attrs.length (nb r) with
        | none => rfl
        | some vs =>
          dsimp only [Option.map]
          have hi := put_iff (cs := cs) (f := ⟨t, (cs.getD b.toNat ⟨[], []⟩).nm, vs⟩) hcs (readN_fV (nb_all r) hr).1 (b :: r)
          rw [nb_cons] at hi
          by_cases hp : putF pvF cs ⟨t, (cs.getD b.toNat ⟨[], []⟩).nm, vs⟩ = .ok ((b.toNat : Int) :: nb r)
          · rw [if_pos hp, if_pos (hi.1 hp)]
          · rw [if_neg hp, if_neg fun h => hp (hi.2 h)]
def GPf (w : World) (r : Option FactD) (e : Ending) (w' : World) : Prop := Below w.heap.size w w' ∧ match r with
  | none => e = .returned (.tuple #[.agg #[.int .i64 0, .string ⟨#[]⟩, .slice none 0 0], .int .i64 4])
  | some f => ∃ u, e = .returned (.tuple #[fB f u, .int .i64 0]) ∧ OwnV w' w.heap.size u f.vs
end Go.Proofs.YtpmhilaochfpaaaDoor
