/- The document's Choose, of any two blocks. -/
import Derived.Test.YtadnflaocgmfgaaRCh
namespace Go.Proofs.Ytadnflaocgmfgaa
open Go.RowKit
set_option linter.unusedVariables false
theorem beqF {a b : Int} (h : ¬ a = b) : (a == b) = false := by simpa using h
theorem beqT {a b : Int} (h : a = b) : (a == b) = true := by simpa using h
theorem rch_any (a b : Option Addr) (ca cb : Nat) (xs ys : List Int) (w : World) (ha : BV w a xs) (hb : BV w b ys) (hca : xs.length ≤ ca) (hcb : ys.length ≤ cb) (hma : ca ≤ 9223372036854775807) (hmb : cb ≤ 9223372036854775807) :
    Calls Try.prog 17 #[.slice a xs.length ca, .slice b ys.length cb] w fun e w' => ChoosePost w (chS xs ys 2) e w' := by
  have HGA : Hid (∀ W, Below w.heap.size w W → Calls Try.prog 15 #[.slice a xs.length ca] W fun e w' => GetPost W (getS xs) e w') := fun W hW => rgroot_any a ca xs W (ha.below hW) hca hma
  have HGB : Hid (∀ W, Below w.heap.size w W → Calls Try.prog 15 #[.slice b ys.length cb] W fun e w' => GetPost W (getS ys) e w') := fun W hW => rgroot_any b cb ys W (hb.below hW) hcb hmb
  have p0 : (getS xs).2 = 0 → (getS xs).1.E.tmod 2 = 0 → pick 0 xs ⟨zero, 0, 4⟩ = ⟨(getS xs).1, 0, 0⟩ := fun h1 h2 => pick_take h1 h2 (Or.inl (by decide))
  have p1 : (getS xs).2 ≠ 0 → pick 0 xs ⟨zero, 0, 4⟩ = ⟨zero, 0, 4⟩ := fun h => pick_skip1 h
  have p2 : (getS xs).1.E.tmod 2 ≠ 0 → pick 0 xs ⟨zero, 0, 4⟩ = ⟨zero, 0, 4⟩ := fun h => pick_skip2 h
  have q0 : ∀ c : CS, (getS ys).2 = 0 → (getS ys).1.E.tmod 2 = 1 → (c.e ≠ 0 ∨ c.r.E < (getS ys).1.E) → pick 1 ys c = ⟨(getS ys).1, 1, 0⟩ := fun c h1 h2 h3 => pick_take h1 h2 h3
  have q1 : ∀ c : CS, (getS ys).2 ≠ 0 → pick 1 ys c = c := fun c h => pick_skip1 h
  have q2 : ∀ c : CS, (getS ys).1.E.tmod 2 ≠ 1 → pick 1 ys c = c := fun c h => pick_skip2 h
  have q3 : ∀ c : CS, ¬ (c.e ≠ 0 ∨ c.r.E < (getS ys).1.E) → pick 1 ys c = c := fun c h => pick_keep h
  show Calls Try.prog 17 _ w fun e w' => ChoosePost w (pick 1 ys (pick 0 xs ⟨zero, 0, 4⟩)) e w'
  generalize getS xs = X at *
  generalize getS ys = Y at *
  obtain ⟨x, e⟩ := X
  obtain ⟨y, f⟩ := Y
  simp only at p0 p1 p2 q0 q1 q2 q3
  by_cases hf : f = 0
  · subst hf
    by_cases hy : y.E.tmod 2 = 1
    · by_cases he : e = 0
      · subst he
        by_cases hx : x.E.tmod 2 = 0
        · rw [p0 rfl hx]
          by_cases hg : y.E < x.E
          · rw [q3 _ (by rintro (h | h); exact h rfl; exact absurd h (by show ¬ x.E < y.E; omega))]
            exact rch_TTg a b ca cb _ _ x y 0 0 w (beqT hx) (beqT hy) (by simpa using hg) HGA HGB
          · have hne : x.E ≠ y.E := fun h => by rw [h, hy] at hx; cases hx
            rw [q0 _ rfl hy (Or.inr (by show x.E < y.E; omega))]
            exact rch_TTl a b ca cb _ _ x y 0 0 w (beqT hx) (beqT hy) (by simpa using hg) HGA HGB
        · rw [p2 hx, q0 _ rfl hy (Or.inl (by show (4 : Int) ≠ 0; decide))]
          exact rch_FT a b ca cb _ _ x y 0 0 w (beqF hx) (beqT hy) HGA HGB
      · rw [p1 he, q0 _ rfl hy (Or.inl (by show (4 : Int) ≠ 0; decide))]
        exact rch_ET a b ca cb _ _ x y e 0 w (beqF he) (beqT hy) HGA HGB
    · rw [q2 _ hy]
      by_cases he : e = 0
      · subst he
        by_cases hx : x.E.tmod 2 = 0
        · rw [p0 rfl hx]
          exact rch_TF a b ca cb _ _ x y 0 0 w (beqT hx) (beqF hy) HGA HGB
        · rw [p2 hx]
          exact rch_FF a b ca cb _ _ x y 0 0 w (beqF hx) (beqF hy) HGA HGB
      · rw [p1 he]
        exact rch_EF a b ca cb _ _ x y e 0 w (beqF he) (beqF hy) HGA HGB
  · rw [q1 _ hf]
    by_cases he : e = 0
    · subst he
      by_cases hx : x.E.tmod 2 = 0
      · rw [p0 rfl hx]
        exact rch_TE a b ca cb _ _ x y 0 f w (beqT hx) (beqF hf) HGA HGB
      · rw [p2 hx]
        exact rch_FE a b ca cb _ _ x y 0 f w (beqF hx) (beqF hf) HGA HGB
    · rw [p1 he]
      exact rch_EE a b ca cb _ _ x y e f w (beqF he) (beqF hf) HGA HGB
end Go.Proofs.Ytadnflaocgmfgaa
