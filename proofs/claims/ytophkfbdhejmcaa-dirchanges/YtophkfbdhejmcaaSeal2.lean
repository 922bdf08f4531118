/- sum.Seal. -/
import Derived.Test.YtophkfbdhejmcaaSeal
namespace Go.Proofs.Ytophkfbdhejmcaa
set_option maxRecDepth 20000
open Go.RowKit
set_option linter.unusedVariables false
theorem BV.alloc {w : World} {a : Option Addr} {zs : List Int} (h : BV w a zs) (o : Obj) : BV (w.alloc o) a zs := h.below ((Below.refl _ _).alloc (Nat.le_refl _) _)
theorem parts1 {w : World} {a : Option Addr} {cap : Nat} {zs : List Int} (hb : BV w a zs) (hn : a = none → cap = 0) (hm : zs.length ≤ 9223372036854775807) :
    Parts (w.alloc (.cells #[.slice a zs.length cap] 27)) w.heap.size 0 [zs] := by
  intro i hi
  obtain rfl : i = 0 := by simpa using hi
  exact ⟨a, cap, by go_simp, hn, hb.alloc _, hm⟩
theorem parts2 {w : World} {a b : Option Addr} {cap cap2 : Nat} {zs ys : List Int} (hb : BV w a zs) (hn : a = none → cap = 0) (hm : zs.length ≤ 9223372036854775807) (hb2 : BV w b ys) (hn2 : b = none → cap2 = 0) (hm2 : ys.length ≤ 9223372036854775807) :
    Parts (w.alloc (.cells #[.slice a zs.length cap, .slice b ys.length cap2] 27)) w.heap.size 0 [zs, ys] := by
  intro i hi
  rcases Nat.lt_or_ge i 1 with h | h
  · obtain rfl : i = 0 := by omega
    exact ⟨a, cap, by go_simp, hn, hb.alloc _, hm⟩
  · obtain rfl : i = 1 := by simp at hi; omega
    exact ⟨b, cap2, by go_simp, hn2, hb2.alloc _, hm2⟩
theorem Own.slice {w : World} {base : Nat} {v : Value} {zs : List Int} (h : Own w base v zs) (hz : AllB zs) : ∃ a cap, v = .slice a zs.length cap ∧ (a = none → cap = 0) ∧ BV w a zs ∧ zs.length ≤ cap ∧ cap ≤ maxLen := by
  obtain ⟨a, cap, rfl, h1, h2, _, h4⟩ := h.view hz
  refine ⟨a, cap, rfl, ?_, h.bv hz, h1, h2⟩
  rintro rfl
  rcases h.2 with ⟨e, _⟩ | ⟨g, c, cur, e, _⟩
  · exact (Value.slice.inj e).2.2
  · cases e
theorem Own.mono {w : World} {b1 b2 : Nat} {v : Value} {zs : List Int} (h : Own w b1 v zs) (hb : b2 ≤ b1) : Own w b2 v zs := by
  refine ⟨h.1, ?_⟩
  rcases h.2 with hn | ⟨g, cap, cur, rfl, hbb, hg, rest⟩
  · exact .inl hn
  · exact .inr ⟨g, cap, cur, rfl, Nat.le_trans hb hbb, hg, rest⟩
end Go.Proofs.Ytophkfbdhejmcaa
