/- num.New. -/
import Derived.Test.YtophkfbdhejmcaaRd
namespace Go.Proofs.Ytophkfbdhejmcaa
set_option maxRecDepth 20000
open Go.RowKit
set_option linter.unusedVariables false
theorem rds_new (w : World) (a : Option Addr) (cap : Nat) (zs : List Int) (hc : zs.length ≤ cap) (hm : cap ≤ maxLen) (hz : AllB zs)
    (hb : zs = [] ∨ ∃ b off, a = some ⟨b, off, none⟩ ∧ b < w.heap.size ∧ ∀ i, i < zs.length → w.cell? ⟨b, off + i, none⟩ = some (.int .u8 (zs.getD i 0))) :
    RdS (w.alloc (.cells #[.slice a zs.length cap, .int .i64 0] 86)) w.heap.size zs 0 := by
  refine ⟨a, cap, ⟨?_, ?_, ?_, ?_⟩, hc, hm, hz, ?_⟩
  · go_simp
  · go_simp
  · go_simp
  · go_simp
  · rcases hb with hb | ⟨b, off, rfl, hlt, hcell⟩
    · exact .inl hb
    · refine .inr ⟨b, off, rfl, by omega, by simp; omega, fun i hi => ?_⟩
      exact (Below.cell ((Below.refl w.heap.size w).alloc (Nat.le_refl _) _) (p := ⟨b, off + i, none⟩) hlt).trans (hcell i hi)
set_option maxHeartbeats 400000 in
theorem new_any (a : Option Addr) (cap : Nat) (zs : List Int) (w : World) (hb : BV w a zs) (hm : zs.length ≤ 1000000) (hn : a = none → cap = 0) :
    Calls Try.prog 52 #[.slice a zs.length cap] w fun e w' => ∃ rb, e = .returned (.pointer (some ⟨rb, 0, none⟩)) ∧ w.heap.size ≤ rb ∧ rb < w'.heap.size ∧ RdS w' rb zs 0 ∧ Below w.heap.size w w' := by
  have HC := clone_any a cap zs w hb hm hn
  have hz := hb.1
  clear hb hn
  go_enter Try.func52, Try.ntmps52
  go_wp2_with (go_at_call 56; refine HC.mono ?_; rintro e w1 ⟨v, rfl, ho, hbl⟩; obtain ⟨a', cap', rfl, hv⟩ := ho.view hz; clear HC)
  obtain ⟨h1, h2, h3, h4⟩ := hv
  have HR := rds_new w1 a' cap' zs h1 h2 h3 (by
    rcases h4 with h4 | ⟨b, off, e, _, hlt, hcell⟩
    · exact .inl h4
    · exact .inr ⟨b, off, e, hlt, hcell⟩)
  go_ret
  exact ⟨_, rfl, hbl.size, by simp, HR, hbl.alloc hbl.size _⟩
end Go.Proofs.Ytophkfbdhejmcaa
