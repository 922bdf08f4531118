/- What every right program scans: the call 'awake' of the statements answers true. -/
import Derived.Test.YtglimefhiggdeaaDoorSc
import Derived.Test.YtglimefhiggdeaaDoorTt
import Derived.Test.YtglimefhiggdeaaDoorRn
namespace Go.Proofs.YtglimefhiggdeaaDoor
open Go.RowKit
set_option linter.unusedVariables false
set_option linter.unusedSimpArgs false
set_option maxRecDepth 20000

def awL : List TA := [(⟨0, [], 0, 0, 0, []⟩, 0), (⟨11, [], 0, 2, 0, [97]⟩, 1), (⟨8, [98], 0, 0, 0, []⟩, 3), (⟨9, [120], 0, 0, 0, []⟩, 6), (⟨10, [], 4, 0, 0, []⟩, 10), (⟨11, [], 0, 1, 5, []⟩, 12), (⟨1, [], 0, 0, 0, []⟩, 13), (⟨7, [], 0, 0, 0, []⟩, 15), (⟨0, [], 0, 0, 0, []⟩, 16), (⟨11, [], 0, 2, 0, [99]⟩, 17), (⟨1, [], 0, 0, 0, []⟩, 18)]
theorem awA : scanL [40, 97, 32, 94, 98, 32, 60, 120, 62, 32, 62, 32, 53, 41, 32, 45, 40, 99, 41, 32, 59, 32, 100] = (awL, 0, 0) := by decide +kernel
theorem awB : scanL [97, 98, 32, 0] = ([(⟨11, [], 0, 2, 0, [97, 98]⟩, 0)], 3, 16) := by decide +kernel
theorem OwnK.at {ty : TypeId} {w : World} {base : Nat} {v : Value} {ts : List TA} (h : OwnK ty w base v ts) (hn : ts ≠ []) : ∃ g cap, v = .slice (some ⟨g, 0, none⟩) ts.length cap ∧ ts.length ≤ cap ∧ cap ≤ 9223372036854775807 ∧ base ≤ g ∧ g < w.heap.size ∧ ∀ i j, i < ts.length → j < 7 → w.cell? ⟨g, i * 7 + j, none⟩ = (cl7 (ts.getD i ta0))[j]? := by
  obtain ⟨a, cap, rfl, h1, h2, h3, h4, h5⟩ := h.view
  rcases h5 with rfl | ⟨g, rfl, hg1, hg2⟩
  · exact absurd (TV.nones h2) hn
  · refine ⟨g, cap, rfl, h3, h4, hg1, hg2, ?_⟩
    rcases h2 with h | ⟨b, off, e, hlt, hc⟩
    · exact absurd h hn
    · obtain ⟨rfl, rfl⟩ : b = g ∧ off = 0 := by simp at e; exact ⟨e.1.symm, e.2.symm⟩
      intro i j hi hj
      have := hc i j hi hj
      rwa [Nat.zero_add] at this
set_option maxHeartbeats 8000000 in
theorem awake_any (w : World) (hV : Vars w) : Calls Tryd.prog 8 #[] w fun e w' => e = .returned (.bool true) ∧ Below w.heap.size w w' := by
  have C1 : ∀ W, Vars W → Calls Tryd.prog 9 #[.string ⟨#[40, 97, 32, 94, 98, 32, 60, 120, 62, 32, 62, 32, 53, 41, 32, 45, 40, 99, 41, 32, 59, 32, 100]⟩] W fun e w' => ∃ v, e = .returned (.tuple #[v, .int .i64 0, .int .i64 0]) ∧ OwnK 34 w' W.heap.size v awL ∧ Below W.heap.size W w' := fun W hv => by
    have h := scan_any ⟨#[40, 97, 32, 94, 98, 32, 60, 120, 62, 32, 62, 32, 53, 41, 32, 45, 40, 99, 41, 32, 59, 32, 100]⟩ W (by decide) hv
    rw [show (⟨#[40, 97, 32, 94, 98, 32, 60, 120, 62, 32, 62, 32, 53, 41, 32, 45, 40, 99, 41, 32, 59, 32, 100]⟩ : ByteArray).data.toList = [40, 97, 32, 94, 98, 32, 60, 120, 62, 32, 62, 32, 53, 41, 32, 45, 40, 99, 41, 32, 59, 32, 100] from rfl, awA] at h
    exact h
  have C2 : ∀ W, Vars W → Calls Tryd.prog 9 #[.string ⟨#[97, 98, 32, 0]⟩] W fun e w' => ∃ v, e = .returned (.tuple #[v, .int .i64 3, .int .i64 16]) ∧ Below W.heap.size W w' := fun W hv => by
    have h := scan_any ⟨#[97, 98, 32, 0]⟩ W (by decide) hv
    rw [show (⟨#[97, 98, 32, 0]⟩ : ByteArray).data.toList = [97, 98, 32, 0] from rfl, awB] at h
    exact h.mono (by rintro e w' ⟨v, h1, h2, h3⟩; exact ⟨v, h1, h3⟩)
  have CT : ∀ W, Vars W → Calls Tryd.prog 11 #[.agg #[.int .u8 9, .string ⟨#[120]⟩, .int .u8 0, .int .u8 0, .int .i64 0, .string ⟨#[]⟩, .int .i64 6]] W fun e w' => e = .returned (.string ⟨#[60, 120, 62]⟩) ∧ Below W.heap.size W w' := fun W hv =>
    ltext_any 9 ⟨#[120]⟩ 0 0 0 ⟨#[]⟩ 6 W (by decide) (by decide) (by decide) (by decide) (by decide) (by decide) hv
  go_enter Tryd.func8, Tryd.ntmps8
  go_wp2_with (first | (go_at_call 9; refine (C1 _ hV).mono ?_; rintro e w1 ⟨v, rfl, ho, hb1⟩; clear C1; obtain ⟨g, cp, rfl, h3, h4, hg1, hg2, hcl⟩ := ho.at (by decide); rw [show awL.length = 11 from rfl]; have HC : Hid (∀ i j, i < awL.length → j < 7 → w1.cell? ⟨g, i * 7 + j, none⟩ = (cl7 (awL.getD i ta0))[j]?) := hcl; have hcp : 11 ≤ cp := h3; clear h3 hcl ho hg1) | (go_at_call 9; refine (C2 _ (hV.below hb1)).mono ?_; rintro e w2 ⟨v2, rfl, hb2⟩; clear C2; have q0 : w2.cell? ⟨g, 0, none⟩ = some (.int .u8 0) := (hb2.cell (p := ⟨g, 0, none⟩) hg2).trans (HC.out 0 0 (by decide) (by decide)); have q12 : w2.cell? ⟨g, 12, none⟩ = some (.string ⟨#[97]⟩) := (hb2.cell (p := ⟨g, 12, none⟩) hg2).trans (HC.out 1 5 (by decide) (by decide)); have q15 : w2.cell? ⟨g, 15, none⟩ = some (.string ⟨#[98]⟩) := (hb2.cell (p := ⟨g, 15, none⟩) hg2).trans (HC.out 2 1 (by decide) (by decide)); have q21 : w2.cell? ⟨g, 21, none⟩ = some (.int .u8 9) := (hb2.cell (p := ⟨g, 21, none⟩) hg2).trans (HC.out 3 0 (by decide) (by decide)); have q22 : w2.cell? ⟨g, 22, none⟩ = some (.string ⟨#[120]⟩) := (hb2.cell (p := ⟨g, 22, none⟩) hg2).trans (HC.out 3 1 (by decide) (by decide)); have q23 : w2.cell? ⟨g, 23, none⟩ = some (.int .u8 0) := (hb2.cell (p := ⟨g, 23, none⟩) hg2).trans (HC.out 3 2 (by decide) (by decide)); have q24 : w2.cell? ⟨g, 24, none⟩ = some (.int .u8 0) := (hb2.cell (p := ⟨g, 24, none⟩) hg2).trans (HC.out 3 3 (by decide) (by decide)); have q25 : w2.cell? ⟨g, 25, none⟩ = some (.int .i64 0) := (hb2.cell (p := ⟨g, 25, none⟩) hg2).trans (HC.out 3 4 (by decide) (by decide)); have q26 : w2.cell? ⟨g, 26, none⟩ = some (.string ⟨#[]⟩) := (hb2.cell (p := ⟨g, 26, none⟩) hg2).trans (HC.out 3 5 (by decide) (by decide)); have q27 : w2.cell? ⟨g, 27, none⟩ = some (.int .i64 6) := (hb2.cell (p := ⟨g, 27, none⟩) hg2).trans (HC.out 3 6 (by decide) (by decide)); have q30 : w2.cell? ⟨g, 30, none⟩ = some (.int .u8 4) := (hb2.cell (p := ⟨g, 30, none⟩) hg2).trans (HC.out 4 2 (by decide) (by decide)); have q39 : w2.cell? ⟨g, 39, none⟩ = some (.int .i64 5) := (hb2.cell (p := ⟨g, 39, none⟩) hg2).trans (HC.out 5 4 (by decide) (by decide)); have q49 : w2.cell? ⟨g, 49, none⟩ = some (.int .u8 7) := (hb2.cell (p := ⟨g, 49, none⟩) hg2).trans (HC.out 7 0 (by decide) (by decide)); have q69 : w2.cell? ⟨g, 69, none⟩ = some (.int .i64 17) := (hb2.cell (p := ⟨g, 69, none⟩) hg2).trans (HC.out 9 6 (by decide) (by decide)); clear HC) | (go_at_call 11; refine (CT _ ((hV.below hb1).below hb2)).mono ?_; rintro e w3 ⟨rfl, hb3⟩; clear CT))
  go_ret
  exact ⟨rfl, bt (bt hb1 hb2) hb3⟩
end Go.Proofs.YtglimefhiggdeaaDoor
