/- Check; a set's place, sets looked through: contracts of single calls. -/
import Derived.Test.YtpmhilaochfpaaaDoorCc
namespace Go.Proofs.YtpmhilaochfpaaaDoor
set_option maxRecDepth 20000
set_option maxRecDepth 20000
open Go.RowKit
set_option linter.unusedVariables false
set_option linter.unusedSimpArgs false

set_option maxHeartbeats 4000000 in
theorem check_any {P : Nat → Nat → Prop} {Q Q2 : Nat → Prop} (v u : Value) (cs : List ClassD) (f : FactD) (w : World) (h : Row 2 (ReK P) w Q v cs) (hL : ∀ c ∈ cs, c.attrs.length ≤ 100000)
    (hf : SlW 3 w Q2 u (f.vs.map clV)) (hv : ∀ x ∈ f.vs, fV x) (hV : Vars w) :
    Calls Tryd.prog 17 #[v, .agg #[.int .i64 f.t, .string (st f.c), u]] w fun e w' => e = .returned (.int .i64 (factE cs f)) ∧ Below w.heap.size w w' := by
  obtain ⟨a2, c2, rfl⟩ := hf.shape
  have C25 := classOf_any v _ cs f (w.alloc (.cells #[.int .i64 f.t, .string (st f.c), .slice a2 (f.vs.map clV).length c2] 36)) (rowK_keep h (bxn _ _)) hL (hf.bl (bxn _ _)) hv (hV.below (bxn _ _))
  rw [List.length_map] at *
  clear h hL hf hv hV
  go_enter Tryd.func17, Tryd.ntmps17
  go_wp2_with (go_at_call 31; refine C25.mono ?_; rintro e w2 ⟨hb2, ⟨h0, rfl⟩ | ⟨h0, k, a, c, hk, hl, rfl, hs⟩⟩ <;> (have B2 : Hid (Below w.heap.size w w2) := bt (bxn _ _) hb2; have E0 := h0; have E : Hid _ := E0; clear C25 hb2 h0 E0))
  all_goals (
    go_ret
    first
      | exact ⟨rfl, bt B2.out (bxn _ _)⟩
      | exact ⟨by rw [E.out]; rfl, bt B2.out (bxn _ _)⟩)
theorem enters43 (args : Array Value) (w' : World) : Sem.run Tryd.prog (callFunc 43 args) w' = .ok (.enter 43 args) w' := rfl
theorem names_at (bs : List BoundD) (j : Nat) (hj : j < bs.length) : (bs.map (·.nm)).getD j [] = (bs.getD j ⟨[], v00⟩).nm := by
  rw [List.getD_eq_getElem?_getD, List.getD_eq_getElem?_getD, List.getElem?_map, List.getElem?_eq_getElem hj]; rfl
end Go.Proofs.YtpmhilaochfpaaaDoor
