/- A set's place; Get: contracts of single calls. -/
import Derived.Test.YtbbjhiijialfoaaDoorCd
namespace Go.Proofs.YtbbjhiijialfoaaDoor
set_option maxRecDepth 20000
open Go.RowKit
set_option linter.unusedVariables false
set_option linter.unusedSimpArgs false

/-- Where a set goes, or why not. -/
def placeP (attrs zs : List Str) (b : BoundD) : Int × Int := if idxS attrs b.nm < 0 then (0, 19) else if b.nm ∈ zs then (0, 7) else (idxS attrs b.nm, chkV b.x)
set_option maxHeartbeats 4000000 in
theorem place_any {P Q : Nat → Prop} (nm : Str) (a : Option Addr) (n c : Nat) (attrs : List Str) (v : Value) (bs : List BoundD) (b : BoundD) (w : World) (h : SlW 1 w P (.slice a n c) (attrs.map clS)) (hb : SlW 4 w Q v (bs.map clB)) (hf : fV b.x) (hV : Vars w) :
    Calls Tryd.prog 28 #[.agg #[.string (st nm), .slice a n c], v, .agg #[.string (st b.nm), .int .u8 b.x.k, .int .i64 b.x.n, .string (st b.x.s)]] w fun e w' =>
      e = .returned (.tuple #[.int .i64 (placeP attrs (bs.map (·.nm)) b).1, .int .i64 (placeP attrs (bs.map (·.nm)) b).2]) ∧ Below w.heap.size w w' := by
  generalize hPP : placeP attrs (bs.map (·.nm)) b = pp
  have HP : Hid (∀ q, placeP attrs (bs.map (·.nm)) b = q → pp = q) := fun q hq => hPP.symm.trans hq
  clear hPP
  have CA : Hid (∀ W, Below w.heap.size w W → Calls Tryd.prog 31 #[.agg #[.string (st nm), .slice a n c], .string (st b.nm)] W fun e w' => e = .returned (.tuple #[.int .i64 (max (idxS attrs b.nm) 0), .bool (decide (0 ≤ idxS attrs b.nm))]) ∧ Below W.heap.size W w') := fun W hW => attr_any nm a n c attrs b.nm W (h.bl hW)
  have CC : Hid (∀ W B, Below w.heap.size w W → W.cell? ⟨B, 0, none⟩ = some (.string (st b.nm)) → B < W.heap.size → Calls Tryd.prog 44 #[v, .func (.func 43) #[] #[.pointer (some ⟨B, 0, none⟩)]] W fun e w' => e = .returned (.bool (decide (b.nm ∈ bs.map (·.nm)))) ∧ Below W.heap.size W w') := fun W B hW => contains_any v bs b.nm B W (hb.bl hW)
  have CK : Hid (∀ W, Below w.heap.size w W → Calls Tryd.prog 42 #[.agg #[.int .u8 b.x.k, .int .i64 b.x.n, .string (st b.x.s)]] W fun e w' => e = .returned (.int .i64 (chkV b.x)) ∧ Below W.heap.size W w') := fun W hW => check_v b.x W hf (hV.below hW)
  obtain ⟨av, cv, rfl⟩ := hb.shape
  simp only [List.length_map] at *
  clear h hb hf hV
  obtain ⟨W0, hW0⟩ : ∃ W0, W0 = (w.alloc (.cells #[.string (st nm), .slice a n c] 54)).alloc (.cells #[.string (st b.nm), .int .u8 b.x.k, .int .i64 b.x.n, .string (st b.x.s)] 51) := ⟨_, rfl⟩
  have HB : Hid (Below w.heap.size w W0) := by subst hW0; exact bt (bxn _ _) (bxn _ _)
  have HX : Hid (∀ W, Below W0.heap.size W0 W → W.cell? ⟨w.heap.size + 1, 0, none⟩ = some (.string (st b.nm)) ∧ W.cell? ⟨w.heap.size + 1, 1, none⟩ = some (.int .u8 b.x.k) ∧ W.cell? ⟨w.heap.size + 1, 2, none⟩ = some (.int .i64 b.x.n) ∧ W.cell? ⟨w.heap.size + 1, 3, none⟩ = some (.string (st b.x.s)) ∧ w.heap.size + 1 < W.heap.size ∧ Below w.heap.size w W) := fun W hW => by
    subst hW0
    exact ⟨(hW.cell (p := ⟨w.heap.size + 1, 0, none⟩) (by simp)).trans (by go_simp), (hW.cell (p := ⟨w.heap.size + 1, 1, none⟩) (by simp)).trans (by go_simp), (hW.cell (p := ⟨w.heap.size + 1, 2, none⟩) (by simp)).trans (by go_simp), (hW.cell (p := ⟨w.heap.size + 1, 3, none⟩) (by simp)).trans (by go_simp), by have := hW.size; simp at this; omega, bt HB.out hW⟩
  have C0 := CA.out W0 HB.out
  rw [hW0] at C0 HX
  clear hW0 HB
  rcases idxS_or attrs b.nm with hi | hi
  · have E : Hid (pp = (0, 19)) := HP.out _ (by unfold placeP; rw [if_pos (by rw [hi]; decide)])
    rw [hi] at C0
    have C0 := C0
    clear hi HP CA
    go_enter Tryd.func28, Tryd.ntmps28
    go_wp2_with (go_at_call 31; refine C0.mono ?_; rintro e w2 ⟨rfl, hb2⟩; obtain ⟨x0, x1, x2, x3, x4, x5⟩ := HX.out w2 hb2; have B2 : Hid (Below w.heap.size w w2) := x5; clear C0 hb2 x5)
    all_goals (refine bodyPost_ret (v := .tuple #[.int .i64 0, .int .i64 19]) (by simp [results, Tryd.results28, go_sem]) rfl ?_; exact ⟨by rw [E.out], B2.out⟩)
  · have hi' : decide (0 ≤ idxS attrs b.nm) = true := decide_eq_true hi
    have hmx : max (idxS attrs b.nm) 0 = idxS attrs b.nm := Int.max_eq_left hi
    have hnl : ¬ idxS attrs b.nm < 0 := by omega
    rw [hi', hmx] at C0
    by_cases hin : b.nm ∈ bs.map (·.nm)
    · have E : Hid (pp = (0, 7)) := HP.out _ (by unfold placeP; rw [if_neg hnl, if_pos hin])
      rw [decide_eq_true hin] at CC
      generalize idxS attrs b.nm = ix at *
      clear hi hi' hmx hnl HP CA hin
      go_enter Tryd.func28, Tryd.ntmps28
      go_wp2_with (first
        | (go_at_call 31; refine C0.mono ?_; rintro e w2 ⟨rfl, hb2⟩; obtain ⟨x0, x1, x2, x3, x4, x5⟩ := HX.out w2 hb2; have B2 : Hid (Below w.heap.size w w2) := x5; have CC2 := CC.out w2 _ x5 x0 x4; clear C0 hb2 x5)
        | (go_at_call 44; refine CC2.mono ?_; rintro e w3 ⟨rfl, hb3⟩; have B3 : Hid (Below w.heap.size w w3) := bt B2.out hb3; clear CC2 hb3))
      all_goals (refine bodyPost_ret (v := .tuple #[.int .i64 0, .int .i64 7]) (by simp [results, Tryd.results28, go_sem]) rfl ?_; exact ⟨by rw [E.out], B3.out⟩)
    · have E : Hid (pp = (idxS attrs b.nm, chkV b.x)) := HP.out _ (by unfold placeP; rw [if_neg hnl, if_neg hin])
      rw [decide_eq_false hin] at CC
      generalize idxS attrs b.nm = ix at *
      clear hi hi' hmx hnl HP CA hin
      go_enter Tryd.func28, Tryd.ntmps28
      go_wp2_with (first
        | (go_at_call 31; refine C0.mono ?_; rintro e w2 ⟨rfl, hb2⟩; have H2 : Hid (Below _ _ w2) := hb2; obtain ⟨x0, x1, x2, x3, x4, x5⟩ := HX.out w2 hb2; have B2 : Hid (Below w.heap.size w w2) := x5; have CC2 := CC.out w2 _ x5 x0 x4; clear C0 hb2 x5)
        | (go_at_call 44; refine CC2.mono ?_; rintro e w3 ⟨rfl, hb3⟩; have B3 : Hid (Below w.heap.size w w3) := bt B2.out hb3; clear x0 x1 x2 x3 x4; obtain ⟨x0, x1, x2, x3, x4, x5⟩ := HX.out w3 (bt H2.out hb3); have CK3 := CK.out w3 B3.out; clear CC2 hb3)
        | (go_at_call 42; refine CK3.mono ?_; rintro e w4 ⟨rfl, hb4⟩; have B4 : Hid (Below w.heap.size w w4) := bt B3.out hb4; clear CK3 hb4))
      all_goals (refine bodyPost_ret (v := .tuple #[.int .i64 ix, .int .i64 (chkV b.x)]) (by simp [results, Tryd.results28, go_sem]) rfl ?_; exact ⟨by rw [E.out], B4.out⟩)
end Go.Proofs.YtbbjhiijialfoaaDoor
