/- with, Has, Add, Remove, Vals, Split of the program. -/
import Derived.Test.YtnnndkpmlpbpcaaSz
namespace Go.Proofs.Ytnnndkpmlpbpcaa
open Go.RowKit
set_option linter.unusedVariables false
set_option maxRecDepth 20000

set_option maxHeartbeats 400000 in
theorem with_any (d n : Int) (a : Option Addr) (len cap : Nat) (v : Value) (w : World) (hv : ∃ b l c, v = .slice b l c) :
    Calls Try.prog 46 #[bkv d n a len cap, v] w fun e w' => e = .returned (.agg #[.int .i64 d, .int .i64 n, v]) ∧ Below w.heap.size w w' := by
  obtain ⟨b, l, c, rfl⟩ := hv
  unfold bkv
  go_enter Try.func46, Try.ntmps46
  go_wp2
  exact bodyPost_ret (v := .agg #[.int .i64 d, .int .i64 n, .slice b l c]) (by simp [results, Try.results46, go_sem]) rfl ⟨rfl, two_blocks _ _ _⟩
set_option maxHeartbeats 2000000 in
theorem has_any (d n : Int) (a : Option Addr) (cap : Nat) (ps : List PR) (p : PR) (w : World) (hp : PV w a ps) (hl : ps.length ≤ 1000000) (hL : ∀ p ∈ ps, Lp p) :
    Calls Try.prog 25 #[bkv d n a ps.length cap, pv p] w fun e w' => e = .returned (.bool (ps.any fun q => eqP q p)) ∧ Below w.heap.size w w' := by
  have PLT := place_lt (fun q => eqP q p) ps
  have BX : Hid (Boxed ((w.alloc (.cells #[.int .i64 d, .int .i64 n, .slice a ps.length cap] 28)).alloc (.cells #[.string p.1, .string p.2] 45)) (w.heap.size + 1) p) := ⟨by go_simp, by go_simp, by simp⟩
  have PL : Hid (∀ W, Below ((w.alloc (.cells #[.int .i64 d, .int .i64 n, .slice a ps.length cap] 28)).alloc (.cells #[.string p.1, .string p.2] 45)).heap.size ((w.alloc (.cells #[.int .i64 d, .int .i64 n, .slice a ps.length cap] 28)).alloc (.cells #[.string p.1, .string p.2] 45)) W → Calls Try.prog 42 #[.slice a ps.length cap, .func (.func 53) #[] #[.pointer (some ⟨w.heap.size + 1, 0, none⟩)]] W fun e w' => e = .returned (.int .i64 (ps.findIdx (fun q => eqP q p))) ∧ Below W.heap.size W w') := fun W hW => place_any 53 _ _ a cap ps W ((hp.below (two_blocks _ _ _)).below hW) (asks53 (BX.out.below hW)) hl hL
  have CL : Hid (∀ W, Below ((w.alloc (.cells #[.int .i64 d, .int .i64 n, .slice a ps.length cap] 28)).alloc (.cells #[.string p.1, .string p.2] 45)).heap.size ((w.alloc (.cells #[.int .i64 d, .int .i64 n, .slice a ps.length cap] 28)).alloc (.cells #[.string p.1, .string p.2] 45)) W → W.cell? ⟨w.heap.size, 2, none⟩ = some (.slice a ps.length cap)) := fun W hW => (hW.cell (p := ⟨w.heap.size, 2, none⟩) (by simp; omega)).trans (by go_simp)
  obtain ⟨pk, pw⟩ := p
  simp only at *
  generalize (ps.any fun q => eqP q (pk, pw)) = r at *
  generalize (ps.findIdx fun q => eqP q (pk, pw)) = x at *
  unfold bkv pv
  go_enter Try.func25, Try.ntmps25
  go_wp2_with fail
  go_region_held3 (fun W => W.cell? ⟨w.heap.size, 2, none⟩ = some (.slice a ps.length cap)) (first | exact CL.out _ (Below.refl _ _).drew | exact CL.out _ ((Below.refl _ _).drew.trans hb1)) (first | (go_at_call 42; refine (PL.out _ (Below.refl _ _).drew).mono ?_; rintro e w1 ⟨rfl, hb1⟩))
  go_wp2
  go_ret
  exact ⟨rfl, bt (two_blocks _ _ _) ((Below.refl _ _).drew.trans hb1)⟩
theorem OwnQ.isSlice {w : World} {base : Nat} {v : Value} {ps : List PR} (h : OwnQ w base v ps) : ∃ b l c, v = .slice b l c := by
  obtain ⟨a, c, e, _⟩ := h.view
  exact ⟨_, _, _, e⟩
theorem OwnQ.keep {w w' : World} {base : Nat} {v : Value} {ps : List PR} (h : OwnQ w base v ps) (hk : ∀ k, base ≤ k → k < w.heap.size → w'.heap[k]? = w.heap[k]?) : OwnQ w' base v ps := by
  refine ⟨h.1, ?_⟩
  have hl := World.ownsRow.lt h
  rcases h.2 with hn | ⟨g, cap, cur, rfl, hbb, hg, rest⟩
  · exact .inl hn
  · exact .inr ⟨g, cap, cur, rfl, hbb, (hk g (hl g rfl).1 (hl g rfl).2).trans hg, rest⟩
theorem own_set3 {w : World} {base base' B : Nat} {v x y z : Value} {ps : List PR} (h : OwnQ w base v ps) (hB : B < base) (hb : base' ≤ base) : OwnQ (((w.setCell ⟨B, 0, none⟩ x).setCell ⟨B, 1, none⟩ y).setCell ⟨B, 2, none⟩ z) base' v ps :=
  (h.keep (fun k hk _ => by
    rw [Below.heap_setCell _ _ _ _ (by simp; omega), Below.heap_setCell _ _ _ _ (by simp; omega), Below.heap_setCell _ _ _ _ (by simp; omega)])).mono hb
def addP (ps : List PR) (p : PR) : List PR := if (ps.any fun q => eqP q p) then ps else ps.take (ps.findIdx (lessP p)) ++ ([p] ++ ps.drop (ps.findIdx (lessP p)))
theorem three_blocks (w : World) (o p q : Obj) : Below w.heap.size w (((w.alloc o).alloc p).alloc q) := bt (two_blocks _ _ _) (one_block _ _)
set_option maxHeartbeats 4000000 in
theorem add_in (d n : Int) (a : Option Addr) (cap : Nat) (ps : List PR) (p : PR) (w : World) (hp : PV w a ps) (hl : ps.length ≤ 1000000) (hL : ∀ p ∈ ps, Lp p) (hn : a = none → cap = 0) (hin : (ps.any fun q => eqP q p) = true) :
    Calls Try.prog 19 #[bkv d n a ps.length cap, pv p] w fun e w' => ∃ v, e = .returned (.tuple #[.agg #[.int .i64 d, .int .i64 n, v], .bool false]) ∧ OwnQ w' w.heap.size v ps ∧ Below w.heap.size w w' := by
  obtain ⟨pk, pw⟩ := p
  have HH : Hid (∀ W, Below w.heap.size w W → Calls Try.prog 25 #[.agg #[.int .i64 d, .int .i64 n, .slice a ps.length cap], .agg #[.string pk, .string pw]] W fun e w' => e = .returned (.bool true) ∧ Below W.heap.size W w') := fun W hW => by
    have := has_any d n a cap ps (pk, pw) W (hp.below hW) hl hL
    rw [hin] at this
    exact this
  have HC : Hid (∀ W, Below w.heap.size w W → Calls Try.prog 47 #[.slice a ps.length cap] W fun e w' => ∃ v, e = .returned v ∧ OwnQ w' W.heap.size v ps ∧ Below W.heap.size W w') := fun W hW => cloneq_any a cap ps W (hp.below hW) hl hn
  have HW : Hid (∀ v W, (∃ b l c, v = .slice b l c) → Calls Try.prog 46 #[.agg #[.int .i64 d, .int .i64 n, .slice a ps.length cap], v] W fun e w' => e = .returned (.agg #[.int .i64 d, .int .i64 n, v]) ∧ Below W.heap.size W w') := fun v W hv => with_any d n a ps.length cap v W hv
  obtain ⟨W0, hW0⟩ : ∃ W0, W0 = ((w.alloc (.cells #[.int .i64 d, .int .i64 n, .slice a ps.length cap] 28)).alloc (.cells #[.string pk, .string pw] 45)).alloc (.cells #[.int .i64 0, .int .i64 0, .slice none 0 0] 28) := ⟨_, rfl⟩
  have HB0 : Hid (Below w.heap.size w W0) := by rw [hW0]; exact three_blocks _ _ _ _
  have CL : Hid (∀ W, Below W0.heap.size W0 W → W.cell? ⟨w.heap.size, 0, none⟩ = some (.int .i64 d) ∧ W.cell? ⟨w.heap.size, 1, none⟩ = some (.int .i64 n) ∧ W.cell? ⟨w.heap.size, 2, none⟩ = some (.slice a ps.length cap)) := fun W hW => by
    rw [hW0] at hW
    exact ⟨(hW.cell (p := ⟨w.heap.size, 0, none⟩) (by simp; omega)).trans (by go_simp), (hW.cell (p := ⟨w.heap.size, 1, none⟩) (by simp; omega)).trans (by go_simp), (hW.cell (p := ⟨w.heap.size, 2, none⟩) (by simp; omega)).trans (by go_simp)⟩
  have RL : Hid (∀ W, Below W0.heap.size W0 W → W.cell? ⟨w.heap.size + 1 + 1, 0, none⟩ = some (.int .i64 0) ∧ W.cell? ⟨w.heap.size + 1 + 1, 1, none⟩ = some (.int .i64 0) ∧ W.cell? ⟨w.heap.size + 1 + 1, 2, none⟩ = some (.slice none 0 0) ∧ W.frozen? ⟨w.heap.size + 1 + 1, 0, none⟩ = false ∧ W.frozen? ⟨w.heap.size + 1 + 1, 1, none⟩ = false ∧ W.frozen? ⟨w.heap.size + 1 + 1, 2, none⟩ = false) := fun W hW => by
    rw [hW0] at hW
    exact ⟨(hW.cell (p := ⟨w.heap.size + 1 + 1, 0, none⟩) (by simp)).trans (by go_simp), (hW.cell (p := ⟨w.heap.size + 1 + 1, 1, none⟩) (by simp)).trans (by go_simp), (hW.cell (p := ⟨w.heap.size + 1 + 1, 2, none⟩) (by simp)).trans (by go_simp), (hW.frozen (p := ⟨w.heap.size + 1 + 1, 0, none⟩) (by simp)).trans (by go_simp), (hW.frozen (p := ⟨w.heap.size + 1 + 1, 1, none⟩) (by simp)).trans (by go_simp), (hW.frozen (p := ⟨w.heap.size + 1 + 1, 2, none⟩) (by simp)).trans (by go_simp)⟩
  have KS : Hid (∀ W x y z, Below W0.heap.size W0 W → (((W.setCell ⟨w.heap.size + 1 + 1, 0, none⟩ x).setCell ⟨w.heap.size + 1 + 1, 1, none⟩ y).setCell ⟨w.heap.size + 1 + 1, 2, none⟩ z).cell? ⟨w.heap.size, 0, none⟩ = some (.int .i64 d) ∧ (((W.setCell ⟨w.heap.size + 1 + 1, 0, none⟩ x).setCell ⟨w.heap.size + 1 + 1, 1, none⟩ y).setCell ⟨w.heap.size + 1 + 1, 2, none⟩ z).cell? ⟨w.heap.size, 1, none⟩ = some (.int .i64 n) ∧ (((W.setCell ⟨w.heap.size + 1 + 1, 0, none⟩ x).setCell ⟨w.heap.size + 1 + 1, 1, none⟩ y).setCell ⟨w.heap.size + 1 + 1, 2, none⟩ z).cell? ⟨w.heap.size, 2, none⟩ = some (.slice a ps.length cap)) := fun W x y z hW => by
    obtain ⟨c0, c1, c2⟩ := CL.out W hW
    have hB : Below (w.heap.size + 1) W (((W.setCell ⟨w.heap.size + 1 + 1, 0, none⟩ x).setCell ⟨w.heap.size + 1 + 1, 1, none⟩ y).setCell ⟨w.heap.size + 1 + 1, 2, none⟩ z) := (((Below.refl _ _).setCell (by simp) _).setCell (by simp) _).setCell (by simp) _
    exact ⟨(hB.cell (p := ⟨w.heap.size, 0, none⟩) (by simp)).trans c0, (hB.cell (p := ⟨w.heap.size, 1, none⟩) (by simp)).trans c1, (hB.cell (p := ⟨w.heap.size, 2, none⟩) (by simp)).trans c2⟩
  unfold bkv pv
  clear hp hin
  go_enter Try.func19, Try.ntmps19
  go_wp2_with (first | (go_at_call 25; rw [← hW0]; refine (HH.out _ HB0.out).mono ?_; rintro e w1 ⟨rfl, hb1⟩))
  obtain ⟨c0, c1, c2⟩ := CL.out _ hb1
  go_region_held3 (fun W => W.cell? ⟨w.heap.size, 0, none⟩ = some (.int .i64 d) ∧ W.cell? ⟨w.heap.size, 1, none⟩ = some (.int .i64 n) ∧ W.cell? ⟨w.heap.size, 2, none⟩ = some (.slice a ps.length cap)) (first | exact CL.out _ hb1.drew | exact CL.out _ (bt hb1.drew hb2) | exact CL.out _ (bt (bt hb1.drew hb2) hb3) | exact KS.out _ _ _ _ (bt (bt hb1.drew hb2) hb3)) (first | (go_at_call 47; refine (HC.out _ (bt HB0.out hb1.drew)).mono ?_; rintro e w2 ⟨v, rfl, ho, hb2⟩; obtain ⟨b9, l9, c9, rfl⟩ := ho.isSlice) | (go_at_call 46; refine (HW.out _ _ ⟨_, _, _, rfl⟩).mono ?_; rintro e w3 ⟨rfl, hb3⟩; obtain ⟨r0, r1, r2, f0, f1, f2⟩ := RL.out w3 (bt (bt hb1.drew hb2) hb3)))
  go_wp2
  refine bodyPost_ret (v := .tuple #[.agg #[.int .i64 d, .int .i64 n, .slice b9 l9 c9], .bool false]) (by simp [results, Try.results19, go_sem, r0, r1, r2]) rfl ⟨_, rfl, ?_, ?_⟩
  · have q1 := hb1.size
    have q0 := HB0.out.size
    have q2 : w.heap.size + 3 ≤ W0.heap.size := by rw [hW0]; simp
    exact own_set3 (ho.below hb3) (by show w.heap.size + 1 + 1 < w1.heap.size; omega) (by show w.heap.size ≤ w1.heap.size; omega)
  · exact (((bt HB0.out (bt (bt hb1.drew hb2) hb3)).setCell (by simp; omega) _).setCell (by simp; omega) _).setCell (by simp; omega) _
end Go.Proofs.Ytnnndkpmlpbpcaa
