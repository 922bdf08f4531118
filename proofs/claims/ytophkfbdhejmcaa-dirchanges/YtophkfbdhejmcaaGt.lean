/- One; Get: the program's and the document's. -/
import Derived.Test.YtophkfbdhejmcaaRid
namespace Go.Proofs.Ytophkfbdhejmcaa
open Go.RowKit
set_option linter.unusedVariables false
set_option maxRecDepth 20000

set_option maxHeartbeats 800000 in
theorem one_any (id : Int) (w : World) : Calls Try.prog 30 #[.int .i64 id] w fun e w' => ∃ g, e = .returned (.agg #[.int .i64 0, .slice (some ⟨g, 0, none⟩) 1 1]) ∧ IV w' (some ⟨g, 0, none⟩) [id] ∧ w.heap.size ≤ g ∧ Below w.heap.size w w' := by
  go_enter Try.func30, Try.ntmps30
  go_wp2
  refine bodyPost_ret (v := .agg #[.int .i64 0, .slice (some ⟨w.heap.size + 1, 0, none⟩) 1 1]) (by simp [results, Try.results30, go_sem]) rfl ⟨_, rfl, ?_, by omega, ?_⟩
  · have h := iv_one (w.alloc (.cells #[.int .i64 0, .slice (some ⟨w.heap.size + 1, 0, none⟩) 1 1] 26)) id
    simpa using h
  · exact two_blocks _ _ _
theorem set_alloc {W : World} {g : Nat} {o : Obj} {x y u0 u1 : Value} (hz : g < W.heap.size) (r0 : W.cell? ⟨g, 0, none⟩ = some u0) (r1 : W.cell? ⟨g, 1, none⟩ = some u1) : (((W.setCell ⟨g, 0, none⟩ x).setCell ⟨g, 1, none⟩ y).alloc o).cell? ⟨g, 0, none⟩ = some x ∧ (((W.setCell ⟨g, 0, none⟩ x).setCell ⟨g, 1, none⟩ y).alloc o).cell? ⟨g, 1, none⟩ = some y := by
  have B := one_block ((W.setCell ⟨g, 0, none⟩ x).setCell ⟨g, 1, none⟩ y) o
  have hz2 : g < ((W.setCell ⟨g, 0, none⟩ x).setCell ⟨g, 1, none⟩ y).heap.size := by simpa using hz
  have s1 : (W.setCell ⟨g, 0, none⟩ x).cell? ⟨g, 1, none⟩ = some u1 := (World.cell?_setCell_other _ _ _ _ (by simp)).trans r1
  refine ⟨(B.cell (p := ⟨g, 0, none⟩) hz2).trans ?_, (B.cell (p := ⟨g, 1, none⟩) hz2).trans (World.cell?_setCell_same _ _ _ s1)⟩
  exact (World.cell?_setCell_other _ _ _ _ (by simp)).trans (World.cell?_setCell_same _ _ _ r0)
def gtB (d : Int) (zs : List Int) : Bool := decide (unE zs = 0) && decide (chkE d (unL zs) = 0)
def gtE (d : Int) (zs : List Int) : Int := if gtB d zs then 0 else 4
def gtD (d : Int) (zs : List Int) : Int := if gtB d zs then d else 0
def gtL (d : Int) (zs : List Int) : List Int := if gtB d zs then unL zs else []
theorem unL_len (zs : List Int) : (unL zs).length ≤ zs.length := by
  unfold unL
  split
  · rw [unS_len]; omega
  · simp
theorem res_box {w W : World} {t : Nat} {x y : Value} (hb : Below (w.alloc (.cells #[x, y] t)).heap.size (w.alloc (.cells #[x, y] t)) W) : W.cell? ⟨w.heap.size, 0, none⟩ = some x ∧ W.cell? ⟨w.heap.size, 1, none⟩ = some y ∧ W.frozen? ⟨w.heap.size, 0, none⟩ = false ∧ W.frozen? ⟨w.heap.size, 1, none⟩ = false :=
  ⟨(box2 hb).1, (box2 hb).2, (hb.frozen (p := ⟨w.heap.size, 0, none⟩) (by simp)).trans (by go_simp), (hb.frozen (p := ⟨w.heap.size, 1, none⟩) (by simp)).trans (by go_simp)⟩
set_option maxHeartbeats 1600000 in
theorem get_main (d : Int) (a : Option Addr) (cap : Nat) (zs : List Int) (w : World) (hb : BV w a zs) (hn : a = none → cap = 0) (hm : zs.length ≤ 1000) :
    Calls Try.prog 28 #[.int .i64 d, .slice a zs.length cap] w fun e w' => ∃ v, e = .returned (.tuple #[v, .int .i64 (gtE d zs)]) ∧ DV w' v (gtD d zs) (gtL d zs) ∧ Below w.heap.size w w' := by
  have HU : Hid (∀ W, Below w.heap.size w W → Calls Try.prog 43 #[.slice a zs.length cap] W fun e w' => ∃ v, e = .returned (.tuple #[v, .int .i64 (unE zs)]) ∧ OwnI w' W.heap.size v (unL zs) ∧ Below W.heap.size W w') := fun W hW => unw_any a cap zs W (hb.below hW) hn hm
  have HLU := unL_len zs
  have HC : Hid (∀ W a' c', IV W a' (unL zs) → Calls Try.prog 11 #[.agg #[.int .i64 d, .slice a' (unL zs).length c']] W fun e w' => e = .returned (.int .i64 (chkE d (unL zs))) ∧ Below W.heap.size W w') := fun W a' c' h => check_any d a' c' (unL zs) W h (by omega)
  unfold gtE gtD gtL
  clear hb
  by_cases h0 : unE zs = 0
  · rw [h0] at HU
    by_cases h1 : chkE d (unL zs) = 0
    · rw [h1] at HC
      rw [show gtB d zs = true by unfold gtB; rw [decide_eq_true h0, decide_eq_true h1]; rfl]
      clear h0 h1
      generalize unL zs = us at *
      go_enter Try.func28, Try.ntmps28
      go_wp2_with (first
        | (go_at_call 43; refine (HU.out _ (one_block _ _)).mono ?_; rintro e w1 ⟨v, rfl, ho, b1⟩; obtain ⟨a', c', rfl, hn', hiv, _, _⟩ := ho.view; obtain ⟨r0, r1, r2, r3⟩ := res_box b1; have hz : w.heap.size < w1.heap.size := (by have := b1.size; simp at this; omega))
        | (go_at_call 11; refine (HC.out _ a' c' (hiv.iv.below (one_block _ _))).mono ?_; rintro e w2 ⟨rfl, b2⟩; obtain ⟨e0, e1⟩ := box2 b2; clear r0 r1 r2 r3; obtain ⟨r0, r1, r2, r3⟩ := res_box (bt b1 (bt (one_block _ _) b2))))
      refine bodyPost_ret (v := .tuple #[.agg #[.int .i64 d, .slice a' us.length c'], .int .i64 0]) (by simp [results, Try.results28, go_sem, r0, r1]) rfl ⟨_, rfl, ⟨a', c', rfl, hn', ?_⟩, ?_⟩
      · exact ((hiv.keep (fun k _ hk => (bt (one_block w1 _) b2).block k hk) (bt (one_block w1 _) b2).size).set2 (L := w.heap.size) (by simp) (by simp) _ _).iv
      · exact set2_below (bt (one_block _ _) (bt b1 (bt (one_block _ _) b2))) (by omega) _ _
    · rw [show gtB d zs = false by unfold gtB; rw [decide_eq_false h1, Bool.and_false]]
      clear h0
      generalize chkE d (unL zs) = x at *
      generalize unL zs = us at *
      go_enter Try.func28, Try.ntmps28
      go_wp2_with (first
        | (go_at_call 43; refine (HU.out _ (one_block _ _)).mono ?_; rintro e w1 ⟨v, rfl, ho, b1⟩; obtain ⟨a', c', rfl, hn', hiv, _, _⟩ := ho.view; obtain ⟨r0, r1, r2, r3⟩ := res_box b1; have hz : w.heap.size < w1.heap.size := (by have := b1.size; simp at this; omega))
        | (go_at_call 11; refine (HC.out _ a' c' (hiv.iv.below (one_block _ _))).mono ?_; rintro e w2 ⟨rfl, b2⟩; obtain ⟨e0, e1⟩ := box2 b2; clear r0 r1 r2 r3; obtain ⟨r0, r1, r2, r3⟩ := res_box (bt b1 (bt (one_block _ _) b2))))
      refine bodyPost_ret (v := .tuple #[.agg #[.int .i64 0, .slice none 0 0], .int .i64 4]) (by simp [results, Try.results28, go_sem, r0, r1]) rfl ⟨_, rfl, ⟨none, 0, rfl, fun _ => rfl, .inl rfl⟩, ?_⟩
      exact set2_below (bt (one_block _ _) (bt b1 (bt (one_block _ _) b2))) (by omega) _ _
  · rw [show gtB d zs = false by unfold gtB; rw [decide_eq_false h0]; rfl]
    clear HC
    generalize unE zs = x at *
    generalize unL zs = us at *
    go_enter Try.func28, Try.ntmps28
    go_wp2_with (first
      | (go_at_call 43; refine (HU.out _ (one_block _ _)).mono ?_; rintro e w1 ⟨v, rfl, ho, b1⟩; obtain ⟨a', c', rfl, hn', hiv, _, _⟩ := ho.view; obtain ⟨r0, r1, r2, r3⟩ := res_box b1; have hz : w.heap.size < w1.heap.size := (by have := b1.size; simp at this; omega)))
    have QQ := fun o => set_alloc (o := o) (x := .int .i64 0) (y := .slice none 0 0) hz r0 r1
    have q0 := fun o => (QQ o).1
    have q1 := fun o => (QQ o).2
    refine bodyPost_ret (v := .tuple #[.agg #[.int .i64 0, .slice none 0 0], .int .i64 4]) (by simp [results, Try.results28, go_sem, q0, q1]) rfl ⟨_, rfl, ⟨none, 0, rfl, fun _ => rfl, .inl rfl⟩, ?_⟩
    exact bt (set2_below (bt (one_block _ _) b1) (Nat.le_refl _) _ _) (one_block _ _)
set_option maxHeartbeats 1600000 in
theorem rget_main (d : Int) (a : Option Addr) (cap : Nat) (zs : List Int) (w : World) (hb : BV w a zs) (hn : a = none → cap = 0) (hm : zs.length ≤ 1000) :
    Calls Try.prog 29 #[.int .i64 d, .slice a zs.length cap] w fun e w' => ∃ v, e = .returned (.tuple #[v, .int .i64 (gtE d zs)]) ∧ DV w' v (gtD d zs) (gtL d zs) ∧ Below w.heap.size w w' := by
  have HU : Hid (∀ W, Below w.heap.size w W → Calls Try.prog 44 #[.slice a zs.length cap] W fun e w' => ∃ v, e = .returned (.tuple #[v, .int .i64 (unE zs)]) ∧ OwnI w' W.heap.size v (unL zs) ∧ Below W.heap.size W w') := fun W hW => runw_any a cap zs W (hb.below hW) hn hm
  have HLU := unL_len zs
  have HC : Hid (∀ W a' c', IV W a' (unL zs) → Calls Try.prog 12 #[.agg #[.int .i64 d, .slice a' (unL zs).length c']] W fun e w' => e = .returned (.int .i64 (chkE d (unL zs))) ∧ Below W.heap.size W w') := fun W a' c' h => rcheck_any d a' c' (unL zs) W h (by omega)
  unfold gtE gtD gtL
  clear hb
  by_cases h0 : unE zs = 0
  · rw [h0] at HU
    by_cases h1 : chkE d (unL zs) = 0
    · rw [h1] at HC
      rw [show gtB d zs = true by unfold gtB; rw [decide_eq_true h0, decide_eq_true h1]; rfl]
      clear h0 h1
      generalize unL zs = us at *
      go_enter Try.func29, Try.ntmps29
      go_wp2_with (first
        | (go_at_call 44; refine (HU.out _ (one_block _ _)).mono ?_; rintro e w1 ⟨v, rfl, ho, b1⟩; obtain ⟨a', c', rfl, hn', hiv, _, _⟩ := ho.view; obtain ⟨r0, r1, r2, r3⟩ := res_box b1; have hz : w.heap.size < w1.heap.size := (by have := b1.size; simp at this; omega))
        | (go_at_call 12; refine (HC.out _ a' c' (hiv.iv.below (one_block _ _))).mono ?_; rintro e w2 ⟨rfl, b2⟩; obtain ⟨e0, e1⟩ := box2 b2; clear r0 r1 r2 r3; obtain ⟨r0, r1, r2, r3⟩ := res_box (bt b1 (bt (one_block _ _) b2))))
      refine bodyPost_ret (v := .tuple #[.agg #[.int .i64 d, .slice a' us.length c'], .int .i64 0]) (by simp [results, Try.results29, go_sem, r0, r1]) rfl ⟨_, rfl, ⟨a', c', rfl, hn', ?_⟩, ?_⟩
      · exact ((hiv.keep (fun k _ hk => (bt (one_block w1 _) b2).block k hk) (bt (one_block w1 _) b2).size).set2 (L := w.heap.size) (by simp) (by simp) _ _).iv
      · exact set2_below (bt (one_block _ _) (bt b1 (bt (one_block _ _) b2))) (by omega) _ _
    · rw [show gtB d zs = false by unfold gtB; rw [decide_eq_false h1, Bool.and_false]]
      clear h0
      generalize chkE d (unL zs) = x at *
      generalize unL zs = us at *
      go_enter Try.func29, Try.ntmps29
      go_wp2_with (first
        | (go_at_call 44; refine (HU.out _ (one_block _ _)).mono ?_; rintro e w1 ⟨v, rfl, ho, b1⟩; obtain ⟨a', c', rfl, hn', hiv, _, _⟩ := ho.view; obtain ⟨r0, r1, r2, r3⟩ := res_box b1; have hz : w.heap.size < w1.heap.size := (by have := b1.size; simp at this; omega))
        | (go_at_call 12; refine (HC.out _ a' c' (hiv.iv.below (one_block _ _))).mono ?_; rintro e w2 ⟨rfl, b2⟩; obtain ⟨e0, e1⟩ := box2 b2; clear r0 r1 r2 r3; obtain ⟨r0, r1, r2, r3⟩ := res_box (bt b1 (bt (one_block _ _) b2))))
      refine bodyPost_ret (v := .tuple #[.agg #[.int .i64 0, .slice none 0 0], .int .i64 4]) (by simp [results, Try.results29, go_sem, r0, r1]) rfl ⟨_, rfl, ⟨none, 0, rfl, fun _ => rfl, .inl rfl⟩, ?_⟩
      exact set2_below (bt (one_block _ _) (bt b1 (bt (one_block _ _) b2))) (by omega) _ _
  · rw [show gtB d zs = false by unfold gtB; rw [decide_eq_false h0]; rfl]
    clear HC
    generalize unE zs = x at *
    generalize unL zs = us at *
    go_enter Try.func29, Try.ntmps29
    go_wp2_with (first
      | (go_at_call 44; refine (HU.out _ (one_block _ _)).mono ?_; rintro e w1 ⟨v, rfl, ho, b1⟩; obtain ⟨a', c', rfl, hn', hiv, _, _⟩ := ho.view; obtain ⟨r0, r1, r2, r3⟩ := res_box b1; have hz : w.heap.size < w1.heap.size := (by have := b1.size; simp at this; omega)))
    have QQ := fun o => set_alloc (o := o) (x := .int .i64 0) (y := .slice none 0 0) hz r0 r1
    have q0 := fun o => (QQ o).1
    have q1 := fun o => (QQ o).2
    refine bodyPost_ret (v := .tuple #[.agg #[.int .i64 0, .slice none 0 0], .int .i64 4]) (by simp [results, Try.results29, go_sem, q0, q1]) rfl ⟨_, rfl, ⟨none, 0, rfl, fun _ => rfl, .inl rfl⟩, ?_⟩
    exact bt (set2_below (bt (one_block _ _) b1) (Nat.le_refl _) _ _) (one_block _ _)
end Go.Proofs.Ytophkfbdhejmcaa
