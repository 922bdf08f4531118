/- Get of the program. -/
import Derived.Test.YtnnndkpmlpbpcaaGt
namespace Go.Proofs.Ytnnndkpmlpbpcaa
open Go.RowKit
set_option linter.unusedVariables false
set_option maxRecDepth 20000

def gD (zs : List Int) : Int := if isB zs then readD zs else 0
def gN (zs : List Int) : Int := if isB zs then readN zs else 0
def gP (zs : List Int) : List PR := if isB zs then readP zs else []
def gE (zs : List Int) : Int := if isB zs then 0 else 4
set_option maxHeartbeats 4000000 in
theorem get_any2 (a : Option Addr) (cap : Nat) (zs : List Int) (w : World) (hb : BV w a zs) (hm : zs.length ≤ 1000000) (hn : a = none → cap = 0) :
    Calls Try.prog 12 #[.slice a zs.length cap] w fun e w' => ∃ v, e = .returned (.tuple #[.agg #[.int .i64 (gD zs), .int .i64 (gN zs), v], .int .i64 (gE zs)]) ∧ OwnQ w' w.heap.size v (gP zs) ∧ Below w.heap.size w w' := by
  have RD := read_any a cap zs (w.alloc (.cells #[.int .i64 0, .int .i64 0, .slice none 0 0] 28)) (hb.below (one_block _ _)) hm hn
  have PT : Hid (∀ W a1 c1, PV W a1 (readP zs) → Calls Try.prog 10 #[.agg #[.int .i64 (readD zs), .int .i64 (readN zs), .slice a1 (readP zs).length c1]] W fun e w' => ∃ v, e = .returned (.tuple #[v, .int .i64 (checkE (readD zs) (readN zs) (readP zs))]) ∧ Own w' W.heap.size v (putB (readD zs) (readN zs) (readP zs)) ∧ Below W.heap.size W w') := fun W a1 c1 h1 => bput_any _ _ a1 c1 _ W h1 (by have := readP_len hb.1; omega) (readP_lp hb.1)
  have EQ : Hid (∀ W a1 c1, Below w.heap.size w W → BV W a1 (putB (readD zs) (readN zs) (readP zs)) → (a1 = none → c1 = 0) → Calls Try.prog 38 #[.slice a1 (putB (readD zs) (readN zs) (readP zs)).length c1, .slice a zs.length cap] W fun e w' => e = .returned (.bool (decide (putB (readD zs) (readN zs) (readP zs) = zs))) ∧ Below W.heap.size W w') := fun W a1 c1 hW h1 h2 => beq_any a1 a c1 cap _ zs W h1 (hb.below hW) h2 hn
  have PA : Hid (AllB (putB (readD zs) (readN zs) (readP zs))) := putB_all _ _ _
  obtain ⟨r, hr⟩ : ∃ r, r = isB zs := ⟨_, rfl⟩
  have HR : Hid (r = decide (checkE (readD zs) (readN zs) (readP zs) = 0 ∧ putB (readD zs) (readN zs) (readP zs) = zs)) := hr
  unfold gD gN gP gE
  rw [← hr]
  clear hr hb
  generalize readP zs = ps at *
  generalize readD zs = d at *
  generalize readN zs = n at *
  generalize checkE d n ps = E at *
  generalize putB d n ps = bs at *
  have FR : Hid (∀ w1, Below (w.alloc (.cells #[.int .i64 0, .int .i64 0, .slice none 0 0] 28)).heap.size (w.alloc (.cells #[.int .i64 0, .int .i64 0, .slice none 0 0] 28)) w1 → ∀ (v : Value) w3, Below (w1.alloc (.cells #[.int .i64 d, .int .i64 n, v] 28)).heap.size (w1.alloc (.cells #[.int .i64 d, .int .i64 n, v] 28)) w3 → Blk w3 w.heap.size 0 0 (.slice none 0 0) ∧ Blk w3 w1.heap.size d n v) := fun w1 h1 v w3 h3 => by
    have hs := h1.size
    simp only [World.alloc, Array.size_push] at hs
    have e1 : Blk w1 w.heap.size 0 0 (.slice none 0 0) := (h1.block w.heap.size (by simp)).trans (heap_alloc_new w _)
    exact ⟨(h3.block _ (by simp; omega)).trans ((Below.heap_alloc _ _ _ e1.lt).trans e1), (h3.block _ (by simp)).trans (heap_alloc_new w1 _)⟩
  by_cases hE : E = 0
  · subst hE
    by_cases hz : bs = zs
    · have hr1 : r = true := by rw [HR.out]; simp [hz]
      subst hr1
      rw [decide_eq_true hz] at EQ
      simp only [if_true]
      clear HR hz
      go_enter Try.func12, Try.ntmps12
      go_wp2_with (first | (go_at_call 37; refine RD.mono ?_; rintro e w1 ⟨v1, rfl, ho1, hb1⟩; clear RD; obtain ⟨a1, c1, rfl, n1, pv1, _, _⟩ := ho1.view) | (go_at_call 10; refine (PT.out _ _ _ (pv1.below (one_block _ _))).mono ?_; rintro e w2 ⟨v2, rfl, ho2, hb2⟩; clear PT; obtain ⟨a2, c2, rfl, n2, bv2, _, _⟩ := ho2.slice PA.out; obtain ⟨r0, r1, r2, q0, q1, q2⟩ := ((FR.out w1 hb1 _ w2 hb2).1).cells; obtain ⟨s0, s1, s2, _, _, _⟩ := ((FR.out w1 hb1 _ w2 hb2).2).cells) | (go_at_call 38; refine (EQ.out _ _ _ (bt (bt (bt (one_block _ _) hb1) (one_block _ _)) hb2) bv2 n2).mono ?_; rintro e w3 ⟨rfl, hb3⟩; clear EQ; clear r0 r1 r2 q0 q1 q2 s0 s1 s2; obtain ⟨r0, r1, r2, q0, q1, q2⟩ := ((FR.out w1 hb1 _ w3 (bt hb2 hb3)).1).cells; obtain ⟨s0, s1, s2, _, _, _⟩ := ((FR.out w1 hb1 _ w3 (bt hb2 hb3)).2).cells))
      have q9 := hb1.size
      simp only [World.alloc, Array.size_push] at q9
      refine bodyPost_ret (v := .tuple #[.agg #[.int .i64 d, .int .i64 n, .slice a1 ps.length c1], .int .i64 0]) (by simp [results, Try.results12, go_sem, r0, r1, r2]) rfl ⟨_, rfl, ?_, ?_⟩
      · exact own_set3 (((ho1.below (one_block _ _)).below hb2).below hb3) (by simp) (by simp)
      · exact (((bt (bt (bt (bt (one_block _ _) hb1) (one_block _ _)) hb2) hb3).setCell (by simp) _).setCell (by simp) _).setCell (by simp) _
    · have hr1 : r = false := by rw [HR.out]; simp [hz]
      subst hr1
      rw [decide_eq_false hz] at EQ
      simp only [Bool.false_eq_true, if_false]
      clear HR hz
      go_enter Try.func12, Try.ntmps12
      go_wp2_with (first | (go_at_call 37; refine RD.mono ?_; rintro e w1 ⟨v1, rfl, ho1, hb1⟩; clear RD; obtain ⟨a1, c1, rfl, n1, pv1, _, _⟩ := ho1.view) | (go_at_call 10; refine (PT.out _ _ _ (pv1.below (one_block _ _))).mono ?_; rintro e w2 ⟨v2, rfl, ho2, hb2⟩; clear PT; obtain ⟨a2, c2, rfl, n2, bv2, _, _⟩ := ho2.slice PA.out; obtain ⟨r0, r1, r2, q0, q1, q2⟩ := ((FR.out w1 hb1 _ w2 hb2).1).cells; obtain ⟨s0, s1, s2, _, _, _⟩ := ((FR.out w1 hb1 _ w2 hb2).2).cells) | (go_at_call 38; refine (EQ.out _ _ _ (bt (bt (bt (one_block _ _) hb1) (one_block _ _)) hb2) bv2 n2).mono ?_; rintro e w3 ⟨rfl, hb3⟩; clear EQ; clear r0 r1 r2 q0 q1 q2 s0 s1 s2; obtain ⟨r0, r1, r2, q0, q1, q2⟩ := ((FR.out w1 hb1 _ w3 (bt hb2 hb3)).1).cells; obtain ⟨s0, s1, s2, _, _, _⟩ := ((FR.out w1 hb1 _ w3 (bt hb2 hb3)).2).cells))
      refine bodyPost_ret (v := .tuple #[.agg #[.int .i64 0, .int .i64 0, .slice none 0 0], .int .i64 4]) (by simp [results, Try.results12, go_sem, r0, r1, r2]) rfl ⟨_, rfl, OwnQ.nil _ _, ?_⟩
      exact (((bt (bt (bt (bt (one_block _ _) hb1) (one_block _ _)) hb2) hb3).setCell (by simp) _).setCell (by simp) _).setCell (by simp) _
  · have hr1 : r = false := by rw [HR.out]; simp [hE]
    subst hr1
    have hE2 : (E == 0) = false := by simpa using hE
    simp only [Bool.false_eq_true, if_false]
    clear HR
    go_enter Try.func12, Try.ntmps12
    go_wp2_with (first | (go_at_call 37; refine RD.mono ?_; rintro e w1 ⟨v1, rfl, ho1, hb1⟩; clear RD; obtain ⟨a1, c1, rfl, n1, pv1, _, _⟩ := ho1.view) | (go_at_call 10; refine (PT.out _ _ _ (pv1.below (one_block _ _))).mono ?_; rintro e w2 ⟨v2, rfl, ho2, hb2⟩; clear PT; obtain ⟨a2, c2, rfl, n2, bv2, _, _⟩ := ho2.slice PA.out; obtain ⟨r0, r1, r2, q0, q1, q2⟩ := ((FR.out w1 hb1 _ w2 hb2).1).cells; obtain ⟨s0, s1, s2, _, _, _⟩ := ((FR.out w1 hb1 _ w2 hb2).2).cells) | (go_at_call 38; refine (EQ.out _ _ _ (bt (bt (bt (one_block _ _) hb1) (one_block _ _)) hb2) bv2 n2).mono ?_; rintro e w3 ⟨rfl, hb3⟩; clear EQ; clear r0 r1 r2 q0 q1 q2 s0 s1 s2; obtain ⟨r0, r1, r2, q0, q1, q2⟩ := ((FR.out w1 hb1 _ w3 (bt hb2 hb3)).1).cells; obtain ⟨s0, s1, s2, _, _, _⟩ := ((FR.out w1 hb1 _ w3 (bt hb2 hb3)).2).cells))
    refine bodyPost_ret (v := .tuple #[.agg #[.int .i64 0, .int .i64 0, .slice none 0 0], .int .i64 4]) (by simp [results, Try.results12, go_sem, r0, r1, r2]) rfl ⟨_, rfl, OwnQ.nil _ _, ?_⟩
    exact (((bt (bt (bt (one_block _ _) hb1) (one_block _ _)) hb2).setCell (by simp) _).setCell (by simp) _).setCell (by simp) _
end Go.Proofs.Ytnnndkpmlpbpcaa
