/- Set: the program's. -/
import Derived.Test.YtophkfbdhejmcaaHv
namespace Go.Proofs.Ytophkfbdhejmcaa
open Go.RowKit
set_option linter.unusedVariables false
set_option maxRecDepth 20000

set_option maxHeartbeats 3200000 in
theorem set_no1 (d : Int) (a : Option Addr) (cap : Nat) (zs : List Int) (p k id : Int) (w : World) (hp : IV w a zs) (hl : zs.length ≤ 100000) (hn : a = none → cap = 0) (h0 : ¬ chkE d zs = 0) :
    Calls Try.prog 26 #[dv d a zs.length cap, .int .i64 p, .int .i64 k, .int .i64 id] w fun e w' => ∃ v, e = .returned v ∧ DV w' v d (zs) ∧ Below w.heap.size w w' := by
  replace hl : zs.length ≤ 1000000 := by omega
  obtain ⟨W0, hW0⟩ : ∃ W0, W0 = (w.alloc (.cells #[.int .i64 d, .slice a zs.length cap] 26)).alloc (.cells #[.int .i64 0, .slice none 0 0] 26) := ⟨_, rfl⟩
  have HB0 : Hid (Below w.heap.size w W0) := by rw [hW0]; exact two_blocks _ _ _
  have HS0 : Hid (W0.heap.size = w.heap.size + 1 + 1) := by rw [hW0]; simp [Hid]
  have HC : Hid (∀ W, Below w.heap.size w W → Calls Try.prog 11 #[.agg #[.int .i64 d, .slice a zs.length cap]] W fun e w' => e = .returned (.int .i64 (chkE d zs)) ∧ Below W.heap.size W w') := fun W hW => check_any d a cap zs W (hp.below hW) hl
  have HK : Hid (∀ W, Below w.heap.size w W → Calls Try.prog 41 #[.agg #[.int .i64 d, .slice a zs.length cap]] W fun e w' => ∃ v, e = .returned (.agg #[.int .i64 d, v]) ∧ OwnI w' (W.heap.size + 2) v zs ∧ Below W.heap.size W w') := fun W hW => clone_o d a cap zs W (hp.below hW) hl hn
  have CL : Hid (∀ W, Below W0.heap.size W0 W → W.cell? ⟨w.heap.size, 0, none⟩ = some (.int .i64 d) ∧ W.cell? ⟨w.heap.size, 1, none⟩ = some (.slice a zs.length cap) ∧ W.cell? ⟨w.heap.size + 1, 0, none⟩ = some (.int .i64 0) ∧ W.cell? ⟨w.heap.size + 1, 1, none⟩ = some (.slice none 0 0) ∧ W.frozen? ⟨w.heap.size + 1, 0, none⟩ = false ∧ W.frozen? ⟨w.heap.size + 1, 1, none⟩ = false) := fun W hW => by
    rw [hW0] at hW
    exact box22 hW
  clear hp
  generalize chkE d zs = x at *
  unfold dv
  go_enter Try.func26, Try.ntmps26
  go_wp2_with (first
    | (go_at_call 41; rw [← hW0]; refine (HK.out _ HB0.out).mono ?_; rintro e w1 ⟨v, rfl, ho, b1⟩; obtain ⟨a', c', rfl, hn', hiv, _, _⟩ := ho.view; clear hW0; obtain ⟨c0, c1, c2, c3, c4, c5⟩ := CL.out _ b1; have hz : w.heap.size < w1.heap.size := (by have := HS0.out; have := b1.size; omega); have hz1 : w.heap.size + 1 < w1.heap.size := (by have := HS0.out; have := b1.size; omega))
    | (go_at_call 11; refine (HC.out _ (bt HB0.out (bt b1 (one_block _ _)))).mono ?_; rintro e w2 ⟨rfl, b2⟩; obtain ⟨e0, e1⟩ := box2 b2; clear c0 c1 c2 c3 c4 c5; obtain ⟨c0, c1, c2, c3, c4, c5⟩ := CL.out _ (bt b1 (bt (one_block _ _) b2))))
  refine bodyPost_ret (v := .agg #[.int .i64 d, .slice a' zs.length c']) (by simp [results, Try.results26, go_sem, c2, c3]) rfl ⟨_, rfl, ⟨a', c', rfl, hn', ?_⟩, ?_⟩
  · exact ((hiv.keep (fun k _ hk => (bt (one_block w1 _) b2).block k hk) (bt (one_block w1 _) b2).size).set2 (L := w.heap.size) (by have := HS0.out; show w.heap.size + 1 < _; omega) (by have := HS0.out; omega) _ _).iv
  · exact set2_below (bt HB0.out (bt b1 (bt (one_block _ _) b2))) (by omega) _ _
set_option maxHeartbeats 3200000 in
theorem set_no2 (d : Int) (a : Option Addr) (cap : Nat) (zs : List Int) (p k id : Int) (w : World) (hp : IV w a zs) (hl : zs.length ≤ 100000) (hn : a = none → cap = 0) (h0 : chkE d zs = 0) (h1 : ¬ (0 ≤ k ∧ k ≤ d)) :
    Calls Try.prog 26 #[dv d a zs.length cap, .int .i64 p, .int .i64 k, .int .i64 id] w fun e w' => ∃ v, e = .returned v ∧ DV w' v d (zs) ∧ Below w.heap.size w w' := by
  replace hl : zs.length ≤ 1000000 := by omega
  obtain ⟨W0, hW0⟩ : ∃ W0, W0 = (w.alloc (.cells #[.int .i64 d, .slice a zs.length cap] 26)).alloc (.cells #[.int .i64 0, .slice none 0 0] 26) := ⟨_, rfl⟩
  have HB0 : Hid (Below w.heap.size w W0) := by rw [hW0]; exact two_blocks _ _ _
  have HS0 : Hid (W0.heap.size = w.heap.size + 1 + 1) := by rw [hW0]; simp [Hid]
  have HC : Hid (∀ W, Below w.heap.size w W → Calls Try.prog 11 #[.agg #[.int .i64 d, .slice a zs.length cap]] W fun e w' => e = .returned (.int .i64 (chkE d zs)) ∧ Below W.heap.size W w') := fun W hW => check_any d a cap zs W (hp.below hW) hl
  have HK : Hid (∀ W, Below w.heap.size w W → Calls Try.prog 41 #[.agg #[.int .i64 d, .slice a zs.length cap]] W fun e w' => ∃ v, e = .returned (.agg #[.int .i64 d, v]) ∧ OwnI w' (W.heap.size + 2) v zs ∧ Below W.heap.size W w') := fun W hW => clone_o d a cap zs W (hp.below hW) hl hn
  have CL : Hid (∀ W, Below W0.heap.size W0 W → W.cell? ⟨w.heap.size, 0, none⟩ = some (.int .i64 d) ∧ W.cell? ⟨w.heap.size, 1, none⟩ = some (.slice a zs.length cap) ∧ W.cell? ⟨w.heap.size + 1, 0, none⟩ = some (.int .i64 0) ∧ W.cell? ⟨w.heap.size + 1, 1, none⟩ = some (.slice none 0 0) ∧ W.frozen? ⟨w.heap.size + 1, 0, none⟩ = false ∧ W.frozen? ⟨w.heap.size + 1, 1, none⟩ = false) := fun W hW => by
    rw [hW0] at hW
    exact box22 hW
  have HW1 : Hid (∀ W, Calls Try.prog 33 #[.int .i64 k, .int .i64 0, .int .i64 d] W fun e w' => e = .returned (.bool false) ∧ w' = W) := fun W => by
    have := dwithin_any k 0 d W
    rw [show (decide (0 ≤ k) && decide (k ≤ d)) = false by simp only [Bool.and_eq_false_iff, decide_eq_false_iff_not]; omega] at this
    exact this
  rw [h0] at HC
  clear hp h0 h1
  unfold dv
  go_enter Try.func26, Try.ntmps26
  go_wp2_with (first
    | (go_at_call 41; rw [← hW0]; refine (HK.out _ HB0.out).mono ?_; rintro e w1 ⟨v, rfl, ho, b1⟩; obtain ⟨a', c', rfl, hn', hiv, _, _⟩ := ho.view; clear hW0; obtain ⟨c0, c1, c2, c3, c4, c5⟩ := CL.out _ b1; have hz : w.heap.size < w1.heap.size := (by have := HS0.out; have := b1.size; omega); have hz1 : w.heap.size + 1 < w1.heap.size := (by have := HS0.out; have := b1.size; omega))
    | (go_at_call 11; refine (HC.out _ (bt HB0.out (bt b1 (one_block _ _)))).mono ?_; rintro e w2 ⟨rfl, b2⟩; obtain ⟨e0, e1⟩ := box2 b2; clear c0 c1 c2 c3 c4 c5; obtain ⟨c0, c1, c2, c3, c4, c5⟩ := CL.out _ (bt b1 (bt (one_block _ _) b2)))
    | (go_at_call 33; refine (HW1.out _).mono ?_; rintro e w3 ⟨rfl, hw⟩; obtain rfl := hw.symm; clear HW1))
  refine bodyPost_ret (v := .agg #[.int .i64 d, .slice a' zs.length c']) (by simp [results, Try.results26, go_sem, c2, c3]) rfl ⟨_, rfl, ⟨a', c', rfl, hn', ?_⟩, ?_⟩
  · exact ((hiv.keep (fun k _ hk => (bt (one_block w1 _) b2).block k hk) (bt (one_block w1 _) b2).size).set2 (L := w.heap.size) (by have := HS0.out; show w.heap.size + 1 < _; omega) (by have := HS0.out; omega) _ _).iv
  · exact set2_below (bt HB0.out (bt b1 (bt (one_block _ _) b2))) (by omega) _ _
set_option maxHeartbeats 3200000 in
theorem set_no3 (d : Int) (a : Option Addr) (cap : Nat) (zs : List Int) (p k id : Int) (w : World) (hp : IV w a zs) (hl : zs.length ≤ 100000) (hn : a = none → cap = 0) (h0 : chkE d zs = 0) (h1 : 0 ≤ k ∧ k ≤ d) (h2 : ¬ (0 ≤ p ∧ p < (pwr k : Nat))) :
    Calls Try.prog 26 #[dv d a zs.length cap, .int .i64 p, .int .i64 k, .int .i64 id] w fun e w' => ∃ v, e = .returned v ∧ DV w' v d (zs) ∧ Below w.heap.size w w' := by
  replace hl : zs.length ≤ 1000000 := by omega
  obtain ⟨W0, hW0⟩ : ∃ W0, W0 = (w.alloc (.cells #[.int .i64 d, .slice a zs.length cap] 26)).alloc (.cells #[.int .i64 0, .slice none 0 0] 26) := ⟨_, rfl⟩
  have HB0 : Hid (Below w.heap.size w W0) := by rw [hW0]; exact two_blocks _ _ _
  have HS0 : Hid (W0.heap.size = w.heap.size + 1 + 1) := by rw [hW0]; simp [Hid]
  have HC : Hid (∀ W, Below w.heap.size w W → Calls Try.prog 11 #[.agg #[.int .i64 d, .slice a zs.length cap]] W fun e w' => e = .returned (.int .i64 (chkE d zs)) ∧ Below W.heap.size W w') := fun W hW => check_any d a cap zs W (hp.below hW) hl
  have HK : Hid (∀ W, Below w.heap.size w W → Calls Try.prog 41 #[.agg #[.int .i64 d, .slice a zs.length cap]] W fun e w' => ∃ v, e = .returned (.agg #[.int .i64 d, v]) ∧ OwnI w' (W.heap.size + 2) v zs ∧ Below W.heap.size W w') := fun W hW => clone_o d a cap zs W (hp.below hW) hl hn
  have CL : Hid (∀ W, Below W0.heap.size W0 W → W.cell? ⟨w.heap.size, 0, none⟩ = some (.int .i64 d) ∧ W.cell? ⟨w.heap.size, 1, none⟩ = some (.slice a zs.length cap) ∧ W.cell? ⟨w.heap.size + 1, 0, none⟩ = some (.int .i64 0) ∧ W.cell? ⟨w.heap.size + 1, 1, none⟩ = some (.slice none 0 0) ∧ W.frozen? ⟨w.heap.size + 1, 0, none⟩ = false ∧ W.frozen? ⟨w.heap.size + 1, 1, none⟩ = false) := fun W hW => by
    rw [hW0] at hW
    exact box22 hW
  have HW1 : Hid (∀ W, Calls Try.prog 33 #[.int .i64 k, .int .i64 0, .int .i64 d] W fun e w' => e = .returned (.bool true) ∧ w' = W) := fun W => by
    have := dwithin_any k 0 d W
    rw [show (decide (0 ≤ k) && decide (k ≤ d)) = true by simp; omega] at this
    exact this
  have HPW : Hid (∀ W, Calls Try.prog 35 #[.int .i64 k] W fun e w' => e = .returned (.int .i64 (pwr k : Nat)) ∧ w' = W) := fun W => power_any k W (by have := (chkE_ok h0).1; omega)
  have HW2 : Hid (∀ W, Calls Try.prog 33 #[.int .i64 p, .int .i64 0, .int .i64 ((pwr k : Nat) - 1)] W fun e w' => e = .returned (.bool false) ∧ w' = W) := fun W => by
    have := dwithin_any p 0 ((pwr k : Nat) - 1) W
    rw [show (decide (0 ≤ p) && decide (p ≤ (pwr k : Nat) - 1)) = false by simp only [Bool.and_eq_false_iff, decide_eq_false_iff_not]; omega] at this
    exact this
  have HPL := (pw_le (show 0 ≤ k ∧ k ≤ 10 by have := (chkE_ok h0).1; omega))
  rw [h0] at HC
  clear hp h0 h1 h2
  generalize pwr k = P at *
  unfold dv
  go_enter Try.func26, Try.ntmps26
  go_wp2_with (first
    | (go_at_call 41; rw [← hW0]; refine (HK.out _ HB0.out).mono ?_; rintro e w1 ⟨v, rfl, ho, b1⟩; obtain ⟨a', c', rfl, hn', hiv, _, _⟩ := ho.view; clear hW0; obtain ⟨c0, c1, c2, c3, c4, c5⟩ := CL.out _ b1; have hz : w.heap.size < w1.heap.size := (by have := HS0.out; have := b1.size; omega); have hz1 : w.heap.size + 1 < w1.heap.size := (by have := HS0.out; have := b1.size; omega))
    | (go_at_call 11; refine (HC.out _ (bt HB0.out (bt b1 (one_block _ _)))).mono ?_; rintro e w2 ⟨rfl, b2⟩; obtain ⟨e0, e1⟩ := box2 b2; clear c0 c1 c2 c3 c4 c5; obtain ⟨c0, c1, c2, c3, c4, c5⟩ := CL.out _ (bt b1 (bt (one_block _ _) b2)))
    | (go_at_call 33; refine (HW1.out _).mono ?_; rintro e w3 ⟨rfl, hw⟩; obtain rfl := hw.symm; clear HW1)
    | (go_at_call 35; refine (HPW.out _).mono ?_; rintro e w3 ⟨rfl, hw⟩; obtain rfl := hw.symm; clear HPW)
    | (go_at_call 33; refine (HW2.out _).mono ?_; rintro e w3 ⟨rfl, hw⟩; obtain rfl := hw.symm; clear HW2))
  refine bodyPost_ret (v := .agg #[.int .i64 d, .slice a' zs.length c']) (by simp [results, Try.results26, go_sem, c2, c3]) rfl ⟨_, rfl, ⟨a', c', rfl, hn', ?_⟩, ?_⟩
  · exact ((hiv.keep (fun k _ hk => (bt (one_block w1 _) b2).block k hk) (bt (one_block w1 _) b2).size).set2 (L := w.heap.size) (by have := HS0.out; show w.heap.size + 1 < _; omega) (by have := HS0.out; omega) _ _).iv
  · exact set2_below (bt HB0.out (bt b1 (bt (one_block _ _) b2))) (by omega) _ _
set_option maxHeartbeats 3200000 in
theorem set_no4 (d : Int) (a : Option Addr) (cap : Nat) (zs : List Int) (p k id : Int) (w : World) (hp : IV w a zs) (hl : zs.length ≤ 100000) (hn : a = none → cap = 0) (h0 : chkE d zs = 0) (h1 : 0 ≤ k ∧ k ≤ d) (h2 : 0 ≤ p ∧ p < (pwr k : Nat)) (h3 : isP id = false) :
    Calls Try.prog 26 #[dv d a zs.length cap, .int .i64 p, .int .i64 k, .int .i64 id] w fun e w' => ∃ v, e = .returned v ∧ DV w' v d (zs) ∧ Below w.heap.size w w' := by
  replace hl : zs.length ≤ 1000000 := by omega
  obtain ⟨W0, hW0⟩ : ∃ W0, W0 = (w.alloc (.cells #[.int .i64 d, .slice a zs.length cap] 26)).alloc (.cells #[.int .i64 0, .slice none 0 0] 26) := ⟨_, rfl⟩
  have HB0 : Hid (Below w.heap.size w W0) := by rw [hW0]; exact two_blocks _ _ _
  have HS0 : Hid (W0.heap.size = w.heap.size + 1 + 1) := by rw [hW0]; simp [Hid]
  have HC : Hid (∀ W, Below w.heap.size w W → Calls Try.prog 11 #[.agg #[.int .i64 d, .slice a zs.length cap]] W fun e w' => e = .returned (.int .i64 (chkE d zs)) ∧ Below W.heap.size W w') := fun W hW => check_any d a cap zs W (hp.below hW) hl
  have HK : Hid (∀ W, Below w.heap.size w W → Calls Try.prog 41 #[.agg #[.int .i64 d, .slice a zs.length cap]] W fun e w' => ∃ v, e = .returned (.agg #[.int .i64 d, v]) ∧ OwnI w' (W.heap.size + 2) v zs ∧ Below W.heap.size W w') := fun W hW => clone_o d a cap zs W (hp.below hW) hl hn
  have CL : Hid (∀ W, Below W0.heap.size W0 W → W.cell? ⟨w.heap.size, 0, none⟩ = some (.int .i64 d) ∧ W.cell? ⟨w.heap.size, 1, none⟩ = some (.slice a zs.length cap) ∧ W.cell? ⟨w.heap.size + 1, 0, none⟩ = some (.int .i64 0) ∧ W.cell? ⟨w.heap.size + 1, 1, none⟩ = some (.slice none 0 0) ∧ W.frozen? ⟨w.heap.size + 1, 0, none⟩ = false ∧ W.frozen? ⟨w.heap.size + 1, 1, none⟩ = false) := fun W hW => by
    rw [hW0] at hW
    exact box22 hW
  have HW1 : Hid (∀ W, Calls Try.prog 33 #[.int .i64 k, .int .i64 0, .int .i64 d] W fun e w' => e = .returned (.bool true) ∧ w' = W) := fun W => by
    have := dwithin_any k 0 d W
    rw [show (decide (0 ≤ k) && decide (k ≤ d)) = true by simp; omega] at this
    exact this
  have HPW : Hid (∀ W, Calls Try.prog 35 #[.int .i64 k] W fun e w' => e = .returned (.int .i64 (pwr k : Nat)) ∧ w' = W) := fun W => power_any k W (by have := (chkE_ok h0).1; omega)
  have HW2 : Hid (∀ W, Calls Try.prog 33 #[.int .i64 p, .int .i64 0, .int .i64 ((pwr k : Nat) - 1)] W fun e w' => e = .returned (.bool true) ∧ w' = W) := fun W => by
    have := dwithin_any p 0 ((pwr k : Nat) - 1) W
    rw [show (decide (0 ≤ p) && decide (p ≤ (pwr k : Nat) - 1)) = true by simp; omega] at this
    exact this
  have HPL := (pw_le (show 0 ≤ k ∧ k ≤ 10 by have := (chkE_ok h0).1; omega))
  have HIP : Hid (∀ W, Calls Try.prog 34 #[.int .i64 id] W fun e w' => e = .returned (.bool false) ∧ w' = W) := fun W => by
    have := ispage_any id W
    rw [h3] at this
    exact this
  rw [h0] at HC
  clear hp h0 h1 h2 h3
  generalize pwr k = P at *
  unfold dv
  go_enter Try.func26, Try.ntmps26
  go_wp2_with (first
    | (go_at_call 41; rw [← hW0]; refine (HK.out _ HB0.out).mono ?_; rintro e w1 ⟨v, rfl, ho, b1⟩; obtain ⟨a', c', rfl, hn', hiv, _, _⟩ := ho.view; clear hW0; obtain ⟨c0, c1, c2, c3, c4, c5⟩ := CL.out _ b1; have hz : w.heap.size < w1.heap.size := (by have := HS0.out; have := b1.size; omega); have hz1 : w.heap.size + 1 < w1.heap.size := (by have := HS0.out; have := b1.size; omega))
    | (go_at_call 11; refine (HC.out _ (bt HB0.out (bt b1 (one_block _ _)))).mono ?_; rintro e w2 ⟨rfl, b2⟩; obtain ⟨e0, e1⟩ := box2 b2; clear c0 c1 c2 c3 c4 c5; obtain ⟨c0, c1, c2, c3, c4, c5⟩ := CL.out _ (bt b1 (bt (one_block _ _) b2)))
    | (go_at_call 33; refine (HW1.out _).mono ?_; rintro e w3 ⟨rfl, hw⟩; obtain rfl := hw.symm; clear HW1)
    | (go_at_call 35; refine (HPW.out _).mono ?_; rintro e w3 ⟨rfl, hw⟩; obtain rfl := hw.symm; clear HPW)
    | (go_at_call 33; refine (HW2.out _).mono ?_; rintro e w3 ⟨rfl, hw⟩; obtain rfl := hw.symm; clear HW2)
    | (go_at_call 34; refine (HIP.out _).mono ?_; rintro e w3 ⟨rfl, hw⟩; obtain rfl := hw.symm; clear HIP))
  refine bodyPost_ret (v := .agg #[.int .i64 d, .slice a' zs.length c']) (by simp [results, Try.results26, go_sem, c2, c3]) rfl ⟨_, rfl, ⟨a', c', rfl, hn', ?_⟩, ?_⟩
  · exact ((hiv.keep (fun k _ hk => (bt (one_block w1 _) b2).block k hk) (bt (one_block w1 _) b2).size).set2 (L := w.heap.size) (by have := HS0.out; show w.heap.size + 1 < _; omega) (by have := HS0.out; omega) _ _).iv
  · exact set2_below (bt HB0.out (bt b1 (bt (one_block _ _) b2))) (by omega) _ _
/-- A row of n ints whose first k are new. -/
def fillG (f g : Nat → Int) (n k : Nat) : List Value := (List.range n).map fun i => Value.int .i64 (if i < k then f i else g i)
theorem fillG_len (f g : Nat → Int) (n k : Nat) : (fillG f g n k).length = n := by simp [fillG]
theorem fillG_zero (f : Nat → Int) (zs : List Int) : fillG f (fun i => zs.getD i 0) zs.length 0 = zs.map (Value.int .i64) := by
  unfold fillG
  apply List.ext_getElem (by simp)
  intro i h1 h2
  simp [List.getD_eq_getElem?_getD, List.getElem?_eq_getElem (show i < zs.length by simpa using h2)]
theorem fillG_full (f g : Nat → Int) (n : Nat) : fillG f g n n = (tabL f n).map (Value.int .i64) := by
  unfold fillG tabL
  rw [List.map_map]
  apply List.map_congr_left
  intro i hi
  rw [if_pos (List.mem_range.1 hi)]; rfl
theorem fillG_set (f g : Nat → Int) (n k : Nat) (h : k < n) : (fillG f g n k).set k (.int .i64 (f k)) = fillG f g n (k + 1) := by
  unfold fillG
  apply List.ext_getElem (by simp)
  intro i h1 h2
  rw [List.getElem_set]
  simp only [List.getElem_map, List.getElem_range]
  by_cases e : k = i
  · subst e; rw [if_pos rfl, if_pos (by omega)]
  · rw [if_neg e]
    by_cases e2 : i < k
    · rw [if_pos e2, if_pos (by omega)]
    · rw [if_neg e2, if_neg (by omega)]
theorem fillG_skip (f g : Nat → Int) (n k : Nat) (h : f k = g k) : fillG f g n k = fillG f g n (k + 1) := by
  unfold fillG
  apply List.map_congr_left
  intro i _
  by_cases e : i = k
  · subst e; rw [if_neg (by omega), if_pos (by omega), h]
  · by_cases e2 : i < k
    · rw [if_pos e2, if_pos (by omega)]
    · rw [if_neg e2, if_neg (by omega)]
theorem OwnI.pos {w : World} {K : Nat} {a : Option Addr} {c n : Nat} {zs : List Int} (h : OwnI w K (.slice a n c) zs) (h0 : 1 ≤ zs.length) : ∃ g, a = some ⟨g, 0, none⟩ ∧ K ≤ g ∧ g < w.heap.size := by
  have hl := World.ownsRow.lt h
  rcases h.2 with ⟨_, h1⟩ | ⟨g, cap, cur, e, hb, hg, _⟩
  · omega
  · obtain ⟨rfl, _, _⟩ := Value.slice.inj e
    exact ⟨g, rfl, hb, (hl g rfl).2⟩
theorem grow_set {w w' : World} {g : Nat} (h : w.grownBy w' (some g)) (p : Addr) (hp : p.block = g) (u : Value) : w.grownBy (w'.setCell p u) (some g) := by
  have hB : Below 0 w' (w'.setCell p u) := (Below.refl _ _).setCell (Nat.zero_le _) _
  refine ⟨hB.os.trans h.os, hB.tape.trans h.tape, hB.output.trans h.output, Nat.le_trans h.size hB.size, fun j hj hne => ?_⟩
  rw [Below.heap_setCell _ _ _ _ (by rw [hp]; intro e; exact hne (by rw [e]))]
  exact h.block j hj hne
set_option maxHeartbeats 3200000 in
theorem set_yes (d : Int) (a : Option Addr) (cap : Nat) (zs : List Int) (p k id : Int) (w : World) (hp : IV w a zs) (hl : zs.length ≤ 100000) (hn : a = none → cap = 0) (h0 : chkE d zs = 0) (h1 : 0 ≤ k ∧ k ≤ d) (h2 : 0 ≤ p ∧ p < (pwr k : Nat)) (h3 : isP id = true) :
    Calls Try.prog 26 #[dv d a zs.length cap, .int .i64 p, .int .i64 k, .int .i64 id] w fun e w' => ∃ v, e = .returned v ∧ DV w' v d (tabL (setF d zs p k id) zs.length) ∧ Below w.heap.size w w' := by
  replace hl : zs.length ≤ 1000000 := by omega
  obtain ⟨W0, hW0⟩ : ∃ W0, W0 = (w.alloc (.cells #[.int .i64 d, .slice a zs.length cap] 26)).alloc (.cells #[.int .i64 0, .slice none 0 0] 26) := ⟨_, rfl⟩
  have HB0 : Hid (Below w.heap.size w W0) := by rw [hW0]; exact two_blocks _ _ _
  have HS0 : Hid (W0.heap.size = w.heap.size + 1 + 1) := by rw [hW0]; simp [Hid]
  have HC : Hid (∀ W, Below w.heap.size w W → Calls Try.prog 11 #[.agg #[.int .i64 d, .slice a zs.length cap]] W fun e w' => e = .returned (.int .i64 (chkE d zs)) ∧ Below W.heap.size W w') := fun W hW => check_any d a cap zs W (hp.below hW) hl
  have HK : Hid (∀ W, Below w.heap.size w W → Calls Try.prog 41 #[.agg #[.int .i64 d, .slice a zs.length cap]] W fun e w' => ∃ v, e = .returned (.agg #[.int .i64 d, v]) ∧ OwnI w' (W.heap.size + 2) v zs ∧ Below W.heap.size W w') := fun W hW => clone_o d a cap zs W (hp.below hW) hl hn
  have CL : Hid (∀ W, Below W0.heap.size W0 W → W.cell? ⟨w.heap.size, 0, none⟩ = some (.int .i64 d) ∧ W.cell? ⟨w.heap.size, 1, none⟩ = some (.slice a zs.length cap) ∧ W.cell? ⟨w.heap.size + 1, 0, none⟩ = some (.int .i64 0) ∧ W.cell? ⟨w.heap.size + 1, 1, none⟩ = some (.slice none 0 0) ∧ W.frozen? ⟨w.heap.size + 1, 0, none⟩ = false ∧ W.frozen? ⟨w.heap.size + 1, 1, none⟩ = false) := fun W hW => by
    rw [hW0] at hW
    exact box22 hW
  have HW1 : Hid (∀ W, Calls Try.prog 33 #[.int .i64 k, .int .i64 0, .int .i64 d] W fun e w' => e = .returned (.bool true) ∧ w' = W) := fun W => by
    have := dwithin_any k 0 d W
    rw [show (decide (0 ≤ k) && decide (k ≤ d)) = true by simp; omega] at this
    exact this
  have HPW : Hid (∀ W, Calls Try.prog 35 #[.int .i64 k] W fun e w' => e = .returned (.int .i64 (pwr k : Nat)) ∧ w' = W) := fun W => power_any k W (by have := (chkE_ok h0).1; omega)
  have HW2 : Hid (∀ W, Calls Try.prog 33 #[.int .i64 p, .int .i64 0, .int .i64 ((pwr k : Nat) - 1)] W fun e w' => e = .returned (.bool true) ∧ w' = W) := fun W => by
    have := dwithin_any p 0 ((pwr k : Nat) - 1) W
    rw [show (decide (0 ≤ p) && decide (p ≤ (pwr k : Nat) - 1)) = true by simp; omega] at this
    exact this
  have HPL := (pw_le (show 0 ≤ k ∧ k ≤ 10 by have := (chkE_ok h0).1; omega))
  have HIP : Hid (∀ W, Calls Try.prog 34 #[.int .i64 id] W fun e w' => e = .returned (.bool true) ∧ w' = W) := fun W => by
    have := ispage_any id W
    rw [h3] at this
    exact this
  have hd := (chkE_ok h0).1
  have hl1 : 1 ≤ zs.length := by rw [(chkE_ok h0).2.1]; exact (pw_le hd).1
  have HSH : Hid (∀ i : Nat, (i : Int) / 2 ^ (d - k).toNat = ((i / pwr (d - k) : Nat) : Int)) := fun i => by
    unfold pwr
    push_cast
    rfl
  rw [h0] at HC
  clear hp h0 h2 h3
  generalize pwr k = P at *
  unfold dv
  go_enter Try.func26, Try.ntmps26
  go_wp2_with (first
    | (go_at_call 41; rw [← hW0]; refine (HK.out _ HB0.out).mono ?_; rintro e w1 ⟨v, rfl, ho, b1⟩; obtain ⟨a', c', rfl, hn', hiv, _, _⟩ := ho.view; clear hW0; obtain ⟨c0, c1, c2, c3, c4, c5⟩ := CL.out _ b1; have hz : w.heap.size < w1.heap.size := (by have := HS0.out; have := b1.size; omega); have hz1 : w.heap.size + 1 < w1.heap.size := (by have := HS0.out; have := b1.size; omega))
    | (go_at_call 11; refine (HC.out _ (bt HB0.out (bt b1 (one_block _ _)))).mono ?_; rintro e w2 ⟨rfl, b2⟩; obtain ⟨e0, e1⟩ := box2 b2; clear c0 c1 c2 c3 c4 c5; obtain ⟨c0, c1, c2, c3, c4, c5⟩ := CL.out _ (bt b1 (bt (one_block _ _) b2)))
    | (go_at_call 33; refine (HW1.out _).mono ?_; rintro e w3 ⟨rfl, hw⟩; obtain rfl := hw.symm; clear HW1)
    | (go_at_call 35; refine (HPW.out _).mono ?_; rintro e w3 ⟨rfl, hw⟩; obtain rfl := hw.symm; clear HPW)
    | (go_at_call 33; refine (HW2.out _).mono ?_; rintro e w3 ⟨rfl, hw⟩; obtain rfl := hw.symm; clear HW2)
    | (go_at_call 34; refine (HIP.out _).mono ?_; rintro e w3 ⟨rfl, hw⟩; obtain rfl := hw.symm; clear HIP))
  obtain ⟨g, rfl, hg1, hg2⟩ := ho.pos hl1
  have B12 : Hid (Below w1.heap.size w1 w2) := bt (one_block _ _) b2
  have HO2 : Hid (w2.ownsRow (W0.heap.size + 2) 3 1 (.slice (some ⟨g, 0, none⟩) zs.length c') zs.length (fillG (setF d zs p k id) (fun i => zs.getD i 0) zs.length 0)) := by
    rw [fillG_zero]; exact ho.below B12.out
  have HW2 : Hid (Below w.heap.size w w2) := bt HB0.out (bt b1 B12.out)
  have HE : Hid (w1.heap.size < w2.heap.size) := by have := b2.size; simp at this; show w1.heap.size < w2.heap.size; omega
  have HG : Hid (w.heap.size + 1 < g ∧ g < w1.heap.size) := ⟨by have := HS0.out; omega, hg2⟩
  clear ho hiv hn' HC HK CL B12
  go_wp2
  go_loopw [40] (fun iv wr => ∃ i : Nat, i ≤ zs.length ∧ iv = .int .i64 i ∧ Hid (wr.ownsRow (W0.heap.size + 2) 3 1 (.slice (some ⟨g, 0, none⟩) zs.length c') zs.length (fillG (setF d zs p k id) (fun i => zs.getD i 0) zs.length i)) ∧ Hid (w2.grownBy wr (some g))) (fun iv _ => zs.length - (intOf iv).toNat)
  case atStart => exact ⟨0, Nat.zero_le _, rfl, HO2.out, ⟨rfl, rfl, rfl, Nat.le_refl _, fun _ _ _ => rfl⟩⟩
  case round =>
    obtain ⟨i, hi, rfl, HO, HR⟩ := hrel
    have hzw : w.heap.size + 1 < w2.heap.size := by have := HG.out; have := HE.out; omega
    have x0 := HR.out.cell e0 (by simp; have := HG.out; omega)
    have x1 := HR.out.cell e1 (by simp; have := HG.out; omega)
    have x2 := HR.out.cell c2 (by simp; have := HG.out; omega)
    have x3 := HR.out.cell c3 (by simp; have := HG.out; omega)
    have x4 : wr.frozen? ⟨w.heap.size + 1, 0, none⟩ = false := (World.frozen?_of_block (HR.out.block (w.heap.size + 1) hzw (by simp; have := HG.out; omega))).trans c4
    have x5 : wr.frozen? ⟨w.heap.size + 1, 1, none⟩ = false := (World.frozen?_of_block (HR.out.block (w.heap.size + 1) hzw (by simp; have := HG.out; omega))).trans c5
    clear c0 c1 c2 c3 c4 c5 e0 e1 HO2
    by_cases hlt : i < zs.length
    · have hsh := HSH.out i
      have hlt2 : (i : Int) < (zs.length : Int) := by omega
      have hdk : (0 : Int) ≤ d - k := by omega
      by_cases hq : ((i / pwr (d - k) : Nat) : Int) = p
      · have HF : Hid (setF d zs p k id i = id) := if_pos hq
        have hst := HO.out.cellAt i (by omega)
        have hfz := HO.out.frozenAt i
        have hu : ∃ u, wr.cell? ⟨g, i, none⟩ = some u := by
          rw [hst]
          exact ⟨_, List.getElem?_eq_getElem (by rw [fillG_len]; exact hlt)⟩
        obtain ⟨u, hu⟩ := hu
        have HST : Hid (World.ownsRow (wr.setCell ⟨g, i, none⟩ (.int .i64 id)) (W0.heap.size + 2) 3 1 (.slice (some ⟨g, 0, none⟩) zs.length c') zs.length (fillG (setF d zs p k id) (fun i => zs.getD i 0) zs.length (i + 1))) := by
          have h := (HO.out.stored i (.int .i64 (setF d zs p k id i))).1
          rw [fillG_set _ _ zs.length i hlt, HF.out] at h
          exact h
        have HRN : Hid (w2.grownBy (wr.setCell ⟨g, i, none⟩ (.int .i64 id)) (some g)) := grow_set HR.out _ rfl _
        clear hst
        generalize i / pwr (d - k) = q at *
        go_wp2
        go_roundw
        case rel => exact ⟨i + 1, by omega, by go_num, HST.out, HRN.out⟩
        case measure => simp [intOf]; omega
      · have HF : Hid (setF d zs p k id i = zs.getD i 0) := if_neg hq
        have HST : Hid (World.ownsRow wr (W0.heap.size + 2) 3 1 (.slice (some ⟨g, 0, none⟩) zs.length c') zs.length (fillG (setF d zs p k id) (fun i => zs.getD i 0) zs.length (i + 1))) := by
          have h := HO.out
          rw [fillG_skip _ _ zs.length i HF.out] at h
          exact h
        generalize i / pwr (d - k) = q at *
        go_wp2
        go_roundw
        case rel => exact ⟨i + 1, by omega, by go_num, HST.out, HR.out⟩
        case measure => simp [intOf]; omega
    · have : i = zs.length := by omega
      subst this
      have h := HO.out
      rw [fillG_full] at h
      have HF : Hid (OwnI wr (W0.heap.size + 2) (.slice (some ⟨g, 0, none⟩) zs.length c') (tabL (setF d zs p k id) zs.length)) := by
        show World.ownsRow _ _ _ _ _ _ _
        rw [tabL_len]
        exact h
      clear h HO
      have hxx : ¬ ((zs.length : Int) < (zs.length : Int)) := by omega
      go_wp2
      refine bodyPost_ret (v := .agg #[.int .i64 d, .slice (some ⟨g, 0, none⟩) zs.length c']) (by simp [results, Try.results26, go_sem, x2, x3]) rfl ⟨_, rfl, ?_, ?_⟩
      · obtain ⟨a9, c9, e9, h9, hv9, _, _⟩ := HF.out.view
        obtain ⟨rfl, _, rfl⟩ := Value.slice.inj e9
        refine ⟨_, c', by rw [tabL_len]; rfl, h9, ?_⟩
        exact (hv9.set2 (L := w.heap.size) (by have := HS0.out; show w.heap.size + 1 < _; omega) (by have := HS0.out; omega) _ _).iv
      · refine set2_below (w := w) ?_ (by omega) _ _
        exact HW2.out.grown HR.out HW2.out.size (by intro k hk; cases hk; have := HG.out; omega)
theorem set_any (d : Int) (a : Option Addr) (cap : Nat) (zs : List Int) (p k id : Int) (w : World) (hp : IV w a zs) (hl : zs.length ≤ 100000) (hn : a = none → cap = 0) :
    Calls Try.prog 26 #[dv d a zs.length cap, .int .i64 p, .int .i64 k, .int .i64 id] w fun e w' => ∃ v, e = .returned v ∧ DV w' v d (setL d zs p k id) ∧ Below w.heap.size w w' := by
  unfold setL
  by_cases h0 : chkE d zs = 0
  · by_cases h1 : 0 ≤ k ∧ k ≤ d
    · by_cases h2 : 0 ≤ p ∧ p < (pwr k : Nat)
      · cases h3 : isP id with
        | false =>
          rw [show setB d zs p k id = false by unfold setB; rw [h3]; simp]
          exact set_no4 d a cap zs p k id w hp hl hn h0 h1 h2 h3
        | true =>
          rw [show setB d zs p k id = true by unfold setB; rw [decide_eq_true h0, decide_eq_true h1, decide_eq_true h2, h3]; rfl]
          exact set_yes d a cap zs p k id w hp hl hn h0 h1 h2 h3
      · rw [show setB d zs p k id = false by unfold setB; rw [decide_eq_false h2]; simp]
        exact set_no3 d a cap zs p k id w hp hl hn h0 h1 h2
    · rw [show setB d zs p k id = false by unfold setB; rw [decide_eq_false h1]; simp]
      exact set_no2 d a cap zs p k id w hp hl hn h0 h1
  · rw [show setB d zs p k id = false by unfold setB; rw [decide_eq_false h0]; rfl]
    exact set_no1 d a cap zs p k id w hp hl hn h0
end Go.Proofs.Ytophkfbdhejmcaa
