/- Set: the document's. -/
import Derived.Test.YtophkfbdhejmcaaRhv
import Derived.StillTailTactics
import Derived.Deep.AppendLies
import Derived.Deep.RegionLaw
namespace Go.Proofs.Ytophkfbdhejmcaa
open Go.RowKit
set_option linter.unusedVariables false
set_option maxRecDepth 20000

theorem own_pos {w : World} {K : Nat} {v : Value} {zs : List Int} (h : OwnI w K v zs) (h0 : 1 ≤ zs.length) : ∃ g cg, v = .slice (some ⟨g, 0, none⟩) zs.length cg ∧ K ≤ g ∧ g < w.heap.size := by
  obtain ⟨a, c, rfl, _, _, _, _⟩ := h.view
  obtain ⟨g, rfl, h1, h2⟩ := h.pos h0
  exact ⟨g, c, rfl, h1, h2⟩
set_option maxHeartbeats 3200000 in
theorem rset_no1 (d : Int) (a : Option Addr) (cap : Nat) (zs : List Int) (p k id : Int) (w : World) (hp : IV w a zs) (hl : zs.length ≤ 100000) (hn : a = none → cap = 0) (h0 : ¬ chkE d zs = 0) :
    Calls Try.prog 27 #[dv d a zs.length cap, .int .i64 p, .int .i64 k, .int .i64 id] w fun e w' => ∃ v, e = .returned v ∧ DV w' v d (zs) ∧ Below w.heap.size w w' := by
  replace hl : zs.length ≤ 1000000 := by omega
  obtain ⟨W0, hW0⟩ : ∃ W0, W0 = (w.alloc (.cells #[.int .i64 d, .slice a zs.length cap] 24)).alloc (.cells #[.int .i64 0, .slice none 0 0] 24) := ⟨_, rfl⟩
  have HB0 : Hid (Below w.heap.size w W0) := by rw [hW0]; exact two_blocks _ _ _
  have HS0 : Hid (W0.heap.size = w.heap.size + 1 + 1) := by rw [hW0]; simp [Hid]
  have HC : Hid (∀ W, Below w.heap.size w W → Calls Try.prog 12 #[.agg #[.int .i64 d, .slice a zs.length cap]] W fun e w' => e = .returned (.int .i64 (chkE d zs)) ∧ Below W.heap.size W w') := fun W hW => rcheck_any d a cap zs W (hp.below hW) hl
  have CL : Hid (∀ W, Below W0.heap.size W0 W → W.cell? ⟨w.heap.size, 0, none⟩ = some (.int .i64 d) ∧ W.cell? ⟨w.heap.size, 1, none⟩ = some (.slice a zs.length cap) ∧ W.cell? ⟨w.heap.size + 1, 0, none⟩ = some (.int .i64 0) ∧ W.cell? ⟨w.heap.size + 1, 1, none⟩ = some (.slice none 0 0) ∧ W.frozen? ⟨w.heap.size + 1, 0, none⟩ = false ∧ W.frozen? ⟨w.heap.size + 1, 1, none⟩ = false) := fun W hW => by
    rw [hW0] at hW
    exact box22 hW
  have HIV : Hid (IV w a zs) := hp
  generalize chkE d zs = x at *
  unfold dv
  go_enter Try.func27, Try.ntmps27
  go_wp2_with (first | (go_at_call 12; rw [← hW0]; refine (HC.out _ HB0.out).mono ?_; rintro e w1 ⟨rfl, b1⟩; clear hW0; obtain ⟨c0, c1, c2, c3, c4, c5⟩ := CL.out _ b1))
  refine bodyPost_ret (v := .agg #[.int .i64 d, .slice a zs.length cap]) (by simp [results, Try.results27, go_sem, c2, c3]) rfl ⟨_, rfl, ⟨a, cap, rfl, hn, ?_⟩, ?_⟩
  · exact IV.set2 (w := w) hp (bt HB0.out b1) (by omega) _ _
  · exact set2_below (bt HB0.out b1) (by omega) _ _
set_option maxHeartbeats 3200000 in
theorem rset_no2 (d : Int) (a : Option Addr) (cap : Nat) (zs : List Int) (p k id : Int) (w : World) (hp : IV w a zs) (hl : zs.length ≤ 100000) (hn : a = none → cap = 0) (h0 : chkE d zs = 0) (h1 : k < 0) :
    Calls Try.prog 27 #[dv d a zs.length cap, .int .i64 p, .int .i64 k, .int .i64 id] w fun e w' => ∃ v, e = .returned v ∧ DV w' v d (zs) ∧ Below w.heap.size w w' := by
  replace hl : zs.length ≤ 1000000 := by omega
  obtain ⟨W0, hW0⟩ : ∃ W0, W0 = (w.alloc (.cells #[.int .i64 d, .slice a zs.length cap] 24)).alloc (.cells #[.int .i64 0, .slice none 0 0] 24) := ⟨_, rfl⟩
  have HB0 : Hid (Below w.heap.size w W0) := by rw [hW0]; exact two_blocks _ _ _
  have HS0 : Hid (W0.heap.size = w.heap.size + 1 + 1) := by rw [hW0]; simp [Hid]
  have HC : Hid (∀ W, Below w.heap.size w W → Calls Try.prog 12 #[.agg #[.int .i64 d, .slice a zs.length cap]] W fun e w' => e = .returned (.int .i64 (chkE d zs)) ∧ Below W.heap.size W w') := fun W hW => rcheck_any d a cap zs W (hp.below hW) hl
  have CL : Hid (∀ W, Below W0.heap.size W0 W → W.cell? ⟨w.heap.size, 0, none⟩ = some (.int .i64 d) ∧ W.cell? ⟨w.heap.size, 1, none⟩ = some (.slice a zs.length cap) ∧ W.cell? ⟨w.heap.size + 1, 0, none⟩ = some (.int .i64 0) ∧ W.cell? ⟨w.heap.size + 1, 1, none⟩ = some (.slice none 0 0) ∧ W.frozen? ⟨w.heap.size + 1, 0, none⟩ = false ∧ W.frozen? ⟨w.heap.size + 1, 1, none⟩ = false) := fun W hW => by
    rw [hW0] at hW
    exact box22 hW
  have HIV : Hid (IV w a zs) := hp
  rw [h0] at HC
  clear h0
  unfold dv
  go_enter Try.func27, Try.ntmps27
  go_wp2_with (first | (go_at_call 12; rw [← hW0]; refine (HC.out _ HB0.out).mono ?_; rintro e w1 ⟨rfl, b1⟩; clear hW0; obtain ⟨c0, c1, c2, c3, c4, c5⟩ := CL.out _ b1))
  refine bodyPost_ret (v := .agg #[.int .i64 d, .slice a zs.length cap]) (by simp [results, Try.results27, go_sem, c2, c3]) rfl ⟨_, rfl, ⟨a, cap, rfl, hn, ?_⟩, ?_⟩
  · exact IV.set2 (w := w) hp (bt HB0.out b1) (by omega) _ _
  · exact set2_below (bt HB0.out b1) (by omega) _ _
set_option maxHeartbeats 3200000 in
theorem rset_no3 (d : Int) (a : Option Addr) (cap : Nat) (zs : List Int) (p k id : Int) (w : World) (hp : IV w a zs) (hl : zs.length ≤ 100000) (hn : a = none → cap = 0) (h0 : chkE d zs = 0) (h1 : ¬ k < 0) (h2 : d < k) :
    Calls Try.prog 27 #[dv d a zs.length cap, .int .i64 p, .int .i64 k, .int .i64 id] w fun e w' => ∃ v, e = .returned v ∧ DV w' v d (zs) ∧ Below w.heap.size w w' := by
  replace hl : zs.length ≤ 1000000 := by omega
  obtain ⟨W0, hW0⟩ : ∃ W0, W0 = (w.alloc (.cells #[.int .i64 d, .slice a zs.length cap] 24)).alloc (.cells #[.int .i64 0, .slice none 0 0] 24) := ⟨_, rfl⟩
  have HB0 : Hid (Below w.heap.size w W0) := by rw [hW0]; exact two_blocks _ _ _
  have HS0 : Hid (W0.heap.size = w.heap.size + 1 + 1) := by rw [hW0]; simp [Hid]
  have HC : Hid (∀ W, Below w.heap.size w W → Calls Try.prog 12 #[.agg #[.int .i64 d, .slice a zs.length cap]] W fun e w' => e = .returned (.int .i64 (chkE d zs)) ∧ Below W.heap.size W w') := fun W hW => rcheck_any d a cap zs W (hp.below hW) hl
  have CL : Hid (∀ W, Below W0.heap.size W0 W → W.cell? ⟨w.heap.size, 0, none⟩ = some (.int .i64 d) ∧ W.cell? ⟨w.heap.size, 1, none⟩ = some (.slice a zs.length cap) ∧ W.cell? ⟨w.heap.size + 1, 0, none⟩ = some (.int .i64 0) ∧ W.cell? ⟨w.heap.size + 1, 1, none⟩ = some (.slice none 0 0) ∧ W.frozen? ⟨w.heap.size + 1, 0, none⟩ = false ∧ W.frozen? ⟨w.heap.size + 1, 1, none⟩ = false) := fun W hW => by
    rw [hW0] at hW
    exact box22 hW
  have HIV : Hid (IV w a zs) := hp
  rw [h0] at HC
  clear h0
  unfold dv
  go_enter Try.func27, Try.ntmps27
  go_wp2_with (first | (go_at_call 12; rw [← hW0]; refine (HC.out _ HB0.out).mono ?_; rintro e w1 ⟨rfl, b1⟩; clear hW0; obtain ⟨c0, c1, c2, c3, c4, c5⟩ := CL.out _ b1))
  refine bodyPost_ret (v := .agg #[.int .i64 d, .slice a zs.length cap]) (by simp [results, Try.results27, go_sem, c2, c3]) rfl ⟨_, rfl, ⟨a, cap, rfl, hn, ?_⟩, ?_⟩
  · exact IV.set2 (w := w) hp (bt HB0.out b1) (by omega) _ _
  · exact set2_below (bt HB0.out b1) (by omega) _ _
set_option maxHeartbeats 3200000 in
theorem rset_no4 (d : Int) (a : Option Addr) (cap : Nat) (zs : List Int) (p k id : Int) (w : World) (hp : IV w a zs) (hl : zs.length ≤ 100000) (hn : a = none → cap = 0) (h0 : chkE d zs = 0) (h1 : ¬ k < 0) (h2 : ¬ d < k) (h3 : p < 0) :
    Calls Try.prog 27 #[dv d a zs.length cap, .int .i64 p, .int .i64 k, .int .i64 id] w fun e w' => ∃ v, e = .returned v ∧ DV w' v d (zs) ∧ Below w.heap.size w w' := by
  replace hl : zs.length ≤ 1000000 := by omega
  obtain ⟨W0, hW0⟩ : ∃ W0, W0 = (w.alloc (.cells #[.int .i64 d, .slice a zs.length cap] 24)).alloc (.cells #[.int .i64 0, .slice none 0 0] 24) := ⟨_, rfl⟩
  have HB0 : Hid (Below w.heap.size w W0) := by rw [hW0]; exact two_blocks _ _ _
  have HS0 : Hid (W0.heap.size = w.heap.size + 1 + 1) := by rw [hW0]; simp [Hid]
  have HC : Hid (∀ W, Below w.heap.size w W → Calls Try.prog 12 #[.agg #[.int .i64 d, .slice a zs.length cap]] W fun e w' => e = .returned (.int .i64 (chkE d zs)) ∧ Below W.heap.size W w') := fun W hW => rcheck_any d a cap zs W (hp.below hW) hl
  have CL : Hid (∀ W, Below W0.heap.size W0 W → W.cell? ⟨w.heap.size, 0, none⟩ = some (.int .i64 d) ∧ W.cell? ⟨w.heap.size, 1, none⟩ = some (.slice a zs.length cap) ∧ W.cell? ⟨w.heap.size + 1, 0, none⟩ = some (.int .i64 0) ∧ W.cell? ⟨w.heap.size + 1, 1, none⟩ = some (.slice none 0 0) ∧ W.frozen? ⟨w.heap.size + 1, 0, none⟩ = false ∧ W.frozen? ⟨w.heap.size + 1, 1, none⟩ = false) := fun W hW => by
    rw [hW0] at hW
    exact box22 hW
  have HIV : Hid (IV w a zs) := hp
  rw [h0] at HC
  clear h0
  unfold dv
  go_enter Try.func27, Try.ntmps27
  go_wp2_with (first | (go_at_call 12; rw [← hW0]; refine (HC.out _ HB0.out).mono ?_; rintro e w1 ⟨rfl, b1⟩; clear hW0; obtain ⟨c0, c1, c2, c3, c4, c5⟩ := CL.out _ b1))
  refine bodyPost_ret (v := .agg #[.int .i64 d, .slice a zs.length cap]) (by simp [results, Try.results27, go_sem, c2, c3]) rfl ⟨_, rfl, ⟨a, cap, rfl, hn, ?_⟩, ?_⟩
  · exact IV.set2 (w := w) hp (bt HB0.out b1) (by omega) _ _
  · exact set2_below (bt HB0.out b1) (by omega) _ _
set_option maxHeartbeats 3200000 in
theorem rset_no5 (d : Int) (a : Option Addr) (cap : Nat) (zs : List Int) (p k id : Int) (w : World) (hp : IV w a zs) (hl : zs.length ≤ 100000) (hn : a = none → cap = 0) (h0 : chkE d zs = 0) (h1 : ¬ k < 0) (h2 : ¬ d < k) (h3 : ¬ p < 0) (h4 : (pwr k : Nat) ≤ p) :
    Calls Try.prog 27 #[dv d a zs.length cap, .int .i64 p, .int .i64 k, .int .i64 id] w fun e w' => ∃ v, e = .returned v ∧ DV w' v d (zs) ∧ Below w.heap.size w w' := by
  replace hl : zs.length ≤ 1000000 := by omega
  obtain ⟨W0, hW0⟩ : ∃ W0, W0 = (w.alloc (.cells #[.int .i64 d, .slice a zs.length cap] 24)).alloc (.cells #[.int .i64 0, .slice none 0 0] 24) := ⟨_, rfl⟩
  have HB0 : Hid (Below w.heap.size w W0) := by rw [hW0]; exact two_blocks _ _ _
  have HS0 : Hid (W0.heap.size = w.heap.size + 1 + 1) := by rw [hW0]; simp [Hid]
  have HC : Hid (∀ W, Below w.heap.size w W → Calls Try.prog 12 #[.agg #[.int .i64 d, .slice a zs.length cap]] W fun e w' => e = .returned (.int .i64 (chkE d zs)) ∧ Below W.heap.size W w') := fun W hW => rcheck_any d a cap zs W (hp.below hW) hl
  have CL : Hid (∀ W, Below W0.heap.size W0 W → W.cell? ⟨w.heap.size, 0, none⟩ = some (.int .i64 d) ∧ W.cell? ⟨w.heap.size, 1, none⟩ = some (.slice a zs.length cap) ∧ W.cell? ⟨w.heap.size + 1, 0, none⟩ = some (.int .i64 0) ∧ W.cell? ⟨w.heap.size + 1, 1, none⟩ = some (.slice none 0 0) ∧ W.frozen? ⟨w.heap.size + 1, 0, none⟩ = false ∧ W.frozen? ⟨w.heap.size + 1, 1, none⟩ = false) := fun W hW => by
    rw [hW0] at hW
    exact box22 hW
  have HIV : Hid (IV w a zs) := hp
  have HPW : Hid (∀ W, Calls Try.prog 36 #[.int .i64 k] W fun e w' => e = .returned (.int .i64 (pwr k : Nat)) ∧ w' = W) := fun W => rpower_any k W (by have := (chkE_ok h0).1; omega)
  rw [h0] at HC
  clear h0
  generalize pwr k = P at *
  unfold dv
  go_enter Try.func27, Try.ntmps27
  go_wp2_with (first | (go_at_call 12; rw [← hW0]; refine (HC.out _ HB0.out).mono ?_; rintro e w1 ⟨rfl, b1⟩; clear hW0; obtain ⟨c0, c1, c2, c3, c4, c5⟩ := CL.out _ b1) | (go_at_call 36; refine (HPW.out _).mono ?_; rintro e w3 ⟨rfl, hw⟩; obtain rfl := hw.symm; clear HPW))
  refine bodyPost_ret (v := .agg #[.int .i64 d, .slice a zs.length cap]) (by simp [results, Try.results27, go_sem, c2, c3]) rfl ⟨_, rfl, ⟨a, cap, rfl, hn, ?_⟩, ?_⟩
  · exact IV.set2 (w := w) hp (bt HB0.out b1) (by omega) _ _
  · exact set2_below (bt HB0.out b1) (by omega) _ _
set_option maxHeartbeats 3200000 in
theorem rset_no6 (d : Int) (a : Option Addr) (cap : Nat) (zs : List Int) (p k id : Int) (w : World) (hp : IV w a zs) (hl : zs.length ≤ 100000) (hn : a = none → cap = 0) (h0 : chkE d zs = 0) (h1 : ¬ k < 0) (h2 : ¬ d < k) (h3 : ¬ p < 0) (h4 : ¬ (pwr k : Nat) ≤ p) (h5 : id < 1) :
    Calls Try.prog 27 #[dv d a zs.length cap, .int .i64 p, .int .i64 k, .int .i64 id] w fun e w' => ∃ v, e = .returned v ∧ DV w' v d (zs) ∧ Below w.heap.size w w' := by
  replace hl : zs.length ≤ 1000000 := by omega
  obtain ⟨W0, hW0⟩ : ∃ W0, W0 = (w.alloc (.cells #[.int .i64 d, .slice a zs.length cap] 24)).alloc (.cells #[.int .i64 0, .slice none 0 0] 24) := ⟨_, rfl⟩
  have HB0 : Hid (Below w.heap.size w W0) := by rw [hW0]; exact two_blocks _ _ _
  have HS0 : Hid (W0.heap.size = w.heap.size + 1 + 1) := by rw [hW0]; simp [Hid]
  have HC : Hid (∀ W, Below w.heap.size w W → Calls Try.prog 12 #[.agg #[.int .i64 d, .slice a zs.length cap]] W fun e w' => e = .returned (.int .i64 (chkE d zs)) ∧ Below W.heap.size W w') := fun W hW => rcheck_any d a cap zs W (hp.below hW) hl
  have CL : Hid (∀ W, Below W0.heap.size W0 W → W.cell? ⟨w.heap.size, 0, none⟩ = some (.int .i64 d) ∧ W.cell? ⟨w.heap.size, 1, none⟩ = some (.slice a zs.length cap) ∧ W.cell? ⟨w.heap.size + 1, 0, none⟩ = some (.int .i64 0) ∧ W.cell? ⟨w.heap.size + 1, 1, none⟩ = some (.slice none 0 0) ∧ W.frozen? ⟨w.heap.size + 1, 0, none⟩ = false ∧ W.frozen? ⟨w.heap.size + 1, 1, none⟩ = false) := fun W hW => by
    rw [hW0] at hW
    exact box22 hW
  have HIV : Hid (IV w a zs) := hp
  have HPW : Hid (∀ W, Calls Try.prog 36 #[.int .i64 k] W fun e w' => e = .returned (.int .i64 (pwr k : Nat)) ∧ w' = W) := fun W => rpower_any k W (by have := (chkE_ok h0).1; omega)
  rw [h0] at HC
  clear h0
  generalize pwr k = P at *
  unfold dv
  go_enter Try.func27, Try.ntmps27
  go_wp2_with (first | (go_at_call 12; rw [← hW0]; refine (HC.out _ HB0.out).mono ?_; rintro e w1 ⟨rfl, b1⟩; clear hW0; obtain ⟨c0, c1, c2, c3, c4, c5⟩ := CL.out _ b1) | (go_at_call 36; refine (HPW.out _).mono ?_; rintro e w3 ⟨rfl, hw⟩; obtain rfl := hw.symm; clear HPW))
  refine bodyPost_ret (v := .agg #[.int .i64 d, .slice a zs.length cap]) (by simp [results, Try.results27, go_sem, c2, c3]) rfl ⟨_, rfl, ⟨a, cap, rfl, hn, ?_⟩, ?_⟩
  · exact IV.set2 (w := w) hp (bt HB0.out b1) (by omega) _ _
  · exact set2_below (bt HB0.out b1) (by omega) _ _
set_option maxHeartbeats 3200000 in
theorem rset_no7 (d : Int) (a : Option Addr) (cap : Nat) (zs : List Int) (p k id : Int) (w : World) (hp : IV w a zs) (hl : zs.length ≤ 100000) (hn : a = none → cap = 0) (h0 : chkE d zs = 0) (h1 : ¬ k < 0) (h2 : ¬ d < k) (h3 : ¬ p < 0) (h4 : ¬ (pwr k : Nat) ≤ p) (h5 : ¬ id < 1) (h6 : 3000 < id) :
    Calls Try.prog 27 #[dv d a zs.length cap, .int .i64 p, .int .i64 k, .int .i64 id] w fun e w' => ∃ v, e = .returned v ∧ DV w' v d (zs) ∧ Below w.heap.size w w' := by
  replace hl : zs.length ≤ 1000000 := by omega
  obtain ⟨W0, hW0⟩ : ∃ W0, W0 = (w.alloc (.cells #[.int .i64 d, .slice a zs.length cap] 24)).alloc (.cells #[.int .i64 0, .slice none 0 0] 24) := ⟨_, rfl⟩
  have HB0 : Hid (Below w.heap.size w W0) := by rw [hW0]; exact two_blocks _ _ _
  have HS0 : Hid (W0.heap.size = w.heap.size + 1 + 1) := by rw [hW0]; simp [Hid]
  have HC : Hid (∀ W, Below w.heap.size w W → Calls Try.prog 12 #[.agg #[.int .i64 d, .slice a zs.length cap]] W fun e w' => e = .returned (.int .i64 (chkE d zs)) ∧ Below W.heap.size W w') := fun W hW => rcheck_any d a cap zs W (hp.below hW) hl
  have CL : Hid (∀ W, Below W0.heap.size W0 W → W.cell? ⟨w.heap.size, 0, none⟩ = some (.int .i64 d) ∧ W.cell? ⟨w.heap.size, 1, none⟩ = some (.slice a zs.length cap) ∧ W.cell? ⟨w.heap.size + 1, 0, none⟩ = some (.int .i64 0) ∧ W.cell? ⟨w.heap.size + 1, 1, none⟩ = some (.slice none 0 0) ∧ W.frozen? ⟨w.heap.size + 1, 0, none⟩ = false ∧ W.frozen? ⟨w.heap.size + 1, 1, none⟩ = false) := fun W hW => by
    rw [hW0] at hW
    exact box22 hW
  have HIV : Hid (IV w a zs) := hp
  have HPW : Hid (∀ W, Calls Try.prog 36 #[.int .i64 k] W fun e w' => e = .returned (.int .i64 (pwr k : Nat)) ∧ w' = W) := fun W => rpower_any k W (by have := (chkE_ok h0).1; omega)
  rw [h0] at HC
  clear h0
  generalize pwr k = P at *
  unfold dv
  go_enter Try.func27, Try.ntmps27
  go_wp2_with (first | (go_at_call 12; rw [← hW0]; refine (HC.out _ HB0.out).mono ?_; rintro e w1 ⟨rfl, b1⟩; clear hW0; obtain ⟨c0, c1, c2, c3, c4, c5⟩ := CL.out _ b1) | (go_at_call 36; refine (HPW.out _).mono ?_; rintro e w3 ⟨rfl, hw⟩; obtain rfl := hw.symm; clear HPW))
  refine bodyPost_ret (v := .agg #[.int .i64 d, .slice a zs.length cap]) (by simp [results, Try.results27, go_sem, c2, c3]) rfl ⟨_, rfl, ⟨a, cap, rfl, hn, ?_⟩, ?_⟩
  · exact IV.set2 (w := w) hp (bt HB0.out b1) (by omega) _ _
  · exact set2_below (bt HB0.out b1) (by omega) _ _
set_option maxHeartbeats 3200000 in
theorem rset_yes (d : Int) (a : Option Addr) (cap : Nat) (zs : List Int) (p k id : Int) (w : World) (hp : IV w a zs) (hl : zs.length ≤ 100000) (hn : a = none → cap = 0) (h0 : chkE d zs = 0) (h1 : ¬ k < 0) (h2 : ¬ d < k) (h3 : ¬ p < 0) (h4 : ¬ (pwr k : Nat) ≤ p) (h5 : ¬ id < 1) (h6 : ¬ 3000 < id) :
    Calls Try.prog 27 #[dv d a zs.length cap, .int .i64 p, .int .i64 k, .int .i64 id] w fun e w' => ∃ v, e = .returned v ∧ DV w' v d (tabL (setF d zs p k id) zs.length) ∧ Below w.heap.size w w' := by
  replace hl : zs.length ≤ 1000000 := by omega
  obtain ⟨W0, hW0⟩ : ∃ W0, W0 = (w.alloc (.cells #[.int .i64 d, .slice a zs.length cap] 24)).alloc (.cells #[.int .i64 0, .slice none 0 0] 24) := ⟨_, rfl⟩
  have HB0 : Hid (Below w.heap.size w W0) := by rw [hW0]; exact two_blocks _ _ _
  have HS0 : Hid (W0.heap.size = w.heap.size + 1 + 1) := by rw [hW0]; simp [Hid]
  have HC : Hid (∀ W, Below w.heap.size w W → Calls Try.prog 12 #[.agg #[.int .i64 d, .slice a zs.length cap]] W fun e w' => e = .returned (.int .i64 (chkE d zs)) ∧ Below W.heap.size W w') := fun W hW => rcheck_any d a cap zs W (hp.below hW) hl
  have CL : Hid (∀ W, Below W0.heap.size W0 W → W.cell? ⟨w.heap.size, 0, none⟩ = some (.int .i64 d) ∧ W.cell? ⟨w.heap.size, 1, none⟩ = some (.slice a zs.length cap) ∧ W.cell? ⟨w.heap.size + 1, 0, none⟩ = some (.int .i64 0) ∧ W.cell? ⟨w.heap.size + 1, 1, none⟩ = some (.slice none 0 0) ∧ W.frozen? ⟨w.heap.size + 1, 0, none⟩ = false ∧ W.frozen? ⟨w.heap.size + 1, 1, none⟩ = false) := fun W hW => by
    rw [hW0] at hW
    exact box22 hW
  have HIV : Hid (IV w a zs) := hp
  have HPW : Hid (∀ W, Calls Try.prog 36 #[.int .i64 k] W fun e w' => e = .returned (.int .i64 (pwr k : Nat)) ∧ w' = W) := fun W => rpower_any k W (by have := (chkE_ok h0).1; omega)
  have hd := (chkE_ok h0).1
  have hl1 : 1 ≤ zs.length := by rw [(chkE_ok h0).2.1]; exact (pw_le hd).1
  have HPX : Hid (∀ W, Calls Try.prog 36 #[.int .i64 (d - k)] W fun e w' => e = .returned (.int .i64 (pwr (d - k) : Nat)) ∧ w' = W) := fun W => rpower_any (d - k) W (by omega)
  have hpx := pw_le (show 0 ≤ d - k ∧ d - k ≤ 10 by omega)
  rw [h0] at HC
  clear h0
  generalize pwr k = P at *
  have HF : Hid (∀ i, setF d zs p k id i = if ((i / pwr (d - k) : Nat) : Int) = p then id else zs.getD i 0) := fun i => rfl
  generalize hf : setF d zs p k id = f at *
  clear hf
  generalize pwr (d - k) = R at *
  unfold dv
  go_enter Try.func27, Try.ntmps27
  go_wp2_with (first
    | (go_at_call 12; rw [← hW0]; refine (HC.out _ HB0.out).mono ?_; rintro e w1 ⟨rfl, b1⟩; clear hW0; obtain ⟨c0, c1, c2, c3, c4, c5⟩ := CL.out _ b1)
    | (go_at_call 36; refine (HPW.out _).mono ?_; rintro e w3 ⟨rfl, hw⟩; obtain rfl := hw.symm; clear HPW)
    | (at_builtin; refine wp_app_iv rfl _ _ rfl w1.heap.size _ [] zs rfl (OwnI.nil _ _) a cap rfl (HIV.out.below (bt HB0.out b1)) hn (by simp; omega) (Nat.le_refl _) ?_; intro v2 w2 o2 b2; obtain ⟨g, cg, rfl, hg1, hg2⟩ : ∃ g cg, v2 = .slice (some ⟨g, 0, none⟩) zs.length cg ∧ w1.heap.size ≤ g ∧ g < w2.heap.size := own_pos o2 hl1; have O2 : Hid (OwnI w2 w1.heap.size (.slice (some ⟨g, 0, none⟩) zs.length cg) zs) := o2; have B2 : Hid (Below w1.heap.size w1 w2) := b2; clear o2 b2))
  clear h1 h2 h3 h4 h5 h6
  have HO2 : Hid (w2.ownsRow w1.heap.size 3 1 (.slice (some ⟨g, 0, none⟩) zs.length cg) zs.length (fillG f (fun i => zs.getD i 0) zs.length 0)) := by
    rw [fillG_zero]; exact O2.out
  clear c0 c1 c2 c3 c4 c5
  go_loopw [10] (fun iv wr => ∃ i : Nat, i ≤ zs.length ∧ iv = .int .i64 i ∧ Hid (wr.ownsRow w1.heap.size 3 1 (.slice (some ⟨g, 0, none⟩) zs.length cg) zs.length (fillG f (fun i => zs.getD i 0) zs.length i)) ∧ Hid (Below w1.heap.size w1 wr)) (fun iv _ => zs.length - (intOf iv).toNat)
  case atStart => exact ⟨0, Nat.zero_le _, rfl, HO2.out, B2.out⟩
  case round =>
    obtain ⟨i, hi, rfl, HO, HB⟩ := hrel
    obtain ⟨c0, c1, c2, c3, c4, c5⟩ := CL.out _ (bt b1 HB.out)
    clear HO2 B2 O2
    by_cases hlt : i < zs.length
    · have hlt2 : (i : Int) < (zs.length : Int) := by omega
      have t1 : Int.tdiv (i : Int) (R : Int) = ((i / R : Nat) : Int) := by rw [Int.tdiv_eq_ediv_of_nonneg (by omega)]; rfl
      have t2 : (i : Int) / (R : Int) = ((i / R : Nat) : Int) := rfl
      have hR : ¬ (R : Int) = 0 := by omega
      have hqi : i / R ≤ i := Nat.div_le_self _ _
      obtain ⟨q, hq0⟩ : ∃ q, q = i / R := ⟨_, rfl⟩
      rw [← hq0] at t1 t2 hqi
      have HQ0 : Hid (q = i / R) := hq0
      clear hq0
      by_cases hq : (q : Int) = p
      · have HFi : Hid (f i = id) := by rw [HF.out i, if_pos (by rw [← HQ0.out]; exact hq)]; exact rfl
        have hst := HO.out.cellAt i (by omega)
        have hfz := HO.out.frozenAt i
        have hu : ∃ u, wr.cell? ⟨g, i, none⟩ = some u := by
          rw [hst]
          exact ⟨_, List.getElem?_eq_getElem (by rw [fillG_len]; exact hlt)⟩
        obtain ⟨u, hu⟩ := hu
        have HST : Hid (World.ownsRow (wr.setCell ⟨g, i, none⟩ (.int .i64 id)) w1.heap.size 3 1 (.slice (some ⟨g, 0, none⟩) zs.length cg) zs.length (fillG f (fun i => zs.getD i 0) zs.length (i + 1))) := by
          have h := (HO.out.stored i (.int .i64 (f i))).1
          rw [fillG_set _ _ zs.length i hlt, HFi.out] at h
          exact h
        have HRN : Hid (Below w1.heap.size w1 (wr.setCell ⟨g, i, none⟩ (.int .i64 id))) := HB.out.setCell (p := ⟨g, i, none⟩) hg1 _
        clear hst
        go_wp2_with (first | (go_at_call 36; refine (HPX.out _).mono ?_; rintro e w3 ⟨rfl, hw⟩; obtain rfl := hw.symm))
        clear t1 t2
        go_roundw
        case rel => exact ⟨i + 1, by omega, by go_num, HST.out, HRN.out⟩
        case measure => simp [intOf]; omega
      · have HFi : Hid (f i = zs.getD i 0) := by rw [HF.out i, if_neg (by rw [← HQ0.out]; exact hq)]; exact rfl
        have HST : Hid (World.ownsRow wr w1.heap.size 3 1 (.slice (some ⟨g, 0, none⟩) zs.length cg) zs.length (fillG f (fun i => zs.getD i 0) zs.length (i + 1))) := by
          have h := HO.out
          rw [fillG_skip _ _ zs.length i HFi.out] at h
          exact h
        go_wp2_with (first | (go_at_call 36; refine (HPX.out _).mono ?_; rintro e w3 ⟨rfl, hw⟩; obtain rfl := hw.symm))
        clear t1 t2
        go_roundw
        case rel => exact ⟨i + 1, by omega, by go_num, HST.out, HB.out⟩
        case measure => simp [intOf]; omega
    · have : i = zs.length := by omega
      subst this
      have h := HO.out
      rw [fillG_full] at h
      have HFF : Hid (OwnI wr w1.heap.size (.slice (some ⟨g, 0, none⟩) zs.length cg) (tabL f zs.length)) := by
        show World.ownsRow _ _ _ _ _ _ _
        rw [tabL_len]
        exact h
      clear h HO
      have hxx : ¬ ((zs.length : Int) < (zs.length : Int)) := by omega
      go_wp2
      refine bodyPost_ret (v := .agg #[.int .i64 d, .slice (some ⟨g, 0, none⟩) zs.length cg]) (by simp [results, Try.results27, go_sem, c2, c3]) rfl ⟨_, rfl, ?_, ?_⟩
      · obtain ⟨a9, c9, e9, h9, hv9, _, _⟩ := HFF.out.view
        obtain ⟨rfl, _, rfl⟩ := Value.slice.inj e9
        refine ⟨_, cg, by rw [tabL_len]; rfl, h9, ?_⟩
        exact (hv9.set2 (L := w.heap.size) (by have := HS0.out; have := b1.size; show w.heap.size + 1 < _; omega) (by have := HS0.out; have := b1.size; omega) _ _).iv
      · exact set2_below (bt HB0.out (bt b1 HB.out)) (by omega) _ _
theorem rset_any (d : Int) (a : Option Addr) (cap : Nat) (zs : List Int) (p k id : Int) (w : World) (hp : IV w a zs) (hl : zs.length ≤ 100000) (hn : a = none → cap = 0) :
    Calls Try.prog 27 #[dv d a zs.length cap, .int .i64 p, .int .i64 k, .int .i64 id] w fun e w' => ∃ v, e = .returned v ∧ DV w' v d (setL d zs p k id) ∧ Below w.heap.size w w' := by
  unfold setL
  by_cases h0 : chkE d zs = 0
  · by_cases h1 : k < 0
    · rw [show setB d zs p k id = false by unfold setB; rw [decide_eq_false (show ¬ (0 ≤ k ∧ k ≤ d) by omega)]; simp]
      exact rset_no2 d a cap zs p k id w hp hl hn h0 h1
    · by_cases h2 : d < k
      · rw [show setB d zs p k id = false by unfold setB; rw [decide_eq_false (show ¬ (0 ≤ k ∧ k ≤ d) by omega)]; simp]
        exact rset_no3 d a cap zs p k id w hp hl hn h0 h1 h2
      · by_cases h3 : p < 0
        · rw [show setB d zs p k id = false by unfold setB; rw [decide_eq_false (show ¬ (0 ≤ p ∧ p < (pwr k : Nat)) by omega)]; simp]
          exact rset_no4 d a cap zs p k id w hp hl hn h0 h1 h2 h3
        · by_cases h4 : (pwr k : Nat) ≤ p
          · rw [show setB d zs p k id = false by unfold setB; rw [decide_eq_false (show ¬ (0 ≤ p ∧ p < (pwr k : Nat)) by omega)]; simp]
            exact rset_no5 d a cap zs p k id w hp hl hn h0 h1 h2 h3 h4
          · by_cases h5 : id < 1
            · rw [show setB d zs p k id = false by unfold setB isP; rw [decide_eq_false (show ¬ 1 ≤ id by omega)]; simp]
              exact rset_no6 d a cap zs p k id w hp hl hn h0 h1 h2 h3 h4 h5
            · by_cases h6 : 3000 < id
              · rw [show setB d zs p k id = false by unfold setB isP; rw [decide_eq_false (show ¬ id ≤ 3000 by omega)]; simp]
                exact rset_no7 d a cap zs p k id w hp hl hn h0 h1 h2 h3 h4 h5 h6
              · rw [show setB d zs p k id = true by unfold setB isP; rw [decide_eq_true h0, decide_eq_true (show 0 ≤ k ∧ k ≤ d by omega), decide_eq_true (show 0 ≤ p ∧ p < (pwr k : Nat) by omega), decide_eq_true (show 1 ≤ id by omega), decide_eq_true (show id ≤ 3000 by omega)]; rfl]
                exact rset_yes d a cap zs p k id w hp hl hn h0 h1 h2 h3 h4 h5 h6
  · rw [show setB d zs p k id = false by unfold setB; rw [decide_eq_false h0]; rfl]
    exact rset_no1 d a cap zs p k id w hp hl hn h0
end Go.Proofs.Ytophkfbdhejmcaa
