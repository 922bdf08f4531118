/- inTwos, Halve: the program's. -/
import Derived.Test.YtophkfbdhejmcaaSp
namespace Go.Proofs.Ytophkfbdhejmcaa
open Go.RowKit
set_option linter.unusedVariables false
set_option maxRecDepth 20000

set_option maxHeartbeats 1600000 in
theorem twos_any (a : Option Addr) (cap : Nat) (zs : List Int) (w : World) (hp : IV w a zs) (hl : zs.length ≤ 1000000) :
    Calls Try.prog 42 #[.slice a zs.length cap] w fun e w' => e = .returned (.bool (twoB zs)) ∧ Below w.heap.size w w' := by
  obtain ⟨r, hr⟩ : ∃ r, r = twoB zs := ⟨_, rfl⟩
  rw [← hr]
  have HR : Hid (r = twoB zs) := hr
  obtain ⟨n, hn⟩ : ∃ n, n = zs.length / 2 := ⟨_, rfl⟩
  have HN : Hid (n = zs.length / 2) := hn
  have t1 : Int.tdiv (zs.length : Int) 2 = (n : Int) := by rw [Int.tdiv_eq_ediv_of_nonneg (by omega)]; omega
  have t2 : (zs.length : Int) / 2 = (n : Int) := by omega
  have hnl : n ≤ 500000 := by omega
  clear hr hn
  go_enter Try.func42, Try.ntmps42
  go_wp2
  clear t1 t2
  go_loopw [7] (fun i wr => ∃ k : Nat, k ≤ n ∧ i = .int .i64 k ∧ Hid (∀ m, m < k → zs.getD (2 * m) 0 = zs.getD (2 * m + 1) 0) ∧ Hid (Below w.heap.size w wr)) (fun i _ => n - (intOf i).toNat)
  case atStart => exact ⟨0, Nat.zero_le _, rfl, (fun m hm => by omega), Below.refl _ _⟩
  case round =>
    obtain ⟨k, hk, rfl, HM, HB⟩ := hrel
    by_cases hlt : k < n
    · obtain ⟨b1, o1, rfl, hb1, c1⟩ := (hp.below HB.out).cell (show 2 * k < zs.length by have := HN.out; omega)
      obtain ⟨b2, o2, e2, hb2, c2⟩ := (hp.below HB.out).cell (show 2 * k + 1 < zs.length by have := HN.out; omega)
      obtain ⟨rfl, rfl⟩ : b1 = b2 ∧ o1 = o2 := by simpa using e2
      have HKN : Hid (2 * k + 1 < zs.length) := by have := HN.out; show 2 * k + 1 < zs.length; omega
      have x1 : 2 * (k : Int) < (zs.length : Int) := by have := HKN.out; omega
      have x2 : 2 * (k : Int) + 1 < (zs.length : Int) := by have := HKN.out; omega
      have x3 : (2 * (k : Int)).toNat = 2 * k := by omega
      have x4 : (2 * (k : Int) + 1).toNat = 2 * k + 1 := by omega
      have x5 : (0 : Int) ≤ 2 * (k : Int) := by omega
      have x6 : (0 : Int) ≤ 2 * (k : Int) + 1 := by omega
      have x7 : IntKind.i64.wrap (2 * (k : Int)) = 2 * k := by rw [IntKind.wrap_i64]; omega
      have x8 : IntKind.i64.wrap (2 * (k : Int) + 1) = 2 * k + 1 := by rw [IntKind.wrap_i64]; omega
      have x0 : (k : Int) < (n : Int) := by omega
      by_cases hq : zs.getD (2 * k) 0 = zs.getD (2 * k + 1) 0
      · have HM1 : Hid (∀ m, m < k + 1 → zs.getD (2 * m) 0 = zs.getD (2 * m + 1) 0) := by
          intro m hm
          by_cases e : m = k
          · subst e; exact hq
          · exact HM.out m (by omega)
        rw [← hq] at c2
        clear hq
        generalize zs.getD (2 * k) 0 = x at *
        go_wp2
        go_quiet (fail)
        go_wp2
        clear x0 x1 x2 x3 x4 x5 x6 x7 x8
        go_roundw
        case rel => exact ⟨k + 1, by omega, by go_num, HM1, below_drewN HB.out _⟩
        case measure => simp [intOf]; omega
      · have HF : Hid (r = false) := HR.out.trans (two_false (by have := HN.out; omega) hq)
        generalize zs.getD (2 * k) 0 = x at *
        generalize zs.getD (2 * k + 1) 0 = y at *
        go_wp2
        go_quiet (fail)
        go_wp2
        go_ret
        exact ⟨by rw [HF.out]; rfl, below_drewN HB.out _⟩
    · have : k = n := by omega
      subst this
      have HT : Hid (r = true) := HR.out.trans (two_true (fun m hm => HM.out m (by have := HN.out; omega)))
      have hxx : ¬ ((k : Int) < (k : Int)) := by omega
      go_wp2
      go_ret
      exact ⟨by rw [HT.out]; rfl, HB.out⟩
set_option maxHeartbeats 1600000 in
theorem halve_no1 (d : Int) (a : Option Addr) (cap : Nat) (zs : List Int) (w : World) (hp : IV w a zs) (hl : zs.length ≤ 100000) (hn : a = none → cap = 0) (h0 : ¬ chkE d zs = 0) :
    Calls Try.prog 24 #[dv d a zs.length cap] w fun e w' => ∃ v, e = .returned (.tuple #[v, .bool false]) ∧ DV w' v (d) (zs) ∧ Below w.heap.size w w' := by
  replace hl : zs.length ≤ 1000000 := by omega
  obtain ⟨W0, hW0⟩ : ∃ W0, W0 = (w.alloc (.cells #[.int .i64 d, .slice a zs.length cap] 26)).alloc (.cells #[.int .i64 0, .slice none 0 0] 26) := ⟨_, rfl⟩
  have HB0 : Hid (Below w.heap.size w W0) := by rw [hW0]; exact two_blocks _ _ _
  have HS0 : Hid (W0.heap.size = w.heap.size + 1 + 1) := by rw [hW0]; simp [Hid]
  have HC : Hid (∀ W, Below w.heap.size w W → Calls Try.prog 11 #[.agg #[.int .i64 d, .slice a zs.length cap]] W fun e w' => e = .returned (.int .i64 (chkE d zs)) ∧ Below W.heap.size W w') := fun W hW => check_any d a cap zs W (hp.below hW) hl
  have HK : Hid (∀ W, Below w.heap.size w W → Calls Try.prog 41 #[.agg #[.int .i64 d, .slice a zs.length cap]] W fun e w' => ∃ a' c', e = .returned (.agg #[.int .i64 d, .slice a' zs.length c']) ∧ (a' = none → c' = 0) ∧ IVh W.heap.size w' a' zs ∧ Below W.heap.size W w') := fun W hW => clone_d d a cap zs W (hp.below hW) hl hn
  have CL : Hid (∀ W, Below W0.heap.size W0 W → W.cell? ⟨w.heap.size, 0, none⟩ = some (.int .i64 d) ∧ W.cell? ⟨w.heap.size, 1, none⟩ = some (.slice a zs.length cap) ∧ W.cell? ⟨w.heap.size + 1, 0, none⟩ = some (.int .i64 0) ∧ W.cell? ⟨w.heap.size + 1, 1, none⟩ = some (.slice none 0 0) ∧ W.frozen? ⟨w.heap.size + 1, 0, none⟩ = false ∧ W.frozen? ⟨w.heap.size + 1, 1, none⟩ = false) := fun W hW => by
    rw [hW0] at hW
    exact box22 hW
  clear hp
  unfold dv
  generalize chkE d zs = x at *
  go_enter Try.func24, Try.ntmps24
  go_wp2_with (first
    | (go_at_call 11; rw [← hW0]; refine (HC.out _ HB0.out).mono ?_; rintro e w1 ⟨rfl, b1⟩; clear hW0; obtain ⟨c0, c1, c2, c3, c4, c5⟩ := CL.out _ b1)
    | (go_at_call 41; refine (HK.out _ (bt HB0.out b1)).mono ?_; rintro e w2 ⟨a', c', rfl, hn', hiv, b2⟩; obtain ⟨r0, r1, r2, r3, r4, r5⟩ := CL.out _ (bt b1 b2)))
  refine bodyPost_ret (v := .tuple #[.agg #[.int .i64 d, .slice a' zs.length c'], .bool false]) (by simp [results, Try.results24, go_sem, r2, r3]) rfl ⟨_, rfl, ⟨a', c', rfl, hn', ?_⟩, ?_⟩
  · exact (hiv.set2 (L := w.heap.size) (by have := HS0.out; have := b1.size; show w.heap.size + 1 < _; omega) (by have := HS0.out; have := b1.size; omega) _ _).iv
  · exact set2_below (bt HB0.out (bt b1 b2)) (by omega) _ _
set_option maxHeartbeats 1600000 in
theorem halve_no2 (a : Option Addr) (cap : Nat) (zs : List Int) (w : World) (hp : IV w a zs) (hl : zs.length ≤ 100000) (hn : a = none → cap = 0) (h0 : chkE 0 zs = 0) :
    Calls Try.prog 24 #[dv 0 a zs.length cap] w fun e w' => ∃ v, e = .returned (.tuple #[v, .bool false]) ∧ DV w' v (0) (zs) ∧ Below w.heap.size w w' := by
  replace hl : zs.length ≤ 1000000 := by omega
  obtain ⟨W0, hW0⟩ : ∃ W0, W0 = (w.alloc (.cells #[.int .i64 0, .slice a zs.length cap] 26)).alloc (.cells #[.int .i64 0, .slice none 0 0] 26) := ⟨_, rfl⟩
  have HB0 : Hid (Below w.heap.size w W0) := by rw [hW0]; exact two_blocks _ _ _
  have HS0 : Hid (W0.heap.size = w.heap.size + 1 + 1) := by rw [hW0]; simp [Hid]
  have HC : Hid (∀ W, Below w.heap.size w W → Calls Try.prog 11 #[.agg #[.int .i64 0, .slice a zs.length cap]] W fun e w' => e = .returned (.int .i64 (chkE 0 zs)) ∧ Below W.heap.size W w') := fun W hW => check_any 0 a cap zs W (hp.below hW) hl
  have HK : Hid (∀ W, Below w.heap.size w W → Calls Try.prog 41 #[.agg #[.int .i64 0, .slice a zs.length cap]] W fun e w' => ∃ a' c', e = .returned (.agg #[.int .i64 0, .slice a' zs.length c']) ∧ (a' = none → c' = 0) ∧ IVh W.heap.size w' a' zs ∧ Below W.heap.size W w') := fun W hW => clone_d 0 a cap zs W (hp.below hW) hl hn
  have CL : Hid (∀ W, Below W0.heap.size W0 W → W.cell? ⟨w.heap.size, 0, none⟩ = some (.int .i64 0) ∧ W.cell? ⟨w.heap.size, 1, none⟩ = some (.slice a zs.length cap) ∧ W.cell? ⟨w.heap.size + 1, 0, none⟩ = some (.int .i64 0) ∧ W.cell? ⟨w.heap.size + 1, 1, none⟩ = some (.slice none 0 0) ∧ W.frozen? ⟨w.heap.size + 1, 0, none⟩ = false ∧ W.frozen? ⟨w.heap.size + 1, 1, none⟩ = false) := fun W hW => by
    rw [hW0] at hW
    exact box22 hW
  rw [h0] at HC
  clear hp h0
  unfold dv
  go_enter Try.func24, Try.ntmps24
  go_wp2_with (first
    | (go_at_call 11; rw [← hW0]; refine (HC.out _ HB0.out).mono ?_; rintro e w1 ⟨rfl, b1⟩; clear hW0; obtain ⟨c0, c1, c2, c3, c4, c5⟩ := CL.out _ b1)
    | (go_at_call 41; refine (HK.out _ (bt HB0.out b1)).mono ?_; rintro e w2 ⟨a', c', rfl, hn', hiv, b2⟩; obtain ⟨r0, r1, r2, r3, r4, r5⟩ := CL.out _ (bt b1 b2)))
  refine bodyPost_ret (v := .tuple #[.agg #[.int .i64 0, .slice a' zs.length c'], .bool false]) (by simp [results, Try.results24, go_sem, r2, r3]) rfl ⟨_, rfl, ⟨a', c', rfl, hn', ?_⟩, ?_⟩
  · exact (hiv.set2 (L := w.heap.size) (by have := HS0.out; have := b1.size; show w.heap.size + 1 < _; omega) (by have := HS0.out; have := b1.size; omega) _ _).iv
  · exact set2_below (bt HB0.out (bt b1 b2)) (by omega) _ _
set_option maxHeartbeats 1600000 in
theorem halve_no3 (d : Int) (a : Option Addr) (cap : Nat) (zs : List Int) (w : World) (hp : IV w a zs) (hl : zs.length ≤ 100000) (hn : a = none → cap = 0) (h0 : chkE d zs = 0) (h1 : ¬ d = 0) (h2 : twoB zs = false) :
    Calls Try.prog 24 #[dv d a zs.length cap] w fun e w' => ∃ v, e = .returned (.tuple #[v, .bool false]) ∧ DV w' v (d) (zs) ∧ Below w.heap.size w w' := by
  replace hl : zs.length ≤ 1000000 := by omega
  obtain ⟨W0, hW0⟩ : ∃ W0, W0 = (w.alloc (.cells #[.int .i64 d, .slice a zs.length cap] 26)).alloc (.cells #[.int .i64 0, .slice none 0 0] 26) := ⟨_, rfl⟩
  have HB0 : Hid (Below w.heap.size w W0) := by rw [hW0]; exact two_blocks _ _ _
  have HS0 : Hid (W0.heap.size = w.heap.size + 1 + 1) := by rw [hW0]; simp [Hid]
  have HC : Hid (∀ W, Below w.heap.size w W → Calls Try.prog 11 #[.agg #[.int .i64 d, .slice a zs.length cap]] W fun e w' => e = .returned (.int .i64 (chkE d zs)) ∧ Below W.heap.size W w') := fun W hW => check_any d a cap zs W (hp.below hW) hl
  have HK : Hid (∀ W, Below w.heap.size w W → Calls Try.prog 41 #[.agg #[.int .i64 d, .slice a zs.length cap]] W fun e w' => ∃ a' c', e = .returned (.agg #[.int .i64 d, .slice a' zs.length c']) ∧ (a' = none → c' = 0) ∧ IVh W.heap.size w' a' zs ∧ Below W.heap.size W w') := fun W hW => clone_d d a cap zs W (hp.below hW) hl hn
  have CL : Hid (∀ W, Below W0.heap.size W0 W → W.cell? ⟨w.heap.size, 0, none⟩ = some (.int .i64 d) ∧ W.cell? ⟨w.heap.size, 1, none⟩ = some (.slice a zs.length cap) ∧ W.cell? ⟨w.heap.size + 1, 0, none⟩ = some (.int .i64 0) ∧ W.cell? ⟨w.heap.size + 1, 1, none⟩ = some (.slice none 0 0) ∧ W.frozen? ⟨w.heap.size + 1, 0, none⟩ = false ∧ W.frozen? ⟨w.heap.size + 1, 1, none⟩ = false) := fun W hW => by
    rw [hW0] at hW
    exact box22 hW
  have HT : Hid (∀ W, Below w.heap.size w W → Calls Try.prog 42 #[.slice a zs.length cap] W fun e w' => e = .returned (.bool (twoB zs)) ∧ Below W.heap.size W w') := fun W hW => twos_any a cap zs W (hp.below hW) hl
  rw [h0] at HC
  rw [h2] at HT
  clear hp h0 h2
  unfold dv
  go_enter Try.func24, Try.ntmps24
  go_wp2_with (first
    | (go_at_call 11; rw [← hW0]; refine (HC.out _ HB0.out).mono ?_; rintro e w1 ⟨rfl, b1⟩; clear hW0; obtain ⟨c0, c1, c2, c3, c4, c5⟩ := CL.out _ b1)
    | (go_at_call 42; refine (HT.out _ (bt HB0.out b1)).mono ?_; rintro e w3 ⟨rfl, b3⟩; obtain ⟨c0, c1, c2, c3, c4, c5⟩ := CL.out _ (bt b1 b3))
    | (go_at_call 41; refine (HK.out _ (bt HB0.out (bt b1 b3))).mono ?_; rintro e w2 ⟨a', c', rfl, hn', hiv, b2⟩; obtain ⟨r0, r1, r2, r3, r4, r5⟩ := CL.out _ (bt (bt b1 b3) b2)))
  refine bodyPost_ret (v := .tuple #[.agg #[.int .i64 d, .slice a' zs.length c'], .bool false]) (by simp [results, Try.results24, go_sem, r2, r3]) rfl ⟨_, rfl, ⟨a', c', rfl, hn', ?_⟩, ?_⟩
  · exact (hiv.set2 (L := w.heap.size) (by have := HS0.out; have := b1.size; have := b3.size; show w.heap.size + 1 < _; omega) (by have := HS0.out; have := b1.size; have := b3.size; omega) _ _).iv
  · exact set2_below (bt HB0.out (bt (bt b1 b3) b2)) (by omega) _ _
set_option maxHeartbeats 1600000 in
theorem halve_yes (d : Int) (a : Option Addr) (cap : Nat) (zs : List Int) (w : World) (hp : IV w a zs) (hl : zs.length ≤ 100000) (hn : a = none → cap = 0) (h0 : chkE d zs = 0) (h1 : ¬ d = 0) (h2 : twoB zs = true) :
    Calls Try.prog 24 #[dv d a zs.length cap] w fun e w' => ∃ v, e = .returned (.tuple #[v, .bool true]) ∧ DV w' v (d - 1) (tabL (hlvF zs) (zs.length / 2)) ∧ Below w.heap.size w w' := by
  replace hl : zs.length ≤ 1000000 := by omega
  obtain ⟨W0, hW0⟩ : ∃ W0, W0 = (w.alloc (.cells #[.int .i64 d, .slice a zs.length cap] 26)).alloc (.cells #[.int .i64 0, .slice none 0 0] 26) := ⟨_, rfl⟩
  have HB0 : Hid (Below w.heap.size w W0) := by rw [hW0]; exact two_blocks _ _ _
  have HS0 : Hid (W0.heap.size = w.heap.size + 1 + 1) := by rw [hW0]; simp [Hid]
  have HC : Hid (∀ W, Below w.heap.size w W → Calls Try.prog 11 #[.agg #[.int .i64 d, .slice a zs.length cap]] W fun e w' => e = .returned (.int .i64 (chkE d zs)) ∧ Below W.heap.size W w') := fun W hW => check_any d a cap zs W (hp.below hW) hl
  have HK : Hid (∀ W, Below w.heap.size w W → Calls Try.prog 41 #[.agg #[.int .i64 d, .slice a zs.length cap]] W fun e w' => ∃ a' c', e = .returned (.agg #[.int .i64 d, .slice a' zs.length c']) ∧ (a' = none → c' = 0) ∧ IVh W.heap.size w' a' zs ∧ Below W.heap.size W w') := fun W hW => clone_d d a cap zs W (hp.below hW) hl hn
  have CL : Hid (∀ W, Below W0.heap.size W0 W → W.cell? ⟨w.heap.size, 0, none⟩ = some (.int .i64 d) ∧ W.cell? ⟨w.heap.size, 1, none⟩ = some (.slice a zs.length cap) ∧ W.cell? ⟨w.heap.size + 1, 0, none⟩ = some (.int .i64 0) ∧ W.cell? ⟨w.heap.size + 1, 1, none⟩ = some (.slice none 0 0) ∧ W.frozen? ⟨w.heap.size + 1, 0, none⟩ = false ∧ W.frozen? ⟨w.heap.size + 1, 1, none⟩ = false) := fun W hW => by
    rw [hW0] at hW
    exact box22 hW
  have HT : Hid (∀ W, Below w.heap.size w W → Calls Try.prog 42 #[.slice a zs.length cap] W fun e w' => e = .returned (.bool (twoB zs)) ∧ Below W.heap.size W w') := fun W hW => twos_any a cap zs W (hp.below hW) hl
  have hd := (chkE_ok h0).1
  rw [h0] at HC
  rw [h2] at HT
  clear h0 h2
  obtain ⟨i0, hi, hz0, hz1, hz2⟩ := info_parts Try.info3
  obtain ⟨N, hN⟩ : ∃ N : Nat, N = zs.length / 2 := ⟨_, rfl⟩
  have HN : Hid (N = zs.length / 2) := hN
  have HQ1 : Hid (Int.tdiv (zs.length : Int) 2 = (N : Int)) := by show Int.tdiv (zs.length : Int) 2 = (N : Int); rw [Int.tdiv_eq_ediv_of_nonneg (by omega)]; omega
  have HQ2 : Hid ((zs.length : Int) / 2 = (N : Int)) := by show (zs.length : Int) / 2 = (N : Int); omega
  have HNB : Hid (N ≤ 2000000) := by show N ≤ 2000000; omega
  have HIV : Hid (∀ W, Below w.heap.size w W → IV W a zs) := fun W hW => hp.below hW
  clear hp HK hN
  unfold dv
  go_enter Try.func24, Try.ntmps24
  go_wp2_with (first
    | (go_at_call 11; rw [← hW0]; refine (HC.out _ HB0.out).mono ?_; rintro e w1 ⟨rfl, b1⟩; clear hW0; obtain ⟨c0, c1, c2, c3, c4, c5⟩ := CL.out _ b1)
    | (go_at_call 42; refine (HT.out _ (bt HB0.out b1)).mono ?_; rintro e w3 ⟨rfl, b3⟩; obtain ⟨c0, c1, c2, c3, c4, c5⟩ := CL.out _ (bt b1 b3))
    | (at_make; refine wpList_make_full _ rfl _ _ 22 rfl w3.heap.size 3 i0 (.int .i64 0) 1 Try.underlying22 hi hz0 hz1 .i64 .i64 _ _ N rfl rfl (by first | rfl | exact HQ1.out | exact HQ2.out) (by first | rfl | exact HQ1.out | exact HQ2.out) ?c2 ?c3 (Nat.le_refl _) ?_))
  case c2 => rw [hz2]; have := HNB.out; omega
  case c3 => unfold maxLen; have := HNB.out; omega
  intro w4 hown hg
  have HO1 : Hid (w4.ownsRow w3.heap.size 3 1 (.slice (some ⟨w3.heap.size, 0, none⟩) N N) N (fillL (hlvF zs) N 0)) := by
    rw [toList_madeCells_one] at hown; rw [fillL_zero]; exact hown
  have HB1 : Hid (Below w3.heap.size w3 w4) := (Below.refl _ _).grown hg (Nat.le_refl _) (by intro k hk; cases hk)
  clear hown hg
  clear c0 c1 c2 c3 c4 c5
  have hNB : N ≤ 2000000 := HNB.out
  obtain ⟨c0, c1, c2, c3, c4, c5⟩ := CL.out _ (bt (bt b1 b3) HB1.out)
  go_wp2
  clear c0 c1 c2 c3 c4 c5
  go_loopw [29] (fun iv wr => ∃ k : Nat, k ≤ N ∧ iv = .int .i64 k ∧ Hid (wr.ownsRow w3.heap.size 3 1 (.slice (some ⟨w3.heap.size, 0, none⟩) N N) N (fillL (hlvF zs) N k)) ∧ Hid (Below w3.heap.size w3 wr)) (fun iv _ => N - (intOf iv).toNat)
  case atStart => exact ⟨0, Nat.zero_le _, rfl, HO1.out, HB1.out⟩
  case round =>
    obtain ⟨k, hk, rfl, HO, HB⟩ := hrel
    clear HO1 HB1
    obtain ⟨c0, c1, c2, c3, c4, c5⟩ := CL.out _ (bt (bt b1 b3) HB.out)
    by_cases hlt : k < N
    · obtain ⟨q, hq⟩ : ∃ q : Nat, q = 2 * k := ⟨_, rfl⟩
      have hqz : q < zs.length := by have := HN.out; omega
      have HF : Hid (hlvF zs k = zs.getD q 0) := by rw [hq]; rfl
      obtain ⟨g, off, ea, hgl, hc⟩ := (HIV.out _ (bt HB0.out (bt (bt b1 b3) HB.out))).cell hqz
      have hq1 : (q : Int) < (zs.length : Int) := by omega
      have hq2 : 2 * (k : Int) = (q : Int) := by omega
      have hq4 : (2 * (k : Int)).toNat = q := by omega
      have hst := HO.out.cellAt k (by omega)
      have hfz := HO.out.frozenAt k
      have hu : ∃ u, wr.cell? ⟨w3.heap.size, k, none⟩ = some u := by
        rw [hst]
        exact ⟨_, List.getElem?_eq_getElem (by rw [fillL_len]; exact hlt)⟩
      obtain ⟨u, hu⟩ := hu
      clear hst hq
      subst ea
      have hlt2 : (k : Int) < (N : Int) := by omega
      have HST : Hid (World.ownsRow (wr.setCell ⟨w3.heap.size, k, none⟩ (.int .i64 (zs.getD q 0))) w3.heap.size 3 1 (.slice (some ⟨w3.heap.size, 0, none⟩) N N) N (fillL (hlvF zs) N (k + 1))) := by
        have h := (HO.out.stored k (.int .i64 (hlvF zs k))).1
        rw [fillL_set _ N k hlt, HF.out] at h
        exact h
      have HBN : Hid (Below w3.heap.size w3 (wr.setCell ⟨w3.heap.size, k, none⟩ (.int .i64 (zs.getD q 0)))) := HB.out.setCell (p := ⟨w3.heap.size, k, none⟩) (Nat.le_refl _) _
      generalize zs.getD q 0 = z at *
      go_wp2
      go_roundw
      case rel => exact ⟨k + 1, by omega, by go_num, HST.out, HBN.out⟩
      case measure => simp [intOf]; omega
    · have : k = N := by omega
      subst this
      have h := HO.out
      rw [fillL_full] at h
      have HF : Hid (OwnI wr w3.heap.size (.slice (some ⟨w3.heap.size, 0, none⟩) k k) (tabL (hlvF zs) k)) := by
        show World.ownsRow _ _ _ _ _ _ _
        rw [tabL_len]
        exact h
      clear h HO
      have hxx : ¬ ((k : Int) < (k : Int)) := by omega
      go_wp2
      refine bodyPost_ret (v := .tuple #[.agg #[.int .i64 (d - 1), .slice (some ⟨w3.heap.size, 0, none⟩) k k], .bool true]) (by simp [results, Try.results24, go_sem, c2, c3]) rfl ⟨_, rfl, ?_, ?_⟩
      · obtain ⟨a9, c9, e9, h9, hv9, _, _⟩ := HF.out.view
        obtain ⟨rfl, _, rfl⟩ := Value.slice.inj e9
        have hz : zs.length / 2 = k := HN.out.symm
        rw [hz]
        refine ⟨_, k, by rw [tabL_len]; rfl, h9, ?_⟩
        exact (hv9.set2 (L := w.heap.size) (by have := HS0.out; have := b1.size; have := b3.size; show w.heap.size + 1 < _; omega) (by have := HS0.out; have := b1.size; have := b3.size; omega) _ _).iv
      · exact set2_below (bt HB0.out (bt (bt b1 b3) HB.out)) (by omega) _ _
theorem halve_any (d : Int) (a : Option Addr) (cap : Nat) (zs : List Int) (w : World) (hp : IV w a zs) (hl : zs.length ≤ 100000) (hn : a = none → cap = 0) :
    Calls Try.prog 24 #[dv d a zs.length cap] w fun e w' => ∃ v, e = .returned (.tuple #[v, .bool (hlvB d zs)]) ∧ DV w' v (hlvD d zs) (hlvL d zs) ∧ Below w.heap.size w w' := by
  unfold hlvD hlvL
  by_cases h0 : chkE d zs = 0
  · by_cases h1 : d = 0
    · rw [show hlvB d zs = false by unfold hlvB; rw [decide_eq_true h1]; simp]
      subst h1
      exact halve_no2 a cap zs w hp hl hn h0
    · cases h2 : twoB zs with
      | false =>
        rw [show hlvB d zs = false by unfold hlvB; rw [h2]; simp]
        exact halve_no3 d a cap zs w hp hl hn h0 h1 h2
      | true =>
        rw [show hlvB d zs = true by unfold hlvB; rw [decide_eq_true h0, decide_eq_false h1, h2]; rfl]
        exact halve_yes d a cap zs w hp hl hn h0 h1 h2
  · rw [show hlvB d zs = false by unfold hlvB; rw [decide_eq_false h0]; rfl]
    exact halve_no1 d a cap zs w hp hl hn h0
end Go.Proofs.Ytophkfbdhejmcaa
