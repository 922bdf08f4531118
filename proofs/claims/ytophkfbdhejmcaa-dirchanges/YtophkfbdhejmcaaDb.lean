/- Double: the program's. -/
import Derived.Test.YtophkfbdhejmcaaSp
namespace Go.Proofs.Ytophkfbdhejmcaa
open Go.RowKit
set_option linter.unusedVariables false
set_option maxRecDepth 20000

set_option maxHeartbeats 1600000 in
theorem double_no1 (d : Int) (a : Option Addr) (cap : Nat) (zs : List Int) (w : World) (hp : IV w a zs) (hl : zs.length ≤ 100000) (hn : a = none → cap = 0) (h0 : ¬ chkE d zs = 0) :
    Calls Try.prog 22 #[dv d a zs.length cap] w fun e w' => ∃ v, e = .returned (.tuple #[v, .bool false]) ∧ DV w' v (d) (zs) ∧ Below w.heap.size w w' := by
  replace hl : zs.length ≤ 1000000 := by omega
  obtain ⟨W0, hW0⟩ : ∃ W0, W0 = (w.alloc (.cells #[.int .i64 d, .slice a zs.length cap] 26)).alloc (.cells #[.int .i64 0, .slice none 0 0] 26) := ⟨_, rfl⟩
  have HB0 : Hid (Below w.heap.size w W0) := by rw [hW0]; exact two_blocks _ _ _
  have HS0 : Hid (W0.heap.size = w.heap.size + 1 + 1) := by rw [hW0]; simp [Hid]
  have HC : Hid (∀ W, Below w.heap.size w W → Calls Try.prog 11 #[.agg #[.int .i64 d, .slice a zs.length cap]] W fun e w' => e = .returned (.int .i64 (chkE d zs)) ∧ Below W.heap.size W w') := fun W hW => check_any d a cap zs W (hp.below hW) hl
  have HK : Hid (∀ W, Below w.heap.size w W → Calls Try.prog 41 #[.agg #[.int .i64 d, .slice a zs.length cap]] W fun e w' => ∃ a' c', e = .returned (.agg #[.int .i64 d, .slice a' zs.length c']) ∧ (a' = none → c' = 0) ∧ IVh W.heap.size w' a' zs ∧ Below W.heap.size W w') := fun W hW => clone_d d a cap zs W (hp.below hW) hl hn
  have CL : Hid (∀ W, Below W0.heap.size W0 W → W.cell? ⟨w.heap.size, 0, none⟩ = some (.int .i64 d) ∧ W.cell? ⟨w.heap.size, 1, none⟩ = some (.slice a zs.length cap) ∧ W.cell? ⟨w.heap.size + 1, 0, none⟩ = some (.int .i64 0) ∧ W.cell? ⟨w.heap.size + 1, 1, none⟩ = some (.slice none 0 0) ∧ W.frozen? ⟨w.heap.size + 1, 0, none⟩ = false ∧ W.frozen? ⟨w.heap.size + 1, 1, none⟩ = false) := fun W hW => by
    rw [hW0] at hW
    exact box22 hW
  clear hp
  unfold dv
  generalize chkE d zs = x at *
  go_enter Try.func22, Try.ntmps22
  go_wp2_with (first
    | (go_at_call 11; rw [← hW0]; refine (HC.out _ HB0.out).mono ?_; rintro e w1 ⟨rfl, b1⟩; clear hW0; obtain ⟨c0, c1, c2, c3, c4, c5⟩ := CL.out _ b1)
    | (go_at_call 41; refine (HK.out _ (bt HB0.out b1)).mono ?_; rintro e w2 ⟨a', c', rfl, hn', hiv, b2⟩; obtain ⟨r0, r1, r2, r3, r4, r5⟩ := CL.out _ (bt b1 b2)))
  refine bodyPost_ret (v := .tuple #[.agg #[.int .i64 d, .slice a' zs.length c'], .bool false]) (by simp [results, Try.results22, go_sem, r2, r3]) rfl ⟨_, rfl, ⟨a', c', rfl, hn', ?_⟩, ?_⟩
  · exact (hiv.set2 (L := w.heap.size) (by have := HS0.out; have := b1.size; show w.heap.size + 1 < _; omega) (by have := HS0.out; have := b1.size; omega) _ _).iv
  · exact set2_below (bt HB0.out (bt b1 b2)) (by omega) _ _
set_option maxHeartbeats 1600000 in
theorem double_no2 (a : Option Addr) (cap : Nat) (zs : List Int) (w : World) (hp : IV w a zs) (hl : zs.length ≤ 100000) (hn : a = none → cap = 0) (h0 : chkE 10 zs = 0) :
    Calls Try.prog 22 #[dv 10 a zs.length cap] w fun e w' => ∃ v, e = .returned (.tuple #[v, .bool false]) ∧ DV w' v (10) (zs) ∧ Below w.heap.size w w' := by
  replace hl : zs.length ≤ 1000000 := by omega
  obtain ⟨W0, hW0⟩ : ∃ W0, W0 = (w.alloc (.cells #[.int .i64 10, .slice a zs.length cap] 26)).alloc (.cells #[.int .i64 0, .slice none 0 0] 26) := ⟨_, rfl⟩
  have HB0 : Hid (Below w.heap.size w W0) := by rw [hW0]; exact two_blocks _ _ _
  have HS0 : Hid (W0.heap.size = w.heap.size + 1 + 1) := by rw [hW0]; simp [Hid]
  have HC : Hid (∀ W, Below w.heap.size w W → Calls Try.prog 11 #[.agg #[.int .i64 10, .slice a zs.length cap]] W fun e w' => e = .returned (.int .i64 (chkE 10 zs)) ∧ Below W.heap.size W w') := fun W hW => check_any 10 a cap zs W (hp.below hW) hl
  have HK : Hid (∀ W, Below w.heap.size w W → Calls Try.prog 41 #[.agg #[.int .i64 10, .slice a zs.length cap]] W fun e w' => ∃ a' c', e = .returned (.agg #[.int .i64 10, .slice a' zs.length c']) ∧ (a' = none → c' = 0) ∧ IVh W.heap.size w' a' zs ∧ Below W.heap.size W w') := fun W hW => clone_d 10 a cap zs W (hp.below hW) hl hn
  have CL : Hid (∀ W, Below W0.heap.size W0 W → W.cell? ⟨w.heap.size, 0, none⟩ = some (.int .i64 10) ∧ W.cell? ⟨w.heap.size, 1, none⟩ = some (.slice a zs.length cap) ∧ W.cell? ⟨w.heap.size + 1, 0, none⟩ = some (.int .i64 0) ∧ W.cell? ⟨w.heap.size + 1, 1, none⟩ = some (.slice none 0 0) ∧ W.frozen? ⟨w.heap.size + 1, 0, none⟩ = false ∧ W.frozen? ⟨w.heap.size + 1, 1, none⟩ = false) := fun W hW => by
    rw [hW0] at hW
    exact box22 hW
  rw [h0] at HC
  clear hp h0
  unfold dv
  go_enter Try.func22, Try.ntmps22
  go_wp2_with (first
    | (go_at_call 11; rw [← hW0]; refine (HC.out _ HB0.out).mono ?_; rintro e w1 ⟨rfl, b1⟩; clear hW0; obtain ⟨c0, c1, c2, c3, c4, c5⟩ := CL.out _ b1)
    | (go_at_call 41; refine (HK.out _ (bt HB0.out b1)).mono ?_; rintro e w2 ⟨a', c', rfl, hn', hiv, b2⟩; obtain ⟨r0, r1, r2, r3, r4, r5⟩ := CL.out _ (bt b1 b2)))
  refine bodyPost_ret (v := .tuple #[.agg #[.int .i64 10, .slice a' zs.length c'], .bool false]) (by simp [results, Try.results22, go_sem, r2, r3]) rfl ⟨_, rfl, ⟨a', c', rfl, hn', ?_⟩, ?_⟩
  · exact (hiv.set2 (L := w.heap.size) (by have := HS0.out; have := b1.size; show w.heap.size + 1 < _; omega) (by have := HS0.out; have := b1.size; omega) _ _).iv
  · exact set2_below (bt HB0.out (bt b1 b2)) (by omega) _ _
set_option maxHeartbeats 1600000 in
theorem double_yes (d : Int) (a : Option Addr) (cap : Nat) (zs : List Int) (w : World) (hp : IV w a zs) (hl : zs.length ≤ 100000) (hn : a = none → cap = 0) (h0 : chkE d zs = 0) (h1 : ¬ d = 10) :
    Calls Try.prog 22 #[dv d a zs.length cap] w fun e w' => ∃ v, e = .returned (.tuple #[v, .bool true]) ∧ DV w' v (d + 1) (tabL (dblF zs) (2 * zs.length)) ∧ Below w.heap.size w w' := by
  replace hl : zs.length ≤ 1000000 := by omega
  obtain ⟨W0, hW0⟩ : ∃ W0, W0 = (w.alloc (.cells #[.int .i64 d, .slice a zs.length cap] 26)).alloc (.cells #[.int .i64 0, .slice none 0 0] 26) := ⟨_, rfl⟩
  have HB0 : Hid (Below w.heap.size w W0) := by rw [hW0]; exact two_blocks _ _ _
  have HS0 : Hid (W0.heap.size = w.heap.size + 1 + 1) := by rw [hW0]; simp [Hid]
  have HC : Hid (∀ W, Below w.heap.size w W → Calls Try.prog 11 #[.agg #[.int .i64 d, .slice a zs.length cap]] W fun e w' => e = .returned (.int .i64 (chkE d zs)) ∧ Below W.heap.size W w') := fun W hW => check_any d a cap zs W (hp.below hW) hl
  have HK : Hid (∀ W, Below w.heap.size w W → Calls Try.prog 41 #[.agg #[.int .i64 d, .slice a zs.length cap]] W fun e w' => ∃ a' c', e = .returned (.agg #[.int .i64 d, .slice a' zs.length c']) ∧ (a' = none → c' = 0) ∧ IVh W.heap.size w' a' zs ∧ Below W.heap.size W w') := fun W hW => clone_d d a cap zs W (hp.below hW) hl hn
  have CL : Hid (∀ W, Below W0.heap.size W0 W → W.cell? ⟨w.heap.size, 0, none⟩ = some (.int .i64 d) ∧ W.cell? ⟨w.heap.size, 1, none⟩ = some (.slice a zs.length cap) ∧ W.cell? ⟨w.heap.size + 1, 0, none⟩ = some (.int .i64 0) ∧ W.cell? ⟨w.heap.size + 1, 1, none⟩ = some (.slice none 0 0) ∧ W.frozen? ⟨w.heap.size + 1, 0, none⟩ = false ∧ W.frozen? ⟨w.heap.size + 1, 1, none⟩ = false) := fun W hW => by
    rw [hW0] at hW
    exact box22 hW
  have hd := (chkE_ok h0).1
  rw [h0] at HC
  clear h0
  obtain ⟨i0, hi, hz0, hz1, hz2⟩ := info_parts Try.info3
  obtain ⟨N, hN⟩ : ∃ N : Nat, N = 2 * zs.length := ⟨_, rfl⟩
  have HN : Hid (N = 2 * zs.length) := hN
  have HQ1 : Hid (wrap64 (2 * (zs.length : Int)) = (N : Int)) := by show wrap64 (2 * (zs.length : Int)) = (N : Int); unfold wrap64; omega
  have HQ2 : Hid (2 * (zs.length : Int) = (N : Int)) := by show 2 * (zs.length : Int) = (N : Int); omega
  have HNB : Hid (N ≤ 2000000) := by show N ≤ 2000000; omega
  have HIV : Hid (∀ W, Below w.heap.size w W → IV W a zs) := fun W hW => hp.below hW
  clear hp HK hN
  unfold dv
  go_enter Try.func22, Try.ntmps22
  go_wp2_with (first
    | (go_at_call 11; rw [← hW0]; refine (HC.out _ HB0.out).mono ?_; rintro e w1 ⟨rfl, b1⟩; clear hW0; obtain ⟨c0, c1, c2, c3, c4, c5⟩ := CL.out _ b1)
    | (at_make; refine wpList_make_full _ rfl _ _ 22 rfl w1.heap.size 3 i0 (.int .i64 0) 1 Try.underlying22 hi hz0 hz1 .i64 .i64 _ _ N rfl rfl (by first | rfl | exact HQ1.out | exact HQ2.out) (by first | rfl | exact HQ1.out | exact HQ2.out) ?c2 ?c3 (Nat.le_refl _) ?_))
  case c2 => rw [hz2]; have := HNB.out; omega
  case c3 => unfold maxLen; have := HNB.out; omega
  intro w4 hown hg
  have HO1 : Hid (w4.ownsRow w1.heap.size 3 1 (.slice (some ⟨w1.heap.size, 0, none⟩) N N) N (fillL (dblF zs) N 0)) := by
    rw [toList_madeCells_one] at hown; rw [fillL_zero]; exact hown
  have HB1 : Hid (Below w1.heap.size w1 w4) := (Below.refl _ _).grown hg (Nat.le_refl _) (by intro k hk; cases hk)
  clear hown hg
  clear c0 c1 c2 c3 c4 c5
  have hNB : N ≤ 2000000 := HNB.out
  obtain ⟨c0, c1, c2, c3, c4, c5⟩ := CL.out _ (bt b1 HB1.out)
  go_wp2
  clear c0 c1 c2 c3 c4 c5
  go_loopw [23] (fun iv wr => ∃ k : Nat, k ≤ N ∧ iv = .int .i64 k ∧ Hid (wr.ownsRow w1.heap.size 3 1 (.slice (some ⟨w1.heap.size, 0, none⟩) N N) N (fillL (dblF zs) N k)) ∧ Hid (Below w1.heap.size w1 wr)) (fun iv _ => N - (intOf iv).toNat)
  case atStart => exact ⟨0, Nat.zero_le _, rfl, HO1.out, HB1.out⟩
  case round =>
    obtain ⟨k, hk, rfl, HO, HB⟩ := hrel
    clear HO1 HB1
    obtain ⟨c0, c1, c2, c3, c4, c5⟩ := CL.out _ (bt b1 HB.out)
    by_cases hlt : k < N
    · obtain ⟨q, hq⟩ : ∃ q : Nat, q = k / 2 := ⟨_, rfl⟩
      have hqz : q < zs.length := by have := HN.out; omega
      have HF : Hid (dblF zs k = zs.getD q 0) := by rw [hq]; rfl
      obtain ⟨g, off, ea, hgl, hc⟩ := (HIV.out _ (bt HB0.out (bt b1 HB.out))).cell hqz
      have hq1 : (q : Int) < (zs.length : Int) := by omega
      have hq2 : Int.tdiv (k : Int) 2 = (q : Int) := by rw [Int.tdiv_eq_ediv_of_nonneg (by omega)]; omega
      have hq3 : (k : Int) / 2 = (q : Int) := by omega
      have hst := HO.out.cellAt k (by omega)
      have hfz := HO.out.frozenAt k
      have hu : ∃ u, wr.cell? ⟨w1.heap.size, k, none⟩ = some u := by
        rw [hst]
        exact ⟨_, List.getElem?_eq_getElem (by rw [fillL_len]; exact hlt)⟩
      obtain ⟨u, hu⟩ := hu
      clear hst hq
      subst ea
      have hlt2 : (k : Int) < (N : Int) := by omega
      have HST : Hid (World.ownsRow (wr.setCell ⟨w1.heap.size, k, none⟩ (.int .i64 (zs.getD q 0))) w1.heap.size 3 1 (.slice (some ⟨w1.heap.size, 0, none⟩) N N) N (fillL (dblF zs) N (k + 1))) := by
        have h := (HO.out.stored k (.int .i64 (dblF zs k))).1
        rw [fillL_set _ N k hlt, HF.out] at h
        exact h
      have HBN : Hid (Below w1.heap.size w1 (wr.setCell ⟨w1.heap.size, k, none⟩ (.int .i64 (zs.getD q 0)))) := HB.out.setCell (p := ⟨w1.heap.size, k, none⟩) (Nat.le_refl _) _
      generalize zs.getD q 0 = z at *
      go_wp2
      go_roundw
      case rel => exact ⟨k + 1, by omega, by go_num, HST.out, HBN.out⟩
      case measure => simp [intOf]; omega
    · have : k = N := by omega
      subst this
      have h := HO.out
      rw [fillL_full] at h
      have HF : Hid (OwnI wr w1.heap.size (.slice (some ⟨w1.heap.size, 0, none⟩) k k) (tabL (dblF zs) k)) := by
        show World.ownsRow _ _ _ _ _ _ _
        rw [tabL_len]
        exact h
      clear h HO
      have hxx : ¬ ((k : Int) < (k : Int)) := by omega
      go_wp2
      refine bodyPost_ret (v := .tuple #[.agg #[.int .i64 (d + 1), .slice (some ⟨w1.heap.size, 0, none⟩) k k], .bool true]) (by simp [results, Try.results22, go_sem, c2, c3]) rfl ⟨_, rfl, ?_, ?_⟩
      · obtain ⟨a9, c9, e9, h9, hv9, _, _⟩ := HF.out.view
        obtain ⟨rfl, _, rfl⟩ := Value.slice.inj e9
        have hz : 2 * zs.length = k := HN.out.symm
        rw [hz]
        refine ⟨_, k, by rw [tabL_len]; rfl, h9, ?_⟩
        exact (hv9.set2 (L := w.heap.size) (by have := HS0.out; have := b1.size; show w.heap.size + 1 < _; omega) (by have := HS0.out; have := b1.size; omega) _ _).iv
      · exact set2_below (bt HB0.out (bt b1 HB.out)) (by omega) _ _
theorem double_any (d : Int) (a : Option Addr) (cap : Nat) (zs : List Int) (w : World) (hp : IV w a zs) (hl : zs.length ≤ 100000) (hn : a = none → cap = 0) :
    Calls Try.prog 22 #[dv d a zs.length cap] w fun e w' => ∃ v, e = .returned (.tuple #[v, .bool (dblB d zs)]) ∧ DV w' v (dblD d zs) (dblL d zs) ∧ Below w.heap.size w w' := by
  unfold dblD dblL
  by_cases h0 : chkE d zs = 0
  · by_cases h1 : d = 10
    · rw [show dblB d zs = false by unfold dblB; rw [decide_eq_true h1]; simp]
      subst h1
      exact double_no2 a cap zs w hp hl hn h0
    · rw [show dblB d zs = true by unfold dblB; rw [decide_eq_true h0, decide_eq_false h1]; rfl]
      exact double_yes d a cap zs w hp hl hn h0 h1
  · rw [show dblB d zs = false by unfold dblB; rw [decide_eq_false h0]; rfl]
    exact double_no1 d a cap zs w hp hl hn h0
end Go.Proofs.Ytophkfbdhejmcaa
