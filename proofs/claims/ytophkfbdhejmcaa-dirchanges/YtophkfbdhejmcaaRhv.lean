/- Halve: the document's. -/
import Derived.Test.YtophkfbdhejmcaaRdb
import Derived.StillTailTactics
import Derived.Deep.AppendLies
import Derived.Deep.RegionLaw
namespace Go.Proofs.Ytophkfbdhejmcaa
open Go.RowKit
set_option linter.unusedVariables false
set_option maxRecDepth 20000

set_option maxHeartbeats 1600000 in
theorem rhalve_no1 (d : Int) (a : Option Addr) (cap : Nat) (zs : List Int) (w : World) (hp : IV w a zs) (hl : zs.length ≤ 100000) (hn : a = none → cap = 0) (h0 : ¬ chkE d zs = 0) :
    Calls Try.prog 25 #[dv d a zs.length cap] w fun e w' => ∃ v, e = .returned (.tuple #[v, .bool false]) ∧ DV w' v (d) (zs) ∧ Below w.heap.size w w' := by
  replace hl : zs.length ≤ 1000000 := by omega
  obtain ⟨W0, hW0⟩ : ∃ W0, W0 = (w.alloc (.cells #[.int .i64 d, .slice a zs.length cap] 24)).alloc (.cells #[.int .i64 0, .slice none 0 0] 24) := ⟨_, rfl⟩
  have HB0 : Hid (Below w.heap.size w W0) := by rw [hW0]; exact two_blocks _ _ _
  have HS0 : Hid (W0.heap.size = w.heap.size + 1 + 1) := by rw [hW0]; simp [Hid]
  have HC : Hid (∀ W, Below w.heap.size w W → Calls Try.prog 12 #[.agg #[.int .i64 d, .slice a zs.length cap]] W fun e w' => e = .returned (.int .i64 (chkE d zs)) ∧ Below W.heap.size W w') := fun W hW => rcheck_any d a cap zs W (hp.below hW) hl
  have CL : Hid (∀ W, Below W0.heap.size W0 W → W.cell? ⟨w.heap.size, 0, none⟩ = some (.int .i64 d) ∧ W.cell? ⟨w.heap.size, 1, none⟩ = some (.slice a zs.length cap) ∧ W.cell? ⟨w.heap.size + 1, 0, none⟩ = some (.int .i64 0) ∧ W.cell? ⟨w.heap.size + 1, 1, none⟩ = some (.slice none 0 0) ∧ W.frozen? ⟨w.heap.size + 1, 0, none⟩ = false ∧ W.frozen? ⟨w.heap.size + 1, 1, none⟩ = false) := fun W hW => by
    rw [hW0] at hW
    exact box22 hW
  have HIV : Hid (IV w a zs) := hp
  unfold dv
  generalize chkE d zs = x at *
  go_enter Try.func25, Try.ntmps25
  go_wp2_with (first | (go_at_call 12; rw [← hW0]; refine (HC.out _ HB0.out).mono ?_; rintro e w1 ⟨rfl, b1⟩; clear hW0; obtain ⟨c0, c1, c2, c3, c4, c5⟩ := CL.out _ b1))
  refine bodyPost_ret (v := .tuple #[.agg #[.int .i64 d, .slice a zs.length cap], .bool false]) (by simp [results, Try.results25, go_sem, c2, c3]) rfl ⟨_, rfl, ⟨a, cap, rfl, hn, ?_⟩, ?_⟩
  · exact IV.set2 (w := w) hp (bt HB0.out b1) (by omega) _ _
  · exact set2_below (bt HB0.out b1) (by omega) _ _
set_option maxHeartbeats 1600000 in
theorem rhalve_no2 (a : Option Addr) (cap : Nat) (zs : List Int) (w : World) (hp : IV w a zs) (hl : zs.length ≤ 100000) (hn : a = none → cap = 0) (h0 : chkE 0 zs = 0) :
    Calls Try.prog 25 #[dv 0 a zs.length cap] w fun e w' => ∃ v, e = .returned (.tuple #[v, .bool false]) ∧ DV w' v (0) (zs) ∧ Below w.heap.size w w' := by
  replace hl : zs.length ≤ 1000000 := by omega
  obtain ⟨W0, hW0⟩ : ∃ W0, W0 = (w.alloc (.cells #[.int .i64 0, .slice a zs.length cap] 24)).alloc (.cells #[.int .i64 0, .slice none 0 0] 24) := ⟨_, rfl⟩
  have HB0 : Hid (Below w.heap.size w W0) := by rw [hW0]; exact two_blocks _ _ _
  have HS0 : Hid (W0.heap.size = w.heap.size + 1 + 1) := by rw [hW0]; simp [Hid]
  have HC : Hid (∀ W, Below w.heap.size w W → Calls Try.prog 12 #[.agg #[.int .i64 0, .slice a zs.length cap]] W fun e w' => e = .returned (.int .i64 (chkE 0 zs)) ∧ Below W.heap.size W w') := fun W hW => rcheck_any 0 a cap zs W (hp.below hW) hl
  have CL : Hid (∀ W, Below W0.heap.size W0 W → W.cell? ⟨w.heap.size, 0, none⟩ = some (.int .i64 0) ∧ W.cell? ⟨w.heap.size, 1, none⟩ = some (.slice a zs.length cap) ∧ W.cell? ⟨w.heap.size + 1, 0, none⟩ = some (.int .i64 0) ∧ W.cell? ⟨w.heap.size + 1, 1, none⟩ = some (.slice none 0 0) ∧ W.frozen? ⟨w.heap.size + 1, 0, none⟩ = false ∧ W.frozen? ⟨w.heap.size + 1, 1, none⟩ = false) := fun W hW => by
    rw [hW0] at hW
    exact box22 hW
  have HIV : Hid (IV w a zs) := hp
  rw [h0] at HC
  clear h0
  unfold dv
  go_enter Try.func25, Try.ntmps25
  go_wp2_with (first | (go_at_call 12; rw [← hW0]; refine (HC.out _ HB0.out).mono ?_; rintro e w1 ⟨rfl, b1⟩; clear hW0; obtain ⟨c0, c1, c2, c3, c4, c5⟩ := CL.out _ b1))
  refine bodyPost_ret (v := .tuple #[.agg #[.int .i64 0, .slice a zs.length cap], .bool false]) (by simp [results, Try.results25, go_sem, c2, c3]) rfl ⟨_, rfl, ⟨a, cap, rfl, hn, ?_⟩, ?_⟩
  · exact IV.set2 (w := w) hp (bt HB0.out b1) (by omega) _ _
  · exact set2_below (bt HB0.out b1) (by omega) _ _
theorem tab_hlv (zs : List Int) (k : Nat) : tabL (hlvF zs) k ++ [zs.getD (2 * k) 0] = tabL (hlvF zs) (k + 1) := by
  rw [tabL_succ]; rfl
theorem iv_one (w : World) (x : Int) : IV (w.alloc (.cells #[.int .i64 x] 3)) (some ⟨w.heap.size, 0, none⟩) [x] := by
  refine .inr ⟨w.heap.size, 0, rfl, by simp, fun i hi => ?_⟩
  obtain rfl : i = 0 := by simp at hi; omega
  go_simp
set_option maxHeartbeats 1600000 in
theorem rhalve_main (d : Int) (a : Option Addr) (cap : Nat) (zs : List Int) (w : World) (hp : IV w a zs) (hl : zs.length ≤ 100000) (hn : a = none → cap = 0) (h0 : chkE d zs = 0) (h1 : ¬ d = 0) :
    Calls Try.prog 25 #[dv d a zs.length cap] w fun e w' => ∃ v, e = .returned (.tuple #[v, .bool (twoB zs)]) ∧ DV w' v (if twoB zs then d - 1 else d) (if twoB zs then tabL (hlvF zs) (zs.length / 2) else zs) ∧ Below w.heap.size w w' := by
  replace hl : zs.length ≤ 1000000 := by omega
  obtain ⟨W0, hW0⟩ : ∃ W0, W0 = (w.alloc (.cells #[.int .i64 d, .slice a zs.length cap] 24)).alloc (.cells #[.int .i64 0, .slice none 0 0] 24) := ⟨_, rfl⟩
  have HB0 : Hid (Below w.heap.size w W0) := by rw [hW0]; exact two_blocks _ _ _
  have HS0 : Hid (W0.heap.size = w.heap.size + 1 + 1) := by rw [hW0]; simp [Hid]
  have HC : Hid (∀ W, Below w.heap.size w W → Calls Try.prog 12 #[.agg #[.int .i64 d, .slice a zs.length cap]] W fun e w' => e = .returned (.int .i64 (chkE d zs)) ∧ Below W.heap.size W w') := fun W hW => rcheck_any d a cap zs W (hp.below hW) hl
  have CL : Hid (∀ W, Below W0.heap.size W0 W → W.cell? ⟨w.heap.size, 0, none⟩ = some (.int .i64 d) ∧ W.cell? ⟨w.heap.size, 1, none⟩ = some (.slice a zs.length cap) ∧ W.cell? ⟨w.heap.size + 1, 0, none⟩ = some (.int .i64 0) ∧ W.cell? ⟨w.heap.size + 1, 1, none⟩ = some (.slice none 0 0) ∧ W.frozen? ⟨w.heap.size + 1, 0, none⟩ = false ∧ W.frozen? ⟨w.heap.size + 1, 1, none⟩ = false) := fun W hW => by
    rw [hW0] at hW
    exact box22 hW
  have HIV : Hid (IV w a zs) := hp
  have hd := (chkE_ok h0).1
  have HL0 : Hid (zs.length ≤ 1024) := by
    show zs.length ≤ 1024
    have := (chkE_ok h0).2.1
    have := (pw_le hd).2
    omega
  rw [h0] at HC
  have h10 : (d == 0) = false := by rw [beq_eq_false_iff_ne]; exact h1
  obtain ⟨r, hr⟩ : ∃ r, r = twoB zs := ⟨_, rfl⟩
  rw [← hr]
  have HR : Hid (r = twoB zs) := hr
  obtain ⟨rd, hrd⟩ : ∃ rd, rd = (if r then d - 1 else d) := ⟨_, rfl⟩
  obtain ⟨rl, hrl⟩ : ∃ rl, rl = (if r then tabL (hlvF zs) (zs.length / 2) else zs) := ⟨_, rfl⟩
  rw [← hrd, ← hrl]
  have HRD : Hid (rd = (if r then d - 1 else d)) := hrd
  have HRL : Hid (rl = (if r then tabL (hlvF zs) (zs.length / 2) else zs)) := hrl
  clear h0 hp h1 hr hrd hrl
  unfold dv
  go_enter Try.func25, Try.ntmps25
  go_wp2_with (first | (go_at_call 12; rw [← hW0]; refine (HC.out _ HB0.out).mono ?_; rintro e w1 ⟨rfl, b1⟩; clear hW0; obtain ⟨c0, c1, c2, c3, c4, c5⟩ := CL.out _ b1))
  clear c0 c1 c2 c3 c4 c5
  go_loopw [4, 5] (fun lv iv wr => ∃ k : Nat, k ≤ zs.length / 2 ∧ iv = .int .i64 (2 * k : Nat) ∧ Hid (∀ m, m < k → zs.getD (2 * m) 0 = zs.getD (2 * m + 1) 0) ∧ Hid (OwnI wr w1.heap.size lv (tabL (hlvF zs) k)) ∧ Hid (Below w1.heap.size w1 wr)) (fun _ iv _ => zs.length - (intOf iv).toNat)
  case atStart => exact ⟨0, Nat.zero_le _, rfl, (fun m hm => by omega), OwnI.nil _ _, Below.refl _ _⟩
  case round =>
    obtain ⟨k, hk, rfl, HM, HO, HB⟩ := hrel
    obtain ⟨c0, c1, c2, c3, c4, c5⟩ := CL.out _ (bt b1 HB.out)
    obtain ⟨q, hq⟩ : ∃ q, q = 2 * k := ⟨_, rfl⟩
    have HQ : Hid (q = 2 * k) := hq
    rw [← hq]
    have HBW : Hid (Below w.heap.size w wr) := bt HB0.out (bt b1 HB.out)
    by_cases hlt : q + 1 < zs.length
    · obtain ⟨g, off, rfl, hgl, x1⟩ := (HIV.out.below HBW.out).cell (show q < zs.length by omega)
      obtain ⟨g', off', e2, _, x2⟩ := (HIV.out.below HBW.out).cell hlt
      obtain ⟨rfl, rfl⟩ : g = g' ∧ off = off' := by simpa using e2
      clear e2
      have y1 : (q : Int) < (zs.length : Int) := by omega
      have y2 : (q : Int) + 1 < (zs.length : Int) := by omega
      have y3 : ((q : Int) + 1).toNat = q + 1 := by omega
      have y4 : (0 : Int) ≤ (q : Int) + 1 := by omega
      have y5 : IntKind.i64.wrap ((q : Int) + 1) = q + 1 := by rw [IntKind.wrap_i64]; omega
      by_cases he : zs.getD q 0 = zs.getD (q + 1) 0
      · have HM1 : Hid (∀ m, m < k + 1 → zs.getD (2 * m) 0 = zs.getD (2 * m + 1) 0) := by
          intro m hm
          by_cases e : m = k
          · subst e; rw [← HQ.out]; exact he
          · exact HM.out m (by omega)
        have HT : Hid (tabL (hlvF zs) k ++ [zs.getD q 0] = tabL (hlvF zs) (k + 1)) := by rw [HQ.out]; exact tab_hlv zs k
        have HLN : Hid ((tabL (hlvF zs) k).length ≤ 300000) := by show (tabL (hlvF zs) k).length ≤ 300000; rw [tabL_len]; have := HL0.out; omega
        rw [← he] at x2
        clear he hq
        generalize zs.getD q 0 = z at *
        go_wp2
        go_quiet (fail)
        go_wp2_with (first
          | (at_builtin; refine wp_app_iv rfl _ _ rfl w1.heap.size _ (tabL (hlvF zs) k) [z] rfl (HO.out.below (below_drewN (one_block _ _) _)) (some ⟨wr.heap.size, 0, none⟩) 1 rfl ((iv_one _ z).below (below_drewN (Below.refl _ _) _)) (by intro h; cases h) (by have := HLN.out; simp; omega) (by have := HB.out.size; simp; omega) ?_; intro v5 w5 o5 b5; have O5 : Hid (OwnI w5 w1.heap.size v5 (tabL (hlvF zs) (k + 1))) := (by rw [← HT.out]; exact o5); have B5 : Hid (Below w1.heap.size w1 w5) := (HB.out.trans ((below_drewN (one_block _ _) _).mono HB.out.size)).trans b5; clear o5 b5))
        clear y1 y2 y3 y4 y5
        go_roundw
        case rel => exact ⟨k + 1, by have := HQ.out; omega, (by have := HQ.out; rw [show 2 * (k + 1) = q + 2 by omega]; go_num), HM1, O5.out, B5.out⟩
        case measure => simp [intOf]; omega
      · have HF : Hid (r = false) := HR.out.trans (two_false (m := k) (by have := HQ.out; omega) (by rw [← HQ.out]; exact he))
        clear hq
        generalize zs.getD q 0 = z at *
        generalize zs.getD (q + 1) 0 = z' at *
        go_wp2
        go_quiet (fail)
        go_wp2
        have e1 := HRD.out
        have e2 := HRL.out
        have e0 := HF.out
        subst e0
        rw [if_neg (by simp)] at e1 e2
        subst e1
        subst e2
        refine bodyPost_ret (v := .tuple #[.agg #[.int .i64 rd, .slice (some ⟨g, off, none⟩) rl.length cap], .bool false]) (by simp [results, Try.results25, go_sem, c2, c3]) rfl ⟨_, rfl, ⟨_, cap, rfl, hn, ?_⟩, ?_⟩
        · exact HIV.out.below (set2_below (below_drewN HBW.out _) (by omega) _ _)
        · exact set2_below (below_drewN HBW.out _) (by omega) _ _
    · have hk2 : zs.length / 2 = k := by have := HQ.out; omega
      have HT : Hid (r = true) := HR.out.trans (two_true (fun m hm => HM.out m (by omega)))
      have y2 : ¬ ((q : Int) + 1 < (zs.length : Int)) := by omega
      have y3 : q ≤ 1000000 := by have := HQ.out; omega
      obtain ⟨a9, c9, rfl, h9, hv9, _, _⟩ := HO.out.view
      rw [tabL_len]
      have HO2 : Hid (IVh w1.heap.size wr a9 (tabL (hlvF zs) k)) := hv9
      clear hv9 hq
      go_wp2
      have e1 := HRD.out
      have e2 := HRL.out
      have e0 := HT.out
      subst e0
      rw [if_pos rfl] at e1 e2
      subst e1
      subst e2
      refine bodyPost_ret (v := .tuple #[.agg #[.int .i64 (d - 1), .slice a9 k c9], .bool true]) (by simp [results, Try.results25, go_sem, c2, c3]) rfl ⟨_, rfl, ?_, ?_⟩
      · rw [hk2]
        refine ⟨a9, c9, by rw [tabL_len]; rfl, h9, ?_⟩
        exact (HO2.out.set2 (L := w.heap.size) (by have := HS0.out; have := b1.size; show w.heap.size + 1 < _; omega) (by have := HS0.out; have := b1.size; omega) _ _).iv
      · exact set2_below HBW.out (by omega) _ _
theorem rhalve_any (d : Int) (a : Option Addr) (cap : Nat) (zs : List Int) (w : World) (hp : IV w a zs) (hl : zs.length ≤ 100000) (hn : a = none → cap = 0) :
    Calls Try.prog 25 #[dv d a zs.length cap] w fun e w' => ∃ v, e = .returned (.tuple #[v, .bool (hlvB d zs)]) ∧ DV w' v (hlvD d zs) (hlvL d zs) ∧ Below w.heap.size w w' := by
  unfold hlvD hlvL
  by_cases h0 : chkE d zs = 0
  · by_cases h1 : d = 0
    · rw [show hlvB d zs = false by unfold hlvB; rw [decide_eq_true h1]; simp]
      subst h1
      exact rhalve_no2 a cap zs w hp hl hn h0
    · rw [show hlvB d zs = twoB zs by unfold hlvB; rw [decide_eq_true h0, decide_eq_false h1]; rfl]
      exact rhalve_main d a cap zs w hp hl hn h0 h1
  · rw [show hlvB d zs = false by unfold hlvB; rw [decide_eq_false h0]; rfl]
    exact rhalve_no1 d a cap zs w hp hl hn h0
end Go.Proofs.Ytophkfbdhejmcaa
