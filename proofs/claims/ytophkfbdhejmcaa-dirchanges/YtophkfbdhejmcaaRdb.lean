/- Double: the document's. -/
import Derived.Test.YtophkfbdhejmcaaSt
import Derived.StillTailTactics
import Derived.Deep.AppendLies
import Derived.Deep.RegionLaw
namespace Go.Proofs.Ytophkfbdhejmcaa
open Go.RowKit
set_option linter.unusedVariables false
set_option maxRecDepth 20000

set_option maxHeartbeats 1600000 in
theorem rdouble_no1 (d : Int) (a : Option Addr) (cap : Nat) (zs : List Int) (w : World) (hp : IV w a zs) (hl : zs.length ≤ 100000) (hn : a = none → cap = 0) (h0 : ¬ chkE d zs = 0) :
    Calls Try.prog 23 #[dv d a zs.length cap] w fun e w' => ∃ v, e = .returned (.tuple #[v, .bool false]) ∧ DV w' v (d) (zs) ∧ Below w.heap.size w w' := by
  replace hl : zs.length ≤ 1000000 := by omega
  obtain ⟨W0, hW0⟩ : ∃ W0, W0 = (w.alloc (.cells #[.int .i64 d, .slice a zs.length cap] 24)).alloc (.cells #[.int .i64 0, .slice none 0 0] 24) := ⟨_, rfl⟩
  have HB0 : Hid (Below w.heap.size w W0) := by rw [hW0]; exact two_blocks _ _ _
  have HS0 : Hid (W0.heap.size = w.heap.size + 1 + 1) := by rw [hW0]; simp [Hid]
  have HC : Hid (∀ W, Below w.heap.size w W → Calls Try.prog 12 #[.agg #[.int .i64 d, .slice a zs.length cap]] W fun e w' => e = .returned (.int .i64 (chkE d zs)) ∧ Below W.heap.size W w') := fun W hW => rcheck_any d a cap zs W (hp.below hW) hl
  have CL : Hid (∀ W, Below W0.heap.size W0 W → W.cell? ⟨w.heap.size, 0, none⟩ = some (.int .i64 d) ∧ W.cell? ⟨w.heap.size, 1, none⟩ = some (.slice a zs.length cap) ∧ W.cell? ⟨w.heap.size + 1, 0, none⟩ = some (.int .i64 0) ∧ W.cell? ⟨w.heap.size + 1, 1, none⟩ = some (.slice none 0 0) ∧ W.frozen? ⟨w.heap.size + 1, 0, none⟩ = false ∧ W.frozen? ⟨w.heap.size + 1, 1, none⟩ = false) := fun W hW => by
    rw [hW0] at hW
    exact box22 hW
  have HIV : Hid (IV w a zs) := hp
  unfold dv
  generalize chkE d zs = x at *
  go_enter Try.func23, Try.ntmps23
  go_wp2_with (first | (go_at_call 12; rw [← hW0]; refine (HC.out _ HB0.out).mono ?_; rintro e w1 ⟨rfl, b1⟩; clear hW0; obtain ⟨c0, c1, c2, c3, c4, c5⟩ := CL.out _ b1))
  refine bodyPost_ret (v := .tuple #[.agg #[.int .i64 d, .slice a zs.length cap], .bool false]) (by simp [results, Try.results23, go_sem, c2, c3]) rfl ⟨_, rfl, ⟨a, cap, rfl, hn, ?_⟩, ?_⟩
  · exact IV.set2 (w := w) hp (bt HB0.out b1) (by omega) _ _
  · exact set2_below (bt HB0.out b1) (by omega) _ _
set_option maxHeartbeats 1600000 in
theorem rdouble_no2 (a : Option Addr) (cap : Nat) (zs : List Int) (w : World) (hp : IV w a zs) (hl : zs.length ≤ 100000) (hn : a = none → cap = 0) (h0 : chkE 10 zs = 0) :
    Calls Try.prog 23 #[dv 10 a zs.length cap] w fun e w' => ∃ v, e = .returned (.tuple #[v, .bool false]) ∧ DV w' v (10) (zs) ∧ Below w.heap.size w w' := by
  replace hl : zs.length ≤ 1000000 := by omega
  obtain ⟨W0, hW0⟩ : ∃ W0, W0 = (w.alloc (.cells #[.int .i64 10, .slice a zs.length cap] 24)).alloc (.cells #[.int .i64 0, .slice none 0 0] 24) := ⟨_, rfl⟩
  have HB0 : Hid (Below w.heap.size w W0) := by rw [hW0]; exact two_blocks _ _ _
  have HS0 : Hid (W0.heap.size = w.heap.size + 1 + 1) := by rw [hW0]; simp [Hid]
  have HC : Hid (∀ W, Below w.heap.size w W → Calls Try.prog 12 #[.agg #[.int .i64 10, .slice a zs.length cap]] W fun e w' => e = .returned (.int .i64 (chkE 10 zs)) ∧ Below W.heap.size W w') := fun W hW => rcheck_any 10 a cap zs W (hp.below hW) hl
  have CL : Hid (∀ W, Below W0.heap.size W0 W → W.cell? ⟨w.heap.size, 0, none⟩ = some (.int .i64 10) ∧ W.cell? ⟨w.heap.size, 1, none⟩ = some (.slice a zs.length cap) ∧ W.cell? ⟨w.heap.size + 1, 0, none⟩ = some (.int .i64 0) ∧ W.cell? ⟨w.heap.size + 1, 1, none⟩ = some (.slice none 0 0) ∧ W.frozen? ⟨w.heap.size + 1, 0, none⟩ = false ∧ W.frozen? ⟨w.heap.size + 1, 1, none⟩ = false) := fun W hW => by
    rw [hW0] at hW
    exact box22 hW
  have HIV : Hid (IV w a zs) := hp
  rw [h0] at HC
  clear h0
  unfold dv
  go_enter Try.func23, Try.ntmps23
  go_wp2_with (first | (go_at_call 12; rw [← hW0]; refine (HC.out _ HB0.out).mono ?_; rintro e w1 ⟨rfl, b1⟩; clear hW0; obtain ⟨c0, c1, c2, c3, c4, c5⟩ := CL.out _ b1))
  refine bodyPost_ret (v := .tuple #[.agg #[.int .i64 10, .slice a zs.length cap], .bool false]) (by simp [results, Try.results23, go_sem, c2, c3]) rfl ⟨_, rfl, ⟨a, cap, rfl, hn, ?_⟩, ?_⟩
  · exact IV.set2 (w := w) hp (bt HB0.out b1) (by omega) _ _
  · exact set2_below (bt HB0.out b1) (by omega) _ _
theorem tab_dbl (zs : List Int) (k : Nat) : tabL (dblF zs) (2 * k) ++ [zs.getD k 0, zs.getD k 0] = tabL (dblF zs) (2 * (k + 1)) := by
  rw [show 2 * (k + 1) = 2 * k + 1 + 1 by omega, tabL_succ, tabL_succ, List.append_assoc]
  unfold dblF
  rw [show 2 * k / 2 = k by omega, show (2 * k + 1) / 2 = k by omega]
  rfl
theorem step_appI {ops : Array Oper} {o : Oper} {a : Act} {K : Act → World → Prop} {Q : Exit → Act → World → Prop} {E : Prop} {w : World} (hgd : o.guard = none) (s x : Operand)
    (ho : o.op = .call { callee := .builtin .append, args := #[s, x], argTypes := #[22, 22] }) (base : Nat) (v : Value) (zs ys : List Int) (hs : a.eval s = v) (hown : OwnI w base v zs)
    (ad : Addr) (m c : Nat) (hx : a.eval x = .slice (some ad) m c) (hv : IV w (some ad) ys) (hm : 0 < m) (hym : ys.length = m) (hlen : zs.length + m ≤ 1000000) (hbase : base ≤ w.heap.size)
    (h : ∀ g cap w', OwnI w' base (.slice (some ⟨g, 0, none⟩) (zs.length + m) cap) (zs ++ ys) → Below base w w' → K (a.put o.dst (.slice (some ⟨g, 0, none⟩) (zs.length + m) cap)) w') :
    if Region.wanted o (yielded ops a.tmps) = true then Oper.wp Try.prog o a w K Q else E := by
  obtain ⟨i0, hi, hz0, hz1, hz2⟩ := info_parts Try.info3
  refine step_append_lies w hgd s x 22 ho base 3 i0 (.int .i64 0) 1 8 Try.underlying22 hi hz0 hz1 hz2 rfl (by decide) v zs.length (zs.map (Value.int .i64)) hs hown ad m c (ys.map (Value.int .i64)) hx (by simp [hym]) hv.cells (i64row _) hm (by unfold maxLen; omega) (by omega) hbase w.heap.size rfl ?_
  intro g cap w' h1 h2 _ _
  refine h g cap w' ?_ ((Below.refl base w).grown h2 hbase (fun k hk => (World.ownsRow.lt hown k hk).1))
  unfold OwnI
  rw [List.length_append, List.map_append, hym]
  exact h1
theorem iv_two (w : World) (x y : Int) : IV (w.alloc (.cells #[.int .i64 x, .int .i64 y] 3)) (some ⟨w.heap.size, 0, none⟩) [x, y] := by
  refine .inr ⟨w.heap.size, 0, rfl, by simp, fun i hi => ?_⟩
  obtain rfl | rfl : i = 0 ∨ i = 1 := by simp at hi; omega
  · go_simp
  · go_simp
set_option maxHeartbeats 1600000 in
theorem rdouble_yes (d : Int) (a : Option Addr) (cap : Nat) (zs : List Int) (w : World) (hp : IV w a zs) (hl : zs.length ≤ 100000) (hn : a = none → cap = 0) (h0 : chkE d zs = 0) (h1 : ¬ d = 10) :
    Calls Try.prog 23 #[dv d a zs.length cap] w fun e w' => ∃ v, e = .returned (.tuple #[v, .bool true]) ∧ DV w' v (d + 1) (tabL (dblF zs) (2 * zs.length)) ∧ Below w.heap.size w w' := by
  replace hl : zs.length ≤ 1000000 := by omega
  obtain ⟨W0, hW0⟩ : ∃ W0, W0 = (w.alloc (.cells #[.int .i64 d, .slice a zs.length cap] 24)).alloc (.cells #[.int .i64 0, .slice none 0 0] 24) := ⟨_, rfl⟩
  have HB0 : Hid (Below w.heap.size w W0) := by rw [hW0]; exact two_blocks _ _ _
  have HS0 : Hid (W0.heap.size = w.heap.size + 1 + 1) := by rw [hW0]; simp [Hid]
  have HC : Hid (∀ W, Below w.heap.size w W → Calls Try.prog 12 #[.agg #[.int .i64 d, .slice a zs.length cap]] W fun e w' => e = .returned (.int .i64 (chkE d zs)) ∧ Below W.heap.size W w') := fun W hW => rcheck_any d a cap zs W (hp.below hW) hl
  have CL : Hid (∀ W, Below W0.heap.size W0 W → W.cell? ⟨w.heap.size, 0, none⟩ = some (.int .i64 d) ∧ W.cell? ⟨w.heap.size, 1, none⟩ = some (.slice a zs.length cap) ∧ W.cell? ⟨w.heap.size + 1, 0, none⟩ = some (.int .i64 0) ∧ W.cell? ⟨w.heap.size + 1, 1, none⟩ = some (.slice none 0 0) ∧ W.frozen? ⟨w.heap.size + 1, 0, none⟩ = false ∧ W.frozen? ⟨w.heap.size + 1, 1, none⟩ = false) := fun W hW => by
    rw [hW0] at hW
    exact box22 hW
  have HIV : Hid (IV w a zs) := hp
  have hd := (chkE_ok h0).1
  have HL0 : Hid (zs.length ≤ 1024) := by
    show zs.length ≤ 1024
    have := (chkE_ok h0).2.1
    have := (pw_le hd).2
    omega
  rw [h0] at HC
  have h10 : (d == 10) = false := by rw [beq_eq_false_iff_ne]; exact h1
  clear h0 hp h1
  unfold dv
  go_enter Try.func23, Try.ntmps23
  go_wp2_with (first | (go_at_call 12; rw [← hW0]; refine (HC.out _ HB0.out).mono ?_; rintro e w1 ⟨rfl, b1⟩; clear hW0; obtain ⟨c0, c1, c2, c3, c4, c5⟩ := CL.out _ b1))
  clear c0 c1 c2 c3 c4 c5
  go_loopw [4, 5] (fun lv iv wr => ∃ k : Nat, k ≤ zs.length ∧ iv = .int .i64 k ∧ Hid (OwnI wr w1.heap.size lv (tabL (dblF zs) (2 * k))) ∧ Hid (Below w1.heap.size w1 wr)) (fun _ iv _ => zs.length - (intOf iv).toNat)
  case atStart => exact ⟨0, Nat.zero_le _, rfl, OwnI.nil _ _, Below.refl _ _⟩
  case round =>
    obtain ⟨k, hk, rfl, HO, HB⟩ := hrel
    obtain ⟨c0, c1, c2, c3, c4, c5⟩ := CL.out _ (bt b1 HB.out)
    by_cases hlt : k < zs.length
    · obtain ⟨g, off, rfl, hgl, hc⟩ := HIV.out.cell hlt
      have hlt2 : (k : Int) < (zs.length : Int) := by omega
      have HT : Hid (tabL (dblF zs) (2 * k) ++ [zs.getD k 0, zs.getD k 0] = tabL (dblF zs) (2 * (k + 1))) := tab_dbl zs k
      have HLN : Hid ((tabL (dblF zs) (2 * k)).length ≤ 300000) := by show (tabL (dblF zs) (2 * k)).length ≤ 300000; rw [tabL_len]; have := HL0.out; omega
      generalize zs.getD k 0 = z at *
      have SL : Hid (∀ W, Below w1.heap.size w1 W → W.cell? ⟨w.heap.size, 1, none⟩ = some (.slice (some ⟨g, off, none⟩) zs.length cap) ∧ W.cell? ⟨g, off + k, none⟩ = some (.int .i64 z)) := fun W hW => ⟨(CL.out _ (bt b1 hW)).2.1, ((bt HB0.out (bt b1 hW)).cell (p := ⟨g, off + k, none⟩) hgl).trans hc⟩
      have BA : Hid (Below w1.heap.size w1 (wr.alloc (.cells #[.int .i64 z, .int .i64 z] 3)).drew) := HB.out.trans ((one_block _ _).drew.mono HB.out.size)
      go_wp2
      go_region_held3 (fun W => W.cell? ⟨w.heap.size, 1, none⟩ = some (.slice (some ⟨g, off, none⟩) zs.length cap) ∧ W.cell? ⟨g, off + k, none⟩ = some (.int .i64 z)) (first | exact SL.out _ HB.out.drew | exact SL.out _ BA.out | exact SL.out _ (BA.out.trans b5)) (first | (refine step_appI (by rfl) _ _ (by rfl) w1.heap.size u4 (tabL (dblF zs) (2 * k)) [z, z] (by rfl) (HO.out.below (one_block _ _).drew) ⟨wr.heap.size, 0, none⟩ 2 2 (by rfl) ((iv_two _ z z).below (Below.refl _ _).drew) (by decide) rfl (by have := HLN.out; simp; omega) (by have := HB.out.size; simp; omega) ?_; intro g5 c5 w5 o5 b5))
      have O5 : Hid (OwnI w5 w1.heap.size (.slice (some ⟨g5, 0, none⟩) ((tabL (dblF zs) (2 * k)).length + 2) c5) (tabL (dblF zs) (2 * (k + 1)))) := by rw [← HT.out]; exact o5
      have B5 : Hid (Below w1.heap.size w1 w5) := BA.out.trans b5
      clear o5 b5
      generalize (tabL (dblF zs) (2 * k)).length + 2 = n5 at *
      go_wp2
      go_roundw
      case rel => exact ⟨k + 1, by omega, by go_num, O5.out, B5.out⟩
      case measure => simp [intOf]; omega
    · have : k = zs.length := by omega
      subst this
      have hxx : ¬ ((zs.length : Int) < (zs.length : Int)) := by omega
      obtain ⟨a9, c9, rfl, h9, hv9, _, _⟩ := HO.out.view
      rw [tabL_len]
      go_wp2
      refine bodyPost_ret (v := .tuple #[.agg #[.int .i64 (d + 1), .slice a9 (2 * zs.length) c9], .bool true]) (by simp [results, Try.results23, go_sem, c2, c3]) rfl ⟨_, rfl, ?_, ?_⟩
      · refine ⟨a9, c9, by rw [tabL_len]; rfl, h9, ?_⟩
        exact (hv9.set2 (L := w.heap.size) (by have := HS0.out; have := b1.size; show w.heap.size + 1 < _; omega) (by have := HS0.out; have := b1.size; omega) _ _).iv
      · exact set2_below (bt HB0.out (bt b1 HB.out)) (by omega) _ _
theorem rdouble_any (d : Int) (a : Option Addr) (cap : Nat) (zs : List Int) (w : World) (hp : IV w a zs) (hl : zs.length ≤ 100000) (hn : a = none → cap = 0) :
    Calls Try.prog 23 #[dv d a zs.length cap] w fun e w' => ∃ v, e = .returned (.tuple #[v, .bool (dblB d zs)]) ∧ DV w' v (dblD d zs) (dblL d zs) ∧ Below w.heap.size w w' := by
  unfold dblD dblL
  by_cases h0 : chkE d zs = 0
  · by_cases h1 : d = 10
    · rw [show dblB d zs = false by unfold dblB; rw [decide_eq_true h1]; simp]
      subst h1
      exact rdouble_no2 a cap zs w hp hl hn h0
    · rw [show dblB d zs = true by unfold dblB; rw [decide_eq_true h0, decide_eq_false h1]; rfl]
      exact rdouble_yes d a cap zs w hp hl hn h0 h1
  · rw [show dblB d zs = false by unfold dblB; rw [decide_eq_false h0]; rfl]
    exact rdouble_no1 d a cap zs w hp hl hn h0
end Go.Proofs.Ytophkfbdhejmcaa
