/- append of zeros. -/
import Derived.Test.YtophkfbdhejmcaaWide
namespace Go.Proofs.Ytophkfbdhejmcaa
set_option maxRecDepth 20000
open Go.RowKit
set_option linter.unusedVariables false
theorem zc_list (m : Nat) : (Builtin.zeroCells #[Value.int .u8 0] m).toList = List.replicate m (Value.int .u8 0) := by
  apply List.ext_getElem?
  intro j
  by_cases hj : j < m
  · simp [Builtin.zeroCells, hj, Nat.mod_one]
  · simp [Builtin.zeroCells, hj]
theorem zc_array (m : Nat) : Builtin.zeroCells #[Value.int .u8 0] m = (List.replicate m (Value.int .u8 0)).toArray := by
  rw [← zc_list]
theorem rep_one (m : Nat) : ∀ u ∈ List.replicate m (Value.int .u8 0), u.oneCell' = true := by
  intro u hu
  obtain ⟨_, rfl⟩ := List.mem_replicate.1 hu
  rfl
theorem run_zeros_room (w : World) (ty : TypeId) (i : TypeInfo) (hi : Try.prog.info? 5 = some i) (hz : i.zero = some (.int .u8 0)) (hs : i.size = 1) (hby : i.bytes = 1) (g n cap m : Nat) (cur : Array Value) (hg : w.heap[g]? = some (.cells cur 5 (0, 0))) (hm : 0 < m) (hmm : m ≤ 1000000) (hroom : n + m ≤ cap) (hfit : n + m ≤ cur.size) :
    (Builtin.append_ #[27, 3] ty #[.slice (some ⟨g, 0, none⟩) n cap, .int .i64 m]).run Try.prog w = .ok (.slice (some ⟨g, 0, none⟩) (n + m) cap) (w.setRow g (cur.toList.take n ++ List.replicate m (Value.int .u8 0) ++ cur.toList.drop (n + m)).toArray) := by
  have hst := run_storeCells_at Try.prog g n 5 (List.replicate m (Value.int .u8 0)) 0 cur w hg (by simpa using hfit) (rep_one m)
  simp only [Nat.add_zero, List.length_replicate] at hst
  have hw : IntKind.i64.wrap (m : Int) = m := by rw [IntKind.wrap_i64]; omega
  have hneg : ¬ ((m : Int) < 0) := by omega
  have h48i : ¬ (281474976710656 < (m : Int)) := by omega
  have hn : m ≠ 0 := by omega
  have hzc := zc_array m
  simp [Builtin.append_, run_underlying Try.underlying27, run_underlying Try.underlying3, sizeOf, typeInfo, zeroValue, hi, hz, hs, hby, asInt, asIntOf, hw, hn, hneg, h48i, hroom, Value.cells, hzc, Addr.add_lit, hst]
theorem run_zeros_grow (w : World) (ty : TypeId) (i : TypeInfo) (hi : Try.prog.info? 5 = some i) (hz : i.zero = some (.int .u8 0)) (hs : i.size = 1) (hby : i.bytes = 1) (g n cap m : Nat) (olds : List Value) (hlo : olds.length = n) (holds : ∀ j v, olds[j]? = some v → w.cell? ((⟨g, 0, none⟩ : Addr).add j) = some v) (hm : 0 < m) (hmm : n + m ≤ 1000000) (hgr : cap < n + m) (hfit : Builtin.nextslicecap (n + m) cap * 1 ≤ 281474976710656) :
    (Builtin.append_ #[27, 3] ty #[.slice (some ⟨g, 0, none⟩) n cap, .int .i64 m]).run Try.prog w = .ok (.slice (some ⟨w.heap.size, 0, none⟩) (n + m) (grownCap w (n + m) cap 5))
        (w.drew.alloc (.cells (olds.toArray ++ (List.replicate m (Value.int .u8 0)).toArray ++ Builtin.zeroCells #[.int .u8 0] (grownCap w (n + m) cap 5 - (n + m))) 5)) := by
  have hfo := run_firstCells_some (P := Try.prog) w.drew 1 n ⟨g, 0, none⟩ n cap olds (by simpa using hlo) (by simpa using holds)
  have hw : IntKind.i64.wrap (m : Int) = m := by rw [IntKind.wrap_i64]; omega
  have hneg : ¬ ((m : Int) < 0) := by omega
  have h48i : ¬ (281474976710656 < (m : Int)) := by omega
  have hn : m ≠ 0 := by omega
  have hno : ¬ (n + m ≤ cap) := by omega
  have h63' : ¬ (9223372036854775807 < ((n : Int) + (m : Int))) := by omega
  have h48' : ¬ (281474976710656 < Builtin.nextslicecap (n + m) cap) := by omega
  have hzc := zc_array m
  simp [Builtin.append_, run_underlying Try.underlying27, run_underlying Try.underlying3, sizeOf, typeInfo, zeroValue, hi, hz, hs, hby, asInt, asIntOf, hw, hn, hneg, h48i, hno, h63', h48', Question.forced, hfo, newRow, grownCap, Value.cells, hzc]
theorem wp_zeros {ops : Array Oper} {rest : List Oper} {o : Oper} {a : Act} {Q : Exit → Act → World → Prop} {w : World} (hgd : o.guard = none) (s x : Operand)
    (ho : o.op = .call { callee := .builtin .append, args := #[s, x], argTypes := #[27, 3] }) (base : Nat) (v : Value) (zs : List Int) (hs : a.eval s = v) (hown : Own w base v zs) (hz : 0 < zs.length)
    (m : Nat) (mi : Int) (hmi : mi = m) (hx : a.eval x = .int .i64 mi) (hm : 0 < m) (hlen : zs.length + m ≤ 1000000) (hbase : base ≤ w.heap.size)
    (h : ∀ v' w', Own w' base v' (zs ++ List.replicate m 0) → Below base w w' → wpList Try.prog ops Q rest (a.put o.dst v') w') : wpList Try.prog ops Q (o :: rest) a w := by
  obtain ⟨i0, hi, hz0, hz1, hz2⟩ := info_parts Try.info5
  subst hmi
  have hrep : (List.replicate m (0 : Int)).map (Value.int .u8) = List.replicate m (Value.int .u8 0) := List.map_replicate
  rcases hown.2 with ⟨_, h0⟩ | ⟨g, cap, cur, rfl, hbg, hg, hnc, hcm, hcs, htake⟩
  · omega
  by_cases hroom : zs.length + m ≤ cap
  · have hr := run_zeros_room w o.type i0 hi hz0 hz1 hz2 g zs.length cap m cur hg hm (by omega) hroom (by omega)
    refine Lib.wpList_append_run w hgd s x 27 3 ho _ _ hs hx _ _ hr (h _ _ ?_ ?_)
    · refine ⟨by simp, .inr ⟨g, cap, _, by simp, hbg, setRow_heap w g cur _ 5 _ hg, by simpa using hroom, hcm, ?_, ?_⟩⟩
      · simp only [List.size_toArray, List.length_append, List.length_take, List.length_drop, Array.length_toList, List.length_replicate]
        omega
      · have e : cur.toList.take zs.length = zs.map (Value.int .u8) := by simpa using htake
        rw [e, List.map_append, hrep]
        simp only [Nat.mul_one, List.length_append, List.length_replicate]
        have hl : (zs.map (Value.int .u8) ++ List.replicate m (Value.int .u8 0)).length = zs.length + m := by simp
        rw [← hl]
        exact List.take_left
    · have hgb : ∀ cs, w.grownBy (w.setRow g cs) (some g) := fun cs => ⟨rfl, rfl, rfl, by simp, fun k _ hk => setRow_other w g k _ (fun e => hk (by simp [e]))⟩
      exact (Below.refl base w).grown (hgb _) hbase (fun k hk => by cases hk; exact hbg)
  · have holds : ∀ j u, (zs.map (Value.int .u8))[j]? = some u → w.cell? ((⟨g, 0, none⟩ : Addr).add j) = some u := World.ownsRow.cells hown (g := g) rfl
    have hge := grownCap_ge w (zs.length + m) cap 5
    have hgm : grownCap w (zs.length + m) cap 5 ≤ maxLen := grownCap_le_maxLen w (zs.length + m) cap 5 (by unfold maxLen; omega)
    have hr := run_zeros_grow w o.type i0 hi hz0 hz1 hz2 g zs.length cap m (zs.map (Value.int .u8)) (by simp) holds hm hlen (by omega) (by have := growslice_fits (need := zs.length + m) (old := cap) (bytes := 1) (by omega) (by omega); simpa using this)
    refine Lib.wpList_append_run w hgd s x 27 3 ho _ _ hs hx _ _ hr (h _ _ ?_ ?_)
    · refine ⟨by simp, .inr ⟨w.heap.size, _, _, by simp, hbase, heap_alloc_new w.drew _, by simpa using hge, hgm, ?_, ?_⟩⟩
      · simp only [Array.size_append, List.size_toArray, size_zeroCells, List.length_map, List.length_replicate]
        simp
        omega
      · simp only [Array.toList_append, List.append_assoc]
        rw [← List.append_assoc, List.map_append, hrep]
        have hl : (zs.map (Value.int .u8) ++ List.replicate m (Value.int .u8 0)).length = zs.length + m := by simp
        simp only [Nat.mul_one, List.length_append, List.length_replicate]
        rw [← hl]
        exact List.take_left
    · have hgb : ∀ ob, w.grownBy (w.drew.alloc ob) none := fun ob => ⟨rfl, rfl, rfl, by simp, fun k hk _ => ((Below.refl w.drew.heap.size w.drew).alloc (Nat.le_refl _) ob).block k hk⟩
      exact (Below.refl base w).grown (hgb _) hbase (fun k hk => by cases hk)
end Go.Proofs.Ytophkfbdhejmcaa
