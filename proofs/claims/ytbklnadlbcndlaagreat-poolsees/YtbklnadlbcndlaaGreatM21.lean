import Derived.Test.YtbklnadlbcndlaaGreatM6
import Derived.Test.YtbklnadlbcndlaaGreatM2
import Derived.Deep.RegionLaw
import Derived.Shelf.RegionOpenPlain
import Derived.Lib.SliceRun
import Derived.Lib.SlicesDelete
import Derived.ArgAppend
namespace Go.Proofs.YtbklnadlbcndlaaGreat
set_option maxRecDepth 20000
open Go.RowKit Go.Lib Go.Sort
set_option linter.unusedVariables false
set_option linter.unusedSimpArgs false
theorem Tryz.info102 : (Tryz.prog.info? 102).map (fun i => (i.zero, i.size, i.bytes)) = some (some (.pointer none), 1, 8) := by kernel_rfl
theorem zero102 : (∀ w, (zeroValue 102).run Tryz.prog w = .ok (.pointer none) w) ∧ (Tryz.prog.info? 102).map (·.size) = some 1 := zero_of_info (v := .pointer none) (by kernel_rfl)
set_option maxHeartbeats 4000000 in
theorem delete_arr1 (blk cap i : Nat) (d : Array Value) (w : World) (hH : Holds id w blk 0 d) (h1c : ∀ u ∈ d.toList, u.oneCell' = true) (hcap : d.size ≤ cap) (hm : cap ≤ 9223372036854775807) (hj : i + 1 ≤ d.size) :
    Calls Tryz.prog 129 #[.slice (some ⟨blk, 0, none⟩) d.size cap, .int .i64 i, .int .i64 ((i : Int) + 1)] w fun e w' => e = .returned (.slice (some ⟨blk, 0, none⟩) (d.size - 1) cap) ∧ ∃ q, w' = putRow id (Sort.ahead w q) blk 0 (d.toList.take i ++ d.toList.drop (i + 1) ++ List.replicate 1 (Value.pointer none)).toArray := by
  obtain ⟨i0, hi0, hz0, hz1, hz2⟩ := info_parts Tryz.info102
  obtain ⟨j, hji⟩ : ∃ j, j = i + 1 := ⟨_, rfl⟩
  have ej : ((i : Int) + 1) = ((j : Nat) : Int) := by omega
  rw [ej]
  rw [← hji] at hj ⊢
  have hlt : i < j := by omega
  have hij1 : j - i = 1 := by omega
  obtain ⟨news, hnews⟩ : ∃ news, news = (d.toList.drop j).map id := ⟨_, rfl⟩
  have hlen : news.length = d.size - j := by rw [hnews]; simp
  have hget : ∀ t, t < d.size - j → news[t]? = some (id d[j + t]!) := by
    intro t ht
    rw [hnews, List.getElem?_map, List.getElem?_drop, Array.getElem?_toList, getElem!_pos d (j + t) (by omega), Array.getElem?_eq_getElem (by omega)]
    rfl
  obtain ⟨A, hA, hsrc⟩ : ∃ A : Addr, (if cap = j then some (⟨blk, 0, none⟩ : Addr) else some ⟨blk, j, none⟩) = some A ∧ Hid (∀ t u, news[t]? = some u → w.drew.cell? (A.add t) = some u) := by
    by_cases h : cap = j
    · refine ⟨⟨blk, 0, none⟩, by simp [h], fun t u hu => ?_⟩
      have h0 : news.length = 0 := by rw [hlen]; omega
      rw [List.length_eq_zero_iff.1 h0] at hu
      simp at hu
    · refine ⟨⟨blk, j, none⟩, by simp [h], fun t u hu => ?_⟩
      have ht : t < d.size - j := by
        have := (List.getElem?_eq_some_iff.1 hu).1
        rwa [hlen] at this
      rw [hget t ht] at hu
      rw [Addr.add_lit, show j + t = 0 + (j + t) by omega]
      exact (hH (j + t) (by omega)).1.trans hu
  have s1 : Hid (news.length = (d.size - j) * 1) := by rw [Nat.mul_one]; exact hlen
  have s2 : Hid (∀ u ∈ news, u.oneCell' = true) := by
    intro u hu
    rw [hnews] at hu
    obtain ⟨x, hx, rfl⟩ := List.mem_map.1 hu
    exact h1c x (List.mem_of_mem_drop hx)
  have s3 : Hid (∀ t, t < news.length → (w.drew.cell? ⟨blk, 0 + i * 1 + t, none⟩).isSome = true ∧ w.drew.frozen? ⟨blk, 0 + i * 1 + t, none⟩ = false) := by
    intro t ht
    rw [hlen] at ht
    rw [Nat.mul_one, Nat.add_assoc]
    exact ⟨by show (w.cell? _).isSome = true; rw [(hH (i + t) (by omega)).1]; rfl, (hH (i + t) (by omega)).2⟩
  obtain ⟨W1, hW1⟩ : ∃ W1, W1 = w.drew.setCells blk (0 + i * 1) news := ⟨_, rfl⟩
  have hW1' : W1 = putRow id (Sort.ahead w 1) blk 0 (lay d i (d.toList.drop j)) := by
    rw [hW1, hnews, Nat.mul_one, ← putRow_setCells id (Sort.ahead w 1) blk 0 _ d i (by simp; omega), putRow_self id (Sort.ahead w 1) blk 0 d (holds_ahead id w 1 blk 0 d hH)]
    rfl
  have hH1 : Holds id W1 blk 0 (lay d i (d.toList.drop j)) := by rw [hW1']; exact holds_putRow id _ blk 0 d _ (holds_ahead id w 1 blk 0 d hH) (lay_size _ _ _)
  have hcl : ∀ ty, (Builtin.clear_ #[99] ty #[.slice (some ⟨blk, i + (d.size - j), none⟩) (d.size - (i + (d.size - j))) (cap - (i + (d.size - j)))]).run Tryz.prog W1 = .ok (.tuple #[]) (W1.setCells blk (i + (d.size - j)) (List.replicate (d.size - (i + (d.size - j))) (Value.pointer none))) :=
    fun ty => Lib.run_clear_slice W1 _ _ ty _ Tryz.underlying99 zero102.1 rfl rfl blk (i + (d.size - j)) _ _ (by omega) (fun t ht => by rw [show i + (d.size - j) + t = 0 + (i + (d.size - j) + t) by omega, (hH1 _ (by rw [lay_size]; omega)).1]; rfl) (fun t ht => by rw [show i + (d.size - j) + t = 0 + (i + (d.size - j) + t) by omega]; exact (hH1 _ (by rw [lay_size]; omega)).2)
  have X : Hid (W1 = putRow id (Sort.ahead w 1) blk 0 (lay d i (d.toList.drop j))) := hW1'
  have hW : Hid (W1 = w.drew.setCells blk (0 + i * 1) news) := hW1
  have hic : i ≤ cap := by omega
  have hjc : j ≤ cap := by omega
  have HJ : Hid (j = i + 1) := hji
  have HIJ : Hid (j - i = 1) := hij1
  have mixed : Tryz.prog.follows Departure.mixedOrders = true := by kernel_rfl
  clear hW1 hW1' hH1 hH hget hnews hlen ej hji hij1
  go_enter Tryz.func129, Tryz.ntmps129
  go_wp2_with fail
  go_region_law_o (refine step_append_room rfl (.tmp 22) (.tmp 25) 99 rfl 102 i0 1 Tryz.underlying99 hi0 hz1 blk 0 i cap (by simp [Act.eval, Act.put]) A (d.size - j) (cap - j) news (by simp [Act.eval, Act.put]) s1.out hsrc.out s2.out (by omega) s3.out ?_; rw [← hW.out])
  go_wp2
  go_ret
  refine ⟨by rw [show d.size - 1 = i + (d.size - j) by have := HJ.out; omega]; rfl, 1, ?_⟩
  have hd := delete_arr d i j (Value.pointer none) (by omega) hj
  have hs1 : d.size - (i + (d.size - j)) = 1 := by have := HJ.out; omega
  rw [HIJ.out] at hd
  show W1.setCells blk (i + (d.size - j)) (List.replicate (d.size - (i + (d.size - j))) (Value.pointer none)) = _
  rw [hs1, show i + (d.size - j) = 0 + (i + (d.size - j)) by omega, ← hd, ← putRow_setCells id _ blk 0 _ _ (i + (d.size - j)) (by rw [lay_size]; simp; omega), ← X.out, List.map_id]

theorem heap_putRow_same {w : World} {b off : Nat} {d c : Array Value} {e : TypeId} {fr : Nat × Nat} (h : w.heap[b]? = some (.cells c e fr)) : (putRow id w b off d).heap[b]? = some (.cells (putCells id off d c) e fr) := by
  simp [putRow, mapBlock, Array.getElem?_modify, h, onCells]
theorem heap_putRow_other {w : World} {b off k : Nat} {d : Array Value} (h : k ≠ b) : (putRow id w b off d).heap[k]? = w.heap[k]? := by
  simp [putRow, mapBlock, Array.getElem?_modify, Ne.symm h]
theorem off_putRow (w : World) (q b : Nat) (d : Array Value) : D.Off [b] w (putRow id (Sort.ahead w q) b 0 d) :=
  ⟨rfl, rfl, rfl, by rw [size_putRow]; exact Nat.le_refl _, fun k _ hk => heap_putRow_other (by simpa using hk)⟩
theorem FL.ps_len (L : FL) : L.ps.length = L.length := by simp [FL.ps]
theorem delete_row (i base : Nat) (row : Value) (L : FL) (w : World) (hr : RowB w base row L) (hi : i < L.length) :
    Calls Tryz.prog 129 #[row, .int .i64 i, .int .i64 ((i : Int) + 1)] w fun e w' => ∃ row' g, e = .returned row' ∧ row.ownBlock = some g ∧ row'.ownBlock = some g ∧ RowB w' base row' (L.eraseIdx i) ∧ D.Off [g] w w' := by
  have hl := World.ownsRow.lt hr
  rcases hr.2 with ⟨rfl, h0⟩ | ⟨g, cap, cur, rfl, hb, hg, hc, hm, hs, ht⟩
  · omega
  have hH : Holds id w g 0 L.ps.toArray := by
    intro j hj
    rw [List.size_toArray, FL.ps_len] at hj
    refine ⟨?_, frozen_of_row _ _ _ _ _ hg⟩
    rw [World.ownsRow.cellAt hr (0 + j) (by omega), Nat.zero_add, List.getElem?_eq_getElem (by rw [FL.ps_len]; exact hj)]
    simp [FL.ps, hj]
  have hsz : L.ps.toArray.size = L.length := by simp [FL.ps]
  have := delete_arr1 g cap i L.ps.toArray w hH (fun u hu => by
    obtain ⟨x, _, rfl⟩ := List.mem_map.1 (by simpa [FL.ps] using hu : u ∈ List.map (fun x => pf x.1) L); rfl) (by omega) hm (by omega)
  rw [hsz] at this
  refine this.mono ?_
  rintro e w' ⟨rfl, q, rfl⟩
  refine ⟨_, g, rfl, rfl, rfl, ?_, off_putRow w q g _⟩
  have hel : (L.eraseIdx i).length = L.length - 1 := by rw [List.length_eraseIdx, if_pos hi]
  have hd : (L.ps.toArray.toList.take i ++ L.ps.toArray.toList.drop (i + 1) ++ List.replicate 1 (Value.pointer none)) = (FL.ps (L.eraseIdx i)) ++ [Value.pointer none] := by
    simp only [FL.ps, List.eraseIdx_eq_take_drop_succ, List.map_append, List.map_take, List.map_drop]
    rfl
  rw [hd]
  refine ⟨by rw [FL.ps_len]; omega, .inr ⟨g, cap, _, by rw [hel], hb, heap_putRow_same (w := Sort.ahead w q) hg, by omega, hm, by simpa [putCells] using hs, ?_⟩⟩
  apply List.ext_getElem?
  intro j
  rw [List.getElem?_take]
  have hcs : cur.size = cap := by omega
  by_cases hj : j < (L.eraseIdx i).length * 1
  · rw [if_pos hj]
    have hj' : j < (FL.ps (L.eraseIdx i)).length := by rw [FL.ps_len]; omega
    have hk : j < cur.size := by omega
    simp only [putCells, Array.getElem?_toList, Array.getElem?_mapIdx, Array.getElem?_eq_getElem hk, Option.map_some]
    rw [if_pos ⟨Nat.zero_le _, by simp [FL.ps]; omega⟩, Nat.sub_zero, List.getElem?_eq_getElem hj']
    simp only [id]
    rw [getElem!_pos _ j (by simp [FL.ps]; omega)]
    simp [List.getElem_append_left hj']
  · rw [if_neg hj, List.getElem?_eq_none (by rw [FL.ps_len]; omega)]
theorem run_app_row (w : World) (ty : TypeId) (base : Nat) (row : Value) (L : FL) (b g : Nat) (hr : RowB w base row L) (hg : w.heap[g]? = some (.cells #[pf b] 102 (0, 0))) (hlen : L.length ≤ 1000000) (hbase : base ≤ w.heap.size) :
    ∃ row' w', (Builtin.append_ #[99, 99] ty #[row, .slice (some ⟨g, 0, none⟩) 1 1]).run Tryz.prog w = .ok row' w' ∧ w'.ownsRow base 102 1 row' (L.length + 1) (L.ps ++ [pf b]) ∧ w.grownBy w' row.ownBlock ∧ (∀ g', row'.ownBlock = some g' → row.ownBlock = some g' ∨ w.heap.size ≤ g') := by
  obtain ⟨i0, hi0, hz0, hz1, hz2⟩ := info_parts Tryz.info102
  have hn : ∀ j u, [pf b][j]? = some u → w.cell? ((⟨g, 0, none⟩ : Addr).add j) = some u := by
    intro j u hu
    rw [add_plain, Nat.zero_add, cell_of_row _ _ _ _ _ _ hg]
    simpa using hu
  rcases hr.2 with ⟨rfl, h0⟩ | ⟨gr, cap, cur, rfl, hb, hgr, hc, hm, hs, ht⟩
  · have hr' : w.ownsRow w.heap.size 102 1 (.slice none 0 0) L.length L.ps := ⟨hr.1, .inl ⟨rfl, h0⟩⟩
    obtain ⟨v', w', r1, r2, r3, r4⟩ := run_append_own w w.heap.size 99 ty 102 i0 (.pointer none) 1 8 Tryz.underlying99 hi0 hz0 hz1 hz2 rfl (by decide) _ _ _ hr' ⟨g, 0, none⟩ 1 1 [pf b] rfl hn (by simp [pf, Value.oneCell']) (by unfold maxLen; omega) (by omega) (Nat.le_refl _)
    refine ⟨v', w', r1, ⟨r2.1, ?_⟩, r3, fun g' hg' => .inr (World.ownsRow.lt r2 g' hg').1⟩
    rcases r2.2 with h | ⟨q1, q2, q3, q4, q5, q6⟩
    · exact .inl h
    · exact .inr ⟨q1, q2, q3, q4, by omega, q6⟩
  · by_cases hroom : L.length + 1 ≤ cap
    · have hr1 := run_append_room (P := Tryz.prog) w 99 ty 102 i0 Tryz.underlying99 hi0 gr L.length cap cur hgr ⟨g, 0, none⟩ 1 1 [pf b] (by rw [hz1]; rfl) hn (by simp [pf, Value.oneCell']) hroom (by rw [hz1]; simp; omega)
      obtain ⟨v', w', r1, r2, r3, r4⟩ := run_append_own w base 99 ty 102 i0 (.pointer none) 1 8 Tryz.underlying99 hi0 hz0 hz1 hz2 rfl (by decide) _ _ _ hr ⟨g, 0, none⟩ 1 1 [pf b] rfl hn (by simp [pf, Value.oneCell']) (by unfold maxLen; omega) (by omega) hbase
      refine ⟨v', w', r1, r2, r3, fun g' hg' => .inl ?_⟩
      rw [hr1] at r1
      cases r1
      exact hg'
    · obtain ⟨v', w', r1, r2, r3⟩ := run_append_arg_grows (P := Tryz.prog) w 99 ty 102 i0 (.pointer none) 1 8 Tryz.underlying99 hi0 hz0 hz1 hz2 rfl (by decide) ⟨gr, 0, none⟩ L.length cap L.ps (by rw [FL.ps_len]; omega) (World.ownsRow.cells hr rfl) ⟨g, 0, none⟩ 1 1 [pf b] rfl hn (by omega) (by unfold maxLen; omega) (by omega)
      refine ⟨v', w', r1, ⟨r2.1, ?_⟩, ⟨r3.os, r3.tape, r3.output, r3.size, fun k hk _ => r3.block k hk (by simp)⟩, fun g' hg' => .inr (World.ownsRow.lt r2 g' hg').1⟩
      rcases r2.2 with h | ⟨q1, q2, q3, q4, q5, q6⟩
      · exact .inl h
      · exact .inr ⟨q1, q2, q3, q4, by omega, q6⟩
theorem wp_app_row {ops : Array Oper} {rest : List Oper} {o : Oper} {a : Act} {Q : Exit → Act → World → Prop} {w : World} (hgd : o.guard = none) (s x : Operand)
    (ho : o.op = .call { callee := .builtin .append, args := #[s, x], argTypes := #[99, 99] }) (base : Nat) (row : Value) (L : FL) (hs : a.eval s = row) (hr : RowB w base row L)
    (b g : Nat) (hx : a.eval x = .slice (some ⟨g, 0, none⟩) 1 1) (hg : w.heap[g]? = some (.cells #[pf b] 102 (0, 0))) (hlen : L.length ≤ 1000000) (hbase : base ≤ w.heap.size)
    (h : ∀ row' w', w'.ownsRow base 102 1 row' (L.length + 1) (L.ps ++ [pf b]) → w.grownBy w' row.ownBlock → (∀ g', row'.ownBlock = some g' → row.ownBlock = some g' ∨ w.heap.size ≤ g') → wpList Tryz.prog ops Q rest (a.put o.dst row') w') : wpList Tryz.prog ops Q (o :: rest) a w := by
  refine wpList_plain hgd fun K hK => ?_
  obtain ⟨row', w', r1, r2, r3, r4⟩ := run_app_row w o.type base row L b g hr hg hlen hbase
  unfold Oper.wp execOp
  simp only [ho, resolve, invoke, builtin, Sem.run_bind, Sem.run_pure, Result.andThen_ok, List.map_toArray, List.map_cons, List.map_nil, hs, hx, r1]
  exact hK _ _ (h row' w' r2 r3 r4)
end Go.Proofs.YtbklnadlbcndlaaGreat
