/- The making of a disk; the document's New, Fail; blocks of one byte. -/
import Derived.Test.YtmapjikbplindaaRefA
namespace Go.Proofs.Ytmapjikbplindaa
open Go.RowKit Go.Maps
set_option maxRecDepth 20000
set_option linter.unusedVariables false

theorem Try.info71 : (Try.prog.info? 71).map (fun i => (i.zero, i.size, i.bytes)) = some (some (blkV zs256), 256, 256) := by kernel_rfl
theorem zs256_get (i : Nat) : zs256.getD i 0 = 0 := by
  unfold zs256
  rw [List.getD_eq_getElem?_getD, List.getElem?_replicate]
  split <;> rfl
theorem made_rows (c : Nat) : Rows256 (madeCells (blkA zs256) (c * 256)) c (fun _ => zs256) := by
  refine ⟨by rw [size_madeCells]; exact Nat.le_refl _, fun n hn i hi => ?_⟩
  have h1 : n * 256 + i < c * 256 := by omega
  have hs : (blkA zs256).size = 256 := size_blkA len_zs256
  unfold madeCells
  rw [Array.getElem?_map, Array.getElem?_range, if_pos h1]
  have h2 : (n * 256 + i) % (blkA zs256).size = i := by rw [hs]; omega
  simp only [Option.map_some, h2]
  have h3 := blkA_get zs256 i (by rw [len_zs256]; exact hi)
  rw [getElem!_def, h3]
theorem wp_make55 {ops : Array Oper} {rest : List Oper} {o : Oper} {a : Act} {w : World} {Q : Exit → Act → World → Prop} (hgd : o.guard = none) (x y : Operand) (ho : o.op = .makeSlice 55 x y) (c : Nat) (hc : c ≤ 4096) (hx : a.eval x = .int .i64 c) (hy : a.eval y = .int .i64 c)
    (h : ∀ w', w'.heap[w.heap.size]? = some (.cells (madeCells (blkA zs256) (c * 256)) 71 (0, 0)) → w'.heap.size = w.heap.size + 1 → Below w.heap.size w w' → wpList Try.prog ops Q rest (a.put o.dst (.slice (some ⟨w.heap.size, 0, none⟩) c c)) w') : wpList Try.prog ops Q (o :: rest) a w := by
  obtain ⟨i0, hi, hz0, hz1, hz2⟩ := info_parts Try.info71
  have hrun := run_makeSlice (P := Try.prog) w 55 71 i0 (blkV zs256) Try.underlying55 hi hz0 .i64 .i64 c c (by omega) (by omega) (by rw [hz1]; simp; omega) (by rw [hz2]; omega) (by omega)
  refine wpList_plain hgd fun K hK => ?_
  unfold Oper.wp
  rw [hz1, Int.toNat_natCast] at hrun
  simp only [execOp, ho, hx, hy, Sem.run_bind, hrun, Result.andThen, Sem.run_pure]
  exact hK _ _ (h _ (heap_alloc_last _ _) (by simp) ((Below.refl _ _).alloc (Nat.le_refl _) _))
theorem min_max (b : Int) : ∃ c : Nat, (newS b).room = c ∧ c ≤ 4096 ∧ ((b < 0 ∧ c = 0) ∨ (0 ≤ b ∧ b ≤ 4096 ∧ b = c) ∨ (4096 < b ∧ c = 4096)) := by
  refine ⟨(min (max b 0) 4096).toNat, rfl, by omega, ?_⟩
  omega
theorem new_dk {w w1 w2 w3 : World} {c : Nat} (b : Int) (hc : (newS b).room = c) (h1 : w1.heap[w.heap.size]? = some (.cells (madeCells (blkA zs256) (c * 256)) 71 (0, 0))) (hs1 : w1.heap.size = w.heap.size + 1)
    (h2 : w2 = w1.alloc (.map #[] 0)) (h3 : w3 = w2.alloc (.cells #[.slice (some ⟨w.heap.size, 0, none⟩) c c, .map (some (w.heap.size + 1)), .bool false, .bool false, .int .i64 0, .bool false, .int .i64 0, .int .i64 0] 60)) :
    Dk w3 (w.heap.size + 2) w.heap.size (w.heap.size + 1) (newS b) := by
  subst h2 h3
  have hs2 : (w1.alloc (.map #[] 0)).heap.size = w.heap.size + 2 := by simp [hs1]
  refine ⟨newS_ok b, c, false, 0, false, madeCells (blkA zs256) (c * 256), ?_, ?_, by rw [hc]; exact Nat.le_refl _, ?_, ?_, .inl ⟨rfl, rfl⟩⟩
  · unfold DkB
    rw [hc, ← hs2]
    exact heap_alloc_new _ _
  · rw [heap_alloc_old _ _ _ (by omega), heap_alloc_old _ _ _ (by omega)]
    exact h1
  · rw [hc]; exact made_rows c
  · have := Mp.made w1 (newS b).room (newS b).S
    rw [hs1] at this
    exact this.off (Off.of_below (X := []) ((Below.refl _ _).alloc (Nat.le_refl _) _)) (by simp)
set_option maxHeartbeats 800000 in
theorem new_any (b : Int) (w : World) : Calls Try.prog 9 #[.int .i64 b] w fun e w' => ∃ p nb mb, e = .returned (.pointer (some ⟨p, 0, none⟩)) ∧ Dk w' p nb mb (newS b) ∧ w.heap.size ≤ p ∧ w.heap.size ≤ nb ∧ w.heap.size ≤ mb ∧ Below w.heap.size w w' := by
  obtain ⟨c, hc, hle, hcase⟩ := min_max b
  have HN : Hid (∀ w1 : World, w1.heap[w.heap.size]? = some (.cells (madeCells (blkA zs256) (c * 256)) 71 (0, 0)) → w1.heap.size = w.heap.size + 1 → Dk ((w1.alloc (.map #[] 0)).alloc (.cells #[.slice (some ⟨w.heap.size, 0, none⟩) c c, .map (some (w.heap.size + 1)), .bool false, .bool false, .int .i64 0, .bool false, .int .i64 0, .int .i64 0] 60)) (w.heap.size + 2) w.heap.size (w.heap.size + 1) (newS b)) := fun w1 h1 h2 => new_dk b hc h1 h2 rfl rfl
  have hmm := @run_makeMap Try.prog
  clear hc
  have hmn : min (max b 0) 4096 = (c : Int) := by omega
  clear hcase
  go_enter Try.func9, Try.ntmps9
  go_wp2_with (first | (refine wp_make55 rfl _ _ rfl c hle rfl rfl ?_; intro w1 hk1 hs1 hb1; have HD := HN.out w1 hk1 hs1; have HDH : Hid (Dk ((w1.alloc (.map #[] 0)).alloc (.cells #[.slice (some ⟨w.heap.size, 0, none⟩) c c, .map (some (w.heap.size + 1)), .bool false, .bool false, .int .i64 0, .bool false, .int .i64 0, .int .i64 0] 60)) (w.heap.size + 2) w.heap.size (w.heap.size + 1) (newS b)) := HD; clear HD hk1) | fail)
  go_ret
  refine ⟨w.heap.size + 2, w.heap.size, w.heap.size + 1, ?_, HDH.out, by omega, Nat.le_refl _, by omega, (hb1.alloc (by omega) _).alloc (by simp; omega) _⟩
  rfl
theorem full_step (c : Int) (k : Nat) (hk : k < 256) : (blkA (List.replicate k c ++ zs256.drop k)).setIfInBounds k (.int .u8 c) = blkA (List.replicate (k + 1) c ++ zs256.drop (k + 1)) := by
  have hd : zs256.drop k = 0 :: zs256.drop (k + 1) := by
    have h : k < zs256.length := by rw [len_zs256]; exact hk
    rw [List.drop_eq_getElem_cons h]
    congr 1
    have := zs256_get k
    rw [List.getD_eq_getElem?_getD, List.getElem?_eq_getElem h] at this
    exact this
  rw [hd]
  unfold blkA
  rw [List.setIfInBounds_toArray]
  congr 1
  rw [List.map_append, List.map_cons, List.set_append_right _ _ (by simp), List.length_map, List.length_replicate, Nat.sub_self, List.set_cons_zero, List.replicate_succ', List.append_assoc, List.map_append]
  rfl
set_option maxHeartbeats 800000 in
theorem full_any (c : Int) (w : World) (h0 : 0 ≤ c) (h1 : c ≤ 255) : Calls Try.prog 24 #[.int .u8 c] w fun e w' => ∃ v, e = .returned v ∧ v = .slice (some ⟨w.heap.size, 0, none⟩) 256 256 ∧ w'.heap[w.heap.size]? = some (.cells (blkA (List.replicate 256 c)) 5 (0, 0)) ∧ Below w.heap.size w w' := by
  go_enter Try.func24, Try.ntmps24
  go_wp2_with (first | (refine wp_make256 rfl _ _ rfl rfl rfl ?_; intro w1 hk1 hs1 hb1) | fail)
  have HK1 : Hid (w1.heap[w.heap.size]? = some (.cells (blkA zs256) 5 (0, 0)) ∧ Below w.heap.size w w1) := ⟨hk1, hb1⟩
  clear hk1 hs1 hb1
  go_loopw [4] (fun i wr => ∃ k : Nat, k ≤ 256 ∧ i = .int .i64 k ∧ Hid (wr.heap[w.heap.size]? = some (.cells (blkA (List.replicate k c ++ zs256.drop k)) 5 (0, 0))) ∧ Hid (Below w.heap.size w wr)) (fun i _ => 256 - (intOf i).toNat)
  case atStart => exact ⟨0, Nat.zero_le _, rfl, by simpa [Hid] using HK1.out.1, HK1.out.2⟩
  case round =>
    obtain ⟨k, hk, rfl, HB, HW⟩ := hrel
    by_cases hlt : k < 256
    · have hln : (List.replicate k c ++ zs256.drop k).length = 256 := by rw [List.length_append, List.length_replicate, List.length_drop, len_zs256]; omega
      have hc := cell_of_row wr w.heap.size k _ 5 (0, 0) HB.out
      rw [blkA_get _ k (by omega)] at hc
      have hfz := frozen_of_row wr w.heap.size k _ 5 HB.out
      have HN : Hid ((wr.setCell ⟨w.heap.size, k, none⟩ (.int .u8 c)).heap[w.heap.size]? = some (.cells (blkA (List.replicate (k + 1) c ++ zs256.drop (k + 1))) 5 (0, 0))) := by
        have e := heap_setCell_same wr w.heap.size k _ 5 (.int .u8 c) HB.out
        have e2 : (blkA (List.replicate k c ++ zs256.drop k)).setIfInBounds k (.int .u8 c) = blkA (List.replicate (k + 1) c ++ zs256.drop (k + 1)) := full_step c k hlt
        rw [e2] at e
        exact e
      have HW2 : Hid (Below w.heap.size w (wr.setCell ⟨w.heap.size, k, none⟩ (.int .u8 c))) := HW.out.setCell (Nat.le_refl _) _
      have hkI : (k : Int) < 256 := by omega
      generalize (List.replicate k c ++ zs256.drop k).getD k 0 = old at *
      clear HB HW hln
      go_wp2
      go_roundw
      case rel => exact ⟨k + 1, by omega, by go_num, HN.out, HW2.out⟩
      case measure => simp [intOf]; omega
    · have e : k = 256 := by omega
      subst e
      have hh := HB.out
      rw [List.drop_of_length_le (by rw [len_zs256]; exact Nat.le_refl _), List.append_nil] at hh
      have HH : Hid (wr.heap[w.heap.size]? = some (.cells (blkA (List.replicate 256 c)) 5 (0, 0))) := hh
      clear hh HB
      go_wp2
      go_ret
      exact ⟨_, rfl, rfl, HH.out, HW.out⟩
end Go.Proofs.Ytmapjikbplindaa
