/- IDs: the program's, told once by a map. -/
import Derived.Test.YtophkfbdhejmcaaRst
import Derived.Maps.OwnSet
import Derived.WalkArith
import Derived.Carry
namespace Go.Proofs.Ytophkfbdhejmcaa
open Go.RowKit
open Go.Maps (Keyed int_keyed)
set_option linter.unusedVariables false
set_option maxRecDepth 20000

def idsK (zs : List Int) : Nat → List Int
  | 0 => []
  | k + 1 => if zs.getD k 0 ∈ zs.take k then idsK zs k else idsK zs k ++ [zs.getD k 0]
theorem idsK_len (zs : List Int) : ∀ k, (idsK zs k).length ≤ k
  | 0 => Nat.le_refl _
  | k + 1 => by
    have := idsK_len zs k
    show (if zs.getD k 0 ∈ zs.take k then idsK zs k else idsK zs k ++ [zs.getD k 0]).length ≤ k + 1
    split
    · omega
    · rw [List.length_append]; simp; omega
theorem idsK_in {zs : List Int} {k : Nat} (h : zs.getD k 0 ∈ zs.take k) : idsK zs (k + 1) = idsK zs k := if_pos h
theorem idsK_new {zs : List Int} {k : Nat} (h : ¬ zs.getD k 0 ∈ zs.take k) : idsK zs (k + 1) = idsK zs k ++ [zs.getD k 0] := if_neg h
theorem take_snocI (zs : List Int) (k : Nat) (h : k < zs.length) : zs.take (k + 1) = zs.take k ++ [zs.getD k 0] := by
  rw [List.take_succ_eq_append_getElem h, List.getD_eq_getElem?_getD, List.getElem?_eq_getElem h]; rfl
theorem mem_take_succ {zs : List Int} {k : Nat} (h : k < zs.length) (z : Int) : z ∈ zs.take (k + 1) ↔ z ∈ zs.take k ∨ z = zs.getD k 0 := by
  rw [take_snocI zs k h, List.mem_append, List.mem_singleton]
theorem key3 : Keyed Try.prog 3 := int_keyed Try.underlying3
theorem zero68 (w : World) : (zeroValue 68).run Try.prog w = .ok (.agg #[]) w := by rfl
def WfI (z : Int) : Prop := -9223372036854775808 ≤ z ∧ z ≤ 9223372036854775807
theorem key_i {z : Int} (h : WfI z) : keyOf Try.prog 3 (.int .i64 z) = some (.int .i64 z) := Go.Maps.keyOf_int_mk Try.underlying3 (WalkArith.wf_i64 (by unfold WfI at h; omega))
theorem OwnI.grow {w w' : World} {K g : Nat} {v : Value} {zs : List Int} (h : OwnI w K v zs) (hg : w.grownBy w' (some g)) (hk : g < K) : OwnI w' K v zs := h.keep (fun k hk' hl => hg.block k hl (by simp; omega))
theorem map_below {w w' : World} {B mb n : Nat} {D : DataW Unit} (h : w.ownsMap Try.prog 3 unitElem mb n D) (hB : Below B w w') (hlt : mb < B) : w'.ownsMap Try.prog 3 unitElem mb n D := by
  obtain ⟨es, clock, hb, F, hs, rfl⟩ := h
  exact ⟨es, clock, (hB.block mb hlt).trans hb, F, hs, rfl⟩
set_option maxHeartbeats 1600000 in
theorem ids_any (d : Int) (a : Option Addr) (cap : Nat) (zs : List Int) (w : World) (hp : IV w a zs) (hl : zs.length ≤ 100000) (hwf : ∀ z ∈ zs, WfI z) :
    Calls Try.prog 18 #[dv d a zs.length cap] w fun e w' => ∃ v, e = .returned v ∧ OwnI w' w.heap.size v (idsK zs zs.length) ∧ Below w.heap.size w w' := by
  have HIV : Hid (IV w a zs) := hp
  have HWF : Hid (∀ k, k < zs.length → WfI (zs.getD k 0)) := fun k hk => hwf _ (getD_mem hk)
  clear hp hwf
  unfold dv
  have hmm := @run_makeMap Try.prog
  go_enter Try.func18, Try.ntmps18
  go_wp2
  clear hmm
  go_loopw [4, 13] (fun lv iv wr => ∃ k : Nat, k ≤ zs.length ∧ iv = .int .i64 k ∧ Hid (∃ D : DataW Unit, wr.ownsMap Try.prog 3 unitElem (w.heap.size + 1) k D ∧ ∀ z, Maps.has D (.int .i64 z) = decide (z ∈ zs.take k)) ∧ Hid (OwnI wr (w.heap.size + 2) lv (idsK zs k)) ∧ Hid (wr.cell? ⟨w.heap.size, 1, none⟩ = some (.slice a zs.length cap)) ∧ Hid (Below w.heap.size w wr) ∧ Hid (w.heap.size + 2 ≤ wr.heap.size)) (fun _ iv _ => zs.length - (intOf iv).toNat)
  case atStart =>
    refine ⟨0, Nat.zero_le _, rfl, ⟨.map [], ?_, ?_⟩, OwnI.nil _ _, ?_, two_blocks _ _ _, ?_⟩
    · have := World.ownsMap_made (H := Unit) (w.alloc (.cells #[.int .i64 d, .slice a zs.length cap] 26)) Try.prog 3 unitElem
      simpa using this
    · intro z; simp [Maps.has]
    · show _ = _; go_simp
    · show _ ≤ _; simp
  case round =>
    obtain ⟨k, hk, rfl, HD, HO, HC, HB, HZ⟩ := hrel
    have c1 : wr.cell? ⟨w.heap.size, 1, none⟩ = some (.slice a zs.length cap) := HC.out
    have hz0 : w.heap.size < wr.heap.size := by have := HZ.out; omega
    by_cases hlt : k < zs.length
    · obtain ⟨g, off, rfl, hgl, hc⟩ := (HIV.out.below HB.out).cell hlt
      have hlt2 : (k : Int) < (zs.length : Int) := by omega
      obtain ⟨D, hD, hh⟩ := HD.out
      have HKY := key_i (HWF.out k hlt)
      have hhz := hh (zs.getD k 0)
      have HD2 : Hid (wr.ownsMap Try.prog 3 unitElem (w.heap.size + 1) k D) := hD
      have HH : Hid (∀ z, Maps.has D (.int .i64 z) = decide (z ∈ zs.take k)) := hh
      clear HD hD hh
      by_cases hin : zs.getD k 0 ∈ zs.take k
      · rw [decide_eq_true hin] at hhz
        have HI : Hid (idsK zs (k + 1) = idsK zs k) := idsK_in hin
        have HM : Hid (∀ z, Maps.has D (.int .i64 z) = decide (z ∈ zs.take (k + 1))) := fun z => by
          rw [HH.out z]
          apply decide_eq_decide.2
          rw [mem_take_succ hlt]
          exact ⟨.inl, fun h => h.elim id (fun e => by rw [e]; exact hin)⟩
        clear hin HH
        generalize zs.getD k 0 = z at *
        go_wp2_with (first
          | (at_lookup; refine wpList_lookup_own_unit _ rfl _ _ 67 rfl 3 68 key3 Try.underlying67 (zero68 _) (w.heap.size + 1) k D rfl HD2.out _ _ rfl HKY ?_; rw [hhz]))
        go_roundw
        case rel => exact ⟨k + 1, by omega, by go_num, ⟨D, (HD2.out.alloc _).mono (by omega), HM.out⟩, by rw [HI.out]; exact HO.out.below (one_block _ _), ((one_block _ _).cell (p := ⟨w.heap.size, 1, none⟩) hz0).trans c1, bt HB.out (one_block _ _), by have := HZ.out; show _ ≤ _; simp; omega⟩
        case measure => simp [intOf]; omega
      · rw [decide_eq_false hin] at hhz
        have HI : Hid (idsK zs (k + 1) = idsK zs k ++ [zs.getD k 0]) := idsK_new hin
        have HM : Hid (∀ z, Maps.has (D.put (.int .i64 (zs.getD k 0)) (.agg [])) (.int .i64 z) = decide (z ∈ zs.take (k + 1))) := fun z => by
          by_cases e : z = zs.getD k 0
          · subst e
            rw [Maps.has_put_same HD2.out.isMap (by trivial)]
            rw [decide_eq_true ((mem_take_succ hlt _).2 (.inr rfl))]
          · rw [Maps.has_put_other (by simpa using e), HH.out z]
            apply decide_eq_decide.2
            rw [mem_take_succ hlt]
            exact ⟨.inl, fun h => h.elim id (fun h => absurd h e)⟩
        have HLN : Hid ((idsK zs k).length ≤ 300000) := by have := idsK_len zs k; show (idsK zs k).length ≤ 300000; omega
        clear hin HH
        generalize zs.getD k 0 = z at *
        go_wp2_with (first
          | (at_lookup; refine wpList_lookup_own_unit _ rfl _ _ 67 rfl 3 68 key3 Try.underlying67 (zero68 _) (w.heap.size + 1) k D rfl HD2.out _ _ rfl HKY ?_; rw [hhz])
          | (at_mapUpdate; refine wpList_mapUpdate_own _ rfl _ _ _ 67 rfl 3 68 key3 Try.underlying67 unitElem (w.heap.size + 1) k D rfl (HD2.out.alloc _) (by unfold maxLen; omega) _ _ _ rfl rfl HKY (.agg []) [] unitElem_mk ?_; intro w3 hD3 hg3)
          | (at_builtin; refine wp_app_iv rfl _ _ rfl (w.heap.size + 2) _ (idsK zs k) [z] rfl (((HO.out.below (one_block _ _)).grow hg3 (by omega)).below (one_block _ _)) (some ⟨w3.heap.size, 0, none⟩) 1 rfl (iv_one _ z) (by intro h; cases h) (by have := HLN.out; simp; omega) (by have := HZ.out; have := hg3.size; simp at this; simp; omega) ?_; intro v5 w5 o5 b5))
        have O5 : Hid (OwnI w5 (w.heap.size + 2) v5 (idsK zs (k + 1))) := by rw [HI.out]; exact o5
        have M5 : Hid (w5.ownsMap Try.prog 3 unitElem (w.heap.size + 1) (k + 1) (D.put (.int .i64 z) (.agg []))) := map_below (hD3.alloc _) b5 (by omega)
        have x3 : w3.cell? ⟨w.heap.size, 1, none⟩ = some (.slice (some ⟨g, off, none⟩) zs.length cap) := hg3.cell (((one_block _ _).cell (p := ⟨w.heap.size, 1, none⟩) hz0).trans c1) (by simp)
        have hz3 : w.heap.size + 2 ≤ w3.heap.size := by have := HZ.out; have := hg3.size; simp at this; omega
        have x5 : Hid (w5.cell? ⟨w.heap.size, 1, none⟩ = some (.slice (some ⟨g, off, none⟩) zs.length cap)) := (b5.cell (p := ⟨w.heap.size, 1, none⟩) (by show w.heap.size < _; omega)).trans (((one_block w3 _).cell (p := ⟨w.heap.size, 1, none⟩) (by show w.heap.size < _; omega)).trans x3)
        have B3 : Below w.heap.size w w3 := (bt HB.out (one_block _ _)).grown hg3 (by have := HZ.out; simp; omega) (by intro k hk; cases hk; omega)
        have B5 : Hid (Below w.heap.size w w5) := (bt B3 (one_block _ _)).trans (b5.mono (by omega))
        have Z5 : Hid (w.heap.size + 2 ≤ w5.heap.size) := by have := b5.size; simp at this; show _ ≤ _; omega
        clear o5 b5 hD3 hg3 x3 B3
        go_roundw
        case rel => exact ⟨k + 1, by omega, by go_num, ⟨_, M5.out, HM.out⟩, O5.out, x5.out, B5.out, Z5.out⟩
        case measure => simp [intOf]; omega
    · have : k = zs.length := by omega
      subst this
      have hxx : ¬ ((zs.length : Int) < (zs.length : Int)) := by omega
      go_wp2
      go_ret
      exact ⟨_, rfl, OwnI.mono HO.out (by omega), HB.out⟩
end Go.Proofs.Ytophkfbdhejmcaa
