import Derived.Test.YtbklnadlbcndlaaGreatM8
import Derived.Deep.RegionHeld3
import Derived.Deep.RegionWith
import Derived.Lib.Bytes
namespace Go.Proofs.YtbklnadlbcndlaaGreat
set_option maxRecDepth 20000
open Go.RowKit
set_option linter.unusedVariables false
theorem bv_lit (w : World) (zs : List Int) (hz : AllB zs) (fr : Nat × Nat) : BV (w.alloc (.cells (zs.map (Value.int .u8)).toArray 5 fr)) (some ⟨w.heap.size, 0, none⟩) zs := by
  refine ⟨hz, .inr ⟨w.heap.size, 0, rfl, by simp, fun i hi => ?_⟩⟩
  rw [Nat.zero_add, World.cell?_alloc_mark]
  simp [List.getD_eq_getElem?_getD, List.getElem?_eq_getElem hi]
theorem conv_bv {w : World} {a : Option Addr} {cap : Nat} {zs : List Int} (hb : BV w a zs) (hn : a = none → cap = 0) : (convert 29 9 (.slice a zs.length cap)).run Tryz.prog w = .ok (.string (strOfNums zs)) w := by
  obtain ⟨hz, rfl | ⟨b, off, rfl, _, hc⟩⟩ := hb
  · cases a with
    | none => exact run_convert_bytes_nil (P := Tryz.prog) w 29 5 Tryz.underlying29 Tryz.underlying5 0 cap 9 Tryz.underlying9
    | some x =>
      show (convert 29 9 (.slice (some x) 0 cap)).run Tryz.prog w = _
      rw [run_convert_bytes_string w 29 9 5 _ 0 cap Tryz.underlying29 Tryz.underlying5 Tryz.underlying9, run_bytesToString w x 0 cap [] (by simp [loadCells, loadCellsFrom])]
      rfl
  · exact run_convert_bytes_arg (P := Tryz.prog) w 29 5 Tryz.underlying29 Tryz.underlying5 b off zs.length cap zs rfl hc 9 Tryz.underlying9
theorem str_back {a : List Int} (ha : AllB a) : (strOfNums a).toList.map (fun u => (u.toNat : Int)) = a := by
  rw [Lib.strOfNums_toList]
  unfold Lib.bytesOf
  rw [List.map_map]
  conv => rhs; rw [← List.map_id a]
  apply List.map_congr_left
  intro z hz
  have h := ha z hz
  simp [Function.comp]
  omega
theorem str_ne {a b : List Int} (ha : AllB a) (hb : AllB b) (h : a ≠ b) : ((strOfNums a).toList == (strOfNums b).toList) = false := by
  rw [beq_eq_false_iff_ne]
  intro e
  apply h
  rw [← str_back ha, e, str_back hb]
theorem good_split {zs : List Int} {n : Nat} (hl : zs.length = n + 4) : Good zs ↔ zs.take n ++ dig (more 0 (zs.take n)) 4 = zs := by
  unfold Good
  rw [show zs.length - 4 = n by omega]
  constructor
  · intro h
    rw [← h, List.take_append_drop]
  · intro h
    have h2 : (zs.take n ++ dig (more 0 (zs.take n)) 4).drop n = zs.drop n := by rw [h]
    rw [List.drop_left' (by simp; omega)] at h2
    exact h2.symm
end Go.Proofs.YtbklnadlbcndlaaGreat
namespace Go.Proofs.YtbklnadlbcndlaaGreat
set_option maxRecDepth 20000
open Go.RowKit
set_option linter.unusedVariables false
theorem str_eq (xs ys : List Int) (hx : AllB xs) (hy : AllB ys) : ((strOfNums xs).toList == (strOfNums ys).toList) = decide (xs = ys) := by
  by_cases h : xs = ys
  · subst h; simp
  · rw [str_ne hx hy h, decide_eq_false h]
set_option maxHeartbeats 400000 in
theorem beq_any (a b : Option Addr) (c d : Nat) (xs ys : List Int) (w : World) (hx : BV w a xs) (hy : BV w b ys) (hn : a = none → c = 0) (hm : b = none → d = 0) :
    Calls Tryz.prog 217 #[.slice a xs.length c, .slice b ys.length d] w fun e w' => e = .returned (.bool (decide (xs = ys))) ∧ Below w.heap.size w w' := by
  have SL : Hid (∀ W, Below w.heap.size w W → Below w.heap.size w W ∧ (convert 29 9 (.slice a xs.length c)).run Tryz.prog W = .ok (.string (strOfNums xs)) W ∧ (convert 29 9 (.slice b ys.length d)).run Tryz.prog W = .ok (.string (strOfNums ys)) W) := fun W hW => ⟨hW, conv_bv (hx.below hW) hn, conv_bv (hy.below hW) hm⟩
  have HE := str_eq xs ys hx.1 hy.1
  obtain ⟨_, c1, c2⟩ := SL.out w (Below.refl _ _)
  generalize strOfNums xs = sx at *
  generalize strOfNums ys = sy at *
  generalize decide (xs = ys) = bq at *
  go_enter Tryz.func217, Tryz.ntmps217
  go_wp2_with fail
  go_ret
  exact ⟨rfl, Below.refl _ _⟩
end Go.Proofs.YtbklnadlbcndlaaGreat
