/- The document's Seal and Open. -/
import Derived.Test.YtophkfbdhejmcaaOpen
import Derived.Deep.RegionHeld3
import Derived.Deep.RegionWith
import Derived.Lib.Bytes
namespace Go.Proofs.Ytophkfbdhejmcaa
set_option maxRecDepth 20000
open Go.RowKit
set_option linter.unusedVariables false
theorem seal_all {zs : List Int} (h : AllB zs) : AllB (zs ++ dig (more 0 zs) 4) := h.append (dig_all _ _)
/-- A literal of bytes. -/
theorem bv_lit (w : World) (zs : List Int) (hz : AllB zs) (fr : Nat × Nat) : BV (w.alloc (.cells (zs.map (Value.int .u8)).toArray 5 fr)) (some ⟨w.heap.size, 0, none⟩) zs := by
  refine ⟨hz, .inr ⟨w.heap.size, 0, rfl, by simp, fun i hi => ?_⟩⟩
  rw [Nat.zero_add, World.cell?_alloc_mark]
  simp [List.getD_eq_getElem?_getD, List.getElem?_eq_getElem hi]
theorem dig4 (n : Int) : dig n 4 = [n / 16777216 % 256, n / 65536 % 256, n / 256 % 256, n % 256] := by
  rw [dig_cons, dig_cons, dig_cons, dig_cons]
  simp [dig]
theorem conv_bv {w : World} {a : Option Addr} {cap : Nat} {zs : List Int} (hb : BV w a zs) (hn : a = none → cap = 0) : (convert 27 9 (.slice a zs.length cap)).run Try.prog w = .ok (.string (strOfNums zs)) w := by
  obtain ⟨hz, rfl | ⟨b, off, rfl, _, hc⟩⟩ := hb
  · cases a with
    | none => exact run_convert_bytes_nil (P := Try.prog) w 27 5 Try.underlying27 Try.underlying5 0 cap 9 Try.underlying9
    | some x =>
      show (convert 27 9 (.slice (some x) 0 cap)).run Try.prog w = _
      rw [run_convert_bytes_string w 27 9 5 _ 0 cap Try.underlying27 Try.underlying5 Try.underlying9, run_bytesToString w x 0 cap [] (by simp [loadCells, loadCellsFrom])]
      rfl
  · exact run_convert_bytes_arg (P := Try.prog) w 27 5 Try.underlying27 Try.underlying5 b off zs.length cap zs rfl hc 9 Try.underlying9
theorem str_back {a : List Int} (ha : AllB a) : (strOfNums a).toList.map (fun u => (u.toNat : Int)) = a := by
  rw [Lib.strOfNums_toList]
  unfold Lib.bytesOf
  rw [List.map_map]
  conv => rhs; rw [← List.map_id a]
  apply List.map_congr_left
  intro z hz
  have h := ha z hz
  simp [Function.comp]
  omega
theorem str_ne {a b : List Int} (ha : AllB a) (hb : AllB b) (h : a ≠ b) : ((strOfNums a).toList == (strOfNums b).toList) = false := by
  rw [beq_eq_false_iff_ne]
  intro e
  apply h
  rw [← str_back ha, e, str_back hb]
theorem good_split {zs : List Int} {n : Nat} (hl : zs.length = n + 4) : Good zs ↔ zs.take n ++ dig (more 0 (zs.take n)) 4 = zs := by
  unfold Good
  rw [show zs.length - 4 = n by omega]
  constructor
  · intro h
    rw [← h, List.take_append_drop]
  · intro h
    have h2 : (zs.take n ++ dig (more 0 (zs.take n)) 4).drop n = zs.drop n := by rw [h]
    rw [List.drop_left' (by simp; omega)] at h2
    exact h2.symm
end Go.Proofs.Ytophkfbdhejmcaa
