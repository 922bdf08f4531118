/- A text's bytes as a slice of one's own; bytes as texts. -/
import Derived.Test.YtpmhilaochfpaaaDoorOw
import Derived.Test.YtpmhilaochfpaaaDoorTv
import Derived.Test.YtpmhilaochfpaaaDoorRf
import Derived.Test.YtpmhilaochfpaaaDoorRn
import Derived.Test.YtpmhilaochfpaaaDoorFa
import Derived.Laws.IdiomStrings
namespace Go.Proofs.YtpmhilaochfpaaaDoor
open Go.RowKit
set_option linter.unusedVariables false
set_option linter.unusedSimpArgs false
set_option maxRecDepth 20000

/-- How much room a text's bytes get. -/
def gc (w : World) (s : ByteArray) : Nat := grownCap w s.size 0 5
/-- The world behind a text's turning into bytes. -/
def bw (w : World) (s : ByteArray) : World := w.drew.alloc (.cells (bytesRow s (gc w s)) 5 ((bytesRow s (gc w s)).size, (bytesRow s (gc w s)).size + 1))
theorem conv_sb (w : World) (s : ByteArray) : (convert 9 53 (.string s)).run Tryd.prog w = .ok (.slice (some ⟨w.heap.size, 0, none⟩) s.size (gc w s)) (bw w s) :=
  run_bytes_of_string w 9 53 5 s Tryd.underlying9 Tryd.underlying53 Tryd.underlying5
theorem gc_ge (w : World) (s : ByteArray) : s.size ≤ gc w s := grownCap_ge w s.size 0 5
theorem gc_le (w : World) (s : ByteArray) (h : s.size ≤ 1000000) : gc w s ≤ 9223372036854775807 := by
  have := grownCap_le_maxLen w s.size 0 5 (by unfold maxLen; omega)
  unfold gc
  unfold maxLen at this
  omega
theorem bw_size (w : World) (s : ByteArray) : (bw w s).heap.size = w.heap.size + 1 := by
  unfold bw World.alloc World.drew
  simp [-World.alloc_eq, -World.drew_eq]
theorem bw_below (w : World) (s : ByteArray) : Below w.heap.size w (bw w s) := by
  unfold bw
  have h1 : Below w.heap.size w (w.drewN 1) := drewN_b w 1
  exact bt h1 (bxn (w.drewN 1) _)
theorem bytesOf_st (l : List UInt8) : bytesOf (st l) = l.map fun b => (b.toNat : Int) := by unfold bytesOf; rw [st_list]
theorem bw_bv (w : World) (s : ByteArray) : BV (bw w s) (some ⟨w.heap.size, 0, none⟩) (bytesOf s) := by
  refine ⟨bytesOf_all s, .inr ⟨w.heap.size, 0, rfl, by rw [bw_size]; omega, fun i hi => ?_⟩⟩
  rw [bytesOf_length] at hi
  rw [Nat.zero_add]
  unfold bw
  have h := World.cell?_alloc_mark w.drew (bytesRow s (gc w s)) 5 ((bytesRow s (gc w s)).size, (bytesRow s (gc w s)).size + 1) i
  have e : w.drew.heap.size = w.heap.size := rfl
  rw [e] at h
  rw [h, bytesRow_at s (gc w s) i hi]
  unfold bytesOf
  rw [List.getD_eq_getElem?_getD, List.getElem?_map, List.getElem?_eq_getElem (by simpa using hi)]
  simp
/-- Bytes as signs. -/
def b8 (zs : List Int) : Str := zs.map fun n => UInt8.ofNat n.toNat
theorem str_st (zs : List Int) : strOfNums zs = st (b8 zs) := rfl
theorem b8_len (zs : List Int) : (b8 zs).length = zs.length := by unfold b8; rw [List.length_map]
theorem b8_of {zs : List Int} (h : AllB zs) : (b8 zs).map (fun b => (b.toNat : Int)) = zs := by
  unfold b8
  rw [List.map_map]
  conv => rhs; rw [← List.map_id zs]
  refine List.map_congr_left fun z hz => ?_
  obtain ⟨h0, h1⟩ := h z hz
  simp only [Function.comp, id]
  have : (UInt8.ofNat z.toNat).toNat = z.toNat := by rw [UInt8.toNat_ofNat']; omega
  rw [this]; omega
theorem of_b8 (l : Str) : b8 (l.map fun b => (b.toNat : Int)) = l := by
  unfold b8
  rw [List.map_map]
  conv => rhs; rw [← List.map_id l]
  refine List.map_congr_left fun b hb => ?_
  simp
theorem b8_inj {a b : List Int} (ha : AllB a) (hb : AllB b) (h : b8 a = b8 b) : a = b := by rw [← b8_of ha, h, b8_of hb]
theorem st_cat (a b : Str) : st a ++ st b = st (a ++ b) := by
  have h : ∀ x y : ByteArray, x.data = y.data → x = y := fun x y h => by cases x; cases y; subst h; rfl
  exact h _ _ (by simp [st, ByteArray.data_append])
end Go.Proofs.YtpmhilaochfpaaaDoor
