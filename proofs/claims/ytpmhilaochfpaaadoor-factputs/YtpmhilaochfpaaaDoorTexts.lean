/- num.Text and the document's Text at any text: contracts of single calls. -/
import Derived.Test.YtpmhilaochfpaaaDoorPuts2
import Derived.Lib.AppendStr
namespace Go.Proofs.YtpmhilaochfpaaaDoor
set_option maxRecDepth 20000
set_option maxRecDepth 20000
open Go.RowKit

def bytesOf (s : ByteArray) : List Int := s.data.toList.map fun b => (b.toNat : Int)
def textE (s : ByteArray) : Int := if 255 < s.size then 5 else 0
def textL (s : ByteArray) : List Int := if 255 < s.size then [] else (s.size : Int) :: bytesOf s

theorem bytesOf_length (s : ByteArray) : (bytesOf s).length = s.size := by simp [bytesOf]
theorem bytesOf_all (s : ByteArray) : AllB (bytesOf s) := by
  intro z hz
  simp only [bytesOf, List.mem_map] at hz
  obtain ⟨b, _, rfl⟩ := hz
  have := b.toNat_lt
  omega
theorem strCells_eq (s : ByteArray) : Lib.strCells s = (bytesOf s).map (Value.int .u8) := by simp [Lib.strCells, bytesOf]
theorem textL_all (s : ByteArray) : AllB (textL s) := by
  unfold textL
  split
  · exact AllB.nil
  · exact AllB.cons (by omega) (by omega) (bytesOf_all s)

set_option maxHeartbeats 400000 in
theorem text_long (s : ByteArray) (w : World) (h : 255 < s.size) :
    Calls Tryd.prog 51 #[.string s] w fun e w' => e = .returned (.tuple #[.slice none 0 0, .int .i64 5]) ∧ w' = w := by
  go_enter Tryd.func51, Tryd.ntmps51
  go_wp2
  go_ret2
  exact ⟨rfl, rfl⟩
set_option maxHeartbeats 400000 in
theorem rtext_long (s : ByteArray) (w : World) (h : 255 < s.size) :
    Calls Tryd.prog 42 #[.string s] w fun e w' => e = .returned (.tuple #[.slice none 0 0, .int .i64 5]) ∧ w' = w := by
  go_enter Tryd.func42, Tryd.ntmps42
  go_wp2
  go_ret2
  exact ⟨rfl, rfl⟩
set_option maxHeartbeats 400000 in
theorem text_ok (s : ByteArray) (w : World) (h : s.size ≤ 255) :
    Calls Tryd.prog 51 #[.string s] w fun e w' => ∃ v, e = .returned (.tuple #[v, .int .i64 0]) ∧ w'.ownsRow w.heap.size 5 1 v (1 + s.size) (.int .u8 s.size :: Lib.strCells s) ∧ Below w.heap.size w w' := by
  obtain ⟨i0, hi, hz0, hz1, hz2⟩ := info_parts Tryd.info5
  have hlit : (w.alloc (.cells #[.int .u8 s.size] 5)).ownsRow w.heap.size 5 1 (.slice (some ⟨w.heap.size, 0, none⟩) 1 1) 1 [.int .u8 s.size] := World.ownsRow_lit w #[.int .u8 s.size] 1 (Nat.le_refl _) (by decide) rfl
  go_enter Tryd.func51, Tryd.ntmps51
  go_wp2_with (at_builtin; refine Lib.wpList_append_own_string _ rfl _ _ 53 9 rfl w.heap.size 5 i0 Tryd.underlying53 Tryd.underlying9 hi hz0 hz1 hz2 _ 1 _ rfl hlit s rfl ?c1 ?c2 ?c3 ?_)
  case c1 => unfold maxLen; omega
  case c2 => omega
  case c3 => simp
  intro v' w1 hown hgrow _
  have HB : Hid (Below w.heap.size w w1) := ((Below.refl _ _).alloc (Nat.le_refl _) _).grown hgrow (by simp) (by intro j hj; simp [Value.ownBlock] at hj; omega)
  clear hgrow hlit
  go_wp2
  go_ret2
  exact ⟨_, rfl, hown, HB⟩
set_option maxHeartbeats 400000 in
theorem rtext_ok (s : ByteArray) (w : World) (h : s.size ≤ 255) :
    Calls Tryd.prog 42 #[.string s] w fun e w' => ∃ v, e = .returned (.tuple #[v, .int .i64 0]) ∧ w'.ownsRow w.heap.size 5 1 v (1 + s.size) (.int .u8 s.size :: Lib.strCells s) ∧ Below w.heap.size w w' := by
  obtain ⟨i0, hi, hz0, hz1, hz2⟩ := info_parts Tryd.info5
  have hlit : (w.alloc (.cells #[.int .u8 s.size] 5)).ownsRow w.heap.size 5 1 (.slice (some ⟨w.heap.size, 0, none⟩) 1 1) 1 [.int .u8 s.size] := World.ownsRow_lit w #[.int .u8 s.size] 1 (Nat.le_refl _) (by decide) rfl
  go_enter Tryd.func42, Tryd.ntmps42
  go_wp2_with (at_builtin; refine Lib.wpList_append_own_string _ rfl _ _ 53 9 rfl w.heap.size 5 i0 Tryd.underlying53 Tryd.underlying9 hi hz0 hz1 hz2 _ 1 _ rfl hlit s rfl ?c1 ?c2 ?c3 ?_)
  case c1 => unfold maxLen; omega
  case c2 => omega
  case c3 => simp
  intro v' w1 hown hgrow _
  have HB : Hid (Below w.heap.size w w1) := ((Below.refl _ _).alloc (Nat.le_refl _) _).grown hgrow (by simp) (by intro j hj; simp [Value.ownBlock] at hj; omega)
  clear hgrow hlit
  go_wp2
  go_ret2
  exact ⟨_, rfl, hown, HB⟩

theorem own_text (w w' : World) (v : Value) (s : ByteArray) (h : w'.ownsRow w.heap.size 5 1 v (1 + s.size) (.int .u8 s.size :: Lib.strCells s)) : Own w' w.heap.size v ((s.size : Int) :: bytesOf s) := by
  unfold Own
  rw [List.map_cons, ← strCells_eq, List.length_cons, bytesOf_length, Nat.add_comm]
  exact h

theorem text_any (s : ByteArray) (w : World) :
    Calls Tryd.prog 51 #[.string s] w fun e w' => ∃ v, e = .returned (.tuple #[v, .int .i64 (textE s)]) ∧ Own w' w.heap.size v (textL s) ∧ Below w.heap.size w w' := by
  unfold textE textL
  by_cases h : 255 < s.size
  · rw [if_pos h, if_pos h]
    refine (text_long s w h).mono ?_
    rintro e w' ⟨rfl, hw⟩
    obtain rfl := hw.symm
    exact ⟨_, rfl, Own.nil _ _, Below.refl _ _⟩
  · rw [if_neg h, if_neg h]
    refine (text_ok s w (by omega)).mono ?_
    rintro e w' ⟨v, rfl, ho, hb⟩
    exact ⟨v, rfl, own_text w w' v s ho, hb⟩
theorem rtext_any (s : ByteArray) (w : World) :
    Calls Tryd.prog 42 #[.string s] w fun e w' => ∃ v, e = .returned (.tuple #[v, .int .i64 (textE s)]) ∧ Own w' w.heap.size v (textL s) ∧ Below w.heap.size w w' := by
  unfold textE textL
  by_cases h : 255 < s.size
  · rw [if_pos h, if_pos h]
    refine (rtext_long s w h).mono ?_
    rintro e w' ⟨rfl, hw⟩
    obtain rfl := hw.symm
    exact ⟨_, rfl, Own.nil _ _, Below.refl _ _⟩
  · rw [if_neg h, if_neg h]
    refine (rtext_ok s w (by omega)).mono ?_
    rintro e w' ⟨v, rfl, ho, hb⟩
    exact ⟨v, rfl, own_text w w' v s ho, hb⟩
end Go.Proofs.YtpmhilaochfpaaaDoor
