/- slices.Clone of bytes. -/
import Derived.Test.YtophkfbdhejmcaaBytes
namespace Go.Proofs.Ytophkfbdhejmcaa
set_option maxRecDepth 20000
open Go.RowKit
set_option linter.unusedVariables false
set_option maxHeartbeats 400000 in
theorem clone_nil (w : World) :
    Calls Try.prog 56 #[.slice none 0 0] w fun e w' => e = .returned (.slice none 0 0) ∧ w' = w := by
  have heq := fun wx => Lib.run_eql_slice_nil (P := Try.prog) wx 27 5 none 0 0 0 0 Try.underlying27
  go_enter Try.func56, Try.ntmps56
  go_wp2
  go_ret
  exact ⟨rfl, rfl⟩
set_option maxHeartbeats 400000 in
theorem clone_some (x : Addr) (cap : Nat) (zs : List Int) (w : World) (hb : BV w (some x) zs) (hm : zs.length ≤ 1000000) :
    Calls Try.prog 56 #[.slice (some x) zs.length cap] w fun e w' => ∃ v, e = .returned v ∧ Own w' w.heap.size v zs ∧ Below w.heap.size w w' := by
  obtain ⟨i0, hi, hz0, hz1, hz2⟩ := info_parts Try.info5
  have hlit : (w.alloc (.cells #[] 5)).ownsRow w.heap.size 5 1 (.slice (some ⟨w.heap.size, 0, none⟩) 0 0) 0 [] := World.ownsRow_lit w #[] 0 (Nat.le_refl _) (by decide) rfl
  have hcs : ∀ j u, (zs.map (Value.int .u8))[j]? = some u → (w.alloc (.cells #[] 5)).cell? (x.add j) = some u := by
    intro j u hu
    rw [List.getElem?_map] at hu
    obtain ⟨z, hz, rfl⟩ := Option.map_eq_some_iff.1 hu
    have hj := (List.getElem?_eq_some_iff.1 hz).1
    obtain ⟨_, h1 | ⟨b, off, hx, hlt, hc⟩⟩ := hb
    · subst h1; simp at hj
    · obtain rfl := Option.some.inj hx
      rw [add_plain]
      have := hc j hj
      rw [List.getD_eq_getElem?_getD, hz] at this
      exact (Below.cell ((Below.refl w.heap.size w).alloc (Nat.le_refl _) _) (p := ⟨b, off + j, none⟩) hlt).trans this
  clear hb
  have heq := fun wx => Lib.run_eql_slice_nil (P := Try.prog) wx 27 5 (some x) zs.length cap 0 0 Try.underlying27
  go_enter Try.func56, Try.ntmps56
  go_wp2_with (at_builtin; refine wpList_append_own _ rfl _ _ 27 rfl w.heap.size 5 i0 (.int .u8 0) 1 1 Try.underlying27 hi hz0 hz1 hz2 rfl (by decide) _ 0 _ rfl hlit x zs.length cap (zs.map (Value.int .u8)) rfl ?c0 hcs (u8row _) ?c3 ?c4 ?c5 ?_)
  case c0 => simp
  case c3 => unfold maxLen; omega
  case c4 => omega
  case c5 => simp
  intro v' w1 hown hgrow _
  have HB : Hid (Below w.heap.size w w1) := ((Below.refl _ _).alloc (Nat.le_refl _) _).grown hgrow (by simp) (by intro j hj; simp [Value.ownBlock] at hj; omega)
  have HO : Hid (Own w1 w.heap.size v' zs) := by
    simpa [Own, Hid] using hown
  clear hgrow hlit hcs hown
  go_wp2
  go_ret
  exact ⟨_, rfl, HO, HB⟩
theorem clone_any (a : Option Addr) (cap : Nat) (zs : List Int) (w : World) (hb : BV w a zs) (hm : zs.length ≤ 1000000) (hn : a = none → cap = 0) :
    Calls Try.prog 56 #[.slice a zs.length cap] w fun e w' => ∃ v, e = .returned v ∧ Own w' w.heap.size v zs ∧ Below w.heap.size w w' := by
  cases a with
  | none =>
    obtain rfl := hn rfl
    obtain rfl : zs = [] := slice_some_len hb rfl
    refine (clone_nil w).mono ?_
    rintro e w' ⟨rfl, hw⟩
    obtain rfl := hw.symm
    exact ⟨_, rfl, Own.nil _ _, Below.refl _ _⟩
  | some x => exact clone_some x cap zs w hb hm
end Go.Proofs.Ytophkfbdhejmcaa
