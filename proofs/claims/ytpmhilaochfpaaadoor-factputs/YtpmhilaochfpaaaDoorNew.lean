/- num.New at any bytes: contracts of single calls; and what a slice of a call's own bytes is good for. -/
import Derived.Test.YtpmhilaochfpaaaDoorRd3
namespace Go.Proofs.YtpmhilaochfpaaaDoor
set_option maxRecDepth 20000
set_option maxRecDepth 20000
open Go.RowKit

theorem Own.view {w : World} {base : Nat} {v : Value} {zs : List Int} (h : Own w base v zs) (hz : AllB zs) :
    ∃ a cap, v = .slice a zs.length cap ∧ zs.length ≤ cap ∧ cap ≤ maxLen ∧ AllB zs ∧ (zs = [] ∨ ∃ b off, a = some ⟨b, off, none⟩ ∧ base ≤ b ∧ b < w.heap.size ∧ ∀ i, i < zs.length → w.cell? ⟨b, off + i, none⟩ = some (.int .u8 (zs.getD i 0))) := by
  have hl := World.ownsRow.lt h
  rcases h.2 with ⟨rfl, hn⟩ | ⟨g, cap, cur, rfl, hb, hg, hnc, hcm, hcs, htake⟩
  · refine ⟨none, 0, by rw [hn], by omega, by decide, hz, .inl (List.eq_nil_of_length_eq_zero hn)⟩
  · refine ⟨_, cap, rfl, hnc, hcm, hz, .inr ⟨g, 0, rfl, hb, (hl g rfl).2, ?_⟩⟩
    intro i hi
    have hc := World.ownsRow.cellAt (g := g) h i (by omega)
    rw [Nat.zero_add, hc, List.getElem?_map, List.getElem?_eq_getElem hi, List.getD_eq_getElem?_getD, List.getElem?_eq_getElem hi]
    rfl
theorem Own.below {w w' : World} {base : Nat} {v : Value} {zs : List Int} (h : Own w base v zs) (hb : Below w.heap.size w w') : Own w' base v zs := by
  refine ⟨h.1, ?_⟩
  have hl := World.ownsRow.lt h
  rcases h.2 with hn | ⟨g, cap, cur, rfl, hbb, hg, rest⟩
  · exact .inl hn
  · exact .inr ⟨g, cap, cur, rfl, hbb, (hb.block g (hl g rfl).2).trans hg, rest⟩
theorem BV.below {w w' : World} {a : Option Addr} {zs : List Int} (h : BV w a zs) (hb : Below w.heap.size w w') : BV w' a zs := by
  obtain ⟨hz, h1 | ⟨b, off, rfl, hlt, hc⟩⟩ := h
  · exact ⟨hz, .inl h1⟩
  · exact ⟨hz, .inr ⟨b, off, rfl, Nat.lt_of_lt_of_le hlt hb.size, fun i hi => (hb.cell (p := ⟨b, off + i, none⟩) hlt).trans (hc i hi)⟩⟩

theorem add_plain (b off j : Nat) : (⟨b, off, none⟩ : Addr).add j = ⟨b, off + j, none⟩ := by unfold Addr.add; split <;> simp_all

set_option maxHeartbeats 400000 in
theorem clone_nil (w : World) :
    Calls Tryd.prog 69 #[.slice none 0 0] w fun e w' => e = .returned (.slice none 0 0) ∧ w' = w := by
  have heq := fun wx => Lib.run_eql_slice_nil (P := Tryd.prog) wx 53 5 none 0 0 0 0 Tryd.underlying53
  go_enter Tryd.func69, Tryd.ntmps69
  go_wp2
  go_ret
  exact ⟨rfl, rfl⟩
set_option maxHeartbeats 400000 in
theorem clone_some (x : Addr) (cap : Nat) (zs : List Int) (w : World) (hb : BV w (some x) zs) (hm : zs.length ≤ 1000000) :
    Calls Tryd.prog 69 #[.slice (some x) zs.length cap] w fun e w' => ∃ v, e = .returned v ∧ Own w' w.heap.size v zs ∧ Below w.heap.size w w' := by
  obtain ⟨i0, hi, hz0, hz1, hz2⟩ := info_parts Tryd.info5
  have hlit : (w.alloc (.cells #[] 5)).ownsRow w.heap.size 5 1 (.slice (some ⟨w.heap.size, 0, none⟩) 0 0) 0 [] := World.ownsRow_lit w #[] 0 (Nat.le_refl _) (by decide) rfl
  have hcs : ∀ j u, (zs.map (Value.int .u8))[j]? = some u → (w.alloc (.cells #[] 5)).cell? (x.add j) = some u := by
    intro j u hu
    rw [List.getElem?_map] at hu
    obtain ⟨z, hz, rfl⟩ := Option.map_eq_some_iff.1 hu
    have hj := (List.getElem?_eq_some_iff.1 hz).1
    obtain ⟨_, h1 | ⟨b, off, hx, hlt, hc⟩⟩ := hb
    · subst h1; simp at hj
    · obtain rfl := Option.some.inj hx
      rw [add_plain]
      have := hc j hj
      rw [List.getD_eq_getElem?_getD, hz] at this
      exact (Below.cell ((Below.refl w.heap.size w).alloc (Nat.le_refl _) _) (p := ⟨b, off + j, none⟩) hlt).trans this
  clear hb
  have heq := fun wx => Lib.run_eql_slice_nil (P := Tryd.prog) wx 53 5 (some x) zs.length cap 0 0 Tryd.underlying53
  go_enter Tryd.func69, Tryd.ntmps69
  go_wp2_with (at_builtin; refine wpList_append_own _ rfl _ _ 53 rfl w.heap.size 5 i0 (.int .u8 0) 1 1 Tryd.underlying53 hi hz0 hz1 hz2 rfl (by decide) _ 0 _ rfl hlit x zs.length cap (zs.map (Value.int .u8)) rfl ?c0 hcs (u8row _) ?c3 ?c4 ?c5 ?_)
  case c0 => simp
  case c3 => unfold maxLen; omega
  case c4 => omega
  case c5 => simp
  intro v' w1 hown hgrow _
  have HB : Hid (Below w.heap.size w w1) := ((Below.refl _ _).alloc (Nat.le_refl _) _).grown hgrow (by simp) (by intro j hj; simp [Value.ownBlock] at hj; omega)
  have HO : Hid (Own w1 w.heap.size v' zs) := by
    simpa [Own, Hid] using hown
  clear hgrow hlit hcs hown
  go_wp2
  go_ret
  exact ⟨_, rfl, HO, HB⟩

theorem slice_some_len {a : Option Addr} {zs : List Int} {w : World} (hb : BV w a zs) (ha : a = none) : zs = [] := by
  subst ha
  rcases hb.2 with h | ⟨b, off, h, _⟩
  · exact h
  · cases h

theorem bclone_any (a : Option Addr) (cap : Nat) (zs : List Int) (w : World) (hb : BV w a zs) (hm : zs.length ≤ 1000000) (hn : a = none → cap = 0) :
    Calls Tryd.prog 69 #[.slice a zs.length cap] w fun e w' => ∃ v, e = .returned v ∧ Own w' w.heap.size v zs ∧ Below w.heap.size w w' := by
  cases a with
  | none =>
    obtain rfl := hn rfl
    obtain rfl : zs = [] := slice_some_len hb rfl
    refine (clone_nil w).mono ?_
    rintro e w' ⟨rfl, hw⟩
    obtain rfl := hw.symm
    exact ⟨_, rfl, Own.nil _ _, Below.refl _ _⟩
  | some x => exact clone_some x cap zs w hb hm

theorem rds_new (w : World) (a : Option Addr) (cap : Nat) (zs : List Int) (hc : zs.length ≤ cap) (hm : cap ≤ maxLen) (hz : AllB zs)
    (hb : zs = [] ∨ ∃ b off, a = some ⟨b, off, none⟩ ∧ b < w.heap.size ∧ ∀ i, i < zs.length → w.cell? ⟨b, off + i, none⟩ = some (.int .u8 (zs.getD i 0))) :
    RdS (w.alloc (.cells #[.slice a zs.length cap, .int .i64 0] 110)) w.heap.size zs 0 := by
  refine ⟨a, cap, ⟨?_, ?_, ?_, ?_⟩, hc, hm, hz, ?_⟩
  · go_simp
  · go_simp
  · go_simp
  · go_simp
  · rcases hb with hb | ⟨b, off, rfl, hlt, hcell⟩
    · exact .inl hb
    · refine .inr ⟨b, off, rfl, by omega, by simp; omega, fun i hi => ?_⟩
      exact (Below.cell ((Below.refl w.heap.size w).alloc (Nat.le_refl _) _) (p := ⟨b, off + i, none⟩) hlt).trans (hcell i hi)

set_option maxHeartbeats 400000 in
theorem new_any (a : Option Addr) (cap : Nat) (zs : List Int) (w : World) (hb : BV w a zs) (hm : zs.length ≤ 1000000) (hn : a = none → cap = 0) :
    Calls Tryd.prog 62 #[.slice a zs.length cap] w fun e w' => ∃ rb, e = .returned (.pointer (some ⟨rb, 0, none⟩)) ∧ w.heap.size ≤ rb ∧ rb < w'.heap.size ∧ RdS w' rb zs 0 ∧ Below w.heap.size w w' := by
  have HC := bclone_any a cap zs w hb hm hn
  have hz := hb.1
  clear hb hn
  go_enter Tryd.func62, Tryd.ntmps62
  go_wp2_with (go_at_call 69; refine HC.mono ?_; rintro e w1 ⟨v, rfl, ho, hbl⟩; obtain ⟨a', cap', rfl, hv⟩ := ho.view hz; clear HC)
  obtain ⟨h1, h2, h3, h4⟩ := hv
  have HR := rds_new w1 a' cap' zs h1 h2 h3 (by
    rcases h4 with h4 | ⟨b, off, e, _, hlt, hcell⟩
    · exact .inl h4
    · exact .inr ⟨b, off, e, hlt, hcell⟩)
  go_ret
  exact ⟨_, rfl, hbl.size, by simp, HR, hbl.alloc hbl.size _⟩
end Go.Proofs.YtpmhilaochfpaaaDoor
