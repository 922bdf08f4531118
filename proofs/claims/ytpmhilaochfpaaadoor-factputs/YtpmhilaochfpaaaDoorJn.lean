/- Parts of bytes laid one behind the other: join. -/
import Derived.Test.YtpmhilaochfpaaaDoorCv
import Derived.Test.YtpmhilaochfpaaaDoorRe
import Derived.Test.YtpmhilaochfpaaaDoorLf
namespace Go.Proofs.YtpmhilaochfpaaaDoor
open Go.RowKit
set_option linter.unusedVariables false
set_option linter.unusedSimpArgs false
set_option maxRecDepth 20000

/-- Append of any bytes onto one's own. -/
theorem wp_app_bv {ops : Array Oper} {rest : List Oper} {o : Oper} {a : Act} {Q : Exit → Act → World → Prop} {w : World} (hgd : o.guard = none) (s x : Operand)
    (ho : o.op = .call { callee := .builtin .append, args := #[s, x], argTypes := #[53, 53] }) (base : Nat) (v : Value) (zs ys : List Int) (hs : a.eval s = v) (hown : Own w base v zs)
    (b off m cap : Nat) (hx : a.eval x = .slice (some ⟨b, off, none⟩) m cap) (hm : ys.length = m) (hne : ys ≠ []) (hv : BV w (some ⟨b, off, none⟩) ys) (hlen : zs.length + ys.length ≤ 1000000) (hbase : base ≤ w.heap.size)
    (h : ∀ v' w', Own w' base v' (zs ++ ys) → Below base w w' → wpList Tryd.prog ops Q rest (a.put o.dst v') w') : wpList Tryd.prog ops Q (o :: rest) a w := by
  obtain ⟨i0, hi, hz0, hz1, hz2⟩ := info_parts Tryd.info5
  subst hm
  refine wpList_append_own w hgd s x 53 ho base 5 i0 (.int .u8 0) 1 1 Tryd.underlying53 hi hz0 hz1 hz2 rfl (by decide) v zs.length (zs.map (Value.int .u8)) hs hown ⟨b, off, none⟩ ys.length cap (ys.map (Value.int .u8)) hx (by simp) ?_ (u8row _) (by unfold maxLen; omega) (by omega) hbase ?_
  · intro j u hu
    rw [List.getElem?_map] at hu
    obtain ⟨z, hz, rfl⟩ := Option.map_eq_some_iff.1 hu
    have hj := (List.getElem?_eq_some_iff.1 hz).1
    obtain ⟨_, h1 | ⟨b', off', hx, hlt, hc⟩⟩ := hv
    · exact absurd h1 hne
    · obtain ⟨rfl, rfl, _⟩ := Addr.mk.inj (Option.some.inj hx)
      have := hc j hj
      rw [add_plain, this, List.getD_eq_getElem?_getD, hz]; rfl
  · intro v' w' h1 h2 _
    have ho' : Own w' base v' (zs ++ ys) := by
      unfold Own
      rw [List.length_append, List.map_append]
      exact h1
    exact h v' w' ho' ((Below.refl base w).grown h2 hbase (fun k hk => (World.ownsRow.lt hown k hk).1))
/-- Some bytes, at least one. -/
def RBy (w : World) (cs : List Value) (zs : List Int) : Prop := ∃ b off cap, cs = [.slice (some ⟨b, off, none⟩) zs.length cap] ∧ zs ≠ [] ∧ BV w (some ⟨b, off, none⟩) zs ∧ b < w.heap.size
theorem RBy.below {w w' : World} {cs : List Value} {zs : List Int} (h : RBy w cs zs) (hb : Below w.heap.size w w') : RBy w' cs zs := by
  obtain ⟨b, off, cap, h1, h2, h3, h4⟩ := h
  exact ⟨b, off, cap, h1, h2, h3.below hb, Nat.lt_of_lt_of_le h4 hb.size⟩
def joinE (zss : List (List Int)) : Int := if 160 < zss.flatten.length then 5 else 0
def joinS (zss : List (List Int)) : Str := if 160 < zss.flatten.length then [] else b8 zss.flatten
theorem join_no {zss : List (List Int)} (h : 160 < zss.flatten.length) : joinS zss = [] ∧ joinE zss = 5 := ⟨by unfold joinS; rw [if_pos h], by unfold joinE; rw [if_pos h]⟩
theorem join_yes {zss : List (List Int)} (h : ¬ 160 < zss.flatten.length) : joinS zss = b8 zss.flatten ∧ joinE zss = 0 := ⟨by unfold joinS; rw [if_neg h], by unfold joinE; rw [if_neg h]⟩
theorem flat_take (zss : List (List Int)) (i : Nat) (h : i < zss.length) : (zss.take (i + 1)).flatten = (zss.take i).flatten ++ zss.getD i [] := by
  rw [List.take_add_one, List.flatten_append, List.getElem?_eq_getElem h, List.getD_eq_getElem?_getD, List.getElem?_eq_getElem h]; simp
theorem flat_le (zss : List (List Int)) (i : Nat) : (zss.take i).flatten.length ≤ zss.flatten.length := by
  conv => rhs; rw [← List.take_append_drop i zss, List.flatten_append, List.length_append]
  omega
set_option maxHeartbeats 4000000 in
theorem join_any {Q : Nat → Prop} (v : Value) (zss : List (List Int)) (w : World) (h : Row 1 RBy w Q v zss) (hz : ∀ zs ∈ zss, zs.length ≤ 100000) :
    Calls Tryd.prog 25 #[v] w fun e w' => e = .returned (.tuple #[.string (st (joinS zss)), .int .i64 (joinE zss)]) ∧ Below w.heap.size w w' := by
  obtain ⟨css1, h1, hh1⟩ := h
  have le1 := hh1.len
  obtain ⟨a1, c1, rfl⟩ := h1.shape
  obtain ⟨-, l1, m1, r1⟩ := h1.row
  rw [le1] at l1 r1 ⊢
  have R1 : Hid (∀ i, i < zss.length → ∃ b off, a1 = some ⟨b, off, none⟩ ∧ b < w.heap.size ∧ ∀ j, j < 1 → w.cell? ⟨b, off + (i * 1 + j), none⟩ = (css1.getD i [])[j]?) := r1
  have G1 : Hid (All2 (RBy w) css1 zss) := hh1
  have HZ : Hid (∀ zs ∈ zss, zs.length ≤ 100000) := hz
  clear r1 h1 hh1 le1 hz
  have hnn : (zss.length : Int) ≤ 9223372036854775807 := by omega
  go_enter Tryd.func25, Tryd.ntmps25
  go_wp2
  go_loopw [4, 6, 9] (fun va _ vi wr => ∃ i : Nat, vi = .int .i64 i ∧ i ≤ zss.length ∧ Hid (Own wr w.heap.size va (zss.take i).flatten ∧ Below w.heap.size w wr ∧ AllB (zss.take i).flatten) ∧ Hid ((zss.take i).flatten.length ≤ 160)) (fun _ _ v _ => (zss.length - intOf v).toNat)
  case atStart => exact ⟨0, rfl, Nat.zero_le _, ⟨Own.nil _ _, Below.refl _ _, AllB.nil⟩, Nat.zero_le _⟩
  case round =>
    obtain ⟨i, rfl, hi, HO, HL⟩ := hrel
    obtain ⟨ho, hb, ha⟩ := HO.out
    clear HO
    by_cases hlt : i < zss.length
    · have hiz : (i : Int) < zss.length := by omega
      obtain ⟨b1, o1, rfl, hb1, q1⟩ := R1.out i hlt
      obtain ⟨b2, o2, c2, ec, hne, hbv, hb2⟩ := G1.out.at i [] [] hlt
      rw [ec] at q1
      have hle : (zss.getD i []).length ≤ 100000 := HZ.out _ (by rw [List.getD_eq_getElem?_getD, List.getElem?_eq_getElem hlt]; exact List.getElem_mem hlt)
      have d0 : wr.cell? ⟨b1, o1 + i, none⟩ = some (.slice (some ⟨b2, o2, none⟩) (zss.getD i []).length c2) := (hb.cell (p := ⟨b1, o1 + i, none⟩) hb1).trans (by have := q1 0 (by decide); simpa using this)
      have FT := flat_take zss i hlt
      have HF : Hid ((zss.take (i + 1)).flatten.length ≤ zss.flatten.length) := flat_le zss (i + 1)
      have hbv' := hbv.below hb
      generalize zss.getD i [] = ys at *
      have hll : (zss.take i).flatten.length ≤ 160 := HL.out
      rw [FT, List.length_append] at HF
      generalize (zss.take i).flatten = zs at *
      obtain ⟨a, cap, rfl, _, _, _, _⟩ := ho.view ha
      clear q1 ec
      have hadd : IntKind.i64.wrap ((zs.length : Int) + ys.length) = (zs.length : Int) + ys.length := by rw [IntKind.wrap_i64]; omega
      by_cases hs : 160 < zs.length + ys.length
      · have E : Hid (joinS zss = [] ∧ joinE zss = 5) := join_no (by have := HF.out; omega)
        have hgt : ((zs.length : Int) + ys.length > 160) := by omega
        go_wp2
        go_ret2
        exact ⟨by rw [E.out.1, E.out.2]; rfl, hb⟩
      · have hgt : ¬ ((zs.length : Int) + ys.length > 160) := by omega
        have HB : Hid (Below w.heap.size w wr) := hb
        have hbs := hb.size
        go_wp2_with (at_builtin; refine wp_app_bv rfl _ _ rfl w.heap.size _ zs ys rfl ho b2 o2 _ c2 rfl rfl hne hbv' (by omega) (by omega) ?_; intro v5 w5 o5 b5)
        go_roundw
        case rel => exact ⟨i + 1, by simp, by omega, ⟨by rw [FT]; exact o5, HB.out.trans b5, by rw [FT]; exact ha.append hbv.1⟩, by show _ ≤ 160; rw [FT, List.length_append]; omega⟩
        case measure => simp [intOf]; omega
    · have hiz : ¬ (i : Int) < zss.length := by omega
      have e : zss.take i = zss := List.take_of_length_le (by omega)
      rw [e] at ho ha HL
      have E : Hid (joinS zss = b8 zss.flatten ∧ joinE zss = 0) := join_yes (by have := HL.out; omega)
      have KC := conv_own ho ha
      clear e
      rw [str_st] at KC
      generalize b8 zss.flatten = ks at *
      go_wp2
      go_ret2
      exact ⟨by rw [E.out.1, E.out.2]; rfl, hb⟩
end Go.Proofs.YtpmhilaochfpaaaDoor
