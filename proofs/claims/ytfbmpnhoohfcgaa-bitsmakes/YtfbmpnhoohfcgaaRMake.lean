/- The document's With, Join and Less: contracts of single calls. -/
import Derived.Test.YtfbmpnhoohfcgaaJoin
import Derived.Laws.AppendOwnNone
namespace Go.Proofs.Ytfbmpnhoohfcgaa
open Go.RowKit

/-- append([]byte{}, m...). -/
theorem wp_app_new {ops : Array Oper} {rest : List Oper} {o : Oper} {a : Act} {Q : Exit → Act → World → Prop} {w : World} (hgd : o.guard = none) (s x : Operand)
    (ho : o.op = .call { callee := .builtin .append, args := #[s, x], argTypes := #[22, 22] }) (g m cap : Nat) (ad : Option Addr) (zs : List Int) (hs : a.eval s = .slice (some ⟨g, 0, none⟩) 0 0) (hx : a.eval x = .slice ad m cap)
    (hg : w.heap[g]? = some (.cells #[] 5 (0, 0))) (hm : zs.length = m) (hb : BV w ad zs) (hlen : m ≤ 1000000) (base : Nat) (hbase : base ≤ w.heap.size) (hbg : base ≤ g) (hnil : ad = none → cap = 0)
    (h : ∀ v w', Own w' base v zs → Below base w w' → wpList Try.prog ops Q rest (a.put o.dst v) w') : wpList Try.prog ops Q (o :: rest) a w := by
  obtain ⟨i0, hi, hz0, hz1, hz2⟩ := info_parts Try.info5
  have hown : w.ownsRow base 5 1 (.slice (some ⟨g, 0, none⟩) 0 0) 0 [] := ⟨rfl, .inr ⟨g, 0, #[], rfl, hbg, hg, Nat.le_refl _, by decide, rfl, rfl⟩⟩
  cases ad with
  | none =>
    obtain rfl : zs = [] := slice_some_len hb rfl
    obtain rfl : 0 = m := hm
    obtain rfl := hnil rfl
    refine wpList_append_own_none hgd s x 22 ho base 5 i0 1 Try.underlying22 hi _ 0 [] hs hown hx ?_
    exact h _ w hown (Below.refl _ _)
  | some ad =>
    subst hm
    refine wpList_append_own w hgd s x 22 ho base 5 i0 (.int .u8 0) 1 1 Try.underlying22 hi hz0 hz1 hz2 rfl (by decide) _ 0 [] hs hown ad zs.length cap (zs.map (Value.int .u8)) hx (by simp) ?_ (u8row _) (by unfold maxLen; omega) (by omega) hbase ?_
    · intro j u hu
      have hj : j < zs.length := by
        have := (List.getElem?_eq_some_iff.1 hu).1
        simpa using this
      obtain ⟨x', e, hc⟩ := bv_cells hb (by omega)
      obtain rfl := Option.some.inj e
      exact hc j u hu
    · intro v' w' h1 h2 _
      refine h v' w' ?_ ((Below.refl base w).grown h2 hbase (fun k hk => by simp [Value.ownBlock] at hk; omega))
      unfold Own
      simpa using h1
theorem heap_new (w : World) (o : Obj) : (w.alloc o).heap[w.heap.size]? = some o := heap_last w o
set_option maxHeartbeats 1600000 in
theorem rwith_any (a : Option Addr) (cap : Nat) (zs : List Int) (i : Int) (on : Bool) (w : World) (hb : BV w a zs) (hn : zs.length ≤ 1000000) (hnil : a = none → cap = 0) (hi : i ≤ 9223372036854775807) :
    Calls Try.prog 22 #[.slice a zs.length cap, .int .i64 i, .bool on] w fun e w' => ∃ v, e = .returned v ∧ Own w' w.heap.size v (withI zs i on) ∧ Below w.heap.size w w' := by
  have HBV : Hid (∀ W, Below w.heap.size w W → BV W a zs) := fun W hW => hb.below hW
  have HH : Hid (∀ W, Below w.heap.size w W → Calls Try.prog 12 #[.slice a zs.length cap, .int .i64 i] W fun e w' => e = .returned (.bool (hasI zs i)) ∧ Below W.heap.size W w') := fun W hW => by
    refine (rhas_any a cap zs i W (hb.below hW) hn hi).mono ?_
    rintro e w' ⟨rfl, k, rfl⟩
    exact ⟨rfl, below_drewN (Below.refl _ _) _⟩
  have hz := hb.1
  clear hb
  by_cases h0 : i < 0
  · have hd : decide (i < 0) = true := by simpa using h0
    rw [withI_out on (by omega)]
    go_enter Try.func22, Try.ntmps22
    go_wp2_with (first | (refine wp_app_new rfl _ _ rfl w.heap.size zs.length cap a zs rfl rfl (heap_new _ _) rfl (HBV.out _ ((Below.refl _ _).alloc (Nat.le_refl _) _)) hn w.heap.size (by simp) (Nat.le_refl _) hnil ?_; intro v1 w1 ho1 hb1; obtain ⟨a1, cap1, e1, _⟩ := ho1.view hz; subst e1) | fail)
    go_ret
    exact ⟨_, rfl, ho1, ((Below.refl _ _).alloc (Nat.le_refl _) _).trans hb1⟩
  · have hd : decide (i < 0) = false := by simpa using h0
    obtain ⟨n, rfl⟩ : ∃ n : Nat, i = (n : Int) := ⟨i.toNat, by omega⟩
    have hq2 : ((n : Int) / 8).toNat = n / 8 := by omega
    have hlq0 : 0 ≤ (n : Int) / 8 := by omega
    have hwr : wrap64 ((n : Int) / 8) = (n : Int) / 8 := by unfold wrap64; omega
    have hwr2 : IntKind.i64.wrap ((n : Int) / 8) = (n : Int) / 8 := by rw [IntKind.wrap_i64]; omega
    by_cases hn8 : n < 8 * zs.length
    · have hdl : decide ((zs.length : Int) ≤ (n : Int) / 8) = false := by simp; omega
      rw [withI_in on hn8]
      rw [hasI_nat] at HH
      by_cases hh : hasB zs n = on
      · rw [setB_self hz n on (by omega) hh]
        rw [hh] at HH
        go_enter Try.func22, Try.ntmps22
        go_wp2_with (first | (refine wp_app_new rfl _ _ rfl w.heap.size zs.length cap a zs rfl rfl (heap_new _ _) rfl (HBV.out _ ((Below.refl _ _).alloc (Nat.le_refl _) _)) hn w.heap.size (by simp) (Nat.le_refl _) hnil ?_; intro v1 w1 ho1 hb1; obtain ⟨a1, cap1, e1, _⟩ := ho1.view hz; subst e1; have HB1 : Hid (Below w.heap.size w w1) := ((Below.refl _ _).alloc (Nat.le_refl _) _).trans hb1; have HO1 : Hid (Own w1 w.heap.size (.slice a1 zs.length cap1) zs) := ho1; clear ho1 hb1) | (go_at_call 12; refine (HH.out _ HB1.out).mono ?_; rintro e w2 ⟨rfl, hb2⟩) | fail)
        go_ret
        exact ⟨_, rfl, HO1.out.below hb2, HB1.out.trans (hb2.mono HB1.out.size)⟩
      · have hon : hasB zs n = !on := by cases on <;> cases h : hasB zs n <;> simp_all
        rw [hon] at HH
        have HP := power_any n
        have hlq : (n : Int) / 8 < (zs.length : Int) := by omega
        have hlt8 : n / 8 < zs.length := by omega
        have hbl := byt_lt hz n
        have hbc := byt_cast hz n
        have HO : Hid (∀ W : World, ∀ g n' cap', Own W w.heap.size (.slice (some ⟨g, 0, none⟩) n' cap') zs → Own (W.setCell ⟨g, n / 8, none⟩ (.int .u8 ((if on then zs.getD (n / 8) 0 + (pw n : Nat) else zs.getD (n / 8) 0 - (pw n : Nat)) % 256))) w.heap.size (.slice (some ⟨g, 0, none⟩) n' cap') (setB zs n on)) := by
          intro W g n' cap' h
          have := h.stored (n / 8) ((if on then zs.getD (n / 8) 0 + (pw n : Nat) else zs.getD (n / 8) 0 - (pw n : Nat)) % 256)
          have e : (if on then zs.getD (n / 8) 0 + (pw n : Nat) else zs.getD (n / 8) 0 - (pw n : Nat)) % 256 = ((bitB (byt zs n) (7 - n % 8) on : Nat) : Int) := by
            have hbd := bitB_lt hbl (k := 7 - n % 8) (by omega) on
            rw [← hbc]
            cases on
            · have := sub_bit (byt zs n) (7 - n % 8) hbl (by omega) hon
              simp only [Bool.false_eq_true, if_false]
              unfold pw
              omega
            · have := add_bit (byt zs n) (7 - n % 8) hbl (by omega) hon
              simp only [if_true]
              unfold pw
              omega
          rw [e] at this
          rw [e]
          exact this
        have HZL : Hid (∀ v W, Own W w.heap.size v zs → ∃ g cap, v = .slice (some ⟨g, 0, none⟩) zs.length cap ∧ zs.length ≤ cap ∧ w.heap.size ≤ g ∧ g < W.heap.size ∧ W.cell? ⟨g, n / 8, none⟩ = some (.int .u8 (zs.getD (n / 8) 0)) ∧ W.frozen? ⟨g, n / 8, none⟩ = false) := by
          intro v W h
          obtain ⟨g, cap, h1, h2, h3, h4, h5, h6⟩ := h.pos hz (by omega)
          exact ⟨g, cap, h1, h2, h3, h4, h5 _ (by omega), h6 _⟩
        clear hbl hbc hh hon
        generalize zs.getD (n / 8) 0 = z at *
        generalize pw n = p at *
        cases on
        · simp only [Bool.false_eq_true, if_false, Bool.not_false] at HO HH
          go_enter Try.func22, Try.ntmps22
          go_wp2_with (first | (refine wp_app_new rfl _ _ rfl w.heap.size zs.length cap a zs rfl rfl (heap_new _ _) rfl (HBV.out _ ((Below.refl _ _).alloc (Nat.le_refl _) _)) hn w.heap.size (by simp) (Nat.le_refl _) hnil ?_; intro v1 w1 ho1 hb1; obtain ⟨g, cap1, e1, hgc, hgb, hgs, hc1, hf1⟩ := HZL.out _ _ ho1; subst e1; have HB1 : Hid (Below w.heap.size w w1) := ((Below.refl _ _).alloc (Nat.le_refl _) _).trans hb1; have HO1 : Hid (Own w1 w.heap.size (.slice (some ⟨g, 0, none⟩) zs.length cap1) zs) := ho1; clear ho1 hb1 hc1 hf1) | (go_at_call 12; refine (HH.out _ HB1.out).mono ?_; rintro e w2 ⟨rfl, hb2⟩; obtain ⟨g', cap', e', _, _, _, hc1, hf1⟩ := HZL.out _ _ (HO1.out.below hb2); obtain rfl : g = g' := (by simp at e'; exact e'.1); clear e' HZL HBV) | fail)
          go_region_with (first | (go_at_call 28; refine (HP _).mono ?_; rintro e w3 ⟨rfl, hw3⟩; obtain rfl := hw3.symm))
          all_goals (
            go_wp2
            go_ret
            refine ⟨_, rfl, HO.out _ _ _ _ ((HO1.out.below hb2).below ?_), ?_⟩
            · first | exact Below.refl _ _ | exact (Below.refl _ _).drew
            · first | exact (HB1.out.trans (hb2.mono HB1.out.size)).setCell hgb _ | exact (HB1.out.trans (hb2.mono HB1.out.size)).drew.setCell hgb _)
        · simp only [if_true, Bool.not_true] at HO HH
          go_enter Try.func22, Try.ntmps22
          go_wp2_with (first | (refine wp_app_new rfl _ _ rfl w.heap.size zs.length cap a zs rfl rfl (heap_new _ _) rfl (HBV.out _ ((Below.refl _ _).alloc (Nat.le_refl _) _)) hn w.heap.size (by simp) (Nat.le_refl _) hnil ?_; intro v1 w1 ho1 hb1; obtain ⟨g, cap1, e1, hgc, hgb, hgs, hc1, hf1⟩ := HZL.out _ _ ho1; subst e1; have HB1 : Hid (Below w.heap.size w w1) := ((Below.refl _ _).alloc (Nat.le_refl _) _).trans hb1; have HO1 : Hid (Own w1 w.heap.size (.slice (some ⟨g, 0, none⟩) zs.length cap1) zs) := ho1; clear ho1 hb1 hc1 hf1) | (go_at_call 12; refine (HH.out _ HB1.out).mono ?_; rintro e w2 ⟨rfl, hb2⟩; obtain ⟨g', cap', e', _, _, _, hc1, hf1⟩ := HZL.out _ _ (HO1.out.below hb2); obtain rfl : g = g' := (by simp at e'; exact e'.1); clear e' HZL HBV) | fail)
          go_region_with (first | (go_at_call 28; refine (HP _).mono ?_; rintro e w3 ⟨rfl, hw3⟩; obtain rfl := hw3.symm))
          all_goals (
            go_wp2
            go_ret
            refine ⟨_, rfl, HO.out _ _ _ _ ((HO1.out.below hb2).below ?_), ?_⟩
            · first | exact Below.refl _ _ | exact (Below.refl _ _).drew
            · first | exact (HB1.out.trans (hb2.mono HB1.out.size)).setCell hgb _ | exact (HB1.out.trans (hb2.mono HB1.out.size)).drew.setCell hgb _)
    · have hdl : decide ((zs.length : Int) ≤ (n : Int) / 8) = true := by simp; omega
      rw [withI_out on (by omega)]
      go_enter Try.func22, Try.ntmps22
      go_wp2_with (first | (refine wp_app_new rfl _ _ rfl w.heap.size zs.length cap a zs rfl rfl (heap_new _ _) rfl (HBV.out _ ((Below.refl _ _).alloc (Nat.le_refl _) _)) hn w.heap.size (by simp) (Nat.le_refl _) hnil ?_; intro v1 w1 ho1 hb1; obtain ⟨a1, cap1, e1, _⟩ := ho1.view hz; subst e1) | fail)
      go_ret
      exact ⟨_, rfl, ho1, ((Below.refl _ _).alloc (Nat.le_refl _) _).trans hb1⟩
end Go.Proofs.Ytfbmpnhoohfcgaa
