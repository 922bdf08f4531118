/- Split. -/
import Derived.Test.YtnnndkpmlpbpcaaCh
import Derived.Maps.AppendAt
namespace Go.Proofs.Ytnnndkpmlpbpcaa
open Go.RowKit
set_option linter.unusedVariables false
set_option maxRecDepth 20000

set_option maxHeartbeats 400000 in
theorem bitis_any (bit at_ : Int) (w : World) : Calls Try.prog 54 #[.int .i64 bit, .int .i64 at_] w fun e w' => e = .returned (.func (.func 65) #[] #[.pointer (some ⟨w.heap.size + 1, 0, none⟩), .pointer (some ⟨w.heap.size, 0, none⟩)]) ∧ w' = (w.alloc (.cells #[.int .i64 bit] 3)).alloc (.cells #[.int .i64 at_] 3) := by
  go_enter Try.func54, Try.ntmps54
  go_wp2
  go_ret
  exact ⟨rfl, rfl⟩
set_option maxHeartbeats 4000000 in
theorem split_any (a : Option Addr) (cap : Nat) (ps : List PR) (at_ : Int) (w : World) (hp : PV w a ps) (hl : ps.length ≤ 1000000) (hL : ∀ p ∈ ps, Lp p) (hcl : ps.length ≤ cap) (hcap : cap ≤ 9223372036854775807) (ha : -9223372036854775808 ≤ at_) (ha2 : at_ ≤ 9223372036854775807) :
    Calls Try.prog 28 #[.slice a ps.length cap, .int .i64 at_] w fun e w' => ∃ v1 v2, e = .returned (.tuple #[v1, v2]) ∧ OwnQ w' w.heap.size v1 (ps.filter (bitB 0 at_)) ∧ OwnQ w' w.heap.size v2 (ps.filter (bitB 1 at_)) ∧ Below w.heap.size w w' := by
  have TH : Hid (∀ bit W, Below w.heap.size w W → Calls Try.prog 50 #[.slice a ps.length cap, .func (.func 65) #[] #[.pointer (some ⟨W.heap.size + 1, 0, none⟩), .pointer (some ⟨W.heap.size, 0, none⟩)]] ((W.alloc (.cells #[.int .i64 bit] 3)).alloc (.cells #[.int .i64 at_] 3)) fun e w' => ∃ v, e = .returned v ∧ OwnQ w' W.heap.size v (ps.filter (bitB bit at_)) ∧ Below W.heap.size W w') := fun bit W hW => by
    refine (those_any 65 _ _ a cap ps _ ((hp.below hW).below (two_blocks _ _ _)) (asks65 (bit := bit) (at_ := at_) ha ha2 (by go_simp) (by go_simp) (by simp) (by simp; omega)) hl hL hcl hcap).mono ?_
    rintro e w' ⟨v, rfl, h1, h2⟩
    exact ⟨v, rfl, h1.mono (by simp; omega), bt (two_blocks _ _ _) h2⟩
  have BI : Hid (∀ bit W, Calls Try.prog 54 #[.int .i64 bit, .int .i64 at_] W fun e w' => e = .returned (.func (.func 65) #[] #[.pointer (some ⟨W.heap.size + 1, 0, none⟩), .pointer (some ⟨W.heap.size, 0, none⟩)]) ∧ w' = (W.alloc (.cells #[.int .i64 bit] 3)).alloc (.cells #[.int .i64 at_] 3)) := fun bit W => bitis_any bit at_ W
  have B0 := BI.out 0 w
  have T0 := TH.out 0 w (Below.refl _ _)
  clear hp
  go_enter Try.func28, Try.ntmps28
  go_wp2_with (first | (go_at_call 54; refine B0.mono ?_; rintro e w1 ⟨rfl, hw1⟩; obtain rfl := hw1.symm; clear B0) | (go_at_call 50; refine T0.mono ?_; rintro e w2 ⟨v1, rfl, ho1, hb1⟩; clear T0) | (go_at_call 54; refine (BI.out 1 w2).mono ?_; rintro e w3 ⟨rfl, hw3⟩; obtain rfl := hw3.symm) | (go_at_call 50; refine (TH.out 1 w2 hb1).mono ?_; rintro e w4 ⟨v2, rfl, ho2, hb2⟩))
  go_ret2
  exact ⟨v1, v2, rfl, ho1.below hb2, ho2.mono hb1.size, bt hb1 hb2⟩
theorem filt_hit (q : PR → Bool) (ps : List PR) (j : Nat) (hlt : j < ps.length) (h : q (ps.getD j default) = true) : (ps.take (j + 1)).filter q = (ps.take j).filter q ++ [((ps.getD j default).1, (ps.getD j default).2)] := by
  rw [take_snocP ps j hlt]
  generalize ps.getD j default = p at *
  rw [List.filter_append]; simp [h]
theorem filt_miss (q : PR → Bool) (ps : List PR) (j : Nat) (hlt : j < ps.length) (h : q (ps.getD j default) = false) : (ps.take (j + 1)).filter q = (ps.take j).filter q := by
  rw [take_snocP ps j hlt]
  generalize ps.getD j default = p at *
  rw [List.filter_append]; simp [h]
theorem bit_cases (at_ : Int) (q : PR) : bitB 1 at_ q = !bitB 0 at_ q := by
  have h : M.bitS (M.ofS q.1) at_ < 2 := by
    unfold M.bitS
    split
    · omega
    · exact M.bitN_lt _ _
  unfold bitB
  rcases Nat.lt_or_ge (M.bitS (M.ofS q.1) at_) 1 with h1 | h1
  · have e : M.bitS (M.ofS q.1) at_ = 0 := by omega
    rw [e]; rfl
  · have e : M.bitS (M.ofS q.1) at_ = 1 := by omega
    rw [e]; rfl
theorem wp_app_pv_at {ops : Array Oper} {rest : List Oper} {o : Oper} {a : Act} {Q : Exit → Act → World → Prop} {w : World} (hgd : o.guard = none) (s x : Operand)
    (ho : o.op = .call { callee := .builtin .append, args := #[s, x], argTypes := #[22, 22] }) (base : Nat) (v : Value) (zs ys : List PR) (hs : a.eval s = v) (hown : OwnQ w base v zs)
    (ad : Addr) (cap : Nat) (hx : a.eval x = .slice (some ad) ys.length cap) (hv : PV w (some ad) ys) (hlen : zs.length + ys.length ≤ 1000000) (hbase : base ≤ w.heap.size)
    (h : ∀ v' w', OwnQ w' base v' (zs ++ ys) → w.grownBy w' v.ownBlock → (v'.ownBlock = v.ownBlock ∨ v'.ownBlock = some w.heap.size) → Below base w w' → wpList Try.prog ops Q rest (a.put o.dst v') w') : wpList Try.prog ops Q (o :: rest) a w := by
  obtain ⟨i0, hi, hz0, hz1, hz2⟩ := info_parts Try.info45
  refine wpList_append_own_at w hgd s x 22 ho base 45 i0 (.agg #[.string ByteArray.empty, .string ByteArray.empty]) 2 32 Try.underlying22 hi hz0 hz1 hz2 rfl (by decide) v zs.length (flatP zs) hs hown ad ys.length cap (flatP ys) hx (flatP_len ys) hv.cells (flatP_one ys) (by unfold maxLen; omega) (by omega) hbase ?_
  intro v' w' h1 h2 _ h4
  have ho' : OwnQ w' base v' (zs ++ ys) := by
    unfold OwnQ
    rw [List.length_append, flatP_append]
    exact h1
  exact h v' w' ho' h2 h4 ((Below.refl base w).grown h2 hbase (fun k hk => (World.ownsRow.lt hown k hk).1))
/-- Two rows of the call's own, in two blocks. -/
def TwoQ (w : World) (base : Nat) (v1 v2 : Value) (xs ys : List PR) : Prop := OwnQ w base v1 xs ∧ OwnQ w base v2 ys ∧ ∀ g, v1.ownBlock = some g → v2.ownBlock ≠ some g
theorem TwoQ.below {w w' : World} {base : Nat} {v1 v2 : Value} {xs ys : List PR} (h : TwoQ w base v1 v2 xs ys) (hb : Below w.heap.size w w') : TwoQ w' base v1 v2 xs ys := ⟨h.1.below hb, h.2.1.below hb, h.2.2⟩
theorem TwoQ.left {w w' : World} {base : Nat} {v1 v2 v' : Value} {xs ys xs' : List PR} (h : TwoQ w base v1 v2 xs ys) (h1 : OwnQ w' base v' xs') (h2 : w.grownBy w' v1.ownBlock) (h3 : v'.ownBlock = v1.ownBlock ∨ v'.ownBlock = some w.heap.size) : TwoQ w' base v' v2 xs' ys := by
  refine ⟨h1, ?_, fun g hg hg2 => ?_⟩
  · refine World.ownsRow.kept h.2.1 h2 ?_
    cases hv : v2.ownBlock with
    | none => exact .inl rfl
    | some k => exact .inr (fun e => h.2.2 k e.symm hv)
  · have hl := (World.ownsRow.lt h.2.1 g hg2).2
    rcases h3 with e | e
    · exact h.2.2 g (e ▸ hg) hg2
    · rw [e] at hg
      cases hg
      omega
theorem TwoQ.swap {w : World} {base : Nat} {v1 v2 : Value} {xs ys : List PR} (h : TwoQ w base v1 v2 xs ys) : TwoQ w base v2 v1 ys xs := ⟨h.2.1, h.1, fun g h2 h1 => h.2.2 g h1 h2⟩
set_option maxHeartbeats 4000000 in
theorem rsplit_any (a : Option Addr) (cap : Nat) (ps : List PR) (at_ : Int) (w : World) (hp : PV w a ps) (hl : ps.length ≤ 1000000) (hL : ∀ p ∈ ps, Lp p) (ha : -9223372036854775808 ≤ at_) (ha2 : at_ ≤ 9223372036854775807) :
    Calls Try.prog 29 #[.slice a ps.length cap, .int .i64 at_] w fun e w' => ∃ v1 v2, e = .returned (.tuple #[v1, v2]) ∧ OwnQ w' w.heap.size v1 (ps.filter (bitB 0 at_)) ∧ OwnQ w' w.heap.size v2 (ps.filter (bitB 1 at_)) ∧ Below w.heap.size w w' := by
  go_enter Try.func29, Try.ntmps29
  go_wp2
  go_loopw [6, 7, 8] (fun v1 v2 i wr => ∃ j : Nat, j ≤ ps.length ∧ i = .int .i64 j ∧ Hid (TwoQ wr w.heap.size v1 v2 ((ps.take j).filter (bitB 0 at_)) ((ps.take j).filter (bitB 1 at_))) ∧ Hid (Below w.heap.size w wr)) (fun _ _ i _ => ps.length - (intOf i).toNat)
  case atStart => exact ⟨0, Nat.zero_le _, rfl, ⟨OwnQ.nil _ _, OwnQ.nil _ _, fun g h => by cases h⟩, Below.refl _ _⟩
  case round =>
    obtain ⟨j, hj, rfl, HT, HB⟩ := hrel
    by_cases hlt : j < ps.length
    · obtain h0 | ⟨b, off, rfl, hbl, hc⟩ := hp.below HB.out
      · subst h0; simp at hlt
      obtain ⟨c0, c1⟩ := hc j hlt
      have hq := Lp.get hL j hlt
      have HS : (ps.getD j default).1.size ≤ maxLen := by unfold maxLen; have := hq.1; omega
      have HO := fun W => M.rof_any (ps.getD j default).1 W HS
      have HLT : M.ofS (ps.getD j default).1 < 4294967296 := M.fin_lt _
      have HBt := fun W => M.rbit_any (M.ofS (ps.getD j default).1) at_ W HLT ha ha2
      have hx0 := take_snocP ps j hlt
      have hb01 := bit_cases at_ (ps.getD j default)
      have hbd : bitB 0 at_ (ps.getD j default) = decide (((M.bitS (M.ofS (ps.getD j default).1) at_ : Nat) : Int) = 0) := rfl
      have hl0 : ((ps.take j).filter (bitB 0 at_)).length ≤ j := Nat.le_trans (List.length_filter_le _ _) (by simp; omega)
      have hl1 : ((ps.take j).filter (bitB 1 at_)).length ≤ j := Nat.le_trans (List.length_filter_le _ _) (by simp; omega)
      clear hc
      cases hbit : bitB 0 at_ (ps.getD j default)
      · have H0 : Hid ((ps.take (j + 1)).filter (bitB 0 at_) = (ps.take j).filter (bitB 0 at_)) := filt_miss _ ps j hlt hbit
        have H1 : Hid ((ps.take (j + 1)).filter (bitB 1 at_) = (ps.take j).filter (bitB 1 at_) ++ [((ps.getD j default).1, (ps.getD j default).2)]) := filt_hit _ ps j hlt (by rw [hb01, hbit]; rfl)
        rw [hbit] at hbd
        clear hx0 hb01 hbit
        have hne := of_decide_eq_false hbd.symm
        generalize (ps.take j).filter (bitB 0 at_) = xs at *
        generalize (ps.take j).filter (bitB 1 at_) = ys at *
        generalize M.bitS (M.ofS (ps.getD j default).1) at_ = x at *
        generalize M.ofS (ps.getD j default).1 = y at *
        generalize (ps.getD j default).1 = sk at *
        generalize (ps.getD j default).2 = sv at *
        clear hbd hq HS HLT
        go_wp2_with (first | (go_at_call 56; refine (HO _).mono ?_; rintro e w1 ⟨rfl, hw⟩; obtain rfl := hw.symm) | (go_at_call 55; refine (HBt _).mono ?_; rintro e w1 ⟨rfl, hw⟩; obtain rfl := hw.symm) | (at_builtin; refine wp_app_pv_at rfl _ _ rfl w.heap.size _ ys [(sk, sv)] rfl (HT.out.2.1.below (one_block _ _)) ⟨_, 0, none⟩ 1 rfl (pv_lit _ (sk, sv)) (by simp; omega) (by have := HB.out.size; simp; omega) ?_; intro v' w2 ho2 hg2 hd2 hb2))
        go_roundw
        case rel => exact ⟨j + 1, by omega, by go_num, by rw [H0.out, H1.out]; exact ((HT.out.below (one_block _ _)).swap.left ho2 hg2 hd2).swap, (HB.out.alloc HB.out.size _).trans hb2⟩
        case measure => simp [intOf]; omega
      · have H0 : Hid ((ps.take (j + 1)).filter (bitB 0 at_) = (ps.take j).filter (bitB 0 at_) ++ [((ps.getD j default).1, (ps.getD j default).2)]) := filt_hit _ ps j hlt hbit
        have H1 : Hid ((ps.take (j + 1)).filter (bitB 1 at_) = (ps.take j).filter (bitB 1 at_)) := filt_miss _ ps j hlt (by rw [hb01, hbit]; rfl)
        rw [hbit] at hbd
        clear hx0 hb01 hbit
        have hne := of_decide_eq_true hbd.symm
        generalize (ps.take j).filter (bitB 0 at_) = xs at *
        generalize (ps.take j).filter (bitB 1 at_) = ys at *
        generalize M.bitS (M.ofS (ps.getD j default).1) at_ = x at *
        generalize M.ofS (ps.getD j default).1 = y at *
        generalize (ps.getD j default).1 = sk at *
        generalize (ps.getD j default).2 = sv at *
        clear hbd hq HS HLT
        go_wp2_with (first | (go_at_call 56; refine (HO _).mono ?_; rintro e w1 ⟨rfl, hw⟩; obtain rfl := hw.symm) | (go_at_call 55; refine (HBt _).mono ?_; rintro e w1 ⟨rfl, hw⟩; obtain rfl := hw.symm) | (at_builtin; refine wp_app_pv_at rfl _ _ rfl w.heap.size _ xs [(sk, sv)] rfl (HT.out.1.below (one_block _ _)) ⟨_, 0, none⟩ 1 rfl (pv_lit _ (sk, sv)) (by simp; omega) (by have := HB.out.size; simp; omega) ?_; intro v' w2 ho2 hg2 hd2 hb2))
        go_roundw
        case rel => exact ⟨j + 1, by omega, by go_num, by rw [H0.out, H1.out]; exact (HT.out.below (one_block _ _)).left ho2 hg2 hd2, (HB.out.alloc HB.out.size _).trans hb2⟩
        case measure => simp [intOf]; omega
    · have e1 : j = ps.length := by omega
      subst e1
      have hxx : ¬ ((ps.length : Int) < (ps.length : Int)) := by omega
      have h9 := HT.out
      rw [List.take_length] at h9
      have H9 : Hid (TwoQ _ _ _ _ _ _) := h9
      clear h9
      go_wp2
      go_ret2
      exact ⟨_, _, rfl, H9.out.1, H9.out.2.1, HB.out⟩
end Go.Proofs.Ytnnndkpmlpbpcaa
