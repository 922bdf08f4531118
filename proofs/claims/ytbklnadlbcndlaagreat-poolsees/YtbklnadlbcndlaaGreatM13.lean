import Derived.Test.YtbklnadlbcndlaaGreatM11
import Derived.Laws.CopyOwn
import Derived.StillTailTactics
namespace Go.Proofs.YtbklnadlbcndlaaGreat.B
set_option maxRecDepth 20000
open Go.RowKit
theorem Own.row {w : World} {base g n : Nat} {zs : List Int} (h : Own w base (.slice (some ⟨g, 0, none⟩) n n) zs) : w.heap[g]? = some (.cells (zs.map (Value.int .u8)).toArray 5 (0, 0)) ∧ zs.length = n ∧ base ≤ g := by
  rcases h.2 with ⟨h', _⟩ | ⟨g', cap', cur, h', hb, hg, hnc, hcm, hcs, htake⟩
  · simp at h'
  · simp only [Value.slice.injEq, Option.some.injEq, Addr.mk.injEq, and_true] at h'
    obtain ⟨rfl, h2, rfl⟩ := h'
    refine ⟨?_, h2.symm, hb⟩
    have e : cur = (zs.map (Value.int .u8)).toArray := by
      rw [← htake, List.take_of_length_le (by rw [Array.length_toList]; omega)]
    rw [hg, e]
theorem Own.of_row {w : World} {base g : Nat} {zs : List Int} (hb : base ≤ g) (hm : zs.length ≤ maxLen) (h : w.heap[g]? = some (.cells (zs.map (Value.int .u8)).toArray 5 (0, 0))) : Own w base (.slice (some ⟨g, 0, none⟩) zs.length zs.length) zs := by
  refine ⟨by simp, .inr ⟨g, zs.length, _, rfl, hb, h, Nat.le_refl _, hm, by simp, ?_⟩⟩
  rw [List.take_of_length_le (by simp)]
def longL (a b : List Int) : List Int := a ++ List.replicate (max a.length b.length - a.length) 0
theorem longL_length (a b : List Int) : (longL a b).length = max a.length b.length := by simp [longL]; omega
theorem longL_all {a : List Int} (b : List Int) (ha : AllB a) : AllB (longL a b) := ha.append (AllB.zeros _)
theorem longL_byt (a b : List Int) (n : Nat) : byt (longL a b) n = byt a n := by
  unfold byt longL
  rw [List.getD_eq_getElem?_getD, List.getD_eq_getElem?_getD, List.getElem?_append]
  split
  · rfl
  · rename_i h
    rw [List.getElem?_eq_none (l := a) (by omega), List.getElem?_replicate]
    split <;> rfl
theorem longL_splice (a b : List Int) (N : Nat) (hN : max a.length b.length = N) : splice ((List.replicate N (0 : Int)).map (Value.int .u8)) 0 (a.map (Value.int .u8)) = (longL a b).map (Value.int .u8) := by
  subst hN
  unfold splice longL
  simp [List.drop_replicate]
theorem bv_cells {w : World} {a : Option Addr} {zs : List Int} (h : BV w a zs) (hp : 0 < zs.length) : ∃ x, a = some x ∧ ∀ j u, (zs.map (Value.int .u8))[j]? = some u → w.cell? (x.add j) = some u := by
  obtain ⟨b, off, rfl, _, _⟩ := h.at 0 hp
  refine ⟨_, rfl, fun j u hu => ?_⟩
  rw [List.getElem?_map] at hu
  obtain ⟨z, hz, rfl⟩ := Option.map_eq_some_iff.1 hu
  have hj := (List.getElem?_eq_some_iff.1 hz).1
  obtain ⟨b2, off2, e, _, hc⟩ := h.at j hj
  obtain ⟨rfl, rfl⟩ : b = b2 ∧ off = off2 := by simpa using e
  rw [List.getD_eq_getElem?_getD, hz] at hc
  rw [add_plain]
  exact hc
theorem wp_copy {ops : Array Oper} {rest : List Oper} {o : Oper} {a : Act} {w : World} {Q : Exit → Act → World → Prop} (hgd : o.guard = none) (d s : Operand)
    (ho : o.op = .call { callee := .builtin .copy, args := #[d, s], argTypes := #[29, 29] }) (g dLen dCap : Nat) (sp : Option Addr) (sLen sCap : Nat) (hd : a.eval d = .slice (some ⟨g, 0, none⟩) dLen dCap) (hs : a.eval s = .slice sp sLen sCap)
    (cur cs : List Value) (hg : w.heap[g]? = some (.cells cur.toArray 5 (0, 0))) (hn : cs.length = Nat.min sLen dLen) (hpos : 0 < cs.length → ∃ ad, sp = some ad ∧ ∀ j v, cs[j]? = some v → w.cell? (ad.add j) = some v)
    (hfit : cs.length ≤ cur.length) (h1 : ∀ v ∈ cs, v.oneCell' = true) (B : Nat) (w0 : World) (hb : Below B w0 w) (hBg : B ≤ g)
    (h : ∀ w', Hid (w'.heap[g]? = some (.cells (splice cur 0 cs).toArray 5 (0, 0))) → Below B w0 w' → wpList Tryz.prog ops Q rest (a.put o.dst (goInt cs.length)) w') : wpList Tryz.prog ops Q (o :: rest) a w :=
  wpList_copy_splice hgd d s 29 29 ho 5 Tryz.underlying29 (by kernel_rfl) _ _ dLen dCap sLen sCap hd hs g 0 cur 5 hg cs hn (fun hp => ⟨rfl, hpos hp⟩) (by omega) h1 B w0 hb hBg h
set_option maxHeartbeats 800000 in
theorem longer_any (a b : Option Addr) (c1 c2 : Nat) (xs ys : List Int) (w : World) (ha : BV w a xs) (hx : xs.length ≤ 1000000) (hy : ys.length ≤ 1000000) :
    Calls Tryz.prog 205 #[.slice a xs.length c1, .slice b ys.length c2] w fun e w' => ∃ g, e = .returned (.slice (some ⟨g, 0, none⟩) (max xs.length ys.length) (max xs.length ys.length)) ∧ Own w' w.heap.size (.slice (some ⟨g, 0, none⟩) (max xs.length ys.length) (max xs.length ys.length)) (longL xs ys) ∧ Below w.heap.size w w' := by
  obtain ⟨N, hN⟩ : ∃ N, max xs.length ys.length = N := ⟨_, rfl⟩
  have hll := longL_length xs ys
  have HS : Hid (splice ((List.replicate N (0 : Int)).map (Value.int .u8)) 0 (xs.map (Value.int .u8)) = (longL xs ys).map (Value.int .u8)) := longL_splice xs ys N hN
  have HP : Hid (∀ W, Below w.heap.size w W → 0 < xs.length → ∃ x, a = some x ∧ ∀ j u, (xs.map (Value.int .u8))[j]? = some u → W.cell? (x.add j) = some u) := fun W hW hp => bv_cells (ha.below hW) hp
  rw [hN] at hll ⊢
  have hN1 : N ≤ 1000000 := by omega
  have hxN : xs.length ≤ N := by omega
  have hmin : Hid (xs.length = Nat.min xs.length N) := by have : xs.length = Nat.min xs.length N := (by simp [Nat.min_def]; omega); exact this
  obtain ⟨L, hL⟩ : ∃ L, longL xs ys = L := ⟨_, rfl⟩
  rw [hL] at HS hll ⊢
  have hmx : xs.length = N ∧ ys.length ≤ N ∨ ys.length = N ∧ xs.length < N := by omega
  have hu8 := u8row xs
  have hif : (if (xs.length : Int) < ys.length then (ys.length : Int) else xs.length) = N := by split <;> omega
  have HXL : Hid ((xs.map (Value.int .u8)).length = xs.length) := by simp [Hid]
  obtain ⟨X, hX⟩ : ∃ X, xs.map (Value.int .u8) = X := ⟨_, rfl⟩
  rw [hX] at HS HP hu8 HXL
  obtain ⟨Z, hZ⟩ : ∃ Z, (List.replicate N (0 : Int)).map (Value.int .u8) = Z := ⟨_, rfl⟩
  have HZL : Hid (Z.length = N) := by have : Z.length = N := (by rw [← hZ]; simp); exact this
  rw [hZ] at HS
  have HZ : Hid ((List.replicate N (0 : Int)).map (Value.int .u8) = Z) := hZ
  generalize xs.length = m at *
  generalize ys.length = m2 at *
  clear ha hX hN hZ hL
  rcases hmx with ⟨rfl, h2⟩ | ⟨rfl, h2⟩
  · go_enter Tryz.func205, Tryz.ntmps205
    go_wp2_with (first
      | (refine wp_make rfl _ _ rfl m hN1 (by simp [Act.eval]; try omega) (by simp [Act.eval]; try omega) ?_; intro w1 ho1 hb1 hs1; have hr1 := ho1.row.1; rw [HZ.out] at hr1; have HR1 : Hid (w1.heap[w.heap.size]? = some (.cells Z.toArray 5 (0, 0))) := hr1; clear hr1 ho1)
      | (refine wp_copy rfl _ _ rfl w.heap.size m m a m c1 rfl rfl Z X HR1.out (by rw [HXL.out]; exact hmin.out) (fun hp => HP.out _ hb1 (by rw [HXL.out] at hp; exact hp)) (by rw [HXL.out, HZL.out]; omega) hu8 w.heap.size w hb1 (Nat.le_refl _) ?_; intro w2 hg2 hb2)
      | fail)
    all_goals (
      go_ret
      refine ⟨_, rfl, ?_, hb2⟩
      have := hg2.out
      rw [HS.out] at this
      have := Own.of_row (base := w.heap.size) (Nat.le_refl _) (by unfold maxLen; omega) this
      rw [hll] at this
      exact this)
  · go_enter Tryz.func205, Tryz.ntmps205
    go_wp2_with (first
      | (refine wp_make rfl _ _ rfl m2 hN1 (by simp [Act.eval]; try omega) (by simp [Act.eval]; try omega) ?_; intro w1 ho1 hb1 hs1; have hr1 := ho1.row.1; rw [HZ.out] at hr1; have HR1 : Hid (w1.heap[w.heap.size]? = some (.cells Z.toArray 5 (0, 0))) := hr1; clear hr1 ho1)
      | (refine wp_copy rfl _ _ rfl w.heap.size m2 m2 a m c1 rfl rfl Z X HR1.out (by rw [HXL.out]; exact hmin.out) (fun hp => HP.out _ hb1 (by rw [HXL.out] at hp; exact hp)) (by rw [HXL.out, HZL.out]; omega) hu8 w.heap.size w hb1 (Nat.le_refl _) ?_; intro w2 hg2 hb2)
      | fail)
    all_goals (
      go_ret
      refine ⟨_, rfl, ?_, hb2⟩
      have := hg2.out
      rw [HS.out] at this
      have := Own.of_row (base := w.heap.size) (Nat.le_refl _) (by unfold maxLen; omega) this
      rw [hll] at this
      exact this)
theorem byt_setk (zs : List Int) (k m x : Nat) (hk : k < zs.length) : byt (zs.set k (x : Int)) m = if k = m / 8 then x else byt zs m := by
  unfold byt
  rw [List.getD_eq_getElem?_getD, List.getElem?_set]
  by_cases e : k = m / 8
  · rw [if_pos e, if_pos e, if_pos hk]; simp
  · rw [if_neg e, if_neg e, List.getD_eq_getElem?_getD]
def InvOr (a b : List Int) (k : Nat) (zs : List Int) : Prop := zs.length = max a.length b.length ∧ AllB zs ∧ ∀ n, hasB zs n = if n / 8 < k then (hasB a n || hasB b n) else hasB a n
def InvLess (a b : List Int) (k : Nat) (zs : List Int) : Prop := zs.length = max a.length b.length ∧ AllB zs ∧ ∀ n, hasB zs n = if n / 8 < k then (hasB a n && !hasB b n) else hasB a n
theorem InvOr.done {a b zs : List Int} (h : InvOr a b b.length zs) : IsJoin a b zs := by
  refine ⟨h.1, h.2.1, fun n => ?_⟩
  rw [h.2.2 n]
  split
  · rfl
  · rw [hasB_out (zs := b) (by omega)]; simp
theorem InvLess.done {a b zs : List Int} (h : InvLess a b b.length zs) : IsLess a b zs := by
  refine ⟨h.1, h.2.1, fun n => ?_⟩
  rw [h.2.2 n]
  split
  · rfl
  · rw [hasB_out (zs := b) (by omega)]; simp
theorem InvOr.step {a b zs : List Int} {k : Nat} (h : InvOr a b k zs) (hb : AllB b) (hk : k < b.length) : InvOr a b (k + 1) (zs.set k (bits .or .u8 (zs.getD k 0) (b.getD k 0))) := by
  have h1 := h.2.1.getD k
  have h2 := hb.getD k
  obtain ⟨z, hz, e, hbit⟩ := or_bytes (zs.getD k 0).toNat (b.getD k 0).toNat (by omega) (by omega)
  rw [Int.toNat_of_nonneg h1.1, Int.toNat_of_nonneg h2.1] at e
  rw [e]
  have hkl : k < zs.length := by rw [h.1]; omega
  refine ⟨by rw [List.length_set]; exact h.1, h.2.1.set _ (by omega) (by omega), fun n => ?_⟩
  have hn := h.2.2 n
  unfold hasB at hn ⊢
  rw [byt_setk _ _ _ _ hkl]
  by_cases e1 : k = n / 8
  · rw [if_pos e1, if_pos (by omega), hbit _ (by omega)]
    rw [if_neg (by omega)] at hn
    rw [← hn]
    unfold byt
    rw [← e1]
  · rw [if_neg e1, hn]
    by_cases e2 : n / 8 < k
    · rw [if_pos e2, if_pos (by omega)]
    · rw [if_neg e2, if_neg (by omega)]
theorem InvLess.step {a b zs : List Int} {k : Nat} (h : InvLess a b k zs) (hb : AllB b) (hk : k < b.length) : InvLess a b (k + 1) (zs.set k (bits .andNot .u8 (zs.getD k 0) (b.getD k 0))) := by
  have h1 := h.2.1.getD k
  have h2 := hb.getD k
  obtain ⟨z, hz, e, hbit⟩ := less_bytes (zs.getD k 0).toNat (b.getD k 0).toNat (by omega) (by omega)
  rw [Int.toNat_of_nonneg h1.1, Int.toNat_of_nonneg h2.1] at e
  rw [e]
  have hkl : k < zs.length := by rw [h.1]; omega
  refine ⟨by rw [List.length_set]; exact h.1, h.2.1.set _ (by omega) (by omega), fun n => ?_⟩
  have hn := h.2.2 n
  unfold hasB at hn ⊢
  rw [byt_setk _ _ _ _ hkl]
  by_cases e1 : k = n / 8
  · rw [if_pos e1, if_pos (by omega), hbit _ (by omega)]
    rw [if_neg (by omega)] at hn
    rw [← hn]
    unfold byt
    rw [← e1]
  · rw [if_neg e1, hn]
    by_cases e2 : n / 8 < k
    · rw [if_pos e2, if_pos (by omega)]
    · rw [if_neg e2, if_neg (by omega)]
theorem Own.cells1 {w : World} {base g n cap : Nat} {zs : List Int} (h : Own w base (.slice (some ⟨g, 0, none⟩) n cap) zs) (hz : AllB zs) (k : Nat) (hk : k < zs.length) : w.cell? ⟨g, k, none⟩ = some (.int .u8 (zs.getD k 0)) ∧ w.frozen? ⟨g, k, none⟩ = false := by
  obtain ⟨g', cap', e, _, _, _, h1, h2⟩ := h.pos hz (by omega)
  obtain ⟨rfl, _⟩ : g = g' ∧ True := by simp at e; exact ⟨e.1, trivial⟩
  exact ⟨h1 k hk, h2 k⟩
set_option maxHeartbeats 1600000 in
theorem join_any (a b : Option Addr) (c1 c2 : Nat) (xs ys : List Int) (w : World) (ha : BV w a xs) (hb : BV w b ys) (hx : xs.length ≤ 1000000) (hy : ys.length ≤ 1000000) :
    Calls Tryz.prog 161 #[.slice a xs.length c1, .slice b ys.length c2] w fun e w' => ∃ v zs, e = .returned v ∧ Own w' w.heap.size v zs ∧ IsJoin xs ys zs ∧ Below w.heap.size w w' := by
  have HL : Hid (Calls Tryz.prog 205 #[.slice a xs.length c1, .slice b ys.length c2] w fun e w' => ∃ g, e = .returned (.slice (some ⟨g, 0, none⟩) (max xs.length ys.length) (max xs.length ys.length)) ∧ Own w' w.heap.size (.slice (some ⟨g, 0, none⟩) (max xs.length ys.length) (max xs.length ys.length)) (longL xs ys) ∧ Below w.heap.size w w') := longer_any a b c1 c2 xs ys w ha hx hy
  have HS : Hid (InvOr xs ys 0 (longL xs ys)) := ⟨longL_length _ _, longL_all _ ha.1, fun n => by rw [if_neg (by omega)]; unfold hasB; rw [longL_byt]⟩
  have HB : Hid (∀ W, Below w.heap.size w W → BV W b ys) := fun W hW => hb.below hW
  have HE : Hid (∀ zs, InvOr xs ys ys.length zs → IsJoin xs ys zs) := fun zs h => h.done
  have HT : Hid (∀ k zs, k < ys.length → InvOr xs ys k zs → InvOr xs ys (k + 1) (zs.set k (bits .or .u8 (zs.getD k 0) (ys.getD k 0)))) := fun k zs hk h => h.step hb.1 hk
  have hmax : ys.length ≤ max xs.length ys.length := by omega
  obtain ⟨N, hN⟩ : ∃ N, max xs.length ys.length = N := ⟨_, rfl⟩
  rw [hN] at HL hmax
  have HIN : Hid (∀ k zs, InvOr xs ys k zs → zs.length = N ∧ AllB zs) := fun k zs h => ⟨h.1.trans hN, h.2.1⟩
  have hN1 : N ≤ 1000000 := by omega
  generalize hm : xs.length = m at *
  generalize hm2 : ys.length = m2 at *
  have HM2 : Hid (ys.length = m2) := hm2
  clear ha hb hN hm hm2
  go_enter Tryz.func161, Tryz.ntmps161
  go_wp2_with (first | (go_at_call 205; refine HL.out.mono ?_; rintro e w1 ⟨g, rfl, ho1, hb1⟩; have HO1 : Hid (Own w1 w.heap.size (.slice (some ⟨g, 0, none⟩) N N) (longL xs ys)) := ho1; have hgb := ho1.row.2.2; have HB1 : Hid (Below w.heap.size w w1) := hb1; clear ho1 hb1 HL) | fail)
  go_loopw [12] (fun iv wr => ∃ (k : Nat) (zs : List Int), k ≤ m2 ∧ iv = .int .i64 k ∧ Hid (Own wr w.heap.size (.slice (some ⟨g, 0, none⟩) N N) zs) ∧ Hid (InvOr xs ys k zs) ∧ Hid (Below w.heap.size w wr)) (fun iv _ => m2 - (intOf iv).toNat)
  case atStart => exact ⟨0, _, Nat.zero_le _, rfl, HO1.out, HS.out, HB1.out⟩
  case round =>
    obtain ⟨k, zs, hk, rfl, HO, HI, HBW⟩ := hrel
    obtain ⟨hzl, hza⟩ := HIN.out k zs HI.out
    by_cases hlt : k < m2
    · have hkN : k < N := by omega
      obtain ⟨hcz, hfz⟩ := HO.out.cells1 hza k (by omega)
      obtain ⟨p, q, rfl, hps, hcy⟩ := (HB.out wr HBW.out).at k (by have := HM2.out; omega)
      have HT2 : Hid (InvOr xs ys (k + 1) (zs.set k (bits .or .u8 (zs.getD k 0) (ys.getD k 0)))) := HT.out k zs hlt HI.out
      have HO2 : Hid (∀ z, Own ((wr.drew).setCell ⟨g, k, none⟩ (.int .u8 z)) w.heap.size (.slice (some ⟨g, 0, none⟩) N N) (zs.set k z)) := fun z => (HO.out.below (Below.refl _ _).drew).stored k z
      generalize zs.getD k 0 = x at *
      generalize ys.getD k 0 = y at *
      clear hzl hza
      go_wp2
      refine wp_region_still_tail 10 (by kernel_rfl) (by kernel_rfl) ?_
      simp only [List.take_succ_cons, List.take_zero, List.drop_succ_cons, List.drop_zero]
      iterate 10 still_step
      refine wpStill_nil ?_
      change wpList _ _ _ _ _ wr.drew
      go_wp2
      go_roundw
      case rel => exact ⟨k + 1, _, by omega, by go_num, HO2.out _, HT2.out, HBW.out.drew.setCell hgb _⟩
      case measure => simp [intOf]; omega
    · obtain rfl : k = m2 := by omega
      have HD := HE.out zs HI.out
      clear hzl
      go_wp2
      go_ret
      exact ⟨_, zs, rfl, HO.out, HD, HBW.out⟩
end Go.Proofs.YtbklnadlbcndlaaGreat.B
