/- The document's Put. -/
import Derived.Test.YtadnflaocgmfgaaZeros
import Derived.Test.YtadnflaocgmfgaaArg
namespace Go.Proofs.Ytadnflaocgmfgaa
open Go.RowKit
set_option linter.unusedVariables false
set_option linter.unusedSimpArgs false
theorem RX.of' {w : World} {p : Nat} {t : TypeId} {c0 c1 c2 c3 c4 c5 : Value} (h : w.heap[p]? = some (.cells #[c0, c1, c2, c3, c4, c5] t (0, 0))) : RX w p c0 c1 c2 c3 c4 c5 := by
  refine ⟨?_, ?_, ?_, ?_, ?_, ?_, ?_, ?_, ?_, ?_, ?_, ?_⟩ <;> first
    | (rw [cell_of_row _ _ _ _ _ _ h]; rfl)
    | exact frozen_of_row _ _ _ _ _ h
theorem op_app {o : Oper} {a : Act} {K : Act → World → Prop} {Q : Exit → Act → World → Prop} {w : World} (s x : Operand)
    (ho : o.op = .call { callee := .builtin .append, args := #[s, x], argTypes := #[27, 27] }) (base : Nat) (v : Value) (zs ys : List Int) (hs : a.eval s = v) (hown : Own w base v zs)
    (ad : Option Addr) (m c : Nat) (hx : a.eval x = .slice ad m c) (hv : BV w ad ys) (hyl : ys.length = m) (hm : 0 < m) (hlen : zs.length + m ≤ 1000000) (hbase : base ≤ w.heap.size)
    (h : ∀ v' w', Own w' base v' (zs ++ ys) → Below base w w' → K (a.put o.dst v') w') : o.wp Try.prog a w K Q := by
  obtain ⟨i0, hi, hz0, hz1, hz2⟩ := info_parts Try.info5
  obtain ⟨_, hv0 | ⟨b2, off2, rfl, hb2, hc2⟩⟩ := hv
  · subst hv0; simp at hyl; omega
  refine wp_append_own w s x 27 ho base 5 i0 (.int .u8 0) 1 1 Try.underlying27 hi hz0 hz1 hz2 rfl (by decide) v zs.length (zs.map (Value.int .u8)) hs hown ⟨b2, off2, none⟩ m c (ys.map (Value.int .u8)) hx (by simp [hyl]) ?_ (u8row ys) (by unfold maxLen; omega) (by omega) hbase ?_
  · intro j u hu
    have hj : j < ys.length := by
      have := (List.getElem?_eq_some_iff.1 hu).1
      simpa using this
    rw [add_plain, hc2 j hj]
    rw [List.getElem?_map, List.getElem?_eq_getElem hj] at hu
    simp at hu
    rw [← hu, List.getD_eq_getElem?_getD, List.getElem?_eq_getElem hj]; rfl
  · intro v' w' h1 h2 _
    refine h v' w' ?_ ((Below.refl base w).grown h2 hbase (fun k hk => (World.ownsRow.lt hown k hk).1))
    unfold Own
    rw [List.length_append, List.map_append, hyl]
    exact h1
theorem wp_app2 {ops : Array Oper} {rest : List Oper} {o : Oper} {a : Act} {Q : Exit → Act → World → Prop} {w : World} (hgd : o.guard = none) (s x : Operand)
    (ho : o.op = .call { callee := .builtin .append, args := #[s, x], argTypes := #[27, 27] }) (base : Nat) (v : Value) (zs ys : List Int) (hs : a.eval s = v) (hown : Own w base v zs)
    (ad : Option Addr) (m c : Nat) (hx : a.eval x = .slice ad m c) (hv : BV w ad ys) (hyl : ys.length = m) (hm : 0 < m) (hlen : zs.length + m ≤ 1000000) (hbase : base ≤ w.heap.size)
    (h : ∀ v' w', Own w' base v' (zs ++ ys) → Below base w w' → wpList Try.prog ops Q rest (a.put o.dst v') w') : wpList Try.prog ops Q (o :: rest) a w :=
  wpList_plain hgd fun _ hK => op_app s x ho base v zs ys hs hown ad m c hx hv hyl hm hlen hbase fun v' w' h2 h3 => hK _ _ (h v' w' h2 h3)
/-- two, behind what is owned. -/
theorem two_own {W W' : World} {v : Value} {zs : List Int} (n : Int) (h0 : 0 ≤ n) (h1 : n < 65536) (ho : Own W' W.heap.size v zs) (hb : Below W.heap.size W W') : Calls Try.prog 21 #[.int .i64 n] W' fun e w' => ∃ ya yc, e = .returned (.slice ya 2 yc) ∧ Hid (BV w' ya (dig n 2) ∧ Own w' W.heap.size v zs ∧ Below W.heap.size W w') := by
  refine (two_any n W' h0 h1).mono ?_
  rintro e w' ⟨a, c, rfl, h2, h3⟩
  rw [dig_length]
  exact ⟨a, c, rfl, h2.out.1, ho.below h3, hb.trans (h3.mono hb.size)⟩
set_option maxHeartbeats 800000 in
theorem refput_bad (r : RD) (ta ma : Option Addr) (tc mc : Nat) (w : World) (hr : Rt w r ta tc ma mc) (h : checkE r ≠ 0) :
    Calls Try.prog 10 #[rootV r ta tc ma mc] w fun e w' => e = .returned (.tuple #[.slice none 0 0, .int .i64 (checkE r)]) ∧ Below w.heap.size w w' := by
  obtain ⟨W, hW⟩ : ∃ W, W = w.alloc (.cells #[.int .i64 r.E, .int .i64 r.B, .int .i64 r.N, .int .i64 r.S, .slice ta r.T.length tc, .slice ma r.M.length mc] 24) := ⟨_, rfl⟩
  have hB : Below w.heap.size w W := by rw [hW]; exact (Below.refl _ _).alloc (Nat.le_refl _) _
  have HX0 : Hid (W.heap[w.heap.size]? = some (.cells #[.int .i64 r.E, .int .i64 r.B, .int .i64 r.N, .int .i64 r.S, .slice ta r.T.length tc, .slice ma r.M.length mc] 24 (0, 0))) := by rw [hW]; exact heap_alloc_last _ _
  have HC := rcheck_any r ta ma tc mc W (hr.below hB)
  have hd : (checkE r == 0) = false := by simpa using h
  clear h hr
  generalize checkE r = c at *
  unfold rootV at *
  go_enter Try.func10, Try.ntmps10
  go_wp2_with fail
  rw [← hW]
  clear hW
  refine HC.mono ?_
  rintro e w1 ⟨rfl, hb1⟩
  clear HC
  go_wp2_with fail
  exact bodyPost_ret (v := .tuple #[.slice none 0 0, .int .i64 c]) (by simp [results, Try.results10, go_sem]) rfl ⟨rfl, hB.trans (hb1.mono hB.size)⟩
set_option maxHeartbeats 3200000 in
theorem refput_good (r : RD) (ta ma : Option Addr) (tc mc : Nat) (w : World) (hr : Rt w r ta tc ma mc) (h : r.Ok) :
    Calls Try.prog 10 #[rootV r ta tc ma mc] w fun e w' => ∃ v, e = .returned (.tuple #[v, .int .i64 0]) ∧ Own w' w.heap.size v (putS r) ∧ Below w.heap.size w w' := by
  obtain ⟨W, hW⟩ : ∃ W, W = w.alloc (.cells #[.int .i64 r.E, .int .i64 r.B, .int .i64 r.N, .int .i64 r.S, .slice ta r.T.length tc, .slice ma r.M.length mc] 24) := ⟨_, rfl⟩
  have hB : Below w.heap.size w W := by rw [hW]; exact (Below.refl _ _).alloc (Nat.le_refl _) _
  have HX0 : Hid (W.heap[w.heap.size]? = some (.cells #[.int .i64 r.E, .int .i64 r.B, .int .i64 r.N, .int .i64 r.S, .slice ta r.T.length tc, .slice ma r.M.length mc] 24 (0, 0))) := by rw [hW]; exact heap_alloc_last _ _
  have HC := rcheck_any r ta ma tc mc W (hr.below hB)
  rw [checkE_ok h] at HC
  have HOK : Hid (r.Ok) := h
  have HRT : Hid (Rt W r ta tc ma mc) := hr.below hB
  have HEP : Hid (∀ W', Calls Try.prog 20 #[.int .i64 r.E, .int .i64 6] W' fun e w' => ∃ ea ec, e = .returned (.tuple #[.slice ea 6 ec, .int .i64 0]) ∧ Hid (BV w' ea (dig r.E 6) ∧ (ea = none → ec = 0) ∧ Below W'.heap.size W' w')) := fun W' => by
    have hp := rput_any r.E 6 W'
    have e0 := h.e0; have e1 := h.e1
    rw [show putL r.E 6 = dig r.E 6 from putL_dig r.E 6 (by decide) (by decide) e0 (by show r.E < 281474976710656; omega), show putE r.E 6 = 0 from by unfold putE; rw [if_neg (by omega), if_neg (by show ¬ (r.E < 0 ∨ 281474976710656 ≤ r.E); omega)]] at hp
    refine hp.mono ?_
    rintro e w' ⟨v, rfl, ho, hb⟩
    obtain ⟨a, cap, rfl, q1, q2, q3, q4⟩ := ho.slice (dig_all 6 _)
    rw [dig_length]
    exact ⟨a, cap, rfl, q2, q1, hb⟩
  clear hr h
  unfold rootV at *
  go_enter Try.func10, Try.ntmps10
  go_wp2_with fail
  rw [← hW]
  clear hW
  refine HC.mono ?_
  rintro e w1 ⟨rfl, hb1⟩
  clear HC
  have HB1 : Hid (Below W.heap.size W w1) := hb1
  obtain ⟨x0, x1, x2, x3, x4, x5, _⟩ := RX.of' ((hb1.block _ (Array.getElem?_eq_some_iff.1 HX0.out).1).trans HX0.out)
  go_wp2_with (first
    | (go_at_call 20; refine (HEP.out _).mono ?_; rintro e w2 ⟨ea, ec, rfl, H2⟩; have hcv := Lib.run_convert_bytes_const (P := Try.prog) w2 27 5 #[.int .u8 114, .int .u8 111, .int .u8 111, .int .u8 116] 4 4 Try.underlying27 Try.underlying5; clear HEP x0 x1 x2 x3 x4 x5)
    | (at_builtin; refine wp_app_arg rfl _ _ rfl w2.heap.size 0 4 4 [114, 111, 111, 116] (dig r.E 6) rfl (bv_lit w2 [114, 111, 111, 116] root_all (4, 5)) rfl ea 6 ec rfl (H2.out.1.below ((Below.refl _ _).alloc (Nat.le_refl _) _)) (dig_length 6 _) (by decide) (by decide) (by decide) ?_; intro v3 w3 ho3 hb3)
    | fail)
  have HB3 : Hid (Below w2.heap.size w2 w3) := ((Below.refl _ _).alloc (Nat.le_refl _) _).trans (hb3.mono (by simp))
  have HO3 : Hid (Own w3 w2.heap.size v3 ([114, 111, 111, 116] ++ dig r.E 6)) := ho3.mono (by simp)
  have HE2 : Hid (BV w2 ea (dig r.E 6) ∧ (ea = none → ec = 0)) := ⟨H2.out.1, H2.out.2.1⟩
  have HW2 : Hid (Below W.heap.size W w2) := hb1.trans (H2.out.2.2.mono hb1.size)
  have HBD : Hid ((0 ≤ r.B ∧ r.B < 65536) ∧ (0 ≤ r.N ∧ r.N < 65536) ∧ (0 ≤ r.S ∧ r.S < 65536)) := by have h := HOK.out; have := h.b0; have := h.b1; have := h.n0; have := h.n1; have := h.s0; have := h.s1; exact (by omega : (0 ≤ r.B ∧ r.B < 65536) ∧ (0 ≤ r.N ∧ r.N < 65536) ∧ (0 ≤ r.S ∧ r.S < 65536))
  have HX2 : Hid (w2.heap[w.heap.size]? = _) := (HW2.out.block _ (Array.getElem?_eq_some_iff.1 HX0.out).1).trans HX0.out
  have hsz : w.heap.size < w2.heap.size := (Array.getElem?_eq_some_iff.1 HX2.out).1
  obtain ⟨c0, c1, c2, c3, c4, c5, _⟩ := RX.of' HX2.out
  clear hcv ho3 hb3 H2
  refine wp_region_noPanic ?_
  refine name_ops ?_
  intro O QQ HO HQ
  refine wp_region_held_drew (S := fun W' => Below w2.heap.size w2 W') (by kernel_rfl) HB3.out.drew (fun hS => ?_)
  rw [show O.size = 14 by rw [HO.out]; rfl]
  refine wpAnyH_take (i := 0) (v := v3) (by rw [HO.out]; simp only [List.getElem?_toArray, List.getElem?_cons_succ, List.getElem?_cons_zero]; rfl) (by rw [HO.out]; kernel_rfl) (by rw [HO.out]; kernel_rfl) (by rw [HO.out]; kernel_rfl) (by rw [HQ.out]; exact fun _ _ _ h => h) (Or.inl ⟨by rfl, ?_⟩) hS ?_
  · intro w' hSw
    go_simp
  try simp only [Act.put, List.setIfInBounds_toArray, List.set_cons_zero, List.set_cons_succ]
  refine wpAnyH_take (i := 1) (v := .pointer (some ⟨w.heap.size, 1, none⟩)) (by rw [HO.out]; simp only [List.getElem?_toArray, List.getElem?_cons_succ, List.getElem?_cons_zero]; rfl) (by rw [HO.out]; kernel_rfl) (by rw [HO.out]; kernel_rfl) (by rw [HO.out]; kernel_rfl) (by rw [HQ.out]; exact fun _ _ _ h => h) (Or.inl ⟨by rfl, ?_⟩) hS ?_
  · intro w' hSw
    go_simp
  try simp only [Act.put, List.setIfInBounds_toArray, List.set_cons_zero, List.set_cons_succ]
  refine wpAnyH_take (i := 2) (v := .int .i64 r.B) (by rw [HO.out]; simp only [List.getElem?_toArray, List.getElem?_cons_succ, List.getElem?_cons_zero]; rfl) (by rw [HO.out]; kernel_rfl) (by rw [HO.out]; kernel_rfl) (by rw [HO.out]; kernel_rfl) (by rw [HQ.out]; exact fun _ _ _ h => h) (Or.inl ⟨by rfl, ?_⟩) hS ?_
  · intro w' hSw
    have q1 := (hSw.cell (p := ⟨w.heap.size, 1, none⟩) hsz).trans c1
    go_simp
  try simp only [Act.put, List.setIfInBounds_toArray, List.set_cons_zero, List.set_cons_succ]
  refine wpAnyH_take (i := 5) (v := .pointer (some ⟨w.heap.size, 2, none⟩)) (by rw [HO.out]; simp only [List.getElem?_toArray, List.getElem?_cons_succ, List.getElem?_cons_zero]; rfl) (by rw [HO.out]; kernel_rfl) (by rw [HO.out]; kernel_rfl) (by rw [HO.out]; kernel_rfl) (by rw [HQ.out]; exact fun _ _ _ h => h) (Or.inl ⟨by rfl, ?_⟩) hS ?_
  · intro w' hSw
    go_simp
  try simp only [Act.put, List.setIfInBounds_toArray, List.set_cons_zero, List.set_cons_succ]
  refine wpAnyH_take (i := 6) (v := .int .i64 r.N) (by rw [HO.out]; simp only [List.getElem?_toArray, List.getElem?_cons_succ, List.getElem?_cons_zero]; rfl) (by rw [HO.out]; kernel_rfl) (by rw [HO.out]; kernel_rfl) (by rw [HO.out]; kernel_rfl) (by rw [HQ.out]; exact fun _ _ _ h => h) (Or.inl ⟨by rfl, ?_⟩) hS ?_
  · intro w' hSw
    have q2 := (hSw.cell (p := ⟨w.heap.size, 2, none⟩) hsz).trans c2
    go_simp
  try simp only [Act.put, List.setIfInBounds_toArray, List.set_cons_zero, List.set_cons_succ]
  refine wpAnyH_take (i := 9) (v := .pointer (some ⟨w.heap.size, 3, none⟩)) (by rw [HO.out]; simp only [List.getElem?_toArray, List.getElem?_cons_succ, List.getElem?_cons_zero]; rfl) (by rw [HO.out]; kernel_rfl) (by rw [HO.out]; kernel_rfl) (by rw [HO.out]; kernel_rfl) (by rw [HQ.out]; exact fun _ _ _ h => h) (Or.inl ⟨by rfl, ?_⟩) hS ?_
  · intro w' hSw
    go_simp
  try simp only [Act.put, List.setIfInBounds_toArray, List.set_cons_zero, List.set_cons_succ]
  refine wpAnyH_take (i := 10) (v := .int .i64 r.S) (by rw [HO.out]; simp only [List.getElem?_toArray, List.getElem?_cons_succ, List.getElem?_cons_zero]; rfl) (by rw [HO.out]; kernel_rfl) (by rw [HO.out]; kernel_rfl) (by rw [HO.out]; kernel_rfl) (by rw [HQ.out]; exact fun _ _ _ h => h) (Or.inl ⟨by rfl, ?_⟩) hS ?_
  · intro w' hSw
    have q3 := (hSw.cell (p := ⟨w.heap.size, 3, none⟩) hsz).trans c3
    go_simp
  try simp only [Act.put, List.setIfInBounds_toArray, List.set_cons_zero, List.set_cons_succ]
  refine wpAnyH_ready (rs := [3]) (by rw [HO.out]; kernel_rfl) (by simp) ?_
  refine AllReadyH.cons (o := _) (by rw [HO.out]; simp only [List.getElem?_toArray, List.getElem?_cons_succ, List.getElem?_cons_zero]; rfl) (fun K3 hK3 => ?_) AllReadyH.nil
  go_simp
  refine (two_own r.B HBD.out.1.1 HBD.out.1.2 (HO3.out.below (Below.refl _ _).drew) hS).mono ?_
  rintro e w3 ⟨ya3, yc3, rfl, H3⟩
  refine hK3.out _ _ H3.out.2.2 (fun _ => ?_)
  try simp only [Act.put, List.setIfInBounds_toArray, List.set_cons_zero, List.set_cons_succ]
  refine wpAnyH_ready (rs := [4]) (by rw [HO.out]; kernel_rfl) (by simp) ?_
  refine AllReadyH.cons (o := _) (by rw [HO.out]; simp only [List.getElem?_toArray, List.getElem?_cons_succ, List.getElem?_cons_zero]; rfl) (fun K4 hK4 => ?_) AllReadyH.nil
  rw [if_pos (by rfl)]
  refine op_app _ _ rfl w2.heap.size _ ([114, 111, 111, 116] ++ dig r.E 6) (dig r.B 2) rfl H3.out.2.1 ya3 2 yc3 rfl H3.out.1 (dig_length 2 _) (by decide) (by simp [dig_length]) H3.out.2.2.size ?_
  intro v4 w4 ho4 hb4
  have HB4 : Hid (Below w2.heap.size w2 w4) := H3.out.2.2.trans hb4
  refine hK4.out _ _ HB4.out (fun _ => ?_)
  try simp only [Act.put, List.setIfInBounds_toArray, List.set_cons_zero, List.set_cons_succ]
  refine wpAnyH_ready (rs := [7]) (by rw [HO.out]; kernel_rfl) (by simp) ?_
  refine AllReadyH.cons (o := _) (by rw [HO.out]; simp only [List.getElem?_toArray, List.getElem?_cons_succ, List.getElem?_cons_zero]; rfl) (fun K7 hK7 => ?_) AllReadyH.nil
  go_simp
  refine (two_own r.N HBD.out.2.1.1 HBD.out.2.1.2 ho4 HB4.out).mono ?_
  rintro e w7 ⟨ya7, yc7, rfl, H7⟩
  refine hK7.out _ _ H7.out.2.2 (fun _ => ?_)
  try simp only [Act.put, List.setIfInBounds_toArray, List.set_cons_zero, List.set_cons_succ]
  refine wpAnyH_ready (rs := [8]) (by rw [HO.out]; kernel_rfl) (by simp) ?_
  refine AllReadyH.cons (o := _) (by rw [HO.out]; simp only [List.getElem?_toArray, List.getElem?_cons_succ, List.getElem?_cons_zero]; rfl) (fun K8 hK8 => ?_) AllReadyH.nil
  rw [if_pos (by rfl)]
  refine op_app _ _ rfl w2.heap.size _ ([114, 111, 111, 116] ++ dig r.E 6 ++ dig r.B 2) (dig r.N 2) rfl H7.out.2.1 ya7 2 yc7 rfl H7.out.1 (dig_length 2 _) (by decide) (by simp [dig_length]) H7.out.2.2.size ?_
  intro v8 w8 ho8 hb8
  have HB8 : Hid (Below w2.heap.size w2 w8) := H7.out.2.2.trans hb8
  refine hK8.out _ _ HB8.out (fun _ => ?_)
  try simp only [Act.put, List.setIfInBounds_toArray, List.set_cons_zero, List.set_cons_succ]
  refine wpAnyH_ready (rs := [11]) (by rw [HO.out]; kernel_rfl) (by simp) ?_
  refine AllReadyH.cons (o := _) (by rw [HO.out]; simp only [List.getElem?_toArray, List.getElem?_cons_succ, List.getElem?_cons_zero]; rfl) (fun K11 hK11 => ?_) AllReadyH.nil
  go_simp
  refine (two_own r.S HBD.out.2.2.1 HBD.out.2.2.2 ho8 HB8.out).mono ?_
  rintro e w11 ⟨ya11, yc11, rfl, H11⟩
  refine hK11.out _ _ H11.out.2.2 (fun _ => ?_)
  try simp only [Act.put, List.setIfInBounds_toArray, List.set_cons_zero, List.set_cons_succ]
  refine wpAnyH_ready (rs := [12]) (by rw [HO.out]; kernel_rfl) (by simp) ?_
  refine AllReadyH.cons (o := _) (by rw [HO.out]; simp only [List.getElem?_toArray, List.getElem?_cons_succ, List.getElem?_cons_zero]; rfl) (fun K12 hK12 => ?_) AllReadyH.nil
  rw [if_pos (by rfl)]
  refine op_app _ _ rfl w2.heap.size _ ([114, 111, 111, 116] ++ dig r.E 6 ++ dig r.B 2 ++ dig r.N 2) (dig r.S 2) rfl H11.out.2.1 ya11 2 yc11 rfl H11.out.1 (dig_length 2 _) (by decide) (by simp [dig_length]) H11.out.2.2.size ?_
  intro v12 w12 ho12 hb12
  have HB12 : Hid (Below w2.heap.size w2 w12) := H11.out.2.2.trans hb12
  refine hK12.out _ _ HB12.out (fun _ => ?_)
  try simp only [Act.put, List.setIfInBounds_toArray, List.set_cons_zero, List.set_cons_succ]
  refine wpAnyH_ready (rs := [13]) (by rw [HO.out]; kernel_rfl) (by simp) ?_
  refine AllReadyH.cons (o := _) (by rw [HO.out]; simp only [List.getElem?_toArray, List.getElem?_cons_succ, List.getElem?_cons_zero]; rfl) (fun K13 hK13 => ?_) AllReadyH.nil
  go_simp
  refine hK13.out _ _ HB12.out (fun _ => ?_)
  try simp only [Act.put, List.setIfInBounds_toArray, List.set_cons_zero, List.set_cons_succ]
  refine wpAnyH_done (by rw [HO.out]; kernel_rfl) ?_ _
  rw [HQ.out]
  refine NoPanic.normal ?_
  have HO13 : Hid (Own w12 w2.heap.size v12 ([114, 111, 111, 116] ++ dig r.E 6 ++ (dig r.B 2 ++ dig r.N 2 ++ dig r.S 2))) := by
    have h := ho12
    rw [List.append_assoc, List.append_assoc] at h
    rw [List.append_assoc (dig r.B 2)]
    exact h
  have d4 := (HB12.out.cell (p := ⟨w.heap.size, 4, none⟩) hsz).trans c4
  have d5 := (HB12.out.cell (p := ⟨w.heap.size, 5, none⟩) hsz).trans c5
  have ht1 : r.T.length ≤ 26 := HOK.out.t1
  have hm1 : r.M.length ≤ 3 := HOK.out.m1
  have u1 : IntKind.u8.wrap (r.T.length : Int) = (r.T.length : Int) := by show (r.T.length : Int) % 256 = _; omega
  have u2 : IntKind.u8.wrap (r.M.length : Int) = (r.M.length : Int) := by show (r.M.length : Int) % 256 = _; omega
  have HBL : Hid (BV (w12.alloc (.cells #[.int .u8 (r.T.length : Int), .int .u8 (r.M.length : Int)] 5)) (some ⟨w12.heap.size, 0, none⟩) [(r.T.length : Int), (r.M.length : Int)]) := bv_lit w12 [(r.T.length : Int), (r.M.length : Int)] (by intro z hz; simp at hz; omega) (0, 0)
  have HOA : Hid (Own (w12.alloc (.cells #[.int .u8 (r.T.length : Int), .int .u8 (r.M.length : Int)] 5)) w2.heap.size v12 ([114, 111, 111, 116] ++ dig r.E 6 ++ (dig r.B 2 ++ dig r.N 2 ++ dig r.S 2))) := HO13.out.below ((Below.refl _ _).alloc (Nat.le_refl _) _)
  clear ho4 ho8 ho12 hb4 hb8 hb12 H3 H7 H11 HB4 HB8
  go_wp2_with (first
    | (at_builtin; refine wp_app_bv rfl _ _ rfl w2.heap.size _ ([114, 111, 111, 116] ++ dig r.E 6 ++ (dig r.B 2 ++ dig r.N 2 ++ dig r.S 2)) [(r.T.length : Int), (r.M.length : Int)] rfl HOA.out (some ⟨w12.heap.size, 0, none⟩) 2 rfl HBL.out (by intro h; cases h) (by simp [dig_length]) (by have := HB12.out.size; simp; omega) ?_; intro v14 w14 ho14 hb14)
    | fail)
  have HB14 : Hid (Below w2.heap.size w2 w14) := HB12.out.trans ((((Below.refl _ _).alloc (Nat.le_refl _) _).mono HB12.out.size).trans hb14)
  have HO14 : Hid (Own w14 w2.heap.size v14 ([114, 111, 111, 116] ++ dig r.E 6 ++ (dig r.B 2 ++ dig r.N 2 ++ dig r.S 2) ++ (dig r.T.length 1 ++ dig r.M.length 1))) := by
    have h := ho14
    rw [show [(r.T.length : Int), (r.M.length : Int)] = dig r.T.length 1 ++ dig r.M.length 1 from by rw [dig1 _ (by omega) (by omega), dig1 _ (by omega) (by omega)]; rfl] at h
    exact h
  clear ho14 hb14 HOA HBL HO13 d4 d5
  go_loopw [7, 8] (fun bv iv wr => ∃ k : Nat, k ≤ r.T.length ∧ iv = .int .i64 k ∧ Hid (Own wr w2.heap.size bv ([114, 111, 111, 116] ++ dig r.E 6 ++ (dig r.B 2 ++ dig r.N 2 ++ dig r.S 2) ++ (dig r.T.length 1 ++ dig r.M.length 1) ++ twos (r.T.take k))) ∧ Hid (Below w2.heap.size w2 wr)) (fun _ iv _ => r.T.length - (intOf iv).toNat)
  case atStart => exact ⟨0, Nat.zero_le _, rfl, (by rw [List.take_zero, show twos [] = [] from rfl, List.append_nil]; exact HO14.out), HB14.out⟩
  case round =>
    obtain ⟨kT, hkT, rfl, HOT, HWT⟩ := hrel
    have e4 := (HWT.out.cell (p := ⟨w.heap.size, 4, none⟩) hsz).trans c4
    by_cases hltT : kT < r.T.length
    · have hIV := HRT.out.t
      rcases hIV with hnil | ⟨ib, io, hia, his, hic⟩
      · rw [hnil] at hltT; simp at hltT
      have hel := (HWT.out.cell (p := ⟨ib, io + kT, none⟩) (Nat.lt_of_lt_of_le his HW2.out.size)).trans ((HW2.out.cell (p := ⟨ib, io + kT, none⟩) his).trans (hic kT hltT))
      have HZ : Hid (0 ≤ r.T.getD kT 0 ∧ r.T.getD kT 0 < 65536) := by
        have hm : r.T.getD kT 0 ∈ r.T := by rw [List.getD_eq_getElem?_getD, List.getElem?_eq_getElem hltT]; exact List.getElem_mem _
        have h1 := HOK.out.tb _ hm
        have h2 := HOK.out.b1
        exact (by omega : 0 ≤ r.T.getD kT 0 ∧ r.T.getD kT 0 < 65536)
      have HT : Hid ([114, 111, 111, 116] ++ dig r.E 6 ++ (dig r.B 2 ++ dig r.N 2 ++ dig r.S 2) ++ (dig r.T.length 1 ++ dig r.M.length 1) ++ twos (r.T.take (kT + 1)) = [114, 111, 111, 116] ++ dig r.E 6 ++ (dig r.B 2 ++ dig r.N 2 ++ dig r.S 2) ++ (dig r.T.length 1 ++ dig r.M.length 1) ++ twos (r.T.take kT) ++ dig (r.T.getD kT 0) 2) := by
        show _ = _
        rw [take_snoc r.T kT hltT]
        simp [twos, List.append_assoc]
      have HLE : Hid (([114, 111, 111, 116] ++ dig r.E 6 ++ (dig r.B 2 ++ dig r.N 2 ++ dig r.S 2) ++ (dig r.T.length 1 ++ dig r.M.length 1) ++ twos (r.T.take kT)).length + 2 ≤ 1000000) := by
        have : ([114, 111, 111, 116] ++ dig r.E 6 ++ (dig r.B 2 ++ dig r.N 2 ++ dig r.S 2) ++ (dig r.T.length 1 ++ dig r.M.length 1) ++ twos (r.T.take kT)).length + 2 ≤ 1000000 := by
          simp only [List.length_append, twos_len, List.length_take, dig_length, List.length_cons, List.length_nil]
          omega
        exact this
      rw [hia] at e4
      clear hic hia
      generalize r.T.getD kT 0 = z at *
      have HTW : Hid (Calls Try.prog 21 #[.int .i64 z] wr _) := two_own (W := w2) z HZ.out.1 HZ.out.2 HOT.out HWT.out
      go_wp2_with (first
        | (go_at_call 21; refine HTW.out.mono ?_; rintro e w20 ⟨ya, yc, rfl, H20⟩; clear HTW)
        | (at_builtin; refine wp_app2 rfl _ _ rfl w2.heap.size _ ([114, 111, 111, 116] ++ dig r.E 6 ++ (dig r.B 2 ++ dig r.N 2 ++ dig r.S 2) ++ (dig r.T.length 1 ++ dig r.M.length 1) ++ twos (r.T.take kT)) (dig z 2) rfl H20.out.2.1 ya 2 yc rfl H20.out.1 (dig_length 2 _) (by decide) HLE.out H20.out.2.2.size ?_; intro v21 w21 ho21 hb21)
        | fail)
      go_roundw
      case rel => exact ⟨kT + 1, by omega, by go_num, by rw [HT.out]; exact ho21, H20.out.2.2.trans hb21⟩
      case measure => simp [intOf]; omega
    · have HOT1 : Hid (Own wr w2.heap.size u7 ([114, 111, 111, 116] ++ dig r.E 6 ++ (dig r.B 2 ++ dig r.N 2 ++ dig r.S 2) ++ (dig r.T.length 1 ++ dig r.M.length 1) ++ twos r.T)) := by
        have e : kT = r.T.length := by omega
        have h := HOT.out
        rw [e, List.take_length] at h
        exact h
      have e5 := (HWT.out.cell (p := ⟨w.heap.size, 5, none⟩) hsz).trans c5
      clear HOT
      go_wp2_with fail
      go_loopw [7, 9] (fun bv iv wr => ∃ k : Nat, k ≤ r.M.length ∧ iv = .int .i64 k ∧ Hid (Own wr w2.heap.size bv ([114, 111, 111, 116] ++ dig r.E 6 ++ (dig r.B 2 ++ dig r.N 2 ++ dig r.S 2) ++ (dig r.T.length 1 ++ dig r.M.length 1) ++ twos r.T ++ twos (r.M.take k))) ∧ Hid (Below w2.heap.size w2 wr)) (fun _ iv _ => r.M.length - (intOf iv).toNat)
      case atStart => exact ⟨0, Nat.zero_le _, rfl, (by rw [List.take_zero, show twos [] = [] from rfl, List.append_nil]; exact HOT1.out), HWT.out⟩
      case round =>
        obtain ⟨kM, hkM, rfl, HOM, HWM⟩ := hrel
        have e5 := (HWM.out.cell (p := ⟨w.heap.size, 5, none⟩) hsz).trans c5
        by_cases hltM : kM < r.M.length
        · have hIV := HRT.out.m
          rcases hIV with hnil | ⟨ib, io, hia, his, hic⟩
          · rw [hnil] at hltM; simp at hltM
          have hel := (HWM.out.cell (p := ⟨ib, io + kM, none⟩) (Nat.lt_of_lt_of_le his HW2.out.size)).trans ((HW2.out.cell (p := ⟨ib, io + kM, none⟩) his).trans (hic kM hltM))
          have HZ : Hid (0 ≤ r.M.getD kM 0 ∧ r.M.getD kM 0 < 65536) := by
            have hm : r.M.getD kM 0 ∈ r.M := by rw [List.getD_eq_getElem?_getD, List.getElem?_eq_getElem hltM]; exact List.getElem_mem _
            have h1 := HOK.out.mb _ hm
            have h2 := HOK.out.b1
            exact (by omega : 0 ≤ r.M.getD kM 0 ∧ r.M.getD kM 0 < 65536)
          have HT : Hid ([114, 111, 111, 116] ++ dig r.E 6 ++ (dig r.B 2 ++ dig r.N 2 ++ dig r.S 2) ++ (dig r.T.length 1 ++ dig r.M.length 1) ++ twos r.T ++ twos (r.M.take (kM + 1)) = [114, 111, 111, 116] ++ dig r.E 6 ++ (dig r.B 2 ++ dig r.N 2 ++ dig r.S 2) ++ (dig r.T.length 1 ++ dig r.M.length 1) ++ twos r.T ++ twos (r.M.take kM) ++ dig (r.M.getD kM 0) 2) := by
            show _ = _
            rw [take_snoc r.M kM hltM]
            simp [twos, List.append_assoc]
          have HLE : Hid (([114, 111, 111, 116] ++ dig r.E 6 ++ (dig r.B 2 ++ dig r.N 2 ++ dig r.S 2) ++ (dig r.T.length 1 ++ dig r.M.length 1) ++ twos r.T ++ twos (r.M.take kM)).length + 2 ≤ 1000000) := by
            have : ([114, 111, 111, 116] ++ dig r.E 6 ++ (dig r.B 2 ++ dig r.N 2 ++ dig r.S 2) ++ (dig r.T.length 1 ++ dig r.M.length 1) ++ twos r.T ++ twos (r.M.take kM)).length + 2 ≤ 1000000 := by
              simp only [List.length_append, twos_len, List.length_take, dig_length, List.length_cons, List.length_nil]
              omega
            exact this
          rw [hia] at e5
          clear hic hia
          generalize r.M.getD kM 0 = z at *
          have HTW : Hid (Calls Try.prog 21 #[.int .i64 z] wr _) := two_own (W := w2) z HZ.out.1 HZ.out.2 HOM.out HWM.out
          go_wp2_with (first
            | (go_at_call 21; refine HTW.out.mono ?_; rintro e w20 ⟨ya, yc, rfl, H20⟩; clear HTW)
            | (at_builtin; refine wp_app2 rfl _ _ rfl w2.heap.size _ ([114, 111, 111, 116] ++ dig r.E 6 ++ (dig r.B 2 ++ dig r.N 2 ++ dig r.S 2) ++ (dig r.T.length 1 ++ dig r.M.length 1) ++ twos r.T ++ twos (r.M.take kM)) (dig z 2) rfl H20.out.2.1 ya 2 yc rfl H20.out.1 (dig_length 2 _) (by decide) HLE.out H20.out.2.2.size ?_; intro v21 w21 ho21 hb21)
            | fail)
          go_roundw
          case rel => exact ⟨kM + 1, by omega, by go_num, by rw [HT.out]; exact ho21, H20.out.2.2.trans hb21⟩
          case measure => simp [intOf]; omega
        · have HOF : Hid (Own wr w2.heap.size u7 (frontS r)) := by
            have e : kM = r.M.length := by omega
            have h := HOM.out
            rw [e, List.take_length] at h
            exact h
          clear HOM
          obtain ⟨fa, fc, hfe, hfn, hfb, hfl, hfm⟩ := HOF.out.slice (front_all r)
          subst hfe
          have hfr : (frontS r).length ≤ 76 ∧ 18 ≤ (frontS r).length := by rw [front_len]; omega
          have HOF2 : Hid (Own wr w2.heap.size (.slice fa (frontS r).length fc) (frontS r)) := HOF.out
          have HBD2 : Hid (bodyS r = frontS r ++ List.replicate (246 - (frontS r).length) 0) := rfl
          have HFP : Hid (putS r = bodyS r ++ dig (more 0 (bodyS r)) 4 ++ dig r.E 6) := rfl
          have HBA : Hid (AllB (bodyS r) ∧ (bodyS r).length = 246) := ⟨body_all r, body_len HOK.out⟩
          clear HOF hfb hfl hfm hfn
          generalize frontS r = fr at *
          generalize bodyS r = bo at *
          generalize hfn : fr.length = n at *
          have HFN : Hid (fr.length = n) := hfn
          clear hfn
          have hw : wrap64 (246 - (n : Int)) = ((246 - n : Nat) : Int) := by unfold wrap64; omega
          have hw2 : (246 : Int) - (n : Int) = ((246 - n : Nat) : Int) := by omega
          have HSE : Hid (∀ W' sa sc, BV W' sa bo → (sa = none → sc = 0) → Calls Try.prog 22 #[.slice sa 246 sc] W' fun e w' => ∃ v, e = .returned v ∧ Own w' W'.heap.size v (bo ++ dig (more 0 bo) 4) ∧ Below W'.heap.size W' w') := fun W' sa sc h1 h2 => by
            have h := rseal_any sa sc bo W' h1 (by rw [HBA.out.2]; decide) h2
            rw [HBA.out.2] at h
            exact h
          go_wp2_with (first
            | (at_builtin; refine wp_zeros rfl _ _ rfl w2.heap.size _ fr rfl HOF2.out (by rw [HFN.out]; omega) (246 - n) _ (by first | rfl | exact hw2 | exact hw) rfl (by omega) (by rw [HFN.out]; omega) HWM.out.size ?_; intro v31 w31 ho31 hb31; have HB31 : Hid (Below w2.heap.size w2 w31) := HWM.out.trans hb31; have HO31 : Hid (Own w31 w2.heap.size v31 bo) := (by rw [HBD2.out]; exact ho31); obtain ⟨sa, sc, hse, hsn, hsb, _, _⟩ := HO31.out.slice HBA.out.1; rw [HBA.out.2] at hse; subst hse; clear HOF2)
            | (go_at_call 22; refine (HSE.out _ sa sc hsb hsn).mono ?_; rintro e w32 ⟨v32, rfl, ho32, hb32⟩; clear HSE)
            | (at_builtin; refine wp_app2 rfl _ _ rfl w31.heap.size _ (bo ++ dig (more 0 bo) 4) (dig r.E 6) rfl ho32 ea 6 ec rfl ((HE2.out.1.below HB31.out).below hb32) (dig_length 6 _) (by decide) (by rw [List.length_append, HBA.out.2, dig_length]; decide) hb32.size ?_; intro v33 w33 ho33 hb33)
            | fail)
          have HFB : Hid (Below w.heap.size w w33 ∧ w.heap.size ≤ w31.heap.size) := by
            have q0 := hB.trans (HW2.out.mono hB.size)
            have q1 := q0.trans (HB31.out.mono q0.size)
            have q2 := q1.trans (hb32.mono q1.size)
            exact ⟨q2.trans (hb33.mono q1.size), q1.size⟩
          exact bodyPost_ret (v := .tuple #[v33, .int .i64 0]) (by simp [results, Try.results10, go_sem]) rfl ⟨v33, rfl, by rw [HFP.out]; exact ho33.mono HFB.out.2, HFB.out.1⟩
end Go.Proofs.Ytadnflaocgmfgaa
