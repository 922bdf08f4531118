import Derived.Test.YtbklnadlbcndlaaGreatM16
import Derived.Test.YtbklnadlbcndlaaGreatM19
import Derived.Test.YtbklnadlbcndlaaGreatM6
namespace Go.Proofs.YtbklnadlbcndlaaGreat
set_option maxRecDepth 20000
open Go.RowKit
set_option linter.unusedVariables false
set_option linter.unusedSimpArgs false
theorem fi_nil (w : World) (X : List Nat) : FI w X (.slice none 0 0) [] := ⟨none, 0, rfl, fun _ => rfl, Nat.zero_le _, by omega, .inl rfl, fun h => absurd rfl h⟩
def blank0 (bl : Nat) : SS := ⟨⟨[], 0, [], false⟩, ⟨[], 0, [], false⟩, 0, [], bl, false⟩
def blank1 (bl : Nat) : SS := ⟨⟨[], 0, List.replicate (B.makeN bl) 0, false⟩, ⟨[], 0, [], false⟩, 0, [], bl, false⟩
def blankS (bl : Nat) : SS := ⟨⟨[], 0, List.replicate (B.makeN bl) 0, false⟩, ⟨[], 0, [], false⟩, 0, rootsS bl, bl, false⟩
theorem blankS_ok {bl : Nat} (h : bl ≤ 4096) : (blankS bl).Ok :=
  ⟨h, ⟨⟨by simp [blankS], by simp [blankS]⟩, .inl rfl, by simp [blankS], zeros_allB _⟩, .inr rfl, rootsK_len bl 2, rootsK_all bl 2, by show (0 : Int) ≤ 0; decide, by show (0 : Int) ≤ 1099511627776; decide⟩
def BlankPost (w : World) (dp nb mb : Nat) (d : D.DS) (e : Ending) (w' : World) : Prop :=
  ∃ p t f t' f' u sb db nx, e = .returned (.pointer (some ⟨p, 0, none⟩)) ∧ w.heap.size ≤ p ∧ Sx w' ⟨p, dp, nb, mb, []⟩ (blankS d.room) d t f t' f' u sb db nx ∧ Below w.heap.size w w'
set_option maxHeartbeats 1600000 in
theorem blank_s (dp nb mb : Nat) (d : D.DS) (w : World) (h : D.Dk w dp nb mb d) : Calls Tryz.prog 48 #[.pointer (some ⟨dp, 0, none⟩)] w fun e w' => BlankPost w dp nb mb d e w' := by
  have H1 := D.blocks_any dp nb mb d w h
  have hr := h.1.room
  obtain ⟨_, _, _, hl1, hl2, hl3⟩ := h.ne
  obtain ⟨k, hk⟩ : ∃ k : Pl, k = ⟨w.heap.size, dp, nb, mb, []⟩ := ⟨_, rfl⟩
  obtain ⟨w1, hw1⟩ : ∃ w1, w1 = w.alloc (.cells #[.slice none 0 0, .int .i64 0, .slice none 0 0, .bool false, .slice none 0 0, .int .i64 0, .slice none 0 0, .bool false, .int .i64 0, .slice none 0 0, .int .i64 (d.room : Int), .bool false, .nilFunc, .nilFunc, .nilFunc] 91) := ⟨_, rfl⟩
  have hb1 : Below w.heap.size w w1 := by rw [hw1]; exact (Below.refl _ _).alloc (Nat.le_refl _) _
  have hrow : ShB w1 w.heap.size (.slice none 0 0) (.int .i64 0) (.slice none 0 0) (.bool false) (.slice none 0 0) (.int .i64 0) (.slice none 0 0) (.bool false) (.int .i64 0) (.slice none 0 0) (.int .i64 (d.room : Int)) (.bool false) .nilFunc .nilFunc .nilFunc := by rw [hw1]; exact heap_alloc_last _ _
  have hs1 : w1.heap.size = w.heap.size + 1 := by rw [hw1]; simp
  have hX1 : ∀ x ∈ k.X, x < w1.heap.size := by intro x hx; rw [hk] at hx; simp [Pl.X] at hx; omega
  have hkp : k.p = w.heap.size := by rw [hk]
  have hkd : k.dp = dp := by rw [hk]
  have hkD : k.D = [dp, nb, mb] := by rw [hk]; rfl
  have hpn : k.p ∉ k.D := by rw [hkp, hkD]; simp; omega
  have H2 : Hid (Calls Tryz.prog 102 #[.pointer (some ⟨w.heap.size, 0, none⟩), .pointer (some ⟨dp, 0, none⟩)] w1 fun e w' => e = .returned (.tuple #[]) ∧ ∃ sb db nx, Sx w' k (blank0 d.room) d (.slice none 0 0) (.slice none 0 0) (.slice none 0 0) (.slice none 0 0) (.slice none 0 0) sb db nx ∧ Below w.heap.size w w') := by
    have := step_s w1 k _ _ _ _ _ _ _ _ _ _ _ _ _ _ _ (by rw [hkp]; exact hrow) hX1
    rw [hkp, hkd] at this
    refine this.mono ?_
    rintro e w' ⟨rfl, sb, db, nx, hb, hbx, ho⟩
    rw [hkp] at ho
    have hd' : D.Dk w' k.dp k.nb k.mb d := by
      have : D.Dk w' dp nb mb d := (h.below hb1).off ho (by simp; omega) (by simp; omega) (by simp; omega)
      rw [hk]; exact this
    exact ⟨rfl, sb, db, nx, ⟨hd', hpn, hb, fi_nil _ _, fb_nil _ _, fi_nil _ _, fb_nil _ _, fb_nil _ _, hbx⟩, hb1.trans (ho.below (by omega) (by simp))⟩
  have H3 : Hid (∀ W, (∀ x ∈ k.X, x < W.heap.size) → Calls Tryz.prog 103 #[.int .i64 (d.room : Int)] W fun e w' => ∃ v, e = .returned v ∧ FB w' k.X v (List.replicate (B.makeN d.room) 0) ∧ Below W.heap.size W w') := fun W hW => make_fb d.room k.X W hW
  have H4 : Hid (∀ W, (∀ x ∈ k.X, x < W.heap.size) → Calls Tryz.prog 104 #[.int .i64 (d.room : Int), .slice none 0 0] W fun e w' => ∃ v, e = .returned (.tuple #[v, .bool true]) ∧ FB w' k.X v (rootsS d.room) ∧ Below W.heap.size W w') := by
    intro W hW
    have := used_any d.room hr (.slice none 0 0) [] k.X W hW (by simp) (fun V hV => by
      refine (concatI_none V).mono ?_
      rintro e w' ⟨rfl, rfl⟩
      exact ⟨_, rfl, fi_nil _ _, Below.refl _ _⟩)
    refine this.mono ?_
    rintro e w' ⟨v, rfl, hv, hb⟩
    exact ⟨v, rfl, hv, hb⟩
  have HK : Hid (k = ⟨w.heap.size, dp, nb, mb, []⟩) := hk
  have HKP : Hid (k.p = w.heap.size) := hkp
  have HW1 : Hid (w1 = _) := hw1
  unfold BlankPost
  generalize d.room = rm at *
  clear h hrow hX1 hkd hkD hpn hb1 hl1 hl2 hl3 hk hw1
  clear hkp
  go_enter Tryz.func48, Tryz.ntmps48
  go_wp2_with (first
    | (go_at_call 101; refine H1.mono ?_; rintro e w' ⟨rfl, hw⟩; obtain rfl := hw.symm; clear H1)
    | (go_at_call 102; rw [← HW1.out]; refine H2.out.mono ?_; rintro e w2 ⟨rfl, sb, db, nx, hx2, hb2⟩; have HX2 : Hid (Sx w2 k (blank0 rm) d (.slice none 0 0) (.slice none 0 0) (.slice none 0 0) (.slice none 0 0) (.slice none 0 0) sb db nx) := hx2; have HB2 : Hid (Below w.heap.size w w2) := hb2; have c102 : w2.cell? ⟨k.p, 10, none⟩ = some (.int .i64 (rm : Int)) := hx2.m.v.cells.c10; have H3' := H3.out w2 hx2.lt; rw [HKP.out] at c102; clear hx2 hb2 H2 HW1)
    | (go_at_call 103; refine H3'.mono ?_; rintro e w3 ⟨fv, rfl, hfv, hb3⟩; have HFV : Hid (FB w3 k.X fv (List.replicate (B.makeN rm) 0)) := hfv; obtain ⟨fa, fc, e3, _⟩ := hfv; rw [List.length_replicate] at e3; subst e3; have hx3 := HX2.out.below hb3; have c23 := hx3.m.v.cells.c2; have f23 := hx3.m.v.cells.f 2; have c103 : w3.cell? ⟨k.p, 10, none⟩ = some (.int .i64 (rm : Int)) := hx3.m.v.cells.c10; rw [HKP.out] at c23 f23 c103; have HE3 : Hid _ := hx3.set (s2 := blank1 rm) ((D.Off.refl [k.p] w3).setCell (by simp) _) (ShB.set2 hx3.m.v _) hx3.m.ht HFV.out hx3.m.ht' hx3.m.hf' hx3.m.hu; have HB3 : Hid (Below w.heap.size w w3) := HB2.out.trans (hb3.mono HB2.out.size); have hs3 := HB3.out.size; rw [HKP.out] at HE3; obtain ⟨v3, hv3⟩ : ∃ v3, v3 = w3.setCell ⟨w.heap.size, 2, none⟩ (.slice fa (B.makeN rm) fc) := ⟨_, rfl⟩; rw [← hv3] at HE3; have HV3 : Hid (v3 = _) := hv3; have c104 : v3.cell? ⟨k.p, 10, none⟩ = some (.int .i64 (rm : Int)) := HE3.out.m.v.cells.c10; rw [HKP.out] at c104; have HBV3 : Hid (Below w.heap.size w v3) := (by rw [hv3]; exact HB3.out.setCell (Nat.le_refl _) _); have H4' := H4.out v3 HE3.out.lt; clear hx3 hb3 H3' H3 HX2 HB2 hv3 H4)
    | (go_at_call 104; rw [← HV3.out]; refine H4'.mono ?_; rintro e w4 ⟨uv, rfl, huv, hb4⟩; have HUV : Hid (FB w4 k.X uv (rootsS rm)) := huv; obtain ⟨ua, uc, rfl, _⟩ := huv; have hx4 := HE3.out.below hb4; have c94 := hx4.m.v.cells.c9; have f94 := hx4.m.v.cells.f 9; rw [HKP.out] at c94 f94; have HE4 : Hid _ := hx4.set (s2 := blankS rm) ((D.Off.refl [k.p] w4).setCell (by simp) _) (ShB.set9 hx4.m.v _) hx4.m.ht hx4.m.hf hx4.m.ht' hx4.m.hf' HUV.out; have HB4 : Hid (Below w.heap.size w w4) := HBV3.out.trans (hb4.mono HBV3.out.size); rw [HKP.out] at HE4; clear hx4 hb4 H4' HE3)
    | fail)
  go_ret
  have hfin := HE4.out
  rw [HK.out] at hfin
  exact ⟨w.heap.size, _, _, _, _, _, _, _, _, rfl, Nat.le_refl _, hfin, HB4.out.setCell (Nat.le_refl _) _⟩
theorem settle_any {k : Pl} {s : SS} {d : D.DS} {t f t' f' u : Value} {sb db nx : Nat} (ep : Int) (us2 : List Int) (w : World) (h : Sx w k s d t f t' f' u sb db nx) (ok : s.Ok) (hep0 : 0 ≤ ep) (hep1 : ep ≤ 9223372036854775807) (hb1 : 1 ≤ s.bl) (hus2 : cntN s ≤ (freeL s).length → onceR s.bl (rootsS s.bl) (s.c.tb ++ tabL s ++ mapL s) = some us2) :
    Calls Tryz.prog 50 #[.pointer (some ⟨k.p, 0, none⟩), .int .i64 ep] w fun e w' => Done k w (settleR s d ep us2) e w' := by
  by_cases hf : (freeL s).length < cntN s
  · exact settle_full ep us2 w h ok hf
  · exact settle_main ep us2 w h ok hep0 hep1 hb1 (by omega) (hus2 (by omega))
def comR (s : SS) (d : D.DS) (us2 : List Int) : Int × SS × D.DS := if s.bad then (15, s, d) else if s.c.dt = false then (0, s, d) else settleR s d (s.ep + 1) us2
set_option maxHeartbeats 800000 in
theorem commit_s {k : Pl} {s : SS} {d : D.DS} {t f t' f' u : Value} {sb db nx : Nat} (us2 : List Int) (w : World) (h : Sx w k s d t f t' f' u sb db nx) (ok : s.Ok) (hb1 : 1 ≤ s.bl) (hus2 : cntN s ≤ (freeL s).length → onceR s.bl (rootsS s.bl) (s.c.tb ++ tabL s ++ mapL s) = some us2) :
    Calls Tryz.prog 62 #[.pointer (some ⟨k.p, 0, none⟩)] w fun e w' => Done k w (comR s d us2) e w' := by
  have HX : Hid (Sx w k s d t f t' f' u sb db nx) := h
  have e0 := ok.e0
  have e1 := ok.e1
  have H1 := ready_s w h
  have H2 := settle_any (s.ep + 1) us2 w h ok (by omega) (by omega) hb1 hus2
  have c3 := h.m.v.cells.c3
  have c8 := h.m.v.cells.c8
  unfold readyE at H1
  unfold comR
  clear h ok hus2
  cases hb : s.bad
  · rw [hb] at H1
    simp only [Bool.false_eq_true, if_false] at H1 ⊢
    cases hd : s.c.dt
    · rw [hd] at c3
      simp only [if_true]
      unfold Done
      go_enter Tryz.func62, Tryz.ntmps62
      go_wp2_with (first | (go_at_call 117; refine H1.mono ?_; rintro e w' ⟨rfl, hw⟩; obtain rfl := hw.symm; clear H1) | fail)
      go_ret
      exact ⟨rfl, ⟨_, _, _, _, _, _, _, _, HX.out⟩, D.Off.refl _ _⟩
    · rw [hd] at c3
      simp only [Bool.true_eq_false, if_false]
      generalize settleR s d (s.ep + 1) us2 = r at *
      unfold Done at *
      generalize s.ep = ee at *
      go_enter Tryz.func62, Tryz.ntmps62
      go_wp2_with (first | (go_at_call 117; refine H1.mono ?_; rintro e w' ⟨rfl, hw⟩; obtain rfl := hw.symm; clear H1) | (go_at_call 50; refine H2.mono ?_; rintro e w1 ⟨rfl, hy, ho⟩; have HY : Hid _ := hy; have HO : Hid _ := ho; clear hy ho H2) | fail)
      go_ret
      exact ⟨rfl, HY.out, HO.out⟩
  · rw [hb] at H1
    simp only [if_true] at H1 ⊢
    unfold Done
    go_enter Tryz.func62, Tryz.ntmps62
    go_wp2_with (first | (go_at_call 117; refine H1.mono ?_; rintro e w' ⟨rfl, hw⟩; obtain rfl := hw.symm; clear H1) | fail)
    go_ret
    exact ⟨rfl, ⟨_, _, _, _, _, _, _, _, HX.out⟩, D.Off.refl _ _⟩
end Go.Proofs.YtbklnadlbcndlaaGreat
namespace Go.Proofs.YtbklnadlbcndlaaGreat
set_option maxRecDepth 20000
open Go.RowKit
set_option linter.unusedVariables false
set_option linter.unusedSimpArgs false
def FmtPost (w : World) (dp nb mb : Nat) (r : Int × SS × D.DS) (e : Ending) (w' : World) : Prop :=
  ((r.1 = 0 ∧ ∃ p, e = .returned (.tuple #[.pointer (some ⟨p, 0, none⟩), .int .i64 0]) ∧ w.heap.size ≤ p ∧ Sy w' ⟨p, dp, nb, mb, []⟩ r.2.1 r.2.2) ∨ (r.1 ≠ 0 ∧ e = .returned (.tuple #[.pointer none, .int .i64 r.1]))) ∧ D.Dk w' dp nb mb r.2.2 ∧ D.Off [dp, nb, mb] w w'
theorem Sy.dk {w : World} {k : Pl} {s : SS} {d : D.DS} (h : Sy w k s d) : D.Dk w k.dp k.nb k.mb d := by
  obtain ⟨_, _, _, _, _, _, _, _, h⟩ := h; exact h.dk
theorem off_new {w v w' : World} {p dp nb mb : Nat} (hb : Below w.heap.size w v) (ho : D.Off (Pl.K ⟨p, dp, nb, mb, []⟩) v w') (hp : w.heap.size ≤ p) : D.Off [dp, nb, mb] w w' := by
  refine ⟨ho.os.trans hb.os, ho.tape.trans hb.tape, ho.output.trans hb.output, Nat.le_trans hb.size ho.size, fun i hi hx => ?_⟩
  refine (ho.block i (Nat.lt_of_lt_of_le hi hb.size) ?_).trans (hb.block i hi)
  intro hm
  simp [Pl.K] at hm
  simp at hx
  omega
def fmtR (d : D.DS) (us2 : List Int) : Int × SS × D.DS :=
  if d.room < 3 + nPages (B.makeN d.room) then (10, blankS d.room, d)
  else if D.writeE d 1 (List.replicate 256 0) ≠ 0 then (D.writeE d 1 (List.replicate 256 0), blankS d.room, D.writeS d 1 (List.replicate 256 0))
  else settleR (blankS d.room) (D.writeS d 1 (List.replicate 256 0)) 0 us2
theorem wp_make_op {o : Oper} {a : Act} {w : World} {K : Act → World → Prop} {Q : Exit → Act → World → Prop} (x y : Operand) (ho : o.op = .makeSlice 29 x y) (n : Nat) (hn : n ≤ 1000000) (hx : a.eval x = .int .i64 n) (hy : a.eval y = .int .i64 n)
    (h : ∀ w', B.Own w' w.heap.size (.slice (some ⟨w.heap.size, 0, none⟩) n n) (List.replicate n 0) → Below w.heap.size w w' → K (a.put o.dst (.slice (some ⟨w.heap.size, 0, none⟩) n n)) w') : Oper.wp Tryz.prog o a w K Q := by
  obtain ⟨i0, hi, hz0, hz1, hz2⟩ := info_parts Tryz.info5
  have hrun := run_makeSlice (P := Tryz.prog) w 29 5 i0 (.int .u8 0) Tryz.underlying29 hi hz0 .i64 .i64 n n (by omega) (by omega) (by rw [hz1]; simp; omega) (by rw [hz2]; omega) (by omega)
  unfold Oper.wp
  rw [hz1, Int.toNat_natCast, Nat.mul_one] at hrun
  simp only [execOp, ho, hx, hy, Sem.run_bind, hrun, Result.andThen, Sem.run_pure]
  refine h _ ?_ ((Below.refl _ _).alloc (Nat.le_refl _) _)
  have := World.ownsRow_lit (base := w.heap.size) (e := 5) (size := 1) w (madeCells (Value.int .u8 0).cells n) n (Nat.le_refl _) (by unfold maxLen; omega) (by rw [size_madeCells]; omega)
  have e : (madeCells (Value.int .u8 0).cells n).toList = (List.replicate n (0 : Int)).map (Value.int .u8) := by
    rw [List.map_replicate]
    exact toList_madeCells_one _ n
  rw [e] at this
  unfold B.Own
  rw [List.length_replicate]
  exact this
theorem writeS_room (d : D.DS) (n : Int) (b : List Int) : (D.writeS d n b).room = d.room := by
  unfold D.writeS
  split
  · rfl
  · unfold D.stepS; split <;> (try split) <;> rfl
set_option maxHeartbeats 1600000 in
theorem format_small (dp nb mb : Nat) (d : D.DS) (us2 : List Int) (w : World) (h : D.Dk w dp nb mb d) (hs : d.room < 3 + nPages (B.makeN d.room)) :
    Calls Tryz.prog 12 #[.pointer (some ⟨dp, 0, none⟩)] w fun e w' => FmtPost w dp nb mb (fmtR d us2) e w' := by
  have eR : fmtR d us2 = (10, blankS d.room, d) := by unfold fmtR; rw [if_pos hs]
  rw [eR]
  have HD : Hid (∀ W, Below w.heap.size w W → D.Dk W dp nb mb d) := fun W hW => h.below hW
  have HB := blank_s dp nb mb d w h
  have hr := h.1.room
  obtain ⟨n2, hn2⟩ : ∃ n, n = nPages (B.makeN d.room) := ⟨_, rfl⟩
  have hn2' : n2 ≤ 10 := by have := makeN_le d.room; rw [hn2]; unfold nPages; omega
  have HN2 : Hid (n2 = nPages (B.makeN d.room)) := hn2
  have HUL : Hid ((rootsS d.room).length = B.makeN d.room) := rootsK_len _ _
  have HPgA : Hid (∀ ua uc W, Calls Tryz.prog 49 #[.slice ua (rootsS d.room).length uc] W fun e w' => e = .returned (.int .i64 (n2 : Nat)) ∧ w' = W) := fun ua uc W => by
    have := pages_any ua (rootsS d.room).length uc W (by have := makeN_le d.room; rw [HUL.out]; omega)
    rw [HUL.out, ← hn2] at this
    rw [HUL.out]; exact this
  clear hn2
  have hltI : decide ((d.room : Int) < 2 + (n2 : Int) + 1) = true := by simp; rw [HN2.out]; omega
  clear h eR
  go_enter Tryz.func12, Tryz.ntmps12
  go_wp2_with (first | (go_at_call 48; refine HB.mono ?_; rintro e w1 ⟨p, t, f, t', f', u, sb, db, nx, rfl, hp, hx1, hb1⟩; have HX1 : Hid (Sx w1 ⟨p, dp, nb, mb, []⟩ (blankS d.room) d t f t' f' u sb db nx) := hx1; have HB1 : Hid (Below w.heap.size w w1) := hb1; have hul := hx1.m.hu; obtain ⟨ua, uc, rfl, _⟩ := hul; have c10 : w1.cell? ⟨p, 10, none⟩ = some (.int .i64 (d.room : Int)) := hx1.m.v.cells.c10; have c9 : w1.cell? ⟨p, 9, none⟩ = some (.slice ua (rootsS d.room).length uc) := hx1.m.v.cells.c9; have HPg : Hid _ := HPgA.out ua uc; clear hx1 hb1 HB) | fail)
  obtain ⟨ul, hule⟩ : ∃ ul, ul = (rootsS d.room).length := ⟨_, rfl⟩
  have HULE : Hid (ul = (rootsS d.room).length) := hule
  rw [show (blankS d.room).us.length = ul from hule.symm] at *
  rw [← hule] at HPg c9
  clear hule HPgA
  refine wp_region_noPanic ?_
  refine name_ops ?_
  intro O QQ HO HQ
  refine wp_region_held_drew (S := (fun W => W.cell? ⟨p, 10, none⟩ = some (.int .i64 (d.room : Int)) ∧ W.cell? ⟨p, 9, none⟩ = some (.slice ua ul uc))) (by kernel_rfl) ⟨c10, c9⟩ (fun hS => ?_)
  rw [show O.size = 12 by rw [HO.out]; rfl]
  refine wpAnyH_take (i := 0) (v := .pointer (some ⟨p, 0, none⟩)) (by rw [HO.out]; simp only [List.getElem?_toArray, List.getElem?_cons_succ, List.getElem?_cons_zero]; rfl) (by rw [HO.out]; kernel_rfl) (by rw [HO.out]; kernel_rfl) (by rw [HO.out]; kernel_rfl) (by rw [HQ.out]; exact fun _ _ _ h => h) (Or.inl ⟨by rfl, ?_⟩) hS ?_
  · intro w' hSw
    go_simp
  try simp only [Act.put, List.setIfInBounds_toArray, List.set_cons_zero, List.set_cons_succ]
  refine wpAnyH_take (i := 1) (v := .pointer (some ⟨p, 0, none⟩)) (by rw [HO.out]; simp only [List.getElem?_toArray, List.getElem?_cons_succ, List.getElem?_cons_zero]; rfl) (by rw [HO.out]; kernel_rfl) (by rw [HO.out]; kernel_rfl) (by rw [HO.out]; kernel_rfl) (by rw [HQ.out]; exact fun _ _ _ h => h) (Or.inl ⟨by rfl, ?_⟩) hS ?_
  · intro w' hSw
    go_simp
  try simp only [Act.put, List.setIfInBounds_toArray, List.set_cons_zero, List.set_cons_succ]
  refine wpAnyH_take (i := 2) (v := .pointer (some ⟨p, 10, none⟩)) (by rw [HO.out]; simp only [List.getElem?_toArray, List.getElem?_cons_succ, List.getElem?_cons_zero]; rfl) (by rw [HO.out]; kernel_rfl) (by rw [HO.out]; kernel_rfl) (by rw [HO.out]; kernel_rfl) (by rw [HQ.out]; exact fun _ _ _ h => h) (Or.inl ⟨by rfl, ?_⟩) hS ?_
  · intro w' hSw
    go_simp
  try simp only [Act.put, List.setIfInBounds_toArray, List.set_cons_zero, List.set_cons_succ]
  refine wpAnyH_take (i := 3) (v := .int .i64 (d.room : Int)) (by rw [HO.out]; simp only [List.getElem?_toArray, List.getElem?_cons_succ, List.getElem?_cons_zero]; rfl) (by rw [HO.out]; kernel_rfl) (by rw [HO.out]; kernel_rfl) (by rw [HO.out]; kernel_rfl) (by rw [HQ.out]; exact fun _ _ _ h => h) (Or.inl ⟨by rfl, ?_⟩) hS ?_
  · intro w' hSw
    obtain ⟨q1, q2⟩ := hSw
    go_simp
  try simp only [Act.put, List.setIfInBounds_toArray, List.set_cons_zero, List.set_cons_succ]
  refine wpAnyH_take (i := 4) (v := .pointer (some ⟨p, 0, none⟩)) (by rw [HO.out]; simp only [List.getElem?_toArray, List.getElem?_cons_succ, List.getElem?_cons_zero]; rfl) (by rw [HO.out]; kernel_rfl) (by rw [HO.out]; kernel_rfl) (by rw [HO.out]; kernel_rfl) (by rw [HQ.out]; exact fun _ _ _ h => h) (Or.inl ⟨by rfl, ?_⟩) hS ?_
  · intro w' hSw
    go_simp
  try simp only [Act.put, List.setIfInBounds_toArray, List.set_cons_zero, List.set_cons_succ]
  refine wpAnyH_take (i := 5) (v := .pointer (some ⟨p, 0, none⟩)) (by rw [HO.out]; simp only [List.getElem?_toArray, List.getElem?_cons_succ, List.getElem?_cons_zero]; rfl) (by rw [HO.out]; kernel_rfl) (by rw [HO.out]; kernel_rfl) (by rw [HO.out]; kernel_rfl) (by rw [HQ.out]; exact fun _ _ _ h => h) (Or.inl ⟨by rfl, ?_⟩) hS ?_
  · intro w' hSw
    go_simp
  try simp only [Act.put, List.setIfInBounds_toArray, List.set_cons_zero, List.set_cons_succ]
  refine wpAnyH_take (i := 6) (v := .pointer (some ⟨p, 9, none⟩)) (by rw [HO.out]; simp only [List.getElem?_toArray, List.getElem?_cons_succ, List.getElem?_cons_zero]; rfl) (by rw [HO.out]; kernel_rfl) (by rw [HO.out]; kernel_rfl) (by rw [HO.out]; kernel_rfl) (by rw [HQ.out]; exact fun _ _ _ h => h) (Or.inl ⟨by rfl, ?_⟩) hS ?_
  · intro w' hSw
    go_simp
  try simp only [Act.put, List.setIfInBounds_toArray, List.set_cons_zero, List.set_cons_succ]
  refine wpAnyH_take (i := 7) (v := .slice ua ul uc) (by rw [HO.out]; simp only [List.getElem?_toArray, List.getElem?_cons_succ, List.getElem?_cons_zero]; rfl) (by rw [HO.out]; kernel_rfl) (by rw [HO.out]; kernel_rfl) (by rw [HO.out]; kernel_rfl) (by rw [HQ.out]; exact fun _ _ _ h => h) (Or.inl ⟨by rfl, ?_⟩) hS ?_
  · intro w' hSw
    obtain ⟨q1, q2⟩ := hSw
    go_simp
  try simp only [Act.put, List.setIfInBounds_toArray, List.set_cons_zero, List.set_cons_succ]
  refine wpAnyH_ready (rs := [8]) (by rw [HO.out]; kernel_rfl) (by simp) ?_
  refine AllReadyH.cons (o := _) (by rw [HO.out]; simp only [List.getElem?_toArray, List.getElem?_cons_succ, List.getElem?_cons_zero]; rfl) (fun K8 hK8 => ?_) AllReadyH.nil
  go_simp
  refine (HPg.out _).mono ?_
  rintro e wq ⟨rfl, hwq⟩
  obtain rfl := hwq.symm
  refine hK8.out _ _ hS (fun hS1 => ?_)
  try simp only [Act.put, List.setIfInBounds_toArray, List.set_cons_zero, List.set_cons_succ]
  refine wpAnyH_take (i := 9) (v := .int .i64 (2 + (n2 : Int))) (by rw [HO.out]; simp only [List.getElem?_toArray, List.getElem?_cons_succ, List.getElem?_cons_zero]; rfl) (by rw [HO.out]; kernel_rfl) (by rw [HO.out]; kernel_rfl) (by rw [HO.out]; kernel_rfl) (by rw [HQ.out]; exact fun _ _ _ h => h) (Or.inl ⟨by rfl, ?_⟩) hS1 ?_
  · intro w' hSw
    have a1 : IntKind.i64.wrap (2 + (n2 : Int)) = 2 + (n2 : Int) := wrap_sm (by omega) (by omega)
    go_simp
  try simp only [Act.put, List.setIfInBounds_toArray, List.set_cons_zero, List.set_cons_succ]
  refine wpAnyH_take (i := 10) (v := .int .i64 (2 + (n2 : Int) + 1)) (by rw [HO.out]; simp only [List.getElem?_toArray, List.getElem?_cons_succ, List.getElem?_cons_zero]; rfl) (by rw [HO.out]; kernel_rfl) (by rw [HO.out]; kernel_rfl) (by rw [HO.out]; kernel_rfl) (by rw [HQ.out]; exact fun _ _ _ h => h) (Or.inl ⟨by rfl, ?_⟩) hS1 ?_
  · intro w' hSw
    have a1 : IntKind.i64.wrap (2 + (n2 : Int) + 1) = 2 + (n2 : Int) + 1 := wrap_sm (by omega) (by omega)
    go_simp
  try simp only [Act.put, List.setIfInBounds_toArray, List.set_cons_zero, List.set_cons_succ]
  refine wpAnyH_take (i := 11) (v := .bool true) (by rw [HO.out]; simp only [List.getElem?_toArray, List.getElem?_cons_succ, List.getElem?_cons_zero]; rfl) (by rw [HO.out]; kernel_rfl) (by rw [HO.out]; kernel_rfl) (by rw [HO.out]; kernel_rfl) (by rw [HQ.out]; exact fun _ _ _ h => h) (Or.inl ⟨by rfl, ?_⟩) hS1 ?_
  · intro w' hSw
    have hlt := hltI
    go_simp
  try simp only [Act.put, List.setIfInBounds_toArray, List.set_cons_zero, List.set_cons_succ]
  refine wpAnyH_done (by rw [HO.out]; kernel_rfl) ?_ _
  rw [HQ.out]
  refine NoPanic.normal ?_
  go_wp2_with fail
  exact bodyPost_ret (v := .tuple #[.pointer none, .int .i64 10]) (by simp [results, Tryz.results12, go_sem]) rfl (by unfold FmtPost; exact ⟨.inr ⟨by show (10 : Int) ≠ 0; decide, rfl⟩, HD.out _ (HB1.out.trans (Below.refl _ _).drew), D.Off.of_below (HB1.out.trans (Below.refl _ _).drew)⟩)
theorem own_bv256 {w : World} {base g : Nat} (h : B.Own w base (.slice (some ⟨g, 0, none⟩) 256 256) (List.replicate 256 0)) : BV w (some ⟨g, 0, none⟩) (List.replicate 256 0) := by
  obtain ⟨a, c, e, _, _, _, hv, _⟩ := fb_own (X := []) (show Own w base _ _ from h) (zeros_allB 256) (by simp)
  simp at e
  rw [← e.1] at hv
  exact hv
set_option maxHeartbeats 3200000 in
theorem format_bad (dp nb mb : Nat) (d : D.DS) (us2 : List Int) (w : World) (h : D.Dk w dp nb mb d) (hs : ¬ d.room < 3 + nPages (B.makeN d.room)) (hw : D.writeE d 1 (List.replicate 256 0) ≠ 0) :
    Calls Tryz.prog 12 #[.pointer (some ⟨dp, 0, none⟩)] w fun e w' => FmtPost w dp nb mb (fmtR d us2) e w' := by
  have eR : fmtR d us2 = (D.writeE d 1 (List.replicate 256 0), blankS d.room, D.writeS d 1 (List.replicate 256 0)) := by unfold fmtR; rw [if_neg hs, if_pos hw]
  rw [eR]
  have hlt : ¬ d.room < 3 + nPages (B.makeN d.room) := hs
  have hr4 : 1 ≤ d.room := by omega
  have HB := blank_s dp nb mb d w h
  have hr := h.1.room
  obtain ⟨n2, hn2⟩ : ∃ n, n = nPages (B.makeN d.room) := ⟨_, rfl⟩
  have hn2' : n2 ≤ 10 := by have := makeN_le d.room; rw [hn2]; unfold nPages; omega
  have HN2 : Hid (n2 = nPages (B.makeN d.room)) := hn2
  have HUL : Hid ((rootsS d.room).length = B.makeN d.room) := rootsK_len _ _
  have HPgA : Hid (∀ ua uc W, Calls Tryz.prog 49 #[.slice ua (rootsS d.room).length uc] W fun e w' => e = .returned (.int .i64 (n2 : Nat)) ∧ w' = W) := fun ua uc W => by
    have := pages_any ua (rootsS d.room).length uc W (by have := makeN_le d.room; rw [HUL.out]; omega)
    rw [HUL.out, ← hn2] at this
    rw [HUL.out]; exact this
  clear hn2
  have hltI : decide ((d.room : Int) < 2 + (n2 : Int) + 1) = false := by simp; rw [HN2.out]; omega
  have HWA : Hid (∀ (p : Nat) (w1 : World) (t f t' f' u : Value) (sb db nx : Nat), Sx w1 ⟨p, dp, nb, mb, []⟩ (blankS d.room) d t f t' f' u sb db nx → ∀ W, Below w1.heap.size w1 W → BV W (some ⟨w1.heap.size, 0, none⟩) (List.replicate 256 0) → Calls Tryz.prog 166 #[.int .i64 1, .slice (some ⟨w1.heap.size, 0, none⟩) 256 256, .pointer (some ⟨nx, 0, none⟩), .pointer (some ⟨db, 0, none⟩)] W fun r w' => r = .returned (.int .i64 (D.writeE d 1 (List.replicate 256 0))) ∧ Sx w' ⟨p, dp, nb, mb, []⟩ ((blankS d.room).note (D.writeE d 1 (List.replicate 256 0))) (D.writeS d 1 (List.replicate 256 0)) t f t' f' u sb db nx ∧ D.Off (Pl.K ⟨p, dp, nb, mb, []⟩) W w') := by
    intro p w1 t f t' f' u sb db nx hx W hW hv
    have := write_sx 1 (some ⟨w1.heap.size, 0, none⟩) 256 (List.replicate 256 0) W (hx.below hW) hv (by simp) (fun b off e hm => by simp at e; have := hx.lt b (Pl.sub _ b hm); omega)
    rw [List.length_replicate] at this
    exact this
  have hw' : (D.writeE d 1 (List.replicate 256 0) == 0) = false := by simpa using hw
  generalize D.writeE d 1 (List.replicate 256 0) = er at *
  generalize D.writeS d 1 (List.replicate 256 0) = d2 at *
  clear h eR hlt hs
  go_enter Tryz.func12, Tryz.ntmps12
  go_wp2_with (first | (go_at_call 48; refine HB.mono ?_; rintro e w1 ⟨p, t, f, t', f', u, sb, db, nx, rfl, hp, hx1, hb1⟩; have HX1 : Hid (Sx w1 ⟨p, dp, nb, mb, []⟩ (blankS d.room) d t f t' f' u sb db nx) := hx1; have HB1 : Hid (Below w.heap.size w w1) := hb1; have hul := hx1.m.hu; obtain ⟨ua, uc, rfl, _⟩ := hul; have c10 : w1.cell? ⟨p, 10, none⟩ = some (.int .i64 (d.room : Int)) := hx1.m.v.cells.c10; have c9 : w1.cell? ⟨p, 9, none⟩ = some (.slice ua (rootsS d.room).length uc) := hx1.m.v.cells.c9; have HPg : Hid _ := HPgA.out ua uc; have c13 := hx1.m.v.cells.c13; have HW : Hid _ := HWA.out _ _ _ _ _ _ _ _ _ _ hx1; clear hx1 hb1 HB) | fail)
  obtain ⟨ul, hule⟩ : ∃ ul, ul = (rootsS d.room).length := ⟨_, rfl⟩
  have HULE : Hid (ul = (rootsS d.room).length) := hule
  rw [show (blankS d.room).us.length = ul from hule.symm] at *
  rw [← hule] at HPg c9
  clear hule HPgA HWA
  refine wp_region_noPanic ?_
  refine name_ops ?_
  intro O QQ HO HQ
  refine wp_region_held_drew (S := (fun W => W.cell? ⟨p, 10, none⟩ = some (.int .i64 (d.room : Int)) ∧ W.cell? ⟨p, 9, none⟩ = some (.slice ua ul uc))) (by kernel_rfl) ⟨c10, c9⟩ (fun hS => ?_)
  rw [show O.size = 12 by rw [HO.out]; rfl]
  refine wpAnyH_take (i := 0) (v := .pointer (some ⟨p, 0, none⟩)) (by rw [HO.out]; simp only [List.getElem?_toArray, List.getElem?_cons_succ, List.getElem?_cons_zero]; rfl) (by rw [HO.out]; kernel_rfl) (by rw [HO.out]; kernel_rfl) (by rw [HO.out]; kernel_rfl) (by rw [HQ.out]; exact fun _ _ _ h => h) (Or.inl ⟨by rfl, ?_⟩) hS ?_
  · intro w' hSw
    go_simp
  try simp only [Act.put, List.setIfInBounds_toArray, List.set_cons_zero, List.set_cons_succ]
  refine wpAnyH_take (i := 1) (v := .pointer (some ⟨p, 0, none⟩)) (by rw [HO.out]; simp only [List.getElem?_toArray, List.getElem?_cons_succ, List.getElem?_cons_zero]; rfl) (by rw [HO.out]; kernel_rfl) (by rw [HO.out]; kernel_rfl) (by rw [HO.out]; kernel_rfl) (by rw [HQ.out]; exact fun _ _ _ h => h) (Or.inl ⟨by rfl, ?_⟩) hS ?_
  · intro w' hSw
    go_simp
  try simp only [Act.put, List.setIfInBounds_toArray, List.set_cons_zero, List.set_cons_succ]
  refine wpAnyH_take (i := 2) (v := .pointer (some ⟨p, 10, none⟩)) (by rw [HO.out]; simp only [List.getElem?_toArray, List.getElem?_cons_succ, List.getElem?_cons_zero]; rfl) (by rw [HO.out]; kernel_rfl) (by rw [HO.out]; kernel_rfl) (by rw [HO.out]; kernel_rfl) (by rw [HQ.out]; exact fun _ _ _ h => h) (Or.inl ⟨by rfl, ?_⟩) hS ?_
  · intro w' hSw
    go_simp
  try simp only [Act.put, List.setIfInBounds_toArray, List.set_cons_zero, List.set_cons_succ]
  refine wpAnyH_take (i := 3) (v := .int .i64 (d.room : Int)) (by rw [HO.out]; simp only [List.getElem?_toArray, List.getElem?_cons_succ, List.getElem?_cons_zero]; rfl) (by rw [HO.out]; kernel_rfl) (by rw [HO.out]; kernel_rfl) (by rw [HO.out]; kernel_rfl) (by rw [HQ.out]; exact fun _ _ _ h => h) (Or.inl ⟨by rfl, ?_⟩) hS ?_
  · intro w' hSw
    obtain ⟨q1, q2⟩ := hSw
    go_simp
  try simp only [Act.put, List.setIfInBounds_toArray, List.set_cons_zero, List.set_cons_succ]
  refine wpAnyH_take (i := 4) (v := .pointer (some ⟨p, 0, none⟩)) (by rw [HO.out]; simp only [List.getElem?_toArray, List.getElem?_cons_succ, List.getElem?_cons_zero]; rfl) (by rw [HO.out]; kernel_rfl) (by rw [HO.out]; kernel_rfl) (by rw [HO.out]; kernel_rfl) (by rw [HQ.out]; exact fun _ _ _ h => h) (Or.inl ⟨by rfl, ?_⟩) hS ?_
  · intro w' hSw
    go_simp
  try simp only [Act.put, List.setIfInBounds_toArray, List.set_cons_zero, List.set_cons_succ]
  refine wpAnyH_take (i := 5) (v := .pointer (some ⟨p, 0, none⟩)) (by rw [HO.out]; simp only [List.getElem?_toArray, List.getElem?_cons_succ, List.getElem?_cons_zero]; rfl) (by rw [HO.out]; kernel_rfl) (by rw [HO.out]; kernel_rfl) (by rw [HO.out]; kernel_rfl) (by rw [HQ.out]; exact fun _ _ _ h => h) (Or.inl ⟨by rfl, ?_⟩) hS ?_
  · intro w' hSw
    go_simp
  try simp only [Act.put, List.setIfInBounds_toArray, List.set_cons_zero, List.set_cons_succ]
  refine wpAnyH_take (i := 6) (v := .pointer (some ⟨p, 9, none⟩)) (by rw [HO.out]; simp only [List.getElem?_toArray, List.getElem?_cons_succ, List.getElem?_cons_zero]; rfl) (by rw [HO.out]; kernel_rfl) (by rw [HO.out]; kernel_rfl) (by rw [HO.out]; kernel_rfl) (by rw [HQ.out]; exact fun _ _ _ h => h) (Or.inl ⟨by rfl, ?_⟩) hS ?_
  · intro w' hSw
    go_simp
  try simp only [Act.put, List.setIfInBounds_toArray, List.set_cons_zero, List.set_cons_succ]
  refine wpAnyH_take (i := 7) (v := .slice ua ul uc) (by rw [HO.out]; simp only [List.getElem?_toArray, List.getElem?_cons_succ, List.getElem?_cons_zero]; rfl) (by rw [HO.out]; kernel_rfl) (by rw [HO.out]; kernel_rfl) (by rw [HO.out]; kernel_rfl) (by rw [HQ.out]; exact fun _ _ _ h => h) (Or.inl ⟨by rfl, ?_⟩) hS ?_
  · intro w' hSw
    obtain ⟨q1, q2⟩ := hSw
    go_simp
  try simp only [Act.put, List.setIfInBounds_toArray, List.set_cons_zero, List.set_cons_succ]
  refine wpAnyH_ready (rs := [8]) (by rw [HO.out]; kernel_rfl) (by simp) ?_
  refine AllReadyH.cons (o := _) (by rw [HO.out]; simp only [List.getElem?_toArray, List.getElem?_cons_succ, List.getElem?_cons_zero]; rfl) (fun K8 hK8 => ?_) AllReadyH.nil
  go_simp
  refine (HPg.out _).mono ?_
  rintro e wq ⟨rfl, hwq⟩
  obtain rfl := hwq.symm
  refine hK8.out _ _ hS (fun hS1 => ?_)
  try simp only [Act.put, List.setIfInBounds_toArray, List.set_cons_zero, List.set_cons_succ]
  refine wpAnyH_take (i := 9) (v := .int .i64 (2 + (n2 : Int))) (by rw [HO.out]; simp only [List.getElem?_toArray, List.getElem?_cons_succ, List.getElem?_cons_zero]; rfl) (by rw [HO.out]; kernel_rfl) (by rw [HO.out]; kernel_rfl) (by rw [HO.out]; kernel_rfl) (by rw [HQ.out]; exact fun _ _ _ h => h) (Or.inl ⟨by rfl, ?_⟩) hS1 ?_
  · intro w' hSw
    have a1 : IntKind.i64.wrap (2 + (n2 : Int)) = 2 + (n2 : Int) := wrap_sm (by omega) (by omega)
    go_simp
  try simp only [Act.put, List.setIfInBounds_toArray, List.set_cons_zero, List.set_cons_succ]
  refine wpAnyH_take (i := 10) (v := .int .i64 (2 + (n2 : Int) + 1)) (by rw [HO.out]; simp only [List.getElem?_toArray, List.getElem?_cons_succ, List.getElem?_cons_zero]; rfl) (by rw [HO.out]; kernel_rfl) (by rw [HO.out]; kernel_rfl) (by rw [HO.out]; kernel_rfl) (by rw [HQ.out]; exact fun _ _ _ h => h) (Or.inl ⟨by rfl, ?_⟩) hS1 ?_
  · intro w' hSw
    have a1 : IntKind.i64.wrap (2 + (n2 : Int) + 1) = 2 + (n2 : Int) + 1 := wrap_sm (by omega) (by omega)
    go_simp
  try simp only [Act.put, List.setIfInBounds_toArray, List.set_cons_zero, List.set_cons_succ]
  refine wpAnyH_take (i := 11) (v := .bool false) (by rw [HO.out]; simp only [List.getElem?_toArray, List.getElem?_cons_succ, List.getElem?_cons_zero]; rfl) (by rw [HO.out]; kernel_rfl) (by rw [HO.out]; kernel_rfl) (by rw [HO.out]; kernel_rfl) (by rw [HQ.out]; exact fun _ _ _ h => h) (Or.inl ⟨by rfl, ?_⟩) hS1 ?_
  · intro w' hSw
    have hlt := hltI
    go_simp
  try simp only [Act.put, List.setIfInBounds_toArray, List.set_cons_zero, List.set_cons_succ]
  refine wpAnyH_done (by rw [HO.out]; kernel_rfl) ?_ _
  rw [HQ.out]
  refine NoPanic.normal ?_
  go_wp2_with fail
  refine wp_region_noPanic ?_
  refine name_ops ?_
  intro O QQ HO HQ
  refine wp_region_held_drew (S := (fun W => W.cell? ⟨p, 13, none⟩ = some (wrF db nx))) (by kernel_rfl) c13 (fun hS => ?_)
  rw [show O.size = 7 by rw [HO.out]; rfl]
  refine wpAnyH_take (i := 0) (v := .pointer (some ⟨p, 0, none⟩)) (by rw [HO.out]; simp only [List.getElem?_toArray, List.getElem?_cons_succ, List.getElem?_cons_zero]; rfl) (by rw [HO.out]; kernel_rfl) (by rw [HO.out]; kernel_rfl) (by rw [HO.out]; kernel_rfl) (by rw [HQ.out]; exact fun _ _ _ h => h) (Or.inl ⟨by rfl, ?_⟩) hS ?_
  · intro w' hSw
    go_simp
  try simp only [Act.put, List.setIfInBounds_toArray, List.set_cons_zero, List.set_cons_succ]
  refine wpAnyH_take (i := 1) (v := .pointer (some ⟨p, 0, none⟩)) (by rw [HO.out]; simp only [List.getElem?_toArray, List.getElem?_cons_succ, List.getElem?_cons_zero]; rfl) (by rw [HO.out]; kernel_rfl) (by rw [HO.out]; kernel_rfl) (by rw [HO.out]; kernel_rfl) (by rw [HQ.out]; exact fun _ _ _ h => h) (Or.inl ⟨by rfl, ?_⟩) hS ?_
  · intro w' hSw
    go_simp
  try simp only [Act.put, List.setIfInBounds_toArray, List.set_cons_zero, List.set_cons_succ]
  refine wpAnyH_take (i := 2) (v := .pointer (some ⟨p, 13, none⟩)) (by rw [HO.out]; simp only [List.getElem?_toArray, List.getElem?_cons_succ, List.getElem?_cons_zero]; rfl) (by rw [HO.out]; kernel_rfl) (by rw [HO.out]; kernel_rfl) (by rw [HO.out]; kernel_rfl) (by rw [HQ.out]; exact fun _ _ _ h => h) (Or.inl ⟨by rfl, ?_⟩) hS ?_
  · intro w' hSw
    go_simp
  try simp only [Act.put, List.setIfInBounds_toArray, List.set_cons_zero, List.set_cons_succ]
  refine wpAnyH_take (i := 3) (v := wrF db nx) (by rw [HO.out]; simp only [List.getElem?_toArray, List.getElem?_cons_succ, List.getElem?_cons_zero]; rfl) (by rw [HO.out]; kernel_rfl) (by rw [HO.out]; kernel_rfl) (by rw [HO.out]; kernel_rfl) (by rw [HQ.out]; exact fun _ _ _ h => h) (Or.inl ⟨by rfl, ?_⟩) hS ?_
  · intro w' hSw
    have q1 := hSw
    go_simp
  try simp only [Act.put, List.setIfInBounds_toArray, List.set_cons_zero, List.set_cons_succ]
  refine wpAnyH_ready (rs := [4]) (by rw [HO.out]; kernel_rfl) (by simp) ?_
  refine AllReadyH.cons (o := _) (by rw [HO.out]; simp only [List.getElem?_toArray, List.getElem?_cons_succ, List.getElem?_cons_zero]; rfl) (fun K4 hK4 => ?_) AllReadyH.nil
  rw [if_pos (by rfl)]
  refine wp_make_op (.const (.int .i64 256)) (.const (.int .i64 256)) rfl 256 (by decide) rfl rfl ?_
  intro w2 ho2 hb2'
  have hb2 : Below w1.heap.size w1 w2 := (Below.refl w1.heap.size w1).drew.drew.trans hb2'
  have hx2 := HX1.out.below hb2
  refine hK4.out _ _ hx2.m.v.cells.c13 (fun hS1 => ?_)
  have HBV : Hid (BV w2 (some ⟨w1.heap.size, 0, none⟩) (List.replicate 256 0)) := own_bv256 ho2
  have HWc := HW.out w2 hb2 HBV.out
  have HB2 : Hid (Below w1.heap.size w1 w2) := hb2
  clear ho2 hb2' hb2 hx2 HW
  try simp only [Act.put, List.setIfInBounds_toArray, List.set_cons_zero, List.set_cons_succ]
  refine wpAnyH_ready (rs := [5]) (by rw [HO.out]; kernel_rfl) (by simp) ?_
  refine AllReadyH.cons (o := _) (by rw [HO.out]; simp only [List.getElem?_toArray, List.getElem?_cons_succ, List.getElem?_cons_zero]; rfl) (fun K5 hK5 => ?_) AllReadyH.nil
  simp only [wrF]
  go_simp
  refine HWc.mono ?_
  rintro e w3 ⟨rfl, hx3, ho3⟩
  refine hK5.out _ _ hx3.m.v.cells.c13 (fun hS2 => ?_)
  have HX3 : Hid (Sx w3 ⟨p, dp, nb, mb, []⟩ _ _ t f t' f' (.slice ua ul uc) sb db nx) := hx3
  have HO3 : Hid (D.Off (Pl.K ⟨p, dp, nb, mb, []⟩) w1 w3) := (off_below HB2.out).trans ho3
  clear HWc hx3 ho3 HBV HB2
  refine wpAnyH_take (i := 6) (v := .int .i64 er) (by rw [HO.out]; simp only [List.getElem?_toArray, List.getElem?_cons_succ, List.getElem?_cons_zero]; rfl) (by rw [HO.out]; kernel_rfl) (by rw [HO.out]; kernel_rfl) (by rw [HO.out]; kernel_rfl) (by rw [HQ.out]; exact fun _ _ _ h => h) (Or.inl ⟨by rfl, ?_⟩) hS2 ?_
  · intro w' hSw
    go_simp
  try simp only [Act.put, List.setIfInBounds_toArray, List.set_cons_zero, List.set_cons_succ]
  refine wpAnyH_done (by rw [HO.out]; kernel_rfl) ?_ _
  rw [HQ.out]
  refine NoPanic.normal ?_
  go_wp2_with fail
  exact bodyPost_ret (v := .tuple #[.pointer none, .int .i64 er]) (by simp [results, Tryz.results12, go_sem]) rfl (by unfold FmtPost; exact ⟨.inr ⟨hw, rfl⟩, HX3.out.dk, off_new HB1.out HO3.out hp⟩)
set_option maxHeartbeats 3200000 in
theorem format_main (dp nb mb : Nat) (d : D.DS) (us2 : List Int) (w : World) (h : D.Dk w dp nb mb d) (hs : ¬ d.room < 3 + nPages (B.makeN d.room)) (hw : D.writeE d 1 (List.replicate 256 0) = 0) (hus2 : cntN (blankS d.room) ≤ (freeL (blankS d.room)).length → onceR d.room (rootsS d.room) (mapL (blankS d.room)) = some us2) :
    Calls Tryz.prog 12 #[.pointer (some ⟨dp, 0, none⟩)] w fun e w' => FmtPost w dp nb mb (fmtR d us2) e w' := by
  have eR : fmtR d us2 = settleR (blankS d.room) (D.writeS d 1 (List.replicate 256 0)) 0 us2 := by unfold fmtR; rw [if_neg hs, if_neg (by simpa using hw)]
  rw [eR]
  have hlt : ¬ d.room < 3 + nPages (B.makeN d.room) := hs
  have hr4 : 1 ≤ d.room := by omega
  have HB := blank_s dp nb mb d w h
  have hr := h.1.room
  obtain ⟨n2, hn2⟩ : ∃ n, n = nPages (B.makeN d.room) := ⟨_, rfl⟩
  have hn2' : n2 ≤ 10 := by have := makeN_le d.room; rw [hn2]; unfold nPages; omega
  have HN2 : Hid (n2 = nPages (B.makeN d.room)) := hn2
  have HUL : Hid ((rootsS d.room).length = B.makeN d.room) := rootsK_len _ _
  have HPgA : Hid (∀ ua uc W, Calls Tryz.prog 49 #[.slice ua (rootsS d.room).length uc] W fun e w' => e = .returned (.int .i64 (n2 : Nat)) ∧ w' = W) := fun ua uc W => by
    have := pages_any ua (rootsS d.room).length uc W (by have := makeN_le d.room; rw [HUL.out]; omega)
    rw [HUL.out, ← hn2] at this
    rw [HUL.out]; exact this
  clear hn2
  have hltI : decide ((d.room : Int) < 2 + (n2 : Int) + 1) = false := by simp; rw [HN2.out]; omega
  have HWA : Hid (∀ (p : Nat) (w1 : World) (t f t' f' u : Value) (sb db nx : Nat), Sx w1 ⟨p, dp, nb, mb, []⟩ (blankS d.room) d t f t' f' u sb db nx → ∀ W, Below w1.heap.size w1 W → BV W (some ⟨w1.heap.size, 0, none⟩) (List.replicate 256 0) → Calls Tryz.prog 166 #[.int .i64 1, .slice (some ⟨w1.heap.size, 0, none⟩) 256 256, .pointer (some ⟨nx, 0, none⟩), .pointer (some ⟨db, 0, none⟩)] W fun r w' => r = .returned (.int .i64 (D.writeE d 1 (List.replicate 256 0))) ∧ Sx w' ⟨p, dp, nb, mb, []⟩ ((blankS d.room).note (D.writeE d 1 (List.replicate 256 0))) (D.writeS d 1 (List.replicate 256 0)) t f t' f' u sb db nx ∧ D.Off (Pl.K ⟨p, dp, nb, mb, []⟩) W w') := by
    intro p w1 t f t' f' u sb db nx hx W hW hv
    have := write_sx 1 (some ⟨w1.heap.size, 0, none⟩) 256 (List.replicate 256 0) W (hx.below hW) hv (by simp) (fun b off e hm => by simp at e; have := hx.lt b (Pl.sub _ b hm); omega)
    rw [List.length_replicate] at this
    exact this
  have HSt : Hid (∀ (p : Nat) (w1 : World) (t f t' f' u : Value) (sb db nx : Nat), Sx w1 ⟨p, dp, nb, mb, []⟩ (blankS d.room) (D.writeS d 1 (List.replicate 256 0)) t f t' f' u sb db nx → Calls Tryz.prog 50 #[.pointer (some ⟨p, 0, none⟩), .int .i64 0] w1 fun e w' => Done ⟨p, dp, nb, mb, []⟩ w1 (settleR (blankS d.room) (D.writeS d 1 (List.replicate 256 0)) 0 us2) e w') := by
    intro p w1 t f t' f' u sb db nx hx
    have e1 : tabL (blankS d.room) = [] := by unfold tabL tcN; simp [blankS, nPages, ints]
    exact settle_any 0 us2 w1 hx (blankS_ok hr) (by decide) (by decide) hr4 (fun hc => by rw [e1]; exact hus2 hc)
  rw [hw] at HWA
  generalize D.writeS d 1 (List.replicate 256 0) = d2 at *
  generalize settleR (blankS d.room) d2 0 us2 = R at *
  obtain ⟨r1, r2, r3⟩ := R
  clear h eR hlt hs hus2 hw
  go_enter Tryz.func12, Tryz.ntmps12
  go_wp2_with (first | (go_at_call 48; refine HB.mono ?_; rintro e w1 ⟨p, t, f, t', f', u, sb, db, nx, rfl, hp, hx1, hb1⟩; have HX1 : Hid (Sx w1 ⟨p, dp, nb, mb, []⟩ (blankS d.room) d t f t' f' u sb db nx) := hx1; have HB1 : Hid (Below w.heap.size w w1) := hb1; have hul := hx1.m.hu; obtain ⟨ua, uc, rfl, _⟩ := hul; have c10 : w1.cell? ⟨p, 10, none⟩ = some (.int .i64 (d.room : Int)) := hx1.m.v.cells.c10; have c9 : w1.cell? ⟨p, 9, none⟩ = some (.slice ua (rootsS d.room).length uc) := hx1.m.v.cells.c9; have HPg : Hid _ := HPgA.out ua uc; have c13 := hx1.m.v.cells.c13; have HW : Hid _ := HWA.out _ _ _ _ _ _ _ _ _ _ hx1; clear hx1 hb1 HB) | fail)
  obtain ⟨ul, hule⟩ : ∃ ul, ul = (rootsS d.room).length := ⟨_, rfl⟩
  have HULE : Hid (ul = (rootsS d.room).length) := hule
  rw [show (blankS d.room).us.length = ul from hule.symm] at *
  rw [← hule] at HPg c9
  clear hule HPgA HWA
  refine wp_region_noPanic ?_
  refine name_ops ?_
  intro O QQ HO HQ
  refine wp_region_held_drew (S := (fun W => W.cell? ⟨p, 10, none⟩ = some (.int .i64 (d.room : Int)) ∧ W.cell? ⟨p, 9, none⟩ = some (.slice ua ul uc))) (by kernel_rfl) ⟨c10, c9⟩ (fun hS => ?_)
  rw [show O.size = 12 by rw [HO.out]; rfl]
  refine wpAnyH_take (i := 0) (v := .pointer (some ⟨p, 0, none⟩)) (by rw [HO.out]; simp only [List.getElem?_toArray, List.getElem?_cons_succ, List.getElem?_cons_zero]; rfl) (by rw [HO.out]; kernel_rfl) (by rw [HO.out]; kernel_rfl) (by rw [HO.out]; kernel_rfl) (by rw [HQ.out]; exact fun _ _ _ h => h) (Or.inl ⟨by rfl, ?_⟩) hS ?_
  · intro w' hSw
    go_simp
  try simp only [Act.put, List.setIfInBounds_toArray, List.set_cons_zero, List.set_cons_succ]
  refine wpAnyH_take (i := 1) (v := .pointer (some ⟨p, 0, none⟩)) (by rw [HO.out]; simp only [List.getElem?_toArray, List.getElem?_cons_succ, List.getElem?_cons_zero]; rfl) (by rw [HO.out]; kernel_rfl) (by rw [HO.out]; kernel_rfl) (by rw [HO.out]; kernel_rfl) (by rw [HQ.out]; exact fun _ _ _ h => h) (Or.inl ⟨by rfl, ?_⟩) hS ?_
  · intro w' hSw
    go_simp
  try simp only [Act.put, List.setIfInBounds_toArray, List.set_cons_zero, List.set_cons_succ]
  refine wpAnyH_take (i := 2) (v := .pointer (some ⟨p, 10, none⟩)) (by rw [HO.out]; simp only [List.getElem?_toArray, List.getElem?_cons_succ, List.getElem?_cons_zero]; rfl) (by rw [HO.out]; kernel_rfl) (by rw [HO.out]; kernel_rfl) (by rw [HO.out]; kernel_rfl) (by rw [HQ.out]; exact fun _ _ _ h => h) (Or.inl ⟨by rfl, ?_⟩) hS ?_
  · intro w' hSw
    go_simp
  try simp only [Act.put, List.setIfInBounds_toArray, List.set_cons_zero, List.set_cons_succ]
  refine wpAnyH_take (i := 3) (v := .int .i64 (d.room : Int)) (by rw [HO.out]; simp only [List.getElem?_toArray, List.getElem?_cons_succ, List.getElem?_cons_zero]; rfl) (by rw [HO.out]; kernel_rfl) (by rw [HO.out]; kernel_rfl) (by rw [HO.out]; kernel_rfl) (by rw [HQ.out]; exact fun _ _ _ h => h) (Or.inl ⟨by rfl, ?_⟩) hS ?_
  · intro w' hSw
    obtain ⟨q1, q2⟩ := hSw
    go_simp
  try simp only [Act.put, List.setIfInBounds_toArray, List.set_cons_zero, List.set_cons_succ]
  refine wpAnyH_take (i := 4) (v := .pointer (some ⟨p, 0, none⟩)) (by rw [HO.out]; simp only [List.getElem?_toArray, List.getElem?_cons_succ, List.getElem?_cons_zero]; rfl) (by rw [HO.out]; kernel_rfl) (by rw [HO.out]; kernel_rfl) (by rw [HO.out]; kernel_rfl) (by rw [HQ.out]; exact fun _ _ _ h => h) (Or.inl ⟨by rfl, ?_⟩) hS ?_
  · intro w' hSw
    go_simp
  try simp only [Act.put, List.setIfInBounds_toArray, List.set_cons_zero, List.set_cons_succ]
  refine wpAnyH_take (i := 5) (v := .pointer (some ⟨p, 0, none⟩)) (by rw [HO.out]; simp only [List.getElem?_toArray, List.getElem?_cons_succ, List.getElem?_cons_zero]; rfl) (by rw [HO.out]; kernel_rfl) (by rw [HO.out]; kernel_rfl) (by rw [HO.out]; kernel_rfl) (by rw [HQ.out]; exact fun _ _ _ h => h) (Or.inl ⟨by rfl, ?_⟩) hS ?_
  · intro w' hSw
    go_simp
  try simp only [Act.put, List.setIfInBounds_toArray, List.set_cons_zero, List.set_cons_succ]
  refine wpAnyH_take (i := 6) (v := .pointer (some ⟨p, 9, none⟩)) (by rw [HO.out]; simp only [List.getElem?_toArray, List.getElem?_cons_succ, List.getElem?_cons_zero]; rfl) (by rw [HO.out]; kernel_rfl) (by rw [HO.out]; kernel_rfl) (by rw [HO.out]; kernel_rfl) (by rw [HQ.out]; exact fun _ _ _ h => h) (Or.inl ⟨by rfl, ?_⟩) hS ?_
  · intro w' hSw
    go_simp
  try simp only [Act.put, List.setIfInBounds_toArray, List.set_cons_zero, List.set_cons_succ]
  refine wpAnyH_take (i := 7) (v := .slice ua ul uc) (by rw [HO.out]; simp only [List.getElem?_toArray, List.getElem?_cons_succ, List.getElem?_cons_zero]; rfl) (by rw [HO.out]; kernel_rfl) (by rw [HO.out]; kernel_rfl) (by rw [HO.out]; kernel_rfl) (by rw [HQ.out]; exact fun _ _ _ h => h) (Or.inl ⟨by rfl, ?_⟩) hS ?_
  · intro w' hSw
    obtain ⟨q1, q2⟩ := hSw
    go_simp
  try simp only [Act.put, List.setIfInBounds_toArray, List.set_cons_zero, List.set_cons_succ]
  refine wpAnyH_ready (rs := [8]) (by rw [HO.out]; kernel_rfl) (by simp) ?_
  refine AllReadyH.cons (o := _) (by rw [HO.out]; simp only [List.getElem?_toArray, List.getElem?_cons_succ, List.getElem?_cons_zero]; rfl) (fun K8 hK8 => ?_) AllReadyH.nil
  go_simp
  refine (HPg.out _).mono ?_
  rintro e wq ⟨rfl, hwq⟩
  obtain rfl := hwq.symm
  refine hK8.out _ _ hS (fun hS1 => ?_)
  try simp only [Act.put, List.setIfInBounds_toArray, List.set_cons_zero, List.set_cons_succ]
  refine wpAnyH_take (i := 9) (v := .int .i64 (2 + (n2 : Int))) (by rw [HO.out]; simp only [List.getElem?_toArray, List.getElem?_cons_succ, List.getElem?_cons_zero]; rfl) (by rw [HO.out]; kernel_rfl) (by rw [HO.out]; kernel_rfl) (by rw [HO.out]; kernel_rfl) (by rw [HQ.out]; exact fun _ _ _ h => h) (Or.inl ⟨by rfl, ?_⟩) hS1 ?_
  · intro w' hSw
    have a1 : IntKind.i64.wrap (2 + (n2 : Int)) = 2 + (n2 : Int) := wrap_sm (by omega) (by omega)
    go_simp
  try simp only [Act.put, List.setIfInBounds_toArray, List.set_cons_zero, List.set_cons_succ]
  refine wpAnyH_take (i := 10) (v := .int .i64 (2 + (n2 : Int) + 1)) (by rw [HO.out]; simp only [List.getElem?_toArray, List.getElem?_cons_succ, List.getElem?_cons_zero]; rfl) (by rw [HO.out]; kernel_rfl) (by rw [HO.out]; kernel_rfl) (by rw [HO.out]; kernel_rfl) (by rw [HQ.out]; exact fun _ _ _ h => h) (Or.inl ⟨by rfl, ?_⟩) hS1 ?_
  · intro w' hSw
    have a1 : IntKind.i64.wrap (2 + (n2 : Int) + 1) = 2 + (n2 : Int) + 1 := wrap_sm (by omega) (by omega)
    go_simp
  try simp only [Act.put, List.setIfInBounds_toArray, List.set_cons_zero, List.set_cons_succ]
  refine wpAnyH_take (i := 11) (v := .bool false) (by rw [HO.out]; simp only [List.getElem?_toArray, List.getElem?_cons_succ, List.getElem?_cons_zero]; rfl) (by rw [HO.out]; kernel_rfl) (by rw [HO.out]; kernel_rfl) (by rw [HO.out]; kernel_rfl) (by rw [HQ.out]; exact fun _ _ _ h => h) (Or.inl ⟨by rfl, ?_⟩) hS1 ?_
  · intro w' hSw
    have hlt := hltI
    go_simp
  try simp only [Act.put, List.setIfInBounds_toArray, List.set_cons_zero, List.set_cons_succ]
  refine wpAnyH_done (by rw [HO.out]; kernel_rfl) ?_ _
  rw [HQ.out]
  refine NoPanic.normal ?_
  go_wp2_with fail
  refine wp_region_noPanic ?_
  refine name_ops ?_
  intro O QQ HO HQ
  refine wp_region_held_drew (S := (fun W => W.cell? ⟨p, 13, none⟩ = some (wrF db nx))) (by kernel_rfl) c13 (fun hS => ?_)
  rw [show O.size = 7 by rw [HO.out]; rfl]
  refine wpAnyH_take (i := 0) (v := .pointer (some ⟨p, 0, none⟩)) (by rw [HO.out]; simp only [List.getElem?_toArray, List.getElem?_cons_succ, List.getElem?_cons_zero]; rfl) (by rw [HO.out]; kernel_rfl) (by rw [HO.out]; kernel_rfl) (by rw [HO.out]; kernel_rfl) (by rw [HQ.out]; exact fun _ _ _ h => h) (Or.inl ⟨by rfl, ?_⟩) hS ?_
  · intro w' hSw
    go_simp
  try simp only [Act.put, List.setIfInBounds_toArray, List.set_cons_zero, List.set_cons_succ]
  refine wpAnyH_take (i := 1) (v := .pointer (some ⟨p, 0, none⟩)) (by rw [HO.out]; simp only [List.getElem?_toArray, List.getElem?_cons_succ, List.getElem?_cons_zero]; rfl) (by rw [HO.out]; kernel_rfl) (by rw [HO.out]; kernel_rfl) (by rw [HO.out]; kernel_rfl) (by rw [HQ.out]; exact fun _ _ _ h => h) (Or.inl ⟨by rfl, ?_⟩) hS ?_
  · intro w' hSw
    go_simp
  try simp only [Act.put, List.setIfInBounds_toArray, List.set_cons_zero, List.set_cons_succ]
  refine wpAnyH_take (i := 2) (v := .pointer (some ⟨p, 13, none⟩)) (by rw [HO.out]; simp only [List.getElem?_toArray, List.getElem?_cons_succ, List.getElem?_cons_zero]; rfl) (by rw [HO.out]; kernel_rfl) (by rw [HO.out]; kernel_rfl) (by rw [HO.out]; kernel_rfl) (by rw [HQ.out]; exact fun _ _ _ h => h) (Or.inl ⟨by rfl, ?_⟩) hS ?_
  · intro w' hSw
    go_simp
  try simp only [Act.put, List.setIfInBounds_toArray, List.set_cons_zero, List.set_cons_succ]
  refine wpAnyH_take (i := 3) (v := wrF db nx) (by rw [HO.out]; simp only [List.getElem?_toArray, List.getElem?_cons_succ, List.getElem?_cons_zero]; rfl) (by rw [HO.out]; kernel_rfl) (by rw [HO.out]; kernel_rfl) (by rw [HO.out]; kernel_rfl) (by rw [HQ.out]; exact fun _ _ _ h => h) (Or.inl ⟨by rfl, ?_⟩) hS ?_
  · intro w' hSw
    have q1 := hSw
    go_simp
  try simp only [Act.put, List.setIfInBounds_toArray, List.set_cons_zero, List.set_cons_succ]
  refine wpAnyH_ready (rs := [4]) (by rw [HO.out]; kernel_rfl) (by simp) ?_
  refine AllReadyH.cons (o := _) (by rw [HO.out]; simp only [List.getElem?_toArray, List.getElem?_cons_succ, List.getElem?_cons_zero]; rfl) (fun K4 hK4 => ?_) AllReadyH.nil
  rw [if_pos (by rfl)]
  refine wp_make_op (.const (.int .i64 256)) (.const (.int .i64 256)) rfl 256 (by decide) rfl rfl ?_
  intro w2 ho2 hb2'
  have hb2 : Below w1.heap.size w1 w2 := (Below.refl w1.heap.size w1).drew.drew.trans hb2'
  have hx2 := HX1.out.below hb2
  refine hK4.out _ _ hx2.m.v.cells.c13 (fun hS1 => ?_)
  have HBV : Hid (BV w2 (some ⟨w1.heap.size, 0, none⟩) (List.replicate 256 0)) := own_bv256 ho2
  have HWc := HW.out w2 hb2 HBV.out
  have HB2 : Hid (Below w1.heap.size w1 w2) := hb2
  clear ho2 hb2' hb2 hx2 HW
  try simp only [Act.put, List.setIfInBounds_toArray, List.set_cons_zero, List.set_cons_succ]
  refine wpAnyH_ready (rs := [5]) (by rw [HO.out]; kernel_rfl) (by simp) ?_
  refine AllReadyH.cons (o := _) (by rw [HO.out]; simp only [List.getElem?_toArray, List.getElem?_cons_succ, List.getElem?_cons_zero]; rfl) (fun K5 hK5 => ?_) AllReadyH.nil
  simp only [wrF]
  go_simp
  refine HWc.mono ?_
  rintro e w3 ⟨rfl, hx3, ho3⟩
  refine hK5.out _ _ hx3.m.v.cells.c13 (fun hS2 => ?_)
  have HX3 : Hid (Sx w3 ⟨p, dp, nb, mb, []⟩ _ _ t f t' f' (.slice ua ul uc) sb db nx) := hx3
  have HO3 : Hid (D.Off (Pl.K ⟨p, dp, nb, mb, []⟩) w1 w3) := (off_below HB2.out).trans ho3
  clear HWc hx3 ho3 HBV HB2
  refine wpAnyH_take (i := 6) (v := .int .i64 0) (by rw [HO.out]; simp only [List.getElem?_toArray, List.getElem?_cons_succ, List.getElem?_cons_zero]; rfl) (by rw [HO.out]; kernel_rfl) (by rw [HO.out]; kernel_rfl) (by rw [HO.out]; kernel_rfl) (by rw [HQ.out]; exact fun _ _ _ h => h) (Or.inl ⟨by rfl, ?_⟩) hS2 ?_
  · intro w' hSw
    go_simp
  try simp only [Act.put, List.setIfInBounds_toArray, List.set_cons_zero, List.set_cons_succ]
  refine wpAnyH_done (by rw [HO.out]; kernel_rfl) ?_ _
  rw [HQ.out]
  refine NoPanic.normal ?_
  rw [note_zero] at HX3
  have HS3 := HSt.out _ _ _ _ _ _ _ _ _ _ HX3.out
  unfold Done at HS3
  clear HSt
  by_cases hr1 : r1 = 0
  · subst hr1
    go_wp2_with (first | (go_at_call 50; refine HS3.mono ?_; rintro e w5 ⟨rfl, hy5, ho5⟩; have HY5 : Hid (Sy w5 ⟨p, dp, nb, mb, []⟩ r2 r3) := hy5; have HO5 : Hid (D.Off (Pl.K ⟨p, dp, nb, mb, []⟩) w1 w5) := HO3.out.trans ho5; clear hy5 ho5 HS3) | fail)
    exact bodyPost_ret (v := .tuple #[.pointer (some ⟨p, 0, none⟩), .int .i64 0]) (by simp [results, Tryz.results12, go_sem]) rfl (by unfold FmtPost; exact ⟨.inl ⟨rfl, p, rfl, hp, HY5.out⟩, Sy.dk HY5.out, off_new HB1.out HO5.out hp⟩)
  · have hr1' : (r1 == 0) = false := by simpa using hr1
    go_wp2_with (first | (go_at_call 50; refine HS3.mono ?_; rintro e w5 ⟨rfl, hy5, ho5⟩; have HY5 : Hid (Sy w5 ⟨p, dp, nb, mb, []⟩ r2 r3) := hy5; have HO5 : Hid (D.Off (Pl.K ⟨p, dp, nb, mb, []⟩) w1 w5) := HO3.out.trans ho5; clear hy5 ho5 HS3) | fail)
    exact bodyPost_ret (v := .tuple #[.pointer none, .int .i64 r1]) (by simp [results, Tryz.results12, go_sem]) rfl (by unfold FmtPost; exact ⟨.inr ⟨hr1, rfl⟩, Sy.dk HY5.out, off_new HB1.out HO5.out hp⟩)
theorem format_any (dp nb mb : Nat) (d : D.DS) (us2 : List Int) (w : World) (h : D.Dk w dp nb mb d) (hus2 : cntN (blankS d.room) ≤ (freeL (blankS d.room)).length → onceR d.room (rootsS d.room) (mapL (blankS d.room)) = some us2) :
    Calls Tryz.prog 12 #[.pointer (some ⟨dp, 0, none⟩)] w fun e w' => FmtPost w dp nb mb (fmtR d us2) e w' := by
  by_cases hs : d.room < 3 + nPages (B.makeN d.room)
  · exact format_small dp nb mb d us2 w h hs
  · by_cases hw : D.writeE d 1 (List.replicate 256 0) = 0
    · exact format_main dp nb mb d us2 w h hs hw hus2
    · exact format_bad dp nb mb d us2 w h hs hw
end Go.Proofs.YtbklnadlbcndlaaGreat
namespace Go.Proofs.YtbklnadlbcndlaaGreat
set_option maxRecDepth 20000
open Go.RowKit
set_option linter.unusedVariables false
theorem hasI_nat' (m : List Int) (z : Int) (h : 0 ≤ z) : B.hasI m z = B.hasB m z.toNat := by
  obtain ⟨n, rfl⟩ := Int.eq_ofNat_of_zero_le h
  exact B.hasI_nat m n
theorem withI_nat {m : List Int} {z : Int} (on : Bool) (h0 : 0 ≤ z) (h : z.toNat < 8 * m.length) : B.withI m z on = B.setB m z.toNat on := by
  unfold B.withI; rw [if_pos ⟨h0, h⟩]
theorem has_with {m : List Int} {z : Int} (on : Bool) (h0 : 0 ≤ z) (h : z.toNat < 8 * m.length) (n : Nat) : B.hasB (B.withI m z on) n = if n = z.toNat then on else B.hasB m n := by
  rw [withI_nat on h0 h]
  exact B.hasB_setB z.toNat n on (by omega)
theorem has_zeros (k n : Nat) : B.hasB (List.replicate k 0) n = false := by
  unfold B.hasB B.byt
  rw [List.getD_eq_getElem?_getD, List.getElem?_replicate]
  split <;> simp
def Part (l : List Int) : Prop := l.Pairwise (fun a b => a ≠ 0 → b ≠ 0 → a ≠ b)
theorem Part.app {a b : List Int} (ha : Part a) (hb : Part b) (h : ∀ x ∈ a, ∀ y ∈ b, x ≠ 0 → y ≠ 0 → x ≠ y) : Part (a ++ b) := List.pairwise_append.2 ⟨ha, hb, h⟩
theorem once_some {bl : Nat} : ∀ {l m : List Int}, (∀ z ∈ l, z = 0 ∨ (2 ≤ z ∧ z < bl)) → Part l → (∀ z ∈ l, z ≠ 0 → B.hasB m z.toNat = false) → bl ≤ 8 * m.length → ∃ us, onceR bl m l = some us ∧ ∀ n, B.hasB us n = (B.hasB m n || decide (n ≠ 0 ∧ (n : Int) ∈ l))
  | [], m, _, _, _, _ => ⟨m, rfl, fun n => by simp⟩
  | z :: l, m, hin, hp, hm, hb => by
    have hp' := List.pairwise_cons.1 hp
    unfold onceR
    by_cases hz : z = 0
    · rw [if_pos hz]
      obtain ⟨us, h1, h2⟩ := once_some (l := l) (m := m) (fun y hy => hin y (List.mem_cons_of_mem _ hy)) hp'.2 (fun y hy => hm y (List.mem_cons_of_mem _ hy)) hb
      refine ⟨us, h1, fun n => ?_⟩
      rw [h2 n]
      congr 1
      rw [decide_eq_decide]
      constructor
      · exact fun h => ⟨h.1, List.mem_cons_of_mem _ h.2⟩
      · rintro ⟨h3, h4⟩
        refine ⟨h3, ?_⟩
        rcases List.mem_cons.1 h4 with h5 | h5
        · omega
        · exact h5
    · rw [if_neg hz]
      have hzr := (hin z (by simp)).resolve_left hz
      have hmz := hm z (by simp) hz
      have hlt : z.toNat < 8 * m.length := by omega
      rw [if_neg (by rintro (h | h); omega; rw [hasI_nat' m z (by omega), hmz] at h; cases h)]
      obtain ⟨us, h1, h2⟩ := once_some (l := l) (m := B.withI m z true) (fun y hy => hin y (List.mem_cons_of_mem _ hy)) hp'.2 (fun y hy hy0 => by
        rw [has_with true (by omega) hlt, if_neg]
        · exact hm y (List.mem_cons_of_mem _ hy) hy0
        · intro e
          have := hp'.1 y hy hz hy0
          have hyr := (hin y (List.mem_cons_of_mem _ hy)).resolve_left hy0
          omega) (by rw [withI_len]; exact hb)
      refine ⟨us, h1, fun n => ?_⟩
      rw [h2 n, has_with true (by omega) hlt]
      by_cases hn : n = z.toNat
      · rw [if_pos hn]
        have : (n ≠ 0 ∧ (n : Int) ∈ z :: l) := ⟨by omega, List.mem_cons.2 (Or.inl (by omega))⟩
        rw [decide_eq_true this]; simp
      · rw [if_neg hn]
        congr 1
        rw [decide_eq_decide]
        constructor
        · exact fun h => ⟨h.1, List.mem_cons_of_mem _ h.2⟩
        · rintro ⟨h3, h4⟩
          refine ⟨h3, ?_⟩
          rcases List.mem_cons.1 h4 with h5 | h5
          · omega
          · exact h5
theorem has_roots {bl : Nat} (h : 1 ≤ bl) (hb : bl ≤ 4096) (n : Nat) : B.hasB (rootsS bl) n = decide (n < 2) := by
  have hl : 1 ≤ B.makeN bl := by unfold B.makeN; omega
  show B.hasB (B.withI (B.withI (List.replicate (B.makeN bl) 0) ((0 : Nat) : Int) true) ((1 : Nat) : Int) true) n = _
  rw [has_with true (by decide) (by rw [withI_len, List.length_replicate]; simp; omega), has_with true (by decide) (by rw [List.length_replicate]; simp; omega), has_zeros]
  simp only [Int.toNat_natCast]
  by_cases h1 : n = 1
  · subst h1; simp
  · by_cases h0 : n = 0
    · subst h0; simp
    · rw [if_neg h1, if_neg h0]
      have : ¬ n < 2 := by omega
      simp [this]
theorem trim_get (l : List Int) (j i : Nat) (hj : ∀ k, j ≤ k → l.getD k 0 = 0) : (l.take (trimTo l j)).getD i 0 = l.getD i 0 := by
  induction j with
  | zero =>
    rw [hj i (Nat.zero_le _)]
    simp [trimTo]
  | succ j ih =>
    unfold trimTo
    by_cases h : l.getD j 0 = 0
    · rw [if_pos h]
      refine ih (fun k hk => ?_)
      by_cases e : k = j
      · rw [e]; exact h
      · exact hj k (by omega)
    · rw [if_neg h]
      by_cases hi : i < j + 1
      · rw [List.getD_eq_getElem?_getD, List.getD_eq_getElem?_getD, List.getElem?_take, if_pos hi]
      · rw [hj i (by omega), List.getD_eq_getElem?_getD, List.getElem?_take, if_neg hi]; rfl
theorem wide_get (tb : List Int) (id : Nat) (n : Int) (i : Nat) (h : 1 ≤ id) : (wideT tb id n).getD i 0 = if i = id - 1 then n else tb.getD i 0 := by
  unfold wideT
  rw [List.getD_eq_getElem?_getD, List.getElem?_set]
  by_cases e : id - 1 = i
  · rw [if_pos e, if_pos e.symm, if_pos (by simp; omega)]; rfl
  · rw [if_neg e, if_neg (fun h => e h.symm), List.getElem?_append, List.getD_eq_getElem?_getD]
    split
    · rfl
    · rename_i h2
      rw [List.getElem?_replicate, List.getElem?_eq_none (l := tb) (by omega)]
      split <;> rfl
theorem give_get (tb : List Int) (id : Nat) (n : Int) (i : Nat) (h : 1 ≤ id) : (giveT tb id n).getD i 0 = if i = id - 1 then n else tb.getD i 0 := by
  unfold giveT
  rw [trim_get, wide_get tb id n i h]
  intro k hk
  rw [List.getD_eq_getElem?_getD, List.getElem?_eq_none (by rw [wideT_len]; exact hk)]; rfl
theorem give_len (tb : List Int) (id : Nat) (n : Int) : (giveT tb id n).length ≤ max tb.length id := by
  unfold giveT
  rw [List.length_take, wideT_len]
  omega
theorem blk_get (tb : List Int) (i : Nat) : blkI tb ((i : Int) + 1) = tb.getD i 0 := by
  unfold blkI
  by_cases h : i < tb.length
  · rw [if_neg (by omega), show ((i : Int) + 1 - 1).toNat = i by omega]
  · rw [if_pos (by omega), List.getD_eq_getElem?_getD, List.getElem?_eq_none (by omega)]; rfl
theorem mem_get {l : List Int} {z : Int} (h : z ∈ l) : ∃ i, i < l.length ∧ l.getD i 0 = z := by
  obtain ⟨i, hi, e⟩ := List.getElem_of_mem h
  exact ⟨i, hi, by rw [List.getD_eq_getElem?_getD, List.getElem?_eq_getElem hi]; exact e⟩
theorem get_mem {l : List Int} {i : Nat} (h : l.getD i 0 ≠ 0) : l.getD i 0 ∈ l ∧ i < l.length := by
  by_cases hi : i < l.length
  · rw [List.getD_eq_getElem?_getD, List.getElem?_eq_getElem hi]; exact ⟨List.getElem_mem hi, hi⟩
  · rw [List.getD_eq_getElem?_getD, List.getElem?_eq_none (by omega)] at h; exact absurd rfl h
def Inj (tb : List Int) : Prop := ∀ i j, tb.getD i 0 ≠ 0 → tb.getD i 0 = tb.getD j 0 → i = j
theorem Inj.part {tb : List Int} (h : Inj tb) : Part tb := by
  unfold Part
  rw [List.pairwise_iff_getElem]
  intro i j hi hj hij h1 h2 e
  have := h i j (by rw [List.getD_eq_getElem?_getD, List.getElem?_eq_getElem hi]; exact h1) (by rw [List.getD_eq_getElem?_getD, List.getElem?_eq_getElem hi, List.getD_eq_getElem?_getD, List.getElem?_eq_getElem hj]; simpa using e)
  omega
structure SCore (s : SS) : Prop where
  ok : s.Ok
  b1 : 1 ≤ s.bl
  inj : Inj s.c.tb
  own : ∀ z ∈ s.c.tb, z ≠ 0 → (B.hasB s.us z.toNat || B.hasB s.c.fr z.toNat) = true
  rts : B.hasB s.us 0 = true ∧ B.hasB s.us 1 = true
  frs : ∀ n, B.hasB s.c.fr n = true → B.hasB s.us n = false ∧ n < s.bl
  usb : ∀ n, B.hasB s.us n = true → n < s.bl
structure SInv (s : SS) : Prop where
  core : SCore s
  lok : ChOk s.bl s.l
  linj : Inj s.l.tb
  lown : ∀ z ∈ s.l.tb, z ≠ 0 → B.hasB s.us z.toNat = true
  lfr : ∀ n, B.hasB s.l.fr n = false
  ldt : s.l.dt = false
  cln : s.c.dt = false → s.c = s.l
theorem free_mem {s : SS} {n : Nat} : n ∈ freeL s ↔ n < s.bl ∧ B.hasB s.us n = false ∧ B.hasB s.c.fr n = false := by
  unfold freeL freeTo isFree
  rw [List.mem_filter, List.mem_range]
  simp
theorem free_nodup (s : SS) : (freeL s).Nodup := by
  unfold freeL freeTo
  exact List.Pairwise.filter _ List.nodup_range
theorem ints_mem {l : List Nat} {z : Int} (h : z ∈ ints l) : 0 ≤ z ∧ z.toNat ∈ l := by
  obtain ⟨n, hn, rfl⟩ := List.mem_map.1 h
  exact ⟨by simp, by simpa using hn⟩
theorem ints_part {l : List Nat} (h : l.Nodup) : Part (ints l) := by
  unfold Part ints
  rw [List.pairwise_map]
  exact h.imp (fun hab _ _ e => hab (Int.ofNat.inj e))
theorem free_ge {s : SS} (h : SCore s) {n : Nat} (hn : n ∈ freeL s) : 2 ≤ n := by
  have := free_mem.1 hn
  rcases Nat.lt_or_ge n 2 with h2 | h2
  · have : n = 0 ∨ n = 1 := by omega
    rcases this with rfl | rfl
    · rw [h.rts.1] at *; simp_all
    · rw [h.rts.2] at *; simp_all
  · exact h2
theorem tab_mem {s : SS} {z : Int} (h : z ∈ tabL s) : 0 ≤ z ∧ z.toNat ∈ freeL s := by
  obtain ⟨h1, h2⟩ := ints_mem h
  exact ⟨h1, List.mem_of_mem_take h2⟩
theorem map_mem {s : SS} {z : Int} (h : z ∈ mapL s) : 0 ≤ z ∧ z.toNat ∈ freeL s := by
  obtain ⟨h1, h2⟩ := ints_mem h
  exact ⟨h1, List.mem_of_mem_take (List.mem_of_mem_drop h2)⟩
theorem tabmap (s : SS) : tabL s ++ mapL s = ints ((freeL s).take (cntN s)) := by
  unfold tabL mapL ints
  rw [← List.map_append]
  congr 1
  have : (freeL s).take (tcN s) = ((freeL s).take (cntN s)).take (tcN s) := by
    rw [List.take_take]
    congr 1
    unfold cntN; omega
  rw [this, List.take_append_drop]
theorem settle_once {s : SS} (h : SCore s) : ∃ us2, onceR s.bl (rootsS s.bl) (s.c.tb ++ tabL s ++ mapL s) = some us2 ∧ ∀ n, B.hasB us2 n = (decide (n < 2) || decide (n ≠ 0 ∧ (n : Int) ∈ s.c.tb ++ tabL s ++ mapL s)) := by
  have hbl := h.ok.bl
  have hf : ∀ z ∈ tabL s ++ mapL s, 0 ≤ z ∧ z.toNat ∈ freeL s := fun z hz => by
    rcases List.mem_append.1 hz with h1 | h1
    · exact tab_mem h1
    · exact map_mem h1
  have hr : ∀ z ∈ tabL s ++ mapL s, 2 ≤ z ∧ z < s.bl := fun z hz => by
    obtain ⟨h0, h1⟩ := hf z hz
    have h2 := free_ge h h1
    have h3 := (free_mem.1 h1).1
    omega
  have ht := h.ok.c.tb.ins
  obtain ⟨us2, h1, h2⟩ := once_some (bl := s.bl) (l := s.c.tb ++ (tabL s ++ mapL s)) (m := rootsS s.bl) (fun z hz => by
    rcases List.mem_append.1 hz with h1 | h1
    · exact ht z h1
    · exact .inr (hr z h1)) (h.inj.part.app (by rw [tabmap]; exact ints_part ((free_nodup s).sublist (List.take_sublist _ _))) (fun x hx y hy hx0 hy0 e => by
      subst e
      obtain ⟨h0, h1⟩ := hf x hy
      have h2 := free_mem.1 h1
      have h3 := h.own x hx hx0
      rw [h2.2.1, h2.2.2] at h3
      cases h3)) (fun z hz hz0 => by
    rw [has_roots h.b1 hbl]
    have : 2 ≤ z := by
      rcases List.mem_append.1 hz with h1 | h1
      · rcases ht z h1 with h2 | h2
        · exact absurd h2 hz0
        · exact h2.1
      · exact (hr z h1).1
    simp; omega) (by rw [show (rootsS s.bl).length = _ from rootsK_len s.bl 2]; unfold B.makeN; omega)
  rw [← List.append_assoc] at h1 h2
  exact ⟨us2, h1, fun n => by rw [h2 n, has_roots h.b1 hbl]⟩
theorem SCore.note {s : SS} (h : SCore s) (e : Int) : SCore (s.note e) := ⟨⟨h.ok.bl, h.ok.c, h.ok.l, h.ok.usl, h.ok.usa, h.ok.e0, h.ok.e1⟩, h.b1, h.inj, h.own, h.rts, h.frs, h.usb⟩
theorem SInv.note {s : SS} (h : SInv s) (e : Int) : SInv (s.note e) := ⟨h.core.note e, h.lok, h.linj, h.lown, h.lfr, h.ldt, h.cln⟩
theorem SInv.abort {s : SS} (h : SInv s) : SInv { s with c := s.l } := by
  have k := h.core
  refine ⟨⟨⟨k.ok.bl, h.lok, .inl h.lok, k.ok.usl, k.ok.usa, k.ok.e0, k.ok.e1⟩, k.b1, h.linj, fun z hz h0 => ?_, k.rts, fun n hn => ?_, k.usb⟩, h.lok, h.linj, h.lown, h.lfr, h.ldt, fun _ => rfl⟩
  · show (B.hasB s.us z.toNat || _) = true
    rw [h.lown z hz h0]; rfl
  · have : B.hasB s.l.fr n = true := hn
    rw [h.lfr n] at this; cases this
theorem SInv.start {s : SS} (h : SInv s) {id : Int} (hid : id = 0 ∨ blkI s.c.tb id ≠ 0) : SInv (s.start id) := by
  have k := h.core
  exact ⟨⟨⟨k.ok.bl, ⟨k.ok.c.tb, hid, k.ok.c.frl, k.ok.c.fra⟩, k.ok.l, k.ok.usl, k.ok.usa, k.ok.e0, k.ok.e1⟩, k.b1, k.inj, k.own, k.rts, k.frs, k.usb⟩, h.lok, h.linj, h.lown, h.lfr, h.ldt, fun e => by cases e⟩
theorem blk_give {tb : List Int} {id : Nat} {n : Int} (h : 1 ≤ id) (j : Int) : blkI (giveT tb id n) j = if j = id then n else blkI tb j := by
  by_cases hj : j < 1
  · have e : ∀ l, blkI l j = 0 := fun l => by unfold blkI; rw [if_pos (Or.inl hj)]
    rw [e, e, if_neg (by omega)]
  · obtain ⟨i, rfl⟩ : ∃ i : Nat, j = (i : Int) + 1 := ⟨(j - 1).toNat, by omega⟩
    rw [blk_get, blk_get, give_get tb id n i h]
    by_cases e : i = id - 1
    · rw [if_pos e, if_pos (by omega)]
    · rw [if_neg e, if_neg (by omega)]
theorem blk_mem {tb : List Int} {id : Int} (h : blkI tb id ≠ 0) : blkI tb id ∈ tb ∧ 1 ≤ id ∧ id ≤ tb.length := by
  have h1 : ¬ (id < 1 ∨ (tb.length : Int) < id) := fun hc => h (by unfold blkI; rw [if_pos hc])
  obtain ⟨i, rfl⟩ : ∃ i : Nat, id = (i : Int) + 1 := ⟨(id - 1).toNat, by omega⟩
  rw [blk_get] at h ⊢
  exact ⟨(get_mem h).1, by omega, by omega⟩
theorem give_mem {tb : List Int} {id : Nat} {n z : Int} (h : 1 ≤ id) (hz : z ∈ giveT tb id n) (h0 : z ≠ 0) : z = n ∨ ∃ i, i ≠ id - 1 ∧ tb.getD i 0 = z := by
  obtain ⟨i, _, e⟩ := mem_get hz
  rw [give_get tb id n i h] at e
  by_cases hi : i = id - 1
  · rw [if_pos hi] at e; exact .inl e.symm
  · rw [if_neg hi] at e; exact .inr ⟨i, hi, e⟩
theorem give_ok {bl : Nat} {tb : List Int} {id : Nat} {n : Int} (h : TbOk bl tb) (h1 : 1 ≤ id) (h2 : id ≤ 3000) (hn : n = 0 ∨ (2 ≤ n ∧ n < bl)) : TbOk bl (giveT tb id n) := by
  refine ⟨by have := give_len tb id n; have := h.len; omega, fun z hz => ?_⟩
  by_cases h0 : z = 0
  · exact .inl h0
  · rcases give_mem h1 hz h0 with e | ⟨i, _, e⟩
    · rw [e]; exact hn
    · rw [← e] at h0 ⊢
      exact h.ins _ (get_mem h0).1
theorem give_inj {tb : List Int} {id : Nat} {n : Int} (h : Inj tb) (h1 : 1 ≤ id) (hn : n ≠ 0 → ∀ i, i ≠ id - 1 → tb.getD i 0 ≠ n) : Inj (giveT tb id n) := by
  intro i j hi e
  rw [give_get tb id n i h1] at hi e
  rw [give_get tb id n j h1] at e
  by_cases ei : i = id - 1
  · rw [if_pos ei] at hi e
    by_cases ej : j = id - 1
    · omega
    · rw [if_neg ej] at e
      exact absurd e.symm (hn hi j ej)
  · rw [if_neg ei] at hi e
    by_cases ej : j = id - 1
    · rw [if_pos ej] at e
      exact absurd e (hn (by rw [← e]; exact hi) i ei)
    · rw [if_neg ej] at e
      exact h i j hi e
theorem SInv.placed {s : SS} (h : SInv s) {id n : Nat} (h1 : 1 ≤ id) (h2 : id ≤ 3000) (hn : n ∈ freeL s) : SInv ((s.give id n).fresh n true) := by
  have k := h.core
  have hf := free_mem.1 hn
  have hge := free_ge k hn
  have hlen : n < 8 * s.c.fr.length := by rw [k.ok.c.frl]; have := k.ok.bl; unfold B.makeN; omega
  have hw : ∀ m, B.hasB (B.withI s.c.fr (n : Int) true) m = if m = n then true else B.hasB s.c.fr m := fun m => by
    have := has_with (m := s.c.fr) (z := (n : Int)) true (by omega) (by simpa using hlen) m
    simpa using this
  have hne : ∀ z ∈ s.c.tb, z ≠ 0 → z ≠ (n : Int) := fun z hz h0 e => by
    have := k.own z hz h0
    rw [e] at this
    simp only [Int.toNat_natCast] at this
    rw [hf.2.1, hf.2.2] at this
    cases this
  refine ⟨⟨⟨k.ok.bl, ⟨give_ok k.ok.c.tb h1 h2 (.inr ⟨by omega, by show ((n : Nat) : Int) < ((s.bl : Nat) : Int); omega⟩), ?_, by show (B.withI s.c.fr _ _).length = _; rw [withI_len]; exact k.ok.c.frl, withI_all k.ok.c.fra _ _⟩, k.ok.l, k.ok.usl, k.ok.usa, k.ok.e0, k.ok.e1⟩, k.b1, give_inj k.inj h1 (fun _ i hi e => ?_), fun z hz h0 => ?_, k.rts, fun m hm => ?_, k.usb⟩, h.lok, h.linj, h.lown, h.lfr, h.ldt, fun e => by cases e⟩
  · rcases k.ok.c.st with e | e
    · exact .inl e
    · refine .inr ?_
      show blkI (giveT s.c.tb id n) s.c.st ≠ 0
      rw [blk_give h1]
      split
      · omega
      · exact e
  · have hm := get_mem (l := s.c.tb) (i := i) (by rw [e]; omega)
    exact hne _ hm.1 (by rw [e]; omega) e
  · show (B.hasB s.us z.toNat || B.hasB (B.withI s.c.fr (n : Int) true) z.toNat) = true
    rw [hw]
    rcases give_mem h1 hz h0 with e | ⟨i, _, e⟩
    · rw [e]; simp
    · have hm := (get_mem (l := s.c.tb) (i := i) (by rw [e]; exact h0)).1
      rw [e] at hm
      have := k.own z hm h0
      split
      · simp
      · exact this
  · have hm' : B.hasB (B.withI s.c.fr (n : Int) true) m = true := hm
    rw [hw] at hm'
    by_cases e : m = n
    · subst e; exact ⟨hf.2.1, hf.1⟩
    · rw [if_neg e] at hm'; exact k.frs m hm'
theorem SInv.freed {s : SS} (h : SInv s) {id : Nat} {n : Int} (h1 : 1 ≤ id) (h2 : id ≤ 3000) (hb : blkI s.c.tb id = n) (hn : n ≠ 0) (hst : (id : Int) ≠ s.c.st) : SInv ((s.give id 0).fresh n false) := by
  have k := h.core
  have hmem := (blk_mem (tb := s.c.tb) (id := id) (by rw [hb]; exact hn)).1
  rw [hb] at hmem
  have hr := (k.ok.c.tb.ins n hmem).resolve_left hn
  have hlen : n.toNat < 8 * s.c.fr.length := by rw [k.ok.c.frl]; have := k.ok.bl; unfold B.makeN; omega
  have hw : ∀ m, B.hasB (B.withI s.c.fr n false) m = if m = n.toNat then false else B.hasB s.c.fr m := fun m => has_with (m := s.c.fr) (z := n) false (by omega) hlen m
  have hget : s.c.tb.getD (id - 1) 0 = n := by
    have := blk_get s.c.tb (id - 1)
    rw [← this, show (((id - 1 : Nat) : Int) + 1) = (id : Int) by omega]
    exact hb
  refine ⟨⟨⟨k.ok.bl, ⟨give_ok k.ok.c.tb h1 h2 (.inl rfl), ?_, by show (B.withI s.c.fr _ _).length = _; rw [withI_len]; exact k.ok.c.frl, withI_all k.ok.c.fra _ _⟩, k.ok.l, k.ok.usl, k.ok.usa, k.ok.e0, k.ok.e1⟩, k.b1, give_inj k.inj h1 (fun e => absurd rfl e), fun z hz h0 => ?_, k.rts, fun m hm => ?_, k.usb⟩, h.lok, h.linj, h.lown, h.lfr, h.ldt, fun e => by cases e⟩
  · rcases k.ok.c.st with e | e
    · exact .inl e
    · refine .inr ?_
      show blkI (giveT s.c.tb id 0) s.c.st ≠ 0
      rw [blk_give h1, if_neg (fun e2 => hst e2.symm)]
      exact e
  · show (B.hasB s.us z.toNat || B.hasB (B.withI s.c.fr n false) z.toNat) = true
    rcases give_mem h1 hz h0 with e | ⟨i, hi, e⟩
    · exact absurd e h0
    · have hm := (get_mem (l := s.c.tb) (i := i) (by rw [e]; exact h0)).1
      rw [e] at hm
      have ho := k.own z hm h0
      rw [hw, if_neg]
      · exact ho
      · intro e2
        have hzr := (k.ok.c.tb.ins z hm).resolve_left h0
        have : z = n := by omega
        have := k.inj i (id - 1) (by rw [e]; exact h0) (by rw [e, hget]; exact this)
        exact hi this
  · have hm' : B.hasB (B.withI s.c.fr n false) m = true := hm
    rw [hw] at hm'
    by_cases e : m = n.toNat
    · rw [if_pos e] at hm'; cases hm'
    · rw [if_neg e] at hm'; exact k.frs m hm'
theorem SCore.held {s : SS} (h : SCore s) {ep : Int} {us2 : List Int} (h1 : onceR s.bl (rootsS s.bl) (s.c.tb ++ tabL s ++ mapL s) = some us2) (h2 : ∀ n, B.hasB us2 n = (decide (n < 2) || decide (n ≠ 0 ∧ (n : Int) ∈ s.c.tb ++ tabL s ++ mapL s))) (hb : 2 ≤ s.bl) (e0 : 0 ≤ ep) (e1 : ep ≤ 1099511627776) : SInv (s.hold ep s.c.st s.c.tb us2) := by
  have hz : ∀ n, B.hasB (List.replicate (B.makeN s.bl) 0) n = false := fun n => has_zeros _ n
  have hch : ChOk s.bl ⟨s.c.tb, s.c.st, List.replicate (B.makeN s.bl) 0, false⟩ := ⟨h.ok.c.tb, h.ok.c.st, by simp, zeros_allB _⟩
  have hin : ∀ z ∈ s.c.tb, z ≠ 0 → B.hasB us2 z.toNat = true := fun z hz h0 => by
    have hr := (h.ok.c.tb.ins z hz).resolve_left h0
    rw [h2 z.toNat, decide_eq_true (p := z.toNat ≠ 0 ∧ _) ⟨by omega, by rw [Int.toNat_of_nonneg (by omega)]; exact List.mem_append_left _ (List.mem_append_left _ hz)⟩]
    simp
  refine ⟨⟨⟨h.ok.bl, hch, .inl hch, by show us2.length = _; rw [onceR_len h1]; exact rootsK_len s.bl 2, onceR_all h1 (rootsK_all s.bl 2), e0, e1⟩, h.b1, h.inj, fun z hz h0 => ?_, ⟨?_, ?_⟩, fun n hn => ?_, fun n hn => ?_⟩, hch, h.inj, hin, hz, rfl, fun _ => rfl⟩
  · show (B.hasB us2 z.toNat || _) = true
    rw [hin z hz h0]; rfl
  · show B.hasB us2 0 = true
    rw [h2]; simp
  · show B.hasB us2 1 = true
    rw [h2]; simp
  · have : B.hasB (List.replicate (B.makeN s.bl) 0) n = true := hn
    rw [hz n] at this; cases this
  · show n < s.bl
    have hn' : B.hasB us2 n = true := hn
    rw [h2, Bool.or_eq_true, decide_eq_true_eq, decide_eq_true_eq] at hn'
    rcases hn' with h3 | ⟨h3, h4⟩
    · omega
    · rcases List.mem_append.1 h4 with h5 | h5
      · rcases List.mem_append.1 h5 with h6 | h6
        · have := (h.ok.c.tb.ins _ h6).resolve_left (by omega); omega
        · have := (free_mem.1 (tab_mem h6).2).1; omega
      · have := (free_mem.1 (map_mem h5).2).1; omega
end Go.Proofs.YtbklnadlbcndlaaGreat
namespace Go.Proofs.YtbklnadlbcndlaaGreat
set_option maxRecDepth 20000
open Go.RowKit
set_option linter.unusedVariables false
theorem place_keep {s : SS} (h : SInv s) (d : D.DS) {id : Nat} (zs : List Int) (h1 : 1 ≤ id) (h2 : id ≤ 3000) : SInv (placeR s d id zs).2.1 := by
  unfold placeR
  cases e : freeL s with
  | nil => exact h
  | cons n rest =>
    simp only
    split
    · exact h.note _
    · exact h.placed h1 h2 (by rw [e]; simp)
theorem alloc_keep {s : SS} (h : SInv s) (d : D.DS) (kd : Int) (zs : List Int) : SInv (allocR s d kd zs).1 := by
  unfold allocR
  split
  · exact h
  · rename_i hc
    have he : sealE kd (spareN s.c.tb : Nat) zs.length = 0 := by
      by_cases e : sealE kd (spareN s.c.tb : Nat) zs.length = 0
      · exact e
      · exact absurd (Or.inr (Or.inr e)) hc
    have := (sealE_zero he).2.2.2.1
    exact place_keep h d _ (by unfold spareN; omega) (by omega)
theorem write_keep {s : SS} (h : SInv s) (d : D.DS) (id kd : Int) (zs : List Int) : SInv (wrR s d id kd zs).2.1 := by
  unfold wrR
  split
  · exact h
  · rename_i hf
    obtain ⟨h1, h2, _⟩ := find_id (by simpa using hf)
    have := h.core.ok.c.tb.len
    split
    · exact h
    · split
      · exact h.note _
      · exact place_keep h d _ (by omega) (by omega)
theorem free_keep {s : SS} (h : SInv s) (d : D.DS) (id : Int) : SInv (frR s d id).2.1 := by
  unfold frR
  split
  · exact h
  · rename_i hf
    obtain ⟨h1, h2, h3, h4, _⟩ := find_id (by simpa using hf)
    have := h.core.ok.c.tb.len
    split
    · exact h
    · rename_i hst
      have e : ((id.toNat : Nat) : Int) = id := Int.toNat_of_nonneg (by omega)
      exact h.freed (by omega) (by omega) (by rw [e, h3]) (by rw [h3]; exact h4) (by rw [e]; exact hst)
theorem abort_keep {s : SS} (h : SInv s) (d : D.DS) : SInv (abR s d).2.1 := by
  unfold abR
  split
  · exact h
  · exact h.abort
theorem read_keep {s : SS} (h : SInv s) (d : D.DS) (id : Int) : SInv (rdR s d id).1 := by
  unfold rdR
  split
  · exact h
  · exact h.note _
noncomputable def us2S (s : SS) : List Int := (onceR s.bl (rootsS s.bl) (s.c.tb ++ tabL s ++ mapL s)).getD []
theorem us2_once {s : SS} (h : SCore s) : onceR s.bl (rootsS s.bl) (s.c.tb ++ tabL s ++ mapL s) = some (us2S s) ∧ ∀ n, B.hasB (us2S s) n = (decide (n < 2) || decide (n ≠ 0 ∧ (n : Int) ∈ s.c.tb ++ tabL s ++ mapL s)) := by
  obtain ⟨us2, h1, h2⟩ := settle_once h
  have : us2S s = us2 := by unfold us2S; rw [h1]; rfl
  rw [this]
  exact ⟨h1, h2⟩
theorem settle_held {s : SS} (h : SCore s) (d : D.DS) (ep : Int) (he : (settleR s d ep (us2S s)).1 = 0) : SInv (settleR s d ep (us2S s)).2.1 ∧ (settleR s d ep (us2S s)).2.1 = s.hold ep s.c.st s.c.tb (us2S s) := by
  obtain ⟨h1, h2⟩ := us2_once h
  unfold settleR at he ⊢
  split at he
  · cases he
  · rename_i q1
    rw [if_neg q1]
    split at he
    · rename_i q2; exact absurd he q2
    · rename_i q2
      rw [if_neg q2]
      split at he
      · rename_i q3; exact absurd he q3
      · rename_i q3
        rw [if_neg q3]
        have hok := R.ok_checkE (by simpa using q2)
        have e0 := hok.e0
        have e1 := hok.e1
        have b0 := hok.b0
        exact ⟨h.held h1 h2 (by have : (2 : Int) ≤ (s.bl : Int) := b0; omega) e0 e1, rfl⟩
theorem settle_keep {s : SS} (h : SInv s) (d : D.DS) (ep : Int) : SInv (settleR s d ep (us2S s)).2.1 := by
  by_cases he : (settleR s d ep (us2S s)).1 = 0
  · exact (settle_held h.core d ep he).1
  · unfold settleR at he ⊢
    split
    · exact h
    · split
      · exact h
      · split
        · exact h.note _
        · rename_i q1 q2 q3
          rw [if_neg q1, if_neg q2, if_neg q3] at he
          exact absurd rfl he
theorem commit_keep {s : SS} (h : SInv s) (d : D.DS) : SInv (comR s d (us2S s)).2.1 := by
  unfold comR
  split
  · exact h
  · split
    · exact h
    · exact settle_keep h d _
theorem blank_core {bl : Nat} (h2 : 2 ≤ bl) (h : bl ≤ 4096) : SCore (blankS bl) := by
  have h1 : 1 ≤ bl := by omega
  refine ⟨blankS_ok h, h1, fun i j hi => absurd (by simp [blankS]) hi, fun z hz => by simp [blankS] at hz, ⟨?_, ?_⟩, fun n hn => ?_, fun n hn => ?_⟩
  · show B.hasB (rootsS bl) 0 = true; rw [has_roots h1 h]; rfl
  · show B.hasB (rootsS bl) 1 = true; rw [has_roots h1 h]; rfl
  · have : B.hasB (List.replicate (B.makeN bl) 0) n = true := hn
    rw [has_zeros] at this; cases this
  · have hn' : B.hasB (rootsS bl) n = true := hn
    rw [has_roots h1 h, decide_eq_true_eq] at hn'
    show n < bl
    omega
noncomputable def fmtS (d : D.DS) : Int × SS × D.DS := fmtR d (us2S (blankS d.room))
theorem fmt_once {bl : Nat} (h2 : 2 ≤ bl) (h : bl ≤ 4096) : onceR bl (rootsS bl) (mapL (blankS bl)) = some (us2S (blankS bl)) := by
  have := (us2_once (blank_core h2 h)).1
  have e1 : tabL (blankS bl) = [] := by unfold tabL tcN; simp [blankS, nPages, ints]
  rw [e1] at this
  exact this
theorem fmt_keep {d : D.DS} (h : d.room ≤ 4096) (he : (fmtS d).1 = 0) : SInv (fmtS d).2.1 ∧ (fmtS d).2.1 = (blankS d.room).hold 0 0 [] (us2S (blankS d.room)) := by
  unfold fmtS fmtR at he ⊢
  split at he
  · cases he
  · rename_i q1
    rw [if_neg q1]
    split at he
    · rename_i q2; exact absurd he q2
    · rename_i q2
      rw [if_neg q2]
      exact settle_held (blank_core (by omega) h) _ 0 he
theorem stepS_room {s t : D.DS} : (D.stepS s t).room = s.room := by unfold D.stepS; split <;> (try split) <;> rfl
theorem syncS_room (d : D.DS) : (D.syncS d).room = d.room := by unfold D.syncS; split; rfl; exact stepS_room
theorem readS_room (d : D.DS) (n : Int) : (D.readS d n).room = d.room := by unfold D.readS; split <;> rfl
theorem place_room (s : SS) (d : D.DS) (id : Nat) (zs : List Int) : (placeR s d id zs).2.2.room = d.room := by
  unfold placeR
  cases freeL s with
  | nil => rfl
  | cons n rest => simp only; split <;> exact writeS_room _ _ _
theorem alloc_room (s : SS) (d : D.DS) (kd : Int) (zs : List Int) : (allocR s d kd zs).2.room = d.room := by
  unfold allocR; split; rfl; exact place_room _ _ _ _
theorem wr_room (s : SS) (d : D.DS) (id kd : Int) (zs : List Int) : (wrR s d id kd zs).2.2.room = d.room := by
  unfold wrR; split; rfl; split; rfl; split; exact writeS_room _ _ _; exact place_room _ _ _ _
theorem fr_room (s : SS) (d : D.DS) (id : Int) : (frR s d id).2.2.room = d.room := by unfold frR; split; rfl; split <;> rfl
theorem ab_room (s : SS) (d : D.DS) : (abR s d).2.2.room = d.room := by unfold abR; split <;> rfl
theorem rd_room (s : SS) (d : D.DS) (id : Int) : (rdR s d id).2.room = d.room := by unfold rdR; split; rfl; exact readS_room _ _
theorem wp_room (kd : Int) : ∀ (ps : List (List Int)) (i : Nat) (bs : List Int) (d : D.DS), (wpR kd i ps bs d).2.room = d.room
  | [], _, _, _ => rfl
  | _ :: _, _, [], _ => rfl
  | p :: ps, i, b :: bs, d => by
    unfold wpR
    split
    · exact writeS_room _ _ _
    · rw [wp_room kd ps (i + 1) bs]; exact writeS_room _ _ _
theorem tl_room {F : Nat → D.DS → Int × D.DS} (hF : ∀ j d, (F j d).2.room = d.room) : ∀ (n j : Nat) (d : D.DS), (tlR F n j d).2.room = d.room
  | 0, _, _ => rfl
  | n + 1, j, d => by
    unfold tlR
    split
    · exact hF j d
    · rw [tl_room hF n (j + 1)]; exact hF j d
theorem stepF_room (s : SS) (ep : Int) (us2 : List Int) (j : Nat) (d : D.DS) : (stepF s ep us2 j d).2.room = d.room := by
  unfold stepF
  split
  · exact wp_room _ _ _ _ _
  · exact wp_room _ _ _ _ _
  · exact writeS_room _ _ _
  · exact syncS_room _
theorem settle_room (s : SS) (d : D.DS) (ep : Int) (us2 : List Int) : (settleR s d ep us2).2.2.room = d.room := by
  unfold settleR
  split
  · rfl
  · split
    · rfl
    · split <;> exact tl_room (stepF_room s ep us2) 5 0 d
theorem com_room (s : SS) (d : D.DS) (us2 : List Int) : (comR s d us2).2.2.room = d.room := by
  unfold comR; split; rfl; split; rfl; exact settle_room _ _ _ _
theorem fmt_room (d : D.DS) (us2 : List Int) : (fmtR d us2).2.2.room = d.room := by
  unfold fmtR; split; rfl; split; exact writeS_room _ _ _; rw [settle_room]; exact writeS_room _ _ _
structure Mi (w0 w : World) (k : Pl) (s : SS) (d : D.DS) : Prop where
  sy : Sy w k s d
  inv : SInv s
  room : d.room = s.bl
  up : ∀ x ∈ k.X, w0.heap.size ≤ x
  be : Below w0.heap.size w0 w
theorem Mi.below {w0 w w' : World} {k : Pl} {s : SS} {d : D.DS} (h : Mi w0 w k s d) (hb : Below w.heap.size w w') : Mi w0 w' k s d :=
  ⟨h.sy.below hb, h.inv, h.room, h.up, h.be.trans (hb.mono h.be.size)⟩
theorem Mi.step {w0 w w' : World} {k : Pl} {s s' : SS} {d d' : D.DS} (h : Mi w0 w k s d) (hs : Sy w' k s' d') (hi : SInv s') (hr : d'.room = d.room) (hb : s'.bl = s.bl) (ho : D.Off k.K w w') : Mi w0 w' k s' d' :=
  ⟨hs, hi, hr.trans (h.room.trans hb.symm), h.up, h.be.trans (ho.below h.be.size (fun x hx => h.up x (k.kx x hx)))⟩
end Go.Proofs.YtbklnadlbcndlaaGreat
namespace Go.Proofs.YtbklnadlbcndlaaGreat
set_option maxRecDepth 20000
open Go.RowKit
set_option linter.unusedVariables false
set_option linter.unusedSimpArgs false
theorem place_bl (s : SS) (d : D.DS) (id : Nat) (zs : List Int) : (placeR s d id zs).2.1.bl = s.bl := by
  unfold placeR
  cases freeL s with
  | nil => rfl
  | cons n rest => simp only; split <;> rfl
theorem alloc_bl (s : SS) (d : D.DS) (kd : Int) (zs : List Int) : (allocR s d kd zs).1.bl = s.bl := by
  unfold allocR; split; rfl; exact place_bl _ _ _ _
theorem wr_bl (s : SS) (d : D.DS) (id kd : Int) (zs : List Int) : (wrR s d id kd zs).2.1.bl = s.bl := by
  unfold wrR; split; rfl; split; rfl; split; rfl; exact place_bl _ _ _ _
theorem fr_bl (s : SS) (d : D.DS) (id : Int) : (frR s d id).2.1.bl = s.bl := by unfold frR; split; rfl; split <;> rfl
theorem ab_bl (s : SS) (d : D.DS) : (abR s d).2.1.bl = s.bl := by unfold abR; split <;> rfl
theorem rd_bl (s : SS) (d : D.DS) (id : Int) : (rdR s d id).1.bl = s.bl := by unfold rdR; split <;> rfl
theorem settle_bl (s : SS) (d : D.DS) (ep : Int) (us2 : List Int) : (settleR s d ep us2).2.1.bl = s.bl := by
  unfold settleR
  split
  · rfl
  · split
    · rfl
    · split <;> rfl
theorem com_bl (s : SS) (d : D.DS) (us2 : List Int) : (comR s d us2).2.1.bl = s.bl := by
  unfold comR; split; rfl; split; rfl; exact settle_bl _ _ _ _
theorem m_write {w0 : World} {k : Pl} {s : SS} {d : D.DS} (id kd : Int) (a : Option Addr) (cap : Nat) (zs : List Int) (w : World) (h : Mi w0 w k s d) (hv : BV w a zs) (hn : a = none → cap = 0) (hm : zs.length ≤ 9223372036854775807) :
    Calls Tryz.prog 130 #[.pointer (some ⟨k.p, 0, none⟩), .int .i64 id, .int .i64 kd, .slice a zs.length cap] w fun e w' => e = .returned (.int .i64 (wrR s d id kd zs).1) ∧ Mi w0 w' k (wrR s d id kd zs).2.1 (wrR s d id kd zs).2.2 ∧ D.Off k.K w w' := by
  obtain ⟨t, f, t', f', u, sb, db, nx, hx⟩ := h.sy
  refine (write_s id kd a cap zs w hx h.inv.core.ok hv hn hm).mono ?_
  rintro e w' ⟨rfl, hy, ho⟩
  exact ⟨rfl, h.step hy (write_keep h.inv d id kd zs) (wr_room s d id kd zs) (wr_bl s d id kd zs) ho, ho⟩
theorem m_free {w0 : World} {k : Pl} {s : SS} {d : D.DS} (id : Int) (w : World) (h : Mi w0 w k s d)  :
    Calls Tryz.prog 59 #[.pointer (some ⟨k.p, 0, none⟩), .int .i64 id] w fun e w' => e = .returned (.int .i64 (frR s d id).1) ∧ Mi w0 w' k (frR s d id).2.1 (frR s d id).2.2 ∧ D.Off k.K w w' := by
  obtain ⟨t, f, t', f', u, sb, db, nx, hx⟩ := h.sy
  refine (frees_s id w hx h.inv.core.ok).mono ?_
  rintro e w' ⟨rfl, hy, ho⟩
  exact ⟨rfl, h.step hy (free_keep h.inv d id) (fr_room s d id) (fr_bl s d id) ho, ho⟩
theorem m_abort {w0 : World} {k : Pl} {s : SS} {d : D.DS}  (w : World) (h : Mi w0 w k s d)  :
    Calls Tryz.prog 63 #[.pointer (some ⟨k.p, 0, none⟩)] w fun e w' => e = .returned (.int .i64 (abR s d).1) ∧ Mi w0 w' k (abR s d).2.1 (abR s d).2.2 ∧ D.Off k.K w w' := by
  obtain ⟨t, f, t', f', u, sb, db, nx, hx⟩ := h.sy
  refine (abort_s w hx).mono ?_
  rintro e w' ⟨rfl, hy, ho⟩
  exact ⟨rfl, h.step hy (abort_keep h.inv d) (ab_room s d) (ab_bl s d) ho, ho⟩
theorem m_commit {w0 : World} {k : Pl} {s : SS} {d : D.DS}  (w : World) (h : Mi w0 w k s d)  :
    Calls Tryz.prog 62 #[.pointer (some ⟨k.p, 0, none⟩)] w fun e w' => e = .returned (.int .i64 (comR s d (us2S s)).1) ∧ Mi w0 w' k (comR s d (us2S s)).2.1 (comR s d (us2S s)).2.2 ∧ D.Off k.K w w' := by
  obtain ⟨t, f, t', f', u, sb, db, nx, hx⟩ := h.sy
  refine (commit_s (us2S s) w hx h.inv.core.ok h.inv.core.b1 (fun _ => (us2_once h.inv.core).1)).mono ?_
  rintro e w' ⟨rfl, hy, ho⟩
  exact ⟨rfl, h.step hy (commit_keep h.inv d) (com_room s d (us2S s)) (com_bl s d (us2S s)) ho, ho⟩
theorem m_alloc {w0 : World} {k : Pl} {s : SS} {d : D.DS} (kd : Int) (a : Option Addr) (cap : Nat) (zs : List Int) (w : World) (h : Mi w0 w k s d) (hv : BV w a zs) (hn : a = none → cap = 0) (hm : zs.length ≤ 9223372036854775807) :
    Calls Tryz.prog 54 #[.pointer (some ⟨k.p, 0, none⟩), .int .i64 kd, .slice a zs.length cap] w fun e w' => e = .returned (.tuple #[.int .i64 (allocI s d kd zs), .int .i64 (allocE s d kd zs)]) ∧ Mi w0 w' k (allocR s d kd zs).1 (allocR s d kd zs).2 ∧ D.Off k.K w w' := by
  obtain ⟨t, f, t', f', u, sb, db, nx, hx⟩ := h.sy
  refine (alloc_s kd a cap zs w hx h.inv.core.ok hv hn hm).mono ?_
  rintro e w' ⟨rfl, hy, ho⟩
  exact ⟨rfl, h.step hy (alloc_keep h.inv d kd zs) (alloc_room s d kd zs) (alloc_bl s d kd zs) ho, ho⟩
theorem m_read {w0 : World} {k : Pl} {s : SS} {d : D.DS} (id : Int) (w : World) (h : Mi w0 w k s d) :
    Calls Tryz.prog 115 #[.pointer (some ⟨k.p, 0, none⟩), .int .i64 id] w fun e w' => ∃ v, e = .returned (.tuple #[.int .i64 (rdKd s d id), v, .int .i64 (rdE s d id)]) ∧ FB w' k.X v (rdBy s d id) ∧ Mi w0 w' k (rdR s d id).1 (rdR s d id).2 ∧ D.Off k.K w w' := by
  obtain ⟨t, f, t', f', u, sb, db, nx, hx⟩ := h.sy
  refine (read_s id w hx h.inv.core.ok).mono ?_
  rintro e w' ⟨v, rfl, hv, hy, ho⟩
  exact ⟨v, rfl, hv, h.step hy (read_keep h.inv d id) (rd_room s d id) (rd_bl s d id) ho, ho⟩
theorem m_format {w0 : World} {dp nb mb : Nat} {d : D.DS} (w : World) (h : D.Dk w dp nb mb d) (hup : ∀ x ∈ [dp, nb, mb], w0.heap.size ≤ x) (hbe : Below w0.heap.size w0 w) (h2 : 2 ≤ d.room) :
    Calls Tryz.prog 12 #[.pointer (some ⟨dp, 0, none⟩)] w fun e w' => (((fmtS d).1 = 0 ∧ ∃ p, e = .returned (.tuple #[.pointer (some ⟨p, 0, none⟩), .int .i64 0]) ∧ Mi w0 w' ⟨p, dp, nb, mb, []⟩ (fmtS d).2.1 (fmtS d).2.2) ∨ ((fmtS d).1 ≠ 0 ∧ e = .returned (.tuple #[.pointer none, .int .i64 (fmtS d).1]))) ∧ D.Dk w' dp nb mb (fmtS d).2.2 ∧ D.Off [dp, nb, mb] w w' := by
  have hr := h.1.room
  refine (format_any dp nb mb d (us2S (blankS d.room)) w h (fun _ => fmt_once h2 hr)).mono ?_
  rintro e w' ⟨hc, hd, ho⟩
  refine ⟨?_, hd, ho⟩
  rcases hc with ⟨h0, p, he, hp, hy⟩ | ⟨h0, he⟩
  · obtain ⟨hi, hf⟩ := fmt_keep hr h0
    refine .inl ⟨h0, p, he, hy, hi, ?_, fun x hx => ?_, hbe.trans (ho.below hbe.size hup)⟩
    · show (fmtR d _).2.2.room = (fmtS d).2.1.bl
      rw [fmt_room, hf]; rfl
    · simp [Pl.X] at hx
      rcases hx with rfl | hx
      · have := hbe.size; omega
      · exact hup x (by simp; exact hx)
  · exact .inr ⟨h0, he⟩
end Go.Proofs.YtbklnadlbcndlaaGreat
namespace Go.Proofs.YtbklnadlbcndlaaGreat
set_option maxRecDepth 20000
open Go.RowKit
set_option linter.unusedVariables false
set_option linter.unusedSimpArgs false
theorem FrB.off {w w' : World} {b : Nat} {f : Fr} {v : Value} {Y : List Nat} (h : FrB w b f v) (ho : D.Off Y w w') (hb : b ∉ Y) : FrB w' b f v := (ho.block b h.lt hb).trans h
theorem PoB.off {w w' : World} {q p : Nat} {lim : Int} {row : Value} {x y : Int} {Y : List Nat} (h : PoB w q p lim row x y) (ho : D.Off Y w w') (hb : q ∉ Y) : PoB w' q p lim row x y := (ho.block q h.lt hb).trans h
def FrsB (w : World) (X : List Nat) (L : FL) : Prop := ∀ x ∈ L, ∃ v, FrB w x.1 x.2 v ∧ FB w X v x.2.zs
structure Po (w0 w : World) (q : Nat) (k : Pl) (lim : Int) (L : FL) (h m : Int) (row : Value) : Prop where
  pb : PoB w q k.p lim row h m
  rb : RowB w w0.heap.size row L
  rz : ∀ g, row.ownBlock = some g → g ∈ k.z
  fr : FrsB w k.X L
  bz : ∀ b ∈ L.bs, b ∈ k.z
  qz : q ∈ k.z
  nd : L.bs.Nodup
  zk : ∀ x ∈ k.z, x ∉ k.K
  up : ∀ x ∈ k.z, w0.heap.size ≤ x
  ll : (L.length : Int) ≤ lim
  l0 : 1 ≤ lim
  l1 : lim ≤ 1000
structure Pq (w0 w : World) (q : Nat) (k : Pl) (lim : Int) (L : FL) (h m : Int) (row : Value) (s : SS) (d : D.DS) : Prop where
  po : Po w0 w q k lim L h m row
  mi : Mi w0 w k s d

theorem Pl.zx (k : Pl) : ∀ x ∈ k.z, x ∈ k.X := fun x hx => by simp [Pl.X, hx]
theorem Pl.x_cases {k : Pl} {x : Nat} (h : x ∈ k.X) : x ∈ k.K ∨ x ∈ k.z := by
  simp only [Pl.X, Pl.K, List.mem_cons, List.not_mem_nil, or_false] at h ⊢
  rcases h with h | h | h | h | h <;> simp [h]
def Pl.more (k : Pl) (ys : List Nat) : Pl := { k with z := ys ++ k.z }
theorem FB.more {w : World} {k : Pl} {v : Value} {zs : List Int} (h : FB w k.X v zs) (ys : List Nat) (hy : ∀ y ∈ ys, w.heap.size ≤ y) : FB w (k.more ys).X v zs := by
  obtain ⟨a, cap, e, h0, h1, h2, h3, h4⟩ := h
  refine ⟨a, cap, e, h0, h1, h2, h3, fun hn b off e hm => ?_⟩
  have := h4 hn b off e
  rcases h3 with ⟨_, h3 | ⟨b', off', e', hlt, _⟩⟩
  · exact hn h3
  · rw [e] at e'; cases e'
    simp only [Pl.X, Pl.more, List.mem_cons, List.mem_append] at hm this
    rcases hm with h | h | h | h | h | h
    · exact this (by simp [h])
    · exact this (by simp [h])
    · exact this (by simp [h])
    · exact this (by simp [h])
    · have := hy b h; omega
    · exact this (by simp [h])
theorem FI.more {w : World} {k : Pl} {v : Value} {zs : List Int} (h : FI w k.X v zs) (ys : List Nat) (hy : ∀ y ∈ ys, w.heap.size ≤ y) : FI w (k.more ys).X v zs := by
  obtain ⟨a, cap, e, h0, h1, h2, h3, h4⟩ := h
  refine ⟨a, cap, e, h0, h1, h2, h3, fun hn b off e hm => ?_⟩
  have := h4 hn b off e
  rcases h3 with h3 | ⟨b', off', e', hlt, _⟩
  · exact hn h3
  · rw [e] at e'; cases e'
    simp only [Pl.X, Pl.more, List.mem_cons, List.mem_append] at hm this
    rcases hm with h | h | h | h | h | h
    · exact this (by simp [h])
    · exact this (by simp [h])
    · exact this (by simp [h])
    · exact this (by simp [h])
    · have := hy b h; omega
    · exact this (by simp [h])
theorem more_mem {k : Pl} {ys : List Nat} {x n : Nat} (hy : ∀ y ∈ ys, n ≤ y) (hx : x < n) (h : x ∉ k.X) : x ∉ (k.more ys).X := by
  intro hm
  simp only [Pl.X, Pl.more, List.mem_cons, List.mem_append] at hm h
  rcases hm with e | e | e | e | e | e
  · exact h (by simp [e])
  · exact h (by simp [e])
  · exact h (by simp [e])
  · exact h (by simp [e])
  · have := hy x e; omega
  · exact h (by simp [e])
theorem Mi.other {w0 w w' : World} {k : Pl} {s : SS} {d : D.DS} (h : Mi w0 w k s d) (zk : ∀ x ∈ k.z, x ∉ k.K) (up : ∀ x ∈ k.z, w0.heap.size ≤ x) (ho : D.Off k.z w w') (ys : List Nat) (hy : ∀ y ∈ ys, w.heap.size ≤ y) (hy2 : ∀ y ∈ ys, y < w'.heap.size) : Mi w0 w' (k.more ys) s d := by
  obtain ⟨⟨t, f, t', f', u, sb, db, nx, hx⟩, inv, room, u0, be⟩ := h
  have hX : ∀ y ∈ k.z, y ∈ k.X := k.zx
  have hK : ∀ x ∈ k.K, x ∉ k.z := fun x hx hz => zk x hz hx
  have hd : D.Dk w' k.dp k.nb k.mb d := hx.dk.off ho (hK _ (by simp [Pl.K])) (hK _ (by simp [Pl.K])) (hK _ (by simp [Pl.K]))
  have hm := hx.m.off ho hX (hK _ (by simp [Pl.K]))
  have hb := hm.hb
  refine ⟨⟨t, f, t', f', u, sb, db, nx, hd, hx.pn, ⟨hm.v, ?_, ?_, ?_, ?_, ?_, ?_⟩⟩, inv, room, ?_, ?_⟩
  · exact ((hx.m.ht.more ys hy).off (Y := k.z) ho (fun y hy' => by simp [Pl.X, Pl.more, hy']))
  · exact ((hx.m.hf.more ys hy).off (Y := k.z) ho (fun y hy' => by simp [Pl.X, Pl.more, hy']))
  · exact ((hx.m.ht'.more ys hy).off (Y := k.z) ho (fun y hy' => by simp [Pl.X, Pl.more, hy']))
  · exact ((hx.m.hf'.more ys hy).off (Y := k.z) ho (fun y hy' => by simp [Pl.X, Pl.more, hy']))
  · exact ((hx.m.hu.more ys hy).off (Y := k.z) ho (fun y hy' => by simp [Pl.X, Pl.more, hy']))
  · refine ⟨hb.hs, hb.hd, hb.hn, hb.sl, hb.dl, hb.nl, more_mem hy hx.m.hb.sl hb.sn, more_mem hy hx.m.hb.dl hb.dn, more_mem hy hx.m.hb.nl hb.nn, fun x hx' => ?_⟩
    simp only [Pl.more, List.mem_append] at hx'
    rcases hx' with h | h
    · exact hy2 x h
    · exact hb.zl x h
  · intro x hx'
    simp only [Pl.X, Pl.more, List.mem_cons, List.mem_append] at hx'
    rcases hx' with h | h | h | h | h | h
    · exact u0 x (by simp [Pl.X, h])
    · exact u0 x (by simp [Pl.X, h])
    · exact u0 x (by simp [Pl.X, h])
    · exact u0 x (by simp [Pl.X, h])
    · have := hy x h; have := be.size; omega
    · exact up x h
  · exact be.trans (ho.below be.size up)
theorem Pl.more_nil (k : Pl) : k.more [] = k := rfl
theorem Mi.zoff {w0 w w' : World} {k : Pl} {s : SS} {d : D.DS} (h : Mi w0 w k s d) (zk : ∀ x ∈ k.z, x ∉ k.K) (up : ∀ x ∈ k.z, w0.heap.size ≤ x) (ho : D.Off k.z w w') : Mi w0 w' k s d := by
  have := h.other zk up ho [] (by simp) (by simp)
  exact this
theorem RowB.off {w w' : World} {base : Nat} {row : Value} {L : FL} {Y : List Nat} (h : RowB w base row L) (ho : D.Off Y w w') (hr : ∀ g, row.ownBlock = some g → g ∉ Y) : RowB w' base row L := by
  have hl := World.ownsRow.lt h
  obtain ⟨h1, h2 | ⟨g, cap, cur, e, hb, hg, r⟩⟩ := h
  · exact ⟨h1, .inl h2⟩
  · refine ⟨h1, .inr ⟨g, cap, cur, e, hb, (ho.block g (hl g (by rw [e]; rfl)).2 (hr g (by rw [e]; rfl))).trans hg, r⟩⟩
theorem Po.off {w0 w w' : World} {q : Nat} {k : Pl} {lim : Int} {L : FL} {h m : Int} {row : Value} (H : Po w0 w q k lim L h m row) (ho : D.Off k.K w w') : Po w0 w' q k lim L h m row := by
  refine ⟨H.pb.off ho (H.zk q H.qz), H.rb.off ho (fun g hg => H.zk g (H.rz g hg)), H.rz, ?_, H.bz, H.qz, H.nd, H.zk, H.up, H.ll, H.l0, H.l1⟩
  intro x hx
  obtain ⟨v, h1, h2⟩ := H.fr x hx
  exact ⟨v, h1.off ho (H.zk _ (H.bz _ (List.mem_map.2 ⟨x, hx, rfl⟩))), h2.off ho k.kx⟩
theorem Po.below {w0 w w' : World} {q : Nat} {k : Pl} {lim : Int} {L : FL} {h m : Int} {row : Value} (H : Po w0 w q k lim L h m row) (hb : Below w.heap.size w w') : Po w0 w' q k lim L h m row := H.off (D.Off.of_below hb)
theorem Pq.below {w0 w w' : World} {q : Nat} {k : Pl} {lim : Int} {L : FL} {h m : Int} {row : Value} {s : SS} {d : D.DS} (H : Pq w0 w q k lim L h m row s d) (hb : Below w.heap.size w w') : Pq w0 w' q k lim L h m row s d := ⟨H.po.below hb, H.mi.below hb⟩

structure Nx (w w' : World) (k k' : Pl) : Prop where
  e : ∃ ys, k' = k.more ys ∧ ∀ y ∈ ys, w.heap.size ≤ y
  off : D.Off k.X w w'
theorem Nx.refl (w : World) (k : Pl) : Nx w w k k := ⟨⟨[], rfl, by simp⟩, D.Off.refl _ _⟩
theorem Nx.below {w w' : World} (k : Pl) (h : Below w.heap.size w w') : Nx w w' k k := ⟨⟨[], rfl, by simp⟩, D.Off.of_below h⟩
theorem Nx.ofK {w w' : World} {k : Pl} (h : D.Off k.K w w') : Nx w w' k k := ⟨⟨[], rfl, by simp⟩, h.mono k.kx⟩
theorem Nx.ofZ {w w' : World} {k : Pl} (h : D.Off k.z w w') : Nx w w' k k := ⟨⟨[], rfl, by simp⟩, h.mono k.zx⟩
theorem Nx.trans {w w' w'' : World} {k k' k'' : Pl} (h : Nx w w' k k') (h' : Nx w' w'' k' k'') : Nx w w'' k k'' := by
  obtain ⟨⟨ys, rfl, hy⟩, o⟩ := h
  obtain ⟨⟨zs, rfl, hz⟩, o'⟩ := h'
  refine ⟨⟨zs ++ ys, by simp [Pl.more], fun y hy' => ?_⟩, ?_⟩
  · rcases List.mem_append.1 hy' with h | h
    · exact Nat.le_trans o.size (hz y h)
    · exact hy y h
  · exact ⟨o'.os.trans o.os, o'.tape.trans o.tape, o'.output.trans o.output, Nat.le_trans o.size o'.size, fun i hi hx => (o'.block i (Nat.lt_of_lt_of_le hi o.size) (more_mem hy hi hx)).trans (o.block i hi hx)⟩
theorem Nx.p {w w' : World} {k k' : Pl} (h : Nx w w' k k') : k'.p = k.p := by obtain ⟨⟨ys, rfl, hy⟩, o⟩ := h; rfl
theorem FrB.ne {w : World} {b q p : Nat} {f : Fr} {v : Value} {lim : Int} {row : Value} {x y : Int} (h : FrB w b f v) (h' : PoB w q p lim row x y) : b ≠ q := by
  rintro rfl
  unfold FrB at h
  unfold PoB at h'
  rw [h] at h'
  simp at h'
theorem RowB.at {w : World} {base : Nat} {row : Value} {L : FL} (h : RowB w base row L) {g : Nat} (hg : row.ownBlock = some g) : ∃ cur, w.heap[g]? = some (.cells cur 102 (0, 0)) := by
  rcases h.2 with ⟨rfl, _⟩ | ⟨g', cap, cur, rfl, _, hgg, _⟩
  · simp [Value.ownBlock] at hg
  · simp [Value.ownBlock] at hg
    subst hg
    exact ⟨cur, hgg⟩
theorem FrB.nr {w : World} {b base : Nat} {f : Fr} {v : Value} {row : Value} {L : FL} (h : FrB w b f v) (h' : RowB w base row L) : row.ownBlock ≠ some b := by
  intro e
  obtain ⟨cur, hc⟩ := h'.at e
  unfold FrB at h
  rw [hc] at h
  simp at h
theorem PoB.nr {w : World} {q p base : Nat} {lim : Int} {row : Value} {x y : Int} {row2 : Value} {L : FL} (h : PoB w q p lim row x y) (h' : RowB w base row2 L) : row2.ownBlock ≠ some q := by
  intro e
  obtain ⟨cur, hc⟩ := h'.at e
  unfold PoB at h
  rw [hc] at h
  simp at h
theorem Pq.rerow {w0 w w' : World} {q : Nat} {k : Pl} {lim : Int} {L L' : FL} {h m h' m' : Int} {row row' : Value} {s : SS} {d : D.DS} {Y : List Nat} (H : Pq w0 w q k lim L h m row s d) (ys : List Nat) (hy : ∀ y ∈ ys, w.heap.size ≤ y ∧ y < w'.heap.size)
    (ho : D.Off Y w w') (hY : ∀ y ∈ Y, y = q ∨ row.ownBlock = some y) (hpb : PoB w' q k.p lim row' h' m') (hrb : RowB w' w0.heap.size row' L') (hrz : ∀ g, row'.ownBlock = some g → g ∈ ys ∨ g ∈ k.z)
    (hL : ∀ x ∈ L', x ∈ L ∨ ((x.1 ∈ ys ∨ x.1 ∈ k.z) ∧ ∃ v, FrB w' x.1 x.2 v ∧ FB w' (k.more ys).X v x.2.zs)) (hnd : L'.bs.Nodup) (hll : (L'.length : Int) ≤ lim) : Pq w0 w' q (k.more ys) lim L' h' m' row' s d ∧ Nx w w' k (k.more ys) := by
  have hYz : ∀ y ∈ Y, y ∈ k.z := fun y hy' => by
    rcases hY y hy' with rfl | h
    · exact H.po.qz
    · exact H.po.rz y h
  have hoz := ho.mono hYz
  have hX := H.mi.sy.lt
  have hs := H.mi.be.size
  have hm := H.mi.other H.po.zk H.po.up hoz ys (fun y hy' => (hy y hy').1) (fun y hy' => (hy y hy').2)
  refine ⟨⟨⟨hpb, hrb, fun g hg => ?_, fun x hx => ?_, fun b hb => ?_, ?_, hnd, fun x hx => ?_, fun x hx => ?_, hll, H.po.l0, H.po.l1⟩, hm⟩, ⟨⟨ys, rfl, fun y hy' => (hy y hy').1⟩, hoz.mono k.zx⟩⟩
  · rcases hrz g hg with h | h <;> simp [Pl.more, h]
  · rcases hL x hx with hx | ⟨_, hv⟩
    · obtain ⟨v, h1, h2⟩ := H.po.fr x hx
      refine ⟨v, h1.off ho (fun hy' => ?_), (h2.more ys (fun y hy' => (hy y hy').1)).off hoz (fun y hy' => by simp [Pl.X, Pl.more, hy'])⟩
      rcases hY _ hy' with e | e
      · exact h1.ne H.po.pb e
      · exact h1.nr H.po.rb e
    · exact hv
  · obtain ⟨x, hx, rfl⟩ := List.mem_map.1 hb
    rcases hL x hx with hx | ⟨hy', _⟩
    · simp [Pl.more, H.po.bz _ (List.mem_map.2 ⟨x, hx, rfl⟩)]
    · rcases hy' with hy' | hy' <;> simp [Pl.more, hy']
  · simp [Pl.more, H.po.qz]
  · simp only [Pl.more, List.mem_append] at hx
    rcases hx with hx | hx
    · intro hk
      have := hX x (k.kx x hk)
      have := (hy x hx).1
      omega
    · exact H.po.zk x hx
  · simp only [Pl.more, List.mem_append] at hx
    rcases hx with hx | hx
    · have := (hy x hx).1
      omega
    · exact H.po.up x hx
theorem FL.set_ps (L : FL) (i : Nat) (h : i < L.length) (f : Fr) : FL.ps (L.set i (L[i].1, f)) = L.ps := by
  apply List.ext_getElem?
  intro j
  simp only [FL.ps, List.getElem?_map, List.getElem?_set]
  by_cases hj : i = j
  · subst hj; simp [h]
  · simp [hj]
theorem FL.set_bs (L : FL) (i : Nat) (h : i < L.length) (f : Fr) : FL.bs (L.set i (L[i].1, f)) = L.bs := by
  apply List.ext_getElem?
  intro j
  simp only [FL.bs, List.getElem?_map, List.getElem?_set]
  by_cases hj : i = j
  · subst hj; simp [h]
  · simp [hj]
theorem Pq.reframe {w0 w w' : World} {q : Nat} {k : Pl} {lim : Int} {L : FL} {h m : Int} {row : Value} {s : SS} {d : D.DS} (H : Pq w0 w q k lim L h m row s d) (i : Nat) (hi : i < L.length) (f : Fr) (v : Value)
    (ho : D.Off [L[i].1] w w') (hf : FrB w' L[i].1 f v) (hv : FB w' k.X v f.zs) : Pq w0 w' q k lim (L.set i (L[i].1, f)) h m row s d ∧ Nx w w' k k := by
  have hmem : L[i] ∈ L := List.getElem_mem _
  have hbz : L[i].1 ∈ k.z := H.po.bz _ (List.mem_map.2 ⟨_, hmem, rfl⟩)
  have hoz : D.Off k.z w w' := ho.mono (fun y hy => by simp at hy; rw [hy]; exact hbz)
  obtain ⟨v0, hf0, _⟩ := H.po.fr _ hmem
  refine ⟨⟨⟨H.po.pb.off ho (by simp; exact fun e => hf0.ne H.po.pb e.symm), ?_, H.po.rz, fun x hx => ?_, ?_, H.po.qz, ?_, H.po.zk, H.po.up, by rw [List.length_set]; exact H.po.ll, H.po.l0, H.po.l1⟩, H.mi.zoff H.po.zk H.po.up hoz⟩, Nx.ofZ hoz⟩
  · have := H.po.rb.off ho (fun g hg => by simp; rintro rfl; exact hf0.nr H.po.rb hg)
    unfold RowB at this ⊢
    rw [List.length_set, FL.set_ps L i hi]
    exact this
  · rw [List.mem_iff_getElem?] at hx
    obtain ⟨j, hj⟩ := hx
    rw [List.getElem?_set] at hj
    by_cases hij : i = j
    · subst hij
      simp [hi] at hj
      subst hj
      exact ⟨v, hf, hv⟩
    · simp [hij] at hj
      have hx := List.mem_of_getElem? hj
      obtain ⟨v', h1, h2⟩ := H.po.fr x hx
      refine ⟨v', h1.off ho ?_, h2.off hoz k.zx⟩
      intro hm
      simp at hm
      have hjl := (List.getElem?_eq_some_iff.1 hj).1
      have hje := (List.getElem?_eq_some_iff.1 hj).2
      have hbl : L.bs.length = L.length := by simp [FL.bs]
      have hpw := List.pairwise_iff_getElem.1 H.po.nd
      rcases Nat.lt_or_gt_of_ne hij with hlt | hlt
      · exact hpw i j (by omega) (by omega) hlt (by simp [FL.bs, hje, hm])
      · exact hpw j i (by omega) (by omega) hlt (by simp [FL.bs, hje, hm])
  · rw [FL.set_bs L i hi]; exact H.po.bz
  · rw [FL.set_bs L i hi]; exact H.po.nd
end Go.Proofs.YtbklnadlbcndlaaGreat
namespace Go.Proofs.YtbklnadlbcndlaaGreat
set_option maxRecDepth 20000
open Go.RowKit
set_option linter.unusedVariables false
set_option linter.unusedSimpArgs false
structure Calm (d : D.DS) : Prop where
  dn : d.down = false
  fl : d.fails = -1
theorem Calm.step {d t : D.DS} (h : Calm d) : D.stepE d = 0 ∧ Calm (D.stepS d t) := by
  have hf : ¬ d.fails = 0 := by rw [h.fl]; decide
  refine ⟨?_, ?_⟩
  · unfold D.stepE
    rw [if_neg hf]
  · unfold D.stepS
    rw [if_neg hf]
    exact ⟨h.dn, by show (if 0 < d.fails then d.fails - 1 else d.fails) = -1; rw [h.fl]; decide⟩
theorem Calm.sync {d : D.DS} (h : Calm d) : D.syncE d = 0 ∧ Calm (D.syncS d) := by
  have hd : ¬ d.down = true := by rw [h.dn]; decide
  unfold D.syncE D.syncS
  rw [if_neg hd, if_neg hd]
  exact h.step
theorem Calm.write {d : D.DS} (h : Calm d) {n : Int} {zs : List Int} (h0 : 0 ≤ n) (h1 : n < d.room) (hl : zs.length = 256) : D.writeE d n zs = 0 ∧ Calm (D.writeS d n zs) := by
  have hd : ¬ d.down = true := by rw [h.dn]; decide
  have hr : D.reachE d n = 0 := by
    unfold D.reachE
    rw [if_neg hd, if_neg (by omega)]
  unfold D.writeE D.writeS
  rw [hr, if_neg (by decide), if_neg (by omega), if_neg (by omega)]
  exact h.step
theorem Calm.wp (kd : Int) : ∀ (ps : List (List Int)) (i : Nat) (bs : List Int) (d : D.DS), Calm d → (∀ p ∈ ps, p.length ≤ 246) → (∀ b ∈ bs, 0 ≤ b ∧ b < d.room) → (wpR kd i ps bs d).1 = 0 ∧ Calm (wpR kd i ps bs d).2
  | [], i, bs, d, h, _, _ => by unfold wpR; exact ⟨rfl, h⟩
  | p :: ps, i, [], d, h, _, _ => by unfold wpR; exact ⟨rfl, h⟩
  | p :: ps, i, b :: bs, d, h, hp, hb => by
    have hb0 := hb b (by simp)
    obtain ⟨e, hc⟩ := h.write hb0.1 hb0.2 (seal_len (k := kd) (id := i) (hp p (by simp)))
    unfold wpR
    rw [if_neg (by rw [e]; decide)]
    exact Calm.wp kd ps (i + 1) bs _ hc (fun q hq => hp q (List.mem_cons_of_mem _ hq)) (fun q hq => by rw [writeS_room]; exact hb q (List.mem_cons_of_mem _ hq))
theorem Calm.tl {F : Nat → D.DS → Int × D.DS} {r : Nat} (hF : ∀ j d, d.room = r → Calm d → (F j d).1 = 0 ∧ Calm (F j d).2 ∧ (F j d).2.room = r) : ∀ (n j : Nat) (d : D.DS), d.room = r → Calm d → (tlR F n j d).1 = 0 ∧ Calm (tlR F n j d).2
  | 0, j, d, _, h => ⟨rfl, h⟩
  | n + 1, j, d, hr, h => by
    obtain ⟨e, hc, hr2⟩ := hF j d hr h
    unfold tlR
    rw [if_neg (by rw [e]; decide)]
    exact Calm.tl hF n (j + 1) _ hr2 hc
def plF (s : SS) (id : Nat) : SS :=
  match freeL s with
  | [] => s
  | n :: _ => (s.give id n).fresh n true
theorem Calm.place {s : SS} {d : D.DS} (h : Calm d) (hr : d.room = s.bl) (id : Nat) {zs : List Int} (hl : zs.length = 256) :
    (placeR s d id zs).1 = (if freeL s = [] then 10 else 0) ∧ (placeR s d id zs).2.1 = plF s id ∧ Calm (placeR s d id zs).2.2 := by
  unfold placeR plF
  cases hf : freeL s with
  | nil => exact ⟨rfl, rfl, h⟩
  | cons n rest =>
    have hm : n ∈ freeL s := by rw [hf]; simp
    have hn := (free_mem.mp hm).1
    obtain ⟨e, hc⟩ := h.write (n := (n : Int)) (by omega) (by rw [hr]; omega) hl
    show (if D.writeE d n zs ≠ 0 then _ else _ : Int × SS × D.DS).1 = _ ∧ (if D.writeE d n zs ≠ 0 then _ else _ : Int × SS × D.DS).2.1 = _ ∧ Calm (if D.writeE d n zs ≠ 0 then _ else _ : Int × SS × D.DS).2.2
    rw [if_neg (by rw [e]; decide)]
    exact ⟨rfl, rfl, hc⟩
theorem Calm.alloc {s : SS} {d : D.DS} (h : Calm d) (hr : d.room = s.bl) (hb : s.bad = false) {kd : Int} {zs : List Int} (h1 : sealE kd 1 zs.length = 0) (h2 : sealE kd (spareN s.c.tb : Nat) zs.length = 0) (hl : zs.length ≤ 246) :
    allocE s d kd zs = (if freeL s = [] then 10 else 0) ∧ (allocR s d kd zs).1 = plF s (spareN s.c.tb) ∧ Calm (allocR s d kd zs).2 := by
  have hp := h.place hr (spareN s.c.tb) (seal_len (k := kd) (id := (spareN s.c.tb : Nat)) hl)
  unfold allocE allocR
  rw [hb, h1, h2, if_neg (by decide), if_neg (show ¬ ((0 : Int) ≠ 0) by decide), if_neg (show ¬ ((0 : Int) ≠ 0) by decide), if_neg (show ¬ (false = true ∨ (0 : Int) ≠ 0 ∨ (0 : Int) ≠ 0) by decide)]
  exact hp
theorem Calm.settle {s : SS} {d : D.DS} (h : Calm d) (hr : d.room = s.bl) (hbl : 2 ≤ s.bl) {ep : Int} (he : 0 ≤ ep) (us2 : List Int) (hk : R.checkE (rootD s ep) = 0) :
    (settleR s d ep us2).1 = (if (freeL s).length < cntN s then 10 else 0) ∧ (settleR s d ep us2).2.1 = (if (freeL s).length < cntN s then s else s.hold ep s.c.st s.c.tb us2) ∧ Calm (settleR s d ep us2).2.2 := by
  unfold settleR
  by_cases hf : (freeL s).length < cntN s
  · rw [if_pos hf, if_pos hf, if_pos hf]
    exact ⟨rfl, rfl, h⟩
  · rw [if_neg hf, if_neg hf, if_neg hf, if_neg (by rw [hk]; decide)]
    have hT : ∀ b ∈ tabL s, 0 ≤ b ∧ b < s.bl := fun b hb => by
      unfold tabL ints at hb
      obtain ⟨n, hn, rfl⟩ := List.mem_map.mp hb
      have := (free_mem.mp (List.mem_of_mem_take hn)).1
      exact ⟨Int.natCast_nonneg _, by show (n : Int) < _; omega⟩
    have hM : ∀ b ∈ mapL s, 0 ≤ b ∧ b < s.bl := fun b hb => by
      unfold mapL ints at hb
      obtain ⟨n, hn, rfl⟩ := List.mem_map.mp hb
      have := (free_mem.mp (List.mem_of_mem_take (List.mem_of_mem_drop hn))).1
      exact ⟨Int.natCast_nonneg _, by show (n : Int) < _; omega⟩
    have hS : ∀ j d', d'.room = s.bl → Calm d' → (stepF s ep us2 j d').1 = 0 ∧ Calm (stepF s ep us2 j d').2 ∧ (stepF s ep us2 j d').2.room = s.bl := fun j d' hr' hc' => by
      rcases j with _ | _ | _ | _ | j
      · obtain ⟨a, b⟩ := Calm.wp 1 (splitS (wordsS s.c.tb) 246) 0 (tabL s) d' hc' (split_small _) (by rw [hr']; exact hT)
        exact ⟨a, b, by show (wpR _ _ _ _ _).2.room = _; rw [wp_room, hr']⟩
      · obtain ⟨a, b⟩ := Calm.wp 2 (splitS us2 246) 0 (mapL s) d' hc' (split_small _) (by rw [hr']; exact hM)
        exact ⟨a, b, by show (wpR _ _ _ _ _).2.room = _; rw [wp_room, hr']⟩
      · exact ⟨hc'.sync.1, hc'.sync.2, by show (D.syncS d').room = _; rw [← hr']; unfold D.syncS; split; rfl; exact stepS_room⟩
      · have ht : 0 ≤ Int.tmod ep 2 ∧ Int.tmod ep 2 < 2 := ⟨Int.tmod_nonneg 2 he, Int.tmod_lt_of_pos ep (by decide)⟩
        obtain ⟨a, b⟩ := hc'.write (n := Int.tmod ep 2) (zs := R.putS (rootD s ep)) ht.1 (by rw [hr']; omega) (R.put_len (R.ok_checkE hk))
        exact ⟨a, b, by show (D.writeS _ _ _).room = _; rw [writeS_room, hr']⟩
      · exact ⟨hc'.sync.1, hc'.sync.2, by show (D.syncS d').room = _; rw [← hr']; unfold D.syncS; split; rfl; exact stepS_room⟩
    obtain ⟨e, hc⟩ := Calm.tl hS 5 0 d hr h
    rw [if_neg (by rw [e]; decide)]
    exact ⟨rfl, rfl, hc⟩
theorem Calm.commit {s : SS} {d : D.DS} (h : Calm d) (hr : d.room = s.bl) (hbl : 2 ≤ s.bl) (hb : s.bad = false) (hd : s.c.dt = true) (he : 0 ≤ s.ep) (us2 : List Int) (hk : R.checkE (rootD s (s.ep + 1)) = 0) :
    (comR s d us2).1 = (if (freeL s).length < cntN s then 10 else 0) ∧ (comR s d us2).2.1 = (if (freeL s).length < cntN s then s else s.hold (s.ep + 1) s.c.st s.c.tb us2) ∧ Calm (comR s d us2).2.2 := by
  unfold comR
  rw [hb, hd, if_neg (by decide), if_neg (by decide)]
  exact h.settle hr hbl (by omega) us2 hk
end Go.Proofs.YtbklnadlbcndlaaGreat
