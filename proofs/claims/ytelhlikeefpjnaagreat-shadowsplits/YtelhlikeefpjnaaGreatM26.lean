import Derived.Test.YtelhlikeefpjnaaGreatM16
import Derived.Test.YtelhlikeefpjnaaGreatM20
import Derived.Test.YtelhlikeefpjnaaGreatM19
import Derived.Test.YtelhlikeefpjnaaGreatM12
namespace Go.Proofs.YtelhlikeefpjnaaGreat
set_option maxRecDepth 20000
open Go.RowKit
set_option linter.unusedVariables false
set_option linter.unusedSimpArgs false
theorem fi_nil (w : World) (X : List Nat) : FI w X (.slice none 0 0) [] := ⟨none, 0, rfl, fun _ => rfl, Nat.zero_le _, by omega, .inl rfl, fun h => absurd rfl h⟩
def blank0 (bl : Nat) : SS := ⟨⟨[], 0, [], false⟩, ⟨[], 0, [], false⟩, 0, [], bl, false⟩
def blank1 (bl : Nat) : SS := ⟨⟨[], 0, List.replicate (B.makeN bl) 0, false⟩, ⟨[], 0, [], false⟩, 0, [], bl, false⟩
def blankS (bl : Nat) : SS := ⟨⟨[], 0, List.replicate (B.makeN bl) 0, false⟩, ⟨[], 0, [], false⟩, 0, rootsS bl, bl, false⟩
theorem blankS_ok {bl : Nat} (h : bl ≤ 4096) : (blankS bl).Ok :=
  ⟨h, ⟨⟨by simp [blankS], by simp [blankS]⟩, .inl rfl, by simp [blankS], zeros_allB _⟩, .inr rfl, rootsK_len bl 2, rootsK_all bl 2, by show (0 : Int) ≤ 0; decide, by show (0 : Int) ≤ 1099511627776; decide⟩
def BlankPost (w : World) (dp nb mb : Nat) (d : D.DS) (e : Ending) (w' : World) : Prop :=
  ∃ p t f t' f' u sb db nx, e = .returned (.pointer (some ⟨p, 0, none⟩)) ∧ w.heap.size ≤ p ∧ Sx w' ⟨p, dp, nb, mb⟩ (blankS d.room) d t f t' f' u sb db nx ∧ Below w.heap.size w w'
set_option maxHeartbeats 1600000 in
theorem blank_s (dp nb mb : Nat) (d : D.DS) (w : World) (h : D.Dk w dp nb mb d) : Calls Tryz.prog 51 #[.pointer (some ⟨dp, 0, none⟩)] w fun e w' => BlankPost w dp nb mb d e w' := by
  have H1 := D.blocks_any dp nb mb d w h
  have hr := h.1.room
  obtain ⟨_, _, _, hl1, hl2, hl3⟩ := h.ne
  obtain ⟨k, hk⟩ : ∃ k : Pl, k = ⟨w.heap.size, dp, nb, mb⟩ := ⟨_, rfl⟩
  obtain ⟨w1, hw1⟩ : ∃ w1, w1 = w.alloc (.cells #[.slice none 0 0, .int .i64 0, .slice none 0 0, .bool false, .slice none 0 0, .int .i64 0, .slice none 0 0, .bool false, .int .i64 0, .slice none 0 0, .int .i64 (d.room : Int), .bool false, .nilFunc, .nilFunc, .nilFunc] 92) := ⟨_, rfl⟩
  have hb1 : Below w.heap.size w w1 := by rw [hw1]; exact (Below.refl _ _).alloc (Nat.le_refl _) _
  have hrow : ShB w1 w.heap.size (.slice none 0 0) (.int .i64 0) (.slice none 0 0) (.bool false) (.slice none 0 0) (.int .i64 0) (.slice none 0 0) (.bool false) (.int .i64 0) (.slice none 0 0) (.int .i64 (d.room : Int)) (.bool false) .nilFunc .nilFunc .nilFunc := by rw [hw1]; exact heap_alloc_last _ _
  have hs1 : w1.heap.size = w.heap.size + 1 := by rw [hw1]; simp
  have hX1 : ∀ x ∈ k.X, x < w1.heap.size := by intro x hx; rw [hk] at hx; simp [Pl.X] at hx; omega
  have hkp : k.p = w.heap.size := by rw [hk]
  have hkd : k.dp = dp := by rw [hk]
  have hkD : k.D = [dp, nb, mb] := by rw [hk]; rfl
  have hpn : k.p ∉ k.D := by rw [hkp, hkD]; simp; omega
  have H2 : Hid (Calls Tryz.prog 50 #[.pointer (some ⟨w.heap.size, 0, none⟩), .pointer (some ⟨dp, 0, none⟩)] w1 fun e w' => e = .returned (.tuple #[]) ∧ ∃ sb db nx, Sx w' k (blank0 d.room) d (.slice none 0 0) (.slice none 0 0) (.slice none 0 0) (.slice none 0 0) (.slice none 0 0) sb db nx ∧ Below w.heap.size w w') := by
    have := step_s w1 k _ _ _ _ _ _ _ _ _ _ _ _ _ _ _ (by rw [hkp]; exact hrow) hX1
    rw [hkp, hkd] at this
    refine this.mono ?_
    rintro e w' ⟨rfl, sb, db, nx, hb, hbx, ho⟩
    rw [hkp] at ho
    have hd' : D.Dk w' k.dp k.nb k.mb d := by
      have : D.Dk w' dp nb mb d := (h.below hb1).off ho (by simp; omega) (by simp; omega) (by simp; omega)
      rw [hk]; exact this
    exact ⟨rfl, sb, db, nx, ⟨hd', hpn, hb, fi_nil _ _, fb_nil _ _, fi_nil _ _, fb_nil _ _, fb_nil _ _, hbx⟩, hb1.trans (ho.below (by omega) (by simp))⟩
  have H3 : Hid (∀ W, (∀ x ∈ k.X, x < W.heap.size) → Calls Tryz.prog 109 #[.int .i64 (d.room : Int)] W fun e w' => ∃ v, e = .returned v ∧ FB w' k.X v (List.replicate (B.makeN d.room) 0) ∧ Below W.heap.size W w') := fun W hW => make_fb d.room k.X W hW
  have H4 : Hid (∀ W, (∀ x ∈ k.X, x < W.heap.size) → Calls Tryz.prog 110 #[.int .i64 (d.room : Int), .slice none 0 0] W fun e w' => ∃ v, e = .returned (.tuple #[v, .bool true]) ∧ FB w' k.X v (rootsS d.room) ∧ Below W.heap.size W w') := by
    intro W hW
    have := used_any d.room hr (.slice none 0 0) [] k.X W hW (by simp) (fun V hV => by
      refine (concatI_none V).mono ?_
      rintro e w' ⟨rfl, rfl⟩
      exact ⟨_, rfl, fi_nil _ _, Below.refl _ _⟩)
    refine this.mono ?_
    rintro e w' ⟨v, rfl, hv, hb⟩
    exact ⟨v, rfl, hv, hb⟩
  have HK : Hid (k = ⟨w.heap.size, dp, nb, mb⟩) := hk
  have HKP : Hid (k.p = w.heap.size) := hkp
  have HW1 : Hid (w1 = _) := hw1
  unfold BlankPost
  generalize d.room = rm at *
  clear h hrow hX1 hkd hkD hpn hb1 hl1 hl2 hl3 hk hw1
  clear hkp
  go_enter Tryz.func51, Tryz.ntmps51
  go_wp2_with (first
    | (go_at_call 108; refine H1.mono ?_; rintro e w' ⟨rfl, hw⟩; obtain rfl := hw.symm; clear H1)
    | (go_at_call 50; rw [← HW1.out]; refine H2.out.mono ?_; rintro e w2 ⟨rfl, sb, db, nx, hx2, hb2⟩; have HX2 : Hid (Sx w2 k (blank0 rm) d (.slice none 0 0) (.slice none 0 0) (.slice none 0 0) (.slice none 0 0) (.slice none 0 0) sb db nx) := hx2; have HB2 : Hid (Below w.heap.size w w2) := hb2; have c102 : w2.cell? ⟨k.p, 10, none⟩ = some (.int .i64 (rm : Int)) := hx2.m.v.cells.c10; have H3' := H3.out w2 hx2.lt; rw [HKP.out] at c102; clear hx2 hb2 H2 HW1)
    | (go_at_call 109; refine H3'.mono ?_; rintro e w3 ⟨fv, rfl, hfv, hb3⟩; have HFV : Hid (FB w3 k.X fv (List.replicate (B.makeN rm) 0)) := hfv; obtain ⟨fa, fc, e3, _⟩ := hfv; rw [List.length_replicate] at e3; subst e3; have hx3 := HX2.out.below hb3; have c23 := hx3.m.v.cells.c2; have f23 := hx3.m.v.cells.f 2; have c103 : w3.cell? ⟨k.p, 10, none⟩ = some (.int .i64 (rm : Int)) := hx3.m.v.cells.c10; rw [HKP.out] at c23 f23 c103; have HE3 : Hid _ := hx3.set (s2 := blank1 rm) ((D.Off.refl [k.p] w3).setCell (by simp) _) (ShB.set2 hx3.m.v _) hx3.m.ht HFV.out hx3.m.ht' hx3.m.hf' hx3.m.hu; have HB3 : Hid (Below w.heap.size w w3) := HB2.out.trans (hb3.mono HB2.out.size); have hs3 := HB3.out.size; rw [HKP.out] at HE3; obtain ⟨v3, hv3⟩ : ∃ v3, v3 = w3.setCell ⟨w.heap.size, 2, none⟩ (.slice fa (B.makeN rm) fc) := ⟨_, rfl⟩; rw [← hv3] at HE3; have HV3 : Hid (v3 = _) := hv3; have c104 : v3.cell? ⟨k.p, 10, none⟩ = some (.int .i64 (rm : Int)) := HE3.out.m.v.cells.c10; rw [HKP.out] at c104; have HBV3 : Hid (Below w.heap.size w v3) := (by rw [hv3]; exact HB3.out.setCell (Nat.le_refl _) _); have H4' := H4.out v3 HE3.out.lt; clear hx3 hb3 H3' H3 HX2 HB2 hv3 H4)
    | (go_at_call 110; rw [← HV3.out]; refine H4'.mono ?_; rintro e w4 ⟨uv, rfl, huv, hb4⟩; have HUV : Hid (FB w4 k.X uv (rootsS rm)) := huv; obtain ⟨ua, uc, rfl, _⟩ := huv; have hx4 := HE3.out.below hb4; have c94 := hx4.m.v.cells.c9; have f94 := hx4.m.v.cells.f 9; rw [HKP.out] at c94 f94; have HE4 : Hid _ := hx4.set (s2 := blankS rm) ((D.Off.refl [k.p] w4).setCell (by simp) _) (ShB.set9 hx4.m.v _) hx4.m.ht hx4.m.hf hx4.m.ht' hx4.m.hf' HUV.out; have HB4 : Hid (Below w.heap.size w w4) := HBV3.out.trans (hb4.mono HBV3.out.size); rw [HKP.out] at HE4; clear hx4 hb4 H4' HE3)
    | fail)
  go_ret
  have hfin := HE4.out
  rw [HK.out] at hfin
  exact ⟨w.heap.size, _, _, _, _, _, _, _, _, rfl, Nat.le_refl _, hfin, HB4.out.setCell (Nat.le_refl _) _⟩
theorem settle_any {k : Pl} {s : SS} {d : D.DS} {t f t' f' u : Value} {sb db nx : Nat} (ep : Int) (us2 : List Int) (w : World) (h : Sx w k s d t f t' f' u sb db nx) (ok : s.Ok) (hep0 : 0 ≤ ep) (hep1 : ep ≤ 9223372036854775807) (hb1 : 1 ≤ s.bl) (hus2 : cntN s ≤ (freeL s).length → onceR s.bl (rootsS s.bl) (s.c.tb ++ tabL s ++ mapL s) = some us2) :
    Calls Tryz.prog 56 #[.pointer (some ⟨k.p, 0, none⟩), .int .i64 ep] w fun e w' => Done k w (settleR s d ep us2) e w' := by
  by_cases hf : (freeL s).length < cntN s
  · exact settle_full ep us2 w h ok hf
  · exact settle_main ep us2 w h ok hep0 hep1 hb1 (by omega) (hus2 (by omega))
def comR (s : SS) (d : D.DS) (us2 : List Int) : Int × SS × D.DS := if s.bad then (15, s, d) else if s.c.dt = false then (0, s, d) else settleR s d (s.ep + 1) us2
set_option maxHeartbeats 800000 in
theorem commit_s {k : Pl} {s : SS} {d : D.DS} {t f t' f' u : Value} {sb db nx : Nat} (us2 : List Int) (w : World) (h : Sx w k s d t f t' f' u sb db nx) (ok : s.Ok) (hb1 : 1 ≤ s.bl) (hus2 : cntN s ≤ (freeL s).length → onceR s.bl (rootsS s.bl) (s.c.tb ++ tabL s ++ mapL s) = some us2) :
    Calls Tryz.prog 22 #[.pointer (some ⟨k.p, 0, none⟩)] w fun e w' => Done k w (comR s d us2) e w' := by
  have HX : Hid (Sx w k s d t f t' f' u sb db nx) := h
  have e0 := ok.e0
  have e1 := ok.e1
  have H1 := ready_s w h
  have H2 := settle_any (s.ep + 1) us2 w h ok (by omega) (by omega) hb1 hus2
  have c3 := h.m.v.cells.c3
  have c8 := h.m.v.cells.c8
  unfold readyE at H1
  unfold comR
  clear h ok hus2
  cases hb : s.bad
  · rw [hb] at H1
    simp only [Bool.false_eq_true, if_false] at H1 ⊢
    cases hd : s.c.dt
    · rw [hd] at c3
      simp only [if_true]
      unfold Done
      go_enter Tryz.func22, Tryz.ntmps22
      go_wp2_with (first | (go_at_call 57; refine H1.mono ?_; rintro e w' ⟨rfl, hw⟩; obtain rfl := hw.symm; clear H1) | fail)
      go_ret
      exact ⟨rfl, ⟨_, _, _, _, _, _, _, _, HX.out⟩, D.Off.refl _ _⟩
    · rw [hd] at c3
      simp only [Bool.true_eq_false, if_false]
      generalize settleR s d (s.ep + 1) us2 = r at *
      unfold Done at *
      generalize s.ep = ee at *
      go_enter Tryz.func22, Tryz.ntmps22
      go_wp2_with (first | (go_at_call 57; refine H1.mono ?_; rintro e w' ⟨rfl, hw⟩; obtain rfl := hw.symm; clear H1) | (go_at_call 56; refine H2.mono ?_; rintro e w1 ⟨rfl, hy, ho⟩; have HY : Hid _ := hy; have HO : Hid _ := ho; clear hy ho H2) | fail)
      go_ret
      exact ⟨rfl, HY.out, HO.out⟩
  · rw [hb] at H1
    simp only [if_true] at H1 ⊢
    unfold Done
    go_enter Tryz.func22, Tryz.ntmps22
    go_wp2_with (first | (go_at_call 57; refine H1.mono ?_; rintro e w' ⟨rfl, hw⟩; obtain rfl := hw.symm; clear H1) | fail)
    go_ret
    exact ⟨rfl, ⟨_, _, _, _, _, _, _, _, HX.out⟩, D.Off.refl _ _⟩
end Go.Proofs.YtelhlikeefpjnaaGreat
namespace Go.Proofs.YtelhlikeefpjnaaGreat
set_option maxRecDepth 20000
open Go.RowKit
set_option linter.unusedVariables false
set_option linter.unusedSimpArgs false
def FmtPost (w : World) (dp nb mb : Nat) (r : Int × SS × D.DS) (e : Ending) (w' : World) : Prop :=
  ((r.1 = 0 ∧ ∃ p, e = .returned (.tuple #[.pointer (some ⟨p, 0, none⟩), .int .i64 0]) ∧ w.heap.size ≤ p ∧ Sy w' ⟨p, dp, nb, mb⟩ r.2.1 r.2.2) ∨ (r.1 ≠ 0 ∧ e = .returned (.tuple #[.pointer none, .int .i64 r.1]))) ∧ D.Dk w' dp nb mb r.2.2 ∧ D.Off [dp, nb, mb] w w'
theorem Sy.dk {w : World} {k : Pl} {s : SS} {d : D.DS} (h : Sy w k s d) : D.Dk w k.dp k.nb k.mb d := by
  obtain ⟨_, _, _, _, _, _, _, _, h⟩ := h; exact h.dk
theorem off_new {w v w' : World} {p dp nb mb : Nat} (hb : Below w.heap.size w v) (ho : D.Off (Pl.X ⟨p, dp, nb, mb⟩) v w') (hp : w.heap.size ≤ p) : D.Off [dp, nb, mb] w w' := by
  refine ⟨ho.os.trans hb.os, ho.tape.trans hb.tape, ho.output.trans hb.output, Nat.le_trans hb.size ho.size, fun i hi hx => ?_⟩
  refine (ho.block i (Nat.lt_of_lt_of_le hi hb.size) ?_).trans (hb.block i hi)
  intro hm
  simp [Pl.X] at hm
  simp at hx
  omega
def fmtR (d : D.DS) (us2 : List Int) : Int × SS × D.DS :=
  if d.room < 3 + nPages (B.makeN d.room) then (10, blankS d.room, d)
  else if D.writeE d 1 (List.replicate 256 0) ≠ 0 then (D.writeE d 1 (List.replicate 256 0), blankS d.room, D.writeS d 1 (List.replicate 256 0))
  else settleR (blankS d.room) (D.writeS d 1 (List.replicate 256 0)) 0 us2
theorem wp_make_op {o : Oper} {a : Act} {w : World} {K : Act → World → Prop} {Q : Exit → Act → World → Prop} (x y : Operand) (ho : o.op = .makeSlice 29 x y) (n : Nat) (hn : n ≤ 1000000) (hx : a.eval x = .int .i64 n) (hy : a.eval y = .int .i64 n)
    (h : ∀ w', B.Own w' w.heap.size (.slice (some ⟨w.heap.size, 0, none⟩) n n) (List.replicate n 0) → Below w.heap.size w w' → K (a.put o.dst (.slice (some ⟨w.heap.size, 0, none⟩) n n)) w') : Oper.wp Tryz.prog o a w K Q := by
  obtain ⟨i0, hi, hz0, hz1, hz2⟩ := info_parts Tryz.info5
  have hrun := run_makeSlice (P := Tryz.prog) w 29 5 i0 (.int .u8 0) Tryz.underlying29 hi hz0 .i64 .i64 n n (by omega) (by omega) (by rw [hz1]; simp; omega) (by rw [hz2]; omega) (by omega)
  unfold Oper.wp
  rw [hz1, Int.toNat_natCast, Nat.mul_one] at hrun
  simp only [execOp, ho, hx, hy, Sem.run_bind, hrun, Result.andThen, Sem.run_pure]
  refine h _ ?_ ((Below.refl _ _).alloc (Nat.le_refl _) _)
  have := World.ownsRow_lit (base := w.heap.size) (e := 5) (size := 1) w (madeCells (Value.int .u8 0).cells n) n (Nat.le_refl _) (by unfold maxLen; omega) (by rw [size_madeCells]; omega)
  have e : (madeCells (Value.int .u8 0).cells n).toList = (List.replicate n (0 : Int)).map (Value.int .u8) := by
    rw [List.map_replicate]
    exact toList_madeCells_one _ n
  rw [e] at this
  unfold B.Own
  rw [List.length_replicate]
  exact this
theorem writeS_room (d : D.DS) (n : Int) (b : List Int) : (D.writeS d n b).room = d.room := by
  unfold D.writeS
  split
  · rfl
  · unfold D.stepS; split <;> (try split) <;> rfl
set_option maxHeartbeats 1600000 in
theorem format_small (dp nb mb : Nat) (d : D.DS) (us2 : List Int) (w : World) (h : D.Dk w dp nb mb d) (hs : d.room < 3 + nPages (B.makeN d.room)) :
    Calls Tryz.prog 16 #[.pointer (some ⟨dp, 0, none⟩)] w fun e w' => FmtPost w dp nb mb (fmtR d us2) e w' := by
  have eR : fmtR d us2 = (10, blankS d.room, d) := by unfold fmtR; rw [if_pos hs]
  rw [eR]
  have HD : Hid (∀ W, Below w.heap.size w W → D.Dk W dp nb mb d) := fun W hW => h.below hW
  have HB := blank_s dp nb mb d w h
  have hr := h.1.room
  obtain ⟨n2, hn2⟩ : ∃ n, n = nPages (B.makeN d.room) := ⟨_, rfl⟩
  have hn2' : n2 ≤ 10 := by have := makeN_le d.room; rw [hn2]; unfold nPages; omega
  have HN2 : Hid (n2 = nPages (B.makeN d.room)) := hn2
  have HUL : Hid ((rootsS d.room).length = B.makeN d.room) := rootsK_len _ _
  have HPgA : Hid (∀ ua uc W, Calls Tryz.prog 55 #[.slice ua (rootsS d.room).length uc] W fun e w' => e = .returned (.int .i64 (n2 : Nat)) ∧ w' = W) := fun ua uc W => by
    have := pages_any ua (rootsS d.room).length uc W (by have := makeN_le d.room; rw [HUL.out]; omega)
    rw [HUL.out, ← hn2] at this
    rw [HUL.out]; exact this
  clear hn2
  have hltI : decide ((d.room : Int) < 2 + (n2 : Int) + 1) = true := by simp; rw [HN2.out]; omega
  clear h eR
  go_enter Tryz.func16, Tryz.ntmps16
  go_wp2_with (first | (go_at_call 51; refine HB.mono ?_; rintro e w1 ⟨p, t, f, t', f', u, sb, db, nx, rfl, hp, hx1, hb1⟩; have HX1 : Hid (Sx w1 ⟨p, dp, nb, mb⟩ (blankS d.room) d t f t' f' u sb db nx) := hx1; have HB1 : Hid (Below w.heap.size w w1) := hb1; have hul := hx1.m.hu; obtain ⟨ua, uc, rfl, _⟩ := hul; have c10 : w1.cell? ⟨p, 10, none⟩ = some (.int .i64 (d.room : Int)) := hx1.m.v.cells.c10; have c9 : w1.cell? ⟨p, 9, none⟩ = some (.slice ua (rootsS d.room).length uc) := hx1.m.v.cells.c9; have HPg : Hid _ := HPgA.out ua uc; clear hx1 hb1 HB) | fail)
  obtain ⟨ul, hule⟩ : ∃ ul, ul = (rootsS d.room).length := ⟨_, rfl⟩
  have HULE : Hid (ul = (rootsS d.room).length) := hule
  rw [show (blankS d.room).us.length = ul from hule.symm] at *
  rw [← hule] at HPg c9
  clear hule HPgA
  refine wp_region_noPanic ?_
  refine name_ops ?_
  intro O QQ HO HQ
  refine wp_region_held_drew (S := (fun W => W.cell? ⟨p, 10, none⟩ = some (.int .i64 (d.room : Int)) ∧ W.cell? ⟨p, 9, none⟩ = some (.slice ua ul uc))) (by kernel_rfl) ⟨c10, c9⟩ (fun hS => ?_)
  rw [show O.size = 12 by rw [HO.out]; rfl]
  refine wpAnyH_take (i := 0) (v := .pointer (some ⟨p, 0, none⟩)) (by rw [HO.out]; simp only [List.getElem?_toArray, List.getElem?_cons_succ, List.getElem?_cons_zero]; rfl) (by rw [HO.out]; kernel_rfl) (by rw [HO.out]; kernel_rfl) (by rw [HO.out]; kernel_rfl) (by rw [HQ.out]; exact fun _ _ _ h => h) (Or.inl ⟨by rfl, ?_⟩) hS ?_
  · intro w' hSw
    go_simp
  try simp only [Act.put, List.setIfInBounds_toArray, List.set_cons_zero, List.set_cons_succ]
  refine wpAnyH_take (i := 1) (v := .pointer (some ⟨p, 0, none⟩)) (by rw [HO.out]; simp only [List.getElem?_toArray, List.getElem?_cons_succ, List.getElem?_cons_zero]; rfl) (by rw [HO.out]; kernel_rfl) (by rw [HO.out]; kernel_rfl) (by rw [HO.out]; kernel_rfl) (by rw [HQ.out]; exact fun _ _ _ h => h) (Or.inl ⟨by rfl, ?_⟩) hS ?_
  · intro w' hSw
    go_simp
  try simp only [Act.put, List.setIfInBounds_toArray, List.set_cons_zero, List.set_cons_succ]
  refine wpAnyH_take (i := 2) (v := .pointer (some ⟨p, 10, none⟩)) (by rw [HO.out]; simp only [List.getElem?_toArray, List.getElem?_cons_succ, List.getElem?_cons_zero]; rfl) (by rw [HO.out]; kernel_rfl) (by rw [HO.out]; kernel_rfl) (by rw [HO.out]; kernel_rfl) (by rw [HQ.out]; exact fun _ _ _ h => h) (Or.inl ⟨by rfl, ?_⟩) hS ?_
  · intro w' hSw
    go_simp
  try simp only [Act.put, List.setIfInBounds_toArray, List.set_cons_zero, List.set_cons_succ]
  refine wpAnyH_take (i := 3) (v := .int .i64 (d.room : Int)) (by rw [HO.out]; simp only [List.getElem?_toArray, List.getElem?_cons_succ, List.getElem?_cons_zero]; rfl) (by rw [HO.out]; kernel_rfl) (by rw [HO.out]; kernel_rfl) (by rw [HO.out]; kernel_rfl) (by rw [HQ.out]; exact fun _ _ _ h => h) (Or.inl ⟨by rfl, ?_⟩) hS ?_
  · intro w' hSw
    obtain ⟨q1, q2⟩ := hSw
    go_simp
  try simp only [Act.put, List.setIfInBounds_toArray, List.set_cons_zero, List.set_cons_succ]
  refine wpAnyH_take (i := 4) (v := .pointer (some ⟨p, 0, none⟩)) (by rw [HO.out]; simp only [List.getElem?_toArray, List.getElem?_cons_succ, List.getElem?_cons_zero]; rfl) (by rw [HO.out]; kernel_rfl) (by rw [HO.out]; kernel_rfl) (by rw [HO.out]; kernel_rfl) (by rw [HQ.out]; exact fun _ _ _ h => h) (Or.inl ⟨by rfl, ?_⟩) hS ?_
  · intro w' hSw
    go_simp
  try simp only [Act.put, List.setIfInBounds_toArray, List.set_cons_zero, List.set_cons_succ]
  refine wpAnyH_take (i := 5) (v := .pointer (some ⟨p, 0, none⟩)) (by rw [HO.out]; simp only [List.getElem?_toArray, List.getElem?_cons_succ, List.getElem?_cons_zero]; rfl) (by rw [HO.out]; kernel_rfl) (by rw [HO.out]; kernel_rfl) (by rw [HO.out]; kernel_rfl) (by rw [HQ.out]; exact fun _ _ _ h => h) (Or.inl ⟨by rfl, ?_⟩) hS ?_
  · intro w' hSw
    go_simp
  try simp only [Act.put, List.setIfInBounds_toArray, List.set_cons_zero, List.set_cons_succ]
  refine wpAnyH_take (i := 6) (v := .pointer (some ⟨p, 9, none⟩)) (by rw [HO.out]; simp only [List.getElem?_toArray, List.getElem?_cons_succ, List.getElem?_cons_zero]; rfl) (by rw [HO.out]; kernel_rfl) (by rw [HO.out]; kernel_rfl) (by rw [HO.out]; kernel_rfl) (by rw [HQ.out]; exact fun _ _ _ h => h) (Or.inl ⟨by rfl, ?_⟩) hS ?_
  · intro w' hSw
    go_simp
  try simp only [Act.put, List.setIfInBounds_toArray, List.set_cons_zero, List.set_cons_succ]
  refine wpAnyH_take (i := 7) (v := .slice ua ul uc) (by rw [HO.out]; simp only [List.getElem?_toArray, List.getElem?_cons_succ, List.getElem?_cons_zero]; rfl) (by rw [HO.out]; kernel_rfl) (by rw [HO.out]; kernel_rfl) (by rw [HO.out]; kernel_rfl) (by rw [HQ.out]; exact fun _ _ _ h => h) (Or.inl ⟨by rfl, ?_⟩) hS ?_
  · intro w' hSw
    obtain ⟨q1, q2⟩ := hSw
    go_simp
  try simp only [Act.put, List.setIfInBounds_toArray, List.set_cons_zero, List.set_cons_succ]
  refine wpAnyH_ready (rs := [8]) (by rw [HO.out]; kernel_rfl) (by simp) ?_
  refine AllReadyH.cons (o := _) (by rw [HO.out]; simp only [List.getElem?_toArray, List.getElem?_cons_succ, List.getElem?_cons_zero]; rfl) (fun K8 hK8 => ?_) AllReadyH.nil
  go_simp
  refine (HPg.out _).mono ?_
  rintro e wq ⟨rfl, hwq⟩
  obtain rfl := hwq.symm
  refine hK8.out _ _ hS (fun hS1 => ?_)
  try simp only [Act.put, List.setIfInBounds_toArray, List.set_cons_zero, List.set_cons_succ]
  refine wpAnyH_take (i := 9) (v := .int .i64 (2 + (n2 : Int))) (by rw [HO.out]; simp only [List.getElem?_toArray, List.getElem?_cons_succ, List.getElem?_cons_zero]; rfl) (by rw [HO.out]; kernel_rfl) (by rw [HO.out]; kernel_rfl) (by rw [HO.out]; kernel_rfl) (by rw [HQ.out]; exact fun _ _ _ h => h) (Or.inl ⟨by rfl, ?_⟩) hS1 ?_
  · intro w' hSw
    have a1 : IntKind.i64.wrap (2 + (n2 : Int)) = 2 + (n2 : Int) := wrap_sm (by omega) (by omega)
    go_simp
  try simp only [Act.put, List.setIfInBounds_toArray, List.set_cons_zero, List.set_cons_succ]
  refine wpAnyH_take (i := 10) (v := .int .i64 (2 + (n2 : Int) + 1)) (by rw [HO.out]; simp only [List.getElem?_toArray, List.getElem?_cons_succ, List.getElem?_cons_zero]; rfl) (by rw [HO.out]; kernel_rfl) (by rw [HO.out]; kernel_rfl) (by rw [HO.out]; kernel_rfl) (by rw [HQ.out]; exact fun _ _ _ h => h) (Or.inl ⟨by rfl, ?_⟩) hS1 ?_
  · intro w' hSw
    have a1 : IntKind.i64.wrap (2 + (n2 : Int) + 1) = 2 + (n2 : Int) + 1 := wrap_sm (by omega) (by omega)
    go_simp
  try simp only [Act.put, List.setIfInBounds_toArray, List.set_cons_zero, List.set_cons_succ]
  refine wpAnyH_take (i := 11) (v := .bool true) (by rw [HO.out]; simp only [List.getElem?_toArray, List.getElem?_cons_succ, List.getElem?_cons_zero]; rfl) (by rw [HO.out]; kernel_rfl) (by rw [HO.out]; kernel_rfl) (by rw [HO.out]; kernel_rfl) (by rw [HQ.out]; exact fun _ _ _ h => h) (Or.inl ⟨by rfl, ?_⟩) hS1 ?_
  · intro w' hSw
    have hlt := hltI
    go_simp
  try simp only [Act.put, List.setIfInBounds_toArray, List.set_cons_zero, List.set_cons_succ]
  refine wpAnyH_done (by rw [HO.out]; kernel_rfl) ?_ _
  rw [HQ.out]
  refine NoPanic.normal ?_
  go_wp2_with fail
  exact bodyPost_ret (v := .tuple #[.pointer none, .int .i64 10]) (by simp [results, Tryz.results16, go_sem]) rfl (by unfold FmtPost; exact ⟨.inr ⟨by show (10 : Int) ≠ 0; decide, rfl⟩, HD.out _ (HB1.out.trans (Below.refl _ _).drew), D.Off.of_below (HB1.out.trans (Below.refl _ _).drew)⟩)
theorem own_bv256 {w : World} {base g : Nat} (h : B.Own w base (.slice (some ⟨g, 0, none⟩) 256 256) (List.replicate 256 0)) : BV w (some ⟨g, 0, none⟩) (List.replicate 256 0) := by
  obtain ⟨a, c, e, _, _, _, hv, _⟩ := fb_own (X := []) (show Own w base _ _ from h) (zeros_allB 256) (by simp)
  simp at e
  rw [← e.1] at hv
  exact hv
set_option maxHeartbeats 3200000 in
theorem format_bad (dp nb mb : Nat) (d : D.DS) (us2 : List Int) (w : World) (h : D.Dk w dp nb mb d) (hs : ¬ d.room < 3 + nPages (B.makeN d.room)) (hw : D.writeE d 1 (List.replicate 256 0) ≠ 0) :
    Calls Tryz.prog 16 #[.pointer (some ⟨dp, 0, none⟩)] w fun e w' => FmtPost w dp nb mb (fmtR d us2) e w' := by
  have eR : fmtR d us2 = (D.writeE d 1 (List.replicate 256 0), blankS d.room, D.writeS d 1 (List.replicate 256 0)) := by unfold fmtR; rw [if_neg hs, if_pos hw]
  rw [eR]
  have hlt : ¬ d.room < 3 + nPages (B.makeN d.room) := hs
  have hr4 : 1 ≤ d.room := by omega
  have HB := blank_s dp nb mb d w h
  have hr := h.1.room
  obtain ⟨n2, hn2⟩ : ∃ n, n = nPages (B.makeN d.room) := ⟨_, rfl⟩
  have hn2' : n2 ≤ 10 := by have := makeN_le d.room; rw [hn2]; unfold nPages; omega
  have HN2 : Hid (n2 = nPages (B.makeN d.room)) := hn2
  have HUL : Hid ((rootsS d.room).length = B.makeN d.room) := rootsK_len _ _
  have HPgA : Hid (∀ ua uc W, Calls Tryz.prog 55 #[.slice ua (rootsS d.room).length uc] W fun e w' => e = .returned (.int .i64 (n2 : Nat)) ∧ w' = W) := fun ua uc W => by
    have := pages_any ua (rootsS d.room).length uc W (by have := makeN_le d.room; rw [HUL.out]; omega)
    rw [HUL.out, ← hn2] at this
    rw [HUL.out]; exact this
  clear hn2
  have hltI : decide ((d.room : Int) < 2 + (n2 : Int) + 1) = false := by simp; rw [HN2.out]; omega
  have HWA : Hid (∀ (p : Nat) (w1 : World) (t f t' f' u : Value) (sb db nx : Nat), Sx w1 ⟨p, dp, nb, mb⟩ (blankS d.room) d t f t' f' u sb db nx → ∀ W, Below w1.heap.size w1 W → BV W (some ⟨w1.heap.size, 0, none⟩) (List.replicate 256 0) → Calls Tryz.prog 106 #[.int .i64 1, .slice (some ⟨w1.heap.size, 0, none⟩) 256 256, .pointer (some ⟨nx, 0, none⟩), .pointer (some ⟨db, 0, none⟩)] W fun r w' => r = .returned (.int .i64 (D.writeE d 1 (List.replicate 256 0))) ∧ Sx w' ⟨p, dp, nb, mb⟩ ((blankS d.room).note (D.writeE d 1 (List.replicate 256 0))) (D.writeS d 1 (List.replicate 256 0)) t f t' f' u sb db nx ∧ D.Off (Pl.X ⟨p, dp, nb, mb⟩) W w') := by
    intro p w1 t f t' f' u sb db nx hx W hW hv
    have := write_sx 1 (some ⟨w1.heap.size, 0, none⟩) 256 (List.replicate 256 0) W (hx.below hW) hv (by simp) (fun b off e hm => by simp at e; have := hx.lt b (Pl.sub _ b hm); omega)
    rw [List.length_replicate] at this
    exact this
  have hw' : (D.writeE d 1 (List.replicate 256 0) == 0) = false := by simpa using hw
  generalize D.writeE d 1 (List.replicate 256 0) = er at *
  generalize D.writeS d 1 (List.replicate 256 0) = d2 at *
  clear h eR hlt hs
  go_enter Tryz.func16, Tryz.ntmps16
  go_wp2_with (first | (go_at_call 51; refine HB.mono ?_; rintro e w1 ⟨p, t, f, t', f', u, sb, db, nx, rfl, hp, hx1, hb1⟩; have HX1 : Hid (Sx w1 ⟨p, dp, nb, mb⟩ (blankS d.room) d t f t' f' u sb db nx) := hx1; have HB1 : Hid (Below w.heap.size w w1) := hb1; have hul := hx1.m.hu; obtain ⟨ua, uc, rfl, _⟩ := hul; have c10 : w1.cell? ⟨p, 10, none⟩ = some (.int .i64 (d.room : Int)) := hx1.m.v.cells.c10; have c9 : w1.cell? ⟨p, 9, none⟩ = some (.slice ua (rootsS d.room).length uc) := hx1.m.v.cells.c9; have HPg : Hid _ := HPgA.out ua uc; have c13 := hx1.m.v.cells.c13; have HW : Hid _ := HWA.out _ _ _ _ _ _ _ _ _ _ hx1; clear hx1 hb1 HB) | fail)
  obtain ⟨ul, hule⟩ : ∃ ul, ul = (rootsS d.room).length := ⟨_, rfl⟩
  have HULE : Hid (ul = (rootsS d.room).length) := hule
  rw [show (blankS d.room).us.length = ul from hule.symm] at *
  rw [← hule] at HPg c9
  clear hule HPgA HWA
  refine wp_region_noPanic ?_
  refine name_ops ?_
  intro O QQ HO HQ
  refine wp_region_held_drew (S := (fun W => W.cell? ⟨p, 10, none⟩ = some (.int .i64 (d.room : Int)) ∧ W.cell? ⟨p, 9, none⟩ = some (.slice ua ul uc))) (by kernel_rfl) ⟨c10, c9⟩ (fun hS => ?_)
  rw [show O.size = 12 by rw [HO.out]; rfl]
  refine wpAnyH_take (i := 0) (v := .pointer (some ⟨p, 0, none⟩)) (by rw [HO.out]; simp only [List.getElem?_toArray, List.getElem?_cons_succ, List.getElem?_cons_zero]; rfl) (by rw [HO.out]; kernel_rfl) (by rw [HO.out]; kernel_rfl) (by rw [HO.out]; kernel_rfl) (by rw [HQ.out]; exact fun _ _ _ h => h) (Or.inl ⟨by rfl, ?_⟩) hS ?_
  · intro w' hSw
    go_simp
  try simp only [Act.put, List.setIfInBounds_toArray, List.set_cons_zero, List.set_cons_succ]
  refine wpAnyH_take (i := 1) (v := .pointer (some ⟨p, 0, none⟩)) (by rw [HO.out]; simp only [List.getElem?_toArray, List.getElem?_cons_succ, List.getElem?_cons_zero]; rfl) (by rw [HO.out]; kernel_rfl) (by rw [HO.out]; kernel_rfl) (by rw [HO.out]; kernel_rfl) (by rw [HQ.out]; exact fun _ _ _ h => h) (Or.inl ⟨by rfl, ?_⟩) hS ?_
  · intro w' hSw
    go_simp
  try simp only [Act.put, List.setIfInBounds_toArray, List.set_cons_zero, List.set_cons_succ]
  refine wpAnyH_take (i := 2) (v := .pointer (some ⟨p, 10, none⟩)) (by rw [HO.out]; simp only [List.getElem?_toArray, List.getElem?_cons_succ, List.getElem?_cons_zero]; rfl) (by rw [HO.out]; kernel_rfl) (by rw [HO.out]; kernel_rfl) (by rw [HO.out]; kernel_rfl) (by rw [HQ.out]; exact fun _ _ _ h => h) (Or.inl ⟨by rfl, ?_⟩) hS ?_
  · intro w' hSw
    go_simp
  try simp only [Act.put, List.setIfInBounds_toArray, List.set_cons_zero, List.set_cons_succ]
  refine wpAnyH_take (i := 3) (v := .int .i64 (d.room : Int)) (by rw [HO.out]; simp only [List.getElem?_toArray, List.getElem?_cons_succ, List.getElem?_cons_zero]; rfl) (by rw [HO.out]; kernel_rfl) (by rw [HO.out]; kernel_rfl) (by rw [HO.out]; kernel_rfl) (by rw [HQ.out]; exact fun _ _ _ h => h) (Or.inl ⟨by rfl, ?_⟩) hS ?_
  · intro w' hSw
    obtain ⟨q1, q2⟩ := hSw
    go_simp
  try simp only [Act.put, List.setIfInBounds_toArray, List.set_cons_zero, List.set_cons_succ]
  refine wpAnyH_take (i := 4) (v := .pointer (some ⟨p, 0, none⟩)) (by rw [HO.out]; simp only [List.getElem?_toArray, List.getElem?_cons_succ, List.getElem?_cons_zero]; rfl) (by rw [HO.out]; kernel_rfl) (by rw [HO.out]; kernel_rfl) (by rw [HO.out]; kernel_rfl) (by rw [HQ.out]; exact fun _ _ _ h => h) (Or.inl ⟨by rfl, ?_⟩) hS ?_
  · intro w' hSw
    go_simp
  try simp only [Act.put, List.setIfInBounds_toArray, List.set_cons_zero, List.set_cons_succ]
  refine wpAnyH_take (i := 5) (v := .pointer (some ⟨p, 0, none⟩)) (by rw [HO.out]; simp only [List.getElem?_toArray, List.getElem?_cons_succ, List.getElem?_cons_zero]; rfl) (by rw [HO.out]; kernel_rfl) (by rw [HO.out]; kernel_rfl) (by rw [HO.out]; kernel_rfl) (by rw [HQ.out]; exact fun _ _ _ h => h) (Or.inl ⟨by rfl, ?_⟩) hS ?_
  · intro w' hSw
    go_simp
  try simp only [Act.put, List.setIfInBounds_toArray, List.set_cons_zero, List.set_cons_succ]
  refine wpAnyH_take (i := 6) (v := .pointer (some ⟨p, 9, none⟩)) (by rw [HO.out]; simp only [List.getElem?_toArray, List.getElem?_cons_succ, List.getElem?_cons_zero]; rfl) (by rw [HO.out]; kernel_rfl) (by rw [HO.out]; kernel_rfl) (by rw [HO.out]; kernel_rfl) (by rw [HQ.out]; exact fun _ _ _ h => h) (Or.inl ⟨by rfl, ?_⟩) hS ?_
  · intro w' hSw
    go_simp
  try simp only [Act.put, List.setIfInBounds_toArray, List.set_cons_zero, List.set_cons_succ]
  refine wpAnyH_take (i := 7) (v := .slice ua ul uc) (by rw [HO.out]; simp only [List.getElem?_toArray, List.getElem?_cons_succ, List.getElem?_cons_zero]; rfl) (by rw [HO.out]; kernel_rfl) (by rw [HO.out]; kernel_rfl) (by rw [HO.out]; kernel_rfl) (by rw [HQ.out]; exact fun _ _ _ h => h) (Or.inl ⟨by rfl, ?_⟩) hS ?_
  · intro w' hSw
    obtain ⟨q1, q2⟩ := hSw
    go_simp
  try simp only [Act.put, List.setIfInBounds_toArray, List.set_cons_zero, List.set_cons_succ]
  refine wpAnyH_ready (rs := [8]) (by rw [HO.out]; kernel_rfl) (by simp) ?_
  refine AllReadyH.cons (o := _) (by rw [HO.out]; simp only [List.getElem?_toArray, List.getElem?_cons_succ, List.getElem?_cons_zero]; rfl) (fun K8 hK8 => ?_) AllReadyH.nil
  go_simp
  refine (HPg.out _).mono ?_
  rintro e wq ⟨rfl, hwq⟩
  obtain rfl := hwq.symm
  refine hK8.out _ _ hS (fun hS1 => ?_)
  try simp only [Act.put, List.setIfInBounds_toArray, List.set_cons_zero, List.set_cons_succ]
  refine wpAnyH_take (i := 9) (v := .int .i64 (2 + (n2 : Int))) (by rw [HO.out]; simp only [List.getElem?_toArray, List.getElem?_cons_succ, List.getElem?_cons_zero]; rfl) (by rw [HO.out]; kernel_rfl) (by rw [HO.out]; kernel_rfl) (by rw [HO.out]; kernel_rfl) (by rw [HQ.out]; exact fun _ _ _ h => h) (Or.inl ⟨by rfl, ?_⟩) hS1 ?_
  · intro w' hSw
    have a1 : IntKind.i64.wrap (2 + (n2 : Int)) = 2 + (n2 : Int) := wrap_sm (by omega) (by omega)
    go_simp
  try simp only [Act.put, List.setIfInBounds_toArray, List.set_cons_zero, List.set_cons_succ]
  refine wpAnyH_take (i := 10) (v := .int .i64 (2 + (n2 : Int) + 1)) (by rw [HO.out]; simp only [List.getElem?_toArray, List.getElem?_cons_succ, List.getElem?_cons_zero]; rfl) (by rw [HO.out]; kernel_rfl) (by rw [HO.out]; kernel_rfl) (by rw [HO.out]; kernel_rfl) (by rw [HQ.out]; exact fun _ _ _ h => h) (Or.inl ⟨by rfl, ?_⟩) hS1 ?_
  · intro w' hSw
    have a1 : IntKind.i64.wrap (2 + (n2 : Int) + 1) = 2 + (n2 : Int) + 1 := wrap_sm (by omega) (by omega)
    go_simp
  try simp only [Act.put, List.setIfInBounds_toArray, List.set_cons_zero, List.set_cons_succ]
  refine wpAnyH_take (i := 11) (v := .bool false) (by rw [HO.out]; simp only [List.getElem?_toArray, List.getElem?_cons_succ, List.getElem?_cons_zero]; rfl) (by rw [HO.out]; kernel_rfl) (by rw [HO.out]; kernel_rfl) (by rw [HO.out]; kernel_rfl) (by rw [HQ.out]; exact fun _ _ _ h => h) (Or.inl ⟨by rfl, ?_⟩) hS1 ?_
  · intro w' hSw
    have hlt := hltI
    go_simp
  try simp only [Act.put, List.setIfInBounds_toArray, List.set_cons_zero, List.set_cons_succ]
  refine wpAnyH_done (by rw [HO.out]; kernel_rfl) ?_ _
  rw [HQ.out]
  refine NoPanic.normal ?_
  go_wp2_with fail
  refine wp_region_noPanic ?_
  refine name_ops ?_
  intro O QQ HO HQ
  refine wp_region_held_drew (S := (fun W => W.cell? ⟨p, 13, none⟩ = some (wrF db nx))) (by kernel_rfl) c13 (fun hS => ?_)
  rw [show O.size = 7 by rw [HO.out]; rfl]
  refine wpAnyH_take (i := 0) (v := .pointer (some ⟨p, 0, none⟩)) (by rw [HO.out]; simp only [List.getElem?_toArray, List.getElem?_cons_succ, List.getElem?_cons_zero]; rfl) (by rw [HO.out]; kernel_rfl) (by rw [HO.out]; kernel_rfl) (by rw [HO.out]; kernel_rfl) (by rw [HQ.out]; exact fun _ _ _ h => h) (Or.inl ⟨by rfl, ?_⟩) hS ?_
  · intro w' hSw
    go_simp
  try simp only [Act.put, List.setIfInBounds_toArray, List.set_cons_zero, List.set_cons_succ]
  refine wpAnyH_take (i := 1) (v := .pointer (some ⟨p, 0, none⟩)) (by rw [HO.out]; simp only [List.getElem?_toArray, List.getElem?_cons_succ, List.getElem?_cons_zero]; rfl) (by rw [HO.out]; kernel_rfl) (by rw [HO.out]; kernel_rfl) (by rw [HO.out]; kernel_rfl) (by rw [HQ.out]; exact fun _ _ _ h => h) (Or.inl ⟨by rfl, ?_⟩) hS ?_
  · intro w' hSw
    go_simp
  try simp only [Act.put, List.setIfInBounds_toArray, List.set_cons_zero, List.set_cons_succ]
  refine wpAnyH_take (i := 2) (v := .pointer (some ⟨p, 13, none⟩)) (by rw [HO.out]; simp only [List.getElem?_toArray, List.getElem?_cons_succ, List.getElem?_cons_zero]; rfl) (by rw [HO.out]; kernel_rfl) (by rw [HO.out]; kernel_rfl) (by rw [HO.out]; kernel_rfl) (by rw [HQ.out]; exact fun _ _ _ h => h) (Or.inl ⟨by rfl, ?_⟩) hS ?_
  · intro w' hSw
    go_simp
  try simp only [Act.put, List.setIfInBounds_toArray, List.set_cons_zero, List.set_cons_succ]
  refine wpAnyH_take (i := 3) (v := wrF db nx) (by rw [HO.out]; simp only [List.getElem?_toArray, List.getElem?_cons_succ, List.getElem?_cons_zero]; rfl) (by rw [HO.out]; kernel_rfl) (by rw [HO.out]; kernel_rfl) (by rw [HO.out]; kernel_rfl) (by rw [HQ.out]; exact fun _ _ _ h => h) (Or.inl ⟨by rfl, ?_⟩) hS ?_
  · intro w' hSw
    have q1 := hSw
    go_simp
  try simp only [Act.put, List.setIfInBounds_toArray, List.set_cons_zero, List.set_cons_succ]
  refine wpAnyH_ready (rs := [4]) (by rw [HO.out]; kernel_rfl) (by simp) ?_
  refine AllReadyH.cons (o := _) (by rw [HO.out]; simp only [List.getElem?_toArray, List.getElem?_cons_succ, List.getElem?_cons_zero]; rfl) (fun K4 hK4 => ?_) AllReadyH.nil
  rw [if_pos (by rfl)]
  refine wp_make_op (.const (.int .i64 256)) (.const (.int .i64 256)) rfl 256 (by decide) rfl rfl ?_
  intro w2 ho2 hb2'
  have hb2 : Below w1.heap.size w1 w2 := (Below.refl w1.heap.size w1).drew.drew.trans hb2'
  have hx2 := HX1.out.below hb2
  refine hK4.out _ _ hx2.m.v.cells.c13 (fun hS1 => ?_)
  have HBV : Hid (BV w2 (some ⟨w1.heap.size, 0, none⟩) (List.replicate 256 0)) := own_bv256 ho2
  have HWc := HW.out w2 hb2 HBV.out
  have HB2 : Hid (Below w1.heap.size w1 w2) := hb2
  clear ho2 hb2' hb2 hx2 HW
  try simp only [Act.put, List.setIfInBounds_toArray, List.set_cons_zero, List.set_cons_succ]
  refine wpAnyH_ready (rs := [5]) (by rw [HO.out]; kernel_rfl) (by simp) ?_
  refine AllReadyH.cons (o := _) (by rw [HO.out]; simp only [List.getElem?_toArray, List.getElem?_cons_succ, List.getElem?_cons_zero]; rfl) (fun K5 hK5 => ?_) AllReadyH.nil
  simp only [wrF]
  go_simp
  refine HWc.mono ?_
  rintro e w3 ⟨rfl, hx3, ho3⟩
  refine hK5.out _ _ hx3.m.v.cells.c13 (fun hS2 => ?_)
  have HX3 : Hid (Sx w3 ⟨p, dp, nb, mb⟩ _ _ t f t' f' (.slice ua ul uc) sb db nx) := hx3
  have HO3 : Hid (D.Off (Pl.X ⟨p, dp, nb, mb⟩) w1 w3) := (off_below HB2.out).trans ho3
  clear HWc hx3 ho3 HBV HB2
  refine wpAnyH_take (i := 6) (v := .int .i64 er) (by rw [HO.out]; simp only [List.getElem?_toArray, List.getElem?_cons_succ, List.getElem?_cons_zero]; rfl) (by rw [HO.out]; kernel_rfl) (by rw [HO.out]; kernel_rfl) (by rw [HO.out]; kernel_rfl) (by rw [HQ.out]; exact fun _ _ _ h => h) (Or.inl ⟨by rfl, ?_⟩) hS2 ?_
  · intro w' hSw
    go_simp
  try simp only [Act.put, List.setIfInBounds_toArray, List.set_cons_zero, List.set_cons_succ]
  refine wpAnyH_done (by rw [HO.out]; kernel_rfl) ?_ _
  rw [HQ.out]
  refine NoPanic.normal ?_
  go_wp2_with fail
  exact bodyPost_ret (v := .tuple #[.pointer none, .int .i64 er]) (by simp [results, Tryz.results16, go_sem]) rfl (by unfold FmtPost; exact ⟨.inr ⟨hw, rfl⟩, HX3.out.dk, off_new HB1.out HO3.out hp⟩)
set_option maxHeartbeats 3200000 in
theorem format_main (dp nb mb : Nat) (d : D.DS) (us2 : List Int) (w : World) (h : D.Dk w dp nb mb d) (hs : ¬ d.room < 3 + nPages (B.makeN d.room)) (hw : D.writeE d 1 (List.replicate 256 0) = 0) (hus2 : cntN (blankS d.room) ≤ (freeL (blankS d.room)).length → onceR d.room (rootsS d.room) (mapL (blankS d.room)) = some us2) :
    Calls Tryz.prog 16 #[.pointer (some ⟨dp, 0, none⟩)] w fun e w' => FmtPost w dp nb mb (fmtR d us2) e w' := by
  have eR : fmtR d us2 = settleR (blankS d.room) (D.writeS d 1 (List.replicate 256 0)) 0 us2 := by unfold fmtR; rw [if_neg hs, if_neg (by simpa using hw)]
  rw [eR]
  have hlt : ¬ d.room < 3 + nPages (B.makeN d.room) := hs
  have hr4 : 1 ≤ d.room := by omega
  have HB := blank_s dp nb mb d w h
  have hr := h.1.room
  obtain ⟨n2, hn2⟩ : ∃ n, n = nPages (B.makeN d.room) := ⟨_, rfl⟩
  have hn2' : n2 ≤ 10 := by have := makeN_le d.room; rw [hn2]; unfold nPages; omega
  have HN2 : Hid (n2 = nPages (B.makeN d.room)) := hn2
  have HUL : Hid ((rootsS d.room).length = B.makeN d.room) := rootsK_len _ _
  have HPgA : Hid (∀ ua uc W, Calls Tryz.prog 55 #[.slice ua (rootsS d.room).length uc] W fun e w' => e = .returned (.int .i64 (n2 : Nat)) ∧ w' = W) := fun ua uc W => by
    have := pages_any ua (rootsS d.room).length uc W (by have := makeN_le d.room; rw [HUL.out]; omega)
    rw [HUL.out, ← hn2] at this
    rw [HUL.out]; exact this
  clear hn2
  have hltI : decide ((d.room : Int) < 2 + (n2 : Int) + 1) = false := by simp; rw [HN2.out]; omega
  have HWA : Hid (∀ (p : Nat) (w1 : World) (t f t' f' u : Value) (sb db nx : Nat), Sx w1 ⟨p, dp, nb, mb⟩ (blankS d.room) d t f t' f' u sb db nx → ∀ W, Below w1.heap.size w1 W → BV W (some ⟨w1.heap.size, 0, none⟩) (List.replicate 256 0) → Calls Tryz.prog 106 #[.int .i64 1, .slice (some ⟨w1.heap.size, 0, none⟩) 256 256, .pointer (some ⟨nx, 0, none⟩), .pointer (some ⟨db, 0, none⟩)] W fun r w' => r = .returned (.int .i64 (D.writeE d 1 (List.replicate 256 0))) ∧ Sx w' ⟨p, dp, nb, mb⟩ ((blankS d.room).note (D.writeE d 1 (List.replicate 256 0))) (D.writeS d 1 (List.replicate 256 0)) t f t' f' u sb db nx ∧ D.Off (Pl.X ⟨p, dp, nb, mb⟩) W w') := by
    intro p w1 t f t' f' u sb db nx hx W hW hv
    have := write_sx 1 (some ⟨w1.heap.size, 0, none⟩) 256 (List.replicate 256 0) W (hx.below hW) hv (by simp) (fun b off e hm => by simp at e; have := hx.lt b (Pl.sub _ b hm); omega)
    rw [List.length_replicate] at this
    exact this
  have HSt : Hid (∀ (p : Nat) (w1 : World) (t f t' f' u : Value) (sb db nx : Nat), Sx w1 ⟨p, dp, nb, mb⟩ (blankS d.room) (D.writeS d 1 (List.replicate 256 0)) t f t' f' u sb db nx → Calls Tryz.prog 56 #[.pointer (some ⟨p, 0, none⟩), .int .i64 0] w1 fun e w' => Done ⟨p, dp, nb, mb⟩ w1 (settleR (blankS d.room) (D.writeS d 1 (List.replicate 256 0)) 0 us2) e w') := by
    intro p w1 t f t' f' u sb db nx hx
    have e1 : tabL (blankS d.room) = [] := by unfold tabL tcN; simp [blankS, nPages, ints]
    exact settle_any 0 us2 w1 hx (blankS_ok hr) (by decide) (by decide) hr4 (fun hc => by rw [e1]; exact hus2 hc)
  rw [hw] at HWA
  generalize D.writeS d 1 (List.replicate 256 0) = d2 at *
  generalize settleR (blankS d.room) d2 0 us2 = R at *
  obtain ⟨r1, r2, r3⟩ := R
  clear h eR hlt hs hus2 hw
  go_enter Tryz.func16, Tryz.ntmps16
  go_wp2_with (first | (go_at_call 51; refine HB.mono ?_; rintro e w1 ⟨p, t, f, t', f', u, sb, db, nx, rfl, hp, hx1, hb1⟩; have HX1 : Hid (Sx w1 ⟨p, dp, nb, mb⟩ (blankS d.room) d t f t' f' u sb db nx) := hx1; have HB1 : Hid (Below w.heap.size w w1) := hb1; have hul := hx1.m.hu; obtain ⟨ua, uc, rfl, _⟩ := hul; have c10 : w1.cell? ⟨p, 10, none⟩ = some (.int .i64 (d.room : Int)) := hx1.m.v.cells.c10; have c9 : w1.cell? ⟨p, 9, none⟩ = some (.slice ua (rootsS d.room).length uc) := hx1.m.v.cells.c9; have HPg : Hid _ := HPgA.out ua uc; have c13 := hx1.m.v.cells.c13; have HW : Hid _ := HWA.out _ _ _ _ _ _ _ _ _ _ hx1; clear hx1 hb1 HB) | fail)
  obtain ⟨ul, hule⟩ : ∃ ul, ul = (rootsS d.room).length := ⟨_, rfl⟩
  have HULE : Hid (ul = (rootsS d.room).length) := hule
  rw [show (blankS d.room).us.length = ul from hule.symm] at *
  rw [← hule] at HPg c9
  clear hule HPgA HWA
  refine wp_region_noPanic ?_
  refine name_ops ?_
  intro O QQ HO HQ
  refine wp_region_held_drew (S := (fun W => W.cell? ⟨p, 10, none⟩ = some (.int .i64 (d.room : Int)) ∧ W.cell? ⟨p, 9, none⟩ = some (.slice ua ul uc))) (by kernel_rfl) ⟨c10, c9⟩ (fun hS => ?_)
  rw [show O.size = 12 by rw [HO.out]; rfl]
  refine wpAnyH_take (i := 0) (v := .pointer (some ⟨p, 0, none⟩)) (by rw [HO.out]; simp only [List.getElem?_toArray, List.getElem?_cons_succ, List.getElem?_cons_zero]; rfl) (by rw [HO.out]; kernel_rfl) (by rw [HO.out]; kernel_rfl) (by rw [HO.out]; kernel_rfl) (by rw [HQ.out]; exact fun _ _ _ h => h) (Or.inl ⟨by rfl, ?_⟩) hS ?_
  · intro w' hSw
    go_simp
  try simp only [Act.put, List.setIfInBounds_toArray, List.set_cons_zero, List.set_cons_succ]
  refine wpAnyH_take (i := 1) (v := .pointer (some ⟨p, 0, none⟩)) (by rw [HO.out]; simp only [List.getElem?_toArray, List.getElem?_cons_succ, List.getElem?_cons_zero]; rfl) (by rw [HO.out]; kernel_rfl) (by rw [HO.out]; kernel_rfl) (by rw [HO.out]; kernel_rfl) (by rw [HQ.out]; exact fun _ _ _ h => h) (Or.inl ⟨by rfl, ?_⟩) hS ?_
  · intro w' hSw
    go_simp
  try simp only [Act.put, List.setIfInBounds_toArray, List.set_cons_zero, List.set_cons_succ]
  refine wpAnyH_take (i := 2) (v := .pointer (some ⟨p, 10, none⟩)) (by rw [HO.out]; simp only [List.getElem?_toArray, List.getElem?_cons_succ, List.getElem?_cons_zero]; rfl) (by rw [HO.out]; kernel_rfl) (by rw [HO.out]; kernel_rfl) (by rw [HO.out]; kernel_rfl) (by rw [HQ.out]; exact fun _ _ _ h => h) (Or.inl ⟨by rfl, ?_⟩) hS ?_
  · intro w' hSw
    go_simp
  try simp only [Act.put, List.setIfInBounds_toArray, List.set_cons_zero, List.set_cons_succ]
  refine wpAnyH_take (i := 3) (v := .int .i64 (d.room : Int)) (by rw [HO.out]; simp only [List.getElem?_toArray, List.getElem?_cons_succ, List.getElem?_cons_zero]; rfl) (by rw [HO.out]; kernel_rfl) (by rw [HO.out]; kernel_rfl) (by rw [HO.out]; kernel_rfl) (by rw [HQ.out]; exact fun _ _ _ h => h) (Or.inl ⟨by rfl, ?_⟩) hS ?_
  · intro w' hSw
    obtain ⟨q1, q2⟩ := hSw
    go_simp
  try simp only [Act.put, List.setIfInBounds_toArray, List.set_cons_zero, List.set_cons_succ]
  refine wpAnyH_take (i := 4) (v := .pointer (some ⟨p, 0, none⟩)) (by rw [HO.out]; simp only [List.getElem?_toArray, List.getElem?_cons_succ, List.getElem?_cons_zero]; rfl) (by rw [HO.out]; kernel_rfl) (by rw [HO.out]; kernel_rfl) (by rw [HO.out]; kernel_rfl) (by rw [HQ.out]; exact fun _ _ _ h => h) (Or.inl ⟨by rfl, ?_⟩) hS ?_
  · intro w' hSw
    go_simp
  try simp only [Act.put, List.setIfInBounds_toArray, List.set_cons_zero, List.set_cons_succ]
  refine wpAnyH_take (i := 5) (v := .pointer (some ⟨p, 0, none⟩)) (by rw [HO.out]; simp only [List.getElem?_toArray, List.getElem?_cons_succ, List.getElem?_cons_zero]; rfl) (by rw [HO.out]; kernel_rfl) (by rw [HO.out]; kernel_rfl) (by rw [HO.out]; kernel_rfl) (by rw [HQ.out]; exact fun _ _ _ h => h) (Or.inl ⟨by rfl, ?_⟩) hS ?_
  · intro w' hSw
    go_simp
  try simp only [Act.put, List.setIfInBounds_toArray, List.set_cons_zero, List.set_cons_succ]
  refine wpAnyH_take (i := 6) (v := .pointer (some ⟨p, 9, none⟩)) (by rw [HO.out]; simp only [List.getElem?_toArray, List.getElem?_cons_succ, List.getElem?_cons_zero]; rfl) (by rw [HO.out]; kernel_rfl) (by rw [HO.out]; kernel_rfl) (by rw [HO.out]; kernel_rfl) (by rw [HQ.out]; exact fun _ _ _ h => h) (Or.inl ⟨by rfl, ?_⟩) hS ?_
  · intro w' hSw
    go_simp
  try simp only [Act.put, List.setIfInBounds_toArray, List.set_cons_zero, List.set_cons_succ]
  refine wpAnyH_take (i := 7) (v := .slice ua ul uc) (by rw [HO.out]; simp only [List.getElem?_toArray, List.getElem?_cons_succ, List.getElem?_cons_zero]; rfl) (by rw [HO.out]; kernel_rfl) (by rw [HO.out]; kernel_rfl) (by rw [HO.out]; kernel_rfl) (by rw [HQ.out]; exact fun _ _ _ h => h) (Or.inl ⟨by rfl, ?_⟩) hS ?_
  · intro w' hSw
    obtain ⟨q1, q2⟩ := hSw
    go_simp
  try simp only [Act.put, List.setIfInBounds_toArray, List.set_cons_zero, List.set_cons_succ]
  refine wpAnyH_ready (rs := [8]) (by rw [HO.out]; kernel_rfl) (by simp) ?_
  refine AllReadyH.cons (o := _) (by rw [HO.out]; simp only [List.getElem?_toArray, List.getElem?_cons_succ, List.getElem?_cons_zero]; rfl) (fun K8 hK8 => ?_) AllReadyH.nil
  go_simp
  refine (HPg.out _).mono ?_
  rintro e wq ⟨rfl, hwq⟩
  obtain rfl := hwq.symm
  refine hK8.out _ _ hS (fun hS1 => ?_)
  try simp only [Act.put, List.setIfInBounds_toArray, List.set_cons_zero, List.set_cons_succ]
  refine wpAnyH_take (i := 9) (v := .int .i64 (2 + (n2 : Int))) (by rw [HO.out]; simp only [List.getElem?_toArray, List.getElem?_cons_succ, List.getElem?_cons_zero]; rfl) (by rw [HO.out]; kernel_rfl) (by rw [HO.out]; kernel_rfl) (by rw [HO.out]; kernel_rfl) (by rw [HQ.out]; exact fun _ _ _ h => h) (Or.inl ⟨by rfl, ?_⟩) hS1 ?_
  · intro w' hSw
    have a1 : IntKind.i64.wrap (2 + (n2 : Int)) = 2 + (n2 : Int) := wrap_sm (by omega) (by omega)
    go_simp
  try simp only [Act.put, List.setIfInBounds_toArray, List.set_cons_zero, List.set_cons_succ]
  refine wpAnyH_take (i := 10) (v := .int .i64 (2 + (n2 : Int) + 1)) (by rw [HO.out]; simp only [List.getElem?_toArray, List.getElem?_cons_succ, List.getElem?_cons_zero]; rfl) (by rw [HO.out]; kernel_rfl) (by rw [HO.out]; kernel_rfl) (by rw [HO.out]; kernel_rfl) (by rw [HQ.out]; exact fun _ _ _ h => h) (Or.inl ⟨by rfl, ?_⟩) hS1 ?_
  · intro w' hSw
    have a1 : IntKind.i64.wrap (2 + (n2 : Int) + 1) = 2 + (n2 : Int) + 1 := wrap_sm (by omega) (by omega)
    go_simp
  try simp only [Act.put, List.setIfInBounds_toArray, List.set_cons_zero, List.set_cons_succ]
  refine wpAnyH_take (i := 11) (v := .bool false) (by rw [HO.out]; simp only [List.getElem?_toArray, List.getElem?_cons_succ, List.getElem?_cons_zero]; rfl) (by rw [HO.out]; kernel_rfl) (by rw [HO.out]; kernel_rfl) (by rw [HO.out]; kernel_rfl) (by rw [HQ.out]; exact fun _ _ _ h => h) (Or.inl ⟨by rfl, ?_⟩) hS1 ?_
  · intro w' hSw
    have hlt := hltI
    go_simp
  try simp only [Act.put, List.setIfInBounds_toArray, List.set_cons_zero, List.set_cons_succ]
  refine wpAnyH_done (by rw [HO.out]; kernel_rfl) ?_ _
  rw [HQ.out]
  refine NoPanic.normal ?_
  go_wp2_with fail
  refine wp_region_noPanic ?_
  refine name_ops ?_
  intro O QQ HO HQ
  refine wp_region_held_drew (S := (fun W => W.cell? ⟨p, 13, none⟩ = some (wrF db nx))) (by kernel_rfl) c13 (fun hS => ?_)
  rw [show O.size = 7 by rw [HO.out]; rfl]
  refine wpAnyH_take (i := 0) (v := .pointer (some ⟨p, 0, none⟩)) (by rw [HO.out]; simp only [List.getElem?_toArray, List.getElem?_cons_succ, List.getElem?_cons_zero]; rfl) (by rw [HO.out]; kernel_rfl) (by rw [HO.out]; kernel_rfl) (by rw [HO.out]; kernel_rfl) (by rw [HQ.out]; exact fun _ _ _ h => h) (Or.inl ⟨by rfl, ?_⟩) hS ?_
  · intro w' hSw
    go_simp
  try simp only [Act.put, List.setIfInBounds_toArray, List.set_cons_zero, List.set_cons_succ]
  refine wpAnyH_take (i := 1) (v := .pointer (some ⟨p, 0, none⟩)) (by rw [HO.out]; simp only [List.getElem?_toArray, List.getElem?_cons_succ, List.getElem?_cons_zero]; rfl) (by rw [HO.out]; kernel_rfl) (by rw [HO.out]; kernel_rfl) (by rw [HO.out]; kernel_rfl) (by rw [HQ.out]; exact fun _ _ _ h => h) (Or.inl ⟨by rfl, ?_⟩) hS ?_
  · intro w' hSw
    go_simp
  try simp only [Act.put, List.setIfInBounds_toArray, List.set_cons_zero, List.set_cons_succ]
  refine wpAnyH_take (i := 2) (v := .pointer (some ⟨p, 13, none⟩)) (by rw [HO.out]; simp only [List.getElem?_toArray, List.getElem?_cons_succ, List.getElem?_cons_zero]; rfl) (by rw [HO.out]; kernel_rfl) (by rw [HO.out]; kernel_rfl) (by rw [HO.out]; kernel_rfl) (by rw [HQ.out]; exact fun _ _ _ h => h) (Or.inl ⟨by rfl, ?_⟩) hS ?_
  · intro w' hSw
    go_simp
  try simp only [Act.put, List.setIfInBounds_toArray, List.set_cons_zero, List.set_cons_succ]
  refine wpAnyH_take (i := 3) (v := wrF db nx) (by rw [HO.out]; simp only [List.getElem?_toArray, List.getElem?_cons_succ, List.getElem?_cons_zero]; rfl) (by rw [HO.out]; kernel_rfl) (by rw [HO.out]; kernel_rfl) (by rw [HO.out]; kernel_rfl) (by rw [HQ.out]; exact fun _ _ _ h => h) (Or.inl ⟨by rfl, ?_⟩) hS ?_
  · intro w' hSw
    have q1 := hSw
    go_simp
  try simp only [Act.put, List.setIfInBounds_toArray, List.set_cons_zero, List.set_cons_succ]
  refine wpAnyH_ready (rs := [4]) (by rw [HO.out]; kernel_rfl) (by simp) ?_
  refine AllReadyH.cons (o := _) (by rw [HO.out]; simp only [List.getElem?_toArray, List.getElem?_cons_succ, List.getElem?_cons_zero]; rfl) (fun K4 hK4 => ?_) AllReadyH.nil
  rw [if_pos (by rfl)]
  refine wp_make_op (.const (.int .i64 256)) (.const (.int .i64 256)) rfl 256 (by decide) rfl rfl ?_
  intro w2 ho2 hb2'
  have hb2 : Below w1.heap.size w1 w2 := (Below.refl w1.heap.size w1).drew.drew.trans hb2'
  have hx2 := HX1.out.below hb2
  refine hK4.out _ _ hx2.m.v.cells.c13 (fun hS1 => ?_)
  have HBV : Hid (BV w2 (some ⟨w1.heap.size, 0, none⟩) (List.replicate 256 0)) := own_bv256 ho2
  have HWc := HW.out w2 hb2 HBV.out
  have HB2 : Hid (Below w1.heap.size w1 w2) := hb2
  clear ho2 hb2' hb2 hx2 HW
  try simp only [Act.put, List.setIfInBounds_toArray, List.set_cons_zero, List.set_cons_succ]
  refine wpAnyH_ready (rs := [5]) (by rw [HO.out]; kernel_rfl) (by simp) ?_
  refine AllReadyH.cons (o := _) (by rw [HO.out]; simp only [List.getElem?_toArray, List.getElem?_cons_succ, List.getElem?_cons_zero]; rfl) (fun K5 hK5 => ?_) AllReadyH.nil
  simp only [wrF]
  go_simp
  refine HWc.mono ?_
  rintro e w3 ⟨rfl, hx3, ho3⟩
  refine hK5.out _ _ hx3.m.v.cells.c13 (fun hS2 => ?_)
  have HX3 : Hid (Sx w3 ⟨p, dp, nb, mb⟩ _ _ t f t' f' (.slice ua ul uc) sb db nx) := hx3
  have HO3 : Hid (D.Off (Pl.X ⟨p, dp, nb, mb⟩) w1 w3) := (off_below HB2.out).trans ho3
  clear HWc hx3 ho3 HBV HB2
  refine wpAnyH_take (i := 6) (v := .int .i64 0) (by rw [HO.out]; simp only [List.getElem?_toArray, List.getElem?_cons_succ, List.getElem?_cons_zero]; rfl) (by rw [HO.out]; kernel_rfl) (by rw [HO.out]; kernel_rfl) (by rw [HO.out]; kernel_rfl) (by rw [HQ.out]; exact fun _ _ _ h => h) (Or.inl ⟨by rfl, ?_⟩) hS2 ?_
  · intro w' hSw
    go_simp
  try simp only [Act.put, List.setIfInBounds_toArray, List.set_cons_zero, List.set_cons_succ]
  refine wpAnyH_done (by rw [HO.out]; kernel_rfl) ?_ _
  rw [HQ.out]
  refine NoPanic.normal ?_
  rw [note_zero] at HX3
  have HS3 := HSt.out _ _ _ _ _ _ _ _ _ _ HX3.out
  unfold Done at HS3
  clear HSt
  by_cases hr1 : r1 = 0
  · subst hr1
    go_wp2_with (first | (go_at_call 56; refine HS3.mono ?_; rintro e w5 ⟨rfl, hy5, ho5⟩; have HY5 : Hid (Sy w5 ⟨p, dp, nb, mb⟩ r2 r3) := hy5; have HO5 : Hid (D.Off (Pl.X ⟨p, dp, nb, mb⟩) w1 w5) := HO3.out.trans ho5; clear hy5 ho5 HS3) | fail)
    exact bodyPost_ret (v := .tuple #[.pointer (some ⟨p, 0, none⟩), .int .i64 0]) (by simp [results, Tryz.results16, go_sem]) rfl (by unfold FmtPost; exact ⟨.inl ⟨rfl, p, rfl, hp, HY5.out⟩, Sy.dk HY5.out, off_new HB1.out HO5.out hp⟩)
  · have hr1' : (r1 == 0) = false := by simpa using hr1
    go_wp2_with (first | (go_at_call 56; refine HS3.mono ?_; rintro e w5 ⟨rfl, hy5, ho5⟩; have HY5 : Hid (Sy w5 ⟨p, dp, nb, mb⟩ r2 r3) := hy5; have HO5 : Hid (D.Off (Pl.X ⟨p, dp, nb, mb⟩) w1 w5) := HO3.out.trans ho5; clear hy5 ho5 HS3) | fail)
    exact bodyPost_ret (v := .tuple #[.pointer none, .int .i64 r1]) (by simp [results, Tryz.results16, go_sem]) rfl (by unfold FmtPost; exact ⟨.inr ⟨hr1, rfl⟩, Sy.dk HY5.out, off_new HB1.out HO5.out hp⟩)
theorem format_any (dp nb mb : Nat) (d : D.DS) (us2 : List Int) (w : World) (h : D.Dk w dp nb mb d) (hus2 : cntN (blankS d.room) ≤ (freeL (blankS d.room)).length → onceR d.room (rootsS d.room) (mapL (blankS d.room)) = some us2) :
    Calls Tryz.prog 16 #[.pointer (some ⟨dp, 0, none⟩)] w fun e w' => FmtPost w dp nb mb (fmtR d us2) e w' := by
  by_cases hs : d.room < 3 + nPages (B.makeN d.room)
  · exact format_small dp nb mb d us2 w h hs
  · by_cases hw : D.writeE d 1 (List.replicate 256 0) = 0
    · exact format_main dp nb mb d us2 w h hs hw hus2
    · exact format_bad dp nb mb d us2 w h hs hw
end Go.Proofs.YtelhlikeefpjnaaGreat
namespace Go.Proofs.YtelhlikeefpjnaaGreat
set_option maxRecDepth 20000
open Go.RowKit
set_option linter.unusedVariables false
theorem hasI_nat' (m : List Int) (z : Int) (h : 0 ≤ z) : B.hasI m z = B.hasB m z.toNat := by
  obtain ⟨n, rfl⟩ := Int.eq_ofNat_of_zero_le h
  exact B.hasI_nat m n
theorem withI_nat {m : List Int} {z : Int} (on : Bool) (h0 : 0 ≤ z) (h : z.toNat < 8 * m.length) : B.withI m z on = B.setB m z.toNat on := by
  unfold B.withI; rw [if_pos ⟨h0, h⟩]
theorem has_with {m : List Int} {z : Int} (on : Bool) (h0 : 0 ≤ z) (h : z.toNat < 8 * m.length) (n : Nat) : B.hasB (B.withI m z on) n = if n = z.toNat then on else B.hasB m n := by
  rw [withI_nat on h0 h]
  exact B.hasB_setB z.toNat n on (by omega)
theorem has_zeros (k n : Nat) : B.hasB (List.replicate k 0) n = false := by
  unfold B.hasB B.byt
  rw [List.getD_eq_getElem?_getD, List.getElem?_replicate]
  split <;> simp
def Part (l : List Int) : Prop := l.Pairwise (fun a b => a ≠ 0 → b ≠ 0 → a ≠ b)
theorem Part.app {a b : List Int} (ha : Part a) (hb : Part b) (h : ∀ x ∈ a, ∀ y ∈ b, x ≠ 0 → y ≠ 0 → x ≠ y) : Part (a ++ b) := List.pairwise_append.2 ⟨ha, hb, h⟩
theorem once_some {bl : Nat} : ∀ {l m : List Int}, (∀ z ∈ l, z = 0 ∨ (2 ≤ z ∧ z < bl)) → Part l → (∀ z ∈ l, z ≠ 0 → B.hasB m z.toNat = false) → bl ≤ 8 * m.length → ∃ us, onceR bl m l = some us ∧ ∀ n, B.hasB us n = (B.hasB m n || decide (n ≠ 0 ∧ (n : Int) ∈ l))
  | [], m, _, _, _, _ => ⟨m, rfl, fun n => by simp⟩
  | z :: l, m, hin, hp, hm, hb => by
    have hp' := List.pairwise_cons.1 hp
    unfold onceR
    by_cases hz : z = 0
    · rw [if_pos hz]
      obtain ⟨us, h1, h2⟩ := once_some (l := l) (m := m) (fun y hy => hin y (List.mem_cons_of_mem _ hy)) hp'.2 (fun y hy => hm y (List.mem_cons_of_mem _ hy)) hb
      refine ⟨us, h1, fun n => ?_⟩
      rw [h2 n]
      congr 1
      rw [decide_eq_decide]
      constructor
      · exact fun h => ⟨h.1, List.mem_cons_of_mem _ h.2⟩
      · rintro ⟨h3, h4⟩
        refine ⟨h3, ?_⟩
        rcases List.mem_cons.1 h4 with h5 | h5
        · omega
        · exact h5
    · rw [if_neg hz]
      have hzr := (hin z (by simp)).resolve_left hz
      have hmz := hm z (by simp) hz
      have hlt : z.toNat < 8 * m.length := by omega
      rw [if_neg (by rintro (h | h); omega; rw [hasI_nat' m z (by omega), hmz] at h; cases h)]
      obtain ⟨us, h1, h2⟩ := once_some (l := l) (m := B.withI m z true) (fun y hy => hin y (List.mem_cons_of_mem _ hy)) hp'.2 (fun y hy hy0 => by
        rw [has_with true (by omega) hlt, if_neg]
        · exact hm y (List.mem_cons_of_mem _ hy) hy0
        · intro e
          have := hp'.1 y hy hz hy0
          have hyr := (hin y (List.mem_cons_of_mem _ hy)).resolve_left hy0
          omega) (by rw [withI_len]; exact hb)
      refine ⟨us, h1, fun n => ?_⟩
      rw [h2 n, has_with true (by omega) hlt]
      by_cases hn : n = z.toNat
      · rw [if_pos hn]
        have : (n ≠ 0 ∧ (n : Int) ∈ z :: l) := ⟨by omega, List.mem_cons.2 (Or.inl (by omega))⟩
        rw [decide_eq_true this]; simp
      · rw [if_neg hn]
        congr 1
        rw [decide_eq_decide]
        constructor
        · exact fun h => ⟨h.1, List.mem_cons_of_mem _ h.2⟩
        · rintro ⟨h3, h4⟩
          refine ⟨h3, ?_⟩
          rcases List.mem_cons.1 h4 with h5 | h5
          · omega
          · exact h5
theorem has_roots {bl : Nat} (h : 1 ≤ bl) (hb : bl ≤ 4096) (n : Nat) : B.hasB (rootsS bl) n = decide (n < 2) := by
  have hl : 1 ≤ B.makeN bl := by unfold B.makeN; omega
  show B.hasB (B.withI (B.withI (List.replicate (B.makeN bl) 0) ((0 : Nat) : Int) true) ((1 : Nat) : Int) true) n = _
  rw [has_with true (by decide) (by rw [withI_len, List.length_replicate]; simp; omega), has_with true (by decide) (by rw [List.length_replicate]; simp; omega), has_zeros]
  simp only [Int.toNat_natCast]
  by_cases h1 : n = 1
  · subst h1; simp
  · by_cases h0 : n = 0
    · subst h0; simp
    · rw [if_neg h1, if_neg h0]
      have : ¬ n < 2 := by omega
      simp [this]
theorem trim_get (l : List Int) (j i : Nat) (hj : ∀ k, j ≤ k → l.getD k 0 = 0) : (l.take (trimTo l j)).getD i 0 = l.getD i 0 := by
  induction j with
  | zero =>
    rw [hj i (Nat.zero_le _)]
    simp [trimTo]
  | succ j ih =>
    unfold trimTo
    by_cases h : l.getD j 0 = 0
    · rw [if_pos h]
      refine ih (fun k hk => ?_)
      by_cases e : k = j
      · rw [e]; exact h
      · exact hj k (by omega)
    · rw [if_neg h]
      by_cases hi : i < j + 1
      · rw [List.getD_eq_getElem?_getD, List.getD_eq_getElem?_getD, List.getElem?_take, if_pos hi]
      · rw [hj i (by omega), List.getD_eq_getElem?_getD, List.getElem?_take, if_neg hi]; rfl
theorem wide_get (tb : List Int) (id : Nat) (n : Int) (i : Nat) (h : 1 ≤ id) : (wideT tb id n).getD i 0 = if i = id - 1 then n else tb.getD i 0 := by
  unfold wideT
  rw [List.getD_eq_getElem?_getD, List.getElem?_set]
  by_cases e : id - 1 = i
  · rw [if_pos e, if_pos e.symm, if_pos (by simp; omega)]; rfl
  · rw [if_neg e, if_neg (fun h => e h.symm), List.getElem?_append, List.getD_eq_getElem?_getD]
    split
    · rfl
    · rename_i h2
      rw [List.getElem?_replicate, List.getElem?_eq_none (l := tb) (by omega)]
      split <;> rfl
theorem give_get (tb : List Int) (id : Nat) (n : Int) (i : Nat) (h : 1 ≤ id) : (giveT tb id n).getD i 0 = if i = id - 1 then n else tb.getD i 0 := by
  unfold giveT
  rw [trim_get, wide_get tb id n i h]
  intro k hk
  rw [List.getD_eq_getElem?_getD, List.getElem?_eq_none (by rw [wideT_len]; exact hk)]; rfl
theorem give_len (tb : List Int) (id : Nat) (n : Int) : (giveT tb id n).length ≤ max tb.length id := by
  unfold giveT
  rw [List.length_take, wideT_len]
  omega
theorem blk_get (tb : List Int) (i : Nat) : blkI tb ((i : Int) + 1) = tb.getD i 0 := by
  unfold blkI
  by_cases h : i < tb.length
  · rw [if_neg (by omega), show ((i : Int) + 1 - 1).toNat = i by omega]
  · rw [if_pos (by omega), List.getD_eq_getElem?_getD, List.getElem?_eq_none (by omega)]; rfl
theorem mem_get {l : List Int} {z : Int} (h : z ∈ l) : ∃ i, i < l.length ∧ l.getD i 0 = z := by
  obtain ⟨i, hi, e⟩ := List.getElem_of_mem h
  exact ⟨i, hi, by rw [List.getD_eq_getElem?_getD, List.getElem?_eq_getElem hi]; exact e⟩
theorem get_mem {l : List Int} {i : Nat} (h : l.getD i 0 ≠ 0) : l.getD i 0 ∈ l ∧ i < l.length := by
  by_cases hi : i < l.length
  · rw [List.getD_eq_getElem?_getD, List.getElem?_eq_getElem hi]; exact ⟨List.getElem_mem hi, hi⟩
  · rw [List.getD_eq_getElem?_getD, List.getElem?_eq_none (by omega)] at h; exact absurd rfl h
def Inj (tb : List Int) : Prop := ∀ i j, tb.getD i 0 ≠ 0 → tb.getD i 0 = tb.getD j 0 → i = j
theorem Inj.part {tb : List Int} (h : Inj tb) : Part tb := by
  unfold Part
  rw [List.pairwise_iff_getElem]
  intro i j hi hj hij h1 h2 e
  have := h i j (by rw [List.getD_eq_getElem?_getD, List.getElem?_eq_getElem hi]; exact h1) (by rw [List.getD_eq_getElem?_getD, List.getElem?_eq_getElem hi, List.getD_eq_getElem?_getD, List.getElem?_eq_getElem hj]; simpa using e)
  omega
structure SCore (s : SS) : Prop where
  ok : s.Ok
  b1 : 1 ≤ s.bl
  inj : Inj s.c.tb
  own : ∀ z ∈ s.c.tb, z ≠ 0 → (B.hasB s.us z.toNat || B.hasB s.c.fr z.toNat) = true
  rts : B.hasB s.us 0 = true ∧ B.hasB s.us 1 = true
  frs : ∀ n, B.hasB s.c.fr n = true → B.hasB s.us n = false ∧ n < s.bl
  usb : ∀ n, B.hasB s.us n = true → n < s.bl
structure SInv (s : SS) : Prop where
  core : SCore s
  lok : ChOk s.bl s.l
  linj : Inj s.l.tb
  lown : ∀ z ∈ s.l.tb, z ≠ 0 → B.hasB s.us z.toNat = true
  lfr : ∀ n, B.hasB s.l.fr n = false
  ldt : s.l.dt = false
  cln : s.c.dt = false → s.c = s.l
theorem free_mem {s : SS} {n : Nat} : n ∈ freeL s ↔ n < s.bl ∧ B.hasB s.us n = false ∧ B.hasB s.c.fr n = false := by
  unfold freeL freeTo isFree
  rw [List.mem_filter, List.mem_range]
  simp
theorem free_nodup (s : SS) : (freeL s).Nodup := by
  unfold freeL freeTo
  exact List.Pairwise.filter _ List.nodup_range
theorem ints_mem {l : List Nat} {z : Int} (h : z ∈ ints l) : 0 ≤ z ∧ z.toNat ∈ l := by
  obtain ⟨n, hn, rfl⟩ := List.mem_map.1 h
  exact ⟨by simp, by simpa using hn⟩
theorem ints_part {l : List Nat} (h : l.Nodup) : Part (ints l) := by
  unfold Part ints
  rw [List.pairwise_map]
  exact h.imp (fun hab _ _ e => hab (Int.ofNat.inj e))
theorem free_ge {s : SS} (h : SCore s) {n : Nat} (hn : n ∈ freeL s) : 2 ≤ n := by
  have := free_mem.1 hn
  rcases Nat.lt_or_ge n 2 with h2 | h2
  · have : n = 0 ∨ n = 1 := by omega
    rcases this with rfl | rfl
    · rw [h.rts.1] at *; simp_all
    · rw [h.rts.2] at *; simp_all
  · exact h2
theorem tab_mem {s : SS} {z : Int} (h : z ∈ tabL s) : 0 ≤ z ∧ z.toNat ∈ freeL s := by
  obtain ⟨h1, h2⟩ := ints_mem h
  exact ⟨h1, List.mem_of_mem_take h2⟩
theorem map_mem {s : SS} {z : Int} (h : z ∈ mapL s) : 0 ≤ z ∧ z.toNat ∈ freeL s := by
  obtain ⟨h1, h2⟩ := ints_mem h
  exact ⟨h1, List.mem_of_mem_take (List.mem_of_mem_drop h2)⟩
theorem tabmap (s : SS) : tabL s ++ mapL s = ints ((freeL s).take (cntN s)) := by
  unfold tabL mapL ints
  rw [← List.map_append]
  congr 1
  have : (freeL s).take (tcN s) = ((freeL s).take (cntN s)).take (tcN s) := by
    rw [List.take_take]
    congr 1
    unfold cntN; omega
  rw [this, List.take_append_drop]
theorem settle_once {s : SS} (h : SCore s) : ∃ us2, onceR s.bl (rootsS s.bl) (s.c.tb ++ tabL s ++ mapL s) = some us2 ∧ ∀ n, B.hasB us2 n = (decide (n < 2) || decide (n ≠ 0 ∧ (n : Int) ∈ s.c.tb ++ tabL s ++ mapL s)) := by
  have hbl := h.ok.bl
  have hf : ∀ z ∈ tabL s ++ mapL s, 0 ≤ z ∧ z.toNat ∈ freeL s := fun z hz => by
    rcases List.mem_append.1 hz with h1 | h1
    · exact tab_mem h1
    · exact map_mem h1
  have hr : ∀ z ∈ tabL s ++ mapL s, 2 ≤ z ∧ z < s.bl := fun z hz => by
    obtain ⟨h0, h1⟩ := hf z hz
    have h2 := free_ge h h1
    have h3 := (free_mem.1 h1).1
    omega
  have ht := h.ok.c.tb.ins
  obtain ⟨us2, h1, h2⟩ := once_some (bl := s.bl) (l := s.c.tb ++ (tabL s ++ mapL s)) (m := rootsS s.bl) (fun z hz => by
    rcases List.mem_append.1 hz with h1 | h1
    · exact ht z h1
    · exact .inr (hr z h1)) (h.inj.part.app (by rw [tabmap]; exact ints_part ((free_nodup s).sublist (List.take_sublist _ _))) (fun x hx y hy hx0 hy0 e => by
      subst e
      obtain ⟨h0, h1⟩ := hf x hy
      have h2 := free_mem.1 h1
      have h3 := h.own x hx hx0
      rw [h2.2.1, h2.2.2] at h3
      cases h3)) (fun z hz hz0 => by
    rw [has_roots h.b1 hbl]
    have : 2 ≤ z := by
      rcases List.mem_append.1 hz with h1 | h1
      · rcases ht z h1 with h2 | h2
        · exact absurd h2 hz0
        · exact h2.1
      · exact (hr z h1).1
    simp; omega) (by rw [show (rootsS s.bl).length = _ from rootsK_len s.bl 2]; unfold B.makeN; omega)
  rw [← List.append_assoc] at h1 h2
  exact ⟨us2, h1, fun n => by rw [h2 n, has_roots h.b1 hbl]⟩
theorem SCore.note {s : SS} (h : SCore s) (e : Int) : SCore (s.note e) := ⟨⟨h.ok.bl, h.ok.c, h.ok.l, h.ok.usl, h.ok.usa, h.ok.e0, h.ok.e1⟩, h.b1, h.inj, h.own, h.rts, h.frs, h.usb⟩
theorem SInv.note {s : SS} (h : SInv s) (e : Int) : SInv (s.note e) := ⟨h.core.note e, h.lok, h.linj, h.lown, h.lfr, h.ldt, h.cln⟩
theorem SInv.abort {s : SS} (h : SInv s) : SInv { s with c := s.l } := by
  have k := h.core
  refine ⟨⟨⟨k.ok.bl, h.lok, .inl h.lok, k.ok.usl, k.ok.usa, k.ok.e0, k.ok.e1⟩, k.b1, h.linj, fun z hz h0 => ?_, k.rts, fun n hn => ?_, k.usb⟩, h.lok, h.linj, h.lown, h.lfr, h.ldt, fun _ => rfl⟩
  · show (B.hasB s.us z.toNat || _) = true
    rw [h.lown z hz h0]; rfl
  · have : B.hasB s.l.fr n = true := hn
    rw [h.lfr n] at this; cases this
theorem SInv.start {s : SS} (h : SInv s) {id : Int} (hid : id = 0 ∨ blkI s.c.tb id ≠ 0) : SInv (s.start id) := by
  have k := h.core
  exact ⟨⟨⟨k.ok.bl, ⟨k.ok.c.tb, hid, k.ok.c.frl, k.ok.c.fra⟩, k.ok.l, k.ok.usl, k.ok.usa, k.ok.e0, k.ok.e1⟩, k.b1, k.inj, k.own, k.rts, k.frs, k.usb⟩, h.lok, h.linj, h.lown, h.lfr, h.ldt, fun e => by cases e⟩
theorem blk_give {tb : List Int} {id : Nat} {n : Int} (h : 1 ≤ id) (j : Int) : blkI (giveT tb id n) j = if j = id then n else blkI tb j := by
  by_cases hj : j < 1
  · have e : ∀ l, blkI l j = 0 := fun l => by unfold blkI; rw [if_pos (Or.inl hj)]
    rw [e, e, if_neg (by omega)]
  · obtain ⟨i, rfl⟩ : ∃ i : Nat, j = (i : Int) + 1 := ⟨(j - 1).toNat, by omega⟩
    rw [blk_get, blk_get, give_get tb id n i h]
    by_cases e : i = id - 1
    · rw [if_pos e, if_pos (by omega)]
    · rw [if_neg e, if_neg (by omega)]
theorem blk_mem {tb : List Int} {id : Int} (h : blkI tb id ≠ 0) : blkI tb id ∈ tb ∧ 1 ≤ id ∧ id ≤ tb.length := by
  have h1 : ¬ (id < 1 ∨ (tb.length : Int) < id) := fun hc => h (by unfold blkI; rw [if_pos hc])
  obtain ⟨i, rfl⟩ : ∃ i : Nat, id = (i : Int) + 1 := ⟨(id - 1).toNat, by omega⟩
  rw [blk_get] at h ⊢
  exact ⟨(get_mem h).1, by omega, by omega⟩
theorem give_mem {tb : List Int} {id : Nat} {n z : Int} (h : 1 ≤ id) (hz : z ∈ giveT tb id n) (h0 : z ≠ 0) : z = n ∨ ∃ i, i ≠ id - 1 ∧ tb.getD i 0 = z := by
  obtain ⟨i, _, e⟩ := mem_get hz
  rw [give_get tb id n i h] at e
  by_cases hi : i = id - 1
  · rw [if_pos hi] at e; exact .inl e.symm
  · rw [if_neg hi] at e; exact .inr ⟨i, hi, e⟩
theorem give_ok {bl : Nat} {tb : List Int} {id : Nat} {n : Int} (h : TbOk bl tb) (h1 : 1 ≤ id) (h2 : id ≤ 3000) (hn : n = 0 ∨ (2 ≤ n ∧ n < bl)) : TbOk bl (giveT tb id n) := by
  refine ⟨by have := give_len tb id n; have := h.len; omega, fun z hz => ?_⟩
  by_cases h0 : z = 0
  · exact .inl h0
  · rcases give_mem h1 hz h0 with e | ⟨i, _, e⟩
    · rw [e]; exact hn
    · rw [← e] at h0 ⊢
      exact h.ins _ (get_mem h0).1
theorem give_inj {tb : List Int} {id : Nat} {n : Int} (h : Inj tb) (h1 : 1 ≤ id) (hn : n ≠ 0 → ∀ i, i ≠ id - 1 → tb.getD i 0 ≠ n) : Inj (giveT tb id n) := by
  intro i j hi e
  rw [give_get tb id n i h1] at hi e
  rw [give_get tb id n j h1] at e
  by_cases ei : i = id - 1
  · rw [if_pos ei] at hi e
    by_cases ej : j = id - 1
    · omega
    · rw [if_neg ej] at e
      exact absurd e.symm (hn hi j ej)
  · rw [if_neg ei] at hi e
    by_cases ej : j = id - 1
    · rw [if_pos ej] at e
      exact absurd e (hn (by rw [← e]; exact hi) i ei)
    · rw [if_neg ej] at e
      exact h i j hi e
theorem SInv.placed {s : SS} (h : SInv s) {id n : Nat} (h1 : 1 ≤ id) (h2 : id ≤ 3000) (hn : n ∈ freeL s) : SInv ((s.give id n).fresh n true) := by
  have k := h.core
  have hf := free_mem.1 hn
  have hge := free_ge k hn
  have hlen : n < 8 * s.c.fr.length := by rw [k.ok.c.frl]; have := k.ok.bl; unfold B.makeN; omega
  have hw : ∀ m, B.hasB (B.withI s.c.fr (n : Int) true) m = if m = n then true else B.hasB s.c.fr m := fun m => by
    have := has_with (m := s.c.fr) (z := (n : Int)) true (by omega) (by simpa using hlen) m
    simpa using this
  have hne : ∀ z ∈ s.c.tb, z ≠ 0 → z ≠ (n : Int) := fun z hz h0 e => by
    have := k.own z hz h0
    rw [e] at this
    simp only [Int.toNat_natCast] at this
    rw [hf.2.1, hf.2.2] at this
    cases this
  refine ⟨⟨⟨k.ok.bl, ⟨give_ok k.ok.c.tb h1 h2 (.inr ⟨by omega, by show ((n : Nat) : Int) < ((s.bl : Nat) : Int); omega⟩), ?_, by show (B.withI s.c.fr _ _).length = _; rw [withI_len]; exact k.ok.c.frl, withI_all k.ok.c.fra _ _⟩, k.ok.l, k.ok.usl, k.ok.usa, k.ok.e0, k.ok.e1⟩, k.b1, give_inj k.inj h1 (fun _ i hi e => ?_), fun z hz h0 => ?_, k.rts, fun m hm => ?_, k.usb⟩, h.lok, h.linj, h.lown, h.lfr, h.ldt, fun e => by cases e⟩
  · rcases k.ok.c.st with e | e
    · exact .inl e
    · refine .inr ?_
      show blkI (giveT s.c.tb id n) s.c.st ≠ 0
      rw [blk_give h1]
      split
      · omega
      · exact e
  · have hm := get_mem (l := s.c.tb) (i := i) (by rw [e]; omega)
    exact hne _ hm.1 (by rw [e]; omega) e
  · show (B.hasB s.us z.toNat || B.hasB (B.withI s.c.fr (n : Int) true) z.toNat) = true
    rw [hw]
    rcases give_mem h1 hz h0 with e | ⟨i, _, e⟩
    · rw [e]; simp
    · have hm := (get_mem (l := s.c.tb) (i := i) (by rw [e]; exact h0)).1
      rw [e] at hm
      have := k.own z hm h0
      split
      · simp
      · exact this
  · have hm' : B.hasB (B.withI s.c.fr (n : Int) true) m = true := hm
    rw [hw] at hm'
    by_cases e : m = n
    · subst e; exact ⟨hf.2.1, hf.1⟩
    · rw [if_neg e] at hm'; exact k.frs m hm'
theorem SInv.freed {s : SS} (h : SInv s) {id : Nat} {n : Int} (h1 : 1 ≤ id) (h2 : id ≤ 3000) (hb : blkI s.c.tb id = n) (hn : n ≠ 0) (hst : (id : Int) ≠ s.c.st) : SInv ((s.give id 0).fresh n false) := by
  have k := h.core
  have hmem := (blk_mem (tb := s.c.tb) (id := id) (by rw [hb]; exact hn)).1
  rw [hb] at hmem
  have hr := (k.ok.c.tb.ins n hmem).resolve_left hn
  have hlen : n.toNat < 8 * s.c.fr.length := by rw [k.ok.c.frl]; have := k.ok.bl; unfold B.makeN; omega
  have hw : ∀ m, B.hasB (B.withI s.c.fr n false) m = if m = n.toNat then false else B.hasB s.c.fr m := fun m => has_with (m := s.c.fr) (z := n) false (by omega) hlen m
  have hget : s.c.tb.getD (id - 1) 0 = n := by
    have := blk_get s.c.tb (id - 1)
    rw [← this, show (((id - 1 : Nat) : Int) + 1) = (id : Int) by omega]
    exact hb
  refine ⟨⟨⟨k.ok.bl, ⟨give_ok k.ok.c.tb h1 h2 (.inl rfl), ?_, by show (B.withI s.c.fr _ _).length = _; rw [withI_len]; exact k.ok.c.frl, withI_all k.ok.c.fra _ _⟩, k.ok.l, k.ok.usl, k.ok.usa, k.ok.e0, k.ok.e1⟩, k.b1, give_inj k.inj h1 (fun e => absurd rfl e), fun z hz h0 => ?_, k.rts, fun m hm => ?_, k.usb⟩, h.lok, h.linj, h.lown, h.lfr, h.ldt, fun e => by cases e⟩
  · rcases k.ok.c.st with e | e
    · exact .inl e
    · refine .inr ?_
      show blkI (giveT s.c.tb id 0) s.c.st ≠ 0
      rw [blk_give h1, if_neg (fun e2 => hst e2.symm)]
      exact e
  · show (B.hasB s.us z.toNat || B.hasB (B.withI s.c.fr n false) z.toNat) = true
    rcases give_mem h1 hz h0 with e | ⟨i, hi, e⟩
    · exact absurd e h0
    · have hm := (get_mem (l := s.c.tb) (i := i) (by rw [e]; exact h0)).1
      rw [e] at hm
      have ho := k.own z hm h0
      rw [hw, if_neg]
      · exact ho
      · intro e2
        have hzr := (k.ok.c.tb.ins z hm).resolve_left h0
        have : z = n := by omega
        have := k.inj i (id - 1) (by rw [e]; exact h0) (by rw [e, hget]; exact this)
        exact hi this
  · have hm' : B.hasB (B.withI s.c.fr n false) m = true := hm
    rw [hw] at hm'
    by_cases e : m = n.toNat
    · rw [if_pos e] at hm'; cases hm'
    · rw [if_neg e] at hm'; exact k.frs m hm'
theorem SCore.held {s : SS} (h : SCore s) {ep : Int} {us2 : List Int} (h1 : onceR s.bl (rootsS s.bl) (s.c.tb ++ tabL s ++ mapL s) = some us2) (h2 : ∀ n, B.hasB us2 n = (decide (n < 2) || decide (n ≠ 0 ∧ (n : Int) ∈ s.c.tb ++ tabL s ++ mapL s))) (hb : 2 ≤ s.bl) (e0 : 0 ≤ ep) (e1 : ep ≤ 1099511627776) : SInv (s.hold ep s.c.st s.c.tb us2) := by
  have hz : ∀ n, B.hasB (List.replicate (B.makeN s.bl) 0) n = false := fun n => has_zeros _ n
  have hch : ChOk s.bl ⟨s.c.tb, s.c.st, List.replicate (B.makeN s.bl) 0, false⟩ := ⟨h.ok.c.tb, h.ok.c.st, by simp, zeros_allB _⟩
  have hin : ∀ z ∈ s.c.tb, z ≠ 0 → B.hasB us2 z.toNat = true := fun z hz h0 => by
    have hr := (h.ok.c.tb.ins z hz).resolve_left h0
    rw [h2 z.toNat, decide_eq_true (p := z.toNat ≠ 0 ∧ _) ⟨by omega, by rw [Int.toNat_of_nonneg (by omega)]; exact List.mem_append_left _ (List.mem_append_left _ hz)⟩]
    simp
  refine ⟨⟨⟨h.ok.bl, hch, .inl hch, by show us2.length = _; rw [onceR_len h1]; exact rootsK_len s.bl 2, onceR_all h1 (rootsK_all s.bl 2), e0, e1⟩, h.b1, h.inj, fun z hz h0 => ?_, ⟨?_, ?_⟩, fun n hn => ?_, fun n hn => ?_⟩, hch, h.inj, hin, hz, rfl, fun _ => rfl⟩
  · show (B.hasB us2 z.toNat || _) = true
    rw [hin z hz h0]; rfl
  · show B.hasB us2 0 = true
    rw [h2]; simp
  · show B.hasB us2 1 = true
    rw [h2]; simp
  · have : B.hasB (List.replicate (B.makeN s.bl) 0) n = true := hn
    rw [hz n] at this; cases this
  · show n < s.bl
    have hn' : B.hasB us2 n = true := hn
    rw [h2, Bool.or_eq_true, decide_eq_true_eq, decide_eq_true_eq] at hn'
    rcases hn' with h3 | ⟨h3, h4⟩
    · omega
    · rcases List.mem_append.1 h4 with h5 | h5
      · rcases List.mem_append.1 h5 with h6 | h6
        · have := (h.ok.c.tb.ins _ h6).resolve_left (by omega); omega
        · have := (free_mem.1 (tab_mem h6).2).1; omega
      · have := (free_mem.1 (map_mem h5).2).1; omega
end Go.Proofs.YtelhlikeefpjnaaGreat
namespace Go.Proofs.YtelhlikeefpjnaaGreat
set_option maxRecDepth 20000
open Go.RowKit
set_option linter.unusedVariables false
theorem place_keep {s : SS} (h : SInv s) (d : D.DS) {id : Nat} (zs : List Int) (h1 : 1 ≤ id) (h2 : id ≤ 3000) : SInv (placeR s d id zs).2.1 := by
  unfold placeR
  cases e : freeL s with
  | nil => exact h
  | cons n rest =>
    simp only
    split
    · exact h.note _
    · exact h.placed h1 h2 (by rw [e]; simp)
theorem alloc_keep {s : SS} (h : SInv s) (d : D.DS) (kd : Int) (zs : List Int) : SInv (allocR s d kd zs).1 := by
  unfold allocR
  split
  · exact h
  · rename_i hc
    have he : sealE kd (spareN s.c.tb : Nat) zs.length = 0 := by
      by_cases e : sealE kd (spareN s.c.tb : Nat) zs.length = 0
      · exact e
      · exact absurd (Or.inr (Or.inr e)) hc
    have := (sealE_zero he).2.2.2.1
    exact place_keep h d _ (by unfold spareN; omega) (by omega)
theorem write_keep {s : SS} (h : SInv s) (d : D.DS) (id kd : Int) (zs : List Int) : SInv (wrR s d id kd zs).2.1 := by
  unfold wrR
  split
  · exact h
  · rename_i hf
    obtain ⟨h1, h2, _⟩ := find_id (by simpa using hf)
    have := h.core.ok.c.tb.len
    split
    · exact h
    · split
      · exact h.note _
      · exact place_keep h d _ (by omega) (by omega)
theorem free_keep {s : SS} (h : SInv s) (d : D.DS) (id : Int) : SInv (frR s d id).2.1 := by
  unfold frR
  split
  · exact h
  · rename_i hf
    obtain ⟨h1, h2, h3, h4, _⟩ := find_id (by simpa using hf)
    have := h.core.ok.c.tb.len
    split
    · exact h
    · rename_i hst
      have e : ((id.toNat : Nat) : Int) = id := Int.toNat_of_nonneg (by omega)
      exact h.freed (by omega) (by omega) (by rw [e, h3]) (by rw [h3]; exact h4) (by rw [e]; exact hst)
theorem start_keep {s : SS} (h : SInv s) (d : D.DS) (id : Int) : SInv (stR s d id).2.1 := by
  unfold stR
  split
  · exact h
  · split
    · exact h
    · rename_i hc
      split
      · exact h
      · refine h.start ?_
        by_cases e : id = 0
        · exact .inl e
        · exact .inr (fun hb => hc ⟨e, hb⟩)
theorem abort_keep {s : SS} (h : SInv s) (d : D.DS) : SInv (abR s d).2.1 := by
  unfold abR
  split
  · exact h
  · exact h.abort
theorem read_keep {s : SS} (h : SInv s) (d : D.DS) (id : Int) : SInv (rdR s d id).1 := by
  unfold rdR
  split
  · exact h
  · exact h.note _
noncomputable def us2S (s : SS) : List Int := (onceR s.bl (rootsS s.bl) (s.c.tb ++ tabL s ++ mapL s)).getD []
theorem us2_once {s : SS} (h : SCore s) : onceR s.bl (rootsS s.bl) (s.c.tb ++ tabL s ++ mapL s) = some (us2S s) ∧ ∀ n, B.hasB (us2S s) n = (decide (n < 2) || decide (n ≠ 0 ∧ (n : Int) ∈ s.c.tb ++ tabL s ++ mapL s)) := by
  obtain ⟨us2, h1, h2⟩ := settle_once h
  have : us2S s = us2 := by unfold us2S; rw [h1]; rfl
  rw [this]
  exact ⟨h1, h2⟩
theorem settle_held {s : SS} (h : SCore s) (d : D.DS) (ep : Int) (he : (settleR s d ep (us2S s)).1 = 0) : SInv (settleR s d ep (us2S s)).2.1 ∧ (settleR s d ep (us2S s)).2.1 = s.hold ep s.c.st s.c.tb (us2S s) := by
  obtain ⟨h1, h2⟩ := us2_once h
  unfold settleR at he ⊢
  split at he
  · cases he
  · rename_i q1
    rw [if_neg q1]
    split at he
    · rename_i q2; exact absurd he q2
    · rename_i q2
      rw [if_neg q2]
      split at he
      · rename_i q3; exact absurd he q3
      · rename_i q3
        rw [if_neg q3]
        have hok := R.ok_checkE (by simpa using q2)
        have e0 := hok.e0
        have e1 := hok.e1
        have b0 := hok.b0
        exact ⟨h.held h1 h2 (by have : (2 : Int) ≤ (s.bl : Int) := b0; omega) e0 e1, rfl⟩
theorem settle_keep {s : SS} (h : SInv s) (d : D.DS) (ep : Int) : SInv (settleR s d ep (us2S s)).2.1 := by
  by_cases he : (settleR s d ep (us2S s)).1 = 0
  · exact (settle_held h.core d ep he).1
  · unfold settleR at he ⊢
    split
    · exact h
    · split
      · exact h
      · split
        · exact h.note _
        · rename_i q1 q2 q3
          rw [if_neg q1, if_neg q2, if_neg q3] at he
          exact absurd rfl he
theorem commit_keep {s : SS} (h : SInv s) (d : D.DS) : SInv (comR s d (us2S s)).2.1 := by
  unfold comR
  split
  · exact h
  · split
    · exact h
    · exact settle_keep h d _
theorem blank_core {bl : Nat} (h2 : 2 ≤ bl) (h : bl ≤ 4096) : SCore (blankS bl) := by
  have h1 : 1 ≤ bl := by omega
  refine ⟨blankS_ok h, h1, fun i j hi => absurd (by simp [blankS]) hi, fun z hz => by simp [blankS] at hz, ⟨?_, ?_⟩, fun n hn => ?_, fun n hn => ?_⟩
  · show B.hasB (rootsS bl) 0 = true; rw [has_roots h1 h]; rfl
  · show B.hasB (rootsS bl) 1 = true; rw [has_roots h1 h]; rfl
  · have : B.hasB (List.replicate (B.makeN bl) 0) n = true := hn
    rw [has_zeros] at this; cases this
  · have hn' : B.hasB (rootsS bl) n = true := hn
    rw [has_roots h1 h, decide_eq_true_eq] at hn'
    show n < bl
    omega
noncomputable def fmtS (d : D.DS) : Int × SS × D.DS := fmtR d (us2S (blankS d.room))
theorem fmt_once {bl : Nat} (h2 : 2 ≤ bl) (h : bl ≤ 4096) : onceR bl (rootsS bl) (mapL (blankS bl)) = some (us2S (blankS bl)) := by
  have := (us2_once (blank_core h2 h)).1
  have e1 : tabL (blankS bl) = [] := by unfold tabL tcN; simp [blankS, nPages, ints]
  rw [e1] at this
  exact this
theorem fmt_keep {d : D.DS} (h : d.room ≤ 4096) (he : (fmtS d).1 = 0) : SInv (fmtS d).2.1 ∧ (fmtS d).2.1 = (blankS d.room).hold 0 0 [] (us2S (blankS d.room)) := by
  unfold fmtS fmtR at he ⊢
  split at he
  · cases he
  · rename_i q1
    rw [if_neg q1]
    split at he
    · rename_i q2; exact absurd he q2
    · rename_i q2
      rw [if_neg q2]
      exact settle_held (blank_core (by omega) h) _ 0 he
theorem stepS_room {s t : D.DS} : (D.stepS s t).room = s.room := by unfold D.stepS; split <;> (try split) <;> rfl
theorem syncS_room (d : D.DS) : (D.syncS d).room = d.room := by unfold D.syncS; split; rfl; exact stepS_room
theorem readS_room (d : D.DS) (n : Int) : (D.readS d n).room = d.room := by unfold D.readS; split <;> rfl
theorem place_room (s : SS) (d : D.DS) (id : Nat) (zs : List Int) : (placeR s d id zs).2.2.room = d.room := by
  unfold placeR
  cases freeL s with
  | nil => rfl
  | cons n rest => simp only; split <;> exact writeS_room _ _ _
theorem alloc_room (s : SS) (d : D.DS) (kd : Int) (zs : List Int) : (allocR s d kd zs).2.room = d.room := by
  unfold allocR; split; rfl; exact place_room _ _ _ _
theorem wr_room (s : SS) (d : D.DS) (id kd : Int) (zs : List Int) : (wrR s d id kd zs).2.2.room = d.room := by
  unfold wrR; split; rfl; split; rfl; split; exact writeS_room _ _ _; exact place_room _ _ _ _
theorem fr_room (s : SS) (d : D.DS) (id : Int) : (frR s d id).2.2.room = d.room := by unfold frR; split; rfl; split <;> rfl
theorem st_room (s : SS) (d : D.DS) (id : Int) : (stR s d id).2.2.room = d.room := by unfold stR; split; rfl; split; rfl; split <;> rfl
theorem ab_room (s : SS) (d : D.DS) : (abR s d).2.2.room = d.room := by unfold abR; split <;> rfl
theorem rd_room (s : SS) (d : D.DS) (id : Int) : (rdR s d id).2.room = d.room := by unfold rdR; split; rfl; exact readS_room _ _
theorem wp_room (kd : Int) : ∀ (ps : List (List Int)) (i : Nat) (bs : List Int) (d : D.DS), (wpR kd i ps bs d).2.room = d.room
  | [], _, _, _ => rfl
  | _ :: _, _, [], _ => rfl
  | p :: ps, i, b :: bs, d => by
    unfold wpR
    split
    · exact writeS_room _ _ _
    · rw [wp_room kd ps (i + 1) bs]; exact writeS_room _ _ _
theorem tl_room {F : Nat → D.DS → Int × D.DS} (hF : ∀ j d, (F j d).2.room = d.room) : ∀ (n j : Nat) (d : D.DS), (tlR F n j d).2.room = d.room
  | 0, _, _ => rfl
  | n + 1, j, d => by
    unfold tlR
    split
    · exact hF j d
    · rw [tl_room hF n (j + 1)]; exact hF j d
theorem stepF_room (s : SS) (ep : Int) (us2 : List Int) (j : Nat) (d : D.DS) : (stepF s ep us2 j d).2.room = d.room := by
  unfold stepF
  split
  · exact wp_room _ _ _ _ _
  · exact wp_room _ _ _ _ _
  · exact writeS_room _ _ _
  · exact syncS_room _
theorem settle_room (s : SS) (d : D.DS) (ep : Int) (us2 : List Int) : (settleR s d ep us2).2.2.room = d.room := by
  unfold settleR
  split
  · rfl
  · split
    · rfl
    · split <;> exact tl_room (stepF_room s ep us2) 5 0 d
theorem com_room (s : SS) (d : D.DS) (us2 : List Int) : (comR s d us2).2.2.room = d.room := by
  unfold comR; split; rfl; split; rfl; exact settle_room _ _ _ _
theorem fmt_room (d : D.DS) (us2 : List Int) : (fmtR d us2).2.2.room = d.room := by
  unfold fmtR; split; rfl; split; exact writeS_room _ _ _; rw [settle_room]; exact writeS_room _ _ _
structure Mi (w0 w : World) (k : Pl) (s : SS) (d : D.DS) : Prop where
  sy : Sy w k s d
  inv : SInv s
  room : d.room = s.bl
  up : ∀ x ∈ k.X, w0.heap.size ≤ x
  be : Below w0.heap.size w0 w
theorem Mi.below {w0 w w' : World} {k : Pl} {s : SS} {d : D.DS} (h : Mi w0 w k s d) (hb : Below w.heap.size w w') : Mi w0 w' k s d :=
  ⟨h.sy.below hb, h.inv, h.room, h.up, h.be.trans (hb.mono h.be.size)⟩
theorem Mi.step {w0 w w' : World} {k : Pl} {s s' : SS} {d d' : D.DS} (h : Mi w0 w k s d) (hs : Sy w' k s' d') (hi : SInv s') (hr : d'.room = d.room) (hb : s'.bl = s.bl) (ho : D.Off k.X w w') : Mi w0 w' k s' d' :=
  ⟨hs, hi, hr.trans (h.room.trans hb.symm), h.up, h.be.trans (ho.below h.be.size h.up)⟩
end Go.Proofs.YtelhlikeefpjnaaGreat
namespace Go.Proofs.YtelhlikeefpjnaaGreat
set_option maxRecDepth 20000
open Go.RowKit
set_option linter.unusedVariables false
set_option linter.unusedSimpArgs false
theorem own_off {w w' : World} {base : Nat} {X : List Nat} {v : Value} {zs : List Int} (h : Own w base v zs) (ho : D.Off X w w') (hX : ∀ x ∈ X, x < base) : Own w' base v zs := by
  refine ⟨h.1, ?_⟩
  have hl := World.ownsRow.lt h
  rcases h.2 with hn | ⟨g, cap, cur, rfl, hbb, hg, rest⟩
  · exact .inl hn
  · exact .inr ⟨g, cap, cur, rfl, hbb, (ho.block g (hl g rfl).2 (fun hm => by have := hX g hm; omega)).trans hg, rest⟩
def rpR (kd : Int) : Nat → List Int → List Int → D.DS → Int × List Int × D.DS
  | _, [], acc, d => (0, acc, d)
  | i, b :: bs, acc, d => if D.reachE d b ≠ 0 then (D.reachE d b, [], D.readS d b) else if opE (D.readB d b) ≠ 0 ∨ opK (D.readB d b) ≠ kd ∨ opI (D.readB d b) ≠ (i : Int) then (4, [], D.readS d b) else rpR kd (i + 1) bs (acc ++ opB (D.readB d b)) (D.readS d b)
def RpPost (k : Pl) (s : SS) (w : World) (r : Int × List Int × D.DS) (t f t' f' u : Value) (sb db nx : Nat) (e : Ending) (w' : World) : Prop :=
  ∃ v s', e = .returned (.tuple #[v, .int .i64 r.1]) ∧ FB w' k.X v r.2.1 ∧ Sx w' k s' r.2.2 t f t' f' u sb db nx ∧ (r.1 = 0 → s' = s) ∧ D.Off k.X w w'
theorem opB_len (zs : List Int) : (opB zs).length ≤ 246 := by
  unfold opB
  split
  · unfold rdB; rw [List.length_take]; unfold rdN; omega
  · simp
theorem off_keep {w0 w2 w3 : World} {X : List Nat} (ho : D.Off X w0 w2) (hb : Below w0.heap.size w2 w3) : D.Off X w0 w3 :=
  ⟨hb.os.trans ho.os, hb.tape.trans ho.tape, hb.output.trans ho.output, Nat.le_trans ho.size hb.size, fun i hi hx => (hb.block i hi).trans (ho.block i hi hx)⟩
theorem below_off {w w' : World} {B : Nat} (hb : Below B w w') : D.Off (List.range' B (w.heap.size - B)) w w' :=
  ⟨hb.os, hb.tape, hb.output, hb.size, fun i hi hx => hb.block i (by
    rcases Nat.lt_or_ge i B with h | h
    · exact h
    · exact absurd (List.mem_range'_1.2 ⟨h, by omega⟩) hx)⟩
theorem Sx.keepB {w0 w2 w3 : World} {k : Pl} {s : SS} {d0 d : D.DS} {t f t' f' u : Value} {sb db nx : Nat} (h0 : Sx w0 k s d0 t f t' f' u sb db nx) (h2 : Sx w2 k s d t f t' f' u sb db nx) (ho : D.Off k.X w0 w2) (hb : Below w0.heap.size w2 w3) : Sx w3 k s d t f t' f' u sb db nx := by
  have hn : ∀ x, x < w0.heap.size → x ∉ List.range' w0.heap.size (w2.heap.size - w0.heap.size) := fun x hx hm => by have := (List.mem_range'_1.1 hm).1; omega
  have hl := h0.lt
  have ho3 := off_keep ho hb
  refine ⟨h2.dk.off (below_off hb) (hn _ (hl _ (by simp [Pl.X]))) (hn _ (hl _ (by simp [Pl.X]))) (hn _ (hl _ (by simp [Pl.X]))), h2.pn, (hb.block k.p h0.m.v.lt).trans h2.m.v, h0.m.ht.off ho3 (fun _ h => h), h0.m.hf.off ho3 (fun _ h => h), h0.m.ht'.off ho3 (fun _ h => h), h0.m.hf'.off ho3 (fun _ h => h), h0.m.hu.off ho3 (fun _ h => h), h0.m.hb.off ho3 (fun _ h => h)⟩
theorem opB_all' {zs : List Int} (h : AllB zs) : AllB (opB zs) := by
  unfold opB
  split
  · exact fun z hz => h z (List.mem_of_mem_drop (List.mem_of_mem_take hz))
  · exact AllB.nil
set_option maxHeartbeats 3200000 in
theorem rpages_s {k : Pl} {s : SS} {d : D.DS} {t f t' f' u : Value} {sb db nx : Nat} (kd : Int) (bv : Value) (bs : List Int) (w : World) (h : Sx w k s d t f t' f' u sb db nx) (hbv : FI w k.X bv bs) (hbl : bs.length ≤ 30) :
    Calls Tryz.prog 53 #[.pointer (some ⟨k.p, 0, none⟩), .int .i64 kd, bv] w fun e w' => RpPost k s w (rpR kd 0 bs [] d) t f t' f' u sb db nx e w' := by
  obtain ⟨ba, bc, rfl, _, hbc, hbm, hbi, hbx⟩ := hbv
  have HBI : Hid (∀ W, D.Off k.X w W → ∀ i, i < bs.length → ∃ g off, ba = some ⟨g, off, none⟩ ∧ W.cell? ⟨g, off + i, none⟩ = some (.int .i64 (bs.getD i 0))) := by
    intro W hW i hi
    have hne : bs ≠ [] := fun e => by rw [e] at hi; simp at hi
    rcases hbi.offX hW hbx with hn | ⟨g, off, rfl, hg, hc⟩
    · exact absurd hn hne
    · exact ⟨g, off, rfl, hc i hi⟩
  have HX : Hid (Sx w k s d t f t' f' u sb db nx) := h
  have HXl : Hid (∀ x ∈ k.X, x < w.heap.size) := h.lt
  obtain ⟨R, hR⟩ : ∃ R, R = rpR kd 0 bs [] d := ⟨_, rfl⟩
  rw [← hR]
  have HR : Hid (R = rpR kd 0 bs [] d) := hR
  clear hR h hbi hbx hbc
  obtain ⟨N, hN⟩ : ∃ N, N = bs.length := ⟨_, rfl⟩
  have HN : Hid (N = bs.length) := hN
  rw [← hN] at hbl ⊢
  clear hN
  go_enter Tryz.func53, Tryz.ntmps53
  go_wp2
  go_loopw [8, 18] (fun av iv wr => ∃ (i : Nat) (di : D.DS) (acc : List Int), i ≤ N ∧ iv = .int .i64 i ∧ acc.length ≤ 246 * i ∧ Hid (AllB acc) ∧ Hid (R = rpR kd i (bs.drop i) acc di) ∧ Hid (Sx wr k s di t f t' f' u sb db nx) ∧ Hid (D.Off k.X w wr) ∧ Hid (Own wr w.heap.size av acc)) (fun _ iv _ => N - (iOf iv).toNat)
  case atStart => exact ⟨0, d, [], Nat.zero_le _, rfl, by simp, AllB.nil, HR.out, HX.out, D.Off.refl _ _, World.ownsRow_nil _ _ _ _⟩
  case round =>
    clear HR
    obtain ⟨i, di, acc, hi, rfl, hal, HAA, HR, HXi, HOf, HOw⟩ := hrel
    by_cases hlt : i < N
    · have hib : i < bs.length := by rw [← HN.out]; exact hlt
      obtain ⟨gb, ob, rfl, hcb⟩ := HBI.out _ HOf.out i hib
      have hR := HR.out
      rw [drop_at bs i hib] at hR
      generalize bs.getD i 0 = bn at *
      have hc12 := HXi.out.m.v.cells.c12
      have H1 := read_sx bn wr HXi.out
      have hzl : (D.readB di bn).length ≤ 900000 := by
        unfold D.readB
        split
        · simp
        · rename_i hc
          rw [(HXi.out.dk.1.isB _ (D.reach_ok (by simpa using hc)).2.2).1]; decide
      have HOL : Hid ((opB (D.readB di bn)).length ≤ 246 ∧ AllB (opB (D.readB di bn))) := ⟨opB_len _, opB_all' (D.readB_allB HXi.out.dk.1 bn)⟩
      rw [show rpR kd i (bn :: bs.drop (i + 1)) acc di = (if D.reachE di bn ≠ 0 then (D.reachE di bn, [], D.readS di bn) else if opE (D.readB di bn) ≠ 0 ∨ opK (D.readB di bn) ≠ kd ∨ opI (D.readB di bn) ≠ (i : Int) then (4, [], D.readS di bn) else rpR kd (i + 1) (bs.drop (i + 1)) (acc ++ opB (D.readB di bn)) (D.readS di bn)) from rfl] at hR
      have H2 : Hid (∀ W v, Sx W k s (D.readS di bn) t f t' f' u sb db nx → FB W k.X v (D.readB di bn) → Calls Tryz.prog 62 #[v] W fun e w' => ∃ v', e = .returned (.tuple #[.int .i64 (opK (D.readB di bn)), .int .i64 (opI (D.readB di bn)), v', .int .i64 (opE (D.readB di bn))]) ∧ FB w' k.X v' (opB (D.readB di bn)) ∧ Below W.heap.size W w') := fun W v hx hv => open_fb v _ k.X W hv hzl hx.lt
      simp only [rdF] at hc12
      clear HR hib hzl
      generalize D.readS di bn = d2 at *
      generalize D.readB di bn = zs at *
      by_cases her : D.reachE di bn = 0
      · rw [her] at hR H1
        rw [if_neg (by simp)] at hR
        rw [note_zero] at H1
        generalize opK zs = ok at *
        generalize opI zs = oi at *
        generalize opE zs = oe at *
        generalize opB zs = ob2 at *
        have ARM : True := trivial
        by_cases h1 : oe = 0
        · subst h1
          by_cases h2 : ok = kd
          · have h2' : (ok == kd) = true := by simpa using h2
            by_cases h3 : oi = i
            · subst h3
              subst h2
              rw [if_neg (by simp)] at hR
              have HR2 : Hid (R = rpR ok (i + 1) (bs.drop (i + 1)) (acc ++ ob2) d2) := hR
              clear hR h2'
              go_wp2_with (first
                | (go_at_call 105; refine H1.mono ?_; rintro e w1 ⟨v1, rfl, hv1, hx1, ho1⟩; have HX1 : Hid (Sx w1 k s d2 t f t' f' u sb db nx) := hx1; have HO1 : Hid (D.Off k.X wr w1) := ho1; have H2' := H2.out _ _ hx1 hv1; clear hx1 ho1 hv1 H1 H2)
                | (go_at_call 62; refine H2'.mono ?_; rintro e w2 ⟨v2, rfl, hv2, hb2⟩; have HV2 : Hid (FB w2 k.X v2 ob2) := hv2; have HB2 : Hid (Below w1.heap.size w1 w2) := hb2; obtain ⟨a2, c2, rfl, hn2, _, _, hbv2, _⟩ := hv2; have HBV2 : Hid (BV w2 a2 ob2) := hbv2; have HOw2 : Hid (Own w2 w.heap.size u8 acc) := (own_off HOw.out HO1.out HXl.out).below hb2; have hsz : w.heap.size ≤ w2.heap.size := (by have := HOf.out.size; have := HO1.out.size; have := hb2.size; omega); clear hb2 hbv2 H2')
                | (at_builtin; refine wp_app_bv rfl _ _ rfl w.heap.size _ acc ob2 rfl HOw2.out a2 c2 rfl HBV2.out hn2 (by have := HOL.out.1; omega) hsz ?_; intro v3 w3 ho3 hb3; have HO3 : Hid (Own w3 w.heap.size v3 (acc ++ ob2)) := ho3; have HB3 : Hid (Below w.heap.size w2 w3) := hb3; clear ho3 hb3)
                | fail)
              go_roundw
              case rel =>
                have ho2 : D.Off k.X w w2 := (HOf.out.trans HO1.out).trans (off_below HB2.out)
                exact ⟨i + 1, d2, acc ++ ob2, by omega, by go_num, by rw [List.length_append]; have := HOL.out.1; omega, HAA.out.append HOL.out.2, HR2.out, HX.out.keepB (HX1.out.below HB2.out) ho2 HB3.out, off_keep ho2 HB3.out, HO3.out⟩
              case measure => simp [iOf]; omega
            · have h3' : (oi == (i : Int)) = false := by simpa using h3
              rw [if_pos (Or.inr (Or.inr h3))] at hR
              have HR2 : Hid (R = (4, [], d2)) := hR
              clear hR
              go_wp2_with (first
                | (go_at_call 105; refine H1.mono ?_; rintro e w1 ⟨v1, rfl, hv1, hx1, ho1⟩; have HX1 : Hid (Sx w1 k s d2 t f t' f' u sb db nx) := hx1; have HO1 : Hid (D.Off k.X wr w1) := ho1; have H2' := H2.out _ _ hx1 hv1; clear hx1 ho1 hv1 H1 H2)
                | (go_at_call 62; refine H2'.mono ?_; rintro e w2 ⟨v2, rfl, hv2, hb2⟩; have HB2 : Hid (Below w1.heap.size w1 w2) := hb2; clear hb2 hv2 H2')
                | fail)
              exact bodyPost_ret (v := .tuple #[.slice none 0 0, .int .i64 4]) (by simp [results, Tryz.results53, go_sem]) rfl (by rw [HR2.out]; exact ⟨_, s, rfl, fb_nil _ _, HX1.out.below HB2.out, fun h => rfl, (HOf.out.trans HO1.out).trans (off_below HB2.out)⟩)
          · have h2' : (ok == kd) = false := by simpa using h2
            rw [if_pos (Or.inr (Or.inl h2))] at hR
            have HR2 : Hid (R = (4, [], d2)) := hR
            clear hR
            go_wp2_with (first
              | (go_at_call 105; refine H1.mono ?_; rintro e w1 ⟨v1, rfl, hv1, hx1, ho1⟩; have HX1 : Hid (Sx w1 k s d2 t f t' f' u sb db nx) := hx1; have HO1 : Hid (D.Off k.X wr w1) := ho1; have H2' := H2.out _ _ hx1 hv1; clear hx1 ho1 hv1 H1 H2)
              | (go_at_call 62; refine H2'.mono ?_; rintro e w2 ⟨v2, rfl, hv2, hb2⟩; have HB2 : Hid (Below w1.heap.size w1 w2) := hb2; clear hb2 hv2 H2')
              | fail)
            exact bodyPost_ret (v := .tuple #[.slice none 0 0, .int .i64 4]) (by simp [results, Tryz.results53, go_sem]) rfl (by rw [HR2.out]; exact ⟨_, s, rfl, fb_nil _ _, HX1.out.below HB2.out, fun h => rfl, (HOf.out.trans HO1.out).trans (off_below HB2.out)⟩)
        · have h1' : (oe == 0) = false := by simpa using h1
          rw [if_pos (Or.inl h1)] at hR
          have HR2 : Hid (R = (4, [], d2)) := hR
          clear hR
          go_wp2_with (first
            | (go_at_call 105; refine H1.mono ?_; rintro e w1 ⟨v1, rfl, hv1, hx1, ho1⟩; have HX1 : Hid (Sx w1 k s d2 t f t' f' u sb db nx) := hx1; have HO1 : Hid (D.Off k.X wr w1) := ho1; have H2' := H2.out _ _ hx1 hv1; clear hx1 ho1 hv1 H1 H2)
            | (go_at_call 62; refine H2'.mono ?_; rintro e w2 ⟨v2, rfl, hv2, hb2⟩; have HB2 : Hid (Below w1.heap.size w1 w2) := hb2; clear hb2 hv2 H2')
            | fail)
          exact bodyPost_ret (v := .tuple #[.slice none 0 0, .int .i64 4]) (by simp [results, Tryz.results53, go_sem]) rfl (by rw [HR2.out]; exact ⟨_, s, rfl, fb_nil _ _, HX1.out.below HB2.out, fun h => rfl, (HOf.out.trans HO1.out).trans (off_below HB2.out)⟩)
      · have her' : (D.reachE di bn == 0) = false := by simpa using her
        rw [if_pos her] at hR
        have HR2 : Hid (R = (D.reachE di bn, [], d2)) := hR
        clear hR H2
        generalize D.reachE di bn = er at *
        go_wp2_with (first
          | (go_at_call 105; refine H1.mono ?_; rintro e w1 ⟨v1, rfl, hv1, hx1, ho1⟩; have HX1 : Hid (Sx w1 k _ d2 t f t' f' u sb db nx) := hx1; have HO1 : Hid (D.Off k.X wr w1) := ho1; clear hx1 ho1 hv1 H1)
          | fail)
        exact bodyPost_ret (v := .tuple #[.slice none 0 0, .int .i64 er]) (by simp [results, Tryz.results53, go_sem]) rfl (by rw [HR2.out]; exact ⟨_, _, rfl, fb_nil _ _, HX1.out, fun h => absurd h her, HOf.out.trans HO1.out⟩)
    · obtain rfl : i = N := by omega
      have hR := HR.out
      rw [List.drop_of_length_le (by rw [← HN.out]; exact Nat.le_refl _)] at hR
      have HR2 : Hid (R = (0, acc, di)) := hR.trans (by unfold rpR; rfl)
      clear hR
      go_wp2
      exact bodyPost_ret (v := .tuple #[u8, .int .i64 0]) (by simp [results, Tryz.results53, go_sem]) rfl (by rw [HR2.out]; exact ⟨_, s, rfl, fb_own HOw.out HAA.out HXl.out, HXi.out, fun h => rfl, HOf.out⟩)
end Go.Proofs.YtelhlikeefpjnaaGreat
namespace Go.Proofs.YtelhlikeefpjnaaGreat
set_option maxRecDepth 20000
open Go.RowKit
set_option linter.unusedVariables false
set_option linter.unusedSimpArgs false
theorem Sx.keepN {w0 w2 w3 : World} {k : Pl} {s : SS} {d0 d : D.DS} {t f t' f' u : Value} {sb db nx : Nat} {e : Int} (h0 : Sx w0 k s d0 t f t' f' u sb db nx) (h2 : Sx w2 k (s.note e) d t f t' f' u sb db nx) (ho : D.Off k.X w0 w2) (hb : Below w0.heap.size w2 w3) : Sx w3 k (s.note e) d t f t' f' u sb db nx := by
  have hn : ∀ x, x < w0.heap.size → x ∉ List.range' w0.heap.size (w2.heap.size - w0.heap.size) := fun x hx hm => by have := (List.mem_range'_1.1 hm).1; omega
  have hl := h0.lt
  have ho3 := off_keep ho hb
  exact ⟨h2.dk.off (below_off hb) (hn _ (hl _ (by simp [Pl.X]))) (hn _ (hl _ (by simp [Pl.X]))) (hn _ (hl _ (by simp [Pl.X]))), h2.pn, (hb.block k.p h0.m.v.lt).trans h2.m.v, h0.m.ht.off ho3 (fun _ h => h), h0.m.hf.off ho3 (fun _ h => h), h0.m.ht'.off ho3 (fun _ h => h), h0.m.hf'.off ho3 (fun _ h => h), h0.m.hu.off ho3 (fun _ h => h), h0.m.hb.off ho3 (fun _ h => h)⟩
open Classical in
noncomputable def rrR (bl : Nat) (d : D.DS) : Int × R.RD × D.DS :=
  if D.reachE d 0 ≠ 0 then (D.reachE d 0, R.zero, D.readS d 0)
  else if D.reachE (D.readS d 0) 1 ≠ 0 then (D.reachE (D.readS d 0) 1, R.zero, D.readS (D.readS d 0) 1)
  else if (R.chS (D.readB d 0) (D.readB (D.readS d 0) 1) 2).e ≠ 0 then ((R.chS (D.readB d 0) (D.readB (D.readS d 0) 1) 2).e, R.zero, D.readS (D.readS d 0) 1)
  else if (R.chS (D.readB d 0) (D.readB (D.readS d 0) 1) 2).r.B ≠ (bl : Int) then (4, R.zero, D.readS (D.readS d 0) 1)
  else (0, (R.chS (D.readB d 0) (D.readB (D.readS d 0) 1) 2).r, D.readS (D.readS d 0) 1)
def RrPost (k : Pl) (s : SS) (w : World) (q : Int × R.RD × D.DS) (t f t' f' u : Value) (sb db nx : Nat) (e : Ending) (w' : World) : Prop :=
  ∃ ta tc ma mc s', e = .returned (.tuple #[R.rootV q.2.1 ta tc ma mc, .int .i64 q.1]) ∧ FI w' k.X (.slice ta q.2.1.T.length tc) q.2.1.T ∧ FI w' k.X (.slice ma q.2.1.M.length mc) q.2.1.M ∧ Sx w' k s' q.2.2 t f t' f' u sb db nx ∧ (q.1 = 0 → s' = s) ∧ D.Off k.X w w'
theorem zero_row {W : World} {xb : Nat} (h : W.heap[xb]? = some (.cells #[.int .i64 0, .int .i64 0, .int .i64 0, .int .i64 0, .slice none 0 0, .slice none 0 0] 94 (0, 0))) : W.cell? ⟨xb, 0, none⟩ = some (.int .i64 0) ∧ W.cell? ⟨xb, 1, none⟩ = some (.int .i64 0) ∧ W.cell? ⟨xb, 2, none⟩ = some (.int .i64 0) ∧ W.cell? ⟨xb, 3, none⟩ = some (.int .i64 0) ∧ W.cell? ⟨xb, 4, none⟩ = some (.slice none 0 0) ∧ W.cell? ⟨xb, 5, none⟩ = some (.slice none 0 0) ∧ ∀ i, W.frozen? ⟨xb, i, none⟩ = false := by
  obtain ⟨h0, h1, h2, h3, h4, h5⟩ := row6 h
  exact ⟨h0, h1, h2, h3, h4, h5, fun i => frozen_of_row _ _ _ _ _ h⟩
theorem set6 {W : World} {B xb : Nat} (h : B ≤ xb) (c0 c1 c2 c3 c4 c5 : Value) : Below B W ((((((W.setCell ⟨xb, 0, none⟩ c0).setCell ⟨xb, 1, none⟩ c1).setCell ⟨xb, 2, none⟩ c2).setCell ⟨xb, 3, none⟩ c3).setCell ⟨xb, 4, none⟩ c4).setCell ⟨xb, 5, none⟩ c5) :=
  ((((((Below.refl B W).setCell h _).setCell h _).setCell h _).setCell h _).setCell h _).setCell h _
theorem choose_fb (v u : Value) (xs ys : List Int) (X Y : List Nat) (w : World) (h : FB w X v xs) (h' : FB w X u ys) (hX : ∀ x ∈ Y, x < w.heap.size) :
    Calls Tryz.prog 111 #[v, u] w fun e w' => ∃ ta tc ma mc, e = .returned (.tuple #[R.rootV (R.chS xs ys 2).r ta tc ma mc, .int .i64 (R.chS xs ys 2).n, .int .i64 (R.chS xs ys 2).e]) ∧ FI w' Y (.slice ta (R.chS xs ys 2).r.T.length tc) (R.chS xs ys 2).r.T ∧ FI w' Y (.slice ma (R.chS xs ys 2).r.M.length mc) (R.chS xs ys 2).r.M ∧ Below w.heap.size w w' := by
  obtain ⟨a, cap, rfl, h0, h1, h2, h3, h4⟩ := h
  obtain ⟨b, cap2, rfl, g0, g1, g2, g3, g4⟩ := h'
  refine (R.choose_any a b cap cap2 xs ys w h3 g3 h1 g1 h2 g2).mono ?_
  rintro e w' ⟨ta, tc, ma, mc, rfl, hh⟩
  obtain ⟨hrt, hb, i1, i2⟩ := hh.out
  have q : ∀ {a : Option Addr} {zs : List Int}, R.IVh w.heap.size w' a zs → zs ≠ [] → ∀ b off, a = some ⟨b, off, none⟩ → b ∉ Y := by
    intro a zs hi hn b off e hx
    rcases hi with hi | ⟨b', off', e', hb', _⟩
    · exact hn hi
    · rw [e] at e'; simp at e'
      have := hX b hx
      omega
  exact ⟨ta, tc, ma, mc, rfl, ⟨_, _, rfl, hrt.tn, hrt.tl, hrt.th, hrt.t, q i1⟩, ⟨_, _, rfl, hrt.mn, hrt.ml, hrt.mh, hrt.m, q i2⟩, hb⟩
theorem fi_set6 {W : World} {X : List Nat} {v : Value} {zs : List Int} {n : Nat} (h : FI W (n :: X) v zs) (c0 c1 c2 c3 c4 c5 : Value) : FI ((((((W.setCell ⟨n, 0, none⟩ c0).setCell ⟨n, 1, none⟩ c1).setCell ⟨n, 2, none⟩ c2).setCell ⟨n, 3, none⟩ c3).setCell ⟨n, 4, none⟩ c4).setCell ⟨n, 5, none⟩ c5) X v zs :=
  (h.off (((((((D.Off.refl [n] W).setCell (p := ⟨n, 0, none⟩) (by simp) c0).setCell (p := ⟨n, 1, none⟩) (by simp) c1).setCell (p := ⟨n, 2, none⟩) (by simp) c2).setCell (p := ⟨n, 3, none⟩) (by simp) c3).setCell (p := ⟨n, 4, none⟩) (by simp) c4).setCell (p := ⟨n, 5, none⟩) (by simp) c5) (by intro z hz; simp at hz; subst hz; simp)).sub (fun z hz => List.mem_cons_of_mem _ hz)
theorem set6_size {W : World} {n : Nat} (c0 c1 c2 c3 c4 c5 : Value) : ((((((W.setCell ⟨n, 0, none⟩ c0).setCell ⟨n, 1, none⟩ c1).setCell ⟨n, 2, none⟩ c2).setCell ⟨n, 3, none⟩ c3).setCell ⟨n, 4, none⟩ c4).setCell ⟨n, 5, none⟩ c5).heap.size = W.heap.size := by simp [World.setCell]
theorem rr_zero {w w2 w3 : World} {k : Pl} {s : SS} {d d2 : D.DS} {t f t' f' u : Value} {sb db nx : Nat} {x er : Int} (h0 : Sx w k s d t f t' f' u sb db nx) (h2 : Sx w2 k (s.note x) d2 t f t' f' u sb db nx) (ho : D.Off k.X w w2) (hb : Below w.heap.size w2 w3) (he : er ≠ 0) : RrPost k s w (er, R.zero, d2) t f t' f' u sb db nx (.returned (.tuple #[.agg #[.int .i64 0, .int .i64 0, .int .i64 0, .int .i64 0, .slice none 0 0, .slice none 0 0], .int .i64 er])) w3 :=
  ⟨none, 0, none, 0, _, rfl, fi_nil _ _, fi_nil _ _, h0.keepN h2 ho hb, fun h => absurd h he, off_keep ho hb⟩
set_option maxHeartbeats 3200000 in
theorem rroot_s {k : Pl} {s : SS} {d : D.DS} {t f t' f' u : Value} {sb db nx : Nat} (w : World) (h : Sx w k s d t f t' f' u sb db nx) :
    Calls Tryz.prog 52 #[.pointer (some ⟨k.p, 0, none⟩)] w fun e w' => RrPost k s w (rrR s.bl d) t f t' f' u sb db nx e w' := by
  have HX : Hid (Sx w k s d t f t' f' u sb db nx) := h
  have HXl : Hid (∀ x ∈ k.X, x < w.heap.size) := h.lt
  have hplt := h.m.v.lt
  obtain ⟨w0, hw0⟩ : ∃ w0, w0 = w.alloc (.cells #[.int .i64 0, .int .i64 0, .int .i64 0, .int .i64 0, .slice none 0 0, .slice none 0 0] 94) := ⟨_, rfl⟩
  have HW0 : Hid (w0 = _) := hw0
  have HB0 : Hid (Below w.heap.size w w0) := by rw [hw0]; exact (Below.refl _ _).alloc (Nat.le_refl _) _
  have HRow : Hid (∀ W, D.Off k.X w0 W → W.heap[w.heap.size]? = some (.cells #[.int .i64 0, .int .i64 0, .int .i64 0, .int .i64 0, .slice none 0 0, .slice none 0 0] 94 (0, 0))) := by
    intro W hW
    refine (hW.block _ (by rw [hw0]; simp) (fun hm => by have := HXl.out _ hm; omega)).trans ?_
    rw [hw0]; exact heap_alloc_last _ _
  have hx0 := h.below HB0.out
  have c12 := h.m.v.cells.c12
  have H1 := read_sx 0 w0 hx0
  have H2 : Hid (∀ W, Sx W k s (D.readS d 0) t f t' f' u sb db nx → Calls Tryz.prog 105 #[.int .i64 1, .pointer (some ⟨db, 0, none⟩), .pointer (some ⟨nx, 0, none⟩)] W fun r w' => ∃ v, r = .returned (.tuple #[v, .int .i64 (D.reachE (D.readS d 0) 1)]) ∧ FB w' k.X v (D.readB (D.readS d 0) 1) ∧ Sx w' k (s.note (D.reachE (D.readS d 0) 1)) (D.readS (D.readS d 0) 1) t f t' f' u sb db nx ∧ D.Off k.X W w') := fun W hx => read_sx 1 W hx
  obtain ⟨Q, hQ⟩ : ∃ Q, Q = rrR s.bl d := ⟨_, rfl⟩
  rw [← hQ]
  unfold rrR at hQ
  have hpne : k.p ≠ w.heap.size := by omega
  simp only [rdF] at c12
  clear hx0 h hw0
  generalize hd1 : D.readS d 0 = d1 at *
  generalize hd2 : D.readS d1 1 = d2 at *
  generalize D.readB d 0 = z0 at *
  generalize D.readB d1 1 = z1 at *
  generalize hC : R.chS z0 z1 2 = C at *
  clear hd1 hd2
  have H3 : Hid (∀ W v u, FB W k.X v z0 → FB W k.X u z1 → (∀ x ∈ w.heap.size :: k.X, x < W.heap.size) → Calls Tryz.prog 111 #[v, u] W fun e w' => ∃ ta tc ma mc, e = .returned (.tuple #[R.rootV C.r ta tc ma mc, .int .i64 C.n, .int .i64 C.e]) ∧ FI w' (w.heap.size :: k.X) (.slice ta C.r.T.length tc) C.r.T ∧ FI w' (w.heap.size :: k.X) (.slice ma C.r.M.length mc) C.r.M ∧ Below W.heap.size W w') := fun W v u hv hu hx => by rw [← hC]; exact choose_fb v u z0 z1 k.X _ W hv hu hx
  clear hC
  obtain ⟨r, cn, ce⟩ := C
  by_cases e0 : D.reachE d 0 = 0
  · rw [e0] at H1 hQ
    rw [if_neg (by simp)] at hQ
    rw [note_zero] at H1
    by_cases e1 : D.reachE d1 1 = 0
    · rw [e1] at H2 hQ
      rw [if_neg (by simp)] at hQ
      rw [note_zero] at H2
      have HQ0 : Hid (Q = if ce ≠ 0 then (ce, R.zero, d2) else if r.B ≠ (s.bl : Int) then (4, R.zero, d2) else (0, r, d2)) := hQ
      clear hQ
      have HOw2 : Hid (∀ W, D.Off k.X w0 W → D.Off k.X w W) := fun W hW => (off_below HB0.out).trans hW
      by_cases hce : ce = 0
      · subst hce
        have HQ1 : Hid (Q = if r.B ≠ (s.bl : Int) then (4, R.zero, d2) else (0, r, d2)) := HQ0.out.trans (if_neg (by simp))
        clear HQ0
        go_enter Tryz.func52, Tryz.ntmps52
        go_wp2_with (first
          | (go_at_call_of 105 (0 : Int); rw [← HW0.out]; refine H1.mono ?_; rintro e w1 ⟨v1, rfl, hv1, hx1, ho1⟩; have HX1 : Hid (Sx w1 k s d1 t f t' f' u sb db nx) := hx1; have HO1 : Hid (D.Off k.X w0 w1) := ho1; have HV1 : Hid (FB w1 k.X v1 z0) := hv1; have c121 := hx1.m.v.cells.c12; simp only [rdF] at c121; clear hx1 ho1 hv1 H1 HW0)
          | (go_at_call_of 105 (1 : Int); refine (H2.out _ HX1.out).mono ?_; rintro e w2 ⟨v2, rfl, hv2, hx2, ho2⟩; have HX2 : Hid (Sx w2 k s d2 t f t' f' u sb db nx) := hx2; have HO2 : Hid (D.Off k.X w0 w2) := HO1.out.trans ho2; have HV2 : Hid (FB w2 k.X v2 z1) := hv2; have HV12 : Hid (FB w2 k.X v1 z0) := HV1.out.off ho2 (fun _ h => h);  clear hx2 ho2 hv2 H2)
          | (go_at_call 111; refine (H3.out _ _ _ HV12.out HV2.out (by intro x hx; rcases List.mem_cons.1 hx with rfl | hx; exact row_lt (HRow.out _ HO2.out); exact HX2.out.lt x hx)).mono ?_; rintro e w3 ⟨ta, tc, ma, mc, rfl, hf1, hf2, hb3⟩; have HF : Hid (FI w3 (w.heap.size :: k.X) (.slice ta r.T.length tc) r.T ∧ FI w3 (w.heap.size :: k.X) (.slice ma r.M.length mc) r.M) := ⟨hf1, hf2⟩; have HB23 : Hid (Below w2.heap.size w2 w3) := hb3; have hq1 : w.heap.size < w3.heap.size := Nat.lt_of_lt_of_le (row_lt (HRow.out _ HO2.out)) hb3.size; have hq2 : k.p < w3.heap.size := (by omega); have hq3 : k.p ≠ w3.heap.size := (by omega); have hq4 : w.heap.size ≠ w3.heap.size := (by omega); obtain ⟨y0, y1, y2, y3, y4, y5, yf⟩ := zero_row (row_grow hb3 (HRow.out _ HO2.out)); have yf0 := yf 0; have yf1 := yf 1; have yf2 := yf 2; have yf3 := yf 3; have yf4 := yf 4; have yf5 := yf 5; clear yf; have c103 := (HX2.out.below hb3).m.v.cells.c10; unfold R.rootV; clear hf1 hf2 hb3 H3)
          | fail)
        obtain ⟨w4, hw4⟩ : ∃ w4, w4 = w3.alloc (.cells #[.int .i64 r.E, .int .i64 r.B, .int .i64 r.N, .int .i64 r.S, .slice ta r.T.length tc, .slice ma r.M.length mc] 94) := ⟨_, rfl⟩
        rw [← hw4]
        have HB34 : Hid (Below w3.heap.size w3 w4) := by rw [hw4]; exact (Below.refl _ _).alloc (Nat.le_refl _) _
        have hrow4 : w4.heap[w3.heap.size]? = some (.cells #[.int .i64 r.E, .int .i64 r.B, .int .i64 r.N, .int .i64 r.S, .slice ta r.T.length tc, .slice ma r.M.length mc] 94 (0, 0)) := by rw [hw4]; exact heap_alloc_last _ _
        obtain ⟨r0, r1, r2, r3, r4, r5⟩ := row6 hrow4
        clear y0 y1 y2 y3 y4 y5 yf0 yf1 yf2 yf3 yf4 yf5 hw4
        obtain ⟨y0, y1, y2, y3, y4, y5, yf⟩ := zero_row (row_grow HB34.out (row_grow HB23.out (HRow.out _ HO2.out)))
        have yf0 := yf 0
        have yf1 := yf 1
        have yf2 := yf 2
        have yf3 := yf 3
        have yf4 := yf 4
        have yf5 := yf 5
        have c104 := cell_grow HB34.out c103
        have hn34 : w3.heap.size ≠ w.heap.size := by omega
        clear yf hrow4
        have HB24 : Hid (Below w.heap.size w2 w4) := (HB23.out.mono (by have := (HOw2.out _ HO2.out).size; omega)).trans (HB34.out.mono (by omega))
        refine wp_region_noPanic ?_
        refine name_ops ?_
        intro O QQ HO HQo
        refine wp_region_held_drew (S := (fun W => W.cell? ⟨w3.heap.size, 1, none⟩ = some (.int .i64 r.B) ∧ W.cell? ⟨k.p, 10, none⟩ = some (.int .i64 (s.bl : Int)))) (by kernel_rfl) ⟨r1, c104⟩ (fun hS => ?_)
        rw [show O.size = 7 by rw [HO.out]; rfl]
        refine wpAnyH_take (i := 0) (v := .pointer (some ⟨w3.heap.size, 1, none⟩)) (by rw [HO.out]; simp only [List.getElem?_toArray, List.getElem?_cons_succ, List.getElem?_cons_zero]; rfl) (by rw [HO.out]; kernel_rfl) (by rw [HO.out]; kernel_rfl) (by rw [HO.out]; kernel_rfl) (by rw [HQo.out]; exact fun _ _ _ h => h) (Or.inl ⟨by rfl, ?_⟩) hS ?_
        · intro w' hSw
          go_simp
        try simp only [Act.put, List.setIfInBounds_toArray, List.set_cons_zero, List.set_cons_succ]
        refine wpAnyH_take (i := 1) (v := .int .i64 r.B) (by rw [HO.out]; simp only [List.getElem?_toArray, List.getElem?_cons_succ, List.getElem?_cons_zero]; rfl) (by rw [HO.out]; kernel_rfl) (by rw [HO.out]; kernel_rfl) (by rw [HO.out]; kernel_rfl) (by rw [HQo.out]; exact fun _ _ _ h => h) (Or.inl ⟨by rfl, ?_⟩) hS ?_
        · intro w' hSw
          obtain ⟨q1, q2⟩ := hSw
          go_simp
        try simp only [Act.put, List.setIfInBounds_toArray, List.set_cons_zero, List.set_cons_succ]
        refine wpAnyH_take (i := 2) (v := .pointer (some ⟨k.p, 0, none⟩)) (by rw [HO.out]; simp only [List.getElem?_toArray, List.getElem?_cons_succ, List.getElem?_cons_zero]; rfl) (by rw [HO.out]; kernel_rfl) (by rw [HO.out]; kernel_rfl) (by rw [HO.out]; kernel_rfl) (by rw [HQo.out]; exact fun _ _ _ h => h) (Or.inl ⟨by rfl, ?_⟩) hS ?_
        · intro w' hSw
          go_simp
        try simp only [Act.put, List.setIfInBounds_toArray, List.set_cons_zero, List.set_cons_succ]
        refine wpAnyH_take (i := 3) (v := .pointer (some ⟨k.p, 0, none⟩)) (by rw [HO.out]; simp only [List.getElem?_toArray, List.getElem?_cons_succ, List.getElem?_cons_zero]; rfl) (by rw [HO.out]; kernel_rfl) (by rw [HO.out]; kernel_rfl) (by rw [HO.out]; kernel_rfl) (by rw [HQo.out]; exact fun _ _ _ h => h) (Or.inl ⟨by rfl, ?_⟩) hS ?_
        · intro w' hSw
          go_simp
        try simp only [Act.put, List.setIfInBounds_toArray, List.set_cons_zero, List.set_cons_succ]
        refine wpAnyH_take (i := 4) (v := .pointer (some ⟨k.p, 10, none⟩)) (by rw [HO.out]; simp only [List.getElem?_toArray, List.getElem?_cons_succ, List.getElem?_cons_zero]; rfl) (by rw [HO.out]; kernel_rfl) (by rw [HO.out]; kernel_rfl) (by rw [HO.out]; kernel_rfl) (by rw [HQo.out]; exact fun _ _ _ h => h) (Or.inl ⟨by rfl, ?_⟩) hS ?_
        · intro w' hSw
          go_simp
        try simp only [Act.put, List.setIfInBounds_toArray, List.set_cons_zero, List.set_cons_succ]
        refine wpAnyH_take (i := 5) (v := .int .i64 (s.bl : Int)) (by rw [HO.out]; simp only [List.getElem?_toArray, List.getElem?_cons_succ, List.getElem?_cons_zero]; rfl) (by rw [HO.out]; kernel_rfl) (by rw [HO.out]; kernel_rfl) (by rw [HO.out]; kernel_rfl) (by rw [HQo.out]; exact fun _ _ _ h => h) (Or.inl ⟨by rfl, ?_⟩) hS ?_
        · intro w' hSw
          obtain ⟨q1, q2⟩ := hSw
          go_simp
        try simp only [Act.put, List.setIfInBounds_toArray, List.set_cons_zero, List.set_cons_succ]
        refine wpAnyH_take (i := 6) (v := .bool (r.B != (s.bl : Int))) (by rw [HO.out]; simp only [List.getElem?_toArray, List.getElem?_cons_succ, List.getElem?_cons_zero]; rfl) (by rw [HO.out]; kernel_rfl) (by rw [HO.out]; kernel_rfl) (by rw [HO.out]; kernel_rfl) (by rw [HQo.out]; exact fun _ _ _ h => h) (Or.inl ⟨by rfl, ?_⟩) hS ?_
        · intro w' hSw
          go_simp
        try simp only [Act.put, List.setIfInBounds_toArray, List.set_cons_zero, List.set_cons_succ]
        refine wpAnyH_done (by rw [HO.out]; kernel_rfl) ?_ _
        rw [HQo.out]
        refine NoPanic.normal ?_
        by_cases hB : r.B = (s.bl : Int)
        · have hB' : (r.B == (s.bl : Int)) = true := by simpa using hB
          have hB2 : (r.B != (s.bl : Int)) = false := by simp [hB]
          have HQ : Hid (Q = (0, r, d2)) := HQ1.out.trans (if_neg (by simpa using hB))
          go_wp2_with fail
          exact bodyPost_ret (v := .tuple #[.agg #[.int .i64 r.E, .int .i64 r.B, .int .i64 r.N, .int .i64 r.S, .slice ta r.T.length tc, .slice ma r.M.length mc], .int .i64 0]) (by simp [results, Tryz.results52, go_sem, *]) rfl (by rw [HQ.out]; exact ⟨ta, tc, ma, mc, s, rfl, (fi_set6 (HF.out.1.below HB34.out) _ _ _ _ _ _).below (Below.refl _ _).drew, (fi_set6 (HF.out.2.below HB34.out) _ _ _ _ _ _).below (Below.refl _ _).drew, HX.out.keepB HX2.out (HOw2.out _ HO2.out) ((HB24.out.trans (set6 (Nat.le_refl _) _ _ _ _ _ _)).drew), fun _ => rfl, off_keep (HOw2.out _ HO2.out) ((HB24.out.trans (set6 (Nat.le_refl _) _ _ _ _ _ _)).drew)⟩)
        · have hB' : (r.B == (s.bl : Int)) = false := by simpa using hB
          have hB2 : (r.B != (s.bl : Int)) = true := by simp [hB]
          have HQ : Hid (Q = (4, R.zero, d2)) := HQ1.out.trans (if_pos hB)
          go_wp2_with fail
          exact bodyPost_ret (v := .tuple #[.agg #[.int .i64 0, .int .i64 0, .int .i64 0, .int .i64 0, .slice none 0 0, .slice none 0 0], .int .i64 4]) (by simp [results, Tryz.results52, go_sem, *]) rfl (by rw [HQ.out]; exact rr_zero HX.out (x := 0) (by rw [note_zero]; exact HX2.out) (HOw2.out _ HO2.out) ((HB24.out.trans (set6 (Nat.le_refl _) _ _ _ _ _ _)).drew) (by decide))
      · have hce' : (ce == 0) = false := by simpa using hce
        have HQ : Hid (Q = (ce, R.zero, d2)) := HQ0.out.trans (if_pos hce)
        clear HQ0
        go_enter Tryz.func52, Tryz.ntmps52
        go_wp2_with (first
          | (go_at_call_of 105 (0 : Int); rw [← HW0.out]; refine H1.mono ?_; rintro e w1 ⟨v1, rfl, hv1, hx1, ho1⟩; have HX1 : Hid (Sx w1 k s d1 t f t' f' u sb db nx) := hx1; have HO1 : Hid (D.Off k.X w0 w1) := ho1; have HV1 : Hid (FB w1 k.X v1 z0) := hv1; have c121 := hx1.m.v.cells.c12; simp only [rdF] at c121; clear hx1 ho1 hv1 H1 HW0)
          | (go_at_call_of 105 (1 : Int); refine (H2.out _ HX1.out).mono ?_; rintro e w2 ⟨v2, rfl, hv2, hx2, ho2⟩; have HX2 : Hid (Sx w2 k s d2 t f t' f' u sb db nx) := hx2; have HO2 : Hid (D.Off k.X w0 w2) := HO1.out.trans ho2; have HV2 : Hid (FB w2 k.X v2 z1) := hv2; have HV12 : Hid (FB w2 k.X v1 z0) := HV1.out.off ho2 (fun _ h => h);  clear hx2 ho2 hv2 H2)
          | (go_at_call 111; refine (H3.out _ _ _ HV12.out HV2.out (by intro x hx; rcases List.mem_cons.1 hx with rfl | hx; exact row_lt (HRow.out _ HO2.out); exact HX2.out.lt x hx)).mono ?_; rintro e w3 ⟨ta, tc, ma, mc, rfl, hf1, hf2, hb3⟩; have HF : Hid (FI w3 (w.heap.size :: k.X) (.slice ta r.T.length tc) r.T ∧ FI w3 (w.heap.size :: k.X) (.slice ma r.M.length mc) r.M) := ⟨hf1, hf2⟩; have HB23 : Hid (Below w2.heap.size w2 w3) := hb3; have hq1 : w.heap.size < w3.heap.size := Nat.lt_of_lt_of_le (row_lt (HRow.out _ HO2.out)) hb3.size; have hq2 : k.p < w3.heap.size := (by omega); have hq3 : k.p ≠ w3.heap.size := (by omega); have hq4 : w.heap.size ≠ w3.heap.size := (by omega); obtain ⟨y0, y1, y2, y3, y4, y5, yf⟩ := zero_row (row_grow hb3 (HRow.out _ HO2.out)); have yf0 := yf 0; have yf1 := yf 1; have yf2 := yf 2; have yf3 := yf 3; have yf4 := yf 4; have yf5 := yf 5; clear yf; have c103 := (HX2.out.below hb3).m.v.cells.c10; unfold R.rootV; clear hf1 hf2 hb3 H3)
          | fail)
        exact bodyPost_ret (v := .tuple #[.agg #[.int .i64 0, .int .i64 0, .int .i64 0, .int .i64 0, .slice none 0 0, .slice none 0 0], .int .i64 ce]) (by simp [results, Tryz.results52, go_sem, *]) rfl (by rw [HQ.out]; exact rr_zero HX.out (x := 0) (by rw [note_zero]; exact HX2.out) (HOw2.out _ HO2.out) (((HB23.out.mono (by have := HX2.out; have := (HOw2.out _ HO2.out).size; omega)).trans (set6 (Nat.le_refl _) _ _ _ _ _ _)).alloc (by rw [set6_size]; omega) _) hce)
    · rw [if_pos e1] at hQ
      have HQ : Hid (Q = (D.reachE d1 1, R.zero, d2)) := hQ
      have e1' : (D.reachE d1 1 == 0) = false := by simpa using e1
      generalize D.reachE d1 1 = er at *
      clear hQ H3
      go_enter Tryz.func52, Tryz.ntmps52
      go_wp2_with (first
        | (go_at_call_of 105 (0 : Int); rw [← HW0.out]; refine H1.mono ?_; rintro e w1 ⟨v1, rfl, hv1, hx1, ho1⟩; have HX1 : Hid (Sx w1 k s d1 t f t' f' u sb db nx) := hx1; have HO1 : Hid (D.Off k.X w0 w1) := ho1; have HV1 : Hid (FB w1 k.X v1 z0) := hv1; have c121 := hx1.m.v.cells.c12; simp only [rdF] at c121; clear hx1 ho1 hv1 H1 HW0)
        | (go_at_call_of 105 (1 : Int); refine (H2.out _ HX1.out).mono ?_; rintro e w2 ⟨v2, rfl, hv2, hx2, ho2⟩; have HX2 : Hid (Sx w2 k _ d2 t f t' f' u sb db nx) := hx2; have HO2 : Hid (D.Off k.X w0 w2) := HO1.out.trans ho2; have HV2 : Hid (FB w2 k.X v2 z1) := hv2; have HV12 : Hid (FB w2 k.X v1 z0) := HV1.out.off ho2 (fun _ h => h); obtain ⟨y0, y1, y2, y3, y4, y5, yf⟩ := zero_row (HRow.out _ (HO1.out.trans ho2)); have yf0 := yf 0; have yf1 := yf 1; have yf2 := yf 2; have yf3 := yf 3; have yf4 := yf 4; have yf5 := yf 5; clear yf; clear hx2 ho2 hv2 H2)
        | fail)
      exact bodyPost_ret (v := .tuple #[.agg #[.int .i64 0, .int .i64 0, .int .i64 0, .int .i64 0, .slice none 0 0, .slice none 0 0], .int .i64 er]) (by simp [results, Tryz.results52, go_sem, *]) rfl (by rw [HQ.out]; exact rr_zero HX.out HX2.out ((off_below HB0.out).trans HO2.out) (set6 (Nat.le_refl _) _ _ _ _ _ _) e1)
  · rw [if_pos e0] at hQ
    have HQ : Hid (Q = (D.reachE d 0, R.zero, d1)) := hQ
    have e0' : (D.reachE d 0 == 0) = false := by simpa using e0
    generalize D.reachE d 0 = er at *
    clear hQ H2 H3
    go_enter Tryz.func52, Tryz.ntmps52
    go_wp2_with (first
      | (go_at_call_of 105 (0 : Int); rw [← HW0.out]; refine H1.mono ?_; rintro e w1 ⟨v1, rfl, hv1, hx1, ho1⟩; have HX1 : Hid (Sx w1 k _ d1 t f t' f' u sb db nx) := hx1; have HO1 : Hid (D.Off k.X w0 w1) := ho1; have HV1 : Hid (FB w1 k.X v1 z0) := hv1; obtain ⟨y0, y1, y2, y3, y4, y5, yf⟩ := zero_row (HRow.out _ ho1); have yf0 := yf 0; have yf1 := yf 1; have yf2 := yf 2; have yf3 := yf 3; have yf4 := yf 4; have yf5 := yf 5; clear yf; clear hx1 ho1 hv1 H1 HW0)
      | fail)
    exact bodyPost_ret (v := .tuple #[.agg #[.int .i64 0, .int .i64 0, .int .i64 0, .int .i64 0, .slice none 0 0, .slice none 0 0], .int .i64 er]) (by simp [results, Tryz.results52, go_sem, *]) rfl (by rw [HQ.out]; exact rr_zero HX.out HX1.out ((off_below HB0.out).trans HO1.out) (set6 (Nat.le_refl _) _ _ _ _ _ _) e0)
end Go.Proofs.YtelhlikeefpjnaaGreat
namespace Go.Proofs.YtelhlikeefpjnaaGreat
set_option maxRecDepth 20000
open Go.RowKit
set_option linter.unusedVariables false
set_option linter.unusedSimpArgs false
theorem used3g (bl : Nat) (hbl : bl ≤ 4096) (h : Nat) (a b c : Option Addr) (ca cb cc : Nat) (A E C : List Int) (X : List Nat) (w : World) (hX : ∀ x ∈ X, x < w.heap.size) (h0 : w.cell? ⟨h, 0, none⟩ = some (.slice a A.length ca)) (h1 : w.cell? ⟨h, 1, none⟩ = some (.slice b E.length cb)) (h2 : w.cell? ⟨h, 2, none⟩ = some (.slice c C.length cc))
    (ha : IV w a A) (hb : IV w b E) (hc : IV w c C) (na : a = none → ca = 0) (nb : b = none → cb = 0) (nc : c = none → cc = 0) (la : A.length ≤ 5000) (lb : E.length ≤ 5000) (lc : C.length ≤ 5000) :
    Calls Tryz.prog 110 #[.int .i64 bl, .slice (some ⟨h, 0, none⟩) 3 3] w fun e w' => UsedPost X w (onceR bl (rootsS bl) (A ++ E ++ C)) e w' := by
  have hp : PartsI w h 0 [A, E, C] := by
    intro i hi
    have : i = 0 ∨ i = 1 ∨ i = 2 := by simp at hi; omega
    rcases this with rfl | rfl | rfl
    · exact ⟨a, ca, h0, na, ha, by show A.length ≤ _; omega⟩
    · exact ⟨b, cb, h1, nb, hb, by show E.length ≤ _; omega⟩
    · exact ⟨c, cc, h2, nc, hc, by show C.length ≤ _; omega⟩
  have hfl : [A, E, C].flatten = A ++ E ++ C := by simp
  exact used_any bl hbl (.slice (some ⟨h, 0, none⟩) 3 3) (A ++ E ++ C) X w hX (by simp; omega) (fun W hW => by
    have hcc := concatI_any h 0 3 3 [A, E, C] W rfl (by omega) (hp.below (cell_lt h0) hW) (Nat.lt_of_lt_of_le (cell_lt h0) hW.size) (by rw [hfl]; simp; omega)
    rw [hfl] at hcc
    refine hcc.mono ?_
    rintro e w' ⟨v, rfl, ho, hb'⟩
    exact ⟨v, rfl, fi_own ho (by simp), hb'⟩)
theorem unw_fb (v : Value) (zs : List Int) (X : List Nat) (w : World) (h : FB w X v zs) (hz : zs.length ≤ 10000) (hX : ∀ x ∈ X, x < w.heap.size) :
    Calls Tryz.prog 112 #[v] w fun e w' => ∃ v', e = .returned (.tuple #[v', .int .i64 (unE zs)]) ∧ FI w' X v' (unL zs) ∧ Below w.heap.size w w' := by
  obtain ⟨a, cap, rfl, h0, h1, h2, h3, h4⟩ := h
  refine (unw_any a cap zs w h3 h0 hz).mono ?_
  rintro e w' ⟨v, rfl, ho, hb⟩
  exact ⟨v, rfl, fi_own ho hX, hb⟩
theorem beq_fb (v u : Value) (xs ys : List Int) (X : List Nat) (w : World) (h : FB w X v xs) (h' : FB w X u ys) : Calls Tryz.prog 114 #[v, u] w fun e w' => e = .returned (.bool (decide (xs = ys))) ∧ Below w.heap.size w w' := by
  obtain ⟨a, cap, rfl, h0, h1, h2, h3, h4⟩ := h
  obtain ⟨b, cap2, rfl, g0, g1, g2, g3, g4⟩ := h'
  exact beq_any a b cap cap2 xs ys w h3 g3 h0 g0
def takeB (bl : Nat) (r : R.RD) (ws set : List Int) : Bool :=
  decide (unE ws = 0) && decide (((unL ws).length : Int) = r.N) && someB (unL ws) r.N && someB (unL ws) r.S && decide (onceR bl (rootsS bl) (r.T ++ r.M ++ unL ws) = some set)
def takeR (s : SS) (d : D.DS) (r : R.RD) (ws set : List Int) : Int × SS × D.DS := if takeB s.bl r ws set then (0, s.hold r.E r.S (unL ws) set, d) else (4, s, d)
set_option maxHeartbeats 3200000 in
theorem take_s {k : Pl} {s : SS} {d : D.DS} {t f t' f' u : Value} {sb db nx : Nat} (r : R.RD) (ta ma : Option Addr) (tc mc : Nat) (wv mv : Value) (ws set : List Int) (w : World) (h : Sx w k s d t f t' f' u sb db nx) (hbl : s.bl ≤ 4096) (hr : r.Ok) (ht : FI w k.X (.slice ta r.T.length tc) r.T) (hm : FI w k.X (.slice ma r.M.length mc) r.M) (hw : FB w k.X wv ws) (hv : FB w k.X mv set) (hwl : ws.length ≤ 10000) :
    Calls Tryz.prog 54 #[.pointer (some ⟨k.p, 0, none⟩), R.rootV r ta tc ma mc, wv, mv] w fun e w' => Done k w (takeR s d r ws set) e w' := by
  have n0 := hr.n0
  have n1 := hr.n1
  have s0 := hr.s0
  have s1 := hr.s1
  have t1 := hr.t1
  have m1 := hr.m1
  obtain ⟨w0, hw0⟩ : ∃ w0, w0 = w.alloc (.cells #[.int .i64 r.E, .int .i64 r.B, .int .i64 r.N, .int .i64 r.S, .slice ta r.T.length tc, .slice ma r.M.length mc] 94) := ⟨_, rfl⟩
  have HW0 : Hid (w0 = _) := hw0
  have HB0 : Hid (Below w.heap.size w w0) := by rw [hw0]; exact (Below.refl _ _).alloc (Nat.le_refl _) _
  have hrow : w0.heap[w.heap.size]? = some (.cells #[.int .i64 r.E, .int .i64 r.B, .int .i64 r.N, .int .i64 r.S, .slice ta r.T.length tc, .slice ma r.M.length mc] 94 (0, 0)) := by rw [hw0]; exact heap_alloc_last _ _
  have HRow : Hid (∀ W, Below w0.heap.size w0 W → W.heap[w.heap.size]? = some (.cells #[.int .i64 r.E, .int .i64 r.B, .int .i64 r.N, .int .i64 r.S, .slice ta r.T.length tc, .slice ma r.M.length mc] 94 (0, 0))) := fun W hW => row_grow hW hrow
  have HXB : Hid (∀ W, Below w.heap.size w W → Sx W k s d t f t' f' u sb db nx) := fun W hW => h.below hW
  have H1 := unw_fb wv ws k.X w0 (hw.below HB0.out) hwl (h.below HB0.out).lt
  have HV : Hid (∀ W, Below w.heap.size w W → FB W k.X mv set ∧ FI W k.X (.slice ta r.T.length tc) r.T ∧ FI W k.X (.slice ma r.M.length mc) r.M) := fun W hW => ⟨hv.below hW, ht.below hW, hm.below hW⟩
  obtain ⟨RR, hRR⟩ : ∃ RR, RR = takeR s d r ws set := ⟨_, rfl⟩
  rw [← hRR]
  unfold takeR takeB at hRR
  generalize unL ws = tb at *
  generalize unE ws = ue at *
  clear h ht hm hw hv hw0 hrow
  unfold Done R.rootV
  by_cases e1 : ue = 0
  · subst e1
    by_cases e2 : (tb.length : Int) = r.N
    · have e2' : ((tb.length : Int) == r.N) = true := by simpa using e2
      have e2b : ((tb.length : Int) != r.N) = false := by simp [e2]
      have HS1 : Hid (∀ W v, FI W k.X v tb → Calls Tryz.prog 113 #[v, .int .i64 r.N] W fun e w' => e = .returned (.bool (someB tb r.N)) ∧ w' = W) := fun W v hv => some_any v tb r.N k.X W hv n0 (by omega) (by omega)
      have HS2 : Hid (∀ W v, FI W k.X v tb → Calls Tryz.prog 113 #[v, .int .i64 r.S] W fun e w' => e = .returned (.bool (someB tb r.S)) ∧ w' = W) := fun W v hv => some_any v tb r.S k.X W hv s0 (by omega) (by omega)
      have HE2 : Hid ((tb.length : Int) = r.N) := e2
      cases b1 : someB tb r.N
      · have HER : Hid (RR = (4, s, d)) := hRR.trans (if_neg (by simp [b1]))
        rw [b1] at HS1
        clear hRR e2 HS2
        go_enter Tryz.func54, Tryz.ntmps54
        go_wp2_with (first
          | (go_at_call 112; rw [← HW0.out]; refine H1.mono ?_; rintro e w1 ⟨tv, rfl, htv, hb1⟩; have HTV : Hid (FI w1 k.X tv tb) := htv; obtain ⟨va, vc, rfl, _⟩ := htv; have HB01 : Hid (Below w0.heap.size w0 w1) := hb1; have HB1 : Hid (Below w.heap.size w w1) := HB0.out.trans (hb1.mono HB0.out.size); obtain ⟨r0, r1, r2, r3, r4, r5⟩ := row6 (HRow.out _ hb1); clear hb1 H1 HW0)
          | (go_at_call 113; refine (HS1.out _ _ HTV.out).mono ?_; rintro e w' ⟨rfl, hw⟩; obtain rfl := hw.symm; clear HS1)
          | fail)
        go_ret
        rw [HER.out]
        exact ⟨rfl, ⟨_, _, _, _, _, _, _, _, HXB.out _ HB1.out⟩, off_below HB1.out⟩
      · rw [b1] at HS1
        cases b2 : someB tb r.S
        · have HER : Hid (RR = (4, s, d)) := hRR.trans (if_neg (by simp [b2]))
          rw [b2] at HS2
          clear hRR e2
          go_enter Tryz.func54, Tryz.ntmps54
          go_wp2_with (first
            | (go_at_call 112; rw [← HW0.out]; refine H1.mono ?_; rintro e w1 ⟨tv, rfl, htv, hb1⟩; have HTV : Hid (FI w1 k.X tv tb) := htv; obtain ⟨va, vc, rfl, _⟩ := htv; have HB01 : Hid (Below w0.heap.size w0 w1) := hb1; have HB1 : Hid (Below w.heap.size w w1) := HB0.out.trans (hb1.mono HB0.out.size); obtain ⟨r0, r1, r2, r3, r4, r5⟩ := row6 (HRow.out _ hb1); clear hb1 H1 HW0)
            | (go_at_call 113; refine (HS1.out _ _ HTV.out).mono ?_; rintro e w' ⟨rfl, hw⟩; obtain rfl := hw.symm; clear HS1)
            | (go_at_call 113; refine (HS2.out _ _ HTV.out).mono ?_; rintro e w' ⟨rfl, hw⟩; obtain rfl := hw.symm; clear HS2)
            | fail)
          go_ret
          rw [HER.out]
          exact ⟨rfl, ⟨_, _, _, _, _, _, _, _, HXB.out _ HB1.out⟩, off_below HB1.out⟩
        · rw [b2] at HS2
          have HRR : Hid (RR = if onceR s.bl (rootsS s.bl) (r.T ++ r.M ++ tb) = some set then (0, s.hold r.E r.S tb set, d) else (4, s, d)) := by
            refine hRR.trans ?_
            rw [b1, b2]
            generalize onceR s.bl (rootsS s.bl) (r.T ++ r.M ++ tb) = o
            by_cases hq : o = some set
            · rw [if_pos (by simp [e2, hq]), if_pos hq]
            · rw [if_neg (by simp [hq]), if_neg hq]
          have htl : tb.length ≤ 3000 := by omega
          clear hRR e2
          go_enter Tryz.func54, Tryz.ntmps54
          go_wp2_with (first
            | (go_at_call 112; rw [← HW0.out]; refine H1.mono ?_; rintro e w1 ⟨tv, rfl, htv, hb1⟩; have HTV : Hid (FI w1 k.X tv tb) := htv; obtain ⟨va, vc, rfl, _⟩ := htv; have HB01 : Hid (Below w0.heap.size w0 w1) := hb1; have HB1 : Hid (Below w.heap.size w w1) := HB0.out.trans (hb1.mono HB0.out.size); obtain ⟨r0, r1, r2, r3, r4, r5⟩ := row6 (HRow.out _ hb1); clear hb1 H1 HW0)
            | (go_at_call 113; refine (HS1.out _ _ HTV.out).mono ?_; rintro e w' ⟨rfl, hw⟩; obtain rfl := hw.symm; clear HS1)
            | (go_at_call 113; refine (HS2.out _ _ HTV.out).mono ?_; rintro e w' ⟨rfl, hw⟩; obtain rfl := hw.symm; clear HS2)
            | fail)
          have c10 := (HXB.out _ HB1.out).m.v.cells.c10
          obtain ⟨w2, hw2⟩ : ∃ w2, w2 = (w1.alloc (.cells #[.slice ta r.T.length tc, .slice ma r.M.length mc, .slice va tb.length vc] 40)).drew := ⟨_, rfl⟩
          have HW2 : Hid (w2 = _) := hw2
          have HB12 : Hid (Below w1.heap.size w1 w2) := by rw [hw2]; exact ((Below.refl _ _).alloc (Nat.le_refl _) _).drew
          have HB2 : Hid (Below w.heap.size w w2) := HB1.out.trans (HB12.out.mono HB1.out.size)
          have HU : Hid (Calls Tryz.prog 110 #[.int .i64 (s.bl : Int), .slice (some ⟨w1.heap.size, 0, none⟩) 3 3] w2 fun e w' => UsedPost k.X w2 (onceR s.bl (rootsS s.bl) (r.T ++ r.M ++ tb)) e w') := by
            obtain ⟨_, ⟨xa, xc, xe, xn, _, _, xi, _⟩, ⟨ya, yc, ye, yn, _, _, yi, _⟩⟩ := HV.out _ HB2.out
            obtain ⟨za, zc, ze, zn, _, _, zi, _⟩ := HTV.out.below HB12.out
            simp at xe ye ze
            obtain ⟨rfl, rfl⟩ := xe
            obtain ⟨rfl, rfl⟩ := ye
            obtain ⟨rfl, rfl⟩ := ze
            exact used3g s.bl hbl w1.heap.size ta ma va tc mc vc r.T r.M tb k.X w2 (HXB.out _ HB2.out).lt (by rw [hw2]; go_simp) (by rw [hw2]; go_simp) (by rw [hw2]; go_simp) xi yi zi xn yn zn (by omega) (by omega) (by omega)
          clear hw2
          cases ho : onceR s.bl (rootsS s.bl) (r.T ++ r.M ++ tb) with
          | none =>
            rw [ho] at HU
            have HER : Hid (RR = (4, s, d)) := HRR.out.trans (if_neg (by rw [ho]; simp))
            clear HRR ho
            refine wp_region_noPanic ?_
            refine name_ops ?_
            intro O QQ HO HQ
            refine wp_region_held_drew (S := (fun W => W.cell? ⟨k.p, 10, none⟩ = some (.int .i64 (s.bl : Int)) ∧ W.cell? ⟨w.heap.size, 4, none⟩ = some (.slice ta r.T.length tc) ∧ W.cell? ⟨w.heap.size, 5, none⟩ = some (.slice ma r.M.length mc))) (by kernel_rfl) ⟨c10, r4, r5⟩ (fun hS => ?_)
            rw [show O.size = 16 by rw [HO.out]; rfl]
            refine wpAnyH_take (i := 0) (v := .pointer (some ⟨k.p, 0, none⟩)) (by rw [HO.out]; simp only [List.getElem?_toArray, List.getElem?_cons_succ, List.getElem?_cons_zero]; rfl) (by rw [HO.out]; kernel_rfl) (by rw [HO.out]; kernel_rfl) (by rw [HO.out]; kernel_rfl) (by rw [HQ.out]; exact fun _ _ _ h => h) (Or.inl ⟨by rfl, ?_⟩) hS ?_
            · intro w' hSw
              go_simp
            try simp only [Act.put, List.setIfInBounds_toArray, List.set_cons_zero, List.set_cons_succ]
            refine wpAnyH_take (i := 1) (v := .pointer (some ⟨k.p, 0, none⟩)) (by rw [HO.out]; simp only [List.getElem?_toArray, List.getElem?_cons_succ, List.getElem?_cons_zero]; rfl) (by rw [HO.out]; kernel_rfl) (by rw [HO.out]; kernel_rfl) (by rw [HO.out]; kernel_rfl) (by rw [HQ.out]; exact fun _ _ _ h => h) (Or.inl ⟨by rfl, ?_⟩) hS ?_
            · intro w' hSw
              go_simp
            try simp only [Act.put, List.setIfInBounds_toArray, List.set_cons_zero, List.set_cons_succ]
            refine wpAnyH_take (i := 2) (v := .pointer (some ⟨k.p, 10, none⟩)) (by rw [HO.out]; simp only [List.getElem?_toArray, List.getElem?_cons_succ, List.getElem?_cons_zero]; rfl) (by rw [HO.out]; kernel_rfl) (by rw [HO.out]; kernel_rfl) (by rw [HO.out]; kernel_rfl) (by rw [HQ.out]; exact fun _ _ _ h => h) (Or.inl ⟨by rfl, ?_⟩) hS ?_
            · intro w' hSw
              go_simp
            try simp only [Act.put, List.setIfInBounds_toArray, List.set_cons_zero, List.set_cons_succ]
            refine wpAnyH_take (i := 3) (v := .int .i64 (s.bl : Int)) (by rw [HO.out]; simp only [List.getElem?_toArray, List.getElem?_cons_succ, List.getElem?_cons_zero]; rfl) (by rw [HO.out]; kernel_rfl) (by rw [HO.out]; kernel_rfl) (by rw [HO.out]; kernel_rfl) (by rw [HQ.out]; exact fun _ _ _ h => h) (Or.inl ⟨by rfl, ?_⟩) hS ?_
            · intro w' hSw
              obtain ⟨q1, q2, q3⟩ := hSw
              go_simp
            try simp only [Act.put, List.setIfInBounds_toArray, List.set_cons_zero, List.set_cons_succ]
            refine wpAnyH_take (i := 4) (v := .pointer (some ⟨w.heap.size, 4, none⟩)) (by rw [HO.out]; simp only [List.getElem?_toArray, List.getElem?_cons_succ, List.getElem?_cons_zero]; rfl) (by rw [HO.out]; kernel_rfl) (by rw [HO.out]; kernel_rfl) (by rw [HO.out]; kernel_rfl) (by rw [HQ.out]; exact fun _ _ _ h => h) (Or.inl ⟨by rfl, ?_⟩) hS ?_
            · intro w' hSw
              go_simp
            try simp only [Act.put, List.setIfInBounds_toArray, List.set_cons_zero, List.set_cons_succ]
            refine wpAnyH_take (i := 5) (v := .slice ta r.T.length tc) (by rw [HO.out]; simp only [List.getElem?_toArray, List.getElem?_cons_succ, List.getElem?_cons_zero]; rfl) (by rw [HO.out]; kernel_rfl) (by rw [HO.out]; kernel_rfl) (by rw [HO.out]; kernel_rfl) (by rw [HQ.out]; exact fun _ _ _ h => h) (Or.inl ⟨by rfl, ?_⟩) hS ?_
            · intro w' hSw
              obtain ⟨q1, q2, q3⟩ := hSw
              go_simp
            try simp only [Act.put, List.setIfInBounds_toArray, List.set_cons_zero, List.set_cons_succ]
            refine wpAnyH_take (i := 6) (v := .pointer (some ⟨w.heap.size, 5, none⟩)) (by rw [HO.out]; simp only [List.getElem?_toArray, List.getElem?_cons_succ, List.getElem?_cons_zero]; rfl) (by rw [HO.out]; kernel_rfl) (by rw [HO.out]; kernel_rfl) (by rw [HO.out]; kernel_rfl) (by rw [HQ.out]; exact fun _ _ _ h => h) (Or.inl ⟨by rfl, ?_⟩) hS ?_
            · intro w' hSw
              go_simp
            try simp only [Act.put, List.setIfInBounds_toArray, List.set_cons_zero, List.set_cons_succ]
            refine wpAnyH_take (i := 7) (v := .slice ma r.M.length mc) (by rw [HO.out]; simp only [List.getElem?_toArray, List.getElem?_cons_succ, List.getElem?_cons_zero]; rfl) (by rw [HO.out]; kernel_rfl) (by rw [HO.out]; kernel_rfl) (by rw [HO.out]; kernel_rfl) (by rw [HQ.out]; exact fun _ _ _ h => h) (Or.inl ⟨by rfl, ?_⟩) hS ?_
            · intro w' hSw
              obtain ⟨q1, q2, q3⟩ := hSw
              go_simp
            try simp only [Act.put, List.setIfInBounds_toArray, List.set_cons_zero, List.set_cons_succ]
            refine wpAnyH_take (i := 8) (v := .slice va tb.length vc) (by rw [HO.out]; simp only [List.getElem?_toArray, List.getElem?_cons_succ, List.getElem?_cons_zero]; rfl) (by rw [HO.out]; kernel_rfl) (by rw [HO.out]; kernel_rfl) (by rw [HO.out]; kernel_rfl) (by rw [HQ.out]; exact fun _ _ _ h => h) (Or.inl ⟨by rfl, ?_⟩) hS ?_
            · intro w' hSw
              go_simp
            try simp only [Act.put, List.setIfInBounds_toArray, List.set_cons_zero, List.set_cons_succ]
            refine wpAnyH_ready (rs := [9]) (by rw [HO.out]; kernel_rfl) (by simp) ?_
            refine AllReadyH.cons (o := _) (by rw [HO.out]; simp only [List.getElem?_toArray, List.getElem?_cons_succ, List.getElem?_cons_zero]; rfl) (fun K9 hK9 => ?_) AllReadyH.nil
            go_simp
            rw [← HW2.out]
            refine hK9.out _ _ ⟨cell_grow HB12.out c10, cell_grow HB12.out r4, cell_grow HB12.out r5⟩ (fun hS1 => ?_)
            try simp only [Act.put, List.setIfInBounds_toArray, List.set_cons_zero, List.set_cons_succ]
            refine wpAnyH_ready (rs := [10]) (by rw [HO.out]; kernel_rfl) (by simp) ?_
            refine AllReadyH.cons (o := _) (by rw [HO.out]; simp only [List.getElem?_toArray, List.getElem?_cons_succ, List.getElem?_cons_zero]; rfl) (fun K10 hK10 => ?_) AllReadyH.nil
            go_simp
            refine HU.out.mono ?_
            rintro e w3 ⟨uv, rfl, huv, hb3⟩
            have HUV : Hid (FB w3 k.X uv _) := huv
            have HB23 : Hid (Below w2.heap.size w2 w3) := hb3
            have HB13 : Hid (Below w1.heap.size w1 w3) := HB12.out.trans (hb3.mono HB12.out.size)
            have HB3 : Hid (Below w.heap.size w w3) := HB2.out.trans (hb3.mono HB2.out.size)
            refine hK10.out _ _ ⟨cell_grow HB13.out c10, cell_grow HB13.out r4, cell_grow HB13.out r5⟩ (fun hS2 => ?_)
            clear huv hb3 HU HW2
            try simp only [Act.put, List.setIfInBounds_toArray, List.set_cons_zero, List.set_cons_succ]
            refine wpAnyH_take (i := 11) (v := .tuple #[uv, .bool false]) (by rw [HO.out]; simp only [List.getElem?_toArray, List.getElem?_cons_succ, List.getElem?_cons_zero]; rfl) (by rw [HO.out]; kernel_rfl) (by rw [HO.out]; kernel_rfl) (by rw [HO.out]; kernel_rfl) (by rw [HQ.out]; exact fun _ _ _ h => h) (Or.inl ⟨by rfl, ?_⟩) hS2 ?_
            · intro w' hSw
              go_simp
            try simp only [Act.put, List.setIfInBounds_toArray, List.set_cons_zero, List.set_cons_succ]
            refine wpAnyH_take (i := 12) (v := uv) (by rw [HO.out]; simp only [List.getElem?_toArray, List.getElem?_cons_succ, List.getElem?_cons_zero]; rfl) (by rw [HO.out]; kernel_rfl) (by rw [HO.out]; kernel_rfl) (by rw [HO.out]; kernel_rfl) (by rw [HQ.out]; exact fun _ _ _ h => h) (Or.inl ⟨by rfl, ?_⟩) hS2 ?_
            · intro w' hSw
              go_simp
            try simp only [Act.put, List.setIfInBounds_toArray, List.set_cons_zero, List.set_cons_succ]
            refine wpAnyH_take (i := 13) (v := .bool false) (by rw [HO.out]; simp only [List.getElem?_toArray, List.getElem?_cons_succ, List.getElem?_cons_zero]; rfl) (by rw [HO.out]; kernel_rfl) (by rw [HO.out]; kernel_rfl) (by rw [HO.out]; kernel_rfl) (by rw [HQ.out]; exact fun _ _ _ h => h) (Or.inl ⟨by rfl, ?_⟩) hS2 ?_
            · intro w' hSw
              go_simp
            try simp only [Act.put, List.setIfInBounds_toArray, List.set_cons_zero, List.set_cons_succ]
            refine wpAnyH_take (i := 14) (v := uv) (by rw [HO.out]; simp only [List.getElem?_toArray, List.getElem?_cons_succ, List.getElem?_cons_zero]; rfl) (by rw [HO.out]; kernel_rfl) (by rw [HO.out]; kernel_rfl) (by rw [HO.out]; kernel_rfl) (by rw [HQ.out]; exact fun _ _ _ h => h) (Or.inl ⟨by rfl, ?_⟩) hS2 ?_
            · intro w' hSw
              go_simp
            try simp only [Act.put, List.setIfInBounds_toArray, List.set_cons_zero, List.set_cons_succ]
            refine wpAnyH_take (i := 15) (v := .bool false) (by rw [HO.out]; simp only [List.getElem?_toArray, List.getElem?_cons_succ, List.getElem?_cons_zero]; rfl) (by rw [HO.out]; kernel_rfl) (by rw [HO.out]; kernel_rfl) (by rw [HO.out]; kernel_rfl) (by rw [HQ.out]; exact fun _ _ _ h => h) (Or.inl ⟨by rfl, ?_⟩) hS2 ?_
            · intro w' hSw
              go_simp
            try simp only [Act.put, List.setIfInBounds_toArray, List.set_cons_zero, List.set_cons_succ]
            refine wpAnyH_done (by rw [HO.out]; kernel_rfl) ?_ _
            rw [HQ.out]
            refine NoPanic.normal ?_
            go_wp2_with fail
            go_ret
            rw [HER.out]
            exact ⟨rfl, ⟨_, _, _, _, _, _, _, _, HXB.out _ HB3.out⟩, off_below HB3.out⟩
          | some us =>
            rw [ho] at HU
            by_cases hus : us = set
            · subst hus
              have HER : Hid (RR = (0, s.hold r.E r.S tb us, d)) := HRR.out.trans (if_pos ho)
              clear HRR ho
              refine wp_region_noPanic ?_
              refine name_ops ?_
              intro O QQ HO HQ
              refine wp_region_held_drew (S := (fun W => W.cell? ⟨k.p, 10, none⟩ = some (.int .i64 (s.bl : Int)) ∧ W.cell? ⟨w.heap.size, 4, none⟩ = some (.slice ta r.T.length tc) ∧ W.cell? ⟨w.heap.size, 5, none⟩ = some (.slice ma r.M.length mc))) (by kernel_rfl) ⟨c10, r4, r5⟩ (fun hS => ?_)
              rw [show O.size = 16 by rw [HO.out]; rfl]
              refine wpAnyH_take (i := 0) (v := .pointer (some ⟨k.p, 0, none⟩)) (by rw [HO.out]; simp only [List.getElem?_toArray, List.getElem?_cons_succ, List.getElem?_cons_zero]; rfl) (by rw [HO.out]; kernel_rfl) (by rw [HO.out]; kernel_rfl) (by rw [HO.out]; kernel_rfl) (by rw [HQ.out]; exact fun _ _ _ h => h) (Or.inl ⟨by rfl, ?_⟩) hS ?_
              · intro w' hSw
                go_simp
              try simp only [Act.put, List.setIfInBounds_toArray, List.set_cons_zero, List.set_cons_succ]
              refine wpAnyH_take (i := 1) (v := .pointer (some ⟨k.p, 0, none⟩)) (by rw [HO.out]; simp only [List.getElem?_toArray, List.getElem?_cons_succ, List.getElem?_cons_zero]; rfl) (by rw [HO.out]; kernel_rfl) (by rw [HO.out]; kernel_rfl) (by rw [HO.out]; kernel_rfl) (by rw [HQ.out]; exact fun _ _ _ h => h) (Or.inl ⟨by rfl, ?_⟩) hS ?_
              · intro w' hSw
                go_simp
              try simp only [Act.put, List.setIfInBounds_toArray, List.set_cons_zero, List.set_cons_succ]
              refine wpAnyH_take (i := 2) (v := .pointer (some ⟨k.p, 10, none⟩)) (by rw [HO.out]; simp only [List.getElem?_toArray, List.getElem?_cons_succ, List.getElem?_cons_zero]; rfl) (by rw [HO.out]; kernel_rfl) (by rw [HO.out]; kernel_rfl) (by rw [HO.out]; kernel_rfl) (by rw [HQ.out]; exact fun _ _ _ h => h) (Or.inl ⟨by rfl, ?_⟩) hS ?_
              · intro w' hSw
                go_simp
              try simp only [Act.put, List.setIfInBounds_toArray, List.set_cons_zero, List.set_cons_succ]
              refine wpAnyH_take (i := 3) (v := .int .i64 (s.bl : Int)) (by rw [HO.out]; simp only [List.getElem?_toArray, List.getElem?_cons_succ, List.getElem?_cons_zero]; rfl) (by rw [HO.out]; kernel_rfl) (by rw [HO.out]; kernel_rfl) (by rw [HO.out]; kernel_rfl) (by rw [HQ.out]; exact fun _ _ _ h => h) (Or.inl ⟨by rfl, ?_⟩) hS ?_
              · intro w' hSw
                obtain ⟨q1, q2, q3⟩ := hSw
                go_simp
              try simp only [Act.put, List.setIfInBounds_toArray, List.set_cons_zero, List.set_cons_succ]
              refine wpAnyH_take (i := 4) (v := .pointer (some ⟨w.heap.size, 4, none⟩)) (by rw [HO.out]; simp only [List.getElem?_toArray, List.getElem?_cons_succ, List.getElem?_cons_zero]; rfl) (by rw [HO.out]; kernel_rfl) (by rw [HO.out]; kernel_rfl) (by rw [HO.out]; kernel_rfl) (by rw [HQ.out]; exact fun _ _ _ h => h) (Or.inl ⟨by rfl, ?_⟩) hS ?_
              · intro w' hSw
                go_simp
              try simp only [Act.put, List.setIfInBounds_toArray, List.set_cons_zero, List.set_cons_succ]
              refine wpAnyH_take (i := 5) (v := .slice ta r.T.length tc) (by rw [HO.out]; simp only [List.getElem?_toArray, List.getElem?_cons_succ, List.getElem?_cons_zero]; rfl) (by rw [HO.out]; kernel_rfl) (by rw [HO.out]; kernel_rfl) (by rw [HO.out]; kernel_rfl) (by rw [HQ.out]; exact fun _ _ _ h => h) (Or.inl ⟨by rfl, ?_⟩) hS ?_
              · intro w' hSw
                obtain ⟨q1, q2, q3⟩ := hSw
                go_simp
              try simp only [Act.put, List.setIfInBounds_toArray, List.set_cons_zero, List.set_cons_succ]
              refine wpAnyH_take (i := 6) (v := .pointer (some ⟨w.heap.size, 5, none⟩)) (by rw [HO.out]; simp only [List.getElem?_toArray, List.getElem?_cons_succ, List.getElem?_cons_zero]; rfl) (by rw [HO.out]; kernel_rfl) (by rw [HO.out]; kernel_rfl) (by rw [HO.out]; kernel_rfl) (by rw [HQ.out]; exact fun _ _ _ h => h) (Or.inl ⟨by rfl, ?_⟩) hS ?_
              · intro w' hSw
                go_simp
              try simp only [Act.put, List.setIfInBounds_toArray, List.set_cons_zero, List.set_cons_succ]
              refine wpAnyH_take (i := 7) (v := .slice ma r.M.length mc) (by rw [HO.out]; simp only [List.getElem?_toArray, List.getElem?_cons_succ, List.getElem?_cons_zero]; rfl) (by rw [HO.out]; kernel_rfl) (by rw [HO.out]; kernel_rfl) (by rw [HO.out]; kernel_rfl) (by rw [HQ.out]; exact fun _ _ _ h => h) (Or.inl ⟨by rfl, ?_⟩) hS ?_
              · intro w' hSw
                obtain ⟨q1, q2, q3⟩ := hSw
                go_simp
              try simp only [Act.put, List.setIfInBounds_toArray, List.set_cons_zero, List.set_cons_succ]
              refine wpAnyH_take (i := 8) (v := .slice va tb.length vc) (by rw [HO.out]; simp only [List.getElem?_toArray, List.getElem?_cons_succ, List.getElem?_cons_zero]; rfl) (by rw [HO.out]; kernel_rfl) (by rw [HO.out]; kernel_rfl) (by rw [HO.out]; kernel_rfl) (by rw [HQ.out]; exact fun _ _ _ h => h) (Or.inl ⟨by rfl, ?_⟩) hS ?_
              · intro w' hSw
                go_simp
              try simp only [Act.put, List.setIfInBounds_toArray, List.set_cons_zero, List.set_cons_succ]
              refine wpAnyH_ready (rs := [9]) (by rw [HO.out]; kernel_rfl) (by simp) ?_
              refine AllReadyH.cons (o := _) (by rw [HO.out]; simp only [List.getElem?_toArray, List.getElem?_cons_succ, List.getElem?_cons_zero]; rfl) (fun K9 hK9 => ?_) AllReadyH.nil
              go_simp
              rw [← HW2.out]
              refine hK9.out _ _ ⟨cell_grow HB12.out c10, cell_grow HB12.out r4, cell_grow HB12.out r5⟩ (fun hS1 => ?_)
              try simp only [Act.put, List.setIfInBounds_toArray, List.set_cons_zero, List.set_cons_succ]
              refine wpAnyH_ready (rs := [10]) (by rw [HO.out]; kernel_rfl) (by simp) ?_
              refine AllReadyH.cons (o := _) (by rw [HO.out]; simp only [List.getElem?_toArray, List.getElem?_cons_succ, List.getElem?_cons_zero]; rfl) (fun K10 hK10 => ?_) AllReadyH.nil
              go_simp
              refine HU.out.mono ?_
              rintro e w3 ⟨uv, rfl, huv, hb3⟩
              have HUV : Hid (FB w3 k.X uv _) := huv
              have HB23 : Hid (Below w2.heap.size w2 w3) := hb3
              have HB13 : Hid (Below w1.heap.size w1 w3) := HB12.out.trans (hb3.mono HB12.out.size)
              have HB3 : Hid (Below w.heap.size w w3) := HB2.out.trans (hb3.mono HB2.out.size)
              refine hK10.out _ _ ⟨cell_grow HB13.out c10, cell_grow HB13.out r4, cell_grow HB13.out r5⟩ (fun hS2 => ?_)
              clear huv hb3 HU HW2
              try simp only [Act.put, List.setIfInBounds_toArray, List.set_cons_zero, List.set_cons_succ]
              refine wpAnyH_take (i := 11) (v := .tuple #[uv, .bool true]) (by rw [HO.out]; simp only [List.getElem?_toArray, List.getElem?_cons_succ, List.getElem?_cons_zero]; rfl) (by rw [HO.out]; kernel_rfl) (by rw [HO.out]; kernel_rfl) (by rw [HO.out]; kernel_rfl) (by rw [HQ.out]; exact fun _ _ _ h => h) (Or.inl ⟨by rfl, ?_⟩) hS2 ?_
              · intro w' hSw
                go_simp
              try simp only [Act.put, List.setIfInBounds_toArray, List.set_cons_zero, List.set_cons_succ]
              refine wpAnyH_take (i := 12) (v := uv) (by rw [HO.out]; simp only [List.getElem?_toArray, List.getElem?_cons_succ, List.getElem?_cons_zero]; rfl) (by rw [HO.out]; kernel_rfl) (by rw [HO.out]; kernel_rfl) (by rw [HO.out]; kernel_rfl) (by rw [HQ.out]; exact fun _ _ _ h => h) (Or.inl ⟨by rfl, ?_⟩) hS2 ?_
              · intro w' hSw
                go_simp
              try simp only [Act.put, List.setIfInBounds_toArray, List.set_cons_zero, List.set_cons_succ]
              refine wpAnyH_take (i := 13) (v := .bool true) (by rw [HO.out]; simp only [List.getElem?_toArray, List.getElem?_cons_succ, List.getElem?_cons_zero]; rfl) (by rw [HO.out]; kernel_rfl) (by rw [HO.out]; kernel_rfl) (by rw [HO.out]; kernel_rfl) (by rw [HQ.out]; exact fun _ _ _ h => h) (Or.inl ⟨by rfl, ?_⟩) hS2 ?_
              · intro w' hSw
                go_simp
              try simp only [Act.put, List.setIfInBounds_toArray, List.set_cons_zero, List.set_cons_succ]
              refine wpAnyH_take (i := 14) (v := uv) (by rw [HO.out]; simp only [List.getElem?_toArray, List.getElem?_cons_succ, List.getElem?_cons_zero]; rfl) (by rw [HO.out]; kernel_rfl) (by rw [HO.out]; kernel_rfl) (by rw [HO.out]; kernel_rfl) (by rw [HQ.out]; exact fun _ _ _ h => h) (Or.inl ⟨by rfl, ?_⟩) hS2 ?_
              · intro w' hSw
                go_simp
              try simp only [Act.put, List.setIfInBounds_toArray, List.set_cons_zero, List.set_cons_succ]
              refine wpAnyH_take (i := 15) (v := .bool true) (by rw [HO.out]; simp only [List.getElem?_toArray, List.getElem?_cons_succ, List.getElem?_cons_zero]; rfl) (by rw [HO.out]; kernel_rfl) (by rw [HO.out]; kernel_rfl) (by rw [HO.out]; kernel_rfl) (by rw [HQ.out]; exact fun _ _ _ h => h) (Or.inl ⟨by rfl, ?_⟩) hS2 ?_
              · intro w' hSw
                go_simp
              try simp only [Act.put, List.setIfInBounds_toArray, List.set_cons_zero, List.set_cons_succ]
              refine wpAnyH_done (by rw [HO.out]; kernel_rfl) ?_ _
              rw [HQ.out]
              refine NoPanic.normal ?_
              have hbe := beq_fb uv mv us us k.X w3 HUV.out (HV.out _ HB3.out).1
              rw [show decide (us = us) = true by simp] at hbe
              have HHold : Hid (∀ W, Below w3.heap.size w3 W → Calls Tryz.prog 115 #[.pointer (some ⟨k.p, 0, none⟩), .agg #[.int .i64 r.E, .int .i64 r.B, .int .i64 r.N, .int .i64 r.S, .slice ta r.T.length tc, .slice ma r.M.length mc], .slice va tb.length vc, uv] W fun e w' => e = .returned (.tuple #[]) ∧ Sy w' k (s.hold r.E r.S tb us) d ∧ D.Off k.X W w') := by
                intro W hW
                have hb13 : Below w1.heap.size w1 W := (HB13.out).trans (hW.mono HB13.out.size)
                have := hold_s r ta ma tc mc (.slice va tb.length vc) uv tb us W (HXB.out _ (HB3.out.trans (hW.mono HB3.out.size))) (HTV.out.below hb13) (HUV.out.below hW)
                unfold R.rootV at this
                exact this
              have HRw : Hid (∀ W, Below w3.heap.size w3 W → W.heap[w.heap.size]? = some (.cells #[.int .i64 r.E, .int .i64 r.B, .int .i64 r.N, .int .i64 r.S, .slice ta r.T.length tc, .slice ma r.M.length mc] 94 (0, 0))) := fun W hW => HRow.out _ ((HB01.out.trans (HB13.out.mono HB01.out.size)).trans (hW.mono (Nat.le_trans HB01.out.size HB13.out.size)))
              go_wp2_with (first
                | (go_at_call 114; refine hbe.mono ?_; rintro e w4 ⟨rfl, hb4⟩; have HB34 : Hid (Below w3.heap.size w3 w4) := hb4; obtain ⟨q0, q1, q2, q3, q4, q5⟩ := row6 (HRw.out _ hb4); have HH4 := HHold.out _ hb4; clear hb4 hbe)
                | (go_at_call 115; refine HH4.mono ?_; rintro e w5 ⟨rfl, hy5, ho5⟩; have HY5 : Hid (Sy w5 k (s.hold r.E r.S tb us) d) := hy5; have HO5 : Hid (D.Off k.X w4 w5) := ho5; clear hy5 ho5 HH4)
                | fail)
              go_ret
              rw [HER.out]
              exact ⟨rfl, HY5.out, ((off_below HB3.out).trans (off_below HB34.out)).trans HO5.out⟩
            · have HER : Hid (RR = (4, s, d)) := HRR.out.trans (if_neg (by rw [ho]; simp [hus]))
              clear HRR ho
              refine wp_region_noPanic ?_
              refine name_ops ?_
              intro O QQ HO HQ
              refine wp_region_held_drew (S := (fun W => W.cell? ⟨k.p, 10, none⟩ = some (.int .i64 (s.bl : Int)) ∧ W.cell? ⟨w.heap.size, 4, none⟩ = some (.slice ta r.T.length tc) ∧ W.cell? ⟨w.heap.size, 5, none⟩ = some (.slice ma r.M.length mc))) (by kernel_rfl) ⟨c10, r4, r5⟩ (fun hS => ?_)
              rw [show O.size = 16 by rw [HO.out]; rfl]
              refine wpAnyH_take (i := 0) (v := .pointer (some ⟨k.p, 0, none⟩)) (by rw [HO.out]; simp only [List.getElem?_toArray, List.getElem?_cons_succ, List.getElem?_cons_zero]; rfl) (by rw [HO.out]; kernel_rfl) (by rw [HO.out]; kernel_rfl) (by rw [HO.out]; kernel_rfl) (by rw [HQ.out]; exact fun _ _ _ h => h) (Or.inl ⟨by rfl, ?_⟩) hS ?_
              · intro w' hSw
                go_simp
              try simp only [Act.put, List.setIfInBounds_toArray, List.set_cons_zero, List.set_cons_succ]
              refine wpAnyH_take (i := 1) (v := .pointer (some ⟨k.p, 0, none⟩)) (by rw [HO.out]; simp only [List.getElem?_toArray, List.getElem?_cons_succ, List.getElem?_cons_zero]; rfl) (by rw [HO.out]; kernel_rfl) (by rw [HO.out]; kernel_rfl) (by rw [HO.out]; kernel_rfl) (by rw [HQ.out]; exact fun _ _ _ h => h) (Or.inl ⟨by rfl, ?_⟩) hS ?_
              · intro w' hSw
                go_simp
              try simp only [Act.put, List.setIfInBounds_toArray, List.set_cons_zero, List.set_cons_succ]
              refine wpAnyH_take (i := 2) (v := .pointer (some ⟨k.p, 10, none⟩)) (by rw [HO.out]; simp only [List.getElem?_toArray, List.getElem?_cons_succ, List.getElem?_cons_zero]; rfl) (by rw [HO.out]; kernel_rfl) (by rw [HO.out]; kernel_rfl) (by rw [HO.out]; kernel_rfl) (by rw [HQ.out]; exact fun _ _ _ h => h) (Or.inl ⟨by rfl, ?_⟩) hS ?_
              · intro w' hSw
                go_simp
              try simp only [Act.put, List.setIfInBounds_toArray, List.set_cons_zero, List.set_cons_succ]
              refine wpAnyH_take (i := 3) (v := .int .i64 (s.bl : Int)) (by rw [HO.out]; simp only [List.getElem?_toArray, List.getElem?_cons_succ, List.getElem?_cons_zero]; rfl) (by rw [HO.out]; kernel_rfl) (by rw [HO.out]; kernel_rfl) (by rw [HO.out]; kernel_rfl) (by rw [HQ.out]; exact fun _ _ _ h => h) (Or.inl ⟨by rfl, ?_⟩) hS ?_
              · intro w' hSw
                obtain ⟨q1, q2, q3⟩ := hSw
                go_simp
              try simp only [Act.put, List.setIfInBounds_toArray, List.set_cons_zero, List.set_cons_succ]
              refine wpAnyH_take (i := 4) (v := .pointer (some ⟨w.heap.size, 4, none⟩)) (by rw [HO.out]; simp only [List.getElem?_toArray, List.getElem?_cons_succ, List.getElem?_cons_zero]; rfl) (by rw [HO.out]; kernel_rfl) (by rw [HO.out]; kernel_rfl) (by rw [HO.out]; kernel_rfl) (by rw [HQ.out]; exact fun _ _ _ h => h) (Or.inl ⟨by rfl, ?_⟩) hS ?_
              · intro w' hSw
                go_simp
              try simp only [Act.put, List.setIfInBounds_toArray, List.set_cons_zero, List.set_cons_succ]
              refine wpAnyH_take (i := 5) (v := .slice ta r.T.length tc) (by rw [HO.out]; simp only [List.getElem?_toArray, List.getElem?_cons_succ, List.getElem?_cons_zero]; rfl) (by rw [HO.out]; kernel_rfl) (by rw [HO.out]; kernel_rfl) (by rw [HO.out]; kernel_rfl) (by rw [HQ.out]; exact fun _ _ _ h => h) (Or.inl ⟨by rfl, ?_⟩) hS ?_
              · intro w' hSw
                obtain ⟨q1, q2, q3⟩ := hSw
                go_simp
              try simp only [Act.put, List.setIfInBounds_toArray, List.set_cons_zero, List.set_cons_succ]
              refine wpAnyH_take (i := 6) (v := .pointer (some ⟨w.heap.size, 5, none⟩)) (by rw [HO.out]; simp only [List.getElem?_toArray, List.getElem?_cons_succ, List.getElem?_cons_zero]; rfl) (by rw [HO.out]; kernel_rfl) (by rw [HO.out]; kernel_rfl) (by rw [HO.out]; kernel_rfl) (by rw [HQ.out]; exact fun _ _ _ h => h) (Or.inl ⟨by rfl, ?_⟩) hS ?_
              · intro w' hSw
                go_simp
              try simp only [Act.put, List.setIfInBounds_toArray, List.set_cons_zero, List.set_cons_succ]
              refine wpAnyH_take (i := 7) (v := .slice ma r.M.length mc) (by rw [HO.out]; simp only [List.getElem?_toArray, List.getElem?_cons_succ, List.getElem?_cons_zero]; rfl) (by rw [HO.out]; kernel_rfl) (by rw [HO.out]; kernel_rfl) (by rw [HO.out]; kernel_rfl) (by rw [HQ.out]; exact fun _ _ _ h => h) (Or.inl ⟨by rfl, ?_⟩) hS ?_
              · intro w' hSw
                obtain ⟨q1, q2, q3⟩ := hSw
                go_simp
              try simp only [Act.put, List.setIfInBounds_toArray, List.set_cons_zero, List.set_cons_succ]
              refine wpAnyH_take (i := 8) (v := .slice va tb.length vc) (by rw [HO.out]; simp only [List.getElem?_toArray, List.getElem?_cons_succ, List.getElem?_cons_zero]; rfl) (by rw [HO.out]; kernel_rfl) (by rw [HO.out]; kernel_rfl) (by rw [HO.out]; kernel_rfl) (by rw [HQ.out]; exact fun _ _ _ h => h) (Or.inl ⟨by rfl, ?_⟩) hS ?_
              · intro w' hSw
                go_simp
              try simp only [Act.put, List.setIfInBounds_toArray, List.set_cons_zero, List.set_cons_succ]
              refine wpAnyH_ready (rs := [9]) (by rw [HO.out]; kernel_rfl) (by simp) ?_
              refine AllReadyH.cons (o := _) (by rw [HO.out]; simp only [List.getElem?_toArray, List.getElem?_cons_succ, List.getElem?_cons_zero]; rfl) (fun K9 hK9 => ?_) AllReadyH.nil
              go_simp
              rw [← HW2.out]
              refine hK9.out _ _ ⟨cell_grow HB12.out c10, cell_grow HB12.out r4, cell_grow HB12.out r5⟩ (fun hS1 => ?_)
              try simp only [Act.put, List.setIfInBounds_toArray, List.set_cons_zero, List.set_cons_succ]
              refine wpAnyH_ready (rs := [10]) (by rw [HO.out]; kernel_rfl) (by simp) ?_
              refine AllReadyH.cons (o := _) (by rw [HO.out]; simp only [List.getElem?_toArray, List.getElem?_cons_succ, List.getElem?_cons_zero]; rfl) (fun K10 hK10 => ?_) AllReadyH.nil
              go_simp
              refine HU.out.mono ?_
              rintro e w3 ⟨uv, rfl, huv, hb3⟩
              have HUV : Hid (FB w3 k.X uv _) := huv
              have HB23 : Hid (Below w2.heap.size w2 w3) := hb3
              have HB13 : Hid (Below w1.heap.size w1 w3) := HB12.out.trans (hb3.mono HB12.out.size)
              have HB3 : Hid (Below w.heap.size w w3) := HB2.out.trans (hb3.mono HB2.out.size)
              refine hK10.out _ _ ⟨cell_grow HB13.out c10, cell_grow HB13.out r4, cell_grow HB13.out r5⟩ (fun hS2 => ?_)
              clear huv hb3 HU HW2
              try simp only [Act.put, List.setIfInBounds_toArray, List.set_cons_zero, List.set_cons_succ]
              refine wpAnyH_take (i := 11) (v := .tuple #[uv, .bool true]) (by rw [HO.out]; simp only [List.getElem?_toArray, List.getElem?_cons_succ, List.getElem?_cons_zero]; rfl) (by rw [HO.out]; kernel_rfl) (by rw [HO.out]; kernel_rfl) (by rw [HO.out]; kernel_rfl) (by rw [HQ.out]; exact fun _ _ _ h => h) (Or.inl ⟨by rfl, ?_⟩) hS2 ?_
              · intro w' hSw
                go_simp
              try simp only [Act.put, List.setIfInBounds_toArray, List.set_cons_zero, List.set_cons_succ]
              refine wpAnyH_take (i := 12) (v := uv) (by rw [HO.out]; simp only [List.getElem?_toArray, List.getElem?_cons_succ, List.getElem?_cons_zero]; rfl) (by rw [HO.out]; kernel_rfl) (by rw [HO.out]; kernel_rfl) (by rw [HO.out]; kernel_rfl) (by rw [HQ.out]; exact fun _ _ _ h => h) (Or.inl ⟨by rfl, ?_⟩) hS2 ?_
              · intro w' hSw
                go_simp
              try simp only [Act.put, List.setIfInBounds_toArray, List.set_cons_zero, List.set_cons_succ]
              refine wpAnyH_take (i := 13) (v := .bool true) (by rw [HO.out]; simp only [List.getElem?_toArray, List.getElem?_cons_succ, List.getElem?_cons_zero]; rfl) (by rw [HO.out]; kernel_rfl) (by rw [HO.out]; kernel_rfl) (by rw [HO.out]; kernel_rfl) (by rw [HQ.out]; exact fun _ _ _ h => h) (Or.inl ⟨by rfl, ?_⟩) hS2 ?_
              · intro w' hSw
                go_simp
              try simp only [Act.put, List.setIfInBounds_toArray, List.set_cons_zero, List.set_cons_succ]
              refine wpAnyH_take (i := 14) (v := uv) (by rw [HO.out]; simp only [List.getElem?_toArray, List.getElem?_cons_succ, List.getElem?_cons_zero]; rfl) (by rw [HO.out]; kernel_rfl) (by rw [HO.out]; kernel_rfl) (by rw [HO.out]; kernel_rfl) (by rw [HQ.out]; exact fun _ _ _ h => h) (Or.inl ⟨by rfl, ?_⟩) hS2 ?_
              · intro w' hSw
                go_simp
              try simp only [Act.put, List.setIfInBounds_toArray, List.set_cons_zero, List.set_cons_succ]
              refine wpAnyH_take (i := 15) (v := .bool true) (by rw [HO.out]; simp only [List.getElem?_toArray, List.getElem?_cons_succ, List.getElem?_cons_zero]; rfl) (by rw [HO.out]; kernel_rfl) (by rw [HO.out]; kernel_rfl) (by rw [HO.out]; kernel_rfl) (by rw [HQ.out]; exact fun _ _ _ h => h) (Or.inl ⟨by rfl, ?_⟩) hS2 ?_
              · intro w' hSw
                go_simp
              try simp only [Act.put, List.setIfInBounds_toArray, List.set_cons_zero, List.set_cons_succ]
              refine wpAnyH_done (by rw [HO.out]; kernel_rfl) ?_ _
              rw [HQ.out]
              refine NoPanic.normal ?_
              have hbe := beq_fb uv mv us set k.X w3 HUV.out (HV.out _ HB3.out).1
              rw [show decide (us = set) = false by simp [hus]] at hbe
              go_wp2_with (first
                | (go_at_call 114; refine hbe.mono ?_; rintro e w4 ⟨rfl, hb4⟩; have HB34 : Hid (Below w3.heap.size w3 w4) := hb4; clear hb4 hbe)
                | fail)
              go_ret
              rw [HER.out]
              have hb4 : Below w.heap.size w w4 := HB3.out.trans (HB34.out.mono HB3.out.size)
              exact ⟨rfl, ⟨_, _, _, _, _, _, _, _, HXB.out _ hb4⟩, off_below hb4⟩
    · have e2' : ((tb.length : Int) == r.N) = false := by simpa using e2
      have e2b : ((tb.length : Int) != r.N) = true := by simp [e2]
      have HER : Hid (RR = (4, s, d)) := hRR.trans (if_neg (by simp [e2]))
      clear hRR
      go_enter Tryz.func54, Tryz.ntmps54
      go_wp2_with (first
        | (go_at_call 112; rw [← HW0.out]; refine H1.mono ?_; rintro e w1 ⟨tv, rfl, htv, hb1⟩; have HTV : Hid (FI w1 k.X tv tb) := htv; obtain ⟨va, vc, rfl, _⟩ := htv; have HB01 : Hid (Below w0.heap.size w0 w1) := hb1; have HB1 : Hid (Below w.heap.size w w1) := HB0.out.trans (hb1.mono HB0.out.size); obtain ⟨r0, r1, r2, r3, r4, r5⟩ := row6 (HRow.out _ hb1); clear hb1 H1 HW0)
        | fail)
      go_ret
      rw [HER.out]
      exact ⟨rfl, ⟨_, _, _, _, _, _, _, _, HXB.out _ HB1.out⟩, off_below HB1.out⟩
  · have e1' : (ue == 0) = false := by simpa using e1
    have HER : Hid (RR = (4, s, d)) := hRR.trans (if_neg (by simp [e1]))
    clear hRR
    go_enter Tryz.func54, Tryz.ntmps54
    go_wp2_with (first
      | (go_at_call 112; rw [← HW0.out]; refine H1.mono ?_; rintro e w1 ⟨tv, rfl, htv, hb1⟩; have HTV : Hid (FI w1 k.X tv tb) := htv; obtain ⟨va, vc, rfl, _⟩ := htv; have HB01 : Hid (Below w0.heap.size w0 w1) := hb1; have HB1 : Hid (Below w.heap.size w w1) := HB0.out.trans (hb1.mono HB0.out.size); obtain ⟨r0, r1, r2, r3, r4, r5⟩ := row6 (HRow.out _ hb1); clear hb1 H1 HW0)
      | fail)
    go_ret
    rw [HER.out]
    exact ⟨rfl, ⟨_, _, _, _, _, _, _, _, HXB.out _ HB1.out⟩, off_below HB1.out⟩
end Go.Proofs.YtelhlikeefpjnaaGreat
namespace Go.Proofs.YtelhlikeefpjnaaGreat
set_option maxRecDepth 20000
open Go.RowKit
set_option linter.unusedVariables false
set_option linter.unusedSimpArgs false
theorem pick_ok {i : Int} {zs : List Int} {c : R.CS} (hc : c.e = 0 → c.r.Ok) : (R.pick i zs c).e = 0 → (R.pick i zs c).r.Ok := by
  unfold R.pick
  split
  · exact hc
  · rename_i h
    split
    · intro _
      exact (R.gets_ok (by simpa using fun hh => h (Or.inl hh))).1
    · exact hc
theorem ch_ok {xs ys : List Int} (h : (R.chS xs ys 2).e = 0) : (R.chS xs ys 2).r.Ok :=
  pick_ok (pick_ok (fun h => by cases h)) h
theorem rr_ok {bl : Nat} {d : D.DS} (h : (rrR bl d).1 = 0) : (rrR bl d).2.1.Ok := by
  unfold rrR at h ⊢
  by_cases h0 : D.reachE d 0 ≠ 0
  · rw [if_pos h0] at h; exact absurd h h0
  · rw [if_neg h0] at h ⊢
    by_cases h1 : D.reachE (D.readS d 0) 1 ≠ 0
    · rw [if_pos h1] at h; exact absurd h h1
    · rw [if_neg h1] at h ⊢
      by_cases h2 : (R.chS (D.readB d 0) (D.readB (D.readS d 0) 1) 2).e ≠ 0
      · rw [if_pos h2] at h; exact absurd h h2
      · rw [if_neg h2] at h ⊢
        by_cases h3 : (R.chS (D.readB d 0) (D.readB (D.readS d 0) 1) 2).r.B ≠ (bl : Int)
        · rw [if_pos h3] at h; cases h
        · rw [if_neg h3]
          exact ch_ok (by simpa using h2)
theorem rp_len (kd : Int) : ∀ (bs : List Int) (i : Nat) (acc : List Int) (d : D.DS), (rpR kd i bs acc d).2.1.length ≤ acc.length + 246 * bs.length
  | [], i, acc, d => by simp [rpR]
  | b :: bs, i, acc, d => by
    unfold rpR
    split
    · simp
    · split
      · simp
      · have h1 := rp_len kd bs (i + 1) (acc ++ opB (D.readB d b)) (D.readS d b)
        have h2 := opB_len (D.readB d b)
        rw [List.length_append] at h1
        simp only [List.length_cons]
        omega
noncomputable def openR (d : D.DS) : Int × SS × D.DS :=
  if (rrR d.room d).1 ≠ 0 then ((rrR d.room d).1, blankS d.room, (rrR d.room d).2.2)
  else if (rpR 1 0 (rrR d.room d).2.1.T [] (rrR d.room d).2.2).1 ≠ 0 then ((rpR 1 0 (rrR d.room d).2.1.T [] (rrR d.room d).2.2).1, blankS d.room, (rpR 1 0 (rrR d.room d).2.1.T [] (rrR d.room d).2.2).2.2)
  else if (rpR 2 0 (rrR d.room d).2.1.M [] (rpR 1 0 (rrR d.room d).2.1.T [] (rrR d.room d).2.2).2.2).1 ≠ 0 then ((rpR 2 0 (rrR d.room d).2.1.M [] (rpR 1 0 (rrR d.room d).2.1.T [] (rrR d.room d).2.2).2.2).1, blankS d.room, (rpR 2 0 (rrR d.room d).2.1.M [] (rpR 1 0 (rrR d.room d).2.1.T [] (rrR d.room d).2.2).2.2).2.2)
  else takeR (blankS d.room) (rpR 2 0 (rrR d.room d).2.1.M [] (rpR 1 0 (rrR d.room d).2.1.T [] (rrR d.room d).2.2).2.2).2.2 (rrR d.room d).2.1 (rpR 1 0 (rrR d.room d).2.1.T [] (rrR d.room d).2.2).2.1 (rpR 2 0 (rrR d.room d).2.1.M [] (rpR 1 0 (rrR d.room d).2.1.T [] (rrR d.room d).2.2).2.2).2.1
set_option maxHeartbeats 3200000 in
theorem open_s (dp nb mb : Nat) (d : D.DS) (w : World) (h : D.Dk w dp nb mb d) :
    Calls Tryz.prog 15 #[.pointer (some ⟨dp, 0, none⟩)] w fun e w' => FmtPost w dp nb mb (openR d) e w' := by
  have HB := blank_s dp nb mb d w h
  have hrm := h.1.room
  have HRR : Hid (∀ (p : Nat) (w1 : World) (t f t' f' u : Value) (sb db nx : Nat), Sx w1 ⟨p, dp, nb, mb⟩ (blankS d.room) d t f t' f' u sb db nx → Calls Tryz.prog 52 #[.pointer (some ⟨p, 0, none⟩)] w1 fun e w' => RrPost ⟨p, dp, nb, mb⟩ (blankS d.room) w1 (rrR d.room d) t f t' f' u sb db nx e w') := fun p w1 t f t' f' u sb db nx hx => rroot_s w1 hx
  obtain ⟨OO, hOO⟩ : ∃ OO, OO = openR d := ⟨_, rfl⟩
  rw [← hOO]
  unfold openR at hOO
  have hok := rr_ok (bl := d.room) (d := d)
  generalize rrR d.room d = Q at *
  obtain ⟨e0, r, d1⟩ := Q
  simp only at hOO hok
  clear h
  by_cases he0 : e0 = 0
  · subst he0
    have hrok := hok rfl
    have ht1 := hrok.t1
    have hm1 := hrok.m1
    simp only [ne_eq, not_true_eq_false, if_false] at hOO
    have hlw := rp_len 1 r.T 0 [] d1
    have HP1 : Hid (∀ (p : Nat) (W : World) (t f t' f' u : Value) (sb db nx : Nat) (bv : Value), Sx W ⟨p, dp, nb, mb⟩ (blankS d.room) d1 t f t' f' u sb db nx → FI W (Pl.X ⟨p, dp, nb, mb⟩) bv r.T → Calls Tryz.prog 53 #[.pointer (some ⟨p, 0, none⟩), .int .i64 1, bv] W fun e w' => RpPost ⟨p, dp, nb, mb⟩ (blankS d.room) W (rpR 1 0 r.T [] d1) t f t' f' u sb db nx e w') := fun p W t f t' f' u sb db nx bv hx hb => rpages_s 1 bv r.T W hx hb (by omega)
    generalize rpR 1 0 r.T [] d1 = Q1 at *
    obtain ⟨e1, ws, d2⟩ := Q1
    simp only at hOO hlw
    have hlm := rp_len 2 r.M 0 [] d2
    have HP2 : Hid (∀ (p : Nat) (W : World) (t f t' f' u : Value) (sb db nx : Nat) (bv : Value), Sx W ⟨p, dp, nb, mb⟩ (blankS d.room) d2 t f t' f' u sb db nx → FI W (Pl.X ⟨p, dp, nb, mb⟩) bv r.M → Calls Tryz.prog 53 #[.pointer (some ⟨p, 0, none⟩), .int .i64 2, bv] W fun e w' => RpPost ⟨p, dp, nb, mb⟩ (blankS d.room) W (rpR 2 0 r.M [] d2) t f t' f' u sb db nx e w') := fun p W t f t' f' u sb db nx bv hx hb => rpages_s 2 bv r.M W hx hb (by omega)
    generalize rpR 2 0 r.M [] d2 = Q2 at *
    obtain ⟨e2, set, d3⟩ := Q2
    simp only at hOO hlm
    have HTk : Hid (∀ (p : Nat) (W : World) (t f t' f' u : Value) (sb db nx : Nat) (ta ma : Option Addr) (tc mc : Nat) (wv mv : Value), Sx W ⟨p, dp, nb, mb⟩ (blankS d.room) d3 t f t' f' u sb db nx → FI W (Pl.X ⟨p, dp, nb, mb⟩) (.slice ta r.T.length tc) r.T → FI W (Pl.X ⟨p, dp, nb, mb⟩) (.slice ma r.M.length mc) r.M → FB W (Pl.X ⟨p, dp, nb, mb⟩) wv ws → FB W (Pl.X ⟨p, dp, nb, mb⟩) mv set → Calls Tryz.prog 54 #[.pointer (some ⟨p, 0, none⟩), .agg #[.int .i64 r.E, .int .i64 r.B, .int .i64 r.N, .int .i64 r.S, .slice ta r.T.length tc, .slice ma r.M.length mc], wv, mv] W fun e w' => Done ⟨p, dp, nb, mb⟩ W (takeR (blankS d.room) d3 r ws set) e w') := by
      intro p W t f t' f' u sb db nx ta ma tc mc wv mv hx h1 h2 h3 h4
      have := take_s r ta ma tc mc wv mv ws set W hx hrm hrok h1 h2 h3 h4 (by simp at hlw; omega)
      unfold R.rootV at this
      exact this
    generalize takeR (blankS d.room) d3 r ws set = Q3 at *
    obtain ⟨e3, s3, d4⟩ := Q3
    unfold Done at HTk
    unfold RpPost at HP1 HP2
    unfold RrPost at HRR
    have HOO : Hid (OO = if ¬e1 = 0 then (e1, blankS d.room, d2) else if ¬e2 = 0 then (e2, blankS d.room, d3) else (e3, s3, d4)) := hOO
    clear hOO hok
    by_cases he1 : e1 = 0
    · subst he1
      simp only [not_true_eq_false, if_false] at HOO
      by_cases he2 : e2 = 0
      · subst he2
        simp only [not_true_eq_false, if_false] at HOO
        by_cases he3 : e3 = 0
        · subst he3
          have HEO : Hid (OO = (0, s3, d4)) := HOO.out
          clear HOO
          go_enter Tryz.func15, Tryz.ntmps15
          go_wp2_with (first
            | (go_at_call 51; refine HB.mono ?_; rintro e w1 ⟨p, t, f, t', f', u, sb, db, nx, rfl, hp, hx1, hb1⟩; have HX1 : Hid (Sx w1 ⟨p, dp, nb, mb⟩ (blankS d.room) d t f t' f' u sb db nx) := hx1; have HB1 : Hid (Below w.heap.size w w1) := hb1; have H2 := HRR.out _ _ _ _ _ _ _ _ _ _ hx1; clear hx1 hb1 HB HRR)
            | (go_at_call 52; (refine H2.mono ?_; rintro e w2 ⟨ta, tc, ma, mc, s2, rfl, hft, hfm, hx2, hs2, ho2⟩; have hs2' := hs2 (by first | exact trivial | rfl); subst hs2'; have HX2 : Hid (Sx w2 ⟨p, dp, nb, mb⟩ (blankS d.room) d1 t f t' f' u sb db nx) := hx2; have HFT : Hid (FI w2 (Pl.X ⟨p, dp, nb, mb⟩) (.slice ta r.T.length tc) r.T) := hft; have HFM : Hid (FI w2 (Pl.X ⟨p, dp, nb, mb⟩) (.slice ma r.M.length mc) r.M) := hfm; have HO2 : Hid (D.Off (Pl.X ⟨p, dp, nb, mb⟩) w1 w2) := ho2; unfold R.rootV; clear hft hfm hx2 hs2 ho2 H2))
            | (go_at_call_of 53 (1 : Int); obtain ⟨w3, hw3⟩ : ∃ w3, w3 = w2.alloc (.cells #[.int .i64 r.E, .int .i64 r.B, .int .i64 r.N, .int .i64 r.S, .slice ta r.T.length tc, .slice ma r.M.length mc] 94) := ⟨_, rfl⟩; rw [← hw3]; have HB23 : Hid (Below w2.heap.size w2 w3) := (by rw [hw3]; exact (Below.refl _ _).alloc (Nat.le_refl _) _); have hrow3 : w3.heap[w2.heap.size]? = some (.cells #[.int .i64 r.E, .int .i64 r.B, .int .i64 r.N, .int .i64 r.S, .slice ta r.T.length tc, .slice ma r.M.length mc] 94 (0, 0)) := (by rw [hw3]; exact heap_alloc_last _ _); have hbX : w2.heap.size ∉ (Pl.X ⟨p, dp, nb, mb⟩) := (fun hm => by have := HX1.out.lt _ hm; have := HO2.out.size; omega); refine (HP1.out _ _ _ _ _ _ _ _ _ _ _ (HX2.out.below HB23.out) (HFT.out.below HB23.out)).mono ?_; rintro e w4 ⟨wv, s4, rfl, hwv, hx4, hs4, ho4⟩; have hs4' := hs4 (by first | exact trivial | rfl); subst hs4'; have HX4 : Hid (Sx w4 ⟨p, dp, nb, mb⟩ (blankS d.room) d2 t f t' f' u sb db nx) := hx4; have HWV : Hid (FB w4 (Pl.X ⟨p, dp, nb, mb⟩) wv ws) := hwv; have HO34 : Hid (D.Off (Pl.X ⟨p, dp, nb, mb⟩) w3 w4) := ho4; have HO4 : Hid (D.Off (Pl.X ⟨p, dp, nb, mb⟩) w1 w4) := (HO2.out.trans (off_below HB23.out)).trans ho4; have HRow : Hid (∀ W, D.Off (Pl.X ⟨p, dp, nb, mb⟩) w3 W → W.heap[w2.heap.size]? = some (.cells #[.int .i64 r.E, .int .i64 r.B, .int .i64 r.N, .int .i64 r.S, .slice ta r.T.length tc, .slice ma r.M.length mc] 94 (0, 0))) := (fun W hW => (hW.block _ (row_lt hrow3) hbX).trans hrow3); obtain ⟨r0, r1, r2, r3, r4, r5⟩ := row6 (HRow.out _ ho4); clear hwv hx4 hs4 ho4 hw3 hrow3 HP1)
            | (go_at_call_of 53 (2 : Int); refine (HP2.out _ _ _ _ _ _ _ _ _ _ _ HX4.out ((HFM.out.below HB23.out).off HO34.out (fun _ h => h))).mono ?_; rintro e w5 ⟨mv, s5, rfl, hmv, hx5, hs5, ho5⟩; have hs5' := hs5 (by first | exact trivial | rfl); subst hs5'; have HX5 : Hid (Sx w5 ⟨p, dp, nb, mb⟩ (blankS d.room) d3 t f t' f' u sb db nx) := hx5; have HMV : Hid (FB w5 (Pl.X ⟨p, dp, nb, mb⟩) mv set) := hmv; have HO45 : Hid (D.Off (Pl.X ⟨p, dp, nb, mb⟩) w4 w5) := ho5; have HO5 : Hid (D.Off (Pl.X ⟨p, dp, nb, mb⟩) w1 w5) := HO4.out.trans ho5; have HWV5 : Hid (FB w5 (Pl.X ⟨p, dp, nb, mb⟩) wv ws) := HWV.out.off ho5 (fun _ h => h); obtain ⟨q0, q1, q2, q3, q4, q5⟩ := row6 (HRow.out _ (HO34.out.trans ho5)); clear hmv hx5 hs5 ho5 HP2)
            | (go_at_call 54; refine (HTk.out _ _ _ _ _ _ _ _ _ _ _ _ _ _ _ _ HX5.out ((HFT.out.below HB23.out).off (HO34.out.trans HO45.out) (fun _ h => h)) ((HFM.out.below HB23.out).off (HO34.out.trans HO45.out) (fun _ h => h)) HWV5.out HMV.out).mono ?_; rintro e w6 ⟨rfl, hy6, ho6⟩; have HY6 : Hid (Sy w6 ⟨p, dp, nb, mb⟩ s3 d4) := hy6; have HO6 : Hid (D.Off (Pl.X ⟨p, dp, nb, mb⟩) w1 w6) := HO5.out.trans ho6; clear hy6 ho6 HTk)
            | fail)
          exact bodyPost_ret (v := .tuple #[.pointer (some ⟨p, 0, none⟩), .int .i64 0]) (by simp [results, Tryz.results15, go_sem]) rfl (by rw [HEO.out]; unfold FmtPost; exact ⟨.inl ⟨rfl, p, rfl, hp, HY6.out⟩, Sy.dk HY6.out, off_new HB1.out HO6.out hp⟩)
        · have he3' : (e3 == 0) = false := by simpa using he3
          have HEO : Hid (OO = (e3, s3, d4)) := HOO.out
          clear HOO
          go_enter Tryz.func15, Tryz.ntmps15
          go_wp2_with (first
            | (go_at_call 51; refine HB.mono ?_; rintro e w1 ⟨p, t, f, t', f', u, sb, db, nx, rfl, hp, hx1, hb1⟩; have HX1 : Hid (Sx w1 ⟨p, dp, nb, mb⟩ (blankS d.room) d t f t' f' u sb db nx) := hx1; have HB1 : Hid (Below w.heap.size w w1) := hb1; have H2 := HRR.out _ _ _ _ _ _ _ _ _ _ hx1; clear hx1 hb1 HB HRR)
            | (go_at_call 52; (refine H2.mono ?_; rintro e w2 ⟨ta, tc, ma, mc, s2, rfl, hft, hfm, hx2, hs2, ho2⟩; have hs2' := hs2 (by first | exact trivial | rfl); subst hs2'; have HX2 : Hid (Sx w2 ⟨p, dp, nb, mb⟩ (blankS d.room) d1 t f t' f' u sb db nx) := hx2; have HFT : Hid (FI w2 (Pl.X ⟨p, dp, nb, mb⟩) (.slice ta r.T.length tc) r.T) := hft; have HFM : Hid (FI w2 (Pl.X ⟨p, dp, nb, mb⟩) (.slice ma r.M.length mc) r.M) := hfm; have HO2 : Hid (D.Off (Pl.X ⟨p, dp, nb, mb⟩) w1 w2) := ho2; unfold R.rootV; clear hft hfm hx2 hs2 ho2 H2))
            | (go_at_call_of 53 (1 : Int); obtain ⟨w3, hw3⟩ : ∃ w3, w3 = w2.alloc (.cells #[.int .i64 r.E, .int .i64 r.B, .int .i64 r.N, .int .i64 r.S, .slice ta r.T.length tc, .slice ma r.M.length mc] 94) := ⟨_, rfl⟩; rw [← hw3]; have HB23 : Hid (Below w2.heap.size w2 w3) := (by rw [hw3]; exact (Below.refl _ _).alloc (Nat.le_refl _) _); have hrow3 : w3.heap[w2.heap.size]? = some (.cells #[.int .i64 r.E, .int .i64 r.B, .int .i64 r.N, .int .i64 r.S, .slice ta r.T.length tc, .slice ma r.M.length mc] 94 (0, 0)) := (by rw [hw3]; exact heap_alloc_last _ _); have hbX : w2.heap.size ∉ (Pl.X ⟨p, dp, nb, mb⟩) := (fun hm => by have := HX1.out.lt _ hm; have := HO2.out.size; omega); refine (HP1.out _ _ _ _ _ _ _ _ _ _ _ (HX2.out.below HB23.out) (HFT.out.below HB23.out)).mono ?_; rintro e w4 ⟨wv, s4, rfl, hwv, hx4, hs4, ho4⟩; have hs4' := hs4 (by first | exact trivial | rfl); subst hs4'; have HX4 : Hid (Sx w4 ⟨p, dp, nb, mb⟩ (blankS d.room) d2 t f t' f' u sb db nx) := hx4; have HWV : Hid (FB w4 (Pl.X ⟨p, dp, nb, mb⟩) wv ws) := hwv; have HO34 : Hid (D.Off (Pl.X ⟨p, dp, nb, mb⟩) w3 w4) := ho4; have HO4 : Hid (D.Off (Pl.X ⟨p, dp, nb, mb⟩) w1 w4) := (HO2.out.trans (off_below HB23.out)).trans ho4; have HRow : Hid (∀ W, D.Off (Pl.X ⟨p, dp, nb, mb⟩) w3 W → W.heap[w2.heap.size]? = some (.cells #[.int .i64 r.E, .int .i64 r.B, .int .i64 r.N, .int .i64 r.S, .slice ta r.T.length tc, .slice ma r.M.length mc] 94 (0, 0))) := (fun W hW => (hW.block _ (row_lt hrow3) hbX).trans hrow3); obtain ⟨r0, r1, r2, r3, r4, r5⟩ := row6 (HRow.out _ ho4); clear hwv hx4 hs4 ho4 hw3 hrow3 HP1)
            | (go_at_call_of 53 (2 : Int); refine (HP2.out _ _ _ _ _ _ _ _ _ _ _ HX4.out ((HFM.out.below HB23.out).off HO34.out (fun _ h => h))).mono ?_; rintro e w5 ⟨mv, s5, rfl, hmv, hx5, hs5, ho5⟩; have hs5' := hs5 (by first | exact trivial | rfl); subst hs5'; have HX5 : Hid (Sx w5 ⟨p, dp, nb, mb⟩ (blankS d.room) d3 t f t' f' u sb db nx) := hx5; have HMV : Hid (FB w5 (Pl.X ⟨p, dp, nb, mb⟩) mv set) := hmv; have HO45 : Hid (D.Off (Pl.X ⟨p, dp, nb, mb⟩) w4 w5) := ho5; have HO5 : Hid (D.Off (Pl.X ⟨p, dp, nb, mb⟩) w1 w5) := HO4.out.trans ho5; have HWV5 : Hid (FB w5 (Pl.X ⟨p, dp, nb, mb⟩) wv ws) := HWV.out.off ho5 (fun _ h => h); obtain ⟨q0, q1, q2, q3, q4, q5⟩ := row6 (HRow.out _ (HO34.out.trans ho5)); clear hmv hx5 hs5 ho5 HP2)
            | (go_at_call 54; refine (HTk.out _ _ _ _ _ _ _ _ _ _ _ _ _ _ _ _ HX5.out ((HFT.out.below HB23.out).off (HO34.out.trans HO45.out) (fun _ h => h)) ((HFM.out.below HB23.out).off (HO34.out.trans HO45.out) (fun _ h => h)) HWV5.out HMV.out).mono ?_; rintro e w6 ⟨rfl, hy6, ho6⟩; have HY6 : Hid (Sy w6 ⟨p, dp, nb, mb⟩ s3 d4) := hy6; have HO6 : Hid (D.Off (Pl.X ⟨p, dp, nb, mb⟩) w1 w6) := HO5.out.trans ho6; clear hy6 ho6 HTk)
            | fail)
          exact bodyPost_ret (v := .tuple #[.pointer none, .int .i64 e3]) (by simp [results, Tryz.results15, go_sem]) rfl (by rw [HEO.out]; unfold FmtPost; exact ⟨.inr ⟨he3, rfl⟩, Sy.dk HY6.out, off_new HB1.out HO6.out hp⟩)
      · have he2' : (e2 == 0) = false := by simpa using he2
        have HEO : Hid (OO = (e2, blankS d.room, d3)) := HOO.out.trans (if_pos he2)
        clear HOO HTk
        go_enter Tryz.func15, Tryz.ntmps15
        go_wp2_with (first
          | (go_at_call 51; refine HB.mono ?_; rintro e w1 ⟨p, t, f, t', f', u, sb, db, nx, rfl, hp, hx1, hb1⟩; have HX1 : Hid (Sx w1 ⟨p, dp, nb, mb⟩ (blankS d.room) d t f t' f' u sb db nx) := hx1; have HB1 : Hid (Below w.heap.size w w1) := hb1; have H2 := HRR.out _ _ _ _ _ _ _ _ _ _ hx1; clear hx1 hb1 HB HRR)
          | (go_at_call 52; (refine H2.mono ?_; rintro e w2 ⟨ta, tc, ma, mc, s2, rfl, hft, hfm, hx2, hs2, ho2⟩; have hs2' := hs2 (by first | exact trivial | rfl); subst hs2'; have HX2 : Hid (Sx w2 ⟨p, dp, nb, mb⟩ (blankS d.room) d1 t f t' f' u sb db nx) := hx2; have HFT : Hid (FI w2 (Pl.X ⟨p, dp, nb, mb⟩) (.slice ta r.T.length tc) r.T) := hft; have HFM : Hid (FI w2 (Pl.X ⟨p, dp, nb, mb⟩) (.slice ma r.M.length mc) r.M) := hfm; have HO2 : Hid (D.Off (Pl.X ⟨p, dp, nb, mb⟩) w1 w2) := ho2; unfold R.rootV; clear hft hfm hx2 hs2 ho2 H2))
          | (go_at_call_of 53 (1 : Int); obtain ⟨w3, hw3⟩ : ∃ w3, w3 = w2.alloc (.cells #[.int .i64 r.E, .int .i64 r.B, .int .i64 r.N, .int .i64 r.S, .slice ta r.T.length tc, .slice ma r.M.length mc] 94) := ⟨_, rfl⟩; rw [← hw3]; have HB23 : Hid (Below w2.heap.size w2 w3) := (by rw [hw3]; exact (Below.refl _ _).alloc (Nat.le_refl _) _); have hrow3 : w3.heap[w2.heap.size]? = some (.cells #[.int .i64 r.E, .int .i64 r.B, .int .i64 r.N, .int .i64 r.S, .slice ta r.T.length tc, .slice ma r.M.length mc] 94 (0, 0)) := (by rw [hw3]; exact heap_alloc_last _ _); have hbX : w2.heap.size ∉ (Pl.X ⟨p, dp, nb, mb⟩) := (fun hm => by have := HX1.out.lt _ hm; have := HO2.out.size; omega); refine (HP1.out _ _ _ _ _ _ _ _ _ _ _ (HX2.out.below HB23.out) (HFT.out.below HB23.out)).mono ?_; rintro e w4 ⟨wv, s4, rfl, hwv, hx4, hs4, ho4⟩; have hs4' := hs4 (by first | exact trivial | rfl); subst hs4'; have HX4 : Hid (Sx w4 ⟨p, dp, nb, mb⟩ (blankS d.room) d2 t f t' f' u sb db nx) := hx4; have HWV : Hid (FB w4 (Pl.X ⟨p, dp, nb, mb⟩) wv ws) := hwv; have HO34 : Hid (D.Off (Pl.X ⟨p, dp, nb, mb⟩) w3 w4) := ho4; have HO4 : Hid (D.Off (Pl.X ⟨p, dp, nb, mb⟩) w1 w4) := (HO2.out.trans (off_below HB23.out)).trans ho4; have HRow : Hid (∀ W, D.Off (Pl.X ⟨p, dp, nb, mb⟩) w3 W → W.heap[w2.heap.size]? = some (.cells #[.int .i64 r.E, .int .i64 r.B, .int .i64 r.N, .int .i64 r.S, .slice ta r.T.length tc, .slice ma r.M.length mc] 94 (0, 0))) := (fun W hW => (hW.block _ (row_lt hrow3) hbX).trans hrow3); obtain ⟨r0, r1, r2, r3, r4, r5⟩ := row6 (HRow.out _ ho4); clear hwv hx4 hs4 ho4 hw3 hrow3 HP1)
          | (go_at_call_of 53 (2 : Int); refine (HP2.out _ _ _ _ _ _ _ _ _ _ _ HX4.out ((HFM.out.below HB23.out).off HO34.out (fun _ h => h))).mono ?_; rintro e w5 ⟨mv, s5, rfl, hmv, hx5, hs5, ho5⟩; have HX5 : Hid (Sx w5 ⟨p, dp, nb, mb⟩ s5 d3 t f t' f' u sb db nx) := hx5; have HMV : Hid (FB w5 (Pl.X ⟨p, dp, nb, mb⟩) mv set) := hmv; have HO45 : Hid (D.Off (Pl.X ⟨p, dp, nb, mb⟩) w4 w5) := ho5; have HO5 : Hid (D.Off (Pl.X ⟨p, dp, nb, mb⟩) w1 w5) := HO4.out.trans ho5; have HWV5 : Hid (FB w5 (Pl.X ⟨p, dp, nb, mb⟩) wv ws) := HWV.out.off ho5 (fun _ h => h); obtain ⟨q0, q1, q2, q3, q4, q5⟩ := row6 (HRow.out _ (HO34.out.trans ho5)); clear hmv hx5 hs5 ho5 HP2)
          | fail)
        exact bodyPost_ret (v := .tuple #[.pointer none, .int .i64 e2]) (by simp [results, Tryz.results15, go_sem]) rfl (by rw [HEO.out]; unfold FmtPost; exact ⟨.inr ⟨he2, rfl⟩, HX5.out.dk, off_new HB1.out HO5.out hp⟩)
    · have he1' : (e1 == 0) = false := by simpa using he1
      have HEO : Hid (OO = (e1, blankS d.room, d2)) := HOO.out.trans (if_pos he1)
      clear HOO HTk HP2
      go_enter Tryz.func15, Tryz.ntmps15
      go_wp2_with (first
        | (go_at_call 51; refine HB.mono ?_; rintro e w1 ⟨p, t, f, t', f', u, sb, db, nx, rfl, hp, hx1, hb1⟩; have HX1 : Hid (Sx w1 ⟨p, dp, nb, mb⟩ (blankS d.room) d t f t' f' u sb db nx) := hx1; have HB1 : Hid (Below w.heap.size w w1) := hb1; have H2 := HRR.out _ _ _ _ _ _ _ _ _ _ hx1; clear hx1 hb1 HB HRR)
        | (go_at_call 52; (refine H2.mono ?_; rintro e w2 ⟨ta, tc, ma, mc, s2, rfl, hft, hfm, hx2, hs2, ho2⟩; have hs2' := hs2 (by first | exact trivial | rfl); subst hs2'; have HX2 : Hid (Sx w2 ⟨p, dp, nb, mb⟩ (blankS d.room) d1 t f t' f' u sb db nx) := hx2; have HFT : Hid (FI w2 (Pl.X ⟨p, dp, nb, mb⟩) (.slice ta r.T.length tc) r.T) := hft; have HFM : Hid (FI w2 (Pl.X ⟨p, dp, nb, mb⟩) (.slice ma r.M.length mc) r.M) := hfm; have HO2 : Hid (D.Off (Pl.X ⟨p, dp, nb, mb⟩) w1 w2) := ho2; unfold R.rootV; clear hft hfm hx2 hs2 ho2 H2))
        | (go_at_call_of 53 (1 : Int); obtain ⟨w3, hw3⟩ : ∃ w3, w3 = w2.alloc (.cells #[.int .i64 r.E, .int .i64 r.B, .int .i64 r.N, .int .i64 r.S, .slice ta r.T.length tc, .slice ma r.M.length mc] 94) := ⟨_, rfl⟩; rw [← hw3]; have HB23 : Hid (Below w2.heap.size w2 w3) := (by rw [hw3]; exact (Below.refl _ _).alloc (Nat.le_refl _) _); have hrow3 : w3.heap[w2.heap.size]? = some (.cells #[.int .i64 r.E, .int .i64 r.B, .int .i64 r.N, .int .i64 r.S, .slice ta r.T.length tc, .slice ma r.M.length mc] 94 (0, 0)) := (by rw [hw3]; exact heap_alloc_last _ _); have hbX : w2.heap.size ∉ (Pl.X ⟨p, dp, nb, mb⟩) := (fun hm => by have := HX1.out.lt _ hm; have := HO2.out.size; omega); refine (HP1.out _ _ _ _ _ _ _ _ _ _ _ (HX2.out.below HB23.out) (HFT.out.below HB23.out)).mono ?_; rintro e w4 ⟨wv, s4, rfl, hwv, hx4, hs4, ho4⟩; have HX4 : Hid (Sx w4 ⟨p, dp, nb, mb⟩ s4 d2 t f t' f' u sb db nx) := hx4; have HWV : Hid (FB w4 (Pl.X ⟨p, dp, nb, mb⟩) wv ws) := hwv; have HO34 : Hid (D.Off (Pl.X ⟨p, dp, nb, mb⟩) w3 w4) := ho4; have HO4 : Hid (D.Off (Pl.X ⟨p, dp, nb, mb⟩) w1 w4) := (HO2.out.trans (off_below HB23.out)).trans ho4; have HRow : Hid (∀ W, D.Off (Pl.X ⟨p, dp, nb, mb⟩) w3 W → W.heap[w2.heap.size]? = some (.cells #[.int .i64 r.E, .int .i64 r.B, .int .i64 r.N, .int .i64 r.S, .slice ta r.T.length tc, .slice ma r.M.length mc] 94 (0, 0))) := (fun W hW => (hW.block _ (row_lt hrow3) hbX).trans hrow3); obtain ⟨r0, r1, r2, r3, r4, r5⟩ := row6 (HRow.out _ ho4); clear hwv hx4 hs4 ho4 hw3 hrow3 HP1)
        | fail)
      exact bodyPost_ret (v := .tuple #[.pointer none, .int .i64 e1]) (by simp [results, Tryz.results15, go_sem]) rfl (by rw [HEO.out]; unfold FmtPost; exact ⟨.inr ⟨he1, rfl⟩, HX4.out.dk, off_new HB1.out HO4.out hp⟩)
  · have he0' : (e0 == 0) = false := by simpa using he0
    have HOO : Hid (OO = (e0, blankS d.room, d1)) := hOO.trans (if_pos he0)
    clear hOO hok
    unfold RrPost at HRR
    go_enter Tryz.func15, Tryz.ntmps15
    go_wp2_with (first
      | (go_at_call 51; refine HB.mono ?_; rintro e w1 ⟨p, t, f, t', f', u, sb, db, nx, rfl, hp, hx1, hb1⟩; have HX1 : Hid (Sx w1 ⟨p, dp, nb, mb⟩ (blankS d.room) d t f t' f' u sb db nx) := hx1; have HB1 : Hid (Below w.heap.size w w1) := hb1; have H2 := HRR.out _ _ _ _ _ _ _ _ _ _ hx1; clear hx1 hb1 HB HRR)
      | (go_at_call 52; refine H2.mono ?_; rintro e w2 ⟨ta, tc, ma, mc, s2, rfl, hft, hfm, hx2, hs2, ho2⟩; have HX2 : Hid (Sx w2 ⟨p, dp, nb, mb⟩ s2 d1 t f t' f' u sb db nx) := hx2; have HS2 : Hid (e0 = 0 → s2 = blankS d.room) := hs2; have HFT : Hid (FI w2 (Pl.X ⟨p, dp, nb, mb⟩) (.slice ta r.T.length tc) r.T) := hft; have HFM : Hid (FI w2 (Pl.X ⟨p, dp, nb, mb⟩) (.slice ma r.M.length mc) r.M) := hfm; have HO2 : Hid (D.Off (Pl.X ⟨p, dp, nb, mb⟩) w1 w2) := ho2; unfold R.rootV; clear hft hfm hx2 hs2 ho2 H2)
      | fail)
    have hal : D.Off (Pl.X ⟨p, dp, nb, mb⟩) w1 (w2.alloc (.cells #[.int .i64 r.E, .int .i64 r.B, .int .i64 r.N, .int .i64 r.S, .slice ta r.T.length tc, .slice ma r.M.length mc] 94)) := HO2.out.alloc _
    exact bodyPost_ret (v := .tuple #[.pointer none, .int .i64 e0]) (by simp [results, Tryz.results15, go_sem]) rfl (by rw [HOO.out]; unfold FmtPost; exact ⟨.inr ⟨he0, rfl⟩, HX2.out.dk.below ((Below.refl _ _).alloc (Nat.le_refl _) _), off_new HB1.out hal hp⟩)
end Go.Proofs.YtelhlikeefpjnaaGreat
namespace Go.Proofs.YtelhlikeefpjnaaGreat
set_option maxRecDepth 20000
open Go.RowKit
set_option linter.unusedVariables false
set_option linter.unusedSimpArgs false
theorem place_bl (s : SS) (d : D.DS) (id : Nat) (zs : List Int) : (placeR s d id zs).2.1.bl = s.bl := by
  unfold placeR
  cases freeL s with
  | nil => rfl
  | cons n rest => simp only; split <;> rfl
theorem alloc_bl (s : SS) (d : D.DS) (kd : Int) (zs : List Int) : (allocR s d kd zs).1.bl = s.bl := by
  unfold allocR; split; rfl; exact place_bl _ _ _ _
theorem wr_bl (s : SS) (d : D.DS) (id kd : Int) (zs : List Int) : (wrR s d id kd zs).2.1.bl = s.bl := by
  unfold wrR; split; rfl; split; rfl; split; rfl; exact place_bl _ _ _ _
theorem fr_bl (s : SS) (d : D.DS) (id : Int) : (frR s d id).2.1.bl = s.bl := by unfold frR; split; rfl; split <;> rfl
theorem st_bl (s : SS) (d : D.DS) (id : Int) : (stR s d id).2.1.bl = s.bl := by unfold stR; split; rfl; split; rfl; split <;> rfl
theorem ab_bl (s : SS) (d : D.DS) : (abR s d).2.1.bl = s.bl := by unfold abR; split <;> rfl
theorem rd_bl (s : SS) (d : D.DS) (id : Int) : (rdR s d id).1.bl = s.bl := by unfold rdR; split <;> rfl
theorem settle_bl (s : SS) (d : D.DS) (ep : Int) (us2 : List Int) : (settleR s d ep us2).2.1.bl = s.bl := by
  unfold settleR
  split
  · rfl
  · split
    · rfl
    · split <;> rfl
theorem com_bl (s : SS) (d : D.DS) (us2 : List Int) : (comR s d us2).2.1.bl = s.bl := by
  unfold comR; split; rfl; split; rfl; exact settle_bl _ _ _ _
theorem m_write {w0 : World} {k : Pl} {s : SS} {d : D.DS} (id kd : Int) (a : Option Addr) (cap : Nat) (zs : List Int) (w : World) (h : Mi w0 w k s d) (hv : BV w a zs) (hn : a = none → cap = 0) (hm : zs.length ≤ 9223372036854775807) :
    Calls Tryz.prog 19 #[.pointer (some ⟨k.p, 0, none⟩), .int .i64 id, .int .i64 kd, .slice a zs.length cap] w fun e w' => e = .returned (.int .i64 (wrR s d id kd zs).1) ∧ Mi w0 w' k (wrR s d id kd zs).2.1 (wrR s d id kd zs).2.2 ∧ D.Off k.X w w' := by
  obtain ⟨t, f, t', f', u, sb, db, nx, hx⟩ := h.sy
  refine (write_s id kd a cap zs w hx h.inv.core.ok hv hn hm).mono ?_
  rintro e w' ⟨rfl, hy, ho⟩
  exact ⟨rfl, h.step hy (write_keep h.inv d id kd zs) (wr_room s d id kd zs) (wr_bl s d id kd zs) ho, ho⟩
theorem m_free {w0 : World} {k : Pl} {s : SS} {d : D.DS} (id : Int) (w : World) (h : Mi w0 w k s d)  :
    Calls Tryz.prog 20 #[.pointer (some ⟨k.p, 0, none⟩), .int .i64 id] w fun e w' => e = .returned (.int .i64 (frR s d id).1) ∧ Mi w0 w' k (frR s d id).2.1 (frR s d id).2.2 ∧ D.Off k.X w w' := by
  obtain ⟨t, f, t', f', u, sb, db, nx, hx⟩ := h.sy
  refine (frees_s id w hx h.inv.core.ok).mono ?_
  rintro e w' ⟨rfl, hy, ho⟩
  exact ⟨rfl, h.step hy (free_keep h.inv d id) (fr_room s d id) (fr_bl s d id) ho, ho⟩
theorem m_setstart {w0 : World} {k : Pl} {s : SS} {d : D.DS} (id : Int) (w : World) (h : Mi w0 w k s d)  :
    Calls Tryz.prog 21 #[.pointer (some ⟨k.p, 0, none⟩), .int .i64 id] w fun e w' => e = .returned (.int .i64 (stR s d id).1) ∧ Mi w0 w' k (stR s d id).2.1 (stR s d id).2.2 ∧ D.Off k.X w w' := by
  obtain ⟨t, f, t', f', u, sb, db, nx, hx⟩ := h.sy
  refine (setstart_s id w hx h.inv.core.ok).mono ?_
  rintro e w' ⟨rfl, hy, ho⟩
  exact ⟨rfl, h.step hy (start_keep h.inv d id) (st_room s d id) (st_bl s d id) ho, ho⟩
theorem m_abort {w0 : World} {k : Pl} {s : SS} {d : D.DS}  (w : World) (h : Mi w0 w k s d)  :
    Calls Tryz.prog 23 #[.pointer (some ⟨k.p, 0, none⟩)] w fun e w' => e = .returned (.int .i64 (abR s d).1) ∧ Mi w0 w' k (abR s d).2.1 (abR s d).2.2 ∧ D.Off k.X w w' := by
  obtain ⟨t, f, t', f', u, sb, db, nx, hx⟩ := h.sy
  refine (abort_s w hx).mono ?_
  rintro e w' ⟨rfl, hy, ho⟩
  exact ⟨rfl, h.step hy (abort_keep h.inv d) (ab_room s d) (ab_bl s d) ho, ho⟩
theorem m_commit {w0 : World} {k : Pl} {s : SS} {d : D.DS}  (w : World) (h : Mi w0 w k s d)  :
    Calls Tryz.prog 22 #[.pointer (some ⟨k.p, 0, none⟩)] w fun e w' => e = .returned (.int .i64 (comR s d (us2S s)).1) ∧ Mi w0 w' k (comR s d (us2S s)).2.1 (comR s d (us2S s)).2.2 ∧ D.Off k.X w w' := by
  obtain ⟨t, f, t', f', u, sb, db, nx, hx⟩ := h.sy
  refine (commit_s (us2S s) w hx h.inv.core.ok h.inv.core.b1 (fun _ => (us2_once h.inv.core).1)).mono ?_
  rintro e w' ⟨rfl, hy, ho⟩
  exact ⟨rfl, h.step hy (commit_keep h.inv d) (com_room s d (us2S s)) (com_bl s d (us2S s)) ho, ho⟩
theorem m_alloc {w0 : World} {k : Pl} {s : SS} {d : D.DS} (kd : Int) (a : Option Addr) (cap : Nat) (zs : List Int) (w : World) (h : Mi w0 w k s d) (hv : BV w a zs) (hn : a = none → cap = 0) (hm : zs.length ≤ 9223372036854775807) :
    Calls Tryz.prog 17 #[.pointer (some ⟨k.p, 0, none⟩), .int .i64 kd, .slice a zs.length cap] w fun e w' => e = .returned (.tuple #[.int .i64 (allocI s d kd zs), .int .i64 (allocE s d kd zs)]) ∧ Mi w0 w' k (allocR s d kd zs).1 (allocR s d kd zs).2 ∧ D.Off k.X w w' := by
  obtain ⟨t, f, t', f', u, sb, db, nx, hx⟩ := h.sy
  refine (alloc_s kd a cap zs w hx h.inv.core.ok hv hn hm).mono ?_
  rintro e w' ⟨rfl, hy, ho⟩
  exact ⟨rfl, h.step hy (alloc_keep h.inv d kd zs) (alloc_room s d kd zs) (alloc_bl s d kd zs) ho, ho⟩
theorem m_read {w0 : World} {k : Pl} {s : SS} {d : D.DS} (id : Int) (w : World) (h : Mi w0 w k s d) :
    Calls Tryz.prog 18 #[.pointer (some ⟨k.p, 0, none⟩), .int .i64 id] w fun e w' => ∃ v, e = .returned (.tuple #[.int .i64 (rdKd s d id), v, .int .i64 (rdE s d id)]) ∧ FB w' k.X v (rdBy s d id) ∧ Mi w0 w' k (rdR s d id).1 (rdR s d id).2 ∧ D.Off k.X w w' := by
  obtain ⟨t, f, t', f', u, sb, db, nx, hx⟩ := h.sy
  refine (read_s id w hx h.inv.core.ok).mono ?_
  rintro e w' ⟨v, rfl, hv, hy, ho⟩
  exact ⟨v, rfl, hv, h.step hy (read_keep h.inv d id) (rd_room s d id) (rd_bl s d id) ho, ho⟩
theorem m_used {w0 : World} {k : Pl} {s : SS} {d : D.DS} (w : World) (h : Mi w0 w k s d) : Calls Tryz.prog 26 #[.pointer (some ⟨k.p, 0, none⟩)] w fun e w' => e = .returned (.int .i64 (usedN s : Nat)) ∧ Mi w0 w' k s d ∧ Below w.heap.size w w' := by
  obtain ⟨t, f, t', f', u, sb, db, nx, hx⟩ := h.sy
  refine (used_s w hx h.inv.core.ok).mono ?_
  rintro e w' ⟨rfl, hb⟩
  exact ⟨rfl, h.below hb, hb⟩
theorem m_ids {w0 : World} {k : Pl} {s : SS} {d : D.DS} (w : World) (h : Mi w0 w k s d) : Calls Tryz.prog 27 #[.pointer (some ⟨k.p, 0, none⟩)] w fun e w' => ∃ v, e = .returned v ∧ B.OwnN w' w.heap.size v (idsS s.c.tb) ∧ Mi w0 w' k s d ∧ Below w.heap.size w w' := by
  obtain ⟨t, f, t', f', u, sb, db, nx, hx⟩ := h.sy
  refine (ids_s w hx (by have := h.inv.core.ok.c.tb.len; omega)).mono ?_
  rintro e w' ⟨v, rfl, ho, hb⟩
  exact ⟨v, rfl, ho, h.below hb, hb⟩
theorem m_start {w0 : World} {k : Pl} {s : SS} {d : D.DS} (w : World) (h : Mi w0 w k s d) : Calls Tryz.prog 24 #[.pointer (some ⟨k.p, 0, none⟩)] w fun e w' => e = .returned (.int .i64 s.c.st) ∧ w' = w := by
  obtain ⟨t, f, t', f', u, sb, db, nx, hx⟩ := h.sy
  exact start_s w hx
theorem m_epoch {w0 : World} {k : Pl} {s : SS} {d : D.DS} (w : World) (h : Mi w0 w k s d) : Calls Tryz.prog 25 #[.pointer (some ⟨k.p, 0, none⟩)] w fun e w' => e = .returned (.int .i64 s.ep) ∧ w' = w := by
  obtain ⟨t, f, t', f', u, sb, db, nx, hx⟩ := h.sy
  exact epoch_s w hx
theorem m_dirty {w0 : World} {k : Pl} {s : SS} {d : D.DS} (w : World) (h : Mi w0 w k s d) : Calls Tryz.prog 28 #[.pointer (some ⟨k.p, 0, none⟩)] w fun e w' => e = .returned (.bool s.c.dt) ∧ w' = w := by
  obtain ⟨t, f, t', f', u, sb, db, nx, hx⟩ := h.sy
  exact dirty_s w hx
theorem m_format {w0 : World} {dp nb mb : Nat} {d : D.DS} (w : World) (h : D.Dk w dp nb mb d) (hup : ∀ x ∈ [dp, nb, mb], w0.heap.size ≤ x) (hbe : Below w0.heap.size w0 w) (h2 : 2 ≤ d.room) :
    Calls Tryz.prog 16 #[.pointer (some ⟨dp, 0, none⟩)] w fun e w' => (((fmtS d).1 = 0 ∧ ∃ p, e = .returned (.tuple #[.pointer (some ⟨p, 0, none⟩), .int .i64 0]) ∧ Mi w0 w' ⟨p, dp, nb, mb⟩ (fmtS d).2.1 (fmtS d).2.2) ∨ ((fmtS d).1 ≠ 0 ∧ e = .returned (.tuple #[.pointer none, .int .i64 (fmtS d).1]))) ∧ D.Dk w' dp nb mb (fmtS d).2.2 ∧ D.Off [dp, nb, mb] w w' := by
  have hr := h.1.room
  refine (format_any dp nb mb d (us2S (blankS d.room)) w h (fun _ => fmt_once h2 hr)).mono ?_
  rintro e w' ⟨hc, hd, ho⟩
  refine ⟨?_, hd, ho⟩
  rcases hc with ⟨h0, p, he, hp, hy⟩ | ⟨h0, he⟩
  · obtain ⟨hi, hf⟩ := fmt_keep hr h0
    refine .inl ⟨h0, p, he, hy, hi, ?_, fun x hx => ?_, hbe.trans (ho.below hbe.size hup)⟩
    · show (fmtR d _).2.2.room = (fmtS d).2.1.bl
      rw [fmt_room, hf]; rfl
    · simp [Pl.X] at hx
      rcases hx with rfl | hx
      · have := hbe.size; omega
      · exact hup x (by simp; exact hx)
  · exact .inr ⟨h0, he⟩
end Go.Proofs.YtelhlikeefpjnaaGreat
namespace Go.Proofs.YtelhlikeefpjnaaGreat
set_option maxRecDepth 20000
open Go.RowKit
set_option linter.unusedVariables false
theorem once_conv {bl : Nat} : ∀ {l m us : List Int}, onceR bl m l = some us → (∀ z ∈ l, 0 ≤ z) → bl ≤ 8 * m.length → (∀ z ∈ l, z ≠ 0 → z < bl ∧ B.hasB m z.toNat = false) ∧ Part l
  | [], m, us, _, _, _ => ⟨fun z hz => (by cases hz), List.Pairwise.nil⟩
  | z :: l, m, us, h, h0, hb => by
    have hl0 : ∀ y ∈ l, 0 ≤ y := fun y hy => h0 y (List.mem_cons_of_mem _ hy)
    unfold onceR at h
    split at h
    · rename_i hz
      obtain ⟨h1, h2⟩ := once_conv h hl0 hb
      refine ⟨fun y hy hy0 => ?_, List.pairwise_cons.2 ⟨fun y _ hz0 => absurd hz hz0, h2⟩⟩
      rcases List.mem_cons.1 hy with e | e
      · exact absurd (e.trans hz) hy0
      · exact h1 y e hy0
    · rename_i hz
      split at h
      · cases h
      · rename_i hc
        have hz0 := h0 z (by simp)
        have hzb : z < bl := by
          rcases Int.lt_or_le z bl with h | h
          · exact h
          · exact absurd (Or.inl h) hc
        have hlt : z.toNat < 8 * m.length := by omega
        have hzm : B.hasB m z.toNat = false := by
          rw [← hasI_nat' m z hz0]
          cases e : B.hasI m z
          · rfl
          · exact absurd (Or.inr e) hc
        obtain ⟨h1, h2⟩ := once_conv h hl0 (by rw [withI_len]; exact hb)
        have h3 : ∀ y ∈ l, y ≠ 0 → y ≠ z ∧ B.hasB m y.toNat = false := fun y hy hy0 => by
          have := (h1 y hy hy0).2
          rw [has_with true hz0 hlt] at this
          have hyl := hl0 y hy
          by_cases e : y.toNat = z.toNat
          · rw [if_pos e] at this; cases this
          · rw [if_neg e] at this; exact ⟨fun e2 => e (by rw [e2]), this⟩
        refine ⟨fun y hy hy0 => ?_, List.pairwise_cons.2 ⟨fun y hy _ hy0 e => (h3 y hy hy0).1 e.symm, h2⟩⟩
        rcases List.mem_cons.1 hy with e | e
        · rw [e]; exact ⟨hzb, hzm⟩
        · exact ⟨(h1 y e hy0).1, (h3 y e hy0).2⟩
theorem part_inj {tb : List Int} (h : Part tb) : Inj tb := by
  intro i j hi e
  have h1 := (get_mem hi).2
  have h2 := (get_mem (l := tb) (i := j) (by rw [← e]; exact hi)).2
  unfold Part at h
  rw [List.pairwise_iff_getElem] at h
  have gi : tb.getD i 0 = tb[i] := by rw [List.getD_eq_getElem?_getD, List.getElem?_eq_getElem h1]; rfl
  have gj : tb.getD j 0 = tb[j] := by rw [List.getD_eq_getElem?_getD, List.getElem?_eq_getElem h2]; rfl
  rw [gi] at hi e
  rw [gj] at e
  rcases Nat.lt_trichotomy i j with hij | hij | hij
  · exact absurd e (h i j h1 h2 hij hi (by rw [← e]; exact hi))
  · exact hij
  · exact absurd e.symm (h j i h2 h1 hij (by rw [← e]; exact hi) hi)
theorem un_nonneg {zs : List Int} (h : AllB zs) : ∀ z ∈ unL zs, 0 ≤ z := by
  intro z hz
  unfold unL at hz
  split at hz
  · unfold unS at hz
    obtain ⟨i, _, rfl⟩ := List.mem_map.1 hz
    have h1 := byte_at h (2 * i)
    have h2 := byte_at h (2 * i + 1)
    omega
  · cases hz
theorem take_held {bl : Nat} {r : R.RD} {ws set : List Int} (ht : takeB bl r ws set = true) (hr : r.Ok) (h2 : 2 ≤ bl) (hbl : bl ≤ 4096) (hws : AllB ws) : SInv ((blankS bl).hold r.E r.S (unL ws) set) := by
  unfold takeB at ht
  simp only [Bool.and_eq_true, decide_eq_true_eq] at ht
  obtain ⟨⟨⟨⟨_, hN⟩, _⟩, hS⟩, ho⟩ := ht
  have hnn := un_nonneg hws
  generalize unL ws = tb at *
  have hlen : bl ≤ 8 * (rootsS bl).length := by rw [show (rootsS bl).length = _ from rootsK_len bl 2]; unfold B.makeN; omega
  have h0 : ∀ z ∈ r.T ++ r.M ++ tb, 0 ≤ z := fun z hz => by
    rcases List.mem_append.1 hz with h | h
    · rcases List.mem_append.1 h with h | h
      · have := hr.tb z h; omega
      · have := hr.mb z h; omega
    · exact hnn z h
  obtain ⟨c1, c2⟩ := once_conv ho h0 hlen
  have hge : ∀ z ∈ r.T ++ r.M ++ tb, z = 0 ∨ (2 ≤ z ∧ z < bl) := fun z hz => by
    by_cases e : z = 0
    · exact .inl e
    · obtain ⟨a, b⟩ := c1 z hz e
      rw [has_roots (by omega) hbl] at b
      have := h0 z hz
      have hb' : ¬ z.toNat < 2 := by simpa using b
      exact .inr ⟨by omega, a⟩
  obtain ⟨us', e1, hhas⟩ := once_some hge c2 (fun z hz hz0 => (c1 z hz hz0).2) hlen
  rw [ho] at e1
  obtain rfl := Option.some.inj e1
  have hin : ∀ z ∈ tb, z ≠ 0 → B.hasB set z.toNat = true := fun z hz hz0 => by
    have hzr := (hge z (List.mem_append_right _ hz)).resolve_left hz0
    rw [hhas, decide_eq_true (p := z.toNat ≠ 0 ∧ _) ⟨by omega, by rw [Int.toNat_of_nonneg (by omega)]; exact List.mem_append_right _ hz⟩]
    simp
  have hpt : Part tb := (List.pairwise_append.1 c2).2.1
  have hz : ∀ n, B.hasB (List.replicate (B.makeN bl) 0) n = false := fun n => has_zeros _ n
  have hch : ChOk bl ⟨tb, r.S, List.replicate (B.makeN bl) 0, false⟩ := by
    refine ⟨⟨by have := hr.n1; show tb.length ≤ 3000; omega, fun z hz => hge z (List.mem_append_right _ hz)⟩, ?_, by simp, zeros_allB _⟩
    show r.S = 0 ∨ blkI tb r.S ≠ 0
    unfold someB at hS
    rw [Bool.or_eq_true, decide_eq_true_eq] at hS
    rcases hS with h | h
    · exact .inl h
    · by_cases e : r.S = 0
      · exact .inl e
      · refine .inr ?_
        have hs0 := hr.s0
        have hs1 := hr.s1
        unfold blkI
        rw [if_neg (by omega)]
        simpa using h
  refine ⟨⟨⟨hbl, hch, .inl hch, by show set.length = _; rw [onceR_len ho]; exact rootsK_len bl 2, onceR_all ho (rootsK_all bl 2), hr.e0, hr.e1⟩, by show 1 ≤ bl; omega, part_inj hpt, fun z hz h0 => ?_, ⟨?_, ?_⟩, fun n hn => ?_, fun n hn => ?_⟩, hch, part_inj hpt, hin, hz, rfl, fun _ => rfl⟩
  · show (B.hasB set z.toNat || _) = true
    rw [hin z hz h0]; rfl
  · show B.hasB set 0 = true
    rw [hhas, has_roots (by omega) hbl]; simp
  · show B.hasB set 1 = true
    rw [hhas, has_roots (by omega) hbl]; simp
  · have : B.hasB (List.replicate (B.makeN bl) 0) n = true := hn
    rw [hz n] at this; cases this
  · show n < bl
    have hn' : B.hasB set n = true := hn
    rw [hhas, has_roots (by omega) hbl, Bool.or_eq_true, decide_eq_true_eq, decide_eq_true_eq] at hn'
    rcases hn' with h3 | ⟨h3, h4⟩
    · omega
    · have := (hge _ h4).resolve_left (by omega); omega
theorem rp_ok (kd : Int) : ∀ (bs : List Int) (i : Nat) (acc : List Int) (d : D.DS), AllB acc → d.Ok → AllB (rpR kd i bs acc d).2.1 ∧ (rpR kd i bs acc d).2.2.Ok ∧ (rpR kd i bs acc d).2.2.room = d.room
  | [], i, acc, d, ha, hd => ⟨ha, hd, rfl⟩
  | b :: bs, i, acc, d, ha, hd => by
    have hd' := D.readS_ok hd b
    unfold rpR
    split
    · exact ⟨AllB.nil, hd', readS_room _ _⟩
    · split
      · exact ⟨AllB.nil, hd', readS_room _ _⟩
      · obtain ⟨h1, h2, h3⟩ := rp_ok kd bs (i + 1) (acc ++ opB (D.readB d b)) (D.readS d b) (ha.append (opB_all (D.readB_allB hd b))) hd'
        exact ⟨h1, h2, h3.trans (readS_room _ _)⟩
theorem rr_room {bl : Nat} {d : D.DS} (h : d.Ok) : (rrR bl d).2.2.Ok ∧ (rrR bl d).2.2.room = d.room := by
  have h1 := D.readS_ok h 0
  have h2 := D.readS_ok h1 1
  have r1 := readS_room d 0
  have r2 := (readS_room (D.readS d 0) 1).trans r1
  unfold rrR
  split
  · exact ⟨h1, r1⟩
  · split
    · exact ⟨h2, r2⟩
    · split
      · exact ⟨h2, r2⟩
      · split
        · exact ⟨h2, r2⟩
        · exact ⟨h2, r2⟩
theorem open_keep {d : D.DS} (h : d.Ok) (h2 : 2 ≤ d.room) (he : (openR d).1 = 0) : SInv (openR d).2.1 ∧ (openR d).2.1.bl = d.room := by
  have hr := h.room
  have hrr := rr_room (bl := d.room) h
  have hok := rr_ok (bl := d.room) (d := d)
  unfold openR at he ⊢
  generalize rrR d.room d = Q at *
  obtain ⟨e0, r, d1⟩ := Q
  simp only at he hok hrr ⊢
  split at he
  · rename_i q; exact absurd he q
  · rename_i q
    rw [if_neg q]
    have hrok := hok (by simpa using q)
    obtain ⟨w1, w2, w3⟩ := rp_ok 1 r.T 0 [] d1 AllB.nil hrr.1
    split at he
    · rename_i q; exact absurd he q
    · rename_i q
      rw [if_neg q]
      split at he
      · rename_i q; exact absurd he q
      · rename_i q
        rw [if_neg q]
        unfold takeR at he ⊢
        split at he
        · rename_i ht
          rw [if_pos ht]
          exact ⟨take_held ht hrok h2 hr w1, rfl⟩
        · cases he
theorem open_room {d : D.DS} (h : d.Ok) : (openR d).2.2.room = d.room := by
  have hrr := rr_room (bl := d.room) h
  unfold openR
  generalize rrR d.room d = Q at *
  obtain ⟨e0, r, d1⟩ := Q
  simp only at hrr ⊢
  obtain ⟨w1, w2, w3⟩ := rp_ok 1 r.T 0 [] d1 AllB.nil hrr.1
  obtain ⟨x1, x2, x3⟩ := rp_ok 2 r.M 0 [] (rpR 1 0 r.T [] d1).2.2 AllB.nil w2
  split
  · exact hrr.2
  · split
    · exact w3.trans hrr.2
    · split
      · exact x3.trans (w3.trans hrr.2)
      · unfold takeR
        split <;> exact x3.trans (w3.trans hrr.2)
theorem m_open {w0 : World} {dp nb mb : Nat} {d : D.DS} (w : World) (h : D.Dk w dp nb mb d) (hup : ∀ x ∈ [dp, nb, mb], w0.heap.size ≤ x) (hbe : Below w0.heap.size w0 w) (h2 : 2 ≤ d.room) :
    Calls Tryz.prog 15 #[.pointer (some ⟨dp, 0, none⟩)] w fun e w' => (((openR d).1 = 0 ∧ ∃ p, e = .returned (.tuple #[.pointer (some ⟨p, 0, none⟩), .int .i64 0]) ∧ Mi w0 w' ⟨p, dp, nb, mb⟩ (openR d).2.1 (openR d).2.2) ∨ ((openR d).1 ≠ 0 ∧ e = .returned (.tuple #[.pointer none, .int .i64 (openR d).1]))) ∧ D.Dk w' dp nb mb (openR d).2.2 ∧ D.Off [dp, nb, mb] w w' := by
  have hd0 := h.1
  refine (open_s dp nb mb d w h).mono ?_
  rintro e w' ⟨hc, hd, ho⟩
  refine ⟨?_, hd, ho⟩
  rcases hc with ⟨h0, p, he, hp, hy⟩ | ⟨h0, he⟩
  · obtain ⟨hi, hf⟩ := open_keep hd0 h2 h0
    refine .inl ⟨h0, p, he, hy, hi, ?_, fun x hx => ?_, hbe.trans (ho.below hbe.size hup)⟩
    · rw [open_room hd0, hf]
    · simp [Pl.X] at hx
      rcases hx with rfl | hx
      · have := hbe.size; omega
      · exact hup x (by simp; exact hx)
  · exact .inr ⟨h0, he⟩
end Go.Proofs.YtelhlikeefpjnaaGreat
namespace Go.Proofs.YtelhlikeefpjnaaGreat
set_option maxRecDepth 100000
open Go.RowKit
noncomputable def w0F : Int × SS × D.DS := fmtS (D.newS 20)
theorem aw_t1 : w0F.1 = 0 := by decide +kernel
theorem aw_t2 : w0F.2.2.ops = 5 := by decide +kernel
noncomputable def w0A : SS × D.DS := allocR w0F.2.1 w0F.2.2 5 [120]
theorem aw_t3 : allocE w0F.2.1 w0F.2.2 5 [120] = 0 := by decide +kernel
theorem aw_t3b : allocI w0F.2.1 w0F.2.2 5 [120] = 1 := by decide +kernel
theorem aw_t4 : usedN w0A.1 = 4 := by decide +kernel
theorem aw_t5 : w0A.1.c.dt = true := by decide +kernel
noncomputable def w0C : Int × SS × D.DS := comR w0A.1 w0A.2 (us2S w0A.1)
theorem aw_t6 : w0C.1 = 0 := by decide +kernel
theorem aw_t7 : usedN w0C.2.1 = 5 := by decide +kernel
theorem aw_t8 : w0C.2.1.ep = 1 := by decide +kernel
noncomputable def w0D : D.DS := D.crashS w0C.2.2 []
def rt0 : R.RD := ⟨0, 20, 0, 0, [], [2]⟩
def rt1 : R.RD := ⟨1, 20, 1, 0, [4], [5]⟩
theorem aw_t9 : D.readB w0D 0 = R.putS rt0 := by decide +kernel
theorem aw_t10 : D.readB (D.readS w0D 0) 1 = R.putS rt1 := by decide +kernel
theorem ok0 : rt0.Ok := R.ok_checkE (by decide)
theorem ok1 : rt1.Ok := R.ok_checkE (by decide)
theorem aw_t11 : D.reachE w0D 0 = 0 := by decide +kernel
theorem aw_t12 : D.reachE (D.readS w0D 0) 1 = 0 := by decide +kernel
noncomputable def w0E : D.DS := D.readS (D.readS w0D 0) 1
theorem aw_t13 : R.chS (R.putS rt0) (R.putS rt1) 2 = ⟨rt1, 1, 0⟩ := by
  have g0 := R.get_put ok0
  have g1 := R.get_put ok1
  show R.pick 1 (R.putS rt1) (R.pick 0 (R.putS rt0) ⟨R.zero, 0, 4⟩) = _
  have p0 : R.pick 0 (R.putS rt0) ⟨R.zero, 0, 4⟩ = ⟨rt0, 0, 0⟩ := by
    rw [R.pick_take (i := 0) (zs := R.putS rt0) (by rw [g0]) (by rw [g0]; decide) (.inl (by decide)), g0]
  rw [p0, R.pick_take (i := 1) (zs := R.putS rt1) (by rw [g1]) (by rw [g1]; decide) (.inr (by rw [g1]; decide)), g1]
theorem w0room : w0D.room = 20 := by decide +kernel
theorem aw_t14 : rrR 20 w0D = (0, rt1, w0E) := by
  unfold rrR
  rw [if_neg (by rw [aw_t11]; decide), if_neg (by rw [aw_t12]; decide), aw_t9, aw_t10, aw_t13, if_neg (by decide), if_neg (by decide)]
  rfl
theorem aw_t15 : D.readB w0E 4 = sealS 1 0 [0, 3] := by decide +kernel
theorem aw_t16 : D.readB (D.readS w0E 4) 5 = sealS 2 0 [220, 0, 0] := by decide +kernel
theorem aw_t17 : D.reachE w0E 4 = 0 := by decide +kernel
theorem aw_t18 : D.reachE (D.readS w0E 4) 5 = 0 := by decide +kernel
theorem aw_t19 : rpR 1 0 rt1.T [] w0E = (0, [0, 3], D.readS w0E 4) := by
  obtain ⟨h1, h2, h3, h4⟩ := op_seal (k := 1) (id := 0) (zs := [0, 3]) (by decide)
  show rpR 1 0 [4] [] w0E = _
  unfold rpR
  rw [if_neg (by rw [aw_t17]; decide), aw_t15, h1, h2, h3, h4, if_neg (by simp)]
  rfl
theorem aw_t20 : rpR 2 0 rt1.M [] (D.readS w0E 4) = (0, [220, 0, 0], D.readS (D.readS w0E 4) 5) := by
  obtain ⟨h1, h2, h3, h4⟩ := op_seal (k := 2) (id := 0) (zs := [220, 0, 0]) (by decide)
  show rpR 2 0 [5] [] (D.readS w0E 4) = _
  unfold rpR
  rw [if_neg (by rw [aw_t18]; decide), aw_t16, h1, h2, h3, h4, if_neg (by simp)]
  rfl
theorem aw_t21 : takeB 20 rt1 [0, 3] [220, 0, 0] = true := by decide +kernel
noncomputable def w0G : D.DS := D.readS (D.readS w0E 4) 5
def w0S : SS := (blankS 20).hold 1 0 [3] [220, 0, 0]
theorem aw_t22 : openR w0D = (0, w0S, w0G) := by
  unfold openR
  rw [w0room, aw_t14]
  simp only
  rw [if_neg (by simp), aw_t19]
  simp only
  rw [if_neg (by simp), aw_t20]
  simp only
  rw [if_neg (by simp)]
  unfold takeR
  rw [show (blankS 20).bl = 20 from rfl, if_pos aw_t21]
  rfl
theorem aw_t23 : D.readB w0G 3 = sealS 5 1 [120] := by decide +kernel
theorem aw_t24 : D.reachE w0G 3 = 0 := by decide +kernel
theorem aw_t25 : rdE w0S w0G 1 = 0 ∧ rdKd w0S w0G 1 = 5 ∧ rdBy w0S w0G 1 = [120] ∧ (rdR w0S w0G 1).2.reads = 5 := by
  obtain ⟨h1, h2, h3, h4⟩ := op_seal (k := 5) (id := 1) (zs := [120]) (by decide)
  have f1 : findE w0S 1 = 0 := by decide +kernel
  have f2 : findN w0S 1 = 3 := by decide +kernel
  have e : rbE (sealS 5 1 [120]) 1 = 0 := by unfold rbE; rw [h1, h3]; rfl
  have eE : rdE w0S w0G 1 = 0 := by unfold rdE; rw [if_neg (by rw [f1]; decide), f2, if_neg (by rw [aw_t24]; decide), aw_t23, e]
  refine ⟨eE, ?_, ?_, by decide +kernel⟩
  · unfold rdKd rbK; rw [eE, if_pos rfl, f2, aw_t23, e, if_pos rfl, h2]
  · unfold rdBy rbB; rw [eE, if_pos rfl, f2, aw_t23, e, if_pos rfl, h4]
theorem aw_t26 : (idsS w0S.c.tb).length = 1 := by decide +kernel
end Go.Proofs.YtelhlikeefpjnaaGreat
namespace Go.Proofs.YtelhlikeefpjnaaGreat
set_option maxRecDepth 20000
open Go.RowKit
set_option linter.unusedVariables false
set_option linter.unusedSimpArgs false
structure Calm (d : D.DS) : Prop where
  dn : d.down = false
  fl : d.fails = -1
theorem Calm.step {d t : D.DS} (h : Calm d) : D.stepE d = 0 ∧ Calm (D.stepS d t) := by
  have hf : ¬ d.fails = 0 := by rw [h.fl]; decide
  refine ⟨?_, ?_⟩
  · unfold D.stepE
    rw [if_neg hf]
  · unfold D.stepS
    rw [if_neg hf]
    exact ⟨h.dn, by show (if 0 < d.fails then d.fails - 1 else d.fails) = -1; rw [h.fl]; decide⟩
theorem Calm.sync {d : D.DS} (h : Calm d) : D.syncE d = 0 ∧ Calm (D.syncS d) := by
  have hd : ¬ d.down = true := by rw [h.dn]; decide
  unfold D.syncE D.syncS
  rw [if_neg hd, if_neg hd]
  exact h.step
theorem Calm.write {d : D.DS} (h : Calm d) {n : Int} {zs : List Int} (h0 : 0 ≤ n) (h1 : n < d.room) (hl : zs.length = 256) : D.writeE d n zs = 0 ∧ Calm (D.writeS d n zs) := by
  have hd : ¬ d.down = true := by rw [h.dn]; decide
  have hr : D.reachE d n = 0 := by
    unfold D.reachE
    rw [if_neg hd, if_neg (by omega)]
  unfold D.writeE D.writeS
  rw [hr, if_neg (by decide), if_neg (by omega), if_neg (by omega)]
  exact h.step
theorem Calm.wp (kd : Int) : ∀ (ps : List (List Int)) (i : Nat) (bs : List Int) (d : D.DS), Calm d → (∀ p ∈ ps, p.length ≤ 246) → (∀ b ∈ bs, 0 ≤ b ∧ b < d.room) → (wpR kd i ps bs d).1 = 0 ∧ Calm (wpR kd i ps bs d).2
  | [], i, bs, d, h, _, _ => by unfold wpR; exact ⟨rfl, h⟩
  | p :: ps, i, [], d, h, _, _ => by unfold wpR; exact ⟨rfl, h⟩
  | p :: ps, i, b :: bs, d, h, hp, hb => by
    have hb0 := hb b (by simp)
    obtain ⟨e, hc⟩ := h.write hb0.1 hb0.2 (seal_len (k := kd) (id := i) (hp p (by simp)))
    unfold wpR
    rw [if_neg (by rw [e]; decide)]
    exact Calm.wp kd ps (i + 1) bs _ hc (fun q hq => hp q (List.mem_cons_of_mem _ hq)) (fun q hq => by rw [writeS_room]; exact hb q (List.mem_cons_of_mem _ hq))
theorem Calm.tl {F : Nat → D.DS → Int × D.DS} {r : Nat} (hF : ∀ j d, d.room = r → Calm d → (F j d).1 = 0 ∧ Calm (F j d).2 ∧ (F j d).2.room = r) : ∀ (n j : Nat) (d : D.DS), d.room = r → Calm d → (tlR F n j d).1 = 0 ∧ Calm (tlR F n j d).2
  | 0, j, d, _, h => ⟨rfl, h⟩
  | n + 1, j, d, hr, h => by
    obtain ⟨e, hc, hr2⟩ := hF j d hr h
    unfold tlR
    rw [if_neg (by rw [e]; decide)]
    exact Calm.tl hF n (j + 1) _ hr2 hc
def plF (s : SS) (id : Nat) : SS :=
  match freeL s with
  | [] => s
  | n :: _ => (s.give id n).fresh n true
theorem Calm.place {s : SS} {d : D.DS} (h : Calm d) (hr : d.room = s.bl) (id : Nat) {zs : List Int} (hl : zs.length = 256) :
    (placeR s d id zs).1 = (if freeL s = [] then 10 else 0) ∧ (placeR s d id zs).2.1 = plF s id ∧ Calm (placeR s d id zs).2.2 := by
  unfold placeR plF
  cases hf : freeL s with
  | nil => exact ⟨rfl, rfl, h⟩
  | cons n rest =>
    have hm : n ∈ freeL s := by rw [hf]; simp
    have hn := (free_mem.mp hm).1
    obtain ⟨e, hc⟩ := h.write (n := (n : Int)) (by omega) (by rw [hr]; omega) hl
    show (if D.writeE d n zs ≠ 0 then _ else _ : Int × SS × D.DS).1 = _ ∧ (if D.writeE d n zs ≠ 0 then _ else _ : Int × SS × D.DS).2.1 = _ ∧ Calm (if D.writeE d n zs ≠ 0 then _ else _ : Int × SS × D.DS).2.2
    rw [if_neg (by rw [e]; decide)]
    exact ⟨rfl, rfl, hc⟩
theorem Calm.alloc {s : SS} {d : D.DS} (h : Calm d) (hr : d.room = s.bl) (hb : s.bad = false) {kd : Int} {zs : List Int} (h1 : sealE kd 1 zs.length = 0) (h2 : sealE kd (spareN s.c.tb : Nat) zs.length = 0) (hl : zs.length ≤ 246) :
    allocE s d kd zs = (if freeL s = [] then 10 else 0) ∧ (allocR s d kd zs).1 = plF s (spareN s.c.tb) ∧ Calm (allocR s d kd zs).2 := by
  have hp := h.place hr (spareN s.c.tb) (seal_len (k := kd) (id := (spareN s.c.tb : Nat)) hl)
  unfold allocE allocR
  rw [hb, h1, h2, if_neg (by decide), if_neg (show ¬ ((0 : Int) ≠ 0) by decide), if_neg (show ¬ ((0 : Int) ≠ 0) by decide), if_neg (show ¬ (false = true ∨ (0 : Int) ≠ 0 ∨ (0 : Int) ≠ 0) by decide)]
  exact hp
theorem Calm.settle {s : SS} {d : D.DS} (h : Calm d) (hr : d.room = s.bl) (hbl : 2 ≤ s.bl) {ep : Int} (he : 0 ≤ ep) (us2 : List Int) (hk : R.checkE (rootD s ep) = 0) :
    (settleR s d ep us2).1 = (if (freeL s).length < cntN s then 10 else 0) ∧ (settleR s d ep us2).2.1 = (if (freeL s).length < cntN s then s else s.hold ep s.c.st s.c.tb us2) ∧ Calm (settleR s d ep us2).2.2 := by
  unfold settleR
  by_cases hf : (freeL s).length < cntN s
  · rw [if_pos hf, if_pos hf, if_pos hf]
    exact ⟨rfl, rfl, h⟩
  · rw [if_neg hf, if_neg hf, if_neg hf, if_neg (by rw [hk]; decide)]
    have hT : ∀ b ∈ tabL s, 0 ≤ b ∧ b < s.bl := fun b hb => by
      unfold tabL ints at hb
      obtain ⟨n, hn, rfl⟩ := List.mem_map.mp hb
      have := (free_mem.mp (List.mem_of_mem_take hn)).1
      exact ⟨Int.natCast_nonneg _, by show (n : Int) < _; omega⟩
    have hM : ∀ b ∈ mapL s, 0 ≤ b ∧ b < s.bl := fun b hb => by
      unfold mapL ints at hb
      obtain ⟨n, hn, rfl⟩ := List.mem_map.mp hb
      have := (free_mem.mp (List.mem_of_mem_take (List.mem_of_mem_drop hn))).1
      exact ⟨Int.natCast_nonneg _, by show (n : Int) < _; omega⟩
    have hS : ∀ j d', d'.room = s.bl → Calm d' → (stepF s ep us2 j d').1 = 0 ∧ Calm (stepF s ep us2 j d').2 ∧ (stepF s ep us2 j d').2.room = s.bl := fun j d' hr' hc' => by
      rcases j with _ | _ | _ | _ | j
      · obtain ⟨a, b⟩ := Calm.wp 1 (splitS (wordsS s.c.tb) 246) 0 (tabL s) d' hc' (split_small _) (by rw [hr']; exact hT)
        exact ⟨a, b, by show (wpR _ _ _ _ _).2.room = _; rw [wp_room, hr']⟩
      · obtain ⟨a, b⟩ := Calm.wp 2 (splitS us2 246) 0 (mapL s) d' hc' (split_small _) (by rw [hr']; exact hM)
        exact ⟨a, b, by show (wpR _ _ _ _ _).2.room = _; rw [wp_room, hr']⟩
      · exact ⟨hc'.sync.1, hc'.sync.2, by show (D.syncS d').room = _; rw [← hr']; unfold D.syncS; split; rfl; exact stepS_room⟩
      · have ht : 0 ≤ Int.tmod ep 2 ∧ Int.tmod ep 2 < 2 := ⟨Int.tmod_nonneg 2 he, Int.tmod_lt_of_pos ep (by decide)⟩
        obtain ⟨a, b⟩ := hc'.write (n := Int.tmod ep 2) (zs := R.putS (rootD s ep)) ht.1 (by rw [hr']; omega) (R.put_len (R.ok_checkE hk))
        exact ⟨a, b, by show (D.writeS _ _ _).room = _; rw [writeS_room, hr']⟩
      · exact ⟨hc'.sync.1, hc'.sync.2, by show (D.syncS d').room = _; rw [← hr']; unfold D.syncS; split; rfl; exact stepS_room⟩
    obtain ⟨e, hc⟩ := Calm.tl hS 5 0 d hr h
    rw [if_neg (by rw [e]; decide)]
    exact ⟨rfl, rfl, hc⟩
theorem Calm.commit {s : SS} {d : D.DS} (h : Calm d) (hr : d.room = s.bl) (hbl : 2 ≤ s.bl) (hb : s.bad = false) (hd : s.c.dt = true) (he : 0 ≤ s.ep) (us2 : List Int) (hk : R.checkE (rootD s (s.ep + 1)) = 0) :
    (comR s d us2).1 = (if (freeL s).length < cntN s then 10 else 0) ∧ (comR s d us2).2.1 = (if (freeL s).length < cntN s then s else s.hold (s.ep + 1) s.c.st s.c.tb us2) ∧ Calm (comR s d us2).2.2 := by
  unfold comR
  rw [hb, hd, if_neg (by decide), if_neg (by decide)]
  exact h.settle hr hbl (by omega) us2 hk
theorem newS_calm (n : Int) : Calm (D.newS n) := ⟨rfl, rfl⟩
theorem Calm.format {d : D.DS} (h : Calm d) (hbl : 2 ≤ d.room) (us2 : List Int) (hf : ¬ d.room < 3 + nPages (B.makeN d.room)) (hk : R.checkE (rootD (blankS d.room) 0) = 0) (hn : ¬ (freeL (blankS d.room)).length < cntN (blankS d.room)) :
    (fmtR d us2).1 = 0 ∧ (fmtR d us2).2.1 = (blankS d.room).hold 0 0 [] us2 ∧ Calm (fmtR d us2).2.2 := by
  obtain ⟨e, hc⟩ := h.write (n := 1) (zs := List.replicate 256 0) (by decide) (by omega) (by simp)
  obtain ⟨a, b, c⟩ := hc.settle (s := blankS d.room) (by rw [writeS_room]; rfl) hbl (ep := 0) (by decide) us2 hk
  unfold fmtR
  rw [if_neg hf, if_neg (by rw [e]; decide)]
  rw [if_neg hn] at a b
  exact ⟨a, b, c⟩
end Go.Proofs.YtelhlikeefpjnaaGreat
namespace Go.Proofs.YtelhlikeefpjnaaGreat
set_option maxRecDepth 20000
open Go.RowKit
set_option linter.unusedVariables false
set_option linter.unusedSimpArgs false
instance decCh : DecidableEq Ch := fun a b => decidable_of_iff (a.tb = b.tb ∧ a.st = b.st ∧ a.fr = b.fr ∧ a.dt = b.dt) ⟨fun ⟨h1, h2, h3, h4⟩ => by cases a; cases b; simp_all, fun h => by subst h; exact ⟨rfl, rfl, rfl, rfl⟩⟩
instance decSS : DecidableEq SS := fun a b => decidable_of_iff (a.c = b.c ∧ a.l = b.l ∧ a.ep = b.ep ∧ a.us = b.us ∧ a.bl = b.bl ∧ a.bad = b.bad) ⟨fun ⟨h1, h2, h3, h4, h5, h6⟩ => by cases a; cases b; simp_all, fun h => by subst h; exact ⟨rfl, rfl, rfl, rfl, rfl, rfl⟩⟩
set_option maxRecDepth 100000
theorem com_full {s : SS} {d : D.DS} (us2 : List Int) (hb : s.bad = false) (hd : s.c.dt = true) (hf : (freeL s).length < cntN s) : comR s d us2 = (10, s, d) := by
  unfold comR settleR
  rw [hb, hd, if_neg (by decide), if_neg (by decide), if_pos hf]
noncomputable def us0 (n : Nat) : List Int := us2S (blankS n)
def frK (n : Nat) : Nat → List Int
  | 0 => List.replicate (B.makeN n) 0
  | i + 1 => B.withI (frK n i) ((i + 3 : Nat) : Int) true
noncomputable def stt (n i : Nat) : SS := ⟨⟨(List.range i).map (fun j => ((j + 3 : Nat) : Int)), 0, frK n i, decide (0 < i)⟩, ⟨[], 0, List.replicate (B.makeN n) 0, false⟩, 0, us0 n, n, false⟩
theorem fl1 : ∀ k, k < 53 → (blankS (k + 8)).hold 0 0 [] (us0 (k + 8)) = stt (k + 8) 0 ∧ ¬ k + 8 < 3 + nPages (B.makeN (k + 8)) ∧ R.checkE (rootD (blankS (k + 8)) 0) = 0 ∧ ¬ (freeL (blankS (k + 8))).length < cntN (blankS (k + 8)) := by decide +kernel
noncomputable def fl2B (n i : Nat) : Bool := decide (freeL (stt n i) ≠ []) && decide (plF (stt n i) (i + 1) = stt n (i + 1)) && decide (spareN (stt n i).c.tb = i + 1)
theorem fl2K : ∀ k, k < 53 → ∀ i, i < k + 5 → fl2B (k + 8) i = true := by decide +kernel
noncomputable def fs0 (n : Nat) : SS := stt n (n - 3)
noncomputable def fs1 (n : Nat) : SS := ((fs0 n).give 1 0).fresh 3 false
noncomputable def fs2 (n : Nat) : SS := ((fs1 n).give 2 0).fresh 4 false
noncomputable def fs3 (n : Nat) : SS := (fs2 n).hold 1 0 (fs2 n).c.tb (us2S (fs2 n))
noncomputable def fs4 (n : Nat) : SS := plF (fs3 n) (spareN (fs3 n).c.tb)
theorem fl3 : ∀ k, k < 53 → freeL (fs0 (k + 8)) = [] ∧ 0 < cntN (fs0 (k + 8)) ∧ (idsS (fs0 (k + 8)).c.tb).length = k + 5 ∧ spareN (fs0 (k + 8)).c.tb = k + 6 := by decide +kernel
theorem fl4 : ∀ k, k < 53 → findE (fs0 (k + 8)) 1 = 0 ∧ findN (fs0 (k + 8)) 1 = 3 ∧ findE (fs1 (k + 8)) 2 = 0 ∧ findN (fs1 (k + 8)) 2 = 4 := by decide +kernel
theorem fl5 : ∀ k, k < 53 → R.checkE (rootD (fs2 (k + 8)) 1) = 0 ∧ ¬ (freeL (fs2 (k + 8))).length < cntN (fs2 (k + 8)) := by decide +kernel
theorem fl6 : ∀ k, k < 53 → usedN (fs3 (k + 8)) = k + 7 ∧ freeL (fs3 (k + 8)) ≠ [] ∧ spareN (fs3 (k + 8)).c.tb = 1 ∧ (idsS (fs3 (k + 8)).c.tb).length = k + 3 := by decide +kernel
theorem fl7 : ∀ k, k < 53 → freeL (fs4 (k + 8)) = [] ∧ spareN (fs4 (k + 8)).c.tb = 2 ∧ (fs4 (k + 8)).l = (fs3 (k + 8)).c := by decide +kernel
end Go.Proofs.YtelhlikeefpjnaaGreat
namespace Go.Proofs.YtelhlikeefpjnaaGreat
set_option maxRecDepth 20000
open Go.RowKit
set_option linter.unusedVariables false
set_option linter.unusedSimpArgs false
def Qi (w0 w : World) (k : Pl) (s : SS) : Prop := ∃ d, Mi w0 w k s d ∧ Calm d
theorem Qi.be {w0 w : World} {k : Pl} {s : SS} (h : Qi w0 w k s) : Below w0.heap.size w0 w := by
  obtain ⟨d, hm, _⟩ := h
  exact hm.be
theorem seal5 {id : Nat} {n : Nat} (h1 : 1 ≤ id) (h2 : id ≤ 61) (h : n ≤ 246) : sealE 5 (id : Int) n = 0 := by
  unfold sealE
  have hi : idB (id : Int) = true := by unfold idB; simp; omega
  rw [if_pos (by decide), if_pos hi, if_pos h]
theorem q_alloc {w0 w : World} {k : Pl} {s : SS} {j : Nat} (h : Qi w0 w k s) (hb : s.bad = false) (hs : spareN s.c.tb = j) (h1 : 1 ≤ j) (h2 : j ≤ 61) (hf : freeL s ≠ []) (a : Option Addr) (cap : Nat) (zs : List Int) (hv : BV w0 a zs) (hn : a = none → cap = 0) (hl : zs.length ≤ 246) :
    Calls Tryz.prog 17 #[.pointer (some ⟨k.p, 0, none⟩), .int .i64 5, .slice a zs.length cap] w fun e w' => e = .returned (.tuple #[.int .i64 (j : Int), .int .i64 0]) ∧ Qi w0 w' k (plF s j) := by
  obtain ⟨d, hm, hc⟩ := h
  obtain ⟨e1, e2, e3⟩ := hc.alloc (kd := 5) (zs := zs) hm.room hb (seal5 (id := 1) (by decide) (by decide) hl) (by rw [hs]; exact seal5 h1 h2 hl) hl
  rw [if_neg hf] at e1
  refine (m_alloc 5 a cap zs w hm (hv.below hm.be) hn (by omega)).mono ?_
  rintro e w' ⟨rfl, hm', _⟩
  unfold allocI
  rw [e1, if_pos rfl, hs]
  rw [e2, hs] at hm'
  exact ⟨rfl, _, hm', e3⟩
theorem q_full {w0 w : World} {k : Pl} {s : SS} {j : Nat} (h : Qi w0 w k s) (hb : s.bad = false) (hs : spareN s.c.tb = j) (h1 : 1 ≤ j) (h2 : j ≤ 61) (hf : freeL s = []) (a : Option Addr) (cap : Nat) (zs : List Int) (hv : BV w0 a zs) (hn : a = none → cap = 0) (hl : zs.length ≤ 246) :
    Calls Tryz.prog 17 #[.pointer (some ⟨k.p, 0, none⟩), .int .i64 5, .slice a zs.length cap] w fun e w' => e = .returned (.tuple #[.int .i64 0, .int .i64 10]) ∧ Qi w0 w' k s := by
  obtain ⟨d, hm, hc⟩ := h
  obtain ⟨e1, e2, e3⟩ := hc.alloc (kd := 5) (zs := zs) hm.room hb (seal5 (id := 1) (by decide) (by decide) hl) (by rw [hs]; exact seal5 h1 h2 hl) hl
  rw [if_pos hf] at e1
  have e4 : plF s (spareN s.c.tb) = s := by unfold plF; rw [hf]
  refine (m_alloc 5 a cap zs w hm (hv.below hm.be) hn (by omega)).mono ?_
  rintro e w' ⟨rfl, hm', _⟩
  unfold allocI
  rw [e1, if_neg (by decide)]
  rw [e2, e4] at hm'
  exact ⟨rfl, _, hm', e3⟩
theorem q_free {w0 w : World} {k : Pl} {s : SS} {id : Nat} {b : Int} (h : Qi w0 w k s) (hf : findE s id = 0) (hb : findN s id = b) (hst : (id : Int) ≠ s.c.st) :
    Calls Tryz.prog 20 #[.pointer (some ⟨k.p, 0, none⟩), .int .i64 (id : Int)] w fun e w' => e = .returned (.int .i64 0) ∧ Qi w0 w' k ((s.give id 0).fresh b false) := by
  obtain ⟨d, hm, hc⟩ := h
  have e : frR s d id = (0, (s.give id 0).fresh b false, d) := by
    unfold frR
    rw [if_neg (by rw [hf]; decide), if_neg hst, hb]
    rfl
  refine (m_free id w hm).mono ?_
  rintro r w' ⟨rfl, hm', _⟩
  rw [e] at hm' ⊢
  exact ⟨rfl, _, hm', hc⟩
theorem q_comfull {w0 w : World} {k : Pl} {s : SS} (h : Qi w0 w k s) (hb : s.bad = false) (hd : s.c.dt = true) (hf : (freeL s).length < cntN s) :
    Calls Tryz.prog 22 #[.pointer (some ⟨k.p, 0, none⟩)] w fun e w' => e = .returned (.int .i64 10) ∧ Qi w0 w' k s := by
  obtain ⟨d, hm, hc⟩ := h
  have e := com_full (d := d) (us2S s) hb hd hf
  refine (m_commit w hm).mono ?_
  rintro r w' ⟨rfl, hm', _⟩
  rw [e] at hm' ⊢
  exact ⟨rfl, _, hm', hc⟩
theorem q_commit {w0 w : World} {k : Pl} {s : SS} (h : Qi w0 w k s) (hb : s.bad = false) (hd : s.c.dt = true) (hbl : 2 ≤ s.bl) (hk : R.checkE (rootD s (s.ep + 1)) = 0) (hf : ¬ (freeL s).length < cntN s) :
    Calls Tryz.prog 22 #[.pointer (some ⟨k.p, 0, none⟩)] w fun e w' => e = .returned (.int .i64 0) ∧ Qi w0 w' k (s.hold (s.ep + 1) s.c.st s.c.tb (us2S s)) := by
  obtain ⟨d, hm, hc⟩ := h
  obtain ⟨e1, e2, e3⟩ := hc.commit hm.room hbl hb hd hm.inv.core.ok.e0 (us2S s) hk
  rw [if_neg hf] at e1 e2
  refine (m_commit w hm).mono ?_
  rintro r w' ⟨rfl, hm', _⟩
  rw [e2] at hm'
  rw [e1]
  exact ⟨rfl, _, hm', e3⟩
theorem q_abort {w0 w : World} {k : Pl} {s : SS} (h : Qi w0 w k s) (hb : s.bad = false) :
    Calls Tryz.prog 23 #[.pointer (some ⟨k.p, 0, none⟩)] w fun e w' => e = .returned (.int .i64 0) ∧ Qi w0 w' k { s with c := s.l } := by
  obtain ⟨d, hm, hc⟩ := h
  have e : abR s d = (0, { s with c := s.l }, d) := by unfold abR; rw [hb]; rfl
  refine (m_abort w hm).mono ?_
  rintro r w' ⟨rfl, hm', _⟩
  rw [e] at hm' ⊢
  exact ⟨rfl, _, hm', hc⟩
theorem q_used {w0 w : World} {k : Pl} {s : SS} (h : Qi w0 w k s) :
    Calls Tryz.prog 26 #[.pointer (some ⟨k.p, 0, none⟩)] w fun e w' => e = .returned (.int .i64 (usedN s : Nat)) ∧ Qi w0 w' k s := by
  obtain ⟨d, hm, hc⟩ := h
  refine (m_used w hm).mono ?_
  rintro r w' ⟨rfl, hm', _⟩
  exact ⟨rfl, _, hm', hc⟩
theorem q_dirty {w0 w : World} {k : Pl} {s : SS} (h : Qi w0 w k s) :
    Calls Tryz.prog 28 #[.pointer (some ⟨k.p, 0, none⟩)] w fun e w' => e = .returned (.bool s.c.dt) ∧ w' = w := by
  obtain ⟨d, hm, hc⟩ := h
  exact m_dirty w hm
theorem q_ids {w0 w : World} {k : Pl} {s : SS} {m : Nat} (h : Qi w0 w k s) (hl : (idsS s.c.tb).length = m) :
    Calls Tryz.prog 27 #[.pointer (some ⟨k.p, 0, none⟩)] w fun e w' => ∃ a c, e = .returned (.slice a m c) ∧ Qi w0 w' k s := by
  obtain ⟨d, hm, hc⟩ := h
  refine (m_ids w hm).mono ?_
  rintro r w' ⟨v, rfl, ho, hm', _⟩
  obtain ⟨a, ea⟩ := ownN_slice ho
  rw [hl] at ea
  exact ⟨a, slCap v, by rw [← ea], _, hm', hc⟩
theorem q_format {w : World} (n : Nat) (h8 : n < 53) : ∀ w1 dp nb mb, (D.Dk w1 dp nb mb (D.newS ((n + 8 : Nat) : Int)) ∧ w.heap.size ≤ dp ∧ w.heap.size ≤ nb ∧ w.heap.size ≤ mb ∧ Below w.heap.size w w1) → Calls Tryz.prog 16 #[.pointer (some ⟨dp, 0, none⟩)] w1 fun e w' => ∃ p, e = .returned (.tuple #[.pointer (some ⟨p, 0, none⟩), .int .i64 0]) ∧ Qi w w' ⟨p, dp, nb, mb⟩ (stt (n + 8) 0) := by
  intro w1 dp nb mb h
  have hroom : (D.newS ((n + 8 : Nat) : Int)).room = n + 8 := by
    show (min (max ((n + 8 : Nat) : Int) 0) 4096).toNat = n + 8
    omega
  obtain ⟨f1, f2, f3, f4⟩ := fl1 n h8
  have hF := (newS_calm ((n + 8 : Nat) : Int)).format (by rw [hroom]; omega) (us2S (blankS (D.newS ((n + 8 : Nat) : Int)).room)) (by rw [hroom]; exact f2) (by rw [hroom]; exact f3) (by rw [hroom]; exact f4)
  have hS : fmtS (D.newS ((n + 8 : Nat) : Int)) = fmtR (D.newS ((n + 8 : Nat) : Int)) (us2S (blankS (D.newS ((n + 8 : Nat) : Int)).room)) := rfl
  rw [← hS] at hF
  obtain ⟨g1, g2, g3⟩ := hF
  rw [hroom] at g2
  have g4 : (fmtS (D.newS ((n + 8 : Nat) : Int))).2.1 = stt (n + 8) 0 := g2.trans f1
  refine (m_format (w0 := w) w1 h.1 (fun x hx => by simp at hx; rcases hx with rfl | rfl | rfl; exact h.2.1; exact h.2.2.1; exact h.2.2.2.1) h.2.2.2.2 (by rw [hroom]; omega)).mono ?_
  rintro e w' ⟨⟨_, p, he, hm⟩ | ⟨hne, _⟩, _, _⟩
  · rw [g4] at hm
    exact ⟨p, he, _, hm, g3⟩
  · exact absurd g1 hne
end Go.Proofs.YtelhlikeefpjnaaGreat
namespace Go.Proofs.YtelhlikeefpjnaaGreat
set_option maxRecDepth 20000
open Go.RowKit
set_option linter.unusedVariables false
set_option linter.unusedSimpArgs false
theorem fx_HAL {w : World} {n : Nat} (hn53 : n < 53) {a1 : Option Addr} {cap1 : Nat} {y1 : List Int} (hb : BV w a1 y1) (hn : a1 = none → cap1 = 0) (hle : y1.length ≤ 246) : Hid (∀ W p dp nb mb i, i < n + 5 → Qi w W ⟨p, dp, nb, mb⟩ (stt (n + 8) i) → Calls Tryz.prog 17 #[.pointer (some ⟨p, 0, none⟩), .int .i64 5, .slice a1 y1.length cap1] W fun e w' => e = .returned (.tuple #[.int .i64 ((i + 1 : Nat) : Int), .int .i64 0]) ∧ Qi w w' ⟨p, dp, nb, mb⟩ (stt (n + 8) (i + 1))) := fun W p dp nb mb i hi hq => by
  have hf := fl2K n hn53 i hi
  unfold fl2B at hf
  simp only [Bool.and_eq_true, decide_eq_true_eq] at hf
  obtain ⟨⟨f1, f2⟩, f3⟩ := hf
  have := q_alloc hq rfl f3 (by omega) (by omega) f1 a1 cap1 y1 hb hn (by omega)
  rw [f2] at this
  exact this
theorem fx_HFU {w : World} {n : Nat} (hn53 : n < 53) {a1 : Option Addr} {cap1 : Nat} {y1 : List Int} (hb : BV w a1 y1) (hn : a1 = none → cap1 = 0) (hle : y1.length ≤ 246) : Hid (∀ W p dp nb mb, Qi w W ⟨p, dp, nb, mb⟩ (stt (n + 8) (n + 5)) → Calls Tryz.prog 17 #[.pointer (some ⟨p, 0, none⟩), .int .i64 5, .slice a1 y1.length cap1] W fun e w' => e = .returned (.tuple #[.int .i64 0, .int .i64 10]) ∧ Qi w w' ⟨p, dp, nb, mb⟩ (fs0 (n + 8))) := fun W p dp nb mb hq => by
  obtain ⟨f1, f2, f3, f4⟩ := fl3 n hn53
  exact q_full (s := fs0 (n + 8)) hq rfl f4 (by omega) (by omega) f1 a1 cap1 y1 hb hn (by omega)
theorem fx_HCF {w : World} {n : Nat} (hn53 : n < 53) {a1 : Option Addr} {cap1 : Nat} {y1 : List Int} (hb : BV w a1 y1) (hn : a1 = none → cap1 = 0) (hle : y1.length ≤ 246) : Hid (∀ W p dp nb mb, Qi w W ⟨p, dp, nb, mb⟩ (fs0 (n + 8)) → Calls Tryz.prog 22 #[.pointer (some ⟨p, 0, none⟩)] W fun e w' => e = .returned (.int .i64 10) ∧ Qi w w' ⟨p, dp, nb, mb⟩ (fs0 (n + 8))) := fun W p dp nb mb hq => by
  obtain ⟨f1, f2, f3, f4⟩ := fl3 n hn53
  exact q_comfull hq rfl (by show decide (0 < n + 8 - 3) = true; exact decide_eq_true (by omega)) (by rw [f1]; exact f2)
theorem fx_HI0 {w : World} {n : Nat} (hn53 : n < 53) {a1 : Option Addr} {cap1 : Nat} {y1 : List Int} (hb : BV w a1 y1) (hn : a1 = none → cap1 = 0) (hle : y1.length ≤ 246) : Hid (∀ W p dp nb mb, Qi w W ⟨p, dp, nb, mb⟩ (fs0 (n + 8)) → Calls Tryz.prog 27 #[.pointer (some ⟨p, 0, none⟩)] W fun e w' => ∃ a c, e = .returned (.slice a (n + 5) c) ∧ Qi w w' ⟨p, dp, nb, mb⟩ (fs0 (n + 8))) := fun W p dp nb mb hq => q_ids hq (fl3 n hn53).2.2.1
theorem fx_HDI {w : World} {n : Nat} (hn53 : n < 53) {a1 : Option Addr} {cap1 : Nat} {y1 : List Int} (hb : BV w a1 y1) (hn : a1 = none → cap1 = 0) (hle : y1.length ≤ 246) : Hid (∀ W p dp nb mb, Qi w W ⟨p, dp, nb, mb⟩ (fs0 (n + 8)) → Calls Tryz.prog 28 #[.pointer (some ⟨p, 0, none⟩)] W fun e w' => e = .returned (.bool true) ∧ w' = W) := fun W p dp nb mb hq => by
  have := q_dirty hq
  rw [show (fs0 (n + 8)).c.dt = true by show decide (0 < n + 8 - 3) = true; exact decide_eq_true (by omega)] at this
  exact this
theorem fx_HF1 {w : World} {n : Nat} (hn53 : n < 53) {a1 : Option Addr} {cap1 : Nat} {y1 : List Int} (hb : BV w a1 y1) (hn : a1 = none → cap1 = 0) (hle : y1.length ≤ 246) : Hid (∀ W p dp nb mb, Qi w W ⟨p, dp, nb, mb⟩ (fs0 (n + 8)) → Calls Tryz.prog 20 #[.pointer (some ⟨p, 0, none⟩), .int .i64 1] W fun e w' => e = .returned (.int .i64 0) ∧ Qi w w' ⟨p, dp, nb, mb⟩ (fs1 (n + 8))) := fun W p dp nb mb hq => q_free (id := 1) hq (fl4 n hn53).1 (fl4 n hn53).2.1 (by show ((1 : Nat) : Int) ≠ 0; decide)
theorem fx_HF2 {w : World} {n : Nat} (hn53 : n < 53) {a1 : Option Addr} {cap1 : Nat} {y1 : List Int} (hb : BV w a1 y1) (hn : a1 = none → cap1 = 0) (hle : y1.length ≤ 246) : Hid (∀ W p dp nb mb, Qi w W ⟨p, dp, nb, mb⟩ (fs1 (n + 8)) → Calls Tryz.prog 20 #[.pointer (some ⟨p, 0, none⟩), .int .i64 2] W fun e w' => e = .returned (.int .i64 0) ∧ Qi w w' ⟨p, dp, nb, mb⟩ (fs2 (n + 8))) := fun W p dp nb mb hq => q_free (id := 2) hq (fl4 n hn53).2.2.1 (fl4 n hn53).2.2.2 (by show ((2 : Nat) : Int) ≠ 0; decide)
theorem fx_HCO {w : World} {n : Nat} (hn53 : n < 53) {a1 : Option Addr} {cap1 : Nat} {y1 : List Int} (hb : BV w a1 y1) (hn : a1 = none → cap1 = 0) (hle : y1.length ≤ 246) : Hid (∀ W p dp nb mb, Qi w W ⟨p, dp, nb, mb⟩ (fs2 (n + 8)) → Calls Tryz.prog 22 #[.pointer (some ⟨p, 0, none⟩)] W fun e w' => e = .returned (.int .i64 0) ∧ Qi w w' ⟨p, dp, nb, mb⟩ (fs3 (n + 8))) := fun W p dp nb mb hq => q_commit hq rfl rfl (by show 2 ≤ n + 8; omega) (fl5 n hn53).1 (fl5 n hn53).2
theorem fx_HUS {w : World} {n : Nat} (hn53 : n < 53) {a1 : Option Addr} {cap1 : Nat} {y1 : List Int} (hb : BV w a1 y1) (hn : a1 = none → cap1 = 0) (hle : y1.length ≤ 246) : Hid (∀ W p dp nb mb, Qi w W ⟨p, dp, nb, mb⟩ (fs3 (n + 8)) → Calls Tryz.prog 26 #[.pointer (some ⟨p, 0, none⟩)] W fun e w' => e = .returned (.int .i64 ((n + 7 : Nat) : Int)) ∧ Qi w w' ⟨p, dp, nb, mb⟩ (fs3 (n + 8))) := fun W p dp nb mb hq => by
  have := q_used hq
  rw [(fl6 n hn53).1] at this
  exact this
theorem fx_HA1 {w : World} {n : Nat} (hn53 : n < 53) {a1 : Option Addr} {cap1 : Nat} {y1 : List Int} (hb : BV w a1 y1) (hn : a1 = none → cap1 = 0) (hle : y1.length ≤ 246) : Hid (∀ W p dp nb mb, Qi w W ⟨p, dp, nb, mb⟩ (fs3 (n + 8)) → Calls Tryz.prog 17 #[.pointer (some ⟨p, 0, none⟩), .int .i64 5, .slice a1 y1.length cap1] W fun e w' => e = .returned (.tuple #[.int .i64 1, .int .i64 0]) ∧ Qi w w' ⟨p, dp, nb, mb⟩ (fs4 (n + 8))) := fun W p dp nb mb hq => by
  have := q_alloc hq rfl (fl6 n hn53).2.2.1 (by omega) (by omega) (fl6 n hn53).2.1 a1 cap1 y1 hb hn (by omega)
  refine this.mono ?_
  rintro e w' ⟨rfl, hq'⟩
  refine ⟨rfl, ?_⟩
  unfold fs4
  rw [(fl6 n hn53).2.2.1]
  exact hq'
theorem fx_bad4 (n : Nat) : (fs4 (n + 8)).bad = false := by unfold fs4 plF; split <;> rfl
theorem fx_HA2 {w : World} {n : Nat} (hn53 : n < 53) {a1 : Option Addr} {cap1 : Nat} {y1 : List Int} (hb : BV w a1 y1) (hn : a1 = none → cap1 = 0) (hle : y1.length ≤ 246) : Hid (∀ W p dp nb mb, Qi w W ⟨p, dp, nb, mb⟩ (fs4 (n + 8)) → Calls Tryz.prog 17 #[.pointer (some ⟨p, 0, none⟩), .int .i64 5, .slice a1 y1.length cap1] W fun e w' => e = .returned (.tuple #[.int .i64 0, .int .i64 10]) ∧ Qi w w' ⟨p, dp, nb, mb⟩ (fs4 (n + 8))) := fun W p dp nb mb hq => q_full hq (fx_bad4 n) (fl7 n hn53).2.1 (by omega) (by omega) (fl7 n hn53).1 a1 cap1 y1 hb hn (by omega)
theorem fx_HAB {w : World} {n : Nat} (hn53 : n < 53) {a1 : Option Addr} {cap1 : Nat} {y1 : List Int} (hb : BV w a1 y1) (hn : a1 = none → cap1 = 0) (hle : y1.length ≤ 246) : Hid (∀ W p dp nb mb, Qi w W ⟨p, dp, nb, mb⟩ (fs4 (n + 8)) → Calls Tryz.prog 23 #[.pointer (some ⟨p, 0, none⟩)] W fun e w' => e = .returned (.int .i64 0) ∧ ∃ s5 : SS, s5.c = (fs3 (n + 8)).c ∧ Qi w w' ⟨p, dp, nb, mb⟩ s5) := fun W p dp nb mb hq => by
  refine (q_abort hq (fx_bad4 n)).mono ?_
  rintro e w' ⟨rfl, hq'⟩
  exact ⟨rfl, _, (fl7 n hn53).2.2, hq'⟩
theorem fx_HI5 {w : World} {n : Nat} (hn53 : n < 53) {a1 : Option Addr} {cap1 : Nat} {y1 : List Int} (hb : BV w a1 y1) (hn : a1 = none → cap1 = 0) (hle : y1.length ≤ 246) : Hid (∀ W p dp nb mb (s5 : SS), s5.c = (fs3 (n + 8)).c → Qi w W ⟨p, dp, nb, mb⟩ s5 → Calls Tryz.prog 27 #[.pointer (some ⟨p, 0, none⟩)] W fun e w' => ∃ a c, e = .returned (.slice a (n + 3) c) ∧ Qi w w' ⟨p, dp, nb, mb⟩ s5) := fun W p dp nb mb s5 h5 hq => q_ids hq (by rw [h5]; exact (fl6 n hn53).2.2.2)
end Go.Proofs.YtelhlikeefpjnaaGreat
