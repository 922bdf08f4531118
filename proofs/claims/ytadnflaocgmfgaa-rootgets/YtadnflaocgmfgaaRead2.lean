/- read: a root's fields, taken off one behind the other. -/
import Derived.Test.YtadnflaocgmfgaaRead
import Derived.Test.YtadnflaocgmfgaaOpen
namespace Go.Proofs.Ytadnflaocgmfgaa
open Go.RowKit
set_option linter.unusedVariables false
theorem set7_below (n : Nat) (w9 : World) (xb rx : Nat) (h1 : n ≤ xb) (h2 : n ≤ rx) (v u0 u1 u2 u3 u4 u5 : Value) : Below n w9 (((((((w9.setCell ⟨xb, 5, none⟩ v).setCell ⟨rx, 0, none⟩ u0).setCell ⟨rx, 1, none⟩ u1).setCell ⟨rx, 2, none⟩ u2).setCell ⟨rx, 3, none⟩ u3).setCell ⟨rx, 4, none⟩ u4).setCell ⟨rx, 5, none⟩ u5) :=
  (((((((Below.refl n w9).setCell (p := ⟨xb, 5, none⟩) h1 _).setCell (p := ⟨rx, 0, none⟩) h2 _).setCell (p := ⟨rx, 1, none⟩) h2 _).setCell (p := ⟨rx, 2, none⟩) h2 _).setCell (p := ⟨rx, 3, none⟩) h2 _).setCell (p := ⟨rx, 4, none⟩) h2 _).setCell (p := ⟨rx, 5, none⟩) h2 _
theorem set7_block (w9 : World) (xb rx k : Nat) (h1 : k ≠ xb) (h2 : k ≠ rx) (v u0 u1 u2 u3 u4 u5 : Value) : (((((((w9.setCell ⟨xb, 5, none⟩ v).setCell ⟨rx, 0, none⟩ u0).setCell ⟨rx, 1, none⟩ u1).setCell ⟨rx, 2, none⟩ u2).setCell ⟨rx, 3, none⟩ u3).setCell ⟨rx, 4, none⟩ u4).setCell ⟨rx, 5, none⟩ u5).heap[k]? = w9.heap[k]? :=
  (heap_setCell_other _ ⟨rx, 5, none⟩ k _ h2).trans ((heap_setCell_other _ ⟨rx, 4, none⟩ k _ h2).trans ((heap_setCell_other _ ⟨rx, 3, none⟩ k _ h2).trans ((heap_setCell_other _ ⟨rx, 2, none⟩ k _ h2).trans ((heap_setCell_other _ ⟨rx, 1, none⟩ k _ h2).trans ((heap_setCell_other _ ⟨rx, 0, none⟩ k _ h2).trans (heap_setCell_other _ ⟨xb, 5, none⟩ k _ h1))))))
theorem IVh.mono {K J : Nat} {w : World} {a : Option Addr} {zs : List Int} (h : IVh K w a zs) (hj : J ≤ K) : IVh J w a zs := by
  rcases h with rfl | ⟨b, off, rfl, h1, h2⟩
  · exact .inl rfl
  · exact .inr ⟨b, off, rfl, Nat.le_trans hj h1, h2⟩
set_option maxHeartbeats 1600000 in
theorem read_ok (b off n cap : Nat) (zs : List Int) (w : World) (hb : BV w (some ⟨b, off, none⟩) zs) (hl : zs.length = n + 4) (hn : n ≤ 1000) (hc : n + 4 ≤ cap) (hc4 : 4 < cap) :
    Calls Try.prog 30 #[.slice (some ⟨b, off, none⟩) (n + 4) cap] w fun e w' => ∃ ta tc ma mc, e = .returned (rootV (readS zs) ta tc ma mc) ∧ Rt w' (readS zs) ta tc ma mc ∧ (IVh w.heap.size w' ta (readS zs).T ∧ IVh w.heap.size w' ma (readS zs).M) ∧ Below w.heap.size w w' := by
  obtain ⟨W0, hW0⟩ : ∃ W, W = w.alloc (.cells #[.int .i64 0, .int .i64 0, .int .i64 0, .int .i64 0, .slice none 0 0, .slice none 0 0] 31) := ⟨_, rfl⟩
  have hB0 : Below w.heap.size w W0 := by rw [hW0]; exact (Below.refl _ _).alloc (Nat.le_refl _) _
  have HX0 : Hid (W0.heap[w.heap.size]? = some (.cells #[.int .i64 0, .int .i64 0, .int .i64 0, .int .i64 0, .slice none 0 0, .slice none 0 0] 31 (0, 0)) ∧ W0.heap.size = w.heap.size + 1) := by rw [hW0]; exact ⟨heap_alloc_last _ _, by simp⟩
  have HN : Hid (Calls Try.prog 47 #[.slice (some ⟨b, off + 4, none⟩) n (cap - 4)] W0 fun e w' => ∃ rb, e = .returned (.pointer (some ⟨rb, 0, none⟩)) ∧ Hid (W0.heap.size ≤ rb ∧ RQ w'.heap.size w' rb (readP zs 0) ∧ Below W0.heap.size W0 w')) := by
    have h := rq_new (some ⟨b, off + 4, none⟩) (cap - 4) (zs.drop 4) W0 ((hb.below hB0).drop 4) (by rw [List.length_drop]; omega) (by intro h; cases h)
    rw [List.length_drop, show zs.length - 4 = n by omega] at h
    exact h
  have h5 := nval1_bound (readP zs 4) (readP_all hb.1 4)
  have h6 := nval1_bound (readP zs 5) (readP_all hb.1 5)
  have HTN : Hid (nval 1 (readP zs 4) = ((readTn zs : Nat) : Int) ∧ readTn zs ≤ 255) := by
    have : ((nval 1 (readP zs 4)).toNat : Int) = nval 1 (readP zs 4) := by omega
    exact ⟨this.symm, by unfold readTn; omega⟩
  have HMN : Hid (nval 1 (readP zs 5) = ((readMn zs : Nat) : Int) ∧ readMn zs ≤ 255) := by
    have : ((nval 1 (readP zs 5)).toNat : Int) = nval 1 (readP zs 5) := by omega
    exact ⟨this.symm, by unfold readMn; omega⟩
  have s1 : (4 : Int) ≤ ((n + 4 : Nat) : Int) := by omega
  clear hb hl h5 h6
  go_enter Try.func30, Try.ntmps30
  go_wp2_with fail
  rw [← hW0]
  clear hW0
  refine HN.out.mono ?_
  rintro e w1 ⟨rb, rfl, H1⟩
  have HRB : Hid (RB w (w1.alloc (.cells #[.int .i64 0, .int .i64 0, .int .i64 0, .int .i64 0, .slice none 0 0, .slice none 0 0] 31)) w1.heap.size rb w1.heap.size (readP zs 0) (.int .i64 0) (.int .i64 0) (.int .i64 0) (.int .i64 0) (.slice none 0 0) (.slice none 0 0)) := by
    have hal : Below w1.heap.size w1 (w1.alloc (.cells #[.int .i64 0, .int .i64 0, .int .i64 0, .int .i64 0, .slice none 0 0, .slice none 0 0] 31)) := (Below.refl _ _).alloc (Nat.le_refl _) _
    have q1 := H1.out.2.2
    have q0 := HX0.out.2
    have q2 := H1.out.1
    exact ⟨H1.out.2.1.keep hal, heap_alloc_last _ _, (hal.block w.heap.size (by have := q1.size; omega)).trans ((q1.block w.heap.size (by omega)).trans HX0.out.1), Nat.le_refl _, by omega, hB0.trans ((q1.mono (by omega)).trans (hal.mono (by have := q1.size; omega)))⟩
  clear HN H1 HX0
  generalize hxb : w1.heap.size = xb at *
  go_wp2_with fail
  refine (rb_num 6 HRB.out).mono ?_
  rintro e w2 ⟨rfl, ⟨x20, x21, x22, x23, x24, x25, y20, y21, y22, y23, y24, y25⟩, H2⟩
  clear HRB
  go_wp2_with fail
  have G2 : Hid (RB w (w2.setCell ⟨xb, 0, none⟩ (.int .i64 (nval 6 (readP zs 0)))) xb rb xb (readP zs 1) (.int .i64 (nval 6 (readP zs 0))) (.int .i64 0) (.int .i64 0) (.int .i64 0) (.slice none 0 0) (.slice none 0 0)) := H2.out.set 0 _ _ _ _ _ _ _ rfl
  clear x20 y20 x21 y21 x22 y22 x23 y23 x24 y24 x25 y25 H2
  refine (rb_num 2 G2.out).mono ?_
  rintro e w3 ⟨rfl, ⟨x30, x31, x32, x33, x34, x35, y30, y31, y32, y33, y34, y35⟩, H3⟩
  clear G2
  go_wp2_with fail
  have G3 : Hid (RB w (w3.setCell ⟨xb, 1, none⟩ (.int .i64 (nval 2 (readP zs 1)))) xb rb xb (readP zs 2) (.int .i64 (nval 6 (readP zs 0))) (.int .i64 (nval 2 (readP zs 1))) (.int .i64 0) (.int .i64 0) (.slice none 0 0) (.slice none 0 0)) := H3.out.set 1 _ _ _ _ _ _ _ rfl
  clear x30 y30 x31 y31 x32 y32 x33 y33 x34 y34 x35 y35 H3
  refine (rb_num 2 G3.out).mono ?_
  rintro e w4 ⟨rfl, ⟨x40, x41, x42, x43, x44, x45, y40, y41, y42, y43, y44, y45⟩, H4⟩
  clear G3
  go_wp2_with fail
  have G4 : Hid (RB w (w4.setCell ⟨xb, 2, none⟩ (.int .i64 (nval 2 (readP zs 2)))) xb rb xb (readP zs 3) (.int .i64 (nval 6 (readP zs 0))) (.int .i64 (nval 2 (readP zs 1))) (.int .i64 (nval 2 (readP zs 2))) (.int .i64 0) (.slice none 0 0) (.slice none 0 0)) := H4.out.set 2 _ _ _ _ _ _ _ rfl
  clear x40 y40 x41 y41 x42 y42 x43 y43 x44 y44 x45 y45 H4
  refine (rb_num 2 G4.out).mono ?_
  rintro e w5 ⟨rfl, ⟨x50, x51, x52, x53, x54, x55, y50, y51, y52, y53, y54, y55⟩, H5⟩
  clear G4
  go_wp2_with fail
  have G5 : Hid (RB w (w5.setCell ⟨xb, 3, none⟩ (.int .i64 (nval 2 (readP zs 3)))) xb rb xb (readP zs 4) (.int .i64 (nval 6 (readP zs 0))) (.int .i64 (nval 2 (readP zs 1))) (.int .i64 (nval 2 (readP zs 2))) (.int .i64 (nval 2 (readP zs 3))) (.slice none 0 0) (.slice none 0 0)) := H5.out.set 3 _ _ _ _ _ _ _ rfl
  clear x50 y50 x51 y51 x52 y52 x53 y53 x54 y54 x55 y55 H5
  have C6 : Hid (∀ W, RB w W xb rb xb (readP zs 4) (.int .i64 (nval 6 (readP zs 0))) (.int .i64 (nval 2 (readP zs 1))) (.int .i64 (nval 2 (readP zs 2))) (.int .i64 (nval 2 (readP zs 3))) (.slice none 0 0) (.slice none 0 0) → Calls Try.prog 48 #[.pointer (some ⟨rb, 0, none⟩), .int .i64 1] W fun e w' => e = .returned (.int .i64 ((readTn zs : Nat) : Int)) ∧ RX w' xb (.int .i64 (nval 6 (readP zs 0))) (.int .i64 (nval 2 (readP zs 1))) (.int .i64 (nval 2 (readP zs 2))) (.int .i64 (nval 2 (readP zs 3))) (.slice none 0 0) (.slice none 0 0) ∧ Hid (RB w w' xb rb xb (readP zs 5) (.int .i64 (nval 6 (readP zs 0))) (.int .i64 (nval 2 (readP zs 1))) (.int .i64 (nval 2 (readP zs 2))) (.int .i64 (nval 2 (readP zs 3))) (.slice none 0 0) (.slice none 0 0))) := fun W h => by
    have := rb_num 1 h
    rw [HTN.out.1] at this
    exact this
  refine (C6.out _ G5.out).mono ?_
  rintro e w6 ⟨rfl, _, H6⟩
  clear G5 C6
  go_wp2_with fail
  have C7 : Hid (∀ W, RB w W xb rb xb (readP zs 5) (.int .i64 (nval 6 (readP zs 0))) (.int .i64 (nval 2 (readP zs 1))) (.int .i64 (nval 2 (readP zs 2))) (.int .i64 (nval 2 (readP zs 3))) (.slice none 0 0) (.slice none 0 0) → Calls Try.prog 48 #[.pointer (some ⟨rb, 0, none⟩), .int .i64 1] W fun e w' => e = .returned (.int .i64 ((readMn zs : Nat) : Int)) ∧ RX w' xb (.int .i64 (nval 6 (readP zs 0))) (.int .i64 (nval 2 (readP zs 1))) (.int .i64 (nval 2 (readP zs 2))) (.int .i64 (nval 2 (readP zs 3))) (.slice none 0 0) (.slice none 0 0) ∧ Hid (RB w w' xb rb xb (readP zs 6) (.int .i64 (nval 6 (readP zs 0))) (.int .i64 (nval 2 (readP zs 1))) (.int .i64 (nval 2 (readP zs 2))) (.int .i64 (nval 2 (readP zs 3))) (.slice none 0 0) (.slice none 0 0))) := fun W h => by
    have := rb_num 1 h
    rw [HMN.out.1] at this
    exact this
  refine (C7.out _ H6.out).mono ?_
  rintro e w7 ⟨rfl, _, H7⟩
  clear H6 C7
  go_wp2_with fail
  refine (rb_blocks (n := readTn zs) H7.out HTN.out.2).mono ?_
  rintro e w8 ⟨ta, tc, rfl, ⟨x80, x81, x82, x83, x84, x85, y80, y81, y82, y83, y84, y85⟩, H8⟩
  clear H7
  go_wp2_with fail
  have G8 : Hid (RB w (w8.setCell ⟨xb, 4, none⟩ (.slice ta (readTn zs) tc)) xb rb xb (itN (readTn zs) (readP zs 6)) (.int .i64 (nval 6 (readP zs 0))) (.int .i64 (nval 2 (readP zs 1))) (.int .i64 (nval 2 (readP zs 2))) (.int .i64 (nval 2 (readP zs 3))) (.slice ta (readTn zs) tc) (.slice none 0 0) ∧ IVh (xb + 1) (w8.setCell ⟨xb, 4, none⟩ (.slice ta (readTn zs) tc)) ta (vals (readTn zs) (readP zs 6)) ∧ (ta = none → tc = 0) ∧ readTn zs ≤ tc ∧ tc ≤ 9223372036854775807) := ⟨H8.out.1.set 4 _ _ _ _ _ _ _ rfl, H8.out.2.1.set _ (Nat.lt_succ_self _), H8.out.2.2.1, H8.out.2.2.2.1, H8.out.2.2.2.2.1⟩
  clear x80 y80 x81 y81 x82 y82 x83 y83 x84 y84 x85 y85 H8
  refine (rb_blocks (n := readMn zs) G8.out.1 HMN.out.2).mono ?_
  rintro e w9 ⟨ma, mc, rfl, ⟨x90, x91, x92, x93, x94, x95, y90, y91, y92, y93, y94, y95⟩, H9⟩
  have HT9 : Hid (IVh (xb + 1) w9 ta (vals (readTn zs) (readP zs 6))) := G8.out.2.1.grown H9.out.2.2.2.2.2 (by have := H9.out.1.q.2.1; have := H9.out.1.bx; omega)
  have HC8 : Hid ((ta = none → tc = 0) ∧ readTn zs ≤ tc ∧ tc ≤ 9223372036854775807) := G8.out.2.2
  clear G8
  obtain ⟨z0, z1, z2, z3, z4, z5, v0, v1, v2, v3, v4, v5⟩ := RX.of H9.out.1.o
  have hne : w.heap.size ≠ xb := H9.out.1.ne.2.2.1
  have hne2 : xb ≠ w.heap.size := fun e => hne e.symm
  have hxk : w.heap.size ≤ xb + 1 := by have := H9.out.1.ow; have := H9.out.1.q.2.1; have := H9.out.1.bx; omega
  have HF : Hid (∀ W, Below w.heap.size w9 W → (∀ k, xb + 1 ≤ k → k < w9.heap.size → W.heap[k]? = w9.heap[k]?) → Rt W (readS zs) ta tc ma mc ∧ (IVh w.heap.size W ta (readS zs).T ∧ IVh w.heap.size W ma (readS zs).M) ∧ Below w.heap.size w W) := fun W hb hk => by
    refine ⟨⟨(HT9.out.keep hk hb.size).iv, (H9.out.2.1.keep hk hb.size).iv, HC8.out.1, H9.out.2.2.1, ?_, ?_, HC8.out.2.2, H9.out.2.2.2.2.1⟩, ⟨(HT9.out.keep hk hb.size).mono hxk, (H9.out.2.1.keep hk hb.size).mono hxk⟩, H9.out.1.bl.trans hb⟩
    · show (vals _ _).length ≤ tc
      rw [vals_len]; exact HC8.out.2.1
    · show (vals _ _).length ≤ mc
      rw [vals_len]; exact H9.out.2.2.2.1
  have HRV : Hid (rootV (readS zs) ta tc ma mc = .agg #[.int .i64 (nval 6 (readP zs 0)), .int .i64 (nval 2 (readP zs 1)), .int .i64 (nval 2 (readP zs 2)), .int .i64 (nval 2 (readP zs 3)), .slice ta (readTn zs) tc, .slice ma (readMn zs) mc]) := by
    show _ = _
    unfold rootV readS
    simp only [vals_len]
  have hxw : w.heap.size ≤ xb := by have := H9.out.1.ow; have := H9.out.1.q.2.1; have := H9.out.1.bx; omega
  have HV : Hid (Below w.heap.size w9 (((((((w9.setCell ⟨xb, 5, none⟩ (.slice ma (readMn zs) mc)).setCell ⟨w.heap.size, 0, none⟩ (.int .i64 (nval 6 (readP zs 0)))).setCell ⟨w.heap.size, 1, none⟩ (.int .i64 (nval 2 (readP zs 1)))).setCell ⟨w.heap.size, 2, none⟩ (.int .i64 (nval 2 (readP zs 2)))).setCell ⟨w.heap.size, 3, none⟩ (.int .i64 (nval 2 (readP zs 3)))).setCell ⟨w.heap.size, 4, none⟩ (.slice ta (readTn zs) tc)).setCell ⟨w.heap.size, 5, none⟩ (.slice ma (readMn zs) mc)) ∧ ∀ k, xb + 1 ≤ k → k < w9.heap.size → (((((((w9.setCell ⟨xb, 5, none⟩ (.slice ma (readMn zs) mc)).setCell ⟨w.heap.size, 0, none⟩ (.int .i64 (nval 6 (readP zs 0)))).setCell ⟨w.heap.size, 1, none⟩ (.int .i64 (nval 2 (readP zs 1)))).setCell ⟨w.heap.size, 2, none⟩ (.int .i64 (nval 2 (readP zs 2)))).setCell ⟨w.heap.size, 3, none⟩ (.int .i64 (nval 2 (readP zs 3)))).setCell ⟨w.heap.size, 4, none⟩ (.slice ta (readTn zs) tc)).setCell ⟨w.heap.size, 5, none⟩ (.slice ma (readMn zs) mc)).heap[k]? = w9.heap[k]?) := by
    exact ⟨set7_below _ _ _ _ hxw (Nat.le_refl _) _ _ _ _ _ _ _, fun k hk _ => set7_block _ _ _ _ (by omega) (by omega) _ _ _ _ _ _ _⟩
  clear H9 HT9 HC8
  go_wp2_with fail
  exact bodyPost_ret (v := .agg #[.int .i64 (nval 6 (readP zs 0)), .int .i64 (nval 2 (readP zs 1)), .int .i64 (nval 2 (readP zs 2)), .int .i64 (nval 2 (readP zs 3)), .slice ta (readTn zs) tc, .slice ma (readMn zs) mc]) (by simp [results, Try.results30, go_sem, *]) rfl ⟨ta, tc, ma, mc, by rw [HRV.out], HF.out _ HV.out.1 HV.out.2⟩
theorem read_any (a : Option Addr) (cap : Nat) (zs : List Int) (w : World) (hb : BV w a zs) (hl : zs.length = 246) (hc : zs.length ≤ cap) :
    Calls Try.prog 30 #[.slice a zs.length cap] w fun e w' => ∃ ta tc ma mc, e = .returned (rootV (readS zs) ta tc ma mc) ∧ Rt w' (readS zs) ta tc ma mc ∧ (IVh w.heap.size w' ta (readS zs).T ∧ IVh w.heap.size w' ma (readS zs).M) ∧ Below w.heap.size w w' := by
  have hb0 := hb
  obtain ⟨_, rfl | ⟨b, off, rfl, _, _⟩⟩ := hb
  · simp at hl
  · rw [hl]
    exact read_ok b off 242 cap zs w hb0 hl (by decide) (by omega) (by omega)
end Go.Proofs.Ytadnflaocgmfgaa
