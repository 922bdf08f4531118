/- Put of a fact: the program's call. -/
import Derived.Test.YtpmhilaochfpaaaDoorPf
namespace Go.Proofs.YtpmhilaochfpaaaDoor
open Go.RowKit
set_option linter.unusedVariables false
set_option linter.unusedSimpArgs false
set_option maxRecDepth 20000

set_option maxHeartbeats 8000000 in
theorem fput_any {P : Nat → Nat → Prop} {Q Q2 : Nat → Prop} (v u : Value) (cs : List ClassD) (f : FactD) (w : World) (h : Row 2 (ReK P) w Q v cs) (hL : ∀ c ∈ cs, c.attrs.length ≤ 100000) (hcs : cs.length ≤ 200)
    (hf : SlW 3 w Q2 u (f.vs.map clV)) (hfl : f.vs.length ≤ 100) (hv : ∀ x ∈ f.vs, fV x) (hV : Vars w) :
    Calls Tryd.prog 12 #[v, .agg #[.int .i64 f.t, .string (st f.c), u]] w fun e w' => e = .returned (.tuple #[.string (st (putS cs f)), .int .i64 (putEr cs f)]) ∧ Below w.heap.size w w' := by
  obtain ⟨a2, c2, rfl⟩ := hf.shape
  have CC := check_any v _ cs f (w.alloc (.cells #[.int .i64 f.t, .string (st f.c), .slice a2 (f.vs.map clV).length c2] 36)) (rowK_keep h (bxn _ _)) hL (hf.bl (bxn _ _)) hv (hV.below (bxn _ _))
  rw [List.length_map] at *
  by_cases hE : factE cs f = 0
  · obtain ⟨k, hk, hi, hnm, hal, hvv⟩ := place_of hE
    obtain ⟨g1, g2⟩ := put_good hE hi (by omega)
    rw [g1, g2]
    rw [hE] at CC
    obtain ⟨p1, p2⟩ := put1 (k := k) (by omega)
    have CP := fun W (hW : Below w.heap.size w W) => place_any v cs f.c W (rowK_keep h hW)
    have CN := fun W => put_any (k : Int) 1 W
    rw [p1, p2] at CN
    rw [hi] at CP
    obtain ⟨-, l2, m2, r2⟩ := hf.at v00
    clear hE g1 g2 p1 p2 h hf hL
    obtain ⟨t, nm, vs⟩ := f
    simp only at *
    have R2 : Hid (∀ i, i < vs.length → ∃ b off, a2 = some ⟨b, off, none⟩ ∧ b < w.heap.size ∧ ∀ j, j < 3 → w.cell? ⟨b, off + (i * 3 + j), none⟩ = (clV (vs.getD i v00))[j]?) := r2
    have HV : Hid (∀ x ∈ vs, fV x) := hv
    have HC : Hid (∀ x ∈ vs, chkV x = 0) := hvv
    have HVs : Hid (Vars w) := hV
    have hn2 : (vs.length : Int) ≤ 9223372036854775807 := by omega
    have HZ : Hid (∀ zs ∈ [(k : Int)] :: vs.map pvF, zs.length ≤ 100000) := fun zs hz => by
      rcases List.mem_cons.1 hz with rfl | hz
      · simp
      · obtain ⟨x, hx, rfl⟩ := List.mem_map.1 hz
        have := pvF_pos (hv x hx).1 (hvv x hx)
        omega
    clear r2 hv hvv hV
    have HX : Hid (∀ W, Below (w.alloc (.cells #[.int .i64 t, .string (st nm), .slice a2 vs.length c2] 36)).heap.size (w.alloc (.cells #[.int .i64 t, .string (st nm), .slice a2 vs.length c2] 36)) W →
        (W.cell? ⟨w.heap.size, 0, none⟩ = some (.int .i64 t) ∧ W.cell? ⟨w.heap.size, 1, none⟩ = some (.string (st nm)) ∧ W.cell? ⟨w.heap.size, 2, none⟩ = some (.slice a2 vs.length c2)) ∧ w.heap.size < W.heap.size ∧ Below w.heap.size w W) := fun W hW =>
      ⟨⟨(hW.cell (p := ⟨w.heap.size, 0, none⟩) (by simp)).trans (by go_simp), (hW.cell (p := ⟨w.heap.size, 1, none⟩) (by simp)).trans (by go_simp), (hW.cell (p := ⟨w.heap.size, 2, none⟩) (by simp)).trans (by go_simp)⟩, by have := hW.size; simp at this; omega, (bxn w _).trans (hW.mono (by simp))⟩
    have HWB : Hid (w.heap.size < (w.alloc (.cells #[.int .i64 t, .string (st nm), .slice a2 vs.length c2] 36)).heap.size) := by show _ < _; simp
    go_enter Tryd.func12, Tryd.ntmps12
    go_wp2_with (first
      | (go_at_call 17; refine CC.mono ?_; rintro e w2 ⟨rfl, hb2⟩; obtain ⟨⟨x0, x1, x2⟩, hs, hB⟩ := HX.out w2 hb2; have H2 : Hid (Below _ _ w2) := hb2; have B2 : Hid (Below w.heap.size w w2) := hB; clear CC hb2 hB)
      | (go_at_call 23; refine (CP _ B2.out).mono ?_; rintro e w3 ⟨rfl, hb3⟩; have H3 : Hid (Below _ _ w3) := bt H2.out hb3; clear CP hb3)
      | (go_at_call 19; refine (CN _).mono ?_; rintro e w4 ⟨hd, rfl, ho, hb4⟩; obtain ⟨g0, c0, rfl, _, _, _⟩ := ho.shape 1 rfl (by decide); have H4 : Hid (Below _ _ w4) := bt H3.out hb4; obtain ⟨⟨x0, x1, x2⟩, hs, hB⟩ := HX.out w4 H4.out; have HO : Hid (Own w4 w.heap.size (.slice (some ⟨g0, 0, none⟩) 1 c0) [(k : Int)]) := ho.mono (by have := H3.out.size; have := HWB.out; omega); clear CN hb4 hB ho))
    obtain ⟨W0, hW0⟩ : ∃ W0, W0 = w4.alloc (.cells #[.slice (some ⟨g0, 0, none⟩) 1 c0] 53) := ⟨_, rfl⟩
    have HON : Hid (OwnN 53 1 W0 w4.heap.size (.slice (some ⟨w4.heap.size, 0, none⟩) 1 1) [[.slice (some ⟨g0, 0, none⟩) 1 c0]]) := by
      subst hW0; exact ⟨by simp, World.ownsRow_lit w4 #[.slice (some ⟨g0, 0, none⟩) 1 c0] 1 (Nat.le_refl _) (by decide) rfl⟩
    have HO0 : Hid (Own W0 w.heap.size (.slice (some ⟨g0, 0, none⟩) 1 c0) [(k : Int)]) := by subst hW0; exact HO.out.below (bxn _ _)
    have H0 : Hid (Below (w.alloc (.cells #[.int .i64 t, .string (st nm), .slice a2 vs.length c2] 36)).heap.size (w.alloc (.cells #[.int .i64 t, .string (st nm), .slice a2 vs.length c2] 36)) W0) := by subst hW0; exact bt H4.out (bxn _ _)
    have H40 : Hid ((w.alloc (.cells #[.int .i64 t, .string (st nm), .slice a2 vs.length c2] 36)).heap.size ≤ w4.heap.size ∧ w4.heap.size < W0.heap.size) := by subst hW0; exact ⟨H4.out.size, by simp⟩
    generalize (.slice (some ⟨g0, 0, none⟩) 1 c0 : Value) = hd at *
    generalize w4.heap.size = B2 at *
    rw [← hW0]
    clear hW0 x0 x1 x2 hs H4 HO
    go_loopw [9, 11, 12, 13, 35] (fun vp _ _ _ vi wr => ∃ i : Nat, vi = .int .i64 i ∧ i ≤ vs.length ∧ Hid (Below (w.alloc (.cells #[.int .i64 t, .string (st nm), .slice a2 vs.length c2] 36)).heap.size (w.alloc (.cells #[.int .i64 t, .string (st nm), .slice a2 vs.length c2] 36)) wr ∧ B2 < wr.heap.size) ∧ Hid (∃ ps, OwnN 53 1 wr B2 vp (ps.map fun p => [p]) ∧ All2 (PT w.heap.size wr) ps ([(k : Int)] :: (vs.take i).map pvF))) (fun _ _ _ _ v _ => (vs.length - intOf v).toNat)
    case atStart => exact ⟨0, rfl, Nat.zero_le _, ⟨H0.out, H40.out.2⟩, [hd], HON.out, ⟨HO0.out, by simp, by intro z hz; simp at hz; omega⟩, trivial⟩
    case round =>
      obtain ⟨i, rfl, hi, HB, HP⟩ := hrel
      obtain ⟨⟨x0, x1, x2⟩, hs, hB⟩ := HX.out wr HB.out.1
      have HW : Hid (Below w.heap.size w wr) := hB
      have HB2 : Hid (B2 < wr.heap.size) := HB.out.2
      clear hB
      by_cases hlt : i < vs.length
      · have hiz : (i : Int) < vs.length := by omega
        obtain ⟨b1, o1, rfl, hb1, q1⟩ := R2.out i hlt
        have d0 : wr.cell? ⟨b1, o1 + i * 3, none⟩ = (clV (vs.getD i v00))[0]? := (HW.out.cell (p := ⟨b1, o1 + i * 3, none⟩) hb1).trans (q1 0 (by decide))
        have d1 : wr.cell? ⟨b1, o1 + i * 3 + 1, none⟩ = (clV (vs.getD i v00))[1]? := (HW.out.cell (p := ⟨b1, o1 + i * 3 + 1, none⟩) hb1).trans (q1 1 (by decide))
        have d2 : wr.cell? ⟨b1, o1 + i * 3 + 2, none⟩ = (clV (vs.getD i v00))[2]? := (HW.out.cell (p := ⟨b1, o1 + i * 3 + 2, none⟩) hb1).trans (q1 2 (by decide))
        clear q1
        have hmem : vs.getD i v00 ∈ vs := by rw [List.getD_eq_getElem?_getD, List.getElem?_eq_getElem hlt]; exact List.getElem_mem hlt
        have hfv := HV.out _ hmem
        have hcv := HC.out _ hmem
        have TM := take_map pvF vs v00 i hlt
        generalize vs.getD i v00 = x at *
        clear hmem
        have CB := fun W hW => put_any13 x.k x.n (st x.s) W hfv.1 hfv.2.1 (by rw [st_size]; have := hfv.2.2; omega) hW
        have PPx := pvF_pos hfv.1 hcv
        have PA : Hid (AllB (pvF x)) := put_all13 hfv.1 hfv.2.1
        unfold PutPost at CB
        rw [st_list] at CB
        have hcv' : chkE x.k x.n x.s = 0 := hcv
        rw [hcv'] at CB
        change ∀ W, Vars W → Calls Tryd.prog 24 #[.agg #[.int .u8 x.k, .int .i64 x.n, .string (st x.s)]] W (fun e w' => ∃ v, e = .returned (.tuple #[v, .int .i64 0]) ∧ Own w' W.heap.size v (pvF x) ∧ Below W.heap.size W w') at CB
        simp only [clV, List.getElem?_cons_zero, List.getElem?_cons_succ] at d0 d1 d2
        obtain ⟨ps, hN, hP⟩ := HP.out
        have hpl := hP.len
        simp only [List.length_cons, List.length_map, List.length_take] at hpl
        clear HP
        have HV1 := HVs.out.below (bt HW.out (bxn wr (.cells #[.int .u8 x.k, .int .i64 x.n, .string (st x.s)] 52)))
        have PN : Hid (OwnN 53 1 wr B2 _ (ps.map fun p => [p]) ∧ All2 (PT w.heap.size wr) ps ([(k : Int)] :: (vs.take i).map pvF) ∧ ps.length ≤ 101) := ⟨hN, hP, by omega⟩
        have CB1 := CB _ HV1
        clear hN hP hpl CB HV1 hfv hcv hcv'
        have HPP : Hid (1 ≤ (pvF x).length ∧ pvF x ≠ []) := ⟨PPx.1, fun e => by have := PPx.1; rw [e] at this; simp at this⟩
        clear PPx
        generalize pvF x = zx at *
        have HWS := HW.out.size
        go_wp2_with (first
          | (go_at_call 24; refine CB1.mono ?_; rintro e w5 ⟨bv, rfl, ho5, hb5⟩; obtain ⟨g5, c5, rfl, _, _, _⟩ := ho5.shape zx.length rfl (by have := HPP.out; omega)
             have HQ : Hid (Below wr.heap.size wr (w5.alloc (.cells #[.slice (some ⟨g5, 0, none⟩) zx.length c5] 53)) ∧ Own w5 w.heap.size (.slice (some ⟨g5, 0, none⟩) zx.length c5) zx) := ⟨bt (bt (bxn _ _) hb5) (bxn _ _), ho5.mono (by simp; omega)⟩
             clear CB1 ho5 hb5)
          | (at_builtin; refine wp_app_n Tryd.underlying64 info53 rfl (by decide) (by decide) rfl _ _ rfl B2 _ (ps.map fun p => [p]) [[.slice (some ⟨g5, 0, none⟩) zx.length c5]] rfl (PN.out.1.below HQ.out.1) _ rfl (OwnN.sl (base := 0) ⟨by simp, World.ownsRow_lit w5 #[.slice (some ⟨g5, 0, none⟩) zx.length c5] 1 (Nat.zero_le _) (by decide) rfl⟩) (by simp) (by simp [Value.oneCell']) (by have := PN.out.2.2; simp; omega) (by have := HQ.out.1.size; have := HB2.out; omega) ?_; intro v6 w6 o6 g6 b6))
        have hb6 := b6.size
        have hq := HQ.out.1.size
        have hB := HB.out.2
        have P5 := parts_below HQ.out.1 PN.out.2.1
        have N5 := PN.out.1.below HQ.out.1
        have P6 : ∀ p zs, PT w.heap.size (w5.alloc (.cells #[.slice (some ⟨g5, 0, none⟩) zx.length c5] 53)) p zs → PT w.heap.size w6 p zs := fun p zs h => ⟨h.1.off (by decide) N5 g6, h.2⟩
        refine ⟨⟨i + 1, by simp, by omega, ⟨?_, by omega⟩, ps ++ [.slice (some ⟨g5, 0, none⟩) zx.length c5], ?_, ?_⟩, by simp [intOf]; omega⟩
        · exact (bt HB.out.1 HQ.out.1).trans (b6.mono H40.out.1)
        · rw [List.map_append]; exact o6
        · rw [TM, ← List.cons_append]
          exact All2.snoc (P6 _ _ ⟨HQ.out.2.below (bxn _ _), HPP.out.2, PA.out⟩) (P5.map P6)
      · have hiz : ¬ (i : Int) < vs.length := by omega
        have e : vs.take i = vs := List.take_of_length_le (by omega)
        rw [e] at HP
        obtain ⟨ps, hN, hP⟩ := HP.out
        have CJ := join_any _ _ wr (parts_row hN hP) HZ.out
        clear e
        go_wp2_with (go_at_call 25; refine CJ.mono ?_; rintro e w7 ⟨rfl, hb7⟩)
        go_ret2
        exact ⟨rfl, HW.out.trans (hb7.mono HW.out.size)⟩
  · obtain ⟨g1, g2⟩ := put_bad hE
    have HE : Hid (factE cs f ≠ 0) := hE
    rw [g1, g2]
    clear g1 g2 hE h hf
    generalize factE cs f = er at *
    have hne := HE.out
    go_enter Tryd.func12, Tryd.ntmps12
    go_wp2_with (go_at_call 17; refine CC.mono ?_; rintro e w2 ⟨rfl, hb2⟩)
    go_ret2
    exact ⟨rfl, bt (bxn _ _) hb2⟩
end Go.Proofs.YtpmhilaochfpaaaDoor
