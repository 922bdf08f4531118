/- Put of a fact: the document's call. -/
import Derived.Test.YtpmhilaochfpaaaDoorPf
import Derived.Test.YtpmhilaochfpaaaDoorCh
namespace Go.Proofs.YtpmhilaochfpaaaDoor
open Go.RowKit
set_option linter.unusedVariables false
set_option linter.unusedSimpArgs false
set_option maxRecDepth 20000

theorem flat_len30 {k : Int} : ∀ (vs : List VD), (∀ x ∈ vs, (pvF x).length ≤ 30) → ([k] :: vs.map pvF).flatten.length ≤ 1 + 30 * vs.length
  | [], _ => by simp
  | x :: vs, h => by
    have h1 := h x (List.mem_cons_self ..)
    have h2 := flat_len30 (k := k) vs fun y hy => h y (List.mem_cons_of_mem _ hy)
    simp only [List.map_cons, List.flatten_cons, List.length_append, List.length_cons] at *
    omega
set_option maxHeartbeats 8000000 in
theorem rfput_any {P : Nat → Nat → Prop} {Q Q2 : Nat → Prop} (v u : Value) (cs : List ClassD) (f : FactD) (w : World) (h : Row 2 (ReK P) w Q v cs) (hcs : cs.length ≤ 200)
    (hf : SlW 3 w Q2 u (f.vs.map clV)) (hfl : f.vs.length ≤ 100) (hv : ∀ x ∈ f.vs, fV x) :
    Calls Tryd.prog 13 #[v, .agg #[.int .i64 f.t, .string (st f.c), u]] w fun e w' => e = .returned (.tuple #[.string (st (putS cs f)), .int .i64 (putEr cs f)]) ∧ Below w.heap.size w w' := by
  obtain ⟨a2, c2, rfl⟩ := hf.shape
  have CC := rcheckF_any v _ cs f (w.alloc (.cells #[.int .i64 f.t, .string (st f.c), .slice a2 (f.vs.map clV).length c2] 36)) (rowK_keep h (bxn _ _)) (hf.bl (bxn _ _)) hv
  rw [List.length_map] at *
  by_cases hE : factE cs f = 0
  · obtain ⟨k, hk, hi, hnm, hal, hvv⟩ := place_of hE
    obtain ⟨g1, g2⟩ := put_good hE hi (by omega)
    rw [g1, g2]
    rw [hE] at CC
    have CP := fun W (hW : Below w.heap.size w W) => rplace_any v cs f.c W (rowK_keep h hW)
    have hw8 : IntKind.u8.wrap (k : Int) = (k : Int) := by rw [IntKind.wrap_u8]; omega
    rw [hi] at CP
    obtain ⟨-, l2, m2, r2⟩ := hf.at v00
    clear hE g1 g2 h hf
    obtain ⟨t, nm, vs⟩ := f
    simp only at *
    have R2 : Hid (∀ i, i < vs.length → ∃ b off, a2 = some ⟨b, off, none⟩ ∧ b < w.heap.size ∧ ∀ j, j < 3 → w.cell? ⟨b, off + (i * 3 + j), none⟩ = (clV (vs.getD i v00))[j]?) := r2
    have HV : Hid (∀ x ∈ vs, fV x) := hv
    have HC : Hid (∀ x ∈ vs, chkV x = 0) := hvv
    have hn2 : (vs.length : Int) ≤ 9223372036854775807 := by omega
    have HZ : Hid (∀ zs ∈ [(k : Int)] :: vs.map pvF, zs.length ≤ 100000) := fun zs hz => by
      rcases List.mem_cons.1 hz with rfl | hz
      · simp
      · obtain ⟨x, hx, rfl⟩ := List.mem_map.1 hz
        have := pvF_pos (hv x hx).1 (hvv x hx)
        omega
    clear r2 hv hvv
    have HX : Hid (∀ W, Below (w.alloc (.cells #[.int .i64 t, .string (st nm), .slice a2 vs.length c2] 36)).heap.size (w.alloc (.cells #[.int .i64 t, .string (st nm), .slice a2 vs.length c2] 36)) W →
        (W.cell? ⟨w.heap.size, 0, none⟩ = some (.int .i64 t) ∧ W.cell? ⟨w.heap.size, 1, none⟩ = some (.string (st nm)) ∧ W.cell? ⟨w.heap.size, 2, none⟩ = some (.slice a2 vs.length c2)) ∧ w.heap.size < W.heap.size ∧ Below w.heap.size w W) := fun W hW =>
      ⟨⟨(hW.cell (p := ⟨w.heap.size, 0, none⟩) (by simp)).trans (by go_simp), (hW.cell (p := ⟨w.heap.size, 1, none⟩) (by simp)).trans (by go_simp), (hW.cell (p := ⟨w.heap.size, 2, none⟩) (by simp)).trans (by go_simp)⟩, by have := hW.size; simp at this; omega, (bxn w _).trans (hW.mono (by simp))⟩
    have HWB : Hid (w.heap.size < (w.alloc (.cells #[.int .i64 t, .string (st nm), .slice a2 vs.length c2] 36)).heap.size) := by show _ < _; simp
    go_enter Tryd.func13, Tryd.ntmps13
    go_wp2_with (first
      | (go_at_call 26; refine CC.mono ?_; rintro e w2 ⟨rfl, hb2⟩; obtain ⟨⟨x0, x1, x2⟩, hs, hB⟩ := HX.out w2 hb2; have H2 : Hid (Below _ _ w2) := hb2; have B2 : Hid (Below w.heap.size w w2) := hB; clear CC hb2 hB)
      | (go_at_call 27; refine (CP _ B2.out).mono ?_; rintro e w3 ⟨rfl, hb3⟩; have H3 : Hid (Below _ _ w3) := bt H2.out hb3; clear CP hb3))
    obtain ⟨W0, hW0⟩ : ∃ W0, W0 = w3.alloc (.cells #[.int .u8 k] 5) := ⟨_, rfl⟩
    have HON : Hid (Own W0 w3.heap.size (.slice (some ⟨w3.heap.size, 0, none⟩) 1 1) [(k : Int)]) := by subst hW0; exact lit1 w3 k
    have H0 : Hid (Below (w.alloc (.cells #[.int .i64 t, .string (st nm), .slice a2 vs.length c2] 36)).heap.size (w.alloc (.cells #[.int .i64 t, .string (st nm), .slice a2 vs.length c2] 36)) W0) := by subst hW0; exact bt H3.out (bxn _ _)
    have H40 : Hid ((w.alloc (.cells #[.int .i64 t, .string (st nm), .slice a2 vs.length c2] 36)).heap.size ≤ w3.heap.size ∧ w3.heap.size < W0.heap.size) := by subst hW0; exact ⟨H3.out.size, by simp⟩
    generalize w3.heap.size = B2 at *
    rw [← hW0]
    clear hW0 x0 x1 x2 hs H3 H2
    go_loopw [8, 9, 10, 11] (fun vp vi _ _ wr => ∃ i : Nat, vi = .int .i64 i ∧ i ≤ vs.length ∧ Hid (Below (w.alloc (.cells #[.int .i64 t, .string (st nm), .slice a2 vs.length c2] 36)).heap.size (w.alloc (.cells #[.int .i64 t, .string (st nm), .slice a2 vs.length c2] 36)) wr ∧ B2 < wr.heap.size) ∧ Hid (Own wr B2 vp ([(k : Int)] :: (vs.take i).map pvF).flatten ∧ AllB ([(k : Int)] :: (vs.take i).map pvF).flatten)) (fun _ v _ _ _ => (vs.length - intOf v).toNat)
    case atStart => exact ⟨0, rfl, Nat.zero_le _, ⟨H0.out, H40.out.2⟩, HON.out, by intro z hz; simp at hz; omega⟩
    case round =>
      obtain ⟨i, rfl, hi, HB, HP⟩ := hrel
      obtain ⟨⟨x0, x1, x2⟩, hs, hB⟩ := HX.out wr HB.out.1
      have HW : Hid (Below w.heap.size w wr) := hB
      have HB2 : Hid (B2 < wr.heap.size) := HB.out.2
      clear hB
      by_cases hlt : i < vs.length
      · have hiz : (i : Int) < vs.length := by omega
        obtain ⟨b1, o1, rfl, hb1, q1⟩ := R2.out i hlt
        have d0 : wr.cell? ⟨b1, o1 + i * 3, none⟩ = (clV (vs.getD i v00))[0]? := (HW.out.cell (p := ⟨b1, o1 + i * 3, none⟩) hb1).trans (q1 0 (by decide))
        have d1 : wr.cell? ⟨b1, o1 + i * 3 + 1, none⟩ = (clV (vs.getD i v00))[1]? := (HW.out.cell (p := ⟨b1, o1 + i * 3 + 1, none⟩) hb1).trans (q1 1 (by decide))
        have d2 : wr.cell? ⟨b1, o1 + i * 3 + 2, none⟩ = (clV (vs.getD i v00))[2]? := (HW.out.cell (p := ⟨b1, o1 + i * 3 + 2, none⟩) hb1).trans (q1 2 (by decide))
        clear q1
        have hmem : vs.getD i v00 ∈ vs := by rw [List.getD_eq_getElem?_getD, List.getElem?_eq_getElem hlt]; exact List.getElem_mem hlt
        have hfv := HV.out _ hmem
        have hcv := HC.out _ hmem
        have TM := take_map pvF vs v00 i hlt
        generalize vs.getD i v00 = x at *
        clear hmem
        have CB := fun W => rput_any13 x.k x.n (st x.s) W hfv.1 hfv.2.1 (by rw [st_size]; have := hfv.2.2; omega)
        have PPx := pvF_pos hfv.1 hcv
        have PA : Hid (AllB (pvF x)) := put_all13 hfv.1 hfv.2.1
        unfold PutPost at CB
        rw [st_list] at CB
        have hcv' : chkE x.k x.n x.s = 0 := hcv
        rw [hcv'] at CB
        change ∀ W, Calls Tryd.prog 28 #[.agg #[.int .u8 x.k, .int .i64 x.n, .string (st x.s)]] W (fun e w' => ∃ v, e = .returned (.tuple #[v, .int .i64 0]) ∧ Own w' W.heap.size v (pvF x) ∧ Below W.heap.size W w') at CB
        simp only [clV, List.getElem?_cons_zero, List.getElem?_cons_succ] at d0 d1 d2
        have hll : ([(k : Int)] :: (vs.take i).map pvF).flatten.length ≤ 1 + 30 * (vs.take i).length := flat_len30 _ fun y hy => (pvF_pos (HV.out y (List.mem_of_mem_take hy)).1 (HC.out y (List.mem_of_mem_take hy))).2
        have hlt2 : (vs.take i).length ≤ 100 := by rw [List.length_take]; omega
        have TF : ([(k : Int)] :: (vs.take (i + 1)).map pvF).flatten = ([(k : Int)] :: (vs.take i).map pvF).flatten ++ pvF x := by rw [TM, ← List.cons_append, List.flatten_append]; simp
        clear TM
        generalize ([(k : Int)] :: (vs.take i).map pvF).flatten = zs at *
        have PN := HP
        clear HP hfv hcv hcv'
        have HPP : Hid (1 ≤ (pvF x).length ∧ pvF x ≠ [] ∧ (pvF x).length ≤ 30) := ⟨PPx.1, fun e => by have := PPx.1; rw [e] at this; simp at this, PPx.2⟩
        clear PPx
        generalize pvF x = zx at *
        have HWS := HW.out.size
        go_wp2_with (first
          | (go_at_call 28; refine (CB _).mono ?_; rintro e w5 ⟨bv, rfl, ho5, hb5⟩
             have HQ : Hid (Below wr.heap.size wr w5) := hb5
             obtain ⟨g5, o5, c5, eb, hne5, hbv5, hlt5⟩ := PT.by (B := 0) ⟨ho5.mono (Nat.zero_le _), HPP.out.2.1, PA.out⟩
             obtain rfl := (List.cons.inj eb).1
             clear CB ho5 hb5 eb)
          | (at_builtin; refine wp_app_bv rfl _ _ rfl B2 _ zs zx rfl (PN.out.1.below HQ.out) g5 o5 _ c5 rfl rfl hne5 hbv5 (by have := HPP.out.2.2; omega) (by have := HQ.out.size; have := HB2.out; omega) ?_; intro v6 w6 o6 b6))
        have hb6 := b6.size
        have hq := HQ.out.size
        have hB := HB.out.2
        refine ⟨⟨i + 1, by simp, by omega, ⟨?_, by omega⟩, ?_, ?_⟩, by simp [intOf]; omega⟩
        · exact (bt HB.out.1 HQ.out).trans (b6.mono H40.out.1)
        · rw [TF]; exact o6
        · rw [TF]; exact PN.out.2.append PA.out
      · have hiz : ¬ (i : Int) < vs.length := by omega
        have e : vs.take i = vs := List.take_of_length_le (by omega)
        rw [e] at HP
        have hll : ([(k : Int)] :: vs.map pvF).flatten.length ≤ 1 + 30 * vs.length := flat_len30 _ fun y hy => (pvF_pos (HV.out y hy).1 (HC.out y hy)).2
        obtain ⟨ho, ha⟩ := HP.out
        have HJ : Hid (160 < ([(k : Int)] :: vs.map pvF).flatten.length → joinS ([(k : Int)] :: vs.map pvF) = [] ∧ joinE ([(k : Int)] :: vs.map pvF) = 5) := join_no
        have HK : Hid (¬ 160 < ([(k : Int)] :: vs.map pvF).flatten.length → joinS ([(k : Int)] :: vs.map pvF) = b8 ([(k : Int)] :: vs.map pvF).flatten ∧ joinE ([(k : Int)] :: vs.map pvF) = 0) := join_yes
        have KC := conv_own ho ha
        rw [str_st] at KC
        obtain ⟨ab, cb, rfl, _, _, _, _⟩ := ho.view ha
        have hk255 : ¬ (k : Int) > 255 := by omega
        clear e HP ho
        generalize ([(k : Int)] :: vs.map pvF).flatten = zs at *
        by_cases hs : 160 < zs.length
        · have E := HJ.out hs
          clear HJ HK
          have E : Hid _ := E
          have hs2 : (zs.length : Int) > 160 := by omega
          clear KC
          go_wp2
          go_ret2
          first | exact ⟨rfl, HW.out⟩ | exact ⟨by rw [E.out.1, E.out.2]; rfl, HW.out⟩
        · have E := HK.out hs
          clear HJ HK
          have E : Hid _ := E
          have hs2 : ¬ (zs.length : Int) > 160 := by omega
          generalize b8 zs = ks at *
          go_wp2
          go_ret2
          first | exact ⟨rfl, HW.out⟩ | exact ⟨by rw [E.out.1, E.out.2]; rfl, HW.out⟩
  · obtain ⟨g1, g2⟩ := put_bad hE
    have HE : Hid (factE cs f ≠ 0) := hE
    rw [g1, g2]
    clear g1 g2 hE h hf
    generalize factE cs f = er at *
    have hne := HE.out
    go_enter Tryd.func13, Tryd.ntmps13
    go_wp2_with (go_at_call 26; refine CC.mono ?_; rintro e w2 ⟨rfl, hb2⟩)
    go_ret2
    exact ⟨rfl, bt (bxn _ _) hb2⟩
end Go.Proofs.YtpmhilaochfpaaaDoor
