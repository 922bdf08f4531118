/- The document's Text: contracts of single calls. -/
import Derived.Test.YtbbjhiijialfoaaDoorCt
namespace Go.Proofs.YtbbjhiijialfoaaDoor
set_option maxRecDepth 20000
open Go.RowKit
set_option linter.unusedVariables false
set_option linter.unusedSimpArgs false

set_option maxHeartbeats 16000000 in
theorem rtextF_any {P : Nat → Nat → Prop} {Q Q2 : Nat → Prop} (v u : Value) (cs : List ClassD) (f : FactD) (w : World) (h : Row 2 (ReK P) w Q v cs) (hL : ∀ c ∈ cs, classL c)
    (hf : SlW 3 w Q2 u (f.vs.map clV)) (hv : ∀ x ∈ f.vs, fV x) (hfl : factL f) :
    Calls Tryd.prog 19 #[v, .agg #[.int .i64 f.t, .string (st f.c), u]] w fun e w' => e = .returned (.string (st (textR cs f))) ∧ Below w.heap.size w w' := by
  generalize hR : textR cs f = r
  have CK := rcheckF_any v u cs f (w.alloc (.cells #[.int .i64 f.t, .string (st f.c), u] 25)) (rowK_keep h (bxn _ _)) (hf.bl (bxn _ _)) hv
  have CF : Hid (∀ W, Below w.heap.size w W → Calls Tryd.prog 24 #[v, .string (st f.c)] W (FP W (findC cs f.c))) := fun W hW => rfind_any v cs f.c W (rowK_keep h hW)
  obtain ⟨a2, c2, rfl⟩ := hf.shape
  obtain ⟨-, l2, m2, r2⟩ := hf.at v00
  obtain ⟨t, nm, vs⟩ := f
  simp only [List.length_map] at *
  have R2 : Hid (∀ i, i < vs.length → ∃ b off, a2 = some ⟨b, off, none⟩ ∧ b < w.heap.size ∧ ∀ j, j < 3 → w.cell? ⟨b, off + (i * 3 + j), none⟩ = (clV (vs.getD i v00))[j]?) := r2
  have HV : Hid (∀ x ∈ vs, fV x) := hv
  have HFL : Hid (vs.length ≤ 20 ∧ nm.length ≤ 60 ∧ ∀ x ∈ vs, x.s.length ≤ 60) := hfl
  clear h hf hv r2 hfl
  have HX : Hid (∀ W, Below (w.alloc (.cells #[.int .i64 t, .string (st nm), .slice a2 vs.length c2] 25)).heap.size (w.alloc (.cells #[.int .i64 t, .string (st nm), .slice a2 vs.length c2] 25)) W →
      W.cell? ⟨w.heap.size, 0, none⟩ = some (.int .i64 t) ∧
      W.cell? ⟨w.heap.size, 1, none⟩ = some (.string (st nm)) ∧
      W.cell? ⟨w.heap.size, 2, none⟩ = some (.slice a2 vs.length c2) ∧
      w.heap.size < W.heap.size ∧
      Below w.heap.size w W) := fun W hW =>
    ⟨(hW.cell (p := ⟨w.heap.size, 0, none⟩) (by simp; try omega)).trans (by go_simp),
     (hW.cell (p := ⟨w.heap.size, 1, none⟩) (by simp; try omega)).trans (by go_simp),
     (hW.cell (p := ⟨w.heap.size, 2, none⟩) (by simp; try omega)).trans (by go_simp),
     (by have := hW.size; simp at this; omega),
     bt (bxn _ _) hW⟩
  by_cases hfe : ¬ factE cs ⟨t, nm, vs⟩ = 0
  · have E : Hid (r = []) := hR.symm.trans (by unfold textR; rw [if_pos hfe])
    generalize factE cs ⟨t, nm, vs⟩ = er at *
    have hne' : (er == 0) = false := by simpa using hfe
    clear CF hR hL
    go_enter Tryd.func19, Tryd.ntmps19
    go_wp2_with (go_at_call 15; refine CK.mono ?_; rintro e w2 ⟨rfl, hb2⟩; obtain ⟨x00, x01, x02, hs, hB⟩ := HX.out w2 (hb2); have B2 : Hid (Below w.heap.size w w2) := hB; clear hB; clear CK hb2)
    all_goals (
      go_ret
      exact ⟨by rw [E.out]; rfl, B2.out⟩)
  have hfe := Classical.not_not.1 hfe
  obtain ⟨-, k, hfc0, hkl0, -⟩ := factE_fit hfe
  have hfc : findC cs nm = some k := hfc0
  have HKL : Hid (vs.length = k.attrs.length) := hkl0
  have HKC : Hid (classL k) := hL k (findC_mem hfc)
  have EW : Hid (r = [40] ++ nm ++ pcs k.attrs vs ++ [41]) := hR.symm.trans (textR_of hfe hfc)
  have hnm := findC_nm hfc
  have C24 : Hid (∀ W, Below w.heap.size w W → Calls Tryd.prog 24 #[v, .string (st nm)] W fun e w' => ∃ (a : Option Addr) (c : Nat), e = .returned (.tuple #[.agg #[.string (st nm), .slice a k.attrs.length c], .bool true]) ∧ SlW 1 w' (fun _ => True) (.slice a k.attrs.length c) (k.attrs.map clS) ∧ Below W.heap.size W w') := fun W hW => (CF.out W hW).mono fun e w' h => by
    obtain ⟨hb, hh⟩ := h
    rw [hfc] at hh
    obtain ⟨a, c, e1, e2⟩ := hh
    rw [hnm] at e1
    exact ⟨a, c, e1, e2, hb⟩
  rw [hfe] at CK
  have hsn : (st nm).size ≤ 60 := by rw [st_size]; exact HFL.out.2.1
  have HP1 : Hid ((⟨#[40]⟩ ++ st nm : ByteArray) = st (40 :: nm)) := by show _ = _; rw [show (⟨#[40]⟩ : ByteArray) = st [40] from rfl, st_app2]; rfl
  clear CF hfe hfc hfc0 hkl0 hR hL hnm
  go_enter Tryd.func19, Tryd.ntmps19
  go_wp2_with (first
    | (go_at_call 15; refine CK.mono ?_; rintro e w2 ⟨rfl, hb2⟩; have H2 : Hid (Below _ _ w2) := hb2; obtain ⟨x00, x01, x02, hs, hB⟩ := HX.out w2 (hb2); have B2 : Hid (Below w.heap.size w w2) := hB; clear hB; clear CK hb2)
    | (go_at_call 24; refine (C24.out w2 B2.out).mono ?_; rintro e w3 ⟨a, c, rfl, hs3, hb3⟩; have S3 : Hid (SlW 1 w3 (fun b => b < w3.heap.size) (.slice a k.attrs.length c) (k.attrs.map clS)) := hs3.pin; have H3 : Hid (Below _ _ w3) := bt H2.out hb3; clear x00 x01 x02 hs; obtain ⟨x00, x01, x02, hs, hB⟩ := HX.out w3 (H3.out); have B3 : Hid (Below w.heap.size w w3) := hB; clear hB; have x01a : (w3.alloc (.cells #[.string (st nm), .slice a k.attrs.length c] 54)).cell? ⟨w.heap.size, 1, none⟩ = some (.string (st nm)) := ((bxn w3 _).cell (p := ⟨w.heap.size, 1, none⟩) (by simp; omega)).trans x01; clear hb3 hs3 C24))
  rw [HP1.out]
  obtain ⟨W0, hW0⟩ : ∃ W0, W0 = (w3.alloc (.cells #[.string (st nm), .slice a k.attrs.length c] 54)) := ⟨_, rfl⟩
  obtain ⟨B0, hB0⟩ : ∃ B0, B0 = W0.heap.size := ⟨_, rfl⟩
  have HXL : Hid (∀ W, Below B0 W0 W → Below (w.alloc (.cells #[.int .i64 t, .string (st nm), .slice a2 vs.length c2] 25)).heap.size (w.alloc (.cells #[.int .i64 t, .string (st nm), .slice a2 vs.length c2] 25)) W) := fun W hW => by
    subst hB0; subst hW0; exact (bt H3.out (bxn _ _)).trans (hW.mono (bt H3.out (bxn _ _)).size)
  have HLo : Hid (∀ W, Below B0 W0 W → Below w.heap.size w W) := fun W hW => (HX.out W (HXL.out W hW)).2.2.2.2
  have HC : Hid (∀ W, Below B0 W0 W → W.cell? ⟨w3.heap.size, 0, none⟩ = some (.string (st nm)) ∧ W.cell? ⟨w3.heap.size, 1, none⟩ = some (.slice a k.attrs.length c)) := fun W hW => by
    subst hB0; subst hW0; exact ⟨(hW.cell (p := ⟨w3.heap.size, 0, none⟩) (by simp)).trans (by go_simp), (hW.cell (p := ⟨w3.heap.size, 1, none⟩) (by simp)).trans (by go_simp)⟩
  have SA : Hid (∀ W, Below B0 W0 W → SlW 1 W (fun b => b < w3.heap.size) (.slice a k.attrs.length c) (k.attrs.map clS)) := fun W hW => by
    subst hB0; subst hW0; exact slK (slK S3.out (bxn _ _)) (hW.mono (by simp))
  rw [← hW0]
  have HBe : Hid (B0 = W0.heap.size) := hB0
  clear hW0 hB0 S3 H2 B2 H3 B3 x01a x00 x01 x02 hs
  go_loopw [7, 8] (fun v7 v wr => ∃ i : Nat, v = .int .i64 i ∧ i ≤ vs.length ∧ v7 = .string (st (40 :: nm ++ pcs (k.attrs.take i) (vs.take i))) ∧ Hid (Below B0 W0 wr)) (fun _ v _ => (vs.length - intOf v).toNat)
  case atStart => exact ⟨0, rfl, Nat.zero_le _, by simp [pcs], Below.refl _ _⟩
  case round =>
    obtain ⟨i, rfl, hi, rfl, HA⟩ := hrel
    have BW := HA.out
    have HW : Hid (Below w.heap.size w wr) := HLo.out wr BW
    obtain ⟨x00, x01, x02, hs, -⟩ := HX.out wr (HXL.out wr BW)
    obtain ⟨y0, y1⟩ := HC.out wr BW
    have HTL : Hid ((pcs (k.attrs.take i) (vs.take i)).length ≤ 2600) := by
      have := pcs_len (k.attrs.take i) (vs.take i) (fun x hx => HKC.out.2.2 x (List.mem_of_mem_take hx)) (fun x hx => HFL.out.2.2 x (List.mem_of_mem_take hx))
      have h2 := HFL.out.1
      rw [List.length_take] at this
      show _ ≤ _
      omega
    have hz0 : (st (40 :: nm ++ pcs (k.attrs.take i) (vs.take i))).size ≤ 3000 := by
      rw [st_size]
      have h1 := HTL.out; have h2 := HFL.out.2.1
      simp only [List.length_append, List.length_cons]; omega
    by_cases hlt : i < vs.length
    · have hiz : (i : Int) < vs.length := by omega
      have hia : i < k.attrs.length := by have := HKL.out; omega
      have hiaz : (i : Int) < k.attrs.length := by omega
      obtain ⟨b1, o1, rfl, hb1, q1⟩ := R2.out i hlt
      have HQ : Hid (∀ W, Below B0 W0 W → W.cell? ⟨b1, o1 + i * 3, none⟩ = (clV (vs.getD i v00))[0]? ∧ W.cell? ⟨b1, o1 + i * 3 + 1, none⟩ = (clV (vs.getD i v00))[1]? ∧ W.cell? ⟨b1, o1 + i * 3 + 2, none⟩ = (clV (vs.getD i v00))[2]?) := fun W hW => by
        have h0 := HLo.out W hW
        exact ⟨(h0.cell (p := ⟨b1, o1 + i * 3, none⟩) hb1).trans (q1 0 (by decide)), (h0.cell (p := ⟨b1, o1 + i * 3 + 1, none⟩) hb1).trans (q1 1 (by decide)), (h0.cell (p := ⟨b1, o1 + i * 3 + 2, none⟩) hb1).trans (q1 2 (by decide))⟩
      have hfv : fV (vs.getD i v00) := by rw [List.getD_eq_getElem?_getD, List.getElem?_eq_getElem hlt]; exact HV.out _ (List.getElem_mem hlt)
      have hsl : (vs.getD i v00).s.length ≤ 60 := by rw [List.getD_eq_getElem?_getD, List.getElem?_eq_getElem hlt]; exact HFL.out.2.2 _ (List.getElem_mem hlt)
      have hal : (k.attrs.getD i []).length ≤ 60 := by rw [List.getD_eq_getElem?_getD, List.getElem?_eq_getElem hia]; exact HKC.out.2.2 _ (List.getElem_mem hia)
      have HNX := pcs_next hia hlt
      have SG : Hid (∀ W, Below B0 W0 W → ∃ b2 o2, a = some ⟨b2, o2, none⟩ ∧ W.cell? ⟨b2, o2 + i, none⟩ = some (.string (st (k.attrs.getD i [])))) := fun W hW => by
        obtain ⟨b2, o2, e, -, hc⟩ := ((SA.out W hW).at []).2.2.2 i hia
        refine ⟨b2, o2, e, ?_⟩
        have := hc 0 (by decide)
        rw [Nat.mul_one, Nat.add_zero] at this
        rw [this]; rfl
      generalize vs.getD i v00 = x at *
      generalize k.attrs.getD i [] = at_ at *
      obtain ⟨b2, o2, rfl, -⟩ := SG.out wr BW
      simp only [clV, List.getElem?_cons_zero, List.getElem?_cons_succ] at HQ
      have SL : Hid (∀ W, Below B0 W0 W → W.cell? ⟨w3.heap.size, 1, none⟩ = some (.slice (some ⟨b2, o2, none⟩) k.attrs.length c) ∧ W.cell? ⟨b2, o2 + i, none⟩ = some (.string (st at_)) ∧ W.cell? ⟨w.heap.size, 2, none⟩ = some (.slice (some ⟨b1, o1, none⟩) vs.length c2) ∧ W.cell? ⟨b1, o1 + i * 3, none⟩ = some (.int .u8 x.k) ∧ W.cell? ⟨b1, o1 + i * 3 + 1, none⟩ = some (.int .i64 x.n) ∧ W.cell? ⟨b1, o1 + i * 3 + 2, none⟩ = some (.string (st x.s))) := fun W hW => by
        obtain ⟨b2', o2', e, h2⟩ := SG.out W hW
        obtain ⟨rfl, rfl, -⟩ := Addr.mk.inj (Option.some.inj e)
        exact ⟨(HC.out W hW).2, h2, (HX.out W (HXL.out W hW)).2.2.1, (HQ.out W hW).1, (HQ.out W hW).2.1, (HQ.out W hW).2.2⟩
      obtain ⟨-, g1, -, d0, d1, d2⟩ := SL.out wr BW
      clear q1 SG
      by_cases hk0 : x.k = 0
      · have H2 : Hid (40 :: nm ++ pcs (k.attrs.take (i + 1)) (vs.take (i + 1)) = 40 :: nm ++ pcs (k.attrs.take i) (vs.take i)) := by
          show _ = _
          rw [HNX]; unfold piece; rw [if_pos hk0, List.append_nil]
        clear HNX
        go_wp2
        go_roundw
        case rel => exact ⟨i + 1, by simp, by omega, by rw [H2.out], HA.out⟩
        case measure => simp [intOf]; omega
      · have HPS : Hid (st (40 :: nm ++ pcs (k.attrs.take i) (vs.take i)) ++ ⟨#[32, 94]⟩ ++ st at_ ++ ⟨#[32]⟩ ++ st (svd x) = st (40 :: nm ++ pcs (k.attrs.take (i + 1)) (vs.take (i + 1)))) := by
          show _ = _
          rw [HNX]
          unfold piece
          rw [if_neg hk0, show (⟨#[32, 94]⟩ : ByteArray) = st [32, 94] from rfl, show (⟨#[32]⟩ : ByteArray) = st [32] from rfl, st_app2, st_app2, st_app2, st_app2]
          congr 1
          simp only [List.append_assoc]
        have hz1 : (st at_).size ≤ 60 := by rw [st_size]; exact hal
        have hz2 : (st (svd x)).size ≤ 60 := by rw [st_size]; exact svd_len x hsl
        have CT : Hid (∀ W, Below B0 W0 W → Calls Tryd.prog 35 #[.agg #[.int .u8 x.k, .int .i64 x.n, .string (st x.s)]] W fun e w' => e = .returned (.string (st (svd x))) ∧ Below W.heap.size W w') := fun W hW => rtext_v x W hfv
        have hk0' : (x.k == 0) = false := by simpa using hk0
        have HBw : Hid (B0 ≤ wr.heap.size) := by have h1 := BW.size; have h2 := HBe.out; show _ ≤ _; omega
        generalize st (40 :: nm ++ pcs (k.attrs.take i) (vs.take i)) = sp at *
        obtain ⟨sq, hsq⟩ : ∃ sq, sq = st (40 :: nm ++ pcs (k.attrs.take (i + 1)) (vs.take (i + 1))) := ⟨_, rfl⟩
        rw [← hsq] at HPS
        have HSQ : Hid (sq = st (40 :: nm ++ pcs (k.attrs.take (i + 1)) (vs.take (i + 1)))) := hsq
        clear hsq
        generalize hsa : st at_ = sa at *
        generalize st (svd x) = sb at *
        have hq0 : ¬ 9223372036854775807 < sp.size + 2 := by omega
        have hq1 : ¬ 9223372036854775807 < sp.size + 2 + sa.size := by omega
        have hq2 : ¬ 9223372036854775807 < sp.size + 2 + sa.size + 1 := by omega
        have hq3 : ¬ 9223372036854775807 < sp.size + 2 + sa.size + 1 + sb.size := by omega
        clear HNX hal hsl
        go_wp2
        go_region_held3 (fun W => W.cell? ⟨w3.heap.size, 1, none⟩ = some (.slice (some ⟨b2, o2, none⟩) k.attrs.length c) ∧ W.cell? ⟨b2, o2 + i, none⟩ = some (.string sa) ∧ W.cell? ⟨w.heap.size, 2, none⟩ = some (.slice (some ⟨b1, o1, none⟩) vs.length c2) ∧ W.cell? ⟨b1, o1 + i * 3, none⟩ = some (.int .u8 x.k) ∧ W.cell? ⟨b1, o1 + i * 3 + 1, none⟩ = some (.int .i64 x.n) ∧ W.cell? ⟨b1, o1 + i * 3 + 2, none⟩ = some (.string (st x.s))) (first | exact SL.out _ HA.out.drew | exact SL.out _ (HA.out.drew.trans (hb5.mono (by simpa using HBw.out)))) (first | (go_at_call 35; refine (CT.out _ HA.out.drew).mono ?_; rintro e w5 ⟨rfl, hb5⟩))
        all_goals (
          have B5 : Hid (Below B0 W0 w5) := HA.out.drew.trans (hb5.mono (by simpa using HBw.out))
          clear hb5
          go_wp2
          go_roundw
          case rel => exact ⟨i + 1, by simp, by omega, congrArg Value.string (HPS.out.trans HSQ.out), B5.out⟩
          case measure => simp [intOf]; omega)
    · have hiz : ¬ (i : Int) < vs.length := by omega
      have hiaz : ¬ (i : Int) < k.attrs.length := by have := HKL.out; omega
      have E : Hid (st (40 :: nm ++ pcs (k.attrs.take i) (vs.take i)) ++ ⟨#[41]⟩ = st r) := by
        show _ = _
        rw [EW.out, show (⟨#[41]⟩ : ByteArray) = st [41] from rfl, st_app2, List.take_of_length_le (by have := HKL.out; omega), List.take_of_length_le (by omega)]; rfl
      generalize st (40 :: nm ++ pcs (k.attrs.take i) (vs.take i)) = sp at *
      go_wp2
      go_ret
      exact ⟨congrArg (fun z => Ending.returned (.string z)) E.out, HW.out⟩
end Go.Proofs.YtbbjhiijialfoaaDoor
