/- The document's Get: contracts of single calls. -/
import Derived.Test.YtbbjhiijialfoaaDoorCh
namespace Go.Proofs.YtbbjhiijialfoaaDoor
set_option maxRecDepth 20000
open Go.RowKit
set_option linter.unusedVariables false
set_option linter.unusedSimpArgs false

set_option maxHeartbeats 8000000 in
theorem rget_any {P : Nat → Nat → Prop} {Q Q2 : Nat → Prop} (v u : Value) (cs : List ClassD) (f : FactD) (at_ : Str) (w : World) (h : Row 2 (ReK P) w Q v cs)
    (hf : SlW 3 w Q2 u (f.vs.map clV)) (hv : ∀ x ∈ f.vs, fV x) :
    Calls Tryd.prog 17 #[v, .agg #[.int .i64 f.t, .string (st f.c), u], .string (st at_)] w (GP w (getR cs f at_)) := by
  generalize hR : getR cs f at_ = r
  generalize hPO : GP w r = PO
  have HPN : Hid (∀ w', r = none → Below w.heap.size w w' → PO (.returned (.tuple #[.agg #[.int .u8 0, .int .i64 0, .string ⟨#[]⟩], .bool false])) w') := fun w' he hb => by
    rw [← hPO, he]; exact ⟨rfl, hb⟩
  have HPS : Hid (∀ x w', r = some x → Below w.heap.size w w' → PO (.returned (.tuple #[.agg #[.int .u8 x.k, .int .i64 x.n, .string (st x.s)], .bool true])) w') := fun x w' he hb => by
    rw [← hPO, he]; exact ⟨rfl, hb⟩
  clear hPO
  have CK : Hid (∀ W, Below w.heap.size w W → Calls Tryd.prog 15 #[v, .agg #[.int .i64 f.t, .string (st f.c), u]] W fun e w' => e = .returned (.int .i64 (factE cs f)) ∧ Below W.heap.size W w') := fun W hW => rcheckF_any v u cs f W (rowK_keep h hW) (hf.bl hW) hv
  obtain ⟨a2, c2, rfl⟩ := hf.shape
  obtain ⟨-, l2, m2, r2⟩ := hf.at v00
  obtain ⟨t, nm, vs⟩ := f
  have C24 := rfind_any v cs nm ((w.alloc (.cells #[.int .i64 t, .string (st nm), .slice a2 (vs.map clV).length c2] 25)).alloc (.cells #[.int .u8 0, .int .i64 0, .string ⟨#[]⟩] 42)) (rowK_keep h (bt (bxn _ _) (bxn _ _)))
  simp only [List.length_map] at *
  have R2 : Hid (∀ i, i < vs.length → ∃ b off, a2 = some ⟨b, off, none⟩ ∧ b < w.heap.size ∧ ∀ j, j < 3 → w.cell? ⟨b, off + (i * 3 + j), none⟩ = (clV (vs.getD i v00))[j]?) := r2
  clear h hf hv r2
  have HX : Hid (∀ W, Below ((w.alloc (.cells #[.int .i64 t, .string (st nm), .slice a2 vs.length c2] 25)).alloc (.cells #[.int .u8 0, .int .i64 0, .string ⟨#[]⟩] 42)).heap.size ((w.alloc (.cells #[.int .i64 t, .string (st nm), .slice a2 vs.length c2] 25)).alloc (.cells #[.int .u8 0, .int .i64 0, .string ⟨#[]⟩] 42)) W →
      W.cell? ⟨w.heap.size, 0, none⟩ = some (.int .i64 t) ∧
      W.cell? ⟨w.heap.size, 1, none⟩ = some (.string (st nm)) ∧
      W.cell? ⟨w.heap.size, 2, none⟩ = some (.slice a2 vs.length c2) ∧
      W.cell? ⟨w.heap.size + 1, 0, none⟩ = some (.int .u8 0) ∧
      W.cell? ⟨w.heap.size + 1, 1, none⟩ = some (.int .i64 0) ∧
      W.cell? ⟨w.heap.size + 1, 2, none⟩ = some (.string ⟨#[]⟩) ∧
      W.frozen? ⟨w.heap.size + 1, 0, none⟩ = false ∧
      W.frozen? ⟨w.heap.size + 1, 1, none⟩ = false ∧
      W.frozen? ⟨w.heap.size + 1, 2, none⟩ = false ∧
      w.heap.size + 1 < W.heap.size ∧
      Below w.heap.size w W) := fun W hW =>
    ⟨(hW.cell (p := ⟨w.heap.size, 0, none⟩) (by simp; try omega)).trans (by go_simp),
     (hW.cell (p := ⟨w.heap.size, 1, none⟩) (by simp; try omega)).trans (by go_simp),
     (hW.cell (p := ⟨w.heap.size, 2, none⟩) (by simp; try omega)).trans (by go_simp),
     (hW.cell (p := ⟨w.heap.size + 1, 0, none⟩) (by simp; try omega)).trans (by go_simp),
     (hW.cell (p := ⟨w.heap.size + 1, 1, none⟩) (by simp; try omega)).trans (by go_simp),
     (hW.cell (p := ⟨w.heap.size + 1, 2, none⟩) (by simp; try omega)).trans (by go_simp),
     (hW.frozen (p := ⟨w.heap.size + 1, 0, none⟩) (by simp; try omega)).trans (by go_simp),
     (hW.frozen (p := ⟨w.heap.size + 1, 1, none⟩) (by simp; try omega)).trans (by go_simp),
     (hW.frozen (p := ⟨w.heap.size + 1, 2, none⟩) (by simp; try omega)).trans (by go_simp),
     (by have := hW.size; simp at this; omega),
     bt (bt (bxn _ _) (bxn _ _)) hW⟩
  have C : Calls Tryd.prog 24 #[v, .string (st nm)] ((w.alloc (.cells #[.int .i64 t, .string (st nm), .slice a2 vs.length c2] 25)).alloc (.cells #[.int .u8 0, .int .i64 0, .string ⟨#[]⟩] 42)) fun e w' => ∃ (s1 : Str) (a : Option Addr) (c : Nat) (ats : List Str), e = .returned (.tuple #[.agg #[.string (st s1), .slice a ats.length c], .bool (findC cs nm).isSome]) ∧ SlW 1 w' (fun _ => True) (.slice a ats.length c) (ats.map clS) ∧ Below ((w.alloc (.cells #[.int .i64 t, .string (st nm), .slice a2 vs.length c2] 25)).alloc (.cells #[.int .u8 0, .int .i64 0, .string ⟨#[]⟩] 42)).heap.size ((w.alloc (.cells #[.int .i64 t, .string (st nm), .slice a2 vs.length c2] 25)).alloc (.cells #[.int .u8 0, .int .i64 0, .string ⟨#[]⟩] 42)) w' := C24.mono fun e w' h => by
    obtain ⟨hb, hh⟩ := h
    cases hfc : findC cs nm with
    | none => rw [hfc] at hh; exact ⟨[], none, 0, [], hh, ⟨none, 0, rfl, Nat.le_refl _, by decide, .inl rfl⟩, hb⟩
    | some k => rw [hfc] at hh; obtain ⟨a, c, e1, e2⟩ := hh; exact ⟨k.nm, a, c, k.attrs, e1, e2, hb⟩
  by_cases hfe : ¬ factE cs ⟨t, nm, vs⟩ = 0
  · have E : Hid (r = none) := hR.symm.trans (by unfold getR; rw [if_pos hfe])
    generalize factE cs ⟨t, nm, vs⟩ = er at *
    have hne' : (er == 0) = false := by simpa using hfe
    generalize (findC cs nm).isSome = fb at *
    clear C24 hR
    go_enter Tryd.func17, Tryd.ntmps17
    go_wp2_with (first
      | (go_at_call 24; refine C.mono ?_; rintro e w2 ⟨s1, a, c, ats, rfl, hs2, hb2⟩; have H2 : Hid (Below _ _ w2) := hb2; have S2 : Hid (SlW 1 w2 (fun _ => True) (.slice a ats.length c) (ats.map clS)) := hs2; obtain ⟨x00, x01, x02, x10, x11, x12, xz10, xz11, xz12, hs, hB⟩ := HX.out w2 (hb2); have B2 : Hid (Below w.heap.size w w2) := hB; clear hB; clear C hb2 hs2)
      | (go_at_call 29; refine (rattr_any s1 a ats.length c ats at_ _ (S2.out.bl (bxn _ _))).mono ?_; rintro e w3 ⟨rfl, hb3⟩; generalize max (idxS ats at_) 0 = ix at *; generalize decide (0 ≤ idxS ats at_) = hb at *; have H3 : Hid (Below _ _ w3) := bt H2.out (bt (bxn _ _) hb3); clear x00 x01 x02 x10 x11 x12 xz10 xz11 xz12 hs; obtain ⟨x00, x01, x02, x10, x11, x12, xz10, xz11, xz12, hs, hB⟩ := HX.out w3 (H3.out); have B3 : Hid (Below w.heap.size w w3) := hB; clear hB; clear hb3)
      | (go_at_call 15; refine (CK.out w3 B3.out).mono ?_; rintro e w4 ⟨rfl, hb4⟩; clear x00 x01 x02 x10 x11 x12 xz10 xz11 xz12 hs; obtain ⟨x00, x01, x02, x10, x11, x12, xz10, xz11, xz12, hs, hB⟩ := HX.out w4 (bt H3.out hb4); have B4 : Hid (Below w.heap.size w w4) := hB; clear hB; skip; clear CK hb4))
    all_goals (
      refine bodyPost_ret (v := .tuple #[.agg #[.int .u8 0, .int .i64 0, .string ⟨#[]⟩], .bool false]) (by simp [results, Tryd.results17, go_sem]; go_simp) rfl ?_
      exact HPN.out _ E.out (setThree_below B4.out (by omega)))
  have hfe := Classical.not_not.1 hfe
  obtain ⟨-, k, hfc0, hkl0, -⟩ := factE_fit hfe
  have hfc : findC cs nm = some k := hfc0
  have hkl : vs.length = k.attrs.length := hkl0
  clear hfc0 hkl0 C
  have C : Calls Tryd.prog 24 #[v, .string (st nm)] ((w.alloc (.cells #[.int .i64 t, .string (st nm), .slice a2 vs.length c2] 25)).alloc (.cells #[.int .u8 0, .int .i64 0, .string ⟨#[]⟩] 42)) fun e w' => ∃ (s1 : Str) (a : Option Addr) (c : Nat) (ats : List Str), ats = k.attrs ∧ e = .returned (.tuple #[.agg #[.string (st s1), .slice a ats.length c], .bool true]) ∧ SlW 1 w' (fun _ => True) (.slice a ats.length c) (ats.map clS) ∧ Below ((w.alloc (.cells #[.int .i64 t, .string (st nm), .slice a2 vs.length c2] 25)).alloc (.cells #[.int .u8 0, .int .i64 0, .string ⟨#[]⟩] 42)).heap.size ((w.alloc (.cells #[.int .i64 t, .string (st nm), .slice a2 vs.length c2] 25)).alloc (.cells #[.int .u8 0, .int .i64 0, .string ⟨#[]⟩] 42)) w' := C24.mono fun e w' h => by
    obtain ⟨hb, hh⟩ := h
    rw [hfc] at hh; obtain ⟨a, c, e1, e2⟩ := hh; exact ⟨k.nm, a, c, k.attrs, rfl, e1, e2, hb⟩
  have HG := getR_of (a := at_) hfe hfc
  rw [hR] at HG
  rw [hfe] at CK
  clear hR C24 hfe hfc
  generalize k.attrs = ks at *
  have C : Calls Tryd.prog 24 #[v, .string (st nm)] ((w.alloc (.cells #[.int .i64 t, .string (st nm), .slice a2 vs.length c2] 25)).alloc (.cells #[.int .u8 0, .int .i64 0, .string ⟨#[]⟩] 42)) fun e w' => ∃ (s1 : Str) (a : Option Addr) (c : Nat), e = .returned (.tuple #[.agg #[.string (st s1), .slice a ks.length c], .bool true]) ∧ SlW 1 w' (fun _ => True) (.slice a ks.length c) (ks.map clS) ∧ Below ((w.alloc (.cells #[.int .i64 t, .string (st nm), .slice a2 vs.length c2] 25)).alloc (.cells #[.int .u8 0, .int .i64 0, .string ⟨#[]⟩] 42)).heap.size ((w.alloc (.cells #[.int .i64 t, .string (st nm), .slice a2 vs.length c2] 25)).alloc (.cells #[.int .u8 0, .int .i64 0, .string ⟨#[]⟩] 42)) w' := C.mono fun e w' h => by
    obtain ⟨s1, a, c, ats, rfl, h1, h2, h3⟩ := h; exact ⟨s1, a, c, h1, h2, h3⟩
  have CA := fun (s1 : Str) (a : Option Addr) (c : Nat) W (hs : SlW 1 W (fun _ => True) (.slice a ks.length c) (ks.map clS)) => rattr_any s1 a ks.length c ks at_ W hs
  rcases idxS_or ks at_ with hi | hi
  · have E : Hid (r = none) := HG.trans (if_pos (by rw [hi]; decide))
    rw [hi] at CA
    clear HG hkl hi
    go_enter Tryd.func17, Tryd.ntmps17
    go_wp2_with (first
      | (go_at_call 24; refine C.mono ?_; rintro e w2 ⟨s1, a, c, rfl, hs2, hb2⟩; have H2 : Hid (Below _ _ w2) := hb2; have S2 : Hid (SlW 1 w2 (fun _ => True) (.slice a ks.length c) (ks.map clS)) := hs2; obtain ⟨x00, x01, x02, x10, x11, x12, xz10, xz11, xz12, hs, hB⟩ := HX.out w2 (hb2); have B2 : Hid (Below w.heap.size w w2) := hB; clear hB; clear C hb2 hs2)
      | (go_at_call 29; refine (CA s1 a c _ (S2.out.bl (bxn _ _))).mono ?_; rintro e w3 ⟨rfl, hb3⟩; clear CA; have H3 : Hid (Below _ _ w3) := bt H2.out (bt (bxn _ _) hb3); clear x00 x01 x02 x10 x11 x12 xz10 xz11 xz12 hs; obtain ⟨x00, x01, x02, x10, x11, x12, xz10, xz11, xz12, hs, hB⟩ := HX.out w3 (H3.out); have B3 : Hid (Below w.heap.size w w3) := hB; clear hB; clear hb3)
      | (go_at_call 15; refine (CK.out w3 B3.out).mono ?_; rintro e w4 ⟨rfl, hb4⟩; clear x00 x01 x02 x10 x11 x12 xz10 xz11 xz12 hs; obtain ⟨x00, x01, x02, x10, x11, x12, xz10, xz11, xz12, hs, hB⟩ := HX.out w4 (bt H3.out hb4); have B4 : Hid (Below w.heap.size w w4) := hB; clear hB; skip; clear CK hb4))
    all_goals (
      refine bodyPost_ret (v := .tuple #[.agg #[.int .u8 0, .int .i64 0, .string ⟨#[]⟩], .bool false]) (by simp [results, Tryd.results17, go_sem]; go_simp) rfl ?_
      exact HPN.out _ E.out (setThree_below B4.out (by omega)))
  · have hil := (idxS_lt hi).1
    have E0 : r = some (vs.getD (idxS ks at_).toNat v00) := HG.trans (if_neg (by omega))
    rw [decide_eq_true hi, Int.max_eq_left hi] at CA
    obtain ⟨j, hj⟩ := Int.eq_ofNat_of_zero_le hi
    rw [hj] at CA
    rw [hj, Int.toNat_natCast] at E0 hil
    have hjl : j < vs.length := by omega
    have hjz : (j : Int) < vs.length := by omega
    obtain ⟨b1, o1, rfl, hb1, q1⟩ := R2.out j hjl
    have E : Hid (r = some (vs.getD j v00)) := E0
    have QV : Hid (∀ W, Below w.heap.size w W → W.cell? ⟨b1, o1 + j * 3, none⟩ = (clV (vs.getD j v00))[0]? ∧ W.cell? ⟨b1, o1 + j * 3 + 1, none⟩ = (clV (vs.getD j v00))[1]? ∧ W.cell? ⟨b1, o1 + j * 3 + 2, none⟩ = (clV (vs.getD j v00))[2]?) := fun W hW =>
      ⟨(hW.cell (p := ⟨b1, o1 + j * 3, none⟩) hb1).trans (q1 0 (by decide)), (hW.cell (p := ⟨b1, o1 + j * 3 + 1, none⟩) hb1).trans (q1 1 (by decide)), (hW.cell (p := ⟨b1, o1 + j * 3 + 2, none⟩) hb1).trans (q1 2 (by decide))⟩
    generalize vs.getD j v00 = x at *
    simp only [clV, List.getElem?_cons_zero, List.getElem?_cons_succ] at QV
    clear HG hkl hi hj hil E0 q1
    go_enter Tryd.func17, Tryd.ntmps17
    go_wp2_with (first
      | (go_at_call 24; refine C.mono ?_; rintro e w2 ⟨s1, a, c, rfl, hs2, hb2⟩; have H2 : Hid (Below _ _ w2) := hb2; have S2 : Hid (SlW 1 w2 (fun _ => True) (.slice a ks.length c) (ks.map clS)) := hs2; obtain ⟨x00, x01, x02, x10, x11, x12, xz10, xz11, xz12, hs, hB⟩ := HX.out w2 (hb2); have B2 : Hid (Below w.heap.size w w2) := hB; clear hB; clear C hb2 hs2)
      | (go_at_call 29; refine (CA s1 a c _ (S2.out.bl (bxn _ _))).mono ?_; rintro e w3 ⟨rfl, hb3⟩; clear CA; have H3 : Hid (Below _ _ w3) := bt H2.out (bt (bxn _ _) hb3); clear x00 x01 x02 x10 x11 x12 xz10 xz11 xz12 hs; obtain ⟨x00, x01, x02, x10, x11, x12, xz10, xz11, xz12, hs, hB⟩ := HX.out w3 (H3.out); have B3 : Hid (Below w.heap.size w w3) := hB; clear hB; clear hb3)
      | (go_at_call 15; refine (CK.out w3 B3.out).mono ?_; rintro e w4 ⟨rfl, hb4⟩; clear x00 x01 x02 x10 x11 x12 xz10 xz11 xz12 hs; obtain ⟨x00, x01, x02, x10, x11, x12, xz10, xz11, xz12, hs, hB⟩ := HX.out w4 (bt H3.out hb4); have B4 : Hid (Below w.heap.size w w4) := hB; clear hB; obtain ⟨g0, g1, g2⟩ := QV.out w4 B4.out; clear CK hb4))
    all_goals (
      refine bodyPost_ret (v := .tuple #[.agg #[.int .u8 x.k, .int .i64 x.n, .string (st x.s)], .bool true]) (by simp [results, Tryd.results17, go_sem]; go_simp) rfl ?_
      exact HPS.out x _ E.out (setThree_below B4.out (by omega)))
end Go.Proofs.YtbbjhiijialfoaaDoor
