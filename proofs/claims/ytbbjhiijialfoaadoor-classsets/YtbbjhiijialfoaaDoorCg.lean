/- With: contracts of single calls. -/
import Derived.Test.YtbbjhiijialfoaaDoorCf
namespace Go.Proofs.YtbbjhiijialfoaaDoor
set_option maxRecDepth 20000
open Go.RowKit
set_option linter.unusedVariables false
set_option linter.unusedSimpArgs false

theorem OwnN.cell {T : TypeId} {w : World} {base g n cap : Nat} {css : List (List Value)} (h : OwnN T 3 w base (.slice (some ⟨g, 0, none⟩) n cap) css) {k : Nat} (hk : k < css.length) (j : Nat) (hj : j < 3) :
    (∃ u, w.cell? ⟨g, k * 3 + j, none⟩ = some u) ∧ w.frozen? ⟨g, k * 3 + j, none⟩ = false := by
  obtain ⟨g', e, _, _, hc⟩ := h.at (Nat.lt_of_le_of_lt (Nat.zero_le _) hk)
  obtain ⟨rfl⟩ := Addr.mk.inj (Option.some.inj e)
  exact hc k hk j hj
theorem lenV {w : World} {B : Nat} {a : Option Addr} {c : Nat} {xs : List VD} (h : OwnV w B (.slice a (xs.map clV).length c) xs) : OwnV w B (.slice a xs.length c) xs := by
  have e : (xs.map clV).length = xs.length := List.length_map _
  rwa [e] at h
set_option maxHeartbeats 16000000 in
theorem with_any {P : Nat → Nat → Prop} {Q Q2 Q3 : Nat → Prop} (v u s : Value) (cs : List ClassD) (f : FactD) (t' : Int) (bs : List BoundD) (w : World) (h : Row 2 (ReK P) w Q v cs) (hL : ∀ c ∈ cs, c.attrs.length ≤ 100000)
    (hf : SlW 3 w Q2 u (f.vs.map clV)) (hv : ∀ x ∈ f.vs, fV x) (hV : Vars w) (hs : SlW 4 w Q3 s (bs.map clB)) (hb : ∀ b ∈ bs, fV b.x) (hl : f.vs.length ≤ 100000) :
    Calls Tryd.prog 11 #[v, .agg #[.int .i64 f.t, .string (st f.c), u], .int .i64 t', s] w (WP w (withR cs f t' bs)) := by
  generalize hPO : WP w (withR cs f t' bs) = PO
  have HPN : Hid (∀ er w', withR cs f t' bs = .error er → Below w.heap.size w w' → PO (.returned (.tuple #[.agg #[.int .i64 0, .string ⟨#[]⟩, .slice none 0 0], .int .i64 er])) w') := fun er w' he hb => by
    rw [← hPO]; exact ⟨hb, by rw [he]⟩
  have HPS : Hid (∀ g v w', withR cs f t' bs = .ok g → Below w.heap.size w w' → OwnV w' w.heap.size v g.vs → PO (.returned (.tuple #[.agg #[.int .i64 g.t, .string (st g.c), v], .int .i64 0])) w') := fun g v w' he hb hs => by
    rw [← hPO]; exact ⟨hb, by rw [he]; exact ⟨v, rfl, hs⟩⟩
  clear hPO
  have HF0 : Hid (SlW 3 w Q2 u (f.vs.map clV)) := hf
  have HS0 : Hid (SlW 4 w Q3 s (bs.map clB)) := hs
  have HVs : Hid (Vars w) := hV
  have HB0 : Hid (∀ b ∈ bs, fV b.x) := hb
  obtain ⟨a2, c2, rfl⟩ := hf.shape
  obtain ⟨a3, c3, rfl⟩ := hs.shape
  obtain ⟨-, l3, m3, r3⟩ := hs.at ⟨[], v00⟩
  have C25 := classOf_any v _ cs f ((w.alloc (.cells #[.int .i64 f.t, .string (st f.c), .slice a2 (f.vs.map clV).length c2] 25)).alloc (.cells #[.int .i64 0, .string ⟨#[]⟩, .slice none 0 0] 25)) (rowK_keep h (bt (bxn _ _) (bxn _ _))) hL (hf.bl (bt (bxn _ _) (bxn _ _))) hv (hV.below (bt (bxn _ _) (bxn _ _)))
  simp only [List.length_map] at *
  have R3 : Hid (∀ i, i < bs.length → ∃ b off, a3 = some ⟨b, off, none⟩ ∧ b < w.heap.size ∧ ∀ j, j < 4 → w.cell? ⟨b, off + (i * 4 + j), none⟩ = (clB (bs.getD i ⟨[], v00⟩))[j]?) := r3
  have CT := fun W => istag_any t' W
  clear h hL hf hv hV hs hb r3
  obtain ⟨t, nm, vs⟩ := f
  simp only at *
  have HX : Hid (∀ W, Below ((w.alloc (.cells #[.int .i64 t, .string (st nm), .slice a2 vs.length c2] 25)).alloc (.cells #[.int .i64 0, .string ⟨#[]⟩, .slice none 0 0] 25)).heap.size ((w.alloc (.cells #[.int .i64 t, .string (st nm), .slice a2 vs.length c2] 25)).alloc (.cells #[.int .i64 0, .string ⟨#[]⟩, .slice none 0 0] 25)) W →
      (W.cell? ⟨w.heap.size, 0, none⟩ = some (.int .i64 t) ∧ W.cell? ⟨w.heap.size, 1, none⟩ = some (.string (st nm)) ∧ W.cell? ⟨w.heap.size, 2, none⟩ = some (.slice a2 vs.length c2)) ∧
      (W.cell? ⟨w.heap.size + 1, 0, none⟩ = some (.int .i64 0) ∧ W.cell? ⟨w.heap.size + 1, 1, none⟩ = some (.string ⟨#[]⟩) ∧ W.cell? ⟨w.heap.size + 1, 2, none⟩ = some (.slice none 0 0)) ∧
      (W.frozen? ⟨w.heap.size + 1, 0, none⟩ = false ∧ W.frozen? ⟨w.heap.size + 1, 1, none⟩ = false ∧ W.frozen? ⟨w.heap.size + 1, 2, none⟩ = false) ∧ w.heap.size + 1 < W.heap.size ∧ Below w.heap.size w W) := fun W hW => by
    have f0 : ((w.alloc (.cells #[.int .i64 t, .string (st nm), .slice a2 vs.length c2] 25)).alloc (.cells #[.int .i64 0, .string ⟨#[]⟩, .slice none 0 0] 25)).frozen? ⟨w.heap.size + 1, 0, none⟩ = false := by go_simp
    have f1 : ((w.alloc (.cells #[.int .i64 t, .string (st nm), .slice a2 vs.length c2] 25)).alloc (.cells #[.int .i64 0, .string ⟨#[]⟩, .slice none 0 0] 25)).frozen? ⟨w.heap.size + 1, 1, none⟩ = false := by go_simp
    have f2 : ((w.alloc (.cells #[.int .i64 t, .string (st nm), .slice a2 vs.length c2] 25)).alloc (.cells #[.int .i64 0, .string ⟨#[]⟩, .slice none 0 0] 25)).frozen? ⟨w.heap.size + 1, 2, none⟩ = false := by go_simp
    refine ⟨⟨(hW.cell (p := ⟨w.heap.size, 0, none⟩) (by simp; omega)).trans (by go_simp), (hW.cell (p := ⟨w.heap.size, 1, none⟩) (by simp; omega)).trans (by go_simp), (hW.cell (p := ⟨w.heap.size, 2, none⟩) (by simp; omega)).trans (by go_simp)⟩, ⟨(hW.cell (p := ⟨w.heap.size + 1, 0, none⟩) (by simp)).trans (by go_simp), (hW.cell (p := ⟨w.heap.size + 1, 1, none⟩) (by simp)).trans (by go_simp), (hW.cell (p := ⟨w.heap.size + 1, 2, none⟩) (by simp)).trans (by go_simp)⟩, ⟨?_, ?_, ?_⟩, ?_, bt (bt (bxn _ _) (bxn _ _)) hW⟩
    · exact (hW.frozen (p := ⟨w.heap.size + 1, 0, none⟩) (by simp)).trans f0
    · exact (hW.frozen (p := ⟨w.heap.size + 1, 1, none⟩) (by simp)).trans f1
    · exact (hW.frozen (p := ⟨w.heap.size + 1, 2, none⟩) (by simp)).trans f2
    · have := hW.size; simp at this; omega
  by_cases hfe : ¬ factE cs ⟨t, nm, vs⟩ = 0
  · have E : Hid (withR cs ⟨t, nm, vs⟩ t' bs = .error (factE cs ⟨t, nm, vs⟩)) := by show withR _ _ _ _ = _; unfold withR; rw [if_pos hfe]
    have C : Calls Tryd.prog 25 #[v, .agg #[.int .i64 t, .string (st nm), .slice a2 vs.length c2]] ((w.alloc (.cells #[.int .i64 t, .string (st nm), .slice a2 vs.length c2] 25)).alloc (.cells #[.int .i64 0, .string ⟨#[]⟩, .slice none 0 0] 25)) fun e w' => e = .returned (.tuple #[.agg #[.string ⟨#[]⟩, .slice none 0 0], .int .i64 (factE cs ⟨t, nm, vs⟩)]) ∧ Below _ _ w' := C25.mono fun e w' h => ⟨by
      rcases h.2 with ⟨_, h⟩ | ⟨h0, _⟩
      · exact h
      · exact absurd h0 hfe, h.1⟩
    generalize factE cs ⟨t, nm, vs⟩ = er at *
    clear C25
    go_enter Tryd.func11, Tryd.ntmps11
    go_wp2_with (go_at_call 25; refine C.mono ?_; rintro e w2 ⟨rfl, hb2⟩; obtain ⟨⟨x0, x1, x2⟩, ⟨y0, y1, y2⟩, ⟨z0, z1, z2⟩, hs, hB⟩ := HX.out w2 hb2; have B2 : Hid (Below w.heap.size w w2) := hB; clear C hb2 hB)
    all_goals (
      refine bodyPost_ret (v := .tuple #[.agg #[.int .i64 0, .string ⟨#[]⟩, .slice none 0 0], .int .i64 er]) (by simp [results, Tryd.results11, go_sem]; go_simp) rfl ?_
      exact HPN.out er _ E.out (bt (setThree_below B2.out (by omega)) (bxn _ _)))
  have hfe := Classical.not_not.1 hfe
  cases hfc : findC cs nm with
  | none => exact absurd hfe (by unfold factE; rw [hfc]; split <;> simp)
  | some k =>
  have hkl : vs.length = k.attrs.length := by
    have h := hfe
    unfold factE at h
    rw [hfc] at h
    by_cases h0 : vs.length = k.attrs.length
    · exact h0
    · exfalso; revert h; simp only; split
      · decide
      · decide
  have C : Calls Tryd.prog 25 #[v, .agg #[.int .i64 t, .string (st nm), .slice a2 vs.length c2]] ((w.alloc (.cells #[.int .i64 t, .string (st nm), .slice a2 vs.length c2] 25)).alloc (.cells #[.int .i64 0, .string ⟨#[]⟩, .slice none 0 0] 25)) fun e w' => ∃ a c, e = .returned (.tuple #[.agg #[.string (st k.nm), .slice a k.attrs.length c], .int .i64 0]) ∧ SlW 1 w' (fun _ => True) (.slice a k.attrs.length c) (k.attrs.map clS) ∧ Below ((w.alloc (.cells #[.int .i64 t, .string (st nm), .slice a2 vs.length c2] 25)).alloc (.cells #[.int .i64 0, .string ⟨#[]⟩, .slice none 0 0] 25)).heap.size ((w.alloc (.cells #[.int .i64 t, .string (st nm), .slice a2 vs.length c2] 25)).alloc (.cells #[.int .i64 0, .string ⟨#[]⟩, .slice none 0 0] 25)) w' := C25.mono fun e w' h => by
    rcases h.2 with ⟨h0, _⟩ | ⟨_, k', a, c, e1, _, e2, e3⟩
    · exact absurd hfe h0
    · rw [hfc] at e1
      obtain rfl := Option.some.inj e1
      exact ⟨a, c, e2, e3, h.1⟩
  clear C25
  cases htg : tagB t' with
  | false =>
    have E : Hid (withR cs ⟨t, nm, vs⟩ t' bs = .error 22) := by show withR _ _ _ _ = _; unfold withR; rw [if_neg (show ¬ factE cs ⟨t, nm, vs⟩ ≠ 0 from fun h => h hfe), htg, if_pos rfl]
    rw [htg] at CT
    clear htg hfe hfc hkl
    go_enter Tryd.func11, Tryd.ntmps11
    go_wp2_with (first
      | (go_at_call 25; refine C.mono ?_; rintro e w2 ⟨a, c, rfl, -, hb2⟩; have H2 : Hid (Below _ _ w2) := hb2; obtain ⟨⟨x0, x1, x2⟩, ⟨y0, y1, y2⟩, ⟨z0, z1, z2⟩, hs, hB⟩ := HX.out w2 hb2; have B2 : Hid (Below w.heap.size w w2) := hB; clear C hb2 hB)
      | (go_at_call 26; refine (CT _).mono ?_; rintro e w3 ⟨rfl, hb3⟩; clear x0 x1 x2 y0 y1 y2 z0 z1 z2 hs; obtain ⟨⟨x0, x1, x2⟩, ⟨y0, y1, y2⟩, ⟨z0, z1, z2⟩, hs, hB⟩ := HX.out w3 (bt H2.out (bt (bxn _ _) hb3)); have B3 : Hid (Below w.heap.size w w3) := hB; clear CT hb3 hB))
    all_goals (
      refine bodyPost_ret (v := .tuple #[.agg #[.int .i64 0, .string ⟨#[]⟩, .slice none 0 0], .int .i64 22]) (by simp [results, Tryd.results11, go_sem]; go_simp) rfl ?_
      exact HPN.out 22 _ E.out (setThree_below B3.out (by omega)))
  | true =>
    have EW : Hid (withR cs ⟨t, nm, vs⟩ t' bs = bindE (runE (setsS k) ([], vs) bs) fun s => .ok ⟨t', nm, s.2⟩) := by show withR _ _ _ _ = _; unfold withR; rw [if_neg (show ¬ factE cs ⟨t, nm, vs⟩ ≠ 0 from fun h => h hfe), htg, if_neg (show ¬ true = false from by decide), hfc]
    rw [htg] at CT
    have HKL : Hid (vs.length = k.attrs.length) := hkl
    clear htg hfe hfc hkl
    go_enter Tryd.func11, Tryd.ntmps11
    go_wp2_with (first
      | (go_at_call 25; refine C.mono ?_; rintro e w2 ⟨a, c, rfl, hs2, hb2⟩; have H2 : Hid (Below _ _ w2) := hb2; have S2 : Hid (SlW 1 w2 (fun b => b < w2.heap.size) (.slice a k.attrs.length c) (k.attrs.map clS)) := hs2.pin; obtain ⟨⟨x0, x1, x2⟩, ⟨y0, y1, y2⟩, ⟨z0, z1, z2⟩, hs, hB⟩ := HX.out w2 hb2; have B2 : Hid (Below w.heap.size w w2) := hB; clear C hb2 hB hs2 y0 y1 y2 z0 z1 z2 hs)
      | (go_at_call 26; refine (CT _).mono ?_; rintro e w3 ⟨rfl, hb3⟩; have H3 : Hid (Below (w2.alloc (.cells #[.string (st k.nm), .slice a k.attrs.length c] 54)).heap.size (w2.alloc (.cells #[.string (st k.nm), .slice a k.attrs.length c] 54)) w3) := hb3; clear x0 x1 x2; obtain ⟨⟨x0, x1, x2⟩, ⟨y0, y1, y2⟩, ⟨z0, z1, z2⟩, hs, hB⟩ := HX.out w3 (bt H2.out (bt (bxn _ _) hb3)); have B3 : Hid (Below w.heap.size w w3) := hB; clear CT hb3 hB y0 y1 y2 z0 z1 z2 hs)
      | (go_at_call 27; refine (vclone_any _ vs w3 (HF0.out.bl B3.out) hl).mono ?_; rintro e w4 ⟨v4, rfl, o4, hb4⟩; obtain ⟨av, cv, rfl⟩ := o4.shape; have H4 : Hid (Below w3.heap.size w3 w4) := hb4; have O4 : Hid (OwnV w4 w3.heap.size (.slice av vs.length cv) vs) := lenV o4; clear hb4 o4 x0 x1 x2))
    have HC : Hid (∀ W, Below w3.heap.size w3 W → W.cell? ⟨w2.heap.size, 0, none⟩ = some (.string (st k.nm)) ∧ W.cell? ⟨w2.heap.size, 1, none⟩ = some (.slice a k.attrs.length c)) := fun W hW => by
      have hlt : w2.heap.size < w3.heap.size := by have := H3.out.size; simp at this; omega
      exact ⟨((hW.cell (p := ⟨w2.heap.size, 0, none⟩) hlt).trans (H3.out.cell (p := ⟨w2.heap.size, 0, none⟩) (by simp))).trans (by go_simp), ((hW.cell (p := ⟨w2.heap.size, 1, none⟩) hlt).trans (H3.out.cell (p := ⟨w2.heap.size, 1, none⟩) (by simp))).trans (by go_simp)⟩
    have HLo : Hid (∀ W, Below w3.heap.size w3 W → Below w.heap.size w W) := fun W hW => B3.out.trans (hW.mono B3.out.size)
    have HXL : Hid (∀ W, Below w3.heap.size w3 W → Below ((w.alloc (.cells #[.int .i64 t, .string (st nm), .slice a2 vs.length c2] 25)).alloc (.cells #[.int .i64 0, .string ⟨#[]⟩, .slice none 0 0] 25)).heap.size ((w.alloc (.cells #[.int .i64 t, .string (st nm), .slice a2 vs.length c2] 25)).alloc (.cells #[.int .i64 0, .string ⟨#[]⟩, .slice none 0 0] 25)) W) := fun W hW =>
      (bt H2.out (bt (bxn _ _) H3.out)).trans (hW.mono (bt H2.out (bt (bxn _ _) H3.out)).size)
    have SA : Hid (∀ W, Below w3.heap.size w3 W → SlW 1 W (fun b => b < w2.heap.size) (.slice a k.attrs.length c) (k.attrs.map clS)) := fun W hW => slK S2.out (((bxn _ _).trans (H3.out.mono (by simp))).trans (hW.mono (by have := H3.out.size; simp at this; omega)))
    have SS : Hid (∀ W, Below w3.heap.size w3 W → SlW 4 W (fun b => b < w.heap.size) (.slice a3 bs.length c3) (bs.map clB)) := fun W hW => slK HS0.out.pin (HLo.out W hW)
    have HVW : Hid (∀ W, Below w3.heap.size w3 W → Vars W) := fun W hW => HVs.out.below (HLo.out W hW)
    have hsz3 : Hid (w.heap.size + 1 < w3.heap.size ∧ w2.heap.size < w3.heap.size) := ⟨by have := (bt H2.out (bt (bxn _ _) H3.out)).size; simp at this; omega, by have := H3.out.size; simp at this; omega⟩
    clear H2 H3 B2 B3 S2
    generalize hK : w3.heap.size = K at *
    go_loopw [13, 14, 15, 16, 36] (fun _ _ _ _ v wr => ∃ (i : Nat) (zs : List Str) (xs : List VD), v = .int .i64 i ∧ i ≤ bs.length ∧ Hid (Below K w3 wr) ∧ Hid (OwnV wr K (.slice av vs.length cv) xs) ∧ Hid (runE (setsS k) ([], vs) (bs.take i) = .ok (zs, xs))) (fun _ _ _ _ v _ => (bs.length - intOf v).toNat)
    case atStart => exact ⟨0, [], vs, rfl, Nat.zero_le _, H4.out, O4.out, rfl⟩
    case round =>
      obtain ⟨i, zs, xs, rfl, hi, HB, HO, HR⟩ := hrel
      have HW : Hid (Below w.heap.size w wr) := HLo.out wr HB.out
      obtain ⟨⟨x0, x1, x2⟩, ⟨y0, y1, y2⟩, ⟨z0, z1, z2⟩, hs, -⟩ := HX.out wr (HXL.out wr HB.out)
      obtain ⟨k0, k1⟩ := HC.out wr HB.out
      by_cases hlt : i < bs.length
      · have hiz : (i : Int) < bs.length := by omega
        obtain ⟨b1, o1, rfl, hb1, q1⟩ := R3.out i hlt
        have d0 : wr.cell? ⟨b1, o1 + i * 4, none⟩ = (clB (bs.getD i ⟨[], v00⟩))[0]? := (HW.out.cell (p := ⟨b1, o1 + i * 4, none⟩) hb1).trans (q1 0 (by decide))
        have d1 : wr.cell? ⟨b1, o1 + i * 4 + 1, none⟩ = (clB (bs.getD i ⟨[], v00⟩))[1]? := (HW.out.cell (p := ⟨b1, o1 + i * 4 + 1, none⟩) hb1).trans (q1 1 (by decide))
        have d2 : wr.cell? ⟨b1, o1 + i * 4 + 2, none⟩ = (clB (bs.getD i ⟨[], v00⟩))[2]? := (HW.out.cell (p := ⟨b1, o1 + i * 4 + 2, none⟩) hb1).trans (q1 2 (by decide))
        have d3 : wr.cell? ⟨b1, o1 + i * 4 + 3, none⟩ = (clB (bs.getD i ⟨[], v00⟩))[3]? := (HW.out.cell (p := ⟨b1, o1 + i * 4 + 3, none⟩) hb1).trans (q1 3 (by decide))
        clear q1
        have hinv := sets_inv (P := fun _ => True) (bs := bs.take i) (fun _ _ => trivial) (fun _ _ => trivial) HR.out
        have hzs : zs = (bs.take i).map (·.nm) := by have := hinv.2.2; simpa using this
        have hxl : Hid (xs.length = vs.length) := hinv.1
        have HNx := runE_next (step := setsS k) ⟨[], v00⟩ hlt HR.out
        have HEr := fun er h => runE_err (step := setsS k) (e := er) ⟨[], v00⟩ hlt HR.out h
        have hfv : fV (bs.getD i ⟨[], v00⟩).x := by rw [List.getD_eq_getElem?_getD, List.getElem?_eq_getElem hlt]; exact HB0.out _ (List.getElem_mem hlt)
        generalize bs.getD i ⟨[], v00⟩ = b at *
        have CP : Hid (∀ W, Below K w3 W → Calls Tryd.prog 28 #[.agg #[.string (st k.nm), .slice a k.attrs.length c], .slice (some ⟨b1, o1, none⟩) i c3, .agg #[.string (st b.nm), .int .u8 b.x.k, .int .i64 b.x.n, .string (st b.x.s)]] W fun e w' =>
            e = .returned (.tuple #[.int .i64 (placeP k.attrs zs b).1, .int .i64 (placeP k.attrs zs b).2]) ∧ Below W.heap.size W w') := fun W hW => by
          have := place_any k.nm a k.attrs.length c k.attrs (.slice (some ⟨b1, o1, none⟩) i c3) (bs.take i) b W (SA.out W hW) (by have := (SS.out W hW).take (i := i) (by rw [List.length_map]; omega); rwa [← List.map_take] at this) hfv (HVW.out W hW)
          rwa [← hzs] at this
        simp only [clB, List.getElem?_cons_zero, List.getElem?_cons_succ] at d0 d1 d2 d3
        have B1 : Hid (Below K w3 (wr.alloc (.cells #[.string (st b.nm), .int .u8 b.x.k, .int .i64 b.x.n, .string (st b.x.s)] 51))) := HB.out.trans ((bxn wr _).mono (by have := HB.out.size; omega))
        have hKs : Hid (K ≤ wr.heap.size) := by have := HB.out.size; show K ≤ _; omega
        have O1 : Hid (OwnV (wr.alloc (.cells #[.string (st b.nm), .int .u8 b.x.k, .int .i64 b.x.n, .string (st b.x.s)] 51)).drew K (.slice av vs.length cv) xs) := HO.out.below (bxn wr _).drew
        obtain ⟨k0a, k1a⟩ := HC.out _ B1.out
        clear hinv hzs hfv
        have hi64 : (i : Int) ≤ (bs.length : Int) := by omega
        by_cases hbad : ¬ (placeP k.attrs zs b).2 = 0
        · have E : Hid (withR cs ⟨t, nm, vs⟩ t' bs = .error (placeP k.attrs zs b).2) := EW.out.trans (by rw [HEr _ (place_bad hbad)]; rfl)
          have HNZ : Hid (¬ (placeP k.attrs zs b).2 = 0) := hbad
          generalize placeP k.attrs zs b = pp at *
          obtain ⟨ix, er⟩ := pp
          have hne : ¬ er = 0 := hbad
          have hne' : (er == 0) = false := by simpa using hne
          simp only at CP E
          clear HEr HNx hbad HNZ
          go_wp2
          go_region_with (go_at_call 28; refine (CP.out _ B1.out.drew).mono ?_; rintro e w5 ⟨rfl, hb5⟩; obtain ⟨⟨x0, x1, x2⟩, ⟨y0, y1, y2⟩, ⟨z0, z1, z2⟩, hs5, hB⟩ := HX.out w5 (HXL.out w5 (B1.out.drew.trans (hb5.mono (by have := hKs.out; simp; omega)))); have B5 : Hid (Below w.heap.size w w5) := hB; clear hb5 hB)
          all_goals (
            go_wp2
            refine bodyPost_ret (v := .tuple #[.agg #[.int .i64 0, .string ⟨#[]⟩, .slice none 0 0], .int .i64 er]) (by simp [results, Tryd.results11, go_sem]; go_simp) rfl ?_
            exact HPN.out er _ E.out (setThree_below B5.out (by omega)))
        · obtain ⟨h0, hj, hst⟩ := place_ok (vs := xs) (Classical.not_not.1 hbad)
          have h2 := Classical.not_not.1 hbad
          have HN2 := HNx.trans hst
          generalize placeP k.attrs zs b = pp at *
          obtain ⟨ix, er⟩ := pp
          simp only at h0 hj h2 HN2 CP
          subst h2
          obtain ⟨j, rfl⟩ := Int.eq_ofNat_of_zero_le h0
          rw [Int.toNat_natCast] at hj HN2
          have EN : Hid (runE (setsS k) ([], vs) (bs.take (i + 1)) = .ok (zs ++ [b.nm], xs.set j b.x)) := HN2
          have hjx : j < xs.length := by rw [hxl.out, HKL.out]; exact hj
          have hjm : j < (xs.map clV).length := by rw [List.length_map]; exact hjx
          have hjv : (j : Int) < vs.length := by have := hxl.out; omega
          obtain ⟨g, rfl, hg1, hg2, -⟩ := HO.out.at (Nat.lt_of_le_of_lt (Nat.zero_le _) hjm)
          have hjl : j < vs.length := by omega
          have HG : Hid (K ≤ g ∧ j < (xs.map clV).length) := ⟨hg1, hjm⟩
          clear HEr HNx hbad h0 hj hst HN2 hjx hjm hg1 hg2
          go_wp2
          go_region_with (go_at_call 28; refine (CP.out _ B1.out.drew).mono ?_; rintro e w5 ⟨rfl, hb5⟩; have B5 : Hid (Below K w3 w5) := B1.out.drew.trans (hb5.mono (by have := hKs.out; simp; omega)); have O5 : Hid (OwnV w5 K (.slice (some ⟨g, 0, none⟩) vs.length cv) xs) := O1.out.below hb5; have s1 : w5.cell? ⟨wr.heap.size, 1, none⟩ = some (.int .u8 b.x.k) := (hb5.cell (p := ⟨wr.heap.size, 1, none⟩) (by simp)).trans (by go_simp); have s2 : w5.cell? ⟨wr.heap.size, 2, none⟩ = some (.int .i64 b.x.n) := (hb5.cell (p := ⟨wr.heap.size, 2, none⟩) (by simp)).trans (by go_simp); have s3 : w5.cell? ⟨wr.heap.size, 3, none⟩ = some (.string (st b.x.s)) := (hb5.cell (p := ⟨wr.heap.size, 3, none⟩) (by simp)).trans (by go_simp); obtain ⟨⟨u0, r0'⟩, f0'⟩ := OwnN.cell O5.out HG.out.2 0 (by decide); have r0 : w5.cell? ⟨g, j * 3, none⟩ = some u0 := r0'; have f0 : w5.frozen? ⟨g, j * 3, none⟩ = false := f0'; clear r0' f0'; obtain ⟨⟨u1, r1⟩, f1⟩ := OwnN.cell O5.out HG.out.2 1 (by decide); obtain ⟨⟨u2, r2⟩, f2⟩ := OwnN.cell O5.out HG.out.2 2 (by decide); clear hb5)
          all_goals (
            go_wp2
            go_roundw
            case rel => exact ⟨i + 1, zs ++ [b.nm], xs.set j b.x, by simp, by omega, setRow_below B5.out HG.out.1, by have := O5.out.set3 HG.out.2 (.int .u8 b.x.k) (.int .i64 b.x.n) (.string (st b.x.s)); show OwnN _ _ _ _ _ _; rw [List.map_set]; exact this, EN.out⟩
            case measure => simp [intOf]; omega)
      · have hiz : ¬ (i : Int) < bs.length := by omega
        have E : Hid (withR cs ⟨t, nm, vs⟩ t' bs = .ok ⟨t', nm, xs⟩) := EW.out.trans (by rw [runE_all (by omega) HR.out]; rfl)
        go_wp2
        refine bodyPost_ret (v := .tuple #[.agg #[.int .i64 t', .string (st nm), .slice av vs.length cv], .int .i64 0]) (by simp [results, Tryd.results11, go_sem]; go_simp) rfl ?_
        exact HPS.out ⟨t', nm, xs⟩ _ _ E.out (setThree_below HW.out (by omega)) ((HO.out.move fun g h1 h2 => heap_three (by have := hsz3.out; omega)).mono (by have := hsz3.out; omega))
end Go.Proofs.YtbbjhiijialfoaaDoor
