/- Text: contracts of single calls. -/
import Derived.Test.YtbbjhiijialfoaaDoorCh
import Derived.Test.YtbbjhiijialfoaaDoorBd
import Derived.Test.YtbbjhiijialfoaaDoorShelfB
namespace Go.Proofs.YtbbjhiijialfoaaDoor
set_option maxRecDepth 20000
open Go.RowKit
set_option linter.unusedVariables false
set_option linter.unusedSimpArgs false

theorem grown_of {w w' : World} (h : Below w.heap.size w w') : w.grownBy w' none := ⟨h.1, h.2, h.3, h.size, fun k hk _ => h.block k hk⟩
theorem Bd.below {w w' : World} {B b : Nat} {zs : Str} (h : Bd w B b zs) (hb : Below w.heap.size w w') : Bd w' B b zs := by
  have hlt := h.lt
  rcases h with ⟨h1, v, h2, h3, h4⟩ | ⟨h1, v, h2, h3, h4⟩
  · exact .inl ⟨h1, v, (hb.block b hlt).trans h2, h3.kept (grown_of hb) (by cases hv : v.ownBlock <;> simp), h4⟩
  · exact .inr ⟨h1, v, (hb.block b hlt).trans h2, h3.kept (grown_of hb) (by cases hv : v.ownBlock <;> simp), h4⟩
theorem FB.below {b : Nat} {w w' : World} (hlt : b < w.heap.size) (hb : Below w.heap.size w w') : FB b w w' :=
  ⟨hb.size, fun k hk ha => ⟨hb.block k hk, ha.1, fun p v T fz e => ha.2 p v T fz (by rw [← hb.block b hlt]; exact e)⟩⟩
theorem At.below {w w1 w2 : World} {B b : Nat} {z : Str} (h : At w B b w1 z) (hb : Below w1.heap.size w1 w2) : At w B b w2 z :=
  ⟨h.bd.below hb, h.bel.trans (hb.mono (by have := h.bd.le; have := h.bd.lt; omega)), h.fb.trans (FB.below h.bd.lt hb)⟩
theorem new_hp {w : World} {o : Obj} {X : Nat} (hX : X = w.heap.size) : (w.alloc o).heap[X]? = some o := by subst hX; exact heap_alloc_new w o
theorem bd_new (w : World) : Bd (w.alloc (.cells #[.pointer none, .slice none 0 0] 71)) w.heap.size w.heap.size [] :=
  .inl ⟨Nat.le_refl _, .slice none 0 0, new_hp rfl, ⟨rfl, .inl ⟨rfl, rfl⟩⟩, by simp [Value.ownBlock]⟩
theorem string_any (B b : Nat) (zs : Str) (w : World) (h : Bd w B b zs) (hB : B ≤ w.heap.size) :
    Calls Tryd.prog 34 #[.pointer (some ⟨b, 0, none⟩)] w fun e w' => e = .returned (.string (st zs)) ∧ Below B w w' := by
  have C : Calls Tryd.prog 34 #[.pointer (some ⟨b, 0, none⟩)] w _ := Any.Builder_String_any_k Tryd.lays169 Tryd.Builder_Extra_169 B b zs w h hB
  refine C.mono ?_
  rintro e w' ⟨h1, h2, h3, h4⟩
  exact ⟨h1, h3⟩
theorem svd_len (x : VD) (h : x.s.length ≤ 60) : (svd x).length ≤ 60 := by
  unfold svd txtS
  split
  · simp [nilS]
  · rename_i h0
    split
    · have hc : chkE x.k x.n (st x.s).data.toList = 0 := by simpa using h0
      obtain ⟨-, h1, h2, -⟩ := chk0 hc
      have := (itoa_len x.n h1 h2).2
      show ((⟨(Lib.itoa x.n).toArray⟩ : ByteArray).data.toList).length ≤ 60
      rw [show (⟨(Lib.itoa x.n).toArray⟩ : ByteArray).data.toList = Lib.itoa x.n by simp]
      omega
    · split
      · rw [st_list]; exact h
      · simp [nilS]
theorem st_app2 (a b : Str) : st a ++ st b = st (a ++ b) := by
  rw [← st_of (st a ++ st b)]; congr 1
theorem piece_st (a : Str) (x : VD) (h : x.k ≠ 0) : (⟨#[32, 94]⟩ ++ st a ++ ⟨#[32]⟩ ++ st (svd x) : ByteArray) = st (piece a x) := by
  unfold piece
  rw [if_neg h, ← st_app2, ← st_app2, ← st_app2]; rfl
theorem pcs_len : ∀ (as_ : List Str) (xs : List VD), (∀ a ∈ as_, a.length ≤ 60) → (∀ x ∈ xs, x.s.length ≤ 60) → (pcs as_ xs).length ≤ xs.length * 130
  | [], _, _, _ => by simp [pcs]
  | _ :: _, [], _, _ => by simp [pcs]
  | a :: as_, x :: xs, ha, hx => by
    have h1 := pcs_len as_ xs (fun b hb => ha b (List.mem_cons_of_mem _ hb)) (fun b hb => hx b (List.mem_cons_of_mem _ hb))
    have h2 := ha a (List.mem_cons_self ..)
    have h3 := svd_len x (hx x (List.mem_cons_self ..))
    have h4 : (piece a x).length ≤ 130 := by
      unfold piece
      split
      · simp
      · simp only [List.length_append, List.length_cons, List.length_nil]; omega
    show (piece a x ++ pcs as_ xs).length ≤ _
    rw [List.length_append, List.length_cons, Nat.add_mul]
    omega
theorem findC_nm {cs : List ClassD} {s : Str} {k : ClassD} (h : findC cs s = some k) : k.nm = s := by
  have := List.find?_some h
  exact of_decide_eq_true this
theorem findC_mem {cs : List ClassD} {s : Str} {k : ClassD} (h : findC cs s = some k) : k ∈ cs := List.mem_of_find?_eq_some h
theorem textR_of {cs : List ClassD} {f : FactD} {k : ClassD} (hfe : factE cs f = 0) (hfc : findC cs f.c = some k) : textR cs f = [40] ++ f.c ++ pcs k.attrs f.vs ++ [41] := by
  unfold textR
  rw [if_neg (Classical.not_not.2 hfe), hfc]
theorem fV_of {x : VD} (h : 0 ≤ x.k ∧ x.k ≤ 255) (h2 : x.s.length ≤ 60) : fV x := ⟨h.1, h.2, by omega⟩
set_option maxHeartbeats 16000000 in
theorem textF_any {P : Nat → Nat → Prop} {Q Q2 : Nat → Prop} (v u : Value) (cs : List ClassD) (f : FactD) (w : World) (h : Row 2 (ReK P) w Q v cs) (hL : ∀ c ∈ cs, classL c)
    (hf : SlW 3 w Q2 u (f.vs.map clV)) (hv : ∀ x ∈ f.vs, fV x) (hfl : factL f) (hV : Vars w) :
    Calls Tryd.prog 18 #[v, .agg #[.int .i64 f.t, .string (st f.c), u]] w fun e w' => e = .returned (.string (st (textR cs f))) ∧ Below w.heap.size w w' := by
  generalize hR : textR cs f = r
  obtain ⟨a2, c2, rfl⟩ := hf.shape
  obtain ⟨-, l2, m2, r2⟩ := hf.at v00
  obtain ⟨t, nm, vs⟩ := f
  have C25 := classOf_any v _ cs ⟨t, nm, vs⟩ (w.alloc (.cells #[.int .i64 t, .string (st nm), .slice a2 (vs.map clV).length c2] 25)) (rowK_keep h (bxn _ _)) (fun c hc => Nat.le_trans (hL c hc).2.1 (by decide)) (hf.bl (bxn _ _)) hv (hV.below (bxn _ _))
  simp only [List.length_map] at *
  have R2 : Hid (∀ i, i < vs.length → ∃ b off, a2 = some ⟨b, off, none⟩ ∧ b < w.heap.size ∧ ∀ j, j < 3 → w.cell? ⟨b, off + (i * 3 + j), none⟩ = (clV (vs.getD i v00))[j]?) := r2
  have HV : Hid (∀ x ∈ vs, fV x) := hv
  have HVs : Hid (Vars w) := hV
  have HFL : Hid (vs.length ≤ 20 ∧ nm.length ≤ 60 ∧ ∀ x ∈ vs, x.s.length ≤ 60) := hfl
  clear h hf hv hV r2 hfl
  have HX : Hid (∀ W, Below (w.alloc (.cells #[.int .i64 t, .string (st nm), .slice a2 vs.length c2] 25)).heap.size (w.alloc (.cells #[.int .i64 t, .string (st nm), .slice a2 vs.length c2] 25)) W →
      W.cell? ⟨w.heap.size, 0, none⟩ = some (.int .i64 t) ∧
      W.cell? ⟨w.heap.size, 1, none⟩ = some (.string (st nm)) ∧
      W.cell? ⟨w.heap.size, 2, none⟩ = some (.slice a2 vs.length c2) ∧
      w.heap.size < W.heap.size ∧
      Below w.heap.size w W) := fun W hW =>
    ⟨(hW.cell (p := ⟨w.heap.size, 0, none⟩) (by simp; try omega)).trans (by go_simp),
     (hW.cell (p := ⟨w.heap.size, 1, none⟩) (by simp; try omega)).trans (by go_simp),
     (hW.cell (p := ⟨w.heap.size, 2, none⟩) (by simp; try omega)).trans (by go_simp),
     (by have := hW.size; simp at this; omega),
     bt (bxn _ _) hW⟩
  by_cases hfe : ¬ factE cs ⟨t, nm, vs⟩ = 0
  · have E : Hid (r = []) := hR.symm.trans (by unfold textR; rw [if_pos hfe])
    have C : Calls Tryd.prog 25 #[v, .agg #[.int .i64 t, .string (st nm), .slice a2 vs.length c2]] (w.alloc (.cells #[.int .i64 t, .string (st nm), .slice a2 vs.length c2] 25)) fun e w' => e = .returned (.tuple #[.agg #[.string ⟨#[]⟩, .slice none 0 0], .int .i64 (factE cs ⟨t, nm, vs⟩)]) ∧ Below (w.alloc (.cells #[.int .i64 t, .string (st nm), .slice a2 vs.length c2] 25)).heap.size (w.alloc (.cells #[.int .i64 t, .string (st nm), .slice a2 vs.length c2] 25)) w' := C25.mono fun e w' h => ⟨by
      rcases h.2 with ⟨_, h⟩ | ⟨h0, _⟩
      · exact h
      · exact absurd h0 hfe, h.1⟩
    generalize factE cs ⟨t, nm, vs⟩ = er at *
    have hne' : (er == 0) = false := by simpa using hfe
    clear C25 hR hL
    go_enter Tryd.func18, Tryd.ntmps18
    go_wp2_with (go_at_call 25; refine C.mono ?_; rintro e w2 ⟨rfl, hb2⟩; obtain ⟨x00, x01, x02, hs, hB⟩ := HX.out w2 (hb2); have B2 : Hid (Below w.heap.size w w2) := hB; clear hB; clear C hb2)
    all_goals (
      go_ret
      exact ⟨by rw [E.out]; rfl, bt B2.out (bxn _ _)⟩)
  have hfe := Classical.not_not.1 hfe
  obtain ⟨-, k, hfc0, hkl0, -⟩ := factE_fit hfe
  have hfc : findC cs nm = some k := hfc0
  have HKL : Hid (vs.length = k.attrs.length) := hkl0
  have HKC : Hid (classL k) := hL k (findC_mem hfc)
  have EW : Hid (r = [40] ++ nm ++ pcs k.attrs vs ++ [41]) := hR.symm.trans (textR_of hfe hfc)
  have hnm := findC_nm hfc
  have C : Calls Tryd.prog 25 #[v, .agg #[.int .i64 t, .string (st nm), .slice a2 vs.length c2]] (w.alloc (.cells #[.int .i64 t, .string (st nm), .slice a2 vs.length c2] 25)) fun e w' => ∃ a c, e = .returned (.tuple #[.agg #[.string (st nm), .slice a k.attrs.length c], .int .i64 0]) ∧ SlW 1 w' (fun _ => True) (.slice a k.attrs.length c) (k.attrs.map clS) ∧ Below (w.alloc (.cells #[.int .i64 t, .string (st nm), .slice a2 vs.length c2] 25)).heap.size (w.alloc (.cells #[.int .i64 t, .string (st nm), .slice a2 vs.length c2] 25)) w' := C25.mono fun e w' h => by
    rcases h.2 with ⟨h0, _⟩ | ⟨_, k', a, c, e1, _, e2, e3⟩
    · exact absurd hfe h0
    · rw [hfc] at e1
      obtain rfl := Option.some.inj e1
      rw [hnm] at e2
      exact ⟨a, c, e2, e3, h.1⟩
  have hsn : (st nm).size ≤ 60 := by rw [st_size]; exact HFL.out.2.1
  have HP1 : Hid ((⟨#[40]⟩ ++ st nm : ByteArray) = st (40 :: nm)) := by show _ = _; rw [show (⟨#[40]⟩ : ByteArray) = st [40] from rfl, st_app2]; rfl
  clear C25 hfe hfc hfc0 hkl0 hR hL hnm
  go_enter Tryd.func18, Tryd.ntmps18
  go_wp2_with (first
    | (go_at_call 25; refine C.mono ?_; rintro e w2 ⟨a, c, rfl, hs2, hb2⟩; have S2 : Hid (SlW 1 w2 (fun b => b < w2.heap.size) (.slice a k.attrs.length c) (k.attrs.map clS)) := hs2.pin; have H2 : Hid (Below _ _ w2) := hb2; obtain ⟨x00, x01, x02, hs, hB⟩ := HX.out w2 (hb2); have B2 : Hid (Below w.heap.size w w2) := hB; clear hB; clear hb2 hs2 C)
    | (go_at_call 32; rw [HP1.out]; refine (write_any (w2.heap.size + 1) (w2.heap.size + 1) [] (40 :: nm) _ (by have h0 := bd_new (w2.alloc (.cells #[.string (st nm), .slice a k.attrs.length c] 54)); simpa using h0) (by have h9 := HFL.out.2.1; simp; omega) (by simp)).mono ?_; rintro e w3 ⟨⟨v3, rfl⟩, hat⟩; have A3 : Hid (At ((w2.alloc (.cells #[.string (st nm), .slice a k.attrs.length c] 54)).alloc (.cells #[.pointer none, .slice none 0 0] 71)) (w2.heap.size + 1) (w2.heap.size + 1) w3 (40 :: nm)) := hat; clear x00 x01 x02 hs; obtain ⟨x00, x01, x02, hs, -⟩ := HX.out w3 ((bt (bt H2.out (bxn _ _)) (bxn _ _)).trans (hat.bel.mono (by have h9 := H2.out.size; simp at h9; simp; omega))); clear hat))
  obtain ⟨W0, hW0⟩ : ∃ W0, W0 = ((w2.alloc (.cells #[.string (st nm), .slice a k.attrs.length c] 54)).alloc (.cells #[.pointer none, .slice none 0 0] 71)) := ⟨_, rfl⟩
  obtain ⟨B0, hB0⟩ : ∃ B0, B0 = w2.heap.size + 1 := ⟨_, rfl⟩
  have HXL : Hid (∀ W, Below B0 W0 W → Below (w.alloc (.cells #[.int .i64 t, .string (st nm), .slice a2 vs.length c2] 25)).heap.size (w.alloc (.cells #[.int .i64 t, .string (st nm), .slice a2 vs.length c2] 25)) W) := fun W hW => by
    subst hW0; subst hB0; exact (bt (bt H2.out (bxn _ _)) (bxn _ _)).trans (hW.mono (by have h9 := H2.out.size; simp at h9; simp; omega))
  have HLo : Hid (∀ W, Below B0 W0 W → Below w.heap.size w W) := fun W hW => (HX.out W (HXL.out W hW)).2.2.2.2
  have HC : Hid (∀ W, Below B0 W0 W → W.cell? ⟨w2.heap.size, 0, none⟩ = some (.string (st nm)) ∧ W.cell? ⟨w2.heap.size, 1, none⟩ = some (.slice a k.attrs.length c)) := fun W hW => by
    subst hW0; subst hB0; exact ⟨(hW.cell (p := ⟨w2.heap.size, 0, none⟩) (by simp)).trans (by go_simp), (hW.cell (p := ⟨w2.heap.size, 1, none⟩) (by simp)).trans (by go_simp)⟩
  have SA : Hid (∀ W, Below B0 W0 W → SlW 1 W (fun b => b < w2.heap.size) (.slice a k.attrs.length c) (k.attrs.map clS)) := fun W hW => by
    subst hW0; subst hB0; exact slK (slK S2.out (bt (bxn _ _) (bxn _ _))) (hW.mono (by simp))
  have HVW : Hid (∀ W, Below B0 W0 W → Vars W) := fun W hW => HVs.out.below (HLo.out W hW)
  rw [← hW0, ← hB0] at A3
  rw [← hB0]
  clear hW0 hB0 S2 H2 B2
  have HSA := (HC.out w3 A3.out.bel).2
  clear HSA
  go_loopw [8, 9, 25] (fun _ _ v wr => ∃ i : Nat, v = .int .i64 i ∧ i ≤ vs.length ∧ Hid (At W0 B0 B0 wr (40 :: nm ++ pcs (k.attrs.take i) (vs.take i)))) (fun _ _ v _ => (vs.length - intOf v).toNat)
  case atStart => exact ⟨0, rfl, Nat.zero_le _, by have := A3.out; simpa [pcs, Hid] using this⟩
  case round =>
    clear A3 x00 x01 x02 hs
    obtain ⟨i, rfl, hi, HA⟩ := hrel
    have BW := HA.out.bel
    have HW : Hid (Below w.heap.size w wr) := HLo.out wr BW
    obtain ⟨x00, x01, x02, hs, -⟩ := HX.out wr (HXL.out wr BW)
    have HTL : Hid ((pcs (k.attrs.take i) (vs.take i)).length ≤ 2600) := by
      have := pcs_len (k.attrs.take i) (vs.take i) (fun x hx => HKC.out.2.2 x (List.mem_of_mem_take hx)) (fun x hx => HFL.out.2.2 x (List.mem_of_mem_take hx))
      have h2 := HFL.out.1
      rw [List.length_take] at this
      show _ ≤ _
      omega
    have HBw : Hid (B0 ≤ wr.heap.size) := by have := HA.out.bd.lt; show _ ≤ _; omega
    by_cases hlt : i < vs.length
    · have hiz : (i : Int) < vs.length := by omega
      have hia : i < k.attrs.length := by have := HKL.out; omega
      have hiaz : (i : Int) < k.attrs.length := by omega
      obtain ⟨b1, o1, rfl, hb1, q1⟩ := R2.out i hlt
      have d0 : wr.cell? ⟨b1, o1 + i * 3, none⟩ = (clV (vs.getD i v00))[0]? := (HW.out.cell (p := ⟨b1, o1 + i * 3, none⟩) hb1).trans (q1 0 (by decide))
      have d1 : wr.cell? ⟨b1, o1 + i * 3 + 1, none⟩ = (clV (vs.getD i v00))[1]? := (HW.out.cell (p := ⟨b1, o1 + i * 3 + 1, none⟩) hb1).trans (q1 1 (by decide))
      have d2 : wr.cell? ⟨b1, o1 + i * 3 + 2, none⟩ = (clV (vs.getD i v00))[2]? := (HW.out.cell (p := ⟨b1, o1 + i * 3 + 2, none⟩) hb1).trans (q1 2 (by decide))
      have hfv : fV (vs.getD i v00) := by rw [List.getD_eq_getElem?_getD, List.getElem?_eq_getElem hlt]; exact HV.out _ (List.getElem_mem hlt)
      have hsl : (vs.getD i v00).s.length ≤ 60 := by rw [List.getD_eq_getElem?_getD, List.getElem?_eq_getElem hlt]; exact HFL.out.2.2 _ (List.getElem_mem hlt)
      have hal : (k.attrs.getD i []).length ≤ 60 := by rw [List.getD_eq_getElem?_getD, List.getElem?_eq_getElem hia]; exact HKC.out.2.2 _ (List.getElem_mem hia)
      have HNX := pcs_next hia hlt
      have SG : Hid (∀ W, Below B0 W0 W → W.cell? ⟨w2.heap.size, 1, none⟩ = some (.slice a k.attrs.length c) ∧ ∃ b2 o2, a = some ⟨b2, o2, none⟩ ∧ W.cell? ⟨b2, o2 + i, none⟩ = some (.string (st (k.attrs.getD i [])))) := fun W hW => by
        obtain ⟨b2, o2, e, -, hc⟩ := ((SA.out W hW).at []).2.2.2 i hia
        refine ⟨(HC.out W hW).2, b2, o2, e, ?_⟩
        have := hc 0 (by decide)
        rw [Nat.mul_one, Nat.add_zero] at this
        rw [this]; rfl
      generalize vs.getD i v00 = x at *
      generalize k.attrs.getD i [] = at_ at *
      obtain ⟨-, b2, o2, rfl, -⟩ := SG.out wr BW
      have SGG : Hid (∀ W, Below B0 W0 W → W.cell? ⟨w2.heap.size, 1, none⟩ = some (.slice (some ⟨b2, o2, none⟩) k.attrs.length c) ∧ W.cell? ⟨b2, o2 + i, none⟩ = some (.string (st at_))) := fun W hW => by
        obtain ⟨h1, b2', o2', e, h2⟩ := SG.out W hW
        obtain ⟨rfl, rfl, -⟩ := Addr.mk.inj (Option.some.inj e)
        exact ⟨h1, h2⟩
      simp only [clV, List.getElem?_cons_zero, List.getElem?_cons_succ] at d0 d1 d2
      clear q1 SG
      by_cases hk0 : x.k = 0
      · have H2 : Hid (40 :: nm ++ pcs (k.attrs.take (i + 1)) (vs.take (i + 1)) = 40 :: nm ++ pcs (k.attrs.take i) (vs.take i)) := by
          show _ = _
          rw [HNX]; unfold piece; rw [if_pos hk0, List.append_nil]
        clear HNX
        go_wp2
        go_roundw
        case rel => exact ⟨i + 1, by simp, by omega, by rw [H2.out]; exact HA.out.alloc _⟩
        case measure => simp [intOf]; omega
      · have H2 : Hid (40 :: nm ++ pcs (k.attrs.take (i + 1)) (vs.take (i + 1)) = (40 :: nm ++ pcs (k.attrs.take i) (vs.take i)) ++ piece at_ x) := by
          show _ = _
          rw [HNX, List.append_assoc]
        have HPS := piece_st at_ x hk0
        have hpl : (piece at_ x).length ≤ 130 := by
          have h3 := svd_len x hsl
          unfold piece
          split
          · simp
          · simp only [List.length_append, List.length_cons, List.length_nil]; omega
        have HLN : Hid ((40 :: nm ++ pcs (k.attrs.take i) (vs.take i)).length + (piece at_ x).length ≤ 2000000000) := by
          have h1 := HTL.out; have h2 := HFL.out.2.1
          show _ ≤ _
          simp only [List.length_append, List.length_cons]; omega
        have hz1 : (st at_).size ≤ 60 := by rw [st_size]; exact hal
        have hz2 : (st (svd x)).size ≤ 60 := by rw [st_size]; exact svd_len x hsl
        have CT : Hid (∀ W, Below B0 W0 W → Calls Tryd.prog 33 #[.agg #[.int .u8 x.k, .int .i64 x.n, .string (st x.s)]] W fun e w' => e = .returned (.string (st (svd x))) ∧ Below W.heap.size W w') := fun W hW => text_v x W hfv (HVW.out W hW)
        have A1 : Hid (At W0 B0 B0 (wr.alloc (.cells #[.int .u8 x.k, .int .i64 x.n, .string (st x.s)] 42)).drew (40 :: nm ++ pcs (k.attrs.take i) (vs.take i))) := (HA.out.alloc _).drew
        obtain ⟨g0, g1⟩ := SGG.out (wr.alloc (.cells #[.int .u8 x.k, .int .i64 x.n, .string (st x.s)] 42)) (HA.out.alloc _).bel
        have hk0' : (x.k == 0) = false := by simpa using hk0
        have hlnp : Hid (piece at_ x = piece at_ x) := rfl
        generalize hpz : piece at_ x = pz at *
        generalize st at_ = sa at *
        generalize st (svd x) = sb at *
        have HPZ : Hid ((⟨#[32, 94]⟩ ++ sa ++ ⟨#[32]⟩ ++ sb : ByteArray) = st pz) := HPS
        have hq0 : ¬ 9223372036854775807 < 2 + sa.size := by omega
        have hq1 : ¬ 9223372036854775807 < 2 + sa.size + 1 := by omega
        have hq2 : ¬ 9223372036854775807 < 2 + sa.size + 1 + sb.size := by omega
        clear HNX HPS hpl hal hsl hpz hlnp
        obtain ⟨SS, hSS⟩ : ∃ SS : World → Prop, SS = (fun W => W.cell? ⟨w2.heap.size, 1, none⟩ = some (.slice (some ⟨b2, o2, none⟩) k.attrs.length c) ∧ W.cell? ⟨b2, o2 + i, none⟩ = some (.string sa) ∧ W.cell? ⟨wr.heap.size, 0, none⟩ = some (.int .u8 x.k) ∧ W.cell? ⟨wr.heap.size, 1, none⟩ = some (.int .i64 x.n) ∧ W.cell? ⟨wr.heap.size, 2, none⟩ = some (.string (st x.s))) := ⟨_, rfl⟩
        have S1 : Hid (SS (wr.alloc (.cells #[.int .u8 x.k, .int .i64 x.n, .string (st x.s)] 42)).drew) := by rw [hSS]; exact ⟨(SGG.out _ A1.out.bel).1, (SGG.out _ A1.out.bel).2, by go_simp, by go_simp, by go_simp⟩
        have S5F : Hid (∀ W W', SS W → At W0 B0 B0 W (40 :: nm ++ pcs (k.attrs.take i) (vs.take i)) → wr.heap.size < W.heap.size → Below W.heap.size W W' → SS W') := fun W W' h hA hl hb => by
          rw [hSS] at h ⊢
          have hA' := (hA.below hb).bel
          exact ⟨(SGG.out _ hA').1, (SGG.out _ hA').2, (hb.cell (p := ⟨wr.heap.size, 0, none⟩) hl).trans h.2.2.1, (hb.cell (p := ⟨wr.heap.size, 1, none⟩) hl).trans h.2.2.2.1, (hb.cell (p := ⟨wr.heap.size, 2, none⟩) hl).trans h.2.2.2.2⟩
        have P1 : Hid (Apart (wr.alloc (.cells #[.int .u8 x.k, .int .i64 x.n, .string (st x.s)] 42)).drew B0 wr.heap.size) := Apart.alloc HA.out.bd.lt (HA.out.bd.new (Nat.le_refl _)) _
        have S6F : Hid (∀ W zs W' ys, SS W → At W0 B0 B0 W zs → Apart W B0 wr.heap.size → wr.heap.size < W.heap.size → At W B0 B0 W' ys → SS W') := fun W zs W' ys h hA ha hl hb => by
          rw [hSS] at h ⊢
          have hA' := (hA.trans hb).bel
          have he := (hb.fb.2 _ hl ha).1
          refine ⟨(SGG.out _ hA').1, (SGG.out _ hA').2, ?_, ?_, ?_⟩
          · rw [← h.2.2.1]; simp only [World.cell?, he]
          · rw [← h.2.2.2.1]; simp only [World.cell?, he]
          · rw [← h.2.2.2.2]; simp only [World.cell?, he]
        have hlw : wr.heap.size < (wr.alloc (.cells #[.int .u8 x.k, .int .i64 x.n, .string (st x.s)] 42)).drew.heap.size := by simp
        have hlW : Hid (wr.heap.size < (wr.alloc (.cells #[.int .u8 x.k, .int .i64 x.n, .string (st x.s)] 42)).drew.heap.size) := hlw
        clear hlw
        rw [hSS] at S1 S5F S6F
        clear hSS g0 g1
        go_wp2
        go_region_held3 (fun W => W.cell? ⟨w2.heap.size, 1, none⟩ = some (.slice (some ⟨b2, o2, none⟩) k.attrs.length c) ∧ W.cell? ⟨b2, o2 + i, none⟩ = some (.string sa) ∧ W.cell? ⟨wr.heap.size, 0, none⟩ = some (.int .u8 x.k) ∧ W.cell? ⟨wr.heap.size, 1, none⟩ = some (.int .i64 x.n) ∧ W.cell? ⟨wr.heap.size, 2, none⟩ = some (.string (st x.s))) (first | exact S1.out | exact S5.out | exact S6.out) (first
          | (go_at_call 33; refine (CT.out _ A1.out.bel).mono ?_; rintro e w5 ⟨rfl, hb5⟩; have A5 : Hid (At W0 B0 B0 w5 _) := A1.out.below hb5; have S5 : Hid ((fun W => W.cell? ⟨w2.heap.size, 1, none⟩ = some (.slice (some ⟨b2, o2, none⟩) k.attrs.length c) ∧ W.cell? ⟨b2, o2 + i, none⟩ = some (.string sa) ∧ W.cell? ⟨wr.heap.size, 0, none⟩ = some (.int .u8 x.k) ∧ W.cell? ⟨wr.heap.size, 1, none⟩ = some (.int .i64 x.n) ∧ W.cell? ⟨wr.heap.size, 2, none⟩ = some (.string (st x.s))) w5) := S5F.out _ _ S1.out A1.out hlW.out hb5; have P5 : Hid (Apart w5 B0 wr.heap.size) := ((FB.below A1.out.bd.lt hb5).2 _ hlW.out P1.out).2; have L5 : Hid (wr.heap.size < w5.heap.size) := Nat.lt_of_lt_of_le hlW.out hb5.size; clear hb5)
          | (go_at_call 32; rw [HPZ.out]; refine (write_any B0 B0 _ pz w5 A5.out.bd HLN.out (by have := A5.out.bd.lt; omega)).mono ?_; rintro e w6 ⟨⟨v6, rfl⟩, hat⟩; have A6 : Hid (At W0 B0 B0 w6 _) := A5.out.trans hat; have S6 : Hid ((fun W => W.cell? ⟨w2.heap.size, 1, none⟩ = some (.slice (some ⟨b2, o2, none⟩) k.attrs.length c) ∧ W.cell? ⟨b2, o2 + i, none⟩ = some (.string sa) ∧ W.cell? ⟨wr.heap.size, 0, none⟩ = some (.int .u8 x.k) ∧ W.cell? ⟨wr.heap.size, 1, none⟩ = some (.int .i64 x.n) ∧ W.cell? ⟨wr.heap.size, 2, none⟩ = some (.string (st x.s))) w6) := S6F.out _ _ _ _ S5.out A5.out P5.out L5.out hat; clear hat))
        all_goals (
          go_wp2
          go_roundw
          case rel => exact ⟨i + 1, by simp, by omega, by rw [H2.out]; exact A6.out⟩
          case measure => simp [intOf]; omega)
    · have hiz : ¬ (i : Int) < vs.length := by omega
      have hil : i = vs.length := by omega
      have E : Hid (40 :: nm ++ pcs (k.attrs.take i) (vs.take i) ++ [41] = r) := by
        show _ = _
        rw [EW.out, List.take_of_length_le (by have := HKL.out; omega), List.take_of_length_le (by omega)]; rfl
      have HLN : Hid ((40 :: nm ++ pcs (k.attrs.take i) (vs.take i)).length + ([41] : Str).length ≤ 2000000000) := by
        have h1 := HTL.out; have h2 := HFL.out.2.1
        show _ ≤ _
        simp only [List.length_append, List.length_cons, List.length_nil]; omega
      have H41 : Hid ((⟨#[41]⟩ : ByteArray) = st [41]) := rfl
      go_wp2_with (first
        | (go_at_call 32; rw [H41.out]; refine (write_any B0 B0 _ [41] wr HA.out.bd HLN.out HBw.out).mono ?_; rintro e w6 ⟨⟨v6, rfl⟩, hat⟩; have A6 : Hid (At W0 B0 B0 w6 r) := (by rw [← E.out]; exact HA.out.trans hat); clear hat)
        | (go_at_call 34; refine (string_any B0 B0 r w6 A6.out.bd (by have := A6.out.bd.lt; omega)).mono ?_; rintro e w7 ⟨rfl, hb7⟩; have B7 : Hid (Below w.heap.size w w7) := HLo.out w7 (A6.out.bel.trans hb7); clear hb7))
      go_ret
      exact ⟨rfl, B7.out⟩
end Go.Proofs.YtbbjhiijialfoaaDoor
