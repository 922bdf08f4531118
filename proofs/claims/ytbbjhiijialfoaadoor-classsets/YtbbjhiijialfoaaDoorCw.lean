/- The document's With: contracts of single calls. -/
import Derived.Test.YtbbjhiijialfoaaDoorCh
import Derived.Test.YtbbjhiijialfoaaDoorCb
import Derived.BigQuiet
import Derived.Deep.QuietTactic
import Derived.Deep.DeepCutAuto
import Derived.Deep.RegionLaw
namespace Go.Proofs.YtbbjhiijialfoaaDoor
set_option maxRecDepth 20000
open Go.RowKit
set_option linter.unusedVariables false
set_option linter.unusedSimpArgs false

/-- A fact of one's own: its box, its values in a row. -/
def OutF (w : World) (K g : Nat) (t : Int) (nm : Str) (a : Option Addr) (n c : Nat) : Prop := K ≤ g ∧ ∃ fz, w.heap[g]? = some (.cells #[.int .i64 t, .string (st nm), .slice a n c] 25 fz)
theorem OutF.below {w w' : World} {K g n c : Nat} {t : Int} {nm : Str} {a : Option Addr} (h : OutF w K g t nm a n c) (hb : Below w.heap.size w w') : OutF w' K g t nm a n c := by
  obtain ⟨h1, fz, h2⟩ := h
  exact ⟨h1, fz, (hb.block g (Array.getElem?_eq_some_iff.1 h2).1).trans h2⟩
theorem OutF.get {w : World} {K g n c : Nat} {t : Int} {nm : Str} {a : Option Addr} (h : OutF w K g t nm a n c) : w.cell? ⟨g, 0, none⟩ = some (.int .i64 t) ∧ w.cell? ⟨g, 1, none⟩ = some (.string (st nm)) ∧ w.cell? ⟨g, 2, none⟩ = some (.slice a n c) ∧ g < w.heap.size := by
  obtain ⟨h1, fz, h2⟩ := h
  refine ⟨?_, ?_, ?_, (Array.getElem?_eq_some_iff.1 h2).1⟩ <;> simp [World.cell?, h2]
theorem OutF.row {w : World} {K g n c : Nat} {t : Int} {nm : Str} {a : Option Addr} (h : OutF w K g t nm a n c) {b : Nat} {cur : Array Value} {fz : Nat × Nat} (hb : w.heap[b]? = some (.cells cur 42 fz)) : g ≠ b := by
  rintro rfl
  obtain ⟨h1, fz', h2⟩ := h
  rw [h2] at hb
  have := (Obj.cells.inj (Option.some.inj hb)).2.1
  exact absurd this (by decide)
theorem OwnN.blk {T : TypeId} {w : World} {base g n cap : Nat} {css : List (List Value)} (h : OwnN T 3 w base (.slice (some ⟨g, 0, none⟩) n cap) css) : ∃ cur fz, w.heap[g]? = some (.cells cur T fz) := by
  rcases h.2.2 with ⟨e, _⟩ | ⟨g', cap', cur, e, _, hg, _⟩
  · cases e
  · obtain ⟨e1, _, _⟩ := Value.slice.inj e
    obtain ⟨rfl⟩ := Addr.mk.inj (Option.some.inj e1)
    exact ⟨_, _, hg⟩
theorem OutF.set {w : World} {K g n c b k : Nat} {t : Int} {nm : Str} {a : Option Addr} (h : OutF w K g t nm a n c) (hne : g ≠ b) (x y z : Value) : OutF (((w.setCell ⟨b, k, none⟩ x).setCell ⟨b, k + 1, none⟩ y).setCell ⟨b, k + 2, none⟩ z) K g t nm a n c := by
  obtain ⟨h1, fz, h2⟩ := h
  exact ⟨h1, fz, (((Below.heap_setCell _ ⟨b, k + 2, none⟩ _ g hne).trans (Below.heap_setCell _ ⟨b, k + 1, none⟩ _ g hne)).trans (Below.heap_setCell w ⟨b, k, none⟩ _ g hne)).trans h2⟩
theorem box3 {W : World} {p : Nat} {c0 c1 c2 : Value} {T : TypeId} (h : W.heap[p]? = some (.cells #[c0, c1, c2] T (0, 0))) : W.cell? ⟨p, 0, none⟩ = some c0 ∧ W.cell? ⟨p, 1, none⟩ = some c1 ∧ W.cell? ⟨p, 2, none⟩ = some c2 ∧ W.frozen? ⟨p, 0, none⟩ = false ∧ W.frozen? ⟨p, 1, none⟩ = false ∧ W.frozen? ⟨p, 2, none⟩ = false := by
  refine ⟨?_, ?_, ?_, ?_, ?_, ?_⟩ <;> simp [World.cell?, World.frozen?, h]
theorem bel1 {K : Nat} {W : World} (h : K ≤ W.heap.size) (o : Obj) : Below K W (W.alloc o).drew := ((Below.refl _ _).alloc h o).drew
theorem bel2 {K : Nat} {W : World} (h : K ≤ W.heap.size) (o1 o2 : Obj) : Below K W ((W.alloc o1).alloc o2).drew := (((Below.refl _ _).alloc h o1).alloc (by simp; omega) o2).drew
theorem OwnN.fresh1 {T : TypeId} {n : Nat} {W : World} {K : Nat} (h : K ≤ W.heap.size) (o : Obj) : OwnN T n ((W.alloc o).alloc (.cells #[] T)).drew K (.slice (some ⟨W.heap.size + 1, 0, none⟩) 0 0) [] := by
  have h1 : (W.alloc o).heap.size = W.heap.size + 1 := by simp
  have := OwnN.fresh T n (w := W.alloc o) (base := K) (by omega)
  rw [h1] at this
  exact this.below (Below.refl _ _).drew
theorem boxA (W : World) (cs : Array Value) (T : TypeId) : ((W.alloc (.cells cs T)).alloc (.cells #[] 42)).drew.heap[W.heap.size]? = some (.cells cs T (0, 0)) :=
  ((bxn (W.alloc (.cells cs T)) (.cells #[] 42)).block W.heap.size (by simp)).trans (heap_alloc_new W _)
theorem boxB (W : World) (cs : Array Value) (T : TypeId) : ((W.alloc (.cells #[] 42)).alloc (.cells cs T)).drew.heap[W.heap.size + 1]? = some (.cells cs T (0, 0)) := by
  have h1 : (W.alloc (.cells #[] 42)).heap.size = W.heap.size + 1 := by simp
  have := heap_alloc_new (W.alloc (.cells #[] 42)) (.cells cs T)
  rw [h1] at this
  exact this
theorem OwnN.other {T : TypeId} {n : Nat} {w : World} {base : Nat} {v : Value} {css : List (List Value)} (h : OwnN T n w base v css) {b : Nat} {cells : Array Value} {U : TypeId} {fz : Nat × Nat} (hb : w.heap[b]? = some (.cells cells U fz)) (hU : U ≠ T) (k : Nat) (x y z : Value) :
    OwnN T n (((w.setCell ⟨b, k, none⟩ x).setCell ⟨b, k + 1, none⟩ y).setCell ⟨b, k + 2, none⟩ z) base v css := by
  refine ⟨h.1, h.2.1, ?_⟩
  rcases h.2.2 with hn | ⟨g, cap, cur, rfl, hbb, hg, rest⟩
  · exact .inl hn
  · have hne : g ≠ b := by
      rintro rfl
      rw [hg] at hb
      exact hU (Obj.cells.inj (Option.some.inj hb)).2.1.symm
    exact .inr ⟨g, cap, cur, rfl, hbb, (((Below.heap_setCell _ ⟨b, k + 2, none⟩ _ g hne).trans (Below.heap_setCell _ ⟨b, k + 1, none⟩ _ g hne)).trans (Below.heap_setCell w ⟨b, k, none⟩ _ g hne)).trans hg, rest⟩
theorem set3_heap {W : World} {p : Nat} {c0 c1 c2 : Value} {T : TypeId} (h : W.heap[p]? = some (.cells #[c0, c1, c2] T (0, 0))) (u0 u1 u2 : Value) : (((W.setCell ⟨p, 0, none⟩ u0).setCell ⟨p, 1, none⟩ u1).setCell ⟨p, 2, none⟩ u2).heap[p]? = some (.cells #[u0, u1, u2] T (0, 0)) := by
  have h0 := heap_setCell_same W p 0 _ T u0 h
  have h1 := heap_setCell_same _ p 1 _ T u1 h0
  have h2 := heap_setCell_same _ p 2 _ T u2 h1
  exact h2
set_option maxHeartbeats 16000000 in
theorem rwith_any {P : Nat → Nat → Prop} {Q Q2 Q3 : Nat → Prop} (v u s : Value) (cs : List ClassD) (f : FactD) (t' : Int) (bs : List BoundD) (w : World) (h : Row 2 (ReK P) w Q v cs)
    (hf : SlW 3 w Q2 u (f.vs.map clV)) (hv : ∀ x ∈ f.vs, fV x) (hs : SlW 4 w Q3 s (bs.map clB)) (hb : ∀ b ∈ bs, fV b.x) (hl : f.vs.length ≤ 100000) :
    Calls Tryd.prog 12 #[v, .agg #[.int .i64 f.t, .string (st f.c), u], .int .i64 t', s] w (WP w (withR cs f t' bs)) := by
  generalize hR : withR cs f t' bs = r
  generalize hPO : WP w r = PO
  have HPN : Hid (∀ er w', r = .error er → Below w.heap.size w w' → PO (.returned (.tuple #[.agg #[.int .i64 0, .string ⟨#[]⟩, .slice none 0 0], .int .i64 er])) w') := fun er w' he hb => by
    rw [← hPO, he]; exact ⟨hb, rfl⟩
  have HPS : Hid (∀ g v w', r = .ok g → Below w.heap.size w w' → OwnV w' w.heap.size v g.vs → PO (.returned (.tuple #[.agg #[.int .i64 g.t, .string (st g.c), v], .int .i64 0])) w') := fun g v w' he hb hs => by
    rw [← hPO, he]; exact ⟨hb, v, rfl, hs⟩
  clear hPO
  have CK : Hid (∀ W, Below w.heap.size w W → Calls Tryd.prog 15 #[v, .agg #[.int .i64 f.t, .string (st f.c), u]] W fun e w' => e = .returned (.int .i64 (factE cs f)) ∧ Below W.heap.size W w') := fun W hW => rcheckF_any v u cs f W (rowK_keep h hW) (hf.bl hW) hv
  have CF : Hid (∀ W, Below w.heap.size w W → Calls Tryd.prog 24 #[v, .string (st f.c)] W (FP W (findC cs f.c))) := fun W hW => rfind_any v cs f.c W (rowK_keep h hW)
  have HF0 : Hid (SlW 3 w Q2 u (f.vs.map clV)) := hf
  have HS0 : Hid (SlW 4 w Q3 s (bs.map clB)) := hs
  have HB0 : Hid (∀ b ∈ bs, fV b.x) := hb
  obtain ⟨a2, c2, rfl⟩ := hf.shape
  obtain ⟨a3, c3, rfl⟩ := hs.shape
  obtain ⟨-, l3, m3, r3⟩ := hs.at ⟨[], v00⟩
  simp only [List.length_map] at *
  have R3 : Hid (∀ i, i < bs.length → ∃ b off, a3 = some ⟨b, off, none⟩ ∧ b < w.heap.size ∧ ∀ j, j < 4 → w.cell? ⟨b, off + (i * 4 + j), none⟩ = (clB (bs.getD i ⟨[], v00⟩))[j]?) := r3
  clear h hf hv hs hb r3
  obtain ⟨t, nm, vs⟩ := f
  simp only at *
  have HX : Hid (∀ W, Below ((w.alloc (.cells #[.int .i64 t, .string (st nm), .slice a2 vs.length c2] 25)).alloc (.cells #[.int .i64 0, .string ⟨#[]⟩, .slice none 0 0] 25)).heap.size ((w.alloc (.cells #[.int .i64 t, .string (st nm), .slice a2 vs.length c2] 25)).alloc (.cells #[.int .i64 0, .string ⟨#[]⟩, .slice none 0 0] 25)) W →
      W.cell? ⟨w.heap.size, 0, none⟩ = some (.int .i64 t) ∧
      W.cell? ⟨w.heap.size, 1, none⟩ = some (.string (st nm)) ∧
      W.cell? ⟨w.heap.size, 2, none⟩ = some (.slice a2 vs.length c2) ∧
      W.cell? ⟨w.heap.size + 1, 0, none⟩ = some (.int .i64 0) ∧
      W.cell? ⟨w.heap.size + 1, 1, none⟩ = some (.string ⟨#[]⟩) ∧
      W.cell? ⟨w.heap.size + 1, 2, none⟩ = some (.slice none 0 0) ∧
      W.frozen? ⟨w.heap.size + 1, 0, none⟩ = false ∧
      W.frozen? ⟨w.heap.size + 1, 1, none⟩ = false ∧
      W.frozen? ⟨w.heap.size + 1, 2, none⟩ = false ∧
      w.heap.size + 1 < W.heap.size ∧
      Below w.heap.size w W) := fun W hW =>
    ⟨(hW.cell (p := ⟨w.heap.size, 0, none⟩) (by simp; try omega)).trans (by go_simp),
     (hW.cell (p := ⟨w.heap.size, 1, none⟩) (by simp; try omega)).trans (by go_simp),
     (hW.cell (p := ⟨w.heap.size, 2, none⟩) (by simp; try omega)).trans (by go_simp),
     (hW.cell (p := ⟨w.heap.size + 1, 0, none⟩) (by simp; try omega)).trans (by go_simp),
     (hW.cell (p := ⟨w.heap.size + 1, 1, none⟩) (by simp; try omega)).trans (by go_simp),
     (hW.cell (p := ⟨w.heap.size + 1, 2, none⟩) (by simp; try omega)).trans (by go_simp),
     (hW.frozen (p := ⟨w.heap.size + 1, 0, none⟩) (by simp; try omega)).trans (by go_simp),
     (hW.frozen (p := ⟨w.heap.size + 1, 1, none⟩) (by simp; try omega)).trans (by go_simp),
     (hW.frozen (p := ⟨w.heap.size + 1, 2, none⟩) (by simp; try omega)).trans (by go_simp),
     (by have := hW.size; simp at this; omega),
     bt (bt (bxn _ _) (bxn _ _)) hW⟩
  have CE := CK.out ((w.alloc (.cells #[.int .i64 t, .string (st nm), .slice a2 vs.length c2] 25)).alloc (.cells #[.int .i64 0, .string ⟨#[]⟩, .slice none 0 0] 25)) (bt (bxn _ _) (bxn _ _))
  by_cases hfe : ¬ factE cs ⟨t, nm, vs⟩ = 0
  · have E : Hid (r = .error (factE cs ⟨t, nm, vs⟩)) := hR.symm.trans (by unfold withR; rw [if_pos hfe])
    generalize factE cs ⟨t, nm, vs⟩ = er at *
    have hne' : (er == 0) = false := by simpa using hfe
    clear hR CK CF
    go_enter Tryd.func12, Tryd.ntmps12
    go_wp2_with (go_at_call 15; refine CE.mono ?_; rintro e w2 ⟨rfl, hb2⟩; obtain ⟨x00, x01, x02, x10, x11, x12, xz10, xz11, xz12, hs, hB⟩ := HX.out w2 (hb2); have B2 : Hid (Below w.heap.size w w2) := hB; clear hB; clear CE hb2)
    all_goals (
      refine bodyPost_ret (v := .tuple #[.agg #[.int .i64 0, .string ⟨#[]⟩, .slice none 0 0], .int .i64 er]) (by simp [results, Tryd.results12, go_sem]; go_simp) rfl ?_
      exact HPN.out er _ E.out (setThree_below B2.out (by omega)))
  have hfe := Classical.not_not.1 hfe
  rw [hfe] at CE
  clear CK
  by_cases ht1 : t' < 1
  · have E : Hid (r = .error 22) := hR.symm.trans (by unfold withR tagB; rw [if_neg (show ¬ factE cs ⟨t, nm, vs⟩ ≠ 0 from fun h => h hfe), if_pos (decide_eq_false (by omega))])
    clear hR CF hfe
    go_enter Tryd.func12, Tryd.ntmps12
    go_wp2_with (go_at_call 15; refine CE.mono ?_; rintro e w2 ⟨rfl, hb2⟩; obtain ⟨x00, x01, x02, x10, x11, x12, xz10, xz11, xz12, hs, hB⟩ := HX.out w2 (hb2); have B2 : Hid (Below w.heap.size w w2) := hB; clear hB; clear CE hb2)
    all_goals (
      refine bodyPost_ret (v := .tuple #[.agg #[.int .i64 0, .string ⟨#[]⟩, .slice none 0 0], .int .i64 22]) (by simp [results, Tryd.results12, go_sem]; go_simp) rfl ?_
      exact HPN.out 22 _ E.out (setThree_below B2.out (by omega)))
  by_cases ht2 : 1099511627776 < t'
  · have E : Hid (r = .error 22) := hR.symm.trans (by unfold withR tagB; rw [if_neg (show ¬ factE cs ⟨t, nm, vs⟩ ≠ 0 from fun h => h hfe), if_pos (decide_eq_false (by omega))])
    clear hR CF hfe
    go_enter Tryd.func12, Tryd.ntmps12
    go_wp2_with (go_at_call 15; refine CE.mono ?_; rintro e w2 ⟨rfl, hb2⟩; obtain ⟨x00, x01, x02, x10, x11, x12, xz10, xz11, xz12, hs, hB⟩ := HX.out w2 (hb2); have B2 : Hid (Below w.heap.size w w2) := hB; clear hB; clear CE hb2)
    all_goals (
      refine bodyPost_ret (v := .tuple #[.agg #[.int .i64 0, .string ⟨#[]⟩, .slice none 0 0], .int .i64 22]) (by simp [results, Tryd.results12, go_sem]; go_simp) rfl ?_
      exact HPN.out 22 _ E.out (setThree_below B2.out (by omega)))
  obtain ⟨-, k, hfc0, hkl0, -⟩ := factE_fit hfe
  have hfc : findC cs nm = some k := hfc0
  have HKL : Hid (vs.length = k.attrs.length) := hkl0
  have EW : Hid (r = bindE (runE (setsS k) ([], vs) bs) fun s => .ok ⟨t', nm, s.2⟩) := hR.symm.trans (by unfold withR tagB; rw [if_neg (show ¬ factE cs ⟨t, nm, vs⟩ ≠ 0 from fun h => h hfe), if_neg (by rw [decide_eq_true (by omega)]; decide), hfc])
  have C24 : Hid (∀ W, Below w.heap.size w W → Calls Tryd.prog 24 #[v, .string (st nm)] W fun e w' => ∃ (a : Option Addr) (c : Nat), e = .returned (.tuple #[.agg #[.string (st k.nm), .slice a k.attrs.length c], .bool true]) ∧ SlW 1 w' (fun _ => True) (.slice a k.attrs.length c) (k.attrs.map clS) ∧ Below W.heap.size W w') := fun W hW => (CF.out W hW).mono fun e w' h => by
    obtain ⟨hb, hh⟩ := h
    rw [hfc] at hh
    obtain ⟨a, c, e1, e2⟩ := hh
    exact ⟨a, c, e1, e2, hb⟩
  clear hR CF hfe hfc hfc0 hkl0
  go_enter Tryd.func12, Tryd.ntmps12
  go_wp2_with (first
    | (go_at_call 15; refine CE.mono ?_; rintro e w2 ⟨rfl, hb2⟩; have H2 : Hid (Below _ _ w2) := hb2; obtain ⟨x00, x01, x02, x10, x11, x12, xz10, xz11, xz12, hs, hB⟩ := HX.out w2 (hb2); have B2 : Hid (Below w.heap.size w w2) := hB; clear hB; clear CE hb2)
    | (go_at_call 24; refine (C24.out w2 B2.out).mono ?_; rintro e w3 ⟨a, c, rfl, hs3, hb3⟩; have S3 : Hid (SlW 1 w3 (fun b => b < w3.heap.size) (.slice a k.attrs.length c) (k.attrs.map clS)) := hs3.pin; have H3 : Hid (Below _ _ w3) := bt H2.out hb3; clear x00 x01 x02 x10 x11 x12 xz10 xz11 xz12 hs; obtain ⟨x00, x01, x02, x10, x11, x12, xz10, xz11, xz12, hs, hB⟩ := HX.out w3 (H3.out); have B3 : Hid (Below w.heap.size w w3) := hB; clear hB; clear hb3 hs3 C24))
  obtain ⟨W0, hW0⟩ : ∃ W0, W0 = w3.alloc (.cells #[.string (st k.nm), .slice a k.attrs.length c] 54) := ⟨_, rfl⟩
  obtain ⟨K, hK⟩ : ∃ K, K = W0.heap.size := ⟨_, rfl⟩
  have HK : Hid (w3.heap.size < K ∧ w.heap.size + 1 < K ∧ K = W0.heap.size) := by subst hK; subst hW0; exact ⟨by simp, by simp; omega, rfl⟩
  have HXL : Hid (∀ W, Below K W0 W → Below ((w.alloc (.cells #[.int .i64 t, .string (st nm), .slice a2 vs.length c2] 25)).alloc (.cells #[.int .i64 0, .string ⟨#[]⟩, .slice none 0 0] 25)).heap.size ((w.alloc (.cells #[.int .i64 t, .string (st nm), .slice a2 vs.length c2] 25)).alloc (.cells #[.int .i64 0, .string ⟨#[]⟩, .slice none 0 0] 25)) W) := fun W hW => by
    have h0 := bt H3.out (bxn w3 (.cells #[.string (st k.nm), .slice a k.attrs.length c] 54))
    rw [← hW0] at h0
    exact h0.trans (hW.mono (by rw [hK]; exact h0.size))
  have HLo : Hid (∀ W, Below K W0 W → Below w.heap.size w W) := fun W hW => by
    have h0 := bt B3.out (bxn w3 (.cells #[.string (st k.nm), .slice a k.attrs.length c] 54))
    rw [← hW0] at h0
    exact h0.trans (hW.mono (by rw [hK]; exact h0.size))
  have HC : Hid (∀ W, Below K W0 W → W.cell? ⟨w3.heap.size, 0, none⟩ = some (.string (st k.nm)) ∧ W.cell? ⟨w3.heap.size, 1, none⟩ = some (.slice a k.attrs.length c)) := fun W hW => by
    exact ⟨(hW.cell (p := ⟨w3.heap.size, 0, none⟩) HK.out.1).trans (by rw [hW0]; go_simp), (hW.cell (p := ⟨w3.heap.size, 1, none⟩) HK.out.1).trans (by rw [hW0]; go_simp)⟩
  have SA : Hid (∀ W, Below K W0 W → SlW 1 W (fun b => b < w3.heap.size) (.slice a k.attrs.length c) (k.attrs.map clS)) := fun W hW => by
    have h0 := slK S3.out (bxn w3 (.cells #[.string (st k.nm), .slice a k.attrs.length c] 54))
    rw [← hW0] at h0
    exact slK h0 (hW.mono (by have := HK.out; omega))
  clear x00 x01 x02 x10 x11 x12 xz10 xz11 xz12 hs
  rw [← hW0]
  clear hW0 hK B3 H3 S3 B2 H2
  go_cut [13] (fun p wx => ∃ (gO : Nat) (av : Option Addr) (cv : Nat), p = .pointer (some ⟨gO, 0, none⟩) ∧ Hid (OutF wx K gO t' nm av vs.length cv) ∧ Hid (OwnV wx K (.slice av vs.length cv) vs) ∧ Hid (Below K W0 wx))
  case first =>
    have SL : Hid (∀ W, Below K W0 W → W.cell? ⟨w.heap.size, 1, none⟩ = some (.string (st nm)) ∧ W.cell? ⟨w.heap.size, 2, none⟩ = some (.slice a2 vs.length c2)) := fun W hW => by
      have h0 := HX.out W (HXL.out W hW)
      exact ⟨h0.2.1, h0.2.2.1⟩
    have hK2 : K = W0.heap.size := HK.out.2.2
    have SF : Hid (∀ W, Below K W0 W → SlW 3 W (fun b => b < w.heap.size) (.slice a2 vs.length c2) (vs.map clV)) := fun W hW => slK HF0.out.pin (HLo.out W hW)
    have HKe : Hid (K ≤ W0.heap.size) := by show K ≤ _; omega
    clear hK2
    go_region_held3 (fun W => W.cell? ⟨w.heap.size, 1, none⟩ = some (.string (st nm)) ∧ W.cell? ⟨w.heap.size, 2, none⟩ = some (.slice a2 vs.length c2)) (first | (refine SL.out _ ?_; first | exact (Below.refl _ _).drew | exact bel1 HKe.out _ | exact bel2 HKe.out _ _ | exact (bel1 HKe.out _).trans b5 | exact (bel2 HKe.out _ _).trans b5 | exact ((bel1 HKe.out _).trans b5).alloc (Nat.le_trans (Nat.le_trans HKe.out (bel1 HKe.out _).size) b5.size) _ | exact setThree_below ((bel2 HKe.out _ _).trans b5) HKe.out | exact setThree_below ((bel2 HKe.out _ _).trans b5) (Nat.le_succ_of_le HKe.out))) (first | (refine step_app_n Tryd.underlying23 info42 rfl (by decide) (by decide) (by rfl) _ _ (by rfl) K (.slice (some ⟨W0.heap.size + 1, 0, none⟩) 0 0) [] (vs.map clV) (by rfl) (OwnN.fresh1 HKe.out _) (.slice a2 vs.length c2) (by rfl) (SF.out _ (bel2 HKe.out _ _)) clV_len clV_one (by simp; omega) (by have := HKe.out; simp; omega) ?_; intro v5 w5 o5 g5 b5; obtain ⟨av, cv, rfl⟩ := o5.shape; have O5 : Hid (OwnV w5 K (.slice av (([] : List (List Value)) ++ vs.map clV).length cv) vs) := o5; clear o5; have HQ : Hid (w5.heap[W0.heap.size]? = some (.cells #[.int .i64 0, .string ⟨#[]⟩, .slice none 0 0] 25 (0, 0))) := (g5.block _ (by simp <;> omega) (by simp [Value.ownBlock])).trans (boxA W0 _ _); obtain ⟨q0, q1, q2, z0, z1, z2⟩ := box3 HQ.out) | (refine step_app_n Tryd.underlying23 info42 rfl (by decide) (by decide) (by rfl) _ _ (by rfl) K (.slice (some ⟨W0.heap.size, 0, none⟩) 0 0) [] (vs.map clV) (by rfl) ((OwnN.fresh 42 3 HKe.out).below (bxn _ _).drew) (.slice a2 vs.length c2) (by rfl) (SF.out _ (bel2 HKe.out _ _)) clV_len clV_one (by simp; omega) (by have := HKe.out; simp; omega) ?_; intro v5 w5 o5 g5 b5; obtain ⟨av, cv, rfl⟩ := o5.shape; have O5 : Hid (OwnV w5 K (.slice av (([] : List (List Value)) ++ vs.map clV).length cv) vs) := o5; clear o5; have HQ : Hid (w5.heap[W0.heap.size + 1]? = some (.cells #[.int .i64 0, .string ⟨#[]⟩, .slice none 0 0] 25 (0, 0))) := (g5.block _ (by simp <;> omega) (by simp [Value.ownBlock])).trans (boxB W0 _ _); obtain ⟨q0, q1, q2, z0, z1, z2⟩ := box3 HQ.out) | (refine step_app_n Tryd.underlying23 info42 rfl (by decide) (by decide) (by rfl) _ _ (by rfl) K (.slice (some ⟨W0.heap.size, 0, none⟩) 0 0) [] (vs.map clV) (by rfl) ((OwnN.fresh 42 3 HKe.out).below (Below.refl _ _).drew) (.slice a2 vs.length c2) (by rfl) (SF.out _ (bel1 HKe.out _)) clV_len clV_one (by simp; omega) (by have := HKe.out; simp; omega) ?_; intro v5 w5 o5 g5 b5; obtain ⟨av, cv, rfl⟩ := o5.shape; have O5 : Hid (OwnV w5 K (.slice av (([] : List (List Value)) ++ vs.map clV).length cv) vs) := o5; clear o5))
    all_goals (
      go_wp2_with fail
      go_meet
      case rel =>
        have O6 : OwnV w5 K (.slice av vs.length cv) vs := by have := O5.out; simpa using this
        first
          | exact ⟨w5.heap.size, av, cv, rfl, ⟨Nat.le_trans (Nat.le_trans HKe.out (bel1 HKe.out _).size) b5.size, (0, 0), heap_alloc_new w5 _⟩, O6.below (bxn _ _), ((bel1 HKe.out _).trans b5).alloc (Nat.le_trans (Nat.le_trans HKe.out (bel1 HKe.out _).size) b5.size) _⟩
          | exact ⟨_, av, cv, rfl, ⟨HKe.out, (0, 0), set3_heap HQ.out _ _ _⟩, O6.other HQ.out (by decide) 0 _ _ _, setThree_below ((bel2 HKe.out _ _).trans b5) HKe.out⟩
          | exact ⟨_, av, cv, rfl, ⟨Nat.le_succ_of_le HKe.out, (0, 0), set3_heap HQ.out _ _ _⟩, O6.other HQ.out (by decide) 0 _ _ _, setThree_below ((bel2 HKe.out _ _).trans b5) (Nat.le_succ_of_le HKe.out)⟩)
  case rest =>
    obtain ⟨gO, av, cv, rfl, HG, HO, HB⟩ := hcut
    go_wp2_with fail
    go_loopw [14, 15, 16, 17, 18] (fun v _ _ _ _ wr => ∃ (i : Nat) (zs : List Str) (xs : List VD), v = .int .i64 i ∧ i ≤ bs.length ∧ Hid (OutF wr K gO t' nm av vs.length cv) ∧ Hid (OwnV wr K (.slice av vs.length cv) xs) ∧ Hid (Below K W0 wr) ∧ Hid (runE (setsS k) ([], vs) (bs.take i) = .ok (zs, xs))) (fun v _ _ _ _ _ => (bs.length - intOf v).toNat)
    case atStart => exact ⟨0, [], vs, rfl, Nat.zero_le _, HG, HO, HB, rfl⟩
    case round =>
      clear HG HO HB
      obtain ⟨i, zs, xs, rfl, hi, HG, HO, HB, HR⟩ := hrel
      obtain ⟨wo, hwo⟩ : ∃ wo, wo = wr := ⟨_, rfl⟩
      subst hwo
      have HW : Hid (Below w.heap.size w wo) := HLo.out wo HB.out
      by_cases hlt : i < bs.length
      · have hiz : (i : Int) < bs.length := by omega
        obtain ⟨b1, o1, rfl, hb1, q1⟩ := R3.out i hlt
        have hinv := sets_inv (P := fun _ => True) (bs := bs.take i) (fun _ _ => trivial) (fun _ _ => trivial) HR.out
        have hzs : zs = (bs.take i).map (·.nm) := by have := hinv.2.2; simpa using this
        have HXL2 : Hid (xs.length = vs.length) := hinv.1
        have HNx := runE_next (step := setsS k) ⟨[], v00⟩ hlt HR.out
        have HEr := fun er h => runE_err (step := setsS k) (e := er) ⟨[], v00⟩ hlt HR.out h
        have hfv : fV (bs.getD i ⟨[], v00⟩).x := by rw [List.getD_eq_getElem?_getD, List.getElem?_eq_getElem hlt]; exact HB0.out _ (List.getElem_mem hlt)
        have RN : Hid (∀ n, n < bs.length → ∀ W, Below K W0 W → W.cell? ⟨b1, o1 + n * 4, none⟩ = some (.string (st (bs.getD n ⟨[], v00⟩).nm))) := fun n hn W hW => by
          obtain ⟨b1', o1', e, hb1', q1'⟩ := R3.out n hn
          obtain ⟨rfl, rfl, -⟩ := Addr.mk.inj (Option.some.inj e)
          exact ((HLo.out W hW).cell (p := ⟨b1, o1 + n * 4, none⟩) hb1').trans (q1' 0 (by decide))
        have QB : Hid (∀ W, Below K W0 W → W.cell? ⟨b1, o1 + i * 4 + 1, none⟩ = (clB (bs.getD i ⟨[], v00⟩))[1]? ∧ W.cell? ⟨b1, o1 + i * 4 + 2, none⟩ = (clB (bs.getD i ⟨[], v00⟩))[2]? ∧ W.cell? ⟨b1, o1 + i * 4 + 3, none⟩ = (clB (bs.getD i ⟨[], v00⟩))[3]?) := fun W hW => by
          have h0 := HLo.out W hW
          exact ⟨(h0.cell (p := ⟨b1, o1 + i * 4 + 1, none⟩) hb1).trans (q1 1 (by decide)), (h0.cell (p := ⟨b1, o1 + i * 4 + 2, none⟩) hb1).trans (q1 2 (by decide)), (h0.cell (p := ⟨b1, o1 + i * 4 + 3, none⟩) hb1).trans (q1 3 (by decide))⟩
        have QN : Hid (∀ W, Below K W0 W → W.cell? ⟨b1, o1 + i * 4, none⟩ = some (.string (st (bs.getD i ⟨[], v00⟩).nm))) := fun W hW => RN.out i hlt W hW
        have HIN : Hid ((∀ n, n < i → (bs.getD n ⟨[], v00⟩).nm ≠ (bs.getD i ⟨[], v00⟩).nm) → (bs.getD i ⟨[], v00⟩).nm ∉ zs) := fun h hm => by
          rw [hzs] at hm
          obtain ⟨y, hy, e⟩ := List.mem_map.1 hm
          obtain ⟨n, hn, rfl⟩ := List.mem_iff_getElem.1 hy
          simp only [List.length_take] at hn
          refine h n (by omega) ?_
          rw [← e, List.getElem_take, List.getD_eq_getElem?_getD, List.getElem?_eq_getElem (by omega)]; rfl
        have HYN : Hid (∀ n, n < i → (bs.getD n ⟨[], v00⟩).nm = (bs.getD i ⟨[], v00⟩).nm → (bs.getD i ⟨[], v00⟩).nm ∈ zs) := fun n hn e => by
          rw [hzs, ← e]
          refine List.mem_map.2 ⟨(bs.take i)[n]'(by rw [List.length_take]; omega), List.getElem_mem _, ?_⟩
          rw [List.getElem_take, List.getD_eq_getElem?_getD, List.getElem?_eq_getElem (by omega)]; rfl
        generalize bs.getD i ⟨[], v00⟩ = b at *
        simp only [clB, List.getElem?_cons_zero, List.getElem?_cons_succ] at QB
        clear q1 hinv hzs
        have CA : Hid (∀ W, Below K W0 W → Calls Tryd.prog 29 #[.agg #[.string (st k.nm), .slice a k.attrs.length c], .string (st b.nm)] W fun e w' => e = .returned (.tuple #[.int .i64 (max (idxS k.attrs b.nm) 0), .bool (decide (0 ≤ idxS k.attrs b.nm))]) ∧ Below W.heap.size W w') := fun W hW => rattr_any k.nm a k.attrs.length c k.attrs b.nm W (SA.out W hW)
        have SL : Hid (∀ W, Below K W0 W → W.cell? ⟨w3.heap.size, 0, none⟩ = some (.string (st k.nm)) ∧ W.cell? ⟨w3.heap.size, 1, none⟩ = some (.slice a k.attrs.length c) ∧ W.cell? ⟨b1, o1 + i * 4, none⟩ = some (.string (st b.nm))) := fun W hW => ⟨(HC.out W hW).1, (HC.out W hW).2, QN.out W hW⟩
        have HKw : Hid (K ≤ wo.heap.size) := by have h1 := HB.out.size; have h2 := HK.out.2.2; show K ≤ _; omega
        obtain ⟨x00, x01, x02, x10, x11, x12, xz10, xz11, xz12, hs, -⟩ := HX.out wo (HXL.out wo HB.out)
        rcases idxS_or k.attrs b.nm with hi1 | hi1
        · have E : Hid (r = .error 19) := EW.out.trans (by rw [HEr 19 (if_pos (by rw [hi1]; decide))]; rfl)
          rw [hi1] at CA
          clear HEr HNx HIN HYN RN QB hi1 hfv
          go_wp2
          go_region_held3 (fun W => W.cell? ⟨w3.heap.size, 0, none⟩ = some (.string (st k.nm)) ∧ W.cell? ⟨w3.heap.size, 1, none⟩ = some (.slice a k.attrs.length c) ∧ W.cell? ⟨b1, o1 + i * 4, none⟩ = some (.string (st b.nm))) (first | exact SL.out _ HB.out.drew | exact SL.out _ (HB.out.drew.trans (hb5.mono (by simpa using HKw.out)))) (first | (go_at_call 29; refine (CA.out _ HB.out.drew).mono ?_; rintro e w5 ⟨rfl, hb5⟩))
          all_goals (
            have B5 : Hid (Below K W0 w5) := HB.out.drew.trans (hb5.mono (by simpa using HKw.out))
            clear x00 x01 x02 x10 x11 x12 xz10 xz11 xz12 hs
            obtain ⟨x00, x01, x02, x10, x11, x12, xz10, xz11, xz12, hs, -⟩ := HX.out w5 (HXL.out w5 B5.out)
            have HZ : Hid (w.heap.size + 1 < w5.heap.size) := hs
            clear hb5
            go_wp2
            refine bodyPost_ret (v := .tuple #[.agg #[.int .i64 0, .string ⟨#[]⟩, .slice none 0 0], .int .i64 19]) (by simp [results, Tryd.results12, go_sem]; go_simp) rfl ?_
            exact HPN.out 19 _ E.out (setThree_below (HLo.out w5 B5.out) (by omega)))
        · obtain ⟨j, hj⟩ := Int.eq_ofNat_of_zero_le hi1
          have hjk := (idxS_lt hi1).1
          have hn1 : ¬ idxS k.attrs b.nm < 0 := by omega
          have E7 : Hid (b.nm ∈ zs → r = .error 7) := fun h => EW.out.trans (by rw [HEr 7 ((if_neg hn1).trans (if_pos h))]; rfl)
          have EC : Hid (b.nm ∉ zs → chkV b.x ≠ 0 → r = .error (chkV b.x)) := fun h h2 => EW.out.trans (by rw [HEr _ ((if_neg hn1).trans ((if_neg h).trans (if_pos h2)))]; rfl)
          have EN : Hid (b.nm ∉ zs → chkV b.x = 0 → runE (setsS k) ([], vs) (bs.take (i + 1)) = .ok (zs ++ [b.nm], xs.set j b.x)) := fun h h2 => by
            have := HNx.trans ((if_neg hn1).trans ((if_neg h).trans (if_neg (Classical.not_not.2 h2))))
            rw [hj, Int.toNat_natCast] at this
            exact this
          rw [decide_eq_true hi1, Int.max_eq_left hi1, hj] at CA
          rw [hj, Int.toNat_natCast] at hjk
          have hjv : j < vs.length := by have := HKL.out; omega
          have hjz : (j : Int) < vs.length := by omega
          have hjm : j < (xs.map clV).length := by rw [List.length_map]; have := HXL2.out; omega
          obtain ⟨g, rfl, hg1, -, -⟩ := HO.out.at (Nat.lt_of_le_of_lt (Nat.zero_le _) hjm)
          have HGG : Hid (K ≤ g ∧ j < (xs.map clV).length) := ⟨hg1, hjm⟩
          clear HEr HNx hi1 hj hn1 hg1 hjm hjk
          go_wp2
          go_region_held3 (fun W => W.cell? ⟨w3.heap.size, 0, none⟩ = some (.string (st k.nm)) ∧ W.cell? ⟨w3.heap.size, 1, none⟩ = some (.slice a k.attrs.length c) ∧ W.cell? ⟨b1, o1 + i * 4, none⟩ = some (.string (st b.nm))) (first | exact SL.out _ HB.out.drew | exact SL.out _ (HB.out.drew.trans (hb5.mono (by simpa using HKw.out)))) (first | (go_at_call 29; refine (CA.out _ HB.out.drew).mono ?_; rintro e w5 ⟨rfl, hb5⟩))
          all_goals (
            have B5 : Hid (Below K W0 w5) := HB.out.drew.trans (hb5.mono (by simpa using HKw.out))
            have HR5 : Hid (Below wo.heap.size wo w5) := (Below.refl _ _).drew.trans hb5
            clear x00 x01 x02 x10 x11 x12 xz10 xz11 xz12 hs
            clear hb5
            go_wp2
            go_loopw [17] (fun v wr => ∃ n : Nat, v = .int .i64 n ∧ n ≤ i ∧ Hid (Below w5.heap.size w5 wr) ∧ Hid (∀ m, m < n → (bs.getD m ⟨[], v00⟩).nm ≠ b.nm)) (fun v _ => (i - intOf v).toNat)
            case atStart => exact ⟨0, rfl, Nat.zero_le _, Below.refl _ _, fun m hm => absurd hm (Nat.not_lt_zero _)⟩
            case round =>
              obtain ⟨n, rfl, hn, HQ, NO⟩ := hrel
              have BQ : Hid (Below K W0 wr) := B5.out.trans (HQ.out.mono (by have h1 := B5.out.size; have h2 := HK.out.2.2; omega))
              obtain ⟨x00, x01, x02, x10, x11, x12, xz10, xz11, xz12, hs, -⟩ := HX.out wr (HXL.out wr BQ.out)
              have q0 := QN.out wr BQ.out
              by_cases hni : n < i
              · have hnz : (n : Int) < (i : Int) := by omega
                have hnb : (n : Int) < bs.length := by omega
                have p0 := RN.out n (by omega) wr BQ.out
                have HY := HYN.out n hni
                have HN1 := fun h => idx_next (p := fun y : BoundD => y.nm ≠ b.nm) (l := bs) (d := ⟨[], v00⟩) NO.out h
                generalize (bs.getD n ⟨[], v00⟩).nm = ny at *
                by_cases he : ny = b.nm
                · have E : Hid (r = .error 7) := E7.out (HY he)
                  subst he
                  clear HY HN1
                  go_wp2
                  go_quiet (fail)
                  go_wp2
                  refine bodyPost_ret (v := .tuple #[.agg #[.int .i64 0, .string ⟨#[]⟩, .slice none 0 0], .int .i64 7]) (by simp [results, Tryd.results12, go_sem]; go_simp) rfl ?_
                  exact HPN.out 7 _ E.out (setThree_below ((HLo.out wr BQ.out).trans (drewN_b _ _)) (by omega))
                · have HN2 : Hid (∀ m, m < n + 1 → (bs.getD m ⟨[], v00⟩).nm ≠ b.nm) := HN1 he
                  have he2 : ((st ny).toList == (st b.nm).toList) = false := beq_eq_false_iff_ne.2 (st_tl ny b.nm he)
                  have he3 := st_tl ny b.nm he
                  clear HY HN1 he
                  go_wp2
                  go_quiet (fail)
                  go_wp2
                  first
                    | (refine ⟨⟨n + 1, by simp, by omega, below_dn HQ.out _, HN2.out⟩, ?_⟩; simp [intOf]; omega)
                    | (go_roundw; case rel => exact ⟨n + 1, by simp, by omega, below_dn HQ.out _, HN2.out⟩; case measure => simp [intOf]; omega)
              · have hnz : ¬ (n : Int) < (i : Int) := by omega
                have HNI : Hid (b.nm ∉ zs) := HIN.out fun m hm => NO.out m (by omega)
                obtain ⟨v1, v2, v3⟩ := QB.out wr BQ.out
                have CC := rcheck_v b.x wr hfv
                by_cases hx : chkV b.x = 0
                · have EE := EN.out HNI.out hx
                  have E : Hid (runE (setsS k) ([], vs) (bs.take (i + 1)) = .ok (zs ++ [b.nm], xs.set j b.x)) := EE
                  rw [hx] at CC
                  clear EE hx
                  go_wp2_with (go_at_call 30; refine CC.mono ?_; rintro e w6 ⟨rfl, hb6⟩; have B6 : Hid (Below K W0 w6) := BQ.out.trans (hb6.mono (by have h1 := BQ.out.size; have h2 := HK.out.2.2; omega)); have G6 : Hid (OutF w6 K gO t' nm (some ⟨g, 0, none⟩) vs.length cv) := HG.out.below (bt (bt HR5.out HQ.out) hb6); have O6 : Hid (OwnV w6 K (.slice (some ⟨g, 0, none⟩) vs.length cv) xs) := HO.out.below (bt (bt HR5.out HQ.out) hb6); clear CC hb6 v1 v2 v3 q0; obtain ⟨v1, v2, v3⟩ := QB.out w6 B6.out; obtain ⟨o0, o1', o2, hog⟩ := G6.out.get; obtain ⟨⟨u0, r0'⟩, f0'⟩ := OwnN.cell O6.out HGG.out.2 0 (by decide); have r0 : w6.cell? ⟨g, j * 3, none⟩ = some u0 := r0'; have f0 : w6.frozen? ⟨g, j * 3, none⟩ = false := f0'; clear r0' f0'; obtain ⟨⟨u1, r1⟩, f1⟩ := OwnN.cell O6.out HGG.out.2 1 (by decide); obtain ⟨⟨u2, r2⟩, f2⟩ := OwnN.cell O6.out HGG.out.2 2 (by decide))
                  go_region
                  all_goals (
                    go_wp2
                    go_roundw
                    case rel =>
                      have hne : gO ≠ g := by obtain ⟨cur, fz, hh⟩ := O6.out.blk; exact G6.out.row hh
                      exact ⟨i + 1, zs ++ [b.nm], xs.set j b.x, by simp, by omega, (G6.out.set hne _ _ _).below (Below.refl _ _).drew, by have := (O6.out.set3 HGG.out.2 (.int .u8 b.x.k) (.int .i64 b.x.n) (.string (st b.x.s))).below (Below.refl _ _).drew; show OwnN _ _ _ _ _ _; rw [List.map_set]; exact this, (setRow_below B6.out HGG.out.1).drew, E.out⟩
                    case measure => simp [intOf]; omega)
                · have E : Hid (r = .error (chkV b.x)) := EC.out HNI.out hx
                  have hx' : (chkV b.x == 0) = false := by simpa using hx
                  generalize chkV b.x = er at *
                  go_wp2_with (go_at_call 30; refine CC.mono ?_; rintro e w6 ⟨rfl, hb6⟩; have B6 : Hid (Below K W0 w6) := BQ.out.trans (hb6.mono (by have h1 := BQ.out.size; have h2 := HK.out.2.2; omega)); clear x00 x01 x02 x10 x11 x12 xz10 xz11 xz12 hs; obtain ⟨x00, x01, x02, x10, x11, x12, xz10, xz11, xz12, hs, -⟩ := HX.out w6 (HXL.out w6 B6.out); clear CC hb6)
                  refine bodyPost_ret (v := .tuple #[.agg #[.int .i64 0, .string ⟨#[]⟩, .slice none 0 0], .int .i64 er]) (by simp [results, Tryd.results12, go_sem]; go_simp) rfl ?_
                  exact HPN.out er _ E.out (setThree_below (HLo.out w6 B6.out) (by omega)))
      · have hiz : ¬ (i : Int) < bs.length := by omega
        have E : Hid (r = .ok ⟨t', nm, xs⟩) := EW.out.trans (by rw [runE_all (by omega) HR.out]; rfl)
        obtain ⟨x00, x01, x02, x10, x11, x12, xz10, xz11, xz12, hs, -⟩ := HX.out wo (HXL.out wo HB.out)
        obtain ⟨o0, o1, o2, hog⟩ := HG.out.get
        have HZ : Hid (w.heap.size + 1 < K) := HK.out.2.1
        go_wp2
        refine bodyPost_ret (v := .tuple #[.agg #[.int .i64 t', .string (st nm), .slice av vs.length cv], .int .i64 0]) (by simp [results, Tryd.results12, go_sem]; go_simp) rfl ?_
        exact HPS.out ⟨t', nm, xs⟩ _ _ E.out (setThree_below HW.out (by omega)) ((HO.out.move fun g h1 h2 => heap_three (by have := HZ.out; omega)).mono (by have := HZ.out; omega))
end Go.Proofs.YtbbjhiijialfoaaDoor
