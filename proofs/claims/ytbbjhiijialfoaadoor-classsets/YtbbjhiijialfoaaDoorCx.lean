/- The document's Make: contracts of single calls. -/
import Derived.Test.YtbbjhiijialfoaaDoorCi
import Derived.Test.YtbbjhiijialfoaaDoorCw
namespace Go.Proofs.YtbbjhiijialfoaaDoor
set_option maxRecDepth 20000
open Go.RowKit
set_option linter.unusedVariables false
set_option linter.unusedSimpArgs false

set_option maxHeartbeats 8000000 in
theorem rmake_any {P : Nat → Nat → Prop} {Q Q3 : Nat → Prop} (v s : Value) (cs : List ClassD) (t : Int) (nm : Str) (bs : List BoundD) (w : World) (h : Row 2 (ReK P) w Q v cs) (hL : ∀ c ∈ cs, c.attrs.length ≤ 100000)
    (hs : SlW 4 w Q3 s (bs.map clB)) (hb : ∀ b ∈ bs, fV b.x) :
    Calls Tryd.prog 10 #[v, .int .i64 t, .string (st nm), s] w (WP w (makeR cs t nm bs)) := by
  generalize hR : makeR cs t nm bs = r
  generalize hPO : WP w r = PO
  have HPN : Hid (∀ er w', r = .error er → Below w.heap.size w w' → PO (.returned (.tuple #[.agg #[.int .i64 0, .string ⟨#[]⟩, .slice none 0 0], .int .i64 er])) w') := fun er w' he hb => by
    rw [← hPO, he]; exact ⟨hb, rfl⟩
  have HPS : Hid (∀ g v w', r = .ok g → Below w.heap.size w w' → OwnV w' w.heap.size v g.vs → PO (.returned (.tuple #[.agg #[.int .i64 g.t, .string (st g.c), v], .int .i64 0])) w') := fun g v w' he hb hs => by
    rw [← hPO, he]; exact ⟨hb, v, rfl, hs⟩
  clear hPO
  have C22 := rfind_any v cs nm (w.alloc (.cells #[.int .i64 0, .string ⟨#[]⟩, .slice none 0 0] 25)) (rowK_keep h (bxn _ _))
  have C11 : Hid (∀ W u k Q2, findC cs nm = some k → Below w.heap.size w W → SlW 3 W Q2 u ((List.replicate k.attrs.length v00).map clV) → Calls Tryd.prog 12 #[v, .agg #[.int .i64 1, .string (st nm), u], .int .i64 t, s] W (WP W r)) := fun W u k Q2 hk hW hu => by
    have e : r = withR cs ⟨1, nm, List.replicate k.attrs.length v00⟩ t bs := hR.symm.trans (by unfold makeR; rw [hk])
    rw [e]
    exact rwith_any v u s cs ⟨1, nm, List.replicate k.attrs.length v00⟩ t bs W (rowK_keep h hW) hu (fun x hx => by rw [(List.mem_replicate.1 hx).2]; exact fV00) (hs.bl hW) hb (by
      simp only [List.length_replicate]
      obtain ⟨i, hi, rfl⟩ : ∃ i, ∃ h : i < cs.length, cs[i] = k := List.mem_iff_getElem.1 (List.mem_of_find?_eq_some hk)
      exact hL _ (List.getElem_mem hi))
  have HLN : Hid (∀ k, findC cs nm = some k → k.attrs.length ≤ 100000) := fun k hk => hL _ (List.mem_of_find?_eq_some hk)
  obtain ⟨a3, c3, rfl⟩ := hs.shape
  simp only [List.length_map] at *
  clear h hL hs hb
  have HX : Hid (∀ W, Below (w.alloc (.cells #[.int .i64 0, .string ⟨#[]⟩, .slice none 0 0] 25)).heap.size (w.alloc (.cells #[.int .i64 0, .string ⟨#[]⟩, .slice none 0 0] 25)) W →
      W.cell? ⟨w.heap.size, 0, none⟩ = some (.int .i64 0) ∧
      W.cell? ⟨w.heap.size, 1, none⟩ = some (.string ⟨#[]⟩) ∧
      W.cell? ⟨w.heap.size, 2, none⟩ = some (.slice none 0 0) ∧
      W.frozen? ⟨w.heap.size, 0, none⟩ = false ∧
      W.frozen? ⟨w.heap.size, 1, none⟩ = false ∧
      W.frozen? ⟨w.heap.size, 2, none⟩ = false ∧
      w.heap.size < W.heap.size ∧
      Below w.heap.size w W) := fun W hW =>
    ⟨(hW.cell (p := ⟨w.heap.size, 0, none⟩) (by simp; try omega)).trans (by go_simp),
     (hW.cell (p := ⟨w.heap.size, 1, none⟩) (by simp; try omega)).trans (by go_simp),
     (hW.cell (p := ⟨w.heap.size, 2, none⟩) (by simp; try omega)).trans (by go_simp),
     (hW.frozen (p := ⟨w.heap.size, 0, none⟩) (by simp; try omega)).trans (by go_simp),
     (hW.frozen (p := ⟨w.heap.size, 1, none⟩) (by simp; try omega)).trans (by go_simp),
     (hW.frozen (p := ⟨w.heap.size, 2, none⟩) (by simp; try omega)).trans (by go_simp),
     (by have := hW.size; simp at this; omega),
     bt (bxn _ _) hW⟩
  cases hfc : findC cs nm with
  | none =>
    have E : Hid (r = .error 18) := hR.symm.trans (by unfold makeR; rw [hfc])
    rw [hfc] at C22
    have C : Calls Tryd.prog 24 #[v, .string (st nm)] (w.alloc (.cells #[.int .i64 0, .string ⟨#[]⟩, .slice none 0 0] 25)) fun e w' => e = .returned (.tuple #[.agg #[.string ⟨#[]⟩, .slice none 0 0], .bool false]) ∧ Below (w.alloc (.cells #[.int .i64 0, .string ⟨#[]⟩, .slice none 0 0] 25)).heap.size (w.alloc (.cells #[.int .i64 0, .string ⟨#[]⟩, .slice none 0 0] 25)) w' := C22.mono fun e w' h => ⟨h.2, h.1⟩
    clear C22 hR hfc C11 HLN
    go_enter Tryd.func10, Tryd.ntmps10
    go_wp2_with (go_at_call 24; refine C.mono ?_; rintro e w2 ⟨rfl, hb2⟩; obtain ⟨x00, x01, x02, xz00, xz01, xz02, hs, hB⟩ := HX.out w2 (hb2); have B2 : Hid (Below w.heap.size w w2) := hB; clear hB; clear C hb2)
    all_goals (
      refine bodyPost_ret (v := .tuple #[.agg #[.int .i64 0, .string ⟨#[]⟩, .slice none 0 0], .int .i64 18]) (by simp [results, Tryd.results10, go_sem]; go_simp) rfl ?_
      exact HPN.out 18 _ E.out (bt (setThree_below B2.out (by omega)) (bxn _ _)))
  | some k =>
    rw [hfc] at C22
    have C : Calls Tryd.prog 24 #[v, .string (st nm)] (w.alloc (.cells #[.int .i64 0, .string ⟨#[]⟩, .slice none 0 0] 25)) fun e w' => ∃ a c, e = .returned (.tuple #[.agg #[.string (st k.nm), .slice a k.attrs.length c], .bool true]) ∧ Below (w.alloc (.cells #[.int .i64 0, .string ⟨#[]⟩, .slice none 0 0] 25)).heap.size (w.alloc (.cells #[.int .i64 0, .string ⟨#[]⟩, .slice none 0 0] 25)) w' := C22.mono fun e w' h => by
      obtain ⟨a, c, e1, _⟩ := h.2
      exact ⟨a, c, e1, h.1⟩
    have C11 : Hid (∀ W u Q2, Below w.heap.size w W → SlW 3 W Q2 u ((List.replicate k.attrs.length v00).map clV) → Calls Tryd.prog 12 #[v, .agg #[.int .i64 1, .string (st nm), u], .int .i64 t, .slice a3 bs.length c3] W (WP W r)) := fun W u Q2 => C11.out W u k Q2 hfc
    have hkn : k.attrs.length ≤ 100000 := HLN.out k hfc
    have hkz : (0 : Int) ≤ k.attrs.length := by omega
    clear C22 hR hfc HLN
    generalize k.attrs.length = n at *
    cases hr : r with
    | error er =>
      have CE : Hid (∀ W u Q2, Below w.heap.size w W → SlW 3 W Q2 u ((List.replicate n v00).map clV) → Calls Tryd.prog 12 #[v, .agg #[.int .i64 1, .string (st nm), u], .int .i64 t, .slice a3 bs.length c3] W fun e w' => e = .returned (.tuple #[.agg #[.int .i64 0, .string ⟨#[]⟩, .slice none 0 0], .int .i64 er]) ∧ Below W.heap.size W w') := fun W u Q2 h1 h2 => (C11.out W u Q2 h1 h2).mono fun e w' h => by
        obtain ⟨hb, hh⟩ := h
        rw [hr] at hh; exact ⟨hh, hb⟩
      have E : Hid (r = .error er) := hr
      clear C11 hr
      go_enter Tryd.func10, Tryd.ntmps10
      go_wp2_with (first
        | (go_at_call 24; refine C.mono ?_; rintro e w2 ⟨a, c, rfl, hb2⟩; obtain ⟨x00, x01, x02, xz00, xz01, xz02, hs, hB⟩ := HX.out w2 (hb2); have B2 : Hid (Below w.heap.size w w2) := hB; clear hB; have H2 : Hid (Below (w.alloc (.cells #[.int .i64 0, .string ⟨#[]⟩, .slice none 0 0] 25)).heap.size (w.alloc (.cells #[.int .i64 0, .string ⟨#[]⟩, .slice none 0 0] 25)) w2) := hb2; have HSZ2 : Hid (w.heap.size < w2.heap.size) := hs; clear C hb2)
        | (refine wp_makeV rfl _ _ rfl n hkn rfl rfl ?_; intro w3 o3 hs3 hb3; have H3 : Hid (Below _ _ w3) := hb3; have O3 : Hid (OwnV w3 (w2.heap.size + 1) (.slice (some ⟨w2.heap.size + 1, 0, none⟩) n n) (List.replicate n v00)) := (by have e : (w2.alloc (.cells #[.string (st k.nm), .slice a n c] 54)).heap.size = w2.heap.size + 1 := (by simp); rw [e] at o3; exact o3); clear hb3 o3)
        | (go_at_call 12; refine (CE.out w3 (.slice (some ⟨w2.heap.size + 1, 0, none⟩) n n) (fun b => w2.heap.size + 1 ≤ b) (bt (bt B2.out (bxn _ _)) H3.out) O3.out.sl).mono ?_; rintro e w5 ⟨rfl, hb5⟩; clear x00 x01 x02 xz00 xz01 xz02 hs; obtain ⟨x00, x01, x02, xz00, xz01, xz02, hs, hB⟩ := HX.out w5 (bt (bt (bt H2.out (bxn _ _)) H3.out) hb5); have B5 : Hid (Below w.heap.size w w5) := hB; clear hB; clear hb5 CE))
      all_goals (
        refine bodyPost_ret (v := .tuple #[.agg #[.int .i64 0, .string ⟨#[]⟩, .slice none 0 0], .int .i64 er]) (by simp [results, Tryd.results10, go_sem]; go_simp) rfl ?_
        exact HPN.out er _ E.out (setThree_below B5.out (Nat.le_refl _)))
    | ok g =>
      have CE : Hid (∀ W u Q2, Below w.heap.size w W → SlW 3 W Q2 u ((List.replicate n v00).map clV) → Calls Tryd.prog 12 #[v, .agg #[.int .i64 1, .string (st nm), u], .int .i64 t, .slice a3 bs.length c3] W fun e w' => ∃ z c, e = .returned (.tuple #[.agg #[.int .i64 g.t, .string (st g.c), .slice z g.vs.length c], .int .i64 0]) ∧ Below W.heap.size W w' ∧ OwnV w' W.heap.size (.slice z g.vs.length c) g.vs) := fun W u Q2 h1 h2 => (C11.out W u Q2 h1 h2).mono fun e w' h => by
        obtain ⟨hb, hh⟩ := h
        rw [hr] at hh
        obtain ⟨z, e1, e2⟩ := hh
        obtain ⟨za, zc, rfl⟩ := e2.shape
        have e3 := lenV e2
        rw [List.length_map] at e1
        exact ⟨za, zc, e1, hb, e3⟩
      have E : Hid (r = .ok g) := hr
      clear C11 hr
      go_enter Tryd.func10, Tryd.ntmps10
      go_wp2_with (first
        | (go_at_call 24; refine C.mono ?_; rintro e w2 ⟨a, c, rfl, hb2⟩; obtain ⟨x00, x01, x02, xz00, xz01, xz02, hs, hB⟩ := HX.out w2 (hb2); have B2 : Hid (Below w.heap.size w w2) := hB; clear hB; have H2 : Hid (Below (w.alloc (.cells #[.int .i64 0, .string ⟨#[]⟩, .slice none 0 0] 25)).heap.size (w.alloc (.cells #[.int .i64 0, .string ⟨#[]⟩, .slice none 0 0] 25)) w2) := hb2; have HSZ2 : Hid (w.heap.size < w2.heap.size) := hs; clear C hb2)
        | (refine wp_makeV rfl _ _ rfl n hkn rfl rfl ?_; intro w3 o3 hs3 hb3; have H3 : Hid (Below _ _ w3) := hb3; have O3 : Hid (OwnV w3 (w2.heap.size + 1) (.slice (some ⟨w2.heap.size + 1, 0, none⟩) n n) (List.replicate n v00)) := (by have e : (w2.alloc (.cells #[.string (st k.nm), .slice a n c] 54)).heap.size = w2.heap.size + 1 := (by simp); rw [e] at o3; exact o3); clear hb3 o3)
        | (go_at_call 12; refine (CE.out w3 (.slice (some ⟨w2.heap.size + 1, 0, none⟩) n n) (fun b => w2.heap.size + 1 ≤ b) (bt (bt B2.out (bxn _ _)) H3.out) O3.out.sl).mono ?_; rintro e w5 ⟨z, zc, rfl, hb5, h2⟩; clear x00 x01 x02 xz00 xz01 xz02 hs; obtain ⟨x00, x01, x02, xz00, xz01, xz02, hs, hB⟩ := HX.out w5 (bt (bt (bt H2.out (bxn _ _)) H3.out) hb5); have B5 : Hid (Below w.heap.size w w5) := hB; clear hB; have O5 : Hid (OwnV w5 _ _ _) := h2; clear hb5 CE h2))
      all_goals (
        have HSZ : Hid (w.heap.size < w2.heap.size) := HSZ2
        have HS3 : Hid (w2.heap.size + 1 ≤ w3.heap.size) := by have := H3.out.size; simpa [Hid] using this
        refine bodyPost_ret (v := .tuple #[.agg #[.int .i64 g.t, .string (st g.c), .slice z g.vs.length zc], .int .i64 0]) (by simp [results, Tryd.results10, go_sem]; go_simp) rfl ?_
        exact HPS.out g _ _ E.out (setThree_below B5.out (Nat.le_refl _)) ((O5.out.move fun k hk _ => heap_three (by have h3 := HS3.out; have h4 := HSZ.out; first | omega | (simp at hk; omega))).mono (by have h3 := HS3.out; have h4 := HSZ.out; first | omega | (simp; omega))))
end Go.Proofs.YtbbjhiijialfoaaDoor
