/- Make, the document's Get: contracts of single calls. -/
import Derived.Test.YtbbjhiijialfoaaDoorCh
namespace Go.Proofs.YtbbjhiijialfoaaDoor
set_option maxRecDepth 20000
open Go.RowKit
set_option linter.unusedVariables false
set_option linter.unusedSimpArgs false

theorem made_v (n : Nat) : (madeCells (Value.agg #[.int .u8 0, .int .i64 0, .string ⟨#[]⟩]).cells (n * 3)).toList = ((List.replicate n v00).map clV).flatten := by
  apply List.ext_getElem?
  intro i
  have hl : ((List.replicate n v00).map clV).flatten.length = n * 3 := by rw [flat_len (n := 3) clV_len, List.length_map, List.length_replicate]
  by_cases hi : i < n * 3
  · have h1 : i / 3 < n := by omega
    have h2 : i % 3 < 3 := Nat.mod_lt _ (by decide)
    have h3 := flat_get (n := 3) (css := (List.replicate n v00).map clV) clV_len (i / 3) (i % 3) (by simpa using h1) h2
    rw [Nat.div_add_mod' i 3, getD_map clV _ _ v00 (by simpa using h1)] at h3
    have h4 : (List.replicate n v00).getD (i / 3) v00 = v00 := by
      rw [List.getD_eq_getElem?_getD, List.getElem?_replicate, if_pos h1]; rfl
    rw [h3, h4, Array.getElem?_toList]
    unfold madeCells
    rw [Array.getElem?_map, Array.getElem?_range, if_pos hi]
    have h5 : i % 3 = 0 ∨ i % 3 = 1 ∨ i % 3 = 2 := by omega
    have hs : (Value.agg #[Value.int .u8 0, Value.int .i64 0, Value.string ⟨#[]⟩]).cells.size = 3 := rfl
    simp only [Option.map_some, hs]
    rcases h5 with h5 | h5 | h5 <;> (rw [h5]; rfl)
  · rw [List.getElem?_eq_none (by rw [Array.length_toList, size_madeCells]; omega), List.getElem?_eq_none (by rw [hl]; omega)]
theorem wp_makeV {ops : Array Oper} {rest : List Oper} {o : Oper} {a : Act} {w : World} {Q : Exit → Act → World → Prop} (hgd : o.guard = none) (x y : Operand) (ho : o.op = .makeSlice 23 x y) (n : Nat) (hn : n ≤ 100000) (hx : a.eval x = .int .i64 n) (hy : a.eval y = .int .i64 n)
    (h : ∀ w', OwnV w' w.heap.size (.slice (some ⟨w.heap.size, 0, none⟩) n n) (List.replicate n v00) → w.heap.size < w'.heap.size → Below w.heap.size w w' → wpList Tryd.prog ops Q rest (a.put o.dst (.slice (some ⟨w.heap.size, 0, none⟩) n n)) w') : wpList Tryd.prog ops Q (o :: rest) a w := by
  obtain ⟨i0, hi, hz0, hz1, hz2⟩ := info_parts info42
  obtain ⟨w', hrun, h1, h2⟩ := run_makeSlice_full (P := Tryd.prog) (w := w) w.heap.size 23 42 i0 _ 3 Tryd.underlying23 hi hz0 hz1 .i64 .i64 n (by omega) (by rw [hz2]; omega) (by unfold maxLen; omega) (Nat.le_refl _)
  have hO : OwnV w' w.heap.size (.slice (some ⟨w.heap.size, 0, none⟩) n n) (List.replicate n v00) := by
    refine ⟨clV_len, ?_⟩
    rw [made_v] at h1
    rw [List.length_map, List.length_replicate]
    exact h1
  have hlt : w.heap.size < w'.heap.size := (h1.lt _ rfl).2
  refine wpList_plain hgd fun K hK => ?_
  unfold Oper.wp
  simp only [execOp, ho, hx, hy, Sem.run_bind, hrun, Result.andThen, Sem.run_pure]
  exact hK _ _ (h w' hO hlt ⟨h2.1, h2.2, h2.3, h2.size, fun k hk => h2.block k hk (by simp)⟩)
theorem fV00 : fV v00 := ⟨by decide, by decide, by decide⟩
set_option maxHeartbeats 8000000 in
theorem make_any {P : Nat → Nat → Prop} {Q Q3 : Nat → Prop} (v s : Value) (cs : List ClassD) (t : Int) (nm : Str) (bs : List BoundD) (w : World) (h : Row 2 (ReK P) w Q v cs) (hL : ∀ c ∈ cs, c.attrs.length ≤ 100000)
    (hV : Vars w) (hs : SlW 4 w Q3 s (bs.map clB)) (hb : ∀ b ∈ bs, fV b.x) :
    Calls Tryd.prog 9 #[v, .int .i64 t, .string (st nm), s] w (WP w (makeR cs t nm bs)) := by
  generalize hR : makeR cs t nm bs = r
  generalize hPO : WP w r = PO
  have HPN : Hid (∀ er w', r = .error er → Below w.heap.size w w' → PO (.returned (.tuple #[.agg #[.int .i64 0, .string ⟨#[]⟩, .slice none 0 0], .int .i64 er])) w') := fun er w' he hb => by
    rw [← hPO, he]; exact ⟨hb, rfl⟩
  have HPS : Hid (∀ g v w', r = .ok g → Below w.heap.size w w' → OwnV w' w.heap.size v g.vs → PO (.returned (.tuple #[.agg #[.int .i64 g.t, .string (st g.c), v], .int .i64 0])) w') := fun g v w' he hb hs => by
    rw [← hPO, he]; exact ⟨hb, v, rfl, hs⟩
  clear hPO
  have C22 := find_any v cs nm (w.alloc (.cells #[.int .i64 0, .string ⟨#[]⟩, .slice none 0 0] 25)) (rowK_keep h (bxn _ _)) hL
  have C11 : Hid (∀ W u k Q2, findC cs nm = some k → Below w.heap.size w W → SlW 3 W Q2 u ((List.replicate k.attrs.length v00).map clV) → Calls Tryd.prog 11 #[v, .agg #[.int .i64 1, .string (st nm), u], .int .i64 t, s] W (WP W r)) := fun W u k Q2 hk hW hu => by
    have e : r = withR cs ⟨1, nm, List.replicate k.attrs.length v00⟩ t bs := hR.symm.trans (by unfold makeR; rw [hk])
    rw [e]
    exact with_any v u s cs ⟨1, nm, List.replicate k.attrs.length v00⟩ t bs W (rowK_keep h hW) hL hu (fun x hx => by rw [(List.mem_replicate.1 hx).2]; exact fV00) (hV.below hW) (hs.bl hW) hb (by
      simp only [List.length_replicate]
      obtain ⟨i, hi, rfl⟩ : ∃ i, ∃ h : i < cs.length, cs[i] = k := List.mem_iff_getElem.1 (List.mem_of_find?_eq_some hk)
      exact hL _ (List.getElem_mem hi))
  have HLN : Hid (∀ k, findC cs nm = some k → k.attrs.length ≤ 100000) := fun k hk => hL _ (List.mem_of_find?_eq_some hk)
  obtain ⟨a3, c3, rfl⟩ := hs.shape
  simp only [List.length_map] at *
  clear h hL hV hs hb
  have HX : Hid (∀ W, Below (w.alloc (.cells #[.int .i64 0, .string ⟨#[]⟩, .slice none 0 0] 25)).heap.size (w.alloc (.cells #[.int .i64 0, .string ⟨#[]⟩, .slice none 0 0] 25)) W →
      W.cell? ⟨w.heap.size, 0, none⟩ = some (.int .i64 0) ∧
      W.cell? ⟨w.heap.size, 1, none⟩ = some (.string ⟨#[]⟩) ∧
      W.cell? ⟨w.heap.size, 2, none⟩ = some (.slice none 0 0) ∧
      W.frozen? ⟨w.heap.size, 0, none⟩ = false ∧
      W.frozen? ⟨w.heap.size, 1, none⟩ = false ∧
      W.frozen? ⟨w.heap.size, 2, none⟩ = false ∧
      w.heap.size < W.heap.size ∧
      Below w.heap.size w W) := fun W hW =>
    ⟨(hW.cell (p := ⟨w.heap.size, 0, none⟩) (by simp; try omega)).trans (by go_simp),
     (hW.cell (p := ⟨w.heap.size, 1, none⟩) (by simp; try omega)).trans (by go_simp),
     (hW.cell (p := ⟨w.heap.size, 2, none⟩) (by simp; try omega)).trans (by go_simp),
     (hW.frozen (p := ⟨w.heap.size, 0, none⟩) (by simp; try omega)).trans (by go_simp),
     (hW.frozen (p := ⟨w.heap.size, 1, none⟩) (by simp; try omega)).trans (by go_simp),
     (hW.frozen (p := ⟨w.heap.size, 2, none⟩) (by simp; try omega)).trans (by go_simp),
     (by have := hW.size; simp at this; omega),
     bt (bxn _ _) hW⟩
  cases hfc : findC cs nm with
  | none =>
    have E : Hid (r = .error 18) := hR.symm.trans (by unfold makeR; rw [hfc])
    rw [hfc] at C22
    have C : Calls Tryd.prog 22 #[v, .string (st nm)] (w.alloc (.cells #[.int .i64 0, .string ⟨#[]⟩, .slice none 0 0] 25)) fun e w' => e = .returned (.tuple #[.agg #[.string ⟨#[]⟩, .slice none 0 0], .bool false]) ∧ Below (w.alloc (.cells #[.int .i64 0, .string ⟨#[]⟩, .slice none 0 0] 25)).heap.size (w.alloc (.cells #[.int .i64 0, .string ⟨#[]⟩, .slice none 0 0] 25)) w' := C22.mono fun e w' h => ⟨h.2, h.1⟩
    clear C22 hR hfc C11 HLN
    go_enter Tryd.func9, Tryd.ntmps9
    go_wp2_with (go_at_call 22; refine C.mono ?_; rintro e w2 ⟨rfl, hb2⟩; obtain ⟨x00, x01, x02, xz00, xz01, xz02, hs, hB⟩ := HX.out w2 (hb2); have B2 : Hid (Below w.heap.size w w2) := hB; clear hB; clear C hb2)
    all_goals (
      refine bodyPost_ret (v := .tuple #[.agg #[.int .i64 0, .string ⟨#[]⟩, .slice none 0 0], .int .i64 18]) (by simp [results, Tryd.results9, go_sem]; go_simp) rfl ?_
      exact HPN.out 18 _ E.out (bt (setThree_below B2.out (by omega)) (bxn _ _)))
  | some k =>
    rw [hfc] at C22
    have C : Calls Tryd.prog 22 #[v, .string (st nm)] (w.alloc (.cells #[.int .i64 0, .string ⟨#[]⟩, .slice none 0 0] 25)) fun e w' => ∃ a c, e = .returned (.tuple #[.agg #[.string (st k.nm), .slice a k.attrs.length c], .bool true]) ∧ Below (w.alloc (.cells #[.int .i64 0, .string ⟨#[]⟩, .slice none 0 0] 25)).heap.size (w.alloc (.cells #[.int .i64 0, .string ⟨#[]⟩, .slice none 0 0] 25)) w' := C22.mono fun e w' h => by
      obtain ⟨a, c, e1, _⟩ := h.2
      exact ⟨a, c, e1, h.1⟩
    have C11 : Hid (∀ W u Q2, Below w.heap.size w W → SlW 3 W Q2 u ((List.replicate k.attrs.length v00).map clV) → Calls Tryd.prog 11 #[v, .agg #[.int .i64 1, .string (st nm), u], .int .i64 t, .slice a3 bs.length c3] W (WP W r)) := fun W u Q2 => C11.out W u k Q2 hfc
    have hkn : k.attrs.length ≤ 100000 := HLN.out k hfc
    have hkz : (0 : Int) ≤ k.attrs.length := by omega
    clear C22 hR hfc HLN
    generalize k.attrs.length = n at *
    cases hr : r with
    | error er =>
      have CE : Hid (∀ W u Q2, Below w.heap.size w W → SlW 3 W Q2 u ((List.replicate n v00).map clV) → Calls Tryd.prog 11 #[v, .agg #[.int .i64 1, .string (st nm), u], .int .i64 t, .slice a3 bs.length c3] W fun e w' => e = .returned (.tuple #[.agg #[.int .i64 0, .string ⟨#[]⟩, .slice none 0 0], .int .i64 er]) ∧ Below W.heap.size W w') := fun W u Q2 h1 h2 => (C11.out W u Q2 h1 h2).mono fun e w' h => by
        obtain ⟨hb, hh⟩ := h
        rw [hr] at hh; exact ⟨hh, hb⟩
      have E : Hid (r = .error er) := hr
      clear C11 hr
      go_enter Tryd.func9, Tryd.ntmps9
      go_wp2_with (first
        | (go_at_call 22; refine C.mono ?_; rintro e w2 ⟨a, c, rfl, hb2⟩; obtain ⟨x00, x01, x02, xz00, xz01, xz02, hs, hB⟩ := HX.out w2 (hb2); have B2 : Hid (Below w.heap.size w w2) := hB; clear hB; have H2 : Hid (Below (w.alloc (.cells #[.int .i64 0, .string ⟨#[]⟩, .slice none 0 0] 25)).heap.size (w.alloc (.cells #[.int .i64 0, .string ⟨#[]⟩, .slice none 0 0] 25)) w2) := hb2; have HSZ2 : Hid (w.heap.size < w2.heap.size) := hs; clear C hb2)
        | (refine wp_makeV rfl _ _ rfl n hkn rfl rfl ?_; intro w3 o3 hs3 hb3; have H3 : Hid (Below _ _ w3) := hb3; have O3 : Hid (OwnV w3 (w2.heap.size + 1) (.slice (some ⟨w2.heap.size + 1, 0, none⟩) n n) (List.replicate n v00)) := (by have e : (w2.alloc (.cells #[.string (st k.nm), .slice a n c] 54)).heap.size = w2.heap.size + 1 := (by simp); rw [e] at o3; exact o3); clear hb3 o3)
        | (go_at_call 11; refine (CE.out (w3.alloc (.cells #[.int .i64 1, .string (st nm), .slice (some ⟨w2.heap.size + 1, 0, none⟩) n n] 25)) (.slice (some ⟨w2.heap.size + 1, 0, none⟩) n n) (fun b => w2.heap.size + 1 ≤ b) (bt (bt (bt B2.out (bxn _ _)) H3.out) (bxn _ _)) (O3.out.sl.bl (bxn _ _))).mono ?_; rintro e w5 ⟨rfl, hb5⟩; clear x00 x01 x02 xz00 xz01 xz02 hs; obtain ⟨x00, x01, x02, xz00, xz01, xz02, hs, hB⟩ := HX.out w5 (bt (bt (bt (bt H2.out (bxn _ _)) H3.out) (bxn _ _)) hb5); have B5 : Hid (Below w.heap.size w w5) := hB; clear hB; clear hb5 CE))
      all_goals (
        refine bodyPost_ret (v := .tuple #[.agg #[.int .i64 0, .string ⟨#[]⟩, .slice none 0 0], .int .i64 er]) (by simp [results, Tryd.results9, go_sem]; go_simp) rfl ?_
        exact HPN.out er _ E.out (setThree_below B5.out (Nat.le_refl _)))
    | ok g =>
      have CE : Hid (∀ W u Q2, Below w.heap.size w W → SlW 3 W Q2 u ((List.replicate n v00).map clV) → Calls Tryd.prog 11 #[v, .agg #[.int .i64 1, .string (st nm), u], .int .i64 t, .slice a3 bs.length c3] W fun e w' => ∃ z c, e = .returned (.tuple #[.agg #[.int .i64 g.t, .string (st g.c), .slice z g.vs.length c], .int .i64 0]) ∧ Below W.heap.size W w' ∧ OwnV w' W.heap.size (.slice z g.vs.length c) g.vs) := fun W u Q2 h1 h2 => (C11.out W u Q2 h1 h2).mono fun e w' h => by
        obtain ⟨hb, hh⟩ := h
        rw [hr] at hh
        obtain ⟨z, e1, e2⟩ := hh
        obtain ⟨za, zc, rfl⟩ := e2.shape
        have e3 := lenV e2
        rw [List.length_map] at e1
        exact ⟨za, zc, e1, hb, e3⟩
      have E : Hid (r = .ok g) := hr
      clear C11 hr
      go_enter Tryd.func9, Tryd.ntmps9
      go_wp2_with (first
        | (go_at_call 22; refine C.mono ?_; rintro e w2 ⟨a, c, rfl, hb2⟩; obtain ⟨x00, x01, x02, xz00, xz01, xz02, hs, hB⟩ := HX.out w2 (hb2); have B2 : Hid (Below w.heap.size w w2) := hB; clear hB; have H2 : Hid (Below (w.alloc (.cells #[.int .i64 0, .string ⟨#[]⟩, .slice none 0 0] 25)).heap.size (w.alloc (.cells #[.int .i64 0, .string ⟨#[]⟩, .slice none 0 0] 25)) w2) := hb2; have HSZ2 : Hid (w.heap.size < w2.heap.size) := hs; clear C hb2)
        | (refine wp_makeV rfl _ _ rfl n hkn rfl rfl ?_; intro w3 o3 hs3 hb3; have H3 : Hid (Below _ _ w3) := hb3; have O3 : Hid (OwnV w3 (w2.heap.size + 1) (.slice (some ⟨w2.heap.size + 1, 0, none⟩) n n) (List.replicate n v00)) := (by have e : (w2.alloc (.cells #[.string (st k.nm), .slice a n c] 54)).heap.size = w2.heap.size + 1 := (by simp); rw [e] at o3; exact o3); clear hb3 o3)
        | (go_at_call 11; refine (CE.out (w3.alloc (.cells #[.int .i64 1, .string (st nm), .slice (some ⟨w2.heap.size + 1, 0, none⟩) n n] 25)) (.slice (some ⟨w2.heap.size + 1, 0, none⟩) n n) (fun b => w2.heap.size + 1 ≤ b) (bt (bt (bt B2.out (bxn _ _)) H3.out) (bxn _ _)) (O3.out.sl.bl (bxn _ _))).mono ?_; rintro e w5 ⟨z, zc, rfl, hb5, h2⟩; clear x00 x01 x02 xz00 xz01 xz02 hs; obtain ⟨x00, x01, x02, xz00, xz01, xz02, hs, hB⟩ := HX.out w5 (bt (bt (bt (bt H2.out (bxn _ _)) H3.out) (bxn _ _)) hb5); have B5 : Hid (Below w.heap.size w w5) := hB; clear hB; have O5 : Hid (OwnV w5 _ _ _) := h2; clear hb5 CE h2))
      all_goals (
        have HSZ : Hid (w.heap.size < w2.heap.size) := HSZ2
        have HS3 : Hid (w2.heap.size + 1 ≤ w3.heap.size) := by have := H3.out.size; simpa [Hid] using this
        refine bodyPost_ret (v := .tuple #[.agg #[.int .i64 g.t, .string (st g.c), .slice z g.vs.length zc], .int .i64 0]) (by simp [results, Tryd.results9, go_sem]; go_simp) rfl ?_
        exact HPS.out g _ _ E.out (setThree_below B5.out (Nat.le_refl _)) ((O5.out.move fun k hk _ => heap_three (by have h3 := HS3.out; have h4 := HSZ.out; simp at hk; omega)).mono (by have h3 := HS3.out; have h4 := HSZ.out; simp; omega)))
end Go.Proofs.YtbbjhiijialfoaaDoor
