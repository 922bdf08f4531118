/- Get of a fact: the program's call. -/
import Derived.Test.YtpmhilaochfpaaaDoorGf
namespace Go.Proofs.YtpmhilaochfpaaaDoor
open Go.RowKit
set_option linter.unusedVariables false
set_option linter.unusedSimpArgs false
set_option maxRecDepth 20000

set_option maxHeartbeats 8000000 in
theorem fget_any {P : Nat → Nat → Prop} {Q : Nat → Prop} (v : Value) (cs : List ClassD) (t : Int) (s : Str) (w : World) (h : Row 2 (ReK P) w Q v cs) (hL : ∀ c ∈ cs, c.attrs.length ≤ 100) (hcs : cs.length ≤ 200) (hV : Vars w) (hs : s.length ≤ 100000) :
    Calls Tryd.prog 14 #[v, .int .i64 t, .string (st s)] w (GPf w (getF pvF gvF cs t (nb s))) := by
  generalize hPO : GPf w (getF pvF gvF cs t (nb s)) = PO
  have HPN : Hid (∀ w', getF pvF gvF cs t (nb s) = none → Below w.heap.size w w' → PO (.returned (.tuple #[.agg #[.int .i64 0, .string ⟨#[]⟩, .slice none 0 0], .int .i64 4])) w') := fun w' he hf => by rw [← hPO, he]; exact ⟨hf, rfl⟩
  have HPS : Hid (∀ f u w', getF pvF gvF cs t (nb s) = some f → Below w.heap.size w w' → OwnV w' w.heap.size u f.vs → PO (.returned (.tuple #[fB f u, .int .i64 0])) w') := fun f u w' he hf ho => by rw [← hPO, he]; exact ⟨hf, u, rfl, ho⟩
  have HGI := get_is (cs := cs) t s hcs
  clear hPO
  have HX : Hid (∀ W, Below (w.alloc (.cells #[.int .i64 0, .string ⟨#[]⟩, .slice none 0 0] 36)).heap.size (w.alloc (.cells #[.int .i64 0, .string ⟨#[]⟩, .slice none 0 0] 36)) W →
      (W.cell? ⟨w.heap.size, 0, none⟩ = some (.int .i64 0) ∧ W.cell? ⟨w.heap.size, 1, none⟩ = some (.string ⟨#[]⟩) ∧ W.cell? ⟨w.heap.size, 2, none⟩ = some (.slice none 0 0)) ∧
      (W.frozen? ⟨w.heap.size, 0, none⟩ = false ∧ W.frozen? ⟨w.heap.size, 1, none⟩ = false ∧ W.frozen? ⟨w.heap.size, 2, none⟩ = false) ∧ w.heap.size < W.heap.size ∧ Below w.heap.size w W) := fun W hb => by
    have f0 : (w.alloc (.cells #[.int .i64 0, .string ⟨#[]⟩, .slice none 0 0] 36)).frozen? ⟨w.heap.size, 0, none⟩ = false := by go_simp
    have f1 : (w.alloc (.cells #[.int .i64 0, .string ⟨#[]⟩, .slice none 0 0] 36)).frozen? ⟨w.heap.size, 1, none⟩ = false := by go_simp
    have f2 : (w.alloc (.cells #[.int .i64 0, .string ⟨#[]⟩, .slice none 0 0] 36)).frozen? ⟨w.heap.size, 2, none⟩ = false := by go_simp
    refine ⟨⟨(hb.cell (p := ⟨w.heap.size, 0, none⟩) (by simp)).trans (by go_simp), (hb.cell (p := ⟨w.heap.size, 1, none⟩) (by simp)).trans (by go_simp), (hb.cell (p := ⟨w.heap.size, 2, none⟩) (by simp)).trans (by go_simp)⟩, ⟨(hb.frozen (p := ⟨w.heap.size, 0, none⟩) (by simp)).trans f0, (hb.frozen (p := ⟨w.heap.size, 1, none⟩) (by simp)).trans f1, (hb.frozen (p := ⟨w.heap.size, 2, none⟩) (by simp)).trans f2⟩, ?_, bt (bxn _ _) hb⟩
    have := hb.size; simp at this; omega
  have CR := read_any v cs t s (w.alloc (.cells #[.int .i64 0, .string ⟨#[]⟩, .slice none 0 0] 36)) (rowK_keep h (bxn _ _)) (fun c hc => Nat.le_trans (hL c hc) (by decide)) (hV.below (bxn _ _)) hs
  have HWB : Hid ((w.alloc (.cells #[.int .i64 0, .string ⟨#[]⟩, .slice none 0 0] 36)).heap.size = w.heap.size + 1) := by show _ = _; simp
  cases hr : readR cs t s with
  | none =>
    rw [hr] at CR
    have E : Hid (getF pvF gvF cs t (nb s) = none) := by show getF pvF gvF cs t (nb s) = none; rw [HGI, hr]
    clear HGI
    clear h hL hV hr
    go_enter Tryd.func14, Tryd.ntmps14
    go_wp2_with (go_at_call 29; refine CR.mono ?_; rintro e w2 ⟨hb2, t', c', rfl⟩; obtain ⟨⟨x0, x1, x2⟩, ⟨z0, z1, z2⟩, hlt, hB⟩ := HX.out w2 hb2; have B2 : Hid (Below w.heap.size w w2) := hB; clear CR hb2 hB)
    refine bodyPost_ret (v := .tuple #[.agg #[.int .i64 0, .string ⟨#[]⟩, .slice none 0 0], .int .i64 4]) (by simp [results, Tryd.results14, go_sem]; go_simp) rfl (HPN.out _ E.out ?_)
    exact bt (set3 B2.out _ (Nat.le_refl _) _ _ _) (bxn _ _)
  | some f =>
    rw [hr] at CR
    rw [hr] at HGI
    obtain ⟨hfv, c, hc, hfl⟩ := read_fV hr
    have hfl2 : f.vs.length ≤ 100 := by have := hL c hc; omega
    have CP := fun W u (hB : Below w.heap.size w W) (hS : SlW 3 W (fun b => w.heap.size ≤ b) u (f.vs.map clV)) => fput_any v u cs f W (rowK_keep h hB) (fun c hc => Nat.le_trans (hL c hc) (by decide)) hcs hS hfl2 hfv (hV.below hB)
    clear h hL hV hr hfv hc hfl
    have HF : Hid (getF pvF gvF cs t (nb s) = if putEr cs f = 0 ∧ putS cs f = s then some f else none) := HGI
    clear HGI
    obtain ⟨ft, fc, vs⟩ := f
    generalize hpe : putEr cs ⟨ft, fc, vs⟩ = pe at *
    generalize hps : putS cs ⟨ft, fc, vs⟩ = ps at *
    simp only at *
    by_cases h0 : pe = 0
    · have EQ := eq_list (st ps) (st s)
      rw [st_list, st_list] at EQ
      by_cases h1 : ps = s
      · have E : Hid (getF pvF gvF cs t (nb s) = some ⟨ft, fc, vs⟩) := by show getF pvF gvF cs t (nb s) = _; rw [HF.out, if_pos ⟨h0, h1⟩]
        rw [decide_eq_true h1] at EQ
        subst h0
        clear HF h1
        go_enter Tryd.func14, Tryd.ntmps14
        go_wp2_with (first
          | (go_at_call 29; refine CR.mono ?_; rintro e w2 ⟨hb2, u, rfl, ho2⟩; obtain ⟨ua, uc, rfl⟩ := ho2.shape; have H2 : Hid (Below _ _ w2) := hb2; have HO2 : Hid (OwnV w2 (w.heap.size + 1) (.slice ua (vs.map clV).length uc) vs) := ho2.mono (Nat.le_of_eq HWB.out.symm); unfold fB; rw [List.length_map] at *; clear CR hb2 ho2)
          | (go_at_call 12; refine (CP _ _ (bt (bt (bxn _ _) H2.out) (bxn _ _)) ((OwnN.sl (HO2.out.below (bxn w2 (.cells #[.int .i64 ft, .string (st fc), .slice ua vs.length uc] 36)))).imp fun b _ h => Nat.le_of_succ_le h)).mono ?_; rintro e w5 ⟨rfl, hb5⟩
             obtain ⟨⟨x0, x1, x2⟩, ⟨z0, z1, z2⟩, hlt, hB⟩ := HX.out w5 (bt H2.out (bt (bxn _ _) hb5))
             have y0 : w5.cell? ⟨w2.heap.size, 0, none⟩ = some (.int .i64 ft) := (hb5.cell (p := ⟨w2.heap.size, 0, none⟩) (by simp)).trans (by go_simp)
             have y1 : w5.cell? ⟨w2.heap.size, 1, none⟩ = some (.string (st fc)) := (hb5.cell (p := ⟨w2.heap.size, 1, none⟩) (by simp)).trans (by go_simp)
             have y2 : w5.cell? ⟨w2.heap.size, 2, none⟩ = some (.slice ua vs.length uc) := (hb5.cell (p := ⟨w2.heap.size, 2, none⟩) (by simp)).trans (by go_simp)
             have B5 : Hid (Below w.heap.size w w5) := hB
             have HO5 : Hid (OwnV w5 (w.heap.size + 1) (.slice ua vs.length uc) vs) := HO2.out.below (bt (bxn _ _) hb5)
             clear CP hb5 hB))
        refine bodyPost_ret (v := .tuple #[.agg #[.int .i64 ft, .string (st fc), .slice ua vs.length uc], .int .i64 0]) (by simp [results, Tryd.results14, go_sem]; go_simp) rfl (HPS.out ⟨ft, fc, vs⟩ _ _ E.out ?_ ?_)
        · exact set3 B5.out _ (Nat.le_refl _) _ _ _
        · exact own_set3 HO5.out _ _ _
      · have E : Hid (getF pvF gvF cs t (nb s) = none) := by show getF pvF gvF cs t (nb s) = _; rw [HF.out, if_neg fun h => h1 h.2]
        rw [decide_eq_false h1] at EQ
        subst h0
        clear HF h1
        go_enter Tryd.func14, Tryd.ntmps14
        go_wp2_with (first
          | (go_at_call 29; refine CR.mono ?_; rintro e w2 ⟨hb2, u, rfl, ho2⟩; obtain ⟨ua, uc, rfl⟩ := ho2.shape; have H2 : Hid (Below _ _ w2) := hb2; have HO2 : Hid (OwnV w2 (w.heap.size + 1) (.slice ua (vs.map clV).length uc) vs) := ho2.mono (Nat.le_of_eq HWB.out.symm); unfold fB; rw [List.length_map] at *; clear CR hb2 ho2)
          | (go_at_call 12; refine (CP _ _ (bt (bt (bxn _ _) H2.out) (bxn _ _)) ((OwnN.sl (HO2.out.below (bxn w2 (.cells #[.int .i64 ft, .string (st fc), .slice ua vs.length uc] 36)))).imp fun b _ h => Nat.le_of_succ_le h)).mono ?_; rintro e w5 ⟨rfl, hb5⟩
             obtain ⟨⟨x0, x1, x2⟩, ⟨z0, z1, z2⟩, hlt, hB⟩ := HX.out w5 (bt H2.out (bt (bxn _ _) hb5))
             have y0 : w5.cell? ⟨w2.heap.size, 0, none⟩ = some (.int .i64 ft) := (hb5.cell (p := ⟨w2.heap.size, 0, none⟩) (by simp)).trans (by go_simp)
             have y1 : w5.cell? ⟨w2.heap.size, 1, none⟩ = some (.string (st fc)) := (hb5.cell (p := ⟨w2.heap.size, 1, none⟩) (by simp)).trans (by go_simp)
             have y2 : w5.cell? ⟨w2.heap.size, 2, none⟩ = some (.slice ua vs.length uc) := (hb5.cell (p := ⟨w2.heap.size, 2, none⟩) (by simp)).trans (by go_simp)
             have B5 : Hid (Below w.heap.size w w5) := hB
             have HO5 : Hid (OwnV w5 (w.heap.size + 1) (.slice ua vs.length uc) vs) := HO2.out.below (bt (bxn _ _) hb5)
             clear CP hb5 hB))
        refine bodyPost_ret (v := .tuple #[.agg #[.int .i64 0, .string ⟨#[]⟩, .slice none 0 0], .int .i64 4]) (by simp [results, Tryd.results14, go_sem]; go_simp) rfl (HPN.out _ E.out ?_)
        exact set3 B5.out _ (Nat.le_refl _) _ _ _
    · have E : Hid (getF pvF gvF cs t (nb s) = none) := by show getF pvF gvF cs t (nb s) = _; rw [HF.out, if_neg fun h => h0 h.1]
      clear HF
      go_enter Tryd.func14, Tryd.ntmps14
      go_wp2_with (first
        | (go_at_call 29; refine CR.mono ?_; rintro e w2 ⟨hb2, u, rfl, ho2⟩; obtain ⟨ua, uc, rfl⟩ := ho2.shape; have H2 : Hid (Below _ _ w2) := hb2; have HO2 : Hid (OwnV w2 (w.heap.size + 1) (.slice ua (vs.map clV).length uc) vs) := ho2.mono (Nat.le_of_eq HWB.out.symm); unfold fB; rw [List.length_map] at *; clear CR hb2 ho2)
        | (go_at_call 12; refine (CP _ _ (bt (bt (bxn _ _) H2.out) (bxn _ _)) ((OwnN.sl (HO2.out.below (bxn w2 (.cells #[.int .i64 ft, .string (st fc), .slice ua vs.length uc] 36)))).imp fun b _ h => Nat.le_of_succ_le h)).mono ?_; rintro e w5 ⟨rfl, hb5⟩
           obtain ⟨⟨x0, x1, x2⟩, ⟨z0, z1, z2⟩, hlt, hB⟩ := HX.out w5 (bt H2.out (bt (bxn _ _) hb5))
           have y0 : w5.cell? ⟨w2.heap.size, 0, none⟩ = some (.int .i64 ft) := (hb5.cell (p := ⟨w2.heap.size, 0, none⟩) (by simp)).trans (by go_simp)
           have y1 : w5.cell? ⟨w2.heap.size, 1, none⟩ = some (.string (st fc)) := (hb5.cell (p := ⟨w2.heap.size, 1, none⟩) (by simp)).trans (by go_simp)
           have y2 : w5.cell? ⟨w2.heap.size, 2, none⟩ = some (.slice ua vs.length uc) := (hb5.cell (p := ⟨w2.heap.size, 2, none⟩) (by simp)).trans (by go_simp)
           have B5 : Hid (Below w.heap.size w w5) := hB
           have HO5 : Hid (OwnV w5 (w.heap.size + 1) (.slice ua vs.length uc) vs) := HO2.out.below (bt (bxn _ _) hb5)
           clear CP hb5 hB))
      refine bodyPost_ret (v := .tuple #[.agg #[.int .i64 0, .string ⟨#[]⟩, .slice none 0 0], .int .i64 4]) (by simp [results, Tryd.results14, go_sem]; go_simp) rfl (HPN.out _ E.out ?_)
      exact set3 B5.out _ (Nat.le_refl _) _ _ _
end Go.Proofs.YtpmhilaochfpaaaDoor
