/- Get, the document's Check, Make: contracts of single calls. -/
import Derived.Test.YtpmhilaochfpaaaDoorCd
namespace Go.Proofs.YtpmhilaochfpaaaDoor
set_option maxRecDepth 20000
set_option maxRecDepth 20000
open Go.RowKit
set_option linter.unusedVariables false
set_option linter.unusedSimpArgs false

theorem factE_fit {cs : List ClassD} {f : FactD} (h : factE cs f = 0) : tagB f.t = true ∧ ∃ k, findC cs f.c = some k ∧ f.vs.length = k.attrs.length ∧ valsE f.vs = 0 := by
  unfold factE at h
  cases htg : tagB f.t with
  | false => rw [htg, if_pos rfl] at h; exact absurd h (by decide)
  | true =>
    rw [htg, if_neg (by decide)] at h
    cases hfc : findC cs f.c with
    | none => rw [hfc] at h; have h' : (18 : Int) = 0 := h; exact absurd h' (by decide)
    | some k =>
      rw [hfc] at h
      refine ⟨rfl, k, rfl, ?_⟩
      by_cases hl : f.vs.length = k.attrs.length
      · have h' : (if f.vs.length ≠ k.attrs.length then (4 : Int) else valsE f.vs) = 0 := h
        rw [if_neg (fun x => x hl)] at h'
        exact ⟨hl, h'⟩
      · have h' : (if f.vs.length ≠ k.attrs.length then (4 : Int) else valsE f.vs) = 0 := h
        rw [if_pos hl] at h'
        exact absurd h' (by decide)
theorem getR_of {cs : List ClassD} {f : FactD} {k : ClassD} {a : Str} (hfe : factE cs f = 0) (hfc : findC cs f.c = some k) : getR cs f a = if idxS k.attrs a < 0 then none else some (f.vs.getD (idxS k.attrs a).toNat v00) := by
  unfold getR
  rw [if_neg (Classical.not_not.2 hfe), hfc]
set_option maxHeartbeats 8000000 in
theorem rcheckF_any {P : Nat → Nat → Prop} {Q Q2 : Nat → Prop} (v u : Value) (cs : List ClassD) (f : FactD) (w : World) (h : Row 2 (ReK P) w Q v cs)
    (hf : SlW 3 w Q2 u (f.vs.map clV)) (hv : ∀ x ∈ f.vs, fV x) :
    Calls Tryd.prog 26 #[v, .agg #[.int .i64 f.t, .string (st f.c), u]] w fun e w' => e = .returned (.int .i64 (factE cs f)) ∧ Below w.heap.size w w' := by
  generalize hR : factE cs f = r
  obtain ⟨a2, c2, rfl⟩ := hf.shape
  obtain ⟨-, l2, m2, r2⟩ := hf.at v00
  obtain ⟨t, nm, vs⟩ := f
  have C24 := rfind_any v cs nm (w.alloc (.cells #[.int .i64 t, .string (st nm), .slice a2 (vs.map clV).length c2] 36)) (rowK_keep h (bxn _ _))
  simp only [List.length_map] at *
  have R2 : Hid (∀ i, i < vs.length → ∃ b off, a2 = some ⟨b, off, none⟩ ∧ b < w.heap.size ∧ ∀ j, j < 3 → w.cell? ⟨b, off + (i * 3 + j), none⟩ = (clV (vs.getD i v00))[j]?) := r2
  have HV : Hid (∀ x ∈ vs, fV x) := hv
  clear h hf hv r2
  have HX : Hid (∀ W, Below (w.alloc (.cells #[.int .i64 t, .string (st nm), .slice a2 vs.length c2] 36)).heap.size (w.alloc (.cells #[.int .i64 t, .string (st nm), .slice a2 vs.length c2] 36)) W →
      W.cell? ⟨w.heap.size, 0, none⟩ = some (.int .i64 t) ∧
      W.cell? ⟨w.heap.size, 1, none⟩ = some (.string (st nm)) ∧
      W.cell? ⟨w.heap.size, 2, none⟩ = some (.slice a2 vs.length c2) ∧
      w.heap.size < W.heap.size ∧
      Below w.heap.size w W) := fun W hW =>
    ⟨(hW.cell (p := ⟨w.heap.size, 0, none⟩) (by simp; try omega)).trans (by go_simp),
     (hW.cell (p := ⟨w.heap.size, 1, none⟩) (by simp; try omega)).trans (by go_simp),
     (hW.cell (p := ⟨w.heap.size, 2, none⟩) (by simp; try omega)).trans (by go_simp),
     (by have := hW.size; simp at this; omega),
     bt (bxn _ _) hW⟩
  have HR : Hid (∀ q, factE cs ⟨t, nm, vs⟩ = q → r = q) := fun q hq => hR.symm.trans hq
  clear hR
  cases hfc : findC cs nm with
  | none =>
    rw [hfc] at C24
    have C : Calls Tryd.prog 39 #[v, .string (st nm)] (w.alloc (.cells #[.int .i64 t, .string (st nm), .slice a2 vs.length c2] 36)) fun e w' => e = .returned (.tuple #[.agg #[.string ⟨#[]⟩, .slice none 0 0], .bool false]) ∧ Below (w.alloc (.cells #[.int .i64 t, .string (st nm), .slice a2 vs.length c2] 36)).heap.size (w.alloc (.cells #[.int .i64 t, .string (st nm), .slice a2 vs.length c2] 36)) w' := C24.mono fun e w' h => ⟨h.2, h.1⟩
    clear C24
    by_cases h1 : t < 1
    · have E : Hid (r = 22) := HR.out _ (by unfold factE tagB; rw [if_pos (decide_eq_false (by simp only; omega))])
      clear HR
      go_enter Tryd.func26, Tryd.ntmps26
      go_wp2_with (go_at_call 39; refine C.mono ?_; rintro e w2 ⟨rfl, hb2⟩; obtain ⟨x00, x01, x02, hs, hB⟩ := HX.out w2 (hb2); have B2 : Hid (Below w.heap.size w w2) := hB; clear hB; have x0a : (w2.alloc (.cells #[.string ⟨#[]⟩, .slice none 0 0] 50)).cell? ⟨w.heap.size, 0, none⟩ = some (.int .i64 t) := ((bxn w2 _).cell (p := ⟨w.heap.size, 0, none⟩) (by simp; omega)).trans x00; have x2a : (w2.alloc (.cells #[.string ⟨#[]⟩, .slice none 0 0] 50)).cell? ⟨w.heap.size, 2, none⟩ = some (.slice a2 vs.length c2) := ((bxn w2 _).cell (p := ⟨w.heap.size, 2, none⟩) (by simp; omega)).trans x02; clear C hb2)
      all_goals (go_ret; exact ⟨by rw [E.out]; rfl, bt B2.out (bxn _ _)⟩)
    by_cases h2 : 1099511627776 < t
    · have E : Hid (r = 22) := HR.out _ (by unfold factE tagB; rw [if_pos (decide_eq_false (by simp only; omega))])
      clear HR
      go_enter Tryd.func26, Tryd.ntmps26
      go_wp2_with (go_at_call 39; refine C.mono ?_; rintro e w2 ⟨rfl, hb2⟩; obtain ⟨x00, x01, x02, hs, hB⟩ := HX.out w2 (hb2); have B2 : Hid (Below w.heap.size w w2) := hB; clear hB; have x0a : (w2.alloc (.cells #[.string ⟨#[]⟩, .slice none 0 0] 50)).cell? ⟨w.heap.size, 0, none⟩ = some (.int .i64 t) := ((bxn w2 _).cell (p := ⟨w.heap.size, 0, none⟩) (by simp; omega)).trans x00; have x2a : (w2.alloc (.cells #[.string ⟨#[]⟩, .slice none 0 0] 50)).cell? ⟨w.heap.size, 2, none⟩ = some (.slice a2 vs.length c2) := ((bxn w2 _).cell (p := ⟨w.heap.size, 2, none⟩) (by simp; omega)).trans x02; clear C hb2)
      all_goals (go_ret; exact ⟨by rw [E.out]; rfl, bt B2.out (bxn _ _)⟩)
    · have E : Hid (r = 18) := HR.out _ (by unfold factE tagB; rw [if_neg (by rw [decide_eq_true (by simp only; omega)]; decide), hfc])
      clear HR
      go_enter Tryd.func26, Tryd.ntmps26
      go_wp2_with (go_at_call 39; refine C.mono ?_; rintro e w2 ⟨rfl, hb2⟩; obtain ⟨x00, x01, x02, hs, hB⟩ := HX.out w2 (hb2); have B2 : Hid (Below w.heap.size w w2) := hB; clear hB; have x0a : (w2.alloc (.cells #[.string ⟨#[]⟩, .slice none 0 0] 50)).cell? ⟨w.heap.size, 0, none⟩ = some (.int .i64 t) := ((bxn w2 _).cell (p := ⟨w.heap.size, 0, none⟩) (by simp; omega)).trans x00; have x2a : (w2.alloc (.cells #[.string ⟨#[]⟩, .slice none 0 0] 50)).cell? ⟨w.heap.size, 2, none⟩ = some (.slice a2 vs.length c2) := ((bxn w2 _).cell (p := ⟨w.heap.size, 2, none⟩) (by simp; omega)).trans x02; clear C hb2)
      all_goals (go_ret; exact ⟨by rw [E.out]; rfl, bt B2.out (bxn _ _)⟩)
  | some k =>
    rw [hfc] at C24
    have C : Calls Tryd.prog 39 #[v, .string (st nm)] (w.alloc (.cells #[.int .i64 t, .string (st nm), .slice a2 vs.length c2] 36)) fun e w' => ∃ a c, e = .returned (.tuple #[.agg #[.string (st k.nm), .slice a k.attrs.length c], .bool true]) ∧ Below (w.alloc (.cells #[.int .i64 t, .string (st nm), .slice a2 vs.length c2] 36)).heap.size (w.alloc (.cells #[.int .i64 t, .string (st nm), .slice a2 vs.length c2] 36)) w' := C24.mono fun e w' h => by
      obtain ⟨a, c, e1, _⟩ := h.2
      exact ⟨a, c, e1, h.1⟩
    clear C24
    by_cases h1 : t < 1
    · have E : Hid (r = 22) := HR.out _ (by unfold factE tagB; rw [if_pos (decide_eq_false (by simp only; omega))])
      clear HR
      go_enter Tryd.func26, Tryd.ntmps26
      go_wp2_with (go_at_call 39; refine C.mono ?_; rintro e w2 ⟨a, c, rfl, hb2⟩; obtain ⟨x00, x01, x02, hs, hB⟩ := HX.out w2 (hb2); have B2 : Hid (Below w.heap.size w w2) := hB; clear hB; have x0a : (w2.alloc (.cells #[.string (st k.nm), .slice a k.attrs.length c] 50)).cell? ⟨w.heap.size, 0, none⟩ = some (.int .i64 t) := ((bxn w2 _).cell (p := ⟨w.heap.size, 0, none⟩) (by simp; omega)).trans x00; have x2a : (w2.alloc (.cells #[.string (st k.nm), .slice a k.attrs.length c] 50)).cell? ⟨w.heap.size, 2, none⟩ = some (.slice a2 vs.length c2) := ((bxn w2 _).cell (p := ⟨w.heap.size, 2, none⟩) (by simp; omega)).trans x02; clear C hb2)
      all_goals (go_ret; exact ⟨by rw [E.out]; rfl, bt B2.out (bxn _ _)⟩)
    by_cases h2 : 1099511627776 < t
    · have E : Hid (r = 22) := HR.out _ (by unfold factE tagB; rw [if_pos (decide_eq_false (by simp only; omega))])
      clear HR
      go_enter Tryd.func26, Tryd.ntmps26
      go_wp2_with (go_at_call 39; refine C.mono ?_; rintro e w2 ⟨a, c, rfl, hb2⟩; obtain ⟨x00, x01, x02, hs, hB⟩ := HX.out w2 (hb2); have B2 : Hid (Below w.heap.size w w2) := hB; clear hB; have x0a : (w2.alloc (.cells #[.string (st k.nm), .slice a k.attrs.length c] 50)).cell? ⟨w.heap.size, 0, none⟩ = some (.int .i64 t) := ((bxn w2 _).cell (p := ⟨w.heap.size, 0, none⟩) (by simp; omega)).trans x00; have x2a : (w2.alloc (.cells #[.string (st k.nm), .slice a k.attrs.length c] 50)).cell? ⟨w.heap.size, 2, none⟩ = some (.slice a2 vs.length c2) := ((bxn w2 _).cell (p := ⟨w.heap.size, 2, none⟩) (by simp; omega)).trans x02; clear C hb2)
      all_goals (go_ret; exact ⟨by rw [E.out]; rfl, bt B2.out (bxn _ _)⟩)
    have EF : factE cs ⟨t, nm, vs⟩ = if vs.length ≠ k.attrs.length then 4 else valsE vs := by unfold factE tagB; rw [if_neg (by rw [decide_eq_true (by simp only; omega)]; decide), hfc]
    by_cases hl : ¬ vs.length = k.attrs.length
    · have E : Hid (r = 4) := HR.out _ (EF.trans (if_pos hl))
      have hne : ((vs.length : Int) == (k.attrs.length : Int)) = false := by rw [beq_eq_false_iff_ne]; omega
      have hne2 : ¬ ((vs.length : Int) = (k.attrs.length : Int)) := by omega
      clear EF
      clear HR
      go_enter Tryd.func26, Tryd.ntmps26
      go_wp2_with (go_at_call 39; refine C.mono ?_; rintro e w2 ⟨a, c, rfl, hb2⟩; obtain ⟨x00, x01, x02, hs, hB⟩ := HX.out w2 (hb2); have B2 : Hid (Below w.heap.size w w2) := hB; clear hB; have x0a : (w2.alloc (.cells #[.string (st k.nm), .slice a k.attrs.length c] 50)).cell? ⟨w.heap.size, 0, none⟩ = some (.int .i64 t) := ((bxn w2 _).cell (p := ⟨w.heap.size, 0, none⟩) (by simp; omega)).trans x00; have x2a : (w2.alloc (.cells #[.string (st k.nm), .slice a k.attrs.length c] 50)).cell? ⟨w.heap.size, 2, none⟩ = some (.slice a2 vs.length c2) := ((bxn w2 _).cell (p := ⟨w.heap.size, 2, none⟩) (by simp; omega)).trans x02; clear C hb2)
      all_goals (go_ret; exact ⟨by rw [E.out]; rfl, bt B2.out (bxn _ _)⟩)
    have hl := Classical.not_not.1 hl
    have EV : Hid (∀ q, valsE vs = q → r = q) := fun q hq => HR.out _ ((EF.trans (if_neg (fun x => x hl))).trans hq)
    rw [← hl] at C
    have hn2 : (vs.length : Int) ≤ 9223372036854775807 := by omega
    clear EF hl HR
    go_enter Tryd.func26, Tryd.ntmps26
    go_wp2_with (go_at_call 39; refine C.mono ?_; rintro e w2 ⟨a, c, rfl, hb2⟩; have H2 : Hid (Below (w.alloc (.cells #[.int .i64 t, .string (st nm), .slice a2 vs.length c2] 36)).heap.size (w.alloc (.cells #[.int .i64 t, .string (st nm), .slice a2 vs.length c2] 36)) w2) := hb2; obtain ⟨x00, x01, x02, hs, hB⟩ := HX.out w2 (hb2); have B2 : Hid (Below w.heap.size w w2) := hB; clear hB; have x2a : (w2.alloc (.cells #[.string (st k.nm), .slice a vs.length c] 50)).cell? ⟨w.heap.size, 2, none⟩ = some (.slice a2 vs.length c2) := ((bxn w2 _).cell (p := ⟨w.heap.size, 2, none⟩) (by simp; omega)).trans x02; have x0a : (w2.alloc (.cells #[.string (st k.nm), .slice a vs.length c] 50)).cell? ⟨w.heap.size, 0, none⟩ = some (.int .i64 t) := ((bxn w2 _).cell (p := ⟨w.heap.size, 0, none⟩) (by simp; omega)).trans x00; clear C hb2)
    obtain ⟨W0, hW0⟩ : ∃ W0, W0 = w2.alloc (.cells #[.string (st k.nm), .slice a vs.length c] 50) := ⟨_, rfl⟩
    have HK : Hid (Below w.heap.size w W0 ∧ Below (w.alloc (.cells #[.int .i64 t, .string (st nm), .slice a2 vs.length c2] 36)).heap.size (w.alloc (.cells #[.int .i64 t, .string (st nm), .slice a2 vs.length c2] 36)) W0) := by subst hW0; exact ⟨bt B2.out (bxn _ _), bt H2.out (bxn _ _)⟩
    rw [← hW0]
    clear hW0 x2a x0a H2 B2 x00 x01 x02 hs
    go_loopw [7, 8] (fun v _ wr => ∃ i : Nat, v = .int .i64 i ∧ i ≤ vs.length ∧ Hid (Below W0.heap.size W0 wr) ∧ Hid (valsE (vs.take i) = 0)) (fun v _ _ => (vs.length - intOf v).toNat)
    case atStart => exact ⟨0, rfl, Nat.zero_le _, Below.refl _ _, rfl⟩
    case round =>
      obtain ⟨i, rfl, hi, HB, HE⟩ := hrel
      have HW : Hid (Below w.heap.size w wr) := HK.out.1.trans (HB.out.mono HK.out.1.size)
      obtain ⟨x00, x01, x02, hs, -⟩ := HX.out wr (HK.out.2.trans (HB.out.mono HK.out.2.size))
      by_cases hlt : i < vs.length
      · have hiz : (i : Int) < vs.length := by omega
        obtain ⟨b1, o1, rfl, hb1, q1⟩ := R2.out i hlt
        have d0 : wr.cell? ⟨b1, o1 + i * 3, none⟩ = (clV (vs.getD i v00))[0]? := (HW.out.cell (p := ⟨b1, o1 + i * 3, none⟩) hb1).trans (q1 0 (by decide))
        have d1 : wr.cell? ⟨b1, o1 + i * 3 + 1, none⟩ = (clV (vs.getD i v00))[1]? := (HW.out.cell (p := ⟨b1, o1 + i * 3 + 1, none⟩) hb1).trans (q1 1 (by decide))
        have d2 : wr.cell? ⟨b1, o1 + i * 3 + 2, none⟩ = (clV (vs.getD i v00))[2]? := (HW.out.cell (p := ⟨b1, o1 + i * 3 + 2, none⟩) hb1).trans (q1 2 (by decide))
        clear q1
        have HN := valsE_next hlt HE.out
        have HRr := fun h => valsE_err hlt HE.out h
        have hfv : fV (vs.getD i v00) := by rw [List.getD_eq_getElem?_getD, List.getElem?_eq_getElem hlt]; exact HV.out _ (List.getElem_mem hlt)
        generalize vs.getD i v00 = x at *
        have CC := rcheck_v x wr hfv
        clear hfv
        simp only [clV, List.getElem?_cons_zero, List.getElem?_cons_succ] at d0 d1 d2
        by_cases hx : chkV x = 0
        · have HE2 : Hid (valsE (vs.take (i + 1)) = 0) := HN.trans hx
          rw [hx] at CC
          clear HN HRr hx
          go_wp2_with (go_at_call 40; refine CC.mono ?_; rintro e w5 ⟨rfl, hb5⟩; have B5 : Hid (Below W0.heap.size W0 w5) := bt HB.out hb5; clear CC hb5)
          go_roundw
          case rel => exact ⟨i + 1, by simp, by omega, B5.out, HE2.out⟩
          case measure => simp [intOf]; omega
        · have ER : Hid (r = chkV x) := EV.out _ (HRr hx)
          generalize chkV x = er at *
          clear HN HRr
          go_wp2_with (go_at_call 40; refine CC.mono ?_; rintro e w5 ⟨rfl, hb5⟩; have B5 : Hid (Below w.heap.size w w5) := bt HW.out hb5; clear CC hb5)
          go_ret
          exact ⟨by rw [ER.out]; rfl, B5.out⟩
      · have hiz : ¬ (i : Int) < vs.length := by omega
        have E : Hid (r = 0) := EV.out _ (valsE_all (by omega) HE.out)
        go_wp2
        go_ret
        exact ⟨by rw [E.out]; rfl, HW.out⟩
end Go.Proofs.YtpmhilaochfpaaaDoor
