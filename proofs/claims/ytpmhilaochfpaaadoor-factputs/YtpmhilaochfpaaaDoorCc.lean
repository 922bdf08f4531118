/- The class of a fact, what may be: classOf, Check; sets looked through: contracts of single calls. -/
import Derived.Test.YtpmhilaochfpaaaDoorCa
import Derived.Test.YtpmhilaochfpaaaDoorFn
namespace Go.Proofs.YtpmhilaochfpaaaDoor
set_option maxRecDepth 20000
set_option maxRecDepth 20000
open Go.RowKit
set_option linter.unusedVariables false
set_option linter.unusedSimpArgs false

def fV (x : VD) : Prop := 0 ≤ x.k ∧ x.k ≤ 255 ∧ x.s.length ≤ 100000
theorem check_v (x : VD) (w : World) (h : fV x) (hV : Vars w) :
    Calls Tryd.prog 37 #[.agg #[.int .u8 x.k, .int .i64 x.n, .string (st x.s)]] w fun e w' => e = .returned (.int .i64 (chkV x)) ∧ Below w.heap.size w w' := by
  have := chk_any x.k x.n (st x.s) w h.1 h.2.1 (by rw [st_size]; have := h.2.2; omega) hV
  rw [st_list] at this
  exact this
theorem rcheck_v (x : VD) (w : World) (h : fV x) :
    Calls Tryd.prog 40 #[.agg #[.int .u8 x.k, .int .i64 x.n, .string (st x.s)]] w fun e w' => e = .returned (.int .i64 (chkV x)) ∧ Below w.heap.size w w' := by
  have := rchk_any x.k x.n (st x.s) w h.1 h.2.1 (by rw [st_size]; have := h.2.2; omega)
  rw [st_list] at this
  exact this
/-- What classOf tells. -/
def CO (w : World) (cs : List ClassD) (f : FactD) (e : Ending) (w' : World) : Prop := Below w.heap.size w w' ∧
  ((factE cs f ≠ 0 ∧ e = .returned (.tuple #[.agg #[.string ⟨#[]⟩, .slice none 0 0], .int .i64 (factE cs f)])) ∨
   (factE cs f = 0 ∧ ∃ k a c, findC cs f.c = some k ∧ f.vs.length = k.attrs.length ∧ e = .returned (.tuple #[.agg #[.string (st k.nm), .slice a k.attrs.length c], .int .i64 0]) ∧ SlW 1 w' (fun _ => True) (.slice a k.attrs.length c) (k.attrs.map clS)))
theorem setTwo_below {w w1 : World} {B b : Nat} {x y : Value} (h : Below B w w1) (hb : B ≤ b) : Below B w ((w1.setCell ⟨b, 0, none⟩ x).setCell ⟨b, 1, none⟩ y) := (h.setCell hb _).setCell hb _
theorem SlW.two {n : Nat} {w : World} {P : Nat → Prop} {v : Value} {css : List (List Value)} {b : Nat} {x y : Value} (h : SlW n w P v css) (hP : ∀ k, P k → k ≠ b) : SlW n ((w.setCell ⟨b, 0, none⟩ x).setCell ⟨b, 1, none⟩ y) P v css := by
  obtain ⟨a, cap, h1, h2, h3, h4⟩ := h
  refine ⟨a, cap, h1, h2, h3, ?_⟩
  rcases h4 with h4 | ⟨k, off, e, hk, hp, hc⟩
  · exact .inl h4
  · refine .inr ⟨k, off, e, by simpa using hk, hp, fun i j hi hj => ?_⟩
    rw [← hc i j hi hj]
    have hne := hP k hp
    have h2 : ((w.setCell ⟨b, 0, none⟩ x).setCell ⟨b, 1, none⟩ y).heap[k]? = w.heap[k]? := (Below.heap_setCell _ ⟨b, 1, none⟩ _ k hne).trans (Below.heap_setCell w ⟨b, 0, none⟩ _ k hne)
    simp only [World.cell?, h2]
set_option maxHeartbeats 8000000 in
theorem classOf_any {P : Nat → Nat → Prop} {Q Q2 : Nat → Prop} (v u : Value) (cs : List ClassD) (f : FactD) (w : World) (h : Row 2 (ReK P) w Q v cs) (hL : ∀ c ∈ cs, c.attrs.length ≤ 100000)
    (hf : SlW 3 w Q2 u (f.vs.map clV)) (hv : ∀ x ∈ f.vs, fV x) (hV : Vars w) :
    Calls Tryd.prog 31 #[v, .agg #[.int .i64 f.t, .string (st f.c), u]] w (CO w cs f) := by
  generalize hPO : CO w cs f = PO
  have HPN : Hid (∀ er w', factE cs f = er → er ≠ 0 → Below w.heap.size w w' → PO (.returned (.tuple #[.agg #[.string ⟨#[]⟩, .slice none 0 0], .int .i64 er])) w') := fun er w' he h0 hb => by
    rw [← hPO]; subst he; exact ⟨hb, .inl ⟨h0, rfl⟩⟩
  have HPS : Hid (∀ k a c w', factE cs f = 0 → findC cs f.c = some k → f.vs.length = k.attrs.length → Below w.heap.size w w' → SlW 1 w' (fun _ => True) (.slice a k.attrs.length c) (k.attrs.map clS) → PO (.returned (.tuple #[.agg #[.string (st k.nm), .slice a k.attrs.length c], .int .i64 0])) w') := fun k a c w' he hk hl hb hs => by
    rw [← hPO]; exact ⟨hb, .inr ⟨he, k, a, c, hk, hl, rfl, hs⟩⟩
  clear hPO
  obtain ⟨a2, c2, rfl⟩ := hf.shape
  obtain ⟨-, l2, m2, r2⟩ := hf.at v00
  rw [List.length_map] at *
  obtain ⟨t, nm, vs⟩ := f
  simp only at *
  have R2 : Hid (∀ i, i < vs.length → ∃ b off, a2 = some ⟨b, off, none⟩ ∧ b < w.heap.size ∧ ∀ j, j < 3 → w.cell? ⟨b, off + (i * 3 + j), none⟩ = (clV (vs.getD i v00))[j]?) := r2
  have HV : Hid (∀ x ∈ vs, fV x) := hv
  have HVs : Hid (Vars w) := hV
  have hn2 : (vs.length : Int) ≤ 9223372036854775807 := by omega
  clear r2 hf hv hV
  have CT := fun W => istag_any t W
  have CFi : Hid (∀ W, Below w.heap.size w W → Calls Tryd.prog 47 #[v, .string (st nm)] W (FO W (findC cs nm))) := fun W hW => find_any v cs nm W (rowK_keep h hW) hL
  clear h hL
  have HX : Hid (∀ W, Below ((w.alloc (.cells #[.int .i64 t, .string (st nm), .slice a2 vs.length c2] 36)).alloc (.cells #[.string ⟨#[]⟩, .slice none 0 0] 50)).heap.size ((w.alloc (.cells #[.int .i64 t, .string (st nm), .slice a2 vs.length c2] 36)).alloc (.cells #[.string ⟨#[]⟩, .slice none 0 0] 50)) W →
      (W.cell? ⟨w.heap.size, 0, none⟩ = some (.int .i64 t) ∧ W.cell? ⟨w.heap.size, 1, none⟩ = some (.string (st nm)) ∧ W.cell? ⟨w.heap.size, 2, none⟩ = some (.slice a2 vs.length c2)) ∧
      (W.cell? ⟨w.heap.size + 1, 0, none⟩ = some (.string ⟨#[]⟩) ∧ W.cell? ⟨w.heap.size + 1, 1, none⟩ = some (.slice none 0 0)) ∧
      (W.frozen? ⟨w.heap.size + 1, 0, none⟩ = false ∧ W.frozen? ⟨w.heap.size + 1, 1, none⟩ = false) ∧ w.heap.size + 1 < W.heap.size ∧ Below w.heap.size w W) := fun W hW => by
    have f0 : ((w.alloc (.cells #[.int .i64 t, .string (st nm), .slice a2 vs.length c2] 36)).alloc (.cells #[.string ⟨#[]⟩, .slice none 0 0] 50)).frozen? ⟨w.heap.size + 1, 0, none⟩ = false := by go_simp
    have f1 : ((w.alloc (.cells #[.int .i64 t, .string (st nm), .slice a2 vs.length c2] 36)).alloc (.cells #[.string ⟨#[]⟩, .slice none 0 0] 50)).frozen? ⟨w.heap.size + 1, 1, none⟩ = false := by go_simp
    refine ⟨⟨(hW.cell (p := ⟨w.heap.size, 0, none⟩) (by simp; omega)).trans (by go_simp), (hW.cell (p := ⟨w.heap.size, 1, none⟩) (by simp; omega)).trans (by go_simp), (hW.cell (p := ⟨w.heap.size, 2, none⟩) (by simp; omega)).trans (by go_simp)⟩, ⟨(hW.cell (p := ⟨w.heap.size + 1, 0, none⟩) (by simp)).trans (by go_simp), (hW.cell (p := ⟨w.heap.size + 1, 1, none⟩) (by simp)).trans (by go_simp)⟩, ⟨?_, ?_⟩, ?_, bt (bt (bxn _ _) (bxn _ _)) hW⟩
    · exact (hW.frozen (p := ⟨w.heap.size + 1, 0, none⟩) (by simp)).trans f0
    · exact (hW.frozen (p := ⟨w.heap.size + 1, 1, none⟩) (by simp)).trans f1
    · have := hW.size; simp at this; omega
  cases htg : tagB t with
  | false =>
    have E : Hid (factE cs ⟨t, nm, vs⟩ = 22) := by show factE _ _ = _; unfold factE; rw [if_pos htg]
    rw [htg] at CT
    clear htg CFi
    go_enter Tryd.func31, Tryd.ntmps31
    go_wp2_with (go_at_call 46; refine (CT _).mono ?_; rintro e w2 ⟨rfl, hb2⟩; obtain ⟨⟨x0, x1, x2⟩, ⟨y0, y1⟩, ⟨z0, z1⟩, hs, hB⟩ := HX.out w2 hb2; have B2 : Hid (Below w.heap.size w w2) := hB; clear CT hb2 hB)
    refine bodyPost_ret (v := .tuple #[.agg #[.string ⟨#[]⟩, .slice none 0 0], .int .i64 22]) (by simp [results, Tryd.results31, go_sem]; go_simp) rfl ?_
    exact HPN.out 22 _ E.out (by decide) (setTwo_below B2.out (by omega))
  | true =>
    rw [htg] at CT
    cases hfc : findC cs nm with
    | none =>
      have E : Hid (factE cs ⟨t, nm, vs⟩ = 18) := by show factE _ _ = _; unfold factE; rw [htg, hfc]; rfl
      rw [hfc] at CFi
      clear htg hfc
      go_enter Tryd.func31, Tryd.ntmps31
      go_wp2_with (first
        | (go_at_call 46; refine (CT _).mono ?_; rintro e w2 ⟨rfl, hb2⟩; obtain ⟨⟨x0, x1, x2⟩, ⟨y0, y1⟩, ⟨z0, z1⟩, hs, hB⟩ := HX.out w2 hb2; have H2 : Hid (Below _ _ w2) := hb2; have B2 : Hid (Below w.heap.size w w2) := hB; have hsz2 := hs; clear CT hb2 hB y0 y1 z0 z1 hs)
        | (go_at_call 47; refine (CFi.out w2 B2.out).mono ?_; rintro e w3 ⟨hb3, rfl⟩; clear x0 x1 x2; obtain ⟨⟨x0, x1, x2⟩, ⟨y0, y1⟩, ⟨z0, z1⟩, hs, hB⟩ := HX.out w3 (bt H2.out hb3); have B3 : Hid (Below w.heap.size w w3) := hB; have HSZ : Hid (w.heap.size + 1 < w3.heap.size) := hs; clear hb3 hB CFi))
      all_goals (
        have hs := HSZ.out
        refine bodyPost_ret (v := .tuple #[.agg #[.string ⟨#[]⟩, .slice none 0 0], .int .i64 18]) (by simp [results, Tryd.results31, go_sem]; go_simp) rfl ?_
        exact HPN.out 18 _ E.out (by decide) (bt (setTwo_below B3.out (by omega)) (bxn _ _)))
    | some k =>
      rw [hfc] at CFi
      by_cases hlen : ¬ vs.length = k.attrs.length
      · have E : Hid (factE cs ⟨t, nm, vs⟩ = 4) := by show factE _ _ = _; unfold factE; rw [htg, hfc]; exact if_pos hlen
        have hne : ((vs.length : Int) == (k.attrs.length : Int)) = false := by rw [beq_eq_false_iff_ne]; omega
        have hne2 : ¬ ((vs.length : Int) = (k.attrs.length : Int)) := by omega
        clear htg hfc
        go_enter Tryd.func31, Tryd.ntmps31
        go_wp2_with (first
          | (go_at_call 46; refine (CT _).mono ?_; rintro e w2 ⟨rfl, hb2⟩; obtain ⟨⟨x0, x1, x2⟩, ⟨y0, y1⟩, ⟨z0, z1⟩, hs, hB⟩ := HX.out w2 hb2; have H2 : Hid (Below _ _ w2) := hb2; have B2 : Hid (Below w.heap.size w w2) := hB; have hsz2 := hs; clear CT hb2 hB y0 y1 z0 z1 hs)
          | (go_at_call 47; refine (CFi.out w2 B2.out).mono ?_; rintro e w3 ⟨hb3, a, c, rfl, hs3⟩; clear x0 x1 x2; obtain ⟨⟨x0, x1, x2⟩, ⟨y0, y1⟩, ⟨z0, z1⟩, hs, hB⟩ := HX.out w3 (bt H2.out hb3); have H3 : Hid (Below _ _ w3) := bt H2.out hb3; have B3 : Hid (Below w.heap.size w w3) := hB; have HSZ : Hid (w.heap.size + 1 < w3.heap.size) := hs;  have x2a : (w3.alloc (.cells #[.string (st k.nm), .slice a k.attrs.length c] 50)).cell? ⟨w.heap.size, 2, none⟩ = some (.slice a2 vs.length c2) := ((bxn w3 _).cell (p := ⟨w.heap.size, 2, none⟩) (by simp; omega)).trans x2; clear hb3 hB CFi hs3))
        all_goals (
          have hs := HSZ.out
          refine bodyPost_ret (v := .tuple #[.agg #[.string ⟨#[]⟩, .slice none 0 0], .int .i64 4]) (by simp [results, Tryd.results31, go_sem]; go_simp) rfl ?_
          exact HPN.out 4 _ E.out (by decide) (bt (setTwo_below B3.out (by omega)) (bxn _ _)))
      have hlen := Classical.not_not.1 hlen
      have HL : Hid (vs.length = k.attrs.length) := hlen
      have EF : Hid (factE cs ⟨t, nm, vs⟩ = valsE vs) := by show factE _ _ = _; unfold factE; rw [htg, hfc]; exact if_neg (Classical.not_not.2 hlen)
      have EK : Hid (findC cs nm = some k) := hfc
      have CFi : Hid (∀ W, Below w.heap.size w W → Calls Tryd.prog 47 #[v, .string (st nm)] W fun e w' => Below W.heap.size W w' ∧ ∃ a c, e = .returned (.tuple #[.agg #[.string (st k.nm), .slice a vs.length c], .bool true]) ∧ SlW 1 w' (fun b => W.heap.size ≤ b) (.slice a vs.length c) (k.attrs.map clS)) := fun W hW => (CFi.out W hW).mono fun e w' h => by rw [hlen]; exact h
      have HPS : Hid (∀ a c w', factE cs ⟨t, nm, vs⟩ = 0 → Below w.heap.size w w' → SlW 1 w' (fun _ => True) (.slice a vs.length c) (k.attrs.map clS) → PO (.returned (.tuple #[.agg #[.string (st k.nm), .slice a vs.length c], .int .i64 0])) w') := fun a c w' h1 h2 h3 => by
        have := HPS.out k a c w' h1 hfc hlen h2
        rw [← hlen] at this
        exact this h3
      clear htg hfc hlen
      go_enter Tryd.func31, Tryd.ntmps31
      go_wp2_with (first
        | (go_at_call 46; refine (CT _).mono ?_; rintro e w2 ⟨rfl, hb2⟩; obtain ⟨⟨x0, x1, x2⟩, ⟨y0, y1⟩, ⟨z0, z1⟩, hs, hB⟩ := HX.out w2 hb2; have H2 : Hid (Below _ _ w2) := hb2; have B2 : Hid (Below w.heap.size w w2) := hB; have hsz2 := hs; clear CT hb2 hB y0 y1 z0 z1 hs)
        | (go_at_call 47; refine (CFi.out w2 B2.out).mono ?_; rintro e w3 ⟨hb3, a, c, rfl, hs3⟩; clear x0 x1 x2; obtain ⟨⟨x0, x1, x2⟩, ⟨y0, y1⟩, ⟨z0, z1⟩, hs, hB⟩ := HX.out w3 (bt H2.out hb3); have H3 : Hid (Below _ _ w3) := bt H2.out hb3; have B3 : Hid (Below w.heap.size w w3) := hB; have HSZ : Hid (w.heap.size + 1 < w3.heap.size) := hs; have S3 : Hid (SlW 1 w3 (fun b => w.heap.size + 1 < b ∧ b < w3.heap.size) (.slice a vs.length c) (k.attrs.map clS)) := hs3.imp (fun k h1 h2 => ⟨Nat.lt_of_lt_of_le hsz2 h2, h1⟩); have x2a : (w3.alloc (.cells #[.string (st k.nm), .slice a vs.length c] 50)).cell? ⟨w.heap.size, 2, none⟩ = some (.slice a2 vs.length c2) := ((bxn w3 _).cell (p := ⟨w.heap.size, 2, none⟩) (by simp; omega)).trans x2; clear hb3 hB CFi hs3))
      obtain ⟨W0, hW0⟩ : ∃ W0, W0 = w3.alloc (.cells #[.string (st k.nm), .slice a vs.length c] 50) := ⟨_, rfl⟩
      have HK : Hid (Below w.heap.size w W0 ∧ w3.heap.size < W0.heap.size ∧ w.heap.size + 1 < w3.heap.size ∧ W0.cell? ⟨w3.heap.size, 0, none⟩ = some (.string (st k.nm)) ∧ W0.cell? ⟨w3.heap.size, 1, none⟩ = some (.slice a vs.length c) ∧ Below ((w.alloc (.cells #[.int .i64 t, .string (st nm), .slice a2 vs.length c2] 36)).alloc (.cells #[.string ⟨#[]⟩, .slice none 0 0] 50)).heap.size ((w.alloc (.cells #[.int .i64 t, .string (st nm), .slice a2 vs.length c2] 36)).alloc (.cells #[.string ⟨#[]⟩, .slice none 0 0] 50)) W0) := by
        subst hW0; exact ⟨bt B3.out (bxn _ _), by simp, HSZ.out, by go_simp, by go_simp, bt H3.out (bxn _ _)⟩
      have S0 : Hid (SlW 1 W0 (fun b => w.heap.size + 1 < b ∧ b < W0.heap.size) (.slice a vs.length c) (k.attrs.map clS)) := (SlW.keep (P := fun _ => _) (k := 0) (by rw [hW0]; exact Stays.below (bxn w3 _)) S3.out).imp (fun k h1 h2 => ⟨h2.1, h1⟩)
      rw [← hW0]
      clear hW0 x2a x0 x1 x2 y0 y1 z0 z1 hs B2 H2 B3 H3 HSZ S3
      go_loopw [9, 10, 37] (fun _ _ v wr => ∃ i : Nat, v = .int .i64 i ∧ i ≤ vs.length ∧ Hid (Below W0.heap.size W0 wr) ∧ Hid (valsE (vs.take i) = 0)) (fun _ _ v _ => (vs.length - intOf v).toNat)
      case atStart => exact ⟨0, rfl, Nat.zero_le _, Below.refl _ _, rfl⟩
      case round =>
        obtain ⟨i, rfl, hi, HB, HE⟩ := hrel
        have HW : Hid (Below w.heap.size w wr) := HK.out.1.trans (HB.out.mono (by have := HK.out; omega))
        obtain ⟨⟨x0, x1, x2⟩, ⟨y0, y1⟩, ⟨z0, z1⟩, hs, -⟩ := HX.out wr (HK.out.2.2.2.2.2.trans (HB.out.mono (by have := HK.out; simp; omega)))
        by_cases hlt : i < vs.length
        · have hiz : (i : Int) < vs.length := by omega
          obtain ⟨b1, o1, rfl, hb1, q1⟩ := R2.out i hlt
          have d0 : wr.cell? ⟨b1, o1 + i * 3, none⟩ = (clV (vs.getD i v00))[0]? := (HW.out.cell (p := ⟨b1, o1 + i * 3, none⟩) hb1).trans (q1 0 (by decide))
          have d1 : wr.cell? ⟨b1, o1 + i * 3 + 1, none⟩ = (clV (vs.getD i v00))[1]? := (HW.out.cell (p := ⟨b1, o1 + i * 3 + 1, none⟩) hb1).trans (q1 1 (by decide))
          have d2 : wr.cell? ⟨b1, o1 + i * 3 + 2, none⟩ = (clV (vs.getD i v00))[2]? := (HW.out.cell (p := ⟨b1, o1 + i * 3 + 2, none⟩) hb1).trans (q1 2 (by decide))
          clear q1
          have HN := valsE_next hlt HE.out
          have HR := fun h => valsE_err hlt HE.out h
          have hfv : fV (vs.getD i v00) := by rw [List.getD_eq_getElem?_getD, List.getElem?_eq_getElem hlt]; exact HV.out _ (List.getElem_mem hlt)
          generalize vs.getD i v00 = x at *
          have CC := check_v x (wr.alloc (.cells #[.int .u8 x.k, .int .i64 x.n, .string (st x.s)] 52)) hfv (HVs.out.below (bt HW.out (bxn _ _)))
          clear hfv
          simp only [clV, List.getElem?_cons_zero, List.getElem?_cons_succ] at d0 d1 d2
          have HXW := HX.out
          by_cases hx : chkV x = 0
          · have HE2 : Hid (valsE (vs.take (i + 1)) = 0) := HN.trans hx
            rw [hx] at CC
            clear HN HR hx
            go_wp2_with (go_at_call 37; refine CC.mono ?_; rintro e w5 ⟨rfl, hb5⟩; have B5 : Hid (Below W0.heap.size W0 w5) := bt HB.out (bt (bxn _ _) hb5); clear CC hb5)
            go_roundw
            case rel => exact ⟨i + 1, by simp, by omega, B5.out, HE2.out⟩
            case measure => simp [intOf]; omega
          · have ER : Hid (factE cs ⟨t, nm, vs⟩ = chkV x) := EF.out.trans (HR hx)
            have HH : Hid (chkV x ≠ 0) := hx
            generalize chkV x = er at *
            clear HN HR
            go_wp2_with (go_at_call 37; refine CC.mono ?_; rintro e w5 ⟨rfl, hb5⟩; clear x0 x1 x2 y0 y1 z0 z1 hs; obtain ⟨⟨x0, x1, x2⟩, ⟨y0, y1⟩, ⟨z0, z1⟩, hs, hB⟩ := HXW w5 (bt (HK.out.2.2.2.2.2.trans (HB.out.mono (by have := HK.out; simp; omega))) (bt (bxn _ _) hb5)); have B5 : Hid (Below w.heap.size w w5) := hB; clear CC hb5 hB)
            refine bodyPost_ret (v := .tuple #[.agg #[.string ⟨#[]⟩, .slice none 0 0], .int .i64 er]) (by simp [results, Tryd.results31, go_sem]; go_simp) rfl ?_
            exact HPN.out er _ ER.out HH.out (setTwo_below B5.out (by omega))
        · have hiz : ¬ (i : Int) < vs.length := by omega
          have E : Hid (factE cs ⟨t, nm, vs⟩ = 0) := EF.out.trans (valsE_all (by omega) HE.out)
          have e0 : wr.cell? ⟨w3.heap.size, 0, none⟩ = some (.string (st k.nm)) := (HB.out.cell (p := ⟨w3.heap.size, 0, none⟩) HK.out.2.1).trans HK.out.2.2.2.1
          have e1 : wr.cell? ⟨w3.heap.size, 1, none⟩ = some (.slice a vs.length c) := (HB.out.cell (p := ⟨w3.heap.size, 1, none⟩) HK.out.2.1).trans HK.out.2.2.2.2.1
          go_wp2
          refine bodyPost_ret (v := .tuple #[.agg #[.string (st k.nm), .slice a vs.length c], .int .i64 0]) (by simp [results, Tryd.results31, go_sem]; go_simp) rfl ?_
          exact HPS.out a c _ E.out (setTwo_below HW.out (by omega)) ((SlW.two (b := w.heap.size + 1) (SlW.keep (P := fun _ => _) (k := 0) (Stays.below HB.out) S0.out) (fun k hk => by have := hk.1; omega)).imp fun _ _ _ => trivial)
end Go.Proofs.YtpmhilaochfpaaaDoor
