import Derived.Test.YtpmhilaochfpaaaDoorV15
import Derived.Test.YtpmhilaochfpaaaDoorV14
import Derived.Test.YtpmhilaochfpaaaDoorV12
import Derived.Test.YtpmhilaochfpaaaDoorV18
import Derived.Deep.RegionHeld3
import Derived.BigQuiet
import Derived.Deep.QuietTactic
import Derived.Deep.RegionWith
namespace Go.Proofs.YtpmhilaochfpaaaDoor
set_option maxRecDepth 20000
set_option maxRecDepth 20000
open Go.RowKit
set_option linter.unusedVariables false
set_option linter.unusedSimpArgs false
theorem info42 : (Tryd.prog.info? 52).map (fun i => (i.zero, i.size, i.bytes)) = some (some (.agg #[.int .u8 0, .int .i64 0, .string ⟨#[]⟩]), 3, 32) := by kernel_rfl
theorem clV_len {xs : List VD} : ∀ c ∈ xs.map clV, c.length = 3 := fun c hc => by obtain ⟨x, _, rfl⟩ := List.mem_map.1 hc; rfl
theorem clV_one {xs : List VD} : ∀ c ∈ xs.map clV, ∀ u ∈ c, u.oneCell' = true := fun c hc u hu => by
  obtain ⟨x, _, rfl⟩ := List.mem_map.1 hc
  simp only [clV, List.mem_cons, List.not_mem_nil, or_false] at hu
  rcases hu with rfl | rfl | rfl <;> rfl
abbrev OwnV (w : World) (base : Nat) (v : Value) (xs : List VD) : Prop := OwnN 52 3 w base v (xs.map clV)
theorem istag_any (t : Int) (w : World) : Calls Tryd.prog 46 #[.int .i64 t] w fun e w' => e = .returned (.bool (tagB t)) ∧ Below w.heap.size w w' := by
  by_cases h : 1 ≤ t ∧ t ≤ 1099511627776
  · have e : Hid (tagB t = true) := decide_eq_true h
    obtain ⟨h1, h2⟩ := h
    go_enter Tryd.func46, Tryd.ntmps46
    go_wp2
    go_ret
    exact ⟨by rw [e.out]; rfl, Below.refl _ _⟩
  · have e : Hid (tagB t = false) := decide_eq_false h
    by_cases h1 : 1 ≤ t
    · have h2 : ¬ t ≤ 1099511627776 := fun h2 => h ⟨h1, h2⟩
      clear h
      go_enter Tryd.func46, Tryd.ntmps46
      go_wp2
      go_ret
      exact ⟨by rw [e.out]; rfl, Below.refl _ _⟩
    · clear h
      go_enter Tryd.func46, Tryd.ntmps46
      go_wp2
      go_ret
      exact ⟨by rw [e.out]; rfl, Below.refl _ _⟩
end Go.Proofs.YtpmhilaochfpaaaDoor
namespace Go.Proofs.YtpmhilaochfpaaaDoor
set_option maxRecDepth 20000
set_option maxRecDepth 20000
open Go.RowKit
set_option linter.unusedVariables false
set_option linter.unusedSimpArgs false
def fV (x : VD) : Prop := 0 ≤ x.k ∧ x.k ≤ 255 ∧ x.s.length ≤ 100000
theorem check_v (x : VD) (w : World) (h : fV x) (hV : Vars w) :
    Calls Tryd.prog 37 #[.agg #[.int .u8 x.k, .int .i64 x.n, .string (st x.s)]] w fun e w' => e = .returned (.int .i64 (chkV x)) ∧ Below w.heap.size w w' := by
  have := chk_any x.k x.n (st x.s) w h.1 h.2.1 (by rw [st_size]; have := h.2.2; omega) hV
  rw [st_list] at this
  exact this
theorem rcheck_v (x : VD) (w : World) (h : fV x) :
    Calls Tryd.prog 40 #[.agg #[.int .u8 x.k, .int .i64 x.n, .string (st x.s)]] w fun e w' => e = .returned (.int .i64 (chkV x)) ∧ Below w.heap.size w w' := by
  have := rchk_any x.k x.n (st x.s) w h.1 h.2.1 (by rw [st_size]; have := h.2.2; omega)
  rw [st_list] at this
  exact this
def CO (w : World) (cs : List ClassD) (f : FactD) (e : Ending) (w' : World) : Prop := Below w.heap.size w w' ∧
  ((factE cs f ≠ 0 ∧ e = .returned (.tuple #[.agg #[.string ⟨#[]⟩, .slice none 0 0], .int .i64 (factE cs f)])) ∨
   (factE cs f = 0 ∧ ∃ k a c, findC cs f.c = some k ∧ f.vs.length = k.attrs.length ∧ e = .returned (.tuple #[.agg #[.string (st k.nm), .slice a k.attrs.length c], .int .i64 0]) ∧ SlW 1 w' (fun _ => True) (.slice a k.attrs.length c) (k.attrs.map clS)))
theorem setTwo_below {w w1 : World} {B b : Nat} {x y : Value} (h : Below B w w1) (hb : B ≤ b) : Below B w ((w1.setCell ⟨b, 0, none⟩ x).setCell ⟨b, 1, none⟩ y) := (h.setCell hb _).setCell hb _
theorem SlW.two {n : Nat} {w : World} {P : Nat → Prop} {v : Value} {css : List (List Value)} {b : Nat} {x y : Value} (h : SlW n w P v css) (hP : ∀ k, P k → k ≠ b) : SlW n ((w.setCell ⟨b, 0, none⟩ x).setCell ⟨b, 1, none⟩ y) P v css := by
  obtain ⟨a, cap, h1, h2, h3, h4⟩ := h
  refine ⟨a, cap, h1, h2, h3, ?_⟩
  rcases h4 with h4 | ⟨k, off, e, hk, hp, hc⟩
  · exact .inl h4
  · refine .inr ⟨k, off, e, by simpa using hk, hp, fun i j hi hj => ?_⟩
    rw [← hc i j hi hj]
    have hne := hP k hp
    have h2 : ((w.setCell ⟨b, 0, none⟩ x).setCell ⟨b, 1, none⟩ y).heap[k]? = w.heap[k]? := (Below.heap_setCell _ ⟨b, 1, none⟩ _ k hne).trans (Below.heap_setCell w ⟨b, 0, none⟩ _ k hne)
    simp only [World.cell?, h2]
set_option maxHeartbeats 8000000 in
theorem classOf_any {P : Nat → Nat → Prop} {Q Q2 : Nat → Prop} (v u : Value) (cs : List ClassD) (f : FactD) (w : World) (h : Row 2 (ReK P) w Q v cs) (hL : ∀ c ∈ cs, c.attrs.length ≤ 100000)
    (hf : SlW 3 w Q2 u (f.vs.map clV)) (hv : ∀ x ∈ f.vs, fV x) (hV : Vars w) :
    Calls Tryd.prog 31 #[v, .agg #[.int .i64 f.t, .string (st f.c), u]] w (CO w cs f) := by
  generalize hPO : CO w cs f = PO
  have HPN : Hid (∀ er w', factE cs f = er → er ≠ 0 → Below w.heap.size w w' → PO (.returned (.tuple #[.agg #[.string ⟨#[]⟩, .slice none 0 0], .int .i64 er])) w') := fun er w' he h0 hb => by
    rw [← hPO]; subst he; exact ⟨hb, .inl ⟨h0, rfl⟩⟩
  have HPS : Hid (∀ k a c w', factE cs f = 0 → findC cs f.c = some k → f.vs.length = k.attrs.length → Below w.heap.size w w' → SlW 1 w' (fun _ => True) (.slice a k.attrs.length c) (k.attrs.map clS) → PO (.returned (.tuple #[.agg #[.string (st k.nm), .slice a k.attrs.length c], .int .i64 0])) w') := fun k a c w' he hk hl hb hs => by
    rw [← hPO]; exact ⟨hb, .inr ⟨he, k, a, c, hk, hl, rfl, hs⟩⟩
  clear hPO
  obtain ⟨a2, c2, rfl⟩ := hf.shape
  obtain ⟨-, l2, m2, r2⟩ := hf.at v00
  rw [List.length_map] at *
  obtain ⟨t, nm, vs⟩ := f
  simp only at *
  have R2 : Hid (∀ i, i < vs.length → ∃ b off, a2 = some ⟨b, off, none⟩ ∧ b < w.heap.size ∧ ∀ j, j < 3 → w.cell? ⟨b, off + (i * 3 + j), none⟩ = (clV (vs.getD i v00))[j]?) := r2
  have HV : Hid (∀ x ∈ vs, fV x) := hv
  have HVs : Hid (Vars w) := hV
  have hn2 : (vs.length : Int) ≤ 9223372036854775807 := by omega
  clear r2 hf hv hV
  have CT := fun W => istag_any t W
  have CFi : Hid (∀ W, Below w.heap.size w W → Calls Tryd.prog 47 #[v, .string (st nm)] W (FO W (findC cs nm))) := fun W hW => find_any v cs nm W (rowK_keep h hW) hL
  clear h hL
  have HX : Hid (∀ W, Below ((w.alloc (.cells #[.int .i64 t, .string (st nm), .slice a2 vs.length c2] 36)).alloc (.cells #[.string ⟨#[]⟩, .slice none 0 0] 50)).heap.size ((w.alloc (.cells #[.int .i64 t, .string (st nm), .slice a2 vs.length c2] 36)).alloc (.cells #[.string ⟨#[]⟩, .slice none 0 0] 50)) W →
      (W.cell? ⟨w.heap.size, 0, none⟩ = some (.int .i64 t) ∧ W.cell? ⟨w.heap.size, 1, none⟩ = some (.string (st nm)) ∧ W.cell? ⟨w.heap.size, 2, none⟩ = some (.slice a2 vs.length c2)) ∧
      (W.cell? ⟨w.heap.size + 1, 0, none⟩ = some (.string ⟨#[]⟩) ∧ W.cell? ⟨w.heap.size + 1, 1, none⟩ = some (.slice none 0 0)) ∧
      (W.frozen? ⟨w.heap.size + 1, 0, none⟩ = false ∧ W.frozen? ⟨w.heap.size + 1, 1, none⟩ = false) ∧ w.heap.size + 1 < W.heap.size ∧ Below w.heap.size w W) := fun W hW => by
    have f0 : ((w.alloc (.cells #[.int .i64 t, .string (st nm), .slice a2 vs.length c2] 36)).alloc (.cells #[.string ⟨#[]⟩, .slice none 0 0] 50)).frozen? ⟨w.heap.size + 1, 0, none⟩ = false := by go_simp
    have f1 : ((w.alloc (.cells #[.int .i64 t, .string (st nm), .slice a2 vs.length c2] 36)).alloc (.cells #[.string ⟨#[]⟩, .slice none 0 0] 50)).frozen? ⟨w.heap.size + 1, 1, none⟩ = false := by go_simp
    refine ⟨⟨(hW.cell (p := ⟨w.heap.size, 0, none⟩) (by simp; omega)).trans (by go_simp), (hW.cell (p := ⟨w.heap.size, 1, none⟩) (by simp; omega)).trans (by go_simp), (hW.cell (p := ⟨w.heap.size, 2, none⟩) (by simp; omega)).trans (by go_simp)⟩, ⟨(hW.cell (p := ⟨w.heap.size + 1, 0, none⟩) (by simp)).trans (by go_simp), (hW.cell (p := ⟨w.heap.size + 1, 1, none⟩) (by simp)).trans (by go_simp)⟩, ⟨?_, ?_⟩, ?_, bt (bt (bxn _ _) (bxn _ _)) hW⟩
    · exact (hW.frozen (p := ⟨w.heap.size + 1, 0, none⟩) (by simp)).trans f0
    · exact (hW.frozen (p := ⟨w.heap.size + 1, 1, none⟩) (by simp)).trans f1
    · have := hW.size; simp at this; omega
  cases htg : tagB t with
  | false =>
    have E : Hid (factE cs ⟨t, nm, vs⟩ = 22) := by show factE _ _ = _; unfold factE; rw [if_pos htg]
    rw [htg] at CT
    clear htg CFi
    go_enter Tryd.func31, Tryd.ntmps31
    go_wp2_with (go_at_call 46; refine (CT _).mono ?_; rintro e w2 ⟨rfl, hb2⟩; obtain ⟨⟨x0, x1, x2⟩, ⟨y0, y1⟩, ⟨z0, z1⟩, hs, hB⟩ := HX.out w2 hb2; have B2 : Hid (Below w.heap.size w w2) := hB; clear CT hb2 hB)
    refine bodyPost_ret (v := .tuple #[.agg #[.string ⟨#[]⟩, .slice none 0 0], .int .i64 22]) (by simp [results, Tryd.results31, go_sem]; go_simp) rfl ?_
    exact HPN.out 22 _ E.out (by decide) (setTwo_below B2.out (by omega))
  | true =>
    rw [htg] at CT
    cases hfc : findC cs nm with
    | none =>
      have E : Hid (factE cs ⟨t, nm, vs⟩ = 18) := by show factE _ _ = _; unfold factE; rw [htg, hfc]; rfl
      rw [hfc] at CFi
      clear htg hfc
      go_enter Tryd.func31, Tryd.ntmps31
      go_wp2_with (first
        | (go_at_call 46; refine (CT _).mono ?_; rintro e w2 ⟨rfl, hb2⟩; obtain ⟨⟨x0, x1, x2⟩, ⟨y0, y1⟩, ⟨z0, z1⟩, hs, hB⟩ := HX.out w2 hb2; have H2 : Hid (Below _ _ w2) := hb2; have B2 : Hid (Below w.heap.size w w2) := hB; have hsz2 := hs; clear CT hb2 hB y0 y1 z0 z1 hs)
        | (go_at_call 47; refine (CFi.out w2 B2.out).mono ?_; rintro e w3 ⟨hb3, rfl⟩; clear x0 x1 x2; obtain ⟨⟨x0, x1, x2⟩, ⟨y0, y1⟩, ⟨z0, z1⟩, hs, hB⟩ := HX.out w3 (bt H2.out hb3); have B3 : Hid (Below w.heap.size w w3) := hB; have HSZ : Hid (w.heap.size + 1 < w3.heap.size) := hs; clear hb3 hB CFi))
      all_goals (
        have hs := HSZ.out
        refine bodyPost_ret (v := .tuple #[.agg #[.string ⟨#[]⟩, .slice none 0 0], .int .i64 18]) (by simp [results, Tryd.results31, go_sem]; go_simp) rfl ?_
        exact HPN.out 18 _ E.out (by decide) (bt (setTwo_below B3.out (by omega)) (bxn _ _)))
    | some k =>
      rw [hfc] at CFi
      by_cases hlen : ¬ vs.length = k.attrs.length
      · have E : Hid (factE cs ⟨t, nm, vs⟩ = 4) := by show factE _ _ = _; unfold factE; rw [htg, hfc]; exact if_pos hlen
        have hne : ((vs.length : Int) == (k.attrs.length : Int)) = false := by rw [beq_eq_false_iff_ne]; omega
        have hne2 : ¬ ((vs.length : Int) = (k.attrs.length : Int)) := by omega
        clear htg hfc
        go_enter Tryd.func31, Tryd.ntmps31
        go_wp2_with (first
          | (go_at_call 46; refine (CT _).mono ?_; rintro e w2 ⟨rfl, hb2⟩; obtain ⟨⟨x0, x1, x2⟩, ⟨y0, y1⟩, ⟨z0, z1⟩, hs, hB⟩ := HX.out w2 hb2; have H2 : Hid (Below _ _ w2) := hb2; have B2 : Hid (Below w.heap.size w w2) := hB; have hsz2 := hs; clear CT hb2 hB y0 y1 z0 z1 hs)
          | (go_at_call 47; refine (CFi.out w2 B2.out).mono ?_; rintro e w3 ⟨hb3, a, c, rfl, hs3⟩; clear x0 x1 x2; obtain ⟨⟨x0, x1, x2⟩, ⟨y0, y1⟩, ⟨z0, z1⟩, hs, hB⟩ := HX.out w3 (bt H2.out hb3); have H3 : Hid (Below _ _ w3) := bt H2.out hb3; have B3 : Hid (Below w.heap.size w w3) := hB; have HSZ : Hid (w.heap.size + 1 < w3.heap.size) := hs;  have x2a : (w3.alloc (.cells #[.string (st k.nm), .slice a k.attrs.length c] 50)).cell? ⟨w.heap.size, 2, none⟩ = some (.slice a2 vs.length c2) := ((bxn w3 _).cell (p := ⟨w.heap.size, 2, none⟩) (by simp; omega)).trans x2; clear hb3 hB CFi hs3))
        all_goals (
          have hs := HSZ.out
          refine bodyPost_ret (v := .tuple #[.agg #[.string ⟨#[]⟩, .slice none 0 0], .int .i64 4]) (by simp [results, Tryd.results31, go_sem]; go_simp) rfl ?_
          exact HPN.out 4 _ E.out (by decide) (bt (setTwo_below B3.out (by omega)) (bxn _ _)))
      have hlen := Classical.not_not.1 hlen
      have HL : Hid (vs.length = k.attrs.length) := hlen
      have EF : Hid (factE cs ⟨t, nm, vs⟩ = valsE vs) := by show factE _ _ = _; unfold factE; rw [htg, hfc]; exact if_neg (Classical.not_not.2 hlen)
      have EK : Hid (findC cs nm = some k) := hfc
      have CFi : Hid (∀ W, Below w.heap.size w W → Calls Tryd.prog 47 #[v, .string (st nm)] W fun e w' => Below W.heap.size W w' ∧ ∃ a c, e = .returned (.tuple #[.agg #[.string (st k.nm), .slice a vs.length c], .bool true]) ∧ SlW 1 w' (fun b => W.heap.size ≤ b) (.slice a vs.length c) (k.attrs.map clS)) := fun W hW => (CFi.out W hW).mono fun e w' h => by rw [hlen]; exact h
      have HPS : Hid (∀ a c w', factE cs ⟨t, nm, vs⟩ = 0 → Below w.heap.size w w' → SlW 1 w' (fun _ => True) (.slice a vs.length c) (k.attrs.map clS) → PO (.returned (.tuple #[.agg #[.string (st k.nm), .slice a vs.length c], .int .i64 0])) w') := fun a c w' h1 h2 h3 => by
        have := HPS.out k a c w' h1 hfc hlen h2
        rw [← hlen] at this
        exact this h3
      clear htg hfc hlen
      go_enter Tryd.func31, Tryd.ntmps31
      go_wp2_with (first
        | (go_at_call 46; refine (CT _).mono ?_; rintro e w2 ⟨rfl, hb2⟩; obtain ⟨⟨x0, x1, x2⟩, ⟨y0, y1⟩, ⟨z0, z1⟩, hs, hB⟩ := HX.out w2 hb2; have H2 : Hid (Below _ _ w2) := hb2; have B2 : Hid (Below w.heap.size w w2) := hB; have hsz2 := hs; clear CT hb2 hB y0 y1 z0 z1 hs)
        | (go_at_call 47; refine (CFi.out w2 B2.out).mono ?_; rintro e w3 ⟨hb3, a, c, rfl, hs3⟩; clear x0 x1 x2; obtain ⟨⟨x0, x1, x2⟩, ⟨y0, y1⟩, ⟨z0, z1⟩, hs, hB⟩ := HX.out w3 (bt H2.out hb3); have H3 : Hid (Below _ _ w3) := bt H2.out hb3; have B3 : Hid (Below w.heap.size w w3) := hB; have HSZ : Hid (w.heap.size + 1 < w3.heap.size) := hs; have S3 : Hid (SlW 1 w3 (fun b => w.heap.size + 1 < b ∧ b < w3.heap.size) (.slice a vs.length c) (k.attrs.map clS)) := hs3.imp (fun k h1 h2 => ⟨Nat.lt_of_lt_of_le hsz2 h2, h1⟩); have x2a : (w3.alloc (.cells #[.string (st k.nm), .slice a vs.length c] 50)).cell? ⟨w.heap.size, 2, none⟩ = some (.slice a2 vs.length c2) := ((bxn w3 _).cell (p := ⟨w.heap.size, 2, none⟩) (by simp; omega)).trans x2; clear hb3 hB CFi hs3))
      obtain ⟨W0, hW0⟩ : ∃ W0, W0 = w3.alloc (.cells #[.string (st k.nm), .slice a vs.length c] 50) := ⟨_, rfl⟩
      have HK : Hid (Below w.heap.size w W0 ∧ w3.heap.size < W0.heap.size ∧ w.heap.size + 1 < w3.heap.size ∧ W0.cell? ⟨w3.heap.size, 0, none⟩ = some (.string (st k.nm)) ∧ W0.cell? ⟨w3.heap.size, 1, none⟩ = some (.slice a vs.length c) ∧ Below ((w.alloc (.cells #[.int .i64 t, .string (st nm), .slice a2 vs.length c2] 36)).alloc (.cells #[.string ⟨#[]⟩, .slice none 0 0] 50)).heap.size ((w.alloc (.cells #[.int .i64 t, .string (st nm), .slice a2 vs.length c2] 36)).alloc (.cells #[.string ⟨#[]⟩, .slice none 0 0] 50)) W0) := by
        subst hW0; exact ⟨bt B3.out (bxn _ _), by simp, HSZ.out, by go_simp, by go_simp, bt H3.out (bxn _ _)⟩
      have S0 : Hid (SlW 1 W0 (fun b => w.heap.size + 1 < b ∧ b < W0.heap.size) (.slice a vs.length c) (k.attrs.map clS)) := (SlW.keep (P := fun _ => _) (k := 0) (by rw [hW0]; exact Stays.below (bxn w3 _)) S3.out).imp (fun k h1 h2 => ⟨h2.1, h1⟩)
      rw [← hW0]
      clear hW0 x2a x0 x1 x2 y0 y1 z0 z1 hs B2 H2 B3 H3 HSZ S3
      go_loopw [9, 10, 37] (fun _ _ v wr => ∃ i : Nat, v = .int .i64 i ∧ i ≤ vs.length ∧ Hid (Below W0.heap.size W0 wr) ∧ Hid (valsE (vs.take i) = 0)) (fun _ _ v _ => (vs.length - intOf v).toNat)
      case atStart => exact ⟨0, rfl, Nat.zero_le _, Below.refl _ _, rfl⟩
      case round =>
        obtain ⟨i, rfl, hi, HB, HE⟩ := hrel
        have HW : Hid (Below w.heap.size w wr) := HK.out.1.trans (HB.out.mono (by have := HK.out; omega))
        obtain ⟨⟨x0, x1, x2⟩, ⟨y0, y1⟩, ⟨z0, z1⟩, hs, -⟩ := HX.out wr (HK.out.2.2.2.2.2.trans (HB.out.mono (by have := HK.out; simp; omega)))
        by_cases hlt : i < vs.length
        · have hiz : (i : Int) < vs.length := by omega
          obtain ⟨b1, o1, rfl, hb1, q1⟩ := R2.out i hlt
          have d0 : wr.cell? ⟨b1, o1 + i * 3, none⟩ = (clV (vs.getD i v00))[0]? := (HW.out.cell (p := ⟨b1, o1 + i * 3, none⟩) hb1).trans (q1 0 (by decide))
          have d1 : wr.cell? ⟨b1, o1 + i * 3 + 1, none⟩ = (clV (vs.getD i v00))[1]? := (HW.out.cell (p := ⟨b1, o1 + i * 3 + 1, none⟩) hb1).trans (q1 1 (by decide))
          have d2 : wr.cell? ⟨b1, o1 + i * 3 + 2, none⟩ = (clV (vs.getD i v00))[2]? := (HW.out.cell (p := ⟨b1, o1 + i * 3 + 2, none⟩) hb1).trans (q1 2 (by decide))
          clear q1
          have HN := valsE_next hlt HE.out
          have HR := fun h => valsE_err hlt HE.out h
          have hfv : fV (vs.getD i v00) := by rw [List.getD_eq_getElem?_getD, List.getElem?_eq_getElem hlt]; exact HV.out _ (List.getElem_mem hlt)
          generalize vs.getD i v00 = x at *
          have CC := check_v x (wr.alloc (.cells #[.int .u8 x.k, .int .i64 x.n, .string (st x.s)] 52)) hfv (HVs.out.below (bt HW.out (bxn _ _)))
          clear hfv
          simp only [clV, List.getElem?_cons_zero, List.getElem?_cons_succ] at d0 d1 d2
          have HXW := HX.out
          by_cases hx : chkV x = 0
          · have HE2 : Hid (valsE (vs.take (i + 1)) = 0) := HN.trans hx
            rw [hx] at CC
            clear HN HR hx
            go_wp2_with (go_at_call 37; refine CC.mono ?_; rintro e w5 ⟨rfl, hb5⟩; have B5 : Hid (Below W0.heap.size W0 w5) := bt HB.out (bt (bxn _ _) hb5); clear CC hb5)
            go_roundw
            case rel => exact ⟨i + 1, by simp, by omega, B5.out, HE2.out⟩
            case measure => simp [intOf]; omega
          · have ER : Hid (factE cs ⟨t, nm, vs⟩ = chkV x) := EF.out.trans (HR hx)
            have HH : Hid (chkV x ≠ 0) := hx
            generalize chkV x = er at *
            clear HN HR
            go_wp2_with (go_at_call 37; refine CC.mono ?_; rintro e w5 ⟨rfl, hb5⟩; clear x0 x1 x2 y0 y1 z0 z1 hs; obtain ⟨⟨x0, x1, x2⟩, ⟨y0, y1⟩, ⟨z0, z1⟩, hs, hB⟩ := HXW w5 (bt (HK.out.2.2.2.2.2.trans (HB.out.mono (by have := HK.out; simp; omega))) (bt (bxn _ _) hb5)); have B5 : Hid (Below w.heap.size w w5) := hB; clear CC hb5 hB)
            refine bodyPost_ret (v := .tuple #[.agg #[.string ⟨#[]⟩, .slice none 0 0], .int .i64 er]) (by simp [results, Tryd.results31, go_sem]; go_simp) rfl ?_
            exact HPN.out er _ ER.out HH.out (setTwo_below B5.out (by omega))
        · have hiz : ¬ (i : Int) < vs.length := by omega
          have E : Hid (factE cs ⟨t, nm, vs⟩ = 0) := EF.out.trans (valsE_all (by omega) HE.out)
          have e0 : wr.cell? ⟨w3.heap.size, 0, none⟩ = some (.string (st k.nm)) := (HB.out.cell (p := ⟨w3.heap.size, 0, none⟩) HK.out.2.1).trans HK.out.2.2.2.1
          have e1 : wr.cell? ⟨w3.heap.size, 1, none⟩ = some (.slice a vs.length c) := (HB.out.cell (p := ⟨w3.heap.size, 1, none⟩) HK.out.2.1).trans HK.out.2.2.2.2.1
          go_wp2
          refine bodyPost_ret (v := .tuple #[.agg #[.string (st k.nm), .slice a vs.length c], .int .i64 0]) (by simp [results, Tryd.results31, go_sem]; go_simp) rfl ?_
          exact HPS.out a c _ E.out (setTwo_below HW.out (by omega)) ((SlW.two (b := w.heap.size + 1) (SlW.keep (P := fun _ => _) (k := 0) (Stays.below HB.out) S0.out) (fun k hk => by have := hk.1; omega)).imp fun _ _ _ => trivial)
end Go.Proofs.YtpmhilaochfpaaaDoor
namespace Go.Proofs.YtpmhilaochfpaaaDoor
set_option maxRecDepth 20000
set_option maxRecDepth 20000
open Go.RowKit
set_option linter.unusedVariables false
set_option linter.unusedSimpArgs false
set_option maxHeartbeats 4000000 in
theorem check_any {P : Nat → Nat → Prop} {Q Q2 : Nat → Prop} (v u : Value) (cs : List ClassD) (f : FactD) (w : World) (h : Row 2 (ReK P) w Q v cs) (hL : ∀ c ∈ cs, c.attrs.length ≤ 100000)
    (hf : SlW 3 w Q2 u (f.vs.map clV)) (hv : ∀ x ∈ f.vs, fV x) (hV : Vars w) :
    Calls Tryd.prog 17 #[v, .agg #[.int .i64 f.t, .string (st f.c), u]] w fun e w' => e = .returned (.int .i64 (factE cs f)) ∧ Below w.heap.size w w' := by
  obtain ⟨a2, c2, rfl⟩ := hf.shape
  have C25 := classOf_any v _ cs f (w.alloc (.cells #[.int .i64 f.t, .string (st f.c), .slice a2 (f.vs.map clV).length c2] 36)) (rowK_keep h (bxn _ _)) hL (hf.bl (bxn _ _)) hv (hV.below (bxn _ _))
  rw [List.length_map] at *
  clear h hL hf hv hV
  go_enter Tryd.func17, Tryd.ntmps17
  go_wp2_with (go_at_call 31; refine C25.mono ?_; rintro e w2 ⟨hb2, ⟨h0, rfl⟩ | ⟨h0, k, a, c, hk, hl, rfl, hs⟩⟩ <;> (have B2 : Hid (Below w.heap.size w w2) := bt (bxn _ _) hb2; have E0 := h0; have E : Hid _ := E0; clear C25 hb2 h0 E0))
  all_goals (
    go_ret
    first
      | exact ⟨rfl, bt B2.out (bxn _ _)⟩
      | exact ⟨by rw [E.out]; rfl, bt B2.out (bxn _ _)⟩)
end Go.Proofs.YtpmhilaochfpaaaDoor
namespace Go.Proofs.YtpmhilaochfpaaaDoor
set_option maxRecDepth 20000
set_option maxRecDepth 20000
open Go.RowKit
set_option linter.unusedVariables false
set_option linter.unusedSimpArgs false
theorem factE_fit {cs : List ClassD} {f : FactD} (h : factE cs f = 0) : tagB f.t = true ∧ ∃ k, findC cs f.c = some k ∧ f.vs.length = k.attrs.length ∧ valsE f.vs = 0 := by
  unfold factE at h
  cases htg : tagB f.t with
  | false => rw [htg, if_pos rfl] at h; exact absurd h (by decide)
  | true =>
    rw [htg, if_neg (by decide)] at h
    cases hfc : findC cs f.c with
    | none => rw [hfc] at h; have h' : (18 : Int) = 0 := h; exact absurd h' (by decide)
    | some k =>
      rw [hfc] at h
      refine ⟨rfl, k, rfl, ?_⟩
      by_cases hl : f.vs.length = k.attrs.length
      · have h' : (if f.vs.length ≠ k.attrs.length then (4 : Int) else valsE f.vs) = 0 := h
        rw [if_neg (fun x => x hl)] at h'
        exact ⟨hl, h'⟩
      · have h' : (if f.vs.length ≠ k.attrs.length then (4 : Int) else valsE f.vs) = 0 := h
        rw [if_pos hl] at h'
        exact absurd h' (by decide)
set_option maxHeartbeats 8000000 in
theorem rcheckF_any {P : Nat → Nat → Prop} {Q Q2 : Nat → Prop} (v u : Value) (cs : List ClassD) (f : FactD) (w : World) (h : Row 2 (ReK P) w Q v cs)
    (hf : SlW 3 w Q2 u (f.vs.map clV)) (hv : ∀ x ∈ f.vs, fV x) :
    Calls Tryd.prog 26 #[v, .agg #[.int .i64 f.t, .string (st f.c), u]] w fun e w' => e = .returned (.int .i64 (factE cs f)) ∧ Below w.heap.size w w' := by
  generalize hR : factE cs f = r
  obtain ⟨a2, c2, rfl⟩ := hf.shape
  obtain ⟨-, l2, m2, r2⟩ := hf.at v00
  obtain ⟨t, nm, vs⟩ := f
  have C24 := rfind_any v cs nm (w.alloc (.cells #[.int .i64 t, .string (st nm), .slice a2 (vs.map clV).length c2] 36)) (rowK_keep h (bxn _ _))
  simp only [List.length_map] at *
  have R2 : Hid (∀ i, i < vs.length → ∃ b off, a2 = some ⟨b, off, none⟩ ∧ b < w.heap.size ∧ ∀ j, j < 3 → w.cell? ⟨b, off + (i * 3 + j), none⟩ = (clV (vs.getD i v00))[j]?) := r2
  have HV : Hid (∀ x ∈ vs, fV x) := hv
  clear h hf hv r2
  have HX : Hid (∀ W, Below (w.alloc (.cells #[.int .i64 t, .string (st nm), .slice a2 vs.length c2] 36)).heap.size (w.alloc (.cells #[.int .i64 t, .string (st nm), .slice a2 vs.length c2] 36)) W →
      W.cell? ⟨w.heap.size, 0, none⟩ = some (.int .i64 t) ∧
      W.cell? ⟨w.heap.size, 1, none⟩ = some (.string (st nm)) ∧
      W.cell? ⟨w.heap.size, 2, none⟩ = some (.slice a2 vs.length c2) ∧
      w.heap.size < W.heap.size ∧
      Below w.heap.size w W) := fun W hW =>
    ⟨(hW.cell (p := ⟨w.heap.size, 0, none⟩) (by simp; try omega)).trans (by go_simp),
     (hW.cell (p := ⟨w.heap.size, 1, none⟩) (by simp; try omega)).trans (by go_simp),
     (hW.cell (p := ⟨w.heap.size, 2, none⟩) (by simp; try omega)).trans (by go_simp),
     (by have := hW.size; simp at this; omega),
     bt (bxn _ _) hW⟩
  have HR : Hid (∀ q, factE cs ⟨t, nm, vs⟩ = q → r = q) := fun q hq => hR.symm.trans hq
  clear hR
  cases hfc : findC cs nm with
  | none =>
    rw [hfc] at C24
    have C : Calls Tryd.prog 39 #[v, .string (st nm)] (w.alloc (.cells #[.int .i64 t, .string (st nm), .slice a2 vs.length c2] 36)) fun e w' => e = .returned (.tuple #[.agg #[.string ⟨#[]⟩, .slice none 0 0], .bool false]) ∧ Below (w.alloc (.cells #[.int .i64 t, .string (st nm), .slice a2 vs.length c2] 36)).heap.size (w.alloc (.cells #[.int .i64 t, .string (st nm), .slice a2 vs.length c2] 36)) w' := C24.mono fun e w' h => ⟨h.2, h.1⟩
    clear C24
    by_cases h1 : t < 1
    · have E : Hid (r = 22) := HR.out _ (by unfold factE tagB; rw [if_pos (decide_eq_false (by simp only; omega))])
      clear HR
      go_enter Tryd.func26, Tryd.ntmps26
      go_wp2_with (go_at_call 39; refine C.mono ?_; rintro e w2 ⟨rfl, hb2⟩; obtain ⟨x00, x01, x02, hs, hB⟩ := HX.out w2 (hb2); have B2 : Hid (Below w.heap.size w w2) := hB; clear hB; have x0a : (w2.alloc (.cells #[.string ⟨#[]⟩, .slice none 0 0] 50)).cell? ⟨w.heap.size, 0, none⟩ = some (.int .i64 t) := ((bxn w2 _).cell (p := ⟨w.heap.size, 0, none⟩) (by simp; omega)).trans x00; have x2a : (w2.alloc (.cells #[.string ⟨#[]⟩, .slice none 0 0] 50)).cell? ⟨w.heap.size, 2, none⟩ = some (.slice a2 vs.length c2) := ((bxn w2 _).cell (p := ⟨w.heap.size, 2, none⟩) (by simp; omega)).trans x02; clear C hb2)
      all_goals (go_ret; exact ⟨by rw [E.out]; rfl, bt B2.out (bxn _ _)⟩)
    by_cases h2 : 1099511627776 < t
    · have E : Hid (r = 22) := HR.out _ (by unfold factE tagB; rw [if_pos (decide_eq_false (by simp only; omega))])
      clear HR
      go_enter Tryd.func26, Tryd.ntmps26
      go_wp2_with (go_at_call 39; refine C.mono ?_; rintro e w2 ⟨rfl, hb2⟩; obtain ⟨x00, x01, x02, hs, hB⟩ := HX.out w2 (hb2); have B2 : Hid (Below w.heap.size w w2) := hB; clear hB; have x0a : (w2.alloc (.cells #[.string ⟨#[]⟩, .slice none 0 0] 50)).cell? ⟨w.heap.size, 0, none⟩ = some (.int .i64 t) := ((bxn w2 _).cell (p := ⟨w.heap.size, 0, none⟩) (by simp; omega)).trans x00; have x2a : (w2.alloc (.cells #[.string ⟨#[]⟩, .slice none 0 0] 50)).cell? ⟨w.heap.size, 2, none⟩ = some (.slice a2 vs.length c2) := ((bxn w2 _).cell (p := ⟨w.heap.size, 2, none⟩) (by simp; omega)).trans x02; clear C hb2)
      all_goals (go_ret; exact ⟨by rw [E.out]; rfl, bt B2.out (bxn _ _)⟩)
    · have E : Hid (r = 18) := HR.out _ (by unfold factE tagB; rw [if_neg (by rw [decide_eq_true (by simp only; omega)]; decide), hfc])
      clear HR
      go_enter Tryd.func26, Tryd.ntmps26
      go_wp2_with (go_at_call 39; refine C.mono ?_; rintro e w2 ⟨rfl, hb2⟩; obtain ⟨x00, x01, x02, hs, hB⟩ := HX.out w2 (hb2); have B2 : Hid (Below w.heap.size w w2) := hB; clear hB; have x0a : (w2.alloc (.cells #[.string ⟨#[]⟩, .slice none 0 0] 50)).cell? ⟨w.heap.size, 0, none⟩ = some (.int .i64 t) := ((bxn w2 _).cell (p := ⟨w.heap.size, 0, none⟩) (by simp; omega)).trans x00; have x2a : (w2.alloc (.cells #[.string ⟨#[]⟩, .slice none 0 0] 50)).cell? ⟨w.heap.size, 2, none⟩ = some (.slice a2 vs.length c2) := ((bxn w2 _).cell (p := ⟨w.heap.size, 2, none⟩) (by simp; omega)).trans x02; clear C hb2)
      all_goals (go_ret; exact ⟨by rw [E.out]; rfl, bt B2.out (bxn _ _)⟩)
  | some k =>
    rw [hfc] at C24
    have C : Calls Tryd.prog 39 #[v, .string (st nm)] (w.alloc (.cells #[.int .i64 t, .string (st nm), .slice a2 vs.length c2] 36)) fun e w' => ∃ a c, e = .returned (.tuple #[.agg #[.string (st k.nm), .slice a k.attrs.length c], .bool true]) ∧ Below (w.alloc (.cells #[.int .i64 t, .string (st nm), .slice a2 vs.length c2] 36)).heap.size (w.alloc (.cells #[.int .i64 t, .string (st nm), .slice a2 vs.length c2] 36)) w' := C24.mono fun e w' h => by
      obtain ⟨a, c, e1, _⟩ := h.2
      exact ⟨a, c, e1, h.1⟩
    clear C24
    by_cases h1 : t < 1
    · have E : Hid (r = 22) := HR.out _ (by unfold factE tagB; rw [if_pos (decide_eq_false (by simp only; omega))])
      clear HR
      go_enter Tryd.func26, Tryd.ntmps26
      go_wp2_with (go_at_call 39; refine C.mono ?_; rintro e w2 ⟨a, c, rfl, hb2⟩; obtain ⟨x00, x01, x02, hs, hB⟩ := HX.out w2 (hb2); have B2 : Hid (Below w.heap.size w w2) := hB; clear hB; have x0a : (w2.alloc (.cells #[.string (st k.nm), .slice a k.attrs.length c] 50)).cell? ⟨w.heap.size, 0, none⟩ = some (.int .i64 t) := ((bxn w2 _).cell (p := ⟨w.heap.size, 0, none⟩) (by simp; omega)).trans x00; have x2a : (w2.alloc (.cells #[.string (st k.nm), .slice a k.attrs.length c] 50)).cell? ⟨w.heap.size, 2, none⟩ = some (.slice a2 vs.length c2) := ((bxn w2 _).cell (p := ⟨w.heap.size, 2, none⟩) (by simp; omega)).trans x02; clear C hb2)
      all_goals (go_ret; exact ⟨by rw [E.out]; rfl, bt B2.out (bxn _ _)⟩)
    by_cases h2 : 1099511627776 < t
    · have E : Hid (r = 22) := HR.out _ (by unfold factE tagB; rw [if_pos (decide_eq_false (by simp only; omega))])
      clear HR
      go_enter Tryd.func26, Tryd.ntmps26
      go_wp2_with (go_at_call 39; refine C.mono ?_; rintro e w2 ⟨a, c, rfl, hb2⟩; obtain ⟨x00, x01, x02, hs, hB⟩ := HX.out w2 (hb2); have B2 : Hid (Below w.heap.size w w2) := hB; clear hB; have x0a : (w2.alloc (.cells #[.string (st k.nm), .slice a k.attrs.length c] 50)).cell? ⟨w.heap.size, 0, none⟩ = some (.int .i64 t) := ((bxn w2 _).cell (p := ⟨w.heap.size, 0, none⟩) (by simp; omega)).trans x00; have x2a : (w2.alloc (.cells #[.string (st k.nm), .slice a k.attrs.length c] 50)).cell? ⟨w.heap.size, 2, none⟩ = some (.slice a2 vs.length c2) := ((bxn w2 _).cell (p := ⟨w.heap.size, 2, none⟩) (by simp; omega)).trans x02; clear C hb2)
      all_goals (go_ret; exact ⟨by rw [E.out]; rfl, bt B2.out (bxn _ _)⟩)
    have EF : factE cs ⟨t, nm, vs⟩ = if vs.length ≠ k.attrs.length then 4 else valsE vs := by unfold factE tagB; rw [if_neg (by rw [decide_eq_true (by simp only; omega)]; decide), hfc]
    by_cases hl : ¬ vs.length = k.attrs.length
    · have E : Hid (r = 4) := HR.out _ (EF.trans (if_pos hl))
      have hne : ((vs.length : Int) == (k.attrs.length : Int)) = false := by rw [beq_eq_false_iff_ne]; omega
      have hne2 : ¬ ((vs.length : Int) = (k.attrs.length : Int)) := by omega
      clear EF
      clear HR
      go_enter Tryd.func26, Tryd.ntmps26
      go_wp2_with (go_at_call 39; refine C.mono ?_; rintro e w2 ⟨a, c, rfl, hb2⟩; obtain ⟨x00, x01, x02, hs, hB⟩ := HX.out w2 (hb2); have B2 : Hid (Below w.heap.size w w2) := hB; clear hB; have x0a : (w2.alloc (.cells #[.string (st k.nm), .slice a k.attrs.length c] 50)).cell? ⟨w.heap.size, 0, none⟩ = some (.int .i64 t) := ((bxn w2 _).cell (p := ⟨w.heap.size, 0, none⟩) (by simp; omega)).trans x00; have x2a : (w2.alloc (.cells #[.string (st k.nm), .slice a k.attrs.length c] 50)).cell? ⟨w.heap.size, 2, none⟩ = some (.slice a2 vs.length c2) := ((bxn w2 _).cell (p := ⟨w.heap.size, 2, none⟩) (by simp; omega)).trans x02; clear C hb2)
      all_goals (go_ret; exact ⟨by rw [E.out]; rfl, bt B2.out (bxn _ _)⟩)
    have hl := Classical.not_not.1 hl
    have EV : Hid (∀ q, valsE vs = q → r = q) := fun q hq => HR.out _ ((EF.trans (if_neg (fun x => x hl))).trans hq)
    rw [← hl] at C
    have hn2 : (vs.length : Int) ≤ 9223372036854775807 := by omega
    clear EF hl HR
    go_enter Tryd.func26, Tryd.ntmps26
    go_wp2_with (go_at_call 39; refine C.mono ?_; rintro e w2 ⟨a, c, rfl, hb2⟩; have H2 : Hid (Below (w.alloc (.cells #[.int .i64 t, .string (st nm), .slice a2 vs.length c2] 36)).heap.size (w.alloc (.cells #[.int .i64 t, .string (st nm), .slice a2 vs.length c2] 36)) w2) := hb2; obtain ⟨x00, x01, x02, hs, hB⟩ := HX.out w2 (hb2); have B2 : Hid (Below w.heap.size w w2) := hB; clear hB; have x2a : (w2.alloc (.cells #[.string (st k.nm), .slice a vs.length c] 50)).cell? ⟨w.heap.size, 2, none⟩ = some (.slice a2 vs.length c2) := ((bxn w2 _).cell (p := ⟨w.heap.size, 2, none⟩) (by simp; omega)).trans x02; have x0a : (w2.alloc (.cells #[.string (st k.nm), .slice a vs.length c] 50)).cell? ⟨w.heap.size, 0, none⟩ = some (.int .i64 t) := ((bxn w2 _).cell (p := ⟨w.heap.size, 0, none⟩) (by simp; omega)).trans x00; clear C hb2)
    obtain ⟨W0, hW0⟩ : ∃ W0, W0 = w2.alloc (.cells #[.string (st k.nm), .slice a vs.length c] 50) := ⟨_, rfl⟩
    have HK : Hid (Below w.heap.size w W0 ∧ Below (w.alloc (.cells #[.int .i64 t, .string (st nm), .slice a2 vs.length c2] 36)).heap.size (w.alloc (.cells #[.int .i64 t, .string (st nm), .slice a2 vs.length c2] 36)) W0) := by subst hW0; exact ⟨bt B2.out (bxn _ _), bt H2.out (bxn _ _)⟩
    rw [← hW0]
    clear hW0 x2a x0a H2 B2 x00 x01 x02 hs
    go_loopw [7, 8] (fun v _ wr => ∃ i : Nat, v = .int .i64 i ∧ i ≤ vs.length ∧ Hid (Below W0.heap.size W0 wr) ∧ Hid (valsE (vs.take i) = 0)) (fun v _ _ => (vs.length - intOf v).toNat)
    case atStart => exact ⟨0, rfl, Nat.zero_le _, Below.refl _ _, rfl⟩
    case round =>
      obtain ⟨i, rfl, hi, HB, HE⟩ := hrel
      have HW : Hid (Below w.heap.size w wr) := HK.out.1.trans (HB.out.mono HK.out.1.size)
      obtain ⟨x00, x01, x02, hs, -⟩ := HX.out wr (HK.out.2.trans (HB.out.mono HK.out.2.size))
      by_cases hlt : i < vs.length
      · have hiz : (i : Int) < vs.length := by omega
        obtain ⟨b1, o1, rfl, hb1, q1⟩ := R2.out i hlt
        have d0 : wr.cell? ⟨b1, o1 + i * 3, none⟩ = (clV (vs.getD i v00))[0]? := (HW.out.cell (p := ⟨b1, o1 + i * 3, none⟩) hb1).trans (q1 0 (by decide))
        have d1 : wr.cell? ⟨b1, o1 + i * 3 + 1, none⟩ = (clV (vs.getD i v00))[1]? := (HW.out.cell (p := ⟨b1, o1 + i * 3 + 1, none⟩) hb1).trans (q1 1 (by decide))
        have d2 : wr.cell? ⟨b1, o1 + i * 3 + 2, none⟩ = (clV (vs.getD i v00))[2]? := (HW.out.cell (p := ⟨b1, o1 + i * 3 + 2, none⟩) hb1).trans (q1 2 (by decide))
        clear q1
        have HN := valsE_next hlt HE.out
        have HRr := fun h => valsE_err hlt HE.out h
        have hfv : fV (vs.getD i v00) := by rw [List.getD_eq_getElem?_getD, List.getElem?_eq_getElem hlt]; exact HV.out _ (List.getElem_mem hlt)
        generalize vs.getD i v00 = x at *
        have CC := rcheck_v x wr hfv
        clear hfv
        simp only [clV, List.getElem?_cons_zero, List.getElem?_cons_succ] at d0 d1 d2
        by_cases hx : chkV x = 0
        · have HE2 : Hid (valsE (vs.take (i + 1)) = 0) := HN.trans hx
          rw [hx] at CC
          clear HN HRr hx
          go_wp2_with (go_at_call 40; refine CC.mono ?_; rintro e w5 ⟨rfl, hb5⟩; have B5 : Hid (Below W0.heap.size W0 w5) := bt HB.out hb5; clear CC hb5)
          go_roundw
          case rel => exact ⟨i + 1, by simp, by omega, B5.out, HE2.out⟩
          case measure => simp [intOf]; omega
        · have ER : Hid (r = chkV x) := EV.out _ (HRr hx)
          generalize chkV x = er at *
          clear HN HRr
          go_wp2_with (go_at_call 40; refine CC.mono ?_; rintro e w5 ⟨rfl, hb5⟩; have B5 : Hid (Below w.heap.size w w5) := bt HW.out hb5; clear CC hb5)
          go_ret
          exact ⟨by rw [ER.out]; rfl, B5.out⟩
      · have hiz : ¬ (i : Int) < vs.length := by omega
        have E : Hid (r = 0) := EV.out _ (valsE_all (by omega) HE.out)
        go_wp2
        go_ret
        exact ⟨by rw [E.out]; rfl, HW.out⟩
end Go.Proofs.YtpmhilaochfpaaaDoor
namespace Go.Proofs.YtpmhilaochfpaaaDoor
set_option maxRecDepth 20000
set_option maxRecDepth 20000
set_option linter.unusedVariables false
set_option linter.unusedSimpArgs false
section
variable (pv : VD → List Int) (gv : List Int → Option (VD × Nat))
def putVs : List VD → List Int
  | [] => []
  | x :: l => pv x ++ putVs l
def putF (cs : List ClassD) (f : FactD) : Except Int (List Int) :=
  if factE cs f ≠ 0 then .error (factE cs f) else if 255 < idxC cs f.c ∨ 160 < 1 + (putVs pv f.vs).length then .error 5 else .ok (idxC cs f.c :: putVs pv f.vs)
def readN : Nat → List Int → Option (List VD)
  | 0, _ => some []
  | n + 1, bs => match gv bs with
    | none => none
    | some (x, m) => (readN n (bs.drop m)).map (x :: ·)
instance : DecidableEq (Except Int (List Int)) := fun a b => match a, b with
  | .error x, .error y => if h : x = y then isTrue (by rw [h]) else isFalse (fun e => h (by injection e))
  | .ok x, .ok y => if h : x = y then isTrue (by rw [h]) else isFalse (fun e => h (by injection e))
  | .error _, .ok _ => isFalse (fun e => by cases e)
  | .ok _, .error _ => isFalse (fun e => by cases e)
def getF (cs : List ClassD) (t : Int) : List Int → Option FactD
  | [] => none
  | b :: r => if (cs.length : Int) ≤ b then none else match readN gv (cs.getD b.toNat ⟨[], []⟩).attrs.length r with
    | none => none
    | some vs => if putF pv cs ⟨t, (cs.getD b.toNat ⟨[], []⟩).nm, vs⟩ = .ok (b :: r) then some ⟨t, (cs.getD b.toNat ⟨[], []⟩).nm, vs⟩ else none
variable {pv gv}
theorem read_put (hg : ∀ x ys, chkV x = 0 → gv (pv x ++ ys) = some (x, (pv x).length)) : ∀ (vs : List VD) (ys : List Int), (∀ x ∈ vs, chkV x = 0) → readN gv vs.length (putVs pv vs ++ ys) = some vs
  | [], ys, _ => rfl
  | x :: vs, ys, h => by
    have h1 := hg x (putVs pv vs ++ ys) (h x (List.mem_cons_self ..))
    have ih := read_put hg vs ys fun y hy => h y (List.mem_cons_of_mem _ hy)
    show (match gv (pv x ++ putVs pv vs ++ ys) with | none => none | some (x', m) => (readN gv vs.length ((pv x ++ putVs pv vs ++ ys).drop m)).map (x' :: ·)) = _
    rw [List.append_assoc, h1]
    show (readN gv vs.length ((pv x ++ (putVs pv vs ++ ys)).drop (pv x).length)).map (x :: ·) = _
    rw [List.drop_left, ih]; rfl
theorem read_cut (hg : ∀ x ys, chkV x = 0 → gv (pv x ++ ys) = some (x, (pv x).length)) (hc : ∀ x, chkV x = 0 → gv ((pv x).take ((pv x).length - 1)) = none) (hp : ∀ x, chkV x = 0 → 1 ≤ (pv x).length) :
    ∀ (vs : List VD), vs ≠ [] → (∀ x ∈ vs, chkV x = 0) → readN gv vs.length ((putVs pv vs).take ((putVs pv vs).length - 1)) = none
  | [], h, _ => absurd rfl h
  | [x], _, h => by
    have h1 := hc x (h x (List.mem_cons_self ..))
    have e : putVs pv [x] = pv x := by simp [putVs]
    rw [e]
    show (match gv ((pv x).take ((pv x).length - 1)) with | none => none | some (x', m) => _) = none
    rw [h1]
  | x :: y :: vs, _, h => by
    have hx := h x (List.mem_cons_self ..)
    have ih := read_cut hg hc hp (y :: vs) (by simp) fun z hz => h z (List.mem_cons_of_mem _ hz)
    have hy := hp y (h y (List.mem_cons_of_mem _ (List.mem_cons_self ..)))
    have hl : 1 ≤ (putVs pv (y :: vs)).length := by show 1 ≤ (pv y ++ putVs pv vs).length; rw [List.length_append]; omega
    have e : (putVs pv (x :: y :: vs)).take ((putVs pv (x :: y :: vs)).length - 1) = pv x ++ (putVs pv (y :: vs)).take ((putVs pv (y :: vs)).length - 1) := by
      show (pv x ++ putVs pv (y :: vs)).take ((pv x ++ putVs pv (y :: vs)).length - 1) = _
      rw [List.length_append, List.take_append]
      have e1 : (pv x).length + (putVs pv (y :: vs)).length - 1 - (pv x).length = (putVs pv (y :: vs)).length - 1 := by omega
      rw [List.take_of_length_le (by omega), e1]
    rw [e]
    have h1 := hg x ((putVs pv (y :: vs)).take ((putVs pv (y :: vs)).length - 1)) hx
    show (match gv (pv x ++ (putVs pv (y :: vs)).take ((putVs pv (y :: vs)).length - 1)) with | none => none | some (x', m) => (readN gv (y :: vs).length ((pv x ++ (putVs pv (y :: vs)).take ((putVs pv (y :: vs)).length - 1)).drop m)).map (x' :: ·)) = none
    rw [h1]
    show (readN gv (y :: vs).length ((pv x ++ (putVs pv (y :: vs)).take ((putVs pv (y :: vs)).length - 1)).drop (pv x).length)).map (x :: ·) = none
    rw [List.drop_left, ih]; rfl
theorem putF_ok {cs : List ClassD} {f : FactD} {bs : List Int} (h : putF pv cs f = .ok bs) : factE cs f = 0 ∧ bs = idxC cs f.c :: putVs pv f.vs ∧ idxC cs f.c ≤ 255 ∧ bs.length ≤ 160 := by
  unfold putF at h
  by_cases h1 : factE cs f = 0
  · rw [if_neg (Classical.not_not.2 h1)] at h
    by_cases h2 : 255 < idxC cs f.c ∨ 160 < 1 + (putVs pv f.vs).length
    · rw [if_pos h2] at h; cases h
    · rw [if_neg h2] at h
      injection h with h
      subst h
      refine ⟨h1, rfl, by omega, ?_⟩
      rw [List.length_cons]; omega
  · rw [if_pos h1] at h; cases h
theorem putF_err {cs : List ClassD} {f : FactD} {e : Int} (h : putF pv cs f = .error e) : e ≠ 0 ∧ (e = factE cs f ∨ e = 5) := by
  unfold putF at h
  by_cases h1 : factE cs f = 0
  · rw [if_neg (Classical.not_not.2 h1)] at h
    by_cases h2 : 255 < idxC cs f.c ∨ 160 < 1 + (putVs pv f.vs).length
    · rw [if_pos h2] at h; injection h with h; subst h; exact ⟨by decide, .inr rfl⟩
    · rw [if_neg h2] at h; cases h
  · rw [if_pos h1] at h; injection h with h; subst h; exact ⟨h1, .inl rfl⟩
theorem place_of {cs : List ClassD} {f : FactD} (h : factE cs f = 0) : ∃ k, k < cs.length ∧ idxC cs f.c = (k : Int) ∧ (cs.getD k ⟨[], []⟩).nm = f.c ∧ (cs.getD k ⟨[], []⟩).attrs.length = f.vs.length ∧ ∀ x ∈ f.vs, chkV x = 0 := by
  obtain ⟨_, c, hc, hl, hv⟩ := factE_fit h
  rcases idxC_cases cs f.c with ⟨_, hn⟩ | ⟨k, hk, hi, hf, hnm⟩
  · rw [hn] at hc; cases hc
  · rw [hf] at hc
    obtain rfl := Option.some.inj hc
    exact ⟨k, hk, hi, hnm, hl.symm, valsE_mem.1 hv⟩
theorem getF_put (hg : ∀ x ys, chkV x = 0 → gv (pv x ++ ys) = some (x, (pv x).length)) {cs : List ClassD} {f : FactD} {bs : List Int} (h : putF pv cs f = .ok bs) : getF pv gv cs f.t bs = some f := by
  obtain ⟨hE, rfl, _, _⟩ := putF_ok h
  obtain ⟨k, hk, hi, hnm, hl, hv⟩ := place_of hE
  have hr := read_put hg f.vs [] hv
  rw [List.append_nil] at hr
  rw [hi] at h ⊢
  unfold getF
  dsimp only
  rw [if_neg (by omega), Int.toNat_natCast, hl, hr, hnm]
  show (if putF pv cs ⟨f.t, f.c, f.vs⟩ = _ then some (⟨f.t, f.c, f.vs⟩ : FactD) else none) = some f
  rw [if_pos h]
theorem getF_more (hg : ∀ x ys, chkV x = 0 → gv (pv x ++ ys) = some (x, (pv x).length)) {cs : List ClassD} {f : FactD} {bs : List Int} (h : putF pv cs f = .ok bs) (z : Int) : getF pv gv cs f.t (bs ++ [z]) = none := by
  obtain ⟨hE, e, _, _⟩ := putF_ok h
  obtain ⟨k, hk, hi, hnm, hl, hv⟩ := place_of hE
  have hr := read_put hg f.vs [z] hv
  subst e
  rw [hi] at h ⊢
  rw [List.cons_append]
  unfold getF
  dsimp only
  rw [if_neg (by omega), Int.toNat_natCast, hl, hr, hnm]
  show (if putF pv cs ⟨f.t, f.c, f.vs⟩ = _ then some (⟨f.t, f.c, f.vs⟩ : FactD) else none) = none
  rw [if_neg]
  intro e
  have e2 : (Except.ok ((k : Int) :: putVs pv f.vs) : Except Int (List Int)) = .ok ((k : Int) :: (putVs pv f.vs ++ [z])) := h.symm.trans e
  injection e2 with e2
  have := congrArg List.length e2
  simp at this
theorem getF_less (hg : ∀ x ys, chkV x = 0 → gv (pv x ++ ys) = some (x, (pv x).length)) (hc : ∀ x, chkV x = 0 → gv ((pv x).take ((pv x).length - 1)) = none) (hp : ∀ x, chkV x = 0 → 1 ≤ (pv x).length) {cs : List ClassD} {f : FactD} {bs : List Int} (h : putF pv cs f = .ok bs) : getF pv gv cs f.t (bs.take (bs.length - 1)) = none := by
  obtain ⟨hE, e, _, _⟩ := putF_ok h
  obtain ⟨k, hk, hi, hnm, hl, hv⟩ := place_of hE
  subst e
  rw [hi]
  by_cases hne : f.vs = []
  · rw [hne]; rfl
  · have hr := read_cut hg hc hp f.vs hne hv
    have h1 : 1 ≤ (putVs pv f.vs).length := by
      cases hvs : f.vs with
      | nil => exact absurd hvs hne
      | cons x l =>
        have := hp x (hv x (by rw [hvs]; exact List.mem_cons_self ..))
        show 1 ≤ (pv x ++ putVs pv l).length
        rw [List.length_append]; omega
    have e : ((k : Int) :: putVs pv f.vs).take (((k : Int) :: putVs pv f.vs).length - 1) = (k : Int) :: (putVs pv f.vs).take ((putVs pv f.vs).length - 1) := by
      rw [List.length_cons, show (putVs pv f.vs).length + 1 - 1 = ((putVs pv f.vs).length - 1) + 1 by omega, List.take_succ_cons]
    rw [e]
    unfold getF
    dsimp only
    rw [if_neg (by omega), Int.toNat_natCast, hl, hr]
end
end Go.Proofs.YtpmhilaochfpaaaDoor
namespace Go.Proofs.YtpmhilaochfpaaaDoor
open Go.RowKit
set_option linter.unusedVariables false
set_option linter.unusedSimpArgs false
set_option maxRecDepth 20000
theorem Own.off {T : TypeId} (hT : T ≠ 5) {n : Nat} {w w' : World} {b b' : Nat} {p v : Value} {zs : List Int} {css : List (List Value)} (ho : Own w b p zs) (hN : OwnN T n w b' v css) (hg : w.grownBy w' v.ownBlock) : Own w' b p zs := by
  unfold Own World.ownsRow at *
  obtain ⟨h1, h2 | ⟨g, cap, cur, rfl, hb, hh, rest⟩⟩ := ho
  · exact ⟨h1, .inl h2⟩
  · refine ⟨h1, .inr ⟨g, cap, cur, rfl, hb, ?_, rest⟩⟩
    rw [hg.block g (Array.getElem?_eq_some_iff.1 hh).1 ?_]
    · exact hh
    · intro e
      rcases hN.2.2 with ⟨rfl, _⟩ | ⟨g', c', cur', rfl, _, hh', _⟩
      · cases e
      · have e : some g = some g' := e
        injection e with e
        subst e
        rw [hh] at hh'
        injection hh' with hh'
        injection hh' with _ h5 _
        exact hT h5.symm
theorem all2_mapL {α β γ : Type} {R : α → β → Prop} {S : γ → β → Prop} (f : α → γ) (h : ∀ a b, R a b → S (f a) b) : ∀ {as_ : List α} {bs : List β}, All2 R as_ bs → All2 S (as_.map f) bs
  | [], [], _ => trivial
  | _ :: _, _ :: _, ⟨h1, h2⟩ => ⟨h _ _ h1, all2_mapL f h h2⟩
def PT (B : Nat) (w : World) (p : Value) (zs : List Int) : Prop := Own w B p zs ∧ zs ≠ [] ∧ AllB zs
theorem PT.by {B : Nat} {w : World} {p : Value} {zs : List Int} (h : PT B w p zs) : RBy w [p] zs := by
  obtain ⟨h1, h2, h3⟩ := h
  obtain ⟨a, cap, rfl, _, _, _, h0 | ⟨b, off, rfl, _, hlt, hc⟩⟩ := h1.view h3
  · exact absurd h0 h2
  · exact ⟨b, off, cap, rfl, h2, ⟨h3, .inr ⟨b, off, rfl, hlt, hc⟩⟩, hlt⟩
theorem parts_row {B B2 : Nat} {w : World} {v : Value} {ps : List Value} {zss : List (List Int)} (h : OwnN 53 1 w B2 v (ps.map fun p => [p])) (hp : All2 (PT B w) ps zss) : Row 1 RBy w (fun b => B2 ≤ b) v zss :=
  ⟨_, h.sl, all2_mapL (fun p => [p]) (fun _ _ h => h.by) hp⟩
theorem parts_below {B : Nat} {w w' : World} {ps : List Value} {zss : List (List Int)} (hb : Below w.heap.size w w') (hp : All2 (PT B w) ps zss) : All2 (PT B w') ps zss := hp.map fun _ _ h => ⟨h.1.below hb, h.2⟩
theorem info53 : (Tryd.prog.info? 53).map (fun i => (i.zero, i.size, i.bytes)) = some (some (.slice none 0 0), 1, 24) := by kernel_rfl
def pvF (x : VD) : List Int := putL13 x.k x.n (st x.s)
def putS (cs : List ClassD) (f : FactD) : Str := match putF pvF cs f with
  | .ok bs => b8 bs
  | .error _ => []
def putEr (cs : List ClassD) (f : FactD) : Int := match putF pvF cs f with
  | .ok _ => 0
  | .error e => e
theorem pvF_pos {x : VD} (hk : 0 ≤ x.k) (h : chkV x = 0) : 1 ≤ (pvF x).length ∧ (pvF x).length ≤ 30 := put_pos hk (by rw [st_list]; exact h)
theorem put_bad {cs : List ClassD} {f : FactD} (h : factE cs f ≠ 0) : putS cs f = [] ∧ putEr cs f = factE cs f := by
  have e : putF pvF cs f = .error (factE cs f) := by unfold putF; rw [if_pos h]
  exact ⟨by unfold putS; rw [e], by unfold putEr; rw [e]⟩
theorem putVs_flat (pv : VD → List Int) : ∀ vs : List VD, (vs.map pv).flatten = putVs pv vs
  | [] => rfl
  | x :: vs => by rw [List.map_cons, List.flatten_cons, putVs_flat pv vs]; rfl
theorem put_good {cs : List ClassD} {f : FactD} {k : Nat} (h : factE cs f = 0) (hk : idxC cs f.c = (k : Int)) (hk2 : k ≤ 255) : putS cs f = joinS ([(k : Int)] :: f.vs.map pvF) ∧ putEr cs f = joinE ([(k : Int)] :: f.vs.map pvF) := by
  have hl : ([(k : Int)] :: f.vs.map pvF).flatten = (k : Int) :: putVs pvF f.vs := by rw [List.flatten_cons, putVs_flat]; rfl
  by_cases h1 : 160 < 1 + (putVs pvF f.vs).length
  · have e : putF pvF cs f = .error 5 := by unfold putF; rw [if_neg (Classical.not_not.2 h), if_pos (.inr h1)]
    obtain ⟨j1, j2⟩ := join_no (zss := [(k : Int)] :: f.vs.map pvF) (by rw [hl, List.length_cons]; omega)
    exact ⟨by unfold putS; rw [e, j1], by unfold putEr; rw [e, j2]⟩
  · have e : putF pvF cs f = .ok ((k : Int) :: putVs pvF f.vs) := by unfold putF; rw [if_neg (Classical.not_not.2 h), if_neg (by omega), hk]
    obtain ⟨j1, j2⟩ := join_yes (zss := [(k : Int)] :: f.vs.map pvF) (by rw [hl, List.length_cons]; omega)
    exact ⟨by unfold putS; rw [e, j1, hl], by unfold putEr; rw [e, j2]⟩
theorem put1 {k : Nat} (h : k ≤ 255) : putL (k : Int) 1 = [(k : Int)] ∧ putE (k : Int) 1 = 0 := by
  have e : (256 : Int) ^ (1 : Int).toNat = 256 := by decide
  constructor
  · unfold putL; rw [if_neg (by omega), e, if_neg (by omega)]
    show dig (k : Int) 1 = _
    rw [dig_cons]
    show [(k : Int) / 256 ^ 0 % 256] = _
    congr 1; simp; omega
  · unfold putE; rw [if_neg (by omega), e, if_neg (by omega)]
theorem take_map {α β : Type} (g : α → β) (l : List α) (d : α) (i : Nat) (h : i < l.length) : (l.take (i + 1)).map g = (l.take i).map g ++ [g (l.getD i d)] := by
  rw [List.take_add_one, List.map_append, List.getElem?_eq_getElem h, List.getD_eq_getElem?_getD, List.getElem?_eq_getElem h]; rfl
end Go.Proofs.YtpmhilaochfpaaaDoor
namespace Go.Proofs.YtpmhilaochfpaaaDoor
open Go.RowKit
set_option linter.unusedVariables false
set_option linter.unusedSimpArgs false
set_option maxRecDepth 20000
def gvF (zs : List Int) : Option (VD × Nat) := if gtE zs = 0 then some (⟨tkK zs, tkN zs, (tkS zs).data.toList⟩, zs.length - (tkZ zs).length) else none
theorem gv_ok {zs : List Int} (h : gtE zs = 0) : ∃ x m, gvF zs = some (x, m) ∧ m ≤ zs.length ∧ gtA zs = .tuple #[.agg #[.int .u8 x.k, .int .i64 x.n, .string (st x.s)], .int .i64 m, .int .i64 0] := by
  refine ⟨_, _, by unfold gvF; rw [if_pos h], by omega, ?_⟩
  have := tkZ_le zs
  unfold gtA vv
  rw [if_pos h, st_of]
  have e : ((zs.length - (tkZ zs).length : Nat) : Int) = (zs.length : Int) - (tkZ zs).length := by omega
  rw [e]
theorem gv_no {zs : List Int} (h : gtE zs ≠ 0) : gvF zs = none ∧ gtA zs = .tuple #[.agg #[.int .u8 0, .int .i64 0, .string ByteArray.empty], .int .i64 0, .int .i64 (gtE zs)] := ⟨by unfold gvF; rw [if_neg h], by unfold gtA vv; rw [if_neg h]⟩
theorem lit_v (w : World) (x : VD) (g : Nat) (hg : g = w.heap.size) : SlW 3 (w.alloc (.cells #[.int .u8 x.k, .int .i64 x.n, .string (st x.s)] 52)) (fun _ => True) (.slice (some ⟨g, 0, none⟩) 1 1) ([x].map clV) := by
  subst hg
  have h : OwnN 52 3 (w.alloc (.cells #[.int .u8 x.k, .int .i64 x.n, .string (st x.s)] 52)) 0 (.slice (some ⟨w.heap.size, 0, none⟩) 1 1) ([x].map clV) := ⟨clV_len, World.ownsRow_lit w #[.int .u8 x.k, .int .i64 x.n, .string (st x.s)] 1 (Nat.zero_le _) (by decide) rfl⟩
  exact h.sl.imp fun _ _ _ => trivial
def VP (w : World) (r : Option (List VD)) (e : Ending) (w' : World) : Prop := Below w.heap.size w w' ∧ match r with
  | none => e = .returned (.tuple #[.slice none 0 0, .bool false])
  | some vs => ∃ v, e = .returned (.tuple #[v, .bool true]) ∧ OwnV w' w.heap.size v vs
theorem readN_no {gv : List Int → Option (VD × Nat)} {n : Nat} {bs : List Int} (h : gv bs = none) : readN gv (n + 1) bs = none := by
  show (match gv bs with | none => none | some (x, m) => (readN gv n (bs.drop m)).map (x :: ·)) = none
  rw [h]
theorem readN_some {gv : List Int → Option (VD × Nat)} {n m : Nat} {bs : List Int} {x : VD} (h : gv bs = some (x, m)) : readN gv (n + 1) bs = (readN gv n (bs.drop m)).map (x :: ·) := by
  show (match gv bs with | none => none | some (x, m) => (readN gv n (bs.drop m)).map (x :: ·)) = _
  rw [h]
theorem map_cons_app (pre : List VD) (x : VD) (o : Option (List VD)) : (o.map (x :: ·)).map (pre ++ ·) = o.map ((pre ++ [x]) ++ ·) := by cases o <;> simp
theorem BV.tail {w : World} {b off : Nat} {zs : List Int} (h : BV w (some ⟨b, off, none⟩) zs) (m : Nat) : BV w (some ⟨b, off + m, none⟩) (zs.drop m) := by
  obtain ⟨ha, h | ⟨b', off', e, hlt, hc⟩⟩ := h
  · exact ⟨ha.drop m, .inl (by rw [h]; simp)⟩
  · injection e with e
    injection e with e1 e2
    subst e1 e2
    by_cases hz : zs.drop m = []
    · exact ⟨ha.drop m, .inl hz⟩
    · refine ⟨ha.drop m, .inr ⟨b, off + m, rfl, hlt, fun i hi => ?_⟩⟩
      rw [List.length_drop] at hi
      rw [Nat.add_assoc, hc (m + i) (by omega), List.getD_eq_getElem?_getD, List.getD_eq_getElem?_getD, List.getElem?_drop]
set_option maxHeartbeats 8000000 in
theorem values_any (b off len cap n : Nat) (zs : List Int) (w : World) (hb : BV w (some ⟨b, off, none⟩) zs) (hl : zs.length = len) (hm : len ≤ 257) (hc : len ≤ cap) (hcm : cap ≤ 9223372036854775807) (hn : n ≤ 100000) (hV : Vars w) :
    Calls Tryd.prog 43 #[.slice (some ⟨b, off, none⟩) len cap, .int .i64 n] w (VP w (readN gvF n zs)) := by
  generalize hPO : VP w (readN gvF n zs) = PO
  have HPN : Hid (∀ w', readN gvF n zs = none → Below w.heap.size w w' → PO (.returned (.tuple #[.slice none 0 0, .bool false])) w') := fun w' he hf => by rw [← hPO, he]; exact ⟨hf, rfl⟩
  have HPS : Hid (∀ vs v w', readN gvF n zs = some vs → Below w.heap.size w w' → OwnV w' w.heap.size v vs → PO (.returned (.tuple #[v, .bool true])) w') := fun vs v w' he hf ho => by rw [← hPO, he]; exact ⟨hf, v, rfl, ho⟩
  clear hPO
  have HVs : Hid (Vars w) := hV
  have HB0 : Hid (BV w (some ⟨b, off, none⟩) zs) := hb
  clear hV hb
  have hnn : (n : Int) ≤ 9223372036854775807 := by omega
  go_enter Tryd.func43, Tryd.ntmps43
  go_wp2
  go_loopw [0, 6, 7, 8, 9, 11] (fun vb vl _ _ _ vi wr => ∃ (i : Nat) (rest : List Int) (pre : List VD) (o' cap' : Nat), vi = .int .i64 i ∧ i ≤ n ∧ vb = .slice (some ⟨b, o', none⟩) rest.length cap' ∧ rest.length ≤ cap' ∧ cap' ≤ 9223372036854775807 ∧ rest.length ≤ 257 ∧ pre.length = i ∧ Hid (Below w.heap.size w wr) ∧ Hid (BV w (some ⟨b, o', none⟩) rest) ∧ Hid (OwnV wr w.heap.size vl pre) ∧ Hid (readN gvF n zs = (readN gvF (n - i) rest).map (pre ++ ·))) (fun _ _ _ _ _ v _ => (n - intOf v).toNat)
  case atStart => exact ⟨0, zs, [], off, cap, rfl, Nat.zero_le _, by rw [hl], by omega, hcm, by omega, rfl, Below.refl _ _, HB0.out, OwnN.nil 52 3 w _, by show readN gvF n zs = (readN gvF (n - 0) zs).map ([] ++ ·); cases readN gvF n zs <;> simp [*]⟩
  case round =>
    obtain ⟨i, rest, pre, o', cap', rfl, hi, rfl, hc', hcm', hr', hpl, HB, HV1, HO, HR⟩ := hrel
    have CG := get_any13 (some ⟨b, o', none⟩) rest.length cap' rest wr (HV1.out.below HB.out) rfl hr' hc' hcm' (fun h => by cases h) (HVs.out.below HB.out)
    have hlr : (rest.length : Int) ≤ 9223372036854775807 := by omega
    by_cases hlt : i < n
    · have hiz : (i : Int) < n := by omega
      have en : n - i = (n - (i + 1)) + 1 := by omega
      rw [en] at HR
      by_cases hg : gtE rest = 0
      · obtain ⟨x, m, hgv, hmle, hA⟩ := gv_ok hg
        rw [hA] at CG
        have HR2 : Hid (readN gvF n zs = (readN gvF (n - (i + 1)) (rest.drop m)).map ((pre ++ [x]) ++ ·)) := by
          show readN gvF n zs = _
          rw [HR.out, readN_some hgv, map_cons_app]
        have HV2 : Hid (BV w (some ⟨b, o' + m, none⟩) (rest.drop m)) := HV1.out.tail m
        have HLD : Hid ((rest.drop m).length = rest.length - m) := List.length_drop
        have hmz : (m : Int) ≤ rest.length := by omega
        have hmc : (m : Int) ≤ cap' := by omega
        clear HR hA hgv hg en
        go_wp2_with (first
          | (go_at_call 54; refine CG.mono ?_; rintro e w5 ⟨rfl, hb5⟩
             have HQ : Hid (Below wr.heap.size wr ((w5.alloc (.cells #[.int .u8 x.k, .int .i64 x.n, .string (st x.s)] 52)).alloc (.cells #[.int .u8 x.k, .int .i64 x.n, .string (st x.s)] 52)) ∧ SlW 3 ((w5.alloc (.cells #[.int .u8 x.k, .int .i64 x.n, .string (st x.s)] 52)).alloc (.cells #[.int .u8 x.k, .int .i64 x.n, .string (st x.s)] 52)) (fun _ => True) (.slice (some ⟨w5.heap.size + 1, 0, none⟩) 1 1) ([x].map clV)) := ⟨bt hb5 (bt (bxn _ _) (bxn _ _)), lit_v (w5.alloc (.cells #[.int .u8 x.k, .int .i64 x.n, .string (st x.s)] 52)) x (w5.heap.size + 1) (by simp)⟩
             clear CG hb5)
          | (at_builtin; refine wp_app_n Tryd.underlying34 info42 rfl (by decide) (by decide) rfl _ _ rfl w.heap.size _ (pre.map clV) ([x].map clV) rfl (HO.out.below HQ.out.1) _ rfl HQ.out.2 clV_len clV_one (by simp; omega) (by have := HQ.out.1.size; have := HB.out.size; omega) ?_; intro v6 w6 o6 g6 b6))
        refine ⟨⟨i + 1, rest.drop m, pre ++ [x], if cap' = m then o' else o' + m, cap' - m, by simp, by omega, ?_, by rw [HLD.out]; omega, by omega, by rw [HLD.out]; omega, by simp [hpl], (bt HB.out HQ.out.1).trans b6, ?_, by show OwnN 52 3 _ _ _ _; rw [List.map_append]; exact o6, HR2.out⟩, by simp [intOf]; omega⟩
        · rw [HLD.out]; by_cases h : cap' = m <;> simp [h]
        · by_cases h : cap' = m
          · have hz : rest.drop m = [] := List.drop_of_length_le (by omega)
            rw [hz]; exact ⟨AllB.nil, .inl rfl⟩
          · rw [if_neg h]; exact HV2.out
      · obtain ⟨hgv, hA⟩ := gv_no hg
        rw [hA] at CG
        have HR2 : Hid (readN gvF n zs = none) := by
          show readN gvF n zs = _
          rw [HR.out, readN_no hgv]; rfl
        have HG : Hid (gtE rest ≠ 0) := hg
        clear HR hA hgv en
        generalize gtE rest = er at *
        go_wp2_with (go_at_call 54; refine CG.mono ?_; rintro e w5 ⟨rfl, hb5⟩; have H5 : Hid (Below wr.heap.size wr w5) := hb5; clear CG hb5)
        exact HPN.out _ HR2.out (bt (bt HB.out H5.out) (bxn _ _))
    · have hiz : ¬ (i : Int) < n := by omega
      have en : n - i = 0 := by omega
      rw [en] at HR
      have HR2 : Hid (readN gvF n zs = some pre) := by show readN gvF n zs = _; rw [HR.out]; show some (pre ++ []) = _; rw [List.append_nil]
      clear CG HR en
      go_wp2
      exact HPS.out pre _ _ HR2.out HB.out HO.out
end Go.Proofs.YtpmhilaochfpaaaDoor
namespace Go.Proofs.YtpmhilaochfpaaaDoor
set_option maxRecDepth 20000
set_option maxRecDepth 20000
open Go.RowKit
set_option linter.unusedVariables false
set_option linter.unusedSimpArgs false
def fB (f : FactD) (u : Value) : Value := .agg #[.int .i64 f.t, .string (st f.c), u]
theorem below_dn {B : Nat} {w w1 : World} (h : Below B w w1) (n : Nat) : Below B w (w1.drewN n) := h.trans (drewN_b _ _)
theorem st_tl (a b : Str) (h : a ≠ b) : ¬ (st a).toList = (st b).toList := by
  have := eq_list (st a) (st b)
  rw [st_list, st_list, decide_eq_false h] at this
  exact fun e => by rw [e] at this; simp at this
set_option maxHeartbeats 4000000 in
theorem vequal_any {P Q : Nat → Prop} (u v : Value) (xs ys : List VD) (w : World) (hx : SlW 3 w P u (xs.map clV)) (hy : SlW 3 w Q v (ys.map clV)) :
    Calls Tryd.prog 32 #[u, v] w fun e w' => e = .returned (.bool (decide (xs = ys))) ∧ Below w.heap.size w w' := by
  obtain ⟨a, c, rfl⟩ := hx.shape
  obtain ⟨-, l1, m1, r1⟩ := hx.at v00
  obtain ⟨b, d, rfl⟩ := hy.shape
  obtain ⟨-, l2, m2, r2⟩ := hy.at v00
  rw [List.length_map] at *
  rw [List.length_map] at *
  have RX : Hid (∀ i, i < xs.length → ∃ bb off, a = some ⟨bb, off, none⟩ ∧ bb < w.heap.size ∧ ∀ j, j < 3 → w.cell? ⟨bb, off + (i * 3 + j), none⟩ = (clV (xs.getD i v00))[j]?) := r1
  have RY : Hid (∀ i, i < ys.length → ∃ bb off, b = some ⟨bb, off, none⟩ ∧ bb < w.heap.size ∧ ∀ j, j < 3 → w.cell? ⟨bb, off + (i * 3 + j), none⟩ = (clV (ys.getD i v00))[j]?) := r2
  clear r1 r2 hx hy
  have hnx : (xs.length : Int) ≤ 9223372036854775807 := by omega
  have hny : (ys.length : Int) ≤ 9223372036854775807 := by omega
  by_cases hlen : ¬ xs.length = ys.length
  · have HF : Hid (decide (xs = ys) = false) := decide_eq_false (fun e => hlen (by rw [e]))
    have hne : ((xs.length : Int) == (ys.length : Int)) = false := by rw [beq_eq_false_iff_ne]; omega
    have hne2 : ¬ ((xs.length : Int) = (ys.length : Int)) := by omega
    go_enter Tryd.func32, Tryd.ntmps32
    go_wp2
    go_ret
    exact ⟨by rw [HF.out]; rfl, Below.refl _ _⟩
  have HL : Hid (xs.length = ys.length) := Classical.not_not.1 hlen
  rw [← HL.out]
  clear hlen
  go_enter Tryd.func32, Tryd.ntmps32
  go_wp2
  go_loopw [13] (fun i wr => ∃ k : Nat, k ≤ xs.length ∧ i = .int .i64 k ∧ Hid (∀ m, m < k → xs.getD m v00 = ys.getD m v00) ∧ Hid (Below w.heap.size w wr)) (fun i _ => xs.length - (intOf i).toNat)
  case atStart => exact ⟨0, Nat.zero_le _, rfl, (fun m hm => by omega), Below.refl _ _⟩
  case round =>
    obtain ⟨k, hk, rfl, HN, HB⟩ := hrel
    have HW : Hid (Below w.heap.size w wr) := HB.out
    by_cases hlt : k < xs.length
    · have hlt2 : (k : Int) < (xs.length : Int) := by omega
      obtain ⟨b1, o1, rfl, hb1, q1⟩ := RX.out k hlt
      obtain ⟨b2, o2, rfl, hb2, q2⟩ := RY.out k (by have := HL.out; omega)
      have c0 : wr.cell? ⟨b1, o1 + k * 3, none⟩ = (clV (xs.getD k v00))[0]? := (HW.out.cell (p := ⟨b1, o1 + k * 3, none⟩) hb1).trans (q1 0 (by decide))
      have c1 : wr.cell? ⟨b1, o1 + k * 3 + 1, none⟩ = (clV (xs.getD k v00))[1]? := (HW.out.cell (p := ⟨b1, o1 + k * 3 + 1, none⟩) hb1).trans (q1 1 (by decide))
      have c2 : wr.cell? ⟨b1, o1 + k * 3 + 2, none⟩ = (clV (xs.getD k v00))[2]? := (HW.out.cell (p := ⟨b1, o1 + k * 3 + 2, none⟩) hb1).trans (q1 2 (by decide))
      have d0 : wr.cell? ⟨b2, o2 + k * 3, none⟩ = (clV (ys.getD k v00))[0]? := (HW.out.cell (p := ⟨b2, o2 + k * 3, none⟩) hb2).trans (q2 0 (by decide))
      have d1 : wr.cell? ⟨b2, o2 + k * 3 + 1, none⟩ = (clV (ys.getD k v00))[1]? := (HW.out.cell (p := ⟨b2, o2 + k * 3 + 1, none⟩) hb2).trans (q2 1 (by decide))
      have d2 : wr.cell? ⟨b2, o2 + k * 3 + 2, none⟩ = (clV (ys.getD k v00))[2]? := (HW.out.cell (p := ⟨b2, o2 + k * 3 + 2, none⟩) hb2).trans (q2 2 (by decide))
      clear q1 q2
      have HF : Hid (xs.getD k v00 ≠ ys.getD k v00 → decide (xs = ys) = false) := fun h => decide_eq_false (ne_go v00 h)
      have HT : Hid (xs.getD k v00 = ys.getD k v00 → ∀ m, m < k + 1 → xs.getD m v00 = ys.getD m v00) := fun h m hm => by
        rcases Nat.lt_or_eq_of_le (Nat.le_of_lt_succ hm) with hm | rfl
        · exact HN.out m hm
        · exact h
      generalize xs.getD k v00 = x at *
      generalize ys.getD k v00 = y at *
      obtain ⟨k1, n1, s1⟩ := x
      obtain ⟨k2, n2, s2⟩ := y
      simp only [clV, List.getElem?_cons_zero, List.getElem?_cons_succ] at c0 c1 c2 d0 d1 d2
      by_cases e1 : k1 = k2
      · subst e1
        by_cases e2 : n1 = n2
        · subst e2
          by_cases e3 : s1 = s2
          · subst e3
            have HT2 : Hid (∀ m, m < k + 1 → xs.getD m v00 = ys.getD m v00) := HT.out rfl
            clear HT HF
            go_wp2
            go_quiet (fail)
            go_wp2
            go_roundw
            case rel => exact ⟨k + 1, by omega, by go_num, HT2, below_dn HB.out _⟩
            case measure => simp [intOf]; omega
          · have e4 := st_tl s1 s2 e3
            have E : Hid (decide (xs = ys) = false) := HF.out (by simp [e3])
            clear HT HF e3
            go_wp2
            go_quiet (fail)
            go_wp2
            go_ret; exact ⟨by rw [E.out]; rfl, below_dn HW.out _⟩
        · have E : Hid (decide (xs = ys) = false) := HF.out (by simp [e2])
          clear HT HF
          go_wp2
          go_quiet (fail)
          go_wp2
          go_ret; exact ⟨by rw [E.out]; rfl, below_dn HW.out _⟩
      · have E : Hid (decide (xs = ys) = false) := HF.out (by simp [e1])
        clear HT HF
        go_wp2
        go_quiet (fail)
        go_wp2
        go_ret; exact ⟨by rw [E.out]; rfl, below_dn HW.out _⟩
    · have hkx : k = xs.length := by omega
      subst hkx
      have E : Hid (decide (xs = ys) = true) := decide_eq_true (eq_go v00 HL.out (fun j hj => HN.out j hj) rfl)
      have hxx : ¬ ((xs.length : Int) < (xs.length : Int)) := by omega
      go_wp2
      go_ret
      exact ⟨by rw [E.out]; rfl, HW.out⟩
set_option maxHeartbeats 4000000 in
theorem same_any {P Q : Nat → Prop} (f g : FactD) (u v : Value) (w : World) (hx : SlW 3 w P u (f.vs.map clV)) (hy : SlW 3 w Q v (g.vs.map clV)) :
    Calls Tryd.prog 18 #[fB f u, fB g v] w fun e w' => e = .returned (.bool (decide (f = g))) ∧ Below w.heap.size w w' := by
  obtain ⟨t1, n1, xs⟩ := f
  obtain ⟨t2, n2, ys⟩ := g
  change SlW 3 w P u (xs.map clV) at hx
  change SlW 3 w Q v (ys.map clV) at hy
  show Calls Tryd.prog 18 #[.agg #[.int .i64 t1, .string (st n1), u], .agg #[.int .i64 t2, .string (st n2), v]] w fun e w' => e = .returned (.bool (decide ((⟨t1, n1, xs⟩ : FactD) = ⟨t2, n2, ys⟩))) ∧ Below w.heap.size w w'
  generalize hAN : decide ((⟨t1, n1, xs⟩ : FactD) = ⟨t2, n2, ys⟩) = ans
  by_cases ht : ¬ t1 = t2
  · have HF : Hid (ans = false) := hAN.symm.trans (decide_eq_false (fun e => ht (by injection e)))
    clear hAN
    obtain ⟨a, c, rfl⟩ := hx.shape
    obtain ⟨b, d, rfl⟩ := hy.shape
    go_enter Tryd.func18, Tryd.ntmps18
    go_wp2
    go_ret
    exact ⟨by rw [HF.out]; rfl, bt (bxn _ _) (bxn _ _)⟩
  have ht := Classical.not_not.1 ht
  subst ht
  by_cases hn : ¬ n1 = n2
  · have HF : Hid (ans = false) := hAN.symm.trans (decide_eq_false (fun e => hn (by injection e)))
    clear hAN
    have e4 := st_tl n1 n2 hn
    clear hn
    obtain ⟨a, c, rfl⟩ := hx.shape
    obtain ⟨b, d, rfl⟩ := hy.shape
    go_enter Tryd.func18, Tryd.ntmps18
    go_wp2
    go_ret
    exact ⟨by rw [HF.out]; rfl, bt (bxn _ _) (bxn _ _)⟩
  have hn := Classical.not_not.1 hn
  subst hn
  have HD : decide ((⟨t1, n1, xs⟩ : FactD) = ⟨t1, n1, ys⟩) = decide (xs = ys) := decide_eq_decide.2 ⟨fun e => by injection e, fun e => by rw [e]⟩
  rw [← hAN, HD]
  clear HD hAN
  have C36 : Hid (∀ W, Below w.heap.size w W → Calls Tryd.prog 32 #[u, v] W fun e w' => e = .returned (.bool (decide (xs = ys))) ∧ Below W.heap.size W w') := fun W hW => vequal_any u v xs ys W (hx.bl hW) (hy.bl hW)
  obtain ⟨a, c, rfl⟩ := hx.shape
  obtain ⟨b, d, rfl⟩ := hy.shape
  rw [List.length_map] at *
  rw [List.length_map] at *
  have CE := C36.out ((w.alloc (.cells #[.int .i64 t1, .string (st n1), .slice a xs.length c] 36)).alloc (.cells #[.int .i64 t1, .string (st n1), .slice b ys.length d] 36)) (bt (bxn _ _) (bxn _ _))
  clear hx hy C36
  generalize decide (xs = ys) = ans at *
  go_enter Tryd.func18, Tryd.ntmps18
  go_wp2_with (go_at_call 32; refine CE.mono ?_; rintro e w2 ⟨rfl, hb2⟩; have B2 : Hid (Below w.heap.size w w2) := bt (bt (bxn _ _) (bxn _ _)) hb2; clear hb2)
  go_ret
  exact ⟨rfl, B2.out⟩
set_option maxHeartbeats 4000000 in
theorem rsame_any {P Q : Nat → Prop} (f g : FactD) (u v : Value) (w : World) (hx : SlW 3 w P u (f.vs.map clV)) (hy : SlW 3 w Q v (g.vs.map clV)) :
    Calls Tryd.prog 16 #[fB f u, fB g v] w fun e w' => e = .returned (.bool (decide (f = g))) ∧ Below w.heap.size w w' := by
  obtain ⟨t1, n1, xs⟩ := f
  obtain ⟨t2, n2, ys⟩ := g
  change SlW 3 w P u (xs.map clV) at hx
  change SlW 3 w Q v (ys.map clV) at hy
  show Calls Tryd.prog 16 #[.agg #[.int .i64 t1, .string (st n1), u], .agg #[.int .i64 t2, .string (st n2), v]] w fun e w' => e = .returned (.bool (decide ((⟨t1, n1, xs⟩ : FactD) = ⟨t2, n2, ys⟩))) ∧ Below w.heap.size w w'
  generalize hAN : decide ((⟨t1, n1, xs⟩ : FactD) = ⟨t2, n2, ys⟩) = ans
  by_cases ht : ¬ t1 = t2
  · have HF : Hid (ans = false) := hAN.symm.trans (decide_eq_false (fun e => ht (by injection e)))
    clear hAN
    obtain ⟨a, c, rfl⟩ := hx.shape
    obtain ⟨b, d, rfl⟩ := hy.shape
    go_enter Tryd.func16, Tryd.ntmps16
    go_wp2
    go_ret
    exact ⟨by rw [HF.out]; rfl, bt (bxn _ _) (bxn _ _)⟩
  have ht := Classical.not_not.1 ht
  subst ht
  by_cases hn : ¬ n1 = n2
  · have HF : Hid (ans = false) := hAN.symm.trans (decide_eq_false (fun e => hn (by injection e)))
    clear hAN
    have e4 := st_tl n1 n2 hn
    clear hn
    obtain ⟨a, c, rfl⟩ := hx.shape
    obtain ⟨b, d, rfl⟩ := hy.shape
    go_enter Tryd.func16, Tryd.ntmps16
    go_wp2
    go_ret
    exact ⟨by rw [HF.out]; rfl, bt (bxn _ _) (bxn _ _)⟩
  have hn := Classical.not_not.1 hn
  subst hn
  have HD : decide ((⟨t1, n1, xs⟩ : FactD) = ⟨t1, n1, ys⟩) = decide (xs = ys) := decide_eq_decide.2 ⟨fun e => by injection e, fun e => by rw [e]⟩
  rw [← hAN, HD]
  clear HD hAN
  obtain ⟨a, c, rfl⟩ := hx.shape
  obtain ⟨-, l1, m1, r1⟩ := hx.at v00
  obtain ⟨b, d, rfl⟩ := hy.shape
  obtain ⟨-, l2, m2, r2⟩ := hy.at v00
  rw [List.length_map] at *
  rw [List.length_map] at *
  have RX : Hid (∀ i, i < xs.length → ∃ bb off, a = some ⟨bb, off, none⟩ ∧ bb < w.heap.size ∧ ∀ j, j < 3 → w.cell? ⟨bb, off + (i * 3 + j), none⟩ = (clV (xs.getD i v00))[j]?) := r1
  have RY : Hid (∀ i, i < ys.length → ∃ bb off, b = some ⟨bb, off, none⟩ ∧ bb < w.heap.size ∧ ∀ j, j < 3 → w.cell? ⟨bb, off + (i * 3 + j), none⟩ = (clV (ys.getD i v00))[j]?) := r2
  clear r1 r2 hx hy
  have hnx : (xs.length : Int) ≤ 9223372036854775807 := by omega
  have hny : (ys.length : Int) ≤ 9223372036854775807 := by omega
  obtain ⟨W0, hW0⟩ : ∃ W0, W0 = (w.alloc (.cells #[.int .i64 t1, .string (st n1), .slice a xs.length c] 36)).alloc (.cells #[.int .i64 t1, .string (st n1), .slice b ys.length d] 36) := ⟨_, rfl⟩
  have HW0 : Hid (Below w.heap.size w W0 ∧ w.heap.size + 2 ≤ W0.heap.size ∧ W0.cell? ⟨w.heap.size, 2, none⟩ = some (.slice a xs.length c) ∧ W0.cell? ⟨w.heap.size + 1, 2, none⟩ = some (.slice b ys.length d)) := by
    subst hW0; exact ⟨bt (bxn _ _) (bxn _ _), by simp, by go_simp, by go_simp⟩
  by_cases hlen : ¬ xs.length = ys.length
  · have HF : Hid (decide (xs = ys) = false) := decide_eq_false (fun e => hlen (by rw [e]))
    have hne : ((xs.length : Int) == (ys.length : Int)) = false := by rw [beq_eq_false_iff_ne]; omega
    have hne2 : ¬ ((xs.length : Int) = (ys.length : Int)) := by omega
    go_enter Tryd.func16, Tryd.ntmps16
    go_wp2
    go_ret
    exact ⟨by rw [HF.out]; rfl, bt (bxn _ _) (bxn _ _)⟩
  have HL : Hid (xs.length = ys.length) := Classical.not_not.1 hlen
  rw [← HL.out] at hW0 HW0 ⊢
  clear hlen
  go_enter Tryd.func16, Tryd.ntmps16
  go_wp2
  rw [← hW0]
  clear hW0
  go_loopw [5] (fun i wr => ∃ k : Nat, k ≤ xs.length ∧ i = .int .i64 k ∧ Hid (∀ m, m < k → xs.getD m v00 = ys.getD m v00) ∧ Hid (Below W0.heap.size W0 wr)) (fun i _ => xs.length - (intOf i).toNat)
  case atStart => exact ⟨0, Nat.zero_le _, rfl, (fun m hm => by omega), Below.refl _ _⟩
  case round =>
    obtain ⟨k, hk, rfl, HN, HB⟩ := hrel
    have HW : Hid (Below w.heap.size w wr) := HW0.out.1.trans (HB.out.mono (by have := HW0.out.2.1; omega))
    have p2 : wr.cell? ⟨w.heap.size, 2, none⟩ = some (.slice a xs.length c) := (HB.out.cell (p := ⟨w.heap.size, 2, none⟩) (by have := HW0.out.2.1; simp; omega)).trans HW0.out.2.2.1
    have g2 : wr.cell? ⟨w.heap.size + 1, 2, none⟩ = some (.slice b xs.length d) := (HB.out.cell (p := ⟨w.heap.size + 1, 2, none⟩) (by have := HW0.out.2.1; simp; omega)).trans HW0.out.2.2.2
    by_cases hlt : k < xs.length
    · have hlt2 : (k : Int) < (xs.length : Int) := by omega
      obtain ⟨b1, o1, rfl, hb1, q1⟩ := RX.out k hlt
      obtain ⟨b2, o2, rfl, hb2, q2⟩ := RY.out k (by have := HL.out; omega)
      have c0 : wr.cell? ⟨b1, o1 + k * 3, none⟩ = (clV (xs.getD k v00))[0]? := (HW.out.cell (p := ⟨b1, o1 + k * 3, none⟩) hb1).trans (q1 0 (by decide))
      have c1 : wr.cell? ⟨b1, o1 + k * 3 + 1, none⟩ = (clV (xs.getD k v00))[1]? := (HW.out.cell (p := ⟨b1, o1 + k * 3 + 1, none⟩) hb1).trans (q1 1 (by decide))
      have c2 : wr.cell? ⟨b1, o1 + k * 3 + 2, none⟩ = (clV (xs.getD k v00))[2]? := (HW.out.cell (p := ⟨b1, o1 + k * 3 + 2, none⟩) hb1).trans (q1 2 (by decide))
      have d0 : wr.cell? ⟨b2, o2 + k * 3, none⟩ = (clV (ys.getD k v00))[0]? := (HW.out.cell (p := ⟨b2, o2 + k * 3, none⟩) hb2).trans (q2 0 (by decide))
      have d1 : wr.cell? ⟨b2, o2 + k * 3 + 1, none⟩ = (clV (ys.getD k v00))[1]? := (HW.out.cell (p := ⟨b2, o2 + k * 3 + 1, none⟩) hb2).trans (q2 1 (by decide))
      have d2 : wr.cell? ⟨b2, o2 + k * 3 + 2, none⟩ = (clV (ys.getD k v00))[2]? := (HW.out.cell (p := ⟨b2, o2 + k * 3 + 2, none⟩) hb2).trans (q2 2 (by decide))
      clear q1 q2
      have HF : Hid (xs.getD k v00 ≠ ys.getD k v00 → decide (xs = ys) = false) := fun h => decide_eq_false (ne_go v00 h)
      have HT : Hid (xs.getD k v00 = ys.getD k v00 → ∀ m, m < k + 1 → xs.getD m v00 = ys.getD m v00) := fun h m hm => by
        rcases Nat.lt_or_eq_of_le (Nat.le_of_lt_succ hm) with hm | rfl
        · exact HN.out m hm
        · exact h
      generalize xs.getD k v00 = x at *
      generalize ys.getD k v00 = y at *
      obtain ⟨k1, n1, s1⟩ := x
      obtain ⟨k2, n2, s2⟩ := y
      simp only [clV, List.getElem?_cons_zero, List.getElem?_cons_succ] at c0 c1 c2 d0 d1 d2
      by_cases e1 : k1 = k2
      · subst e1
        by_cases e2 : n1 = n2
        · subst e2
          by_cases e3 : s1 = s2
          · subst e3
            have HT2 : Hid (∀ m, m < k + 1 → xs.getD m v00 = ys.getD m v00) := HT.out rfl
            clear HT HF
            go_wp2
            go_quiet (fail)
            go_wp2
            go_roundw
            case rel => exact ⟨k + 1, by omega, by go_num, HT2, below_dn HB.out _⟩
            case measure => simp [intOf]; omega
          · have e4 := st_tl s1 s2 e3
            have E : Hid (decide (xs = ys) = false) := HF.out (by simp [e3])
            clear HT HF e3
            go_wp2
            go_quiet (fail)
            go_wp2
            go_ret; exact ⟨by rw [E.out]; rfl, below_dn HW.out _⟩
        · have E : Hid (decide (xs = ys) = false) := HF.out (by simp [e2])
          clear HT HF
          go_wp2
          go_quiet (fail)
          go_wp2
          go_ret; exact ⟨by rw [E.out]; rfl, below_dn HW.out _⟩
      · have E : Hid (decide (xs = ys) = false) := HF.out (by simp [e1])
        clear HT HF
        go_wp2
        go_quiet (fail)
        go_wp2
        go_ret; exact ⟨by rw [E.out]; rfl, below_dn HW.out _⟩
    · have hkx : k = xs.length := by omega
      subst hkx
      have E : Hid (decide (xs = ys) = true) := decide_eq_true (eq_go v00 HL.out (fun j hj => HN.out j hj) rfl)
      have hxx : ¬ ((xs.length : Int) < (xs.length : Int)) := by omega
      go_wp2
      go_ret
      exact ⟨by rw [E.out]; rfl, HW.out⟩
end Go.Proofs.YtpmhilaochfpaaaDoor
namespace Go.Proofs.YtpmhilaochfpaaaDoor
open Go.RowKit
set_option linter.unusedVariables false
set_option linter.unusedSimpArgs false
set_option maxRecDepth 20000
def nb (s : Str) : List Int := s.map fun b => (b.toNat : Int)
def readR (cs : List ClassD) (t : Int) (s : Str) : Option FactD := match s with
  | [] => none
  | b :: r => if 160 < (b :: r).length then none else if cs.length ≤ b.toNat then none else
    (readN gvF (cs.getD b.toNat ⟨[], []⟩).attrs.length (nb r)).map fun vs => ⟨t, (cs.getD b.toNat ⟨[], []⟩).nm, vs⟩
def RP (w : World) (r : Option FactD) (e : Ending) (w' : World) : Prop := Below w.heap.size w w' ∧ match r with
  | none => ∃ t c, e = .returned (.tuple #[.agg #[.int .i64 t, .string c, .slice none 0 0], .bool false])
  | some f => ∃ u, e = .returned (.tuple #[fB f u, .bool true]) ∧ OwnV w' w.heap.size u f.vs
theorem own_set3 {T : TypeId} {n : Nat} {w : World} {b : Nat} {v : Value} {css : List (List Value)} (h : OwnN T n w (b + 1) v css) (x y z : Value) : OwnN T n (((w.setCell ⟨b, 0, none⟩ x).setCell ⟨b, 1, none⟩ y).setCell ⟨b, 2, none⟩ z) b v css := by
  refine OwnN.mono (h.move fun g hg hl => ?_) (Nat.le_succ b)
  have hne : b ≠ g := by omega
  simp [World.setCell, Array.getElem?_modify, hne]
set_option maxHeartbeats 8000000 in
theorem read_any {P : Nat → Nat → Prop} {Q : Nat → Prop} (v : Value) (cs : List ClassD) (t : Int) (s : Str) (w : World) (h : Row 2 (ReK P) w Q v cs) (hL : ∀ c ∈ cs, c.attrs.length ≤ 100000) (hV : Vars w) (hs : s.length ≤ 100000) :
    Calls Tryd.prog 29 #[v, .int .i64 t, .string (st s)] w (RP w (readR cs t s)) := by
  generalize hPO : RP w (readR cs t s) = PO
  have HPN : Hid (∀ t' c' w', readR cs t s = none → Below w.heap.size w w' → PO (.returned (.tuple #[.agg #[.int .i64 t', .string c', .slice none 0 0], .bool false])) w') := fun t' c' w' he hf => by rw [← hPO, he]; exact ⟨hf, t', c', rfl⟩
  have HPS : Hid (∀ f u w', readR cs t s = some f → Below w.heap.size w w' → OwnV w' w.heap.size u f.vs → PO (.returned (.tuple #[fB f u, .bool true])) w') := fun f u w' he hf ho => by rw [← hPO, he]; exact ⟨hf, u, rfl, ho⟩
  clear hPO
  obtain ⟨css1, h1, hh1⟩ := h
  have le1 := hh1.len
  obtain ⟨a1, c1, rfl⟩ := h1.shape
  obtain ⟨-, l1, m1, r1⟩ := h1.row
  rw [le1] at l1 r1 ⊢
  have R1 : Hid (∀ i, i < cs.length → ∃ b off, a1 = some ⟨b, off, none⟩ ∧ b < w.heap.size ∧ ∀ j, j < 2 → w.cell? ⟨b, off + (i * 2 + j), none⟩ = (css1.getD i [])[j]?) := r1
  have G1 : Hid (All2 (ReK P w) css1 cs) := hh1
  have HVs : Hid (Vars w) := hV
  have HLs : Hid (∀ c ∈ cs, c.attrs.length ≤ 100000) := hL
  clear r1 h1 hh1 le1 hV hL
  have hnn : (cs.length : Int) ≤ 9223372036854775807 := by omega
  have hsz := st_size s
  cases s with
  | nil =>
    have E : Hid (readR cs t [] = none) := rfl
    have he : (st []).toList.isEmpty = true := by rw [emp, st_list]; rfl
    go_enter Tryd.func29, Tryd.ntmps29
    go_wp2
    refine bodyPost_ret (v := .tuple #[.agg #[.int .i64 0, .string ⟨#[]⟩, .slice none 0 0], .bool false]) (by simp [results, Tryd.results29, go_sem]) rfl (HPN.out 0 ⟨#[]⟩ _ E.out (bxn _ _))
  | cons b r =>
    have he : (st (b :: r)).toList.isEmpty = false := emp_ne (by rw [st_list]; simp)
    have hb0 : ∀ h : 0 < (st (b :: r)).size, (st (b :: r))[0]'h = b := fun _ => rfl
    have hw : wrap64 (b.toNat : Int) = b.toNat := by have := b.toNat_lt; unfold wrap64; omega
    by_cases h160 : 160 < (b :: r).length
    · have E : Hid (readR cs t (b :: r) = none) := by show readR cs t (b :: r) = none; unfold readR; dsimp only; rw [if_pos h160]
      have h161 : (160 : Int) < (r.length : Int) + 1 := by simp at h160; omega
      go_enter Tryd.func29, Tryd.ntmps29
      go_wp2
      refine bodyPost_ret (v := .tuple #[.agg #[.int .i64 0, .string ⟨#[]⟩, .slice none 0 0], .bool false]) (by simp [results, Tryd.results29, go_sem]) rfl (HPN.out 0 ⟨#[]⟩ _ E.out (bxn _ _))
    · have h161 : ¬ (160 : Int) < (r.length : Int) + 1 := by simp at h160; omega
      by_cases hlt : cs.length ≤ b.toNat
      · have E : Hid (readR cs t (b :: r) = none) := by show readR cs t (b :: r) = none; unfold readR; dsimp only; rw [if_neg h160, if_pos hlt]
        have hle : (cs.length : Int) ≤ b.toNat := by omega
        go_enter Tryd.func29, Tryd.ntmps29
        go_wp2
        refine bodyPost_ret (v := .tuple #[.agg #[.int .i64 0, .string ⟨#[]⟩, .slice none 0 0], .bool false]) (by simp [results, Tryd.results29, go_sem]) rfl (HPN.out 0 ⟨#[]⟩ _ E.out (bxn _ _))
      · have hle : ¬ (cs.length : Int) ≤ b.toNat := by omega
        have hlt' : b.toNat < cs.length := by omega
        obtain ⟨b1, o1, rfl, hb1, q1⟩ := R1.out b.toNat hlt'
        have e1 := G1.out.at b.toNat [] ⟨[], []⟩ hlt'
        have ER : Hid (readR cs t (b :: r) = (readN gvF (cs.getD b.toNat ⟨[], []⟩).attrs.length (nb r)).map fun vs => ⟨t, (cs.getD b.toNat ⟨[], []⟩).nm, vs⟩) := by
          show readR cs t (b :: r) = _; unfold readR; dsimp only; rw [if_neg h160, if_neg hlt]
        have hla : (cs.getD b.toNat ⟨[], []⟩).attrs.length ≤ 100000 := HLs.out _ (by rw [List.getD_eq_getElem?_getD, List.getElem?_eq_getElem hlt']; exact List.getElem_mem hlt')
        generalize cs.getD b.toNat ⟨[], []⟩ = c at *
        obtain ⟨u, ec, hu⟩ := e1
        obtain ⟨au, cu, rfl⟩ := hu.shape
        simp only [List.length_map] at ec
        rw [ec] at q1
        have d0 : w.cell? ⟨b1, o1 + b.toNat * 2, none⟩ = some (.string (st c.nm)) := q1 0 (by decide)
        have d1 : w.cell? ⟨b1, o1 + b.toNat * 2 + 1, none⟩ = some (.slice au c.attrs.length cu) := q1 1 (by decide)
        have hne : ¬ b1 = w.heap.size := by omega
        clear q1 ec hu
        have KC := fun W' => conv_sb W' ((st (b :: r)).extract 1 (r.length + 1))
        have hex : bytesOf ((st (b :: r)).extract 1 (r.length + 1)) = nb r := by
          have := bytes_ext (b :: r) (by simp)
          rw [List.length_cons] at this
          rw [this]; rfl
        have hes : ((st (b :: r)).extract 1 (r.length + 1)).size = r.length := by rw [ByteArray.size_extract, hsz]; simp
        have CV := fun W' (hW : Vars W') => values_any W'.heap.size 0 r.length (gc W' ((st (b :: r)).extract 1 (r.length + 1))) c.attrs.length (nb r) (bw W' ((st (b :: r)).extract 1 (r.length + 1))) (by have := bw_bv W' ((st (b :: r)).extract 1 (r.length + 1)); rwa [hex] at this) (by simp [nb]) (by simp at h160; omega) (by have := gc_ge W' ((st (b :: r)).extract 1 (r.length + 1)); omega) (gc_le _ _ (by rw [hes]; simp at hs; omega)) hla (hW.below (bw_below _ _))
        have CV : ∀ W', Vars W' → Calls Tryd.prog 43 #[.slice (some ⟨W'.heap.size, 0, none⟩) r.length (gc W' ((st (b :: r)).extract 1 (r.length + 1))), .int .i64 c.attrs.length] (bw W' ((st (b :: r)).extract 1 (r.length + 1))) (fun e w' => Below (bw W' ((st (b :: r)).extract 1 (r.length + 1))).heap.size (bw W' ((st (b :: r)).extract 1 (r.length + 1))) w' ∧ ∃ ua un uc ok, e = .returned (.tuple #[.slice ua un uc, .bool ok]) ∧ ((readN gvF c.attrs.length (nb r) = none ∧ ok = false ∧ Value.slice ua un uc = .slice none 0 0) ∨ ∃ vs, readN gvF c.attrs.length (nb r) = some vs ∧ ok = true ∧ OwnV w' (bw W' ((st (b :: r)).extract 1 (r.length + 1))).heap.size (.slice ua un uc) vs)) := fun W' hW' => (CV W' hW').mono fun e w' he => by
          refine ⟨he.1, ?_⟩
          have h2 := he.2
          cases hr : readN gvF c.attrs.length (nb r) with
          | none => rw [hr] at h2; exact ⟨none, 0, 0, false, h2, .inl ⟨rfl, rfl, rfl⟩⟩
          | some vs =>
            rw [hr] at h2
            obtain ⟨u, he2, ho⟩ := h2
            obtain ⟨ua, uc, rfl⟩ := ho.shape
            exact ⟨ua, _, uc, true, he2, .inr ⟨vs, rfl, rfl, ho⟩⟩
        rw [hes] at KC
        have j1 : (1 : Int) ≤ (r.length : Int) + 1 := by omega
        generalize hs1 : (st (b :: r)).extract 1 (r.length + 1) = s1 at *
        go_enter Tryd.func29, Tryd.ntmps29
        go_wp2_with fail
        obtain ⟨W, hW⟩ : ∃ W, W = (w.alloc (.cells #[.int .i64 0, .string ⟨#[]⟩, .slice none 0 0] 36)).alloc (.cells #[.string (st c.nm), .slice au c.attrs.length cu] 50) := ⟨_, rfl⟩
        have HBW : Hid (Below w.heap.size w W) := by subst hW; exact bt (bxn _ _) (bxn _ _)
        have SK : Hid (∀ W', Below W.heap.size W W' → W'.cell? ⟨w.heap.size + 1, 0, none⟩ = some (.string (st c.nm)) ∧ W'.cell? ⟨w.heap.size + 1, 1, none⟩ = some (.slice au c.attrs.length cu)) := fun W' hb => by
          subst hW
          exact ⟨(hb.cell (p := ⟨w.heap.size + 1, 0, none⟩) (by simp)).trans (by go_simp), (hb.cell (p := ⟨w.heap.size + 1, 1, none⟩) (by simp)).trans (by go_simp)⟩
        have SR : Hid (∀ W', Below W.heap.size W W' → (W'.cell? ⟨w.heap.size, 0, none⟩ = some (.int .i64 0) ∧ W'.cell? ⟨w.heap.size, 1, none⟩ = some (.string ⟨#[]⟩) ∧ W'.cell? ⟨w.heap.size, 2, none⟩ = some (.slice none 0 0)) ∧ (W'.frozen? ⟨w.heap.size, 0, none⟩ = false ∧ W'.frozen? ⟨w.heap.size, 1, none⟩ = false ∧ W'.frozen? ⟨w.heap.size, 2, none⟩ = false) ∧ w.heap.size < W'.heap.size) := fun W' hb => by
          subst hW
          have f0 : ((w.alloc (.cells #[.int .i64 0, .string ⟨#[]⟩, .slice none 0 0] 36)).alloc (.cells #[.string (st c.nm), .slice au c.attrs.length cu] 50)).frozen? ⟨w.heap.size, 0, none⟩ = false := by go_simp
          have f1 : ((w.alloc (.cells #[.int .i64 0, .string ⟨#[]⟩, .slice none 0 0] 36)).alloc (.cells #[.string (st c.nm), .slice au c.attrs.length cu] 50)).frozen? ⟨w.heap.size, 1, none⟩ = false := by go_simp
          have f2 : ((w.alloc (.cells #[.int .i64 0, .string ⟨#[]⟩, .slice none 0 0] 36)).alloc (.cells #[.string (st c.nm), .slice au c.attrs.length cu] 50)).frozen? ⟨w.heap.size, 2, none⟩ = false := by go_simp
          refine ⟨⟨(hb.cell (p := ⟨w.heap.size, 0, none⟩) (by simp; omega)).trans (by go_simp), (hb.cell (p := ⟨w.heap.size, 1, none⟩) (by simp; omega)).trans (by go_simp), (hb.cell (p := ⟨w.heap.size, 2, none⟩) (by simp; omega)).trans (by go_simp)⟩, ⟨(hb.frozen (p := ⟨w.heap.size, 0, none⟩) (by simp; omega)).trans f0, (hb.frozen (p := ⟨w.heap.size, 1, none⟩) (by simp; omega)).trans f1, (hb.frozen (p := ⟨w.heap.size, 2, none⟩) (by simp; omega)).trans f2⟩, ?_⟩
          have := hb.size; simp at this; omega
        have HBW2 : Hid (w.heap.size + 1 ≤ W.heap.size) := by subst hW; show _ ≤ _; simp
        rw [← hW]
        clear d0 d1 hW
        refine wp_region_noPanic ?_
        refine name_ops ?_
        intro O QQ HO HQ
        refine wp_region_held_drew (S := fun W' => Below W.heap.size W W') (by kernel_rfl) (show Below W.heap.size W W.drew from (Below.refl _ _).drew) (fun hS => ?_)
        rw [show O.size = 12 by rw [HO.out]; rfl]
        refine wpAnyH_take (i := 0) (v := .string (st (b :: r))) (by rw [HO.out]; simp only [List.getElem?_toArray, List.getElem?_cons_succ, List.getElem?_cons_zero]; rfl) (by rw [HO.out]; kernel_rfl) (by rw [HO.out]; kernel_rfl) (by rw [HO.out]; kernel_rfl) (by rw [HQ.out]; exact fun _ _ _ h => h) (Or.inl ⟨by first | rfl | (rw [HO.out]; kernel_rfl), ?_⟩) hS ?_
        · intro w' hSw
          go_simp
        try simp only [Act.put, List.setIfInBounds_toArray, List.set_cons_zero, List.set_cons_succ]
        refine wpAnyH_take (i := 1) (v := .string s1) (by rw [HO.out]; simp only [List.getElem?_toArray, List.getElem?_cons_succ, List.getElem?_cons_zero]; rfl) (by rw [HO.out]; kernel_rfl) (by rw [HO.out]; kernel_rfl) (by rw [HO.out]; kernel_rfl) (by rw [HQ.out]; exact fun _ _ _ h => h) (Or.inl ⟨by first | rfl | (rw [HO.out]; kernel_rfl), ?_⟩) hS ?_
        · intro w' hSw
          go_simp
        try simp only [Act.put, List.setIfInBounds_toArray, List.set_cons_zero, List.set_cons_succ]
        refine wpAnyH_take (i := 3) (v := .pointer (some ⟨w.heap.size + 1, 1, none⟩)) (by rw [HO.out]; simp only [List.getElem?_toArray, List.getElem?_cons_succ, List.getElem?_cons_zero]; rfl) (by rw [HO.out]; kernel_rfl) (by rw [HO.out]; kernel_rfl) (by rw [HO.out]; kernel_rfl) (by rw [HQ.out]; exact fun _ _ _ h => h) (Or.inl ⟨by first | rfl | (rw [HO.out]; kernel_rfl), ?_⟩) hS ?_
        · intro w' hSw
          go_simp
        try simp only [Act.put, List.setIfInBounds_toArray, List.set_cons_zero, List.set_cons_succ]
        refine wpAnyH_take (i := 4) (v := .slice au c.attrs.length cu) (by rw [HO.out]; simp only [List.getElem?_toArray, List.getElem?_cons_succ, List.getElem?_cons_zero]; rfl) (by rw [HO.out]; kernel_rfl) (by rw [HO.out]; kernel_rfl) (by rw [HO.out]; kernel_rfl) (by rw [HQ.out]; exact fun _ _ _ h => h) (Or.inl ⟨by first | rfl | (rw [HO.out]; kernel_rfl), ?_⟩) hS ?_
        · intro w' hSw
          have := (SK.out w' hSw).2
          go_simp
        try simp only [Act.put, List.setIfInBounds_toArray, List.set_cons_zero, List.set_cons_succ]
        refine wpAnyH_take (i := 5) (v := .int .i64 c.attrs.length) (by rw [HO.out]; simp only [List.getElem?_toArray, List.getElem?_cons_succ, List.getElem?_cons_zero]; rfl) (by rw [HO.out]; kernel_rfl) (by rw [HO.out]; kernel_rfl) (by rw [HO.out]; kernel_rfl) (by rw [HQ.out]; exact fun _ _ _ h => h) (Or.inl ⟨by first | rfl | (rw [HO.out]; kernel_rfl), ?_⟩) hS ?_
        · intro w' hSw
          go_simp
        try simp only [Act.put, List.setIfInBounds_toArray, List.set_cons_zero, List.set_cons_succ]
        refine wpAnyH_one (i := 2) (x := 35) (R := fun v W' => v = .slice (some ⟨W.heap.size, 0, none⟩) r.length (gc W.drew s1) ∧ W' = bw W.drew s1) (by rw [HO.out]; simp only [List.getElem?_toArray, List.getElem?_cons_succ, List.getElem?_cons_zero]; rfl) (by rw [HO.out]; kernel_rfl) hS ?_ ?_
        · intro K hK
          simp only [Act.put, List.setIfInBounds_toArray, List.set_cons_zero, List.set_cons_succ] at hK
          unfold Steps
          rw [if_pos (by rw [HO.out]; kernel_rfl)]
          go_simp
          exact hK _ _ ⟨rfl, rfl⟩ (bw_below W.drew s1)
        rintro v9 w9 ⟨hv9, hw9⟩ hb9 hS9
        subst hv9; subst hw9
        replace hS := hS9
        clear hS9 hb9
        try simp only [Act.put, List.setIfInBounds_toArray, List.set_cons_zero, List.set_cons_succ]
        refine wpAnyH_one (i := 6) (x := 39) (R := fun v w3 => ∃ ua un uc ok, v = .tuple #[.slice ua un uc, .bool ok] ∧ Hid (Below W.heap.size W w3) ∧ Hid ((readN gvF c.attrs.length (nb r) = none ∧ ok = false ∧ Value.slice ua un uc = .slice none 0 0) ∨ ∃ vs, readN gvF c.attrs.length (nb r) = some vs ∧ ok = true ∧ OwnV w3 (bw W.drew s1).heap.size (.slice ua un uc) vs)) (by rw [HO.out]; simp only [List.getElem?_toArray, List.getElem?_cons_succ, List.getElem?_cons_zero]; rfl) (by rw [HO.out]; kernel_rfl) hS ?_ ?_
        · intro K hK
          simp only [Act.put, List.setIfInBounds_toArray, List.set_cons_zero, List.set_cons_succ] at hK
          unfold Steps
          rw [if_pos (by rw [HO.out]; kernel_rfl)]
          go_simp
          refine (CV W.drew (HVs.out.below (HBW.out.trans ((Below.refl _ _).drew)))).mono ?_
          rintro e w3 ⟨hb3, ua, un, uc, ok, rfl, hr3⟩
          exact hK _ _ ⟨ua, un, uc, ok, rfl, bt (bt (Below.refl _ _).drew (bw_below _ _)) hb3, hr3⟩ hb3
        rintro v9 w3 ⟨ua, un, uc, ok, hv9, B3, HR3⟩ hb9 hS9
        subst hv9
        replace hS := hS9
        clear hS9 hb9
        try simp only [Act.put, List.setIfInBounds_toArray, List.set_cons_zero, List.set_cons_succ]
        refine wpAnyH_take (i := 7) (v := .tuple #[.slice ua un uc, .bool ok]) (by rw [HO.out]; simp only [List.getElem?_toArray, List.getElem?_cons_succ, List.getElem?_cons_zero]; rfl) (by rw [HO.out]; kernel_rfl) (by rw [HO.out]; kernel_rfl) (by rw [HO.out]; kernel_rfl) (by rw [HQ.out]; exact fun _ _ _ h => h) (Or.inl ⟨by first | rfl | (rw [HO.out]; kernel_rfl), ?_⟩) hS ?_
        · intro w' hSw
          go_simp
        try simp only [Act.put, List.setIfInBounds_toArray, List.set_cons_zero, List.set_cons_succ]
        refine wpAnyH_take (i := 8) (v := .slice ua un uc) (by rw [HO.out]; simp only [List.getElem?_toArray, List.getElem?_cons_succ, List.getElem?_cons_zero]; rfl) (by rw [HO.out]; kernel_rfl) (by rw [HO.out]; kernel_rfl) (by rw [HO.out]; kernel_rfl) (by rw [HQ.out]; exact fun _ _ _ h => h) (Or.inl ⟨by first | rfl | (rw [HO.out]; kernel_rfl), ?_⟩) hS ?_
        · intro w' hSw
          go_simp
        try simp only [Act.put, List.setIfInBounds_toArray, List.set_cons_zero, List.set_cons_succ]
        refine wpAnyH_take (i := 9) (v := .bool ok) (by rw [HO.out]; simp only [List.getElem?_toArray, List.getElem?_cons_succ, List.getElem?_cons_zero]; rfl) (by rw [HO.out]; kernel_rfl) (by rw [HO.out]; kernel_rfl) (by rw [HO.out]; kernel_rfl) (by rw [HQ.out]; exact fun _ _ _ h => h) (Or.inl ⟨by first | rfl | (rw [HO.out]; kernel_rfl), ?_⟩) hS ?_
        · intro w' hSw
          go_simp
        try simp only [Act.put, List.setIfInBounds_toArray, List.set_cons_zero, List.set_cons_succ]
        refine wpAnyH_take (i := 10) (v := .slice ua un uc) (by rw [HO.out]; simp only [List.getElem?_toArray, List.getElem?_cons_succ, List.getElem?_cons_zero]; rfl) (by rw [HO.out]; kernel_rfl) (by rw [HO.out]; kernel_rfl) (by rw [HO.out]; kernel_rfl) (by rw [HQ.out]; exact fun _ _ _ h => h) (Or.inl ⟨by first | rfl | (rw [HO.out]; kernel_rfl), ?_⟩) hS ?_
        · intro w' hSw
          go_simp
        try simp only [Act.put, List.setIfInBounds_toArray, List.set_cons_zero, List.set_cons_succ]
        refine wpAnyH_take (i := 11) (v := .bool ok) (by rw [HO.out]; simp only [List.getElem?_toArray, List.getElem?_cons_succ, List.getElem?_cons_zero]; rfl) (by rw [HO.out]; kernel_rfl) (by rw [HO.out]; kernel_rfl) (by rw [HO.out]; kernel_rfl) (by rw [HQ.out]; exact fun _ _ _ h => h) (Or.inl ⟨by first | rfl | (rw [HO.out]; kernel_rfl), ?_⟩) hS ?_
        · intro w' hSw
          go_simp
        try simp only [Act.put, List.setIfInBounds_toArray, List.set_cons_zero, List.set_cons_succ]
        refine wpAnyH_done (by rw [HO.out]; kernel_rfl) ?_ _
        rw [HQ.out]
        refine NoPanic.normal ?_
        have HSZ : W.heap.size ≤ (bw W.drew s1).heap.size := by rw [bw_size]; show W.heap.size ≤ W.heap.size + 1; omega
        obtain ⟨x0, x1⟩ := SK.out w3 B3.out
        obtain ⟨⟨y0, y1, y2⟩, ⟨z0, z1, z2⟩, hlt3⟩ := SR.out w3 B3.out
        go_wp2
        refine bodyPost_ret (v := .tuple #[.agg #[.int .i64 t, .string (st c.nm), .slice ua un uc], .bool ok]) (by simp [results, Tryd.results29, go_sem]; go_simp) rfl ?_
        have hbelow : Below w.heap.size w (((w3.setCell ⟨w.heap.size, 0, none⟩ (.int .i64 t)).setCell ⟨w.heap.size, 1, none⟩ (.string (st c.nm))).setCell ⟨w.heap.size, 2, none⟩ (.slice ua un uc)) := set3 (HBW.out.trans (B3.out.mono HBW.out.size)) _ (Nat.le_refl _) _ _ _
        rcases HR3.out with ⟨e1, rfl, e3⟩ | ⟨vs, e1, rfl, ho⟩
        · rw [e3] at hbelow ⊢
          exact HPN.out t (st c.nm) _ (by rw [ER.out, e1]; rfl) hbelow
        · exact HPS.out ⟨t, c.nm, vs⟩ (.slice ua un uc) _ (by rw [ER.out, e1]; rfl) hbelow (own_set3 (ho.mono (Nat.le_trans HBW2.out HSZ)) _ _ _)
end Go.Proofs.YtpmhilaochfpaaaDoor
namespace Go.Proofs.YtpmhilaochfpaaaDoor
open Go.RowKit
set_option linter.unusedVariables false
set_option linter.unusedSimpArgs false
set_option maxRecDepth 20000
set_option maxHeartbeats 8000000 in
theorem fput_any {P : Nat → Nat → Prop} {Q Q2 : Nat → Prop} (v u : Value) (cs : List ClassD) (f : FactD) (w : World) (h : Row 2 (ReK P) w Q v cs) (hL : ∀ c ∈ cs, c.attrs.length ≤ 100000) (hcs : cs.length ≤ 200)
    (hf : SlW 3 w Q2 u (f.vs.map clV)) (hfl : f.vs.length ≤ 100) (hv : ∀ x ∈ f.vs, fV x) (hV : Vars w) :
    Calls Tryd.prog 12 #[v, .agg #[.int .i64 f.t, .string (st f.c), u]] w fun e w' => e = .returned (.tuple #[.string (st (putS cs f)), .int .i64 (putEr cs f)]) ∧ Below w.heap.size w w' := by
  obtain ⟨a2, c2, rfl⟩ := hf.shape
  have CC := check_any v _ cs f (w.alloc (.cells #[.int .i64 f.t, .string (st f.c), .slice a2 (f.vs.map clV).length c2] 36)) (rowK_keep h (bxn _ _)) hL (hf.bl (bxn _ _)) hv (hV.below (bxn _ _))
  rw [List.length_map] at *
  by_cases hE : factE cs f = 0
  · obtain ⟨k, hk, hi, hnm, hal, hvv⟩ := place_of hE
    obtain ⟨g1, g2⟩ := put_good hE hi (by omega)
    rw [g1, g2]
    rw [hE] at CC
    obtain ⟨p1, p2⟩ := put1 (k := k) (by omega)
    have CP := fun W (hW : Below w.heap.size w W) => place_any v cs f.c W (rowK_keep h hW)
    have CN := fun W => put_any (k : Int) 1 W
    rw [p1, p2] at CN
    rw [hi] at CP
    obtain ⟨-, l2, m2, r2⟩ := hf.at v00
    clear hE g1 g2 p1 p2 h hf hL
    obtain ⟨t, nm, vs⟩ := f
    simp only at *
    have R2 : Hid (∀ i, i < vs.length → ∃ b off, a2 = some ⟨b, off, none⟩ ∧ b < w.heap.size ∧ ∀ j, j < 3 → w.cell? ⟨b, off + (i * 3 + j), none⟩ = (clV (vs.getD i v00))[j]?) := r2
    have HV : Hid (∀ x ∈ vs, fV x) := hv
    have HC : Hid (∀ x ∈ vs, chkV x = 0) := hvv
    have HVs : Hid (Vars w) := hV
    have hn2 : (vs.length : Int) ≤ 9223372036854775807 := by omega
    have HZ : Hid (∀ zs ∈ [(k : Int)] :: vs.map pvF, zs.length ≤ 100000) := fun zs hz => by
      rcases List.mem_cons.1 hz with rfl | hz
      · simp
      · obtain ⟨x, hx, rfl⟩ := List.mem_map.1 hz
        have := pvF_pos (hv x hx).1 (hvv x hx)
        omega
    clear r2 hv hvv hV
    have HX : Hid (∀ W, Below (w.alloc (.cells #[.int .i64 t, .string (st nm), .slice a2 vs.length c2] 36)).heap.size (w.alloc (.cells #[.int .i64 t, .string (st nm), .slice a2 vs.length c2] 36)) W →
        (W.cell? ⟨w.heap.size, 0, none⟩ = some (.int .i64 t) ∧ W.cell? ⟨w.heap.size, 1, none⟩ = some (.string (st nm)) ∧ W.cell? ⟨w.heap.size, 2, none⟩ = some (.slice a2 vs.length c2)) ∧ w.heap.size < W.heap.size ∧ Below w.heap.size w W) := fun W hW =>
      ⟨⟨(hW.cell (p := ⟨w.heap.size, 0, none⟩) (by simp)).trans (by go_simp), (hW.cell (p := ⟨w.heap.size, 1, none⟩) (by simp)).trans (by go_simp), (hW.cell (p := ⟨w.heap.size, 2, none⟩) (by simp)).trans (by go_simp)⟩, by have := hW.size; simp at this; omega, (bxn w _).trans (hW.mono (by simp))⟩
    have HWB : Hid (w.heap.size < (w.alloc (.cells #[.int .i64 t, .string (st nm), .slice a2 vs.length c2] 36)).heap.size) := by show _ < _; simp
    go_enter Tryd.func12, Tryd.ntmps12
    go_wp2_with (first
      | (go_at_call 17; refine CC.mono ?_; rintro e w2 ⟨rfl, hb2⟩; obtain ⟨⟨x0, x1, x2⟩, hs, hB⟩ := HX.out w2 hb2; have H2 : Hid (Below _ _ w2) := hb2; have B2 : Hid (Below w.heap.size w w2) := hB; clear CC hb2 hB)
      | (go_at_call 23; refine (CP _ B2.out).mono ?_; rintro e w3 ⟨rfl, hb3⟩; have H3 : Hid (Below _ _ w3) := bt H2.out hb3; clear CP hb3)
      | (go_at_call 19; refine (CN _).mono ?_; rintro e w4 ⟨hd, rfl, ho, hb4⟩; obtain ⟨g0, c0, rfl, _, _, _⟩ := ho.shape 1 rfl (by decide); have H4 : Hid (Below _ _ w4) := bt H3.out hb4; obtain ⟨⟨x0, x1, x2⟩, hs, hB⟩ := HX.out w4 H4.out; have HO : Hid (Own w4 w.heap.size (.slice (some ⟨g0, 0, none⟩) 1 c0) [(k : Int)]) := ho.mono (by have := H3.out.size; have := HWB.out; omega); clear CN hb4 hB ho))
    obtain ⟨W0, hW0⟩ : ∃ W0, W0 = w4.alloc (.cells #[.slice (some ⟨g0, 0, none⟩) 1 c0] 53) := ⟨_, rfl⟩
    have HON : Hid (OwnN 53 1 W0 w4.heap.size (.slice (some ⟨w4.heap.size, 0, none⟩) 1 1) [[.slice (some ⟨g0, 0, none⟩) 1 c0]]) := by
      subst hW0; exact ⟨by simp, World.ownsRow_lit w4 #[.slice (some ⟨g0, 0, none⟩) 1 c0] 1 (Nat.le_refl _) (by decide) rfl⟩
    have HO0 : Hid (Own W0 w.heap.size (.slice (some ⟨g0, 0, none⟩) 1 c0) [(k : Int)]) := by subst hW0; exact HO.out.below (bxn _ _)
    have H0 : Hid (Below (w.alloc (.cells #[.int .i64 t, .string (st nm), .slice a2 vs.length c2] 36)).heap.size (w.alloc (.cells #[.int .i64 t, .string (st nm), .slice a2 vs.length c2] 36)) W0) := by subst hW0; exact bt H4.out (bxn _ _)
    have H40 : Hid ((w.alloc (.cells #[.int .i64 t, .string (st nm), .slice a2 vs.length c2] 36)).heap.size ≤ w4.heap.size ∧ w4.heap.size < W0.heap.size) := by subst hW0; exact ⟨H4.out.size, by simp⟩
    generalize (.slice (some ⟨g0, 0, none⟩) 1 c0 : Value) = hd at *
    generalize w4.heap.size = B2 at *
    rw [← hW0]
    clear hW0 x0 x1 x2 hs H4 HO
    go_loopw [9, 11, 12, 13, 35] (fun vp _ _ _ vi wr => ∃ i : Nat, vi = .int .i64 i ∧ i ≤ vs.length ∧ Hid (Below (w.alloc (.cells #[.int .i64 t, .string (st nm), .slice a2 vs.length c2] 36)).heap.size (w.alloc (.cells #[.int .i64 t, .string (st nm), .slice a2 vs.length c2] 36)) wr ∧ B2 < wr.heap.size) ∧ Hid (∃ ps, OwnN 53 1 wr B2 vp (ps.map fun p => [p]) ∧ All2 (PT w.heap.size wr) ps ([(k : Int)] :: (vs.take i).map pvF))) (fun _ _ _ _ v _ => (vs.length - intOf v).toNat)
    case atStart => exact ⟨0, rfl, Nat.zero_le _, ⟨H0.out, H40.out.2⟩, [hd], HON.out, ⟨HO0.out, by simp, by intro z hz; simp at hz; omega⟩, trivial⟩
    case round =>
      obtain ⟨i, rfl, hi, HB, HP⟩ := hrel
      obtain ⟨⟨x0, x1, x2⟩, hs, hB⟩ := HX.out wr HB.out.1
      have HW : Hid (Below w.heap.size w wr) := hB
      have HB2 : Hid (B2 < wr.heap.size) := HB.out.2
      clear hB
      by_cases hlt : i < vs.length
      · have hiz : (i : Int) < vs.length := by omega
        obtain ⟨b1, o1, rfl, hb1, q1⟩ := R2.out i hlt
        have d0 : wr.cell? ⟨b1, o1 + i * 3, none⟩ = (clV (vs.getD i v00))[0]? := (HW.out.cell (p := ⟨b1, o1 + i * 3, none⟩) hb1).trans (q1 0 (by decide))
        have d1 : wr.cell? ⟨b1, o1 + i * 3 + 1, none⟩ = (clV (vs.getD i v00))[1]? := (HW.out.cell (p := ⟨b1, o1 + i * 3 + 1, none⟩) hb1).trans (q1 1 (by decide))
        have d2 : wr.cell? ⟨b1, o1 + i * 3 + 2, none⟩ = (clV (vs.getD i v00))[2]? := (HW.out.cell (p := ⟨b1, o1 + i * 3 + 2, none⟩) hb1).trans (q1 2 (by decide))
        clear q1
        have hmem : vs.getD i v00 ∈ vs := by rw [List.getD_eq_getElem?_getD, List.getElem?_eq_getElem hlt]; exact List.getElem_mem hlt
        have hfv := HV.out _ hmem
        have hcv := HC.out _ hmem
        have TM := take_map pvF vs v00 i hlt
        generalize vs.getD i v00 = x at *
        clear hmem
        have CB := fun W hW => put_any13 x.k x.n (st x.s) W hfv.1 hfv.2.1 (by rw [st_size]; have := hfv.2.2; omega) hW
        have PPx := pvF_pos hfv.1 hcv
        have PA : Hid (AllB (pvF x)) := put_all13 hfv.1 hfv.2.1
        unfold PutPost at CB
        rw [st_list] at CB
        have hcv' : chkE x.k x.n x.s = 0 := hcv
        rw [hcv'] at CB
        change ∀ W, Vars W → Calls Tryd.prog 24 #[.agg #[.int .u8 x.k, .int .i64 x.n, .string (st x.s)]] W (fun e w' => ∃ v, e = .returned (.tuple #[v, .int .i64 0]) ∧ Own w' W.heap.size v (pvF x) ∧ Below W.heap.size W w') at CB
        simp only [clV, List.getElem?_cons_zero, List.getElem?_cons_succ] at d0 d1 d2
        obtain ⟨ps, hN, hP⟩ := HP.out
        have hpl := hP.len
        simp only [List.length_cons, List.length_map, List.length_take] at hpl
        clear HP
        have HV1 := HVs.out.below (bt HW.out (bxn wr (.cells #[.int .u8 x.k, .int .i64 x.n, .string (st x.s)] 52)))
        have PN : Hid (OwnN 53 1 wr B2 _ (ps.map fun p => [p]) ∧ All2 (PT w.heap.size wr) ps ([(k : Int)] :: (vs.take i).map pvF) ∧ ps.length ≤ 101) := ⟨hN, hP, by omega⟩
        have CB1 := CB _ HV1
        clear hN hP hpl CB HV1 hfv hcv hcv'
        have HPP : Hid (1 ≤ (pvF x).length ∧ pvF x ≠ []) := ⟨PPx.1, fun e => by have := PPx.1; rw [e] at this; simp at this⟩
        clear PPx
        generalize pvF x = zx at *
        have HWS := HW.out.size
        go_wp2_with (first
          | (go_at_call 24; refine CB1.mono ?_; rintro e w5 ⟨bv, rfl, ho5, hb5⟩; obtain ⟨g5, c5, rfl, _, _, _⟩ := ho5.shape zx.length rfl (by have := HPP.out; omega)
             have HQ : Hid (Below wr.heap.size wr (w5.alloc (.cells #[.slice (some ⟨g5, 0, none⟩) zx.length c5] 53)) ∧ Own w5 w.heap.size (.slice (some ⟨g5, 0, none⟩) zx.length c5) zx) := ⟨bt (bt (bxn _ _) hb5) (bxn _ _), ho5.mono (by simp; omega)⟩
             clear CB1 ho5 hb5)
          | (at_builtin; refine wp_app_n Tryd.underlying64 info53 rfl (by decide) (by decide) rfl _ _ rfl B2 _ (ps.map fun p => [p]) [[.slice (some ⟨g5, 0, none⟩) zx.length c5]] rfl (PN.out.1.below HQ.out.1) _ rfl (OwnN.sl (base := 0) ⟨by simp, World.ownsRow_lit w5 #[.slice (some ⟨g5, 0, none⟩) zx.length c5] 1 (Nat.zero_le _) (by decide) rfl⟩) (by simp) (by simp [Value.oneCell']) (by have := PN.out.2.2; simp; omega) (by have := HQ.out.1.size; have := HB2.out; omega) ?_; intro v6 w6 o6 g6 b6))
        have hb6 := b6.size
        have hq := HQ.out.1.size
        have hB := HB.out.2
        have P5 := parts_below HQ.out.1 PN.out.2.1
        have N5 := PN.out.1.below HQ.out.1
        have P6 : ∀ p zs, PT w.heap.size (w5.alloc (.cells #[.slice (some ⟨g5, 0, none⟩) zx.length c5] 53)) p zs → PT w.heap.size w6 p zs := fun p zs h => ⟨h.1.off (by decide) N5 g6, h.2⟩
        refine ⟨⟨i + 1, by simp, by omega, ⟨?_, by omega⟩, ps ++ [.slice (some ⟨g5, 0, none⟩) zx.length c5], ?_, ?_⟩, by simp [intOf]; omega⟩
        · exact (bt HB.out.1 HQ.out.1).trans (b6.mono H40.out.1)
        · rw [List.map_append]; exact o6
        · rw [TM, ← List.cons_append]
          exact All2.snoc (P6 _ _ ⟨HQ.out.2.below (bxn _ _), HPP.out.2, PA.out⟩) (P5.map P6)
      · have hiz : ¬ (i : Int) < vs.length := by omega
        have e : vs.take i = vs := List.take_of_length_le (by omega)
        rw [e] at HP
        obtain ⟨ps, hN, hP⟩ := HP.out
        have CJ := join_any _ _ wr (parts_row hN hP) HZ.out
        clear e
        go_wp2_with (go_at_call 25; refine CJ.mono ?_; rintro e w7 ⟨rfl, hb7⟩)
        go_ret2
        exact ⟨rfl, HW.out.trans (hb7.mono HW.out.size)⟩
  · obtain ⟨g1, g2⟩ := put_bad hE
    have HE : Hid (factE cs f ≠ 0) := hE
    rw [g1, g2]
    clear g1 g2 hE h hf
    generalize factE cs f = er at *
    have hne := HE.out
    go_enter Tryd.func12, Tryd.ntmps12
    go_wp2_with (go_at_call 17; refine CC.mono ?_; rintro e w2 ⟨rfl, hb2⟩)
    go_ret2
    exact ⟨rfl, bt (bxn _ _) hb2⟩
end Go.Proofs.YtpmhilaochfpaaaDoor
namespace Go.Proofs.YtpmhilaochfpaaaDoor
open Go.RowKit
set_option linter.unusedVariables false
set_option linter.unusedSimpArgs false
set_option maxRecDepth 20000
theorem nb_all (s : Str) : AllB (nb s) := by
  intro z hz
  obtain ⟨b, _, rfl⟩ := List.mem_map.1 hz
  have := b.toNat_lt
  omega
theorem gv_fV {zs : List Int} {x : VD} {m : Nat} (ha : AllB zs) (h : gvF zs = some (x, m)) : fV x := by
  unfold gvF at h
  split at h
  · injection h with h
    injection h with h1 h2
    subst h1
    have hk := tkK_b ha
    have hs := tkS_le ha
    refine ⟨hk.1, hk.2, ?_⟩
    show (tkS zs).data.toList.length ≤ 100000
    have : (tkS zs).data.toList.length = (tkS zs).size := by simp
    omega
  · cases h
theorem readN_fV : ∀ {n : Nat} {zs : List Int} {vs : List VD}, AllB zs → readN gvF n zs = some vs → (∀ x ∈ vs, fV x) ∧ vs.length = n
  | 0, zs, vs, _, h => by
    injection h with h; subst h; exact ⟨by simp, rfl⟩
  | n + 1, zs, vs, ha, h => by
    cases hg : gvF zs with
    | none => rw [readN_no hg] at h; cases h
    | some p =>
      obtain ⟨x, m⟩ := p
      rw [readN_some hg] at h
      cases hr : readN gvF n (zs.drop m) with
      | none => rw [hr] at h; cases h
      | some ws =>
        rw [hr] at h
        injection h with h
        subst h
        obtain ⟨h1, h2⟩ := readN_fV (ha.drop m) hr
        exact ⟨fun y hy => by
          rcases List.mem_cons.1 hy with rfl | hy
          · exact gv_fV ha hg
          · exact h1 y hy, by simp [h2]⟩
theorem read_fV {cs : List ClassD} {t : Int} {s : Str} {f : FactD} (h : readR cs t s = some f) : (∀ x ∈ f.vs, fV x) ∧ ∃ c ∈ cs, f.vs.length = c.attrs.length := by
  cases s with
  | nil => cases h
  | cons b r =>
    unfold readR at h
    dsimp only at h
    split at h
    · cases h
    · split at h
      · cases h
      · rename_i h1 h2
        cases hr : readN gvF (cs.getD b.toNat ⟨[], []⟩).attrs.length (nb r) with
        | none => rw [hr] at h; cases h
        | some vs =>
          rw [hr] at h
          injection h with h
          subst h
          obtain ⟨g1, g2⟩ := readN_fV (nb_all r) hr
          exact ⟨g1, _, by rw [List.getD_eq_getElem?_getD, List.getElem?_eq_getElem (by omega)]; exact List.getElem_mem _, g2⟩
theorem putVs_all : ∀ {vs : List VD}, (∀ x ∈ vs, fV x) → AllB (putVs pvF vs)
  | [], _ => AllB.nil
  | x :: vs, h => (put_all13 (h x (List.mem_cons_self ..)).1 (h x (List.mem_cons_self ..)).2.1).append (putVs_all fun y hy => h y (List.mem_cons_of_mem _ hy))
theorem nb_b8 {zs : List Int} (h : AllB zs) : nb (b8 zs) = zs := b8_of h
theorem b8_nb (s : Str) : b8 (nb s) = s := of_b8 s
theorem put_iff {cs : List ClassD} {f : FactD} (hcs : cs.length ≤ 200) (hv : ∀ x ∈ f.vs, fV x) (s : Str) : putF pvF cs f = .ok (nb s) ↔ putEr cs f = 0 ∧ putS cs f = s := by
  cases hp : putF pvF cs f with
  | error e =>
    obtain ⟨h1, _⟩ := putF_err hp
    have e2 : putEr cs f = e := by unfold putEr; rw [hp]
    constructor
    · intro h; cases h
    · intro h; rw [e2] at h; exact absurd h.1 h1
  | ok bs =>
    obtain ⟨h1, h2, h3, _⟩ := putF_ok hp
    have e2 : putEr cs f = 0 := by unfold putEr; rw [hp]
    have e3 : putS cs f = b8 bs := by unfold putS; rw [hp]
    have ha : AllB bs := by
      rw [h2]
      obtain ⟨k, hk, hi, _⟩ := place_of h1
      exact AllB.cons (by omega) (by omega) (putVs_all hv)
    rw [e2, e3]
    constructor
    · intro h; injection h with h; subst h; exact ⟨rfl, b8_nb s⟩
    · intro h; rw [← h.2, nb_b8 ha]
theorem nb_cons (b : UInt8) (r : Str) : nb (b :: r) = (b.toNat : Int) :: nb r := rfl
theorem get_is {cs : List ClassD} (t : Int) (s : Str) (hcs : cs.length ≤ 200) : getF pvF gvF cs t (nb s) = match readR cs t s with
    | none => none
    | some f => if putEr cs f = 0 ∧ putS cs f = s then some f else none := by
  cases s with
  | nil => rfl
  | cons b r =>
    rw [nb_cons]
    unfold getF readR
    dsimp only
    rw [Int.toNat_natCast]
    by_cases hc : cs.length ≤ b.toNat
    · rw [if_pos (by omega), if_pos hc]; split <;> rename_i h <;> first | rfl | (split at h <;> cases h)
    · rw [if_neg (by omega), if_neg hc]
      by_cases h160 : 160 < (b :: r).length
      · rw [if_pos h160]
        dsimp only
        split
        · rfl
        · rename_i vs hr
          rw [if_neg]
          intro h
          have := (putF_ok h).2.2.2
          simp only [List.length_cons, nb, List.length_map] at this h160
          omega
      · rw [if_neg h160]
        cases hr : readN gvF (cs.getD b.toNat ⟨[], []⟩).attrs.length (nb r) with
        | none => rfl
        | some vs =>
          dsimp only [Option.map]
          have hi := put_iff (cs := cs) (f := ⟨t, (cs.getD b.toNat ⟨[], []⟩).nm, vs⟩) hcs (readN_fV (nb_all r) hr).1 (b :: r)
          rw [nb_cons] at hi
          by_cases hp : putF pvF cs ⟨t, (cs.getD b.toNat ⟨[], []⟩).nm, vs⟩ = .ok ((b.toNat : Int) :: nb r)
          · rw [if_pos hp, if_pos (hi.1 hp)]
          · rw [if_neg hp, if_neg fun h => hp (hi.2 h)]
def GPf (w : World) (r : Option FactD) (e : Ending) (w' : World) : Prop := Below w.heap.size w w' ∧ match r with
  | none => e = .returned (.tuple #[.agg #[.int .i64 0, .string ⟨#[]⟩, .slice none 0 0], .int .i64 4])
  | some f => ∃ u, e = .returned (.tuple #[fB f u, .int .i64 0]) ∧ OwnV w' w.heap.size u f.vs
end Go.Proofs.YtpmhilaochfpaaaDoor
namespace Go.Proofs.YtpmhilaochfpaaaDoor
open Go.RowKit
set_option linter.unusedVariables false
set_option linter.unusedSimpArgs false
set_option maxRecDepth 20000
theorem gv_of {zs : List Int} {k n : Int} {s : ByteArray} {m : Int} (h : gtA zs = .tuple #[vv k n s, .int .i64 m, .int .i64 0]) (hm : 0 ≤ m) : gvF zs = some (⟨k, n, s.data.toList⟩, m.toNat) := by
  unfold gtA at h
  by_cases hg : gtE zs = 0
  · rw [if_pos hg] at h
    unfold gvF
    rw [if_pos hg]
    unfold vv at h
    simp only [Value.tuple.injEq, Array.mk.injEq, List.cons.injEq, Value.agg.injEq, Value.int.injEq, Value.string.injEq, true_and, and_true] at h
    obtain ⟨⟨h1, h2, h3⟩, h4⟩ := h
    have hl := tkZ_le zs
    rw [h1, h2, h3]
    have : zs.length - (tkZ zs).length = m.toNat := by omega
    rw [this]
  · rw [if_neg hg] at h
    simp only [Value.tuple.injEq, Array.mk.injEq, List.cons.injEq, Value.int.injEq, true_and, and_true] at h
    exact absurd h.2.2 hg
theorem gv_of_no {zs : List Int} {k n : Int} {s : ByteArray} {m e : Int} (h : gtA zs = .tuple #[vv k n s, .int .i64 m, .int .i64 e]) (he : e ≠ 0) : gvF zs = none := by
  unfold gtA at h
  by_cases hg : gtE zs = 0
  · rw [if_pos hg] at h
    simp only [Value.tuple.injEq, Array.mk.injEq, List.cons.injEq, Value.int.injEq, true_and, and_true] at h
    exact absurd h.2.2.symm he
  · unfold gvF; rw [if_neg hg]
theorem neg_val {x : VD} (hk : x.k < 0) (h : chkV x = 0) : x.n = 0 ∧ x.s = [] ∧ pvF x = [x.k] := by
  have h0 := h
  unfold chkV chkE at h
  rw [if_neg (by omega)] at h
  by_cases h1 : (x.n ≠ 0 ∧ x.k ≠ 1) ∨ (x.s ≠ [] ∧ x.k ≠ 2)
  · rw [if_pos h1] at h; cases h
  · refine ⟨Classical.byContradiction fun hn => h1 (.inl ⟨hn, by omega⟩), Classical.byContradiction fun hn => h1 (.inr ⟨hn, by omega⟩), ?_⟩
    unfold pvF putL13 rstL
    rw [st_list, if_neg (by rw [show chkE x.k x.n x.s = chkV x from rfl, h0]; simp), if_neg (by omega), if_neg (by omega)]
theorem hg_ok : ∀ (x : VD) (ys : List Int), chkV x = 0 → gvF (pvF x ++ ys) = some (x, (pvF x).length) := by
  intro x ys h
  by_cases hk : 0 ≤ x.k
  · have := get_put13 (s := st x.s) hk (by rw [st_list]; exact h) ys
    have h2 := gv_of this (by omega)
    rw [st_list, Int.toNat_natCast] at h2
    exact h2
  · obtain ⟨h1, h2, h3⟩ := neg_val (by omega) h
    obtain ⟨k, n, s⟩ := x
    simp only at h1 h2 hk
    subst h1 h2
    rw [h3]
    have e1 : tkK ([k] ++ ys) = k := rfl
    have e2 : tkE ([k] ++ ys) = 0 := by unfold tkE; rw [e1, if_neg (by simp), if_neg (by omega), if_neg (by omega)]
    have e3 : tkN ([k] ++ ys) = 0 := by unfold tkN; rw [e1, if_neg (by omega)]
    have e4 : tkS ([k] ++ ys) = ByteArray.empty := by unfold tkS; rw [e1, if_neg (by omega)]
    have e5 : tkZ ([k] ++ ys) = ys := by unfold tkZ; rw [e1, if_neg (by simp), if_neg (by omega), if_neg (by omega)]; rfl
    have e6 : gtE ([k] ++ ys) = 0 := by
      unfold gtE
      rw [e2, e1, e3, e4, if_neg (by decide), if_neg]
      rintro (h' | h')
      · exact h' rfl
      · exact h' h
    unfold gvF
    rw [if_pos e6, e1, e3, e4, e5]
    simp
theorem hg_cut : ∀ x : VD, chkV x = 0 → gvF ((pvF x).take ((pvF x).length - 1)) = none := by
  intro x h
  by_cases hk : 0 ≤ x.k
  · exact gv_of_no (get_cut13 (s := st x.s) hk (by rw [st_list]; exact h)) (by decide)
  · obtain ⟨h1, h2, h3⟩ := neg_val (by omega) h
    rw [h3]
    rfl
theorem hg_pos : ∀ x : VD, chkV x = 0 → 1 ≤ (pvF x).length := by
  intro x h
  by_cases hk : 0 ≤ x.k
  · exact (pvF_pos hk h).1
  · obtain ⟨h1, h2, h3⟩ := neg_val (by omega) h
    rw [h3]; simp
theorem put_text {cs : List ClassD} {f : FactD} (hcs : cs.length ≤ 200) (hv : ∀ x ∈ f.vs, fV x) (h : putEr cs f = 0) : ∃ bs, putF pvF cs f = .ok bs ∧ nb (putS cs f) = bs ∧ AllB bs ∧ bs ≠ [] := by
  cases hp : putF pvF cs f with
  | error e =>
    obtain ⟨h1, _⟩ := putF_err hp
    have e2 : putEr cs f = e := by unfold putEr; rw [hp]
    rw [e2] at h
    exact absurd h h1
  | ok bs =>
    obtain ⟨h1, h2, h3, _⟩ := putF_ok hp
    have ha : AllB bs := by
      rw [h2]
      obtain ⟨k, hk, hi, _⟩ := place_of h1
      exact AllB.cons (by omega) (by omega) (putVs_all hv)
    have e3 : putS cs f = b8 bs := by unfold putS; rw [hp]
    exact ⟨bs, rfl, by rw [e3, nb_b8 ha], ha, by rw [h2]; simp⟩
theorem back_plain {cs : List ClassD} {f : FactD} (hcs : cs.length ≤ 200) (hv : ∀ x ∈ f.vs, fV x) (h : putEr cs f = 0) :
    putS cs f ≠ [] ∧ (1 ≤ f.t ∧ f.t ≤ 1099511627776) ∧ getF pvF gvF cs f.t (nb (putS cs f)) = some f ∧ getF pvF gvF cs f.t (nb (putS cs f ++ [0])) = none ∧ getF pvF gvF cs f.t (nb ((putS cs f).take ((putS cs f).length - 1))) = none := by
  obtain ⟨bs, hp, hn, ha, hne⟩ := put_text hcs hv h
  have hE := (putF_ok hp).1
  have ht := (factE_fit hE).1
  have ht2 : 1 ≤ f.t ∧ f.t ≤ 1099511627776 := of_decide_eq_true ht
  have hl : (putS cs f).length = bs.length := by rw [← hn]; unfold nb; rw [List.length_map]
  refine ⟨fun e => hne (by rw [← hn, e]; rfl), ht2, ?_, ?_, ?_⟩
  · rw [hn]; exact getF_put hg_ok hp
  · have e : nb (putS cs f ++ [0]) = bs ++ [0] := by
      unfold nb at hn ⊢; rw [List.map_append, hn]; rfl
    rw [e]; exact getF_more hg_ok hp 0
  · have e : nb ((putS cs f).take ((putS cs f).length - 1)) = bs.take (bs.length - 1) := by
      unfold nb at hn ⊢; rw [List.map_take, hn, hl]
    rw [e]; exact getF_less hg_ok hg_cut hg_pos hp
theorem back_err {cs : List ClassD} {f : FactD} (h : putEr cs f ≠ 0) : putS cs f = [] ∧ (putEr cs f = factE cs f ∨ putEr cs f = 5) := by
  cases hp : putF pvF cs f with
  | error e =>
    obtain ⟨_, h2⟩ := putF_err hp
    have e2 : putEr cs f = e := by unfold putEr; rw [hp]
    exact ⟨by unfold putS; rw [hp], by rw [e2]; exact h2⟩
  | ok bs => exact absurd (by unfold putEr; rw [hp]) h
end Go.Proofs.YtpmhilaochfpaaaDoor
namespace Go.Proofs.YtpmhilaochfpaaaDoor
open Go.RowKit
set_option linter.unusedVariables false
set_option linter.unusedSimpArgs false
set_option maxRecDepth 20000
set_option maxHeartbeats 8000000 in
theorem fget_any {P : Nat → Nat → Prop} {Q : Nat → Prop} (v : Value) (cs : List ClassD) (t : Int) (s : Str) (w : World) (h : Row 2 (ReK P) w Q v cs) (hL : ∀ c ∈ cs, c.attrs.length ≤ 100) (hcs : cs.length ≤ 200) (hV : Vars w) (hs : s.length ≤ 100000) :
    Calls Tryd.prog 14 #[v, .int .i64 t, .string (st s)] w (GPf w (getF pvF gvF cs t (nb s))) := by
  generalize hPO : GPf w (getF pvF gvF cs t (nb s)) = PO
  have HPN : Hid (∀ w', getF pvF gvF cs t (nb s) = none → Below w.heap.size w w' → PO (.returned (.tuple #[.agg #[.int .i64 0, .string ⟨#[]⟩, .slice none 0 0], .int .i64 4])) w') := fun w' he hf => by rw [← hPO, he]; exact ⟨hf, rfl⟩
  have HPS : Hid (∀ f u w', getF pvF gvF cs t (nb s) = some f → Below w.heap.size w w' → OwnV w' w.heap.size u f.vs → PO (.returned (.tuple #[fB f u, .int .i64 0])) w') := fun f u w' he hf ho => by rw [← hPO, he]; exact ⟨hf, u, rfl, ho⟩
  have HGI := get_is (cs := cs) t s hcs
  clear hPO
  have HX : Hid (∀ W, Below (w.alloc (.cells #[.int .i64 0, .string ⟨#[]⟩, .slice none 0 0] 36)).heap.size (w.alloc (.cells #[.int .i64 0, .string ⟨#[]⟩, .slice none 0 0] 36)) W →
      (W.cell? ⟨w.heap.size, 0, none⟩ = some (.int .i64 0) ∧ W.cell? ⟨w.heap.size, 1, none⟩ = some (.string ⟨#[]⟩) ∧ W.cell? ⟨w.heap.size, 2, none⟩ = some (.slice none 0 0)) ∧
      (W.frozen? ⟨w.heap.size, 0, none⟩ = false ∧ W.frozen? ⟨w.heap.size, 1, none⟩ = false ∧ W.frozen? ⟨w.heap.size, 2, none⟩ = false) ∧ w.heap.size < W.heap.size ∧ Below w.heap.size w W) := fun W hb => by
    have f0 : (w.alloc (.cells #[.int .i64 0, .string ⟨#[]⟩, .slice none 0 0] 36)).frozen? ⟨w.heap.size, 0, none⟩ = false := by go_simp
    have f1 : (w.alloc (.cells #[.int .i64 0, .string ⟨#[]⟩, .slice none 0 0] 36)).frozen? ⟨w.heap.size, 1, none⟩ = false := by go_simp
    have f2 : (w.alloc (.cells #[.int .i64 0, .string ⟨#[]⟩, .slice none 0 0] 36)).frozen? ⟨w.heap.size, 2, none⟩ = false := by go_simp
    refine ⟨⟨(hb.cell (p := ⟨w.heap.size, 0, none⟩) (by simp)).trans (by go_simp), (hb.cell (p := ⟨w.heap.size, 1, none⟩) (by simp)).trans (by go_simp), (hb.cell (p := ⟨w.heap.size, 2, none⟩) (by simp)).trans (by go_simp)⟩, ⟨(hb.frozen (p := ⟨w.heap.size, 0, none⟩) (by simp)).trans f0, (hb.frozen (p := ⟨w.heap.size, 1, none⟩) (by simp)).trans f1, (hb.frozen (p := ⟨w.heap.size, 2, none⟩) (by simp)).trans f2⟩, ?_, bt (bxn _ _) hb⟩
    have := hb.size; simp at this; omega
  have CR := read_any v cs t s (w.alloc (.cells #[.int .i64 0, .string ⟨#[]⟩, .slice none 0 0] 36)) (rowK_keep h (bxn _ _)) (fun c hc => Nat.le_trans (hL c hc) (by decide)) (hV.below (bxn _ _)) hs
  have HWB : Hid ((w.alloc (.cells #[.int .i64 0, .string ⟨#[]⟩, .slice none 0 0] 36)).heap.size = w.heap.size + 1) := by show _ = _; simp
  cases hr : readR cs t s with
  | none =>
    rw [hr] at CR
    have E : Hid (getF pvF gvF cs t (nb s) = none) := by show getF pvF gvF cs t (nb s) = none; rw [HGI, hr]
    clear HGI
    clear h hL hV hr
    go_enter Tryd.func14, Tryd.ntmps14
    go_wp2_with (go_at_call 29; refine CR.mono ?_; rintro e w2 ⟨hb2, t', c', rfl⟩; obtain ⟨⟨x0, x1, x2⟩, ⟨z0, z1, z2⟩, hlt, hB⟩ := HX.out w2 hb2; have B2 : Hid (Below w.heap.size w w2) := hB; clear CR hb2 hB)
    refine bodyPost_ret (v := .tuple #[.agg #[.int .i64 0, .string ⟨#[]⟩, .slice none 0 0], .int .i64 4]) (by simp [results, Tryd.results14, go_sem]; go_simp) rfl (HPN.out _ E.out ?_)
    exact bt (set3 B2.out _ (Nat.le_refl _) _ _ _) (bxn _ _)
  | some f =>
    rw [hr] at CR
    rw [hr] at HGI
    obtain ⟨hfv, c, hc, hfl⟩ := read_fV hr
    have hfl2 : f.vs.length ≤ 100 := by have := hL c hc; omega
    have CP := fun W u (hB : Below w.heap.size w W) (hS : SlW 3 W (fun b => w.heap.size ≤ b) u (f.vs.map clV)) => fput_any v u cs f W (rowK_keep h hB) (fun c hc => Nat.le_trans (hL c hc) (by decide)) hcs hS hfl2 hfv (hV.below hB)
    clear h hL hV hr hfv hc hfl
    have HF : Hid (getF pvF gvF cs t (nb s) = if putEr cs f = 0 ∧ putS cs f = s then some f else none) := HGI
    clear HGI
    obtain ⟨ft, fc, vs⟩ := f
    generalize hpe : putEr cs ⟨ft, fc, vs⟩ = pe at *
    generalize hps : putS cs ⟨ft, fc, vs⟩ = ps at *
    simp only at *
    by_cases h0 : pe = 0
    · have EQ := eq_list (st ps) (st s)
      rw [st_list, st_list] at EQ
      by_cases h1 : ps = s
      · have E : Hid (getF pvF gvF cs t (nb s) = some ⟨ft, fc, vs⟩) := by show getF pvF gvF cs t (nb s) = _; rw [HF.out, if_pos ⟨h0, h1⟩]
        rw [decide_eq_true h1] at EQ
        subst h0
        clear HF h1
        go_enter Tryd.func14, Tryd.ntmps14
        go_wp2_with (first
          | (go_at_call 29; refine CR.mono ?_; rintro e w2 ⟨hb2, u, rfl, ho2⟩; obtain ⟨ua, uc, rfl⟩ := ho2.shape; have H2 : Hid (Below _ _ w2) := hb2; have HO2 : Hid (OwnV w2 (w.heap.size + 1) (.slice ua (vs.map clV).length uc) vs) := ho2.mono (Nat.le_of_eq HWB.out.symm); unfold fB; rw [List.length_map] at *; clear CR hb2 ho2)
          | (go_at_call 12; refine (CP _ _ (bt (bt (bxn _ _) H2.out) (bxn _ _)) ((OwnN.sl (HO2.out.below (bxn w2 (.cells #[.int .i64 ft, .string (st fc), .slice ua vs.length uc] 36)))).imp fun b _ h => Nat.le_of_succ_le h)).mono ?_; rintro e w5 ⟨rfl, hb5⟩
             obtain ⟨⟨x0, x1, x2⟩, ⟨z0, z1, z2⟩, hlt, hB⟩ := HX.out w5 (bt H2.out (bt (bxn _ _) hb5))
             have y0 : w5.cell? ⟨w2.heap.size, 0, none⟩ = some (.int .i64 ft) := (hb5.cell (p := ⟨w2.heap.size, 0, none⟩) (by simp)).trans (by go_simp)
             have y1 : w5.cell? ⟨w2.heap.size, 1, none⟩ = some (.string (st fc)) := (hb5.cell (p := ⟨w2.heap.size, 1, none⟩) (by simp)).trans (by go_simp)
             have y2 : w5.cell? ⟨w2.heap.size, 2, none⟩ = some (.slice ua vs.length uc) := (hb5.cell (p := ⟨w2.heap.size, 2, none⟩) (by simp)).trans (by go_simp)
             have B5 : Hid (Below w.heap.size w w5) := hB
             have HO5 : Hid (OwnV w5 (w.heap.size + 1) (.slice ua vs.length uc) vs) := HO2.out.below (bt (bxn _ _) hb5)
             clear CP hb5 hB))
        refine bodyPost_ret (v := .tuple #[.agg #[.int .i64 ft, .string (st fc), .slice ua vs.length uc], .int .i64 0]) (by simp [results, Tryd.results14, go_sem]; go_simp) rfl (HPS.out ⟨ft, fc, vs⟩ _ _ E.out ?_ ?_)
        · exact set3 B5.out _ (Nat.le_refl _) _ _ _
        · exact own_set3 HO5.out _ _ _
      · have E : Hid (getF pvF gvF cs t (nb s) = none) := by show getF pvF gvF cs t (nb s) = _; rw [HF.out, if_neg fun h => h1 h.2]
        rw [decide_eq_false h1] at EQ
        subst h0
        clear HF h1
        go_enter Tryd.func14, Tryd.ntmps14
        go_wp2_with (first
          | (go_at_call 29; refine CR.mono ?_; rintro e w2 ⟨hb2, u, rfl, ho2⟩; obtain ⟨ua, uc, rfl⟩ := ho2.shape; have H2 : Hid (Below _ _ w2) := hb2; have HO2 : Hid (OwnV w2 (w.heap.size + 1) (.slice ua (vs.map clV).length uc) vs) := ho2.mono (Nat.le_of_eq HWB.out.symm); unfold fB; rw [List.length_map] at *; clear CR hb2 ho2)
          | (go_at_call 12; refine (CP _ _ (bt (bt (bxn _ _) H2.out) (bxn _ _)) ((OwnN.sl (HO2.out.below (bxn w2 (.cells #[.int .i64 ft, .string (st fc), .slice ua vs.length uc] 36)))).imp fun b _ h => Nat.le_of_succ_le h)).mono ?_; rintro e w5 ⟨rfl, hb5⟩
             obtain ⟨⟨x0, x1, x2⟩, ⟨z0, z1, z2⟩, hlt, hB⟩ := HX.out w5 (bt H2.out (bt (bxn _ _) hb5))
             have y0 : w5.cell? ⟨w2.heap.size, 0, none⟩ = some (.int .i64 ft) := (hb5.cell (p := ⟨w2.heap.size, 0, none⟩) (by simp)).trans (by go_simp)
             have y1 : w5.cell? ⟨w2.heap.size, 1, none⟩ = some (.string (st fc)) := (hb5.cell (p := ⟨w2.heap.size, 1, none⟩) (by simp)).trans (by go_simp)
             have y2 : w5.cell? ⟨w2.heap.size, 2, none⟩ = some (.slice ua vs.length uc) := (hb5.cell (p := ⟨w2.heap.size, 2, none⟩) (by simp)).trans (by go_simp)
             have B5 : Hid (Below w.heap.size w w5) := hB
             have HO5 : Hid (OwnV w5 (w.heap.size + 1) (.slice ua vs.length uc) vs) := HO2.out.below (bt (bxn _ _) hb5)
             clear CP hb5 hB))
        refine bodyPost_ret (v := .tuple #[.agg #[.int .i64 0, .string ⟨#[]⟩, .slice none 0 0], .int .i64 4]) (by simp [results, Tryd.results14, go_sem]; go_simp) rfl (HPN.out _ E.out ?_)
        exact set3 B5.out _ (Nat.le_refl _) _ _ _
    · have E : Hid (getF pvF gvF cs t (nb s) = none) := by show getF pvF gvF cs t (nb s) = _; rw [HF.out, if_neg fun h => h0 h.1]
      clear HF
      go_enter Tryd.func14, Tryd.ntmps14
      go_wp2_with (first
        | (go_at_call 29; refine CR.mono ?_; rintro e w2 ⟨hb2, u, rfl, ho2⟩; obtain ⟨ua, uc, rfl⟩ := ho2.shape; have H2 : Hid (Below _ _ w2) := hb2; have HO2 : Hid (OwnV w2 (w.heap.size + 1) (.slice ua (vs.map clV).length uc) vs) := ho2.mono (Nat.le_of_eq HWB.out.symm); unfold fB; rw [List.length_map] at *; clear CR hb2 ho2)
        | (go_at_call 12; refine (CP _ _ (bt (bt (bxn _ _) H2.out) (bxn _ _)) ((OwnN.sl (HO2.out.below (bxn w2 (.cells #[.int .i64 ft, .string (st fc), .slice ua vs.length uc] 36)))).imp fun b _ h => Nat.le_of_succ_le h)).mono ?_; rintro e w5 ⟨rfl, hb5⟩
           obtain ⟨⟨x0, x1, x2⟩, ⟨z0, z1, z2⟩, hlt, hB⟩ := HX.out w5 (bt H2.out (bt (bxn _ _) hb5))
           have y0 : w5.cell? ⟨w2.heap.size, 0, none⟩ = some (.int .i64 ft) := (hb5.cell (p := ⟨w2.heap.size, 0, none⟩) (by simp)).trans (by go_simp)
           have y1 : w5.cell? ⟨w2.heap.size, 1, none⟩ = some (.string (st fc)) := (hb5.cell (p := ⟨w2.heap.size, 1, none⟩) (by simp)).trans (by go_simp)
           have y2 : w5.cell? ⟨w2.heap.size, 2, none⟩ = some (.slice ua vs.length uc) := (hb5.cell (p := ⟨w2.heap.size, 2, none⟩) (by simp)).trans (by go_simp)
           have B5 : Hid (Below w.heap.size w w5) := hB
           have HO5 : Hid (OwnV w5 (w.heap.size + 1) (.slice ua vs.length uc) vs) := HO2.out.below (bt (bxn _ _) hb5)
           clear CP hb5 hB))
      refine bodyPost_ret (v := .tuple #[.agg #[.int .i64 0, .string ⟨#[]⟩, .slice none 0 0], .int .i64 4]) (by simp [results, Tryd.results14, go_sem]; go_simp) rfl (HPN.out _ E.out ?_)
      exact set3 B5.out _ (Nat.le_refl _) _ _ _
end Go.Proofs.YtpmhilaochfpaaaDoor
namespace Go.Proofs.YtpmhilaochfpaaaDoor
open Go.RowKit
set_option linter.unusedVariables false
set_option linter.unusedSimpArgs false
set_option maxRecDepth 20000
theorem fV_of {x : VD} (h : 0 ≤ x.k ∧ x.k ≤ 255) (h2 : x.s.length ≤ 60) : fV x := ⟨h.1, h.2, by omega⟩
def ONE : List ClassD := [⟨[99], [[112], [113]]⟩]
def FOne : FactD := ⟨258, [99], [⟨1, 5, []⟩, ⟨0, 0, []⟩]⟩
def KO : Str := [119, 0, 0, 0, 0, 1, 2]
def SO : Str := [0, 1, 1, 0, 0, 0, 0, 5, 0]
theorem one_key : keyS 258 = KO ∧ keyE 258 = 0 := by decide +kernel
theorem one_tag : tagV KO = 258 ∧ tagE KO = 0 := by rw [← one_key.1]; exact tag_key (by decide) (by decide)
theorem one_put : putS ONE FOne = SO ∧ putEr ONE FOne = 0 := by decide +kernel
theorem foV : ∀ x ∈ FOne.vs, fV x := by
  intro x hx
  simp only [FOne, List.mem_cons, List.not_mem_nil, or_false] at hx
  rcases hx with rfl | rfl <;> (refine ⟨by decide, by decide, by decide⟩)
theorem one_get : getF pvF gvF ONE 258 (nb SO) = some FOne := by
  have := (back_plain (cs := ONE) (f := FOne) (by decide) foV one_put.2).2.2.1
  rw [one_put.1] at this
  exact this
theorem oneL : ∀ c ∈ ONE, c.attrs.length ≤ 100 := by
  intro c hc
  simp only [ONE, List.mem_cons, List.not_mem_nil, or_false] at hc
  subst hc; decide
theorem one_row (w : World) : Row 2 (ReK (fun _ _ => True)) ((w.alloc (.cells #[.string ⟨#[112]⟩, .string ⟨#[113]⟩] 9)).alloc (.cells #[.string ⟨#[99]⟩, .slice (some ⟨w.heap.size, 0, none⟩) 2 2] 50)) (fun _ => True) (.slice (some ⟨w.heap.size + 1, 0, none⟩) 1 1) ONE := by
  refine ⟨[[.string (st [99]), .slice (some ⟨w.heap.size, 0, none⟩) 2 2]], ⟨_, 1, rfl, Nat.le_refl _, by decide, .inr ⟨w.heap.size + 1, 0, by simp, by simp, trivial, fun i j hi hj => ?_⟩⟩, ⟨⟨_, rfl, ⟨_, 2, rfl, Nat.le_refl _, by decide, .inr ⟨w.heap.size, 0, rfl, by simp; omega, trivial, fun i j hi hj => ?_⟩⟩⟩, trivial⟩⟩
  · have hi' : i < 1 := hi
    have h1 : i = 0 := by omega
    have h2 : j = 0 ∨ j = 1 := by omega
    subst h1
    rcases h2 with rfl | rfl <;> (go_simp; try rfl)
  · have hi' : i < 2 := hi
    have h1 : i = 0 ∨ i = 1 := by omega
    have h2 : j = 0 := by omega
    subst h2
    rcases h1 with rfl | rfl <;> (go_simp; try rfl)
theorem fo_row (w : World) : SlW 3 (w.alloc (.cells #[.int .u8 1, .int .i64 5, .string ⟨#[]⟩, .int .u8 0, .int .i64 0, .string ⟨#[]⟩] 52)) (fun _ => True) (.slice (some ⟨w.heap.size, 0, none⟩) 2 2) (FOne.vs.map clV) := by
  have h : OwnN 52 3 (w.alloc (.cells #[.int .u8 1, .int .i64 5, .string ⟨#[]⟩, .int .u8 0, .int .i64 0, .string ⟨#[]⟩] 52)) 0 (.slice (some ⟨w.heap.size, 0, none⟩) 2 2) (FOne.vs.map clV) := ⟨clV_len, World.ownsRow_lit w #[.int .u8 1, .int .i64 5, .string ⟨#[]⟩, .int .u8 0, .int .i64 0, .string ⟨#[]⟩] 2 (Nat.zero_le _) (by decide) rfl⟩
  exact h.sl.imp fun _ _ _ => trivial
set_option maxHeartbeats 8000000 in
theorem awake_any (w : World) (hV : Vars w) : Calls Tryd.prog 6 #[] w fun e w' => e = .returned (.bool true) ∧ Below w.heap.size w w' := by
  have C1 : ∀ W, Calls Tryd.prog 7 #[.int .i64 258] W fun e w' => e = .returned (.tuple #[.string ⟨#[119, 0, 0, 0, 0, 1, 2]⟩, .int .i64 0]) ∧ Below W.heap.size W w' := fun W => by
    have := key_any 258 W; rw [one_key.1, one_key.2] at this; exact this
  have C2 : ∀ W, Calls Tryd.prog 9 #[.string ⟨#[119, 0, 0, 0, 0, 1, 2]⟩] W fun e w' => e = .returned (.tuple #[.int .i64 258, .int .i64 0]) ∧ Below W.heap.size W w' := fun W => by
    have := tag_any KO W (by decide); rw [one_tag.1, one_tag.2] at this; exact this
  have C3 : ∀ W v u, Row 2 (ReK (fun _ _ => True)) W (fun _ => True) v ONE → SlW 3 W (fun _ => True) u (FOne.vs.map clV) → Vars W → Calls Tryd.prog 12 #[v, .agg #[.int .i64 258, .string ⟨#[99]⟩, u]] W fun e w' => e = .returned (.tuple #[.string ⟨#[0, 1, 1, 0, 0, 0, 0, 5, 0]⟩, .int .i64 0]) ∧ Below W.heap.size W w' := fun W v u h1 h2 h3 => by
    have := fput_any v u ONE FOne W h1 (fun c hc => Nat.le_trans (oneL c hc) (by decide)) (by decide) h2 (by decide) foV h3
    rw [one_put.1, one_put.2] at this; exact this
  have C4 : ∀ W v, Row 2 (ReK (fun _ _ => True)) W (fun _ => True) v ONE → Vars W → Calls Tryd.prog 14 #[v, .int .i64 258, .string ⟨#[0, 1, 1, 0, 0, 0, 0, 5, 0]⟩] W fun e w' => Below W.heap.size W w' ∧ ∃ ua uc, e = .returned (.tuple #[.agg #[.int .i64 258, .string ⟨#[99]⟩, .slice ua 2 uc], .int .i64 0]) ∧ SlW 3 w' (fun _ => True) (.slice ua 2 uc) (FOne.vs.map clV) := fun W v h1 h3 => by
    have := fget_any v ONE 258 SO W h1 oneL (by decide) h3 (by decide)
    rw [one_get] at this
    refine this.mono fun e w' he => ⟨he.1, ?_⟩
    obtain ⟨u, rfl, ho⟩ := he.2
    obtain ⟨ua, uc, rfl⟩ := ho.shape
    exact ⟨ua, uc, rfl, ho.sl.imp fun _ _ _ => trivial⟩
  have HV : Hid (Vars w) := hV
  clear hV
  go_enter Tryd.func6, Tryd.ntmps6
  go_wp2_with (first
    | (go_at_call 7; refine (C1 _).mono ?_; rintro e w2 ⟨rfl, hb2⟩
       have R2 : Hid (Row 2 (ReK (fun _ _ => True)) w2 (fun _ => True) (.slice (some ⟨w.heap.size + 1, 0, none⟩) 1 1) ONE ∧ Below w.heap.size w w2) := ⟨rowK_keep (one_row w) hb2, bt (bt (bxn _ _) (bxn _ _)) hb2⟩
       clear C1 hb2)
    | (go_at_call 9; refine (C2 _).mono ?_; rintro e w3 ⟨rfl, hb3⟩
       have R3 : Hid (Row 2 (ReK (fun _ _ => True)) w3 (fun _ => True) (.slice (some ⟨w.heap.size + 1, 0, none⟩) 1 1) ONE ∧ Below w.heap.size w w3) := ⟨rowK_keep R2.out.1 hb3, bt R2.out.2 hb3⟩
       clear C2 hb3)
    | (go_at_call 12; refine (C3 _ _ _ (rowK_keep R3.out.1 (bxn _ _)) (fo_row w3) (HV.out.below (bt R3.out.2 (bxn _ _)))).mono ?_; rintro e w4 ⟨rfl, hb4⟩
       have R4 : Hid (Row 2 (ReK (fun _ _ => True)) w4 (fun _ => True) (.slice (some ⟨w.heap.size + 1, 0, none⟩) 1 1) ONE ∧ Below w.heap.size w w4) := ⟨rowK_keep R3.out.1 (bt (bxn _ _) hb4), bt R3.out.2 (bt (bxn _ _) hb4)⟩
       clear C3 hb4)
    | (go_at_call 14; refine (C4 _ _ R4.out.1 (HV.out.below R4.out.2)).mono ?_; rintro e w5 ⟨hb5, ua, uc, rfl, hs5⟩
       have B5 : Hid (Below w.heap.size w w5) := bt R4.out.2 hb5
       obtain ⟨-, l2, m2, r2⟩ := hs5.at v00
       obtain ⟨b9, o9, rfl, hb9, q9⟩ := r2 0 (by decide)
       have d9 : w5.cell? ⟨b9, o9 + 1, none⟩ = some (.int .i64 5) := q9 1 (by decide)
       clear C4 hb5 hs5 r2 q9))
  go_ret
  exact ⟨rfl, bt B5.out (bxn _ _)⟩
end Go.Proofs.YtpmhilaochfpaaaDoor
namespace Go.Proofs.YtpmhilaochfpaaaDoor
open Go.RowKit
set_option linter.unusedVariables false
set_option linter.unusedSimpArgs false
set_option maxRecDepth 20000
theorem flat_len30 {k : Int} : ∀ (vs : List VD), (∀ x ∈ vs, (pvF x).length ≤ 30) → ([k] :: vs.map pvF).flatten.length ≤ 1 + 30 * vs.length
  | [], _ => by simp
  | x :: vs, h => by
    have h1 := h x (List.mem_cons_self ..)
    have h2 := flat_len30 (k := k) vs fun y hy => h y (List.mem_cons_of_mem _ hy)
    simp only [List.map_cons, List.flatten_cons, List.length_append, List.length_cons] at *
    omega
set_option maxHeartbeats 8000000 in
theorem rfput_any {P : Nat → Nat → Prop} {Q Q2 : Nat → Prop} (v u : Value) (cs : List ClassD) (f : FactD) (w : World) (h : Row 2 (ReK P) w Q v cs) (hcs : cs.length ≤ 200)
    (hf : SlW 3 w Q2 u (f.vs.map clV)) (hfl : f.vs.length ≤ 100) (hv : ∀ x ∈ f.vs, fV x) :
    Calls Tryd.prog 13 #[v, .agg #[.int .i64 f.t, .string (st f.c), u]] w fun e w' => e = .returned (.tuple #[.string (st (putS cs f)), .int .i64 (putEr cs f)]) ∧ Below w.heap.size w w' := by
  obtain ⟨a2, c2, rfl⟩ := hf.shape
  have CC := rcheckF_any v _ cs f (w.alloc (.cells #[.int .i64 f.t, .string (st f.c), .slice a2 (f.vs.map clV).length c2] 36)) (rowK_keep h (bxn _ _)) (hf.bl (bxn _ _)) hv
  rw [List.length_map] at *
  by_cases hE : factE cs f = 0
  · obtain ⟨k, hk, hi, hnm, hal, hvv⟩ := place_of hE
    obtain ⟨g1, g2⟩ := put_good hE hi (by omega)
    rw [g1, g2]
    rw [hE] at CC
    have CP := fun W (hW : Below w.heap.size w W) => rplace_any v cs f.c W (rowK_keep h hW)
    have hw8 : IntKind.u8.wrap (k : Int) = (k : Int) := by rw [IntKind.wrap_u8]; omega
    rw [hi] at CP
    obtain ⟨-, l2, m2, r2⟩ := hf.at v00
    clear hE g1 g2 h hf
    obtain ⟨t, nm, vs⟩ := f
    simp only at *
    have R2 : Hid (∀ i, i < vs.length → ∃ b off, a2 = some ⟨b, off, none⟩ ∧ b < w.heap.size ∧ ∀ j, j < 3 → w.cell? ⟨b, off + (i * 3 + j), none⟩ = (clV (vs.getD i v00))[j]?) := r2
    have HV : Hid (∀ x ∈ vs, fV x) := hv
    have HC : Hid (∀ x ∈ vs, chkV x = 0) := hvv
    have hn2 : (vs.length : Int) ≤ 9223372036854775807 := by omega
    have HZ : Hid (∀ zs ∈ [(k : Int)] :: vs.map pvF, zs.length ≤ 100000) := fun zs hz => by
      rcases List.mem_cons.1 hz with rfl | hz
      · simp
      · obtain ⟨x, hx, rfl⟩ := List.mem_map.1 hz
        have := pvF_pos (hv x hx).1 (hvv x hx)
        omega
    clear r2 hv hvv
    have HX : Hid (∀ W, Below (w.alloc (.cells #[.int .i64 t, .string (st nm), .slice a2 vs.length c2] 36)).heap.size (w.alloc (.cells #[.int .i64 t, .string (st nm), .slice a2 vs.length c2] 36)) W →
        (W.cell? ⟨w.heap.size, 0, none⟩ = some (.int .i64 t) ∧ W.cell? ⟨w.heap.size, 1, none⟩ = some (.string (st nm)) ∧ W.cell? ⟨w.heap.size, 2, none⟩ = some (.slice a2 vs.length c2)) ∧ w.heap.size < W.heap.size ∧ Below w.heap.size w W) := fun W hW =>
      ⟨⟨(hW.cell (p := ⟨w.heap.size, 0, none⟩) (by simp)).trans (by go_simp), (hW.cell (p := ⟨w.heap.size, 1, none⟩) (by simp)).trans (by go_simp), (hW.cell (p := ⟨w.heap.size, 2, none⟩) (by simp)).trans (by go_simp)⟩, by have := hW.size; simp at this; omega, (bxn w _).trans (hW.mono (by simp))⟩
    have HWB : Hid (w.heap.size < (w.alloc (.cells #[.int .i64 t, .string (st nm), .slice a2 vs.length c2] 36)).heap.size) := by show _ < _; simp
    go_enter Tryd.func13, Tryd.ntmps13
    go_wp2_with (first
      | (go_at_call 26; refine CC.mono ?_; rintro e w2 ⟨rfl, hb2⟩; obtain ⟨⟨x0, x1, x2⟩, hs, hB⟩ := HX.out w2 hb2; have H2 : Hid (Below _ _ w2) := hb2; have B2 : Hid (Below w.heap.size w w2) := hB; clear CC hb2 hB)
      | (go_at_call 27; refine (CP _ B2.out).mono ?_; rintro e w3 ⟨rfl, hb3⟩; have H3 : Hid (Below _ _ w3) := bt H2.out hb3; clear CP hb3))
    obtain ⟨W0, hW0⟩ : ∃ W0, W0 = w3.alloc (.cells #[.int .u8 k] 5) := ⟨_, rfl⟩
    have HON : Hid (Own W0 w3.heap.size (.slice (some ⟨w3.heap.size, 0, none⟩) 1 1) [(k : Int)]) := by subst hW0; exact lit1 w3 k
    have H0 : Hid (Below (w.alloc (.cells #[.int .i64 t, .string (st nm), .slice a2 vs.length c2] 36)).heap.size (w.alloc (.cells #[.int .i64 t, .string (st nm), .slice a2 vs.length c2] 36)) W0) := by subst hW0; exact bt H3.out (bxn _ _)
    have H40 : Hid ((w.alloc (.cells #[.int .i64 t, .string (st nm), .slice a2 vs.length c2] 36)).heap.size ≤ w3.heap.size ∧ w3.heap.size < W0.heap.size) := by subst hW0; exact ⟨H3.out.size, by simp⟩
    generalize w3.heap.size = B2 at *
    rw [← hW0]
    clear hW0 x0 x1 x2 hs H3 H2
    go_loopw [8, 9, 10, 11] (fun vp vi _ _ wr => ∃ i : Nat, vi = .int .i64 i ∧ i ≤ vs.length ∧ Hid (Below (w.alloc (.cells #[.int .i64 t, .string (st nm), .slice a2 vs.length c2] 36)).heap.size (w.alloc (.cells #[.int .i64 t, .string (st nm), .slice a2 vs.length c2] 36)) wr ∧ B2 < wr.heap.size) ∧ Hid (Own wr B2 vp ([(k : Int)] :: (vs.take i).map pvF).flatten ∧ AllB ([(k : Int)] :: (vs.take i).map pvF).flatten)) (fun _ v _ _ _ => (vs.length - intOf v).toNat)
    case atStart => exact ⟨0, rfl, Nat.zero_le _, ⟨H0.out, H40.out.2⟩, HON.out, by intro z hz; simp at hz; omega⟩
    case round =>
      obtain ⟨i, rfl, hi, HB, HP⟩ := hrel
      obtain ⟨⟨x0, x1, x2⟩, hs, hB⟩ := HX.out wr HB.out.1
      have HW : Hid (Below w.heap.size w wr) := hB
      have HB2 : Hid (B2 < wr.heap.size) := HB.out.2
      clear hB
      by_cases hlt : i < vs.length
      · have hiz : (i : Int) < vs.length := by omega
        obtain ⟨b1, o1, rfl, hb1, q1⟩ := R2.out i hlt
        have d0 : wr.cell? ⟨b1, o1 + i * 3, none⟩ = (clV (vs.getD i v00))[0]? := (HW.out.cell (p := ⟨b1, o1 + i * 3, none⟩) hb1).trans (q1 0 (by decide))
        have d1 : wr.cell? ⟨b1, o1 + i * 3 + 1, none⟩ = (clV (vs.getD i v00))[1]? := (HW.out.cell (p := ⟨b1, o1 + i * 3 + 1, none⟩) hb1).trans (q1 1 (by decide))
        have d2 : wr.cell? ⟨b1, o1 + i * 3 + 2, none⟩ = (clV (vs.getD i v00))[2]? := (HW.out.cell (p := ⟨b1, o1 + i * 3 + 2, none⟩) hb1).trans (q1 2 (by decide))
        clear q1
        have hmem : vs.getD i v00 ∈ vs := by rw [List.getD_eq_getElem?_getD, List.getElem?_eq_getElem hlt]; exact List.getElem_mem hlt
        have hfv := HV.out _ hmem
        have hcv := HC.out _ hmem
        have TM := take_map pvF vs v00 i hlt
        generalize vs.getD i v00 = x at *
        clear hmem
        have CB := fun W => rput_any13 x.k x.n (st x.s) W hfv.1 hfv.2.1 (by rw [st_size]; have := hfv.2.2; omega)
        have PPx := pvF_pos hfv.1 hcv
        have PA : Hid (AllB (pvF x)) := put_all13 hfv.1 hfv.2.1
        unfold PutPost at CB
        rw [st_list] at CB
        have hcv' : chkE x.k x.n x.s = 0 := hcv
        rw [hcv'] at CB
        change ∀ W, Calls Tryd.prog 28 #[.agg #[.int .u8 x.k, .int .i64 x.n, .string (st x.s)]] W (fun e w' => ∃ v, e = .returned (.tuple #[v, .int .i64 0]) ∧ Own w' W.heap.size v (pvF x) ∧ Below W.heap.size W w') at CB
        simp only [clV, List.getElem?_cons_zero, List.getElem?_cons_succ] at d0 d1 d2
        have hll : ([(k : Int)] :: (vs.take i).map pvF).flatten.length ≤ 1 + 30 * (vs.take i).length := flat_len30 _ fun y hy => (pvF_pos (HV.out y (List.mem_of_mem_take hy)).1 (HC.out y (List.mem_of_mem_take hy))).2
        have hlt2 : (vs.take i).length ≤ 100 := by rw [List.length_take]; omega
        have TF : ([(k : Int)] :: (vs.take (i + 1)).map pvF).flatten = ([(k : Int)] :: (vs.take i).map pvF).flatten ++ pvF x := by rw [TM, ← List.cons_append, List.flatten_append]; simp
        clear TM
        generalize ([(k : Int)] :: (vs.take i).map pvF).flatten = zs at *
        have PN := HP
        clear HP hfv hcv hcv'
        have HPP : Hid (1 ≤ (pvF x).length ∧ pvF x ≠ [] ∧ (pvF x).length ≤ 30) := ⟨PPx.1, fun e => by have := PPx.1; rw [e] at this; simp at this, PPx.2⟩
        clear PPx
        generalize pvF x = zx at *
        have HWS := HW.out.size
        go_wp2_with (first
          | (go_at_call 28; refine (CB _).mono ?_; rintro e w5 ⟨bv, rfl, ho5, hb5⟩
             have HQ : Hid (Below wr.heap.size wr w5) := hb5
             obtain ⟨g5, o5, c5, eb, hne5, hbv5, hlt5⟩ := PT.by (B := 0) ⟨ho5.mono (Nat.zero_le _), HPP.out.2.1, PA.out⟩
             obtain rfl := (List.cons.inj eb).1
             clear CB ho5 hb5 eb)
          | (at_builtin; refine wp_app_bv rfl _ _ rfl B2 _ zs zx rfl (PN.out.1.below HQ.out) g5 o5 _ c5 rfl rfl hne5 hbv5 (by have := HPP.out.2.2; omega) (by have := HQ.out.size; have := HB2.out; omega) ?_; intro v6 w6 o6 b6))
        have hb6 := b6.size
        have hq := HQ.out.size
        have hB := HB.out.2
        refine ⟨⟨i + 1, by simp, by omega, ⟨?_, by omega⟩, ?_, ?_⟩, by simp [intOf]; omega⟩
        · exact (bt HB.out.1 HQ.out).trans (b6.mono H40.out.1)
        · rw [TF]; exact o6
        · rw [TF]; exact PN.out.2.append PA.out
      · have hiz : ¬ (i : Int) < vs.length := by omega
        have e : vs.take i = vs := List.take_of_length_le (by omega)
        rw [e] at HP
        have hll : ([(k : Int)] :: vs.map pvF).flatten.length ≤ 1 + 30 * vs.length := flat_len30 _ fun y hy => (pvF_pos (HV.out y hy).1 (HC.out y hy)).2
        obtain ⟨ho, ha⟩ := HP.out
        have HJ : Hid (160 < ([(k : Int)] :: vs.map pvF).flatten.length → joinS ([(k : Int)] :: vs.map pvF) = [] ∧ joinE ([(k : Int)] :: vs.map pvF) = 5) := join_no
        have HK : Hid (¬ 160 < ([(k : Int)] :: vs.map pvF).flatten.length → joinS ([(k : Int)] :: vs.map pvF) = b8 ([(k : Int)] :: vs.map pvF).flatten ∧ joinE ([(k : Int)] :: vs.map pvF) = 0) := join_yes
        have KC := conv_own ho ha
        rw [str_st] at KC
        obtain ⟨ab, cb, rfl, _, _, _, _⟩ := ho.view ha
        have hk255 : ¬ (k : Int) > 255 := by omega
        clear e HP ho
        generalize ([(k : Int)] :: vs.map pvF).flatten = zs at *
        by_cases hs : 160 < zs.length
        · have E := HJ.out hs
          clear HJ HK
          have E : Hid _ := E
          have hs2 : (zs.length : Int) > 160 := by omega
          clear KC
          go_wp2
          go_ret2
          first | exact ⟨rfl, HW.out⟩ | exact ⟨by rw [E.out.1, E.out.2]; rfl, HW.out⟩
        · have E := HK.out hs
          clear HJ HK
          have E : Hid _ := E
          have hs2 : ¬ (zs.length : Int) > 160 := by omega
          generalize b8 zs = ks at *
          go_wp2
          go_ret2
          first | exact ⟨rfl, HW.out⟩ | exact ⟨by rw [E.out.1, E.out.2]; rfl, HW.out⟩
  · obtain ⟨g1, g2⟩ := put_bad hE
    have HE : Hid (factE cs f ≠ 0) := hE
    rw [g1, g2]
    clear g1 g2 hE h hf
    generalize factE cs f = er at *
    have hne := HE.out
    go_enter Tryd.func13, Tryd.ntmps13
    go_wp2_with (go_at_call 26; refine CC.mono ?_; rintro e w2 ⟨rfl, hb2⟩)
    go_ret2
    exact ⟨rfl, bt (bxn _ _) hb2⟩
end Go.Proofs.YtpmhilaochfpaaaDoor
namespace Go.Proofs.YtpmhilaochfpaaaDoor
open Go.RowKit
set_option linter.unusedVariables false
set_option linter.unusedSimpArgs false
set_option maxRecDepth 20000
theorem BV.move {w w' : World} {b o : Nat} {zs : List Int} (h : BV w (some ⟨b, o, none⟩) zs) (hb : w'.heap[b]? = w.heap[b]?) : BV w' (some ⟨b, o, none⟩) zs := by
  obtain ⟨h1, h2 | ⟨b', o', e, hlt, hc⟩⟩ := h
  · exact ⟨h1, .inl h2⟩
  · injection e with e
    injection e with e1 e2
    subst e1 e2
    refine ⟨h1, .inr ⟨b, o, rfl, ?_, fun i hi => ?_⟩⟩
    · rw [Array.getElem?_eq_getElem hlt] at hb
      exact (Array.getElem?_eq_some_iff.1 hb).1
    · rw [World.cell?_of_block (w := w) (a := ⟨b, o + i, none⟩) hb]; exact hc i hi
def Kp (B p : Nat) (w w' : World) : Prop := ∀ g, g < B → g ≠ p → w'.heap[g]? = w.heap[g]?
theorem Kp.refl (B p : Nat) (w : World) : Kp B p w w := fun _ _ _ => rfl
theorem Kp.below {B p : Nat} {w w1 w2 : World} (h : Kp B p w w1) (hb : Below B w1 w2) : Kp B p w w2 := fun g hg hp => (hb.block g hg).trans (h g hg hp)
theorem Kp.set {B p : Nat} {w w1 : World} (h : Kp B p w w1) (o : Nat) (u : Value) : Kp B p w (w1.setCell ⟨p, o, none⟩ u) := fun g hg hp => (Below.heap_setCell w1 ⟨p, o, none⟩ u g hp).trans (h g hg hp)
theorem Kp.cell {B p : Nat} {w w' : World} (h : Kp B p w w') {g o : Nat} (hg : g < B) (hp : g ≠ p) : w'.cell? ⟨g, o, none⟩ = w.cell? ⟨g, o, none⟩ := World.cell?_of_block (a := ⟨g, o, none⟩) (h g hg hp)
theorem Kp.frozen {B p : Nat} {w w' : World} (h : Kp B p w w') {g o : Nat} (hg : g < B) (hp : g ≠ p) : w'.frozen? ⟨g, o, none⟩ = w.frozen? ⟨g, o, none⟩ := World.frozen?_of_block (a := ⟨g, o, none⟩) (h g hg hp)
def BoxF3 (w : World) (p : Nat) (c0 c1 c2 : Value) : Prop := w.heap[p]? = some (.cells #[c0, c1, c2] 36 (0, 0))
theorem BoxF3.cells {w : World} {p : Nat} {c0 c1 c2 : Value} (h : BoxF3 w p c0 c1 c2) : (w.cell? ⟨p, 0, none⟩ = some c0 ∧ w.cell? ⟨p, 1, none⟩ = some c1 ∧ w.cell? ⟨p, 2, none⟩ = some c2) ∧ w.frozen? ⟨p, 2, none⟩ = false ∧ p < w.heap.size := by
  have h' : w.heap[p]? = some (.cells #[c0, c1, c2] 36 (0, 0)) := h
  refine ⟨⟨?_, ?_, ?_⟩, ?_, (Array.getElem?_eq_some_iff.1 h').1⟩ <;> simp [World.cell?, World.frozen?, h']
theorem BoxF3.froz {w : World} {p : Nat} {c0 c1 c2 : Value} (h : BoxF3 w p c0 c1 c2) : w.frozen? ⟨p, 0, none⟩ = false ∧ w.frozen? ⟨p, 1, none⟩ = false ∧ w.frozen? ⟨p, 2, none⟩ = false := by
  have h' : w.heap[p]? = some (.cells #[c0, c1, c2] 36 (0, 0)) := h
  refine ⟨?_, ?_, ?_⟩ <;> simp [World.frozen?, h']
theorem BoxF3.below {w w' : World} {p : Nat} {c0 c1 c2 : Value} (h : BoxF3 w p c0 c1 c2) {B : Nat} (hb : Below B w w') (hp : p < B) : BoxF3 w' p c0 c1 c2 := (hb.block p hp).trans h
theorem boxf_new (w : World) (c0 c1 c2 : Value) {p : Nat} (hp : p = w.heap.size) : BoxF3 (w.alloc (.cells #[c0, c1, c2] 36)) p c0 c1 c2 := by
  subst hp
  show (w.alloc (.cells #[c0, c1, c2] 36)).heap[w.heap.size]? = _
  simp [World.alloc, -World.alloc_eq]
theorem BoxF3.set {w : World} {p : Nat} {c0 c1 c2 : Value} (h : BoxF3 w p c0 c1 c2) (u : Value) : BoxF3 (w.setCell ⟨p, 2, none⟩ u) p c0 c1 u := by
  have h' : w.heap[p]? = some (.cells #[c0, c1, c2] 36 (0, 0)) := h
  show (w.setCell ⟨p, 2, none⟩ u).heap[p]? = some (.cells #[c0, c1, u] 36 (0, 0))
  simp [World.setCell, Array.getElem?_modify, h']
theorem own_move {T : TypeId} {n : Nat} {w : World} {p base o : Nat} {v : Value} {css : List (List Value)} (h : OwnN T n w base v css) (hp : p < base) (x : Value) : OwnN T n (w.setCell ⟨p, o, none⟩ x) base v css := h.move fun g hg hl => Below.heap_setCell w ⟨p, o, none⟩ x g (by show g ≠ p; omega)
theorem rget_plain {cs : List ClassD} {t : Int} {b : UInt8} {r : Str} (hcs : cs.length ≤ 200) (hc : ¬ cs.length ≤ b.toNat) :
    (readN gvF (cs.getD b.toNat ⟨[], []⟩).attrs.length (nb r) = none → getF pvF gvF cs t (nb (b :: r)) = none) ∧
    (∀ vs, readN gvF (cs.getD b.toNat ⟨[], []⟩).attrs.length (nb r) = some vs → getF pvF gvF cs t (nb (b :: r)) = if putEr cs ⟨t, (cs.getD b.toNat ⟨[], []⟩).nm, vs⟩ = 0 ∧ putS cs ⟨t, (cs.getD b.toNat ⟨[], []⟩).nm, vs⟩ = b :: r then some ⟨t, (cs.getD b.toNat ⟨[], []⟩).nm, vs⟩ else none) := by
  constructor
  · intro h
    rw [nb_cons]; unfold getF; dsimp only
    rw [Int.toNat_natCast, if_neg (by omega), h]
  · intro vs h
    have hi := put_iff (cs := cs) (f := ⟨t, (cs.getD b.toNat ⟨[], []⟩).nm, vs⟩) hcs (readN_fV (nb_all r) h).1 (b :: r)
    rw [nb_cons] at hi
    rw [nb_cons]; unfold getF; dsimp only
    rw [Int.toNat_natCast, if_neg (by omega), h]
    dsimp only
    by_cases hp : putF pvF cs ⟨t, (cs.getD b.toNat ⟨[], []⟩).nm, vs⟩ = .ok ((b.toNat : Int) :: nb r)
    · rw [if_pos hp, if_pos (hi.1 hp)]
    · rw [if_neg hp, if_neg fun h => hp (hi.2 h)]
set_option maxHeartbeats 8000000 in
theorem rfget_any {P : Nat → Nat → Prop} {Q : Nat → Prop} (v : Value) (cs : List ClassD) (t : Int) (s : Str) (w : World) (h : Row 2 (ReK P) w Q v cs) (hL : ∀ c ∈ cs, c.attrs.length ≤ 100) (hcs : cs.length ≤ 200) (hs : s.length ≤ 300) :
    Calls Tryd.prog 15 #[v, .int .i64 t, .string (st s)] w (GPf w (getF pvF gvF cs t (nb s))) := by
  generalize hPO : GPf w (getF pvF gvF cs t (nb s)) = PO
  have HPN : Hid (∀ w', getF pvF gvF cs t (nb s) = none → Below w.heap.size w w' → PO (.returned (.tuple #[.agg #[.int .i64 0, .string ⟨#[]⟩, .slice none 0 0], .int .i64 4])) w') := fun w' he hf => by rw [← hPO, he]; exact ⟨hf, rfl⟩
  have HPS : Hid (∀ f u w', getF pvF gvF cs t (nb s) = some f → Below w.heap.size w w' → OwnV w' w.heap.size u f.vs → PO (.returned (.tuple #[fB f u, .int .i64 0])) w') := fun f u w' he hf ho => by rw [← hPO, he]; exact ⟨hf, u, rfl, ho⟩
  clear hPO
  have HP := fun W u f (hB : Below w.heap.size w W) (hS : SlW 3 W (fun b => w.heap.size ≤ b) u (f.vs.map clV)) (hfl : f.vs.length ≤ 100) (hfv : ∀ x ∈ f.vs, fV x) => rfput_any v u cs f W (rowK_keep h hB) hcs hS hfl hfv
  obtain ⟨css1, h1, hh1⟩ := h
  have le1 := hh1.len
  obtain ⟨a1, c1, rfl⟩ := h1.shape
  obtain ⟨-, l1, m1, r1⟩ := h1.row
  rw [le1] at l1 r1 HP ⊢
  have HPU : Hid _ := HP
  have R1 : Hid (∀ i, i < cs.length → ∃ b off, a1 = some ⟨b, off, none⟩ ∧ b < w.heap.size ∧ ∀ j, j < 2 → w.cell? ⟨b, off + (i * 2 + j), none⟩ = (css1.getD i [])[j]?) := r1
  have G1 : Hid (All2 (ReK P w) css1 cs) := hh1
  have HLs : Hid (∀ c ∈ cs, c.attrs.length ≤ 100) := hL
  clear r1 h1 hh1 le1 hL HP
  have hnn : (cs.length : Int) ≤ 9223372036854775807 := by omega
  have hsz := st_size s
  cases s with
  | nil =>
    have E : Hid (getF pvF gvF cs t (nb []) = none) := rfl
    have he : (st []).toList.isEmpty = true := by rw [emp, st_list]; rfl
    go_enter Tryd.func15, Tryd.ntmps15
    go_wp2
    refine bodyPost_ret (v := .tuple #[.agg #[.int .i64 0, .string ⟨#[]⟩, .slice none 0 0], .int .i64 4]) (by simp [results, Tryd.results15, go_sem]) rfl (HPN.out _ E.out (bxn _ _))
  | cons b r =>
    have he : (st (b :: r)).toList.isEmpty = false := emp_ne (by rw [st_list]; simp)
    have hb0 : ∀ h : 0 < (st (b :: r)).size, (st (b :: r))[0]'h = b := fun _ => rfl
    have hw : wrap64 (b.toNat : Int) = b.toNat := by have := b.toNat_lt; unfold wrap64; omega
    by_cases hlt : cs.length ≤ b.toNat
    · have E : Hid (getF pvF gvF cs t (nb (b :: r)) = none) := by show getF pvF gvF cs t (nb (b :: r)) = none; rw [nb_cons]; unfold getF; dsimp only; rw [if_pos (by omega)]
      have hle : (cs.length : Int) ≤ b.toNat := by omega
      go_enter Tryd.func15, Tryd.ntmps15
      go_wp2
      refine bodyPost_ret (v := .tuple #[.agg #[.int .i64 0, .string ⟨#[]⟩, .slice none 0 0], .int .i64 4]) (by simp [results, Tryd.results15, go_sem]) rfl (HPN.out _ E.out (bxn _ _))
    · have hle : ¬ (cs.length : Int) ≤ b.toNat := by omega
      have hlt' : b.toNat < cs.length := by omega
      obtain ⟨b1, o1, rfl, hb1, q1⟩ := R1.out b.toNat hlt'
      have e1 := G1.out.at b.toNat [] ⟨[], []⟩ hlt'
      obtain ⟨ER1, ER2⟩ := rget_plain (t := t) (r := r) hcs hlt
      have hla : (cs.getD b.toNat ⟨[], []⟩).attrs.length ≤ 100 := HLs.out _ (by rw [List.getD_eq_getElem?_getD, List.getElem?_eq_getElem hlt']; exact List.getElem_mem hlt')
      generalize cs.getD b.toNat ⟨[], []⟩ = c at *
      obtain ⟨u, ec, hu⟩ := e1
      obtain ⟨au, cu, rfl⟩ := hu.shape
      simp only [List.length_map] at ec
      rw [ec] at q1
      have d0 : w.cell? ⟨b1, o1 + b.toNat * 2, none⟩ = some (.string (st c.nm)) := q1 0 (by decide)
      have d1 : w.cell? ⟨b1, o1 + b.toNat * 2 + 1, none⟩ = some (.slice au c.attrs.length cu) := q1 1 (by decide)
      have hne : ¬ b1 = w.heap.size := by omega
      have HE1 : Hid _ := ER1
      have HE2 : Hid _ := ER2
      clear q1 ec hu ER1 ER2 R1 G1 HLs
      have KC := fun W' => conv_sb W' ((st (b :: r)).extract 1 (r.length + 1))
      have hex : bytesOf ((st (b :: r)).extract 1 (r.length + 1)) = nb r := by
        have := bytes_ext (b :: r) (by simp)
        rw [List.length_cons] at this
        rw [this]; rfl
      have hes : ((st (b :: r)).extract 1 (r.length + 1)).size = r.length := by rw [ByteArray.size_extract, hsz]; simp
      have BVb := fun W' => bw_bv W' ((st (b :: r)).extract 1 (r.length + 1))
      rw [hex] at BVb
      have GCg := fun W' => gc_ge W' ((st (b :: r)).extract 1 (r.length + 1))
      have GCl := fun W' => gc_le W' ((st (b :: r)).extract 1 (r.length + 1)) (by rw [hes]; simp at hs; omega)
      rw [hes] at KC GCg
      have j1 : (1 : Int) ≤ (r.length : Int) + 1 := by omega
      generalize hs1 : (st (b :: r)).extract 1 (r.length + 1) = s1 at *
      go_enter Tryd.func15, Tryd.ntmps15
      go_wp2_with fail
      obtain ⟨W3, hW3⟩ : ∃ W3, W3 = ((w.alloc (.cells #[.int .i64 0, .string ⟨#[]⟩, .slice none 0 0] 36)).alloc (.cells #[.string (st c.nm), .slice au c.attrs.length cu] 50)).alloc (.cells #[.int .i64 t, .string (st c.nm), .slice none 0 0] 36) := ⟨_, rfl⟩
      have hz3 : W3.heap.size = w.heap.size + 1 + 1 + 1 := by subst hW3; simp
      have hz4 : (bw W3 s1).heap.size = w.heap.size + 1 + 1 + 1 + 1 := by rw [bw_size, hz3]
      have hbb : Below W3.heap.size W3 (bw W3 s1) := bw_below W3 s1
      have HR0 : Hid (BoxF3 (bw W3 s1) w.heap.size (.int .i64 0) (.string ⟨#[]⟩) (.slice none 0 0) ∧ BoxF3 (bw W3 s1) (w.heap.size + 1 + 1) (.int .i64 t) (.string (st c.nm)) (.slice none 0 0) ∧ (bw W3 s1).cell? ⟨w.heap.size + 1, 1, none⟩ = some (.slice au c.attrs.length cu) ∧ Below w.heap.size w (bw W3 s1)) := by
        refine ⟨BoxF3.below ?_ hbb (by omega), BoxF3.below ?_ hbb (by omega), (hbb.cell (p := ⟨w.heap.size + 1, 1, none⟩) (by show w.heap.size + 1 < _; omega)).trans ?_, (show Below w.heap.size w W3 from ?_).trans (hbb.mono (by omega))⟩
        · subst hW3; exact ((boxf_new w _ _ _ rfl).below (bxn _ _) (by simp)).below (bxn _ _) (by simp; omega)
        · subst hW3; exact boxf_new _ _ _ _ (by simp)
        · subst hW3; go_simp
        · subst hW3; exact bt (bt (bxn _ _) (bxn _ _)) (bxn _ _)
      have HB0 : Hid (BV (bw W3 s1) (some ⟨w.heap.size + 1 + 1 + 1, 0, none⟩) (nb r)) := by have := BVb W3; rw [hz3] at this; exact this
      have HG0 : Hid (r.length ≤ gc W3 s1 ∧ gc W3 s1 ≤ 9223372036854775807) := ⟨GCg W3, GCl W3⟩
      rw [← hW3]
      clear hW3 KC BVb GCg GCl hbb d0 d1
      generalize gc W3 s1 = cap at *
      generalize bw W3 s1 = W4 at *
      clear hz3
      have HZ4 : Hid (W4.heap.size = w.heap.size + 1 + 1 + 1 + 1) := hz4
      have HRL : Hid (r.length ≤ 300) := by show _ ≤ _; simp at hs; omega
      clear hz4
      go_loopw [10, 11, 12, 13, 14] (fun vb vi _ _ _ wr => ∃ (i : Nat) (rest : List Int) (pre : List VD) (o' cap' : Nat), vi = .int .i64 i ∧ i ≤ c.attrs.length ∧ vb = .slice (some ⟨w.heap.size + 1 + 1 + 1, o', none⟩) rest.length cap' ∧ rest.length ≤ cap' ∧ cap' ≤ 9223372036854775807 ∧ rest.length ≤ 300 ∧ pre.length = i ∧ Hid (Below w.heap.size w wr ∧ W4.heap.size ≤ wr.heap.size ∧ Kp W4.heap.size (w.heap.size + 1 + 1) W4 wr) ∧ Hid (∃ vl, BoxF3 wr (w.heap.size + 1 + 1) (.int .i64 t) (.string (st c.nm)) vl ∧ OwnV wr W4.heap.size vl pre) ∧ Hid (BV W4 (some ⟨w.heap.size + 1 + 1 + 1, o', none⟩) rest) ∧ Hid (readN gvF c.attrs.length (nb r) = (readN gvF (c.attrs.length - i) rest).map (pre ++ ·))) (fun _ v _ _ _ _ => (c.attrs.length - intOf v).toNat)
      case atStart =>
        refine ⟨0, nb r, [], 0, cap, rfl, Nat.zero_le _, by simp [nb], by have := HG0.out.1; simp [nb]; omega, HG0.out.2, by have := HRL.out; simp [nb]; omega, rfl, ⟨HR0.out.2.2.2, Nat.le_refl _, Kp.refl _ _ _⟩, ⟨_, HR0.out.2.1, OwnN.nil 52 3 _ _⟩, HB0.out, ?_⟩
        show readN gvF c.attrs.length (nb r) = (readN gvF (c.attrs.length - 0) (nb r)).map ([] ++ ·)
        cases readN gvF c.attrs.length (nb r) <;> simp [*]
      case round =>
        obtain ⟨i, rest, pre, o', cap', rfl, hi, rfl, hc', hcm', hr', hpl, HBK, HBX, HV1, HR⟩ := hrel
        obtain ⟨vl, hx, hov⟩ := HBX.out
        obtain ⟨va, vc, rfl⟩ := hov.shape
        have HX : Hid (BoxF3 wr (w.heap.size + 1 + 1) (.int .i64 t) (.string (st c.nm)) (.slice va (pre.map clV).length vc) ∧ OwnV wr W4.heap.size (.slice va (pre.map clV).length vc) pre) := ⟨hx, hov⟩
        clear HBX hx hov
        rw [List.length_map, hpl] at HX
        have hzz := HZ4.out
        have hbk := HBK.out.2.1
        have y1 : wr.cell? ⟨w.heap.size + 1, 1, none⟩ = some (.slice au c.attrs.length cu) := (HBK.out.2.2.cell (by omega) (by omega)).trans HR0.out.2.2.1
        have hBVr : BV wr (some ⟨w.heap.size + 1 + 1 + 1, o', none⟩) rest := HV1.out.move (HBK.out.2.2 _ (by omega) (by omega))
        have CG := rget_all (some ⟨w.heap.size + 1 + 1 + 1, o', none⟩) rest.length cap' rest wr hBVr rfl hr' hc' hcm'
        have hlr : (rest.length : Int) ≤ 9223372036854775807 := by omega
        clear hBVr
        by_cases hlt : i < c.attrs.length
        · have hiz : (i : Int) < c.attrs.length := by omega
          have en : c.attrs.length - i = (c.attrs.length - (i + 1)) + 1 := by omega
          rw [en] at HR
          by_cases hg : gtE rest = 0
          · obtain ⟨x, m, hgv, hmle, hA⟩ := gv_ok hg
            rw [hA] at CG
            have HR2 : Hid (readN gvF c.attrs.length (nb r) = (readN gvF (c.attrs.length - (i + 1)) (rest.drop m)).map ((pre ++ [x]) ++ ·)) := by
              show readN gvF c.attrs.length (nb r) = _
              rw [HR.out, readN_some hgv, map_cons_app]
            have HV2 : Hid (BV W4 (some ⟨w.heap.size + 1 + 1 + 1, o' + m, none⟩) (rest.drop m)) := HV1.out.tail m
            have HLD : Hid ((rest.drop m).length = rest.length - m) := List.length_drop
            have hmz : (m : Int) ≤ rest.length := by omega
            have hmc : (m : Int) ≤ cap' := by omega
            clear HR hA hgv hg en
            go_wp2_with (first
              | (go_at_call 30; refine CG.mono ?_; rintro e w5 ⟨rfl, hb5⟩
                 have HQ : Hid (Below wr.heap.size wr ((w5.alloc (.cells #[.int .u8 x.k, .int .i64 x.n, .string (st x.s)] 52)).alloc (.cells #[.int .u8 x.k, .int .i64 x.n, .string (st x.s)] 52)) ∧ SlW 3 ((w5.alloc (.cells #[.int .u8 x.k, .int .i64 x.n, .string (st x.s)] 52)).alloc (.cells #[.int .u8 x.k, .int .i64 x.n, .string (st x.s)] 52)) (fun _ => True) (.slice (some ⟨w5.heap.size + 1, 0, none⟩) 1 1) ([x].map clV)) := ⟨bt hb5 (bt (bxn _ _) (bxn _ _)), lit_v (w5.alloc (.cells #[.int .u8 x.k, .int .i64 x.n, .string (st x.s)] 52)) x (w5.heap.size + 1) (by simp)⟩
                 have hx5 := HX.out.1.below hb5 (HX.out.1.cells.2.2)
                 obtain ⟨⟨x0, x1, x2⟩, z2, hl5⟩ := hx5.cells
                 clear CG hb5)
              | (at_builtin; refine wp_app_n Tryd.underlying34 info42 rfl (by decide) (by decide) rfl _ _ rfl W4.heap.size _ (pre.map clV) ([x].map clV) rfl (HX.out.2.below HQ.out.1) _ rfl HQ.out.2 clV_len clV_one (by simp; omega) (by have := HQ.out.1.size; omega) ?_; intro v6 w6 o6 g6 b6; obtain ⟨a6, c6, rfl⟩ := o6.shape
                 have hx6 := (HX.out.1.below HQ.out.1 HX.out.1.cells.2.2).below b6 (by omega)
                 obtain ⟨⟨x0', x1', x2'⟩, z2', hl6⟩ := hx6.cells))
            have hl : (pre.map clV ++ [x].map clV).length = i + 1 := by simp [hpl]
            rw [hl] at o6
            have hb6 := b6.size
            have hq6 := HQ.out.1.size
            refine ⟨⟨i + 1, rest.drop m, pre ++ [x], if cap' = m then o' else o' + m, cap' - m, by simp, by omega, ?_, by rw [HLD.out]; omega, by omega, by rw [HLD.out]; omega, by simp [hpl], ⟨?_, ?_, ?_⟩, ⟨_, hx6.set _, ?_⟩, ?_, HR2.out⟩, by simp [intOf]; omega⟩
            · rw [HLD.out]; by_cases h : cap' = m <;> simp [h]
            · exact ((HBK.out.1.trans (HQ.out.1.mono HBK.out.1.size)).trans (b6.mono (by omega))).setCell (by show w.heap.size ≤ w.heap.size + 1 + 1; omega) _
            · simp; omega
            · exact ((HBK.out.2.2.below (HQ.out.1.mono hbk)).below b6).set 2 _
            · refine own_move (show OwnN 52 3 _ _ _ ((pre ++ [x]).map clV) from ?_) (by omega) _
              rw [List.map_append]; exact o6
            · by_cases h : cap' = m
              · have hz : rest.drop m = [] := List.drop_of_length_le (by omega)
                rw [hz]; exact ⟨AllB.nil, .inl rfl⟩
              · rw [if_neg h]; exact HV2.out
          · obtain ⟨hgv, hA⟩ := gv_no hg
            rw [hA] at CG
            have HR2 : Hid (getF pvF gvF cs t (nb (b :: r)) = none) := HE1.out (by rw [HR.out, readN_no hgv]; rfl)
            have HG : Hid (gtE rest ≠ 0) := hg
            clear HR hA hgv en
            generalize gtE rest = er at *
            have hx0 : BoxF3 wr w.heap.size (.int .i64 0) (.string ⟨#[]⟩) (.slice none 0 0) := (HBK.out.2.2 _ (by omega) (by omega)).trans HR0.out.1
            have HX0 : Hid (BoxF3 wr w.heap.size (.int .i64 0) (.string ⟨#[]⟩) (.slice none 0 0)) := hx0
            clear hx0
            go_wp2_with (go_at_call 30; refine CG.mono ?_; rintro e w5 ⟨rfl, hb5⟩; have H5 : Hid (Below w.heap.size w w5) := HBK.out.1.trans (hb5.mono HBK.out.1.size); have hx5 := HX0.out.below hb5 HX0.out.cells.2.2; obtain ⟨⟨x0, x1, x2⟩, _, hl5⟩ := hx5.cells; obtain ⟨z0, z1, z2⟩ := hx5.froz; clear CG hb5)
            refine bodyPost_ret (v := .tuple #[.agg #[.int .i64 0, .string ⟨#[]⟩, .slice none 0 0], .int .i64 4]) (by simp [results, Tryd.results15, go_sem]; go_simp) rfl (HPN.out _ HR2.out ?_)
            exact bt (set3 H5.out _ (Nat.le_refl _) _ _ _) (bxn _ _)
        · have hiz : ¬ (i : Int) < c.attrs.length := by omega
          have en : c.attrs.length - i = 0 := by omega
          rw [en] at HR
          have HR2 : Hid (readN gvF c.attrs.length (nb r) = some pre) := by show readN gvF c.attrs.length (nb r) = _; rw [HR.out]; show some (pre ++ []) = _; rw [List.append_nil]
          clear CG HR en
          have HGE := HE2.out pre HR2.out
          have HFV := (readN_fV (nb_all r) HR2.out).1
          have CP := HPU.out wr (.slice va i vc) ⟨t, c.nm, pre⟩ HBK.out.1 ((OwnN.sl HX.out.2).imp fun b _ h => by omega) (by show pre.length ≤ 100; omega) HFV
          have HX0 : Hid (BoxF3 wr w.heap.size (.int .i64 0) (.string ⟨#[]⟩) (.slice none 0 0)) := (HBK.out.2.2 _ (by omega) (by omega)).trans HR0.out.1
          obtain ⟨⟨x0, x1, x2⟩, _, hlx⟩ := HX.out.1.cells
          have HF : Hid _ := HGE
          clear HGE HFV HR2 HV1
          generalize hpe : putEr cs ⟨t, c.nm, pre⟩ = pe at *
          generalize hps : putS cs ⟨t, c.nm, pre⟩ = ps at *
          simp only at CP
          by_cases h0 : pe = 0
          · have EQ := eq_list (st ps) (st (b :: r))
            rw [st_list, st_list] at EQ
            by_cases h1 : ps = b :: r
            · have E : Hid (getF pvF gvF cs t (nb (b :: r)) = some ⟨t, c.nm, pre⟩) := by show getF pvF gvF cs t (nb (b :: r)) = _; rw [HF.out, if_pos ⟨h0, h1⟩]
              rw [decide_eq_true h1] at EQ
              subst h0
              clear HF h1
              go_wp2_with (first
                | (go_at_call 13; refine CP.mono ?_; rintro e w7 ⟨rfl, hb7⟩
                   have hx7 := HX.out.1.below hb7 HX.out.1.cells.2.2
                   obtain ⟨⟨p0, p1, p2⟩, _, hl7⟩ := hx7.cells
                   have hy7 := HX0.out.below hb7 HX0.out.cells.2.2
                   obtain ⟨⟨q0, q1, q2⟩, _, hl8⟩ := hy7.cells
                   obtain ⟨z0, z1, z2⟩ := hy7.froz
                   have B7 : Hid (Below w.heap.size w w7) := HBK.out.1.trans (hb7.mono HBK.out.1.size)
                   have HO7 : Hid (OwnV w7 (w.heap.size + 1) (.slice va i vc) pre) := (HX.out.2.below hb7).mono (by omega)
                   clear CP hb7 hx7 hy7 x0 x1 x2))
              refine bodyPost_ret (v := .tuple #[.agg #[.int .i64 t, .string (st c.nm), .slice va i vc], .int .i64 0]) (by simp [results, Tryd.results15, go_sem]; go_simp) rfl (HPS.out ⟨t, c.nm, pre⟩ _ _ E.out ?_ ?_)
              · exact set3 B7.out _ (Nat.le_refl _) _ _ _
              · exact own_set3 HO7.out _ _ _
            · have E : Hid (getF pvF gvF cs t (nb (b :: r)) = none) := by show getF pvF gvF cs t (nb (b :: r)) = _; rw [HF.out, if_neg fun h => h1 h.2]
              rw [decide_eq_false h1] at EQ
              subst h0
              clear HF h1
              go_wp2_with (first
                | (go_at_call 13; refine CP.mono ?_; rintro e w7 ⟨rfl, hb7⟩
                   have hx7 := HX.out.1.below hb7 HX.out.1.cells.2.2
                   obtain ⟨⟨p0, p1, p2⟩, _, hl7⟩ := hx7.cells
                   have hy7 := HX0.out.below hb7 HX0.out.cells.2.2
                   obtain ⟨⟨q0, q1, q2⟩, _, hl8⟩ := hy7.cells
                   obtain ⟨z0, z1, z2⟩ := hy7.froz
                   have B7 : Hid (Below w.heap.size w w7) := HBK.out.1.trans (hb7.mono HBK.out.1.size)
                   have HO7 : Hid (OwnV w7 (w.heap.size + 1) (.slice va i vc) pre) := (HX.out.2.below hb7).mono (by omega)
                   clear CP hb7 hx7 hy7 x0 x1 x2))
              refine bodyPost_ret (v := .tuple #[.agg #[.int .i64 0, .string ⟨#[]⟩, .slice none 0 0], .int .i64 4]) (by simp [results, Tryd.results15, go_sem]; go_simp) rfl (HPN.out _ E.out ?_)
              exact set3 B7.out _ (Nat.le_refl _) _ _ _
          · have E : Hid (getF pvF gvF cs t (nb (b :: r)) = none) := by show getF pvF gvF cs t (nb (b :: r)) = _; rw [HF.out, if_neg fun h => h0 h.1]
            clear HF
            go_wp2_with (first
              | (go_at_call 13; refine CP.mono ?_; rintro e w7 ⟨rfl, hb7⟩
                 have hx7 := HX.out.1.below hb7 HX.out.1.cells.2.2
                 obtain ⟨⟨p0, p1, p2⟩, _, hl7⟩ := hx7.cells
                 have hy7 := HX0.out.below hb7 HX0.out.cells.2.2
                 obtain ⟨⟨q0, q1, q2⟩, _, hl8⟩ := hy7.cells
                 obtain ⟨z0, z1, z2⟩ := hy7.froz
                 have B7 : Hid (Below w.heap.size w w7) := HBK.out.1.trans (hb7.mono HBK.out.1.size)
                 have HO7 : Hid (OwnV w7 (w.heap.size + 1) (.slice va i vc) pre) := (HX.out.2.below hb7).mono (by omega)
                 clear CP hb7 hx7 hy7 x0 x1 x2))
            refine bodyPost_ret (v := .tuple #[.agg #[.int .i64 0, .string ⟨#[]⟩, .slice none 0 0], .int .i64 4]) (by simp [results, Tryd.results15, go_sem]; go_simp) rfl (HPN.out _ E.out ?_)
            exact set3 B7.out _ (Nat.le_refl _) _ _ _
end Go.Proofs.YtpmhilaochfpaaaDoor
