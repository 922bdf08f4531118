/- A condition: what it binds. -/
import Derived.Test.YtakibdkmgjpbhaaSa
import Derived.Test.YtakibdkmgjpbhaaSq
namespace Go.Proofs.Ytakibdkmgjpbhaa
open Go.RowKit
set_option linter.unusedVariables false
set_option linter.unusedSimpArgs false
set_option maxRecDepth 20000

theorem NS.del {w3 : World} {b n : Nat} {zs : List Str} {s : Str} {D : DataW Unit} (hh : ∀ s, Maps.has D (.string s) = decide (s ∈ zs)) (h3 : w3.ownsMap Try.prog 9 unitElem b n (D.del (.string s))) : NS w3 b n (zs.filter fun x => decide (x ≠ s)) :=
  ⟨_, h3, fun x => by
    by_cases e : x = s
    · subst e
      rw [Maps.has_del_same]
      simp
    · rw [Maps.has_del_other (by simpa using e), hh x]
      exact decide_eq_decide.2 (by simp [e])⟩
theorem OwnS.cells {w : World} {base : Nat} {v : Value} {ss : List Str} (h : OwnS w base v ss) : ∃ a cap, v = .slice a ss.length cap ∧ ss.length ≤ cap ∧ cap ≤ 9223372036854775807 ∧ ∀ i, i < ss.length → ∃ b off, a = some ⟨b, off, none⟩ ∧ b < w.heap.size ∧ base ≤ b ∧ (∃ cs fz, w.heap[b]? = some (.cells cs 9 fz)) ∧ w.cell? ⟨b, off + i, none⟩ = some (.string (st (ss.getD i []))) := by
  have hsl := h.sl
  obtain ⟨a, cap, rfl, h1, h2, h3⟩ := hsl.cells
  refine ⟨a, cap, rfl, h1, h2, fun i hi => ?_⟩
  obtain ⟨b, off, rfl, hb, hc⟩ := h3 i hi
  rcases h.2 with ⟨e, h0⟩ | ⟨g, cap', cur, e, hg, hcc, _⟩
  · cases e
  · obtain ⟨e1, -, -⟩ := Value.slice.inj e
    obtain ⟨rfl, rfl, -⟩ := Addr.mk.inj (Option.some.inj e1)
    exact ⟨b, 0, rfl, hb, hg, ⟨_, _, hcc⟩, hc⟩
theorem map_ne {w : World} {b b' n : Nat} {zs : List Str} (h : NS w b n zs) (hc : ∃ cs fz, w.heap[b']? = some (.cells cs 9 fz)) : b' ≠ b := by
  rintro rfl
  obtain ⟨D, ⟨es, clock, hb, _⟩, _⟩ := h
  obtain ⟨cs, fz, hc⟩ := hc
  rw [hb] at hc; cases hc
theorem NV.grow {w w' : World} {v : Value} {zs : List Str} {g : Nat} (h : NV w v zs) (hg : w.grownBy w' (some g)) (hne : ∀ b, v = .map (some b) → b ≠ g) : NV w' v zs := by
  rcases h with h | ⟨b, n, rfl, h⟩
  · exact .inl h
  · exact .inr ⟨b, n, rfl, h.grow hg (hne b rfl)⟩
def delF (zs f : List Str) (j : Nat) : List Str := zs.filter fun x => decide (x ∉ f.take j)
theorem delF_next {zs f : List Str} {j : Nat} (hj : j < f.length) : (delF zs f j).filter (fun x => decide (x ≠ f.getD j [])) = delF zs f (j + 1) := by
  unfold delF
  rw [List.filter_filter, take_snocS f j hj]
  congr 1
  funext x
  rw [Bool.eq_iff_iff]
  simp only [Bool.and_eq_true, decide_eq_true_eq, List.mem_append, List.mem_singleton, not_or]
  exact ⟨fun h => ⟨h.2, h.1⟩, fun h => ⟨h.2, h.1⟩⟩
theorem delF_all {zs f : List Str} (hf : ∀ x ∈ f, x ∉ zs) (s : Str) : s ∈ delF (zs ++ f) f f.length ↔ s ∈ zs := by
  unfold delF
  rw [List.take_length, List.mem_filter, List.mem_append, decide_eq_true_eq]
  exact ⟨fun h => h.1.elim id fun h' => absurd h' h.2, fun h => ⟨.inl h, fun h' => hf s h' h⟩⟩
set_option maxHeartbeats 16000000 in
theorem cond_any (K ab b n : Nat) (cs : List ClassD) (zs : List Str) (cc : List Value) (c : CondD) (w : World) (hA : AM w ab K cs) (h : NS w b n zs) (hc : ReC (fun _ k => k < K) w cc c) (hKb : K ≤ b) (hn : n ≤ 9000) (hL : condL c) :
    Calls Try.prog 37 #[.agg #[.map (some ab), .map (some b)], .agg cc.toArray] w (TP w b (n + 120) zs (condR cs zs c)) := by
  generalize hPO : TP w b (n + 120) zs (condR cs zs c) = PO
  have HPE : Hid (∀ er w', condR cs zs c = .error er → Fx b w w' → PO (.returned (.tuple #[.slice none 0 0, .int .i64 er])) w') := fun er w' he hf => by rw [← hPO]; exact ⟨hf, by rw [he]⟩
  have HPO : Hid (∀ f v w', condR cs zs c = .ok f → Fx b w w' → OwnS w' w.heap.size v f → NS w' b (n + 120) (zs ++ f) → PO (.returned (.tuple #[v, .int .i64 0])) w') := fun f v w' he hf ho hn => by rw [← hPO]; exact ⟨hf, by rw [he]; exact ⟨v, rfl, ho, hn⟩⟩
  clear hPO
  have HC : Hid (condL c) := hL
  have HN : Hid (NS w b n zs) := h
  have HAM : Hid (AM w ab K cs) := hA
  have hbw := h.lt
  have hKw : K < w.heap.size := by omega
  obtain ⟨u, rfl, css, h1, hh1⟩ := hc
  have le1 := hh1.len
  obtain ⟨a1, c1, rfl⟩ := h1.shape
  obtain ⟨-, l1, m1, r1⟩ := h1.row
  have HK : Hid (∀ i k off, i < c.attrs.length → a1 = some ⟨k, off, none⟩ → k < K) := fun i k off hi e => by
    obtain ⟨a', cap', e1, h2, h3, h4⟩ := h1
    rcases h4 with h4 | ⟨b', off', e', hb, hp, hc⟩
    · subst h4; simp at le1; omega
    · obtain ⟨e1, -, -⟩ := Value.slice.inj e1
      rw [e', e] at e1
      obtain rfl : k = b' := by injection e1 with e1; injection e1
      exact hp
  rw [le1] at l1 r1 ⊢
  have R1 : Hid (∀ i, i < c.attrs.length → ∃ b off, a1 = some ⟨b, off, none⟩ ∧ b < w.heap.size ∧ ∀ j, j < 3 → w.cell? ⟨b, off + (i * 3 + j), none⟩ = (css.getD i [])[j]?) := r1
  have G1 : Hid (All2 (ReA (fun _ k => k < K) w) css c.attrs) := hh1
  clear r1 h1 hh1 le1 h hA hL
  have hnn : (c.attrs.length : Int) ≤ 9223372036854775807 := by omega
  have hal := HC.out.2.1
  have B0 : Hid (Below w.heap.size w ((w.alloc (.cells #[.map (some ab), .map (some b)] 88)).alloc (.cells #[.bool c.neg, .string (st c.c), .slice a1 c.attrs.length c1] 50))) := bt (bxn _ _) (bxn _ _)
  obtain ⟨av, hNV, hvb, hlk, -⟩ := (HAM.out.below (B0.out.mono (by omega))).look (s := c.c) (by have := HC.out.1; omega)
  have HLK : Hid ((Instr.lookup 75 (.map (some ab)) (.string (st c.c)) true).run Try.prog ((w.alloc (.cells #[.map (some ab), .map (some b)] 88)).alloc (.cells #[.bool c.neg, .string (st c.c), .slice a1 c.attrs.length c1] 50)) = _) := hlk
  have HVB : Hid (∀ b, av = .map (some b) → b < K ∧ b ≠ ab) := hvb
  clear hlk hvb
  cases hf : findC cs c.c with
  | none =>
    have E18 : Hid (condR cs zs c = .error 18) := by unfold condR; rw [hf]; exact rfl
    rw [hf] at HLK
    clear hf hNV
    go_enter Try.func37, Try.ntmps37
    go_wp2_with (at_lookup; refine wpList_look rfl _ _ _ _ rfl rfl rfl HLK.out ?_)
    exact HPE.out 18 _ E18.out (Fx.of B0.out b)
  | some kk =>
    have EC : Hid (condR cs zs c = bindE (runE (attS kk.attrs zs) ([], []) c.attrs) fun st => .ok (if c.neg then [] else st.2)) := by unfold condR; rw [hf]; exact rfl
    have ek : atK cs c.c = kk.attrs := by unfold atK; rw [hf]
    rw [ek] at hNV
    rw [hf] at HLK
    have HNV : Hid (NV _ av kk.attrs) := hNV
    clear hf hNV ek
    generalize kk.attrs = has at EC HNV
    have HM := NS.made ((w.alloc (.cells #[.map (some ab), .map (some b)] 88)).alloc (.cells #[.bool c.neg, .string (st c.c), .slice a1 c.attrs.length c1] 50))
    have HM0 : Hid (NS (((w.alloc (.cells #[.map (some ab), .map (some b)] 88)).alloc (.cells #[.bool c.neg, .string (st c.c), .slice a1 c.attrs.length c1] 50)).alloc (.map #[] 0)) (w.heap.size + 2) 0 []) := by simpa [Hid] using HM
    clear HM
    have hmm := @run_makeMap Try.prog
    go_enter Try.func37, Try.ntmps37
    go_wp2_with (at_lookup; refine wpList_look rfl _ _ _ _ rfl rfl rfl HLK.out ?_)
    clear hmm HLK
    have B1 : Hid (Below w.heap.size w (((w.alloc (.cells #[.map (some ab), .map (some b)] 88)).alloc (.cells #[.bool c.neg, .string (st c.c), .slice a1 c.attrs.length c1] 50)).alloc (.map #[] 0))) := bt B0.out (bxn _ _)
    have V1 : Hid (NV (((w.alloc (.cells #[.map (some ab), .map (some b)] 88)).alloc (.cells #[.bool c.neg, .string (st c.c), .slice a1 c.attrs.length c1] 50)).alloc (.map #[] 0)) av has) := HNV.out.bl (bxn _ _)
    go_loopw [8, 31] (fun v8 v wr => ∃ (i : Nat) (met f : List Str), v = .int .i64 i ∧ i ≤ c.attrs.length ∧ Hid (Fx b w wr) ∧ wr.cell? ⟨w.heap.size, 0, none⟩ = some (.map (some ab)) ∧ wr.cell? ⟨w.heap.size, 1, none⟩ = some (.map (some b)) ∧ wr.cell? ⟨w.heap.size + 1, 0, none⟩ = some (.bool c.neg) ∧ w.heap.size + 2 < wr.heap.size ∧ Hid (runE (attS has zs) ([], []) (c.attrs.take i) = .ok (met, f)) ∧ Hid (OwnS wr (w.heap.size + 3) v8 f) ∧ Hid (NS wr b (n + 12 * i) (zs ++ f)) ∧ Hid (NS wr (w.heap.size + 2) i met) ∧ Hid (NV wr av has) ∧ Hid (f.length ≤ 12 * i)) (fun _ v _ => (c.attrs.length - intOf v).toNat)
    case atStart =>
      refine ⟨0, [], [], rfl, Nat.zero_le _, Fx.of B1.out b, by go_simp, by go_simp, by go_simp, by simp, rfl, OwnS.nil _ _, ?_, HM0.out, V1.out, by show _ ≤ _; simp⟩
      rw [List.append_nil]; exact HN.out.below B1.out hbw
    case round =>
      obtain ⟨i, met, f, rfl, hi, HF, hb0, hb1', hb2, hsz, HRU, HO, HNS, HME, HV, HFL⟩ := hrel
      by_cases hlt : i < c.attrs.length
      · have hiz : (i : Int) < c.attrs.length := by omega
        obtain ⟨b1, o1, rfl, hb1, q1⟩ := R1.out i hlt
        have hbk := HK.out i b1 o1 hlt rfl
        have e1 := G1.out.at i [] ⟨[], [], []⟩ hlt
        have hxl : attrL (c.attrs.getD i ⟨[], [], []⟩) := by
          rw [List.getD_eq_getElem?_getD, List.getElem?_eq_getElem hlt]; exact HC.out.2.2 _ (List.getElem_mem hlt)
        have HNX := runE_next (step := attS has zs) ⟨[], [], []⟩ hlt HRU.out
        have HER : Hid (∀ er, attS has zs (met, f) (c.attrs.getD i ⟨[], [], []⟩) = .error er → condR cs zs c = .error er) := fun er he => by rw [EC.out, runE_err ⟨[], [], []⟩ hlt HRU.out he]; rfl
        have HNY : Hid (runE (attS has zs) ([], []) (c.attrs.take (i + 1)) = attS has zs (met, f) (c.attrs.getD i ⟨[], [], []⟩)) := HNX
        clear HNX
        generalize c.attrs.getD i ⟨[], [], []⟩ = x at q1 e1 HER HNY hxl
        have HXL : Hid (attrL x) := hxl
        clear hxl
        obtain ⟨u1, u2, ec, hu1, hu2⟩ := e1
        have HU2 : Hid (SlW 5 w (fun k => k < K) u2 (x.tests.map clT)) := hu2
        obtain ⟨d1, e1c, rfl⟩ := hu1.shape
        obtain ⟨d2, e2c, rfl⟩ := hu2.shape
        simp only [List.length_map] at ec HU2
        rw [ec] at q1
        have cq : ∀ j u, ([.string (st x.a), .slice d1 x.ones.length e1c, .slice d2 x.tests.length e2c] : List Value)[j]? = some u → j < 3 → wr.cell? ⟨b1, o1 + (i * 3 + j), none⟩ = some u := fun j u hu hj => HF.out.cell (by rw [q1 j hj]; exact hu) (by simp; omega)
        have q0 : wr.cell? ⟨b1, o1 + i * 3, none⟩ = some (.string (st x.a)) := cq 0 _ rfl (by decide)
        have q2 : wr.cell? ⟨b1, o1 + i * 3 + 1, none⟩ = some (.slice d1 x.ones.length e1c) := cq 1 _ rfl (by decide)
        have q3 : wr.cell? ⟨b1, o1 + i * 3 + 2, none⟩ = some (.slice d2 x.tests.length e2c) := cq 2 _ rfl (by decide)
        clear q1 cq ec hu1 hu2
        have F1 : Hid (Fx b w (wr.alloc (.cells #[.string (st x.a), .slice d1 x.ones.length e1c, .slice d2 x.tests.length e2c] 62))) := HF.out.al _
        have CO := once_any av (w.heap.size + 2) i has met x.a (wr.alloc (.cells #[.string (st x.a), .slice d1 x.ones.length e1c, .slice d2 x.tests.length e2c] 62)) (HV.out.bl (bxn _ _)) (HME.out.below (bxn _ _) HME.out.lt) (by omega) (by have := HXL.out.1; omega)
        have y0 : (wr.alloc (.cells #[.string (st x.a), .slice d1 x.ones.length e1c, .slice d2 x.tests.length e2c] 62)).cell? ⟨wr.heap.size, 2, none⟩ = some (.slice d2 x.tests.length e2c) := by go_simp
        by_cases ho : onceE has met x.a = 0
        · have HS : Hid (attS has zs (met, f) x = bindE (tstR (zs ++ f) x.tests) fun g => .ok (met ++ [x.a], f ++ g)) := by unfold attS; rw [if_neg (by simp [ho])]; exact rfl
          rw [ho] at CO
          clear ho
          have hvn : ∀ b', av = .map (some b') → b' < K := fun b' e => (HVB.out b' e).1
          have HVN : Hid (∀ b', av = .map (some b') → b' < K) := hvn
          clear hvn
          have W2 : Hid (∀ w2, Fx (w.heap.size + 2) (wr.alloc (.cells #[.string (st x.a), .slice d1 x.ones.length e1c, .slice d2 x.tests.length e2c] 62)) w2 → NS w2 b (n + 12 * i) (zs ++ f) ∧ w2.cell? ⟨w.heap.size, 0, none⟩ = some (.map (some ab)) ∧ w2.cell? ⟨w.heap.size, 1, none⟩ = some (.map (some b)) ∧ w2.cell? ⟨w.heap.size + 1, 0, none⟩ = some (.bool c.neg) ∧ w2.cell? ⟨wr.heap.size, 2, none⟩ = some (.slice d2 x.tests.length e2c) ∧ OwnS w2 (w.heap.size + 3) u8 f ∧ NV w2 av has ∧ wr.heap.size < w2.heap.size) := fun w2 hf2 => by
            have hbx := bxn wr (.cells #[.string (st x.a), .slice d1 x.ones.length e1c, .slice d2 x.tests.length e2c] 62)
            refine ⟨(HNS.out.below hbx HNS.out.lt).grow hf2 (by omega), hf2.cell ((hbx.cell (p := ⟨w.heap.size, 0, none⟩) (by show w.heap.size < _; omega)).trans hb0) (by simp), hf2.cell ((hbx.cell (p := ⟨w.heap.size, 1, none⟩) (by show w.heap.size < _; omega)).trans hb1') (by simp), hf2.cell ((hbx.cell (p := ⟨w.heap.size + 1, 0, none⟩) (by show w.heap.size + 1 < _; omega)).trans hb2) (by simp), hf2.cell y0 (by simp; omega), (HO.out.below hbx).grow hf2 (by omega), (HV.out.bl hbx).grow hf2 (fun b' e => by have := HVN.out b' e; omega), ?_⟩
            have := hf2.size; simp at this; omega
          have CT : Hid (∀ w2, Fx b w w2 → NS w2 b (n + 12 * i) (zs ++ f) → Calls Try.prog 46 #[.agg #[.map (some ab), .map (some b)], .slice d2 x.tests.length e2c] w2 (TP w2 b (n + 12 * i + x.tests.length) (zs ++ f) (tstR (zs ++ f) x.tests))) := fun w2 hf2 hn2 => by
            have hbb := hf2.below hKb (by omega)
            exact tests_any K (.map (some ab)) b (n + 12 * i) (zs ++ f) _ x.tests w2 hn2 (SlW.keep (P := fun _ k => k < K) (k := 0) ⟨hbb.size, fun _ k hk _ => hbb.block k hk⟩ HU2.out) hKb (by omega) HXL.out.2.2.1 (fun t ht => (HXL.out.2.2.2.2 t ht).1)
          cases hr : tstR (zs ++ f) x.tests with
          | error er =>
            obtain rfl := tstR_bad hr
            have E2 : Hid (condR cs zs c = .error 20) := HER.out _ (by rw [HS.out, hr]; rfl)
            rw [hr] at CT
            clear hr HS HER
            go_wp2_with (first
              | (go_at_call 45; refine CO.mono ?_; rintro e w2 ⟨rfl, -, hf2⟩; have F2 : Hid (Fx b w w2) := F1.out.new hf2 (by omega); obtain ⟨n2, s0, s1, s2, s3, o2, v2, z2⟩ := W2.out w2 hf2; have CT2 := CT.out w2 F2.out n2; clear CO hf2 n2 o2 v2)
              | (go_at_call 46; refine CT2.mono ?_; rintro e w3 ⟨hf3, rfl⟩; have F3 : Hid (Fx b w w3) := F2.out.tr hf3; clear CT2 hf3))
            exact HPE.out _ _ E2.out F3.out
          | ok g =>
            have hgl := tstR_len hr
            have R2 : Hid (runE (attS has zs) ([], []) (c.attrs.take (i + 1)) = .ok (met ++ [x.a], f ++ g)) := by rw [HNY.out, HS.out, hr]; exact rfl
            rw [hr] at CT
            have hxt := HXL.out.2.2.1
            clear hr HS HER HNY
            go_wp2_with (first
              | (go_at_call 45; refine CO.mono ?_; rintro e w2 ⟨rfl, hn1, hf2⟩; have M2 : Hid (NS w2 (w.heap.size + 2) (i + 1) (met ++ [x.a])) := hn1 rfl; have F2 : Hid (Fx b w w2) := F1.out.new hf2 (by omega); obtain ⟨n2, s0, s1, s2, s3, o2, v2, z2⟩ := W2.out w2 hf2; have CT2 := CT.out w2 F2.out n2; have O2 : Hid (OwnS w2 (w.heap.size + 3) u8 f) := o2; have V2 : Hid (NV w2 av has) := v2; clear CO hf2 n2 o2 v2 hn1)
              | (go_at_call 46; refine CT2.mono ?_; rintro e w3 ⟨hf3, v3, rfl, ho3, hn3⟩; have F3 : Hid (Fx b w w3) := F2.out.tr hf3; have G3 : Hid (Fx b w2 w3) := hf3; have P3 : Hid (OwnS w3 w2.heap.size v3 g) := ho3; have N3 : Hid (NS w3 b (n + 12 * i + x.tests.length) (zs ++ f ++ g)) := hn3; have O3 : Hid (OwnS w3 (w.heap.size + 3) u8 f) := O2.out.grow hf3 (by omega); have V3 : Hid (NV w3 av has) := V2.out.grow hf3 (fun b' e => by have := HVN.out b' e; omega); have M3 : Hid (NS w3 (w.heap.size + 2) (i + 1) (met ++ [x.a])) := M2.out.grow hf3 (by omega); have t0 : w3.cell? ⟨w.heap.size, 0, none⟩ = some (.map (some ab)) := hf3.cell s0 (by simp; omega); have t1 : w3.cell? ⟨w.heap.size, 1, none⟩ = some (.map (some b)) := hf3.cell s1 (by simp; omega); have t2 : w3.cell? ⟨w.heap.size + 1, 0, none⟩ = some (.bool c.neg) := hf3.cell s2 (by simp; omega); have z3 : w.heap.size + 3 ≤ w3.heap.size := (by (have := hf3.size; omega)); clear CT2 hf3 ho3 hn3 O2 V2 M2)
              | (at_builtin; refine wp_app_ss rfl _ _ rfl (w.heap.size + 3) _ f g rfl O3.out _ rfl P3.out.sl (by have := HFL.out; omega) z3 ?_; intro v5 w5 o5 g5 b5))
            have O5 : Hid (OwnS w5 (w.heap.size + 3) v5 (f ++ g)) := o5
            have F5 : Hid (Fx b w w5) := F3.out.low b5 (by omega)
            have r0 := (b5.cell (p := ⟨w.heap.size, 0, none⟩) (by show w.heap.size < _; omega)).trans t0
            have r1 := (b5.cell (p := ⟨w.heap.size, 1, none⟩) (by show w.heap.size < _; omega)).trans t1
            have r2 := (b5.cell (p := ⟨w.heap.size + 1, 0, none⟩) (by show w.heap.size + 1 < _; omega)).trans t2
            have N5 : Hid (NS w5 b (n + 12 * (i + 1)) (zs ++ (f ++ g))) := by rw [← List.append_assoc]; exact (N3.out.below b5 (by omega)).mono (by omega)
            have M5 : Hid (NS w5 (w.heap.size + 2) (i + 1) (met ++ [x.a])) := M3.out.below b5 (by omega)
            have V5 : Hid (NV w5 av has) := V3.out.below b5 (fun b' e => by have := HVN.out b' e; omega)
            have L5 : Hid ((f ++ g).length ≤ 12 * (i + 1)) := by have := HFL.out; show _ ≤ _; rw [List.length_append]; omega
            have Z5 := b5.size
            clear o5 g5 b5
            go_roundw
            case rel => exact ⟨i + 1, met ++ [x.a], f ++ g, by simp, by omega, F5.out, r0, r1, r2, by omega, R2.out, O5.out, N5.out, M5.out, V5.out, L5.out⟩
            case measure => simp [intOf]; omega
        · have E2 : Hid (condR cs zs c = .error (onceE has met x.a)) := HER.out _ (by unfold attS; rw [if_pos ho])
          generalize onceE has met x.a = oe at CO ho E2
          go_wp2_with (go_at_call 45; refine CO.mono ?_; rintro e w2 ⟨rfl, -, hf2⟩; have F2 : Hid (Fx b w w2) := F1.out.new hf2 (by omega); clear CO hf2)
          exact HPE.out _ _ E2.out F2.out
      · have hiz : ¬ (i : Int) < c.attrs.length := by omega
        have : i = c.attrs.length := by omega
        subst this
        rw [List.take_length] at HRU
        have ECC : Hid (condR cs zs c = .ok (if c.neg then [] else f)) := by rw [EC.out, HRU.out]; exact rfl
        have HNW := attR_new HRU.out
        have HFN : Hid (∀ x ∈ f, x ∉ zs) := fun x hx => (HNW x hx).1
        have HFS : Hid (∀ i, i < f.length → (f.getD i []).length ≤ 9223372036854775807) := fun i hi => by
          rw [List.getD_eq_getElem?_getD, List.getElem?_eq_getElem hi]
          obtain ⟨_, a, ha, t, ht, e, _⟩ := HNW _ (List.getElem_mem hi)
          have := (((HC.out.2.2 a ha).2.2.2).2 t ht).1
          show (f[i]).length ≤ _
          rw [← e]; omega
        clear HNW EC
        cases hng : c.neg with
        | false =>
          rw [hng] at hb2 ECC
          go_wp2
          exact HPO.out f _ _ ECC.out HF.out (HO.out.mono (by omega)) (HNS.out.mono (by omega))
        | true =>
          rw [hng] at hb2 ECC
          obtain ⟨wo, hwo⟩ : ∃ wo, wo = wr := ⟨_, rfl⟩
          subst hwo
          obtain ⟨a8, cap8, rfl, hc81, hc82, hcell⟩ := HO.out.cells
          have HCE : Hid (∀ i, i < f.length → ∃ b off, a8 = some ⟨b, off, none⟩ ∧ b < wo.heap.size ∧ w.heap.size + 3 ≤ b ∧ (∃ cs fz, wo.heap[b]? = some (.cells cs 9 fz)) ∧ wo.cell? ⟨b, off + i, none⟩ = some (.string (st (f.getD i [])))) := hcell
          clear hcell
          have hfl8 : f.length ≤ 1000 := by have := HFL.out; omega
          go_wp2
          go_loopw [63] (fun v wr => ∃ j : Nat, v = .int .i64 j ∧ j ≤ f.length ∧ Hid (Fx b wo wr) ∧ Hid (NS wr b (n + 12 * c.attrs.length) (delF (zs ++ f) f j))) (fun v _ => (f.length - intOf v).toNat)
          case atStart =>
            refine ⟨0, rfl, Nat.zero_le _, Fx.refl _ _, ?_⟩
            exact HNS.out.congr fun s => by unfold delF; simp
          case round =>
            obtain ⟨j, rfl, hj, HFJ, HNJ⟩ := hrel
            have k1 : wr.cell? ⟨w.heap.size, 1, none⟩ = some (.map (some b)) := HFJ.out.cell hb1' (by simp; omega)
            by_cases hjl : j < f.length
            · have hjz : (j : Int) < f.length := by omega
              obtain ⟨b2, o2, rfl, hb2l, hb2g, hbc, q⟩ := HCE.out j hjl
              have q2 : wr.cell? ⟨b2, o2 + j, none⟩ = some (.string (st (f.getD j []))) := HFJ.out.cell q (by have := map_ne HNS.out hbc; simpa using this)
              have DN : Hid ((delF (zs ++ f) f j).filter (fun x => decide (x ≠ f.getD j [])) = delF (zs ++ f) f (j + 1)) := delF_next hjl
              have SL := HFS.out j hjl
              obtain ⟨D, hD, hh⟩ := HNJ.out
              have HD : Hid (wr.ownsMap Try.prog 9 unitElem b (n + 12 * c.attrs.length) D) := hD
              have HH : Hid (∀ s, Maps.has D (.string s) = decide (s ∈ delF (zs ++ f) f j)) := hh
              clear q hD hh HNJ
              generalize f.getD j [] = y at *
              go_wp2_with (at_delete; refine wpList_delete_own _ rfl _ _ 79 9 rfl 99 key9 Try.underlying79 unitElem b (n + 12 * c.attrs.length) D rfl HD.out _ _ rfl (key_s SL) ?_; intro w3 hD3 ht3; have N3 : Hid (NS w3 b (n + 12 * c.attrs.length) (delF (zs ++ f) f (j + 1))) := (by rw [← DN.out]; exact NS.del HH.out hD3); have F3 : Hid (Fx b wo w3) := HFJ.out.tr ht3.grown; clear hD3 ht3)
              go_roundw
              case rel => exact ⟨j + 1, by simp, by omega, F3.out, N3.out⟩
              case measure => simp [intOf]; omega
            · have hjz : ¬ (j : Int) < f.length := by omega
              have : j = f.length := by omega
              subst this
              have NF : Hid (NS wr b (n + 12 * c.attrs.length) (zs ++ [])) := HNJ.out.congr fun s => by rw [delF_all HFN.out, List.append_nil]
              go_wp2
              exact HPO.out [] _ _ ECC.out (HF.out.tr HFJ.out) (OwnS.nil _ _) (NF.out.mono (by omega))
end Go.Proofs.Ytakibdkmgjpbhaa
