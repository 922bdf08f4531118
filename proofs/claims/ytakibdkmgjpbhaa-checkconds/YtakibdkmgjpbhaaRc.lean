/- The document's Cond. -/
import Derived.Test.YtakibdkmgjpbhaaFa
import Derived.Maps.AppendAt
import Derived.Deep.AppendLies
namespace Go.Proofs.Ytakibdkmgjpbhaa
open Go.RowKit
set_option linter.unusedVariables false
set_option linter.unusedSimpArgs false
set_option maxRecDepth 20000

theorem wp_app_at {ops : Array Oper} {rest : List Oper} {o : Oper} {a : Act} {Q : Exit → Act → World → Prop} {w : World} (hgd : o.guard = none) (s x : Operand)
    (ho : o.op = .call { callee := .builtin .append, args := #[s, x], argTypes := #[39, 39] }) (base : Nat) (v : Value) (ss l : List Str) (hs : a.eval s = v) (hown : OwnS w base v ss)
    {P : Nat → Prop} (vx : Value) (hx : a.eval x = vx) (hv : SlW 1 w P vx (l.map clS)) (hlen : ss.length + l.length ≤ 1000000) (hbase : base ≤ w.heap.size)
    (h : ∀ v' w', OwnS w' base v' (ss ++ l) → w.grownBy w' v.ownBlock → (v'.ownBlock = v.ownBlock ∨ v'.ownBlock = some w.heap.size) → Below base w w' → wpList Try.prog ops Q rest (a.put o.dst v') w') : wpList Try.prog ops Q (o :: rest) a w := by
  obtain ⟨i0, hi, hz0, hz1, hz2⟩ := info_parts Try.info9s
  have hv' := hv
  obtain ⟨ax, cap, rfl, h2, h3, h4⟩ := hv'
  rw [List.length_map] at *
  cases ax with
  | none =>
    obtain rfl : l = [] := by
      rcases h4 with h4 | ⟨b, off, e, _⟩
      · exact List.map_eq_nil_iff.1 h4
      · cases e
    have hrun : (Builtin.append_ #[39, 39] o.type #[v, .slice none 0 cap]).run Try.prog w = .ok v w := by
      rcases hown.2 with ⟨rfl, e⟩ | ⟨g, cap, cur, rfl, _, _, hnc, _⟩
      · simp [Builtin.append_, run_underlying Try.underlying39, sizeOf, typeInfo, hi, Builtin.lenOf, Builtin.firstCells]
      · simp [Builtin.append_, run_underlying Try.underlying39, sizeOf, typeInfo, hi, Builtin.lenOf, Builtin.firstCells, hnc, storeCells]
    refine wpList_plain hgd fun K' hK' => ?_
    unfold Oper.wp
    simp [execOp, ho, resolve, invoke, builtin, hs, hx, hrun, Result.andThen]
    exact hK' _ _ (h v w (by rw [List.append_nil]; exact hown) ⟨rfl, rfl, rfl, Nat.le_refl _, fun _ _ _ => rfl⟩ (.inl rfl) (Below.refl _ _))
  | some ad =>
    refine wpList_append_own_at w hgd s x 39 ho base 9 i0 (.string ⟨#[]⟩) 1 16 Try.underlying39 hi hz0 hz1 hz2 rfl (by decide) v ss.length (ss.map vS) hs hown ad l.length cap (l.map vS) hx (by simp) hv.app (fun u hu => by obtain ⟨z, _, rfl⟩ := List.mem_map.1 hu; rfl) (by unfold maxLen; omega) (by omega) hbase ?_
    intro v' w' h5 h6 _ h7
    refine h v' w' ?_ h6 h7 ?_
    · show w'.ownsRow base 9 1 v' (ss ++ l).length ((ss ++ l).map vS)
      rw [List.length_append, List.map_append]; exact h5
    · exact (Below.refl base w).grown h6 hbase (fun k hk => (World.ownsRow.lt hown k hk).1)
/-- Two rows of the call's own, in two blocks. -/
def TwoS (w : World) (base : Nat) (v1 v2 : Value) (xs ys : List Str) : Prop := OwnS w base v1 xs ∧ OwnS w base v2 ys ∧ ∀ g, v1.ownBlock = some g → v2.ownBlock ≠ some g
theorem TwoS.below {w w' : World} {base : Nat} {v1 v2 : Value} {xs ys : List Str} (h : TwoS w base v1 v2 xs ys) (hb : Below w.heap.size w w') : TwoS w' base v1 v2 xs ys := ⟨h.1.below hb, h.2.1.below hb, h.2.2⟩
theorem TwoS.left {w w' : World} {base : Nat} {v1 v2 v' : Value} {xs ys xs' : List Str} (h : TwoS w base v1 v2 xs ys) (h1 : OwnS w' base v' xs') (h2 : w.grownBy w' v1.ownBlock) (h3 : v'.ownBlock = v1.ownBlock ∨ v'.ownBlock = some w.heap.size) : TwoS w' base v' v2 xs' ys := by
  refine ⟨h1, ?_, fun g hg hg2 => ?_⟩
  · refine World.ownsRow.kept h.2.1 h2 ?_
    cases hv : v2.ownBlock with
    | none => exact .inl rfl
    | some k => exact .inr (fun e => h.2.2 k e.symm hv)
  · have hl := (World.ownsRow.lt h.2.1 g hg2).2
    rcases h3 with e | e
    · exact h.2.2 g (e ▸ hg) hg2
    · rw [e] at hg
      cases hg
      omega
theorem TwoS.swap {w : World} {base : Nat} {v1 v2 : Value} {xs ys : List Str} (h : TwoS w base v1 v2 xs ys) : TwoS w base v2 v1 ys xs := ⟨h.2.1, h.1, fun g h2 h1 => h.2.2 g h1 h2⟩
/-- A block that is not v's, and is there. -/
def Off (w : World) (v : Value) (b : Nat) : Prop := b < w.heap.size ∧ v.ownBlock ≠ some b
theorem Off.next {w w' : World} {v v' : Value} {b : Nat} (h : Off w v b) (hs : w.heap.size ≤ w'.heap.size) (h3 : v'.ownBlock = v.ownBlock ∨ v'.ownBlock = some w.heap.size) : Off w' v' b := by
  refine ⟨Nat.lt_of_lt_of_le h.1 hs, fun e => ?_⟩
  rcases h3 with e2 | e2
  · exact h.2 (e2 ▸ e)
  · rw [e2] at e; cases e; exact Nat.lt_irrefl _ h.1
theorem Off.cell {w w' : World} {v : Value} {b o : Nat} (h : Off w v b) (hg : w.grownBy w' v.ownBlock) : w'.cell? ⟨b, o, none⟩ = w.cell? ⟨b, o, none⟩ := hg.cell_far ⟨b, o, none⟩ h.1 (fun e => h.2 e.symm)
theorem Off.own {w : World} {base : Nat} {v : Value} {xs : List Str} (h : OwnS w base v xs) (o : Obj) : Off (w.alloc o) v w.heap.size := ⟨by simp, fun e => Nat.lt_irrefl _ (World.ownsRow.lt h _ e).2⟩
abbrev a00' : AttrD := ⟨[], [], []⟩
theorem condR_none {cs : List ClassD} {zs : List Str} {c : CondD} (h : findC cs c.c = none) : condR cs zs c = .error 18 := by unfold condR; rw [h]
theorem condR_some {cs : List ClassD} {zs : List Str} {c : CondD} {k : ClassD} (h : findC cs c.c = some k) : condR cs zs c = bindE (runE (attS k.attrs zs) ([], []) c.attrs) fun st => .ok (if c.neg then [] else st.2) := by unfold condR; rw [h]
set_option maxHeartbeats 16000000 in
theorem rcond_any {P P2 : Nat → Nat → Prop} {Q R : Nat → Prop} (v1 : Value) (cs : List ClassD) (cc : List Value) (c : CondD) (v3 : Value) (zs : List Str) (w : World) (h1 : Row 2 (ReK P) w Q v1 cs) (hc : ReC P2 w cc c) (hcL : condL c) (h3 : SlW 1 w R v3 (zs.map clS)) (hz : zs.length ≤ 30) :
    Calls Try.prog 21 #[v1, .agg cc.toArray, v3] w (CP w zs (condR cs zs c)) := by
  generalize hPO : CP w zs (condR cs zs c) = PO
  have HPE : Hid (∀ er w', condR cs zs c = .error er → Below w.heap.size w w' → PO (.returned (.tuple #[.slice none 0 0, .int .i64 er])) w') := fun er w' he hf => by rw [← hPO]; exact ⟨hf, by rw [he]⟩
  have HPO : Hid (∀ f v w', condR cs zs c = .ok f → Below w.heap.size w w' → OwnS w' w.heap.size v (zs ++ f) → PO (.returned (.tuple #[v, .int .i64 0])) w') := fun f v w' he hf ho => by rw [← hPO]; exact ⟨hf, by rw [he]; exact ⟨v, rfl, ho⟩⟩
  clear hPO
  obtain ⟨u, rfl, cssu, hss, hha⟩ := hc
  obtain ⟨xa, ya, rfl⟩ := hss.shape
  obtain ⟨-, l5, m5, r5⟩ := hss.row
  have lea := hha.len
  rw [lea] at l5 r5 ⊢
  have R5 : Hid (∀ i, i < c.attrs.length → ∃ b off, xa = some ⟨b, off, none⟩ ∧ b < w.heap.size ∧ ∀ j, j < 3 → w.cell? ⟨b, off + (i * 3 + j), none⟩ = (cssu.getD i [])[j]?) := r5
  have G5 : Hid (All2 (ReA P2 w) cssu c.attrs) := hha
  clear hss hha r5 lea
  have hatl : c.attrs.length ≤ 10 := hcL.2.1
  have HCL : Hid (condL c) := hcL
  have H3 : Hid (SlW 1 w R v3 (zs.map clS)) := h3
  obtain ⟨a3, c3, rfl⟩ := h3.shape
  simp only [List.length_map] at H3 ⊢
  have BX : Hid (Below w.heap.size w (w.alloc (.cells #[.bool c.neg, .string (st c.c), .slice xa c.attrs.length ya] 50))) := bxn _ _
  have CK1 := rfind_any v1 cs c.c _ (Row.keep (P := fun _ => Q) (k := 0) (Stays.below BX.out) (fun _ _ => ReK.keep (Stays.below BX.out)) h1)
  have XB : Hid (∀ W, Below (w.alloc (.cells #[.bool c.neg, .string (st c.c), .slice xa c.attrs.length ya] 50)).heap.size (w.alloc (.cells #[.bool c.neg, .string (st c.c), .slice xa c.attrs.length ya] 50)) W → W.cell? ⟨w.heap.size, 0, none⟩ = some (.bool c.neg) ∧ W.cell? ⟨w.heap.size, 1, none⟩ = some (.string (st c.c)) ∧ W.cell? ⟨w.heap.size, 2, none⟩ = some (.slice xa c.attrs.length ya) ∧ w.heap.size < W.heap.size) := fun W hW =>
    ⟨(hW.cell (p := ⟨w.heap.size, 0, none⟩) (by simp)).trans (by go_simp), (hW.cell (p := ⟨w.heap.size, 1, none⟩) (by simp)).trans (by go_simp), (hW.cell (p := ⟨w.heap.size, 2, none⟩) (by simp)).trans (by go_simp), by have := hW.size; simp at this; omega⟩
  clear h1 h3 hcL
  cases hfi : findC cs c.c with
  | none =>
    have E : Hid (condR cs zs c = .error 18) := condR_none hfi
    rw [hfi] at CK1
    clear hfi HPO
    go_enter Try.func21, Try.ntmps21
    go_wp2_with (go_at_call 17; refine CK1.mono ?_; rintro e w1 ⟨hb1, rfl⟩; have B1 : Hid (Below w.heap.size w w1) := bt BX.out hb1; clear CK1 hb1)
    exact HPE.out 18 _ E.out (bt B1.out (bxn _ _))
  | some k =>
    have E0 : Hid (condR cs zs c = bindE (runE (attS k.attrs zs) ([], []) c.attrs) fun st => .ok (if c.neg then [] else st.2)) := condR_some hfi
    rw [hfi] at CK1
    clear hfi
    have HER : Hid (∀ er, runE (attS k.attrs zs) ([], []) c.attrs = .error er → condR cs zs c = .error er) := fun er he => by rw [E0.out, he]; rfl
    go_enter Try.func21, Try.ntmps21
    go_wp2_with (first
      | (go_at_call 17; refine CK1.mono ?_; rintro e w1 ⟨hb1, ak, ck, rfl, hsk⟩
         have B1 : Hid (Below w.heap.size w w1) := bt BX.out hb1
         have HSK : Hid (SlW 1 w1 (fun _ => True) (.slice ak k.attrs.length ck) (k.attrs.map clS)) := hsk
         have XW : Hid (∀ W, Below w1.heap.size w1 W → _) := fun W hW => XB.out W (bt hb1 hW)
         clear CK1 hb1 hsk)
      | (at_builtin; refine wp_app_at rfl _ _ rfl (w1.heap.size + 1) _ [] zs rfl (OwnS.nil _ _) _ rfl (H3.out.bl (bt B1.out (bxn _ _))) (by simp; omega) (by simp) ?_; intro v5 w5 o5 g5 t5 b5))
    have hwA : (w1.alloc (.cells #[.string (st k.nm), .slice ak k.attrs.length ck] 41)).heap.size = w1.heap.size + 1 := by simp
    have KW : Hid (∀ W, Below (w1.heap.size + 1) (w1.alloc (.cells #[.string (st k.nm), .slice ak k.attrs.length ck] 41)) W → Below w1.heap.size w1 W ∧ W.cell? ⟨w1.heap.size, 0, none⟩ = some (.string (st k.nm)) ∧ W.cell? ⟨w1.heap.size, 1, none⟩ = some (.slice ak k.attrs.length ck)) := fun W hW =>
      ⟨(bxn w1 _).trans (hW.mono (by omega)), (hW.cell (p := ⟨w1.heap.size, 0, none⟩) (by simp)).trans (by go_simp), (hW.cell (p := ⟨w1.heap.size, 1, none⟩) (by simp)).trans (by go_simp)⟩
    have hsz5 : w1.heap.size + 1 ≤ w5.heap.size := by have := b5.size; simp at this; omega
    generalize w1.alloc (.cells #[.string (st k.nm), .slice ak k.attrs.length ck] 41) = wA at *
    have O5 : Hid (OwnS w5 (w1.heap.size + 1) v5 zs) := by show OwnS _ _ _ _; simpa using o5
    have B5 : Hid (Below (w1.heap.size + 1) wA w5) := b5
    clear o5 g5 t5 b5
    go_loopw [10, 11, 12] (fun v10 v11 v12 wr => ∃ (i : Nat) (met f : List Str), v12 = .int .i64 i ∧ i ≤ c.attrs.length ∧ Hid (Below (w1.heap.size + 1) wA wr) ∧ w1.heap.size + 1 ≤ wr.heap.size ∧ Hid (runE (attS k.attrs zs) ([], []) (c.attrs.take i) = .ok (met, f)) ∧ Hid (TwoS wr (w1.heap.size + 1) v10 v11 (zs ++ f) met) ∧ Hid (f.length ≤ 12 * i ∧ met.length ≤ i)) (fun _ _ v12 _ => (c.attrs.length - intOf v12).toNat)
    case atStart => exact ⟨0, [], [], rfl, Nat.zero_le _, B5.out, hsz5, rfl, ⟨by rw [List.append_nil]; exact O5.out, OwnS.nil _ _, fun g _ e => by cases e⟩, ⟨Nat.le_refl _, Nat.le_refl _⟩⟩
    case round =>
      clear O5 B5 hsz5
      obtain ⟨i, met, f, rfl, hi, HB, hwr, HRU, HT, HFL⟩ := hrel
      obtain ⟨hbw, s0, s1⟩ := KW.out wr HB.out
      obtain ⟨x0, x1, x2, hwz⟩ := XW.out wr hbw
      have HW : Hid (Below w.heap.size w wr) := bt B1.out hbw
      have HSW : Hid (SlW 1 wr (fun _ => True) (.slice ak k.attrs.length ck) (k.attrs.map clS)) := HSK.out.bl hbw
      clear hbw
      have hne8 : ¬ w1.heap.size = wr.heap.size := by omega
      have hlt8 : w1.heap.size < wr.heap.size := by omega
      by_cases hlt : i < c.attrs.length
      · have hiz : (i : Int) < c.attrs.length := by omega
        obtain ⟨b1, o1, rfl, hb1, q1⟩ := R5.out i hlt
        have e1 := G5.out.at i [] a00' hlt
        have HAL : Hid (attrL (c.attrs.getD i a00')) := HCL.out.2.2 _ (by rw [List.getD_eq_getElem?_getD, List.getElem?_eq_getElem hlt]; exact List.getElem_mem hlt)
        have HEA : Hid (∀ er, attS k.attrs zs (met, f) (c.attrs.getD i a00') = .error er → condR cs zs c = .error er) := fun er he => HER.out er (runE_err a00' hlt HRU.out he)
        have HNX : Hid (runE (attS k.attrs zs) ([], []) (c.attrs.take (i + 1)) = attS k.attrs zs (met, f) (c.attrs.getD i a00')) := runE_next (step := attS k.attrs zs) a00' hlt HRU.out
        generalize c.attrs.getD i a00' = a at q1 e1 HAL HEA HNX
        obtain ⟨u1, u2, ec, hso, hst⟩ := e1
        obtain ⟨a4, c4, rfl⟩ := hso.shape
        obtain ⟨a6, c6, rfl⟩ := hst.shape
        obtain ⟨-, l6, m6, r6⟩ := hst.row
        simp only [List.length_map] at l6 m6 r6 ec
        have R6 : Hid (∀ i, i < a.tests.length → ∃ b off, a6 = some ⟨b, off, none⟩ ∧ b < w.heap.size ∧ ∀ j, j < 5 → w.cell? ⟨b, off + (i * 5 + j), none⟩ = ((a.tests.map clT).getD i [])[j]?) := r6
        clear hso hst r6
        have htl : a.tests.length ≤ 12 := HAL.out.2.2.1
        rw [ec] at q1
        have q0 : wr.cell? ⟨b1, o1 + i * 3, none⟩ = some (.string (st a.a)) := (HW.out.cell (p := ⟨b1, o1 + i * 3, none⟩) hb1).trans (q1 0 (by decide))
        have q2 : wr.cell? ⟨b1, o1 + i * 3 + 1, none⟩ = some (.slice a4 a.ones.length c4) := (HW.out.cell (p := ⟨b1, o1 + i * 3 + 1, none⟩) hb1).trans (q1 1 (by decide))
        have q3 : wr.cell? ⟨b1, o1 + i * 3 + 2, none⟩ = some (.slice a6 a.tests.length c6) := (HW.out.cell (p := ⟨b1, o1 + i * 3 + 2, none⟩) hb1).trans (q1 2 (by decide))
        clear q1 ec
        have C19 := rattr_any k.nm ak k.attrs.length ck k.attrs a.a (wr.alloc (.cells #[.string (st a.a), .slice a4 a.ones.length c4, .slice a6 a.tests.length c6] 62)) (HSW.out.bl (bxn _ _))
        have hdm : decide (0 ≤ idxS k.attrs a.a) = decide (a.a ∈ k.attrs) := decide_eq_decide.2 (idxS_mem _ _)
        rw [hdm] at C19
        clear hdm
        generalize max (idxS k.attrs a.a) 0 = mx at C19
        by_cases hm : a.a ∈ k.attrs
        · rw [decide_eq_true hm] at C19
          have CI : Hid (∀ W, Below (wr.alloc (.cells #[.string (st a.a), .slice a4 a.ones.length c4, .slice a6 a.tests.length c6] 62)).heap.size (wr.alloc (.cells #[.string (st a.a), .slice a4 a.ones.length c4, .slice a6 a.tests.length c6] 62)) W → Calls Try.prog 32 #[u11, .string (st a.a)] W fun e w' => e = .returned (.bool (decide (a.a ∈ met))) ∧ Below W.heap.size W w') := fun W hW => in_any _ met a.a W ((HT.out.2.1.below (bt (bxn _ _) hW)).sl)
          have XA : Hid (∀ W, Below (wr.alloc (.cells #[.string (st a.a), .slice a4 a.ones.length c4, .slice a6 a.tests.length c6] 62)).heap.size (wr.alloc (.cells #[.string (st a.a), .slice a4 a.ones.length c4, .slice a6 a.tests.length c6] 62)) W → W.cell? ⟨wr.heap.size, 0, none⟩ = some (.string (st a.a)) ∧ W.cell? ⟨wr.heap.size, 2, none⟩ = some (.slice a6 a.tests.length c6) ∧ wr.heap.size < W.heap.size ∧ Below (w1.heap.size + 1) wA W) := fun W hW => ⟨(hW.cell (p := ⟨wr.heap.size, 0, none⟩) (by simp)).trans (by go_simp), (hW.cell (p := ⟨wr.heap.size, 2, none⟩) (by simp)).trans (by go_simp), by have := hW.size; simp at this; omega, HB.out.trans ((bt (bxn _ _) hW).mono hwr)⟩
          by_cases hin : a.a ∈ met
          · have E : Hid (condR cs zs c = .error 7) := HEA.out 7 (by unfold attS onceE; simp [hm, hin])
            rw [decide_eq_true hin] at CI
            clear hm hin HEA HNX
            go_wp2_with (first
              | (go_at_call 19; refine C19.mono ?_; rintro e w2 ⟨rfl, hb2⟩; obtain ⟨y0, y2, yz, hbA⟩ := XA.out w2 hb2; have B2 : Hid (Below (w1.heap.size + 1) wA w2) := hbA; have CI2 := CI.out w2 hb2; clear C19 hb2 hbA)
              | (go_at_call 32; refine CI2.mono ?_; rintro e w3 ⟨rfl, hb3⟩; have B3 : Hid (Below w.heap.size w w3) := bt (bt B1.out (KW.out w2 B2.out).1) hb3; clear CI2 hb3))
            exact HPE.out 7 _ E.out B3.out
          · have HOK : Hid (∀ g, tstR (zs ++ f) a.tests = .ok g → runE (attS k.attrs zs) ([], []) (c.attrs.take (i + 1)) = .ok (met ++ [a.a], f ++ g)) := fun g hg => by rw [HNX.out]; unfold attS onceE; simp [hm, hin, hg, bindE]
            have HNO : Hid (∀ er, tstR (zs ++ f) a.tests = .error er → condR cs zs c = .error er) := fun er hg => HEA.out er (by unfold attS onceE; simp [hm, hin, hg, bindE])
            rw [decide_eq_false hin] at CI
            clear hm hin HEA HNX
            have TA : Hid (∀ W, Below (wr.alloc (.cells #[.string (st a.a), .slice a4 a.ones.length c4, .slice a6 a.tests.length c6] 62)).heap.size (wr.alloc (.cells #[.string (st a.a), .slice a4 a.ones.length c4, .slice a6 a.tests.length c6] 62)) W → TwoS W (w1.heap.size + 1) u10 u11 (zs ++ f) met ∧ Off W u10 wr.heap.size ∧ Off W u11 wr.heap.size) := fun W hW => ⟨HT.out.below (bt (bxn _ _) hW), (Off.own HT.out.1 _).next hW.size (.inl rfl), (Off.own HT.out.2.1 _).next hW.size (.inl rfl)⟩
            have hml : met.length ≤ i := HFL.out.2
            go_wp2_with (first
              | (go_at_call 19; refine C19.mono ?_; rintro e w2 ⟨rfl, hb2⟩; obtain ⟨y0, y2, yz, hbA⟩ := XA.out w2 hb2; have B2 : Hid (Below (wr.alloc (.cells #[.string (st a.a), .slice a4 a.ones.length c4, .slice a6 a.tests.length c6] 62)).heap.size (wr.alloc (.cells #[.string (st a.a), .slice a4 a.ones.length c4, .slice a6 a.tests.length c6] 62)) w2) := hb2; have CI2 := CI.out w2 hb2; clear C19 hb2 hbA)
              | (go_at_call 32; refine CI2.mono ?_; rintro e w3 ⟨rfl, hb3⟩; have B3 : Hid (Below (wr.alloc (.cells #[.string (st a.a), .slice a4 a.ones.length c4, .slice a6 a.tests.length c6] 62)).heap.size (wr.alloc (.cells #[.string (st a.a), .slice a4 a.ones.length c4, .slice a6 a.tests.length c6] 62)) w3) := bt B2.out hb3; obtain ⟨z0, z2, zz, hbA⟩ := XA.out w3 B3.out; have BA3 : Hid (Below (w1.heap.size + 1) wA w3) := hbA; clear CI2 hb3 hbA y0 y2)
              | (at_builtin; refine wp_app_at rfl _ _ rfl (w1.heap.size + 1) _ met [a.a] rfl ((TA.out w3 B3.out).1.2.1.below (bxn _ _)) _ rfl (one_s _ _) (by simp; omega) (by simp; omega) ?_; intro v11 w7 o7 g7 t7 b7))
            obtain ⟨hTA, hO1, hO2⟩ := TA.out w3 B3.out
            have BA7 : Hid (Below (w1.heap.size + 1) wA w7) := BA3.out.trans (((bxn w3 _).mono (by omega)).trans b7)
            have hs7 : (w3.alloc (.cells #[.string (st a.a)] 9)).heap.size ≤ w7.heap.size := g7.size
            have T7 : Hid (TwoS w7 (w1.heap.size + 1) u10 v11 (zs ++ f) (met ++ [a.a])) := ((hTA.below (bxn _ _)).swap.left o7 g7 t7).swap
            have hO1' : Off (w3.alloc (.cells #[.string (st a.a)] 9)) u10 wr.heap.size := hO1.next (bxn w3 _).size (.inl rfl)
            have hO2' : Off (w3.alloc (.cells #[.string (st a.a)] 9)) u11 wr.heap.size := hO2.next (bxn w3 _).size (.inl rfl)
            have c7 : w7.cell? ⟨wr.heap.size, 2, none⟩ = some (.slice a6 a.tests.length c6) := (hO2'.cell g7).trans (((bxn w3 _).cell (p := ⟨wr.heap.size, 2, none⟩) zz).trans z2)
            have F7 : Hid (Off w7 u10 wr.heap.size) := hO1'.next g7.size (.inl rfl)
            have hw7 : w1.heap.size + 1 ≤ w7.heap.size := by simp at hs7; omega
            generalize hbx : wr.heap.size = bx at *
            clear o7 g7 t7 b7 hTA hO1 hO2 hO1' hO2' hs7 TA XA CI B3 z0 z2 zz HT HSW q0 q2 q3 s0 s1 HB
            go_wp2
            go_loopw [10, 16] (fun v10 v16 wr => ∃ (j : Nat) (g : List Str), v16 = .int .i64 j ∧ j ≤ a.tests.length ∧ Hid (Below (w1.heap.size + 1) wA wr) ∧ w1.heap.size + 1 ≤ wr.heap.size ∧ wr.cell? ⟨bx, 2, none⟩ = some (.slice a6 a.tests.length c6) ∧ Hid (Off wr v10 bx) ∧ Hid (runE (tstS (zs ++ f)) [] (a.tests.take j) = .ok g) ∧ Hid (TwoS wr (w1.heap.size + 1) v10 v11 (zs ++ f ++ g) (met ++ [a.a])) ∧ Hid (g.length ≤ j)) (fun _ v16 _ => (a.tests.length - intOf v16).toNat)
            case atStart => exact ⟨0, [], rfl, Nat.zero_le _, BA7.out, hw7, c7, F7.out, rfl, by rw [List.append_nil]; exact T7.out, Nat.le_refl _⟩
            case round =>
              clear BA7 hw7 c7 F7 T7
              obtain ⟨j, g, rfl, hj, HB, hwr, c7, HF, HRG, HT, HGL⟩ := hrel
              obtain ⟨hbw, s0, s1⟩ := KW.out wr HB.out
              have HW2 : Hid (Below w.heap.size w wr) := bt B1.out hbw
              clear hbw
              by_cases hjt : j < a.tests.length
              · have hjz : (j : Int) < a.tests.length := by omega
                obtain ⟨b6, o6, rfl, hb6, q6⟩ := R6.out j hjt
                rw [getD_map clT a.tests j ⟨0, [], v0⟩ hjt] at q6
                have HEG : Hid (∀ er, tstS (zs ++ f) g (a.tests.getD j ⟨0, [], v0⟩) = .error er → condR cs zs c = .error er) := fun er he => HNO.out er (runE_err ⟨0, [], v0⟩ hjt HRG.out he)
                have HNG : Hid (runE (tstS (zs ++ f)) [] (a.tests.take (j + 1)) = tstS (zs ++ f) g (a.tests.getD j ⟨0, [], v0⟩)) := runE_next (step := tstS (zs ++ f)) ⟨0, [], v0⟩ hjt HRG.out
                generalize a.tests.getD j ⟨0, [], v0⟩ = t at q6 HEG HNG
                have cc : ∀ i u, (clT t)[i]? = some u → i < 5 → wr.cell? ⟨b6, o6 + (j * 5 + i), none⟩ = some u := fun i u hu hi => (HW2.out.cell (p := ⟨b6, o6 + (j * 5 + i), none⟩) hb6).trans (by rw [q6 i hi]; exact hu)
                have p0 : wr.cell? ⟨b6, o6 + j * 5, none⟩ = some (.int .u8 t.p) := cc 0 _ rfl (by decide)
                have p1 : wr.cell? ⟨b6, o6 + j * 5 + 1, none⟩ = some (.string (st t.v)) := cc 1 _ rfl (by decide)
                have p2 : wr.cell? ⟨b6, o6 + j * 5 + 2, none⟩ = some (.int .u8 t.x.k) := cc 2 _ rfl (by decide)
                have p3 : wr.cell? ⟨b6, o6 + j * 5 + 3, none⟩ = some (.int .i64 t.x.n) := cc 3 _ rfl (by decide)
                have p4 : wr.cell? ⟨b6, o6 + j * 5 + 4, none⟩ = some (.string (st t.x.s)) := cc 4 _ rfl (by decide)
                clear q6 cc
                have hse := st_nil t.v
                have hFF : f.length ≤ 12 * i := HFL.out.1
                have hGL : g.length ≤ j := HGL.out
                have hzl : (zs ++ f ++ g).length ≤ 900 := by rw [List.length_append, List.length_append]; omega
                generalize hbo : (Obj.cells #[.int .u8 t.p, .string (st t.v), .int .u8 t.x.k, .int .i64 t.x.n, .string (st t.x.s)] 66) = bo
                have HB1 : Hid (Below (w1.heap.size + 1) wA (wr.alloc bo)) := HB.out.trans ((bxn _ _).mono hwr)
                have hw1' : w1.heap.size + 1 ≤ (wr.alloc bo).heap.size := by simp; omega
                have c71 : (wr.alloc bo).cell? ⟨bx, 2, none⟩ = some (.slice (some ⟨b6, o6, none⟩) a.tests.length c6) := ((bxn wr bo).cell (p := ⟨bx, 2, none⟩) HF.out.1).trans c7
                have HF1 : Hid (Off (wr.alloc bo) u10 bx) := HF.out.next (bxn wr bo).size (.inl rfl)
                have HT1 : Hid (TwoS (wr.alloc bo) (w1.heap.size + 1) u10 v11 (zs ++ f ++ g) (met ++ [a.a])) := HT.out.below (bxn wr bo)
                by_cases h0 : t.v = []
                · rw [decide_eq_true h0] at hse
                  have RG : Hid (runE (tstS (zs ++ f)) [] (a.tests.take (j + 1)) = .ok g) := by rw [HNG.out]; unfold tstS; rw [if_pos (.inl h0)]; exact rfl
                  clear h0 HEG HNG
                  subst hbo
                  go_wp2
                  go_roundw
                  case rel => exact ⟨j + 1, g, by simp, by omega, HB1.out, hw1', c71, HF1.out, RG.out, HT1.out, Nat.le_succ_of_le HGL.out⟩
                  case measure => simp [intOf]; omega
                · rw [decide_eq_false h0] at hse
                  have CI := in_any u10 (zs ++ f ++ g) t.v (wr.alloc bo) HT1.out.1.sl
                  have XT : Hid (∀ W, Below (wr.alloc bo).heap.size (wr.alloc bo) W → Below (w1.heap.size + 1) wA W ∧ w1.heap.size + 1 ≤ W.heap.size ∧ W.cell? ⟨bx, 2, none⟩ = some (.slice (some ⟨b6, o6, none⟩) a.tests.length c6) ∧ Off W u10 bx ∧ TwoS W (w1.heap.size + 1) u10 v11 (zs ++ f ++ g) (met ++ [a.a]) ∧ W.cell? ⟨wr.heap.size, 0, none⟩ = some (.int .u8 t.p) ∧ W.cell? ⟨wr.heap.size, 1, none⟩ = some (.string (st t.v))) := fun W hW =>
                    ⟨HB1.out.trans (hW.mono hw1'), Nat.le_trans hw1' hW.size, (hW.cell (p := ⟨bx, 2, none⟩) HF1.out.1).trans c71, HF1.out.next hW.size (.inl rfl), HT1.out.below hW, (hW.cell (p := ⟨wr.heap.size, 0, none⟩) (by simp)).trans (by subst hbo; go_simp), (hW.cell (p := ⟨wr.heap.size, 1, none⟩) (by simp)).trans (by subst hbo; go_simp)⟩
                  by_cases hin : t.v ∈ zs ++ f ++ g
                  · rw [decide_eq_true hin] at CI
                    have RG : Hid (runE (tstS (zs ++ f)) [] (a.tests.take (j + 1)) = .ok g) := by rw [HNG.out]; unfold tstS; rw [if_pos (.inr hin)]; exact rfl
                    clear h0 hin HEG HNG
                    subst hbo
                    go_wp2_with (go_at_call 32; refine CI.mono ?_; rintro e w2 ⟨rfl, hb2⟩; have XX : Hid _ := XT.out w2 hb2; clear CI hb2)
                    obtain ⟨k1, k2, k3, k4, k5, -, -⟩ := XX.out
                    go_roundw
                    case rel => exact ⟨j + 1, g, by simp, by omega, k1, k2, k3, k4, RG.out, k5, Nat.le_succ_of_le HGL.out⟩
                    case measure => simp [intOf]; omega
                  · rw [decide_eq_false hin] at CI
                    by_cases hp : t.p = 0
                    · have RG : Hid (runE (tstS (zs ++ f)) [] (a.tests.take (j + 1)) = .ok (g ++ [t.v])) := by rw [HNG.out]; unfold tstS; rw [if_neg (by intro h; exact h.elim h0 hin), if_neg (by simp [hp])]; exact rfl
                      have HP : Hid (t.p = 0) := hp
                      clear h0 hin HEG HNG hp
                      subst hbo
                      go_wp2_with (first
                        | (go_at_call 32; refine CI.mono ?_; rintro e w2 ⟨rfl, hb2⟩; have XX : Hid _ := XT.out w2 hb2; obtain ⟨-, hs2, -, -, -, t0, t1⟩ := XT.out w2 hb2; rw [HP.out] at t0; clear CI hb2)
                        | (at_builtin; refine wp_app_at rfl _ _ rfl (w1.heap.size + 1) _ (zs ++ f ++ g) [t.v] rfl (XX.out.2.2.2.2.1.1.below (bxn _ _)) _ rfl (one_s _ _) (by simp only [List.length_singleton]; omega) (by simp; omega) ?_; intro v8 w8 o8 g8 t8 b8))
                      obtain ⟨k1, k2, k3, k4, k5, -, -⟩ := XX.out
                      have T8 := (k5.below (bxn w2 _)).left o8 g8 t8
                      have k4' : Off (w2.alloc (.cells #[.string (st t.v)] 9)) u10 bx := k4.next (bxn w2 _).size (.inl rfl)
                      have c8 := (k4'.cell g8 (o := 2)).trans (((bxn w2 _).cell (p := ⟨bx, 2, none⟩) k4.1).trans k3)
                      have F8 := k4'.next g8.size t8
                      have B8 := k1.trans (((bxn w2 _).mono k2).trans b8)
                      have Z8 := Nat.le_trans (Nat.le_trans k2 (bxn w2 _).size) g8.size
                      go_roundw
                      case rel => exact ⟨j + 1, g ++ [t.v], by simp, by omega, B8, Z8, c8, F8, RG.out, by rw [← List.append_assoc]; exact T8, by show _ ≤ _; rw [List.length_append, List.length_singleton]; omega⟩
                      case measure => simp [intOf]; omega
                    · have E : Hid (condR cs zs c = .error 20) := HEG.out 20 (by unfold tstS; rw [if_neg (by intro h; exact h.elim h0 hin), if_pos hp])
                      clear h0 hin HEG HNG
                      subst hbo
                      go_wp2_with (go_at_call 32; refine CI.mono ?_; rintro e w2 ⟨rfl, hb2⟩; have XX : Hid _ := XT.out w2 hb2; obtain ⟨-, hs2, -, -, -, t0, t1⟩ := XT.out w2 hb2; clear CI hb2)
                      exact HPE.out 20 _ E.out (bt B1.out (KW.out w2 XX.out.1).1)
              · have hjz : ¬ (j : Int) < a.tests.length := by omega
                have RA : Hid (runE (attS k.attrs zs) ([], []) (c.attrs.take (i + 1)) = .ok (met ++ [a.a], f ++ g)) := HOK.out g (runE_all (by omega) HRG.out)
                have HT2 : Hid (TwoS wr (w1.heap.size + 1) u10 v11 (zs ++ (f ++ g)) (met ++ [a.a])) := by rw [← List.append_assoc]; exact HT.out
                have hLL : Hid ((f ++ g).length ≤ 12 * (i + 1) ∧ (met ++ [a.a]).length ≤ i + 1) := by
                  have h1 := HFL.out; have h2 : g.length ≤ j := HGL.out
                  constructor
                  · rw [List.length_append]; omega
                  · rw [List.length_append, List.length_singleton]; omega
                go_wp2
                go_roundw
                case rel => exact ⟨i + 1, met ++ [a.a], f ++ g, by simp, by omega, HB.out, hwr, RA.out, HT2.out, hLL.out⟩
                case measure => simp [intOf]; omega
        · have E : Hid (condR cs zs c = .error 19) := HEA.out 19 (by unfold attS onceE; simp [hm])
          rw [decide_eq_false hm] at C19
          clear hm HEA HNX
          go_wp2_with (go_at_call 19; refine C19.mono ?_; rintro e w2 ⟨rfl, hb2⟩; have B2 : Hid (Below w.heap.size w w2) := bt (bt HW.out (bxn _ _)) hb2; clear C19 hb2)
          exact HPE.out 19 _ E.out B2.out
      · have hiz : ¬ (i : Int) < c.attrs.length := by omega
        have HRA : Hid (runE (attS k.attrs zs) ([], []) c.attrs = .ok (met, f)) := runE_all (by omega) HRU.out
        have E : Hid (condR cs zs c = .ok (if c.neg then [] else f)) := by rw [E0.out, HRA.out]; rfl
        have hw0 : w.heap.size ≤ w1.heap.size + 1 := by have := B1.out.size; omega
        generalize c.neg = ng at x0 E
        cases ng with
        | true =>
          go_wp2_with (at_builtin; refine wp_app_ss rfl _ _ rfl wr.heap.size _ [] zs rfl (World.ownsRow_lit wr #[] 0 (Nat.le_refl _) (by decide) rfl) _ rfl (H3.out.bl (bt HW.out (bxn _ _))) (by simp; omega) (by simp) ?_; intro v8 w8 o8 g8 b8)
          exact HPO.out [] _ _ E.out (bt HW.out ((bxn _ _).trans b8)) (by rw [List.append_nil]; exact OwnS.mono o8 (by omega))
        | false =>
          go_wp2
          exact HPO.out f _ _ E.out HW.out (OwnS.mono HT.out.1 hw0)
end Go.Proofs.Ytakibdkmgjpbhaa
