/- An act; a rule. -/
import Derived.Test.YtakibdkmgjpbhaaAc
namespace Go.Proofs.Ytakibdkmgjpbhaa
open Go.RowKit
set_option linter.unusedVariables false
set_option linter.unusedSimpArgs false
set_option maxRecDepth 20000

theorem clsR_len {cs : List ClassD} {conds : List CondD} {a : ActD} {s : Str} (hL : actL a) (hC : ∀ c ∈ conds, condL c) (h : clsR cs conds a = .ok s) : s.length ≤ 60 := by
  unfold clsR at h
  split at h
  · cases h
  · split at h
    · cases h
    · injection h with h
      subst h
      split
      · rename_i hk
        by_cases hi : a.n.toNat - 1 < conds.length
        · rw [List.getD_eq_getElem?_getD, List.getElem?_eq_getElem hi]; exact (hC _ (List.getElem_mem hi)).1
        · rw [List.getD_eq_getElem?_getD, List.getElem?_eq_none (by omega)]; exact Nat.zero_le _
      · exact hL.1
theorem foldE_mem (zs : List Str) (s x : Str) : x ∈ addZ zs s ↔ x ∈ zs ++ [s] := by rw [mem_addZ, List.mem_append, List.mem_singleton]
/-- What an act, a rule's step, tells. -/
def AP (w : World) (b m : Nat) (r : Except Int (List Str)) (e : Ending) (w' : World) : Prop := Fx b w w' ∧ match r with
  | .error er => e = .returned (.int .i64 er)
  | .ok zs => e = .returned (.int .i64 0) ∧ NS w' b m zs
set_option maxHeartbeats 16000000 in
theorem act_any (K ab b n : Nat) (cs : List ClassD) (zs : List Str) (ca : List Value) (a : ActD) (v3 : Value) (conds : List CondD) (w : World) (hA : AM w ab K cs) (h : NS w b n zs) (hKb : K ≤ b) (ha : ReT (fun _ k => k < K) w ca a) (h3 : Row 3 (ReC (fun _ k => k < K)) w (fun k => k < K) v3 conds) (hL : actL a) (hOk : -9223372036854775808 ≤ a.n ∧ a.n ≤ 9223372036854775807) (hcl : conds.length ≤ 8) (hCL : ∀ c ∈ conds, condL c) (hn : n ≤ 90000) :
    Calls Try.prog 42 #[.agg #[.map (some ab), .map (some b)], .agg ca.toArray, v3] w (AP w b (n + 1) (actR cs conds zs a)) := by
  generalize hPO : AP w b (n + 1) (actR cs conds zs a) = PO
  have HPE : Hid (∀ er w', actR cs conds zs a = .error er → Fx b w w' → PO (.returned (.int .i64 er)) w') := fun er w' he hb => by rw [← hPO]; exact ⟨hb, by rw [he]⟩
  have HPO : Hid (∀ z w', actR cs conds zs a = .ok z → Fx b w w' → NS w' b (n + 1) z → PO (.returned (.int .i64 0)) w') := fun z w' he hb hz => by rw [← hPO]; exact ⟨hb, by rw [he]; exact ⟨rfl, hz⟩⟩
  clear hPO
  have hbw := h.lt
  have HN : Hid (NS w b n zs) := h
  have HA : Hid (AM w ab K cs) := hA
  have HT : Hid (ReT (fun _ k => k < K) w ca a) := ha
  have HV3 : Hid (Row 3 (ReC (fun _ k => k < K)) w (fun k => k < K) v3 conds) := h3
  have HL : Hid (actL a) := hL
  have HLen : Hid (∀ s, clsR cs conds a = .ok s → s.length ≤ 60) := fun s hs => clsR_len hL hCL hs
  have CK : Hid (∀ w2, Below w.heap.size w w2 → Calls Try.prog 48 #[.agg #[.map (some ab), .map (some b)], .agg ca.toArray, v3] w2 fun e w' => KP (clsR cs conds a) e ∧ Below w2.heap.size w2 w') := fun w2 hb =>
    class_any K ab (.map (some b)) cs ca a v3 conds w2 (HA.out.below (hb.mono (by omega))) (by have := hb.size; omega) (ReT.keep (stK (hb.mono (by omega))) HT.out) (Row.keep (P := fun _ k => k < K) (k := 0) (stK (hb.mono (by omega))) (fun _ _ => ReC.keep (stK (hb.mono (by omega)))) HV3.out) hL hOk hcl
  obtain ⟨u1, u2, rfl, hu1, hu2⟩ := ha
  have HU1 : Hid (Row 2 (ReS (fun _ k => k < K)) w (fun k => k < K) u1 a.sets) := hu1
  obtain ⟨css1, hs1, hh1⟩ := hu1
  have le1 := hh1.len
  obtain ⟨x1, y1, rfl⟩ := hs1.shape
  rw [le1] at HU1 CK HT ⊢
  clear hs1 hh1 le1
  obtain ⟨css2, hs2, hh2⟩ := hu2
  have le2 := hh2.len
  obtain ⟨x2, y2, rfl⟩ := hs2.shape
  obtain ⟨-, l2, m2, r2⟩ := hs2.row
  rw [le2] at l2 r2 CK HT ⊢
  have R2 : Hid (∀ i, i < a.exprs.length → ∃ b off, x2 = some ⟨b, off, none⟩ ∧ b < w.heap.size ∧ ∀ j, j < 1 → w.cell? ⟨b, off + (i * 1 + j), none⟩ = (css2.getD i [])[j]?) := r2
  have G2 : Hid (All2 (ReE (fun _ k => k < K) w) css2 a.exprs) := hh2
  clear r2 hs2 hh2 le2 h hA hL h3 HT
  have hel := HL.out.2.2.2.1
  have hnn : (a.exprs.length : Int) ≤ 9223372036854775807 := by omega
  have B0 : Hid (Below w.heap.size w ((w.alloc (.cells #[.map (some ab), .map (some b)] 88)).alloc (.cells #[.int .u8 a.k, .string (st a.c), .int .i64 a.n, .string (st a.v), .slice x1 a.sets.length y1, .slice x2 a.exprs.length y2] 70))) := bt (bxn _ _) (bxn _ _)
  have CK1 := CK.out _ B0.out
  have z0 : ∀ w2, Below ((w.alloc (.cells #[.map (some ab), .map (some b)] 88)).alloc (.cells #[.int .u8 a.k, .string (st a.c), .int .i64 a.n, .string (st a.v), .slice x1 a.sets.length y1, .slice x2 a.exprs.length y2] 70)).heap.size ((w.alloc (.cells #[.map (some ab), .map (some b)] 88)).alloc (.cells #[.int .u8 a.k, .string (st a.c), .int .i64 a.n, .string (st a.v), .slice x1 a.sets.length y1, .slice x2 a.exprs.length y2] 70)) w2 →
      Below w.heap.size w w2 ∧ w2.cell? ⟨w.heap.size, 0, none⟩ = some (.map (some ab)) ∧ w2.cell? ⟨w.heap.size, 1, none⟩ = some (.map (some b)) ∧ w2.cell? ⟨w.heap.size + 1, 0, none⟩ = some (.int .u8 a.k) ∧ w2.cell? ⟨w.heap.size + 1, 3, none⟩ = some (.string (st a.v)) ∧ w2.cell? ⟨w.heap.size + 1, 4, none⟩ = some (.slice x1 a.sets.length y1) ∧ w2.cell? ⟨w.heap.size + 1, 5, none⟩ = some (.slice x2 a.exprs.length y2) ∧ w.heap.size + 1 < w2.heap.size := fun w2 hb => by
    refine ⟨bt B0.out hb, (hb.cell (p := ⟨w.heap.size, 0, none⟩) (by simp; omega)).trans (by go_simp), (hb.cell (p := ⟨w.heap.size, 1, none⟩) (by simp; omega)).trans (by go_simp), (hb.cell (p := ⟨w.heap.size + 1, 0, none⟩) (by simp)).trans (by go_simp), (hb.cell (p := ⟨w.heap.size + 1, 3, none⟩) (by simp)).trans (by go_simp), (hb.cell (p := ⟨w.heap.size + 1, 4, none⟩) (by simp)).trans (by go_simp), (hb.cell (p := ⟨w.heap.size + 1, 5, none⟩) (by simp)).trans (by go_simp), ?_⟩
    have := hb.size; simp at this; omega
  have Z0 : Hid (∀ w2, Below ((w.alloc (.cells #[.map (some ab), .map (some b)] 88)).alloc (.cells #[.int .u8 a.k, .string (st a.c), .int .i64 a.n, .string (st a.v), .slice x1 a.sets.length y1, .slice x2 a.exprs.length y2] 70)).heap.size ((w.alloc (.cells #[.map (some ab), .map (some b)] 88)).alloc (.cells #[.int .u8 a.k, .string (st a.c), .int .i64 a.n, .string (st a.v), .slice x1 a.sets.length y1, .slice x2 a.exprs.length y2] 70)) w2 → _) := z0
  clear z0 CK
  cases hr : clsR cs conds a with
  | error er =>
    have E : Hid (actR cs conds zs a = .error er) := by unfold actR; rw [hr]; exact rfl
    have hne : ¬ er = 0 := by rcases clsR_bad hr with rfl | rfl <;> decide
    rw [hr] at CK1
    clear hr
    go_enter Try.func42, Try.ntmps42
    go_wp2_with (go_at_call 48; refine CK1.mono ?_; rintro e w2 ⟨rfl, hb2⟩; obtain ⟨B2', s0, s1, t0, t3, t4, t5, z2⟩ := Z0.out w2 hb2; have B2 : Hid (Below w.heap.size w w2) := B2'; clear B2' CK1 hb2)
    exact HPE.out _ _ E.out (Fx.of B2.out b)
  | ok s =>
    have hsl := HLen.out s hr
    have EA : Hid (actR cs conds zs a = bindE (runE (setS (atK cs s) zs) [] a.sets) fun _ => bindE (runE (exprS zs) () a.exprs) fun _ => .ok (if a.k = 3 then zs ++ [a.v] else zs)) := by unfold actR; rw [hr]; exact rfl
    rw [hr] at CK1
    clear hr HLen
    have CS : Hid (∀ w2, Below w.heap.size w w2 → ∃ av, (Instr.lookup 75 (.map (some ab)) (.string (st s)) false).run Try.prog w2 = .ok av w2 ∧ Calls Try.prog 49 #[.agg #[.map (some ab), .map (some b)], av, .slice x1 a.sets.length y1] w2 fun e w' => e = .returned (.int .i64 (errE (runE (setS (atK cs s) zs) [] a.sets))) ∧ Below w2.heap.size w2 w') := fun w2 hb => by
      obtain ⟨av, hnv, hvb, -, hlk⟩ := (HA.out.below (hb.mono (by omega))).look (s := s) (by omega)
      exact ⟨av, hlk, sets_any K (.map (some ab)) av b n (atK cs s) zs _ a.sets w2 hnv (fun b' e => (hvb b' e).1) (HN.out.below hb hbw) (Row.keep (P := fun _ k => k < K) (k := 0) (stK (hb.mono (by omega))) (fun _ _ => ReS.keep (stK (hb.mono (by omega)))) HU1.out) hKb HL.out.2.2.1 HL.out.2.2.2.2.1⟩
    cases hrs : runE (setS (atK cs s) zs) [] a.sets with
    | error er =>
      have E : Hid (actR cs conds zs a = .error er) := by rw [EA.out, hrs]; exact rfl
      have hne : ¬ er = 0 := by obtain ⟨_, _, _, h⟩ := runE_bad hrs; exact setS_bad h
      rw [hrs, show errE (Except.error er : Except Int (List Str)) = er from rfl] at CS
      clear hrs EA
      go_enter Try.func42, Try.ntmps42
      go_wp2_with (first
        | (go_at_call 48; refine CK1.mono ?_; rintro e w2 ⟨rfl, hb2⟩; obtain ⟨B2', s0, s1, t0, t3, t4, t5, z2⟩ := Z0.out w2 hb2; have B2 : Hid (Below w.heap.size w w2) := B2'; obtain ⟨av, hlk, CS2⟩ := CS.out w2 B2'; clear B2' CK1 hb2)
        | (at_lookup; refine wpList_look rfl _ _ _ _ rfl rfl rfl hlk ?_)
        | (go_at_call 49; refine CS2.mono ?_; rintro e w3 ⟨rfl, hb3⟩; have B3 : Hid (Below w.heap.size w w3) := bt B2.out hb3; clear CS2 hb3))
      exact HPE.out _ _ E.out (Fx.of B3.out b)
    | ok mets =>
      have EB : Hid (actR cs conds zs a = bindE (runE (exprS zs) () a.exprs) fun _ => .ok (if a.k = 3 then zs ++ [a.v] else zs)) := by rw [EA.out, hrs]; exact rfl
      rw [hrs, show errE (Except.ok mets : Except Int (List Str)) = 0 from rfl] at CS
      clear hrs EA
      go_enter Try.func42, Try.ntmps42
      go_wp2_with (first
        | (go_at_call 48; refine CK1.mono ?_; rintro e w2 ⟨rfl, hb2⟩; obtain ⟨B2', s0, s1, t0, t3, t4, t5, z2⟩ := Z0.out w2 hb2; have B2 : Hid (Below w.heap.size w w2) := B2'; obtain ⟨av, hlk, CS2⟩ := CS.out w2 B2'; clear B2' CK1 hb2)
        | (at_lookup; refine wpList_look rfl _ _ _ _ rfl rfl rfl hlk ?_)
        | (go_at_call 49; refine CS2.mono ?_; rintro e w3 ⟨rfl, hb3⟩; have B3 : Hid (Below w.heap.size w w3) := bt B2.out hb3
           have k0 := (hb3.cell (p := ⟨w.heap.size, 0, none⟩) (by show w.heap.size < _; omega)).trans s0
           have k1 := (hb3.cell (p := ⟨w.heap.size, 1, none⟩) (by show w.heap.size < _; omega)).trans s1
           have j0 := (hb3.cell (p := ⟨w.heap.size + 1, 0, none⟩) (by show w.heap.size + 1 < _; omega)).trans t0
           have j3 := (hb3.cell (p := ⟨w.heap.size + 1, 3, none⟩) (by show w.heap.size + 1 < _; omega)).trans t3
           have j5 := (hb3.cell (p := ⟨w.heap.size + 1, 5, none⟩) (by show w.heap.size + 1 < _; omega)).trans t5
           have z3 : w.heap.size + 1 < w3.heap.size := Nat.lt_of_lt_of_le z2 hb3.size
           clear CS2 hb3 hlk))
      go_loopw [37] (fun v wr => ∃ i : Nat, v = .int .i64 i ∧ i ≤ a.exprs.length ∧ Hid (Below w.heap.size w wr) ∧ wr.cell? ⟨w.heap.size, 0, none⟩ = some (.map (some ab)) ∧ wr.cell? ⟨w.heap.size, 1, none⟩ = some (.map (some b)) ∧ wr.cell? ⟨w.heap.size + 1, 0, none⟩ = some (.int .u8 a.k) ∧ wr.cell? ⟨w.heap.size + 1, 3, none⟩ = some (.string (st a.v)) ∧ w.heap.size + 1 < wr.heap.size ∧ Hid (runE (exprS zs) () (a.exprs.take i) = .ok ())) (fun v _ => (a.exprs.length - intOf v).toNat)
      case atStart => exact ⟨0, rfl, Nat.zero_le _, B3.out, k0, k1, j0, j3, z3, rfl⟩
      case round =>
        clear k0 k1 j0 j3 j5 z3 B3 s0 s1 t0 t3 t4 t5 z2 B2
        obtain ⟨i, rfl, hi, HB, k0, k1, j0, j3, hsz, HRU⟩ := hrel
        by_cases hlt : i < a.exprs.length
        · have hiz : (i : Int) < a.exprs.length := by omega
          obtain ⟨b1, o1, rfl, hb1, q1⟩ := R2.out i hlt
          have e1 := G2.out.at i [] [] hlt
          have hxl : itemsL (a.exprs.getD i []) := by
            rw [List.getD_eq_getElem?_getD, List.getElem?_eq_getElem hlt]; exact HL.out.2.2.2.2.2 _ (List.getElem_mem hlt)
          have HER : Hid (∀ er, exprS zs () (a.exprs.getD i []) = .error er → actR cs conds zs a = .error er) := fun er he => by rw [EB.out, runE_err [] hlt HRU.out he]; rfl
          have HNY : Hid (runE (exprS zs) () (a.exprs.take (i + 1)) = exprS zs () (a.exprs.getD i [])) := runE_next [] hlt HRU.out
          generalize a.exprs.getD i [] = x at q1 e1 HER HNY hxl
          obtain ⟨u, ec, hu⟩ := e1
          rw [ec] at q1
          have q0 : wr.cell? ⟨b1, o1 + i, none⟩ = some u := (HB.out.cell (p := ⟨b1, o1 + i, none⟩) hb1).trans (by have := q1 0 (by decide); rw [Nat.mul_one, Nat.add_zero] at this; exact this)
          have CE := expr_any (.map (some ab)) b n zs u x wr (HN.out.below HB.out hbw) (slK hu (HB.out.mono (by omega))) (fun y hy => by have := (hxl.2 y hy).1; omega)
          clear q1 ec hu hxl
          rcases exE_bad zs x with he | he
          · have R2 : Hid (runE (exprS zs) () (a.exprs.take (i + 1)) = .ok ()) := by rw [HNY.out]; unfold exprS; rw [if_neg (by simp [he])]; exact rfl
            rw [he] at CE
            clear he HER HNY
            go_wp2_with (go_at_call 39; refine CE.mono ?_; rintro e w4 ⟨rfl, hb4⟩; have B4 : Hid (Below w.heap.size w w4) := bt HB.out hb4; have l0 := (hb4.cell (p := ⟨w.heap.size, 0, none⟩) (by show w.heap.size < _; omega)).trans k0; have l1 := (hb4.cell (p := ⟨w.heap.size, 1, none⟩) (by show w.heap.size < _; omega)).trans k1; have l2 := (hb4.cell (p := ⟨w.heap.size + 1, 0, none⟩) (by show w.heap.size + 1 < _; omega)).trans j0; have l3 := (hb4.cell (p := ⟨w.heap.size + 1, 3, none⟩) (by show w.heap.size + 1 < _; omega)).trans j3; have z4 := hb4.size; clear CE hb4)
            go_roundw
            case rel => exact ⟨i + 1, by simp, by omega, B4.out, l0, l1, l2, l3, by omega, R2.out⟩
            case measure => simp [intOf]; omega
          · have E : Hid (actR cs conds zs a = .error 20) := HER.out 20 (by unfold exprS; rw [if_pos (by simp [he]), he])
            rw [he] at CE
            clear he HER HNY
            go_wp2_with (go_at_call 39; refine CE.mono ?_; rintro e w4 ⟨rfl, hb4⟩; have B4 : Hid (Below w.heap.size w w4) := bt HB.out hb4; clear CE hb4)
            exact HPE.out _ _ E.out (Fx.of B4.out b)
        · have hiz : ¬ (i : Int) < a.exprs.length := by omega
          have hnw := HN.out.below HB.out hbw
          by_cases hk : a.k = 3
          · have E : Hid (actR cs conds zs a = .ok (zs ++ [a.v])) := by rw [EB.out, runE_all (by omega) HRU.out, if_pos hk]; exact rfl
            have CA := add_any b n zs a.v wr hnw (by omega) (by have := HL.out.2.1; omega)
            rw [hk] at j0
            generalize decide (a.v ∉ zs) = dd at CA
            clear hk hnw
            go_wp2_with (go_at_call 30; refine CA.mono ?_; rintro e w4 ⟨rfl, hn4, hf4⟩; have F4 : Hid (Fx b w w4) := (Fx.of HB.out b).tr hf4; have N4 : Hid (NS w4 b (n + 1) (zs ++ [a.v])) := hn4.congr (foldE_mem zs a.v); clear CA hn4 hf4)
            exact HPO.out _ _ E.out F4.out N4.out
          · have E : Hid (actR cs conds zs a = .ok zs) := by rw [EB.out, runE_all (by omega) HRU.out, if_neg hk]; exact rfl
            have N4 : Hid (NS wr b (n + 1) zs) := hnw.mono (by omega)
            clear hnw
            go_wp2
            exact HPO.out _ _ E.out (Fx.of HB.out b) N4.out
end Go.Proofs.Ytakibdkmgjpbhaa
