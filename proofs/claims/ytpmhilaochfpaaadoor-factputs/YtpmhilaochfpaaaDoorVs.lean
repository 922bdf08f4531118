/- Values read one behind the other: the program's. -/
import Derived.Test.YtpmhilaochfpaaaDoorPf
import Derived.Test.YtpmhilaochfpaaaDoorCa
namespace Go.Proofs.YtpmhilaochfpaaaDoor
open Go.RowKit
set_option linter.unusedVariables false
set_option linter.unusedSimpArgs false
set_option maxRecDepth 20000

/-- A value read off bytes, and how many bytes it has. -/
def gvF (zs : List Int) : Option (VD × Nat) := if gtE zs = 0 then some (⟨tkK zs, tkN zs, (tkS zs).data.toList⟩, zs.length - (tkZ zs).length) else none
theorem gv_ok {zs : List Int} (h : gtE zs = 0) : ∃ x m, gvF zs = some (x, m) ∧ m ≤ zs.length ∧ gtA zs = .tuple #[.agg #[.int .u8 x.k, .int .i64 x.n, .string (st x.s)], .int .i64 m, .int .i64 0] := by
  refine ⟨_, _, by unfold gvF; rw [if_pos h], by omega, ?_⟩
  have := tkZ_le zs
  unfold gtA vv
  rw [if_pos h, st_of]
  have e : ((zs.length - (tkZ zs).length : Nat) : Int) = (zs.length : Int) - (tkZ zs).length := by omega
  rw [e]
theorem gv_no {zs : List Int} (h : gtE zs ≠ 0) : gvF zs = none ∧ gtA zs = .tuple #[.agg #[.int .u8 0, .int .i64 0, .string ByteArray.empty], .int .i64 0, .int .i64 (gtE zs)] := ⟨by unfold gvF; rw [if_neg h], by unfold gtA vv; rw [if_neg h]⟩
/-- A value laid as a row of one. -/
theorem lit_v (w : World) (x : VD) (g : Nat) (hg : g = w.heap.size) : SlW 3 (w.alloc (.cells #[.int .u8 x.k, .int .i64 x.n, .string (st x.s)] 52)) (fun _ => True) (.slice (some ⟨g, 0, none⟩) 1 1) ([x].map clV) := by
  subst hg
  have h : OwnN 52 3 (w.alloc (.cells #[.int .u8 x.k, .int .i64 x.n, .string (st x.s)] 52)) 0 (.slice (some ⟨w.heap.size, 0, none⟩) 1 1) ([x].map clV) := ⟨clV_len, World.ownsRow_lit w #[.int .u8 x.k, .int .i64 x.n, .string (st x.s)] 1 (Nat.zero_le _) (by decide) rfl⟩
  exact h.sl.imp fun _ _ _ => trivial
def VP (w : World) (r : Option (List VD)) (e : Ending) (w' : World) : Prop := Below w.heap.size w w' ∧ match r with
  | none => e = .returned (.tuple #[.slice none 0 0, .bool false])
  | some vs => ∃ v, e = .returned (.tuple #[v, .bool true]) ∧ OwnV w' w.heap.size v vs
theorem readN_no {gv : List Int → Option (VD × Nat)} {n : Nat} {bs : List Int} (h : gv bs = none) : readN gv (n + 1) bs = none := by
  show (match gv bs with | none => none | some (x, m) => (readN gv n (bs.drop m)).map (x :: ·)) = none
  rw [h]
theorem readN_some {gv : List Int → Option (VD × Nat)} {n m : Nat} {bs : List Int} {x : VD} (h : gv bs = some (x, m)) : readN gv (n + 1) bs = (readN gv n (bs.drop m)).map (x :: ·) := by
  show (match gv bs with | none => none | some (x, m) => (readN gv n (bs.drop m)).map (x :: ·)) = _
  rw [h]
theorem map_cons_app (pre : List VD) (x : VD) (o : Option (List VD)) : (o.map (x :: ·)).map (pre ++ ·) = o.map ((pre ++ [x]) ++ ·) := by cases o <;> simp
theorem BV.tail {w : World} {b off : Nat} {zs : List Int} (h : BV w (some ⟨b, off, none⟩) zs) (m : Nat) : BV w (some ⟨b, off + m, none⟩) (zs.drop m) := by
  obtain ⟨ha, h | ⟨b', off', e, hlt, hc⟩⟩ := h
  · exact ⟨ha.drop m, .inl (by rw [h]; simp)⟩
  · injection e with e
    injection e with e1 e2
    subst e1 e2
    by_cases hz : zs.drop m = []
    · exact ⟨ha.drop m, .inl hz⟩
    · refine ⟨ha.drop m, .inr ⟨b, off + m, rfl, hlt, fun i hi => ?_⟩⟩
      rw [List.length_drop] at hi
      rw [Nat.add_assoc, hc (m + i) (by omega), List.getD_eq_getElem?_getD, List.getD_eq_getElem?_getD, List.getElem?_drop]
theorem BV.none_any {w : World} {a : Option Addr} : BV w a [] := ⟨AllB.nil, .inl rfl⟩
set_option maxHeartbeats 8000000 in
theorem values_any (b off len cap n : Nat) (zs : List Int) (w : World) (hb : BV w (some ⟨b, off, none⟩) zs) (hl : zs.length = len) (hm : len ≤ 257) (hc : len ≤ cap) (hcm : cap ≤ 9223372036854775807) (hn : n ≤ 100000) (hV : Vars w) :
    Calls Tryd.prog 43 #[.slice (some ⟨b, off, none⟩) len cap, .int .i64 n] w (VP w (readN gvF n zs)) := by
  generalize hPO : VP w (readN gvF n zs) = PO
  have HPN : Hid (∀ w', readN gvF n zs = none → Below w.heap.size w w' → PO (.returned (.tuple #[.slice none 0 0, .bool false])) w') := fun w' he hf => by rw [← hPO, he]; exact ⟨hf, rfl⟩
  have HPS : Hid (∀ vs v w', readN gvF n zs = some vs → Below w.heap.size w w' → OwnV w' w.heap.size v vs → PO (.returned (.tuple #[v, .bool true])) w') := fun vs v w' he hf ho => by rw [← hPO, he]; exact ⟨hf, v, rfl, ho⟩
  clear hPO
  have HVs : Hid (Vars w) := hV
  have HB0 : Hid (BV w (some ⟨b, off, none⟩) zs) := hb
  clear hV hb
  have hnn : (n : Int) ≤ 9223372036854775807 := by omega
  go_enter Tryd.func43, Tryd.ntmps43
  go_wp2
  go_loopw [0, 6, 7, 8, 9, 11] (fun vb vl _ _ _ vi wr => ∃ (i : Nat) (rest : List Int) (pre : List VD) (o' cap' : Nat), vi = .int .i64 i ∧ i ≤ n ∧ vb = .slice (some ⟨b, o', none⟩) rest.length cap' ∧ rest.length ≤ cap' ∧ cap' ≤ 9223372036854775807 ∧ rest.length ≤ 257 ∧ pre.length = i ∧ Hid (Below w.heap.size w wr) ∧ Hid (BV w (some ⟨b, o', none⟩) rest) ∧ Hid (OwnV wr w.heap.size vl pre) ∧ Hid (readN gvF n zs = (readN gvF (n - i) rest).map (pre ++ ·))) (fun _ _ _ _ _ v _ => (n - intOf v).toNat)
  case atStart => exact ⟨0, zs, [], off, cap, rfl, Nat.zero_le _, by rw [hl], by omega, hcm, by omega, rfl, Below.refl _ _, HB0.out, OwnN.nil 52 3 w _, by show readN gvF n zs = (readN gvF (n - 0) zs).map ([] ++ ·); cases readN gvF n zs <;> simp [*]⟩
  case round =>
    obtain ⟨i, rest, pre, o', cap', rfl, hi, rfl, hc', hcm', hr', hpl, HB, HV1, HO, HR⟩ := hrel
    have CG := get_any13 (some ⟨b, o', none⟩) rest.length cap' rest wr (HV1.out.below HB.out) rfl hr' hc' hcm' (fun h => by cases h) (HVs.out.below HB.out)
    have hlr : (rest.length : Int) ≤ 9223372036854775807 := by omega
    by_cases hlt : i < n
    · have hiz : (i : Int) < n := by omega
      have en : n - i = (n - (i + 1)) + 1 := by omega
      rw [en] at HR
      by_cases hg : gtE rest = 0
      · obtain ⟨x, m, hgv, hmle, hA⟩ := gv_ok hg
        rw [hA] at CG
        have HR2 : Hid (readN gvF n zs = (readN gvF (n - (i + 1)) (rest.drop m)).map ((pre ++ [x]) ++ ·)) := by
          show readN gvF n zs = _
          rw [HR.out, readN_some hgv, map_cons_app]
        have HV2 : Hid (BV w (some ⟨b, o' + m, none⟩) (rest.drop m)) := HV1.out.tail m
        have HLD : Hid ((rest.drop m).length = rest.length - m) := List.length_drop
        have hmz : (m : Int) ≤ rest.length := by omega
        have hmc : (m : Int) ≤ cap' := by omega
        clear HR hA hgv hg en
        go_wp2_with (first
          | (go_at_call 54; refine CG.mono ?_; rintro e w5 ⟨rfl, hb5⟩
             have HQ : Hid (Below wr.heap.size wr ((w5.alloc (.cells #[.int .u8 x.k, .int .i64 x.n, .string (st x.s)] 52)).alloc (.cells #[.int .u8 x.k, .int .i64 x.n, .string (st x.s)] 52)) ∧ SlW 3 ((w5.alloc (.cells #[.int .u8 x.k, .int .i64 x.n, .string (st x.s)] 52)).alloc (.cells #[.int .u8 x.k, .int .i64 x.n, .string (st x.s)] 52)) (fun _ => True) (.slice (some ⟨w5.heap.size + 1, 0, none⟩) 1 1) ([x].map clV)) := ⟨bt hb5 (bt (bxn _ _) (bxn _ _)), lit_v (w5.alloc (.cells #[.int .u8 x.k, .int .i64 x.n, .string (st x.s)] 52)) x (w5.heap.size + 1) (by simp)⟩
             clear CG hb5)
          | (at_builtin; refine wp_app_n Tryd.underlying34 info42 rfl (by decide) (by decide) rfl _ _ rfl w.heap.size _ (pre.map clV) ([x].map clV) rfl (HO.out.below HQ.out.1) _ rfl HQ.out.2 clV_len clV_one (by simp; omega) (by have := HQ.out.1.size; have := HB.out.size; omega) ?_; intro v6 w6 o6 g6 b6))
        refine ⟨⟨i + 1, rest.drop m, pre ++ [x], if cap' = m then o' else o' + m, cap' - m, by simp, by omega, ?_, by rw [HLD.out]; omega, by omega, by rw [HLD.out]; omega, by simp [hpl], (bt HB.out HQ.out.1).trans b6, ?_, by show OwnN 52 3 _ _ _ _; rw [List.map_append]; exact o6, HR2.out⟩, by simp [intOf]; omega⟩
        · rw [HLD.out]; by_cases h : cap' = m <;> simp [h]
        · by_cases h : cap' = m
          · have hz : rest.drop m = [] := List.drop_of_length_le (by omega)
            rw [hz]; exact ⟨AllB.nil, .inl rfl⟩
          · rw [if_neg h]; exact HV2.out
      · obtain ⟨hgv, hA⟩ := gv_no hg
        rw [hA] at CG
        have HR2 : Hid (readN gvF n zs = none) := by
          show readN gvF n zs = _
          rw [HR.out, readN_no hgv]; rfl
        have HG : Hid (gtE rest ≠ 0) := hg
        clear HR hA hgv en
        generalize gtE rest = er at *
        go_wp2_with (go_at_call 54; refine CG.mono ?_; rintro e w5 ⟨rfl, hb5⟩; have H5 : Hid (Below wr.heap.size wr w5) := hb5; clear CG hb5)
        exact HPN.out _ HR2.out (bt (bt HB.out H5.out) (bxn _ _))
    · have hiz : ¬ (i : Int) < n := by omega
      have en : n - i = 0 := by omega
      rw [en] at HR
      have HR2 : Hid (readN gvF n zs = some pre) := by show readN gvF n zs = _; rw [HR.out]; show some (pre ++ []) = _; rw [List.append_nil]
      clear CG HR en
      go_wp2
      exact HPS.out pre _ _ HR2.out HB.out HO.out
end Go.Proofs.YtpmhilaochfpaaaDoor
