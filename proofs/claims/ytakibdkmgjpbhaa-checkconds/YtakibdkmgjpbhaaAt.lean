/- Each class' attributes, in a map of maps. -/
import Derived.Test.YtakibdkmgjpbhaaWs
import Derived.Test.YtakibdkmgjpbhaaSp
import Derived.Test.YtakibdkmgjpbhaaLia
namespace Go.Proofs.Ytakibdkmgjpbhaa
open Go.RowKit
set_option linter.unusedVariables false
set_option linter.unusedSimpArgs false
set_option maxRecDepth 20000

theorem SlW.pin {n : Nat} {w : World} {P : Nat → Prop} {v : Value} {css : List (List Value)} (h : SlW n w P v css) : SlW n w (fun b => b < w.heap.size) v css := by
  obtain ⟨a, cap, h1, h2, h3, h4⟩ := h
  refine ⟨a, cap, h1, h2, h3, h4.imp id ?_⟩
  rintro ⟨b, off, e, hb, hp, hc⟩
  exact ⟨b, off, e, hb, hb, hc⟩
/-- How an element reads that is a map: by its block. -/
def ptrElem : Value → Option (DataW Unit × List MemPlace)
  | .map (some b) => some (.lit (.int .i64 b), [])
  | .map none => some (.nil, [])
  | _ => none
theorem ptr_inv {v : Value} {b : Nat} {ps : List MemPlace} (h : ptrElem v = some (.lit (.int .i64 b), ps)) : v = .map (some b) := by
  unfold ptrElem at h
  split at h
  · obtain ⟨h1, _⟩ := Prod.mk.inj (Option.some.inj h)
    injection h1 with h1; injection h1 with _ h1
    rw [Int.ofNat.inj h1]
  · obtain ⟨h1, _⟩ := Prod.mk.inj (Option.some.inj h); cases h1
  · cases h
theorem ptr_nil {v : Value} {ps : List MemPlace} (h : ptrElem v = some (.nil, ps)) : v = .map none := by
  unfold ptrElem at h
  split at h
  · obtain ⟨h1, _⟩ := Prod.mk.inj (Option.some.inj h); cases h1
  · rfl
  · cases h
theorem zero79 (w : World) : (zeroValue 79).run Try.prog w = .ok (.map none) w := by rfl
def isK (D : DataW Unit) (w : World) (ab hi : Nat) (s : Str) : Option ClassD → Prop
  | none => Maps.has D (.string s) = false
  | some c => Maps.has D (.string s) = true ∧ ∃ (b m : Nat), D.atKey (.string s) .nil = .lit (.int .i64 (b : Int)) ∧ b < hi ∧ b ≠ ab ∧ NS w b m c.attrs
/-- A map of the classes' names: all lies below hi. -/
def AMc (w : World) (n : Nat) (D : DataW Unit) (ab hi : Nat) (cs : List ClassD) : Prop := w.ownsMap Try.prog 9 ptrElem ab n D ∧ ab < hi ∧ ∀ s, isK D w ab hi s (findC cs s)
def AM (w : World) (ab hi : Nat) (cs : List ClassD) : Prop := ∃ n D, AMc w n D ab hi cs
theorem map_move {R : Value → Option (DataW Unit × List MemPlace)} {w w' : World} {b n : Nat} {D : DataW Unit} (h : w.ownsMap Try.prog 9 R b n D) (hb : w'.heap[b]? = w.heap[b]?) : w'.ownsMap Try.prog 9 R b n D := by
  obtain ⟨es, clock, h1, F, hs, rfl⟩ := h
  exact ⟨es, clock, hb.trans h1, F, hs, rfl⟩
theorem isK.keep {D : DataW Unit} {w w' : World} {ab hi hi' : Nat} {s : Str} {o : Option ClassD} (h : isK D w ab hi s o) (hk : ∀ k, k < hi → k ≠ ab → w'.heap[k]? = w.heap[k]?) (hh : hi ≤ hi') : isK D w' ab hi' s o := by
  cases o with
  | none => exact h
  | some c =>
    obtain ⟨h1, b, m, h2, h3, h4, h5⟩ := h
    exact ⟨h1, b, m, h2, Nat.lt_of_lt_of_le h3 hh, h4, h5.move (hk b h3 h4)⟩
theorem AMc.keep {w w' : World} {n ab hi hi' : Nat} {D : DataW Unit} {cs : List ClassD} (h : AMc w n D ab hi cs) (hk : ∀ k, k < hi → w'.heap[k]? = w.heap[k]?) (hh : hi ≤ hi') : AMc w' n D ab hi' cs :=
  ⟨map_move h.1 (hk ab h.2.1), Nat.lt_of_lt_of_le h.2.1 hh, fun s => (h.2.2 s).keep (fun k h1 _ => hk k h1) hh⟩
theorem AM.below {w w' : World} {ab hi : Nat} {cs : List ClassD} (h : AM w ab hi cs) (hb : Below hi w w') : AM w' ab hi cs := by
  obtain ⟨n, D, h⟩ := h
  exact ⟨n, D, h.keep hb.block (Nat.le_refl _)⟩
theorem AMc.old {w : World} {n ab hi : Nat} {D : DataW Unit} {cs : List ClassD} (h : AMc w n D ab hi cs) {c d : ClassD} (hc : findC cs c.nm = some d) : AMc w n D ab hi (cs ++ [c]) :=
  ⟨h.1, h.2.1, fun s => by
    have := h.2.2 s
    rw [findC_snoc]
    by_cases e : c.nm = s
    · subst e; rw [hc] at this ⊢; exact this
    · cases hf : findC cs s with
      | some x => rw [hf] at this; exact this
      | none => rw [hf] at this; rw [if_neg e]; exact this⟩
theorem AMc.new {w w' : World} {n ab hi hi' b m : Nat} {D : DataW Unit} {cs : List ClassD} (h : AMc w n D ab hi cs) {c : ClassD} (hc : findC cs c.nm = none) (h1 : w'.ownsMap Try.prog 9 ptrElem ab (n + 1) (D.put (.string c.nm) (.lit (.int .i64 b))))
    (hk : ∀ k, k < hi → k ≠ ab → w'.heap[k]? = w.heap[k]?) (hh : hi ≤ hi') (hb : b < hi') (hne : b ≠ ab) (hN : NS w' b m c.attrs) : AMc w' (n + 1) (D.put (.string c.nm) (.lit (.int .i64 b))) ab hi' (cs ++ [c]) :=
  ⟨h1, Nat.lt_of_lt_of_le h.2.1 hh, fun s => by
    have := h.2.2 s
    rw [findC_snoc]
    by_cases e : c.nm = s
    · subst e
      rw [hc, if_pos rfl]
      exact ⟨Maps.has_put_same h.1.isMap (by trivial) _, b, m, Maps.atKey_put_same h.1.isMap (by trivial) _ _, hb, hne, hN⟩
    · have hx : (Lit.string s) ≠ .string c.nm := by intro h; injection h with h; exact e h.symm
      have h2 := this.keep hk hh
      cases hf : findC cs s with
      | none =>
        rw [hf] at h2; rw [if_neg e]
        show Maps.has _ _ = false
        rw [Maps.has_put_other hx]; exact h2
      | some x =>
        rw [hf] at h2
        obtain ⟨g1, b', m', g2, g3⟩ := h2
        refine ⟨?_, b', m', ?_, g3⟩
        · rw [Maps.has_put_other hx]; exact g1
        · rw [Maps.atKey_put_other hx]; exact g2⟩
/-- What the map tells of a name. -/
theorem AM.look {w : World} {ab hi : Nat} {cs : List ClassD} (h : AM w ab hi cs) {s : Str} (hl : s.length ≤ 9223372036854775807) : ∃ v, NV w v (atK cs s) ∧ (∀ b, v = .map (some b) → b < hi ∧ b ≠ ab) ∧
    (Instr.lookup 75 (.map (some ab)) (.string (st s)) true).run Try.prog w = .ok (.tuple #[v, .bool (findC cs s).isSome]) w ∧ (Instr.lookup 75 (.map (some ab)) (.string (st s)) false).run Try.prog w = .ok v w := by
  obtain ⟨n, D, h1, h2, h3⟩ := h
  have hs := h3 s
  obtain ⟨v, ps, hr, hv⟩ := h1.look_ok (t := 75) (e := 79) key9 Try.underlying75 (zero79 w) (zd := .nil) (zp := []) rfl (key_s hl)
  obtain ⟨v', ps', hr', hv'⟩ := h1.lookup (t := 75) (e := 79) key9 Try.underlying75 (zero79 w) (zd := .nil) (zp := []) rfl (key_s hl)
  unfold atK
  cases hf : findC cs s with
  | none =>
    rw [hf] at hs
    have hs : Maps.has D (.string s) = false := hs
    rw [Maps.atKey_of_not_has hs] at hv hv'
    obtain rfl := ptr_nil hv
    obtain rfl := ptr_nil hv'
    rw [hs] at hr
    exact ⟨_, .inl ⟨rfl, rfl⟩, (fun b h => by injection h with h; cases h), hr, hr'⟩
  | some c =>
    rw [hf] at hs
    obtain ⟨g1, b, m, g2, g3, g4, g5⟩ := hs
    rw [g2] at hv hv'
    obtain rfl := ptr_inv hv
    obtain rfl := ptr_inv hv'
    rw [g1] at hr
    exact ⟨_, .inr ⟨b, m, rfl, g5⟩, (fun b' h => by obtain rfl := Option.some.inj (Value.map.inj h); exact ⟨g3, g4⟩), hr, hr'⟩
theorem wpList_look {ops : Array Oper} {rest : List Oper} {o : Oper} {a : Act} {Q : Exit → Act → World → Prop} {w : World} (hg : o.guard = none) (m x : Operand) (t : TypeId) (c : Bool) (hop : o.op = Op.lookup t m x c) {mv xv r : Value} (hm : a.eval m = mv) (hx : a.eval x = xv)
    (hrun : (Instr.lookup t mv xv c).run Try.prog w = .ok r w) (hK : wpList Try.prog ops Q rest (a.put o.dst r) w) : wpList Try.prog ops Q (o :: rest) a w := by
  refine wpList_plain hg fun K' hK' => ?_
  unfold Oper.wp
  simp [execOp, hop, hm, hx, hrun, Result.andThen]
  exact hK' _ _ hK
theorem foldZ_mem (l zs : List Str) (s : Str) : s ∈ l.foldl addZ zs ↔ s ∈ zs ∨ s ∈ l := by
  induction l generalizing zs with
  | nil => simp
  | cons x l ih => rw [List.foldl_cons, ih, mem_addZ, List.mem_cons, or_assoc]
set_option maxHeartbeats 4000000 in
theorem attributes_any {P : Nat → Nat → Prop} {Q : Nat → Prop} (v : Value) (cs : List ClassD) (w : World) (h : Row 2 (ReK P) w Q v cs) (hl : cs.length ≤ 20) (hL : ∀ c ∈ cs, classL c) :
    Calls Try.prog 28 #[v] w fun e w' => ∃ ab, e = .returned (.map (some ab)) ∧ w.heap.size ≤ ab ∧ AM w' ab w'.heap.size cs ∧ Below w.heap.size w w' := by
  obtain ⟨css1, h1, hh1⟩ := h
  have le1 := hh1.len
  obtain ⟨a1, c1, rfl⟩ := h1.shape
  obtain ⟨-, l1, m1, r1⟩ := h1.row
  rw [le1] at l1 r1 ⊢
  have R1 : Hid (∀ i, i < cs.length → ∃ b off, a1 = some ⟨b, off, none⟩ ∧ b < w.heap.size ∧ ∀ j, j < 2 → w.cell? ⟨b, off + (i * 2 + j), none⟩ = (css1.getD i [])[j]?) := r1
  have G1 : Hid (All2 (ReK P w) css1 cs) := hh1
  have HL : Hid (∀ i, i < cs.length → classL (cs.getD i ⟨[], []⟩)) := fun i hi => by
    rw [List.getD_eq_getElem?_getD, List.getElem?_eq_getElem hi]; exact hL _ (List.getElem_mem hi)
  clear r1 h1 hh1 le1 hL
  have hnn : (cs.length : Int) ≤ 9223372036854775807 := by omega
  have hmm := @run_makeMap Try.prog
  go_enter Try.func28, Try.ntmps28
  go_wp2
  clear hmm
  go_loopw [11] (fun v wr => ∃ i : Nat, v = .int .i64 i ∧ i ≤ cs.length ∧ Hid (Below w.heap.size w wr) ∧ Hid (∃ n D, n ≤ i ∧ AMc wr n D w.heap.size wr.heap.size (cs.take i)) ∧ w.heap.size < wr.heap.size) (fun v _ => (cs.length - intOf v).toNat)
  case atStart =>
    refine ⟨0, rfl, Nat.zero_le _, bxn _ _, ⟨0, .map [], Nat.le_refl _, ?_, by simp, fun s => ?_⟩, by simp⟩
    · exact World.ownsMap_made (H := Unit) w Try.prog 9 ptrElem
    · show Maps.has _ _ = false; simp [Maps.has]
  case round =>
    obtain ⟨i, rfl, hi, HB, HA, hsz⟩ := hrel
    by_cases hlt : i < cs.length
    · have hiz : (i : Int) < cs.length := by omega
      obtain ⟨b1, o1, rfl, hb1, q1⟩ := R1.out i hlt
      have e1 := G1.out.at i [] ⟨[], []⟩ hlt
      have hcl := HL.out i hlt
      have HT : Hid (cs.take (i + 1) = cs.take i ++ [cs.getD i ⟨[], []⟩]) := take_snocD cs i _ hlt
      generalize cs.getD i ⟨[], []⟩ = c at q1 e1 hcl HT
      obtain ⟨u, ec, hu⟩ := e1
      have HU : Hid (SlW 1 w (fun b => b < w.heap.size) u (c.attrs.map clS)) := hu.pin
      obtain ⟨au, cu, rfl⟩ := hu.shape
      simp only [List.length_map] at ec
      rw [ec] at q1
      simp only [List.length_map] at HU
      have d0 : wr.cell? ⟨b1, o1 + i * 2, none⟩ = some (.string (st c.nm)) := (HB.out.cell (p := ⟨b1, o1 + i * 2, none⟩) hb1).trans (q1 0 (by decide))
      have d1 : wr.cell? ⟨b1, o1 + i * 2 + 1, none⟩ = some (.slice au c.attrs.length cu) := (HB.out.cell (p := ⟨b1, o1 + i * 2 + 1, none⟩) hb1).trans (q1 1 (by decide))
      clear q1 ec hu
      have HC : Hid (classL c) := hcl
      have hnl : Hid (c.nm.length ≤ 9223372036854775807) := Nat.le_trans hcl.1 (by omega)
      clear hcl
      obtain ⟨n, D, hni, hA⟩ := HA.out
      have HAA : Hid (AMc wr n D w.heap.size wr.heap.size (cs.take i)) := hA
      clear hA HA
      have HX : Hid (AMc (wr.alloc (.cells #[.string (st c.nm), .slice au c.attrs.length cu] 41)) n D w.heap.size wr.heap.size (cs.take i)) := HAA.out.keep (bxn _ _).block (Nat.le_refl _)
      obtain ⟨vv, -, -, hlk, -⟩ := AM.look (s := c.nm) ⟨n, D, HX.out⟩ hnl.out
      have HLK : Hid ((Instr.lookup 75 (.map (some w.heap.size)) (.string (st c.nm)) true).run Try.prog (wr.alloc (.cells #[.string (st c.nm), .slice au c.attrs.length cu] 41)) = _) := hlk
      clear hlk
      cases hf : findC (cs.take i) c.nm with
      | some d =>
        rw [hf] at HLK
        have HN : Hid (AMc wr n D w.heap.size wr.heap.size (cs.take (i + 1))) := by rw [HT.out]; exact HAA.out.old hf
        clear hf
        go_wp2_with (at_lookup; refine wpList_look rfl _ _ _ _ rfl rfl rfl HLK.out ?_)
        go_roundw
        case rel => exact ⟨i + 1, by simp, by omega, bt HB.out (bxn _ _), ⟨n, D, by omega, HN.out.keep (bxn _ _).block (by simp)⟩, by simp; omega⟩
        case measure => simp [intOf]; omega
      | none =>
        rw [hf] at HLK
        have HF : Hid (findC (cs.take i) c.nm = none) := hf
        clear hf
        have hmm := @run_makeMap Try.prog
        go_wp2_with (first
          | (at_mapUpdate; refine wpList_mapUpdate_own _ rfl _ _ _ 75 rfl 9 79 key9 Try.underlying75 ptrElem w.heap.size n D rfl (HX.out.1.alloc _) (by unfold maxLen; omega) _ _ _ rfl rfl (key_s hnl.out) _ [] rfl ?_; intro w3 hD3 hg3
             have H3 : Hid (w3.ownsMap Try.prog 9 ptrElem w.heap.size (n + 1) (D.put (.string c.nm) (.lit (.int .i64 ((wr.heap.size + 1 : Nat) : Int))))) := hD3
             have G3 : Hid (((wr.alloc (.cells #[.string (st c.nm), .slice au c.attrs.length cu] 41)).alloc (.map #[] 0)).grownBy w3 (some w.heap.size)) := hg3
             have N3 : Hid (NS w3 (wr.heap.size + 1) 0 []) := by
               have := (NS.made (wr.alloc (.cells #[.string (st c.nm), .slice au c.attrs.length cu] 41))).grow hg3 (by simp; omega)
               simpa [Hid] using this
             have L3 : Hid ((Instr.lookup 75 (.map (some w.heap.size)) (.string (st c.nm)) false).run Try.prog w3 = .ok (.map (some (wr.heap.size + 1))) w3) := by
               obtain ⟨v', ps', hr', hv'⟩ := hD3.lookup (t := 75) (e := 79) key9 Try.underlying75 (zero79 w3) (zd := .nil) (zp := []) rfl (key_s hnl.out)
               rw [Maps.atKey_put_same HX.out.1.isMap (by trivial)] at hv'
               obtain rfl := ptr_inv hv'
               exact hr'
             have b0 : w3.cell? ⟨wr.heap.size, 0, none⟩ = some (.string (st c.nm)) := hg3.cell (by go_simp) (by simp; omega)
             have b1 : w3.cell? ⟨wr.heap.size, 1, none⟩ = some (.slice au c.attrs.length cu) := hg3.cell (by go_simp) (by simp; omega)
             have hs3 : Hid (wr.heap.size + 2 ≤ w3.heap.size) := by have := hg3.size; simp at this; show _ ≤ _; omega
             have B3 : Hid (Below w.heap.size w w3) := (bt (bt HB.out (bxn _ _)) (bxn _ _)).grown hg3 (by have := HB.out.size; simp; omega) (by intro k hk; cases hk; exact Nat.le_refl _)
             have CA := addAll_any (wr.heap.size + 1) 0 _ [] c.attrs w3 N3.out (SlW.keep (P := fun _ b => b < w.heap.size) (k := 0) ⟨B3.out.size, fun _ k hk _ => B3.out.block k hk⟩ HU.out) (fun k hk => by omega) (by have := HC.out.2.1; omega) (fun x hx => Nat.le_trans (HC.out.2.2 x hx) (by omega))
             generalize allN [] c.attrs c.attrs.length = an at CA
             clear hD3 hg3 hmm HLK)
          | (at_lookup; first | refine wpList_look rfl _ _ _ _ rfl rfl rfl HLK.out ?_ | refine wpList_look rfl _ _ _ _ rfl rfl rfl L3.out ?_)
          | (go_at_call 31; refine CA.mono ?_; rintro e w4 ⟨rfl, hn4, hf4⟩; have N4 : Hid (NS w4 (wr.heap.size + 1) (0 + c.attrs.length) (c.attrs.foldl addZ [])) := hn4; have F4 : Hid (Fx (wr.heap.size + 1) w3 w4) := hf4; clear CA hn4 hf4))
        have A4 : Hid (AMc w4 (n + 1) (D.put (.string c.nm) (.lit (.int .i64 ((wr.heap.size + 1 : Nat) : Int)))) w.heap.size (wr.heap.size + 2) (cs.take (i + 1))) := by
          rw [HT.out]
          refine HAA.out.new HF.out (map_move H3.out (F4.out.block _ (by have := hs3.out; omega) (by simp; omega))) (fun k h1 h2 => ?_) (by omega) (by omega) (by omega) (N4.out.congr fun s => by rw [foldZ_mem]; simp)
          rw [F4.out.block k (by have := hs3.out; omega) (by simp; omega), G3.out.block k (by simp; omega) (by simpa using h2), (bxn _ _).block k (by simp; omega), (bxn wr _).block k h1]
        have B4 : Hid (Below w.heap.size w w4) := B3.out.grown F4.out (by have := hs3.out; omega) (by intro k hk; cases hk; omega)
        have S4 : Hid (wr.heap.size + 2 ≤ w4.heap.size) := Nat.le_trans hs3.out F4.out.size
        go_roundw
        case rel => exact ⟨i + 1, by simp, by omega, B4.out, ⟨n + 1, _, by omega, A4.out.keep (fun k _ => rfl) S4.out⟩, by have := S4.out; omega⟩
        case measure => simp [intOf]; omega
    · have hiz : ¬ (i : Int) < cs.length := by omega
      have : i = cs.length := by omega
      subst this
      rw [List.take_length] at HA
      go_wp2
      go_ret
      obtain ⟨n, D, -, hA⟩ := HA.out
      exact ⟨_, rfl, Nat.le_refl _, ⟨n, D, hA⟩, HB.out⟩
end Go.Proofs.Ytakibdkmgjpbhaa
