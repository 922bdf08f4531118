/- Pieces of bytes as data, and slices of slices of bytes in memory. -/
import Derived.Test.YtcegahmjegjckaaSpec
namespace Go.Proofs.Ytcegahmjegjckaa
open Go.RowKit
set_option linter.unusedVariables false
set_option linter.unusedSimpArgs false
/-- The pieces. -/
def splitF (n : Nat) : Nat → List Int → List (List Int)
  | 0, _ => []
  | f + 1, zs => if zs = [] then [] else zs.take n :: splitF n f (zs.drop n)
def splitS (zs : List Int) (size : Int) : List (List Int) := if size < 1 then [] else splitF size.toNat zs.length zs
theorem splitF_nil (n : Nat) : ∀ f, splitF n f [] = []
  | 0 => rfl
  | _ + 1 => by unfold splitF; rw [if_pos rfl]
theorem splitF_step (n f : Nat) {zs : List Int} (h : zs ≠ []) : splitF n (f + 1) zs = zs.take n :: splitF n f (zs.drop n) := by
  show (if zs = [] then [] else _) = _
  rw [if_neg h]
theorem splitF_all (n : Nat) : ∀ (f : Nat) {zs : List Int}, AllB zs → ∀ x ∈ splitF n f zs, AllB x
  | 0, _, _, x, hx => by cases hx
  | f + 1, zs, h, x, hx => by
    unfold splitF at hx
    split at hx
    · cases hx
    · rcases List.mem_cons.1 hx with rfl | hx
      · exact h.take _
      · exact splitF_all n f (h.drop _) x hx
theorem splitF_len (n : Nat) : ∀ (f : Nat) (zs : List Int), (splitF n f zs).length ≤ f
  | 0, _ => Nat.le_refl _
  | f + 1, zs => by
    unfold splitF
    split
    · exact Nat.zero_le _
    · rw [List.length_cons]; have := splitF_len n f (zs.drop n); omega
theorem splitS_len (zs : List Int) (size : Int) : (splitS zs size).length ≤ zs.length := by
  unfold splitS; split
  · exact Nat.zero_le _
  · exact splitF_len _ _ _
/-- The bytes zs lie at a, in a block of bytes. -/
def BT (w : World) (a : Option Addr) (zs : List Int) : Prop :=
  AllB zs ∧ (zs = [] ∨ ∃ b off cur fr, a = some ⟨b, off, none⟩ ∧ w.heap[b]? = some (.cells cur 5 fr) ∧ ∀ i, i < zs.length → w.cell? ⟨b, off + i, none⟩ = some (.int .u8 (zs.getD i 0)))
theorem BT.bv {w : World} {a : Option Addr} {zs : List Int} (h : BT w a zs) : BV w a zs := by
  obtain ⟨hz, h | ⟨b, off, cur, fr, rfl, hb, hc⟩⟩ := h
  · exact ⟨hz, .inl h⟩
  · exact ⟨hz, .inr ⟨b, off, rfl, (Array.getElem?_eq_some_iff.1 hb).1, hc⟩⟩
theorem BT.keep {w w' : World} {a : Option Addr} {zs : List Int} (h : BT w a zs) (hk : ∀ (b : Nat) (cur : Array Value) (fr : Nat × Nat), w.heap[b]? = some (Obj.cells cur 5 fr) → w'.heap[b]? = w.heap[b]?) : BT w' a zs := by
  obtain ⟨hz, h | ⟨b, off, cur, fr, rfl, hb, hc⟩⟩ := h
  · exact ⟨hz, .inl h⟩
  · exact ⟨hz, .inr ⟨b, off, cur, fr, rfl, (hk b cur fr hb).trans hb, fun i hi => (World.cell?_of_block (a := ⟨b, off + i, none⟩) (hk b cur fr hb)).trans (hc i hi)⟩⟩
theorem BT.below {w w' : World} {a : Option Addr} {zs : List Int} (h : BT w a zs) (hb : Below w.heap.size w w') : BT w' a zs :=
  h.keep (fun b cur fr he => hb.block b (Array.getElem?_eq_some_iff.1 he).1)
theorem BT.cut {w : World} {b off : Nat} {zs : List Int} (h : BT w (some ⟨b, off, none⟩) zs) (n m : Nat) : BT w (some ⟨b, off + n, none⟩) ((zs.drop n).take m) := by
  refine ⟨(h.1.drop _).take _, ?_⟩
  by_cases h0 : (zs.drop n).take m = []
  · exact .inl h0
  · obtain ⟨_, rfl | ⟨b', off', cur, fr, e, hlt, hc⟩⟩ := h
    · simp at h0
    · simp only [Option.some.injEq, Addr.mk.injEq, and_true] at e
      obtain ⟨rfl, rfl⟩ := e
      refine .inr ⟨b, off + n, cur, fr, rfl, hlt, fun i hi => ?_⟩
      rw [List.length_take, List.length_drop] at hi
      rw [Nat.add_assoc, hc (n + i) (by omega), List.getD_eq_getElem?_getD, List.getD_eq_getElem?_getD, List.getElem?_take, if_pos (by omega), List.getElem?_drop]
theorem Own.bt {w : World} {base : Nat} {a : Option Addr} {n cap : Nat} {zs : List Int} (h : Own w base (.slice a n cap) zs) (hz : AllB zs) : BT w a zs := by
  refine ⟨hz, ?_⟩
  have hb := h.bv hz
  rcases h.2 with ⟨e, h0⟩ | ⟨g, c, cur, e, _, hg, _⟩
  · exact .inl (List.eq_nil_of_length_eq_zero h0)
  · obtain ⟨rfl, _, _⟩ := Value.slice.inj e
    rcases hb.2 with hb | ⟨b, off, e2, _, hc⟩
    · exact .inl hb
    · simp only [Option.some.injEq, Addr.mk.injEq, and_true] at e2
      obtain ⟨rfl, rfl⟩ := e2
      exact .inr ⟨g, 0, cur, _, rfl, hg, hc⟩
/-- v is a slice of the call's own with these slices of bytes. -/
def OwnP (w : World) (base : Nat) (v : Value) (zss : List (List Int)) : Prop :=
  ∃ vs : List Value, w.ownsRow base 22 1 v vs.length vs ∧ vs.length = zss.length ∧ ∀ i, i < zss.length → ∃ a c, vs[i]? = some (.slice a (zss.getD i []).length c) ∧ (a = none → c = 0) ∧ BT w a (zss.getD i [])
theorem OwnP.nil (w : World) (base : Nat) : OwnP w base (.slice none 0 0) [] := ⟨[], World.ownsRow_nil _ _ _ _, rfl, fun i hi => by cases hi⟩
theorem Try.info22 : (Try.prog.info? 22).map (fun i => (i.zero, i.size, i.bytes)) = some (some (.slice none 0 0), 1, 24) := by kernel_rfl
theorem OwnP.below {w w' : World} {base : Nat} {v : Value} {zss : List (List Int)} (h : OwnP w base v zss) (hb : Below w.heap.size w w') : OwnP w' base v zss := by
  obtain ⟨vs, h1, h2, h3⟩ := h
  refine ⟨vs, ⟨h1.1, ?_⟩, h2, fun i hi => ?_⟩
  · have hl := World.ownsRow.lt h1
    rcases h1.2 with hn | ⟨g, cap, cur, rfl, hbb, hg, rest⟩
    · exact .inl hn
    · exact .inr ⟨g, cap, cur, rfl, hbb, (hb.block g (hl g rfl).2).trans hg, rest⟩
  · obtain ⟨a, c, q1, q2, q3⟩ := h3 i hi
    exact ⟨a, c, q1, q2, q3.below hb⟩
theorem OwnP.mono {w : World} {b1 b2 : Nat} {v : Value} {zss : List (List Int)} (h : OwnP w b1 v zss) (hb : b2 ≤ b1) : OwnP w b2 v zss := by
  obtain ⟨vs, h1, h2, h3⟩ := h
  refine ⟨vs, ⟨h1.1, ?_⟩, h2, h3⟩
  rcases h1.2 with hn | ⟨g, cap, cur, rfl, hbb, hg, rest⟩
  · exact .inl hn
  · exact .inr ⟨g, cap, cur, rfl, Nat.le_trans hb hbb, hg, rest⟩
/-- The slice and its cells. -/
theorem OwnP.view {w : World} {base : Nat} {v : Value} {zss : List (List Int)} (h : OwnP w base v zss) : ∃ a cap, v = .slice a zss.length cap ∧ zss.length ≤ cap ∧ cap ≤ maxLen ∧ (zss = [] ∨ ∃ g, a = some ⟨g, 0, none⟩ ∧ base ≤ g ∧ g < w.heap.size ∧ ∀ i, i < zss.length → ∃ x c, w.cell? ⟨g, i, none⟩ = some (.slice x (zss.getD i []).length c) ∧ (x = none → c = 0) ∧ BT w x (zss.getD i [])) := by
  obtain ⟨vs, h1, h2, h3⟩ := h
  have hl := World.ownsRow.lt h1
  rcases h1.2 with ⟨rfl, h0⟩ | ⟨g, cap, cur, rfl, hb, hg, hnc, hcm, hcs, htake⟩
  · exact ⟨none, 0, by rw [← h2, h0], by omega, by decide, .inl (List.eq_nil_of_length_eq_zero (by omega))⟩
  · refine ⟨_, cap, by rw [h2], by omega, hcm, .inr ⟨g, rfl, hb, (hl g rfl).2, fun i hi => ?_⟩⟩
    obtain ⟨a, c, q1, q2, q3⟩ := h3 i hi
    exact ⟨a, c, by rw [World.ownsRow.cellAt (g := g) h1 i (by omega), q1], q2, q3⟩
theorem getD_snoc (zss : List (List Int)) (ps : List Int) (i : Nat) : (zss ++ [ps]).getD i [] = if i < zss.length then zss.getD i [] else if i = zss.length then ps else [] := by
  rw [List.getD_eq_getElem?_getD, List.getElem?_append]
  by_cases h : i < zss.length
  · rw [if_pos h, if_pos h, List.getD_eq_getElem?_getD]
  · rw [if_neg h, if_neg h]
    by_cases h2 : i = zss.length
    · rw [if_pos h2, h2, Nat.sub_self]; rfl
    · rw [if_neg h2, List.getElem?_eq_none (by simp; omega)]; rfl
theorem wp_appP {ops : Array Oper} {rest : List Oper} {o : Oper} {a : Act} {Q : Exit → Act → World → Prop} {w : World} (hgd : o.guard = none) (s x : Operand)
    (ho : o.op = .call { callee := .builtin .append, args := #[s, x], argTypes := #[42, 42] }) (base : Nat) (lv : Value) (zss : List (List Int)) (ps : List Int) (hs : a.eval s = lv) (hown : OwnP w base lv zss)
    (g : Nat) (hx : a.eval x = .slice (some ⟨g, 0, none⟩) 1 1) (pa : Option Addr) (pn pc : Nat) (hpn : ps.length = pn) (hg : w.heap[g]? = some (.cells #[.slice pa pn pc] 22 (0, 0))) (hpa : pa = none → pc = 0) (hbt : BT w pa ps) (hlen : zss.length ≤ 1000000) (hbase : base ≤ w.heap.size)
    (h : ∀ lv' w', OwnP w' base lv' (zss ++ [ps]) → Below base w w' → (∀ (b : Nat) (cur : Array Value) (fr : Nat × Nat), w.heap[b]? = some (Obj.cells cur 5 fr) → w'.heap[b]? = w.heap[b]?) → wpList Try.prog ops Q rest (a.put o.dst lv') w') : wpList Try.prog ops Q (o :: rest) a w := by
  subst hpn
  obtain ⟨i0, hi, hz0, hz1, hz2⟩ := info_parts Try.info22
  obtain ⟨vs, h1, h2, h3⟩ := hown
  refine wpList_append_own w hgd s x 42 ho base 22 i0 (.slice none 0 0) 1 24 Try.underlying42 hi hz0 hz1 hz2 rfl (by decide) lv vs.length vs hs h1 ⟨g, 0, none⟩ 1 1 [.slice pa ps.length pc] hx rfl ?_ (by simp [Value.oneCell']) (by unfold maxLen; omega) (by omega) hbase ?_
  · intro j u hu
    rw [add_plain, Nat.zero_add, cell_of_row _ _ _ _ _ _ hg]
    simpa using hu
  · intro v' w' q1 q2 _
    have hkeep : ∀ (b : Nat) (cur : Array Value) (fr : Nat × Nat), w.heap[b]? = some (Obj.cells cur 5 fr) → w'.heap[b]? = w.heap[b]? := by
      intro b cur fr hb
      refine q2.block b (Array.getElem?_eq_some_iff.1 hb).1 ?_
      intro hc
      rcases h1.2 with ⟨rfl, _⟩ | ⟨g', cap, cur', rfl, _, hg', _⟩
      · simp [Value.ownBlock] at hc
      · simp [Value.ownBlock] at hc
        subst hc
        rw [hg'] at hb
        simp at hb
    refine h v' w' ⟨vs ++ [.slice pa ps.length pc], ?_, by simp [h2], fun i hi => ?_⟩ ((Below.refl base w).grown q2 hbase (fun k hk => (World.ownsRow.lt h1 k hk).1)) hkeep
    · rw [List.length_append]; exact q1
    · rw [List.length_append, List.length_singleton] at hi
      rw [getD_snoc]
      by_cases hlt : i < zss.length
      · obtain ⟨a', c, r1, r2, r3⟩ := h3 i hlt
        refine ⟨a', c, ?_, r2, ?_⟩
        · rw [if_pos hlt, List.getElem?_append_left (by omega), r1]
        · rw [if_pos hlt]; exact r3.keep hkeep
      · have : i = zss.length := by omega
        subst this
        refine ⟨pa, pc, ?_, hpa, ?_⟩
        · rw [if_neg hlt, if_pos rfl, List.getElem?_append_right (by omega), h2, Nat.sub_self]; rfl
        · rw [if_neg hlt, if_pos rfl]; exact hbt.keep hkeep
end Go.Proofs.Ytcegahmjegjckaa
