/- Pairs that are put in one by one: pure. -/
import Derived.Test.YtnnndkpmlpbpcaaAw
import Derived.Test.YtnnndkpmlpbpcaaBg
namespace Go.Proofs.Ytnnndkpmlpbpcaa
set_option linter.unusedVariables false
theorem bl_irr (a : List UInt8) : Op.bytesLess a a = false := by
  induction a with
  | nil => rfl
  | cons x a ih => simp [Op.bytesLess, ih]
theorem bl_cons (x y : UInt8) (a b : List UInt8) : Op.bytesLess (x :: a) (y :: b) = true ↔ x < y ∨ (x = y ∧ Op.bytesLess a b = true) := by simp [Op.bytesLess]
theorem bl_trans : ∀ (a b c : List UInt8), Op.bytesLess a b = true → Op.bytesLess b c = true → Op.bytesLess a c = true
  | _, _, [], _, h => by cases ‹List UInt8› <;> simp [Op.bytesLess] at h
  | [], b, z :: c, _, _ => rfl
  | x :: a, [], z :: c, h, _ => by simp [Op.bytesLess] at h
  | x :: a, y :: b, z :: c, h1, h2 => by
    rw [bl_cons] at *
    rcases h1 with h1 | ⟨rfl, h1⟩
    · rcases h2 with h2 | ⟨rfl, h2⟩
      · exact .inl (UInt8.lt_trans h1 h2)
      · exact .inl h1
    · rcases h2 with h2 | ⟨rfl, h2⟩
      · exact .inl h2
      · exact .inr ⟨rfl, bl_trans a b c h1 h2⟩
theorem bl_tri : ∀ (a b : List UInt8), a = b ∨ Op.bytesLess a b = true ∨ Op.bytesLess b a = true
  | [], [] => .inl rfl
  | [], y :: b => .inr (.inl rfl)
  | x :: a, [] => .inr (.inr rfl)
  | x :: a, y :: b => by
    simp only [bl_cons]
    rcases bl_tri a b with rfl | h | h
    · by_cases e : x = y
      · subst e; exact .inl rfl
      · rcases Nat.lt_or_gt_of_ne (fun h => e (UInt8.toNat_inj.1 h)) with h | h
        · exact .inr (.inl (.inl (UInt8.lt_iff_toNat_lt.2 h)))
        · exact .inr (.inr (.inl (UInt8.lt_iff_toNat_lt.2 h)))
    · by_cases e : x = y
      · subst e; exact .inr (.inl (.inr ⟨rfl, h⟩))
      · rcases Nat.lt_or_gt_of_ne (fun h => e (UInt8.toNat_inj.1 h)) with h | h
        · exact .inr (.inl (.inl (UInt8.lt_iff_toNat_lt.2 h)))
        · exact .inr (.inr (.inl (UInt8.lt_iff_toNat_lt.2 h)))
    · by_cases e : x = y
      · subst e; exact .inr (.inr (.inr ⟨rfl, h⟩))
      · rcases Nat.lt_or_gt_of_ne (fun h => e (UInt8.toNat_inj.1 h)) with h | h
        · exact .inr (.inl (.inl (UInt8.lt_iff_toNat_lt.2 h)))
        · exact .inr (.inr (.inl (UInt8.lt_iff_toNat_lt.2 h)))
theorem ls_iff (p q : PR) : lessP p q = true ↔ Op.bytesLess p.1.toList q.1.toList = true ∨ (p.1.toList = q.1.toList ∧ Op.bytesLess p.2.toList q.2.toList = true) := by simp [lessP]
theorem ls_irr (p : PR) : lessP p p = false := by simp [lessP, bl_irr]
theorem ls_trans {p q r : PR} (h1 : lessP p q = true) (h2 : lessP q r = true) : lessP p r = true := by
  rw [ls_iff] at *
  rcases h1 with h1 | ⟨e1, h1⟩
  · rcases h2 with h2 | ⟨e2, h2⟩
    · exact .inl (bl_trans _ _ _ h1 h2)
    · exact .inl (e2 ▸ h1)
  · rcases h2 with h2 | ⟨e2, h2⟩
    · exact .inl (e1 ▸ h2)
    · exact .inr ⟨e1.trans e2, bl_trans _ _ _ h1 h2⟩
theorem ls_tri (p q : PR) : p = q ∨ lessP p q = true ∨ lessP q p = true := by
  simp only [ls_iff]
  rcases bl_tri p.1.toList q.1.toList with h | h | h
  · rcases bl_tri p.2.toList q.2.toList with h2 | h2 | h2
    · left
      have : eqP p q = true := by simp [eqP, h, h2]
      rw [eqP_iff, decide_eq_true_eq] at this
      exact this
    · exact .inr (.inl (.inr ⟨h, h2⟩))
    · exact .inr (.inr (.inr ⟨h.symm, h2⟩))
  · exact .inr (.inl (.inl h))
  · exact .inr (.inr (.inl h))
def Up (ps : List PR) : Prop := ps.Pairwise fun p q => lessP p q = true
theorem any_in (ps : List PR) (p : PR) : (ps.any fun q => eqP q p) = true ↔ p ∈ ps := by
  simp only [List.any_eq_true, eqP_iff, decide_eq_true_eq]
  constructor
  · rintro ⟨q, hq, rfl⟩; exact hq
  · intro h; exact ⟨p, h, rfl⟩
theorem add_cons (q : PR) (ps : List PR) (p : PR) : ps.take (ps.findIdx (lessP p)) ++ ([p] ++ ps.drop (ps.findIdx (lessP p))) = ps.take (ps.findIdx (lessP p)) ++ p :: ps.drop (ps.findIdx (lessP p)) := rfl
theorem ins_up : ∀ (ps : List PR) (p : PR), Up ps → p ∉ ps → Up (ps.take (ps.findIdx (lessP p)) ++ ([p] ++ ps.drop (ps.findIdx (lessP p)))) ∧ ∀ q, q ∈ ps.take (ps.findIdx (lessP p)) ++ ([p] ++ ps.drop (ps.findIdx (lessP p))) ↔ q ∈ ps ∨ q = p
  | [], p, _, _ => ⟨by simp [Up], by simp⟩
  | x :: ps, p, h, hn => by
    unfold Up at h
    rw [List.pairwise_cons] at h
    rw [List.findIdx_cons]
    cases hx : lessP p x
    · simp only [cond_false, List.take_succ_cons, List.drop_succ_cons, List.cons_append]
      obtain ⟨h1, h2⟩ := ins_up ps p h.2 (fun hm => hn (List.mem_cons_of_mem _ hm))
      have hxp : lessP x p = true := by
        rcases ls_tri x p with e | e | e
        · exact absurd (e ▸ List.mem_cons_self) hn
        · exact e
        · rw [hx] at e; cases e
      refine ⟨?_, fun q => ?_⟩
      · unfold Up
        rw [List.pairwise_cons]
        refine ⟨fun q hq => ?_, h1⟩
        rcases (h2 q).1 hq with hq | rfl
        · exact h.1 q hq
        · exact hxp
      · have h9 := h2 q
        simp only [List.cons_append, List.nil_append] at h9
        rw [List.mem_cons, List.mem_cons, or_assoc, ← h9]
        rfl
    · simp only [cond_true, List.take_zero, List.drop_zero, List.nil_append, List.cons_append]
      refine ⟨?_, fun q => ?_⟩
      · unfold Up
        rw [List.pairwise_cons, List.pairwise_cons]
        refine ⟨fun q hq => ?_, h⟩
        rcases List.mem_cons.1 hq with rfl | hq
        · exact hx
        · exact ls_trans hx (h.1 q hq)
      · simp only [List.mem_cons]
        constructor
        · rintro (rfl | h9)
          · exact .inr rfl
          · exact .inl h9
        · rintro (h9 | rfl)
          · exact .inr h9
          · exact .inl rfl
theorem add_up {ps : List PR} (p : PR) (h : Up ps) : Up (addP ps p) ∧ ∀ q, q ∈ addP ps p ↔ q ∈ ps ∨ q = p := by
  unfold addP
  cases hin : (ps.any fun q => eqP q p)
  · have hn : p ∉ ps := fun hm => by rw [(any_in ps p).2 hm] at hin; cases hin
    exact ins_up ps p h hn
  · refine ⟨h, fun q => ⟨.inl, ?_⟩⟩
    rintro (h9 | rfl)
    · exact h9
    · exact (any_in ps q).1 hin
theorem up_one : ∀ {xs ys : List PR}, Up xs → Up ys → (∀ q, q ∈ xs ↔ q ∈ ys) → xs = ys
  | [], [], _, _, _ => rfl
  | [], y :: ys, _, _, h => absurd ((h y).2 List.mem_cons_self) (by simp)
  | x :: xs, [], _, _, h => absurd ((h x).1 List.mem_cons_self) (by simp)
  | x :: xs, y :: ys, hx, hy, h => by
    unfold Up at hx hy
    rw [List.pairwise_cons] at hx hy
    have key : ∀ {a : PR} {bs : List PR}, (∀ q ∈ bs, lessP a q = true) → a ∉ bs := fun h9 hm => by
      have := h9 _ hm
      rw [ls_irr] at this
      cases this
    have e : x = y := by
      rcases List.mem_cons.1 ((h x).1 List.mem_cons_self) with e | h1
      · exact e
      · rcases List.mem_cons.1 ((h y).2 List.mem_cons_self) with e | h2
        · exact e.symm
        · have a1 := hy.1 x h1
          have a2 := hx.1 y h2
          have := ls_trans a1 a2
          rw [ls_irr] at this
          cases this
    subst e
    rw [up_one hx.2 hy.2 (fun q => ?_)]
    constructor
    · intro hq
      rcases List.mem_cons.1 ((h q).1 (List.mem_cons_of_mem _ hq)) with rfl | h1
      · exact absurd hq (key hx.1)
      · exact h1
    · intro hq
      rcases List.mem_cons.1 ((h q).2 (List.mem_cons_of_mem _ hq)) with rfl | h1
      · exact absurd hq (key hy.1)
      · exact h1
theorem up_rises {ps : List PR} (h : Up ps) : risesB ps = true := by
  refine rises_true (fun m hm => ?_)
  have := (List.pairwise_iff_getElem.1 h) m (m + 1) (by omega) hm (by omega)
  rw [List.getD_eq_getElem?_getD, List.getD_eq_getElem?_getD, List.getElem?_eq_getElem hm, List.getElem?_eq_getElem (show m < ps.length by omega)]
  exact this
def growS (l : List PR) : List PR := l.foldl addP []
theorem grow_snoc (l : List PR) (p : PR) : growS (l ++ [p]) = addP (growS l) p := by simp [growS]
theorem grow_up (l : List PR) : Up (growS l) ∧ ∀ q, q ∈ growS l ↔ q ∈ l := by
  suffices H : ∀ (l : List PR) (a : List PR), Up a → Up (l.foldl addP a) ∧ ∀ q, q ∈ l.foldl addP a ↔ q ∈ a ∨ q ∈ l by
    have := H l [] (by simp [Up])
    simpa [growS] using this
  intro l
  induction l with
  | nil => intro a h; exact ⟨h, by simp⟩
  | cons p l ih =>
    intro a h
    obtain ⟨h1, h2⟩ := add_up p h
    obtain ⟨h3, h4⟩ := ih _ h1
    refine ⟨h3, fun q => ?_⟩
    rw [List.foldl_cons, h4 q, h2 q, List.mem_cons, or_assoc]
theorem grow_rev (l : List PR) : growS l.reverse = growS l := up_one (grow_up _).1 (grow_up _).1 (fun q => by rw [(grow_up _).2, (grow_up _).2, List.mem_reverse])
theorem add_len (ps : List PR) (p : PR) : (addP ps p).length ≤ ps.length + 1 := by
  unfold addP
  split
  · omega
  · simp; omega
theorem grow_len (l : List PR) : (growS l).length ≤ l.length := by
  suffices H : ∀ (l : List PR) (a : List PR), (l.foldl addP a).length ≤ a.length + l.length by simpa [growS] using H l []
  intro l
  induction l with
  | nil => intro a; simp
  | cons p l ih =>
    intro a
    have h1 := ih (addP a p)
    have h2 := add_len a p
    rw [List.foldl_cons, List.length_cons]
    omega
theorem rev_take (l : List PR) (k : Nat) (h : k < l.length) : l.reverse.take (k + 1) = l.reverse.take k ++ [l.getD (l.length - 1 - k) default] := by
  rw [take_snocP _ _ (by simpa using h)]
  congr 2
  rw [List.getD_eq_getElem?_getD, List.getElem?_reverse h, ← List.getD_eq_getElem?_getD]
def remS (l gs : List PR) : Nat → List PR
  | 0 => gs
  | k + 1 => (remS l gs k).filter fun q => !eqP q (l.getD k default)
theorem rem_in (l gs : List PR) (k : Nat) (q : PR) : q ∈ remS l gs k ↔ q ∈ gs ∧ ∀ j, j < k → q ≠ l.getD j default := by
  induction k with
  | zero => simp [remS]
  | succ k ih =>
    rw [remS, List.mem_filter, ih, eqP_iff]
    simp only [Bool.not_eq_true', decide_eq_false_iff_not]
    constructor
    · rintro ⟨⟨h1, h2⟩, h3⟩
      refine ⟨h1, fun j hj => ?_⟩
      by_cases e : j = k
      · subst e; exact h3
      · exact h2 j (by omega)
    · rintro ⟨h1, h2⟩
      exact ⟨⟨h1, fun j hj => h2 j (by omega)⟩, h2 k (by omega)⟩
theorem rem_nil (l : List PR) : remS l (growS l) l.length = [] := by
  rw [List.eq_nil_iff_forall_not_mem]
  intro q hq
  obtain ⟨h1, h2⟩ := (rem_in _ _ _ _).1 hq
  obtain ⟨j, hj, e⟩ := List.mem_iff_getElem.1 (((grow_up l).2 q).1 h1)
  refine h2 j hj ?_
  rw [List.getD_eq_getElem?_getD, List.getElem?_eq_getElem hj]
  exact e.symm
theorem rem_le (l gs : List PR) (k : Nat) : (remS l gs k).length ≤ gs.length := by
  induction k with
  | zero => exact Nat.le_refl _
  | succ k ih => exact Nat.le_trans (List.length_filter_le _ _) ih
/-- Two buckets' blocks, that are being filled. -/
structure GrI (w W : World) (va vb : Value) (xs ys : List PR) : Prop where
  hA : Blk W w.heap.size 0 0 va
  hB : Blk W (w.heap.size + 1) 0 0 vb
  oa : OwnQ W (w.heap.size + 2) va xs
  ob : OwnQ W (w.heap.size + 2) vb ys
  bl : Go.RowKit.Below w.heap.size w W
open Go.RowKit
def set3 (W : World) (T : Nat) (v : Value) : World := ((W.setCell ⟨T, 0, none⟩ (.int .i64 0)).setCell ⟨T, 1, none⟩ (.int .i64 0)).setCell ⟨T, 2, none⟩ v
theorem set3_far {W : World} {T k : Nat} {v : Value} (h : k ≠ T) : (set3 W T v).heap[k]? = W.heap[k]? := by
  unfold set3
  rw [Below.heap_setCell _ _ _ _ (by simpa using h), Below.heap_setCell _ _ _ _ (by simpa using h), Below.heap_setCell _ _ _ _ (by simpa using h)]
theorem setb {w : World} {T i : Nat} {cs : Array Value} {t : TypeId} {u : Value} (h : w.heap[T]? = some (.cells cs t (0, 0))) : (w.setCell ⟨T, i, none⟩ u).heap[T]? = some (.cells (cs.setIfInBounds i u) t (0, 0)) := by
  unfold World.setCell
  simp [Array.getElem?_modify, h]
theorem set3_at {W : World} {T : Nat} {d n : Int} {v v' : Value} (h : Blk W T d n v) : Blk (set3 W T v') T 0 0 v' := setb (setb (setb h))
variable {w W W' : World} {va vb v' : Value} {xs ys xs' : List PR}
theorem GrI.below (h : GrI w W va vb xs ys) (hb : Below W.heap.size W W') : GrI w W' va vb xs ys :=
  ⟨(hb.block _ h.hA.lt).trans h.hA, (hb.block _ h.hB.lt).trans h.hB, h.oa.below hb, h.ob.below hb, bt h.bl hb⟩
theorem GrI.drew (h : GrI w W va vb xs ys) : GrI w W.drew va vb xs ys := ⟨h.hA, h.hB, h.oa, h.ob, h.bl.drew⟩
theorem set3_below {b : Nat} {V : World} {T : Nat} (h : Below b V W) (hT : b ≤ T) : Below b V (set3 W T v') := ((h.setCell (by simpa using hT) _).setCell (by simpa using hT) _).setCell (by simpa using hT) _
theorem GrI.setA (h : GrI w W va vb xs ys) (ho : OwnQ W (w.heap.size + 2) v' xs') : GrI w (set3 W w.heap.size v') v' vb xs' ys :=
  ⟨set3_at h.hA, (set3_far (by omega)).trans h.hB, ho.keep (fun k hk _ => set3_far (by omega)), h.ob.keep (fun k hk _ => set3_far (by omega)), set3_below h.bl (Nat.le_refl _)⟩
theorem GrI.setB (h : GrI w W va vb xs ys) (ho : OwnQ W (w.heap.size + 2) v' xs') : GrI w (set3 W (w.heap.size + 1) v') va v' xs xs' :=
  ⟨(set3_far (by omega)).trans h.hA, set3_at h.hB, h.oa.keep (fun k hk _ => set3_far (by omega)), ho.keep (fun k hk _ => set3_far (by omega)), set3_below h.bl (by omega)⟩
theorem GrI.setC {T : Nat} (h : GrI w W va vb xs ys) (hT : w.heap.size + 2 ≤ T) (ha : ∀ g, va.ownBlock = some g → g ≠ T) (hb : ∀ g, vb.ownBlock = some g → g ≠ T) : GrI w (set3 W T v') va vb xs ys := by
  refine ⟨(set3_far (by omega)).trans h.hA, (set3_far (by omega)).trans h.hB, ?_, ?_, set3_below h.bl (by omega)⟩
  · refine ⟨h.oa.1, ?_⟩
    rcases h.oa.2 with hn | ⟨g, cap, cur, rfl, hbb, hg, rest⟩
    · exact .inl hn
    · exact .inr ⟨g, cap, cur, rfl, hbb, (set3_far (ha g rfl)).trans hg, rest⟩
  · refine ⟨h.ob.1, ?_⟩
    rcases h.ob.2 with hn | ⟨g, cap, cur, rfl, hbb, hg, rest⟩
    · exact .inl hn
    · exact .inr ⟨g, cap, cur, rfl, hbb, (set3_far (hb g rfl)).trans hg, rest⟩
theorem OwnQ.setC {base T : Nat} (h : OwnQ W base va xs) (ha : ∀ g, va.ownBlock = some g → g ≠ T) : OwnQ (set3 W T v') base va xs := by
  refine ⟨h.1, ?_⟩
  rcases h.2 with hn | ⟨g, cap, cur, rfl, hbb, hg, rest⟩
  · exact .inl hn
  · exact .inr ⟨g, cap, cur, rfl, hbb, (set3_far (ha g rfl)).trans hg, rest⟩
theorem OwnQ.arg {base : Nat} (h : OwnQ W base va xs) : ∃ a cap, va = .slice a xs.length cap ∧ (a = none → cap = 0) ∧ PV W a xs ∧ xs.length ≤ cap ∧ cap ≤ 9223372036854775807 ∧ (∀ ad, a = some ad → 0 < cap → ad.spot = none) := by
  obtain ⟨a, cap, e, h1, h2, h3, h4⟩ := h.view
  refine ⟨a, cap, e, h1, h2, h3, h4, ?_⟩
  rintro ad rfl _
  rcases h.2 with ⟨e2, _⟩ | ⟨g, c, cur, e2, _⟩
  · rw [e] at e2; cases e2
  · rw [e] at e2; cases e2; rfl
theorem gr_add {base : Nat} {aa : Option Addr} {ca : Nat} (p : PR) (ho : OwnQ W base (.slice aa xs.length ca) xs) (hl : xs.length + 1 ≤ 1000000) (hb : base ≤ W.heap.size) :
    Calls Try.prog 19 #[.agg #[.int .i64 0, .int .i64 0, .slice aa xs.length ca], pv p] W fun e w' => ∃ a' l' c', e = .returned (.tuple #[.agg #[.int .i64 0, .int .i64 0, .slice a' l' c'], .bool (!(xs.any fun q => eqP q p))]) ∧ OwnQ w' base (.slice a' l' c') (addP xs p) ∧ Below W.heap.size W w' := by
  obtain ⟨a, cap, e, h1, h2, h3, h4, h5⟩ := ho.arg
  obtain ⟨rfl, _, rfl⟩ : aa = a ∧ xs.length = xs.length ∧ ca = cap := by simpa using e
  refine (add_anyT 0 0 aa ca xs p W h2 hl h1 h3 h4 h5).mono ?_
  rintro e w' ⟨v, rfl, q1, q2⟩
  obtain ⟨a', l', c', rfl⟩ := q1.isSlice
  exact ⟨a', l', c', rfl, q1.mono hb, q2⟩
theorem gr_rem {base : Nat} {aa : Option Addr} {ca : Nat} (p : PR) (ho : OwnQ W base (.slice aa xs.length ca) xs) (hl : xs.length ≤ 1000000) (hL : ∀ q ∈ xs, Lp q) (hb : base ≤ W.heap.size) :
    Calls Try.prog 21 #[.agg #[.int .i64 0, .int .i64 0, .slice aa xs.length ca], pv p] W fun e w' => ∃ a' l' c', e = .returned (.tuple #[.agg #[.int .i64 0, .int .i64 0, .slice a' l' c'], .bool (xs.any fun q => eqP q p)]) ∧ OwnQ w' W.heap.size (.slice a' l' c') (xs.filter fun q => !eqP q p) ∧ Below W.heap.size W w' := by
  obtain ⟨a, cap, e, h1, h2, h3, h4, h5⟩ := ho.arg
  obtain ⟨rfl, _, rfl⟩ : aa = a ∧ xs.length = xs.length ∧ ca = cap := by simpa using e
  refine (remove_any 0 0 aa ca xs p W h2 hl hL h3 h4).mono ?_
  rintro e w' ⟨v, rfl, q1, q2⟩
  obtain ⟨a', l', c', rfl⟩ := q1.isSlice
  exact ⟨a', l', c', rfl, q1, q2⟩
end Go.Proofs.Ytnnndkpmlpbpcaa
