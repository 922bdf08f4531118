/- Two pairs beside each other: a disk with the document's, a fork with the document's. -/
import Derived.Test.YtmapjikbplindaaNil
import Derived.Test.YtmapjikbplindaaSame
namespace Go.Proofs.Ytmapjikbplindaa
open Go.RowKit Go.Maps
set_option maxRecDepth 20000
set_option linter.unusedVariables false

/-- The blocks of a disk hold no slice of the document's: they are of other types. -/
theorem Rf.typed {W : World} {q qb qm : Nat} {t s : DS} {X : List Nat} {v : Value} (hd : Dk W q qb qm t) (hr : Rf W X v s) : Rf W (q :: qb :: qm :: X) v s := by
  obtain ⟨ok, lv, done, ns, e, h1, h2, h3, h4, h5, h6⟩ := hr
  refine ⟨ok, lv, done, ns, e, h1, h2, h3, h4, h5, fun g hg hm => ?_⟩
  obtain ⟨_, cap, set, after, dn, flat, d1, d2, _, _, ⟨D, ⟨es, clock, hb, _⟩, _⟩, _⟩ := hd
  rcases h5.2 with ⟨rfl, _⟩ | ⟨g', c', cur, rfl, _, hg', _⟩
  · cases hg
  · cases hg
    rcases List.mem_cons.1 hm with e1 | hm
    · have e2 : _ = _ := e1; simp only at e2; subst e2; unfold DkB at d1; rw [d1] at hg'; simp at hg'
    · rcases List.mem_cons.1 hm with e1 | hm
      · have e2 : _ = _ := e1; simp only at e2; subst e2; rw [d2] at hg'; simp at hg'
      · rcases List.mem_cons.1 hm with e1 | hm
        · have e2 : _ = _ := e1; simp only at e2; subst e2; rw [hb] at hg'; simp at hg'
        · exact h6 _ rfl hm
theorem St.keep {w W W' : World} {p nb mb rb q qb qm xb : Nat} {s t : DS} {a : Option Addr} {n cap : Nat} {done : Bool} (h : St w W p nb mb rb s a n cap done) (hd : Dk W q qb qm t) (hx : ∃ cs, W.heap[xb]? = some (.cells cs 28 (0, 0))) (ho : Off [q, qb, qm, xb] W W')
    (h1 : ∀ y ∈ [q, qb, qm, xb], y ∉ [p, nb, mb] ∧ y ≠ rb) (h2 : ∀ y ∈ [q, qb, qm, xb], w.heap.size ≤ y) : St w W' p nb mb rb s a n cap done := by
  obtain ⟨hm, hr, hb, hx1, hx2⟩ := h
  refine ⟨hm.keep ho (fun y hy hz => (h1 y hz).1 hy) h2, ?_, ?_, hx1, hx2⟩
  · have := Rf.boxes (Rf.typed hd hr) hx hx ho (fun y hy => by
      rcases List.mem_cons.1 hy with e | hy
      · exact .inr (.inr (by simp [e]))
      · rcases List.mem_cons.1 hy with e | hy
        · exact .inr (.inr (by simp [e]))
        · rcases List.mem_cons.1 hy with e | hy
          · exact .inr (.inr (by simp [e]))
          · exact .inl (by simpa using hy))
    exact this.blk _ (fun y hy => .inl (List.mem_cons_of_mem _ (List.mem_cons_of_mem _ (List.mem_cons_of_mem _ hy))))
  · exact (ho.block rb (Array.getElem?_eq_some_iff.1 hb).1 (fun hy => (h1 rb hy).2 rfl)).trans hb
/-- Both pairs; their blocks are apart. -/
def Pair (w W : World) (p nb mb rb : Nat) (s : DS) (a : Option Addr) (n cap : Nat) (done : Bool) (q qb qm xb : Nat) (t : DS) (a2 : Option Addr) (n2 cap2 : Nat) (done2 : Bool) : Prop :=
  St w W p nb mb rb s a n cap done ∧ St w W q qb qm xb t a2 n2 cap2 done2 ∧ ∀ y ∈ [q, qb, qm, xb], y ∉ [p, nb, mb, rb]
theorem Pair.swap {w W : World} {p nb mb rb q qb qm xb : Nat} {s t : DS} {a a2 : Option Addr} {n cap n2 cap2 : Nat} {done done2 : Bool} (h : Pair w W p nb mb rb s a n cap done q qb qm xb t a2 n2 cap2 done2) : Pair w W q qb qm xb t a2 n2 cap2 done2 p nb mb rb s a n cap done :=
  ⟨h.2.1, h.1, fun y hy hz => h.2.2 y hz hy⟩
theorem Pair.below {w W W' : World} {p nb mb rb q qb qm xb : Nat} {s t : DS} {a a2 : Option Addr} {n cap n2 cap2 : Nat} {done done2 : Bool} (h : Pair w W p nb mb rb s a n cap done q qb qm xb t a2 n2 cap2 done2) (hb : Below W.heap.size W W') : Pair w W' p nb mb rb s a n cap done q qb qm xb t a2 n2 cap2 done2 :=
  ⟨h.1.below hb, h.2.1.below hb, h.2.2⟩
/-- Do on the first pair leaves the second as it was. -/
theorem pair_do {w : World} {p nb mb rb q qb qm xb : Nat} {s t : DS} {a a2 : Option Addr} {n cap n2 cap2 : Nat} {done done2 : Bool} (W : World) (h : Pair w W p nb mb rb s a n cap done q qb qm xb t a2 n2 cap2 done2) (x : ActD) (fa : Option Addr) (fl fc : Nat) (hf : x.Fits) (hv : FV W [p, nb, mb] (.slice fa fl fc) x.fs) :
    Calls Try.prog 11 #[.pointer (some ⟨p, 0, none⟩), .agg (rcells s (.slice a n cap) done), .agg #[.int .u8 x.kd, .int .i64 x.n, .int .u8 x.c, .int .u8 x.cut, .bool x.d, .slice fa fl fc]] W fun e w' => ∃ a3 n3 cap3 done3, e = .returned (.tuple #[.agg (rcells (actsD s x) (.slice a3 n3 cap3) done3), .bool true]) ∧
      RC w' rb (.int .i64 s.room) (.slice a n cap) (.bool s.down) (.int .i64 s.ops) (.int .i64 s.reads) (.int .i64 s.fails) (.bool done) ∧
      Pair w (((((((w'.setCell ⟨rb, 0, none⟩ (.int .i64 (actsD s x).room)).setCell ⟨rb, 1, none⟩ (.slice a3 n3 cap3)).setCell ⟨rb, 2, none⟩ (.bool (actsD s x).down)).setCell ⟨rb, 3, none⟩ (.int .i64 (actsD s x).ops)).setCell ⟨rb, 4, none⟩ (.int .i64 (actsD s x).reads)).setCell ⟨rb, 5, none⟩ (.int .i64 (actsD s x).fails)).setCell ⟨rb, 6, none⟩ (.bool done3)) p nb mb rb (actsD s x) a3 n3 cap3 done3 q qb qm xb t a2 n2 cap2 done2 := by
  refine (do_any p nb mb s _ x.kd x.n x.c x.cut x.d fa fl fc x.fs W h.1.1.1 h.1.2.1 hv hf.k0 hf.n1 hf.c0 hf.c1 hf.t0 hf.t1).mono ?_
  rintro e w' ⟨r', rfl, hd, hr, ho⟩
  obtain ⟨a3, n3, cap3, done3, rfl⟩ := hr.open
  obtain ⟨q1, q2⟩ := h.1.set hd hr ho
  have ho7 := off7 w' rb (.int .i64 (actsD s x).room) (.slice a3 n3 cap3) (.bool (actsD s x).down) (.int .i64 (actsD s x).ops) (.int .i64 (actsD s x).reads) (.int .i64 (actsD s x).fails) (.bool done3)
  have hof : Off [p, nb, mb, rb] W _ := (ho.mono (fun y hy => by simp at hy ⊢; omega)).trans (ho7.mono (fun y hy => by simp at hy ⊢; omega))
  have hfrom := h.1.1.from
  refine ⟨a3, n3, cap3, done3, rfl, q1, q2, h.2.1.keep h.1.1.1 ⟨_, h.1.2.2.1⟩ hof (fun y hy => ?_) (fun y hy => ?_), h.2.2⟩
  · refine ⟨fun hz => h.2.2 y (by simp at hz ⊢; omega) hy, fun e => h.2.2 y (by simp [e]) hy⟩
  · rcases List.mem_append.1 (show y ∈ [p, nb, mb] ++ [rb] from hy) with hy | hy
    · exact hfrom y hy
    · have := h.1.2.2.2.2; simp at hy; omega
/-- A fork beside its disk, each with the document's in a box of its own. -/
theorem pair_fork {w W W' : World} {p nb mb rb q qb qm : Nat} {s : DS} {a : Option Addr} {n cap : Nat} {done : Bool} (h : St w W p nb mb rb s a n cap done) (ht : Two w W' p nb mb s q qb qm s) (hq : ∀ y ∈ [q, qb, qm], W.heap.size ≤ y) (hb : Below W.heap.size W W') :
    Pair w (W'.alloc (.cells (rcells s (.slice a n cap) done) 28)) p nb mb rb s a n cap done q qb qm W'.heap.size s a n cap done := by
  have h' := h.below hb
  have hal : Below W'.heap.size W' (W'.alloc (.cells (rcells s (.slice a n cap) done) 28)) := (Below.refl _ _).alloc (Nat.le_refl _) _
  have hrb := (Array.getElem?_eq_some_iff.1 h.2.2.1).1
  have hlt := ht.2.1.lt
  have hlt1 := ht.1.lt
  have hrb' := (Array.getElem?_eq_some_iff.1 h'.2.2.1).1
  refine ⟨h'.below hal, ⟨ht.2.1.below hal, ?_, heap_alloc_last _ _, fun hx => by have := hlt _ hx; omega, ht.1.2.2.2.2.size⟩, fun y hy hz => ?_⟩
  · exact ((Rf.typed ht.2.1.1 h'.2.1).blk [q, qb, qm] (fun y hy => .inl (by simp at hy ⊢; omega))).below hal
  · rcases List.mem_append.1 (show y ∈ [q, qb, qm] ++ [W'.heap.size] from hy) with hy | hy
    · rcases List.mem_append.1 (show y ∈ [p, nb, mb] ++ [rb] from hz) with hz | hz
      · exact ht.2.2 y hy hz
      · have := hq y hy; simp at hz; omega
    · rcases List.mem_append.1 (show y ∈ [p, nb, mb] ++ [rb] from hz) with hz | hz
      · have := hlt1 y hz; simp at hy; omega
      · simp at hy hz; omega
/-- A fork beside its disk, the document's laid into a box that was made for it. -/
theorem pair_of {w V : World} {p nb mb rb q qb qm xb : Nat} {s : DS} {a : Option Addr} {n cap : Nat} {done : Bool} {z0 z1 z2 z3 z4 z5 z6 : Value} (hst : St w V p nb mb rb s a n cap done) (ht : Two w V p nb mb s q qb qm s) (hz : V.heap[xb]? = some (.cells #[z0, z1, z2, z3, z4, z5, z6] 28 (0, 0)))
    (hx : xb ∉ [p, nb, mb, rb, q, qb, qm]) (hrb : rb ∉ [q, qb, qm]) (hw : w.heap.size ≤ xb) :
    Pair w (((((((V.setCell ⟨xb, 0, none⟩ (.int .i64 s.room)).setCell ⟨xb, 1, none⟩ (.slice a n cap)).setCell ⟨xb, 2, none⟩ (.bool s.down)).setCell ⟨xb, 3, none⟩ (.int .i64 s.ops)).setCell ⟨xb, 4, none⟩ (.int .i64 s.reads)).setCell ⟨xb, 5, none⟩ (.int .i64 s.fails)).setCell ⟨xb, 6, none⟩ (.bool done)) p nb mb rb s a n cap done q qb qm xb s a n cap done := by
  have ho7 := off7 V xb (.int .i64 s.room) (.slice a n cap) (.bool s.down) (.int .i64 s.ops) (.int .i64 s.reads) (.int .i64 s.fails) (.bool done)
  have hone : ∀ y ∈ [xb], w.heap.size ≤ y := fun y hy => by simp at hy; omega
  have hx0 := hx
  have hrb0 := hrb
  simp only [List.mem_cons, List.not_mem_nil, or_false, not_or] at hx hrb
  obtain ⟨x1, x2, x3, x4, x5, x6, x7⟩ := hx
  refine ⟨⟨hst.1.keep ho7 (fun y hy hz => by simp at hy hz; omega) hone, Rf.box hst.2.1 ⟨_, hz⟩ ho7, ?_, hst.2.2.2.1, hst.2.2.2.2⟩, ⟨ht.2.1.keep ho7 (fun y hy hz => by simp at hy hz; omega) hone, ?_, set7 hz, by simp; omega, hw⟩, fun y hy hz => ?_⟩
  · exact (ho7.block rb (Array.getElem?_eq_some_iff.1 hst.2.2.1).1 (by simp; omega)).trans hst.2.2.1
  · have h1 : Rf V [q, qb, qm] _ s := (Rf.typed ht.2.1.1 hst.2.1).blk [q, qb, qm] (fun y hy => .inl (List.mem_append_left [p, nb, mb] hy))
    exact Rf.box h1 ⟨_, hz⟩ ho7
  · rcases List.mem_append.1 (show y ∈ [q, qb, qm] ++ [xb] from hy) with hy | hy
    · rcases List.mem_append.1 (show y ∈ [p, nb, mb] ++ [rb] from hz) with hz | hz
      · exact ht.2.2 y hy hz
      · rw [List.mem_singleton.1 hz] at hy; exact hrb0 hy
    · rw [List.mem_singleton.1 hy] at hz
      exact hx0 (List.mem_append_left [q, qb, qm] hz)
theorem mfork_st {w : World} {p nb mb rb : Nat} {s : DS} {a : Option Addr} {n cap : Nat} {done : Bool} (W : World) (h : St w W p nb mb rb s a n cap done) : Calls Try.prog 13 #[.pointer (some ⟨p, 0, none⟩)] W fun e w' => ∃ q qb qm, e = .returned (.pointer (some ⟨q, 0, none⟩)) ∧ Hid (Two w w' p nb mb s q qb qm s ∧ St w w' p nb mb rb s a n cap done ∧ (∀ y ∈ [q, qb, qm], W.heap.size ≤ y) ∧ Below W.heap.size W w') := by
  refine (fork_any p nb mb s W h.1.1).mono ?_
  rintro e w' ⟨q, qb, qm, rfl, hd, h1, h2, h3, hb⟩
  have hw := h.1.2.2.2.2.size
  refine ⟨q, qb, qm, rfl, ⟨h.1.below hb, ⟨hd, by omega, by omega, by omega, h.1.2.2.2.2.trans (hb.mono hw)⟩, fun x hx hy => ?_⟩, h.below hb, fun y hy => by simp at hy; omega, hb⟩
  have := h.1.lt x hy
  simp at hx
  omega
theorem fork_fresh {w W : World} {p nb mb rb q qb qm : Nat} {s t : DS} {a : Option Addr} {n cap : Nat} {done : Bool} (h : St w W p nb mb rb s a n cap done) (ht : Two w W p nb mb s q qb qm t) : W.heap.size ∉ [p, nb, mb, rb, q, qb, qm] := by
  intro hm
  have h1 := h.1.lt; have h2 := ht.2.1.lt; have h3 := (Array.getElem?_eq_some_iff.1 h.2.2.1).1
  rcases List.mem_append.1 (show W.heap.size ∈ [p, nb, mb] ++ [rb, q, qb, qm] from hm) with hm | hm
  · exact Nat.lt_irrefl _ (h1 _ hm)
  · rcases List.mem_cons.1 hm with e | hm
    · omega
    · exact Nat.lt_irrefl _ (h2 _ hm)
theorem fork_rb {w W : World} {p nb mb rb q qb qm : Nat} {s : DS} {a : Option Addr} {n cap : Nat} {done : Bool} (h : St w W p nb mb rb s a n cap done) (hq : ∀ y ∈ [q, qb, qm], W.heap.size ≤ y) : rb ∉ [q, qb, qm] := by
  intro hm
  have h3 := (Array.getElem?_eq_some_iff.1 h.2.2.1).1
  have := hq _ hm
  omega
theorem fork_fresh2 {w W : World} {p nb mb rb q qb qm : Nat} {s : DS} {a : Option Addr} {n cap : Nat} {done : Bool} {o : Obj} (h : St w W p nb mb rb s a n cap done) (hq : ∀ y ∈ [q, qb, qm], (W.alloc o).heap.size ≤ y) : W.heap.size ∉ [p, nb, mb, rb, q, qb, qm] := by
  intro hm
  have h1 := h.1.lt; have h3 := (Array.getElem?_eq_some_iff.1 h.2.2.1).1
  have h4 : (W.alloc o).heap.size = W.heap.size + 1 := by simp
  rcases List.mem_append.1 (show W.heap.size ∈ [p, nb, mb] ++ [rb, q, qb, qm] from hm) with hm | hm
  · exact Nat.lt_irrefl _ (h1 _ hm)
  · rcases List.mem_cons.1 hm with e | hm
    · omega
    · have := hq _ hm; omega
end Go.Proofs.Ytmapjikbplindaa
