/- Both disks in the hands of a law: the program's, the document's in a box; what the laws ask of the plain disk. -/
import Derived.Test.YtmapjikbplindaaActs
namespace Go.Proofs.Ytmapjikbplindaa
open Go.RowKit Go.Maps
set_option maxRecDepth 20000
set_option linter.unusedVariables false

def St (w0 w : World) (p nb mb rb : Nat) (s : DS) (a : Option Addr) (n cap : Nat) (done : Bool) : Prop :=
  Mine w0 w p nb mb s ∧ Rf w [p, nb, mb] (.agg (rcells s (.slice a n cap) done)) s ∧ w.heap[rb]? = some (.cells (rcells s (.slice a n cap) done) 28 (0, 0)) ∧ rb ∉ [p, nb, mb] ∧ w0.heap.size ≤ rb
theorem St.below {w0 w w' : World} {p nb mb rb : Nat} {s : DS} {a : Option Addr} {n cap : Nat} {done : Bool} (h : St w0 w p nb mb rb s a n cap done) (hb : Below w.heap.size w w') : St w0 w' p nb mb rb s a n cap done :=
  ⟨h.1.below hb, h.2.1.below hb, (hb.block rb (Array.getElem?_eq_some_iff.1 h.2.2.1).1).trans h.2.2.1, h.2.2.2.1, h.2.2.2.2⟩
/-- A fate that came in is in none of the disk's blocks, or is empty. -/
theorem fate_any {w0 w : World} {p nb mb : Nat} {s : DS} (h : Mine w0 w p nb mb s) {fa : Option Addr} {fl fc : Nat} {fs : List Int} (h1 : fs.length = fl) (h2 : fl ≤ fc) (h3 : fc ≤ 9223372036854775807) (hb : BV w0 fa fs) : FV w [p, nb, mb] (.slice fa fl fc) fs := by
  refine ⟨_, fc, by rw [h1], by omega, h3, hb.below h.2.2.2.2, fun hne b' off' e hm => ?_⟩
  rcases hb.2 with e0 | ⟨b, off, rfl, hlt, _⟩
  · exact hne e0
  · simp at e
    have := h.2.1; have := h.2.2.1; have := h.2.2.2.1
    simp at hm
    omega
theorem St.set {w0 w w' : World} {p nb mb rb : Nat} {s t : DS} {a a2 : Option Addr} {n cap n2 cap2 : Nat} {done done2 : Bool} (h : St w0 w p nb mb rb s a n cap done) (hd : Dk w' p nb mb t) (hr : Rf w' [p, nb, mb] (.agg (rcells t (.slice a2 n2 cap2) done2)) t) (ho : Off [p, nb, mb] w w') :
    RC w' rb (.int .i64 s.room) (.slice a n cap) (.bool s.down) (.int .i64 s.ops) (.int .i64 s.reads) (.int .i64 s.fails) (.bool done) ∧
    St w0 (((((((w'.setCell ⟨rb, 0, none⟩ (.int .i64 t.room)).setCell ⟨rb, 1, none⟩ (.slice a2 n2 cap2)).setCell ⟨rb, 2, none⟩ (.bool t.down)).setCell ⟨rb, 3, none⟩ (.int .i64 t.ops)).setCell ⟨rb, 4, none⟩ (.int .i64 t.reads)).setCell ⟨rb, 5, none⟩ (.int .i64 t.fails)).setCell ⟨rb, 6, none⟩ (.bool done2)) p nb mb rb t a2 n2 cap2 done2 := by
  obtain ⟨hm, _, hb, hx, hx2⟩ := h
  have hb' := (ho.block rb (Array.getElem?_eq_some_iff.1 hb).1 hx).trans hb
  have hm' := hm.step hd ho
  have ho7 := off7 w' rb (.int .i64 t.room) (.slice a2 n2 cap2) (.bool t.down) (.int .i64 t.ops) (.int .i64 t.reads) (.int .i64 t.fails) (.bool done2)
  have hp : p ≠ rb ∧ nb ≠ rb ∧ mb ≠ rb := by simp at hx; omega
  refine ⟨RC.of hb', ⟨⟨hd.off ho7 (by simp [hp.1]) (by simp [hp.2.1]) (by simp [hp.2.2]), hm.2.1, hm.2.2.1, hm.2.2.2.1, hm'.2.2.2.2.trans (ho7.below hm'.2.2.2.2.size (by simp; exact hx2))⟩, Rf.box hr ⟨_, hb'⟩ ho7, set7 hb', hx, hx2⟩⟩
theorem st_do {w0 : World} {p nb mb rb : Nat} {s : DS} {a : Option Addr} {n cap : Nat} {done : Bool} (w : World) (h : St w0 w p nb mb rb s a n cap done) (x : ActD) (fa : Option Addr) (fl fc : Nat) (hf : x.Fits) (hv : FV w [p, nb, mb] (.slice fa fl fc) x.fs) :
    Calls Try.prog 11 #[.pointer (some ⟨p, 0, none⟩), .agg (rcells s (.slice a n cap) done), .agg #[.int .u8 x.kd, .int .i64 x.n, .int .u8 x.c, .int .u8 x.cut, .bool x.d, .slice fa fl fc]] w fun e w' => ∃ a2 n2 cap2 done2, e = .returned (.tuple #[.agg (rcells (actsD s x) (.slice a2 n2 cap2) done2), .bool true]) ∧
      RC w' rb (.int .i64 s.room) (.slice a n cap) (.bool s.down) (.int .i64 s.ops) (.int .i64 s.reads) (.int .i64 s.fails) (.bool done) ∧
      St w0 (((((((w'.setCell ⟨rb, 0, none⟩ (.int .i64 (actsD s x).room)).setCell ⟨rb, 1, none⟩ (.slice a2 n2 cap2)).setCell ⟨rb, 2, none⟩ (.bool (actsD s x).down)).setCell ⟨rb, 3, none⟩ (.int .i64 (actsD s x).ops)).setCell ⟨rb, 4, none⟩ (.int .i64 (actsD s x).reads)).setCell ⟨rb, 5, none⟩ (.int .i64 (actsD s x).fails)).setCell ⟨rb, 6, none⟩ (.bool done2)) p nb mb rb (actsD s x) a2 n2 cap2 done2 := by
  refine (do_any p nb mb s _ x.kd x.n x.c x.cut x.d fa fl fc x.fs w h.1.1 h.2.1 hv hf.k0 hf.n1 hf.c0 hf.c1 hf.t0 hf.t1).mono ?_
  rintro e w' ⟨r', rfl, hd, hr, ho⟩
  obtain ⟨a2, n2, cap2, done2, rfl⟩ := hr.open
  obtain ⟨q1, q2⟩ := h.set hd hr ho
  exact ⟨a2, n2, cap2, done2, rfl, q1, q2⟩
/-! ### the plain disk -/
theorem stepS_room (s t : DS) : (stepS s t).room = s.room := by unfold stepS; split <;> rfl
theorem acts_room (s : DS) (x : ActD) : (actsD s x).room = s.room := by
  unfold actsD actS
  split
  · unfold syncS; split
    · rfl
    · exact stepS_room _ _
  · split
    · unfold readS; split <;> rfl
    · split
      · unfold failS; split <;> rfl
      · split
        · rfl
        · unfold writeS; split
          · rfl
          · exact stepS_room _ _
/-- A disk of nine blocks with its power, none loose. -/
structure Calm (s : DS) : Prop where
  room : s.room = 9
  up : s.down = false
  fails : s.fails = -1
theorem calm_crash {s : DS} (h : s.room = 9) (f : List Int) : Calm (crashS s f) := ⟨h, rfl, rfl⟩
theorem Calm.reach {s : DS} (h : Calm s) (n : Int) (h0 : 0 ≤ n) (h9 : n < 9) : reachE s n = 0 := by
  unfold reachE
  rw [h.up, h.room]
  simp only [Bool.false_eq_true, if_false]
  rw [if_neg (by omega)]
theorem Calm.write {s : DS} (h : Calm s) (n : Nat) (h9 : n < 9) (zs : List Int) (hz : zs.length = 256) : writeE s n zs = 0 ∧ Calm (writeS s n zs) ∧ (writeS s n zs).B = upd s.B n zs ∧ (writeS s n zs).S = s.S ∧ (writeS s n zs).L = upd s.L n true ∧ (writeS s n zs).ops = inc s.ops ∧ (writeS s n zs).reads = s.reads := by
  have hr := h.reach n (by omega) (by omega)
  have hf : ¬ s.fails = 0 := by rw [h.fails]; decide
  have e1 : writeE s n zs = 0 := by
    unfold writeE stepE
    rw [if_neg (by simp [hr]), if_neg (by simp [hz]), if_neg hf]
  have e2 : writeS s n zs = stepS s (putS s n zs) := by
    unfold writeS
    rw [if_neg (by simp [hr, hz]), Int.toNat_natCast]
  rw [e1, e2]
  unfold stepS
  rw [if_neg hf]
  refine ⟨rfl, ⟨h.room, h.up, ?_⟩, rfl, rfl, rfl, rfl, rfl⟩
  show (if 0 < s.fails then s.fails - 1 else s.fails) = -1
  rw [h.fails]; rfl
theorem Calm.sync {s : DS} (h : Calm s) : syncE s = 0 ∧ Calm (syncS s) ∧ (syncS s).B = s.B ∧ (syncS s).S = s.B ∧ (syncS s).L = fun _ => false := by
  have hf : ¬ s.fails = 0 := by rw [h.fails]; decide
  unfold syncE syncS stepE
  rw [h.up]
  simp only [Bool.false_eq_true, if_false]
  unfold stepS
  rw [if_neg hf, if_neg hf]
  refine ⟨rfl, ⟨h.room, h.up, ?_⟩, rfl, rfl, rfl⟩
  show (if 0 < s.fails then s.fails - 1 else s.fails) = -1
  rw [h.fails]; rfl
theorem Calm.read {s : DS} (h : Calm s) (n : Nat) (h9 : n < 9) : reachE s n = 0 ∧ Calm (readS s n) ∧ readB s n = s.B n ∧ (readS s n).B = s.B ∧ (readS s n).S = s.S ∧ (readS s n).L = s.L ∧ (readS s n).ops = s.ops := by
  have hr := h.reach n (by omega) (by omega)
  unfold readS readB
  rw [if_neg (by simp [hr]), if_neg (by simp [hr]), Int.toNat_natCast]
  exact ⟨hr, ⟨h.room, h.up, h.fails⟩, rfl, rfl, rfl, rfl, rfl⟩
end Go.Proofs.Ytmapjikbplindaa
