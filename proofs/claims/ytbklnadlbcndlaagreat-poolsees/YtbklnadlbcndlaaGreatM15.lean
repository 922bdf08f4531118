import Derived.Test.YtbklnadlbcndlaaGreatM5
import Derived.Test.YtbklnadlbcndlaaGreatM14
import Derived.Test.YtbklnadlbcndlaaGreatM12
import Derived.Test.YtbklnadlbcndlaaGreatM10
import Derived.Test.YtbklnadlbcndlaaGreatM8
import Derived.StillTailTactics
import Derived.Deep.RegionHeld3
namespace Go.Proofs.YtbklnadlbcndlaaGreat
set_option maxRecDepth 20000
open Go.RowKit
set_option linter.unusedVariables false
structure Ch where
  tb : List Int
  st : Int
  fr : List Int
  dt : Bool
structure SS where
  c : Ch
  l : Ch
  ep : Int
  us : List Int
  bl : Nat
  bad : Bool

def blkI (tb : List Int) (id : Int) : Int := if id < 1 ∨ (tb.length : Int) < id then 0 else tb.getD (id - 1).toNat 0

structure TbOk (bl : Nat) (tb : List Int) : Prop where
  len : tb.length ≤ 3000
  ins : ∀ z ∈ tb, z = 0 ∨ (2 ≤ z ∧ z < bl)
structure ChOk (bl : Nat) (c : Ch) : Prop where
  tb : TbOk bl c.tb
  st : c.st = 0 ∨ blkI c.tb c.st ≠ 0
  frl : c.fr.length = B.makeN bl
  fra : AllB c.fr
structure SS.Ok (s : SS) : Prop where
  bl : s.bl ≤ 4096
  c : ChOk s.bl s.c
  l : ChOk s.bl s.l ∨ s.l = ⟨[], 0, [], false⟩
  usl : s.us.length = B.makeN s.bl
  usa : AllB s.us
  e0 : 0 ≤ s.ep
  e1 : s.ep ≤ 1099511627776

structure Pl where
  p : Nat
  dp : Nat
  nb : Nat
  mb : Nat
  z : List Nat
def Pl.X (k : Pl) : List Nat := k.p :: k.dp :: k.nb :: k.mb :: k.z
def Pl.K (k : Pl) : List Nat := [k.p, k.dp, k.nb, k.mb]
def Pl.D (k : Pl) : List Nat := [k.dp, k.nb, k.mb]

def ShB (w : World) (p : Nat) (c0 c1 c2 c3 c4 c5 c6 c7 c8 c9 c10 c11 c12 c13 c14 : Value) : Prop :=
  w.heap[p]? = some (.cells #[c0, c1, c2, c3, c4, c5, c6, c7, c8, c9, c10, c11, c12, c13, c14] 91 (0, 0))
structure ShC (w : World) (p : Nat) (c0 c1 c2 c3 c4 c5 c6 c7 c8 c9 c10 c11 c12 c13 c14 : Value) : Prop where
  c0 : w.cell? ⟨p, 0, none⟩ = some c0
  c1 : w.cell? ⟨p, 1, none⟩ = some c1
  c2 : w.cell? ⟨p, 2, none⟩ = some c2
  c3 : w.cell? ⟨p, 3, none⟩ = some c3
  c4 : w.cell? ⟨p, 4, none⟩ = some c4
  c5 : w.cell? ⟨p, 5, none⟩ = some c5
  c6 : w.cell? ⟨p, 6, none⟩ = some c6
  c7 : w.cell? ⟨p, 7, none⟩ = some c7
  c8 : w.cell? ⟨p, 8, none⟩ = some c8
  c9 : w.cell? ⟨p, 9, none⟩ = some c9
  c10 : w.cell? ⟨p, 10, none⟩ = some c10
  c11 : w.cell? ⟨p, 11, none⟩ = some c11
  c12 : w.cell? ⟨p, 12, none⟩ = some c12
  c13 : w.cell? ⟨p, 13, none⟩ = some c13
  c14 : w.cell? ⟨p, 14, none⟩ = some c14
  f : ∀ i, w.frozen? ⟨p, i, none⟩ = false
theorem ShB.cells {w : World} {p : Nat} {c0 c1 c2 c3 c4 c5 c6 c7 c8 c9 c10 c11 c12 c13 c14 : Value} (h : ShB w p c0 c1 c2 c3 c4 c5 c6 c7 c8 c9 c10 c11 c12 c13 c14) : ShC w p c0 c1 c2 c3 c4 c5 c6 c7 c8 c9 c10 c11 c12 c13 c14 := by
  refine ⟨?_, ?_, ?_, ?_, ?_, ?_, ?_, ?_, ?_, ?_, ?_, ?_, ?_, ?_, ?_, ?_⟩ <;> first
    | (rw [cell_of_row _ _ _ _ _ _ h]; rfl)
    | (intro i; exact frozen_of_row _ _ _ _ _ h)
theorem ShB.lt {w : World} {p : Nat} {c0 c1 c2 c3 c4 c5 c6 c7 c8 c9 c10 c11 c12 c13 c14 : Value} (h : ShB w p c0 c1 c2 c3 c4 c5 c6 c7 c8 c9 c10 c11 c12 c13 c14) : p < w.heap.size := (Array.getElem?_eq_some_iff.1 h).1
theorem ShB.set0 {w : World} {p : Nat} {c0 c1 c2 c3 c4 c5 c6 c7 c8 c9 c10 c11 c12 c13 c14 : Value} (h : ShB w p c0 c1 c2 c3 c4 c5 c6 c7 c8 c9 c10 c11 c12 c13 c14) (v : Value) : ShB (w.setCell ⟨p, 0, none⟩ v) p v c1 c2 c3 c4 c5 c6 c7 c8 c9 c10 c11 c12 c13 c14 := heap_setCell_same w p _ _ 91 v h
theorem ShB.set1 {w : World} {p : Nat} {c0 c1 c2 c3 c4 c5 c6 c7 c8 c9 c10 c11 c12 c13 c14 : Value} (h : ShB w p c0 c1 c2 c3 c4 c5 c6 c7 c8 c9 c10 c11 c12 c13 c14) (v : Value) : ShB (w.setCell ⟨p, 1, none⟩ v) p c0 v c2 c3 c4 c5 c6 c7 c8 c9 c10 c11 c12 c13 c14 := heap_setCell_same w p _ _ 91 v h
theorem ShB.set2 {w : World} {p : Nat} {c0 c1 c2 c3 c4 c5 c6 c7 c8 c9 c10 c11 c12 c13 c14 : Value} (h : ShB w p c0 c1 c2 c3 c4 c5 c6 c7 c8 c9 c10 c11 c12 c13 c14) (v : Value) : ShB (w.setCell ⟨p, 2, none⟩ v) p c0 c1 v c3 c4 c5 c6 c7 c8 c9 c10 c11 c12 c13 c14 := heap_setCell_same w p _ _ 91 v h
theorem ShB.set3 {w : World} {p : Nat} {c0 c1 c2 c3 c4 c5 c6 c7 c8 c9 c10 c11 c12 c13 c14 : Value} (h : ShB w p c0 c1 c2 c3 c4 c5 c6 c7 c8 c9 c10 c11 c12 c13 c14) (v : Value) : ShB (w.setCell ⟨p, 3, none⟩ v) p c0 c1 c2 v c4 c5 c6 c7 c8 c9 c10 c11 c12 c13 c14 := heap_setCell_same w p _ _ 91 v h
theorem ShB.set4 {w : World} {p : Nat} {c0 c1 c2 c3 c4 c5 c6 c7 c8 c9 c10 c11 c12 c13 c14 : Value} (h : ShB w p c0 c1 c2 c3 c4 c5 c6 c7 c8 c9 c10 c11 c12 c13 c14) (v : Value) : ShB (w.setCell ⟨p, 4, none⟩ v) p c0 c1 c2 c3 v c5 c6 c7 c8 c9 c10 c11 c12 c13 c14 := heap_setCell_same w p _ _ 91 v h
theorem ShB.set5 {w : World} {p : Nat} {c0 c1 c2 c3 c4 c5 c6 c7 c8 c9 c10 c11 c12 c13 c14 : Value} (h : ShB w p c0 c1 c2 c3 c4 c5 c6 c7 c8 c9 c10 c11 c12 c13 c14) (v : Value) : ShB (w.setCell ⟨p, 5, none⟩ v) p c0 c1 c2 c3 c4 v c6 c7 c8 c9 c10 c11 c12 c13 c14 := heap_setCell_same w p _ _ 91 v h
theorem ShB.set6 {w : World} {p : Nat} {c0 c1 c2 c3 c4 c5 c6 c7 c8 c9 c10 c11 c12 c13 c14 : Value} (h : ShB w p c0 c1 c2 c3 c4 c5 c6 c7 c8 c9 c10 c11 c12 c13 c14) (v : Value) : ShB (w.setCell ⟨p, 6, none⟩ v) p c0 c1 c2 c3 c4 c5 v c7 c8 c9 c10 c11 c12 c13 c14 := heap_setCell_same w p _ _ 91 v h
theorem ShB.set7 {w : World} {p : Nat} {c0 c1 c2 c3 c4 c5 c6 c7 c8 c9 c10 c11 c12 c13 c14 : Value} (h : ShB w p c0 c1 c2 c3 c4 c5 c6 c7 c8 c9 c10 c11 c12 c13 c14) (v : Value) : ShB (w.setCell ⟨p, 7, none⟩ v) p c0 c1 c2 c3 c4 c5 c6 v c8 c9 c10 c11 c12 c13 c14 := heap_setCell_same w p _ _ 91 v h
theorem ShB.set8 {w : World} {p : Nat} {c0 c1 c2 c3 c4 c5 c6 c7 c8 c9 c10 c11 c12 c13 c14 : Value} (h : ShB w p c0 c1 c2 c3 c4 c5 c6 c7 c8 c9 c10 c11 c12 c13 c14) (v : Value) : ShB (w.setCell ⟨p, 8, none⟩ v) p c0 c1 c2 c3 c4 c5 c6 c7 v c9 c10 c11 c12 c13 c14 := heap_setCell_same w p _ _ 91 v h
theorem ShB.set9 {w : World} {p : Nat} {c0 c1 c2 c3 c4 c5 c6 c7 c8 c9 c10 c11 c12 c13 c14 : Value} (h : ShB w p c0 c1 c2 c3 c4 c5 c6 c7 c8 c9 c10 c11 c12 c13 c14) (v : Value) : ShB (w.setCell ⟨p, 9, none⟩ v) p c0 c1 c2 c3 c4 c5 c6 c7 c8 v c10 c11 c12 c13 c14 := heap_setCell_same w p _ _ 91 v h
theorem ShB.set11 {w : World} {p : Nat} {c0 c1 c2 c3 c4 c5 c6 c7 c8 c9 c10 c11 c12 c13 c14 : Value} (h : ShB w p c0 c1 c2 c3 c4 c5 c6 c7 c8 c9 c10 c11 c12 c13 c14) (v : Value) : ShB (w.setCell ⟨p, 11, none⟩ v) p c0 c1 c2 c3 c4 c5 c6 c7 c8 c9 c10 v c12 c13 c14 := heap_setCell_same w p _ _ 91 v h
theorem ShB.set12 {w : World} {p : Nat} {c0 c1 c2 c3 c4 c5 c6 c7 c8 c9 c10 c11 c12 c13 c14 : Value} (h : ShB w p c0 c1 c2 c3 c4 c5 c6 c7 c8 c9 c10 c11 c12 c13 c14) (v : Value) : ShB (w.setCell ⟨p, 12, none⟩ v) p c0 c1 c2 c3 c4 c5 c6 c7 c8 c9 c10 c11 v c13 c14 := heap_setCell_same w p _ _ 91 v h
theorem ShB.set13 {w : World} {p : Nat} {c0 c1 c2 c3 c4 c5 c6 c7 c8 c9 c10 c11 c12 c13 c14 : Value} (h : ShB w p c0 c1 c2 c3 c4 c5 c6 c7 c8 c9 c10 c11 c12 c13 c14) (v : Value) : ShB (w.setCell ⟨p, 13, none⟩ v) p c0 c1 c2 c3 c4 c5 c6 c7 c8 c9 c10 c11 c12 v c14 := heap_setCell_same w p _ _ 91 v h
theorem ShB.set14 {w : World} {p : Nat} {c0 c1 c2 c3 c4 c5 c6 c7 c8 c9 c10 c11 c12 c13 c14 : Value} (h : ShB w p c0 c1 c2 c3 c4 c5 c6 c7 c8 c9 c10 c11 c12 c13 c14) (v : Value) : ShB (w.setCell ⟨p, 14, none⟩ v) p c0 c1 c2 c3 c4 c5 c6 c7 c8 c9 c10 c11 c12 c13 v := heap_setCell_same w p _ _ 91 v h

structure Bx (w : World) (k : Pl) (sb db nx : Nat) : Prop where
  hs : w.cell? ⟨sb, 0, none⟩ = some (.pointer (some ⟨k.p, 0, none⟩))
  hd : w.cell? ⟨db, 0, none⟩ = some (.pointer (some ⟨k.dp, 0, none⟩))
  hn : w.cell? ⟨nx, 0, none⟩ = some (.func (.func 164) #[] #[.pointer (some ⟨sb, 0, none⟩)])
  sl : sb < w.heap.size
  dl : db < w.heap.size
  nl : nx < w.heap.size
  sn : sb ∉ k.X
  dn : db ∉ k.X
  nn : nx ∉ k.X
  zl : ∀ x ∈ k.z, x < w.heap.size
def rdF (db nx : Nat) : Value := .func (.func 165) #[] #[.pointer (some ⟨db, 0, none⟩), .pointer (some ⟨nx, 0, none⟩)]
def wrF (db nx : Nat) : Value := .func (.func 166) #[] #[.pointer (some ⟨nx, 0, none⟩), .pointer (some ⟨db, 0, none⟩)]
def syF (db nx : Nat) : Value := .func (.func 167) #[] #[.pointer (some ⟨nx, 0, none⟩), .pointer (some ⟨db, 0, none⟩)]
def ShV (w : World) (k : Pl) (s : SS) (t f t' f' u : Value) (db nx : Nat) : Prop :=
  ShB w k.p t (.int .i64 s.c.st) f (.bool s.c.dt) t' (.int .i64 s.l.st) f' (.bool s.l.dt) (.int .i64 s.ep) u (.int .i64 (s.bl : Int)) (.bool s.bad) (rdF db nx) (wrF db nx) (syF db nx)
structure ShM (w : World) (k : Pl) (s : SS) (t f t' f' u : Value) (sb db nx : Nat) : Prop where
  v : ShV w k s t f t' f' u db nx
  ht : FI w k.X t s.c.tb
  hf : FB w k.X f s.c.fr
  ht' : FI w k.X t' s.l.tb
  hf' : FB w k.X f' s.l.fr
  hu : FB w k.X u s.us
  hb : Bx w k sb db nx
structure Sh (w : World) (k : Pl) (s : SS) (d : D.DS) : Prop where
  ok : s.Ok
  dk : D.Dk w k.dp k.nb k.mb d
  room : d.room = s.bl
  pn : k.p ∉ k.D
  mem : ∃ t f t' f' u sb db nx, ShM w k s t f t' f' u sb db nx

theorem Bx.off {w w' : World} {k : Pl} {sb db nx : Nat} {Y : List Nat} (h : Bx w k sb db nx) (ho : D.Off Y w w') (hs : ∀ y ∈ Y, y ∈ k.X) : Bx w' k sb db nx := by
  obtain ⟨h1, h2, h3, h4, h5, h6, h7, h8, h9, h10⟩ := h
  have q : ∀ b, b < w.heap.size → b ∉ k.X → w'.cell? ⟨b, 0, none⟩ = w.cell? ⟨b, 0, none⟩ := fun b hb hn => by
    simp only [World.cell?, ho.block b hb (fun hm => hn (hs b hm))]
  exact ⟨(q _ h4 h7).trans h1, (q _ h5 h8).trans h2, (q _ h6 h9).trans h3, Nat.lt_of_lt_of_le h4 ho.size, Nat.lt_of_lt_of_le h5 ho.size, Nat.lt_of_lt_of_le h6 ho.size, h7, h8, h9, fun x hx => Nat.lt_of_lt_of_le (h10 x hx) ho.size⟩
theorem ShM.off {w w' : World} {k : Pl} {s : SS} {t f t' f' u : Value} {sb db nx : Nat} {Y : List Nat} (h : ShM w k s t f t' f' u sb db nx) (ho : D.Off Y w w') (hs : ∀ y ∈ Y, y ∈ k.X) (hp : k.p ∉ Y) : ShM w' k s t f t' f' u sb db nx :=
  ⟨(ho.block k.p h.v.lt hp).trans h.v, h.ht.off ho hs, h.hf.off ho hs, h.ht'.off ho hs, h.hf'.off ho hs, h.hu.off ho hs, h.hb.off ho hs⟩
theorem Sh.below {w w' : World} {k : Pl} {s : SS} {d : D.DS} (h : Sh w k s d) (hb : Below w.heap.size w w') : Sh w' k s d := by
  obtain ⟨ok, dk, room, pn, t, f, t', f', u, sb, db, nx, hm⟩ := h
  exact ⟨ok, dk.below hb, room, pn, t, f, t', f', u, sb, db, nx, hm.off (D.Off.of_below (X := []) hb) (by simp) (by simp)⟩
theorem Pl.kx (k : Pl) : ∀ y ∈ k.K, y ∈ k.X := fun y hy => by simp only [Pl.K, Pl.X, List.mem_cons, List.not_mem_nil, or_false] at hy ⊢; rcases hy with h | h | h | h <;> simp [h]
theorem Pl.subK (k : Pl) : ∀ y ∈ k.D, y ∈ k.K := fun y hy => List.mem_cons_of_mem _ hy
theorem Pl.sub (k : Pl) : ∀ y ∈ k.D, y ∈ k.X := fun y hy => k.kx y (k.subK y hy)
theorem Sh.disk {w w' : World} {k : Pl} {s : SS} {d d' : D.DS} (h : Sh w k s d) (hd : D.Dk w' k.dp k.nb k.mb d') (hr : d'.room = d.room) (ho : D.Off k.D w w') : Sh w' k s d' := by
  obtain ⟨ok, dk, room, pn, t, f, t', f', u, sb, db, nx, hm⟩ := h
  exact ⟨ok, hd, hr.trans room, pn, t, f, t', f', u, sb, db, nx, hm.off ho k.sub pn⟩
theorem Pl.psK (k : Pl) : ∀ y ∈ [k.p], y ∈ k.K := fun y hy => by simp at hy; subst hy; simp [Pl.K]
theorem Pl.ps (k : Pl) : ∀ y ∈ [k.p], y ∈ k.X := fun y hy => k.kx y (k.psK y hy)
theorem keepP {w w' : World} {k : Pl} {d : D.DS} (h : D.Dk w k.dp k.nb k.mb d) (pn : k.p ∉ k.D) (ho : D.Off [k.p] w w') : D.Dk w' k.dp k.nb k.mb d := by
  simp [Pl.D] at pn
  exact h.off ho (by simp; exact fun e => pn.1 e.symm) (by simp; exact fun e => pn.2.1 e.symm) (by simp; exact fun e => pn.2.2 e.symm)
end Go.Proofs.YtbklnadlbcndlaaGreat
namespace Go.Proofs.YtbklnadlbcndlaaGreat
set_option maxRecDepth 20000
open Go.RowKit
set_option linter.unusedVariables false
def SS.note (s : SS) (e : Int) : SS := { s with bad := s.bad || decide (e ≠ 0) }
theorem ShM.note {w w' : World} {k : Pl} {s : SS} {t f t' f' u : Value} {sb db nx : Nat} (h : ShM w k s t f t' f' u sb db nx) (b : Bool) (ho : D.Off [k.p] w w') (hv : w'.heap[k.p]? = (w.setCell ⟨k.p, 11, none⟩ (.bool b)).heap[k.p]?) : ShM w' k { s with bad := b } t f t' f' u sb db nx := by
  have hs := k.ps
  refine ⟨?_, h.ht.off ho hs, h.hf.off ho hs, h.ht'.off ho hs, h.hf'.off ho hs, h.hu.off ho hs, h.hb.off ho hs⟩
  have := ShB.set11 h.v (.bool b)
  unfold ShV ShB
  rw [hv]
  exact this
set_option maxHeartbeats 400000 in
theorem note_any {k : Pl} {s : SS} {t f t' f' u : Value} {sb db nx : Nat} (e : Int) (w : World) (h : ShM w k s t f t' f' u sb db nx) :
    Calls Tryz.prog 164 #[.int .i64 e, .pointer (some ⟨sb, 0, none⟩)] w fun r w' => r = .returned (.int .i64 e) ∧ ShM w' k (s.note e) t f t' f' u sb db nx ∧ D.Off [k.p] w w' := by
  have hsb := h.hb.hs
  have hc := h.v.cells
  have c11 := hc.c11
  have f11 := hc.f 11
  have HH : Hid (ShM w k s t f t' f' u sb db nx) := h
  have HE : Hid (∀ b, ShM (w.drew.setCell ⟨k.p, 11, none⟩ (.bool b)) k { s with bad := b } t f t' f' u sb db nx ∧ D.Off [k.p] w (w.drew.setCell ⟨k.p, 11, none⟩ (.bool b))) := fun b => by
    have ho : D.Off [k.p] w (w.drew.setCell ⟨k.p, 11, none⟩ (.bool b)) := ((D.Off.refl _ _).drew).setCell (by simp) _
    exact ⟨h.note b ho rfl, ho⟩
  unfold SS.note
  clear h hc
  cases hb : s.bad
  · rw [hb] at c11
    by_cases he : e = 0
    · subst he
      go_enter Tryz.func164, Tryz.ntmps164
      go_wp2_with fail
      refine wp_region_still_tail 11 (by kernel_rfl) (by kernel_rfl) ?_
      simp only [List.take_succ_cons, List.take_zero, List.drop_succ_cons, List.drop_zero]
      iterate 11 still_step
      refine wpStill_nil ?_
      go_wp2_with fail
      go_ret
      exact ⟨rfl, HE.out false⟩
    · have he' : (e == 0) = false := by simpa using he
      have he2 : decide (e ≠ 0) = true := by simpa using he
      have he3 : (e != 0) = true := by simp [he]
      go_enter Tryz.func164, Tryz.ntmps164
      go_wp2_with fail
      refine wp_region_still_tail 11 (by kernel_rfl) (by kernel_rfl) ?_
      simp only [List.take_succ_cons, List.take_zero, List.drop_succ_cons, List.drop_zero]
      iterate 11 still_step
      refine wpStill_nil ?_
      go_wp2_with fail
      go_ret
      rw [he2]
      exact ⟨rfl, HE.out true⟩
  · rw [hb] at c11
    go_enter Tryz.func164, Tryz.ntmps164
    go_wp2_with fail
    refine wp_region_still_tail 11 (by kernel_rfl) (by kernel_rfl) ?_
    simp only [List.take_succ_cons, List.take_zero, List.drop_succ_cons, List.drop_zero]
    iterate 11 still_step
    refine wpStill_nil ?_
    go_wp2_with fail
    go_ret
    exact ⟨rfl, HE.out true⟩
structure Sx (w : World) (k : Pl) (s : SS) (d : D.DS) (t f t' f' u : Value) (sb db nx : Nat) : Prop where
  dk : D.Dk w k.dp k.nb k.mb d
  pn : k.p ∉ k.D
  m : ShM w k s t f t' f' u sb db nx
theorem Sx.below {w w' : World} {k : Pl} {s : SS} {d : D.DS} {t f t' f' u : Value} {sb db nx : Nat} (h : Sx w k s d t f t' f' u sb db nx) (hb : Below w.heap.size w w') : Sx w' k s d t f t' f' u sb db nx :=
  ⟨h.dk.below hb, h.pn, h.m.off (D.Off.of_below (X := []) hb) (by simp) (by simp)⟩
theorem Sx.disk {w w' : World} {k : Pl} {s : SS} {d d' : D.DS} {t f t' f' u : Value} {sb db nx : Nat} (h : Sx w k s d t f t' f' u sb db nx) (hd : D.Dk w' k.dp k.nb k.mb d') (ho : D.Off k.D w w') : Sx w' k s d' t f t' f' u sb db nx :=
  ⟨hd, h.pn, h.m.off ho k.sub h.pn⟩
theorem Sx.noted {w w' : World} {k : Pl} {s s' : SS} {d : D.DS} {t f t' f' u : Value} {sb db nx : Nat} (h : Sx w k s d t f t' f' u sb db nx) (hm : ShM w' k s' t f t' f' u sb db nx) (ho : D.Off [k.p] w w') : Sx w' k s' d t f t' f' u sb db nx :=
  ⟨keepP h.dk h.pn ho, h.pn, hm⟩
theorem Sx.lt {w : World} {k : Pl} {s : SS} {d : D.DS} {t f t' f' u : Value} {sb db nx : Nat} (h : Sx w k s d t f t' f' u sb db nx) : ∀ x ∈ k.X, x < w.heap.size := by
  have h1 := h.dk.ne
  have h2 := h.m.v.lt
  intro x hx
  simp only [Pl.X, List.mem_cons] at hx
  rcases hx with hx | hx | hx | hx | h'
  · omega
  · omega
  · omega
  · omega
  · exact h.m.hb.zl x h'
theorem Pl.offD {k : Pl} {w w' : World} (h : D.Off k.D w w') : D.Off k.K w w' := h.mono k.subK
theorem Pl.offP {k : Pl} {w w' : World} (h : D.Off [k.p] w w') : D.Off k.K w w' := h.mono k.psK
theorem off_below {k : Pl} {w w' : World} (h : Below w.heap.size w w') : D.Off k.K w w' := D.Off.of_below h
end Go.Proofs.YtbklnadlbcndlaaGreat
namespace Go.Proofs.YtbklnadlbcndlaaGreat
set_option maxRecDepth 20000
open Go.RowKit
set_option linter.unusedVariables false
set_option linter.unusedSimpArgs false
set_option maxHeartbeats 800000 in
theorem sync_sx {k : Pl} {s : SS} {d : D.DS} {t f t' f' u : Value} {sb db nx : Nat}  (w : World) (h : Sx w k s d t f t' f' u sb db nx)  :
    Calls Tryz.prog 167 #[.pointer (some ⟨nx, 0, none⟩), .pointer (some ⟨db, 0, none⟩)] w fun r w' => r = .returned (.int .i64 (D.syncE d)) ∧ Sx w' k (s.note (D.syncE d)) (D.syncS d) t f t' f' u sb db nx ∧ D.Off k.K w w' := by
  have HN := h.m.hb.hn
  have HDb := h.m.hb.hd
  have H1 : Hid (Calls Tryz.prog 84 #[.pointer (some ⟨k.dp, 0, none⟩)] w.drew fun r w' => r = .returned (.int .i64 (D.syncE d)) ∧ Sx w' k s (D.syncS d) t f t' f' u sb db nx ∧ D.Off k.D w.drew w') := by
    refine (D.sync_any k.dp k.nb k.mb d w.drew (h.dk.below (Below.refl _ _).drew)).mono ?_
    rintro r w' ⟨rfl, hd, ho⟩
    exact ⟨rfl, (h.below (Below.refl _ _).drew).disk hd ho, ho⟩
  have H2 : Hid (∀ W, Sx W k s (D.syncS d) t f t' f' u sb db nx → Calls Tryz.prog 164 #[.int .i64 (D.syncE d), .pointer (some ⟨sb, 0, none⟩)] W fun r w' => r = .returned (.int .i64 (D.syncE d)) ∧ Sx w' k (s.note (D.syncE d)) (D.syncS d) t f t' f' u sb db nx ∧ D.Off [k.p] W w') := by
    intro W hW
    refine (note_any (D.syncE d) W hW.m).mono ?_
    rintro r w' ⟨rfl, hm, ho⟩
    exact ⟨rfl, hW.noted hm ho, ho⟩
  have HO0 : Hid (D.Off k.K w w.drew) := off_below (Below.refl _ _).drew
  generalize D.syncE d = er at *
  clear h
  go_enter Tryz.func167, Tryz.ntmps167
  go_wp2_with fail
  refine wp_region_noPanic ?_
  refine name_ops ?_
  intro O QQ HO HQ
  refine wp_region_held_drew (S := (fun W => W.cell? ⟨nx, 0, none⟩ = some (.func (.func 164) #[] #[.pointer (some ⟨sb, 0, none⟩)]) ∧ W.cell? ⟨db, 0, none⟩ = some (.pointer (some ⟨k.dp, 0, none⟩)))) (by kernel_rfl) ⟨HN, HDb⟩ (fun hS => ?_)
  rw [show O.size = 5 by rw [HO.out]; rfl]
  refine wpAnyH_take (i := 0) (v := .func (.func 164) #[] #[.pointer (some ⟨sb, 0, none⟩)]) (by rw [HO.out]; simp only [List.getElem?_toArray, List.getElem?_cons_succ, List.getElem?_cons_zero]; rfl) (by rw [HO.out]; kernel_rfl) (by rw [HO.out]; kernel_rfl) (by rw [HO.out]; kernel_rfl) (by rw [HQ.out]; exact fun _ _ _ h => h) (Or.inl ⟨by rfl, ?_⟩) hS ?_
  · intro w' hSw
    obtain ⟨q1, q2⟩ := hSw
    go_simp
  try simp only [Act.put, List.setIfInBounds_toArray, List.set_cons_zero, List.set_cons_succ]
  refine wpAnyH_take (i := 1) (v := .pointer (some ⟨k.dp, 0, none⟩)) (by rw [HO.out]; simp only [List.getElem?_toArray, List.getElem?_cons_succ, List.getElem?_cons_zero]; rfl) (by rw [HO.out]; kernel_rfl) (by rw [HO.out]; kernel_rfl) (by rw [HO.out]; kernel_rfl) (by rw [HQ.out]; exact fun _ _ _ h => h) (Or.inl ⟨by rfl, ?_⟩) hS ?_
  · intro w' hSw
    obtain ⟨q1, q2⟩ := hSw
    go_simp
  try simp only [Act.put, List.setIfInBounds_toArray, List.set_cons_zero, List.set_cons_succ]
  refine wpAnyH_ready (rs := [2]) (by rw [HO.out]; kernel_rfl) (by simp) ?_
  refine AllReadyH.cons (o := _) (by rw [HO.out]; simp only [List.getElem?_toArray, List.getElem?_cons_succ, List.getElem?_cons_zero]; rfl) (fun K2 hK2 => ?_) AllReadyH.nil
  go_simp
  refine H1.out.mono ?_
  rintro e w1 ⟨rfl, hx1, ho1⟩
  refine hK2.out _ _ ⟨hx1.m.hb.hn, hx1.m.hb.hd⟩ (fun hS1 => ?_)
  have HO1 : Hid (D.Off k.K w w1) := HO0.out.trans (Pl.offD ho1)
  have HX2 := H2.out _ hx1
  clear H1 H2 hx1 ho1 HO0
  refine wpAnyH_ready (rs := [3]) (by rw [HO.out]; kernel_rfl) (by simp) ?_
  refine AllReadyH.cons (o := _) (by rw [HO.out]; simp only [List.getElem?_toArray, List.getElem?_cons_succ, List.getElem?_cons_zero]; rfl) (fun K3 hK3 => ?_) AllReadyH.nil
  go_simp
  refine HX2.mono ?_
  rintro e w2 ⟨rfl, hx2, ho2⟩
  refine hK3.out _ _ ⟨hx2.m.hb.hn, hx2.m.hb.hd⟩ (fun hS2 => ?_)
  have HX : Hid (Sx w2 k _ _ t f t' f' u sb db nx) := hx2
  have HO2 : Hid (D.Off k.K w w2) := HO1.out.trans (Pl.offP ho2)
  clear hx2 ho2 HX2 HO1
  refine wpAnyH_take (i := 4) (v := .int .i64 er) (by rw [HO.out]; simp only [List.getElem?_toArray, List.getElem?_cons_succ, List.getElem?_cons_zero]; rfl) (by rw [HO.out]; kernel_rfl) (by rw [HO.out]; kernel_rfl) (by rw [HO.out]; kernel_rfl) (by rw [HQ.out]; exact fun _ _ _ h => h) (Or.inl ⟨by rfl, ?_⟩) hS2 ?_
  · intro w' hSw
    go_simp
  try simp only [Act.put, List.setIfInBounds_toArray, List.set_cons_zero, List.set_cons_succ]
  refine wpAnyH_done (by rw [HO.out]; kernel_rfl) ?_ _
  rw [HQ.out]
  refine NoPanic.normal ?_
  go_wp2_with fail
  go_ret
  exact ⟨rfl, HX.out, HO2.out⟩
set_option maxHeartbeats 800000 in
theorem write_sx {k : Pl} {s : SS} {d : D.DS} {t f t' f' u : Value} {sb db nx : Nat} (n : Int) (a : Option Addr) (cap : Nat) (zs : List Int) (w : World) (h : Sx w k s d t f t' f' u sb db nx) (hv : BV w a zs) (hm : zs.length ≤ 9223372036854775807) (hax : ∀ b off, a = some ⟨b, off, none⟩ → b ∉ k.D) :
    Calls Tryz.prog 166 #[.int .i64 n, .slice a zs.length cap, .pointer (some ⟨nx, 0, none⟩), .pointer (some ⟨db, 0, none⟩)] w fun r w' => r = .returned (.int .i64 (D.writeE d n zs)) ∧ Sx w' k (s.note (D.writeE d n zs)) (D.writeS d n zs) t f t' f' u sb db nx ∧ D.Off k.K w w' := by
  have HN := h.m.hb.hn
  have HDb := h.m.hb.hd
  have H1 : Hid (Calls Tryz.prog 93 #[.pointer (some ⟨k.dp, 0, none⟩), .int .i64 n, .slice a zs.length cap] w.drew fun r w' => r = .returned (.int .i64 (D.writeE d n zs)) ∧ Sx w' k s (D.writeS d n zs) t f t' f' u sb db nx ∧ D.Off k.D w.drew w') := by
    refine (D.write_any k.dp k.nb k.mb d n a zs.length cap zs w.drew (h.dk.below (Below.refl _ _).drew) (hv.below (Below.refl _ _).drew) rfl hm hax).mono ?_
    rintro r w' ⟨rfl, hd, ho⟩
    exact ⟨rfl, (h.below (Below.refl _ _).drew).disk hd ho, ho⟩
  have H2 : Hid (∀ W, Sx W k s (D.writeS d n zs) t f t' f' u sb db nx → Calls Tryz.prog 164 #[.int .i64 (D.writeE d n zs), .pointer (some ⟨sb, 0, none⟩)] W fun r w' => r = .returned (.int .i64 (D.writeE d n zs)) ∧ Sx w' k (s.note (D.writeE d n zs)) (D.writeS d n zs) t f t' f' u sb db nx ∧ D.Off [k.p] W w') := by
    intro W hW
    refine (note_any (D.writeE d n zs) W hW.m).mono ?_
    rintro r w' ⟨rfl, hm, ho⟩
    exact ⟨rfl, hW.noted hm ho, ho⟩
  have HO0 : Hid (D.Off k.K w w.drew) := off_below (Below.refl _ _).drew
  generalize D.writeE d n zs = er at *
  clear h
  go_enter Tryz.func166, Tryz.ntmps166
  go_wp2_with fail
  refine wp_region_noPanic ?_
  refine name_ops ?_
  intro O QQ HO HQ
  refine wp_region_held_drew (S := (fun W => W.cell? ⟨nx, 0, none⟩ = some (.func (.func 164) #[] #[.pointer (some ⟨sb, 0, none⟩)]) ∧ W.cell? ⟨db, 0, none⟩ = some (.pointer (some ⟨k.dp, 0, none⟩)))) (by kernel_rfl) ⟨HN, HDb⟩ (fun hS => ?_)
  rw [show O.size = 7 by rw [HO.out]; rfl]
  refine wpAnyH_take (i := 0) (v := .func (.func 164) #[] #[.pointer (some ⟨sb, 0, none⟩)]) (by rw [HO.out]; simp only [List.getElem?_toArray, List.getElem?_cons_succ, List.getElem?_cons_zero]; rfl) (by rw [HO.out]; kernel_rfl) (by rw [HO.out]; kernel_rfl) (by rw [HO.out]; kernel_rfl) (by rw [HQ.out]; exact fun _ _ _ h => h) (Or.inl ⟨by rfl, ?_⟩) hS ?_
  · intro w' hSw
    obtain ⟨q1, q2⟩ := hSw
    go_simp
  try simp only [Act.put, List.setIfInBounds_toArray, List.set_cons_zero, List.set_cons_succ]
  refine wpAnyH_take (i := 1) (v := .pointer (some ⟨k.dp, 0, none⟩)) (by rw [HO.out]; simp only [List.getElem?_toArray, List.getElem?_cons_succ, List.getElem?_cons_zero]; rfl) (by rw [HO.out]; kernel_rfl) (by rw [HO.out]; kernel_rfl) (by rw [HO.out]; kernel_rfl) (by rw [HQ.out]; exact fun _ _ _ h => h) (Or.inl ⟨by rfl, ?_⟩) hS ?_
  · intro w' hSw
    obtain ⟨q1, q2⟩ := hSw
    go_simp
  try simp only [Act.put, List.setIfInBounds_toArray, List.set_cons_zero, List.set_cons_succ]
  refine wpAnyH_take (i := 2) (v := .int .i64 n) (by rw [HO.out]; simp only [List.getElem?_toArray, List.getElem?_cons_succ, List.getElem?_cons_zero]; rfl) (by rw [HO.out]; kernel_rfl) (by rw [HO.out]; kernel_rfl) (by rw [HO.out]; kernel_rfl) (by rw [HQ.out]; exact fun _ _ _ h => h) (Or.inl ⟨by rfl, ?_⟩) hS ?_
  · intro w' hSw
    go_simp
  try simp only [Act.put, List.setIfInBounds_toArray, List.set_cons_zero, List.set_cons_succ]
  refine wpAnyH_take (i := 3) (v := .slice a zs.length cap) (by rw [HO.out]; simp only [List.getElem?_toArray, List.getElem?_cons_succ, List.getElem?_cons_zero]; rfl) (by rw [HO.out]; kernel_rfl) (by rw [HO.out]; kernel_rfl) (by rw [HO.out]; kernel_rfl) (by rw [HQ.out]; exact fun _ _ _ h => h) (Or.inl ⟨by rfl, ?_⟩) hS ?_
  · intro w' hSw
    go_simp
  try simp only [Act.put, List.setIfInBounds_toArray, List.set_cons_zero, List.set_cons_succ]
  refine wpAnyH_ready (rs := [4]) (by rw [HO.out]; kernel_rfl) (by simp) ?_
  refine AllReadyH.cons (o := _) (by rw [HO.out]; simp only [List.getElem?_toArray, List.getElem?_cons_succ, List.getElem?_cons_zero]; rfl) (fun K4 hK4 => ?_) AllReadyH.nil
  go_simp
  refine H1.out.mono ?_
  rintro e w1 ⟨rfl, hx1, ho1⟩
  refine hK4.out _ _ ⟨hx1.m.hb.hn, hx1.m.hb.hd⟩ (fun hS1 => ?_)
  have HO1 : Hid (D.Off k.K w w1) := HO0.out.trans (Pl.offD ho1)
  have HX2 := H2.out _ hx1
  clear H1 H2 hx1 ho1 HO0
  refine wpAnyH_ready (rs := [5]) (by rw [HO.out]; kernel_rfl) (by simp) ?_
  refine AllReadyH.cons (o := _) (by rw [HO.out]; simp only [List.getElem?_toArray, List.getElem?_cons_succ, List.getElem?_cons_zero]; rfl) (fun K5 hK5 => ?_) AllReadyH.nil
  go_simp
  refine HX2.mono ?_
  rintro e w2 ⟨rfl, hx2, ho2⟩
  refine hK5.out _ _ ⟨hx2.m.hb.hn, hx2.m.hb.hd⟩ (fun hS2 => ?_)
  have HX : Hid (Sx w2 k _ _ t f t' f' u sb db nx) := hx2
  have HO2 : Hid (D.Off k.K w w2) := HO1.out.trans (Pl.offP ho2)
  clear hx2 ho2 HX2 HO1
  refine wpAnyH_take (i := 6) (v := .int .i64 er) (by rw [HO.out]; simp only [List.getElem?_toArray, List.getElem?_cons_succ, List.getElem?_cons_zero]; rfl) (by rw [HO.out]; kernel_rfl) (by rw [HO.out]; kernel_rfl) (by rw [HO.out]; kernel_rfl) (by rw [HQ.out]; exact fun _ _ _ h => h) (Or.inl ⟨by rfl, ?_⟩) hS2 ?_
  · intro w' hSw
    go_simp
  try simp only [Act.put, List.setIfInBounds_toArray, List.set_cons_zero, List.set_cons_succ]
  refine wpAnyH_done (by rw [HO.out]; kernel_rfl) ?_ _
  rw [HQ.out]
  refine NoPanic.normal ?_
  go_wp2_with fail
  go_ret
  exact ⟨rfl, HX.out, HO2.out⟩
set_option maxHeartbeats 800000 in
theorem read_sx {k : Pl} {s : SS} {d : D.DS} {t f t' f' u : Value} {sb db nx : Nat} (n : Int) (w : World) (h : Sx w k s d t f t' f' u sb db nx) :
    Calls Tryz.prog 165 #[.int .i64 n, .pointer (some ⟨db, 0, none⟩), .pointer (some ⟨nx, 0, none⟩)] w fun r w' => ∃ v, r = .returned (.tuple #[v, .int .i64 (D.reachE d n)]) ∧ FB w' k.X v (D.readB d n) ∧ Sx w' k (s.note (D.reachE d n)) (D.readS d n) t f t' f' u sb db nx ∧ D.Off k.K w w' := by
  have HN := h.m.hb.hn
  have HDb := h.m.hb.hd
  have H1 : Hid (Calls Tryz.prog 86 #[.pointer (some ⟨k.dp, 0, none⟩), .int .i64 n] w fun r w' => ∃ v, r = .returned (.tuple #[v, .int .i64 (D.reachE d n)]) ∧ FB w' k.X v (D.readB d n) ∧ Sx w' k s (D.readS d n) t f t' f' u sb db nx ∧ D.Off k.D w w') := by
    refine (D.read_any k.dp k.nb k.mb d n w h.dk).mono ?_
    rintro r w' ⟨v, rfl, hown, hd, ho⟩
    exact ⟨v, rfl, fb_own hown (D.readB_allB h.dk.1 n) h.lt, h.disk hd ho, ho⟩
  have H2 : Hid (∀ W, Sx W k s (D.readS d n) t f t' f' u sb db nx → Calls Tryz.prog 164 #[.int .i64 (D.reachE d n), .pointer (some ⟨sb, 0, none⟩)] W fun r w' => r = .returned (.int .i64 (D.reachE d n)) ∧ Sx w' k (s.note (D.reachE d n)) (D.readS d n) t f t' f' u sb db nx ∧ D.Off [k.p] W w') := by
    intro W hW
    refine (note_any (D.reachE d n) W hW.m).mono ?_
    rintro r w' ⟨rfl, hm, ho⟩
    exact ⟨rfl, hW.noted hm ho, ho⟩
  generalize D.reachE d n = er at *
  clear h
  go_enter Tryz.func165, Tryz.ntmps165
  go_wp2_with (first | (go_at_call 86; refine H1.out.mono ?_; rintro e w1 ⟨v, rfl, hv, hx1, ho1⟩; have HN1 := hx1.m.hb.hn; have HX2 := H2.out _ hx1; have HV : Hid (FB w1 k.X v (D.readB d n)) := hv; have HO1 : Hid (D.Off k.K w w1) := Pl.offD ho1; clear H1 H2 hx1 ho1 hv) | (go_at_call 164; refine HX2.mono ?_; rintro e w2 ⟨rfl, hx2, ho2⟩; have HX : Hid (Sx w2 k _ _ t f t' f' u sb db nx) := hx2; have HO2 : Hid (D.Off [k.p] w1 w2) := ho2; clear hx2 ho2 HX2) | fail)
  exact bodyPost_ret (v := .tuple #[v, .int .i64 er]) (by simp [results, Tryz.results165, go_sem]) rfl ⟨v, rfl, HV.out.off HO2.out k.ps, HX.out, HO1.out.trans (Pl.offP HO2.out)⟩
end Go.Proofs.YtbklnadlbcndlaaGreat
namespace Go.Proofs.YtbklnadlbcndlaaGreat
set_option maxRecDepth 20000
open Go.RowKit
set_option linter.unusedVariables false
set_option linter.unusedSimpArgs false
def readyE (s : SS) : Int := if s.bad then 15 else 0
def findE (s : SS) (id : Int) : Int := if s.bad then 15 else if blkI s.c.tb id = 0 then 8 else 0
def findN (s : SS) (id : Int) : Int := if s.bad then 0 else blkI s.c.tb id
set_option maxHeartbeats 400000 in
theorem ready_s {k : Pl} {s : SS} {d : D.DS} {t f t' f' u : Value} {sb db nx : Nat} (w : World) (h : Sx w k s d t f t' f' u sb db nx) : Calls Tryz.prog 117 #[.pointer (some ⟨k.p, 0, none⟩)] w fun e w' => e = .returned (.int .i64 (readyE s)) ∧ w' = w := by
  have c := h.m.v.cells.c11
  unfold readyE
  cases hb : s.bad
  · rw [hb] at c
    go_enter Tryz.func117, Tryz.ntmps117
    go_wp2
    go_ret
    exact ⟨rfl, rfl⟩
  · rw [hb] at c
    go_enter Tryz.func117, Tryz.ntmps117
    go_wp2
    go_ret
    exact ⟨rfl, rfl⟩
set_option maxHeartbeats 400000 in
theorem block_s {k : Pl} {s : SS} {d : D.DS} {t f t' f' u : Value} {sb db nx : Nat} (id : Int) (w : World) (h : Sx w k s d t f t' f' u sb db nx) (hl : s.c.tb.length ≤ 100000) : Calls Tryz.prog 179 #[.pointer (some ⟨k.p, 0, none⟩), .int .i64 id] w fun e w' => e = .returned (.int .i64 (blkI s.c.tb id)) ∧ w' = w := by
  have c := h.m.v.cells.c0
  obtain ⟨a, cap, rfl, _, _, _, hiv, _⟩ := h.m.ht
  by_cases h1 : id < 1
  · have e1 : blkI s.c.tb id = 0 := if_pos (Or.inl h1)
    have hd : decide (id < 1) = true := by simpa using h1
    rw [e1]
    go_enter Tryz.func179, Tryz.ntmps179
    go_wp2
    go_ret
    exact ⟨rfl, rfl⟩
  · have hd : decide (id < 1) = false := by simpa using h1
    by_cases h2 : (s.c.tb.length : Int) < id
    · have e1 : blkI s.c.tb id = 0 := if_pos (Or.inr h2)
      have hd2 : decide ((s.c.tb.length : Int) < id) = true := by simpa using h2
      rw [e1]
      go_enter Tryz.func179, Tryz.ntmps179
      go_wp2
      go_ret
      exact ⟨rfl, rfl⟩
    · have e1 : blkI s.c.tb id = s.c.tb.getD (id - 1).toNat 0 := if_neg (by rintro (h | h); exact h1 h; exact h2 h)
      have hd2 : decide ((s.c.tb.length : Int) < id) = false := by simpa using h2
      obtain ⟨n, rfl⟩ : ∃ n : Nat, id = (n : Int) + 1 := ⟨(id - 1).toNat, by omega⟩
      rw [show ((n : Int) + 1 - 1).toNat = n by omega] at e1
      rw [e1]
      have hn : n < s.c.tb.length := by omega
      rcases hiv with hnil | ⟨b, off, rfl, hlt, hc⟩
      · rw [hnil] at hn; simp at hn
      · have hcn := hc n hn
        have hw : ((n : Int) + 1 - 1) = n := by omega
        clear hc e1 h1 h2 h
        generalize s.c.tb.getD n 0 = y at *
        generalize s.c.tb.length = m at *
        go_enter Tryz.func179, Tryz.ntmps179
        go_wp2
        go_ret
        exact ⟨rfl, rfl⟩
set_option maxHeartbeats 400000 in
theorem find_s {k : Pl} {s : SS} {d : D.DS} {t f t' f' u : Value} {sb db nx : Nat} (id : Int) (w : World) (h : Sx w k s d t f t' f' u sb db nx) (hl : s.c.tb.length ≤ 100000) : Calls Tryz.prog 126 #[.pointer (some ⟨k.p, 0, none⟩), .int .i64 id] w fun e w' => e = .returned (.tuple #[.int .i64 (findN s id), .int .i64 (findE s id)]) ∧ w' = w := by
  have H1 := ready_s w h
  have H2 := block_s id w h hl
  clear h hl
  unfold findE findN
  unfold readyE at H1
  cases hb : s.bad
  · rw [hb] at H1
    simp only [Bool.false_eq_true, if_false] at H1 ⊢
    generalize blkI s.c.tb id = y at *
    by_cases hy : y = 0
    · subst hy
      go_enter Tryz.func126, Tryz.ntmps126
      go_wp2_with (first | (go_at_call 117; refine H1.mono ?_; rintro e w' ⟨rfl, hw⟩; obtain rfl := hw.symm) | (go_at_call 179; refine H2.mono ?_; rintro e w' ⟨rfl, hw⟩; obtain rfl := hw.symm))
      exact bodyPost_ret (v := .tuple #[.int .i64 0, .int .i64 8]) (by simp [results, Tryz.results126, go_sem]) rfl ⟨rfl, rfl⟩
    · have hy' : (y == 0) = false := by simpa using hy
      rw [if_neg hy]
      go_enter Tryz.func126, Tryz.ntmps126
      go_wp2_with (first | (go_at_call 117; refine H1.mono ?_; rintro e w' ⟨rfl, hw⟩; obtain rfl := hw.symm) | (go_at_call 179; refine H2.mono ?_; rintro e w' ⟨rfl, hw⟩; obtain rfl := hw.symm))
      exact bodyPost_ret (v := .tuple #[.int .i64 y, .int .i64 0]) (by simp [results, Tryz.results126, go_sem]) rfl ⟨rfl, rfl⟩
  · rw [hb] at H1
    simp only [if_true] at H1 ⊢
    go_enter Tryz.func126, Tryz.ntmps126
    go_wp2_with (go_at_call 117; refine H1.mono ?_; rintro e w' ⟨rfl, hw⟩; obtain rfl := hw.symm)
    exact bodyPost_ret (v := .tuple #[.int .i64 0, .int .i64 15]) (by simp [results, Tryz.results126, go_sem]) rfl ⟨rfl, rfl⟩
def spareN (tb : List Int) : Nat := zeroAt tb + 1
set_option maxHeartbeats 400000 in
theorem spare_s {k : Pl} {s : SS} {d : D.DS} {t f t' f' u : Value} {sb db nx : Nat} (w : World) (h : Sx w k s d t f t' f' u sb db nx) (hl : s.c.tb.length ≤ 100000) : Calls Tryz.prog 118 #[.pointer (some ⟨k.p, 0, none⟩)] w fun e w' => e = .returned (.int .i64 (spareN s.c.tb : Nat)) ∧ w' = w := by
  have c := h.m.v.cells.c0
  obtain ⟨a, cap, rfl, _, _, _, hiv, _⟩ := h.m.ht
  have H1 := index_any a cap s.c.tb w hiv (by omega)
  have hle := zeroAt_le s.c.tb
  unfold spareN
  clear h hiv
  generalize zeroAt s.c.tb = z at *
  generalize s.c.tb.length = n at *
  by_cases hz : z < n
  · rw [if_pos hz] at H1
    have hz0 : decide ((0 : Int) ≤ z) = true := by simp
    go_enter Tryz.func118, Tryz.ntmps118
    go_wp2_with (go_at_call 174; refine H1.mono ?_; rintro e w' ⟨rfl, hw⟩; obtain rfl := hw.symm)
    go_ret
    exact ⟨by go_num, rfl⟩
  · rw [if_neg hz] at H1
    obtain rfl : z = n := by omega
    go_enter Tryz.func118, Tryz.ntmps118
    go_wp2_with (go_at_call 174; refine H1.mono ?_; rintro e w' ⟨rfl, hw⟩; obtain rfl := hw.symm)
    go_ret
    exact ⟨by go_num, rfl⟩
set_option maxHeartbeats 800000 in
theorem taken_s {k : Pl} {s : SS} {d : D.DS} {t f t' f' u : Value} {sb db nx : Nat} (w : World) (h : Sx w k s d t f t' f' u sb db nx) (ok : s.Ok) : Calls Tryz.prog 98 #[.pointer (some ⟨k.p, 0, none⟩)] w fun e w' => ∃ v xs, e = .returned v ∧ FB w' k.X v xs ∧ B.IsJoin s.us s.c.fr xs ∧ Below w.heap.size w w' := by
  have c9 := h.m.v.cells.c9
  have c2 := h.m.v.cells.c2
  have hm := makeN_le s.bl
  have hd := (Below.refl w.heap.size w).drew
  have H1 : Hid (Calls Tryz.prog 161 #[u, f] w.drew fun e w' => ∃ v xs, e = .returned v ∧ FB w' k.X v xs ∧ B.IsJoin s.us s.c.fr xs ∧ Below w.heap.size w w') := by
    refine (join_fb u f s.us s.c.fr k.X w.drew (h.m.hu.below hd) (h.m.hf.below hd) (by rw [ok.usl]; omega) (by rw [ok.c.frl]; omega) h.lt).mono ?_
    rintro e w' ⟨v, xs, rfl, h1, h2, h3⟩
    exact ⟨v, xs, rfl, h1, h2, hd.trans h3⟩
  have hlt := h.m.v.lt
  clear h hd ok
  go_enter Tryz.func98, Tryz.ntmps98
  go_wp2_with fail
  refine wp_region_noPanic ?_
  refine name_ops ?_
  intro O QQ HO HQ
  refine wp_region_held_drew (S := (fun W => Below w.heap.size w W)) (by kernel_rfl) (Below.refl _ _).drew (fun hS => ?_)
  rw [show O.size = 11 by rw [HO.out]; rfl]
  refine wpAnyH_take (i := 0) (v := .pointer (some ⟨k.p, 0, none⟩)) (by rw [HO.out]; simp only [List.getElem?_toArray, List.getElem?_cons_succ, List.getElem?_cons_zero]; rfl) (by rw [HO.out]; kernel_rfl) (by rw [HO.out]; kernel_rfl) (by rw [HO.out]; kernel_rfl) (by rw [HQ.out]; exact fun _ _ _ h => h) (Or.inl ⟨by rfl, ?_⟩) hS ?_
  · intro w' hSw
    go_simp
  try simp only [Act.put, List.setIfInBounds_toArray, List.set_cons_zero, List.set_cons_succ]
  refine wpAnyH_take (i := 1) (v := .pointer (some ⟨k.p, 0, none⟩)) (by rw [HO.out]; simp only [List.getElem?_toArray, List.getElem?_cons_succ, List.getElem?_cons_zero]; rfl) (by rw [HO.out]; kernel_rfl) (by rw [HO.out]; kernel_rfl) (by rw [HO.out]; kernel_rfl) (by rw [HQ.out]; exact fun _ _ _ h => h) (Or.inl ⟨by rfl, ?_⟩) hS ?_
  · intro w' hSw
    go_simp
  try simp only [Act.put, List.setIfInBounds_toArray, List.set_cons_zero, List.set_cons_succ]
  refine wpAnyH_take (i := 2) (v := .pointer (some ⟨k.p, 9, none⟩)) (by rw [HO.out]; simp only [List.getElem?_toArray, List.getElem?_cons_succ, List.getElem?_cons_zero]; rfl) (by rw [HO.out]; kernel_rfl) (by rw [HO.out]; kernel_rfl) (by rw [HO.out]; kernel_rfl) (by rw [HQ.out]; exact fun _ _ _ h => h) (Or.inl ⟨by rfl, ?_⟩) hS ?_
  · intro w' hSw
    go_simp
  try simp only [Act.put, List.setIfInBounds_toArray, List.set_cons_zero, List.set_cons_succ]
  refine wpAnyH_take (i := 3) (v := u) (by rw [HO.out]; simp only [List.getElem?_toArray, List.getElem?_cons_succ, List.getElem?_cons_zero]; rfl) (by rw [HO.out]; kernel_rfl) (by rw [HO.out]; kernel_rfl) (by rw [HO.out]; kernel_rfl) (by rw [HQ.out]; exact fun _ _ _ h => h) (Or.inl ⟨by rfl, ?_⟩) hS ?_
  · intro w' hSw
    have q9 := (hSw.cell (p := ⟨k.p, 9, none⟩) hlt).trans c9
    go_simp
  try simp only [Act.put, List.setIfInBounds_toArray, List.set_cons_zero, List.set_cons_succ]
  refine wpAnyH_take (i := 4) (v := .pointer (some ⟨k.p, 0, none⟩)) (by rw [HO.out]; simp only [List.getElem?_toArray, List.getElem?_cons_succ, List.getElem?_cons_zero]; rfl) (by rw [HO.out]; kernel_rfl) (by rw [HO.out]; kernel_rfl) (by rw [HO.out]; kernel_rfl) (by rw [HQ.out]; exact fun _ _ _ h => h) (Or.inl ⟨by rfl, ?_⟩) hS ?_
  · intro w' hSw
    go_simp
  try simp only [Act.put, List.setIfInBounds_toArray, List.set_cons_zero, List.set_cons_succ]
  refine wpAnyH_take (i := 5) (v := .pointer (some ⟨k.p, 0, none⟩)) (by rw [HO.out]; simp only [List.getElem?_toArray, List.getElem?_cons_succ, List.getElem?_cons_zero]; rfl) (by rw [HO.out]; kernel_rfl) (by rw [HO.out]; kernel_rfl) (by rw [HO.out]; kernel_rfl) (by rw [HQ.out]; exact fun _ _ _ h => h) (Or.inl ⟨by rfl, ?_⟩) hS ?_
  · intro w' hSw
    go_simp
  try simp only [Act.put, List.setIfInBounds_toArray, List.set_cons_zero, List.set_cons_succ]
  refine wpAnyH_take (i := 6) (v := .pointer (some ⟨k.p, 0, none⟩)) (by rw [HO.out]; simp only [List.getElem?_toArray, List.getElem?_cons_succ, List.getElem?_cons_zero]; rfl) (by rw [HO.out]; kernel_rfl) (by rw [HO.out]; kernel_rfl) (by rw [HO.out]; kernel_rfl) (by rw [HQ.out]; exact fun _ _ _ h => h) (Or.inl ⟨by rfl, ?_⟩) hS ?_
  · intro w' hSw
    go_simp
  try simp only [Act.put, List.setIfInBounds_toArray, List.set_cons_zero, List.set_cons_succ]
  refine wpAnyH_take (i := 7) (v := .pointer (some ⟨k.p, 2, none⟩)) (by rw [HO.out]; simp only [List.getElem?_toArray, List.getElem?_cons_succ, List.getElem?_cons_zero]; rfl) (by rw [HO.out]; kernel_rfl) (by rw [HO.out]; kernel_rfl) (by rw [HO.out]; kernel_rfl) (by rw [HQ.out]; exact fun _ _ _ h => h) (Or.inl ⟨by rfl, ?_⟩) hS ?_
  · intro w' hSw
    go_simp
  try simp only [Act.put, List.setIfInBounds_toArray, List.set_cons_zero, List.set_cons_succ]
  refine wpAnyH_take (i := 8) (v := f) (by rw [HO.out]; simp only [List.getElem?_toArray, List.getElem?_cons_succ, List.getElem?_cons_zero]; rfl) (by rw [HO.out]; kernel_rfl) (by rw [HO.out]; kernel_rfl) (by rw [HO.out]; kernel_rfl) (by rw [HQ.out]; exact fun _ _ _ h => h) (Or.inl ⟨by rfl, ?_⟩) hS ?_
  · intro w' hSw
    have q2 := (hSw.cell (p := ⟨k.p, 2, none⟩) hlt).trans c2
    go_simp
  try simp only [Act.put, List.setIfInBounds_toArray, List.set_cons_zero, List.set_cons_succ]
  refine wpAnyH_ready (rs := [9]) (by rw [HO.out]; kernel_rfl) (by simp) ?_
  refine AllReadyH.cons (o := _) (by rw [HO.out]; simp only [List.getElem?_toArray, List.getElem?_cons_succ, List.getElem?_cons_zero]; rfl) (fun K9 hK9 => ?_) AllReadyH.nil
  go_simp
  refine H1.out.mono ?_
  rintro e w1 ⟨v, xs, rfl, hv, hj, hb⟩
  have HV : Hid (FB w1 k.X v xs ∧ B.IsJoin s.us s.c.fr xs ∧ Below w.heap.size w w1) := ⟨hv, hj, hb⟩
  refine hK9.out _ _ hb (fun hS1 => ?_)
  clear hv hj hb
  refine wpAnyH_take (i := 10) (v := v) (by rw [HO.out]; simp only [List.getElem?_toArray, List.getElem?_cons_succ, List.getElem?_cons_zero]; rfl) (by rw [HO.out]; kernel_rfl) (by rw [HO.out]; kernel_rfl) (by rw [HO.out]; kernel_rfl) (by rw [HQ.out]; exact fun _ _ _ h => h) (Or.inl ⟨by rfl, ?_⟩) hS1 ?_
  · intro w' hSw
    go_simp
  try simp only [Act.put, List.setIfInBounds_toArray, List.set_cons_zero, List.set_cons_succ]
  refine wpAnyH_done (by rw [HO.out]; kernel_rfl) ?_ _
  rw [HQ.out]
  refine NoPanic.normal ?_
  go_wp2_with fail
  go_ret
  exact ⟨v, xs, rfl, HV.out⟩
def isFree (s : SS) (n : Nat) : Bool := !(B.hasB s.us n || B.hasB s.c.fr n)
def freeTo (s : SS) (n : Nat) : List Nat := (List.range n).filter (isFree s)
def freeL (s : SS) : List Nat := freeTo s s.bl
theorem freeTo_add (s : SS) (a b : Nat) : freeTo s (a + b) = freeTo s a ++ ((List.range' a b).filter (isFree s)) := by
  unfold freeTo
  rw [List.range_eq_range', List.range_eq_range', ← List.filter_append]
  congr 1
  have := List.range'_append_1 (s := 0) (m := a) (n := b)
  rw [Nat.zero_add] at this
  rw [this]
theorem freeTo_same {s : SS} {a b : Nat} (h : a ≤ b) (hf : ∀ j, a ≤ j → j < b → isFree s j = false) : freeTo s b = freeTo s a := by
  obtain ⟨c, rfl⟩ := Nat.exists_eq_add_of_le h
  rw [freeTo_add]
  have : (List.range' a c).filter (isFree s) = [] := by
    rw [List.filter_eq_nil_iff]
    intro x hx
    have := List.mem_range'_1.1 hx
    rw [hf x this.1 this.2]; simp
  rw [this, List.append_nil]
theorem freeTo_succ (s : SS) (n : Nat) (h : isFree s n = true) : freeTo s (n + 1) = freeTo s n ++ [n] := by
  unfold freeTo; rw [List.range_succ, List.filter_append]; simp [h]
theorem freeTo_take {s : SS} {a b : Nat} (h : a ≤ b) : (freeTo s b).take (freeTo s a).length = freeTo s a := by
  obtain ⟨c, rfl⟩ := Nat.exists_eq_add_of_le h
  rw [freeTo_add, List.take_left]
def bOf : Value → Bool
  | .bool b => b
  | _ => false
def slCap : Value → Nat
  | .slice _ _ c => c
  | _ => 0
theorem ownN_slice {w : World} {base : Nat} {v : Value} {l : List Nat} (h : B.OwnN w base v l) : ∃ q, v = .slice q l.length (slCap v) := by
  rcases h.2 with ⟨rfl, h0⟩ | ⟨g, cap, cur, rfl, _⟩
  · exact ⟨none, by rw [h0]; rfl⟩
  · exact ⟨_, rfl⟩
theorem ownN_base {w : World} {a b : Nat} {v : Value} {l : List Nat} (h : B.OwnN w b v l) (hab : a ≤ b) : B.OwnN w a v l := by
  refine ⟨h.1, ?_⟩
  rcases h.2 with h0 | ⟨g, cap, cur, rfl, hb, rest⟩
  · exact .inl h0
  · exact .inr ⟨g, cap, cur, rfl, Nat.le_trans hab hb, rest⟩
theorem first_small {xs : List Int} {m f n : Nat} {ob : Bool} (h : xs.length = m) (hm : m ≤ 512) (hf : B.IsFirst xs f n ob) : n ≤ 100000 := by
  rcases hf with ⟨_, _, h2, _⟩ | ⟨_, h2, _⟩ <;> omega
set_option maxHeartbeats 1600000 in
theorem free_s {k : Pl} {s : SS} {d : D.DS} {t f t' f' u : Value} {sb db nx : Nat} (c : Nat) (w : World) (h : Sx w k s d t f t' f' u sb db nx) (ok : s.Ok) (hc : c ≤ 100000) : Calls Tryz.prog 106 #[.pointer (some ⟨k.p, 0, none⟩), .int .i64 c] w fun e w' => ∃ v, e = .returned v ∧ B.OwnN w' w.heap.size v ((freeL s).take c) ∧ Below w.heap.size w w' := by
  have c10 := h.m.v.cells.c10
  have hlt := h.m.v.lt
  have H1 := taken_s w h ok
  have hbl := ok.bl
  have hmk := makeN_le s.bl
  have hln : max s.us.length s.c.fr.length = B.makeN s.bl := by rw [ok.usl, ok.c.frl]; simp
  have h8 : s.bl ≤ 8 * B.makeN s.bl := by unfold B.makeN; omega
  obtain ⟨R, hR⟩ : ∃ R, R = (freeL s).take c := ⟨_, rfl⟩
  rw [← hR]
  have HR : Hid (R = (freeL s).take c) := hR
  have HC : Hid (∀ W, Below w.heap.size w W → W.cell? ⟨k.p, 10, none⟩ = some (.int .i64 (s.bl : Int))) := fun W hW => (hW.cell (p := ⟨k.p, 10, none⟩) hlt).trans c10
  clear h ok hR c10
  go_enter Tryz.func106, Tryz.ntmps106
  go_wp2_with (first | (go_at_call 98; refine H1.mono ?_; rintro e w1 ⟨v, xs, rfl, hv, hj, hb⟩; have hxl : xs.length = B.makeN s.bl := (by rw [hj.1, hln]); have H2 := first_fb v xs 0 k.X w1 hv (by omega) (by omega); have HV : Hid (FB w1 k.X v xs) := hv; have HJ : Hid (∀ j, isFree s j = !B.hasB xs j) := fun j => (by unfold isFree; rw [hj.2.2 j]); have HB : Hid (Below w.heap.size w w1) := hb; clear hv hj hb) | (go_at_call 169; refine H2.mono ?_; rintro e w2 ⟨n0, ok0, rfl, hf0, hb0⟩))
  have HB2 : Hid (Below w.heap.size w w2) := HB.out.trans (hb0.mono HB.out.size)
  have HV2 : Hid (∀ W, Below w2.heap.size w2 W → FB W k.X v xs) := fun W hW => (HV.out.below hb0).below hW
  have HC2 : Hid (∀ W, Below w2.heap.size w2 W → W.cell? ⟨k.p, 10, none⟩ = some (.int .i64 (s.bl : Int))) := fun W hW => HC.out W (HB2.out.trans (hW.mono HB2.out.size))
  clear H1 H2 hb0 HB HV HC
  go_loopw [6, 7, 8] (fun lv nv ov wr => ∃ (fr n : Nat) (ob : Bool), nv = .int .i64 n ∧ ov = .bool ob ∧ fr ≤ s.bl ∧ n ≤ 100000 ∧ Hid (B.IsFirst xs fr n ob) ∧ Hid (B.OwnN wr w2.heap.size lv (freeTo s fr)) ∧ (freeTo s fr).length ≤ c ∧ Hid (Below w2.heap.size w2 wr)) (fun _ nv ov _ => if bOf ov then s.bl + 1 - (iOf nv).toNat else 0)
  case atStart => exact ⟨0, n0, ok0, rfl, rfl, Nat.zero_le _, first_small hxl hmk hf0, hf0, World.ownsRow_nil _ _ _ _, Nat.zero_le _, Below.refl _ _⟩
  case round =>
    clear hf0
    obtain ⟨fr, n, ob, rfl, rfl, hfr, hn9, hF, HO, hlc, HB⟩ := hrel
    have hex : ∀ l, l = freeTo s fr → (freeTo s s.bl = freeTo s fr ∨ c ≤ l.length) → R = l := by
      rintro l rfl h
      rw [HR.out]
      unfold freeL
      rcases h with h | h
      · rw [h, List.take_of_length_le hlc]
      · have := freeTo_take (s := s) hfr
        rw [show c = (freeTo s fr).length by omega]
        exact this
    have HFIN : Hid (B.OwnN wr w.heap.size u6 (freeTo s fr) ∧ Below w.heap.size w wr) := ⟨ownN_base HO.out HB2.out.size, HB2.out.trans (HB.out.mono HB2.out.size)⟩
    cases hob : ob
    · have HE : Hid (R = freeTo s fr) := by
        refine hex _ rfl (Or.inl (freeTo_same hfr fun j h1 h2 => ?_))
        rcases hF.out with ⟨hx, _⟩ | ⟨_, _, hall⟩
        · rw [hob] at hx; cases hx
        · rw [HJ.out, hall j h1 (by omega)]; rfl
      clear hex
      go_wp2
      go_ret
      exact ⟨_, rfl, by rw [HE.out]; exact HFIN.out.1, HFIN.out.2⟩
    · subst hob
      obtain ⟨h1, h2, h3, h4⟩ : fr ≤ n ∧ n < 8 * xs.length ∧ B.hasB xs n = false ∧ ∀ j, fr ≤ j → j < n → B.hasB xs j = true := by
        rcases hF.out with ⟨_, a, b, c, d⟩ | ⟨hx, _⟩
        · exact ⟨a, b, c, d⟩
        · cases hx
      have hc10 := HC2.out _ HB.out
      obtain ⟨lc, hlv⟩ : ∃ q, u6 = .slice q (freeTo s fr).length (slCap u6) := ownN_slice HO.out
      generalize slCap u6 = lcap at hlv
      subst hlv
      by_cases hnb : n < s.bl
      · have hd1 : decide ((n : Int) < (s.bl : Int)) = true := by simp; exact hnb
        by_cases hl : (freeTo s fr).length < c
        · have hd2 : decide (((freeTo s fr).length : Int) < (c : Int)) = true := by simp; exact hl
          have HT : Hid (freeTo s (n + 1) = freeTo s fr ++ [n]) := by
            show freeTo s (n + 1) = freeTo s fr ++ [n]
            rw [freeTo_succ s n (by rw [HJ.out, h3]; rfl), freeTo_same h1 fun j a b => by rw [HJ.out, h4 j a b]; rfl]
          have hT2 : (freeTo s (n + 1)).length = (freeTo s fr).length + 1 := by rw [HT.out]; simp
          have HLE : Hid (∀ l, l = freeTo s fr → l.length ≤ 10000000) := fun l hl => by subst hl; omega
          have hw1 : ((n : Int) + 1).toNat = n + 1 := by omega
          have H2 : Hid (∀ W, FB W k.X v xs → Calls Tryz.prog 169 #[v, .int .i64 ((n : Int) + 1)] W fun e w' => ∃ (kk : Nat) (okk : Bool), e = .returned (.tuple #[.int .i64 (kk : Int), .bool okk]) ∧ B.IsFirst xs (n + 1) kk okk ∧ Below W.heap.size W w') := fun W hW => by
            have := first_fb v xs ((n : Int) + 1) k.X W hW (by omega) (by omega)
            rw [hw1] at this
            exact this
          clear hex hw1 HFIN h1 h2 h3 h4
          generalize (freeTo s fr).length = m at *
          go_wp2_with (first
            | (at_builtin; refine B.wp_appN rfl _ _ rfl w2.heap.size _ (freeTo s fr) n rfl (HO.out.below ((Below.refl _ _).alloc (Nat.le_refl _) _)) _ rfl (B.heap_last _ _) (HLE.out _ rfl) (by have := HB.out.size; simp; omega) ?_; intro lv' w3 hB3 hb3; have HO3 : Hid (B.OwnN w3 w2.heap.size lv' (freeTo s (n + 1))) := (by rw [HT.out]; exact hB3); have HB3 : Hid (Below w2.heap.size w2 w3) := (HB.out.trans (((Below.refl _ _).alloc HB.out.size _).trans hb3)); clear hB3 hb3)
            | (go_at_call 169; refine (H2.out _ (HV2.out _ HB3.out)).mono ?_; rintro e w4 ⟨n4, ok4, rfl, hf4, hb4⟩; have HB4 : Hid (Below w3.heap.size w3 w4) := hb4; clear hb4)
            | fail)
          go_roundw
          case rel => exact ⟨n + 1, n4, ok4, rfl, rfl, hnb, first_small hxl hmk hf4, hf4, HO3.out.below HB4.out, by omega, HB3.out.trans (HB4.out.mono HB3.out.size)⟩
          case measure =>
            simp [bOf, iOf]
            rcases hf4 with ⟨rfl, h5, _⟩ | ⟨rfl, _⟩
            · simp; omega
            · simp; omega
        · have hd2 : decide (((freeTo s fr).length : Int) < (c : Int)) = false := by simp; omega
          have HE : Hid (R = freeTo s fr) := hex _ rfl (Or.inr (by omega))
          clear hex
          generalize (freeTo s fr).length = m at *
          go_wp2
          go_ret
          exact ⟨_, rfl, by rw [HE.out]; exact HFIN.out.1, HFIN.out.2⟩
      · have hd1 : decide ((n : Int) < (s.bl : Int)) = false := by simp; omega
        have HE : Hid (R = freeTo s fr) := hex _ rfl (Or.inl (freeTo_same hfr fun j a b => by rw [HJ.out, h4 j a (by omega)]; rfl))
        clear hex
        go_wp2
        go_ret
        exact ⟨_, rfl, by rw [HE.out]; exact HFIN.out.1, HFIN.out.2⟩
end Go.Proofs.YtbklnadlbcndlaaGreat
namespace Go.Proofs.YtbklnadlbcndlaaGreat
set_option maxRecDepth 20000
open Go.RowKit
set_option linter.unusedVariables false
set_option linter.unusedSimpArgs false
theorem wp_makeI {ops : Array Oper} {rest : List Oper} {o : Oper} {a : Act} {w : World} {Q : Exit → Act → World → Prop} (hgd : o.guard = none) (x y : Operand) (ho : o.op = .makeSlice 52 x y) (n : Nat) (hn : n ≤ 1000000) (hx : a.eval x = .int .i64 n) (hy : a.eval y = .int .i64 n)
    (h : ∀ w', OwnI w' w.heap.size (.slice (some ⟨w.heap.size, 0, none⟩) n n) (List.replicate n 0) → Below w.heap.size w w' → w'.heap.size = w.heap.size + 1 → wpList Tryz.prog ops Q rest (a.put o.dst (.slice (some ⟨w.heap.size, 0, none⟩) n n)) w') : wpList Tryz.prog ops Q (o :: rest) a w := by
  obtain ⟨i0, hi, hz0, hz1, hz2⟩ := info_parts Tryz.info3
  have hrun := run_makeSlice (P := Tryz.prog) w 52 3 i0 (.int .i64 0) Tryz.underlying52 hi hz0 .i64 .i64 n n (by omega) (by omega) (by rw [hz1]; simp; omega) (by rw [hz2]; omega) (by omega)
  refine wpList_plain hgd fun K hK => ?_
  unfold Oper.wp
  rw [hz1, Int.toNat_natCast, Nat.mul_one] at hrun
  simp only [execOp, ho, hx, hy, Sem.run_bind, hrun, Result.andThen, Sem.run_pure]
  refine hK _ _ (h _ ?_ ((Below.refl _ _).alloc (Nat.le_refl _) _) (by simp))
  have := World.ownsRow_lit (base := w.heap.size) (e := 3) (size := 1) w (madeCells (Value.int .i64 0).cells n) n (Nat.le_refl _) (by unfold maxLen; omega) (by rw [size_madeCells]; omega)
  have e : (madeCells (Value.int .i64 0).cells n).toList = (List.replicate n (0 : Int)).map (Value.int .i64) := by
    rw [List.map_replicate]
    exact toList_madeCells_one _ n
  rw [e] at this
  unfold OwnI
  rw [List.length_replicate]
  exact this
theorem wp_copyI {ops : Array Oper} {rest : List Oper} {o : Oper} {a : Act} {w : World} {Q : Exit → Act → World → Prop} (hgd : o.guard = none) (d s : Operand)
    (ho : o.op = .call { callee := .builtin .copy, args := #[d, s], argTypes := #[52, 52] }) (g dLen dCap : Nat) (sp : Option Addr) (sLen sCap : Nat) (hd : a.eval d = .slice (some ⟨g, 0, none⟩) dLen dCap) (hs : a.eval s = .slice sp sLen sCap)
    (cur cs : List Value) (hg : w.heap[g]? = some (.cells cur.toArray 3 (0, 0))) (hn : cs.length = Nat.min sLen dLen) (hpos : 0 < cs.length → ∃ ad, sp = some ad ∧ ∀ j v, cs[j]? = some v → w.cell? (ad.add j) = some v)
    (hfit : cs.length ≤ cur.length) (h1 : ∀ v ∈ cs, v.oneCell' = true) (B : Nat) (w0 : World) (hb : Below B w0 w) (hBg : B ≤ g)
    (h : ∀ w', Hid (w'.heap[g]? = some (.cells (splice cur 0 cs).toArray 3 (0, 0))) → Below B w0 w' → wpList Tryz.prog ops Q rest (a.put o.dst (goInt cs.length)) w') : wpList Tryz.prog ops Q (o :: rest) a w :=
  wpList_copy_splice hgd d s 52 52 ho 3 Tryz.underlying52 (by kernel_rfl) _ _ dLen dCap sLen sCap hd hs g 0 cur 3 hg cs hn (fun hp => ⟨rfl, hpos hp⟩) (by omega) h1 B w0 hb hBg h
theorem OwnI.row {w : World} {base g n : Nat} {zs : List Int} (h : OwnI w base (.slice (some ⟨g, 0, none⟩) n n) zs) : w.heap[g]? = some (.cells (zs.map (Value.int .i64)).toArray 3 (0, 0)) ∧ zs.length = n ∧ base ≤ g := by
  rcases h.2 with ⟨h', _⟩ | ⟨g', cap', cur, h', hb, hg, hnc, hcm, hcs, htake⟩
  · simp at h'
  · simp only [Value.slice.injEq, Option.some.injEq, Addr.mk.injEq, and_true] at h'
    obtain ⟨rfl, h2, rfl⟩ := h'
    refine ⟨?_, h2.symm, hb⟩
    have e : cur = (zs.map (Value.int .i64)).toArray := by
      rw [← htake, List.take_of_length_le (by rw [Array.length_toList]; omega)]
    rw [hg, e]
theorem iv_cells {w : World} {a : Option Addr} {zs : List Int} (h : IV w a zs) (hp : 0 < zs.length) : ∃ x, a = some x ∧ ∀ j u, (zs.map (Value.int .i64))[j]? = some u → w.cell? (x.add j) = some u := by
  rcases h with rfl | ⟨b, off, rfl, _, hc⟩
  · simp at hp
  · refine ⟨_, rfl, fun j u hu => ?_⟩
    rw [List.getElem?_map] at hu
    obtain ⟨z, hz, rfl⟩ := Option.map_eq_some_iff.1 hu
    have hj := (List.getElem?_eq_some_iff.1 hz).1
    rw [add_plain, hc j hj, List.getD_eq_getElem?_getD, hz]; rfl
def trimTo (l : List Int) : Nat → Nat
  | 0 => 0
  | j + 1 => if l.getD j 0 = 0 then trimTo l j else j + 1
def wideT (tb : List Int) (id : Nat) (n : Int) : List Int := (tb ++ List.replicate (max tb.length id - tb.length) 0).set (id - 1) n
def giveT (tb : List Int) (id : Nat) (n : Int) : List Int := (wideT tb id n).take (trimTo (wideT tb id n) (max tb.length id))
theorem wideT_len (tb : List Int) (id : Nat) (n : Int) : (wideT tb id n).length = max tb.length id := by simp [wideT]; omega
def SS.give (s : SS) (id : Nat) (n : Int) : SS := { s with c := { s.c with tb := giveT s.c.tb id n, dt := true } }
theorem wide_splice (tb : List Int) (id M : Nat) (hM : max tb.length id = M) : splice ((List.replicate M (0 : Int)).map (Value.int .i64)) 0 (tb.map (Value.int .i64)) = (tb ++ List.replicate (M - tb.length) 0).map (Value.int .i64) := by
  subst hM
  unfold splice
  simp [List.drop_replicate]
theorem row_iv {w : World} {g : Nat} {l : List Int} (h : w.heap[g]? = some (.cells (l.map (Value.int .i64)).toArray 3 (0, 0))) (j : Nat) : IV w (some ⟨g, 0, none⟩) (l.take j) := by
  refine .inr ⟨g, 0, rfl, (Array.getElem?_eq_some_iff.1 h).1, fun i hi => ?_⟩
  rw [List.length_take] at hi
  rw [Nat.zero_add, cell_of_row _ _ _ _ _ _ h]
  simp [List.getElem?_take, show i < j by omega, show i < l.length by omega]
def slN : Value → Nat
  | .slice _ n _ => n
  | _ => 0
theorem Sx.set {W W' : World} {k : Pl} {s s2 : SS} {d : D.DS} {t f t' f' u t2 f2 t2' f2' u2 : Value} {sb db nx : Nat} (h : Sx W k s d t f t' f' u sb db nx) (ho : D.Off [k.p] W W') (hv : ShV W' k s2 t2 f2 t2' f2' u2 db nx)
    (a1 : FI W k.X t2 s2.c.tb) (a2 : FB W k.X f2 s2.c.fr) (a3 : FI W k.X t2' s2.l.tb) (a4 : FB W k.X f2' s2.l.fr) (a5 : FB W k.X u2 s2.us) : Sx W' k s2 d t2 f2 t2' f2' u2 sb db nx :=
  ⟨keepP h.dk h.pn ho, h.pn, hv, a1.off ho k.ps, a2.off ho k.ps, a3.off ho k.ps, a4.off ho k.ps, a5.off ho k.ps, h.m.hb.off ho k.ps⟩
theorem Sx.given {W : World} {k : Pl} {s : SS} {d : D.DS} {t f t' f' u : Value} {sb db nx : Nat} (h : Sx W k s d t f t' f' u sb db nx) (t2 : Value) (tb : List Int) (ht : FI W k.X t2 tb) :
    Sx ((W.setCell ⟨k.p, 0, none⟩ t2).setCell ⟨k.p, 3, none⟩ (.bool true)) k { s with c := { s.c with tb := tb, dt := true } } d t2 f t' f' u sb db nx ∧ D.Off [k.p] W ((W.setCell ⟨k.p, 0, none⟩ t2).setCell ⟨k.p, 3, none⟩ (.bool true)) := by
  have ho : D.Off [k.p] W ((W.setCell ⟨k.p, 0, none⟩ t2).setCell ⟨k.p, 3, none⟩ (.bool true)) := ((D.Off.refl _ _).setCell (by simp) _).setCell (by simp) _
  exact ⟨h.set ho ((ShB.set0 h.m.v t2).set3 (.bool true)) ht h.m.hf h.m.ht' h.m.hf' h.m.hu, ho⟩
theorem give_row (id : Nat) (n : Int) (M : Nat) (tb : List Int) {Z X : List Value} {w : World} {g : Nat} (HS : splice Z 0 X = (tb ++ List.replicate (M - tb.length) 0).map (Value.int .i64)) (hid : id - 1 < M) (hx : tb.length ≤ M) (hg : w.heap[g]? = some (.cells (splice Z 0 X).toArray 3 (0, 0))) :
    w.frozen? ⟨g, id - 1, none⟩ = false ∧ ∃ u, w.cell? ⟨g, id - 1, none⟩ = some u ∧ (w.setCell ⟨g, id - 1, none⟩ (.int .i64 n)).heap[g]? = some (.cells (((tb ++ List.replicate (M - tb.length) 0).set (id - 1) n).map (Value.int .i64)).toArray 3 (0, 0)) := by
  rw [HS] at hg
  refine ⟨frozen_of_row _ _ _ _ _ hg, (.int .i64 ((tb ++ List.replicate (M - tb.length) 0).getD (id - 1) 0)), ?_, ?_⟩
  · rw [cell_of_row _ _ _ _ _ _ hg]
    have hl : id - 1 < (tb ++ List.replicate (M - tb.length) (0 : Int)).length := by simp; omega
    generalize tb ++ List.replicate (M - tb.length) (0 : Int) = L at *
    rw [List.getD_eq_getElem?_getD, List.getElem?_eq_getElem hl]
    simp [hl]
  · have := heap_setCell_same w g (id - 1) _ 3 (.int .i64 n) hg
    rw [this]
    simp [List.map_set]
set_option maxHeartbeats 1600000 in
theorem give_s {k : Pl} {s : SS} {d : D.DS} {t f t' f' u : Value} {sb db nx : Nat} (id : Nat) (n : Int) (w : World) (h : Sx w k s d t f t' f' u sb db nx) (hl : s.c.tb.length ≤ 3000) (h1 : 1 ≤ id) (h2 : id ≤ 3001) :
    Calls Tryz.prog 127 #[.pointer (some ⟨k.p, 0, none⟩), .int .i64 id, .int .i64 n] w fun e w' => e = .returned (.tuple #[]) ∧ (∃ t2, Sx w' k (s.give id n) d t2 f t' f' u sb db nx) ∧ D.Off k.K w w' := by
  have HSX : Hid (Sx w k s d t f t' f' u sb db nx) := h
  have hplt := h.m.v.lt
  have hcs := h.m.v.cells
  have c0 := hcs.c0
  obtain ⟨a, cap, rfl, _, _, _, hiv, _⟩ := h.m.ht
  have HP : Hid (∀ W, Below w.heap.size w W → 0 < s.c.tb.length → ∃ x, a = some x ∧ ∀ j u, (s.c.tb.map (Value.int .i64))[j]? = some u → W.cell? (x.add j) = some u) := fun W hW hp => iv_cells (hiv.below hW) hp
  have HC0 : Hid (∀ W, Below w.heap.size w W → W.cell? ⟨k.p, 0, none⟩ = some (.slice a s.c.tb.length cap)) := fun W hW => (hW.cell (p := ⟨k.p, 0, none⟩) hplt).trans c0
  obtain ⟨M, hM⟩ : ∃ M, max s.c.tb.length id = M := ⟨_, rfl⟩
  have HS : Hid (splice ((List.replicate M (0 : Int)).map (Value.int .i64)) 0 (s.c.tb.map (Value.int .i64)) = (s.c.tb ++ List.replicate (M - s.c.tb.length) 0).map (Value.int .i64)) := wide_splice s.c.tb id M hM
  have hM1 : M ≤ 3001 := by omega
  have hM0 : 1 ≤ M := by omega
  have hxM : s.c.tb.length ≤ M := by omega
  have hiM : id ≤ M := by omega
  have hmin : Hid (s.c.tb.length = Nat.min s.c.tb.length M) := by have : s.c.tb.length = Nat.min s.c.tb.length M := (by simp [Nat.min_def]; omega)
                                                                  exact this
  have hif : (if (s.c.tb.length : Int) < id then (id : Int) else s.c.tb.length) = M := by split <;> omega
  have hi64 := i64row s.c.tb
  have HXL : Hid ((s.c.tb.map (Value.int .i64)).length = s.c.tb.length) := by simp [Hid]
  obtain ⟨X, hX⟩ : ∃ X, s.c.tb.map (Value.int .i64) = X := ⟨_, rfl⟩
  rw [hX] at HS HP hi64 HXL
  obtain ⟨Z, hZ⟩ : ∃ Z, (List.replicate M (0 : Int)).map (Value.int .i64) = Z := ⟨_, rfl⟩
  have HZL : Hid (Z.length = M) := by have : Z.length = M := (by rw [← hZ]; simp)
                                      exact this
  rw [hZ] at HS
  have HZ : Hid ((List.replicate M (0 : Int)).map (Value.int .i64) = Z) := hZ
  have HW : Hid (wideT s.c.tb id n = (s.c.tb ++ List.replicate (M - s.c.tb.length) 0).set (id - 1) n ∧ giveT s.c.tb id n = (wideT s.c.tb id n).take (trimTo (wideT s.c.tb id n) M) ∧ (wideT s.c.tb id n).length = M) := ⟨by unfold wideT; rw [hM], by unfold giveT; rw [hM], by rw [wideT_len, hM]⟩
  have hw1 : ((id : Int) - 1) = ((id - 1 : Nat) : Int) := by omega
  have hid : id - 1 < M := by omega
  clear h hcs hX hZ hM hiv
  go_enter Tryz.func127, Tryz.ntmps127
  go_wp2_with (first
    | (refine wp_makeI rfl _ _ rfl M (by omega) (by simp [Act.eval]; try omega) (by simp [Act.eval]; try omega) ?_; intro w1 ho1 hb1 hs1; have hr1 := ho1.row.1; rw [HZ.out] at hr1; have HR1 : Hid (w1.heap[w.heap.size]? = some (.cells Z.toArray 3 (0, 0))) := hr1; have c01 := HC0.out _ hb1; clear hr1 ho1)
    | (refine wp_copyI rfl _ _ rfl w.heap.size M M a s.c.tb.length cap rfl rfl Z X HR1.out (by rw [HXL.out]; exact hmin.out) (fun hp => HP.out _ hb1 (by rw [HXL.out] at hp; exact hp)) (by rw [HXL.out, HZL.out]; omega) hi64 w.heap.size w hb1 (Nat.le_refl _) ?_; intro w2 hg2 hb2; obtain ⟨fz, uu, hcu, HR3⟩ := give_row id n M s.c.tb HS.out hid hxM hg2.out)
    | fail)
  obtain ⟨W, hW⟩ : ∃ W, W = w2.setCell ⟨w.heap.size, id - 1, none⟩ (.int .i64 n) := ⟨_, rfl⟩
  rw [← hW]
  have HR : Hid (W.heap[w.heap.size]? = some (.cells ((wideT s.c.tb id n).map (Value.int .i64)).toArray 3 (0, 0))) := by
    rw [hW]
    have := HW.out.1
    rw [this]
    exact HR3
  have HBW : Hid (Below w.heap.size w W) := by rw [hW]; exact hb2.setCell (Nat.le_refl _) _
  clear hW hb2 hg2 fz hcu HR3 HR1 hb1 hs1 c01 HS HXL HP HZL HZ hi64 hif hw1 hid hmin HC0
  obtain ⟨TT, hT⟩ : ∃ TT, TT = wideT s.c.tb id n := ⟨_, rfl⟩
  rw [← hT] at HW HR
  have HG : Hid (giveT s.c.tb id n = TT.take (trimTo TT M)) := HW.out.2.1
  have hTl : TT.length = M := HW.out.2.2
  clear HW hT
  have HCT : Hid (∀ j, j < M → W.cell? ⟨w.heap.size, j, none⟩ = some (.int .i64 (TT.getD j 0))) := fun j hj => by
    have := row_iv HR.out M
    rw [List.take_of_length_le (by omega)] at this
    rcases this with hn | ⟨b, off, e, _, hc⟩
    · rw [hn] at hTl; simp at hTl; omega
    · simp at e
      obtain ⟨rfl, rfl⟩ := e
      have := hc j (by omega)
      rw [Nat.zero_add] at this
      exact this
  have HSW : Hid (Sx W k s d (.slice a s.c.tb.length cap) f t' f' u sb db nx) := HSX.out.below HBW.out
  have HCC : Hid (W.cell? ⟨k.p, 0, none⟩ = some (.slice a s.c.tb.length cap) ∧ W.cell? ⟨k.p, 3, none⟩ = some (.bool s.c.dt) ∧ ∀ i, W.frozen? ⟨k.p, i, none⟩ = false) := ⟨HSW.out.m.v.cells.c0, HSW.out.m.v.cells.c3, HSW.out.m.v.cells.f⟩
  have HFI : Hid (∀ j, trimTo TT M = j → j ≤ M → FI W k.X (.slice (some ⟨w.heap.size, 0, none⟩) j M) (giveT s.c.tb id n)) := by
    intro j hj hjM
    rw [HG.out, hj]
    refine ⟨_, M, by rw [List.length_take, show min j TT.length = j by omega], by simp, by rw [List.length_take]; omega, by omega, row_iv HR.out j, fun _ b off e hx => ?_⟩
    simp at e
    have := HSX.out.lt b hx
    omega
  clear HSX c0 HR HG
  go_loop [6] (fun v => ∃ j : Nat, j ≤ M ∧ v = .slice (some ⟨w.heap.size, 0, none⟩) j M ∧ trimTo TT M = trimTo TT j) (fun v => slN v)
  case atStart => exact ⟨M, Nat.le_refl _, rfl, rfl⟩
  case round =>
    obtain ⟨j, hj, rfl, htr⟩ := hrel
    by_cases h0 : j = 0
    · subst h0
      have HTR : Hid (trimTo TT M = 0) := htr
      clear htr
      have HF : Hid (FI W k.X (.slice (some ⟨w.heap.size, 0, none⟩) 0 M) (giveT s.c.tb id n)) := HFI.out 0 HTR.out (Nat.zero_le _)
      have HE : Hid _ := (HSW.out.given _ _ HF.out)
      obtain ⟨c0, c3, fz⟩ := HCC.out
      have fz0 := fz 0
      have fz3 := fz 3
      clear fz
      go_wp2
      refine bodyPost_end (v := .tuple #[]) (results_none rfl _ _ _) rfl ?_
      exact ⟨rfl, ⟨_, HE.out.1⟩, (off_below HBW.out).trans (Pl.offP HE.out.2)⟩
    · obtain ⟨i, rfl⟩ : ∃ i, j = i + 1 := ⟨j - 1, by omega⟩
      have hci := HCT.out i (by omega)
      rw [show trimTo TT (i + 1) = (if TT.getD i 0 = 0 then trimTo TT i else i + 1) from rfl] at htr
      by_cases hz : TT.getD i 0 = 0
      · rw [if_pos hz] at htr
        rw [hz] at hci
        have HTR : Hid (trimTo TT M = trimTo TT i) := htr
        clear htr hz
        go_wp2
        go_round
        case rel => exact ⟨i, by omega, by go_num, HTR.out⟩
        case measure => simp [slN]
      · rw [if_neg hz] at htr
        have hz' : (TT.getD i 0 == 0) = false := by simpa using hz
        have HTR : Hid (trimTo TT M = i + 1) := htr
        clear htr hz
        have HF : Hid (FI W k.X (.slice (some ⟨w.heap.size, 0, none⟩) (i + 1) M) (giveT s.c.tb id n)) := HFI.out (i + 1) HTR.out hj
        have HE : Hid _ := (HSW.out.given _ _ HF.out)
        obtain ⟨c0, c3, fz⟩ := HCC.out
        have fz0 := fz 0
        have fz3 := fz 3
        clear fz
        generalize TT.getD i 0 = y at *
        go_wp2
        refine bodyPost_end (v := .tuple #[]) (results_none rfl _ _ _) rfl ?_
        exact ⟨rfl, ⟨_, HE.out.1⟩, (off_below HBW.out).trans (Pl.offP HE.out.2)⟩
end Go.Proofs.YtbklnadlbcndlaaGreat
namespace Go.Proofs.YtbklnadlbcndlaaGreat
set_option maxRecDepth 20000
open Go.RowKit
set_option linter.unusedVariables false
set_option linter.unusedSimpArgs false
theorem note_zero (s : SS) : s.note 0 = s := by cases s; simp [SS.note]
def SS.fresh (s : SS) (n : Int) (on : Bool) : SS := { s with c := { s.c with fr := B.withI s.c.fr n on } }
theorem Sx.refresh {W : World} {k : Pl} {s : SS} {d : D.DS} {t f t' f' u : Value} {sb db nx : Nat} (h : Sx W k s d t f t' f' u sb db nx) (f2 : Value) (n : Int) (on : Bool) (hf : FB W k.X f2 (B.withI s.c.fr n on)) :
    Sx (W.setCell ⟨k.p, 2, none⟩ f2) k (s.fresh n on) d t f2 t' f' u sb db nx ∧ D.Off [k.p] W (W.setCell ⟨k.p, 2, none⟩ f2) := by
  have ho : D.Off [k.p] W (W.setCell ⟨k.p, 2, none⟩ f2) := (D.Off.refl _ _).setCell (by simp) _
  exact ⟨h.set ho (ShB.set2 h.m.v f2) h.m.ht hf h.m.ht' h.m.hf' h.m.hu, ho⟩
def Sy (w : World) (k : Pl) (s : SS) (d : D.DS) : Prop := ∃ t f t' f' u sb db nx, Sx w k s d t f t' f' u sb db nx
theorem Sy.below {w w' : World} {k : Pl} {s : SS} {d : D.DS} (h : Sy w k s d) (hb : Below w.heap.size w w') : Sy w' k s d := by
  obtain ⟨t, f, t', f', u, sb, db, nx, h⟩ := h
  exact ⟨t, f, t', f', u, sb, db, nx, h.below hb⟩
theorem Sy.lt {w : World} {k : Pl} {s : SS} {d : D.DS} (h : Sy w k s d) : ∀ x ∈ k.X, x < w.heap.size := by
  obtain ⟨t, f, t', f', u, sb, db, nx, h⟩ := h
  exact h.lt
def Done (k : Pl) (w : World) (r : Int × SS × D.DS) (e : Ending) (w' : World) : Prop := e = .returned (.int .i64 r.1) ∧ Sy w' k r.2.1 r.2.2 ∧ D.Off k.K w w'
def placeR (s : SS) (d : D.DS) (id : Nat) (zs : List Int) : Int × SS × D.DS :=
  match freeL s with
  | [] => (10, s, d)
  | n :: _ => if D.writeE d n zs ≠ 0 then (D.writeE d n zs, s.note (D.writeE d n zs), D.writeS d n zs) else (0, (s.give id n).fresh n true, D.writeS d n zs)
theorem own1 {w : World} {base : Nat} {v : Value} {n : Nat} (h : B.OwnN w base v [n]) : ∃ g cap, v = .slice (some ⟨g, 0, none⟩) 1 cap ∧ base ≤ g ∧ g < w.heap.size ∧ w.cell? ⟨g, 0, none⟩ = some (.int .i64 (n : Int)) := by
  have hl := World.ownsRow.lt h
  have h' := h
  rcases h.2 with ⟨rfl, h0⟩ | ⟨g, cap, cur, rfl, hb, hg, _⟩
  · simp at h0
  · refine ⟨g, cap, rfl, hb, (hl g rfl).2, ?_⟩
    have := World.ownsRow.cellAt h' 0 (by simp)
    simpa using this
theorem own0 {w : World} {base : Nat} {v : Value} (h : B.OwnN w base v []) : ∃ a cap, v = .slice a 0 cap := by
  rcases h.2 with ⟨rfl, h0⟩ | ⟨g, cap, cur, rfl, _⟩
  · exact ⟨none, 0, rfl⟩
  · exact ⟨_, _, rfl⟩
set_option maxHeartbeats 400000 in
theorem place_full {k : Pl} {s : SS} {d : D.DS} {t f t' f' u : Value} {sb db nx : Nat} (id : Nat) (a : Option Addr) (cap : Nat) (zs : List Int) (w : World) (h : Sx w k s d t f t' f' u sb db nx) (ok : s.Ok) (hv : BV w a zs) (hz : zs.length = 256) (hax : ∀ b off, a = some ⟨b, off, none⟩ → b ∉ k.X) (h1 : 1 ≤ id) (h2 : id ≤ 3000) (he : freeL s = []) :
    Calls Tryz.prog 119 #[.pointer (some ⟨k.p, 0, none⟩), .int .i64 id, .slice a 256 cap] w fun e w' => Done k w (placeR s d id zs) e w' := by
  have H1 := free_s 1 w h ok (by omega)
  have e : placeR s d id zs = (10, s, d) := by unfold placeR; rw [he]
  rw [e]
  rw [he] at H1
  have HX : Hid (Sx w k s d t f t' f' u sb db nx) := h
  clear h ok hv e
  unfold Done
  go_enter Tryz.func119, Tryz.ntmps119
  go_wp2_with (go_at_call 106; refine H1.mono ?_; rintro e w1 ⟨v, rfl, ho, hb⟩; obtain ⟨a1, c1, rfl⟩ := own0 ho; have HB : Hid (Below w.heap.size w w1) := hb; clear hb ho)
  go_ret
  exact ⟨rfl, Sy.below ⟨_, _, _, _, _, _, _, _, HX.out⟩ HB.out, off_below HB.out⟩
set_option maxHeartbeats 1600000 in
theorem place_bad {k : Pl} {s : SS} {d : D.DS} {t f t' f' u : Value} {sb db nx : Nat} (id : Nat) (a : Option Addr) (cap : Nat) (zs : List Int) (w : World) (h : Sx w k s d t f t' f' u sb db nx) (ok : s.Ok) (hv : BV w a zs) (hz : zs.length = 256) (hax : ∀ b off, a = some ⟨b, off, none⟩ → b ∉ k.X) (h1 : 1 ≤ id) (h2 : id ≤ 3000) (n : Nat) (rest : List Nat) (he : freeL s = n :: rest) (hw : D.writeE d n zs ≠ 0) :
    Calls Tryz.prog 119 #[.pointer (some ⟨k.p, 0, none⟩), .int .i64 id, .slice a 256 cap] w fun e w' => Done k w (placeR s d id zs) e w' := by
  have e : placeR s d id zs = (D.writeE d n zs, s.note (D.writeE d n zs), D.writeS d n zs) := by unfold placeR; rw [he]; simp only [if_pos hw]
  rw [e]
  clear e
  have hw' : (D.writeE d n zs == 0) = false := by simpa using hw
  have hn : n < s.bl := by
    have : n ∈ freeL s := by rw [he]; simp
    have := (List.mem_filter.1 this).1
    simpa using this
  have hbl := ok.bl
  have H1 := free_s 1 w h ok (by omega)
  rw [he, show (n :: rest).take 1 = [n] from rfl] at H1
  have hmk := makeN_le s.bl
  have hfl := ok.c.frl
  have htl := ok.c.tb.len
  have HW : Hid (∀ W, D.Off k.K w W → Sx W k s d t f t' f' u sb db nx → Calls Tryz.prog 166 #[.int .i64 (n : Int), .slice a 256 cap, .pointer (some ⟨nx, 0, none⟩), .pointer (some ⟨db, 0, none⟩)] W fun r w' => r = .returned (.int .i64 (D.writeE d n zs)) ∧ Sx w' k (s.note (D.writeE d n zs)) (D.writeS d n zs) t f t' f' u sb db nx ∧ D.Off k.K W w') := by
    intro W hW hx
    have := write_sx (n : Int) a cap zs W hx (hv.offX hW (fun _ b off e h => hax b off e (k.kx b h))) (by omega) (fun b off e hm => hax b off e (k.sub b hm))
    rw [hz] at this
    exact this
  have HX : Hid (Sx w k s d t f t' f' u sb db nx) := h
  have HXlt : Hid (∀ x ∈ k.X, x < w.heap.size) := h.lt
  clear h ok hv hz hax
  generalize D.writeE d n zs = er at *
  unfold Done
  go_enter Tryz.func119, Tryz.ntmps119
  go_wp2_with (first | (go_at_call 106; refine H1.mono ?_; rintro e w1 ⟨v, rfl, ho, hb⟩; obtain ⟨g, c1, rfl, hg0, hg1, hgc⟩ := own1 ho; have HB : Hid (Below w.heap.size w w1) := hb; clear hb ho) | fail)
  have HX1 := HX.out.below HB.out
  have HC13 := HX1.m.v.cells.c13
  have HO1 : Hid (D.Off k.K w w1) := off_below HB.out
  have hgX : g ∉ k.X := fun hm => by have := HXlt.out g hm; omega
  have hgK : g ∉ k.K := fun h => hgX (k.kx _ h)
  have HW1 := HW.out _ (HO1.out.trans (off_below (Below.refl _ _).drew)) (HX1.below (Below.refl _ _).drew)
  clear HX1 H1
  refine wp_region_noPanic ?_
  refine name_ops ?_
  intro O QQ HO HQ
  refine wp_region_held_drew (S := (fun W => W.cell? ⟨k.p, 13, none⟩ = some (wrF db nx) ∧ W.cell? ⟨g, 0, none⟩ = some (.int .i64 (n : Int)))) (by kernel_rfl) ⟨HC13, hgc⟩ (fun hS => ?_)
  rw [show O.size = 10 by rw [HO.out]; rfl]
  refine wpAnyH_take (i := 0) (v := .pointer (some ⟨k.p, 0, none⟩)) (by rw [HO.out]; simp only [List.getElem?_toArray, List.getElem?_cons_succ, List.getElem?_cons_zero]; rfl) (by rw [HO.out]; kernel_rfl) (by rw [HO.out]; kernel_rfl) (by rw [HO.out]; kernel_rfl) (by rw [HQ.out]; exact fun _ _ _ h => h) (Or.inl ⟨by rfl, ?_⟩) hS ?_
  · intro w' hSw
    go_simp
  try simp only [Act.put, List.setIfInBounds_toArray, List.set_cons_zero, List.set_cons_succ]
  refine wpAnyH_take (i := 1) (v := .pointer (some ⟨k.p, 0, none⟩)) (by rw [HO.out]; simp only [List.getElem?_toArray, List.getElem?_cons_succ, List.getElem?_cons_zero]; rfl) (by rw [HO.out]; kernel_rfl) (by rw [HO.out]; kernel_rfl) (by rw [HO.out]; kernel_rfl) (by rw [HQ.out]; exact fun _ _ _ h => h) (Or.inl ⟨by rfl, ?_⟩) hS ?_
  · intro w' hSw
    go_simp
  try simp only [Act.put, List.setIfInBounds_toArray, List.set_cons_zero, List.set_cons_succ]
  refine wpAnyH_take (i := 2) (v := .pointer (some ⟨k.p, 13, none⟩)) (by rw [HO.out]; simp only [List.getElem?_toArray, List.getElem?_cons_succ, List.getElem?_cons_zero]; rfl) (by rw [HO.out]; kernel_rfl) (by rw [HO.out]; kernel_rfl) (by rw [HO.out]; kernel_rfl) (by rw [HQ.out]; exact fun _ _ _ h => h) (Or.inl ⟨by rfl, ?_⟩) hS ?_
  · intro w' hSw
    go_simp
  try simp only [Act.put, List.setIfInBounds_toArray, List.set_cons_zero, List.set_cons_succ]
  refine wpAnyH_take (i := 3) (v := wrF db nx) (by rw [HO.out]; simp only [List.getElem?_toArray, List.getElem?_cons_succ, List.getElem?_cons_zero]; rfl) (by rw [HO.out]; kernel_rfl) (by rw [HO.out]; kernel_rfl) (by rw [HO.out]; kernel_rfl) (by rw [HQ.out]; exact fun _ _ _ h => h) (Or.inl ⟨by rfl, ?_⟩) hS ?_
  · intro w' hSw
    obtain ⟨q1, q2⟩ := hSw
    go_simp
  try simp only [Act.put, List.setIfInBounds_toArray, List.set_cons_zero, List.set_cons_succ]
  refine wpAnyH_take (i := 4) (v := .slice (some ⟨g, 0, none⟩) 1 c1) (by rw [HO.out]; simp only [List.getElem?_toArray, List.getElem?_cons_succ, List.getElem?_cons_zero]; rfl) (by rw [HO.out]; kernel_rfl) (by rw [HO.out]; kernel_rfl) (by rw [HO.out]; kernel_rfl) (by rw [HQ.out]; exact fun _ _ _ h => h) (Or.inl ⟨by rfl, ?_⟩) hS ?_
  · intro w' hSw
    go_simp
  try simp only [Act.put, List.setIfInBounds_toArray, List.set_cons_zero, List.set_cons_succ]
  refine wpAnyH_take (i := 5) (v := .pointer (some ⟨g, 0, none⟩)) (by rw [HO.out]; simp only [List.getElem?_toArray, List.getElem?_cons_succ, List.getElem?_cons_zero]; rfl) (by rw [HO.out]; kernel_rfl) (by rw [HO.out]; kernel_rfl) (by rw [HO.out]; kernel_rfl) (by rw [HQ.out]; exact fun _ _ _ h => h) (Or.inl ⟨by rfl, ?_⟩) hS ?_
  · intro w' hSw
    go_simp
  try simp only [Act.put, List.setIfInBounds_toArray, List.set_cons_zero, List.set_cons_succ]
  refine wpAnyH_take (i := 6) (v := .int .i64 (n : Int)) (by rw [HO.out]; simp only [List.getElem?_toArray, List.getElem?_cons_succ, List.getElem?_cons_zero]; rfl) (by rw [HO.out]; kernel_rfl) (by rw [HO.out]; kernel_rfl) (by rw [HO.out]; kernel_rfl) (by rw [HQ.out]; exact fun _ _ _ h => h) (Or.inl ⟨by rfl, ?_⟩) hS ?_
  · intro w' hSw
    obtain ⟨q1, q2⟩ := hSw
    go_simp
  try simp only [Act.put, List.setIfInBounds_toArray, List.set_cons_zero, List.set_cons_succ]
  refine wpAnyH_take (i := 7) (v := .slice a 256 cap) (by rw [HO.out]; simp only [List.getElem?_toArray, List.getElem?_cons_succ, List.getElem?_cons_zero]; rfl) (by rw [HO.out]; kernel_rfl) (by rw [HO.out]; kernel_rfl) (by rw [HO.out]; kernel_rfl) (by rw [HQ.out]; exact fun _ _ _ h => h) (Or.inl ⟨by rfl, ?_⟩) hS ?_
  · intro w' hSw
    go_simp
  try simp only [Act.put, List.setIfInBounds_toArray, List.set_cons_zero, List.set_cons_succ]
  refine wpAnyH_ready (rs := [8]) (by rw [HO.out]; kernel_rfl) (by simp) ?_
  refine AllReadyH.cons (o := _) (by rw [HO.out]; simp only [List.getElem?_toArray, List.getElem?_cons_succ, List.getElem?_cons_zero]; rfl) (fun K8 hK8 => ?_) AllReadyH.nil
  simp only [wrF]
  go_simp
  refine HW1.mono ?_
  rintro e w2 ⟨rfl, hx2, ho2⟩
  have hgc2 : w2.cell? ⟨g, 0, none⟩ = some (.int .i64 (n : Int)) := (off_cell ho2 (by simpa using hg1) hgK 0).trans hgc
  have hg2 : g < w2.heap.size := Nat.lt_of_lt_of_le (by simpa using hg1) ho2.size
  refine hK8.out _ _ ⟨hx2.m.v.cells.c13, hgc2⟩ (fun hS1 => ?_)
  have HO2 : Hid (D.Off k.K w w2) := (HO1.out.trans (off_below (Below.refl _ _).drew)).trans ho2
  have HX2 : Hid (Sx w2 k _ _ t f t' f' u sb db nx) := hx2
  clear HW1 hx2 ho2 HO1 HC13 hgc hg1 HW HX HB
  refine wpAnyH_take (i := 9) (v := .int .i64 er) (by rw [HO.out]; simp only [List.getElem?_toArray, List.getElem?_cons_succ, List.getElem?_cons_zero]; rfl) (by rw [HO.out]; kernel_rfl) (by rw [HO.out]; kernel_rfl) (by rw [HO.out]; kernel_rfl) (by rw [HQ.out]; exact fun _ _ _ h => h) (Or.inl ⟨by rfl, ?_⟩) hS1 ?_
  · intro w' hSw
    go_simp
  try simp only [Act.put, List.setIfInBounds_toArray, List.set_cons_zero, List.set_cons_succ]
  refine wpAnyH_done (by rw [HO.out]; kernel_rfl) ?_ _
  rw [HQ.out]
  refine NoPanic.normal ?_
  go_wp2_with fail
  go_ret
  exact ⟨rfl, ⟨_, _, _, _, _, _, _, _, HX2.out⟩, HO2.out⟩
theorem cell_lt {w : World} {g i : Nat} {v : Value} (h : w.cell? ⟨g, i, none⟩ = some v) : g < w.heap.size := by
  cases e : w.heap[g]? with
  | none => simp [World.cell?, e] at h
  | some o => exact (Array.getElem?_eq_some_iff.1 e).1
set_option maxHeartbeats 1600000 in
theorem place_ok {k : Pl} {s : SS} {d : D.DS} {t f t' f' u : Value} {sb db nx : Nat} (id : Nat) (a : Option Addr) (cap : Nat) (zs : List Int) (w : World) (h : Sx w k s d t f t' f' u sb db nx) (ok : s.Ok) (hv : BV w a zs) (hz : zs.length = 256) (hax : ∀ b off, a = some ⟨b, off, none⟩ → b ∉ k.X) (h1 : 1 ≤ id) (h2 : id ≤ 3000) (n : Nat) (rest : List Nat) (he : freeL s = n :: rest) (hw : D.writeE d n zs = 0) :
    Calls Tryz.prog 119 #[.pointer (some ⟨k.p, 0, none⟩), .int .i64 id, .slice a 256 cap] w fun e w' => Done k w (placeR s d id zs) e w' := by
  have e : placeR s d id zs = (0, (s.give id n).fresh n true, D.writeS d n zs) := by unfold placeR; rw [he]; simp [hw]
  rw [e]
  clear e
  have hn : n < s.bl := by
    have : n ∈ freeL s := by rw [he]; simp
    have := (List.mem_filter.1 this).1
    simpa using this
  have hbl := ok.bl
  have H1 := free_s 1 w h ok (by omega)
  rw [he, show (n :: rest).take 1 = [n] from rfl] at H1
  have hmk := makeN_le s.bl
  have hfl := ok.c.frl
  have htl := ok.c.tb.len
  have HW : Hid (∀ W, D.Off k.K w W → Sx W k s d t f t' f' u sb db nx → Calls Tryz.prog 166 #[.int .i64 (n : Int), .slice a 256 cap, .pointer (some ⟨nx, 0, none⟩), .pointer (some ⟨db, 0, none⟩)] W fun r w' => r = .returned (.int .i64 (D.writeE d n zs)) ∧ Sx w' k (s.note (D.writeE d n zs)) (D.writeS d n zs) t f t' f' u sb db nx ∧ D.Off k.K W w') := by
    intro W hW hx
    have := write_sx (n : Int) a cap zs W hx (hv.offX hW (fun _ b off e h => hax b off e (k.kx b h))) (by omega) (fun b off e hm => hax b off e (k.sub b hm))
    rw [hz] at this
    exact this
  have HX : Hid (Sx w k s d t f t' f' u sb db nx) := h
  have HXlt : Hid (∀ x ∈ k.X, x < w.heap.size) := h.lt
  clear h ok hv hz hax
  rw [hw] at HW
  unfold Done
  go_enter Tryz.func119, Tryz.ntmps119
  go_wp2_with (first | (go_at_call 106; refine H1.mono ?_; rintro e w1 ⟨v, rfl, ho, hb⟩; obtain ⟨g, c1, rfl, hg0, hg1, hgc⟩ := own1 ho; have HB : Hid (Below w.heap.size w w1) := hb; clear hb ho) | fail)
  have HX1 := HX.out.below HB.out
  have HC13 := HX1.m.v.cells.c13
  have HO1 : Hid (D.Off k.K w w1) := off_below HB.out
  have hgX : g ∉ k.X := fun hm => by have := HXlt.out g hm; omega
  have hgK : g ∉ k.K := fun h => hgX (k.kx _ h)
  have HW1 := HW.out _ (HO1.out.trans (off_below (Below.refl _ _).drew)) (HX1.below (Below.refl _ _).drew)
  clear HX1 H1
  refine wp_region_noPanic ?_
  refine name_ops ?_
  intro O QQ HO HQ
  refine wp_region_held_drew (S := (fun W => W.cell? ⟨k.p, 13, none⟩ = some (wrF db nx) ∧ W.cell? ⟨g, 0, none⟩ = some (.int .i64 (n : Int)))) (by kernel_rfl) ⟨HC13, hgc⟩ (fun hS => ?_)
  rw [show O.size = 10 by rw [HO.out]; rfl]
  refine wpAnyH_take (i := 0) (v := .pointer (some ⟨k.p, 0, none⟩)) (by rw [HO.out]; simp only [List.getElem?_toArray, List.getElem?_cons_succ, List.getElem?_cons_zero]; rfl) (by rw [HO.out]; kernel_rfl) (by rw [HO.out]; kernel_rfl) (by rw [HO.out]; kernel_rfl) (by rw [HQ.out]; exact fun _ _ _ h => h) (Or.inl ⟨by rfl, ?_⟩) hS ?_
  · intro w' hSw
    go_simp
  try simp only [Act.put, List.setIfInBounds_toArray, List.set_cons_zero, List.set_cons_succ]
  refine wpAnyH_take (i := 1) (v := .pointer (some ⟨k.p, 0, none⟩)) (by rw [HO.out]; simp only [List.getElem?_toArray, List.getElem?_cons_succ, List.getElem?_cons_zero]; rfl) (by rw [HO.out]; kernel_rfl) (by rw [HO.out]; kernel_rfl) (by rw [HO.out]; kernel_rfl) (by rw [HQ.out]; exact fun _ _ _ h => h) (Or.inl ⟨by rfl, ?_⟩) hS ?_
  · intro w' hSw
    go_simp
  try simp only [Act.put, List.setIfInBounds_toArray, List.set_cons_zero, List.set_cons_succ]
  refine wpAnyH_take (i := 2) (v := .pointer (some ⟨k.p, 13, none⟩)) (by rw [HO.out]; simp only [List.getElem?_toArray, List.getElem?_cons_succ, List.getElem?_cons_zero]; rfl) (by rw [HO.out]; kernel_rfl) (by rw [HO.out]; kernel_rfl) (by rw [HO.out]; kernel_rfl) (by rw [HQ.out]; exact fun _ _ _ h => h) (Or.inl ⟨by rfl, ?_⟩) hS ?_
  · intro w' hSw
    go_simp
  try simp only [Act.put, List.setIfInBounds_toArray, List.set_cons_zero, List.set_cons_succ]
  refine wpAnyH_take (i := 3) (v := wrF db nx) (by rw [HO.out]; simp only [List.getElem?_toArray, List.getElem?_cons_succ, List.getElem?_cons_zero]; rfl) (by rw [HO.out]; kernel_rfl) (by rw [HO.out]; kernel_rfl) (by rw [HO.out]; kernel_rfl) (by rw [HQ.out]; exact fun _ _ _ h => h) (Or.inl ⟨by rfl, ?_⟩) hS ?_
  · intro w' hSw
    obtain ⟨q1, q2⟩ := hSw
    go_simp
  try simp only [Act.put, List.setIfInBounds_toArray, List.set_cons_zero, List.set_cons_succ]
  refine wpAnyH_take (i := 4) (v := .slice (some ⟨g, 0, none⟩) 1 c1) (by rw [HO.out]; simp only [List.getElem?_toArray, List.getElem?_cons_succ, List.getElem?_cons_zero]; rfl) (by rw [HO.out]; kernel_rfl) (by rw [HO.out]; kernel_rfl) (by rw [HO.out]; kernel_rfl) (by rw [HQ.out]; exact fun _ _ _ h => h) (Or.inl ⟨by rfl, ?_⟩) hS ?_
  · intro w' hSw
    go_simp
  try simp only [Act.put, List.setIfInBounds_toArray, List.set_cons_zero, List.set_cons_succ]
  refine wpAnyH_take (i := 5) (v := .pointer (some ⟨g, 0, none⟩)) (by rw [HO.out]; simp only [List.getElem?_toArray, List.getElem?_cons_succ, List.getElem?_cons_zero]; rfl) (by rw [HO.out]; kernel_rfl) (by rw [HO.out]; kernel_rfl) (by rw [HO.out]; kernel_rfl) (by rw [HQ.out]; exact fun _ _ _ h => h) (Or.inl ⟨by rfl, ?_⟩) hS ?_
  · intro w' hSw
    go_simp
  try simp only [Act.put, List.setIfInBounds_toArray, List.set_cons_zero, List.set_cons_succ]
  refine wpAnyH_take (i := 6) (v := .int .i64 (n : Int)) (by rw [HO.out]; simp only [List.getElem?_toArray, List.getElem?_cons_succ, List.getElem?_cons_zero]; rfl) (by rw [HO.out]; kernel_rfl) (by rw [HO.out]; kernel_rfl) (by rw [HO.out]; kernel_rfl) (by rw [HQ.out]; exact fun _ _ _ h => h) (Or.inl ⟨by rfl, ?_⟩) hS ?_
  · intro w' hSw
    obtain ⟨q1, q2⟩ := hSw
    go_simp
  try simp only [Act.put, List.setIfInBounds_toArray, List.set_cons_zero, List.set_cons_succ]
  refine wpAnyH_take (i := 7) (v := .slice a 256 cap) (by rw [HO.out]; simp only [List.getElem?_toArray, List.getElem?_cons_succ, List.getElem?_cons_zero]; rfl) (by rw [HO.out]; kernel_rfl) (by rw [HO.out]; kernel_rfl) (by rw [HO.out]; kernel_rfl) (by rw [HQ.out]; exact fun _ _ _ h => h) (Or.inl ⟨by rfl, ?_⟩) hS ?_
  · intro w' hSw
    go_simp
  try simp only [Act.put, List.setIfInBounds_toArray, List.set_cons_zero, List.set_cons_succ]
  refine wpAnyH_ready (rs := [8]) (by rw [HO.out]; kernel_rfl) (by simp) ?_
  refine AllReadyH.cons (o := _) (by rw [HO.out]; simp only [List.getElem?_toArray, List.getElem?_cons_succ, List.getElem?_cons_zero]; rfl) (fun K8 hK8 => ?_) AllReadyH.nil
  simp only [wrF]
  go_simp
  refine HW1.mono ?_
  rintro e w2 ⟨rfl, hx2, ho2⟩
  have hgc2 : w2.cell? ⟨g, 0, none⟩ = some (.int .i64 (n : Int)) := (off_cell ho2 (by simpa using hg1) hgK 0).trans hgc
  have hg2 : g < w2.heap.size := Nat.lt_of_lt_of_le (by simpa using hg1) ho2.size
  refine hK8.out _ _ ⟨hx2.m.v.cells.c13, hgc2⟩ (fun hS1 => ?_)
  have HO2 : Hid (D.Off k.K w w2) := (HO1.out.trans (off_below (Below.refl _ _).drew)).trans ho2
  have HX2 : Hid (Sx w2 k _ _ t f t' f' u sb db nx) := hx2
  clear HW1 hx2 ho2 HO1 HC13 hgc hg1 HW HX HB
  refine wpAnyH_take (i := 9) (v := .int .i64 0) (by rw [HO.out]; simp only [List.getElem?_toArray, List.getElem?_cons_succ, List.getElem?_cons_zero]; rfl) (by rw [HO.out]; kernel_rfl) (by rw [HO.out]; kernel_rfl) (by rw [HO.out]; kernel_rfl) (by rw [HQ.out]; exact fun _ _ _ h => h) (Or.inl ⟨by rfl, ?_⟩) hS1 ?_
  · intro w' hSw
    go_simp
  try simp only [Act.put, List.setIfInBounds_toArray, List.set_cons_zero, List.set_cons_succ]
  refine wpAnyH_done (by rw [HO.out]; kernel_rfl) ?_ _
  rw [HQ.out]
  refine NoPanic.normal ?_
  rw [note_zero] at HX2
  have HG := give_s id n w2 HX2.out htl h1 (by omega)
  go_wp2_with (first | (go_at_call 127; refine HG.mono ?_; rintro e w3 ⟨rfl, ⟨t2, hx3⟩, ho3⟩; have HX3 : Hid (Sx w3 k _ _ t2 f t' f' u sb db nx) := hx3; have HO3 : Hid (D.Off k.K w w3) := HO2.out.trans ho3; have hgc3 : w3.cell? ⟨g, 0, none⟩ = some (.int .i64 (n : Int)) := (off_cell ho3 hg2 hgK 0).trans hgc2; have hg3 : g < w3.heap.size := Nat.lt_of_lt_of_le hg2 ho3.size; have hc2 := hx3.m.v.cells.c2; clear hx3 ho3 HG) | fail)
  have HWI := with_fb f s.c.fr n true k.X w3.drew (HX3.out.m.hf.below (Below.refl _ _).drew) (by rw [hfl]; omega) HX3.out.lt
  refine wp_region_noPanic ?_
  refine name_ops ?_
  intro O QQ HO HQ
  refine wp_region_held_drew (S := (fun W => W.cell? ⟨g, 0, none⟩ = some (.int .i64 (n : Int)))) (by kernel_rfl) hgc3 (fun hS => ?_)
  rw [show O.size = 14 by rw [HO.out]; rfl]
  refine wpAnyH_take (i := 0) (v := .pointer (some ⟨k.p, 0, none⟩)) (by rw [HO.out]; simp only [List.getElem?_toArray, List.getElem?_cons_succ, List.getElem?_cons_zero]; rfl) (by rw [HO.out]; kernel_rfl) (by rw [HO.out]; kernel_rfl) (by rw [HO.out]; kernel_rfl) (by rw [HQ.out]; exact fun _ _ _ h => h) (Or.inl ⟨by rfl, ?_⟩) hS ?_
  · intro w' hSw
    go_simp
  try simp only [Act.put, List.setIfInBounds_toArray, List.set_cons_zero, List.set_cons_succ]
  refine wpAnyH_take (i := 1) (v := .pointer (some ⟨k.p, 0, none⟩)) (by rw [HO.out]; simp only [List.getElem?_toArray, List.getElem?_cons_succ, List.getElem?_cons_zero]; rfl) (by rw [HO.out]; kernel_rfl) (by rw [HO.out]; kernel_rfl) (by rw [HO.out]; kernel_rfl) (by rw [HQ.out]; exact fun _ _ _ h => h) (Or.inl ⟨by rfl, ?_⟩) hS ?_
  · intro w' hSw
    go_simp
  try simp only [Act.put, List.setIfInBounds_toArray, List.set_cons_zero, List.set_cons_succ]
  refine wpAnyH_take (i := 2) (v := .pointer (some ⟨k.p, 0, none⟩)) (by rw [HO.out]; simp only [List.getElem?_toArray, List.getElem?_cons_succ, List.getElem?_cons_zero]; rfl) (by rw [HO.out]; kernel_rfl) (by rw [HO.out]; kernel_rfl) (by rw [HO.out]; kernel_rfl) (by rw [HQ.out]; exact fun _ _ _ h => h) (Or.inl ⟨by rfl, ?_⟩) hS ?_
  · intro w' hSw
    go_simp
  try simp only [Act.put, List.setIfInBounds_toArray, List.set_cons_zero, List.set_cons_succ]
  refine wpAnyH_take (i := 3) (v := .pointer (some ⟨k.p, 0, none⟩)) (by rw [HO.out]; simp only [List.getElem?_toArray, List.getElem?_cons_succ, List.getElem?_cons_zero]; rfl) (by rw [HO.out]; kernel_rfl) (by rw [HO.out]; kernel_rfl) (by rw [HO.out]; kernel_rfl) (by rw [HQ.out]; exact fun _ _ _ h => h) (Or.inl ⟨by rfl, ?_⟩) hS ?_
  · intro w' hSw
    go_simp
  try simp only [Act.put, List.setIfInBounds_toArray, List.set_cons_zero, List.set_cons_succ]
  refine wpAnyH_take (i := 4) (v := .pointer (some ⟨k.p, 2, none⟩)) (by rw [HO.out]; simp only [List.getElem?_toArray, List.getElem?_cons_succ, List.getElem?_cons_zero]; rfl) (by rw [HO.out]; kernel_rfl) (by rw [HO.out]; kernel_rfl) (by rw [HO.out]; kernel_rfl) (by rw [HQ.out]; exact fun _ _ _ h => h) (Or.inl ⟨by rfl, ?_⟩) hS ?_
  · intro w' hSw
    go_simp
  try simp only [Act.put, List.setIfInBounds_toArray, List.set_cons_zero, List.set_cons_succ]
  refine wpAnyH_take (i := 6) (v := .slice (some ⟨g, 0, none⟩) 1 c1) (by rw [HO.out]; simp only [List.getElem?_toArray, List.getElem?_cons_succ, List.getElem?_cons_zero]; rfl) (by rw [HO.out]; kernel_rfl) (by rw [HO.out]; kernel_rfl) (by rw [HO.out]; kernel_rfl) (by rw [HQ.out]; exact fun _ _ _ h => h) (Or.inl ⟨by rfl, ?_⟩) hS ?_
  · intro w' hSw
    go_simp
  try simp only [Act.put, List.setIfInBounds_toArray, List.set_cons_zero, List.set_cons_succ]
  refine wpAnyH_take (i := 7) (v := .pointer (some ⟨g, 0, none⟩)) (by rw [HO.out]; simp only [List.getElem?_toArray, List.getElem?_cons_succ, List.getElem?_cons_zero]; rfl) (by rw [HO.out]; kernel_rfl) (by rw [HO.out]; kernel_rfl) (by rw [HO.out]; kernel_rfl) (by rw [HQ.out]; exact fun _ _ _ h => h) (Or.inl ⟨by rfl, ?_⟩) hS ?_
  · intro w' hSw
    go_simp
  try simp only [Act.put, List.setIfInBounds_toArray, List.set_cons_zero, List.set_cons_succ]
  refine wpAnyH_take (i := 8) (v := .int .i64 (n : Int)) (by rw [HO.out]; simp only [List.getElem?_toArray, List.getElem?_cons_succ, List.getElem?_cons_zero]; rfl) (by rw [HO.out]; kernel_rfl) (by rw [HO.out]; kernel_rfl) (by rw [HO.out]; kernel_rfl) (by rw [HQ.out]; exact fun _ _ _ h => h) (Or.inl ⟨by rfl, ?_⟩) hS ?_
  · intro w' hSw
    have q1 := hSw
    go_simp
  try simp only [Act.put, List.setIfInBounds_toArray, List.set_cons_zero, List.set_cons_succ]
  refine wpAnyH_ready (rs := [5]) (by rw [HO.out]; kernel_rfl) (by simp) ?_
  refine AllReadyH.cons (o := _) (by rw [HO.out]; simp only [List.getElem?_toArray, List.getElem?_cons_succ, List.getElem?_cons_zero]; rfl) (fun K5 hK5 => ?_) AllReadyH.nil
  go_simp
  refine hK5.out _ _ hS (fun hS1 => ?_)
  try simp only [Act.put, List.setIfInBounds_toArray, List.set_cons_zero, List.set_cons_succ]
  refine wpAnyH_ready (rs := [9]) (by rw [HO.out]; kernel_rfl) (by simp) ?_
  refine AllReadyH.cons (o := _) (by rw [HO.out]; simp only [List.getElem?_toArray, List.getElem?_cons_succ, List.getElem?_cons_zero]; rfl) (fun K9 hK9 => ?_) AllReadyH.nil
  go_simp
  refine HWI.mono ?_
  rintro e w4 ⟨f2, rfl, hf2, hb4'⟩
  have hb4 : Below w3.heap.size w3 w4 := (Below.refl _ _).drew.trans hb4'
  have hf2c := hf2
  obtain ⟨fa, fcap, rfl, _⟩ := hf2c
  clear hb4'
  have HX4 : Hid (Sx w4 k _ _ t2 f t' f' u sb db nx) := HX3.out.below hb4
  have HO4 : Hid (D.Off k.K w w4) := HO3.out.trans (off_below hb4)
  have HE : Hid _ := HX4.out.refresh _ n true hf2
  obtain ⟨cc2, ff2⟩ : w4.cell? ⟨k.p, 2, none⟩ = some f ∧ w4.frozen? ⟨k.p, 2, none⟩ = false := ⟨HX4.out.m.v.cells.c2, HX4.out.m.v.cells.f 2⟩
  have hgc4 : w4.cell? ⟨g, 0, none⟩ = some (.int .i64 (n : Int)) := (off_cell (off_below (k := k) hb4) (by simpa using hg3) hgK 0).trans hgc3
  refine hK9.out _ _ hgc4 (fun hS2 => ?_)
  clear HWI hf2 hb4 HX3 HO3
  try simp only [Act.put, List.setIfInBounds_toArray, List.set_cons_zero, List.set_cons_succ]
  refine wpAnyH_take (i := 10) (v := .pointer (some ⟨k.p, 0, none⟩)) (by rw [HO.out]; simp only [List.getElem?_toArray, List.getElem?_cons_succ, List.getElem?_cons_zero]; rfl) (by rw [HO.out]; kernel_rfl) (by rw [HO.out]; kernel_rfl) (by rw [HO.out]; kernel_rfl) (by rw [HQ.out]; exact fun _ _ _ h => h) (Or.inl ⟨by rfl, ?_⟩) hS2 ?_
  · intro w' hSw
    go_simp
  try simp only [Act.put, List.setIfInBounds_toArray, List.set_cons_zero, List.set_cons_succ]
  refine wpAnyH_take (i := 11) (v := .pointer (some ⟨k.p, 0, none⟩)) (by rw [HO.out]; simp only [List.getElem?_toArray, List.getElem?_cons_succ, List.getElem?_cons_zero]; rfl) (by rw [HO.out]; kernel_rfl) (by rw [HO.out]; kernel_rfl) (by rw [HO.out]; kernel_rfl) (by rw [HQ.out]; exact fun _ _ _ h => h) (Or.inl ⟨by rfl, ?_⟩) hS2 ?_
  · intro w' hSw
    go_simp
  try simp only [Act.put, List.setIfInBounds_toArray, List.set_cons_zero, List.set_cons_succ]
  refine wpAnyH_take (i := 12) (v := .pointer (some ⟨k.p, 2, none⟩)) (by rw [HO.out]; simp only [List.getElem?_toArray, List.getElem?_cons_succ, List.getElem?_cons_zero]; rfl) (by rw [HO.out]; kernel_rfl) (by rw [HO.out]; kernel_rfl) (by rw [HO.out]; kernel_rfl) (by rw [HQ.out]; exact fun _ _ _ h => h) (Or.inl ⟨by rfl, ?_⟩) hS2 ?_
  · intro w' hSw
    go_simp
  try simp only [Act.put, List.setIfInBounds_toArray, List.set_cons_zero, List.set_cons_succ]
  refine wpAnyH_ready (rs := [13]) (by rw [HO.out]; kernel_rfl) (by simp) ?_
  refine AllReadyH.cons (o := _) (by rw [HO.out]; simp only [List.getElem?_toArray, List.getElem?_cons_succ, List.getElem?_cons_zero]; rfl) (fun K13 hK13 => ?_) AllReadyH.nil
  go_simp
  have hgp : g ≠ k.p := fun e => hgX (by rw [e]; simp [Pl.X])
  refine hK13.out _ _ ((off_cell HE.out.2 (cell_lt hgc4) (by simp; exact hgp) 0).trans hgc4) (fun hS3 => ?_)
  refine wpAnyH_done (by rw [HO.out]; kernel_rfl) ?_ _
  rw [HQ.out]
  refine NoPanic.normal ?_
  go_wp2_with fail
  go_ret
  exact ⟨rfl, ⟨_, _, _, _, _, _, _, _, HE.out.1⟩, HO4.out.trans (Pl.offP HE.out.2)⟩
end Go.Proofs.YtbklnadlbcndlaaGreat
namespace Go.Proofs.YtbklnadlbcndlaaGreat
set_option maxRecDepth 20000
open Go.RowKit
set_option linter.unusedVariables false
set_option linter.unusedSimpArgs false
theorem place_any {k : Pl} {s : SS} {d : D.DS} {t f t' f' u : Value} {sb db nx : Nat} (id : Nat) (a : Option Addr) (cap : Nat) (zs : List Int) (w : World) (h : Sx w k s d t f t' f' u sb db nx) (ok : s.Ok) (hv : BV w a zs) (hz : zs.length = 256) (hax : ∀ b off, a = some ⟨b, off, none⟩ → b ∉ k.X) (h1 : 1 ≤ id) (h2 : id ≤ 3000) :
    Calls Tryz.prog 119 #[.pointer (some ⟨k.p, 0, none⟩), .int .i64 id, .slice a 256 cap] w fun e w' => Done k w (placeR s d id zs) e w' := by
  cases he : freeL s with
  | nil => exact place_full id a cap zs w h ok hv hz hax h1 h2 he
  | cons n rest =>
    by_cases hw : D.writeE d n zs = 0
    · exact place_ok id a cap zs w h ok hv hz hax h1 h2 n rest he hw
    · exact place_bad id a cap zs w h ok hv hz hax h1 h2 n rest he hw
theorem own_shape {w : World} {base : Nat} {v : Value} {zs : List Int} (h : Own w base v zs) (hz : AllB zs) (hl : zs.length = 256) : ∃ g cap, v = .slice (some ⟨g, 0, none⟩) 256 cap ∧ base ≤ g ∧ BV w (some ⟨g, 0, none⟩) zs := by
  have hf := fb_own (X := []) h hz (by simp)
  rcases h.2 with ⟨rfl, h0⟩ | ⟨g, cap, cur, rfl, hb, hg, _⟩
  · omega
  · obtain ⟨a, c, e, _, _, _, hv, _⟩ := hf
    simp at e
    obtain ⟨rfl, _, _⟩ := e
    exact ⟨g, cap, by rw [hl], hb, hv⟩
theorem seal_s (kd id : Int) (a : Option Addr) (cap : Nat) (zs : List Int) (w : World) (hv : BV w a zs) (hn : a = none → cap = 0) (hm : zs.length ≤ 9223372036854775807) (he : sealE kd id zs.length = 0) (X : List Nat) (hX : ∀ x ∈ X, x < w.heap.size) :
    Calls Tryz.prog 56 #[.int .i64 kd, .int .i64 id, .slice a zs.length cap] w fun e w' => ∃ g c, e = .returned (.tuple #[.slice (some ⟨g, 0, none⟩) 256 c, .int .i64 0]) ∧ BV w' (some ⟨g, 0, none⟩) (sealS kd id zs) ∧ g ∉ X ∧ Below w.heap.size w w' := by
  refine (pseal_any kd id a cap zs w hv hn hm).mono ?_
  rintro e w' ⟨v, rfl, ho, hb⟩
  rw [he]
  unfold sealL at ho
  rw [if_pos he] at ho
  obtain ⟨g, c, rfl, hg, hv'⟩ := own_shape ho (sealS_all hv.1) (seal_len (sealE_zero he).2.2.2.2)
  exact ⟨g, c, rfl, hv', fun hx => by have := hX g hx; omega, hb⟩
theorem seal_b (kd id : Int) (a : Option Addr) (cap : Nat) (zs : List Int) (w : World) (hv : BV w a zs) (hn : a = none → cap = 0) (hm : zs.length ≤ 9223372036854775807) :
    Calls Tryz.prog 56 #[.int .i64 kd, .int .i64 id, .slice a zs.length cap] w fun e w' => ∃ v, e = .returned (.tuple #[v, .int .i64 (sealE kd id zs.length)]) ∧ Below w.heap.size w w' := by
  refine (pseal_any kd id a cap zs w hv hn hm).mono ?_
  rintro e w' ⟨v, rfl, ho, hb⟩
  exact ⟨v, rfl, hb⟩
def DoneP (k : Pl) (w : World) (i : Int) (r : Int × SS × D.DS) (e : Ending) (w' : World) : Prop := e = .returned (.tuple #[.int .i64 i, .int .i64 r.1]) ∧ Sy w' k r.2.1 r.2.2 ∧ D.Off k.K w w'
def allocE (s : SS) (d : D.DS) (kd : Int) (zs : List Int) : Int :=
  if s.bad then 15 else if sealE kd 1 zs.length ≠ 0 then sealE kd 1 zs.length else if sealE kd (spareN s.c.tb : Nat) zs.length ≠ 0 then sealE kd (spareN s.c.tb : Nat) zs.length else (placeR s d (spareN s.c.tb) (sealS kd (spareN s.c.tb : Nat) zs)).1
def allocI (s : SS) (d : D.DS) (kd : Int) (zs : List Int) : Int := if allocE s d kd zs = 0 then (spareN s.c.tb : Nat) else 0
def allocR (s : SS) (d : D.DS) (kd : Int) (zs : List Int) : SS × D.DS :=
  if s.bad = true ∨ sealE kd 1 zs.length ≠ 0 ∨ sealE kd (spareN s.c.tb : Nat) zs.length ≠ 0 then (s, d) else (placeR s d (spareN s.c.tb) (sealS kd (spareN s.c.tb : Nat) zs)).2
set_option maxHeartbeats 800000 in
theorem alloc_s {k : Pl} {s : SS} {d : D.DS} {t f t' f' u : Value} {sb db nx : Nat} (kd : Int) (a : Option Addr) (cap : Nat) (zs : List Int) (w : World) (h : Sx w k s d t f t' f' u sb db nx) (ok : s.Ok) (hv : BV w a zs) (hn : a = none → cap = 0) (hm : zs.length ≤ 9223372036854775807) :
    Calls Tryz.prog 54 #[.pointer (some ⟨k.p, 0, none⟩), .int .i64 kd, .slice a zs.length cap] w fun e w' => DoneP k w (allocI s d kd zs) (allocE s d kd zs, allocR s d kd zs) e w' := by
  have HX : Hid (Sx w k s d t f t' f' u sb db nx) := h
  have H1 := ready_s w h
  have htl := ok.c.tb.len
  unfold readyE at H1
  cases hb : s.bad
  · rw [hb] at H1
    simp only [Bool.false_eq_true, if_false] at H1
    by_cases he1 : sealE kd 1 zs.length = 0
    · have H3 := seal_s kd 1 a cap zs w hv hn hm he1 k.X h.lt
      have H4 : Hid (∀ W, Below w.heap.size w W → Calls Tryz.prog 118 #[.pointer (some ⟨k.p, 0, none⟩)] W fun e w' => e = .returned (.int .i64 (spareN s.c.tb : Nat)) ∧ w' = W) := fun W hW => spare_s W (h.below hW) (by omega)
      by_cases he2 : sealE kd (spareN s.c.tb : Nat) zs.length = 0
      · have hid := (sealE_zero he2).2.2.2.1
        have hs1 : 1 ≤ spareN s.c.tb := by unfold spareN; omega
        have hs2 : spareN s.c.tb ≤ 3000 := by omega
        have H5 : Hid (∀ W, Below w.heap.size w W → Calls Tryz.prog 56 #[.int .i64 kd, .int .i64 (spareN s.c.tb : Nat), .slice a zs.length cap] W fun e w' => ∃ g c, e = .returned (.tuple #[.slice (some ⟨g, 0, none⟩) 256 c, .int .i64 0]) ∧ BV w' (some ⟨g, 0, none⟩) (sealS kd (spareN s.c.tb : Nat) zs) ∧ g ∉ k.X ∧ Below W.heap.size W w') := fun W hW => seal_s kd (spareN s.c.tb : Nat) a cap zs W (hv.below hW) hn hm he2 k.X (h.below hW).lt
        have H6 : Hid (∀ W g c, Below w.heap.size w W → BV W (some ⟨g, 0, none⟩) (sealS kd (spareN s.c.tb : Nat) zs) → g ∉ k.X → Calls Tryz.prog 119 #[.pointer (some ⟨k.p, 0, none⟩), .int .i64 (spareN s.c.tb : Nat), .slice (some ⟨g, 0, none⟩) 256 c] W fun e w' => Done k W (placeR s d (spareN s.c.tb) (sealS kd (spareN s.c.tb : Nat) zs)) e w') := fun W g c hW hv' hg => place_any (spareN s.c.tb) _ c _ W (h.below hW) ok hv' (seal_len (sealE_zero he2).2.2.2.2) (fun b off e => by simp at e; rw [← e.1]; exact hg) hs1 hs2
        have eE : allocE s d kd zs = (placeR s d (spareN s.c.tb) (sealS kd (spareN s.c.tb : Nat) zs)).1 := by unfold allocE; rw [hb]; simp [he1, he2]
        have eR : allocR s d kd zs = (placeR s d (spareN s.c.tb) (sealS kd (spareN s.c.tb : Nat) zs)).2 := by unfold allocR; rw [hb]; simp [he1, he2]
        unfold allocI
        rw [eE, eR]
        have HSV : Hid (∀ x, x = sealS kd (spareN s.c.tb : Nat) zs → True) := fun _ _ => trivial
        generalize placeR s d (spareN s.c.tb) (sealS kd (spareN s.c.tb : Nat) zs) = R at *
        obtain ⟨r1, r2, r3⟩ := R
        generalize spareN s.c.tb = id at *
        clear eE eR h ok hv htl HX
        unfold DoneP
        by_cases hr : r1 = 0
        · subst hr
          simp only [if_true]
          go_enter Tryz.func54, Tryz.ntmps54
          go_wp2_with (first
            | (go_at_call 117; refine H1.mono ?_; rintro e w' ⟨rfl, hw⟩; obtain rfl := hw.symm; clear H1)
            | (go_at_call_of 56 (1 : Int); refine H3.mono ?_; rintro e w1 ⟨g1, c1, rfl, _, _, hb1⟩; have HB1 : Hid (Below w.heap.size w w1) := hb1; have H4' := H4.out _ hb1; clear hb1 H3)
            | (go_at_call 118; refine H4'.mono ?_; rintro e w' ⟨rfl, hw⟩; obtain rfl := hw.symm; clear H4')
            | (go_at_call 56; refine (H5.out _ HB1.out).mono ?_; rintro e w2 ⟨g2, c2, rfl, hv2, hg2, hb2⟩; have HB2 : Hid (Below w.heap.size w w2) := HB1.out.trans (hb2.mono HB1.out.size); have H6' := H6.out _ _ c2 HB2.out hv2 hg2; clear hb2 hv2 H6)
            | (go_at_call 119; refine H6'.mono ?_; rintro e w3 ⟨rfl, hy, ho⟩; have HY : Hid (Sy w3 k r2 r3) := hy; have HO : Hid (D.Off k.K w2 w3) := ho; clear hy ho H6')
            | fail)
          exact bodyPost_ret (v := .tuple #[.int .i64 (id : Nat), .int .i64 0]) (by simp [results, Tryz.results54, go_sem]) rfl ⟨rfl, HY.out, (off_below HB2.out).trans HO.out⟩
        · have hr' : (r1 == 0) = false := by simpa using hr
          simp only [if_neg hr]
          go_enter Tryz.func54, Tryz.ntmps54
          go_wp2_with (first
            | (go_at_call 117; refine H1.mono ?_; rintro e w' ⟨rfl, hw⟩; obtain rfl := hw.symm; clear H1)
            | (go_at_call_of 56 (1 : Int); refine H3.mono ?_; rintro e w1 ⟨g1, c1, rfl, _, _, hb1⟩; have HB1 : Hid (Below w.heap.size w w1) := hb1; have H4' := H4.out _ hb1; clear hb1 H3)
            | (go_at_call 118; refine H4'.mono ?_; rintro e w' ⟨rfl, hw⟩; obtain rfl := hw.symm; clear H4')
            | (go_at_call 56; refine (H5.out _ HB1.out).mono ?_; rintro e w2 ⟨g2, c2, rfl, hv2, hg2, hb2⟩; have HB2 : Hid (Below w.heap.size w w2) := HB1.out.trans (hb2.mono HB1.out.size); have H6' := H6.out _ _ c2 HB2.out hv2 hg2; clear hb2 hv2 H6)
            | (go_at_call 119; refine H6'.mono ?_; rintro e w3 ⟨rfl, hy, ho⟩; have HY : Hid (Sy w3 k r2 r3) := hy; have HO : Hid (D.Off k.K w2 w3) := ho; clear hy ho H6')
            | fail)
          exact bodyPost_ret (v := .tuple #[.int .i64 0, .int .i64 r1]) (by simp [results, Tryz.results54, go_sem]) rfl ⟨rfl, HY.out, (off_below HB2.out).trans HO.out⟩
      · have H5 : Hid (∀ W, Below w.heap.size w W → Calls Tryz.prog 56 #[.int .i64 kd, .int .i64 (spareN s.c.tb : Nat), .slice a zs.length cap] W fun e w' => ∃ v, e = .returned (.tuple #[v, .int .i64 (sealE kd (spareN s.c.tb : Nat) zs.length)]) ∧ Below W.heap.size W w') := fun W hW => seal_b kd (spareN s.c.tb : Nat) a cap zs W (hv.below hW) hn hm
        have eE : allocE s d kd zs = sealE kd (spareN s.c.tb : Nat) zs.length := by unfold allocE; rw [hb]; simp [he1, he2]
        have eR : allocR s d kd zs = (s, d) := by unfold allocR; rw [if_pos (Or.inr (Or.inr he2))]
        unfold allocI
        rw [eE, eR, if_neg he2]
        have he' : (sealE kd (spareN s.c.tb : Nat) zs.length == 0) = false := by simpa using he2
        generalize sealE kd (spareN s.c.tb : Nat) zs.length = er at *
        generalize spareN s.c.tb = id at *
        clear eE eR h ok hv htl he2
        unfold DoneP
        go_enter Tryz.func54, Tryz.ntmps54
        go_wp2_with (first
          | (go_at_call 117; refine H1.mono ?_; rintro e w' ⟨rfl, hw⟩; obtain rfl := hw.symm; clear H1)
          | (go_at_call_of 56 (1 : Int); refine H3.mono ?_; rintro e w1 ⟨g1, c1, rfl, _, _, hb1⟩; have HB1 : Hid (Below w.heap.size w w1) := hb1; have H4' := H4.out _ hb1; clear hb1 H3)
          | (go_at_call 118; refine H4'.mono ?_; rintro e w' ⟨rfl, hw⟩; obtain rfl := hw.symm; clear H4')
          | (go_at_call 56; refine (H5.out _ HB1.out).mono ?_; rintro e w2 ⟨v2, rfl, hb2⟩; have HB2 : Hid (Below w.heap.size w w2) := HB1.out.trans (hb2.mono HB1.out.size); clear hb2)
          | fail)
        exact bodyPost_ret (v := .tuple #[.int .i64 0, .int .i64 er]) (by simp [results, Tryz.results54, go_sem]) rfl ⟨rfl, Sy.below ⟨_, _, _, _, _, _, _, _, HX.out⟩ HB2.out, off_below HB2.out⟩
    · have H3 := seal_b kd 1 a cap zs w hv hn hm
      have eE : allocE s d kd zs = sealE kd 1 zs.length := by unfold allocE; rw [hb]; simp [he1]
      have eR : allocR s d kd zs = (s, d) := by unfold allocR; rw [if_pos (Or.inr (Or.inl he1))]
      unfold allocI
      rw [eE, eR, if_neg he1]
      have he' : (sealE kd 1 zs.length == 0) = false := by simpa using he1
      generalize sealE kd 1 zs.length = er at *
      clear eE eR h ok hv htl he1
      unfold DoneP
      go_enter Tryz.func54, Tryz.ntmps54
      go_wp2_with (first
        | (go_at_call 117; refine H1.mono ?_; rintro e w' ⟨rfl, hw⟩; obtain rfl := hw.symm; clear H1)
        | (go_at_call 56; refine H3.mono ?_; rintro e w2 ⟨v2, rfl, hb2⟩; have HB2 : Hid (Below w.heap.size w w2) := hb2; clear hb2)
        | fail)
      exact bodyPost_ret (v := .tuple #[.int .i64 0, .int .i64 er]) (by simp [results, Tryz.results54, go_sem]) rfl ⟨rfl, Sy.below ⟨_, _, _, _, _, _, _, _, HX.out⟩ HB2.out, off_below HB2.out⟩
  · rw [hb] at H1
    simp only [if_true] at H1
    have eE : allocE s d kd zs = 15 := by unfold allocE; rw [hb]; rfl
    have eR : allocR s d kd zs = (s, d) := by unfold allocR; rw [if_pos (Or.inl hb)]
    unfold allocI
    rw [eE, eR, if_neg (by decide)]
    clear eE eR h ok hv htl
    unfold DoneP
    go_enter Tryz.func54, Tryz.ntmps54
    go_wp2_with (first | (go_at_call 117; refine H1.mono ?_; rintro e w' ⟨rfl, hw⟩; obtain rfl := hw.symm; clear H1) | fail)
    exact bodyPost_ret (v := .tuple #[.int .i64 0, .int .i64 15]) (by simp [results, Tryz.results54, go_sem]) rfl ⟨rfl, ⟨_, _, _, _, _, _, _, _, HX.out⟩, D.Off.refl _ _⟩
end Go.Proofs.YtbklnadlbcndlaaGreat
namespace Go.Proofs.YtbklnadlbcndlaaGreat
set_option maxRecDepth 20000
open Go.RowKit
set_option linter.unusedVariables false
set_option linter.unusedSimpArgs false
def wrR (s : SS) (d : D.DS) (id kd : Int) (zs : List Int) : Int × SS × D.DS :=
  if findE s id ≠ 0 then (findE s id, s, d) else if sealE kd id zs.length ≠ 0 then (sealE kd id zs.length, s, d)
  else if B.hasI s.c.fr (findN s id) = true then (D.writeE d (findN s id) (sealS kd id zs), s.note (D.writeE d (findN s id) (sealS kd id zs)), D.writeS d (findN s id) (sealS kd id zs))
  else placeR s d id.toNat (sealS kd id zs)
theorem find_id {s : SS} {id : Int} (h : findE s id = 0) : 1 ≤ id ∧ id ≤ s.c.tb.length ∧ findN s id = blkI s.c.tb id ∧ blkI s.c.tb id ≠ 0 ∧ s.bad = false := by
  unfold findE at h
  unfold findN
  cases hb : s.bad
  · rw [hb] at h
    simp only [Bool.false_eq_true, if_false] at h ⊢
    by_cases h0 : blkI s.c.tb id = 0
    · rw [if_pos h0] at h; cases h
    · have h1 : ¬ (id < 1 ∨ (s.c.tb.length : Int) < id) := fun hc => h0 (by unfold blkI; rw [if_pos hc])
      exact ⟨by omega, by omega, trivial, h0, trivial⟩
  · rw [hb] at h; cases h
set_option maxHeartbeats 800000 in
theorem write_s {k : Pl} {s : SS} {d : D.DS} {t f t' f' u : Value} {sb db nx : Nat} (id kd : Int) (a : Option Addr) (cap : Nat) (zs : List Int) (w : World) (h : Sx w k s d t f t' f' u sb db nx) (ok : s.Ok) (hv : BV w a zs) (hn : a = none → cap = 0) (hm : zs.length ≤ 9223372036854775807) :
    Calls Tryz.prog 130 #[.pointer (some ⟨k.p, 0, none⟩), .int .i64 id, .int .i64 kd, .slice a zs.length cap] w fun e w' => Done k w (wrR s d id kd zs) e w' := by
  have HX : Hid (Sx w k s d t f t' f' u sb db nx) := h
  have htl := ok.c.tb.len
  have H1 := find_s id w h (by omega)
  by_cases hf : findE s id = 0
  · obtain ⟨hi1, hi2, hfn, hfn0, hbad⟩ := find_id hf
    by_cases he : sealE kd id zs.length = 0
    · have H3 := seal_s kd id a cap zs w hv hn hm he k.X h.lt
      have hSL : (sealS kd id zs).length = 256 := seal_len (sealE_zero he).2.2.2.2
      have hmk := makeN_le s.bl
      have hfl := ok.c.frl
      have H4 : Hid (∀ W, Below w.heap.size w W → Calls Tryz.prog 160 #[f, .int .i64 (findN s id)] W fun e w' => e = .returned (.bool (B.hasI s.c.fr (findN s id))) ∧ Below W.heap.size W w') := fun W hW => has_fb f s.c.fr (findN s id) k.X W (h.below hW).m.hf (by omega)
      have HC2 : Hid (∀ W, Below w.heap.size w W → W.cell? ⟨k.p, 2, none⟩ = some f ∧ W.cell? ⟨k.p, 13, none⟩ = some (wrF db nx)) := fun W hW => ⟨(h.below hW).m.v.cells.c2, (h.below hW).m.v.cells.c13⟩
      cases hh : B.hasI s.c.fr (findN s id)
      · obtain ⟨i, rfl⟩ : ∃ i : Nat, id = i := ⟨id.toNat, by omega⟩
        have H5 : Hid (∀ W g c, Below w.heap.size w W → BV W (some ⟨g, 0, none⟩) (sealS kd i zs) → g ∉ k.X → Calls Tryz.prog 119 #[.pointer (some ⟨k.p, 0, none⟩), .int .i64 i, .slice (some ⟨g, 0, none⟩) 256 c] W fun e w' => Done k W (placeR s d i (sealS kd i zs)) e w') := fun W g c hW hv' hg => place_any i _ c _ W (h.below hW) ok hv' hSL (fun b off e => by simp at e; rw [← e.1]; exact hg) (by omega) (by omega)
        have eR : wrR s d i kd zs = placeR s d i (sealS kd i zs) := by unfold wrR; rw [if_neg (by simpa using hf), if_neg (by simpa using he), hh]; simp
        rw [eR]
        rw [hf] at H1
        generalize placeR s d i (sealS kd i zs) = R at *
        obtain ⟨r1, r2, r3⟩ := R
        rw [hh] at H4
        generalize findN s i = n at *
        clear eR h ok hv htl hf hfn hfn0 hh HX
        unfold Done
        go_enter Tryz.func130, Tryz.ntmps130
        go_wp2_with (first
          | (go_at_call 126; refine H1.mono ?_; rintro e w' ⟨rfl, hw⟩; obtain rfl := hw.symm; clear H1)
          | (go_at_call 56; refine H3.mono ?_; rintro e w1 ⟨g1, c1, rfl, hv1, hg1, hb1⟩; have HB1 : Hid (Below w.heap.size w w1) := hb1; have HV1 : Hid (BV w1 (some ⟨g1, 0, none⟩) (sealS kd i zs)) := hv1; obtain ⟨hc2, _⟩ := HC2.out _ hb1; have H4' := H4.out _ hb1; clear hb1 hv1 H3)
          | (go_at_call 160; refine H4'.mono ?_; rintro e w2 ⟨rfl, hb2⟩; have HB2 : Hid (Below w.heap.size w w2) := HB1.out.trans (hb2.mono HB1.out.size); have H5' := H5.out _ _ c1 HB2.out (HV1.out.below hb2) hg1; clear hb2 H4' H5 HV1)
          | (go_at_call 119; refine H5'.mono ?_; rintro e w3 ⟨rfl, hy, ho⟩; have HY : Hid (Sy w3 k r2 r3) := hy; have HO : Hid (D.Off k.K w2 w3) := ho; clear hy ho H5')
          | fail)
        go_ret
        exact ⟨rfl, HY.out, (off_below HB2.out).trans HO.out⟩
      · have H5 : Hid (∀ W g c, Below w.heap.size w W → BV W (some ⟨g, 0, none⟩) (sealS kd id zs) → g ∉ k.X → Calls Tryz.prog 166 #[.int .i64 (findN s id), .slice (some ⟨g, 0, none⟩) 256 c, .pointer (some ⟨nx, 0, none⟩), .pointer (some ⟨db, 0, none⟩)] W fun r w' => r = .returned (.int .i64 (D.writeE d (findN s id) (sealS kd id zs))) ∧ Sx w' k (s.note (D.writeE d (findN s id) (sealS kd id zs))) (D.writeS d (findN s id) (sealS kd id zs)) t f t' f' u sb db nx ∧ D.Off k.K W w') := by
          intro W g c hW hv' hg
          have := write_sx (findN s id) (some ⟨g, 0, none⟩) c (sealS kd id zs) W (h.below hW) hv' (by omega) (fun b off e hm => hg (by simp at e; rw [e.1]; exact k.sub b hm))
          rw [hSL] at this
          exact this
        have eR : wrR s d id kd zs = (D.writeE d (findN s id) (sealS kd id zs), s.note (D.writeE d (findN s id) (sealS kd id zs)), D.writeS d (findN s id) (sealS kd id zs)) := by unfold wrR; rw [if_neg (by simpa using hf), if_neg (by simpa using he), if_pos hh]
        rw [eR]
        rw [hf] at H1
        rw [hh] at H4
        generalize D.writeE d (findN s id) (sealS kd id zs) = er at *
        generalize D.writeS d (findN s id) (sealS kd id zs) = d2 at *
        generalize findN s id = n at *
        clear eR h ok hv htl hf hfn hfn0 hh HX
        unfold Done
        simp only [wrF] at HC2
        go_enter Tryz.func130, Tryz.ntmps130
        go_wp2_with (first
          | (go_at_call 126; refine H1.mono ?_; rintro e w' ⟨rfl, hw⟩; obtain rfl := hw.symm; clear H1)
          | (go_at_call 56; refine H3.mono ?_; rintro e w1 ⟨g1, c1, rfl, hv1, hg1, hb1⟩; have HB1 : Hid (Below w.heap.size w w1) := hb1; have HV1 : Hid (BV w1 (some ⟨g1, 0, none⟩) (sealS kd id zs)) := hv1; obtain ⟨hc2, _⟩ := HC2.out _ hb1; have H4' := H4.out _ hb1; clear hb1 hv1 H3)
          | (go_at_call 160; refine H4'.mono ?_; rintro e w2 ⟨rfl, hb2⟩; have HB2 : Hid (Below w.heap.size w w2) := HB1.out.trans (hb2.mono HB1.out.size); have H5' := H5.out _ _ c1 HB2.out (HV1.out.below hb2) hg1; obtain ⟨_, hc13⟩ := HC2.out _ HB2.out; clear hb2 H4' H5 HV1)
          | (go_at_call 166; refine H5'.mono ?_; rintro e w3 ⟨rfl, hy, ho⟩; have HY : Hid (Sx w3 k _ _ t f t' f' u sb db nx) := hy; have HO : Hid (D.Off k.K w2 w3) := ho; clear hy ho H5')
          | fail)
        go_ret
        exact ⟨rfl, ⟨_, _, _, _, _, _, _, _, HY.out⟩, (off_below HB2.out).trans HO.out⟩
    · have H3 := seal_b kd id a cap zs w hv hn hm
      have eR : wrR s d id kd zs = (sealE kd id zs.length, s, d) := by unfold wrR; rw [if_neg (by simpa using hf), if_pos he]
      rw [eR]
      rw [hf] at H1
      have he' : (sealE kd id zs.length == 0) = false := by simpa using he
      generalize sealE kd id zs.length = er at *
      generalize findN s id = n at *
      clear eR h ok hv htl hf hfn hfn0 he
      unfold Done
      go_enter Tryz.func130, Tryz.ntmps130
      go_wp2_with (first
        | (go_at_call 126; refine H1.mono ?_; rintro e w' ⟨rfl, hw⟩; obtain rfl := hw.symm; clear H1)
        | (go_at_call 56; refine H3.mono ?_; rintro e w2 ⟨v2, rfl, hb2⟩; have HB2 : Hid (Below w.heap.size w w2) := hb2; clear hb2)
        | fail)
      go_ret
      exact ⟨rfl, Sy.below ⟨_, _, _, _, _, _, _, _, HX.out⟩ HB2.out, off_below HB2.out⟩
  · have eR : wrR s d id kd zs = (findE s id, s, d) := by unfold wrR; rw [if_pos hf]
    rw [eR]
    have he' : (findE s id == 0) = false := by simpa using hf
    generalize findE s id = er at *
    generalize findN s id = n at *
    clear eR h ok hv htl hf
    unfold Done
    go_enter Tryz.func130, Tryz.ntmps130
    go_wp2_with (first | (go_at_call 126; refine H1.mono ?_; rintro e w' ⟨rfl, hw⟩; obtain rfl := hw.symm; clear H1) | fail)
    go_ret
    exact ⟨rfl, ⟨_, _, _, _, _, _, _, _, HX.out⟩, D.Off.refl _ _⟩
def frR (s : SS) (d : D.DS) (id : Int) : Int × SS × D.DS :=
  if findE s id ≠ 0 then (findE s id, s, d) else if id = s.c.st then (2, s, d) else (0, (s.give id.toNat 0).fresh (findN s id) false, d)
set_option maxHeartbeats 800000 in
theorem frees_s {k : Pl} {s : SS} {d : D.DS} {t f t' f' u : Value} {sb db nx : Nat} (id : Int) (w : World) (h : Sx w k s d t f t' f' u sb db nx) (ok : s.Ok) :
    Calls Tryz.prog 59 #[.pointer (some ⟨k.p, 0, none⟩), .int .i64 id] w fun e w' => Done k w (frR s d id) e w' := by
  have HX : Hid (Sx w k s d t f t' f' u sb db nx) := h
  have htl := ok.c.tb.len
  have c1 := h.m.v.cells.c1
  have H1 := find_s id w h (by omega)
  by_cases hf : findE s id = 0
  · obtain ⟨hi1, hi2, hfn, hfn0, hbad⟩ := find_id hf
    rw [hf] at H1
    by_cases hst : id = s.c.st
    · have eR : frR s d id = (2, s, d) := by unfold frR; rw [if_neg (by simpa using hf), if_pos hst]
      rw [eR]
      subst hst
      generalize findN s s.c.st = n at *
      clear eR h ok htl hf
      unfold Done
      go_enter Tryz.func59, Tryz.ntmps59
      go_wp2_with (first | (go_at_call 126; refine H1.mono ?_; rintro e w' ⟨rfl, hw⟩; obtain rfl := hw.symm; clear H1) | fail)
      go_ret
      exact ⟨rfl, ⟨_, _, _, _, _, _, _, _, HX.out⟩, D.Off.refl _ _⟩
    · have eR : frR s d id = (0, (s.give id.toNat 0).fresh (findN s id) false, d) := by unfold frR; rw [if_neg (by simpa using hf), if_neg hst]
      rw [eR]
      obtain ⟨i, rfl⟩ : ∃ i : Nat, id = i := ⟨id.toNat, by omega⟩
      have hst' : ((i : Int) == s.c.st) = false := by simpa using hst
      have hmk := makeN_le s.bl
      have hfl := ok.c.frl
      have H2 := give_s i 0 w h htl (by omega) (by omega)
      rw [show ((i : Int)).toNat = i by omega]
      have H3 : Hid (∀ W t2, Sx W k (s.give i 0) d t2 f t' f' u sb db nx → Calls Tryz.prog 128 #[f, .int .i64 (findN s i), .bool false] W fun e w' => ∃ v', e = .returned v' ∧ FB w' k.X v' (B.withI s.c.fr (findN s i) false) ∧ Below W.heap.size W w') := fun W t2 hx => with_fb f s.c.fr (findN s i) false k.X W hx.m.hf (by omega) hx.lt
      generalize findN s i = n at *
      clear eR h ok htl hf hfn hfn0 HX hst
      unfold Done
      go_enter Tryz.func59, Tryz.ntmps59
      go_wp2_with (first
        | (go_at_call 126; refine H1.mono ?_; rintro e w' ⟨rfl, hw⟩; obtain rfl := hw.symm; clear H1)
        | (go_at_call 127; refine H2.mono ?_; rintro e w1 ⟨rfl, ⟨t2, hx1⟩, ho1⟩; have HX1 : Hid (Sx w1 k (s.give i 0) d t2 f t' f' u sb db nx) := hx1; have HO1 : Hid (D.Off k.K w w1) := ho1; have hc2 := hx1.m.v.cells.c2; have H3' := H3.out _ _ hx1; clear hx1 ho1 H2 H3)
        | (go_at_call 128; refine H3'.mono ?_; rintro e w2 ⟨f2, rfl, hf2, hb2⟩; have HE : Hid _ := (HX1.out.below hb2).refresh f2 n false hf2; have HO2 : Hid (D.Off k.K w w2) := HO1.out.trans (off_below hb2); have hc22 := (HX1.out.below hb2).m.v.cells.c2; have hz22 := (HX1.out.below hb2).m.v.cells.f 2; obtain ⟨fa, fcap, rfl, _⟩ := hf2; clear hb2 H3' HX1 HO1)
        | fail)
      go_ret
      exact ⟨rfl, ⟨_, _, _, _, _, _, _, _, HE.out.1⟩, HO2.out.trans (Pl.offP HE.out.2)⟩
  · have eR : frR s d id = (findE s id, s, d) := by unfold frR; rw [if_pos hf]
    rw [eR]
    have he' : (findE s id == 0) = false := by simpa using hf
    generalize findE s id = er at *
    generalize findN s id = n at *
    clear eR h ok htl hf
    unfold Done
    go_enter Tryz.func59, Tryz.ntmps59
    go_wp2_with (first | (go_at_call 126; refine H1.mono ?_; rintro e w' ⟨rfl, hw⟩; obtain rfl := hw.symm; clear H1) | fail)
    go_ret
    exact ⟨rfl, ⟨_, _, _, _, _, _, _, _, HX.out⟩, D.Off.refl _ _⟩
end Go.Proofs.YtbklnadlbcndlaaGreat
namespace Go.Proofs.YtbklnadlbcndlaaGreat
set_option maxRecDepth 20000
open Go.RowKit
set_option linter.unusedVariables false
set_option linter.unusedSimpArgs false
def SS.start (s : SS) (id : Int) : SS := { s with c := { s.c with st := id, dt := true } }
theorem Sx.started {W : World} {k : Pl} {s : SS} {d : D.DS} {t f t' f' u : Value} {sb db nx : Nat} (h : Sx W k s d t f t' f' u sb db nx) (id : Int) :
    Sx ((W.setCell ⟨k.p, 1, none⟩ (.int .i64 id)).setCell ⟨k.p, 3, none⟩ (.bool true)) k (s.start id) d t f t' f' u sb db nx ∧ D.Off [k.p] W ((W.setCell ⟨k.p, 1, none⟩ (.int .i64 id)).setCell ⟨k.p, 3, none⟩ (.bool true)) := by
  have ho : D.Off [k.p] W ((W.setCell ⟨k.p, 1, none⟩ (.int .i64 id)).setCell ⟨k.p, 3, none⟩ (.bool true)) := ((D.Off.refl _ _).setCell (by simp) _).setCell (by simp) _
  exact ⟨h.set ho ((ShB.set1 h.m.v (.int .i64 id)).set3 (.bool true)) h.m.ht h.m.hf h.m.ht' h.m.hf' h.m.hu, ho⟩
def abR (s : SS) (d : D.DS) : Int × SS × D.DS := if s.bad then (15, s, d) else (0, { s with c := s.l }, d)
theorem Sx.aborted {W : World} {k : Pl} {s : SS} {d : D.DS} {t f t' f' u : Value} {sb db nx : Nat} (h : Sx W k s d t f t' f' u sb db nx) :
    Sx ((((W.setCell ⟨k.p, 0, none⟩ t').setCell ⟨k.p, 1, none⟩ (.int .i64 s.l.st)).setCell ⟨k.p, 2, none⟩ f').setCell ⟨k.p, 3, none⟩ (.bool s.l.dt)) k { s with c := s.l } d t' f' t' f' u sb db nx ∧ D.Off [k.p] W ((((W.setCell ⟨k.p, 0, none⟩ t').setCell ⟨k.p, 1, none⟩ (.int .i64 s.l.st)).setCell ⟨k.p, 2, none⟩ f').setCell ⟨k.p, 3, none⟩ (.bool s.l.dt)) := by
  have ho : D.Off [k.p] W ((((W.setCell ⟨k.p, 0, none⟩ t').setCell ⟨k.p, 1, none⟩ (.int .i64 s.l.st)).setCell ⟨k.p, 2, none⟩ f').setCell ⟨k.p, 3, none⟩ (.bool s.l.dt)) := ((((D.Off.refl _ _).setCell (by simp) _).setCell (by simp) _).setCell (by simp) _).setCell (by simp) _
  exact ⟨h.set ho ((((ShB.set0 h.m.v t').set1 (.int .i64 s.l.st)).set2 f').set3 (.bool s.l.dt)) h.m.ht' h.m.hf' h.m.ht' h.m.hf' h.m.hu, ho⟩
set_option maxHeartbeats 800000 in
theorem abort_s {k : Pl} {s : SS} {d : D.DS} {t f t' f' u : Value} {sb db nx : Nat} (w : World) (h : Sx w k s d t f t' f' u sb db nx) :
    Calls Tryz.prog 63 #[.pointer (some ⟨k.p, 0, none⟩)] w fun e w' => Done k w (abR s d) e w' := by
  have HX : Hid (Sx w k s d t f t' f' u sb db nx) := h
  have hcs := h.m.v.cells
  obtain ⟨c0, c1, c2, c3, c4, c5, c6, c7, _, _, _, _, _, _, _, fz⟩ := hcs
  have f0 := fz 0
  have f1 := fz 1
  have f2 := fz 2
  have f3 := fz 3
  have H1 := ready_s w h
  have HE : Hid _ := h.aborted
  obtain ⟨ta, tc, rfl, _⟩ := h.m.ht'
  obtain ⟨fa, fc, rfl, _⟩ := h.m.hf'
  unfold readyE at H1
  clear fz
  unfold abR Done
  cases hb : s.bad
  · rw [hb] at H1
    simp only [Bool.false_eq_true, if_false] at H1 ⊢
    clear h
    go_enter Tryz.func63, Tryz.ntmps63
    go_wp2_with (first | (go_at_call 117; refine H1.mono ?_; rintro e w' ⟨rfl, hw⟩; obtain rfl := hw.symm; clear H1) | fail)
    go_ret
    rw [hb] at HE
    exact ⟨rfl, ⟨_, _, _, _, _, _, _, _, HE.out.1⟩, Pl.offP HE.out.2⟩
  · rw [hb] at H1
    simp only [if_true] at H1 ⊢
    clear h
    go_enter Tryz.func63, Tryz.ntmps63
    go_wp2_with (first | (go_at_call 117; refine H1.mono ?_; rintro e w' ⟨rfl, hw⟩; obtain rfl := hw.symm; clear H1) | fail)
    go_ret
    exact ⟨rfl, ⟨_, _, _, _, _, _, _, _, HX.out⟩, D.Off.refl _ _⟩
end Go.Proofs.YtbklnadlbcndlaaGreat
namespace Go.Proofs.YtbklnadlbcndlaaGreat
set_option maxRecDepth 20000
open Go.RowKit
set_option linter.unusedVariables false
set_option linter.unusedSimpArgs false
def rbE (zs : List Int) (id : Int) : Int := if opE zs ≠ 0 ∨ opI zs ≠ id then 4 else 0
def rbK (zs : List Int) (id : Int) : Int := if rbE zs id = 0 then opK zs else 0
def rbB (zs : List Int) (id : Int) : List Int := if rbE zs id = 0 then opB zs else []
def rdE (s : SS) (d : D.DS) (id : Int) : Int := if findE s id ≠ 0 then findE s id else if D.reachE d (findN s id) ≠ 0 then D.reachE d (findN s id) else rbE (D.readB d (findN s id)) id
def rdKd (s : SS) (d : D.DS) (id : Int) : Int := if rdE s d id = 0 then rbK (D.readB d (findN s id)) id else 0
def rdBy (s : SS) (d : D.DS) (id : Int) : List Int := if rdE s d id = 0 then rbB (D.readB d (findN s id)) id else []
def rdR (s : SS) (d : D.DS) (id : Int) : SS × D.DS := if findE s id ≠ 0 then (s, d) else (s.note (D.reachE d (findN s id)), D.readS d (findN s id))
def DoneR (k : Pl) (w : World) (kd er : Int) (zs : List Int) (r : SS × D.DS) (e : Ending) (w' : World) : Prop := ∃ v, e = .returned (.tuple #[.int .i64 kd, v, .int .i64 er]) ∧ FB w' k.X v zs ∧ Sy w' k r.1 r.2 ∧ D.Off k.K w w'
theorem open_fb (v : Value) (zs : List Int) (X : List Nat) (w : World) (h : FB w X v zs) (hz : zs.length ≤ 900000) (hX : ∀ x ∈ X, x < w.heap.size) :
    Calls Tryz.prog 173 #[v] w fun e w' => ∃ v', e = .returned (.tuple #[.int .i64 (opK zs), .int .i64 (opI zs), v', .int .i64 (opE zs)]) ∧ FB w' X v' (opB zs) ∧ Below w.heap.size w w' := by
  obtain ⟨a, cap, rfl, h0, h1, h2, h3, h4⟩ := h
  refine (popen_any a cap zs w h3 h0 hz h1).mono ?_
  rintro e w' ⟨v, rfl, ho, hb⟩
  refine ⟨v, rfl, fb_own ho ?_ hX, hb⟩
  unfold opB
  split
  · exact fun z hz => h3.1 z (List.mem_of_mem_drop (List.mem_of_mem_take hz))
  · exact AllB.nil
set_option maxHeartbeats 800000 in
theorem read_s {k : Pl} {s : SS} {d : D.DS} {t f t' f' u : Value} {sb db nx : Nat} (id : Int) (w : World) (h : Sx w k s d t f t' f' u sb db nx) (ok : s.Ok) :
    Calls Tryz.prog 115 #[.pointer (some ⟨k.p, 0, none⟩), .int .i64 id] w fun e w' => DoneR k w (rdKd s d id) (rdE s d id) (rdBy s d id) (rdR s d id) e w' := by
  have HX : Hid (Sx w k s d t f t' f' u sb db nx) := h
  have htl := ok.c.tb.len
  have c12 := h.m.v.cells.c12
  have H1 := find_s id w h (by omega)
  by_cases hf : findE s id = 0
  · rw [hf] at H1
    have eR : rdR s d id = (s.note (D.reachE d (findN s id)), D.readS d (findN s id)) := by unfold rdR; rw [if_neg (by simpa using hf)]
    rw [eR]
    have H2 := read_sx (findN s id) w h
    have hlb : (D.readB d (findN s id)).length ≤ 900000 := by
      unfold D.readB
      split
      · simp
      · rename_i hc
        have hr : D.reachE d (findN s id) = 0 := by simpa using hc
        rw [(h.dk.1.isB _ (D.reach_ok hr).2.2).1]; decide
    by_cases hr : D.reachE d (findN s id) = 0
    · have eE : rdE s d id = rbE (D.readB d (findN s id)) id := by unfold rdE; rw [if_neg (by simpa using hf), if_neg (by simpa using hr)]
      have eK : rdKd s d id = rbK (D.readB d (findN s id)) id := by
        unfold rdKd
        split
        · rfl
        · rename_i hc; rw [eE] at hc; unfold rbK; rw [if_neg hc]
      have eB : rdBy s d id = rbB (D.readB d (findN s id)) id := by
        unfold rdBy
        split
        · rfl
        · rename_i hc; rw [eE] at hc; unfold rbB; rw [if_neg hc]
      rw [eE, eK, eB]
      rw [hr] at H2 ⊢
      rw [note_zero] at H2 ⊢
      generalize D.readB d (findN s id) = zs at *
      generalize D.readS d (findN s id) = d2 at *
      generalize findN s id = n at *
      have H3 : Hid (∀ W v, Sx W k s d2 t f t' f' u sb db nx → FB W k.X v zs → Calls Tryz.prog 173 #[v] W fun e w' => ∃ v', e = .returned (.tuple #[.int .i64 (opK zs), .int .i64 (opI zs), v', .int .i64 (opE zs)]) ∧ FB w' k.X v' (opB zs) ∧ Below W.heap.size W w') := fun W v hx hv => open_fb v zs k.X W hv hlb hx.lt
      simp only [rdF] at c12
      clear eE eK eB eR hf h ok htl HX
      unfold DoneR rbK rbB rbE
      by_cases ho : opE zs = 0
      · rw [ho] at H3 ⊢
        by_cases hi : opI zs = id
        · rw [hi] at H3 ⊢
          simp only [ne_eq, not_true_eq_false, or_self, if_false, if_true]
          generalize opK zs = kd at *
          generalize opB zs = bs at *
          go_enter Tryz.func115, Tryz.ntmps115
          go_wp2_with (first
            | (go_at_call 126; refine H1.mono ?_; rintro e w' ⟨rfl, hw⟩; obtain rfl := hw.symm; clear H1)
            | (go_at_call 165; refine H2.mono ?_; rintro e w1 ⟨v1, rfl, hv1, hx1, ho1⟩; have HX1 : Hid (Sx w1 k s d2 t f t' f' u sb db nx) := hx1; have HO1 : Hid (D.Off k.K w w1) := ho1; have H3' := H3.out _ _ hx1 hv1; clear hx1 ho1 hv1 H2 H3)
            | (go_at_call 173; refine H3'.mono ?_; rintro e w2 ⟨v2, rfl, hv2, hb2⟩; have HV2 : Hid (FB w2 k.X v2 bs) := hv2; have HB2 : Hid (Below w1.heap.size w1 w2) := hb2; clear hv2 hb2 H3')
            | fail)
          exact bodyPost_ret (v := .tuple #[.int .i64 kd, v2, .int .i64 0]) (by simp [results, Tryz.results115, go_sem]) rfl ⟨v2, rfl, HV2.out, ⟨_, _, _, _, _, _, _, _, HX1.out.below HB2.out⟩, HO1.out.trans (off_below HB2.out)⟩
        · have hi' : (opI zs == id) = false := by simpa using hi
          simp only [ne_eq, hi, not_false_eq_true, or_true, if_true, show ¬ ((4 : Int) = 0) by decide, if_false]
          generalize opK zs = kd at *
          generalize opB zs = bs at *
          generalize opI zs = oi at *
          go_enter Tryz.func115, Tryz.ntmps115
          go_wp2_with (first
            | (go_at_call 126; refine H1.mono ?_; rintro e w' ⟨rfl, hw⟩; obtain rfl := hw.symm; clear H1)
            | (go_at_call 165; refine H2.mono ?_; rintro e w1 ⟨v1, rfl, hv1, hx1, ho1⟩; have HX1 : Hid (Sx w1 k s d2 t f t' f' u sb db nx) := hx1; have HO1 : Hid (D.Off k.K w w1) := ho1; have H3' := H3.out _ _ hx1 hv1; clear hx1 ho1 hv1 H2 H3)
            | (go_at_call 173; refine H3'.mono ?_; rintro e w2 ⟨v2, rfl, hv2, hb2⟩; have HB2 : Hid (Below w1.heap.size w1 w2) := hb2; clear hv2 hb2 H3')
            | fail)
          exact bodyPost_ret (v := .tuple #[.int .i64 0, .slice none 0 0, .int .i64 4]) (by simp [results, Tryz.results115, go_sem]) rfl ⟨_, rfl, fb_nil _ _, ⟨_, _, _, _, _, _, _, _, HX1.out.below HB2.out⟩, HO1.out.trans (off_below HB2.out)⟩
      · have ho' : (opE zs == 0) = false := by simpa using ho
        simp only [ne_eq, ho, not_false_eq_true, true_or, if_true, show ¬ ((4 : Int) = 0) by decide, if_false]
        generalize opE zs = oe at *
        generalize opK zs = kd at *
        generalize opB zs = bs at *
        generalize opI zs = oi at *
        go_enter Tryz.func115, Tryz.ntmps115
        go_wp2_with (first
          | (go_at_call 126; refine H1.mono ?_; rintro e w' ⟨rfl, hw⟩; obtain rfl := hw.symm; clear H1)
          | (go_at_call 165; refine H2.mono ?_; rintro e w1 ⟨v1, rfl, hv1, hx1, ho1⟩; have HX1 : Hid (Sx w1 k s d2 t f t' f' u sb db nx) := hx1; have HO1 : Hid (D.Off k.K w w1) := ho1; have H3' := H3.out _ _ hx1 hv1; clear hx1 ho1 hv1 H2 H3)
          | (go_at_call 173; refine H3'.mono ?_; rintro e w2 ⟨v2, rfl, hv2, hb2⟩; have HB2 : Hid (Below w1.heap.size w1 w2) := hb2; clear hv2 hb2 H3')
          | fail)
        exact bodyPost_ret (v := .tuple #[.int .i64 0, .slice none 0 0, .int .i64 4]) (by simp [results, Tryz.results115, go_sem]) rfl ⟨_, rfl, fb_nil _ _, ⟨_, _, _, _, _, _, _, _, HX1.out.below HB2.out⟩, HO1.out.trans (off_below HB2.out)⟩
    · have eE : rdE s d id = D.reachE d (findN s id) := by unfold rdE; rw [if_neg (by simpa using hf), if_pos hr]
      have eK : rdKd s d id = 0 := by unfold rdKd; rw [eE, if_neg hr]
      have eB : rdBy s d id = [] := by unfold rdBy; rw [eE, if_neg hr]
      rw [eE, eK, eB]
      have hr' : (D.reachE d (findN s id) == 0) = false := by simpa using hr
      generalize D.reachE d (findN s id) = er at *
      generalize D.readB d (findN s id) = zs at *
      generalize D.readS d (findN s id) = d2 at *
      generalize findN s id = n at *
      simp only [rdF] at c12
      clear eE eK eB eR hf h ok htl HX
      unfold DoneR
      go_enter Tryz.func115, Tryz.ntmps115
      go_wp2_with (first
        | (go_at_call 126; refine H1.mono ?_; rintro e w' ⟨rfl, hw⟩; obtain rfl := hw.symm; clear H1)
        | (go_at_call 165; refine H2.mono ?_; rintro e w1 ⟨v1, rfl, hv1, hx1, ho1⟩; have HX1 : Hid (Sx w1 k _ d2 t f t' f' u sb db nx) := hx1; have HO1 : Hid (D.Off k.K w w1) := ho1; clear hx1 ho1 hv1 H2)
        | fail)
      exact bodyPost_ret (v := .tuple #[.int .i64 0, .slice none 0 0, .int .i64 er]) (by simp [results, Tryz.results115, go_sem]) rfl ⟨_, rfl, fb_nil _ _, ⟨_, _, _, _, _, _, _, _, HX1.out⟩, HO1.out⟩
  · have eE : rdE s d id = findE s id := by unfold rdE; rw [if_pos hf]
    have eK : rdKd s d id = 0 := by unfold rdKd; rw [eE, if_neg hf]
    have eB : rdBy s d id = [] := by unfold rdBy; rw [eE, if_neg hf]
    have eR : rdR s d id = (s, d) := by unfold rdR; rw [if_pos hf]
    rw [eE, eK, eB, eR]
    have he' : (findE s id == 0) = false := by simpa using hf
    generalize findE s id = er at *
    generalize findN s id = n at *
    clear eE eK eB eR hf h ok htl
    unfold DoneR
    go_enter Tryz.func115, Tryz.ntmps115
    go_wp2_with (first | (go_at_call 126; refine H1.mono ?_; rintro e w' ⟨rfl, hw⟩; obtain rfl := hw.symm; clear H1) | fail)
    exact bodyPost_ret (v := .tuple #[.int .i64 0, .slice none 0 0, .int .i64 er]) (by simp [results, Tryz.results115, go_sem]) rfl ⟨_, rfl, fb_nil _ _, ⟨_, _, _, _, _, _, _, _, HX.out⟩, D.Off.refl _ _⟩
end Go.Proofs.YtbklnadlbcndlaaGreat
namespace Go.Proofs.YtbklnadlbcndlaaGreat
set_option maxRecDepth 20000
open Go.RowKit
set_option linter.unusedVariables false
set_option linter.unusedSimpArgs false
def wpR (kd : Int) : Nat → List (List Int) → List Int → D.DS → Int × D.DS
  | _, [], _, d => (0, d)
  | _, _ :: _, [], d => (0, d)
  | i, p :: ps, b :: bs, d => if D.writeE d b (sealS kd i p) ≠ 0 then (D.writeE d b (sealS kd i p), D.writeS d b (sealS kd i p)) else wpR kd (i + 1) ps bs (D.writeS d b (sealS kd i p))
theorem off_cellK {w w' : World} {k : Pl} (ho : D.Off k.K w w') {b : Nat} (hlt : b < w.heap.size) (hx : b ∉ k.X) (i : Nat) : w'.cell? ⟨b, i, none⟩ = w.cell? ⟨b, i, none⟩ := off_cell ho hlt (fun h => hx (k.kx b h)) i
theorem BT.offX {w w' : World} {k : Pl} {s : SS} {d : D.DS} {t f t' f' u : Value} {sb db nx : Nat} {a : Option Addr} {zs : List Int} (h : BT w a zs) (hx : Sx w k s d t f t' f' u sb db nx) (ho : D.Off k.K w w') : BT w' a zs := by
  refine h.keep fun b cur fr hb => ho.block b (Array.getElem?_eq_some_iff.1 hb).1 ?_
  obtain ⟨_, cap, set, after, done, flat, d1, d2, _, _, d5, _⟩ := hx.dk
  obtain ⟨DD, ⟨es, clock, hmb, _⟩, _⟩ := d5
  have hp := hx.m.v
  unfold ShV ShB at hp
  unfold D.DkB at d1
  simp [Pl.K]
  refine ⟨?_, ?_, ?_, ?_⟩
  · rintro rfl; rw [hb] at hp; simp at hp
  · rintro rfl; rw [hb] at d1; simp at d1
  · rintro rfl; rw [hb] at d2; simp at d2
  · rintro rfl; rw [hb] at hmb; simp at hmb
theorem seal_all' {kd : Int} {n i : Nat} (hk : 1 ≤ kd) (hk2 : kd ≤ 5) (hi : i ≤ 3000) (hn : n ≤ 246) : sealE kd i n = 0 := by
  unfold sealE kindB idB
  simp [hk, hk2, hn]
  omega
def PcOk (w : World) (X : List Nat) (v : Value) (zss : List (List Int)) : Prop := ∃ a cap, v = .slice a zss.length cap ∧ ∀ i, i < zss.length → ∃ g, a = some ⟨g, 0, none⟩ ∧ g < w.heap.size ∧ g ∉ X ∧ ∃ b c, w.cell? ⟨g, i, none⟩ = some (.slice b (zss.getD i []).length c) ∧ (b = none → c = 0) ∧ BT w b (zss.getD i [])
theorem pc_own {w : World} {base : Nat} {v : Value} {zss : List (List Int)} {X : List Nat} (h : OwnP w base v zss) (hX : ∀ x ∈ X, x < base) : PcOk w X v zss := by
  obtain ⟨vs, h1, h2, h3⟩ := h
  have hl := World.ownsRow.lt h1
  have h1' := h1
  rcases h1.2 with ⟨rfl, h0⟩ | ⟨g, cap, cur, rfl, hb, hg, _⟩
  · refine ⟨none, 0, by rw [← h2, h0], fun i hi => ?_⟩
    omega
  · refine ⟨_, cap, by rw [← h2], fun i hi => ⟨g, rfl, (hl g rfl).2, fun hx => by have := hX g hx; omega, ?_⟩⟩
    obtain ⟨a, c, e, hn, hbt⟩ := h3 i hi
    refine ⟨a, c, ?_, hn, hbt⟩
    rw [World.ownsRow.cellAt h1' i (by omega), e]
theorem PcOk.off {w w' : World} {k : Pl} {s : SS} {d : D.DS} {t f t' f' u : Value} {sb db nx : Nat} {v : Value} {zss : List (List Int)} (h : PcOk w k.X v zss) (hx : Sx w k s d t f t' f' u sb db nx) (ho : D.Off k.K w w') : PcOk w' k.X v zss := by
  obtain ⟨a, cap, rfl, h⟩ := h
  refine ⟨a, cap, rfl, fun i hi => ?_⟩
  obtain ⟨g, rfl, hg, hgx, b, c, hc, hn, hbt⟩ := h i hi
  exact ⟨g, rfl, Nat.lt_of_lt_of_le hg ho.size, hgx, b, c, (off_cellK ho hg hgx i).trans hc, hn, hbt.offX hx ho⟩
theorem split_small (zs : List Int) : ∀ p ∈ splitS zs 246, p.length ≤ 246 := by
  have : ∀ (f : Nat) (l : List Int), ∀ p ∈ splitF 246 f l, p.length ≤ 246 := by
    intro f
    induction f with
    | zero => intro l p hp; cases hp
    | succ f ih =>
      intro l p hp
      unfold splitF at hp
      split at hp
      · cases hp
      · rcases List.mem_cons.1 hp with rfl | hp
        · rw [List.length_take]; omega
        · exact ih _ p hp
  exact this _ _
theorem split_fb (v : Value) (zs : List Int) (X : List Nat) (w : World) (h : FB w X v zs) (hz : zs.length ≤ 10000) (hX : ∀ x ∈ X, x < w.heap.size) :
    Calls Tryz.prog 172 #[v, .int .i64 246] w fun e w' => ∃ v', e = .returned v' ∧ PcOk w' X v' (splitS zs 246) ∧ Below w.heap.size w w' := by
  obtain ⟨a, cap, rfl, h0, h1, h2, h3, h4⟩ := h
  refine (split_any a cap zs 246 w h3 h0 hz).mono ?_
  rintro e w' ⟨v, rfl, ho, hb⟩
  exact ⟨v, rfl, pc_own ho hX, hb⟩
def DoneW (k : Pl) (s : SS) (w : World) (r : Int × D.DS) (t f t' f' u : Value) (sb db nx : Nat) (e : Ending) (w' : World) : Prop := e = .returned (.int .i64 r.1) ∧ Sx w' k (s.note r.1) r.2 t f t' f' u sb db nx ∧ D.Off k.K w w'
theorem drop_pc (l : List (List Int)) (k : Nat) (h : k < l.length) : l.drop k = l.getD k [] :: l.drop (k + 1) := by
  rw [List.drop_eq_getElem_cons h, List.getD_eq_getElem?_getD, List.getElem?_eq_getElem h]; rfl
set_option maxHeartbeats 3200000 in
theorem wpages_s {k : Pl} {s : SS} {d : D.DS} {t f t' f' u : Value} {sb db nx : Nat} (kd : Int) (bv av : Value) (bs zs : List Int) (w : World) (h : Sx w k s d t f t' f' u sb db nx) (hk : 1 ≤ kd) (hk2 : kd ≤ 5) (hbv : FI w k.X bv bs) (hav : FB w k.X av zs) (hz : zs.length ≤ 10000) (hl : (splitS zs 246).length ≤ bs.length) (hbl : bs.length ≤ 3000) :
    Calls Tryz.prog 110 #[.pointer (some ⟨k.p, 0, none⟩), .int .i64 kd, bv, av] w fun e w' => DoneW k s w (wpR kd 0 (splitS zs 246) bs d) t f t' f' u sb db nx e w' := by
  have H1 := split_fb av zs k.X w hav hz h.lt
  obtain ⟨ba, bc, rfl, _, hbc, hbm, hbi, hbx⟩ := hbv
  have HBI : Hid (∀ W, D.Off k.K w W → ∀ i, i < bs.length → ∃ g off, ba = some ⟨g, off, none⟩ ∧ g < W.heap.size ∧ g ∉ k.X ∧ W.cell? ⟨g, off + i, none⟩ = some (.int .i64 (bs.getD i 0))) := by
    intro W hW i hi
    have hne : bs ≠ [] := fun e => by rw [e] at hi; simp at hi
    rcases hbi.offX hW (fun hn b off e h => hbx hn b off e (k.kx b h)) with hn | ⟨g, off, rfl, hg, hc⟩
    · exact absurd hn hne
    · exact ⟨g, off, rfl, hg, hbx hne g off rfl, hc i hi⟩
  have HSM : Hid (∀ p ∈ splitS zs 246, p.length ≤ 246) := split_small zs
  generalize splitS zs 246 = pcs at *
  have HX : Hid (Sx w k s d t f t' f' u sb db nx) := h
  have HL : Hid (pcs.length ≤ bs.length) := hl
  clear h hbi hbx hav hl
  obtain ⟨R, hR⟩ : ∃ R, R = wpR kd 0 pcs bs d := ⟨_, rfl⟩
  rw [← hR]
  have HR : Hid (R = wpR kd 0 pcs bs d) := hR
  clear hR
  unfold DoneW
  go_enter Tryz.func110, Tryz.ntmps110
  go_wp2_with (first | (go_at_call 172; refine H1.mono ?_; rintro e w1 ⟨v1, rfl, hpc, hb1⟩; obtain ⟨pa, pcap, rfl, hpc'⟩ := hpc; have HPC : Hid (PcOk w1 k.X (.slice pa pcs.length pcap) pcs) := ⟨pa, pcap, rfl, hpc'⟩; have HX1 : Hid (Sx w1 k s d t f t' f' u sb db nx) := HX.out.below hb1; have HO1 : Hid (D.Off k.K w w1) := off_below hb1; clear hpc' hb1 H1) | fail)
  obtain ⟨N, hN⟩ : ∃ N, N = pcs.length := ⟨_, rfl⟩
  have HN : Hid (N = pcs.length) := hN
  obtain ⟨M, hM⟩ : ∃ M, M = bs.length := ⟨_, rfl⟩
  have HM : Hid (M = bs.length) := hM
  have hNM : N ≤ M := by rw [hN, hM]; exact HL.out
  have hM3 : M ≤ 3000 := by rw [hM]; exact hbl
  rw [← hN, ← hM]
  clear hN hM hbl HL hbc
  go_loopw [17] (fun iv wr => ∃ (i : Nat) (di : D.DS), i ≤ N ∧ iv = .int .i64 i ∧ Hid (R = wpR kd i (pcs.drop i) (bs.drop i) di) ∧ Hid (Sx wr k s di t f t' f' u sb db nx) ∧ Hid (D.Off k.K w wr) ∧ Hid (PcOk wr k.X (.slice pa N pcap) pcs)) (fun iv _ => N - (iOf iv).toNat)
  case atStart => exact ⟨0, d, Nat.zero_le _, rfl, HR.out, HX1.out, HO1.out, by rw [HN.out]; exact HPC.out⟩
  case round =>
    clear HR HX1 HO1 HPC HX
    obtain ⟨i, di, hi, rfl, HR, HX, HOf, HPC⟩ := hrel
    by_cases hlt : i < N
    · have hip : i < pcs.length := by rw [← HN.out]; exact hlt
      have hib : i < bs.length := by rw [← HM.out]; omega
      obtain ⟨pa', pc', e', hpc⟩ := HPC.out
      obtain ⟨g, hga, hg, hgx, b, c, hc, hbn, hbt⟩ := hpc i hip
      have hpa : pa = some ⟨g, 0, none⟩ := by simp at e'; rw [e'.1]; exact hga
      subst hpa
      obtain ⟨gb, ob, rfl, hgb, hgbx, hcb⟩ := HBI.out _ HOf.out i hib
      have hR := HR.out
      rw [drop_pc pcs i hip, drop_at bs i hib] at hR
      have hpl := HSM.out (pcs.getD i []) (by rw [List.getD_eq_getElem?_getD, List.getElem?_eq_getElem hip]; exact List.getElem_mem hip)
      generalize pcs.getD i [] = pc at *
      generalize bs.getD i 0 = bn at *
      have H2 := seal_s kd i b c pc wr hbt.bv hbn (by omega) (seal_all' hk hk2 (by omega) hpl) k.X HX.out.lt
      have hSL : (sealS kd i pc).length = 256 := seal_len hpl
      have HW : Hid (∀ W g c, Below wr.heap.size wr W → BV W (some ⟨g, 0, none⟩) (sealS kd i pc) → g ∉ k.X → Calls Tryz.prog 166 #[.int .i64 bn, .slice (some ⟨g, 0, none⟩) 256 c, .pointer (some ⟨nx, 0, none⟩), .pointer (some ⟨db, 0, none⟩)] W fun r w' => r = .returned (.int .i64 (D.writeE di bn (sealS kd i pc))) ∧ Sx w' k (s.note (D.writeE di bn (sealS kd i pc))) (D.writeS di bn (sealS kd i pc)) t f t' f' u sb db nx ∧ D.Off k.K W w') := by
        intro W g c hW hv' hg
        have := write_sx bn (some ⟨g, 0, none⟩) c (sealS kd i pc) W (HX.out.below hW) hv' (by omega) (fun b off e hm => hg (by simp at e; rw [e.1]; exact k.sub b hm))
        rw [hSL] at this
        exact this
      rw [show wpR kd i (pc :: pcs.drop (i + 1)) (bn :: bs.drop (i + 1)) di = (if D.writeE di bn (sealS kd i pc) ≠ 0 then (D.writeE di bn (sealS kd i pc), D.writeS di bn (sealS kd i pc)) else wpR kd (i + 1) (pcs.drop (i + 1)) (bs.drop (i + 1)) (D.writeS di bn (sealS kd i pc))) from rfl] at hR
      have HC13 : Hid (wr.cell? ⟨k.p, 13, none⟩ = some (wrF db nx)) := HX.out.m.v.cells.c13
      clear HR hpc e' hga hbt hip hib
      generalize hdd : D.writeS di bn (sealS kd i pc) = d2 at *
      generalize D.writeE di bn (sealS kd i pc) = er at *
      have hiM : i < M := by omega
      have HPL : Hid (wr.cell? ⟨g, i, none⟩ = some (.slice b pc.length c)) := hc
      by_cases her : er = 0
      · subst her
        rw [if_neg (by simp)] at hR
        rw [note_zero] at HW
        have HR2 : Hid (R = wpR kd (i + 1) (pcs.drop (i + 1)) (bs.drop (i + 1)) d2) := hR
        clear hR hdd
        go_wp2_with (first
          | (go_at_call 56; refine H2.mono ?_; rintro e w2 ⟨g2, c2, rfl, hv2, hg2, hb2⟩; have HB2 : Hid (Below wr.heap.size wr w2) := hb2; have HV2 : Hid (BV w2 (some ⟨g2, 0, none⟩) (sealS kd i pc)) := hv2; clear hv2 hb2 H2)
          | fail)
        have HX2 := HX.out.below HB2.out
        have hcb2 : w2.cell? ⟨gb, ob + i, none⟩ = some (.int .i64 bn) := (off_cellK (off_below (k := k) HB2.out) hgb hgbx _).trans hcb
        have hgb2 : gb < w2.heap.size := Nat.lt_of_lt_of_le hgb HB2.out.size
        have HW2 := HW.out w2.drew g2 c2 (HB2.out.trans (Below.refl _ _).drew) (HV2.out.below (Below.refl _ _).drew) hg2
        have HC2 := HX2.m.v.cells.c13
        clear HX2 HW
        refine wp_region_noPanic ?_
        refine name_ops ?_
        intro O QQ HO HQ
        refine wp_region_held_drew (S := (fun W => W.cell? ⟨k.p, 13, none⟩ = some (wrF db nx) ∧ W.cell? ⟨gb, ob + i, none⟩ = some (.int .i64 bn))) (by kernel_rfl) ⟨HC2, hcb2⟩ (fun hS => ?_)
        rw [show O.size = 11 by rw [HO.out]; rfl]
        refine wpAnyH_take (i := 0) (v := .pointer (some ⟨k.p, 0, none⟩)) (by rw [HO.out]; simp only [List.getElem?_toArray, List.getElem?_cons_succ, List.getElem?_cons_zero]; rfl) (by rw [HO.out]; kernel_rfl) (by rw [HO.out]; kernel_rfl) (by rw [HO.out]; kernel_rfl) (by rw [HQ.out]; exact fun _ _ _ h => h) (Or.inl ⟨by rfl, ?_⟩) hS ?_
        · intro w' hSw
          go_simp
        try simp only [Act.put, List.setIfInBounds_toArray, List.set_cons_zero, List.set_cons_succ]
        refine wpAnyH_take (i := 1) (v := .pointer (some ⟨k.p, 0, none⟩)) (by rw [HO.out]; simp only [List.getElem?_toArray, List.getElem?_cons_succ, List.getElem?_cons_zero]; rfl) (by rw [HO.out]; kernel_rfl) (by rw [HO.out]; kernel_rfl) (by rw [HO.out]; kernel_rfl) (by rw [HQ.out]; exact fun _ _ _ h => h) (Or.inl ⟨by rfl, ?_⟩) hS ?_
        · intro w' hSw
          go_simp
        try simp only [Act.put, List.setIfInBounds_toArray, List.set_cons_zero, List.set_cons_succ]
        refine wpAnyH_take (i := 2) (v := .pointer (some ⟨k.p, 13, none⟩)) (by rw [HO.out]; simp only [List.getElem?_toArray, List.getElem?_cons_succ, List.getElem?_cons_zero]; rfl) (by rw [HO.out]; kernel_rfl) (by rw [HO.out]; kernel_rfl) (by rw [HO.out]; kernel_rfl) (by rw [HQ.out]; exact fun _ _ _ h => h) (Or.inl ⟨by rfl, ?_⟩) hS ?_
        · intro w' hSw
          go_simp
        try simp only [Act.put, List.setIfInBounds_toArray, List.set_cons_zero, List.set_cons_succ]
        refine wpAnyH_take (i := 3) (v := wrF db nx) (by rw [HO.out]; simp only [List.getElem?_toArray, List.getElem?_cons_succ, List.getElem?_cons_zero]; rfl) (by rw [HO.out]; kernel_rfl) (by rw [HO.out]; kernel_rfl) (by rw [HO.out]; kernel_rfl) (by rw [HQ.out]; exact fun _ _ _ h => h) (Or.inl ⟨by rfl, ?_⟩) hS ?_
        · intro w' hSw
          obtain ⟨q1, q2⟩ := hSw
          go_simp
        try simp only [Act.put, List.setIfInBounds_toArray, List.set_cons_zero, List.set_cons_succ]
        refine wpAnyH_take (i := 4) (v := .slice (some ⟨gb, ob, none⟩) M bc) (by rw [HO.out]; simp only [List.getElem?_toArray, List.getElem?_cons_succ, List.getElem?_cons_zero]; rfl) (by rw [HO.out]; kernel_rfl) (by rw [HO.out]; kernel_rfl) (by rw [HO.out]; kernel_rfl) (by rw [HQ.out]; exact fun _ _ _ h => h) (Or.inl ⟨by rfl, ?_⟩) hS ?_
        · intro w' hSw
          go_simp
        try simp only [Act.put, List.setIfInBounds_toArray, List.set_cons_zero, List.set_cons_succ]
        refine wpAnyH_take (i := 5) (v := .int .i64 (i : Int)) (by rw [HO.out]; simp only [List.getElem?_toArray, List.getElem?_cons_succ, List.getElem?_cons_zero]; rfl) (by rw [HO.out]; kernel_rfl) (by rw [HO.out]; kernel_rfl) (by rw [HO.out]; kernel_rfl) (by rw [HQ.out]; exact fun _ _ _ h => h) (Or.inl ⟨by rfl, ?_⟩) hS ?_
        · intro w' hSw
          go_simp
        try simp only [Act.put, List.setIfInBounds_toArray, List.set_cons_zero, List.set_cons_succ]
        refine wpAnyH_take (i := 6) (v := .pointer (some ⟨gb, ob + i, none⟩)) (by rw [HO.out]; simp only [List.getElem?_toArray, List.getElem?_cons_succ, List.getElem?_cons_zero]; rfl) (by rw [HO.out]; kernel_rfl) (by rw [HO.out]; kernel_rfl) (by rw [HO.out]; kernel_rfl) (by rw [HQ.out]; exact fun _ _ _ h => h) (Or.inl ⟨by rfl, ?_⟩) hS ?_
        · intro w' hSw
          go_simp
        try simp only [Act.put, List.setIfInBounds_toArray, List.set_cons_zero, List.set_cons_succ]
        refine wpAnyH_take (i := 7) (v := .int .i64 bn) (by rw [HO.out]; simp only [List.getElem?_toArray, List.getElem?_cons_succ, List.getElem?_cons_zero]; rfl) (by rw [HO.out]; kernel_rfl) (by rw [HO.out]; kernel_rfl) (by rw [HO.out]; kernel_rfl) (by rw [HQ.out]; exact fun _ _ _ h => h) (Or.inl ⟨by rfl, ?_⟩) hS ?_
        · intro w' hSw
          obtain ⟨q1, q2⟩ := hSw
          go_simp
        try simp only [Act.put, List.setIfInBounds_toArray, List.set_cons_zero, List.set_cons_succ]
        refine wpAnyH_take (i := 8) (v := .slice (some ⟨g2, 0, none⟩) 256 c2) (by rw [HO.out]; simp only [List.getElem?_toArray, List.getElem?_cons_succ, List.getElem?_cons_zero]; rfl) (by rw [HO.out]; kernel_rfl) (by rw [HO.out]; kernel_rfl) (by rw [HO.out]; kernel_rfl) (by rw [HQ.out]; exact fun _ _ _ h => h) (Or.inl ⟨by rfl, ?_⟩) hS ?_
        · intro w' hSw
          go_simp
        try simp only [Act.put, List.setIfInBounds_toArray, List.set_cons_zero, List.set_cons_succ]
        refine wpAnyH_ready (rs := [9]) (by rw [HO.out]; kernel_rfl) (by simp) ?_
        refine AllReadyH.cons (o := _) (by rw [HO.out]; simp only [List.getElem?_toArray, List.getElem?_cons_succ, List.getElem?_cons_zero]; rfl) (fun K9 hK9 => ?_) AllReadyH.nil
        simp only [wrF]
        go_simp
        refine HW2.mono ?_
        rintro e w3 ⟨rfl, hx3, ho3⟩
        refine hK9.out _ _ ⟨hx3.m.v.cells.c13, (off_cellK ho3 hgb2 hgbx _).trans hcb2⟩ (fun hS1 => ?_)
        have HO3 : Hid (D.Off k.K wr w3) := ((off_below HB2.out).trans (off_below (Below.refl _ _).drew)).trans ho3
        have HX3 : Hid (Sx w3 k _ _ t f t' f' u sb db nx) := hx3
        clear HW2 hx3 ho3 HV2 HB2
        refine wpAnyH_take (i := 10) (v := .int .i64 0) (by rw [HO.out]; simp only [List.getElem?_toArray, List.getElem?_cons_succ, List.getElem?_cons_zero]; rfl) (by rw [HO.out]; kernel_rfl) (by rw [HO.out]; kernel_rfl) (by rw [HO.out]; kernel_rfl) (by rw [HQ.out]; exact fun _ _ _ h => h) (Or.inl ⟨by rfl, ?_⟩) hS1 ?_
        · intro w' hSw
          go_simp
        try simp only [Act.put, List.setIfInBounds_toArray, List.set_cons_zero, List.set_cons_succ]
        refine wpAnyH_done (by rw [HO.out]; kernel_rfl) ?_ _
        rw [HQ.out]
        refine NoPanic.normal ?_
        go_wp2_with fail
        go_roundw
        case rel => exact ⟨i + 1, d2, by omega, by go_num, HR2.out, HX3.out, HOf.out.trans HO3.out, HPC.out.off HX.out HO3.out⟩
        case measure => simp [iOf]; omega
      · have her' : (er == 0) = false := by simpa using her
        rw [if_pos her] at hR
        have HR2 : Hid (R = (er, d2)) := hR
        clear hR hdd
        go_wp2_with (first
          | (go_at_call 56; refine H2.mono ?_; rintro e w2 ⟨g2, c2, rfl, hv2, hg2, hb2⟩; have HB2 : Hid (Below wr.heap.size wr w2) := hb2; have HV2 : Hid (BV w2 (some ⟨g2, 0, none⟩) (sealS kd i pc)) := hv2; clear hv2 hb2 H2)
          | fail)
        have HX2 := HX.out.below HB2.out
        have hcb2 : w2.cell? ⟨gb, ob + i, none⟩ = some (.int .i64 bn) := (off_cellK (off_below (k := k) HB2.out) hgb hgbx _).trans hcb
        have hgb2 : gb < w2.heap.size := Nat.lt_of_lt_of_le hgb HB2.out.size
        have HW2 := HW.out w2.drew g2 c2 (HB2.out.trans (Below.refl _ _).drew) (HV2.out.below (Below.refl _ _).drew) hg2
        have HC2 := HX2.m.v.cells.c13
        clear HX2 HW
        refine wp_region_noPanic ?_
        refine name_ops ?_
        intro O QQ HO HQ
        refine wp_region_held_drew (S := (fun W => W.cell? ⟨k.p, 13, none⟩ = some (wrF db nx) ∧ W.cell? ⟨gb, ob + i, none⟩ = some (.int .i64 bn))) (by kernel_rfl) ⟨HC2, hcb2⟩ (fun hS => ?_)
        rw [show O.size = 11 by rw [HO.out]; rfl]
        refine wpAnyH_take (i := 0) (v := .pointer (some ⟨k.p, 0, none⟩)) (by rw [HO.out]; simp only [List.getElem?_toArray, List.getElem?_cons_succ, List.getElem?_cons_zero]; rfl) (by rw [HO.out]; kernel_rfl) (by rw [HO.out]; kernel_rfl) (by rw [HO.out]; kernel_rfl) (by rw [HQ.out]; exact fun _ _ _ h => h) (Or.inl ⟨by rfl, ?_⟩) hS ?_
        · intro w' hSw
          go_simp
        try simp only [Act.put, List.setIfInBounds_toArray, List.set_cons_zero, List.set_cons_succ]
        refine wpAnyH_take (i := 1) (v := .pointer (some ⟨k.p, 0, none⟩)) (by rw [HO.out]; simp only [List.getElem?_toArray, List.getElem?_cons_succ, List.getElem?_cons_zero]; rfl) (by rw [HO.out]; kernel_rfl) (by rw [HO.out]; kernel_rfl) (by rw [HO.out]; kernel_rfl) (by rw [HQ.out]; exact fun _ _ _ h => h) (Or.inl ⟨by rfl, ?_⟩) hS ?_
        · intro w' hSw
          go_simp
        try simp only [Act.put, List.setIfInBounds_toArray, List.set_cons_zero, List.set_cons_succ]
        refine wpAnyH_take (i := 2) (v := .pointer (some ⟨k.p, 13, none⟩)) (by rw [HO.out]; simp only [List.getElem?_toArray, List.getElem?_cons_succ, List.getElem?_cons_zero]; rfl) (by rw [HO.out]; kernel_rfl) (by rw [HO.out]; kernel_rfl) (by rw [HO.out]; kernel_rfl) (by rw [HQ.out]; exact fun _ _ _ h => h) (Or.inl ⟨by rfl, ?_⟩) hS ?_
        · intro w' hSw
          go_simp
        try simp only [Act.put, List.setIfInBounds_toArray, List.set_cons_zero, List.set_cons_succ]
        refine wpAnyH_take (i := 3) (v := wrF db nx) (by rw [HO.out]; simp only [List.getElem?_toArray, List.getElem?_cons_succ, List.getElem?_cons_zero]; rfl) (by rw [HO.out]; kernel_rfl) (by rw [HO.out]; kernel_rfl) (by rw [HO.out]; kernel_rfl) (by rw [HQ.out]; exact fun _ _ _ h => h) (Or.inl ⟨by rfl, ?_⟩) hS ?_
        · intro w' hSw
          obtain ⟨q1, q2⟩ := hSw
          go_simp
        try simp only [Act.put, List.setIfInBounds_toArray, List.set_cons_zero, List.set_cons_succ]
        refine wpAnyH_take (i := 4) (v := .slice (some ⟨gb, ob, none⟩) M bc) (by rw [HO.out]; simp only [List.getElem?_toArray, List.getElem?_cons_succ, List.getElem?_cons_zero]; rfl) (by rw [HO.out]; kernel_rfl) (by rw [HO.out]; kernel_rfl) (by rw [HO.out]; kernel_rfl) (by rw [HQ.out]; exact fun _ _ _ h => h) (Or.inl ⟨by rfl, ?_⟩) hS ?_
        · intro w' hSw
          go_simp
        try simp only [Act.put, List.setIfInBounds_toArray, List.set_cons_zero, List.set_cons_succ]
        refine wpAnyH_take (i := 5) (v := .int .i64 (i : Int)) (by rw [HO.out]; simp only [List.getElem?_toArray, List.getElem?_cons_succ, List.getElem?_cons_zero]; rfl) (by rw [HO.out]; kernel_rfl) (by rw [HO.out]; kernel_rfl) (by rw [HO.out]; kernel_rfl) (by rw [HQ.out]; exact fun _ _ _ h => h) (Or.inl ⟨by rfl, ?_⟩) hS ?_
        · intro w' hSw
          go_simp
        try simp only [Act.put, List.setIfInBounds_toArray, List.set_cons_zero, List.set_cons_succ]
        refine wpAnyH_take (i := 6) (v := .pointer (some ⟨gb, ob + i, none⟩)) (by rw [HO.out]; simp only [List.getElem?_toArray, List.getElem?_cons_succ, List.getElem?_cons_zero]; rfl) (by rw [HO.out]; kernel_rfl) (by rw [HO.out]; kernel_rfl) (by rw [HO.out]; kernel_rfl) (by rw [HQ.out]; exact fun _ _ _ h => h) (Or.inl ⟨by rfl, ?_⟩) hS ?_
        · intro w' hSw
          go_simp
        try simp only [Act.put, List.setIfInBounds_toArray, List.set_cons_zero, List.set_cons_succ]
        refine wpAnyH_take (i := 7) (v := .int .i64 bn) (by rw [HO.out]; simp only [List.getElem?_toArray, List.getElem?_cons_succ, List.getElem?_cons_zero]; rfl) (by rw [HO.out]; kernel_rfl) (by rw [HO.out]; kernel_rfl) (by rw [HO.out]; kernel_rfl) (by rw [HQ.out]; exact fun _ _ _ h => h) (Or.inl ⟨by rfl, ?_⟩) hS ?_
        · intro w' hSw
          obtain ⟨q1, q2⟩ := hSw
          go_simp
        try simp only [Act.put, List.setIfInBounds_toArray, List.set_cons_zero, List.set_cons_succ]
        refine wpAnyH_take (i := 8) (v := .slice (some ⟨g2, 0, none⟩) 256 c2) (by rw [HO.out]; simp only [List.getElem?_toArray, List.getElem?_cons_succ, List.getElem?_cons_zero]; rfl) (by rw [HO.out]; kernel_rfl) (by rw [HO.out]; kernel_rfl) (by rw [HO.out]; kernel_rfl) (by rw [HQ.out]; exact fun _ _ _ h => h) (Or.inl ⟨by rfl, ?_⟩) hS ?_
        · intro w' hSw
          go_simp
        try simp only [Act.put, List.setIfInBounds_toArray, List.set_cons_zero, List.set_cons_succ]
        refine wpAnyH_ready (rs := [9]) (by rw [HO.out]; kernel_rfl) (by simp) ?_
        refine AllReadyH.cons (o := _) (by rw [HO.out]; simp only [List.getElem?_toArray, List.getElem?_cons_succ, List.getElem?_cons_zero]; rfl) (fun K9 hK9 => ?_) AllReadyH.nil
        simp only [wrF]
        go_simp
        refine HW2.mono ?_
        rintro e w3 ⟨rfl, hx3, ho3⟩
        refine hK9.out _ _ ⟨hx3.m.v.cells.c13, (off_cellK ho3 hgb2 hgbx _).trans hcb2⟩ (fun hS1 => ?_)
        have HO3 : Hid (D.Off k.K wr w3) := ((off_below HB2.out).trans (off_below (Below.refl _ _).drew)).trans ho3
        have HX3 : Hid (Sx w3 k _ _ t f t' f' u sb db nx) := hx3
        clear HW2 hx3 ho3 HV2 HB2
        refine wpAnyH_take (i := 10) (v := .int .i64 er) (by rw [HO.out]; simp only [List.getElem?_toArray, List.getElem?_cons_succ, List.getElem?_cons_zero]; rfl) (by rw [HO.out]; kernel_rfl) (by rw [HO.out]; kernel_rfl) (by rw [HO.out]; kernel_rfl) (by rw [HQ.out]; exact fun _ _ _ h => h) (Or.inl ⟨by rfl, ?_⟩) hS1 ?_
        · intro w' hSw
          go_simp
        try simp only [Act.put, List.setIfInBounds_toArray, List.set_cons_zero, List.set_cons_succ]
        refine wpAnyH_done (by rw [HO.out]; kernel_rfl) ?_ _
        rw [HQ.out]
        refine NoPanic.normal ?_
        go_wp2_with fail
        go_ret
        rw [HR2.out]
        exact ⟨rfl, HX3.out, HOf.out.trans HO3.out⟩
    · obtain rfl : i = N := by omega
      have hR := HR.out
      rw [List.drop_of_length_le (by rw [← HN.out]; exact Nat.le_refl _)] at hR
      have HR2 : Hid (R = (0, di)) := hR.trans (by unfold wpR; rfl)
      clear hR
      go_wp2
      go_ret
      rw [HR2.out, note_zero]
      exact ⟨rfl, HX.out, HOf.out⟩
end Go.Proofs.YtbklnadlbcndlaaGreat
namespace Go.Proofs.YtbklnadlbcndlaaGreat
set_option maxRecDepth 20000
open Go.RowKit
set_option linter.unusedVariables false
set_option linter.unusedSimpArgs false
def SS.hold (s : SS) (E S : Int) (tb us : List Int) : SS := { c := ⟨tb, S, List.replicate (B.makeN s.bl) 0, false⟩, l := ⟨tb, S, List.replicate (B.makeN s.bl) 0, false⟩, ep := E, us := us, bl := s.bl, bad := s.bad }
def SS.hold1 (s : SS) (E : Int) (us : List Int) : SS := { s with ep := E, us := us }
def SS.hold2 (s : SS) (E S : Int) (tb us : List Int) : SS := { s with c := ⟨tb, S, List.replicate (B.makeN s.bl) 0, false⟩, ep := E, us := us }
theorem Sx.held1 {w1 : World} {k : Pl} {s : SS} {d : D.DS} {t f t' f' u : Value} {sb db nx : Nat} (h : Sx w1 k s d t f t' f' u sb db nx) (E : Int) (uv : Value) (us : List Int) (hu : FB w1 k.X uv us) :
    Sx ((w1.setCell ⟨k.p, 8, none⟩ (.int .i64 E)).setCell ⟨k.p, 9, none⟩ uv) k (s.hold1 E us) d t f t' f' uv sb db nx ∧ D.Off [k.p] w1 ((w1.setCell ⟨k.p, 8, none⟩ (.int .i64 E)).setCell ⟨k.p, 9, none⟩ uv) := by
  have ho : D.Off [k.p] w1 ((w1.setCell ⟨k.p, 8, none⟩ (.int .i64 E)).setCell ⟨k.p, 9, none⟩ uv) := ((D.Off.refl _ _).setCell (by simp) _).setCell (by simp) _
  exact ⟨h.set ho ((ShB.set8 h.m.v (.int .i64 E)).set9 uv) h.m.ht h.m.hf h.m.ht' h.m.hf' hu, ho⟩
theorem Sx.held2 {w2 : World} {k : Pl} {s : SS} {d : D.DS} {t f t' f' u : Value} {sb db nx : Nat} (h : Sx w2 k s d t f t' f' u sb db nx) (S : Int) (tv fv : Value) (tb fr : List Int) (ht : FI w2 k.X tv tb) (hf : FB w2 k.X fv fr) :
    Sx ((((w2.setCell ⟨k.p, 0, none⟩ tv).setCell ⟨k.p, 1, none⟩ (.int .i64 S)).setCell ⟨k.p, 2, none⟩ fv).setCell ⟨k.p, 3, none⟩ (.bool false)) k { s with c := ⟨tb, S, fr, false⟩ } d tv fv t' f' u sb db nx ∧ D.Off [k.p] w2 ((((w2.setCell ⟨k.p, 0, none⟩ tv).setCell ⟨k.p, 1, none⟩ (.int .i64 S)).setCell ⟨k.p, 2, none⟩ fv).setCell ⟨k.p, 3, none⟩ (.bool false)) := by
  have ho : D.Off [k.p] w2 ((((w2.setCell ⟨k.p, 0, none⟩ tv).setCell ⟨k.p, 1, none⟩ (.int .i64 S)).setCell ⟨k.p, 2, none⟩ fv).setCell ⟨k.p, 3, none⟩ (.bool false)) := ((((D.Off.refl _ _).setCell (by simp) _).setCell (by simp) _).setCell (by simp) _).setCell (by simp) _
  exact ⟨h.set ho ((((ShB.set0 h.m.v tv).set1 (.int .i64 S)).set2 fv).set3 (.bool false)) ht hf h.m.ht' h.m.hf' h.m.hu, ho⟩
theorem Sx.held3 {w3 : World} {k : Pl} {s : SS} {d : D.DS} {t f t' f' u : Value} {sb db nx : Nat} (h : Sx w3 k s d t f t' f' u sb db nx) :
    Sx ((((w3.setCell ⟨k.p, 4, none⟩ t).setCell ⟨k.p, 5, none⟩ (.int .i64 s.c.st)).setCell ⟨k.p, 6, none⟩ f).setCell ⟨k.p, 7, none⟩ (.bool s.c.dt)) k { s with l := s.c } d t f t f u sb db nx ∧ D.Off [k.p] w3 ((((w3.setCell ⟨k.p, 4, none⟩ t).setCell ⟨k.p, 5, none⟩ (.int .i64 s.c.st)).setCell ⟨k.p, 6, none⟩ f).setCell ⟨k.p, 7, none⟩ (.bool s.c.dt)) := by
  have ho : D.Off [k.p] w3 ((((w3.setCell ⟨k.p, 4, none⟩ t).setCell ⟨k.p, 5, none⟩ (.int .i64 s.c.st)).setCell ⟨k.p, 6, none⟩ f).setCell ⟨k.p, 7, none⟩ (.bool s.c.dt)) := ((((D.Off.refl _ _).setCell (by simp) _).setCell (by simp) _).setCell (by simp) _).setCell (by simp) _
  exact ⟨h.set ho ((((ShB.set4 h.m.v t).set5 (.int .i64 s.c.st)).set6 f).set7 (.bool s.c.dt)) h.m.ht h.m.hf h.m.ht h.m.hf h.m.hu, ho⟩
set_option maxHeartbeats 3200000 in
theorem hold_s {k : Pl} {s : SS} {d : D.DS} {t f t' f' u : Value} {sb db nx : Nat} (r : R.RD) (ra rb : Option Addr) (ca cb : Nat) (tv uv : Value) (tb us : List Int) (w : World) (h : Sx w k s d t f t' f' u sb db nx) (htv : FI w k.X tv tb) (huv : FB w k.X uv us) :
    Calls Tryz.prog 113 #[.pointer (some ⟨k.p, 0, none⟩), R.rootV r ra ca rb cb, tv, uv] w fun e w' => e = .returned (.tuple #[]) ∧ Sy w' k (s.hold r.E r.S tb us) d ∧ D.Off k.K w w' := by
  obtain ⟨ua, uc, rfl, huvr⟩ := huv
  obtain ⟨ta, tc, rfl, htvr⟩ := htv
  have huv : FB w k.X (.slice ua us.length uc) us := ⟨ua, uc, rfl, huvr⟩
  have htv : FI w k.X (.slice ta tb.length tc) tb := ⟨ta, tc, rfl, htvr⟩
  have hE1 := h.held1 r.E _ us huv
  obtain ⟨w2, hw2⟩ : ∃ w2, w2 = ((w.setCell ⟨k.p, 8, none⟩ (.int .i64 r.E)).setCell ⟨k.p, 9, none⟩ (.slice ua us.length uc)).alloc (.cells #[.int .i64 r.E, .int .i64 r.B, .int .i64 r.N, .int .i64 r.S, .slice ra r.T.length ca, .slice rb r.M.length cb] 151) := ⟨_, rfl⟩
  have hsz : ((w.setCell ⟨k.p, 8, none⟩ (.int .i64 r.E)).setCell ⟨k.p, 9, none⟩ (.slice ua us.length uc)).heap.size = w.heap.size := by simp [World.setCell]
  have hb2 : Below w.heap.size ((w.setCell ⟨k.p, 8, none⟩ (.int .i64 r.E)).setCell ⟨k.p, 9, none⟩ (.slice ua us.length uc)) w2 := by rw [hw2]; exact (Below.refl _ _).alloc (by rw [hsz]; exact Nat.le_refl _) _
  have hx2 : Sx w2 k (s.hold1 r.E us) d t f t' f' (.slice ua us.length uc) sb db nx := hE1.1.below (by rw [hsz]; exact hb2)
  have ho2 : D.Off k.K w w2 := (Pl.offP hE1.2).trans (off_below (by rw [hsz]; exact hb2))
  have hr3 : w2.cell? ⟨w.heap.size, 3, none⟩ = some (.int .i64 r.S) := by rw [hw2, ← hsz]; go_simp
  have hwX : w.heap.size ∉ k.X := fun hm => by have := h.lt _ hm; omega
  have hw2s : w.heap.size < w2.heap.size := by rw [hw2]; simp [hsz]
  have c8 := h.m.v.cells.c8
  have c9 := h.m.v.cells.c9
  have f8 := h.m.v.cells.f 8
  have f9 := h.m.v.cells.f 9
  have hplt := h.m.v.lt
  have hpne : k.p ≠ w.heap.size := by omega
  have HX2 : Hid (Sx w2 k (s.hold1 r.E us) d t f t' f' (.slice ua us.length uc) sb db nx) := hx2
  have HO2 : Hid (D.Off k.K w w2) := ho2
  have HTV : Hid (FI w2 k.X (.slice ta tb.length tc) tb) := htv.off ho2 k.kx
  have HR3 : Hid (w2.cell? ⟨w.heap.size, 3, none⟩ = some (.int .i64 r.S)) := hr3
  have HW2 : Hid (w2 = _) := hw2
  clear h hx2 huv htv hb2 hw2 hr3 ho2 hE1 huvr htvr hsz
  unfold R.rootV
  go_enter Tryz.func113, Tryz.ntmps113
  go_wp2_with fail
  rw [← HW2.out]
  clear HW2 c8 c9 f8 f9
  have hr3 := HR3.out
  have c10 : w2.cell? ⟨k.p, 10, none⟩ = some (.int .i64 (s.bl : Int)) := HX2.out.m.v.cells.c10
  have H1 := make_fb s.bl k.X w2.drew HX2.out.lt
  refine wp_region_noPanic ?_
  refine name_ops ?_
  intro O QQ HO HQ
  refine wp_region_held_drew (S := (fun W => W.cell? ⟨w.heap.size, 3, none⟩ = some (.int .i64 r.S) ∧ W.cell? ⟨k.p, 10, none⟩ = some (.int .i64 (s.bl : Int)))) (by kernel_rfl) ⟨hr3, c10⟩ (fun hS => ?_)
  rw [show O.size = 13 by rw [HO.out]; rfl]
  refine wpAnyH_take (i := 0) (v := .pointer (some ⟨k.p, 0, none⟩)) (by rw [HO.out]; simp only [List.getElem?_toArray, List.getElem?_cons_succ, List.getElem?_cons_zero]; rfl) (by rw [HO.out]; kernel_rfl) (by rw [HO.out]; kernel_rfl) (by rw [HO.out]; kernel_rfl) (by rw [HQ.out]; exact fun _ _ _ h => h) (Or.inl ⟨by rfl, ?_⟩) hS ?_
  · intro w' hSw
    go_simp
  try simp only [Act.put, List.setIfInBounds_toArray, List.set_cons_zero, List.set_cons_succ]
  refine wpAnyH_take (i := 1) (v := .slice ta tb.length tc) (by rw [HO.out]; simp only [List.getElem?_toArray, List.getElem?_cons_succ, List.getElem?_cons_zero]; rfl) (by rw [HO.out]; kernel_rfl) (by rw [HO.out]; kernel_rfl) (by rw [HO.out]; kernel_rfl) (by rw [HQ.out]; exact fun _ _ _ h => h) (Or.inl ⟨by rfl, ?_⟩) hS ?_
  · intro w' hSw
    go_simp
  try simp only [Act.put, List.setIfInBounds_toArray, List.set_cons_zero, List.set_cons_succ]
  refine wpAnyH_take (i := 2) (v := .pointer (some ⟨w.heap.size, 3, none⟩)) (by rw [HO.out]; simp only [List.getElem?_toArray, List.getElem?_cons_succ, List.getElem?_cons_zero]; rfl) (by rw [HO.out]; kernel_rfl) (by rw [HO.out]; kernel_rfl) (by rw [HO.out]; kernel_rfl) (by rw [HQ.out]; exact fun _ _ _ h => h) (Or.inl ⟨by rfl, ?_⟩) hS ?_
  · intro w' hSw
    go_simp
  try simp only [Act.put, List.setIfInBounds_toArray, List.set_cons_zero, List.set_cons_succ]
  refine wpAnyH_take (i := 3) (v := .int .i64 r.S) (by rw [HO.out]; simp only [List.getElem?_toArray, List.getElem?_cons_succ, List.getElem?_cons_zero]; rfl) (by rw [HO.out]; kernel_rfl) (by rw [HO.out]; kernel_rfl) (by rw [HO.out]; kernel_rfl) (by rw [HQ.out]; exact fun _ _ _ h => h) (Or.inl ⟨by rfl, ?_⟩) hS ?_
  · intro w' hSw
    obtain ⟨q1, q2⟩ := hSw
    go_simp
  try simp only [Act.put, List.setIfInBounds_toArray, List.set_cons_zero, List.set_cons_succ]
  refine wpAnyH_take (i := 4) (v := .pointer (some ⟨k.p, 0, none⟩)) (by rw [HO.out]; simp only [List.getElem?_toArray, List.getElem?_cons_succ, List.getElem?_cons_zero]; rfl) (by rw [HO.out]; kernel_rfl) (by rw [HO.out]; kernel_rfl) (by rw [HO.out]; kernel_rfl) (by rw [HQ.out]; exact fun _ _ _ h => h) (Or.inl ⟨by rfl, ?_⟩) hS ?_
  · intro w' hSw
    go_simp
  try simp only [Act.put, List.setIfInBounds_toArray, List.set_cons_zero, List.set_cons_succ]
  refine wpAnyH_take (i := 5) (v := .pointer (some ⟨k.p, 0, none⟩)) (by rw [HO.out]; simp only [List.getElem?_toArray, List.getElem?_cons_succ, List.getElem?_cons_zero]; rfl) (by rw [HO.out]; kernel_rfl) (by rw [HO.out]; kernel_rfl) (by rw [HO.out]; kernel_rfl) (by rw [HQ.out]; exact fun _ _ _ h => h) (Or.inl ⟨by rfl, ?_⟩) hS ?_
  · intro w' hSw
    go_simp
  try simp only [Act.put, List.setIfInBounds_toArray, List.set_cons_zero, List.set_cons_succ]
  refine wpAnyH_take (i := 6) (v := .pointer (some ⟨k.p, 10, none⟩)) (by rw [HO.out]; simp only [List.getElem?_toArray, List.getElem?_cons_succ, List.getElem?_cons_zero]; rfl) (by rw [HO.out]; kernel_rfl) (by rw [HO.out]; kernel_rfl) (by rw [HO.out]; kernel_rfl) (by rw [HQ.out]; exact fun _ _ _ h => h) (Or.inl ⟨by rfl, ?_⟩) hS ?_
  · intro w' hSw
    go_simp
  try simp only [Act.put, List.setIfInBounds_toArray, List.set_cons_zero, List.set_cons_succ]
  refine wpAnyH_take (i := 7) (v := .int .i64 (s.bl : Int)) (by rw [HO.out]; simp only [List.getElem?_toArray, List.getElem?_cons_succ, List.getElem?_cons_zero]; rfl) (by rw [HO.out]; kernel_rfl) (by rw [HO.out]; kernel_rfl) (by rw [HO.out]; kernel_rfl) (by rw [HQ.out]; exact fun _ _ _ h => h) (Or.inl ⟨by rfl, ?_⟩) hS ?_
  · intro w' hSw
    obtain ⟨q1, q2⟩ := hSw
    go_simp
  try simp only [Act.put, List.setIfInBounds_toArray, List.set_cons_zero, List.set_cons_succ]
  refine wpAnyH_ready (rs := [8]) (by rw [HO.out]; kernel_rfl) (by simp) ?_
  refine AllReadyH.cons (o := _) (by rw [HO.out]; simp only [List.getElem?_toArray, List.getElem?_cons_succ, List.getElem?_cons_zero]; rfl) (fun K8 hK8 => ?_) AllReadyH.nil
  go_simp
  refine H1.mono ?_
  rintro e w3 ⟨fv, rfl, hfv, hb3'⟩
  have hb3 : Below w2.heap.size w2 w3 := (Below.refl _ _).drew.trans hb3'
  have hx3 := HX2.out.below hb3
  have hfv' := hfv
  obtain ⟨fa, fc, rfl, _⟩ := hfv'
  rw [List.length_replicate] at *
  obtain ⟨flen, hfl⟩ : ∃ n, n = B.makeN s.bl := ⟨_, rfl⟩
  rw [← hfl]
  rw [← hfl] at hfv
  have HE3 : Hid (Sx ((((w3.setCell ⟨k.p, 0, none⟩ (.slice ta tb.length tc)).setCell ⟨k.p, 1, none⟩ (.int .i64 r.S)).setCell ⟨k.p, 2, none⟩ (.slice fa flen fc)).setCell ⟨k.p, 3, none⟩ (.bool false)) k (s.hold2 r.E r.S tb us) d (.slice ta tb.length tc) (.slice fa flen fc) t' f' (.slice ua us.length uc) sb db nx ∧ D.Off [k.p] w3 ((((w3.setCell ⟨k.p, 0, none⟩ (.slice ta tb.length tc)).setCell ⟨k.p, 1, none⟩ (.int .i64 r.S)).setCell ⟨k.p, 2, none⟩ (.slice fa flen fc)).setCell ⟨k.p, 3, none⟩ (.bool false))) := by
    have := hx3.held2 r.S _ _ tb _ (HTV.out.below hb3) hfv
    unfold SS.hold2
    rw [← hfl]
    exact this
  have hr33 : w3.cell? ⟨w.heap.size, 3, none⟩ = some (.int .i64 r.S) := (hb3.cell (p := ⟨w.heap.size, 3, none⟩) hw2s).trans hr3
  have c103 := hx3.m.v.cells.c10
  have hcs := hx3.m.v.cells
  refine hK8.out _ _ ⟨hr33, c103⟩ (fun hS1 => ?_)
  have HO3 : Hid (D.Off k.K w w3) := HO2.out.trans (off_below hb3)
  obtain ⟨d0, d1, d2, d3, d4, d5, d6, d7, _, _, _, _, _, _, _, dz⟩ := hcs
  have z0 := dz 0
  have z1 := dz 1
  have z2 := dz 2
  have z3 := dz 3
  clear H1 hfv hb3 hb3' hx3 HO2 HX2 HTV dz hfl
  refine wpAnyH_take (i := 9) (v := .agg #[.slice ta tb.length tc, .int .i64 r.S, .slice fa flen fc, .bool false]) (by rw [HO.out]; simp only [List.getElem?_toArray, List.getElem?_cons_succ, List.getElem?_cons_zero]; rfl) (by rw [HO.out]; kernel_rfl) (by rw [HO.out]; kernel_rfl) (by rw [HO.out]; kernel_rfl) (by rw [HQ.out]; exact fun _ _ _ h => h) (Or.inl ⟨by rfl, ?_⟩) hS1 ?_
  · intro w' hSw
    go_simp
  try simp only [Act.put, List.setIfInBounds_toArray, List.set_cons_zero, List.set_cons_succ]
  refine wpAnyH_take (i := 10) (v := .pointer (some ⟨k.p, 0, none⟩)) (by rw [HO.out]; simp only [List.getElem?_toArray, List.getElem?_cons_succ, List.getElem?_cons_zero]; rfl) (by rw [HO.out]; kernel_rfl) (by rw [HO.out]; kernel_rfl) (by rw [HO.out]; kernel_rfl) (by rw [HQ.out]; exact fun _ _ _ h => h) (Or.inl ⟨by rfl, ?_⟩) hS1 ?_
  · intro w' hSw
    go_simp
  try simp only [Act.put, List.setIfInBounds_toArray, List.set_cons_zero, List.set_cons_succ]
  refine wpAnyH_take (i := 11) (v := .pointer (some ⟨k.p, 0, none⟩)) (by rw [HO.out]; simp only [List.getElem?_toArray, List.getElem?_cons_succ, List.getElem?_cons_zero]; rfl) (by rw [HO.out]; kernel_rfl) (by rw [HO.out]; kernel_rfl) (by rw [HO.out]; kernel_rfl) (by rw [HQ.out]; exact fun _ _ _ h => h) (Or.inl ⟨by rfl, ?_⟩) hS1 ?_
  · intro w' hSw
    go_simp
  try simp only [Act.put, List.setIfInBounds_toArray, List.set_cons_zero, List.set_cons_succ]
  refine wpAnyH_ready (rs := [12]) (by rw [HO.out]; kernel_rfl) (by simp) ?_
  refine AllReadyH.cons (o := _) (by rw [HO.out]; simp only [List.getElem?_toArray, List.getElem?_cons_succ, List.getElem?_cons_zero]; rfl) (fun K12 hK12 => ?_) AllReadyH.nil
  go_simp
  have hwp : w.heap.size ≠ k.p := fun e => hpne e.symm
  refine hK12.out _ _ ⟨(off_cell HE3.out.2 (cell_lt hr33) (by simp; exact hwp) 3).trans hr33, HE3.out.1.m.v.cells.c10⟩ (fun hS2 => ?_)
  refine wpAnyH_done (by rw [HO.out]; kernel_rfl) ?_ _
  rw [HQ.out]
  refine NoPanic.normal ?_
  have HE4 : Hid _ := HE3.out.1.held3
  have hcs := HE3.out.1.m.v.cells
  obtain ⟨d0', d1', d2', d3', d4', d5', d6', d7', _, _, _, _, _, _, _, dz'⟩ := hcs
  have z4 := dz' 4
  have z5 := dz' 5
  have z6 := dz' 6
  have z7 := dz' 7
  clear dz' d0 d1 d2 d3 d4 d5 d6 d7 z0 z1 z2 z3
  obtain ⟨w4, hw4⟩ : ∃ w4, w4 = ((((w3.setCell ⟨k.p, 0, none⟩ (.slice ta tb.length tc)).setCell ⟨k.p, 1, none⟩ (.int .i64 r.S)).setCell ⟨k.p, 2, none⟩ (.slice fa flen fc)).setCell ⟨k.p, 3, none⟩ (.bool false)) := ⟨_, rfl⟩
  rw [← hw4] at d0' d1' d2' d3' d4' d5' d6' d7' z4 z5 z6 z7 HE4 HE3 ⊢
  clear hw4
  go_wp2_with fail
  refine bodyPost_end (v := .tuple #[]) (results_none rfl _ _ _) rfl ?_
  exact ⟨rfl, ⟨_, _, _, _, _, _, _, _, HE4.out.1⟩, (HO3.out.trans (Pl.offP HE3.out.2)).trans (Pl.offP HE4.out.2)⟩
end Go.Proofs.YtbklnadlbcndlaaGreat
namespace Go.Proofs.YtbklnadlbcndlaaGreat
set_option maxRecDepth 20000
open Go.RowKit
set_option linter.unusedVariables false
set_option linter.unusedSimpArgs false
structure Ev (w : World) (k : Pl) (sx eb rb wb ub bb : Nat) (tv mv wv uv bv : Value) (T M ws us bs : List Int) (ep : Int) : Prop where
  csx : w.cell? ⟨sx, 0, none⟩ = some (.pointer (some ⟨k.p, 0, none⟩))
  ceb : w.cell? ⟨eb, 0, none⟩ = some (.int .i64 ep)
  crt : w.cell? ⟨rb, 4, none⟩ = some tv
  crm : w.cell? ⟨rb, 5, none⟩ = some mv
  cwb : w.cell? ⟨wb, 0, none⟩ = some wv
  cub : w.cell? ⟨ub, 0, none⟩ = some uv
  cbb : w.cell? ⟨bb, 0, none⟩ = some bv
  htv : FI w k.X tv T
  hmv : FI w k.X mv M
  hwv : FB w k.X wv ws
  huv : FB w k.X uv us
  hbv : FB w k.X bv bs
  nx : ∀ b ∈ [sx, eb, rb, wb, ub, bb], b ∉ k.X
theorem Ev.off {w w' : World} {k : Pl} {sx eb rb wb ub bb : Nat} {tv mv wv uv bv : Value} {T M ws us bs : List Int} {ep : Int} (h : Ev w k sx eb rb wb ub bb tv mv wv uv bv T M ws us bs ep) (ho : D.Off k.K w w') : Ev w' k sx eb rb wb ub bb tv mv wv uv bv T M ws us bs ep := by
  have q : ∀ b i v, w.cell? ⟨b, i, none⟩ = some v → b ∈ [sx, eb, rb, wb, ub, bb] → w'.cell? ⟨b, i, none⟩ = some v := fun b i v hc hm => (off_cellK ho (cell_lt hc) (h.nx b hm) i).trans hc
  exact ⟨q _ _ _ h.csx (by simp), q _ _ _ h.ceb (by simp), q _ _ _ h.crt (by simp), q _ _ _ h.crm (by simp), q _ _ _ h.cwb (by simp), q _ _ _ h.cub (by simp), q _ _ _ h.cbb (by simp), h.htv.off ho k.kx, h.hmv.off ho k.kx, h.hwv.off ho k.kx, h.huv.off ho k.kx, h.hbv.off ho k.kx, h.nx⟩
set_option maxHeartbeats 400000 in
theorem tables_s {k : Pl} {s : SS} {d : D.DS} {t f t' f' u : Value} {sb db nx : Nat} {sx eb rb wb ub bb : Nat} {tv mv wv uv bv : Value} {T M ws us bs : List Int} {ep : Int} (w : World) (h : Sx w k s d t f t' f' u sb db nx) (ev : Ev w k sx eb rb wb ub bb tv mv wv uv bv T M ws us bs ep) (hz : ws.length ≤ 10000) (hl : (splitS ws 246).length ≤ T.length) (hbl : T.length ≤ 3000) :
    Calls Tryz.prog 109 #[.pointer (some ⟨sx, 0, none⟩), .pointer (some ⟨rb, 0, none⟩), .pointer (some ⟨wb, 0, none⟩)] w fun e w' => DoneW k s w (wpR 1 0 (splitS ws 246) T d) t f t' f' u sb db nx e w' := by
  have c1 := ev.csx
  have c2 := ev.crt
  have c3 := ev.cwb
  have H1 := wpages_s 1 tv wv T ws w h (by decide) (by decide) ev.htv ev.hwv hz hl hbl
  unfold DoneW at H1 ⊢
  generalize wpR 1 0 (splitS ws 246) T d = r at *
  clear h ev
  go_enter Tryz.func109, Tryz.ntmps109
  go_wp2_with (first | (go_at_call 110; refine H1.mono ?_; rintro e w1 ⟨rfl, hx, ho⟩; have HX : Hid (Sx w1 k _ _ t f t' f' u sb db nx) := hx; have HO : Hid (D.Off k.K w w1) := ho; clear hx ho H1) | fail)
  go_ret
  exact ⟨rfl, HX.out, HO.out⟩
set_option maxHeartbeats 400000 in
theorem maps_s {k : Pl} {s : SS} {d : D.DS} {t f t' f' u : Value} {sb db nx : Nat} {sx eb rb wb ub bb : Nat} {tv mv wv uv bv : Value} {T M ws us bs : List Int} {ep : Int} (w : World) (h : Sx w k s d t f t' f' u sb db nx) (ev : Ev w k sx eb rb wb ub bb tv mv wv uv bv T M ws us bs ep) (hz : us.length ≤ 10000) (hl : (splitS us 246).length ≤ M.length) (hbl : M.length ≤ 3000) :
    Calls Tryz.prog 111 #[.pointer (some ⟨sx, 0, none⟩), .pointer (some ⟨rb, 0, none⟩), .pointer (some ⟨ub, 0, none⟩)] w fun e w' => DoneW k s w (wpR 2 0 (splitS us 246) M d) t f t' f' u sb db nx e w' := by
  have c1 := ev.csx
  have c2 := ev.crm
  have c3 := ev.cub
  have H1 := wpages_s 2 mv uv M us w h (by decide) (by decide) ev.hmv ev.huv hz hl hbl
  unfold DoneW at H1 ⊢
  generalize wpR 2 0 (splitS us 246) M d = r at *
  clear h ev
  go_enter Tryz.func111, Tryz.ntmps111
  go_wp2_with (first | (go_at_call 110; refine H1.mono ?_; rintro e w1 ⟨rfl, hx, ho⟩; have HX : Hid (Sx w1 k _ _ t f t' f' u sb db nx) := hx; have HO : Hid (D.Off k.K w w1) := ho; clear hx ho H1) | fail)
  go_ret
  exact ⟨rfl, HX.out, HO.out⟩
set_option maxHeartbeats 800000 in
theorem root_s {k : Pl} {s : SS} {d : D.DS} {t f t' f' u : Value} {sb db nx : Nat} {sx eb rb wb ub bb : Nat} {tv mv wv uv bv : Value} {T M ws us bs : List Int} {ep : Int} (w : World) (h : Sx w k s d t f t' f' u sb db nx) (ev : Ev w k sx eb rb wb ub bb tv mv wv uv bv T M ws us bs ep) (hz : bs.length = 256) (h0 : 0 ≤ ep) (h1 : ep ≤ 9223372036854775807) :
    Calls Tryz.prog 112 #[.pointer (some ⟨sx, 0, none⟩), .pointer (some ⟨eb, 0, none⟩), .pointer (some ⟨bb, 0, none⟩)] w fun e w' => DoneW k s w (D.writeE d (Int.tmod ep 2) bs, D.writeS d (Int.tmod ep 2) bs) t f t' f' u sb db nx e w' := by
  have c1 := ev.csx
  have c2 := ev.ceb
  have c3 := ev.cbb
  have c13 := h.m.v.cells.c13
  obtain ⟨ba, bc, rfl, hbn, _, _, hbv, hbx⟩ := ev.hbv
  have hne : bs ≠ [] := fun e => by rw [e] at hz; simp at hz
  have H1 : Hid (Calls Tryz.prog 166 #[.int .i64 (Int.tmod ep 2), .slice ba 256 bc, .pointer (some ⟨nx, 0, none⟩), .pointer (some ⟨db, 0, none⟩)] w.drew fun r w' => r = .returned (.int .i64 (D.writeE d (Int.tmod ep 2) bs)) ∧ Sx w' k (s.note (D.writeE d (Int.tmod ep 2) bs)) (D.writeS d (Int.tmod ep 2) bs) t f t' f' u sb db nx ∧ D.Off k.K w.drew w') := by
    have := write_sx (Int.tmod ep 2) ba bc bs w.drew (h.below (Below.refl _ _).drew) (hbv.below (Below.refl _ _).drew) (by omega) (fun b off e hm => hbx hne b off e (k.sub b hm))
    rw [hz] at this
    exact this
  rw [hz] at c3
  have HEV : Hid (Ev w k sx eb rb wb ub bb tv mv wv uv (.slice ba bs.length bc) T M ws us bs ep) := ev
  rw [hz] at HEV
  unfold DoneW
  generalize D.writeE d (Int.tmod ep 2) bs = er at *
  generalize D.writeS d (Int.tmod ep 2) bs = d2 at *
  clear h ev hbv hbx hbn hne
  go_enter Tryz.func112, Tryz.ntmps112
  go_wp2_with fail
  refine wp_region_noPanic ?_
  refine name_ops ?_
  intro O QQ HO HQ
  refine wp_region_held_drew (S := (fun W => W.cell? ⟨sx, 0, none⟩ = some (.pointer (some ⟨k.p, 0, none⟩)) ∧ W.cell? ⟨eb, 0, none⟩ = some (.int .i64 ep) ∧ W.cell? ⟨bb, 0, none⟩ = some (.slice ba 256 bc) ∧ W.cell? ⟨k.p, 13, none⟩ = some (wrF db nx))) (by kernel_rfl) ⟨c1, c2, c3, c13⟩ (fun hS => ?_)
  rw [show O.size = 9 by rw [HO.out]; rfl]
  refine wpAnyH_take (i := 0) (v := .pointer (some ⟨k.p, 0, none⟩)) (by rw [HO.out]; simp only [List.getElem?_toArray, List.getElem?_cons_succ, List.getElem?_cons_zero]; rfl) (by rw [HO.out]; kernel_rfl) (by rw [HO.out]; kernel_rfl) (by rw [HO.out]; kernel_rfl) (by rw [HQ.out]; exact fun _ _ _ h => h) (Or.inl ⟨by rfl, ?_⟩) hS ?_
  · intro w' hSw
    obtain ⟨q1, q2, q3, q4⟩ := hSw
    go_simp
  try simp only [Act.put, List.setIfInBounds_toArray, List.set_cons_zero, List.set_cons_succ]
  refine wpAnyH_take (i := 1) (v := .pointer (some ⟨k.p, 0, none⟩)) (by rw [HO.out]; simp only [List.getElem?_toArray, List.getElem?_cons_succ, List.getElem?_cons_zero]; rfl) (by rw [HO.out]; kernel_rfl) (by rw [HO.out]; kernel_rfl) (by rw [HO.out]; kernel_rfl) (by rw [HQ.out]; exact fun _ _ _ h => h) (Or.inl ⟨by rfl, ?_⟩) hS ?_
  · intro w' hSw
    go_simp
  try simp only [Act.put, List.setIfInBounds_toArray, List.set_cons_zero, List.set_cons_succ]
  refine wpAnyH_take (i := 2) (v := .pointer (some ⟨k.p, 13, none⟩)) (by rw [HO.out]; simp only [List.getElem?_toArray, List.getElem?_cons_succ, List.getElem?_cons_zero]; rfl) (by rw [HO.out]; kernel_rfl) (by rw [HO.out]; kernel_rfl) (by rw [HO.out]; kernel_rfl) (by rw [HQ.out]; exact fun _ _ _ h => h) (Or.inl ⟨by rfl, ?_⟩) hS ?_
  · intro w' hSw
    go_simp
  try simp only [Act.put, List.setIfInBounds_toArray, List.set_cons_zero, List.set_cons_succ]
  refine wpAnyH_take (i := 3) (v := wrF db nx) (by rw [HO.out]; simp only [List.getElem?_toArray, List.getElem?_cons_succ, List.getElem?_cons_zero]; rfl) (by rw [HO.out]; kernel_rfl) (by rw [HO.out]; kernel_rfl) (by rw [HO.out]; kernel_rfl) (by rw [HQ.out]; exact fun _ _ _ h => h) (Or.inl ⟨by rfl, ?_⟩) hS ?_
  · intro w' hSw
    obtain ⟨q1, q2, q3, q4⟩ := hSw
    go_simp
  try simp only [Act.put, List.setIfInBounds_toArray, List.set_cons_zero, List.set_cons_succ]
  refine wpAnyH_take (i := 4) (v := .int .i64 ep) (by rw [HO.out]; simp only [List.getElem?_toArray, List.getElem?_cons_succ, List.getElem?_cons_zero]; rfl) (by rw [HO.out]; kernel_rfl) (by rw [HO.out]; kernel_rfl) (by rw [HO.out]; kernel_rfl) (by rw [HQ.out]; exact fun _ _ _ h => h) (Or.inl ⟨by rfl, ?_⟩) hS ?_
  · intro w' hSw
    obtain ⟨q1, q2, q3, q4⟩ := hSw
    go_simp
  try simp only [Act.put, List.setIfInBounds_toArray, List.set_cons_zero, List.set_cons_succ]
  refine wpAnyH_take (i := 5) (v := .int .i64 (Int.tmod ep 2)) (by rw [HO.out]; simp only [List.getElem?_toArray, List.getElem?_cons_succ, List.getElem?_cons_zero]; rfl) (by rw [HO.out]; kernel_rfl) (by rw [HO.out]; kernel_rfl) (by rw [HO.out]; kernel_rfl) (by rw [HQ.out]; exact fun _ _ _ h => h) (Or.inl ⟨by rfl, ?_⟩) hS ?_
  · intro w' hSw
    go_simp
  try simp only [Act.put, List.setIfInBounds_toArray, List.set_cons_zero, List.set_cons_succ]
  refine wpAnyH_take (i := 6) (v := .slice ba 256 bc) (by rw [HO.out]; simp only [List.getElem?_toArray, List.getElem?_cons_succ, List.getElem?_cons_zero]; rfl) (by rw [HO.out]; kernel_rfl) (by rw [HO.out]; kernel_rfl) (by rw [HO.out]; kernel_rfl) (by rw [HQ.out]; exact fun _ _ _ h => h) (Or.inl ⟨by rfl, ?_⟩) hS ?_
  · intro w' hSw
    obtain ⟨q1, q2, q3, q4⟩ := hSw
    go_simp
  try simp only [Act.put, List.setIfInBounds_toArray, List.set_cons_zero, List.set_cons_succ]
  refine wpAnyH_ready (rs := [7]) (by rw [HO.out]; kernel_rfl) (by simp) ?_
  refine AllReadyH.cons (o := _) (by rw [HO.out]; simp only [List.getElem?_toArray, List.getElem?_cons_succ, List.getElem?_cons_zero]; rfl) (fun K7 hK7 => ?_) AllReadyH.nil
  simp only [wrF]
  go_simp
  refine H1.out.mono ?_
  rintro e w1 ⟨rfl, hx, ho⟩
  have ev1 := HEV.out.off ((off_below (Below.refl _ _).drew).trans ho)
  refine hK7.out _ _ ⟨ev1.csx, ev1.ceb, ev1.cbb, hx.m.v.cells.c13⟩ (fun hS1 => ?_)
  have HX : Hid (Sx w1 k _ _ t f t' f' u sb db nx) := hx
  have HO1 : Hid (D.Off k.K w w1) := (off_below (Below.refl _ _).drew).trans ho
  clear hx ho ev1 H1
  refine wpAnyH_take (i := 8) (v := .int .i64 er) (by rw [HO.out]; simp only [List.getElem?_toArray, List.getElem?_cons_succ, List.getElem?_cons_zero]; rfl) (by rw [HO.out]; kernel_rfl) (by rw [HO.out]; kernel_rfl) (by rw [HO.out]; kernel_rfl) (by rw [HQ.out]; exact fun _ _ _ h => h) (Or.inl ⟨by rfl, ?_⟩) hS1 ?_
  · intro w' hSw
    go_simp
  try simp only [Act.put, List.setIfInBounds_toArray, List.set_cons_zero, List.set_cons_succ]
  refine wpAnyH_done (by rw [HO.out]; kernel_rfl) ?_ _
  rw [HQ.out]
  refine NoPanic.normal ?_
  go_wp2_with fail
  go_ret
  exact ⟨rfl, HX.out, HO1.out⟩
def tlR (F : Nat → D.DS → Int × D.DS) : Nat → Nat → D.DS → Int × D.DS
  | 0, _, d => (0, d)
  | n + 1, j, d => if (F j d).1 ≠ 0 then F j d else tlR F n (j + 1) (F j d).2
set_option maxHeartbeats 1600000 in
theorem turn_s {k : Pl} {s : SS} {d : D.DS} {t f t' f' u : Value} {sb db nx : Nat} {sx eb rb wb ub bb : Nat} {tv mv wv uv bv : Value} {T M ws us bs : List Int} {ep : Int} (F : Nat → D.DS → Int × D.DS) (g : Nat) (w : World) (h : Sx w k s d t f t' f' u sb db nx) (ev : Ev w k sx eb rb wb ub bb tv mv wv uv bv T M ws us bs ep) (hg : g ∉ k.X)
    (g0 : w.cell? ⟨g, 0, none⟩ = some (.func (.func 109) #[] #[.pointer (some ⟨sx, 0, none⟩), .pointer (some ⟨rb, 0, none⟩), .pointer (some ⟨wb, 0, none⟩)])) (g1 : w.cell? ⟨g, 1, none⟩ = some (.func (.func 111) #[] #[.pointer (some ⟨sx, 0, none⟩), .pointer (some ⟨rb, 0, none⟩), .pointer (some ⟨ub, 0, none⟩)])) (g2 : w.cell? ⟨g, 2, none⟩ = some (syF db nx)) (g3 : w.cell? ⟨g, 3, none⟩ = some (.func (.func 112) #[] #[.pointer (some ⟨sx, 0, none⟩), .pointer (some ⟨eb, 0, none⟩), .pointer (some ⟨bb, 0, none⟩)])) (g4 : w.cell? ⟨g, 4, none⟩ = some (syF db nx))
    (H0 : ∀ W di, Sx W k s di t f t' f' u sb db nx → D.Off k.K w W → Calls Tryz.prog 109 #[.pointer (some ⟨sx, 0, none⟩), .pointer (some ⟨rb, 0, none⟩), .pointer (some ⟨wb, 0, none⟩)] W fun e w' => DoneW k s W (F 0 di) t f t' f' u sb db nx e w')
    (H1 : ∀ W di, Sx W k s di t f t' f' u sb db nx → D.Off k.K w W → Calls Tryz.prog 111 #[.pointer (some ⟨sx, 0, none⟩), .pointer (some ⟨rb, 0, none⟩), .pointer (some ⟨ub, 0, none⟩)] W fun e w' => DoneW k s W (F 1 di) t f t' f' u sb db nx e w')
    (H3 : ∀ W di, Sx W k s di t f t' f' u sb db nx → D.Off k.K w W → Calls Tryz.prog 112 #[.pointer (some ⟨sx, 0, none⟩), .pointer (some ⟨eb, 0, none⟩), .pointer (some ⟨bb, 0, none⟩)] W fun e w' => DoneW k s W (F 3 di) t f t' f' u sb db nx e w')
    (F2 : ∀ di, F 2 di = (D.syncE di, D.syncS di)) (F4 : ∀ di, F 4 di = (D.syncE di, D.syncS di)) :
    Calls Tryz.prog 108 #[.slice (some ⟨g, 0, none⟩) 5 5] w fun e w' => DoneW k s w (tlR F 5 0 d) t f t' f' u sb db nx e w' := by
  have HG : Hid (∀ W, D.Off k.K w W → W.cell? ⟨g, 0, none⟩ = some (.func (.func 109) #[] #[.pointer (some ⟨sx, 0, none⟩), .pointer (some ⟨rb, 0, none⟩), .pointer (some ⟨wb, 0, none⟩)]) ∧ W.cell? ⟨g, 1, none⟩ = some (.func (.func 111) #[] #[.pointer (some ⟨sx, 0, none⟩), .pointer (some ⟨rb, 0, none⟩), .pointer (some ⟨ub, 0, none⟩)]) ∧ W.cell? ⟨g, 2, none⟩ = some (syF db nx) ∧ W.cell? ⟨g, 3, none⟩ = some (.func (.func 112) #[] #[.pointer (some ⟨sx, 0, none⟩), .pointer (some ⟨eb, 0, none⟩), .pointer (some ⟨bb, 0, none⟩)]) ∧ W.cell? ⟨g, 4, none⟩ = some (syF db nx)) := fun W hW => ⟨(off_cellK hW (cell_lt g0) hg 0).trans g0, (off_cellK hW (cell_lt g0) hg 1).trans g1, (off_cellK hW (cell_lt g0) hg 2).trans g2, (off_cellK hW (cell_lt g0) hg 3).trans g3, (off_cellK hW (cell_lt g0) hg 4).trans g4⟩
  have HS : ∀ W di, Sx W k s di t f t' f' u sb db nx → Calls Tryz.prog 167 #[.pointer (some ⟨nx, 0, none⟩), .pointer (some ⟨db, 0, none⟩)] W fun e w' => DoneW k s W (D.syncE di, D.syncS di) t f t' f' u sb db nx e w' := fun W di hx => sync_sx W hx
  have HA0 : Hid (∀ W di, Sx W k s di t f t' f' u sb db nx → D.Off k.K w W → Calls Tryz.prog 109 #[.pointer (some ⟨sx, 0, none⟩), .pointer (some ⟨rb, 0, none⟩), .pointer (some ⟨wb, 0, none⟩)] W fun e w' => DoneW k s W (F 0 di) t f t' f' u sb db nx e w') := H0
  have HA1 : Hid (∀ W di, Sx W k s di t f t' f' u sb db nx → D.Off k.K w W → Calls Tryz.prog 111 #[.pointer (some ⟨sx, 0, none⟩), .pointer (some ⟨rb, 0, none⟩), .pointer (some ⟨ub, 0, none⟩)] W fun e w' => DoneW k s W (F 1 di) t f t' f' u sb db nx e w') := H1
  have HA3 : Hid (∀ W di, Sx W k s di t f t' f' u sb db nx → D.Off k.K w W → Calls Tryz.prog 112 #[.pointer (some ⟨sx, 0, none⟩), .pointer (some ⟨eb, 0, none⟩), .pointer (some ⟨bb, 0, none⟩)] W fun e w' => DoneW k s W (F 3 di) t f t' f' u sb db nx e w') := H3
  have HA2 : Hid (∀ W di, Sx W k s di t f t' f' u sb db nx → Calls Tryz.prog 167 #[.pointer (some ⟨nx, 0, none⟩), .pointer (some ⟨db, 0, none⟩)] W fun e w' => DoneW k s W (F 2 di) t f t' f' u sb db nx e w') := fun W di hx => by rw [F2]; exact HS W di hx
  have HA4 : Hid (∀ W di, Sx W k s di t f t' f' u sb db nx → Calls Tryz.prog 167 #[.pointer (some ⟨nx, 0, none⟩), .pointer (some ⟨db, 0, none⟩)] W fun e w' => DoneW k s W (F 4 di) t f t' f' u sb db nx e w') := fun W di hx => by rw [F4]; exact HS W di hx
  have HX : Hid (Sx w k s d t f t' f' u sb db nx) := h
  obtain ⟨R, hR⟩ : ∃ R, R = tlR F 5 0 d := ⟨_, rfl⟩
  rw [← hR]
  have HR : Hid (R = tlR F 5 0 d) := hR
  clear hR h ev g0 g1 g2 g3 g4 H0 H1 H3 F2 F4 HS
  unfold DoneW at *
  go_enter Tryz.func108, Tryz.ntmps108
  go_wp2
  go_loopw [8] (fun iv wr => ∃ (j : Nat) (di : D.DS), j ≤ 5 ∧ iv = .int .i64 j ∧ Hid (R = tlR F (5 - j) j di) ∧ Hid (Sx wr k s di t f t' f' u sb db nx) ∧ Hid (D.Off k.K w wr)) (fun iv _ => 5 - (iOf iv).toNat)
  case atStart => exact ⟨0, d, Nat.zero_le _, rfl, HR.out, HX.out, D.Off.refl _ _⟩
  case round =>
    clear HR HX
    obtain ⟨j, di, hj, rfl, HR, HX, HOf⟩ := hrel
    obtain ⟨c0, c1, c2, c3, c4⟩ := HG.out _ HOf.out
    simp only [syF] at c2 c4
    by_cases hlt : j < 5
    · have hR := HR.out
      rw [show 5 - j = (4 - j) + 1 by omega] at hR
      rw [show tlR F (4 - j + 1) j di = (if (F j di).1 ≠ 0 then F j di else tlR F (4 - j) (j + 1) (F j di).2) from rfl] at hR
      have hj5 : j = 0 ∨ j = 1 ∨ j = 2 ∨ j = 3 ∨ j = 4 := by omega
      clear HR
      rcases hj5 with rfl | rfl | rfl | rfl | rfl
      · have HC := HA0.out _ _ HX.out HOf.out
        clear c1 c2 c3 c4
        generalize F 0 di = r at *
        obtain ⟨er, d2⟩ := r
        by_cases her : er = 0
        · subst her
          simp only [ne_eq, not_true_eq_false, if_false, note_zero] at hR HC
          have HR2 : Hid (R = tlR F (4 - 0) (0 + 1) d2) := hR
          clear hR
          go_wp2_with (first | (go_at_call 109; refine HC.mono ?_; rintro e w1 ⟨rfl, hx, ho⟩; have HX1 : Hid (Sx w1 k s d2 t f t' f' u sb db nx) := hx; have HO1 : Hid (D.Off k.K w w1) := HOf.out.trans ho; clear hx ho HC) | fail)
          go_roundw
          case rel => exact ⟨1, d2, by decide, by go_num, HR2.out, HX1.out, HO1.out⟩
          case measure => simp [iOf]
        · have her' : (er == 0) = false := by simpa using her
          simp only [ne_eq, her, not_false_eq_true, if_true] at hR
          have HR2 : Hid (R = (er, d2)) := hR
          clear hR
          go_wp2_with (first | (go_at_call 109; refine HC.mono ?_; rintro e w1 ⟨rfl, hx, ho⟩; have HX1 : Hid (Sx w1 k _ d2 t f t' f' u sb db nx) := hx; have HO1 : Hid (D.Off k.K w w1) := HOf.out.trans ho; clear hx ho HC) | fail)
          go_ret
          rw [HR2.out]
          exact ⟨rfl, HX1.out, HO1.out⟩
      · have HC := HA1.out _ _ HX.out HOf.out
        clear c0 c2 c3 c4
        generalize F 1 di = r at *
        obtain ⟨er, d2⟩ := r
        by_cases her : er = 0
        · subst her
          simp only [ne_eq, not_true_eq_false, if_false, note_zero] at hR HC
          have HR2 : Hid (R = tlR F (4 - 1) (1 + 1) d2) := hR
          clear hR
          go_wp2_with (first | (go_at_call 111; refine HC.mono ?_; rintro e w1 ⟨rfl, hx, ho⟩; have HX1 : Hid (Sx w1 k s d2 t f t' f' u sb db nx) := hx; have HO1 : Hid (D.Off k.K w w1) := HOf.out.trans ho; clear hx ho HC) | fail)
          go_roundw
          case rel => exact ⟨2, d2, by decide, by go_num, HR2.out, HX1.out, HO1.out⟩
          case measure => simp [iOf]
        · have her' : (er == 0) = false := by simpa using her
          simp only [ne_eq, her, not_false_eq_true, if_true] at hR
          have HR2 : Hid (R = (er, d2)) := hR
          clear hR
          go_wp2_with (first | (go_at_call 111; refine HC.mono ?_; rintro e w1 ⟨rfl, hx, ho⟩; have HX1 : Hid (Sx w1 k _ d2 t f t' f' u sb db nx) := hx; have HO1 : Hid (D.Off k.K w w1) := HOf.out.trans ho; clear hx ho HC) | fail)
          go_ret
          rw [HR2.out]
          exact ⟨rfl, HX1.out, HO1.out⟩
      · have HC := HA2.out _ _ HX.out
        clear c0 c1 c3 c4
        generalize F 2 di = r at *
        obtain ⟨er, d2⟩ := r
        by_cases her : er = 0
        · subst her
          simp only [ne_eq, not_true_eq_false, if_false, note_zero] at hR HC
          have HR2 : Hid (R = tlR F (4 - 2) (2 + 1) d2) := hR
          clear hR
          go_wp2_with (first | (go_at_call 167; refine HC.mono ?_; rintro e w1 ⟨rfl, hx, ho⟩; have HX1 : Hid (Sx w1 k s d2 t f t' f' u sb db nx) := hx; have HO1 : Hid (D.Off k.K w w1) := HOf.out.trans ho; clear hx ho HC) | fail)
          go_roundw
          case rel => exact ⟨3, d2, by decide, by go_num, HR2.out, HX1.out, HO1.out⟩
          case measure => simp [iOf]
        · have her' : (er == 0) = false := by simpa using her
          simp only [ne_eq, her, not_false_eq_true, if_true] at hR
          have HR2 : Hid (R = (er, d2)) := hR
          clear hR
          go_wp2_with (first | (go_at_call 167; refine HC.mono ?_; rintro e w1 ⟨rfl, hx, ho⟩; have HX1 : Hid (Sx w1 k _ d2 t f t' f' u sb db nx) := hx; have HO1 : Hid (D.Off k.K w w1) := HOf.out.trans ho; clear hx ho HC) | fail)
          go_ret
          rw [HR2.out]
          exact ⟨rfl, HX1.out, HO1.out⟩
      · have HC := HA3.out _ _ HX.out HOf.out
        clear c0 c1 c2 c4
        generalize F 3 di = r at *
        obtain ⟨er, d2⟩ := r
        by_cases her : er = 0
        · subst her
          simp only [ne_eq, not_true_eq_false, if_false, note_zero] at hR HC
          have HR2 : Hid (R = tlR F (4 - 3) (3 + 1) d2) := hR
          clear hR
          go_wp2_with (first | (go_at_call 112; refine HC.mono ?_; rintro e w1 ⟨rfl, hx, ho⟩; have HX1 : Hid (Sx w1 k s d2 t f t' f' u sb db nx) := hx; have HO1 : Hid (D.Off k.K w w1) := HOf.out.trans ho; clear hx ho HC) | fail)
          go_roundw
          case rel => exact ⟨4, d2, by decide, by go_num, HR2.out, HX1.out, HO1.out⟩
          case measure => simp [iOf]
        · have her' : (er == 0) = false := by simpa using her
          simp only [ne_eq, her, not_false_eq_true, if_true] at hR
          have HR2 : Hid (R = (er, d2)) := hR
          clear hR
          go_wp2_with (first | (go_at_call 112; refine HC.mono ?_; rintro e w1 ⟨rfl, hx, ho⟩; have HX1 : Hid (Sx w1 k _ d2 t f t' f' u sb db nx) := hx; have HO1 : Hid (D.Off k.K w w1) := HOf.out.trans ho; clear hx ho HC) | fail)
          go_ret
          rw [HR2.out]
          exact ⟨rfl, HX1.out, HO1.out⟩
      · have HC := HA4.out _ _ HX.out
        clear c0 c1 c2 c3
        generalize F 4 di = r at *
        obtain ⟨er, d2⟩ := r
        by_cases her : er = 0
        · subst her
          simp only [ne_eq, not_true_eq_false, if_false, note_zero] at hR HC
          have HR2 : Hid (R = tlR F (4 - 4) (4 + 1) d2) := hR
          clear hR
          go_wp2_with (first | (go_at_call 167; refine HC.mono ?_; rintro e w1 ⟨rfl, hx, ho⟩; have HX1 : Hid (Sx w1 k s d2 t f t' f' u sb db nx) := hx; have HO1 : Hid (D.Off k.K w w1) := HOf.out.trans ho; clear hx ho HC) | fail)
          go_roundw
          case rel => exact ⟨5, d2, by decide, by go_num, HR2.out, HX1.out, HO1.out⟩
          case measure => simp [iOf]
        · have her' : (er == 0) = false := by simpa using her
          simp only [ne_eq, her, not_false_eq_true, if_true] at hR
          have HR2 : Hid (R = (er, d2)) := hR
          clear hR
          go_wp2_with (first | (go_at_call 167; refine HC.mono ?_; rintro e w1 ⟨rfl, hx, ho⟩; have HX1 : Hid (Sx w1 k _ d2 t f t' f' u sb db nx) := hx; have HO1 : Hid (D.Off k.K w w1) := HOf.out.trans ho; clear hx ho HC) | fail)
          go_ret
          rw [HR2.out]
          exact ⟨rfl, HX1.out, HO1.out⟩
    · obtain rfl : j = 5 := by omega
      have HR2 : Hid (R = (0, di)) := HR.out
      clear c0 c1 c2 c3 c4
      go_wp2
      go_ret
      rw [HR2.out, note_zero]
      exact ⟨rfl, HX.out, HOf.out⟩
end Go.Proofs.YtbklnadlbcndlaaGreat
