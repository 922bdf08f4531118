import Derived.Test.YtemacdimdpnkeaaGreatDoorB15
import Derived.RangeFuncNested
import Derived.RangeFuncBound
import Derived.RangeFuncCalls
import Derived.RangeFuncLeaves
import Derived.Shelf.Abstract
import Derived.WalkKit
import Derived.OwnWalkIn
import Derived.TacticsInMore
import Derived.LoopNIn
import Derived.LoopIn
namespace Go.Proofs.YtemacdimdpnkeaaGreatDoor
set_option maxRecDepth 20000
open Go.RowKit Go.Shelf
set_option linter.unusedVariables false
set_option linter.unusedSimpArgs false
attribute [local go_sem] Oper.semAt_some
set_option maxHeartbeats 2000000 in
theorem back_in (F : Fence) (n : Nat) (h : F.fn 36) (hro : F.round = none) (a : Option Addr) (len cap : Nat) (w : World) :
    CallsIn F n Tryz.prog 36 #[.slice a len cap] w fun e w' => e = .returned (.func (.func 69) #[] #[.pointer (some ⟨w.heap.size, 0, none⟩)]) ∧ w' = w.alloc (.cells #[.slice a len cap] 81) := by
  refine callsIn_of_wp Tryz.func36 rfl h ?_ hro
  simp only [Tryz.ntmps36, List.size_toArray, List.length_cons, List.length_nil, Nat.reduceAdd, Nat.reduceSub, Array.replicate_succ, Array.replicate_zero, List.push_toArray, List.append_toArray, List.nil_append, List.cons_append]
  gi_wp2
  go_ret
  exact ⟨rfl, rfl⟩
def bkF (zs : List Int) (j : Nat) : Nat × Int := (zs.length - 1 - j, zs.getD (zs.length - 1 - j) 0)
def uptoB (zs : List Int) (k : Nat) : List (Nat × Int) := (List.range k).map (bkF zs)
theorem uptoB_succ (zs : List Int) (k : Nat) : uptoB zs (k + 1) = uptoB zs k ++ [bkF zs k] := by simp [uptoB, List.range_succ]
theorem uptoB_len (zs : List Int) (k : Nat) : (uptoB zs k).length = k := by simp [uptoB]
theorem uptoB_all (zs : List Int) : (uptoB zs zs.length).map Prod.snd = zs.reverse := by
  apply List.ext_getElem
  · simp [uptoB]
  · intro i h1 h2
    simp only [List.length_reverse] at h2
    simp [uptoB, bkF, show zs.length - 1 - i < zs.length by omega]
def KpQ (Q : Nat → Prop) (W W' : World) : Prop := ∀ k cs T fz, Q k → W.heap[k]? = some (.cells cs T fz) → W'.heap[k]? = some (.cells cs T fz)
theorem KpQ.refl (Q : Nat → Prop) (W : World) : KpQ Q W W := fun k cs T fz _ h => h
theorem KpQ.trans {Q : Nat → Prop} {A B C : World} (h : KpQ Q A B) (k : KpQ Q B C) : KpQ Q A C := fun j cs T fz hq hj => k j cs T fz hq (h j cs T fz hq hj)
theorem KpQ.putObj {Q : Nat → Prop} (W : World) (l : Nat) (o o' : Obj) (hl : W.heap[l]? = some o) (hc : o.isCells = false) : KpQ Q W (W.putObj l o') := by
  intro k cs T fz _ hk
  by_cases e : k = l
  · subst e
    rw [hl] at hk
    cases hk
    cases hc
  · rw [World.putObj_heap_other e]; exact hk
set_option maxHeartbeats 2000000 in
theorem back1_in (F : Fence) (n : Nat) (h7 : F.fn 69) (hro : F.round = none) (hn : 1 ≤ n) (l Bs g cap : Nat) (zs : List Int) (hreach : zs.length ≤ 1000000000) (Q : Nat → Prop) (hQs : Q Bs) (hQg : Q g) (J Jx : List (Nat × Int) → World → Prop)
    (hY : ∀ pre x W, J pre W → pre.length < zs.length → YieldAt F (n - 1) Tryz.prog l #[.int .i64 (x.1 : Int), .int .u8 x.2] W fun e W' =>
      (e = .returned (.bool true) ∧ J (pre ++ [x]) W' ∧ KpQ Q W W') ∨ (e = .returned (.bool false) ∧ Jx (pre ++ [x]) W'))
    (W : World) (cur : Array Value) (fz1 fz2 : Nat × Nat) (T1 : TypeId) (hBs : W.heap[Bs]? = some (.cells #[.slice (some ⟨g, 0, none⟩) zs.length cap] T1 fz1)) (hg : W.heap[g]? = some (.cells cur 5 fz2)) (hc : ∀ j, j < zs.length → cur[j]? = some (.int .u8 (zs.getD j 0))) (h0 : J [] W) :
    CallsIn F n Tryz.prog 69 #[.func (.yield l) #[] #[], .pointer (some ⟨Bs, 0, none⟩)] W fun e W' => (∃ v, e = .returned v) ∧
      ((∃ ys, ys = uptoB zs zs.length ∧ J ys W') ∨ (∃ pre, True ∧ Jx pre W')) := by
  have cs : ∀ {V : World}, V.heap[Bs]? = some (.cells #[.slice (some ⟨g, 0, none⟩) zs.length cap] T1 fz1) → V.cell? ⟨Bs, 0, none⟩ = some (.slice (some ⟨g, 0, none⟩) zs.length cap) := fun h => by rw [Lib.cell_of_heap h]; rfl
  have HCS : Hid (∀ {V : World}, V.heap[Bs]? = some (.cells #[.slice (some ⟨g, 0, none⟩) zs.length cap] T1 fz1) → V.cell? ⟨Bs, 0, none⟩ = some (.slice (some ⟨g, 0, none⟩) zs.length cap)) := cs
  have HCG : Hid (∀ {V : World} (j : Nat), V.heap[g]? = some (.cells cur 5 fz2) → j < zs.length → V.cell? ⟨g, j, none⟩ = some (.int .u8 (zs.getD j 0))) := fun {V} j h hj => by rw [Lib.cell_of_heap h]; exact hc j hj
  have HW1 : Hid (W.heap[Bs]? = some (.cells #[.slice (some ⟨g, 0, none⟩) zs.length cap] T1 fz1)) := hBs
  have HW2 : Hid (W.heap[g]? = some (.cells cur 5 fz2)) := hg
  have c0 := cs hBs
  clear cs hBs hg hc
  refine callsIn_of_wp Tryz.func69 rfl h7 ?_ hro
  simp only [Tryz.ntmps69, List.size_toArray, List.length_cons, List.length_nil, Nat.reduceAdd, Nat.reduceSub, Array.replicate_succ, Array.replicate_zero, List.push_toArray, List.append_toArray, List.nil_append, List.cons_append]
  gi_wp2
  gi_loopw [3] (fun i wr => ∃ k : Nat, k ≤ zs.length ∧ i = .int .i64 ((zs.length : Int) - 1 - k) ∧ J (uptoB zs k) wr ∧ KpQ Q W wr)
    (fun i _ => (intOf i + 1).toNat)
  case atStart => exact ⟨0, Nat.zero_le _, by simp, h0, KpQ.refl _ _⟩
  case round =>
    obtain ⟨k, hk, rfl, hJs, hnx⟩ := hrel
    have HNX : Hid (KpQ Q W wr) := hnx
    have q0 := HCS.out (hnx _ _ _ _ hQs HW1.out)
    clear hnx
    by_cases hlt : k < zs.length
    · have q1 := HCG.out (V := wr) (zs.length - 1 - k) (HNX.out _ _ _ _ hQg HW2.out) (by omega)
      obtain ⟨m, hm⟩ : ∃ m, m = zs.length - 1 - k := ⟨_, rfl⟩
      obtain ⟨fn, tmps, assign, body, hy, hR⟩ := hY _ (bkF zs k) wr hJs (by rw [uptoB_len]; exact hlt)
      unfold bkF at hy hR
      rw [← hm] at q1 hy hR
      have hmi : (zs.length : Int) - 1 - k = m := by omega
      have HM : Hid (m = zs.length - 1 - k) := hm
      have hml : (m : Int) < zs.length := by omega
      have hmz : (zs.length : Int) ≤ 1000000000 := by omega
      clear hm
      rw [hmi]
      dsimp only at hy
      obtain ⟨y, hyq⟩ : ∃ y, y = zs.getD m 0 := ⟨_, rfl⟩
      rw [← hyq] at q1 hy hR
      have HYQ : Hid (y = zs.getD m 0) := hyq
      clear hyq
      gi_wp2
      refine hR.mono ?_
      rintro e W3 (⟨rfl, hJ3, hk3⟩ | ⟨rfl, hJx3⟩)
      · gi_wp2
        go_roundw
        case rel => exact ⟨k + 1, by omega, by have := HM.out; congr 1; omega, by rw [uptoB_succ]; unfold bkF; rw [← HM.out, ← HYQ.out]; exact hJ3, HNX.out.trans hk3⟩
        case measure => simp [intOf] <;> omega
      · gi_wp2
        refine bodyPost_ret (results_none rfl _ _ _) rfl ?_
        first | exact ⟨⟨_, rfl⟩, .inr ⟨_, trivial, hJx3⟩⟩ | exact ⟨⟨_, rfl⟩, .inr ⟨_, hJx3⟩⟩
    · obtain rfl : k = zs.length := by omega
      have hneg : ¬ (0 : Int) ≤ (zs.length : Int) - 1 - zs.length := by omega
      gi_wp2
      go_end0
      first | exact ⟨⟨_, rfl⟩, .inl ⟨_, rfl, hJs⟩⟩ | exact ⟨⟨_, rfl⟩, .inl hJs⟩
set_option maxHeartbeats 1000000 in
theorem back1_nil_in (F : Fence) (n : Nat) (h7 : F.fn 69) (hro : F.round = none) (l Bs : Nat) (J : List (Nat × Int) → World → Prop) (W : World) (hBs : W.cell? ⟨Bs, 0, none⟩ = some (.slice none 0 0)) (h0 : J [] W) :
    CallsIn F n Tryz.prog 69 #[.func (.yield l) #[] #[], .pointer (some ⟨Bs, 0, none⟩)] W fun e W' => (∃ v, e = .returned v) ∧ J [] W' := by
  refine callsIn_of_wp Tryz.func69 rfl h7 ?_ hro
  simp only [Tryz.ntmps69, List.size_toArray, List.length_cons, List.length_nil, Nat.reduceAdd, Nat.reduceSub, Array.replicate_succ, Array.replicate_zero, List.push_toArray, List.append_toArray, List.nil_append, List.cons_append]
  gi_wp2
  gi_loopw [3] (fun i wr => i = .int .i64 (-1) ∧ J [] wr) (fun _ _ => 0)
  case atStart => exact ⟨rfl, h0⟩
  case round =>
    obtain ⟨rfl, hJs⟩ := hrel
    gi_wp2
    go_end0
    exact ⟨⟨_, rfl⟩, hJs⟩
def RowK (W : World) (v : Value) (zs : List Int) (g : Nat) : Prop :=
  (v = .slice none 0 0 ∧ zs = []) ∨ ∃ cap cur fz, v = .slice (some ⟨g, 0, none⟩) zs.length cap ∧ W.heap[g]? = some (.cells cur 5 fz) ∧ ∀ j, j < zs.length → cur[j]? = some (.int .u8 (zs.getD j 0))
theorem back_stops (F : Fence) (n : Nat) (h7 : F.fn 69) (hro : F.round = none) (hn : 1 ≤ n) (Bs g : Nat) (v : Value) (zs : List Int) (hreach : zs.length ≤ 1000000000) (w : World) (T1 : TypeId) (fz1 : Nat × Nat) (hBs : w.heap[Bs]? = some (.cells #[v] T1 fz1)) (hr : RowK w v zs g) :
    SeqStopsK F n Tryz.prog 69 #[.pointer (some ⟨Bs, 0, none⟩)] (fun x : Nat × Int => #[Value.int .i64 (x.1 : Int), Value.int .u8 x.2]) (KpQ fun k => k = Bs ∨ k = g) (fun ys => ys = uptoB zs zs.length) (fun _ => True) zs.length w := fun l J Jx W hW _ _ hY h0 => by
  have lt : ∀ {k : Nat} {o : Obj}, w.heap[k]? = some o → W.heap[k]? = some o := fun {k o} h => by
    have : k < w.heap.size := by
      rcases Nat.lt_or_ge k w.heap.size with h' | h'
      · exact h'
      · simp [Array.getElem?_eq_none h'] at h
    rw [hW.block k this]; exact h
  rcases hr with ⟨rfl, rfl⟩ | ⟨cap, cur, fz, rfl, h1, h2⟩
  · refine (back1_nil_in F n h7 hro l Bs J W (by rw [Lib.cell_of_heap (lt hBs)]; rfl) h0).mono fun e W' ⟨he, hj⟩ => ⟨he, .inl ⟨_, rfl, hj⟩⟩
  · exact back1_in F n h7 hro hn l Bs g cap zs hreach (fun k => k = Bs ∨ k = g) (.inl rfl) (.inr rfl) J Jx hY W cur fz1 fz T1 (lt hBs) (lt h1) h2 h0
end Go.Proofs.YtemacdimdpnkeaaGreatDoor
namespace Go.Proofs.YtemacdimdpnkeaaGreatDoor
set_option maxRecDepth 20000
open Go.RowKit Go.Shelf
set_option linter.unusedVariables false
set_option linter.unusedSimpArgs false
theorem At.grown {w W W' : World} {B b : Nat} {z : Str} (h : At w B b W z) {row : Option Nat} (hg : W.grownBy W' row) (hr : ∀ r, row = some r → w.heap.size ≤ r ∧ ∃ o, W.heap[r]? = some o ∧ o.isCells = false) (hB : B ≤ w.heap.size) : At w B b W' z := by
  have hlt := h.bd.lt
  have cells : ∀ {k : Nat} {cs : Array Value} {T : TypeId} {fz : Nat × Nat}, W.heap[k]? = some (.cells cs T fz) → W'.heap[k]? = some (.cells cs T fz) := by
    intro k cs T fz hk
    have hkl : k < W.heap.size := by
      rcases Nat.lt_or_ge k W.heap.size with h' | h'
      · exact h'
      · simp [Array.getElem?_eq_none h'] at hk
    rw [hg.block k hkl (fun e => by
      obtain ⟨-, o, ho, hc⟩ := hr k e.symm
      rw [hk] at ho
      cases ho
      cases hc)]
    exact hk
  have own : ∀ {v : Value} {m : Nat} {xs : List Value}, W.ownsRowF B 5 1 v m xs → W'.ownsRowF B 5 1 v m xs := by
    rintro v m xs ⟨h1, h2⟩
    refine ⟨h1, ?_⟩
    rcases h2 with h2 | ⟨g, cap, cur, fz, e, hb, hgo, rest⟩
    · exact .inl h2
    · exact .inr ⟨g, cap, cur, fz, e, hb, cells hgo, rest⟩
  have bd' : Bd W' B b z := by
    rcases h.bd with ⟨h1, v, h2, h3, h4⟩ | ⟨h1, v, h2, h3, h4⟩
    · exact .inl ⟨h1, v, cells h2, own h3, h4⟩
    · exact .inr ⟨h1, v, cells h2, own h3, h4⟩
  obtain ⟨p0, v0, _, hb0, _, _⟩ := h.bd.get
  refine ⟨bd', h.bel.grown hg (Nat.le_trans hB h.bel.size) (fun k hk => Nat.le_trans hB (hr k hk).1), ⟨Nat.le_trans h.fb.1 hg.size, fun k hk ha => ?_⟩⟩
  obtain ⟨e1, a1⟩ := h.fb.2 k hk ha
  refine ⟨(hg.block k (Nat.lt_of_lt_of_le hk h.fb.1) (fun e => by have := (hr k e.symm).1; omega)).trans e1, a1.1, fun p v T fz e => ?_⟩
  rw [cells hb0] at e
  exact a1.2 p v T fz (by rw [hb0]; exact e)
theorem At.ownFrom {α : Type} {w : World} {B b : Nat} (f : List α → Str) (hB : B ≤ w.heap.size) : OwnFrom w.heap.size (fun (pre : List α) W => At w B b W (f pre)) :=
  fun s A C row hs hg hr => hs.grown hg (fun r e => hr r e) hB
def Marks (H : Nat) (w : World) : List Deferred → Prop
  | [] => True
  | d :: ds => (∃ D, d.target = .collected D ∧ H ≤ D ∧ w.heap[D]? = some (.deferred (some [])) ∧ (∀ d' ∈ ds, d'.target ≠ .collected D)) ∧ Marks H w ds
theorem Marks.kept {H : Nat} {w w' : World} : ∀ {ds : List Deferred}, (∀ D o, H ≤ D → w.heap[D]? = some o → o.isCells = false → w'.heap[D]? = some o ∨ ∀ d ∈ ds, d.target ≠ .collected D) → Marks H w ds → Marks H w' ds
  | [], _, _ => trivial
  | d :: ds, hk, ⟨⟨D, h1, h2, h3, h4⟩, h5⟩ => ⟨⟨D, h1, h2, by
      rcases hk D _ h2 h3 rfl with h | h
      · exact h
      · exact absurd h1 (h d (List.mem_cons_self ..)), h4⟩, h5.kept fun D' o a b c => (hk D' o a b c).imp_right fun h d' hd' => h d' (List.mem_cons_of_mem _ hd')⟩
theorem leaves_marks {F : Fence} {n : Nat} {fn : Func} {tmps : Array Value} {R : Ending → World → Prop} {w : World} {B b : Nat} {z : Str} (hB : B ≤ w.heap.size) (hres : ∀ W, (results fn tmps).run Tryz.prog W = .ok (.tuple #[]) W)
    (hR : ∀ W, At w B b W z → R (.returned (.tuple #[])) W) : ∀ (ds : List Deferred) (W : World), At w B b W z → Marks w.heap.size W ds → LeavesInM F n Tryz.prog fn tmps R ds .returning W
  | [], W, ha, _ => ⟨.tuple #[], hres W, hR W ha⟩
  | d :: ds, W, ha, ⟨⟨D, h1, h2, h3, h4⟩, h5⟩ => ⟨by simp, .inl ⟨D, _, h1, run_takeDeferred h3, leaves_marks hB hres hR ds _ (ha.grown (grownBy_putObj' W D _) (fun r e => by cases e; exact ⟨h2, _, h3, rfl⟩) hB) (h5.kept fun D' o a hb c => by
      by_cases e : D' = D
      · subst e; exact .inr h4
      · exact .inl ((World.putObj_heap_other e).trans hb))⟩⟩
end Go.Proofs.YtemacdimdpnkeaaGreatDoor
