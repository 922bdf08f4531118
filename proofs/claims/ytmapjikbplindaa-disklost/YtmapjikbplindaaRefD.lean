/- The document's disk: a step with what it leaves; Sync, Read. -/
import Derived.Test.YtmapjikbplindaaRefC
namespace Go.Proofs.Ytmapjikbplindaa
open Go.RowKit Go.Maps
set_option maxRecDepth 20000

/-- The document's disk t as a value whose cells are told. -/
def RfV (w : World) (X : List Nat) (t : DS) (R : Int) (a : Option Addr) (n c : Nat) (d : Bool) (o r f : Int) (dn : Bool) : Prop := Rf w X (.agg #[.int .i64 R, .slice a n c, .bool d, .int .i64 o, .int .i64 r, .int .i64 f, .bool dn]) t
theorem Does.fields {F : DS → DS} (hF : Does F) (s : DS) : (F s).room = s.room ∧ (F s).down = s.down ∧ (F s).fails = s.fails ∧ (F s).done = s.done ∧ (F s).ops = s.ops ∧ (F s).reads = s.reads := by
  have h := hF.rest s
  refine ⟨?_, ?_, ?_, ?_, ?_, ?_⟩ <;> (rw [h])
theorem rstep_c {F : DS → DS} (hF : Does F) (X : List Nat) (a a2 : Option Addr) (m cap m2 cap2 : Nat) (done : Bool) (s : DS) (w : World) (hr : Rf w X (.agg (rcells s (.slice a m cap) done)) s) (hr2 : Rf w X (.agg (rcells s (.slice a2 m2 cap2) done)) (F s)) :
    Calls Try.prog 43 #[.agg (rcells s (.slice a m cap) done), .agg (rcells s (.slice a2 m2 cap2) done)] w fun e w' => ∃ R a3 n3 c3 d3 o3 r3 f3 dn3, e = .returned (.tuple #[.agg #[.int .i64 R, .slice a3 n3 c3, .bool d3, .int .i64 o3, .int .i64 r3, .int .i64 f3, .bool dn3], .int .i64 (stepE s)]) ∧ RfV w' X (stepS s (F s)) R a3 n3 c3 d3 o3 r3 f3 dn3 ∧ Below w.heap.size w w' := by
  have okS := stepS_ok hr.1 hr2.1 (hF.fields s).1
  refine (rstep_any s.room s.room a a2 m cap m2 cap2 s.down s.down done done s.ops s.ops s.reads s.reads s.fails s.fails w hr.1.lo hr.1.hi).mono ?_
  rintro e w' ⟨rfl, hb⟩
  obtain ⟨ok, lv0, done0, ns, e0, h1, h2, h3, h4, h5, h6⟩ := hr.below hb
  obtain ⟨rfl, rfl⟩ : Value.slice a m cap = lv0 ∧ done = done0 := by simpa using e0
  obtain ⟨ok2, lv2, done2, ns2, e2, k1, k2, k3, k4, k5, k6⟩ := hr2.below hb
  have e2' : Value.slice a2 m2 cap2 = lv2 ∧ done = done2 := by
    simp only [Value.agg.injEq, rcells] at e2
    simp at e2
    exact ⟨e2.2.1, e2.2.2.2.2.2.2⟩
  obtain ⟨rfl, rfl⟩ := e2'
  obtain ⟨q1, q2, q3, q4, q5, q6⟩ := hF.fields s
  unfold stepE
  unfold stepS at okS ⊢
  by_cases h0 : s.fails = 0
  · have hdn := h1 (by omega)
    rw [if_pos h0] at okS
    rw [if_pos h0, if_pos h0, if_pos h0]
    cases hd : s.done
    · rw [hd] at hdn okS
      subst hdn
      simp only [Bool.false_eq_true, if_false] at okS ⊢
      exact ⟨_, _, _, _, _, _, _, _, _, rfl, ⟨okS, _, _, ns, rfl, fun h => absurd h (by show ¬ (0 : Int) ≤ -1; decide), h2, h3, h4, h5, h6⟩, hb⟩
    · rw [hd] at hdn okS
      subst hdn
      simp only [if_true] at okS ⊢
      exact ⟨_, _, _, _, _, _, _, _, _, rfl, ⟨okS, _, _, ns2, rfl, fun h => absurd h (by show ¬ (0 : Int) ≤ -1; decide), k2, fun n hn => q1 ▸ k3 n hn, fun n hn hm => k4 n (by rw [q1]; exact hn) hm, k5, k6⟩, hb⟩
  · rw [if_neg h0] at okS
    rw [if_neg h0, if_neg h0, if_neg h0]
    refine ⟨_, _, _, _, _, _, _, _, _, rfl, ⟨okS, _, _, ns2, rfl, ?_, k2, fun n hn => q1 ▸ k3 n hn, fun n hn hm => k4 n (by rw [q1]; exact hn) hm, k5, k6⟩, hb⟩
    intro hf
    refine h1 ?_
    by_cases hp : 0 < s.fails
    · omega
    · have : (0 : Int) ≤ (if 0 < s.fails then s.fails - 1 else s.fails) := hf
      rw [if_neg hp] at this
      exact this
theorem Rf.lv {w : World} {X : List Nat} {lv : Value} {done : Bool} {s t : DS} (h : Rf w X (.agg (rcells s lv done)) t) : ∃ a n c, lv = .slice a n c := by
  obtain ⟨a, n, c, dn, e⟩ := h.open
  simp only [Value.agg.injEq, rcells] at e
  simp at e
  exact ⟨a, n, c, e.2.1⟩
theorem Rf.box {w w' : World} {X : List Nat} {v : Value} {s : DS} {b : Nat} (h : Rf w X v s) (hb : ∃ cs, w.heap[b]? = some (.cells cs 28 (0, 0))) (ho : Off [b] w w') : Rf w' X v s := by
  obtain ⟨ok, lv, done, ns, e, h1, h2, h3, h4, h5, h6⟩ := h
  refine ⟨ok, lv, done, ns, e, h1, h2, h3, h4, h5.off ho ?_, h6⟩
  intro g hg hm
  obtain ⟨cs, hb⟩ := hb
  simp at hm
  subst hm
  rcases h5.2 with ⟨rfl, _⟩ | ⟨g', cap, cur, rfl, _, hg', _⟩
  · cases hg
  · cases hg
    rw [hb] at hg'
    simp at hg'
set_option maxHeartbeats 1600000 in
theorem rsync_any (X : List Nat) (v : Value) (s : DS) (w : World) (h : Rf w X v s) (hX : ∀ x ∈ X, x < w.heap.size) :
    Calls Try.prog 25 #[v] w fun e w' => ∃ v', e = .returned (.tuple #[v', .int .i64 (syncE s)]) ∧ Rf w' X v' (syncS s) ∧ Below w.heap.size w w' := by
  obtain ⟨a, m, cap, done, rfl⟩ := h.open
  have HR : Hid (∀ w', Below w.heap.size w w' → Rf w' X (.agg (rcells s (.slice a m cap) done)) s) := fun w' hb => h.below hb
  have HS : Hid (∀ w', Below w.heap.size w w' → Calls Try.prog 44 #[.agg (rcells s (.slice a m cap) done)] w' fun e w2 => ∃ lv', e = .returned (.agg (rcells s lv' done)) ∧ Rf w2 X (.agg (rcells s lv' done)) (safeS s) ∧ Below w'.heap.size w' w2) := fun w' hb => rsafe_any X _ done s w' (h.below hb) (fun x hx => Nat.lt_of_lt_of_le (hX x hx) hb.size)
  clear h
  unfold syncE syncS
  cases hd : s.down
  · have HT : Hid (∀ (w' : World) (a2 : Option Addr) (m2 cap2 : Nat), Below w.heap.size w w' → Rf w' X (.agg (rcells s (.slice a2 m2 cap2) done)) (safeS s) → Calls Try.prog 43 #[.agg (rcells s (.slice a m cap) done), .agg (rcells s (.slice a2 m2 cap2) done)] w' fun e w2 => ∃ R a3 n3 c3 d3 o3 r3 f3 dn3, e = .returned (.tuple #[.agg #[.int .i64 R, .slice a3 n3 c3, .bool d3, .int .i64 o3, .int .i64 r3, .int .i64 f3, .bool dn3], .int .i64 (stepE s)]) ∧ RfV w2 X (stepS s (safeS s)) R a3 n3 c3 d3 o3 r3 f3 dn3 ∧ Below w'.heap.size w' w2) :=
      fun w' a2 m2 cap2 hb hr2 => rstep_c does_safe X a a2 m cap m2 cap2 done s w' (HR.out w' hb) hr2
    unfold rcells at HS HT
    rw [hd] at HS HT
    simp only [Bool.false_eq_true, if_false]
    generalize stepS s (safeS s) = sx at *
    generalize stepE s = ex at *
    clear HR
    go_enter Try.func25, Try.ntmps25
    go_wp2_with fail
    go_region_with (first
      | (go_at_call 44; refine (HS.out _ (by first | exact (two_new _ _ _) | exact (two_new _ _ _).drew)).mono ?_; rintro e w1 ⟨lv', rfl, hr1, hb1⟩; obtain ⟨a2, m2, cap2, e2⟩ : ∃ a2 m2 cap2, lv' = .slice a2 m2 cap2 := (by obtain ⟨a', n', c', dn', e'⟩ := hr1.open; simp at e'; exact ⟨a', n', c', e'.2.1⟩); subst e2; have qg := (hb1.block w.heap.size (by simp <;> omega)).trans (show _ = some (Obj.cells #[.int .i64 s.room, .slice a m cap, .bool s.down, .int .i64 s.ops, .int .i64 s.reads, .int .i64 s.fails, .bool done] 28 (0, 0)) from heap_alloc2_old _ _ _); obtain ⟨x0, x1, x2, x3, x4, x5, x6, y0, y1, y2, y3, y4, y5, y6⟩ := RC.of qg; clear qg HS)
      | (go_at_call 43; refine (HT.out _ a2 m2 cap2 ((two_new _ _ _).drew.trans (hb1.mono (by simp <;> omega))) hr1).mono ?_; rintro e w2 ⟨R, a3, n3, c3, d3, o3, r3, f3, dn3, rfl, hr2, hb2⟩; have hbb := hb1.trans (hb2.mono hb1.size); have qh := (hbb.block (w.heap.size + 1) (by simp)).trans (show _ = some (Obj.cells #[.int .i64 0, .slice none 0 0, .bool false, .int .i64 0, .int .i64 0, .int .i64 0, .bool false] 28 (0, 0)) from heap_alloc2_new _ _ _); obtain ⟨d0, d1, d2, d3', d4, d5, d6, g0, g1, g2, g3, g4, g5, g6⟩ := RC.of qh; have HQQ : Hid (∃ cs, w2.heap[w.heap.size + 1]? = some (.cells cs 28 (0, 0))) := ⟨_, qh⟩; have HBB : Hid (Below w.heap.size w w2) := (two_new _ _ _).drew.trans (hbb.mono (by simp <;> omega)); clear qh HT))
    all_goals (
      go_wp2
      refine bodyPost_ret (v := .tuple #[.agg #[.int .i64 R, .slice a3 n3 c3, .bool d3, .int .i64 o3, .int .i64 r3, .int .i64 f3, .bool dn3], .int .i64 ex]) (by simp [results, Try.results25, go_sem, d0, d1, d2, d3', d4, d5, d6]) rfl ⟨_, rfl, Rf.box (X := X) hr2 HQQ.out ?_, ?_⟩
      · iterate 7 (refine Off.setCell ?_ (by simp) _)
        exact Off.refl _ _
      · iterate 7 (refine Below.setCell ?_ (by simp) _)
        exact HBB.out)
  · unfold rcells at HR
    rw [hd] at HR
    simp only [if_true]
    go_enter Try.func25, Try.ntmps25
    go_wp2
    refine bodyPost_ret (v := .tuple #[.agg #[.int .i64 s.room, .slice a m cap, .bool true, .int .i64 s.ops, .int .i64 s.reads, .int .i64 s.fails, .bool done], .int .i64 11]) (by simp [results, Try.results25, go_sem]) rfl ⟨_, rfl, and_of (HR.out _) ?_⟩
    repeat (first | exact Below.refl _ _ | refine Below.setCell ?_ (by simp <;> omega) _ | refine Below.alloc ?_ (by simp <;> omega) _)
end Go.Proofs.Ytmapjikbplindaa
