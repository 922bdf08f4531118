/- The document's disk: New, Fail. -/
import Derived.Test.YtmapjikbplindaaRefB
import Derived.Test.YtmapjikbplindaaNewA
namespace Go.Proofs.Ytmapjikbplindaa
open Go.RowKit Go.Maps
set_option maxRecDepth 20000

theorem and_of {A B : Prop} (h : B → A) (hb : B) : A ∧ B := ⟨h hb, hb⟩
theorem two_new (w : World) (o p : Obj) : Below w.heap.size w ((w.alloc o).alloc p) := ((Below.refl _ _).alloc (Nat.le_refl _) _).alloc (by simp) _
theorem rnew_rf (b : Int) (w : World) (X : List Nat) : Rf w X (.agg (rcells (newS b) (.slice none 0 0) false)) (newS b) :=
  ⟨newS_ok b, .slice none 0 0, false, [], rfl, fun h => absurd h (by show ¬ (0 : Int) ≤ -1; decide), List.Pairwise.nil, by simp, fun _ _ _ => ⟨rfl, rfl, rfl⟩, Blks.nil _ _, by intro g hg; cases hg⟩
set_option maxHeartbeats 400000 in
theorem rnew_any (b : Int) (X : List Nat) (w : World) : Calls Try.prog 10 #[.int .i64 b] w fun e w' => ∃ v, e = .returned v ∧ Rf w' X v (newS b) ∧ Below w.heap.size w w' := by
  obtain ⟨c, hc, hle, hcase⟩ := min_max b
  have HR : Hid (∀ w', Rf w' X (.agg #[.int .i64 c, .slice none 0 0, .bool false, .int .i64 0, .int .i64 0, .int .i64 (-1), .bool false]) (newS b)) := by
    intro w'
    have := rnew_rf b w' X
    unfold rcells at this
    rw [hc] at this
    exact this
  have hmn : max 0 (min b 4096) = (c : Int) := by omega
  clear hcase hc
  go_enter Try.func10, Try.ntmps10
  go_wp2
  refine bodyPost_ret (v := .agg #[.int .i64 c, .slice none 0 0, .bool false, .int .i64 0, .int .i64 0, .int .i64 (-1), .bool false]) (by simp [results, Try.results10, go_sem]) rfl ⟨_, rfl, HR.out _, ?_⟩
  repeat (first | exact Below.refl _ _ | refine Below.setCell ?_ (by simp <;> omega) _ | refine Below.alloc ?_ (by simp <;> omega) _)
theorem Rf.open {w : World} {X : List Nat} {v : Value} {s : DS} (h : Rf w X v s) : ∃ a n cap done, v = .agg (rcells s (.slice a n cap) done) := by
  obtain ⟨ok, lv, done, ns, rfl, h1, h2, h3, h4, h5, h6⟩ := h
  obtain ⟨a, cap, rfl, _⟩ := h5.view
  exact ⟨a, _, cap, done, rfl⟩
theorem Rf.failing {w : World} {X : List Nat} {lv : Value} {done : Bool} {s : DS} (h : Rf w X (.agg (rcells s lv done)) s) (n : Int) (d : Bool) (hn0 : 0 ≤ n) (hn : n ≤ 9223372036854775807) :
    Rf w X (.agg #[.int .i64 s.room, lv, .bool s.down, .int .i64 s.ops, .int .i64 s.reads, .int .i64 n, .bool d]) { s with fails := n, done := d } := by
  obtain ⟨ok, lv0, done0, ns, e0, h1, h2, h3, h4, h5, h6⟩ := h
  obtain ⟨rfl, rfl⟩ : lv = lv0 ∧ done = done0 := by simpa using e0
  exact ⟨⟨ok.room, ok.isB, ok.isS, ok.same, by show -1 ≤ n; omega, hn⟩, lv, d, ns, rfl, fun _ => rfl, h2, h3, h4, h5, h6⟩
set_option maxHeartbeats 800000 in
theorem rfail_any (X : List Nat) (v : Value) (s : DS) (n : Int) (d : Bool) (w : World) (h : Rf w X v s) (hn : n ≤ 9223372036854775807) :
    Calls Try.prog 27 #[v, .int .i64 n, .bool d] w fun e w' => ∃ v', e = .returned (.tuple #[v', .int .i64 (failE s n)]) ∧ Rf w' X v' (failS s n d) ∧ Below w.heap.size w w' := by
  obtain ⟨a, m, cap, done, rfl⟩ := h.open
  have HR : Hid (∀ w', Below w.heap.size w w' → Rf w' X (.agg (rcells s (.slice a m cap) done)) s) := fun w' hb => h.below hb
  have HF : Hid (0 ≤ n → ∀ w', Below w.heap.size w w' → Rf w' X (.agg #[.int .i64 s.room, .slice a m cap, .bool s.down, .int .i64 s.ops, .int .i64 s.reads, .int .i64 n, .bool d]) { s with fails := n, done := d }) := fun h0 w' hb => (h.below hb).failing n d h0 hn
  clear h
  unfold failE failS
  unfold rcells at *
  cases hd : s.down
  · rw [hd] at HR HF
    simp only [Bool.false_eq_true, if_false, false_or]
    by_cases hn0 : n < 0
    · have hb : decide (n < 0) = true := by simpa using hn0
      rw [if_pos hn0, if_pos hn0]
      go_enter Try.func27, Try.ntmps27
      go_wp2
      refine bodyPost_ret (v := .tuple #[.agg #[.int .i64 s.room, .slice a m cap, .bool false, .int .i64 s.ops, .int .i64 s.reads, .int .i64 s.fails, .bool done], .int .i64 2]) (by simp [results, Try.results27, go_sem]) rfl ⟨_, rfl, and_of (HR.out _) ?_⟩
      repeat (first | exact Below.refl _ _ | refine Below.setCell ?_ (by simp <;> omega) _ | refine Below.alloc ?_ (by simp <;> omega) _)
    · have hb : decide (n < 0) = false := by simpa using hn0
      rw [if_neg hn0, if_neg hn0]
      go_enter Try.func27, Try.ntmps27
      go_wp2
      refine bodyPost_ret (v := .tuple #[.agg #[.int .i64 s.room, .slice a m cap, .bool false, .int .i64 s.ops, .int .i64 s.reads, .int .i64 n, .bool d], .int .i64 0]) (by simp [results, Try.results27, go_sem]) rfl ⟨_, rfl, and_of (HF.out (by omega) _) ?_⟩
      repeat (first | exact Below.refl _ _ | refine Below.setCell ?_ (by simp <;> omega) _ | refine Below.alloc ?_ (by simp <;> omega) _)
  · rw [hd] at HR HF
    simp only [if_true, true_or]
    go_enter Try.func27, Try.ntmps27
    go_wp2
    refine bodyPost_ret (v := .tuple #[.agg #[.int .i64 s.room, .slice a m cap, .bool true, .int .i64 s.ops, .int .i64 s.reads, .int .i64 s.fails, .bool done], .int .i64 11]) (by simp [results, Try.results27, go_sem]) rfl ⟨_, rfl, and_of (HR.out _) ?_⟩
    repeat (first | exact Below.refl _ _ | refine Below.setCell ?_ (by simp <;> omega) _ | refine Below.alloc ?_ (by simp <;> omega) _)
end Go.Proofs.Ytmapjikbplindaa
