/- The document's disk: Read. -/
import Derived.Test.YtmapjikbplindaaRefD
namespace Go.Proofs.Ytmapjikbplindaa
open Go.RowKit Go.Maps
set_option maxRecDepth 20000

theorem Rf.readed {w : World} {X : List Nat} {lv : Value} {done : Bool} {s : DS} (h : Rf w X (.agg (rcells s lv done)) s) : Rf w X (.agg (rcells { s with reads := inc s.reads } lv done)) { s with reads := inc s.reads } := by
  obtain ⟨ok, lv0, done0, ns, e0, h1, h2, h3, h4, h5, h6⟩ := h
  obtain ⟨rfl, rfl⟩ : lv = lv0 ∧ done = done0 := by simpa using e0
  exact ⟨⟨ok.room, ok.isB, ok.isS, ok.same, ok.lo, ok.hi⟩, lv, done, ns, rfl, h1, h2, h3, h4, h5, h6⟩
theorem run_fieldB (x : Int) (s1 s2 : ByteArray) (b : Bool) (W : World) : (Instr.field 85 (.agg #[.int .i64 x, .string s1, .string s2, .bool b]) 1).run Try.prog W = .ok (.string s1) W := by
  first | rfl | kernel_rfl | (simp [Instr.field, go_sem]; done)
set_option maxHeartbeats 1600000 in
theorem rread_any (X : List Nat) (v : Value) (s : DS) (n : Int) (w : World) (h : Rf w X v s) :
    Calls Try.prog 26 #[v, .int .i64 n] w fun e w' => ∃ v', e = .returned (.tuple #[v', .string (strOfNums (readB s n)), .int .i64 (reachE s n)]) ∧ Rf w' X v' (readS s n) ∧ Below w.heap.size w w' := by
  obtain ⟨a, m, cap, done, rfl⟩ := h.open
  have HR : Hid (∀ w', Below w.heap.size w w' → Rf w' X (.agg (rcells s (.slice a m cap) done)) s) := fun w' hb => h.below hb
  have h0 : strOfNums [] = ByteArray.empty := rfl
  by_cases hE : reachE s n = 0
  · obtain ⟨e1, e2⟩ := readS_well hE
    obtain ⟨hdn, hn0, hnr⟩ := reach_ok hE
    rw [e1, e2, hE]
    obtain ⟨k, rfl⟩ : ∃ k : Nat, n = (k : Int) := ⟨n.toNat, by omega⟩
    simp only [Int.toNat_natCast] at hnr ⊢
    have hb1 : decide ((k : Int) < 0) = false := by simp
    have hb2 : decide ((s.room : Int) ≤ (k : Int)) = false := by simp; omega
    have HG : Hid (∀ w', Below w.heap.size w w' → Calls Try.prog 45 #[.agg (rcells { s with reads := inc s.reads } (.slice a m cap) done), .int .i64 k] w' fun e w2 => e = .returned (.agg #[.int .i64 k, .string (strOfNums (s.B k)), .string (strOfNums (s.S k)), .bool (s.L k)]) ∧ Below w'.heap.size w' w2) :=
      fun w' hb => rget_any X _ { s with reads := inc s.reads } k w' ((h.below hb).readed) hnr
    have HRR : Hid (∀ w', Below w.heap.size w w' → Rf w' X (.agg #[.int .i64 s.room, .slice a m cap, .bool false, .int .i64 s.ops, .int .i64 (wrap64 (s.reads + 1)), .int .i64 s.fails, .bool done]) { s with reads := wrap64 (s.reads + 1) }) := by
      intro w' hb
      rw [← hdn]
      exact (h.below hb).readed
    unfold rcells inc at HG
    unfold inc
    rw [hdn] at HG
    clear h HR e1 e2 hE hn0
    have hfB := run_fieldB
    go_enter Try.func26, Try.ntmps26
    go_wp2_with fail
    go_region_with (go_at_call 45; refine (HG.out _ (two_new _ _ _).drew).mono ?_; rintro e w1 ⟨rfl, hb1'⟩; have HBB : Hid (Below w.heap.size w w1) := (two_new _ _ _).drew.trans (hb1'.mono (by simp <;> omega)); have qg := (hb1'.block w.heap.size (by simp <;> omega)).trans (heap_alloc2_old _ _ _); have qh := (hb1'.block (w.heap.size + 1) (by simp <;> omega)).trans (heap_alloc2_new _ _ _); obtain ⟨x0, x1, x2, x3, x4, x5, x6, y0, y1, y2, y3, y4, y5, y6⟩ := RC.of qg; obtain ⟨d0, d1, d2, d3, d4, d5, d6, g0, g1, g2, g3, g4, g5, g6⟩ := RC.of qh; clear HG qg qh)
    all_goals (
      go_wp2
      refine bodyPost_ret (v := .tuple #[.agg #[.int .i64 s.room, .slice a m cap, .bool false, .int .i64 s.ops, .int .i64 (wrap64 (s.reads + 1)), .int .i64 s.fails, .bool done], .string (strOfNums (s.B k)), .int .i64 0]) (by simp [results, Try.results26, go_sem, d0, d1, d2, d3, d4, d5, d6]) rfl ⟨_, rfl, and_of (HRR.out _) ?_⟩
      iterate 7 (refine Below.setCell ?_ (by simp) _)
      exact HBB.out)
  · obtain ⟨e1, e2⟩ := readS_err hE
    rw [e1, e2]
    unfold reachE at hE ⊢
    unfold rcells at HR
    cases hd : s.down
    · rw [hd] at hE HR
      simp only [Bool.false_eq_true, if_false] at hE ⊢
      have hor : n < 0 ∨ (s.room : Int) ≤ n := by
        by_cases q : n < 0 ∨ (s.room : Int) ≤ n
        · exact q
        · rw [if_neg q] at hE; exact absurd rfl hE
      rw [if_pos hor]
      by_cases hn0 : n < 0
      · have hb1 : decide (n < 0) = true := by simpa using hn0
        clear hor hE
        go_enter Try.func26, Try.ntmps26
        go_wp2
        refine bodyPost_ret (v := .tuple #[.agg #[.int .i64 s.room, .slice a m cap, .bool false, .int .i64 s.ops, .int .i64 s.reads, .int .i64 s.fails, .bool done], .string ByteArray.empty, .int .i64 12]) (by simp [results, Try.results26, go_sem]; rfl) rfl ⟨_, rfl, and_of (HR.out _) ?_⟩
        repeat (first | exact Below.refl _ _ | refine Below.drew ?_ | refine Below.setCell ?_ (by simp <;> omega) _ | refine Below.alloc ?_ (by simp <;> omega) _)
      · have hb1 : decide (n < 0) = false := by simpa using hn0
        have h2 : (s.room : Int) ≤ n := by omega
        have hb2 : decide ((s.room : Int) ≤ n) = true := by simpa using h2
        clear hor hE
        go_enter Try.func26, Try.ntmps26
        go_wp2
        refine bodyPost_ret (v := .tuple #[.agg #[.int .i64 s.room, .slice a m cap, .bool false, .int .i64 s.ops, .int .i64 s.reads, .int .i64 s.fails, .bool done], .string ByteArray.empty, .int .i64 12]) (by simp [results, Try.results26, go_sem]; rfl) rfl ⟨_, rfl, and_of (HR.out _) ?_⟩
        repeat (first | exact Below.refl _ _ | refine Below.drew ?_ | refine Below.setCell ?_ (by simp <;> omega) _ | refine Below.alloc ?_ (by simp <;> omega) _)
    · rw [hd] at HR
      simp only [if_true]
      go_enter Try.func26, Try.ntmps26
      go_wp2
      refine bodyPost_ret (v := .tuple #[.agg #[.int .i64 s.room, .slice a m cap, .bool true, .int .i64 s.ops, .int .i64 s.reads, .int .i64 s.fails, .bool done], .string ByteArray.empty, .int .i64 11]) (by simp [results, Try.results26, go_sem]; rfl) rfl ⟨_, rfl, and_of (HR.out _) ?_⟩
      repeat (first | exact Below.refl _ _ | refine Below.drew ?_ | refine Below.setCell ?_ (by simp <;> omega) _ | refine Below.alloc ?_ (by simp <;> omega) _)
end Go.Proofs.Ytmapjikbplindaa
