/- The document's disk: put onto nothing; Write. -/
import Derived.Test.YtmapjikbplindaaRefG
namespace Go.Proofs.Ytmapjikbplindaa
open Go.RowKit Go.Maps
set_option maxRecDepth 20000

set_option maxHeartbeats 3200000 in
theorem rput_nil (X : List Nat) (done : Bool) (s : DS) (n : Nat) (b : List Int) (w : World) (h : Rf w X (.agg (rcells s (.slice none 0 0) done)) s) (hX : ∀ x ∈ X, x < w.heap.size) (hn : n < s.room) (hb : IsB b) :
    Calls Try.prog 46 #[.agg (rcells s (.slice none 0 0) done), .agg #[.int .i64 n, .string (strOfNums b), .string (strOfNums (s.S n)), .bool true]] w fun e w' => ∃ lv', e = .returned (.agg (rcells s lv' done)) ∧ Rf w' X (.agg (rcells s lv' done)) (putS s n b) ∧ Below w.heap.size w w' := by
  obtain ⟨ok, lv0, done0, ns, e0, h1, h2, h3, h4, h5, h6⟩ := h
  obtain ⟨rfl, rfl⟩ : (.slice none 0 0) = lv0 ∧ done = done0 := by simpa using e0
  clear e0
  obtain rfl : ns = [] := by
    obtain ⟨a, cap, e, _⟩ := h5.view
    have e2 : (ns.map (entOf s)).length = 0 := by simp at e; simpa using e.2.1.symm
    rw [List.length_map] at e2
    exact List.eq_nil_of_length_eq_zero e2
  obtain ⟨E0, hE0⟩ : ∃ E0 : Ent, E0 = ⟨n, b, s.S n, true⟩ := ⟨_, rfl⟩
  have HF : Hid (∀ w' lv', Blks w' w.heap.size lv' [E0] → Rf w' X (.agg (rcells s lv' done)) (putS s n b)) := by
    intro w' lv' hbk
    have hps := put_ents (ns := []) (n := n) (k := 0) (s := s) (b := b) List.Pairwise.nil (Nat.zero_le _) (fun j hj => by omega) (fun h => by simp at h)
    obtain ⟨f1, f2, f3⟩ := ins_facts (ns := []) (n := n) (k := 0) (room := s.room) List.Pairwise.nil (fun m hm => by cases hm) hn (Nat.zero_le _) (fun j hj => by omega) (fun h => by simp at h)
    have hbk2 : Blks w' w.heap.size lv' ((ins n 0 []).map (entOf (putS s n b))) := by
      rw [hps]
      rw [hE0] at hbk
      simpa using hbk
    refine ⟨putS_ok ok hb, lv', done, ins n 0 [], rfl, h1, f1, f2, ?_, hbk2.mono (Nat.zero_le _), ?_⟩
    · intro m hm hnm
      obtain ⟨q1, q2⟩ := f3 m hnm
      obtain ⟨r1, r2, r3⟩ := h4 m hm q1
      unfold putS
      simp only
      rw [upd_other _ _ q2, upd_other _ _ q2]
      exact ⟨r1, r2, r3⟩
    · intro g' hg' hm
      have := (World.ownsRow.lt hbk g' hg').1
      have := hX g' hm
      omega
  clear h1 h2 h3 h4 h5 h6 ok
  generalize hsn : strOfNums (s.S n) = sS at *
  generalize hsb : strOfNums b = sB at *
  have HE : Hid (E0.cells.toArray = #[.int .i64 (n : Int), .string sB, .string sS, .bool true]) := by
    have : E0.cells.toArray = #[.int .i64 (n : Int), .string sB, .string sS, .bool true] := by rw [hE0, ← hsn, ← hsb]; rfl
    exact this
  clear hsn hsb hb hE0
  obtain ⟨W, hW⟩ : ∃ W, W = ((w.alloc (.cells (rcells s (.slice none 0 0) done) 28)).alloc (.cells #[.int .i64 n, .string sB, .string sS, .bool true] 85)).alloc (.cells #[.int .i64 0, .slice none 0 0, .bool false, .int .i64 0, .int .i64 0, .int .i64 0, .bool false] 28) := ⟨_, rfl⟩
  have hBW : Below w.heap.size w W := by
    rw [hW]
    exact (((Below.refl _ _).alloc (Nat.le_refl _) _).alloc (by simp) _).alloc (by simp <;> omega) _
  have hWs : W.heap.size = w.heap.size + 3 := by rw [hW]; simp
  have cW : Hid (∀ (W' : World), Below (w.heap.size + 3) W W' → W'.heap[w.heap.size]? = some (.cells (rcells s (.slice none 0 0) done) 28 (0, 0)) ∧ W'.heap[w.heap.size + 1]? = some (.cells #[.int .i64 n, .string sB, .string sS, .bool true] 85 (0, 0)) ∧ W'.heap[w.heap.size + 2]? = some (.cells #[.int .i64 0, .slice none 0 0, .bool false, .int .i64 0, .int .i64 0, .int .i64 0, .bool false] 28 (0, 0))) := by
    intro W' hb
    rw [hb.block w.heap.size (by omega), hb.block (w.heap.size + 1) (by omega), hb.block (w.heap.size + 2) (by omega), hW]
    refine ⟨?_, ?_, ?_⟩
    · rw [heap_alloc_old _ _ _ (by simp <;> omega), heap_alloc_old _ _ _ (by simp <;> omega)]
      exact heap_alloc_new _ _
    · rw [heap_alloc_old _ _ _ (by simp <;> omega)]
      have := heap_alloc_new (w.alloc (.cells (rcells s (.slice none 0 0) done) 28)) (.cells #[.int .i64 n, .string sB, .string sS, .bool true] 85 (0, 0))
      simpa using this
    · have := heap_alloc_new ((w.alloc (.cells (rcells s (.slice none 0 0) done) 28)).alloc (.cells #[.int .i64 n, .string sB, .string sS, .bool true] 85 (0, 0))) (.cells #[.int .i64 0, .slice none 0 0, .bool false, .int .i64 0, .int .i64 0, .int .i64 0, .bool false] 28 (0, 0))
      simpa using this
  obtain ⟨b0, b1, b2⟩ := cW.out W (Below.refl _ _)
  obtain ⟨r0, r1, r2, r3, r4, r5, r6, _, _, _, _, _, _, _⟩ := RC.of b0
  have x0 := cell_of_row W (w.heap.size + 1) 0 _ 85 (0, 0) b1
  have x1 := cell_of_row W (w.heap.size + 1) 1 _ 85 (0, 0) b1
  have x2 := cell_of_row W (w.heap.size + 1) 2 _ 85 (0, 0) b1
  have x3 := cell_of_row W (w.heap.size + 1) 3 _ 85 (0, 0) b1
  simp only [List.getElem?_toArray, List.getElem?_cons_succ, List.getElem?_cons_zero] at x0 x1 x2 x3
  clear b0 b1 b2
  go_enter Try.func46, Try.ntmps46
  go_wp2_with fail
  unfold rcells at hW
  rw [← hW]
  go_loopw [5, 6] (fun lv iv wr => lv = .slice none 0 0 ∧ iv = .int .i64 0 ∧ wr = W) (fun _ _ _ => 0)
  case atStart => exact ⟨rfl, rfl, rfl⟩
  case round =>
    obtain ⟨rfl, rfl, rfl⟩ := hrel
    have hws : w.heap.size + 3 ≤ wr.heap.size := by omega
    clear hW hWs
    go_wp2_with fail
    go_quiet (fail)
    go_wp2_with (first
      | (at_builtin; refine wp_app1 rfl _ _ rfl (w.heap.size + 3) _ [] E0 rfl (Blks.nil _ _) _ rfl (by rw [HE.out]; exact heap_alloc_last _ _) (by simp) (by simp <;> omega) ?_; intro lv2 w2 hB2 hb2; have HB2 : Hid (Blks w2 (w.heap.size + 3) lv2 [E0]) := hB2; have HW2 : Hid (Below (w.heap.size + 3) wr w2) := ((below_drewN (Below.refl _ _) _).alloc (by simpa using hws) _).trans hb2; clear hB2 hb2)
      | fail)
    have HBR2 : Hid (Below w.heap.size w w2) := hBW.trans (HW2.out.mono (by omega))
    obtain ⟨b0, b1, b2⟩ := cW.out w2 HW2.out
    obtain ⟨s0, s1, s2, s3, s4, s5, s6, t0, t1, t2, t3, t4, t5, t6⟩ := RC.of b0
    obtain ⟨d0, d1, d2, d3, d4, d5, d6, g0, g1, g2, g3, g4, g5, g6⟩ := RC.of b2
    have y0 := cell_of_row w2 (w.heap.size + 1) 0 _ 85 (0, 0) b1
    simp only [List.getElem?_toArray, List.getElem?_cons_zero] at y0
    obtain ⟨a3, cap3, e3, _⟩ := HB2.out.view
    subst e3
    clear b0 b1 b2 r0 r1 r2 r3 r4 r5 r6 x0 x1 x2 x3
    go_quiet (fail)
    go_wp2_with (first
      | (refine wp_appE0 rfl _ _ rfl (w.heap.size + 3) _ [E0] rfl (HB2.out.off (Off.of_below (X := []) (below_drewN (Below.refl _ _) _)) (by simp)) rfl ?_)
      | fail)
    refine bodyPost_ret (v := .agg (rcells s (.slice a3 1 cap3) done)) (by simp [results, Try.results46, go_sem, d0, d1, d2, d3, d4, d5, d6]) rfl ⟨_, rfl, HF.out _ _ ((HB2.out.off (X := [w.heap.size, w.heap.size + 2]) ?_ ?_).mono (by omega)), ?_⟩
    · iterate 8 (refine Off.setCell ?_ (by simp) _)
      exact (Off.of_below (below_drewN (Below.refl _ _) _))
    · intro g hg hm
      have := (World.ownsRow.lt HB2.out g hg).1
      simp at hm
      omega
    · iterate 8 (refine Below.setCell ?_ (by simp <;> omega) _)
      exact below_drewN HBR2.out _
theorem rput_any (X : List Nat) (lv : Value) (done : Bool) (s : DS) (n : Nat) (b : List Int) (w : World) (h : Rf w X (.agg (rcells s lv done)) s) (hX : ∀ x ∈ X, x < w.heap.size) (hn : n < s.room) (hb : IsB b) :
    Calls Try.prog 46 #[.agg (rcells s lv done), .agg #[.int .i64 n, .string (strOfNums b), .string (strOfNums (s.S n)), .bool true]] w fun e w' => ∃ lv', e = .returned (.agg (rcells s lv' done)) ∧ Rf w' X (.agg (rcells s lv' done)) (putS s n b) ∧ Below w.heap.size w w' := by
  have h0 := h
  obtain ⟨ok, lv0, done0, ns, e0, h1, h2, h3, h4, h5, h6⟩ := h
  obtain ⟨rfl, rfl⟩ : lv = lv0 ∧ done = done0 := by simpa using e0
  rcases h5.2 with ⟨rfl, _⟩ | ⟨g, cap, cur, rfl, _⟩
  · exact rput_nil X done s n b w h0 hX hn hb
  · exact rput_some X g _ cap done s n b w h0 hX hn hb
end Go.Proofs.Ytmapjikbplindaa
