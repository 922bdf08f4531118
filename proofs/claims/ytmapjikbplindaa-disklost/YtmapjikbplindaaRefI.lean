/- The document's disk: Write. -/
import Derived.Test.YtmapjikbplindaaRefH
namespace Go.Proofs.Ytmapjikbplindaa
open Go.RowKit Go.Maps
set_option maxRecDepth 20000
set_option linter.unusedSimpArgs false

theorem conv_bv {w : World} {a : Option Addr} {zs : List Int} {n cap : Nat} (h : BV w a zs) (hn : zs.length = n) : (convert 32 9 (.slice a n cap)).run Try.prog w = .ok (.string (strOfNums zs)) w := by
  subst hn
  rcases h.2 with rfl | ⟨b, off, rfl, _, hc⟩
  · cases a with
    | none => exact run_convert_bytes_nil (P := Try.prog) w 32 5 Try.underlying32 Try.underlying5 0 cap 9 Try.underlying9
    | some x =>
      show (convert 32 9 (.slice (some x) 0 cap)).run Try.prog w = _
      rw [run_convert_bytes_string w 32 9 5 _ 0 cap Try.underlying32 Try.underlying5 Try.underlying9, run_bytesToString w x 0 cap [] (by simp [loadCells, loadCellsFrom])]
      rfl
  · exact run_convert_bytes_arg (P := Try.prog) w 32 5 Try.underlying32 Try.underlying5 b off zs.length cap zs rfl hc 9 Try.underlying9
theorem run_fieldS (x : Int) (s1 s2 : ByteArray) (b : Bool) (W : World) : (Instr.field 85 (.agg #[.int .i64 x, .string s1, .string s2, .bool b]) 2).run Try.prog W = .ok (.string s2) W := by
  first | rfl | kernel_rfl | (simp [Instr.field, go_sem]; done)
set_option maxHeartbeats 1600000 in
theorem rwrite_well (X : List Nat) (v : Value) (s : DS) (n : Nat) (a : Option Addr) (c : Nat) (zs : List Int) (w : World) (h : Rf w X v s) (hX : ∀ x ∈ X, x < w.heap.size) (hb : BV w a zs) (hd : s.down = false) (hn : n < s.room) (hl : zs.length = 256) :
    Calls Try.prog 30 #[v, .int .i64 (n : Int), .slice a 256 c] w fun e w' => ∃ v', e = .returned (.tuple #[v', .int .i64 (stepE s)]) ∧ Rf w' X v' (stepS s (putS s n zs)) ∧ Below w.heap.size w w' := by
  have hroom := h.1.room
  obtain ⟨aL, m, cap, done, rfl⟩ := h.open
  have hisB : IsB zs := ⟨hl, hb.1⟩
  have HR : Hid (∀ w', Below w.heap.size w w' → Rf w' X (.agg (rcells s (.slice aL m cap) done)) s) := fun w' hb => h.below hb
  have HG : Hid (∀ w', Below w.heap.size w w' → Calls Try.prog 45 #[.agg (rcells s (.slice aL m cap) done), .int .i64 n] w' fun e w2 => e = .returned (.agg #[.int .i64 n, .string (strOfNums (s.B n)), .string (strOfNums (s.S n)), .bool (s.L n)]) ∧ Below w'.heap.size w' w2) := fun w' hb' => rget_any X _ s n w' (h.below hb') hn
  have HP : Hid (∀ w', Below w.heap.size w w' → Calls Try.prog 46 #[.agg (rcells s (.slice aL m cap) done), .agg #[.int .i64 n, .string (strOfNums zs), .string (strOfNums (s.S n)), .bool true]] w' fun e w2 => ∃ a2 m2 cap2, e = .returned (.agg (rcells s (.slice a2 m2 cap2) done)) ∧ Rf w2 X (.agg (rcells s (.slice a2 m2 cap2) done)) (putS s n zs) ∧ Below w'.heap.size w' w2 ∧ Below w.heap.size w w2) := fun w' hb' => by
    refine (rput_any X _ done s n zs w' (h.below hb') (fun x hx => Nat.lt_of_lt_of_le (hX x hx) hb'.size) hn hisB).mono ?_
    rintro e w2 ⟨lv', rfl, hr, hb2⟩
    obtain ⟨a2, m2, cap2, rfl⟩ := hr.lv
    exact ⟨a2, m2, cap2, rfl, hr, hb2, hb'.trans (hb2.mono hb'.size)⟩
  have HT : Hid (∀ (w' : World) (a2 : Option Addr) (m2 cap2 : Nat), Below w.heap.size w w' → Rf w' X (.agg (rcells s (.slice a2 m2 cap2) done)) (putS s n zs) → Calls Try.prog 43 #[.agg (rcells s (.slice aL m cap) done), .agg (rcells s (.slice a2 m2 cap2) done)] w' fun e w2 => ∃ R a3 n3 c3 d3 o3 r3 f3 dn3, e = .returned (.tuple #[.agg #[.int .i64 R, .slice a3 n3 c3, .bool d3, .int .i64 o3, .int .i64 r3, .int .i64 f3, .bool dn3], .int .i64 (stepE s)]) ∧ RfV w2 X (stepS s (putS s n zs)) R a3 n3 c3 d3 o3 r3 f3 dn3 ∧ Below w'.heap.size w' w2) :=
      fun w' a2 m2 cap2 hb hr2 => rstep_c (does_put n zs) X aL a2 m cap m2 cap2 done s w' (HR.out w' hb) hr2
  have HCV : Hid (∀ w', Below w.heap.size w w' → (convert 32 9 (.slice a 256 c)).run Try.prog w' = .ok (.string (strOfNums zs)) w') := fun w' hb' => conv_bv (hb.below hb') hl
  have hfS := run_fieldS
  have hb1 : decide ((n : Int) < 0) = false := by simp
  have hb2 : decide ((s.room : Int) ≤ (n : Int)) = false := by simp; omega
  unfold rcells at HG HP HT
  rw [hd] at HG HP HT
  generalize stepS s (putS s n zs) = sx at *
  generalize putS s n zs = px at *
  generalize stepE s = ex at *
  generalize strOfNums zs = st at *
  generalize strOfNums (s.B n) = sB at *
  generalize strOfNums (s.S n) = sS at *
  generalize s.L n = lL at *
  have HST : Hid (∀ w1 w2 : World, Below w.heap.size w w1 ∧ w1.heap[w.heap.size]? = some (.cells #[.int .i64 s.room, .slice aL m cap, .bool false, .int .i64 s.ops, .int .i64 s.reads, .int .i64 s.fails, .bool done] 28 (0, 0)) → Below w1.heap.size w1 w2 → Below w.heap.size w w2 ∧ w2.heap[w.heap.size]? = some (.cells #[.int .i64 s.room, .slice aL m cap, .bool false, .int .i64 s.ops, .int .i64 s.reads, .int .i64 s.fails, .bool done] 28 (0, 0))) := fun w1 w2 h1 h2 => ⟨h1.1.trans (h2.mono h1.1.size), (h2.block _ (Array.getElem?_eq_some_iff.1 h1.2).1).trans h1.2⟩
  have HSZ : Hid (∀ w1 w2 : World, w1.heap[w.heap.size + 1]? = some (.cells #[.int .i64 0, .slice none 0 0, .bool false, .int .i64 0, .int .i64 0, .int .i64 0, .bool false] 28 (0, 0)) → Below w1.heap.size w1 w2 → w2.heap[w.heap.size + 1]? = some (.cells #[.int .i64 0, .slice none 0 0, .bool false, .int .i64 0, .int .i64 0, .int .i64 0, .bool false] 28 (0, 0))) := fun w1 w2 h1 h2 => (h2.block _ (Array.getElem?_eq_some_iff.1 h1).1).trans h1
  obtain ⟨W, hW⟩ : ∃ W, W = (w.alloc (.cells #[.int .i64 s.room, .slice aL m cap, .bool false, .int .i64 s.ops, .int .i64 s.reads, .int .i64 s.fails, .bool done] 28)).alloc (.cells #[.int .i64 0, .slice none 0 0, .bool false, .int .i64 0, .int .i64 0, .int .i64 0, .bool false] 28) := ⟨_, rfl⟩
  have hBW : Below w.heap.size w W ∧ W.heap[w.heap.size]? = some (.cells #[.int .i64 s.room, .slice aL m cap, .bool false, .int .i64 s.ops, .int .i64 s.reads, .int .i64 s.fails, .bool done] 28 (0, 0)) := by rw [hW]; exact ⟨two_new _ _ _, heap_alloc2_old _ _ _⟩
  have hZW : W.heap[w.heap.size + 1]? = some (.cells #[.int .i64 0, .slice none 0 0, .bool false, .int .i64 0, .int .i64 0, .int .i64 0, .bool false] 28 (0, 0)) := by rw [hW]; exact heap_alloc2_new _ _ _
  have HBW : Hid (Below w.heap.size w W ∧ W.heap[w.heap.size]? = some (.cells #[.int .i64 s.room, .slice aL m cap, .bool false, .int .i64 s.ops, .int .i64 s.reads, .int .i64 s.fails, .bool done] 28 (0, 0))) := hBW
  have HZW : Hid (W.heap[w.heap.size + 1]? = some (.cells #[.int .i64 0, .slice none 0 0, .bool false, .int .i64 0, .int .i64 0, .int .i64 0, .bool false] 28 (0, 0))) := hZW
  clear HR h hb hisB hX hl hBW hZW
  rw [show rcells s (.slice aL m cap) done = #[.int .i64 s.room, .slice aL m cap, .bool false, .int .i64 s.ops, .int .i64 s.reads, .int .i64 s.fails, .bool done] by unfold rcells; rw [hd]]
  go_enter Try.func30, Try.ntmps30
  go_wp2_with fail
  rw [← hW]
  clear hW
  refine wp_region_noPanic ?_
  refine name_ops ?_
  intro O QQ HO HQ
  refine wp_region_held_drew (S := fun w' => Below w.heap.size w w' ∧ w'.heap[w.heap.size]? = some (.cells #[.int .i64 s.room, .slice aL m cap, .bool false, .int .i64 s.ops, .int .i64 s.reads, .int .i64 s.fails, .bool done] 28 (0, 0))) (by kernel_rfl) (HST.out _ _ HBW.out (Below.refl _ _).drew) (fun hS => ?_)
  rw [show O.size = 16 by rw [HO.out]; rfl]
  refine wpAnyH_take (i := 0) (v := .agg #[.int .i64 s.room, .slice aL m cap, .bool false, .int .i64 s.ops, .int .i64 s.reads, .int .i64 s.fails, .bool done]) (by rw [HO.out]; simp only [List.getElem?_toArray, List.getElem?_cons_succ, List.getElem?_cons_zero]; rfl) (by rw [HO.out]; kernel_rfl) (by rw [HO.out]; kernel_rfl) (by rw [HO.out]; kernel_rfl) (by rw [HQ.out]; exact fun _ _ _ h => h) (Or.inl ⟨by rfl, ?_⟩) (by assumption) ?_
  · intro w' hSw
    obtain ⟨q0, q1, q2, q3, q4, q5, q6, _⟩ := RC.of hSw.2
    go_simp
  try simp only [Act.put, List.setIfInBounds_toArray, List.set_cons_zero, List.set_cons_succ]
  refine wpAnyH_take (i := 1) (v := .agg #[.int .i64 s.room, .slice aL m cap, .bool false, .int .i64 s.ops, .int .i64 s.reads, .int .i64 s.fails, .bool done]) (by rw [HO.out]; simp only [List.getElem?_toArray, List.getElem?_cons_succ, List.getElem?_cons_zero]; rfl) (by rw [HO.out]; kernel_rfl) (by rw [HO.out]; kernel_rfl) (by rw [HO.out]; kernel_rfl) (by rw [HQ.out]; exact fun _ _ _ h => h) (Or.inl ⟨by rfl, ?_⟩) (by assumption) ?_
  · intro w' hSw
    obtain ⟨q0, q1, q2, q3, q4, q5, q6, _⟩ := RC.of hSw.2
    go_simp
  try simp only [Act.put, List.setIfInBounds_toArray, List.set_cons_zero, List.set_cons_succ]
  refine wpAnyH_take (i := 2) (v := .int .i64 n) (by rw [HO.out]; simp only [List.getElem?_toArray, List.getElem?_cons_succ, List.getElem?_cons_zero]; rfl) (by rw [HO.out]; kernel_rfl) (by rw [HO.out]; kernel_rfl) (by rw [HO.out]; kernel_rfl) (by rw [HQ.out]; exact fun _ _ _ h => h) (Or.inl ⟨by rfl, ?_⟩) (by assumption) ?_
  · intro w' hSw
    go_simp
  try simp only [Act.put, List.setIfInBounds_toArray, List.set_cons_zero, List.set_cons_succ]
  refine wpAnyH_take (i := 3) (v := .slice a 256 c) (by rw [HO.out]; simp only [List.getElem?_toArray, List.getElem?_cons_succ, List.getElem?_cons_zero]; rfl) (by rw [HO.out]; kernel_rfl) (by rw [HO.out]; kernel_rfl) (by rw [HO.out]; kernel_rfl) (by rw [HQ.out]; exact fun _ _ _ h => h) (Or.inl ⟨by rfl, ?_⟩) (by assumption) ?_
  · intro w' hSw
    go_simp
  try simp only [Act.put, List.setIfInBounds_toArray, List.set_cons_zero, List.set_cons_succ]
  refine wpAnyH_take (i := 4) (v := .string st) (by rw [HO.out]; simp only [List.getElem?_toArray, List.getElem?_cons_succ, List.getElem?_cons_zero]; rfl) (by rw [HO.out]; kernel_rfl) (by rw [HO.out]; kernel_rfl) (by rw [HO.out]; kernel_rfl) (by rw [HQ.out]; exact fun _ _ _ h => h) (Or.inl ⟨by rfl, ?_⟩) (by assumption) ?_
  · intro w' hSw
    have hcv := HCV.out w' hSw.1
    go_simp
  try simp only [Act.put, List.setIfInBounds_toArray, List.set_cons_zero, List.set_cons_succ]
  refine wpAnyH_take (i := 5) (v := .agg #[.int .i64 s.room, .slice aL m cap, .bool false, .int .i64 s.ops, .int .i64 s.reads, .int .i64 s.fails, .bool done]) (by rw [HO.out]; simp only [List.getElem?_toArray, List.getElem?_cons_succ, List.getElem?_cons_zero]; rfl) (by rw [HO.out]; kernel_rfl) (by rw [HO.out]; kernel_rfl) (by rw [HO.out]; kernel_rfl) (by rw [HQ.out]; exact fun _ _ _ h => h) (Or.inl ⟨by rfl, ?_⟩) (by assumption) ?_
  · intro w' hSw
    obtain ⟨q0, q1, q2, q3, q4, q5, q6, _⟩ := RC.of hSw.2
    go_simp
  try simp only [Act.put, List.setIfInBounds_toArray, List.set_cons_zero, List.set_cons_succ]
  refine wpAnyH_take (i := 6) (v := .int .i64 n) (by rw [HO.out]; simp only [List.getElem?_toArray, List.getElem?_cons_succ, List.getElem?_cons_zero]; rfl) (by rw [HO.out]; kernel_rfl) (by rw [HO.out]; kernel_rfl) (by rw [HO.out]; kernel_rfl) (by rw [HQ.out]; exact fun _ _ _ h => h) (Or.inl ⟨by rfl, ?_⟩) (by assumption) ?_
  · intro w' hSw
    go_simp
  try simp only [Act.put, List.setIfInBounds_toArray, List.set_cons_zero, List.set_cons_succ]
  refine wpAnyH_ready (rs := [7]) (by rw [HO.out]; kernel_rfl) (by simp) ?_
  refine AllReadyH.cons (o := _) (by rw [HO.out]; simp only [List.getElem?_toArray, List.getElem?_cons_succ, List.getElem?_cons_zero]; rfl) (fun K1 hK1 => ?_) AllReadyH.nil
  go_simp
  refine (HG.out _ hS.1).mono ?_
  rintro e w1 ⟨rfl, hb1⟩
  refine hK1.out _ _ (HST.out _ _ hS hb1) (fun hS1 => ?_)
  try simp only [Act.put, List.setIfInBounds_toArray, List.set_cons_zero, List.set_cons_succ]
  refine wpAnyH_take (i := 8) (v := .string sS) (by rw [HO.out]; simp only [List.getElem?_toArray, List.getElem?_cons_succ, List.getElem?_cons_zero]; rfl) (by rw [HO.out]; kernel_rfl) (by rw [HO.out]; kernel_rfl) (by rw [HO.out]; kernel_rfl) (by rw [HQ.out]; exact fun _ _ _ h => h) (Or.inl ⟨by rfl, ?_⟩) (by assumption) ?_
  · intro w' hSw
    go_simp
  try simp only [Act.put, List.setIfInBounds_toArray, List.set_cons_zero, List.set_cons_succ]
  refine wpAnyH_take (i := 9) (v := .agg #[.int .i64 n, .string st, .string sS, .bool true]) (by rw [HO.out]; simp only [List.getElem?_toArray, List.getElem?_cons_succ, List.getElem?_cons_zero]; rfl) (by rw [HO.out]; kernel_rfl) (by rw [HO.out]; kernel_rfl) (by rw [HO.out]; kernel_rfl) (by rw [HQ.out]; exact fun _ _ _ h => h) (Or.inl ⟨by rfl, ?_⟩) (by assumption) ?_
  · intro w' hSw
    go_simp
  try simp only [Act.put, List.setIfInBounds_toArray, List.set_cons_zero, List.set_cons_succ]
  refine wpAnyH_ready (rs := [10]) (by rw [HO.out]; kernel_rfl) (by simp) ?_
  refine AllReadyH.cons (o := _) (by rw [HO.out]; simp only [List.getElem?_toArray, List.getElem?_cons_succ, List.getElem?_cons_zero]; rfl) (fun K2 hK2 => ?_) AllReadyH.nil
  go_simp
  refine (HP.out _ hS1.1).mono ?_
  rintro e w2 ⟨a2, m2, cap2, rfl, hr2, hb2, _⟩
  refine hK2.out _ _ (HST.out _ _ hS1 hb2) (fun hS2 => ?_)
  try simp only [Act.put, List.setIfInBounds_toArray, List.set_cons_zero, List.set_cons_succ]
  refine wpAnyH_ready (rs := [11]) (by rw [HO.out]; kernel_rfl) (by simp) ?_
  refine AllReadyH.cons (o := _) (by rw [HO.out]; simp only [List.getElem?_toArray, List.getElem?_cons_succ, List.getElem?_cons_zero]; rfl) (fun K3 hK3 => ?_) AllReadyH.nil
  go_simp
  refine (HT.out _ a2 m2 cap2 hS2.1 hr2).mono ?_
  rintro e w3 ⟨R, a3, n3, c3, d3, o3, r3, f3, dn3, rfl, hr3, hb3⟩
  refine hK3.out _ _ (HST.out _ _ hS2 hb3) (fun hS3 => ?_)
  try simp only [Act.put, List.setIfInBounds_toArray, List.set_cons_zero, List.set_cons_succ]
  have hz3 := HSZ.out _ _ (HSZ.out _ _ (HSZ.out _ _ (HSZ.out _ _ HZW.out (Below.refl _ _).drew) hb1) hb2) hb3
  refine wpAnyH_take (i := 12) (v := .agg #[.int .i64 R, .slice a3 n3 c3, .bool d3, .int .i64 o3, .int .i64 r3, .int .i64 f3, .bool dn3]) (by rw [HO.out]; simp only [List.getElem?_toArray, List.getElem?_cons_succ, List.getElem?_cons_zero]; rfl) (by rw [HO.out]; kernel_rfl) (by rw [HO.out]; kernel_rfl) (by rw [HO.out]; kernel_rfl) (by rw [HQ.out]; exact fun _ _ _ h => h) (Or.inl ⟨by rfl, ?_⟩) (by assumption) ?_
  · intro w' hSw
    go_simp
  try simp only [Act.put, List.setIfInBounds_toArray, List.set_cons_zero, List.set_cons_succ]
  refine wpAnyH_take (i := 13) (v := .int .i64 ex) (by rw [HO.out]; simp only [List.getElem?_toArray, List.getElem?_cons_succ, List.getElem?_cons_zero]; rfl) (by rw [HO.out]; kernel_rfl) (by rw [HO.out]; kernel_rfl) (by rw [HO.out]; kernel_rfl) (by rw [HQ.out]; exact fun _ _ _ h => h) (Or.inl ⟨by rfl, ?_⟩) (by assumption) ?_
  · intro w' hSw
    go_simp
  try simp only [Act.put, List.setIfInBounds_toArray, List.set_cons_zero, List.set_cons_succ]
  obtain ⟨z0, z1, z2, z3, z4, z5, z6, y0, y1, y2, y3, y4, y5, y6⟩ := RC.of hz3
  refine wpAnyH_ready (rs := [14]) (by rw [HO.out]; kernel_rfl) (by simp) ?_
  refine AllReadyH.cons (o := _) (by rw [HO.out]; simp only [List.getElem?_toArray, List.getElem?_cons_succ, List.getElem?_cons_zero]; rfl) (fun K4 hK4 => ?_) AllReadyH.nil
  go_simp
  have HR3 : Hid (RfV w3 X sx R a3 n3 c3 d3 o3 r3 f3 dn3) := hr3
  have HZ3 : Hid (w3.heap[w.heap.size + 1]? = some (.cells #[.int .i64 0, .slice none 0 0, .bool false, .int .i64 0, .int .i64 0, .int .i64 0, .bool false] 28 (0, 0))) := hz3
  refine hK4.out _ _ ⟨?_, ?_⟩ (fun hS4 => ?_)
  · iterate 7 (refine Below.setCell ?_ (by simp) _)
    exact hS3.1
  · refine Eq.trans (Off.block (X := [w.heap.size + 1]) ?_ w.heap.size (Array.getElem?_eq_some_iff.1 hS3.2).1 (by simp)) hS3.2
    iterate 7 (refine Off.setCell ?_ (by simp) _)
    exact Off.refl _ _
  try simp only [Act.put, List.setIfInBounds_toArray, List.set_cons_zero, List.set_cons_succ]
  refine wpAnyH_take (i := 15) (v := .int .i64 ex) (by rw [HO.out]; simp only [List.getElem?_toArray, List.getElem?_cons_succ, List.getElem?_cons_zero]; rfl) (by rw [HO.out]; kernel_rfl) (by rw [HO.out]; kernel_rfl) (by rw [HO.out]; kernel_rfl) (by rw [HQ.out]; exact fun _ _ _ h => h) (Or.inl ⟨by rfl, ?_⟩) (by assumption) ?_
  · intro w' hSw
    go_simp
  try simp only [Act.put, List.setIfInBounds_toArray, List.set_cons_zero, List.set_cons_succ]
  refine wpAnyH_done (by rw [HO.out]; kernel_rfl) ?_ _
  rw [HQ.out]
  refine NoPanic.normal ?_
  have HS3 : Hid (Below w.heap.size w w3) := hS3.1
  clear hK1 hK2 hK3 hK4 hS hS1 hS2 hS3 hS4 hr2 hr3 hz3 hb1 hb2 hb3
  go_wp2
  refine bodyPost_ret (v := .tuple #[.agg #[.int .i64 R, .slice a3 n3 c3, .bool d3, .int .i64 o3, .int .i64 r3, .int .i64 f3, .bool dn3], .int .i64 ex]) (by simp [results, Try.results30, go_sem, z0, z1, z2, z3, z4, z5, z6]) rfl ⟨_, rfl, Rf.box (X := X) HR3.out ⟨_, HZ3.out⟩ ?_, ?_⟩
  · iterate 7 (refine Off.setCell ?_ (by simp) _)
    exact Off.refl _ _
  · iterate 7 (refine Below.setCell ?_ (by simp) _)
    exact HS3.out
set_option maxHeartbeats 1600000 in
theorem rwrite_any (X : List Nat) (v : Value) (s : DS) (n : Int) (a : Option Addr) (c len : Nat) (zs : List Int) (w : World) (h : Rf w X v s) (hX : ∀ x ∈ X, x < w.heap.size) (hb : BV w a zs) (hl : zs.length = len) :
    Calls Try.prog 30 #[v, .int .i64 n, .slice a len c] w fun e w' => ∃ v', e = .returned (.tuple #[v', .int .i64 (writeE s n zs)]) ∧ Rf w' X v' (writeS s n zs) ∧ Below w.heap.size w w' := by
  by_cases hE : reachE s n = 0
  · obtain ⟨hdn, hn0, hnr⟩ := reach_ok hE
    by_cases h256 : zs.length = 256
    · have e1 : writeE s n zs = stepE s := by unfold writeE; rw [if_neg (by simp [hE]), if_neg (by simp [h256])]
      have e2 : writeS s n zs = stepS s (putS s n.toNat zs) := by unfold writeS; rw [if_neg (by simp [hE, h256])]
      rw [e1, e2]
      obtain ⟨k, rfl⟩ : ∃ k : Nat, n = (k : Int) := ⟨n.toNat, by omega⟩
      obtain rfl : 256 = len := by omega
      rw [Int.toNat_natCast] at hnr ⊢
      exact rwrite_well X v s k a c zs w h hX hb hdn hnr h256
    · have e1 : writeE s n zs = 2 := by unfold writeE; rw [if_neg (by simp [hE]), if_pos h256]
      have e2 : writeS s n zs = s := by unfold writeS; rw [if_pos (Or.inr h256)]
      rw [e1, e2]
      obtain ⟨aL, m, cap, done, rfl⟩ := h.open
      have HR : Hid (∀ w', Below w.heap.size w w' → Rf w' X (.agg (rcells s (.slice aL m cap) done)) s) := fun w' hb => h.below hb
      obtain ⟨k, rfl⟩ : ∃ k : Nat, n = (k : Int) := ⟨n.toNat, by omega⟩
      have hb1 : decide ((k : Int) < 0) = false := by simp
      have hb2 : decide ((s.room : Int) ≤ (k : Int)) = false := by simp; omega
      have hb3 : ((len : Int) != 256) = true := by simp; omega
      unfold rcells at HR ⊢
      rw [hdn] at HR ⊢
      clear h hb hE e1 e2 hl h256
      go_enter Try.func30, Try.ntmps30
      go_wp2
      refine bodyPost_ret (v := .tuple #[.agg #[.int .i64 s.room, .slice aL m cap, .bool false, .int .i64 s.ops, .int .i64 s.reads, .int .i64 s.fails, .bool done], .int .i64 2]) (by simp [results, Try.results30, go_sem]) rfl ⟨_, rfl, and_of (HR.out _) ?_⟩
      repeat (first | exact Below.refl _ _ | refine Below.setCell ?_ (by simp <;> omega) _ | refine Below.alloc ?_ (by simp <;> omega) _)
  · obtain ⟨e1, e2⟩ := writeS_err (zs := zs) hE
    rw [e1, e2]
    obtain ⟨aL, m, cap, done, rfl⟩ := h.open
    have HR : Hid (∀ w', Below w.heap.size w w' → Rf w' X (.agg (rcells s (.slice aL m cap) done)) s) := fun w' hb => h.below hb
    clear e1 e2 h hb hl
    unfold reachE at hE ⊢
    unfold rcells at HR ⊢
    cases hd : s.down
    · rw [hd] at hE HR
      simp only [Bool.false_eq_true, if_false] at hE ⊢
      have hor : n < 0 ∨ (s.room : Int) ≤ n := by
        by_cases q : n < 0 ∨ (s.room : Int) ≤ n
        · exact q
        · rw [if_neg q] at hE; exact absurd rfl hE
      rw [if_pos hor]
      by_cases hn0 : n < 0
      · have hb1 : decide (n < 0) = true := by simpa using hn0
        clear hor hE
        go_enter Try.func30, Try.ntmps30
        go_wp2
        refine bodyPost_ret (v := .tuple #[.agg #[.int .i64 s.room, .slice aL m cap, .bool false, .int .i64 s.ops, .int .i64 s.reads, .int .i64 s.fails, .bool done], .int .i64 12]) (by simp [results, Try.results30, go_sem]) rfl ⟨_, rfl, and_of (HR.out _) ?_⟩
        repeat (first | exact Below.refl _ _ | refine Below.setCell ?_ (by simp <;> omega) _ | refine Below.alloc ?_ (by simp <;> omega) _)
      · have hb1 : decide (n < 0) = false := by simpa using hn0
        have h2 : (s.room : Int) ≤ n := by omega
        have hb2 : decide ((s.room : Int) ≤ n) = true := by simpa using h2
        clear hor hE
        go_enter Try.func30, Try.ntmps30
        go_wp2
        refine bodyPost_ret (v := .tuple #[.agg #[.int .i64 s.room, .slice aL m cap, .bool false, .int .i64 s.ops, .int .i64 s.reads, .int .i64 s.fails, .bool done], .int .i64 12]) (by simp [results, Try.results30, go_sem]) rfl ⟨_, rfl, and_of (HR.out _) ?_⟩
        repeat (first | exact Below.refl _ _ | refine Below.setCell ?_ (by simp <;> omega) _ | refine Below.alloc ?_ (by simp <;> omega) _)
    · rw [hd] at HR
      simp only [if_true]
      go_enter Try.func30, Try.ntmps30
      go_wp2
      refine bodyPost_ret (v := .tuple #[.agg #[.int .i64 s.room, .slice aL m cap, .bool true, .int .i64 s.ops, .int .i64 s.reads, .int .i64 s.fails, .bool done], .int .i64 11]) (by simp [results, Try.results30, go_sem]) rfl ⟨_, rfl, and_of (HR.out _) ?_⟩
      repeat (first | exact Below.refl _ _ | refine Below.setCell ?_ (by simp <;> omega) _ | refine Below.alloc ?_ (by simp <;> omega) _)
end Go.Proofs.Ytmapjikbplindaa
