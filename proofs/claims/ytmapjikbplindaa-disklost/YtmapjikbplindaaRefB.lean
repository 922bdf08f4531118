/- The document's disk: put, safe. -/
import Derived.Test.YtmapjikbplindaaRefA
import Derived.Deep.RegionHeld3
namespace Go.Proofs.Ytmapjikbplindaa
open Go.RowKit Go.Maps
set_option maxRecDepth 20000
set_option linter.unusedSimpArgs false

/-- The cells of a boxed disk of the document. -/
abbrev rcells (s : DS) (lv : Value) (done : Bool) : Array Value := #[.int .i64 s.room, lv, .bool s.down, .int .i64 s.ops, .int .i64 s.reads, .int .i64 s.fails, .bool done]
theorem name_ops {P : Program} {id : Nat} {ops : Array Oper} {Q : Exit → Act → World → Prop} {a : Act} {w : World} (h : ∀ (O : Array Oper) (QQ : Exit → Act → World → Prop), Hid (O = ops) → Hid (QQ = Q) → (Code.region id O true).wp P QQ a w) : (Code.region id ops true).wp P Q a w := h _ _ rfl rfl
theorem op_app1 {o : Oper} {a : Act} {K : Act → World → Prop} {Q : Exit → Act → World → Prop} {w : World} (s x : Operand)
    (ho : o.op = .call { callee := .builtin .append, args := #[s, x], argTypes := #[26, 26] }) (base : Nat) (lv : Value) (es : List Ent) (e : Ent) (hs : a.eval s = lv) (hown : Blks w base lv es)
    (g : Nat) (hx : a.eval x = .slice (some ⟨g, 0, none⟩) 1 1) (hg : w.heap[g]? = some (.cells e.cells.toArray 85 (0, 0))) (hlen : es.length ≤ 1000000) (hbase : base ≤ w.heap.size)
    (h : ∀ lv' w', Blks w' base lv' (es ++ [e]) → Below base w w' → K (a.put o.dst lv') w') : o.wp Try.prog a w K Q := by
  obtain ⟨i0, hi, hz0, hz1, hz2⟩ := info_parts Try.info85
  refine wp_append_own w s x 26 ho base 85 i0 (.agg #[.int .i64 0, .string ByteArray.empty, .string ByteArray.empty, .bool false]) 4 48 Try.underlying26 hi hz0 hz1 hz2 rfl (by decide) lv es.length (rowE es) hs hown ⟨g, 0, none⟩ 1 1 e.cells hx rfl ?_ (fun u hu => ent_one [e] u (by rw [rowE_one]; exact hu)) (by unfold maxLen; omega) (by omega) hbase ?_
  · intro j u hu
    rw [add_plain, Nat.zero_add, cell_of_row _ _ _ _ _ _ hg]
    simpa using hu
  · intro v' w' h1 h2 _
    refine h v' w' ?_ ((Below.refl base w).grown h2 hbase (fun k hk => (World.ownsRow.lt hown k hk).1))
    unfold Blks
    rw [List.length_append, rowE_append, rowE_one]
    exact h1
theorem take_succ_getD (ns : List Nat) (k : Nat) (h : k < ns.length) (f : Nat → Ent) : (ns.take (k + 1)).map f = (ns.take k).map f ++ [f (ns.getD k 0)] := by
  rw [List.take_add_one, List.getElem?_eq_getElem h, List.map_append, List.getD_eq_getElem?_getD, List.getElem?_eq_getElem h]
  rfl
structure RC (w : World) (p : Nat) (c0 c1 c2 c3 c4 c5 c6 : Value) : Prop where
  c0 : w.cell? ⟨p, 0, none⟩ = some c0
  c1 : w.cell? ⟨p, 1, none⟩ = some c1
  c2 : w.cell? ⟨p, 2, none⟩ = some c2
  c3 : w.cell? ⟨p, 3, none⟩ = some c3
  c4 : w.cell? ⟨p, 4, none⟩ = some c4
  c5 : w.cell? ⟨p, 5, none⟩ = some c5
  c6 : w.cell? ⟨p, 6, none⟩ = some c6
  f0 : w.frozen? ⟨p, 0, none⟩ = false
  f1 : w.frozen? ⟨p, 1, none⟩ = false
  f2 : w.frozen? ⟨p, 2, none⟩ = false
  f3 : w.frozen? ⟨p, 3, none⟩ = false
  f4 : w.frozen? ⟨p, 4, none⟩ = false
  f5 : w.frozen? ⟨p, 5, none⟩ = false
  f6 : w.frozen? ⟨p, 6, none⟩ = false
theorem RC.of {w : World} {p : Nat} {c0 c1 c2 c3 c4 c5 c6 : Value} (h : w.heap[p]? = some (.cells #[c0, c1, c2, c3, c4, c5, c6] 28 (0, 0))) : RC w p c0 c1 c2 c3 c4 c5 c6 := by
  refine ⟨?_, ?_, ?_, ?_, ?_, ?_, ?_, ?_, ?_, ?_, ?_, ?_, ?_, ?_⟩ <;> first
    | (rw [cell_of_row _ _ _ _ _ _ h]; rfl)
    | exact frozen_of_row _ _ _ _ _ h
theorem rf_cells {w : World} {lv : Value} {s : DS} {ns : List Nat} (h5 : Blks w 0 lv (ns.map (entOf s))) : ∃ a cap, lv = .slice a ns.length cap ∧ ns.length ≤ cap ∧ cap ≤ maxLen ∧ ∀ i, i < ns.length → ∃ g, a = some ⟨g, 0, none⟩ ∧ g < w.heap.size ∧ w.cell? ⟨g, i * 4, none⟩ = some (.int .i64 (ns.getD i 0 : Nat)) ∧ w.cell? ⟨g, i * 4 + 1, none⟩ = some (.string (strOfNums (s.B (ns.getD i 0)))) ∧ w.cell? ⟨g, i * 4 + 2, none⟩ = some (.string (strOfNums (s.S (ns.getD i 0)))) ∧ w.cell? ⟨g, i * 4 + 3, none⟩ = some (.bool (s.L (ns.getD i 0))) := by
  obtain ⟨a, cap, rfl, hcap, hcm, hcell⟩ := h5.view
  rw [List.length_map] at hcap hcell ⊢
  refine ⟨a, cap, rfl, hcap, hcm, fun i hi => ?_⟩
  obtain ⟨g, q0, _, q⟩ := hcell i hi
  rw [getD_map _ _ _ hi] at q
  exact ⟨g, q0, q⟩
set_option maxHeartbeats 3200000 in
theorem rsafe_any (X : List Nat) (lv : Value) (done : Bool) (s : DS) (w : World) (h : Rf w X (.agg (rcells s lv done)) s) (hX : ∀ x ∈ X, x < w.heap.size) :
    Calls Try.prog 44 #[.agg (rcells s lv done)] w fun e w' => ∃ lv', e = .returned (.agg (rcells s lv' done)) ∧ Rf w' X (.agg (rcells s lv' done)) (safeS s) ∧ Below w.heap.size w w' := by
  obtain ⟨ok, lv0, done0, ns, e0, h1, h2, h3, h4, h5, h6⟩ := h
  obtain ⟨rfl, rfl⟩ : lv = lv0 ∧ done = done0 := by simpa using e0
  clear e0
  have hlen := pw_len h2 h3
  have hroom := ok.room
  obtain ⟨a, cap, rfl, hcap, hcm, hcell⟩ := rf_cells h5
  have HC : Hid (∀ i, i < ns.length → ∃ g, a = some ⟨g, 0, none⟩ ∧ g < w.heap.size ∧ w.cell? ⟨g, i * 4, none⟩ = some (.int .i64 (ns.getD i 0 : Nat)) ∧ w.cell? ⟨g, i * 4 + 1, none⟩ = some (.string (strOfNums (s.B (ns.getD i 0)))) ∧ w.cell? ⟨g, i * 4 + 2, none⟩ = some (.string (strOfNums (s.S (ns.getD i 0)))) ∧ w.cell? ⟨g, i * 4 + 3, none⟩ = some (.bool (s.L (ns.getD i 0)))) := hcell
  have HF : Hid (∀ w' lv', Blks w' w.heap.size lv' (ns.map (entOf (safeS s))) → Rf w' X (.agg (rcells s lv' done)) (safeS s)) := by
    intro w' lv' hb
    refine ⟨safeS_ok ok, lv', done, ns, rfl, h1, h2, h3, ?_, hb.mono (Nat.zero_le _), ?_⟩
    · intro n hn hm
      exact ⟨(h4 n hn hm).1, (h4 n hn hm).1, rfl⟩
    · intro g hg hm
      have := (World.ownsRow.lt hb g hg).1
      have := hX g hm
      omega
  clear hcell h1 h2 h3 h4 h5 h6 ok
  generalize hN : ns.length = N at *
  have HLN : Hid (ns.length = N) := hN
  clear hN
  obtain ⟨W, hW⟩ : ∃ W, W = (w.alloc (.cells (rcells s (.slice a N cap) done) 28)).alloc (.cells #[.int .i64 0, .slice none 0 0, .bool false, .int .i64 0, .int .i64 0, .int .i64 0, .bool false] 28) := ⟨_, rfl⟩
  have hBW : Below w.heap.size w W := by
    rw [hW]
    exact ((Below.refl _ _).alloc (Nat.le_refl _) _).alloc (by simp) _
  have cW : ∀ (W' : World), Below (w.heap.size + 2) W W' → W'.cell? ⟨w.heap.size, 1, none⟩ = some (.slice a N cap) := by
    intro W' hb
    rw [hb.cell (p := ⟨w.heap.size, 1, none⟩) (by simp), hW]
    go_simp
  have hWs : W.heap.size = w.heap.size + 2 := by rw [hW]; simp
  go_enter Try.func44, Try.ntmps44
  go_wp2
  unfold rcells at hW
  rw [← hW]
  go_loopw [3, 4] (fun lv iv wr => ∃ k : Nat, k ≤ N ∧ iv = .int .i64 k ∧ Hid (Blks wr (w.heap.size + 2) lv ((ns.take k).map (entOf (safeS s)))) ∧ Hid (Below (w.heap.size + 2) W wr)) (fun _ iv _ => N - (intOf iv).toNat)
  case atStart => exact ⟨0, Nat.zero_le _, rfl, Blks.nil _ _, Below.refl _ _⟩
  case round =>
    obtain ⟨k, hk, rfl, HB, HW⟩ := hrel
    have l1 := cW wr HW.out
    by_cases hlt : k < N
    · obtain ⟨g, rfl, hgs, c0, c1, c2, c3⟩ := HC.out k hlt
      have hBr : Below w.heap.size w wr := hBW.trans (HW.out.mono (by omega))
      have d0 := (hBr.cell (p := ⟨g, k * 4, none⟩) hgs).trans c0
      have d1 := (hBr.cell (p := ⟨g, k * 4 + 1, none⟩) hgs).trans c1
      have hT := take_succ_getD ns k (by have := HLN.out; omega) (entOf (safeS s))
      have HT : Hid ((ns.take (k + 1)).map (entOf (safeS s)) = (ns.take k).map (entOf (safeS s)) ++ [⟨ns.getD k 0, s.B (ns.getD k 0), s.B (ns.getD k 0), false⟩]) := hT
      have HLE : Hid (((ns.take k).map (entOf (safeS s))).length ≤ 1000000) := by
        have : ((ns.take k).map (entOf (safeS s))).length ≤ 1000000 := by simp; omega
        exact this
      have hws : w.heap.size + 2 ≤ wr.heap.size := by have := HW.out.size; omega
      clear c0 c1 c2 c3 hT hBr
      generalize ns.getD k 0 = m at *
      generalize s.B m = bm at *
      have hgr : g < wr.heap.size := by omega
      go_wp2_with fail
      refine wp_region_noPanic ?_
      refine name_ops ?_
      intro O QQ HO HQ
      refine wp_region_held_drew (S := fun w' => Below (w.heap.size + 2) wr w') (by kernel_rfl) (Below.refl _ _).drew (fun hS => ?_)
      rw [show O.size = 23 by rw [HO.out]; rfl]
      refine wpAnyH_take (i := 0) (v := u3) (by rw [HO.out]; simp only [List.getElem?_toArray, List.getElem?_cons_succ, List.getElem?_cons_zero]; rfl) (by rw [HO.out]; kernel_rfl) (by rw [HO.out]; kernel_rfl) (by rw [HO.out]; kernel_rfl) (by rw [HQ.out]; exact fun _ _ _ h => h) (Or.inl ⟨by rfl, ?_⟩) (by assumption) ?_
      · intro w' hSw
        go_simp
      simp only [Act.put, List.setIfInBounds_toArray, List.set_cons_zero, List.set_cons_succ]
      refine wpAnyH_take (i := 1) (v := .pointer (some ⟨w.heap.size, 1, none⟩)) (by rw [HO.out]; simp only [List.getElem?_toArray, List.getElem?_cons_succ, List.getElem?_cons_zero]; rfl) (by rw [HO.out]; kernel_rfl) (by rw [HO.out]; kernel_rfl) (by rw [HO.out]; kernel_rfl) (by rw [HQ.out]; exact fun _ _ _ h => h) (Or.inl ⟨by rfl, ?_⟩) (by assumption) ?_
      · intro w' hSw
        go_simp
      simp only [Act.put, List.setIfInBounds_toArray, List.set_cons_zero, List.set_cons_succ]
      refine wpAnyH_take (i := 2) (v := .slice (some ⟨g, 0, none⟩) N cap) (by rw [HO.out]; simp only [List.getElem?_toArray, List.getElem?_cons_succ, List.getElem?_cons_zero]; rfl) (by rw [HO.out]; kernel_rfl) (by rw [HO.out]; kernel_rfl) (by rw [HO.out]; kernel_rfl) (by rw [HQ.out]; exact fun _ _ _ h => h) (Or.inl ⟨by rfl, ?_⟩) (by assumption) ?_
      · intro w' hSw
        have e1 := (hSw.cell (p := ⟨w.heap.size, 1, none⟩) (by simp only; omega)).trans l1
        go_simp
      simp only [Act.put, List.setIfInBounds_toArray, List.set_cons_zero, List.set_cons_succ]
      refine wpAnyH_take (i := 3) (v := .int .i64 k) (by rw [HO.out]; simp only [List.getElem?_toArray, List.getElem?_cons_succ, List.getElem?_cons_zero]; rfl) (by rw [HO.out]; kernel_rfl) (by rw [HO.out]; kernel_rfl) (by rw [HO.out]; kernel_rfl) (by rw [HQ.out]; exact fun _ _ _ h => h) (Or.inl ⟨by rfl, ?_⟩) (by assumption) ?_
      · intro w' hSw
        go_simp
      simp only [Act.put, List.setIfInBounds_toArray, List.set_cons_zero, List.set_cons_succ]
      refine wpAnyH_take (i := 4) (v := .pointer (some ⟨g, k * 4, none⟩)) (by rw [HO.out]; simp only [List.getElem?_toArray, List.getElem?_cons_succ, List.getElem?_cons_zero]; rfl) (by rw [HO.out]; kernel_rfl) (by rw [HO.out]; kernel_rfl) (by rw [HO.out]; kernel_rfl) (by rw [HQ.out]; exact fun _ _ _ h => h) (Or.inl ⟨by rfl, ?_⟩) (by assumption) ?_
      · intro w' hSw
        go_simp
      simp only [Act.put, List.setIfInBounds_toArray, List.set_cons_zero, List.set_cons_succ]
      refine wpAnyH_take (i := 5) (v := .pointer (some ⟨g, k * 4, none⟩)) (by rw [HO.out]; simp only [List.getElem?_toArray, List.getElem?_cons_succ, List.getElem?_cons_zero]; rfl) (by rw [HO.out]; kernel_rfl) (by rw [HO.out]; kernel_rfl) (by rw [HO.out]; kernel_rfl) (by rw [HQ.out]; exact fun _ _ _ h => h) (Or.inl ⟨by rfl, ?_⟩) (by assumption) ?_
      · intro w' hSw
        go_simp
      simp only [Act.put, List.setIfInBounds_toArray, List.set_cons_zero, List.set_cons_succ]
      refine wpAnyH_take (i := 6) (v := .int .i64 m) (by rw [HO.out]; simp only [List.getElem?_toArray, List.getElem?_cons_succ, List.getElem?_cons_zero]; rfl) (by rw [HO.out]; kernel_rfl) (by rw [HO.out]; kernel_rfl) (by rw [HO.out]; kernel_rfl) (by rw [HQ.out]; exact fun _ _ _ h => h) (Or.inl ⟨by rfl, ?_⟩) (by assumption) ?_
      · intro w' hSw
        have e1 := (hSw.cell (p := ⟨g, k * 4, none⟩) (by simp only; omega)).trans d0
        go_simp
      simp only [Act.put, List.setIfInBounds_toArray, List.set_cons_zero, List.set_cons_succ]
      refine wpAnyH_take (i := 7) (v := .pointer (some ⟨w.heap.size, 1, none⟩)) (by rw [HO.out]; simp only [List.getElem?_toArray, List.getElem?_cons_succ, List.getElem?_cons_zero]; rfl) (by rw [HO.out]; kernel_rfl) (by rw [HO.out]; kernel_rfl) (by rw [HO.out]; kernel_rfl) (by rw [HQ.out]; exact fun _ _ _ h => h) (Or.inl ⟨by rfl, ?_⟩) (by assumption) ?_
      · intro w' hSw
        go_simp
      simp only [Act.put, List.setIfInBounds_toArray, List.set_cons_zero, List.set_cons_succ]
      refine wpAnyH_take (i := 8) (v := .slice (some ⟨g, 0, none⟩) N cap) (by rw [HO.out]; simp only [List.getElem?_toArray, List.getElem?_cons_succ, List.getElem?_cons_zero]; rfl) (by rw [HO.out]; kernel_rfl) (by rw [HO.out]; kernel_rfl) (by rw [HO.out]; kernel_rfl) (by rw [HQ.out]; exact fun _ _ _ h => h) (Or.inl ⟨by rfl, ?_⟩) (by assumption) ?_
      · intro w' hSw
        have e1 := (hSw.cell (p := ⟨w.heap.size, 1, none⟩) (by simp only; omega)).trans l1
        go_simp
      simp only [Act.put, List.setIfInBounds_toArray, List.set_cons_zero, List.set_cons_succ]
      refine wpAnyH_take (i := 9) (v := .int .i64 k) (by rw [HO.out]; simp only [List.getElem?_toArray, List.getElem?_cons_succ, List.getElem?_cons_zero]; rfl) (by rw [HO.out]; kernel_rfl) (by rw [HO.out]; kernel_rfl) (by rw [HO.out]; kernel_rfl) (by rw [HQ.out]; exact fun _ _ _ h => h) (Or.inl ⟨by rfl, ?_⟩) (by assumption) ?_
      · intro w' hSw
        go_simp
      simp only [Act.put, List.setIfInBounds_toArray, List.set_cons_zero, List.set_cons_succ]
      refine wpAnyH_take (i := 10) (v := .pointer (some ⟨g, k * 4, none⟩)) (by rw [HO.out]; simp only [List.getElem?_toArray, List.getElem?_cons_succ, List.getElem?_cons_zero]; rfl) (by rw [HO.out]; kernel_rfl) (by rw [HO.out]; kernel_rfl) (by rw [HO.out]; kernel_rfl) (by rw [HQ.out]; exact fun _ _ _ h => h) (Or.inl ⟨by rfl, ?_⟩) (by assumption) ?_
      · intro w' hSw
        go_simp
      simp only [Act.put, List.setIfInBounds_toArray, List.set_cons_zero, List.set_cons_succ]
      refine wpAnyH_take (i := 11) (v := .pointer (some ⟨g, k * 4 + 1, none⟩)) (by rw [HO.out]; simp only [List.getElem?_toArray, List.getElem?_cons_succ, List.getElem?_cons_zero]; rfl) (by rw [HO.out]; kernel_rfl) (by rw [HO.out]; kernel_rfl) (by rw [HO.out]; kernel_rfl) (by rw [HQ.out]; exact fun _ _ _ h => h) (Or.inl ⟨by rfl, ?_⟩) (by assumption) ?_
      · intro w' hSw
        go_simp
      simp only [Act.put, List.setIfInBounds_toArray, List.set_cons_zero, List.set_cons_succ]
      refine wpAnyH_take (i := 12) (v := .string (strOfNums bm)) (by rw [HO.out]; simp only [List.getElem?_toArray, List.getElem?_cons_succ, List.getElem?_cons_zero]; rfl) (by rw [HO.out]; kernel_rfl) (by rw [HO.out]; kernel_rfl) (by rw [HO.out]; kernel_rfl) (by rw [HQ.out]; exact fun _ _ _ h => h) (Or.inl ⟨by rfl, ?_⟩) (by assumption) ?_
      · intro w' hSw
        have e1 := (hSw.cell (p := ⟨g, k * 4 + 1, none⟩) (by simp only; omega)).trans d1
        go_simp
      simp only [Act.put, List.setIfInBounds_toArray, List.set_cons_zero, List.set_cons_succ]
      refine wpAnyH_take (i := 13) (v := .pointer (some ⟨w.heap.size, 1, none⟩)) (by rw [HO.out]; simp only [List.getElem?_toArray, List.getElem?_cons_succ, List.getElem?_cons_zero]; rfl) (by rw [HO.out]; kernel_rfl) (by rw [HO.out]; kernel_rfl) (by rw [HO.out]; kernel_rfl) (by rw [HQ.out]; exact fun _ _ _ h => h) (Or.inl ⟨by rfl, ?_⟩) (by assumption) ?_
      · intro w' hSw
        go_simp
      simp only [Act.put, List.setIfInBounds_toArray, List.set_cons_zero, List.set_cons_succ]
      refine wpAnyH_take (i := 14) (v := .slice (some ⟨g, 0, none⟩) N cap) (by rw [HO.out]; simp only [List.getElem?_toArray, List.getElem?_cons_succ, List.getElem?_cons_zero]; rfl) (by rw [HO.out]; kernel_rfl) (by rw [HO.out]; kernel_rfl) (by rw [HO.out]; kernel_rfl) (by rw [HQ.out]; exact fun _ _ _ h => h) (Or.inl ⟨by rfl, ?_⟩) (by assumption) ?_
      · intro w' hSw
        have e1 := (hSw.cell (p := ⟨w.heap.size, 1, none⟩) (by simp only; omega)).trans l1
        go_simp
      simp only [Act.put, List.setIfInBounds_toArray, List.set_cons_zero, List.set_cons_succ]
      refine wpAnyH_take (i := 15) (v := .int .i64 k) (by rw [HO.out]; simp only [List.getElem?_toArray, List.getElem?_cons_succ, List.getElem?_cons_zero]; rfl) (by rw [HO.out]; kernel_rfl) (by rw [HO.out]; kernel_rfl) (by rw [HO.out]; kernel_rfl) (by rw [HQ.out]; exact fun _ _ _ h => h) (Or.inl ⟨by rfl, ?_⟩) (by assumption) ?_
      · intro w' hSw
        go_simp
      simp only [Act.put, List.setIfInBounds_toArray, List.set_cons_zero, List.set_cons_succ]
      refine wpAnyH_take (i := 16) (v := .pointer (some ⟨g, k * 4, none⟩)) (by rw [HO.out]; simp only [List.getElem?_toArray, List.getElem?_cons_succ, List.getElem?_cons_zero]; rfl) (by rw [HO.out]; kernel_rfl) (by rw [HO.out]; kernel_rfl) (by rw [HO.out]; kernel_rfl) (by rw [HQ.out]; exact fun _ _ _ h => h) (Or.inl ⟨by rfl, ?_⟩) (by assumption) ?_
      · intro w' hSw
        go_simp
      simp only [Act.put, List.setIfInBounds_toArray, List.set_cons_zero, List.set_cons_succ]
      refine wpAnyH_take (i := 17) (v := .pointer (some ⟨g, k * 4 + 1, none⟩)) (by rw [HO.out]; simp only [List.getElem?_toArray, List.getElem?_cons_succ, List.getElem?_cons_zero]; rfl) (by rw [HO.out]; kernel_rfl) (by rw [HO.out]; kernel_rfl) (by rw [HO.out]; kernel_rfl) (by rw [HQ.out]; exact fun _ _ _ h => h) (Or.inl ⟨by rfl, ?_⟩) (by assumption) ?_
      · intro w' hSw
        go_simp
      simp only [Act.put, List.setIfInBounds_toArray, List.set_cons_zero, List.set_cons_succ]
      refine wpAnyH_take (i := 18) (v := .string (strOfNums bm)) (by rw [HO.out]; simp only [List.getElem?_toArray, List.getElem?_cons_succ, List.getElem?_cons_zero]; rfl) (by rw [HO.out]; kernel_rfl) (by rw [HO.out]; kernel_rfl) (by rw [HO.out]; kernel_rfl) (by rw [HQ.out]; exact fun _ _ _ h => h) (Or.inl ⟨by rfl, ?_⟩) (by assumption) ?_
      · intro w' hSw
        have e1 := (hSw.cell (p := ⟨g, k * 4 + 1, none⟩) (by simp only; omega)).trans d1
        go_simp
      simp only [Act.put, List.setIfInBounds_toArray, List.set_cons_zero, List.set_cons_succ]
      refine wpAnyH_take (i := 19) (v := .agg #[.int .i64 m, .string (strOfNums bm), .string (strOfNums bm), .bool false]) (by rw [HO.out]; simp only [List.getElem?_toArray, List.getElem?_cons_succ, List.getElem?_cons_zero]; rfl) (by rw [HO.out]; kernel_rfl) (by rw [HO.out]; kernel_rfl) (by rw [HO.out]; kernel_rfl) (by rw [HQ.out]; exact fun _ _ _ h => h) (Or.inl ⟨by rfl, ?_⟩) (by assumption) ?_
      · intro w' hSw
        go_simp
      simp only [Act.put, List.setIfInBounds_toArray, List.set_cons_zero, List.set_cons_succ]
      refine wpAnyH_ready (rs := [20]) (by rw [HO.out]; kernel_rfl) (by simp) ?_
      refine AllReadyH.cons (o := _) (by rw [HO.out]; simp only [List.getElem?_toArray, List.getElem?_cons_succ, List.getElem?_cons_zero]; rfl) (fun K hK => ?_) AllReadyH.nil
      go_simp
      refine hK.out _ _ (hS.alloc (by simpa using hws) _) (fun hS2 => ?_)
      try simp only [Act.put, List.setIfInBounds_toArray, List.set_cons_zero, List.set_cons_succ]
      refine wpAnyH_ready (rs := [21]) (by rw [HO.out]; kernel_rfl) (by simp) ?_
      refine AllReadyH.cons (o := _) (by rw [HO.out]; simp only [List.getElem?_toArray, List.getElem?_cons_succ, List.getElem?_cons_zero]; rfl) (fun K2 hK2 => ?_) AllReadyH.nil
      rw [if_pos (by rfl)]
      refine op_app1 _ _ rfl (w.heap.size + 2) _ ((ns.take k).map (entOf (safeS s))) ⟨m, bm, bm, false⟩ rfl (HB.out.below ((Below.refl _ _).drew.alloc (Nat.le_refl _) _)) _ rfl (heap_alloc_last _ _) HLE.out (by simp <;> omega) ?_
      intro lv' w2 hB2 hb2
      refine hK2.out _ _ (((Below.refl _ _).drew.alloc (by simpa using hws) _).trans hb2) (fun hS3 => ?_)
      simp only [Act.put, List.setIfInBounds_toArray, List.set_cons_zero, List.set_cons_succ]
      refine wpAnyH_take (i := 22) (v := lv') (by rw [HO.out]; simp only [List.getElem?_toArray, List.getElem?_cons_succ, List.getElem?_cons_zero]; rfl) (by rw [HO.out]; kernel_rfl) (by rw [HO.out]; kernel_rfl) (by rw [HO.out]; kernel_rfl) (by rw [HQ.out]; exact fun _ _ _ h => h) (Or.inl ⟨by rfl, ?_⟩) (by assumption) ?_
      · intro w' hSw
        go_simp
      simp only [Act.put, List.setIfInBounds_toArray, List.set_cons_zero, List.set_cons_succ]
      refine wpAnyH_done (by rw [HO.out]; kernel_rfl) ?_ _
      rw [HQ.out]
      refine NoPanic.normal ?_
      go_wp2
      go_roundw
      case rel => exact ⟨k + 1, by omega, by go_num, by rw [HT.out]; exact hB2, HW.out.trans hS3⟩
      case measure => simp [intOf]; omega
    · have e : k = N := by omega
      subst e
      have hb := HB.out
      rw [List.take_of_length_le (by have := HLN.out; omega)] at hb
      obtain ⟨a3, cap3, e3, _⟩ := hb.view
      subst e3
      have q1 : wr.heap[w.heap.size]? = some (.cells (rcells s (.slice a k cap) done) 28 (0, 0)) := by
        rw [HW.out.block w.heap.size (by omega), hW]
        rw [heap_alloc_old _ _ _ (by simp)]
        exact heap_alloc_new _ _
      have q2 : wr.heap[w.heap.size + 1]? = some (.cells (rcells { room := 0, B := s.B, S := s.S, L := s.L, down := false, fails := 0, done := false, ops := 0, reads := 0 } (.slice none 0 0) false) 28 (0, 0)) := by
        rw [HW.out.block (w.heap.size + 1) (by omega), hW]
        exact heap_alloc2_new _ _ _
      obtain ⟨c0, c1, c2, c3, c4, c5, c6, f0, f1, f2, f3, f4, f5, f6⟩ := RC.of q1
      obtain ⟨d0, d1, d2, d3, d4, d5, d6, g0, g1, g2, g3, g4, g5, g6⟩ := RC.of q2
      have HBB : Hid (Blks wr (w.heap.size + 2) (.slice a3 (List.map (entOf (safeS s)) ns).length cap3) (ns.map (entOf (safeS s)))) := hb
      have HBW : Hid (Below w.heap.size w wr) := hBW.trans (HW.out.mono (by omega))
      generalize (List.map (entOf (safeS s)) ns).length = n3 at *
      clear hb q1 q2 HB HC HLN hW cW hBW l1
      go_wp2
      refine bodyPost_ret (v := .agg (rcells s (.slice a3 n3 cap3) done)) (by simp [results, Try.results44, go_sem, d0, d1, d2, d3, d4, d5, d6]) rfl ⟨_, rfl, HF.out _ _ ((HBB.out.off (X := [w.heap.size, w.heap.size + 1]) ?_ ?_).mono (by omega)), ?_⟩
      · iterate 8 (refine Off.setCell ?_ (by simp) _)
        exact Off.refl _ _
      · intro g hg hm
        have := (World.ownsRow.lt HBB.out g hg).1
        simp at hm
        omega
      · iterate 8 (refine Below.setCell ?_ (by simp) _)
        exact HBW.out
end Go.Proofs.Ytmapjikbplindaa
