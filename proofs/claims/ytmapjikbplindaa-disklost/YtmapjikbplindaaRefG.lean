/- The document's disk: put. -/
import Derived.Test.YtmapjikbplindaaActB
namespace Go.Proofs.Ytmapjikbplindaa
open Go.RowKit Go.Maps
set_option maxRecDepth 20000

theorem rowE_drop : ∀ (es : List Ent) (j : Nat), rowE (es.drop j) = (rowE es).drop (j * 4)
  | _, 0 => by simp
  | [], j + 1 => by simp [rowE]
  | e :: es, j + 1 => by
    have e1 : rowE (e :: es) = e.cells ++ rowE es := by simp [rowE]
    rw [List.drop_succ_cons, rowE_drop es j, e1, show (j + 1) * 4 = e.cells.length + j * 4 by simp [Ent.cells]; omega, List.drop_append]
    simp
/-- append of blocks that lie anywhere onto one's own. -/
theorem wp_appE {ops : Array Oper} {rest : List Oper} {o : Oper} {a : Act} {Q : Exit → Act → World → Prop} {w : World} (hgd : o.guard = none) (s x : Operand)
    (ho : o.op = .call { callee := .builtin .append, args := #[s, x], argTypes := #[26, 26] }) (base : Nat) (lv : Value) (es es2 : List Ent) (hs : a.eval s = lv) (hown : Blks w base lv es)
    (ad : Addr) (m c : Nat) (hx : a.eval x = .slice (some ad) m c) (hm : es2.length = m) (hc : ∀ j u, (rowE es2)[j]? = some u → w.cell? (ad.add j) = some u) (hlen : es.length + m ≤ 1000000) (hbase : base ≤ w.heap.size)
    (h : ∀ lv' w', Blks w' base lv' (es ++ es2) → Below base w w' → wpList Try.prog ops Q rest (a.put o.dst lv') w') : wpList Try.prog ops Q (o :: rest) a w := by
  obtain ⟨i0, hi, hz0, hz1, hz2⟩ := info_parts Try.info85
  refine wpList_append_own w hgd s x 26 ho base 85 i0 (.agg #[.int .i64 0, .string ByteArray.empty, .string ByteArray.empty, .bool false]) 4 48 Try.underlying26 hi hz0 hz1 hz2 rfl (by decide) lv es.length (rowE es) hs hown ad m c (rowE es2) hx (by rw [len_rowE, hm]) hc (fun u hu => ent_one es2 u hu) (by unfold maxLen; omega) (by omega) hbase ?_
  intro v' w' h1 h2 _
  refine h v' w' ?_ ((Below.refl base w).grown h2 hbase (fun k hk => (World.ownsRow.lt hown k hk).1))
  unfold Blks
  rw [List.length_append, rowE_append, hm]
  exact h1
theorem wp_appE0 {ops : Array Oper} {rest : List Oper} {o : Oper} {a : Act} {Q : Exit → Act → World → Prop} {w : World} (hgd : o.guard = none) (s x : Operand)
    (ho : o.op = .call { callee := .builtin .append, args := #[s, x], argTypes := #[26, 26] }) (base : Nat) (lv : Value) (es : List Ent) (hs : a.eval s = lv) (hown : Blks w base lv es)
    (hx : a.eval x = .slice none 0 0) (h : wpList Try.prog ops Q rest (a.put o.dst lv) w) : wpList Try.prog ops Q (o :: rest) a w := by
  obtain ⟨i0, hi, hz0, hz1, hz2⟩ := info_parts Try.info85
  exact wpList_append_own_none hgd s x 26 ho base 85 i0 4 Try.underlying26 hi lv es.length (rowE es) hs hown hx h
/-- n into a rising list. -/
def ins (n k : Nat) (ns : List Nat) : List Nat := ns.take k ++ (n :: ns.drop (if ns.getD k 0 = n ∧ k < ns.length then k + 1 else k))
theorem ins_facts {ns : List Nat} {n k room : Nat} (hp : ns.Pairwise (· < ·)) (hr : ∀ m ∈ ns, m < room) (hn : n < room) (hk : k ≤ ns.length) (hlt : ∀ j, j < k → ns.getD j 0 < n) (hge : k < ns.length → n ≤ ns.getD k 0) :
    (ins n k ns).Pairwise (· < ·) ∧ (∀ m ∈ ins n k ns, m < room) ∧ (∀ m, m ∉ ins n k ns → m ∉ ns ∧ m ≠ n) := by
  have g : ∀ j (hj : j < ns.length), ns.getD j 0 = ns[j] := fun j hj => by rw [List.getD_eq_getElem?_getD, List.getElem?_eq_getElem hj]; rfl
  have pw : ∀ i j (hi : i < ns.length) (hj : j < ns.length), i < j → ns[i] < ns[j] := fun i j hi hj h => List.pairwise_iff_getElem.1 hp i j hi hj h
  obtain ⟨q, hq⟩ : ∃ q, (if ns.getD k 0 = n ∧ k < ns.length then k + 1 else k) = q := ⟨_, rfl⟩
  have hqk : k ≤ q ∧ q ≤ ns.length ∧ (∀ j, q ≤ j → j < ns.length → n < ns.getD j 0) ∧ ∀ j, k ≤ j → j < q → ns.getD j 0 = n := by
    by_cases e : ns.getD k 0 = n ∧ k < ns.length
    · rw [if_pos e] at hq
      refine ⟨by omega, by omega, fun j h1 h2 => ?_, fun j h1 h2 => (show j = k by omega) ▸ e.1⟩
      have := pw k j e.2 h2 (by omega)
      rw [g j h2]
      rw [g k e.2] at e
      omega
    · rw [if_neg e] at hq
      refine ⟨by omega, by omega, fun j h1 h2 => ?_, fun j h1 h2 => by omega⟩
      have hkl : k < ns.length := by omega
      have h3 := hge hkl
      have h4 : ns.getD k 0 ≠ n := fun e' => e ⟨e', hkl⟩
      by_cases ejk : j = k
      · subst ejk; omega
      · have := pw k j hkl h2 (by omega)
        rw [g j h2]
        rw [g k hkl] at h3 h4
        omega
  unfold ins
  rw [hq]
  refine ⟨?_, ?_, ?_⟩
  · refine List.pairwise_append.2 ⟨hp.sublist (List.take_sublist _ _), List.pairwise_cons.2 ⟨fun m hm => ?_, hp.sublist (List.drop_sublist _ _)⟩, fun x hx y hy => ?_⟩
    · obtain ⟨j, hj, rfl⟩ := List.getElem_of_mem hm
      rw [List.getElem_drop]
      rw [List.length_drop] at hj
      have := hqk.2.2.1 (q + j) (by omega) (by omega)
      rw [g _ (by omega)] at this
      exact this
    · obtain ⟨j, hj, rfl⟩ := List.getElem_of_mem hx
      rw [List.getElem_take]
      rw [List.length_take] at hj
      have h1 := hlt j (by omega)
      rw [g j (by omega)] at h1
      rcases List.mem_cons.1 hy with e | e
      · subst e; exact h1
      · obtain ⟨i, hi, rfl⟩ := List.getElem_of_mem e
        rw [List.getElem_drop]
        rw [List.length_drop] at hi
        exact pw j (q + i) (by omega) (by omega) (by omega)
  · intro m hm
    rcases List.mem_append.1 hm with h | h
    · exact hr m (List.mem_of_mem_take h)
    · rcases List.mem_cons.1 h with e | e
      · subst e; exact hn
      · exact hr m (List.mem_of_mem_drop e)
  · intro m hm
    have hmn : m ≠ n := fun e => hm (by rw [e]; simp)
    refine ⟨fun hin => ?_, hmn⟩
    obtain ⟨j, hj, rfl⟩ := List.getElem_of_mem hin
    rcases Nat.lt_or_ge j k with h | h
    · exact hm (List.mem_append_left _ (List.mem_iff_getElem.2 ⟨j, by rw [List.length_take]; omega, by rw [List.getElem_take]⟩))
    · rcases Nat.lt_or_ge j q with h' | h'
      · have := hqk.2.2.2 j h h'
        rw [g j hj] at this
        exact hmn this
      · exact hm (List.mem_append_right _ (List.mem_cons_of_mem _ (List.mem_iff_getElem.2 ⟨j - q, by rw [List.length_drop]; omega, by rw [List.getElem_drop]; congr 1; omega⟩)))
theorem put_ents {ns : List Nat} {n k : Nat} {s : DS} {b : List Int} (hp : ns.Pairwise (· < ·)) (hk : k ≤ ns.length) (hlt : ∀ j, j < k → ns.getD j 0 < n) (hge : k < ns.length → n ≤ ns.getD k 0) :
    (ins n k ns).map (entOf (putS s n b)) = (ns.take k).map (entOf s) ++ (⟨n, b, s.S n, true⟩ :: (ns.drop (if ns.getD k 0 = n ∧ k < ns.length then k + 1 else k)).map (entOf s)) := by
  have hf := (ins_facts (room := n + 1 + ns.foldr (· + ·) 0) hp (fun m hm => by
    have : m ≤ ns.foldr (· + ·) 0 := by
      clear hp hk hlt hge
      induction ns with
      | nil => cases hm
      | cons x xs ih =>
        rcases List.mem_cons.1 hm with e | e
        · subst e; simp
        · have := ih e; simp; omega
    omega) (by omega) hk hlt hge).1
  have hne : ∀ m, m ≠ n → entOf (putS s n b) m = entOf s m := fun m hm => by
    unfold entOf putS
    simp only
    rw [upd_other _ _ hm, upd_other _ _ hm]
  have hself : entOf (putS s n b) n = ⟨n, b, s.S n, true⟩ := by
    unfold entOf putS
    simp only
    rw [upd_same, upd_same]
  unfold ins at hf ⊢
  rw [List.map_append, List.map_cons, hself]
  obtain ⟨p1, p2, p3⟩ := List.pairwise_append.1 hf
  have p4 := (List.pairwise_cons.1 p2).1
  congr 1
  · refine List.map_congr_left (fun m hm => hne m ?_)
    have := p3 m hm n (by simp)
    omega
  · congr 1
    refine List.map_congr_left (fun m hm => hne m ?_)
    have := p4 m hm
    omega
theorem Blks.row {w : World} {base g n cap : Nat} {es : List Ent} (h : Blks w base (.slice (some ⟨g, 0, none⟩) n cap) es) : es.length = n ∧ n ≤ cap ∧ cap ≤ maxLen ∧ base ≤ g ∧ g < w.heap.size ∧ ∀ j u, (rowE es)[j]? = some u → w.cell? ⟨g, j, none⟩ = some u := by
  have hl := World.ownsRow.lt h g rfl
  have hn : es.length = n := by
    rcases h.2 with ⟨h', _⟩ | ⟨g', cap', cur, h', _⟩
    · simp at h'
    · simp at h'; omega
  subst hn
  refine ⟨rfl, ?_, ?_, hl.1, hl.2, fun j u hu => ?_⟩
  · rcases h.2 with ⟨h', _⟩ | ⟨g', cap', cur, h', _, _, h3, _⟩
    · simp at h'
    · simp at h'; omega
  · rcases h.2 with ⟨h', _⟩ | ⟨g', cap', cur, h', _, _, _, h3, _⟩
    · simp at h'
    · simp at h'; obtain ⟨_, rfl⟩ := h'; exact h3
  · have hj := (List.getElem?_eq_some_iff.1 hu).1
    rw [len_rowE] at hj
    rw [World.ownsRow.cellAt h j hj]
    exact hu
theorem Blks.cells4 {w : World} {g : Nat} {s : DS} {ns : List Nat} (hc : ∀ j u, (rowE (ns.map (entOf s)))[j]? = some u → w.cell? ⟨g, j, none⟩ = some u) (i : Nat) (hi : i < ns.length) : w.cell? ⟨g, i * 4, none⟩ = some (.int .i64 (ns.getD i 0 : Nat)) ∧ w.cell? ⟨g, i * 4 + 1, none⟩ = some (.string (strOfNums (s.B (ns.getD i 0)))) ∧ w.cell? ⟨g, i * 4 + 2, none⟩ = some (.string (strOfNums (s.S (ns.getD i 0)))) ∧ w.cell? ⟨g, i * 4 + 3, none⟩ = some (.bool (s.L (ns.getD i 0))) := by
  have q : ∀ j, j < 4 → (rowE (ns.map (entOf s)))[i * 4 + j]? = (entOf s (ns.getD i 0)).cells[j]? := fun j hj => by
    rw [rowE_get _ i j (by simpa using hi) hj, getD_map _ _ _ hi]
  refine ⟨hc _ _ ((q 0 (by omega)).trans rfl), hc _ _ ((q 1 (by omega)).trans rfl), hc _ _ ((q 2 (by omega)).trans rfl), hc _ _ ((q 3 (by omega)).trans rfl)⟩
theorem rest_cells {w : World} {g j : Nat} {es : List Ent} (hc : ∀ i u, (rowE es)[i]? = some u → w.cell? ⟨g, i, none⟩ = some u) : ∀ i u, (rowE (es.drop j))[i]? = some u → w.cell? ((⟨g, j * 4, none⟩ : Addr).add i) = some u := by
  intro i u hu
  rw [rowE_drop, List.getElem?_drop] at hu
  rw [add_plain]
  exact hc _ _ hu
set_option maxHeartbeats 3200000 in
theorem rput_some (X : List Nat) (g N cap : Nat) (done : Bool) (s : DS) (n : Nat) (b : List Int) (w : World) (h : Rf w X (.agg (rcells s (.slice (some ⟨g, 0, none⟩) N cap) done)) s) (hX : ∀ x ∈ X, x < w.heap.size) (hn : n < s.room) (hb : IsB b) :
    Calls Try.prog 46 #[.agg (rcells s (.slice (some ⟨g, 0, none⟩) N cap) done), .agg #[.int .i64 n, .string (strOfNums b), .string (strOfNums (s.S n)), .bool true]] w fun e w' => ∃ lv', e = .returned (.agg (rcells s lv' done)) ∧ Rf w' X (.agg (rcells s lv' done)) (putS s n b) ∧ Below w.heap.size w w' := by
  obtain ⟨ok, lv0, done0, ns, e0, h1, h2, h3, h4, h5, h6⟩ := h
  obtain ⟨rfl, rfl⟩ : (.slice (some ⟨g, 0, none⟩) N cap) = lv0 ∧ done = done0 := by simpa using e0
  clear e0
  have hlen := pw_len h2 h3
  have hroom := ok.room
  obtain ⟨hNl, hcap, hcm, _, hgs, hcell⟩ := h5.row
  rw [List.length_map] at hNl
  have HC : Hid (∀ i, i < N → w.cell? ⟨g, i * 4, none⟩ = some (.int .i64 (ns.getD i 0 : Nat)) ∧ w.cell? ⟨g, i * 4 + 1, none⟩ = some (.string (strOfNums (s.B (ns.getD i 0)))) ∧ w.cell? ⟨g, i * 4 + 2, none⟩ = some (.string (strOfNums (s.S (ns.getD i 0)))) ∧ w.cell? ⟨g, i * 4 + 3, none⟩ = some (.bool (s.L (ns.getD i 0)))) := fun i hi => Blks.cells4 hcell i (by omega)
  have HRest : Hid (∀ j W, Below w.heap.size w W → ∀ i u, (rowE ((ns.drop j).map (entOf s)))[i]? = some u → W.cell? ((⟨g, j * 4, none⟩ : Addr).add i) = some u) := fun j W hW i u hu => by
    rw [List.map_drop] at hu
    have := rest_cells hcell i u hu
    rw [add_plain] at this ⊢
    exact (hW.cell (p := ⟨g, j * 4 + i, none⟩) hgs).trans this
  obtain ⟨E0, hE0⟩ : ∃ E0 : Ent, E0 = ⟨n, b, s.S n, true⟩ := ⟨_, rfl⟩
  have HF : Hid (∀ w' lv' k, k ≤ N → (∀ j, j < k → ns.getD j 0 < n) → (k < N → n ≤ ns.getD k 0) → Blks w' w.heap.size lv' ((ns.take k).map (entOf s) ++ (E0 :: (ns.drop (if ns.getD k 0 = n ∧ k < N then k + 1 else k)).map (entOf s))) → Rf w' X (.agg (rcells s lv' done)) (putS s n b)) := by
    intro w' lv' k hk hlt hge hbk
    rw [← hNl] at hk hge hbk
    rw [hE0, ← put_ents h2 hk hlt hge] at hbk
    obtain ⟨f1, f2, f3⟩ := ins_facts h2 h3 hn hk hlt hge
    refine ⟨putS_ok ok hb, lv', done, ins n k ns, rfl, h1, f1, f2, ?_, hbk.mono (Nat.zero_le _), ?_⟩
    · intro m hm hnm
      obtain ⟨q1, q2⟩ := f3 m hnm
      obtain ⟨r1, r2, r3⟩ := h4 m hm q1
      unfold putS
      simp only
      rw [upd_other _ _ q2, upd_other _ _ q2]
      exact ⟨r1, r2, r3⟩
    · intro g' hg' hm
      have := (World.ownsRow.lt hbk g' hg').1
      have := hX g' hm
      omega
  clear hcell h1 h2 h3 h4 h5 h6 ok
  have HLN : Hid (ns.length = N) := hNl
  have hN4 : N ≤ 4096 := by omega
  clear hNl
  generalize hsn : strOfNums (s.S n) = sS at *
  generalize hsb : strOfNums b = sB at *
  have HE : Hid (E0.cells.toArray = #[.int .i64 (n : Int), .string sB, .string sS, .bool true]) := by
    have : E0.cells.toArray = #[.int .i64 (n : Int), .string sB, .string sS, .bool true] := by rw [hE0, ← hsn, ← hsb]; rfl
    exact this
  clear hsn hsb hb hE0
  obtain ⟨W, hW⟩ : ∃ W, W = ((w.alloc (.cells (rcells s (.slice (some ⟨g, 0, none⟩) N cap) done) 28)).alloc (.cells #[.int .i64 n, .string sB, .string sS, .bool true] 85)).alloc (.cells #[.int .i64 0, .slice none 0 0, .bool false, .int .i64 0, .int .i64 0, .int .i64 0, .bool false] 28) := ⟨_, rfl⟩
  have hBW : Below w.heap.size w W := by
    rw [hW]
    exact (((Below.refl _ _).alloc (Nat.le_refl _) _).alloc (by simp) _).alloc (by simp <;> omega) _
  have hWs : W.heap.size = w.heap.size + 3 := by rw [hW]; simp
  have cW : Hid (∀ (W' : World), Below (w.heap.size + 3) W W' → W'.heap[w.heap.size]? = some (.cells (rcells s (.slice (some ⟨g, 0, none⟩) N cap) done) 28 (0, 0)) ∧ W'.heap[w.heap.size + 1]? = some (.cells #[.int .i64 n, .string sB, .string sS, .bool true] 85 (0, 0)) ∧ W'.heap[w.heap.size + 2]? = some (.cells #[.int .i64 0, .slice none 0 0, .bool false, .int .i64 0, .int .i64 0, .int .i64 0, .bool false] 28 (0, 0))) := by
    intro W' hb
    rw [hb.block w.heap.size (by omega), hb.block (w.heap.size + 1) (by omega), hb.block (w.heap.size + 2) (by omega), hW]
    refine ⟨?_, ?_, ?_⟩
    · rw [heap_alloc_old _ _ _ (by simp <;> omega), heap_alloc_old _ _ _ (by simp <;> omega)]
      exact heap_alloc_new _ _
    · rw [heap_alloc_old _ _ _ (by simp <;> omega)]
      have := heap_alloc_new (w.alloc (.cells (rcells s (.slice (some ⟨g, 0, none⟩) N cap) done) 28)) (.cells #[.int .i64 n, .string sB, .string sS, .bool true] 85 (0, 0))
      simpa using this
    · have := heap_alloc_new ((w.alloc (.cells (rcells s (.slice (some ⟨g, 0, none⟩) N cap) done) 28)).alloc (.cells #[.int .i64 n, .string sB, .string sS, .bool true] 85 (0, 0))) (.cells #[.int .i64 0, .slice none 0 0, .bool false, .int .i64 0, .int .i64 0, .int .i64 0, .bool false] 28 (0, 0))
      simpa using this
  go_enter Try.func46, Try.ntmps46
  go_wp2_with fail
  unfold rcells at hW
  rw [← hW]
  go_loopw [5, 6] (fun lv iv wr => ∃ k : Nat, k ≤ N ∧ iv = .int .i64 k ∧ Hid (Blks wr (w.heap.size + 3) lv ((ns.take k).map (entOf s))) ∧ Hid (Below (w.heap.size + 3) W wr) ∧ Hid (∀ j, j < k → ns.getD j 0 < n)) (fun _ iv _ => N - (intOf iv).toNat)
  case atStart => exact ⟨0, Nat.zero_le _, rfl, Blks.nil _ _, Below.refl _ _, fun j hj => by omega⟩
  case round =>
    obtain ⟨k, hk, rfl, HB, HW, HJ⟩ := hrel
    obtain ⟨b0, b1, b2⟩ := cW.out wr HW.out
    have hBr : Below w.heap.size w wr := hBW.trans (HW.out.mono (by omega))
    have hws : w.heap.size + 3 ≤ wr.heap.size := by have := HW.out.size; omega
    have HBR : Hid (Below w.heap.size w wr) := hBr
    obtain ⟨r0, r1, r2, r3, r4, r5, r6, _, _, _, _, _, _, _⟩ := RC.of b0
    have x0 := cell_of_row wr (w.heap.size + 1) 0 _ 85 (0, 0) b1
    have x1 := cell_of_row wr (w.heap.size + 1) 1 _ 85 (0, 0) b1
    have x2 := cell_of_row wr (w.heap.size + 1) 2 _ 85 (0, 0) b1
    have x3 := cell_of_row wr (w.heap.size + 1) 3 _ 85 (0, 0) b1
    simp only [List.getElem?_toArray, List.getElem?_cons_succ, List.getElem?_cons_zero] at x0 x1 x2 x3
    clear b0 b1 b2 hBr
    by_cases hlt : k < N
    · obtain ⟨c0, c1, c2, c3⟩ := HC.out k hlt
      have d0 := (HBR.out.cell (p := ⟨g, k * 4, none⟩) hgs).trans c0
      have d1 := (HBR.out.cell (p := ⟨g, k * 4 + 1, none⟩) hgs).trans c1
      have d2 := (HBR.out.cell (p := ⟨g, k * 4 + 2, none⟩) hgs).trans c2
      have d3 := (HBR.out.cell (p := ⟨g, k * 4 + 3, none⟩) hgs).trans c3
      have hdk : decide ((k : Int) < (N : Int)) = true := by simp; omega
      by_cases hmn : ns.getD k 0 < n
      · have hdm : decide (((ns.getD k 0 : Nat) : Int) < (n : Int)) = true := decide_eq_true (by omega)
        have HT : Hid ((ns.take (k + 1)).map (entOf s) = (ns.take k).map (entOf s) ++ [entOf s (ns.getD k 0)]) := take_succ_getD ns k (by have := HLN.out; omega) (entOf s)
        have HEC : Hid ((entOf s (ns.getD k 0)).cells.toArray = #[.int .i64 (ns.getD k 0 : Nat), .string (strOfNums (s.B (ns.getD k 0))), .string (strOfNums (s.S (ns.getD k 0))), .bool (s.L (ns.getD k 0))]) := rfl
        have HLE : Hid (((ns.take k).map (entOf s)).length ≤ 1000000) := by
          have : ((ns.take k).map (entOf s)).length ≤ 1000000 := by simp; omega
          exact this
        have HJ2 : Hid (∀ j, j < k + 1 → ns.getD j 0 < n) := fun j hj => by
          by_cases e : j = k
          · subst e; exact hmn
          · exact HJ.out j (by omega)
        clear c0 c1 c2 c3 HC HRest HF HE cW hW
        generalize ns.getD k 0 = m at *
        generalize hen : entOf s m = em at *
        generalize strOfNums (s.B m) = t1 at *
        generalize strOfNums (s.S m) = t2 at *
        generalize s.L m = t3 at *
        clear hen
        go_wp2_with fail
        go_quiet (fail)
        go_wp2_with (first
          | (at_builtin; refine wp_app1 rfl _ _ rfl (w.heap.size + 3) _ ((ns.take k).map (entOf s)) em rfl (HB.out.off (Off.of_below (X := []) ((below_drewN (Below.refl _ _) _).alloc (Nat.le_refl _) _)) (by simp)) _ rfl (by rw [HEC.out]; exact heap_alloc_last _ _) HLE.out (by simp <;> omega) ?_; intro lv' w2 hB2 hb2)
          | fail)
        go_roundw
        case rel => exact ⟨k + 1, by omega, by go_num, by rw [HT.out]; exact hB2, HW.out.trans (((below_drewN (Below.refl _ _) _).alloc (by simpa using hws) _).trans hb2), HJ2.out⟩
        case measure => simp [intOf]; omega
      · have hge : n ≤ ns.getD k 0 := by omega
        have hdm : decide (((ns.getD k 0 : Nat) : Int) < (n : Int)) = false := decide_eq_false (by omega)
        have HLE : Hid (((ns.take k).map (entOf s)).length ≤ 1000000 ∧ ((ns.take k).map (entOf s) ++ [E0]).length ≤ 5000) := by
          have : ((ns.take k).map (entOf s)).length ≤ 1000000 ∧ ((ns.take k).map (entOf s) ++ [E0]).length ≤ 5000 := by simp; omega
          exact this
        by_cases hmn2 : ns.getD k 0 = n
        · have hqm : (((ns.getD k 0 : Nat) : Int) == (n : Int)) = true := by rw [hmn2]; exact beq_self_eq_true _
          have HFF : Hid (∀ w' lv', Blks w' w.heap.size lv' ((ns.take k).map (entOf s) ++ [E0] ++ (ns.drop (k + 1)).map (entOf s)) → Rf w' X (.agg (rcells s lv' done)) (putS s n b)) := fun w' lv' hbk => HF.out w' lv' k hk HJ.out (fun _ => by omega) (by rw [if_pos ⟨hmn2, hlt⟩]; simpa using hbk)
          have HRR : Hid (((ns.drop (k + 1)).map (entOf s)).length = N - (k + 1)) := by
            have : ((ns.drop (k + 1)).map (entOf s)).length = N - (k + 1) := by rw [List.length_map, List.length_drop, HLN.out]
            exact this
          have HRC : Hid (∀ W, Below w.heap.size w W → ∀ i u, (rowE ((ns.drop (k + 1)).map (entOf s)))[i]? = some u → W.cell? ((⟨g, (k + 1) * 4, none⟩ : Addr).add i) = some u) := HRest.out (k + 1)
          have HC0 : Hid (w.cell? ⟨g, k * 4, none⟩ = some (.int .i64 (ns.getD k 0 : Nat))) := c0
          clear c0 c1 c2 c3
          clear HC HRest HF hW
          generalize (ns.drop (k + 1)).map (entOf s) = es2 at *
          generalize (ns.take k).map (entOf s) = es1 at *
          generalize ns.getD k 0 = m at *
          obtain ⟨ES, hES⟩ : ∃ ES, es1 ++ [E0] ++ es2 = ES := ⟨_, rfl⟩
          have HES : Hid (es1 ++ [E0] ++ es2 = ES) := hES
          rw [hES] at HFF
          clear hES
          by_cases hck : cap = k + 1
          · go_wp2_with fail
            go_quiet (fail)
            go_wp2_with (first
              | (at_builtin; refine wp_app1 rfl _ _ rfl (w.heap.size + 3) _ es1 E0 rfl (HB.out.off (Off.of_below (X := []) ((below_drewN (Below.refl _ _) _).alloc (Nat.le_refl _) _)) (by simp)) _ rfl (by rw [HE.out]; exact heap_alloc_last _ _) HLE.out.1 (by simp <;> omega) ?_; intro lv2 w2 hB2 hb2; have HB2 : Hid (Blks w2 (w.heap.size + 3) lv2 (es1 ++ [E0])) := hB2; have HW2 : Hid (Below (w.heap.size + 3) W w2) := HW.out.trans (((below_drewN (Below.refl _ _) _).alloc (by simpa using hws) _).trans hb2); clear hB2 hb2)
              | fail)
            have HBR2 : Hid (Below w.heap.size w w2) := hBW.trans (HW2.out.mono (by omega))
            have hws2 : w.heap.size + 3 ≤ w2.heap.size := by have := HW2.out.size; omega
            obtain ⟨b0, b1, b2⟩ := cW.out w2 HW2.out
            obtain ⟨s0, s1, s2, s3, s4, s5, s6, t0, t1, t2, t3, t4, t5, t6⟩ := RC.of b0
            have y0 := cell_of_row w2 (w.heap.size + 1) 0 _ 85 (0, 0) b1
            simp only [List.getElem?_toArray, List.getElem?_cons_zero] at y0
            have e0 := (HBR2.out.cell (p := ⟨g, k * 4, none⟩) hgs).trans HC0.out
            clear b0 b1 b2 r0 r1 r2 r3 r4 r5 r6 x0 x1 x2 x3
            go_quiet (fail)
            go_wp2_with (first
              | (refine wp_appE rfl _ _ rfl (w.heap.size + 3) _ (es1 ++ [E0]) es2 rfl (HB2.out.off (Off.of_below (X := []) (below_drewN (Below.refl _ _) _)) (by simp)) ⟨g, 0, none⟩ (N - (k + 1)) (0) rfl HRR.out (fun i u hu => by have e : es2 = [] := List.eq_nil_of_length_eq_zero (by have := HRR.out; omega); rw [e] at hu; simp [rowE] at hu) (by have := HLE.out.2; omega) (by first | exact hws2 | simpa using hws2) ?_; intro lv3 w3 hB3 hb3; rw [HES.out] at hB3; have HB3 : Hid (Blks w3 (w.heap.size + 3) lv3 ES) := hB3; have HW3 : Hid (Below (w.heap.size + 3) W w3) := (below_drewN HW2.out _).trans hb3; obtain ⟨a3, cap3, e3, _⟩ := hB3.view; subst e3; obtain ⟨b0, b1, b2⟩ := cW.out w3 HW3.out; obtain ⟨c0, c1, c2, c3, c4, c5, c6, f0, f1, f2, f3, f4, f5, f6⟩ := RC.of b0; obtain ⟨d0, d1, d2, d3, d4, d5, d6, g0, g1, g2, g3, g4, g5, g6⟩ := RC.of b2; clear b0 b1 b2 hB3 hb3)
              | fail)
            generalize ES.length = n3 at *
            refine bodyPost_ret (v := .agg (rcells s (.slice a3 n3 cap3) done)) (by simp [results, Try.results46, go_sem, d0, d1, d2, d3, d4, d5, d6]) rfl ⟨_, rfl, HFF.out _ _ ((HB3.out.off (X := [w.heap.size, w.heap.size + 2]) ?_ ?_).mono (by omega)), ?_⟩
            · iterate 8 (refine Off.setCell ?_ (by simp) _)
              exact Off.refl _ _
            · intro g hg hm
              have := (World.ownsRow.lt HB3.out g hg).1
              simp at hm
              omega
            · iterate 8 (refine Below.setCell ?_ (by simp <;> omega) _)
              exact hBW.trans (HW3.out.mono (by omega))
          · have hck' : k + 1 < cap := by omega
            go_wp2_with fail
            go_quiet (fail)
            go_wp2_with (first
              | (at_builtin; refine wp_app1 rfl _ _ rfl (w.heap.size + 3) _ es1 E0 rfl (HB.out.off (Off.of_below (X := []) ((below_drewN (Below.refl _ _) _).alloc (Nat.le_refl _) _)) (by simp)) _ rfl (by rw [HE.out]; exact heap_alloc_last _ _) HLE.out.1 (by simp <;> omega) ?_; intro lv2 w2 hB2 hb2; have HB2 : Hid (Blks w2 (w.heap.size + 3) lv2 (es1 ++ [E0])) := hB2; have HW2 : Hid (Below (w.heap.size + 3) W w2) := HW.out.trans (((below_drewN (Below.refl _ _) _).alloc (by simpa using hws) _).trans hb2); clear hB2 hb2)
              | fail)
            have HBR2 : Hid (Below w.heap.size w w2) := hBW.trans (HW2.out.mono (by omega))
            have hws2 : w.heap.size + 3 ≤ w2.heap.size := by have := HW2.out.size; omega
            obtain ⟨b0, b1, b2⟩ := cW.out w2 HW2.out
            obtain ⟨s0, s1, s2, s3, s4, s5, s6, t0, t1, t2, t3, t4, t5, t6⟩ := RC.of b0
            have y0 := cell_of_row w2 (w.heap.size + 1) 0 _ 85 (0, 0) b1
            simp only [List.getElem?_toArray, List.getElem?_cons_zero] at y0
            have e0 := (HBR2.out.cell (p := ⟨g, k * 4, none⟩) hgs).trans HC0.out
            clear b0 b1 b2 r0 r1 r2 r3 r4 r5 r6 x0 x1 x2 x3
            go_quiet (fail)
            go_wp2_with (first
              | (refine wp_appE rfl _ _ rfl (w.heap.size + 3) _ (es1 ++ [E0]) es2 rfl (HB2.out.off (Off.of_below (X := []) (below_drewN (Below.refl _ _) _)) (by simp)) ⟨g, (k + 1) * 4, none⟩ (N - (k + 1)) (cap - (k + 1)) rfl HRR.out (HRC.out _ (below_drewN HBR2.out _)) (by have := HLE.out.2; omega) (by first | exact hws2 | simpa using hws2) ?_; intro lv3 w3 hB3 hb3; rw [HES.out] at hB3; have HB3 : Hid (Blks w3 (w.heap.size + 3) lv3 ES) := hB3; have HW3 : Hid (Below (w.heap.size + 3) W w3) := (below_drewN HW2.out _).trans hb3; obtain ⟨a3, cap3, e3, _⟩ := hB3.view; subst e3; obtain ⟨b0, b1, b2⟩ := cW.out w3 HW3.out; obtain ⟨c0, c1, c2, c3, c4, c5, c6, f0, f1, f2, f3, f4, f5, f6⟩ := RC.of b0; obtain ⟨d0, d1, d2, d3, d4, d5, d6, g0, g1, g2, g3, g4, g5, g6⟩ := RC.of b2; clear b0 b1 b2 hB3 hb3)
              | fail)
            generalize ES.length = n3 at *
            refine bodyPost_ret (v := .agg (rcells s (.slice a3 n3 cap3) done)) (by simp [results, Try.results46, go_sem, d0, d1, d2, d3, d4, d5, d6]) rfl ⟨_, rfl, HFF.out _ _ ((HB3.out.off (X := [w.heap.size, w.heap.size + 2]) ?_ ?_).mono (by omega)), ?_⟩
            · iterate 8 (refine Off.setCell ?_ (by simp) _)
              exact Off.refl _ _
            · intro g hg hm
              have := (World.ownsRow.lt HB3.out g hg).1
              simp at hm
              omega
            · iterate 8 (refine Below.setCell ?_ (by simp <;> omega) _)
              exact hBW.trans (HW3.out.mono (by omega))
        · have hqm : (((ns.getD k 0 : Nat) : Int) == (n : Int)) = false := by
            have : ((ns.getD k 0 : Nat) : Int) ≠ (n : Int) := by omega
            exact beq_eq_false_iff_ne.2 this
          have HFF : Hid (∀ w' lv', Blks w' w.heap.size lv' ((ns.take k).map (entOf s) ++ [E0] ++ (ns.drop k).map (entOf s)) → Rf w' X (.agg (rcells s lv' done)) (putS s n b)) := fun w' lv' hbk => HF.out w' lv' k hk HJ.out (fun _ => by omega) (by rw [if_neg (fun e => hmn2 e.1)]; simpa using hbk)
          have HRR : Hid (((ns.drop k).map (entOf s)).length = N - k) := by
            have : ((ns.drop k).map (entOf s)).length = N - k := by rw [List.length_map, List.length_drop, HLN.out]
            exact this
          have HRC : Hid (∀ W, Below w.heap.size w W → ∀ i u, (rowE ((ns.drop k).map (entOf s)))[i]? = some u → W.cell? ((⟨g, k * 4, none⟩ : Addr).add i) = some u) := HRest.out k
          have HC0 : Hid (w.cell? ⟨g, k * 4, none⟩ = some (.int .i64 (ns.getD k 0 : Nat))) := c0
          clear c0 c1 c2 c3
          clear HC HRest HF hW
          generalize (ns.drop k).map (entOf s) = es2 at *
          generalize (ns.take k).map (entOf s) = es1 at *
          generalize ns.getD k 0 = m at *
          obtain ⟨ES, hES⟩ : ∃ ES, es1 ++ [E0] ++ es2 = ES := ⟨_, rfl⟩
          have HES : Hid (es1 ++ [E0] ++ es2 = ES) := hES
          rw [hES] at HFF
          clear hES
          have hck' : k < cap := by omega
          go_wp2_with fail
          go_quiet (fail)
          go_wp2_with (first
            | (at_builtin; refine wp_app1 rfl _ _ rfl (w.heap.size + 3) _ es1 E0 rfl (HB.out.off (Off.of_below (X := []) ((below_drewN (Below.refl _ _) _).alloc (Nat.le_refl _) _)) (by simp)) _ rfl (by rw [HE.out]; exact heap_alloc_last _ _) HLE.out.1 (by simp <;> omega) ?_; intro lv2 w2 hB2 hb2; have HB2 : Hid (Blks w2 (w.heap.size + 3) lv2 (es1 ++ [E0])) := hB2; have HW2 : Hid (Below (w.heap.size + 3) W w2) := HW.out.trans (((below_drewN (Below.refl _ _) _).alloc (by simpa using hws) _).trans hb2); clear hB2 hb2)
            | fail)
          have HBR2 : Hid (Below w.heap.size w w2) := hBW.trans (HW2.out.mono (by omega))
          have hws2 : w.heap.size + 3 ≤ w2.heap.size := by have := HW2.out.size; omega
          obtain ⟨b0, b1, b2⟩ := cW.out w2 HW2.out
          obtain ⟨s0, s1, s2, s3, s4, s5, s6, t0, t1, t2, t3, t4, t5, t6⟩ := RC.of b0
          have y0 := cell_of_row w2 (w.heap.size + 1) 0 _ 85 (0, 0) b1
          simp only [List.getElem?_toArray, List.getElem?_cons_zero] at y0
          have e0 := (HBR2.out.cell (p := ⟨g, k * 4, none⟩) hgs).trans HC0.out
          clear b0 b1 b2 r0 r1 r2 r3 r4 r5 r6 x0 x1 x2 x3
          go_quiet (fail)
          go_wp2_with (first
            | (refine wp_appE rfl _ _ rfl (w.heap.size + 3) _ (es1 ++ [E0]) es2 rfl (HB2.out.off (Off.of_below (X := []) (below_drewN (Below.refl _ _) _)) (by simp)) ⟨g, k * 4, none⟩ (N - k) (cap - k) rfl HRR.out (HRC.out _ (below_drewN HBR2.out _)) (by have := HLE.out.2; omega) (by first | exact hws2 | simpa using hws2) ?_; intro lv3 w3 hB3 hb3; rw [HES.out] at hB3; have HB3 : Hid (Blks w3 (w.heap.size + 3) lv3 ES) := hB3; have HW3 : Hid (Below (w.heap.size + 3) W w3) := (below_drewN HW2.out _).trans hb3; obtain ⟨a3, cap3, e3, _⟩ := hB3.view; subst e3; obtain ⟨b0, b1, b2⟩ := cW.out w3 HW3.out; obtain ⟨c0, c1, c2, c3, c4, c5, c6, f0, f1, f2, f3, f4, f5, f6⟩ := RC.of b0; obtain ⟨d0, d1, d2, d3, d4, d5, d6, g0, g1, g2, g3, g4, g5, g6⟩ := RC.of b2; clear b0 b1 b2 hB3 hb3)
            | fail)
          generalize ES.length = n3 at *
          refine bodyPost_ret (v := .agg (rcells s (.slice a3 n3 cap3) done)) (by simp [results, Try.results46, go_sem, d0, d1, d2, d3, d4, d5, d6]) rfl ⟨_, rfl, HFF.out _ _ ((HB3.out.off (X := [w.heap.size, w.heap.size + 2]) ?_ ?_).mono (by omega)), ?_⟩
          · iterate 8 (refine Off.setCell ?_ (by simp) _)
            exact Off.refl _ _
          · intro g hg hm
            have := (World.ownsRow.lt HB3.out g hg).1
            simp at hm
            omega
          · iterate 8 (refine Below.setCell ?_ (by simp <;> omega) _)
            exact hBW.trans (HW3.out.mono (by omega))
    · have hdk : decide ((k : Int) < (N : Int)) = false := by simp; omega
      have HLE : Hid (((ns.take k).map (entOf s)).length ≤ 1000000 ∧ ((ns.take k).map (entOf s) ++ [E0]).length ≤ 5000) := by
        have : ((ns.take k).map (entOf s)).length ≤ 1000000 ∧ ((ns.take k).map (entOf s) ++ [E0]).length ≤ 5000 := by simp; omega
        exact this
      have HFF : Hid (∀ w' lv', Blks w' w.heap.size lv' ((ns.take k).map (entOf s) ++ [E0] ++ (ns.drop k).map (entOf s)) → Rf w' X (.agg (rcells s lv' done)) (putS s n b)) := fun w' lv' hbk => HF.out w' lv' k hk HJ.out (fun _ => by omega) (by rw [if_neg (fun e => hlt e.2)]; simpa using hbk)
      have HRR : Hid (((ns.drop k).map (entOf s)).length = N - k) := by
        have : ((ns.drop k).map (entOf s)).length = N - k := by rw [List.length_map, List.length_drop, HLN.out]
        exact this
      have HRC : Hid (∀ W, Below w.heap.size w W → ∀ i u, (rowE ((ns.drop k).map (entOf s)))[i]? = some u → W.cell? ((⟨g, k * 4, none⟩ : Addr).add i) = some u) := HRest.out k
      clear HC HRest HF hW
      generalize (ns.drop k).map (entOf s) = es2 at *
      generalize (ns.take k).map (entOf s) = es1 at *
      generalize ns.getD k 0 = m at *
      obtain ⟨ES, hES⟩ : ∃ ES, es1 ++ [E0] ++ es2 = ES := ⟨_, rfl⟩
      have HES : Hid (es1 ++ [E0] ++ es2 = ES) := hES
      rw [hES] at HFF
      clear hES
      by_cases hck : cap = k
      · go_wp2_with fail
        go_quiet (fail)
        go_wp2_with (first
          | (at_builtin; refine wp_app1 rfl _ _ rfl (w.heap.size + 3) _ es1 E0 rfl (HB.out.off (Off.of_below (X := []) ((below_drewN (Below.refl _ _) _).alloc (Nat.le_refl _) _)) (by simp)) _ rfl (by rw [HE.out]; exact heap_alloc_last _ _) HLE.out.1 (by simp <;> omega) ?_; intro lv2 w2 hB2 hb2; have HB2 : Hid (Blks w2 (w.heap.size + 3) lv2 (es1 ++ [E0])) := hB2; have HW2 : Hid (Below (w.heap.size + 3) W w2) := HW.out.trans (((below_drewN (Below.refl _ _) _).alloc (by simpa using hws) _).trans hb2); clear hB2 hb2)
          | fail)
        have HBR2 : Hid (Below w.heap.size w w2) := hBW.trans (HW2.out.mono (by omega))
        have hws2 : w.heap.size + 3 ≤ w2.heap.size := by have := HW2.out.size; omega
        obtain ⟨b0, b1, b2⟩ := cW.out w2 HW2.out
        obtain ⟨s0, s1, s2, s3, s4, s5, s6, t0, t1, t2, t3, t4, t5, t6⟩ := RC.of b0
        have y0 := cell_of_row w2 (w.heap.size + 1) 0 _ 85 (0, 0) b1
        simp only [List.getElem?_toArray, List.getElem?_cons_zero] at y0
        clear b0 b1 b2 r0 r1 r2 r3 r4 r5 r6 x0 x1 x2 x3
        go_quiet (fail)
        go_wp2_with (first
          | (refine wp_appE rfl _ _ rfl (w.heap.size + 3) _ (es1 ++ [E0]) es2 rfl (HB2.out.off (Off.of_below (X := []) (below_drewN (Below.refl _ _) _)) (by simp)) ⟨g, 0, none⟩ (N - k) (0) rfl HRR.out (fun i u hu => by have e : es2 = [] := List.eq_nil_of_length_eq_zero (by have := HRR.out; omega); rw [e] at hu; simp [rowE] at hu) (by have := HLE.out.2; omega) (by first | exact hws2 | simpa using hws2) ?_; intro lv3 w3 hB3 hb3; rw [HES.out] at hB3; have HB3 : Hid (Blks w3 (w.heap.size + 3) lv3 ES) := hB3; have HW3 : Hid (Below (w.heap.size + 3) W w3) := (below_drewN HW2.out _).trans hb3; obtain ⟨a3, cap3, e3, _⟩ := hB3.view; subst e3; obtain ⟨b0, b1, b2⟩ := cW.out w3 HW3.out; obtain ⟨c0, c1, c2, c3, c4, c5, c6, f0, f1, f2, f3, f4, f5, f6⟩ := RC.of b0; obtain ⟨d0, d1, d2, d3, d4, d5, d6, g0, g1, g2, g3, g4, g5, g6⟩ := RC.of b2; clear b0 b1 b2 hB3 hb3)
          | fail)
        generalize ES.length = n3 at *
        refine bodyPost_ret (v := .agg (rcells s (.slice a3 n3 cap3) done)) (by simp [results, Try.results46, go_sem, d0, d1, d2, d3, d4, d5, d6]) rfl ⟨_, rfl, HFF.out _ _ ((HB3.out.off (X := [w.heap.size, w.heap.size + 2]) ?_ ?_).mono (by omega)), ?_⟩
        · iterate 8 (refine Off.setCell ?_ (by simp) _)
          exact Off.refl _ _
        · intro g hg hm
          have := (World.ownsRow.lt HB3.out g hg).1
          simp at hm
          omega
        · iterate 8 (refine Below.setCell ?_ (by simp <;> omega) _)
          exact hBW.trans (HW3.out.mono (by omega))
      · have hck' : k < cap := by omega
        go_wp2_with fail
        go_quiet (fail)
        go_wp2_with (first
          | (at_builtin; refine wp_app1 rfl _ _ rfl (w.heap.size + 3) _ es1 E0 rfl (HB.out.off (Off.of_below (X := []) ((below_drewN (Below.refl _ _) _).alloc (Nat.le_refl _) _)) (by simp)) _ rfl (by rw [HE.out]; exact heap_alloc_last _ _) HLE.out.1 (by simp <;> omega) ?_; intro lv2 w2 hB2 hb2; have HB2 : Hid (Blks w2 (w.heap.size + 3) lv2 (es1 ++ [E0])) := hB2; have HW2 : Hid (Below (w.heap.size + 3) W w2) := HW.out.trans (((below_drewN (Below.refl _ _) _).alloc (by simpa using hws) _).trans hb2); clear hB2 hb2)
          | fail)
        have HBR2 : Hid (Below w.heap.size w w2) := hBW.trans (HW2.out.mono (by omega))
        have hws2 : w.heap.size + 3 ≤ w2.heap.size := by have := HW2.out.size; omega
        obtain ⟨b0, b1, b2⟩ := cW.out w2 HW2.out
        obtain ⟨s0, s1, s2, s3, s4, s5, s6, t0, t1, t2, t3, t4, t5, t6⟩ := RC.of b0
        have y0 := cell_of_row w2 (w.heap.size + 1) 0 _ 85 (0, 0) b1
        simp only [List.getElem?_toArray, List.getElem?_cons_zero] at y0
        clear b0 b1 b2 r0 r1 r2 r3 r4 r5 r6 x0 x1 x2 x3
        go_quiet (fail)
        go_wp2_with (first
          | (refine wp_appE rfl _ _ rfl (w.heap.size + 3) _ (es1 ++ [E0]) es2 rfl (HB2.out.off (Off.of_below (X := []) (below_drewN (Below.refl _ _) _)) (by simp)) ⟨g, k * 4, none⟩ (N - k) (cap - k) rfl HRR.out (HRC.out _ (below_drewN HBR2.out _)) (by have := HLE.out.2; omega) (by first | exact hws2 | simpa using hws2) ?_; intro lv3 w3 hB3 hb3; rw [HES.out] at hB3; have HB3 : Hid (Blks w3 (w.heap.size + 3) lv3 ES) := hB3; have HW3 : Hid (Below (w.heap.size + 3) W w3) := (below_drewN HW2.out _).trans hb3; obtain ⟨a3, cap3, e3, _⟩ := hB3.view; subst e3; obtain ⟨b0, b1, b2⟩ := cW.out w3 HW3.out; obtain ⟨c0, c1, c2, c3, c4, c5, c6, f0, f1, f2, f3, f4, f5, f6⟩ := RC.of b0; obtain ⟨d0, d1, d2, d3, d4, d5, d6, g0, g1, g2, g3, g4, g5, g6⟩ := RC.of b2; clear b0 b1 b2 hB3 hb3)
          | fail)
        generalize ES.length = n3 at *
        refine bodyPost_ret (v := .agg (rcells s (.slice a3 n3 cap3) done)) (by simp [results, Try.results46, go_sem, d0, d1, d2, d3, d4, d5, d6]) rfl ⟨_, rfl, HFF.out _ _ ((HB3.out.off (X := [w.heap.size, w.heap.size + 2]) ?_ ?_).mono (by omega)), ?_⟩
        · iterate 8 (refine Off.setCell ?_ (by simp) _)
          exact Off.refl _ _
        · intro g hg hm
          have := (World.ownsRow.lt HB3.out g hg).1
          simp at hm
          omega
        · iterate 8 (refine Below.setCell ?_ (by simp <;> omega) _)
          exact hBW.trans (HW3.out.mono (by omega))
end Go.Proofs.Ytmapjikbplindaa
