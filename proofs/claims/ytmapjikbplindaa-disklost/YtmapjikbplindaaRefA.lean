/- The document's disk, a value: its blocks in a slice; zeros, step, get. -/
import Derived.Test.YtmapjikbplindaaCrash
import Derived.Laws.AppendOwnNone
namespace Go.Proofs.Ytmapjikbplindaa
open Go.RowKit Go.Maps
set_option maxRecDepth 20000

/-- A block that was written: its number, bytes, safe bytes, loose or not. -/
structure Ent where
  n : Nat
  b : List Int
  s : List Int
  l : Bool
def Ent.cells (e : Ent) : List Value := [.int .i64 (e.n : Int), .string (strOfNums e.b), .string (strOfNums e.s), .bool e.l]
def entOf (s : DS) (n : Nat) : Ent := ⟨n, s.B n, s.S n, s.L n⟩
def rowE (es : List Ent) : List Value := es.flatMap Ent.cells
def Blks (w : World) (base : Nat) (lv : Value) (es : List Ent) : Prop := w.ownsRow base 85 4 lv es.length (rowE es)
theorem Try.info85 : (Try.prog.info? 85).map (fun i => (i.zero, i.size, i.bytes)) = some (some (.agg #[.int .i64 0, .string ByteArray.empty, .string ByteArray.empty, .bool false]), 4, 48) := by kernel_rfl
theorem len_rowE (es : List Ent) : (rowE es).length = es.length * 4 := by
  induction es with
  | nil => rfl
  | cons e es ih =>
    have : rowE (e :: es) = e.cells ++ rowE es := by simp [rowE]
    rw [this, List.length_append, ih]
    simp [Ent.cells]; omega
theorem rowE_append (a b : List Ent) : rowE (a ++ b) = rowE a ++ rowE b := by simp [rowE]
theorem rowE_one (e : Ent) : rowE [e] = e.cells := by simp [rowE]
def eNil : Ent := ⟨0, [], [], false⟩
theorem rowE_get (es : List Ent) (i j : Nat) (hi : i < es.length) (hj : j < 4) : (rowE es)[i * 4 + j]? = (es.getD i eNil).cells[j]? := by
  induction es generalizing i with
  | nil => simp at hi
  | cons e es ih =>
    have e1 : rowE (e :: es) = e.cells ++ rowE es := by simp [rowE]
    have hl : e.cells.length = 4 := rfl
    cases i with
    | zero => rw [e1, List.getElem?_append_left (by omega)]; simp
    | succ i =>
      rw [e1, List.getElem?_append_right (by omega), hl, show (i + 1) * 4 + j - 4 = i * 4 + j by omega, ih i (by simp at hi; omega)]
      simp
theorem Blks.view {w : World} {base : Nat} {lv : Value} {es : List Ent} (h : Blks w base lv es) : ∃ a cap, lv = .slice a es.length cap ∧ es.length ≤ cap ∧ cap ≤ maxLen ∧ (∀ i, i < es.length → ∃ g, a = some ⟨g, 0, none⟩ ∧ base ≤ g ∧ g < w.heap.size ∧
    w.cell? ⟨g, i * 4, none⟩ = some (.int .i64 ((es.getD i eNil).n : Int)) ∧ w.cell? ⟨g, i * 4 + 1, none⟩ = some (.string (strOfNums (es.getD i eNil).b)) ∧ w.cell? ⟨g, i * 4 + 2, none⟩ = some (.string (strOfNums (es.getD i eNil).s)) ∧ w.cell? ⟨g, i * 4 + 3, none⟩ = some (.bool (es.getD i eNil).l)) := by
  have hl := World.ownsRow.lt h
  rcases h.2 with ⟨rfl, hn⟩ | ⟨g, cap, cur, rfl, hb, hg, hnc, hcm, hcs, htake⟩
  · refine ⟨none, 0, by rw [hn], by omega, by decide, fun i hi => by omega⟩
  · refine ⟨_, cap, rfl, hnc, hcm, fun i hi => ⟨g, rfl, hb, (hl g rfl).2, ?_⟩⟩
    have hc : ∀ j, j < 4 → w.cell? ⟨g, i * 4 + j, none⟩ = (es.getD i eNil).cells[j]? := by
      intro j hj
      rw [World.ownsRow.cellAt (g := g) h (i * 4 + j) (by omega), rowE_get es i j hi hj]
    exact ⟨hc 0 (by omega), hc 1 (by omega), hc 2 (by omega), hc 3 (by omega)⟩
theorem Blks.off {w w' : World} {base : Nat} {lv : Value} {es : List Ent} {X : List Nat} (h : Blks w base lv es) (ho : Off X w w') (hx : ∀ g, lv.ownBlock = some g → g ∉ X) : Blks w' base lv es := by
  have hl := World.ownsRow.lt h
  refine ⟨h.1, ?_⟩
  rcases h.2 with hn | ⟨g, cap, cur, rfl, hb, hg, rest⟩
  · exact .inl hn
  · exact .inr ⟨g, cap, cur, rfl, hb, (ho.block g (hl g rfl).2 (hx g rfl)).trans hg, rest⟩
theorem Blks.below {w w' : World} {base : Nat} {lv : Value} {es : List Ent} (h : Blks w base lv es) (hb : Below w.heap.size w w') : Blks w' base lv es := h.off (Off.of_below (X := []) hb) (by simp)
theorem Blks.nil (w : World) (base : Nat) : Blks w base (.slice none 0 0) [] := World.ownsRow_nil w base 85 4
theorem Blks.mono {w : World} {b1 b2 : Nat} {lv : Value} {es : List Ent} (h : Blks w b1 lv es) (hb : b2 ≤ b1) : Blks w b2 lv es := by
  refine ⟨h.1, ?_⟩
  rcases h.2 with hn | ⟨g, cap, cur, e, h1, rest⟩
  · exact .inl hn
  · exact .inr ⟨g, cap, cur, e, Nat.le_trans hb h1, rest⟩
theorem ent_one (es : List Ent) : ∀ u ∈ rowE es, u.oneCell' = true := by
  intro u hu
  obtain ⟨e, _, he⟩ := List.mem_flatMap.1 hu
  simp [Ent.cells] at he
  rcases he with rfl | rfl | rfl | rfl <;> rfl
/-- append of one block, laid in a block of its own. -/
theorem wp_app1 {ops : Array Oper} {rest : List Oper} {o : Oper} {a : Act} {Q : Exit → Act → World → Prop} {w : World} (hgd : o.guard = none) (s x : Operand)
    (ho : o.op = .call { callee := .builtin .append, args := #[s, x], argTypes := #[26, 26] }) (base : Nat) (lv : Value) (es : List Ent) (e : Ent) (hs : a.eval s = lv) (hown : Blks w base lv es)
    (g : Nat) (hx : a.eval x = .slice (some ⟨g, 0, none⟩) 1 1) (hg : w.heap[g]? = some (.cells e.cells.toArray 85 (0, 0))) (hlen : es.length ≤ 1000000) (hbase : base ≤ w.heap.size)
    (h : ∀ lv' w', Blks w' base lv' (es ++ [e]) → Below base w w' → wpList Try.prog ops Q rest (a.put o.dst lv') w') : wpList Try.prog ops Q (o :: rest) a w := by
  obtain ⟨i0, hi, hz0, hz1, hz2⟩ := info_parts Try.info85
  refine wpList_append_own w hgd s x 26 ho base 85 i0 (.agg #[.int .i64 0, .string ByteArray.empty, .string ByteArray.empty, .bool false]) 4 48 Try.underlying26 hi hz0 hz1 hz2 rfl (by decide) lv es.length (rowE es) hs hown ⟨g, 0, none⟩ 1 1 e.cells hx rfl ?_ (fun u hu => ent_one [e] u (by rw [rowE_one]; exact hu)) (by unfold maxLen; omega) (by omega) hbase ?_
  · intro j u hu
    rw [add_plain, Nat.zero_add, cell_of_row _ _ _ _ _ _ hg]
    simpa using hu
  · intro v' w' h1 h2 _
    refine h v' w' ?_ ((Below.refl base w).grown h2 hbase (fun k hk => (World.ownsRow.lt hown k hk).1))
    unfold Blks
    rw [List.length_append, rowE_append, rowE_one]
    exact h1

/-- The document's disk s, its slice in no block of X. -/
def Rf (w : World) (X : List Nat) (v : Value) (s : DS) : Prop :=
  s.Ok ∧ ∃ (lv : Value) (done : Bool) (ns : List Nat), v = .agg #[.int .i64 s.room, lv, .bool s.down, .int .i64 s.ops, .int .i64 s.reads, .int .i64 s.fails, .bool done] ∧ (0 ≤ s.fails → done = s.done) ∧
    ns.Pairwise (· < ·) ∧ (∀ n ∈ ns, n < s.room) ∧ (∀ n, n < s.room → n ∉ ns → s.B n = zs256 ∧ s.S n = zs256 ∧ s.L n = false) ∧ Blks w 0 lv (ns.map (entOf s)) ∧ (∀ g, lv.ownBlock = some g → g ∉ X)
theorem Rf.off {w w' : World} {X Y : List Nat} {v : Value} {s : DS} (h : Rf w X v s) (ho : Off Y w w') (hs : ∀ y ∈ Y, y ∈ X) : Rf w' X v s := by
  obtain ⟨ok, lv, done, ns, e, h1, h2, h3, h4, h5, h6⟩ := h
  exact ⟨ok, lv, done, ns, e, h1, h2, h3, h4, h5.off ho (fun g hg hm => h6 g hg (hs g hm)), h6⟩
theorem Rf.below {w w' : World} {X : List Nat} {v : Value} {s : DS} (h : Rf w X v s) (hb : Below w.heap.size w w') : Rf w' X v s := h.off (Off.of_below (X := []) hb) (by simp)
theorem pw_len' (room : Nat) : ∀ (ns : List Nat) (a : Nat), ns.Pairwise (· < ·) → (∀ n ∈ ns, a ≤ n ∧ n < room) → ns.length ≤ room - a
  | [], _, _, _ => Nat.zero_le _
  | n :: ns, a, h1, h2 => by
    obtain ⟨q1, q2⟩ := List.pairwise_cons.1 h1
    have h := pw_len' room ns (n + 1) q2 (fun m hm => ⟨q1 m hm, (h2 m (List.mem_cons_of_mem _ hm)).2⟩)
    have := h2 n (by simp)
    simp only [List.length_cons]
    omega
theorem pw_len {ns : List Nat} {room : Nat} (h1 : ns.Pairwise (· < ·)) (h2 : ∀ n ∈ ns, n < room) : ns.length ≤ room := by
  have := pw_len' room ns 0 h1 (fun n hn => ⟨Nat.zero_le _, h2 n hn⟩)
  omega

set_option maxHeartbeats 400000 in
theorem zeros_any (w : World) : Calls Try.prog 53 #[] w fun e w' => e = .returned (.string (strOfNums zs256)) ∧ Below w.heap.size w w' := by
  go_enter Try.func53, Try.ntmps53
  go_wp2_with (first
    | (refine wp_make256 rfl _ _ rfl rfl rfl ?_; intro w1 hk1 hs1 hb1; have hcv := conv_own (own_of_row len_zs256 (Nat.le_refl _) hk1) (isB_zeros.2))
    | fail)
  go_ret
  exact ⟨rfl, hb1⟩
set_option maxHeartbeats 800000 in
theorem rstep_any (R1 R2 : Int) (a1 a2 : Option Addr) (n1 c1 n2 c2 : Nat) (d1 d2 dn1 dn2 : Bool) (o1 o2 rd1 rd2 f1 f2 : Int) (w : World) (hlo : -1 ≤ f1) (hhi : f1 ≤ 9223372036854775807) :
    Calls Try.prog 43 #[.agg #[.int .i64 R1, .slice a1 n1 c1, .bool d1, .int .i64 o1, .int .i64 rd1, .int .i64 f1, .bool dn1], .agg #[.int .i64 R2, .slice a2 n2 c2, .bool d2, .int .i64 o2, .int .i64 rd2, .int .i64 f2, .bool dn2]] w fun e w' =>
      e = .returned (.tuple #[if f1 = 0 then (if dn1 = true then .agg #[.int .i64 R2, .slice a2 n2 c2, .bool true, .int .i64 (inc o1), .int .i64 rd2, .int .i64 (-1), .bool dn2] else .agg #[.int .i64 R1, .slice a1 n1 c1, .bool true, .int .i64 (inc o1), .int .i64 rd1, .int .i64 (-1), .bool dn1])
        else .agg #[.int .i64 R2, .slice a2 n2 c2, .bool d2, .int .i64 (inc o1), .int .i64 rd2, .int .i64 (if 0 < f1 then f1 - 1 else f1), .bool dn2], .int .i64 (if f1 = 0 then 11 else 0)]) ∧ Below w.heap.size w w' := by
  unfold inc
  by_cases h0 : f1 = 0
  · subst h0
    simp only [if_true]
    cases dn1
    · simp only [Bool.false_eq_true, if_false]
      go_enter Try.func43, Try.ntmps43
      go_wp2
      exact bodyPost_ret (v := .tuple #[.agg #[.int .i64 R1, .slice a1 n1 c1, .bool true, .int .i64 (wrap64 (o1 + 1)), .int .i64 rd1, .int .i64 (-1), .bool false], .int .i64 11]) (by simp [results, Try.results43, go_sem]) rfl ⟨rfl, (by repeat (first | exact Below.refl _ _ | refine Below.setCell ?_ (by simp <;> omega) _ | refine Below.alloc ?_ (by simp <;> omega) _))⟩
    · simp only [if_true]
      go_enter Try.func43, Try.ntmps43
      go_wp2
      exact bodyPost_ret (v := .tuple #[.agg #[.int .i64 R2, .slice a2 n2 c2, .bool true, .int .i64 (wrap64 (o1 + 1)), .int .i64 rd2, .int .i64 (-1), .bool dn2], .int .i64 11]) (by simp [results, Try.results43, go_sem]) rfl ⟨rfl, (by repeat (first | exact Below.refl _ _ | refine Below.setCell ?_ (by simp <;> omega) _ | refine Below.alloc ?_ (by simp <;> omega) _))⟩
  · rw [if_neg h0, if_neg h0]
    have hb : (f1 == 0) = false := by simpa using h0
    by_cases hp : 0 < f1
    · rw [if_pos hp]
      have hd : decide (0 ≤ f1) = true := by simp; omega
      have hw : wrap64 (f1 - 1) = f1 - 1 := by unfold wrap64; omega
      go_enter Try.func43, Try.ntmps43
      go_wp2
      exact bodyPost_ret (v := .tuple #[.agg #[.int .i64 R2, .slice a2 n2 c2, .bool d2, .int .i64 (wrap64 (o1 + 1)), .int .i64 rd2, .int .i64 (f1 - 1), .bool dn2], .int .i64 0]) (by simp [results, Try.results43, go_sem]) rfl ⟨rfl, (by repeat (first | exact Below.refl _ _ | refine Below.setCell ?_ (by simp <;> omega) _ | refine Below.alloc ?_ (by simp <;> omega) _))⟩
    · rw [if_neg hp]
      have hd : decide (0 ≤ f1) = false := by simp; omega
      go_enter Try.func43, Try.ntmps43
      go_wp2
      exact bodyPost_ret (v := .tuple #[.agg #[.int .i64 R2, .slice a2 n2 c2, .bool d2, .int .i64 (wrap64 (o1 + 1)), .int .i64 rd2, .int .i64 f1, .bool dn2], .int .i64 0]) (by simp [results, Try.results43, go_sem]) rfl ⟨rfl, (by repeat (first | exact Below.refl _ _ | refine Below.setCell ?_ (by simp <;> omega) _ | refine Below.alloc ?_ (by simp <;> omega) _))⟩

theorem getD_map (f : Nat → Ent) (ns : List Nat) (i : Nat) (h : i < ns.length) : (ns.map f).getD i eNil = f (ns.getD i 0) := by
  rw [List.getD_eq_getElem?_getD, List.getElem?_map, List.getElem?_eq_getElem h, List.getD_eq_getElem?_getD, List.getElem?_eq_getElem h]
  rfl
set_option maxHeartbeats 800000 in
theorem rget_any (X : List Nat) (v : Value) (s : DS) (n : Nat) (w : World) (h : Rf w X v s) (hn : n < s.room) :
    Calls Try.prog 45 #[v, .int .i64 n] w fun e w' => e = .returned (.agg #[.int .i64 n, .string (strOfNums (s.B n)), .string (strOfNums (s.S n)), .bool (s.L n)]) ∧ Below w.heap.size w w' := by
  obtain ⟨ok, lv, done, ns, rfl, h1, h2, h3, h4, h5, h6⟩ := h
  have hlen := pw_len h2 h3
  have hroom := ok.room
  obtain ⟨a, cap, rfl, hcap, hcm, hcell⟩ := h5.view
  rw [List.length_map] at hcap hcell ⊢
  have HC : Hid (∀ i, i < ns.length → ∃ g, a = some ⟨g, 0, none⟩ ∧ 0 ≤ g ∧ g < w.heap.size ∧ w.cell? ⟨g, i * 4, none⟩ = some (.int .i64 (ns.getD i 0 : Nat)) ∧ w.cell? ⟨g, i * 4 + 1, none⟩ = some (.string (strOfNums (s.B (ns.getD i 0)))) ∧ w.cell? ⟨g, i * 4 + 2, none⟩ = some (.string (strOfNums (s.S (ns.getD i 0)))) ∧ w.cell? ⟨g, i * 4 + 3, none⟩ = some (.bool (s.L (ns.getD i 0)))) := by
    intro i hi
    obtain ⟨g, q⟩ := hcell i hi
    rw [getD_map _ _ _ hi] at q
    exact ⟨g, q⟩
  have HN : Hid (n ∉ ns → s.B n = zs256 ∧ s.S n = zs256 ∧ s.L n = false) := h4 n hn
  have HM : Hid (∀ k, k ≤ ns.length → (∀ j, j < k → ns.getD j 0 ≠ n) → k = ns.length → n ∉ ns) := by
    intro k hk hne e hm
    obtain ⟨j, hj, e2⟩ := List.getElem_of_mem hm
    exact hne j (by omega) (by rw [List.getD_eq_getElem?_getD, List.getElem?_eq_getElem hj]; exact e2)
  have HZ := zeros_any
  clear hcell h1 h2 h3 h4 h5 h6 ok
  generalize hN : ns.length = N at *
  have HLN : Hid (ns.length = N) := hN
  clear hN
  go_enter Try.func45, Try.ntmps45
  go_wp2
  go_loopw [5] (fun iv wr => ∃ k : Nat, k ≤ N ∧ iv = .int .i64 k ∧ Hid (∀ j, j < k → ns.getD j 0 ≠ n) ∧ wr = (w.alloc (.cells #[.int .i64 s.room, .slice a N cap, .bool s.down, .int .i64 s.ops, .int .i64 s.reads, .int .i64 s.fails, .bool done] 28)).alloc (.cells #[.int .i64 0, .string ByteArray.empty, .string ByteArray.empty, .bool false] 85)) (fun iv _ => N - (intOf iv).toNat)
  case atStart => exact ⟨0, Nat.zero_le _, rfl, (fun j hj => by omega), rfl⟩
  case round =>
    obtain ⟨k, hk, rfl, HJ, rfl⟩ := hrel
    by_cases hlt : k < N
    · obtain ⟨g, rfl, _, hgs, c0, c1, c2, c3⟩ := HC.out k hlt
      have hB := ((Below.refl w.heap.size w).alloc (Nat.le_refl _) (.cells #[.int .i64 s.room, .slice (some ⟨g, 0, none⟩) N cap, .bool s.down, .int .i64 s.ops, .int .i64 s.reads, .int .i64 s.fails, .bool done] 28)).alloc (by simp) (.cells #[.int .i64 0, .string ByteArray.empty, .string ByteArray.empty, .bool false] 85)
      have d0 := (hB.cell (p := ⟨g, k * 4, none⟩) hgs).trans c0
      have d1 := (hB.cell (p := ⟨g, k * 4 + 1, none⟩) hgs).trans c1
      have d2 := (hB.cell (p := ⟨g, k * 4 + 2, none⟩) hgs).trans c2
      have d3 := (hB.cell (p := ⟨g, k * 4 + 3, none⟩) hgs).trans c3
      clear c0 c1 c2 c3 hB
      by_cases he : ns.getD k 0 = n
      · rw [he] at d0 d1 d2 d3
        go_wp2
        refine bodyPost_ret (v := .agg #[.int .i64 n, .string (strOfNums (s.B n)), .string (strOfNums (s.S n)), .bool (s.L n)]) (by simp [results, Try.results45, go_sem]) rfl ⟨rfl, ?_⟩
        repeat (first | exact Below.refl _ _ | refine Below.setCell ?_ (by simp <;> omega) _ | refine Below.alloc ?_ (by simp <;> omega) _)
      · have HJ' : Hid (∀ j, j < k + 1 → ns.getD j 0 ≠ n) := by
          intro j hj
          by_cases e : j = k
          · subst e; exact he
          · exact HJ.out j (by omega)
        generalize ns.getD k 0 = m at *
        have hq : ((m : Int) == (n : Int)) = false := by simp; omega
        go_wp2
        go_roundw
        case rel => exact ⟨k + 1, by omega, by go_num, HJ'.out, by first | rfl | trivial⟩
        case measure => simp [intOf]; omega
    · have e : k = N := by omega
      subst e
      obtain ⟨e1, e2, e3⟩ := HN.out (HM.out k hk HJ.out (by omega))
      have HZ1 : Hid (∀ w : World, Calls Try.prog 53 #[] w fun e w' => e = .returned (.string (strOfNums (s.B n))) ∧ Below w.heap.size w w') := by rw [e1]; exact HZ
      have HZ2 : Hid (∀ w : World, Calls Try.prog 53 #[] w fun e w' => e = .returned (.string (strOfNums (s.S n))) ∧ Below w.heap.size w w') := by rw [e2]; exact HZ
      have HE3 : Hid (s.L n = false) := e3
      have hB0 := ((Below.refl w.heap.size w).alloc (Nat.le_refl _) (.cells #[.int .i64 s.room, .slice a k cap, .bool s.down, .int .i64 s.ops, .int .i64 s.reads, .int .i64 s.fails, .bool done] 28)).alloc (by simp) (.cells #[.int .i64 0, .string ByteArray.empty, .string ByteArray.empty, .bool false] 85)
      have HB0 : Hid (Below w.heap.size w ((w.alloc (.cells #[.int .i64 s.room, .slice a k cap, .bool s.down, .int .i64 s.ops, .int .i64 s.reads, .int .i64 s.fails, .bool done] 28)).alloc (.cells #[.int .i64 0, .string ByteArray.empty, .string ByteArray.empty, .bool false] 85))) := hB0
      clear HJ HC HN HM HZ e1 e2 e3 hB0
      go_wp2_with (first
        | (go_at_call 53; refine (HZ1.out _).mono ?_; rintro e w5 ⟨rfl, hb5⟩; clear HZ1)
        | (go_at_call 53; refine (HZ2.out _).mono ?_; rintro e w6 ⟨rfl, hb6⟩; clear HZ2; have hbb := hb5.trans (hb6.mono hb5.size); have q0 := (hbb.cell (p := ⟨w.heap.size + 1, 0, none⟩) (by simp)).trans (by go_simp : _ = some (Value.int .i64 0)); have q1 := (hbb.cell (p := ⟨w.heap.size + 1, 1, none⟩) (by simp)).trans (by go_simp : _ = some (Value.string ByteArray.empty)); have q2 := (hbb.cell (p := ⟨w.heap.size + 1, 2, none⟩) (by simp)).trans (by go_simp : _ = some (Value.string ByteArray.empty)); have q3 := (hbb.cell (p := ⟨w.heap.size + 1, 3, none⟩) (by simp)).trans (by go_simp : _ = some (Value.bool false)); have r0 := (hbb.frozen (p := ⟨w.heap.size + 1, 0, none⟩) (by simp)).trans (by go_simp : _ = false); have r1 := (hbb.frozen (p := ⟨w.heap.size + 1, 1, none⟩) (by simp)).trans (by go_simp : _ = false); have r2 := (hbb.frozen (p := ⟨w.heap.size + 1, 2, none⟩) (by simp)).trans (by go_simp : _ = false); have r3 := (hbb.frozen (p := ⟨w.heap.size + 1, 3, none⟩) (by simp)).trans (by go_simp : _ = false))
        | fail)
      refine bodyPost_ret (v := .agg #[.int .i64 n, .string (strOfNums (s.B n)), .string (strOfNums (s.S n)), .bool false]) (by simp [results, Try.results45, go_sem, q0, q1, q2, q3]) rfl ⟨by rw [HE3.out], ?_⟩
      have hb6' : Below w.heap.size w w6 := HB0.out.trans (hbb.mono (by simp <;> omega))
      repeat (first | exact hb6' | refine Below.setCell ?_ (by simp) _)
end Go.Proofs.Ytmapjikbplindaa
