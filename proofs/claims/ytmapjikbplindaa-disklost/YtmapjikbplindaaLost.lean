/- Rows of strings beside a disk; what a crash leaves where nothing stays, and where all does. -/
import Derived.Test.YtmapjikbplindaaTwo
namespace Go.Proofs.Ytmapjikbplindaa
open Go.RowKit Go.Maps
set_option maxRecDepth 20000
set_option linter.unusedVariables false

theorem stay_nil : stay [] = (0, []) := rfl
theorem stay_one (f : List Int) : stay (1 :: f) = (256, f) := rfl
theorem crashB_nil (S : Nat → List Int) (n : Nat) : ∀ (ns : List Nat) (B : Nat → List Int), crashB ns [] B S n = if n ∈ ns then S n else B n
  | [], B => by simp [crashB]
  | m :: ns, B => by
    show crashB ns (stay []).2 (upd B m (mix (B m) (S m) (stay []).1)) S n = _
    rw [stay_nil, crashB_nil S n ns]
    have hm : mix (B m) (S m) 0 = S m := by simp [mix]
    rw [hm]
    by_cases h : n ∈ ns
    · rw [if_pos h, if_pos (List.mem_cons_of_mem _ h)]
    · rw [if_neg h]
      by_cases e : n = m
      · subst e; rw [upd_same, if_pos (by simp)]
      · rw [upd_other _ _ e, if_neg (by simp [e, h])]
theorem crash_none {s : DS} (h : s.Ok) (n : Nat) (hn : n < s.room) : (crashS s []).B n = s.S n := by
  show crashB (loose s) [] s.B s.S n = _
  rw [crashB_nil]
  by_cases hm : n ∈ loose s
  · rw [if_pos hm]
  · rw [if_neg hm]
    have hl : s.L n = false := by
      cases hL : s.L n
      · rfl
      · exact absurd (List.mem_filter.2 ⟨List.mem_range.2 hn, hL⟩) hm
    exact (h.same n hn hl).symm
theorem upd_id (B : Nat → List Int) (n : Nat) : upd B n (B n) = B := by
  funext k
  by_cases e : k = n
  · subst e; rw [upd_same]
  · rw [upd_other _ _ e]
theorem crashB_ones (room : Nat) (S B : Nat → List Int) (hS : ∀ n, n < room → (S n).length = 256) (hB : ∀ n, n < room → (B n).length = 256) : ∀ (ns : List Nat) (m : Nat), ns.length ≤ m → (∀ n ∈ ns, n < room) → crashB ns (List.replicate m 1) B S = B
  | [], m, _, _ => rfl
  | k :: ns, 0, h, _ => by simp at h
  | k :: ns, m + 1, h, hm => by
    show crashB ns (stay (List.replicate (m + 1) 1)).2 (upd B k (mix (B k) (S k) (stay (List.replicate (m + 1) 1)).1)) S = _
    rw [List.replicate_succ, stay_one]
    have hk : k < room := hm k (by simp)
    have he : mix (B k) (S k) 256 = B k := by
      unfold mix
      rw [List.take_of_length_le (by rw [hB k hk]; exact Nat.le_refl _), List.drop_of_length_le (by rw [hS k hk]; exact Nat.le_refl _), List.append_nil]
    rw [he, upd_id]
    exact crashB_ones room S B hS hB ns m (by simp at h; omega) (fun n hn => hm n (by simp [hn]))
theorem crash_all {s : DS} (h : s.Ok) (hr : s.room = 9) : (crashS s [1, 1, 1, 1, 1, 1, 1, 1, 1]).B = s.B := by
  show crashB (loose s) (List.replicate 9 1) s.B s.S = s.B
  refine crashB_ones s.room s.S s.B (fun n hn => (h.isS n hn).1) (fun n hn => (h.isB n hn).1) _ 9 ?_ (loose_lt s)
  unfold loose
  rw [hr]
  exact Nat.le_trans (List.length_filter_le _ _) (by simp)
theorem calm_write {s : DS} (h : Calm s) (n : Int) (zs : List Int) (hz : zs.length = 256) : Calm (writeS s n zs) ∧ (writeS s n zs).S = s.S := by
  by_cases hr : reachE s n = 0
  · have hn : 0 ≤ n ∧ n < 9 := by
      unfold reachE at hr
      rw [h.up, h.room] at hr
      simp only [Bool.false_eq_true, if_false] at hr
      by_cases hc : n < 0 ∨ ((9 : Nat) : Int) ≤ n
      · rw [if_pos hc] at hr; exact absurd hr (by decide)
      · omega
    obtain ⟨m, rfl⟩ := Int.eq_ofNat_of_zero_le hn.1
    have := h.write m (by omega) zs hz
    exact ⟨this.2.1, this.2.2.2.1⟩
  · have e : writeS s n zs = s := by
      unfold writeS
      rw [if_pos (Or.inl hr)]
    rw [e]
    exact ⟨h, rfl⟩

/-- A slice of strings of the call's own. -/
def OwnT (w : World) (base : Nat) (v : Value) (ts : List ByteArray) : Prop := w.ownsRow base 9 1 v ts.length (ts.map Value.string)
theorem OwnT.nil (w : World) (base : Nat) : OwnT w base (.slice none 0 0) [] := World.ownsRow_nil w base 9 1
theorem OwnT.off {w w' : World} {base : Nat} {v : Value} {ts : List ByteArray} {X : List Nat} (h : OwnT w base v ts) (ho : Off X w w') (hx : ∀ g, v.ownBlock = some g → g ∉ X) : OwnT w' base v ts := by
  have hl := World.ownsRow.lt h
  refine ⟨h.1, ?_⟩
  rcases h.2 with hn | ⟨g, cap, cur, rfl, hb, hg, rest⟩
  · exact .inl hn
  · exact .inr ⟨g, cap, cur, rfl, hb, (ho.block g (hl g rfl).2 (hx g rfl)).trans hg, rest⟩
theorem OwnT.low {w w' : World} {base : Nat} {v : Value} {ts : List ByteArray} {X : List Nat} (h : OwnT w base v ts) (ho : Off X w w') (hx : ∀ x ∈ X, x < base) : OwnT w' base v ts :=
  h.off ho (fun g hg hm => by have := (World.ownsRow.lt h g hg).1; have := hx g hm; omega)
theorem Off.of_under {b : Nat} {W W' : World} (h : Below b W W') : Off ((List.range W.heap.size).filter (fun k => decide (b ≤ k))) W W' :=
  ⟨h.os, h.tape, h.output, h.size, fun k hk hx => h.block k (by
    simp only [List.mem_filter, List.mem_range, decide_eq_true_eq, not_and] at hx
    have := hx hk
    omega)⟩
theorem Mine.under {w W W' : World} {p nb mb b : Nat} {s : DS} (h : Mine w W p nb mb s) (hp : p < b ∧ nb < b ∧ mb < b) (hw : w.heap.size ≤ b) (hb : Below b W W') : Mine w W' p nb mb s := by
  refine h.keep (Off.of_under hb) (fun x hx hm => ?_) (fun x hm => ?_)
  · have := (List.mem_filter.1 hm).2
    simp at this hx
    omega
  · have := (List.mem_filter.1 hm).2
    simp at this
    omega
theorem OwnT.under {W W' : World} {base b : Nat} {v : Value} {ts : List ByteArray} (h : OwnT W base v ts) (hv : ∀ g, v.ownBlock = some g → g < b) (hb : Below b W W') : OwnT W' base v ts :=
  h.off (Off.of_under hb) (fun g hg hm => by
    have := (List.mem_filter.1 hm).2
    have := hv g hg
    simp at *
    omega)
theorem OwnT.view {w : World} {base : Nat} {v : Value} {ts : List ByteArray} (h : OwnT w base v ts) (n : Nat) (hn : ts.length = n) (hp : 0 < n) : ∃ g cap, v = .slice (some ⟨g, 0, none⟩) n cap ∧ n ≤ cap ∧ base ≤ g ∧ g < w.heap.size ∧ ∀ i, i < n → w.cell? ⟨g, i, none⟩ = some (.string (ts.getD i ByteArray.empty)) := by
  have hl := World.ownsRow.lt h
  rcases h.2 with ⟨rfl, h0⟩ | ⟨g, cap, cur, rfl, hb, hg, hc, hm, hs, ht⟩
  · omega
  · refine ⟨g, cap, by rw [hn], by omega, hb, (hl g rfl).2, fun i hi => ?_⟩
    rw [cell_of_row _ _ _ _ _ _ hg]
    have e : (cur.toList.take (ts.length * 1))[i]? = (ts.map Value.string)[i]? := by rw [ht]
    have e2 : (ts.map Value.string)[i]? = some (.string (ts.getD i ByteArray.empty)) := by
      rw [List.getElem?_map, List.getD_eq_getElem?_getD, List.getElem?_eq_getElem (show i < ts.length by omega)]
      rfl
    rw [List.getElem?_take, if_pos (by omega), e2] at e
    rw [← Array.getElem?_toList]
    exact e
theorem Try.info9 : (Try.prog.info? 9).map (fun i => (i.zero, i.size, i.bytes)) = some (some (.string ByteArray.empty), 1, 16) := by kernel_rfl
theorem wp_appT {ops : Array Oper} {rest : List Oper} {o : Oper} {a : Act} {Q : Exit → Act → World → Prop} {w : World} (hgd : o.guard = none) (s x : Operand)
    (ho : o.op = .call { callee := .builtin .append, args := #[s, x], argTypes := #[52, 52] }) (base : Nat) (lv : Value) (ts : List ByteArray) (t : ByteArray) (hs : a.eval s = lv) (hown : OwnT w base lv ts)
    (g : Nat) (hx : a.eval x = .slice (some ⟨g, 0, none⟩) 1 1) (hg : w.heap[g]? = some (.cells #[.string t] 9 (0, 0))) (hlen : ts.length ≤ 1000000) (hbase : base ≤ w.heap.size)
    (h : ∀ lv' w', OwnT w' base lv' (ts ++ [t]) → Below base w w' → wpList Try.prog ops Q rest (a.put o.dst lv') w') : wpList Try.prog ops Q (o :: rest) a w := by
  obtain ⟨i0, hi, hz0, hz1, hz2⟩ := info_parts Try.info9
  refine wpList_append_own w hgd s x 52 ho base 9 i0 (.string ByteArray.empty) 1 16 Try.underlying52 hi hz0 hz1 hz2 rfl (by decide) lv ts.length (ts.map Value.string) hs hown ⟨g, 0, none⟩ 1 1 [.string t] hx rfl ?_ (by simp [Value.oneCell']) (by unfold maxLen; omega) (by omega) hbase ?_
  · intro j u hu
    rw [add_plain, Nat.zero_add, cell_of_row _ _ _ _ _ _ hg]
    simpa using hu
  · intro v' w' h1 h2 _
    refine h v' w' ?_ ((Below.refl base w).grown h2 hbase (fun k hk => (World.ownsRow.lt hown k hk).1))
    unfold OwnT
    rw [List.length_append, List.map_append]
    exact h1
theorem rows_of (f : Nat → ByteArray) : (fun k => (List.range k).map f) 0 = [] ∧ (∀ k, (fun k => (List.range k).map f) (k + 1) = (fun k => (List.range k).map f) k ++ [f k]) ∧ (∀ k, ((fun k => (List.range k).map f) k).length = k) ∧ (∀ k n, n < k → ((fun k => (List.range k).map f) k).getD n ByteArray.empty = f n) := by
  refine ⟨rfl, fun k => ?_, fun k => by simp, fun k n hn => ?_⟩
  · simp [List.range_succ]
  · simp [List.getD_eq_getElem?_getD, hn]
theorem fv_ones (w : World) (X : List Nat) (hX : ∀ x ∈ X, x < w.heap.size) : FV (w.alloc (.cells #[.int .u8 1, .int .u8 1, .int .u8 1, .int .u8 1, .int .u8 1, .int .u8 1, .int .u8 1, .int .u8 1, .int .u8 1] 5)) X (.slice (some ⟨w.heap.size, 0, none⟩) 9 9) [1, 1, 1, 1, 1, 1, 1, 1, 1] := by
  refine ⟨_, 9, rfl, by decide, by decide, ⟨?_, .inr ⟨w.heap.size, 0, rfl, by simp, fun i hi => ?_⟩⟩, fun _ b off e hm => ?_⟩
  · intro z hz; revert z; decide
  · have hh := heap_alloc_last w (.cells #[.int .u8 1, .int .u8 1, .int .u8 1, .int .u8 1, .int .u8 1, .int .u8 1, .int .u8 1, .int .u8 1, .int .u8 1] 5 (0, 0))
    rw [Nat.zero_add, cell_of_row _ _ _ _ _ _ hh]
    have : i = 0 ∨ i = 1 ∨ i = 2 ∨ i = 3 ∨ i = 4 ∨ i = 5 ∨ i = 6 ∨ i = 7 ∨ i = 8 := by simp at hi; omega
    rcases this with rfl | rfl | rfl | rfl | rfl | rfl | rfl | rfl | rfl <;> rfl
  · simp at e
    have := hX b hm
    omega
end Go.Proofs.Ytmapjikbplindaa
