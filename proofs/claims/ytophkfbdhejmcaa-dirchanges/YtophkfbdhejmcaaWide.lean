/- wide, within; ints in memory. -/
import Derived.Test.YtophkfbdhejmcaaPuts2
import Derived.Test.YtophkfbdhejmcaaRq
import Derived.Test.YtophkfbdhejmcaaBeq
import Derived.ArgAppend
import Derived.Deep.WholeRow
namespace Go.Proofs.Ytophkfbdhejmcaa
set_option maxRecDepth 20000
open Go.RowKit
set_option linter.unusedVariables false
set_option maxHeartbeats 400000 in
theorem within_any (n lo hi : Int) (w : World) : Calls Try.prog 45 #[.int .i64 n, .int .i64 lo, .int .i64 hi] w fun e w' => e = .returned (.bool (decide (lo ≤ n) && decide (n ≤ hi))) ∧ w' = w := by
  by_cases h1 : lo ≤ n
  · have d1 : decide (lo ≤ n) = true := by simpa using h1
    go_enter Try.func45, Try.ntmps45
    go_wp2
    go_ret
    exact ⟨by rw [d1]; rfl, rfl⟩
  · have d1 : decide (lo ≤ n) = false := by simpa using h1
    go_enter Try.func45, Try.ntmps45
    go_wp2
    go_ret
    exact ⟨rfl, rfl⟩
def wi (lo n hi : Int) : Bool := decide (lo ≤ n) && decide (n ≤ hi)
theorem within_wi (n lo hi : Int) (w : World) : Calls Try.prog 45 #[.int .i64 n, .int .i64 lo, .int .i64 hi] w fun e w' => e = .returned (.bool (wi lo n hi)) ∧ w' = w := within_any n lo hi w
set_option maxHeartbeats 400000 in
theorem wide_any (n x : Int) (w : World) : Calls Try.prog 46 #[.int .i64 n, .int .i64 x] w fun e w' => ∃ v, e = .returned v ∧ Own w' w.heap.size v (putL n x) ∧ Below w.heap.size w w' := by
  have HP := put_any n x w
  go_enter Try.func46, Try.ntmps46
  go_wp2_with (first | (go_at_call 54; refine HP.mono ?_; rintro e w1 ⟨v, rfl, ho, hb⟩) | fail)
  go_ret
  exact ⟨v, rfl, ho, hb⟩
theorem putL_len (n x : Int) : (putL n x).length ≤ 6 := by
  unfold putL
  split
  · simp
  · split
    · simp
    · rw [dig_length]; omega
/-- The ints zs lie at the address a. -/
def IV (w : World) (a : Option Addr) (zs : List Int) : Prop :=
  zs = [] ∨ ∃ b off, a = some ⟨b, off, none⟩ ∧ b < w.heap.size ∧ ∀ i, i < zs.length → w.cell? ⟨b, off + i, none⟩ = some (.int .i64 (zs.getD i 0))
theorem IV.below {w w' : World} {a : Option Addr} {zs : List Int} (h : IV w a zs) (hb : Below w.heap.size w w') : IV w' a zs := by
  rcases h with rfl | ⟨b, off, rfl, hlt, hc⟩
  · exact .inl rfl
  · exact .inr ⟨b, off, rfl, Nat.lt_of_lt_of_le hlt hb.size, fun i hi => (hb.cell (p := ⟨b, off + i, none⟩) hlt).trans (hc i hi)⟩
/-- A reader in block rb at the state p; it and its bytes lie below B. -/
def RQ (B : Nat) (w : World) (rb : Nat) (p : List Int × Int) : Prop := Rq.RdQ (fun b => b < B) w rb p.1 p.2 ∧ rb < B ∧ B ≤ w.heap.size
theorem RQ.keep {B : Nat} {w w' : World} {rb : Nat} {p : List Int × Int} (h : RQ B w rb p) (hb : Below B w w') : RQ B w' rb p :=
  ⟨Rq.rdq_frame h.1 (hb.block rb h.2.1) (fun k hk _ => hb.block k hk) hb.size, h.2.1, Nat.le_trans h.2.2 hb.size⟩
def nval (x : Int) (p : List Int × Int) : Int := numV p.1 p.2 x
def nstep (x : Int) (p : List Int × Int) : List Int × Int := (numZ p.1 p.2 x, numE p.1 p.2 x)
theorem rq_num {B : Nat} {w : World} {rb : Nat} {p : List Int × Int} (x : Int) (h : RQ B w rb p) : Calls Try.prog 53 #[.pointer (some ⟨rb, 0, none⟩), .int .i64 x] w fun e w' => e = .returned (.int .i64 (nval x p)) ∧ RQ B w' rb (nstep x p) ∧ w.grownBy w' (some rb) := by
  refine (Rq.num_any rb p.1 p.2 x w h.1).mono ?_
  rintro e w' ⟨rfl, h1, h2⟩
  exact ⟨rfl, ⟨h1, h.2.1, Nat.le_trans h.2.2 h2.size⟩, h2⟩
def itN : Nat → List Int × Int → List Int × Int
  | 0, p => p
  | k + 1, p => nstep 2 (itN k p)
def vals (k : Nat) (p : List Int × Int) : List Int := (List.range k).map (fun j => nval 2 (itN j p))
theorem vals_len (k : Nat) (p : List Int × Int) : (vals k p).length = k := by simp [vals]
theorem vals_succ (k : Nat) (p : List Int × Int) : vals (k + 1) p = vals k p ++ [nval 2 (itN k p)] := by simp [vals, List.range_succ]
def rowI (n k : Nat) (p : List Int × Int) : List Value := (vals k p).map (Value.int .i64) ++ List.replicate (n - k) (Value.int .i64 0)
theorem rowI_zero (n : Nat) (p : List Int × Int) : rowI n 0 p = List.replicate n (Value.int .i64 0) := by simp [rowI, vals]
theorem rowI_full (n : Nat) (p : List Int × Int) : rowI n n p = (vals n p).map (Value.int .i64) := by simp [rowI]
theorem rowI_set (n k : Nat) (p : List Int × Int) (h : k < n) : (rowI n k p).set k (.int .i64 (nval 2 (itN k p))) = rowI n (k + 1) p := by
  unfold rowI
  obtain ⟨d, rfl⟩ := Nat.exists_eq_add_of_lt h
  have e1 : k + d + 1 - k = d + 1 := by omega
  have e3 : k + d + 1 - (k + 1) = d := by omega
  rw [e1, e3, vals_succ, List.map_append, List.append_assoc, List.set_append_right _ _ (by simp [vals_len])]
  simp [vals_len, List.replicate_succ]
def OwnI (w : World) (base : Nat) (v : Value) (zs : List Int) : Prop := w.ownsRow base 3 1 v zs.length (zs.map (Value.int .i64))
theorem Try.info3 : (Try.prog.info? 3).map (fun i => (i.zero, i.size, i.bytes)) = some (some (.int .i64 0), 1, 8) := by kernel_rfl
theorem nval1_bound (p : List Int × Int) (h : AllB p.1) : 0 ≤ nval 1 p ∧ nval 1 p ≤ 255 := by
  unfold nval numV
  split
  · unfold getV
    rw [if_neg (by omega)]
    split
    · omega
    · have h1 := val_bound 1 (p.1.take 1) (by rw [List.length_take]; omega) (h.take 1)
      show 0 ≤ val (p.1.take 1) ∧ val (p.1.take 1) ≤ 255
      omega
  · omega
theorem nstep_all {p : List Int × Int} (x : Int) (h : AllB p.1) : AllB (nstep x p).1 := by
  show AllB (numZ p.1 p.2 x)
  unfold numZ
  split
  · exact h.drop _
  · exact h
theorem rq_new (a : Option Addr) (cap : Nat) (zs : List Int) (w : World) (hb : BV w a zs) (hm : zs.length ≤ 1000000) (hn : a = none → cap = 0) :
    Calls Try.prog 52 #[.slice a zs.length cap] w fun e w' => ∃ rb, e = .returned (.pointer (some ⟨rb, 0, none⟩)) ∧ Hid (w.heap.size ≤ rb ∧ RQ w'.heap.size w' rb (zs, 0) ∧ Below w.heap.size w w') := by
  refine (new_any a cap zs w hb hm hn).mono ?_
  rintro e w' ⟨rb, rfl, h1, h2, ⟨a', cap', q1, q2, q3, q4, q5⟩, h4⟩
  refine ⟨rb, rfl, h1, ⟨⟨a', cap', q1, q2, q3, q4, ?_⟩, h2, Nat.le_refl _⟩, h4⟩
  rcases q5 with q5 | ⟨b, off, e1, e2, e3, e4⟩
  · exact .inl q5
  · exact .inr ⟨b, off, e1, e2, e3, e3, e4⟩
theorem below_of_grown {w W W' : World} {rb : Nat} (hb : Below w.heap.size w W) (hg : W.grownBy W' (some rb)) (hr : w.heap.size ≤ rb) : Below w.heap.size w W' := hb.grown hg hb.size (by intro k hk; cases hk; exact hr)
/-- Ints in a block from K on. -/
def IVh (K : Nat) (w : World) (a : Option Addr) (zs : List Int) : Prop :=
  zs = [] ∨ ∃ b off, a = some ⟨b, off, none⟩ ∧ K ≤ b ∧ b < w.heap.size ∧ ∀ i, i < zs.length → w.cell? ⟨b, off + i, none⟩ = some (.int .i64 (zs.getD i 0))
theorem IVh.iv {K : Nat} {w : World} {a : Option Addr} {zs : List Int} (h : IVh K w a zs) : IV w a zs := by
  rcases h with rfl | ⟨b, off, rfl, _, hlt, hc⟩
  · exact .inl rfl
  · exact .inr ⟨b, off, rfl, hlt, hc⟩
theorem IVh.keep {K : Nat} {w w' : World} {a : Option Addr} {zs : List Int} (h : IVh K w a zs) (hk : ∀ k, K ≤ k → k < w.heap.size → w'.heap[k]? = w.heap[k]?) (hs : w.heap.size ≤ w'.heap.size) : IVh K w' a zs := by
  rcases h with rfl | ⟨b, off, rfl, h1, hlt, hc⟩
  · exact .inl rfl
  · exact .inr ⟨b, off, rfl, h1, Nat.lt_of_lt_of_le hlt hs, fun i hi => (World.cell?_of_block (a := ⟨b, off + i, none⟩) (hk b h1 hlt)).trans (hc i hi)⟩
theorem IVh.grown {K rb : Nat} {w w' : World} {a : Option Addr} {zs : List Int} (h : IVh K w a zs) (hg : w.grownBy w' (some rb)) (hr : rb < K) : IVh K w' a zs := h.keep (fun k hk hl => hg.block k hl (by simp; omega)) hg.size
theorem OwnI.view {w : World} {base : Nat} {v : Value} {zs : List Int} (h : OwnI w base v zs) : ∃ a cap, v = .slice a zs.length cap ∧ (a = none → cap = 0) ∧ IVh base w a zs ∧ zs.length ≤ cap ∧ cap ≤ 9223372036854775807 := by
  have hl := World.ownsRow.lt h
  rcases h.2 with ⟨rfl, h0⟩ | ⟨g, cap, cur, rfl, hb, hg, hc, hm, hs, ht⟩
  · have : zs = [] := List.eq_nil_of_length_eq_zero h0
    subst this
    exact ⟨none, 0, rfl, fun _ => rfl, .inl rfl, Nat.le_refl _, by decide⟩
  · refine ⟨_, cap, rfl, (by intro h; cases h), .inr ⟨g, 0, rfl, hb, (hl g rfl).2, fun i hi => ?_⟩, hc, by unfold maxLen at hm; omega⟩
    rw [Nat.zero_add, cell_of_row _ _ _ _ _ _ hg]
    have e : (cur.toList.take (zs.length * 1))[i]? = (zs.map (Value.int .i64))[i]? := by rw [ht]
    have e2 : (zs.map (Value.int .i64))[i]? = some (.int .i64 (zs.getD i 0)) := by
      rw [List.getElem?_map, List.getD_eq_getElem?_getD, List.getElem?_eq_getElem hi]
      rfl
    rw [List.getElem?_take, if_pos (by omega), e2] at e
    rw [← Array.getElem?_toList]
    exact e
theorem dig2 (n : Int) : dig n 2 = [n / 256 % 256, n % 256] := by
  rw [dig_cons, dig_cons]
  simp [dig]
theorem dig1 (n : Int) (h0 : 0 ≤ n) (h1 : n < 256) : dig n 1 = [n] := by
  rw [dig_cons]
  simp [dig]
  omega
theorem wp_app_arg {ops : Array Oper} {rest : List Oper} {o : Oper} {a : Act} {Q : Exit → Act → World → Prop} {w : World} (hgd : o.guard = none) (s x : Operand)
    (ho : o.op = .call { callee := .builtin .append, args := #[s, x], argTypes := #[27, 27] }) (b off n cap : Nat) (zs ys : List Int) (hs : a.eval s = .slice (some ⟨b, off, none⟩) n cap) (hb : BV w (some ⟨b, off, none⟩) zs) (hzl : zs.length = n)
    (ad : Option Addr) (m c : Nat) (hx : a.eval x = .slice ad m c) (hv : BV w ad ys) (hyl : ys.length = m) (hm : 0 < m) (hcap : cap < n + m) (hlen : n + m ≤ 1000000)
    (h : ∀ v' w', Own w' w.heap.size v' (zs ++ ys) → Below w.heap.size w w' → wpList Try.prog ops Q rest (a.put o.dst v') w') : wpList Try.prog ops Q (o :: rest) a w := by
  obtain ⟨i0, hi, hz0, hz1, hz2⟩ := info_parts Try.info5
  obtain ⟨_, hv0 | ⟨b2, off2, rfl, hb2, hc2⟩⟩ := hv
  · subst hv0; simp at hyl; omega
  have hcz : ∀ i, i < zs.length → w.cell? ⟨b, off + i, none⟩ = some (.int .u8 (zs.getD i 0)) := by
    obtain ⟨_, rfl | ⟨b', off', e, _, hc⟩⟩ := hb
    · intro i hi; simp at hi
    · simp at e
      rw [e.1, e.2]; exact hc
  refine wpList_append_arg w hgd s x 27 ho 5 i0 (.int .u8 0) 1 1 Try.underlying27 hi hz0 hz1 hz2 rfl (by decide) b off n cap (zs.map (Value.int .u8)) hs (by simp [hzl]) ?_ ⟨b2, off2, none⟩ m c (ys.map (Value.int .u8)) hx (by simp [hyl]) ?_ (u8row ys) (fun hr => by omega) (by unfold maxLen; omega) (by omega) (fun hr => by omega) ?_
  · intro j u hu
    have hj : j < zs.length := by
      have := (List.getElem?_eq_some_iff.1 hu).1
      simpa using this
    rw [hcz j hj]
    rw [List.getElem?_map, List.getElem?_eq_getElem hj] at hu
    simp at hu
    rw [← hu, List.getD_eq_getElem?_getD, List.getElem?_eq_getElem hj]; rfl
  · intro j u hu
    have hj : j < ys.length := by
      have := (List.getElem?_eq_some_iff.1 hu).1
      simpa using this
    rw [add_plain, hc2 j hj]
    rw [List.getElem?_map, List.getElem?_eq_getElem hj] at hu
    simp at hu
    rw [← hu, List.getD_eq_getElem?_getD, List.getElem?_eq_getElem hj]; rfl
  · intro _ v' w' h1 h2
    refine h v' w' ?_ ((Below.refl _ _).grown h2 (Nat.le_refl _) (by intro k hk; cases hk))
    unfold Own
    rw [List.length_append, List.map_append, hzl, hyl]
    exact h1
theorem OwnI.below {w w' : World} {base : Nat} {v : Value} {zs : List Int} (h : OwnI w base v zs) (hb : Below w.heap.size w w') : OwnI w' base v zs := by
  refine ⟨h.1, ?_⟩
  have hl := World.ownsRow.lt h
  rcases h.2 with hn | ⟨g, cap, cur, rfl, hbb, hg, rest⟩
  · exact .inl hn
  · exact .inr ⟨g, cap, cur, rfl, hbb, (hb.block g (hl g rfl).2).trans hg, rest⟩
theorem wp_appI {ops : Array Oper} {rest : List Oper} {o : Oper} {a : Act} {Q : Exit → Act → World → Prop} {w : World} (hgd : o.guard = none) (s x : Operand)
    (ho : o.op = .call { callee := .builtin .append, args := #[s, x], argTypes := #[22, 22] }) (base : Nat) (lv : Value) (l : List Int) (n : Int) (hs : a.eval s = lv) (hown : OwnI w base lv l)
    (g : Nat) (hx : a.eval x = .slice (some ⟨g, 0, none⟩) 1 1) (hg : w.heap[g]? = some (.cells #[.int .i64 n] 3 (0, 0))) (hlen : l.length ≤ 1000000) (hbase : base ≤ w.heap.size)
    (h : ∀ lv' w', OwnI w' base lv' (l ++ [n]) → Below base w w' → wpList Try.prog ops Q rest (a.put o.dst lv') w') : wpList Try.prog ops Q (o :: rest) a w := by
  obtain ⟨i0, hi, hz0, hz1, hz2⟩ := info_parts Try.info3
  refine wpList_append_own w hgd s x 22 ho base 3 i0 (.int .i64 0) 1 8 Try.underlying22 hi hz0 hz1 hz2 rfl (by decide) lv l.length (l.map (Value.int .i64)) hs hown ⟨g, 0, none⟩ 1 1 [.int .i64 n] hx rfl ?_ (by simp [Value.oneCell']) (by unfold maxLen; omega) (by omega) hbase ?_
  · intro j u hu
    rw [add_plain, Nat.zero_add, cell_of_row _ _ _ _ _ _ hg]
    simpa using hu
  · intro v' w' h1 h2 _
    refine h v' w' ?_ ((Below.refl base w).grown h2 hbase (fun k hk => (World.ownsRow.lt hown k hk).1))
    unfold OwnI
    rw [List.length_append, List.map_append]
    exact h1
theorem wrap_sm {z : Int} (h0 : 0 ≤ z) (h1 : z ≤ 9223372036854775807) : IntKind.i64.wrap z = z := by rw [IntKind.wrap_i64]; omega
theorem byte_at {zs : List Int} (h : AllB zs) (i : Nat) : 0 ≤ zs.getD i 0 ∧ zs.getD i 0 ≤ 255 := by
  rw [List.getD_eq_getElem?_getD]
  cases e : zs[i]? with
  | none => simp
  | some z => have := h z (List.mem_of_getElem? e); simp; omega
theorem name_ops {P : Program} {id : Nat} {ops : Array Oper} {Q : Exit → Act → World → Prop} {a : Act} {w : World} (h : ∀ (O : Array Oper) (QQ : Exit → Act → World → Prop), Hid (O = ops) → Hid (QQ = Q) → (Code.region id O true).wp P QQ a w) : (Code.region id ops true).wp P Q a w := h _ _ rfl rfl
end Go.Proofs.Ytophkfbdhejmcaa
