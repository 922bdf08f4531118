/- Slices of pairs of the call's own: append, slices.Grow, Concat, Clone; the pairs that are as asked. -/
import Derived.Test.YtnnndkpmlpbpcaaPr
import Derived.Lib.SmallJoins
namespace Go.Proofs.Ytnnndkpmlpbpcaa
open Go.RowKit
set_option linter.unusedVariables false
set_option maxRecDepth 20000

def flatP (ps : List PR) : List Value := ps.flatMap fun p => [.string p.1, .string p.2]
theorem flatP_nil : flatP [] = [] := rfl
theorem flatP_cons (p : PR) (ps : List PR) : flatP (p :: ps) = .string p.1 :: .string p.2 :: flatP ps := rfl
theorem flatP_append (ps qs : List PR) : flatP (ps ++ qs) = flatP ps ++ flatP qs := by simp [flatP]
theorem flatP_len (ps : List PR) : (flatP ps).length = ps.length * 2 := by
  induction ps with
  | nil => rfl
  | cons p ps ih => rw [flatP_cons]; simp [ih]; omega
theorem flatP_get (ps : List PR) (i : Nat) (hi : i < ps.length) : (flatP ps)[i * 2]? = some (.string (ps.getD i default).1) ∧ (flatP ps)[i * 2 + 1]? = some (.string (ps.getD i default).2) := by
  induction ps generalizing i with
  | nil => simp at hi
  | cons p ps ih =>
    rw [flatP_cons]
    cases i with
    | zero => exact ⟨rfl, rfl⟩
    | succ i =>
      have := ih i (by simpa using hi)
      rw [show (i + 1) * 2 = i * 2 + 1 + 1 by omega]
      simpa using this
theorem flatP_at (ps : List PR) (j : Nat) (u : Value) (h : (flatP ps)[j]? = some u) : ∃ i, i < ps.length ∧ ((j = i * 2 ∧ u = .string (ps.getD i default).1) ∨ (j = i * 2 + 1 ∧ u = .string (ps.getD i default).2)) := by
  have hj := (List.getElem?_eq_some_iff.1 h).1
  rw [flatP_len] at hj
  have hi : j / 2 < ps.length := by omega
  obtain ⟨h1, h2⟩ := flatP_get ps (j / 2) hi
  refine ⟨j / 2, hi, ?_⟩
  rcases Nat.mod_two_eq_zero_or_one j with e | e
  · left
    have : j / 2 * 2 = j := by omega
    rw [this, h] at h1
    exact ⟨this.symm, Option.some.inj h1⟩
  · right
    have : j / 2 * 2 + 1 = j := by omega
    rw [this, h] at h2
    exact ⟨this.symm, Option.some.inj h2⟩
theorem flatP_one (ps : List PR) : ∀ u ∈ flatP ps, u.oneCell' = true := by
  intro u hu
  obtain ⟨p, _, h⟩ := List.mem_flatMap.1 hu
  simp at h
  rcases h with rfl | rfl <;> rfl
/-- A slice of pairs of the call's own. -/
def OwnQ (w : World) (base : Nat) (v : Value) (ps : List PR) : Prop := w.ownsRow base 45 2 v ps.length (flatP ps)
theorem OwnQ.nil (w : World) (base : Nat) : OwnQ w base (.slice none 0 0) [] := World.ownsRow_nil w base 45 2
theorem OwnQ.below {w w' : World} {base : Nat} {v : Value} {ps : List PR} (h : OwnQ w base v ps) (hb : Below w.heap.size w w') : OwnQ w' base v ps := by
  refine ⟨h.1, ?_⟩
  have hl := World.ownsRow.lt h
  rcases h.2 with hn | ⟨g, cap, cur, rfl, hbb, hg, rest⟩
  · exact .inl hn
  · exact .inr ⟨g, cap, cur, rfl, hbb, (hb.block g (hl g rfl).2).trans hg, rest⟩
theorem OwnQ.mono {w : World} {b1 b2 : Nat} {v : Value} {zs : List PR} (h : OwnQ w b1 v zs) (hb : b2 ≤ b1) : OwnQ w b2 v zs := by
  refine ⟨h.1, ?_⟩
  rcases h.2 with hn | ⟨g, cap, cur, rfl, hbb, hg, rest⟩
  · exact .inl hn
  · exact .inr ⟨g, cap, cur, rfl, Nat.le_trans hb hbb, hg, rest⟩
theorem OwnQ.view {w : World} {base : Nat} {v : Value} {ps : List PR} (h : OwnQ w base v ps) : ∃ a cap, v = .slice a ps.length cap ∧ (a = none → cap = 0) ∧ PV w a ps ∧ ps.length ≤ cap ∧ cap ≤ 9223372036854775807 := by
  have hl := World.ownsRow.lt h
  have h' := h
  rcases h.2 with ⟨rfl, h0⟩ | ⟨g, cap, cur, rfl, hb, hg, hc, hm, hs, ht⟩
  · have : ps = [] := List.eq_nil_of_length_eq_zero h0
    subst this
    exact ⟨none, 0, rfl, fun _ => rfl, .inl rfl, Nat.le_refl _, by decide⟩
  · refine ⟨_, cap, rfl, (by intro h; cases h), .inr ⟨g, 0, rfl, (hl g rfl).2, fun i hi => ?_⟩, hc, by unfold maxLen at hm; omega⟩
    obtain ⟨e1, e2⟩ := flatP_get ps i hi
    rw [Nat.zero_add]
    exact ⟨(World.ownsRow.cellAt (g := g) h' (i * 2) (by omega)).trans e1, (World.ownsRow.cellAt (g := g) h' (i * 2 + 1) (by omega)).trans e2⟩
theorem Try.info45 : (Try.prog.info? 45).map (fun i => (i.zero, i.size, i.bytes)) = some (some (.agg #[.string ByteArray.empty, .string ByteArray.empty]), 2, 32) := by kernel_rfl
theorem PV.cells {w : World} {ad : Addr} {ps : List PR} (hv : PV w (some ad) ps) : ∀ j u, (flatP ps)[j]? = some u → w.cell? (ad.add j) = some u := by
  intro j u hu
  obtain ⟨i, hi, hj⟩ := flatP_at ps j u hu
  rcases hv with h1 | ⟨b, off, hx, hlt, hc⟩
  · subst h1; simp at hi
  · obtain rfl := Option.some.inj hx
    rw [add_plain]
    rcases hj with ⟨rfl, rfl⟩ | ⟨rfl, rfl⟩
    · exact (hc i hi).1
    · rw [← Nat.add_assoc]; exact (hc i hi).2
theorem PV.nones {w : World} {ps : List PR} (hv : PV w none ps) : ps = [] := by
  rcases hv with h | ⟨b, off, h, _⟩
  · exact h
  · cases h
theorem wp_app_pv {ops : Array Oper} {rest : List Oper} {o : Oper} {a : Act} {Q : Exit → Act → World → Prop} {w : World} (hgd : o.guard = none) (s x : Operand)
    (ho : o.op = .call { callee := .builtin .append, args := #[s, x], argTypes := #[22, 22] }) (base : Nat) (v : Value) (zs ys : List PR) (hs : a.eval s = v) (hown : OwnQ w base v zs)
    (ad : Option Addr) (cap : Nat) (hx : a.eval x = .slice ad ys.length cap) (hv : PV w ad ys) (hn : ad = none → cap = 0) (hlen : zs.length + ys.length ≤ 1000000) (hbase : base ≤ w.heap.size)
    (h : ∀ v' w', OwnQ w' base v' (zs ++ ys) → Below base w w' → wpList Try.prog ops Q rest (a.put o.dst v') w') : wpList Try.prog ops Q (o :: rest) a w := by
  obtain ⟨i0, hi, hz0, hz1, hz2⟩ := info_parts Try.info45
  cases ad with
  | none =>
    obtain rfl := hn rfl
    obtain rfl : ys = [] := hv.nones
    refine wpList_append_own_none hgd s x 22 ho base 45 i0 2 Try.underlying22 hi v zs.length (flatP zs) hs hown hx ?_
    exact h v w (by simpa using hown) (Below.refl _ _)
  | some ad =>
    refine wpList_append_own w hgd s x 22 ho base 45 i0 (.agg #[.string ByteArray.empty, .string ByteArray.empty]) 2 32 Try.underlying22 hi hz0 hz1 hz2 rfl (by decide) v zs.length (flatP zs) hs hown ad ys.length cap (flatP ys) hx (flatP_len ys) hv.cells (flatP_one ys) (by unfold maxLen; omega) (by omega) hbase ?_
    intro v' w' h1 h2 _
    have ho' : OwnQ w' base v' (zs ++ ys) := by
      unfold OwnQ
      rw [List.length_append, flatP_append]
      exact h1
    refine h v' w' ho' ?_
    exact (Below.refl base w).grown h2 hbase (fun k hk => (World.ownsRow.lt hown k hk).1)
theorem pv_lit (w : World) (p : PR) : PV (w.alloc (.cells #[.string p.1, .string p.2] 45)) (some ⟨w.heap.size, 0, none⟩) [p] := by
  refine .inr ⟨w.heap.size, 0, rfl, by simp, fun i hi => ?_⟩
  obtain rfl : i = 0 := by simpa using hi
  exact ⟨by go_simp, by go_simp⟩
theorem flatq_take (zss : List (List PR)) (k : Nat) (h : k < zss.length) : (zss.take (k + 1)).flatten = (zss.take k).flatten ++ zss.getD k [] := by
  rw [List.take_succ_eq_append_getElem h, List.flatten_append, List.getD_eq_getElem?_getD, List.getElem?_eq_getElem h]; simp
theorem flatq_le (zss : List (List PR)) (k : Nat) : (zss.take k).flatten.length ≤ zss.flatten.length := by
  conv => rhs; rw [← List.take_append_drop k zss, List.flatten_append, List.length_append]
  omega
set_option maxHeartbeats 400000 in
theorem growq_ok (n : Nat) (w : World) (h1 : 1 ≤ n) (hn : n ≤ 1000000) :
    Calls Try.prog 64 #[.slice none 0 0, .int .i64 n] w fun e w' => ∃ v, e = .returned v ∧ OwnQ w' w.heap.size v [] ∧ Below w.heap.size w w' := by
  obtain ⟨i0, hi, hz0, hz1, hz2⟩ := info_parts Try.info45
  have happ := Lib.run_append_nil_zeros (P := Try.prog) w 22 3 22 45 i0 (.agg #[.string ByteArray.empty, .string ByteArray.empty]) .i64 .i64 Try.underlying22 Try.underlying3 hi hz0 n (by omega) (by omega) (by omega) (by rw [hz2]; omega)
  have hcapge : n ≤ grownCap w n 0 45 := grownCap_ge w _ 0 45
  have hcaple : grownCap w n 0 45 ≤ maxLen := grownCap_le_maxLen w _ 0 45 (by unfold maxLen; omega)
  generalize grownCap w n 0 45 = cap at *
  generalize hZ : (Builtin.zeroCells (Value.agg #[.string ByteArray.empty, .string ByteArray.empty]).cells n ++ Builtin.zeroCells (Value.agg #[.string ByteArray.empty, .string ByteArray.empty]).cells (cap - n)) = Z at happ
  have hZs : Z.size = cap * 2 := by rw [← hZ]; simp [size_zeroCells, Value.cells]; omega
  clear hZ
  have HO : Hid (OwnQ (w.drew.alloc (.cells Z 45)) w.heap.size (.slice (some ⟨w.heap.size, 0, none⟩) 0 cap) []) :=
    ⟨rfl, .inr ⟨w.heap.size, cap, Z, rfl, Nat.le_refl _, by simpa using heap_alloc_new w.drew _, Nat.zero_le _, hcaple, by omega, by simp [flatP]⟩⟩
  have HB : Hid (Below w.heap.size w (w.drew.alloc (.cells Z 45))) := (Below.refl _ _).drew.alloc (Nat.le_refl _) _
  go_enter Try.func64, Try.ntmps64
  go_wp2_with (at_builtin; refine Lib.wpList_append_run _ rfl _ _ _ _ rfl _ _ rfl rfl _ _ happ ?_)
  go_ret
  exact ⟨_, rfl, HO.out, HB.out⟩
/-- The slices of the pairs zss lie one behind the other at g, off. -/
def PartsQ (w : World) (g off : Nat) (zss : List (List PR)) : Prop :=
  ∀ i, i < zss.length → ∃ a c, w.cell? ⟨g, off + i, none⟩ = some (.slice a (zss.getD i []).length c) ∧ (a = none → c = 0) ∧ PV w a (zss.getD i []) ∧ (zss.getD i []).length ≤ 9223372036854775807
theorem PartsQ.below {w w' : World} {g off : Nat} {zss : List (List PR)} (h : PartsQ w g off zss) (hg : g < w.heap.size) (hb : Below w.heap.size w w') : PartsQ w' g off zss := by
  intro i hi
  obtain ⟨a, c, h1, h2, h3, h4⟩ := h i hi
  exact ⟨a, c, (hb.cell (p := ⟨g, off + i, none⟩) hg).trans h1, h2, h3.below hb, h4⟩
set_option maxHeartbeats 800000 in
theorem concatq_any (g off n cap : Nat) (zss : List (List PR)) (w : World) (hl : zss.length = n) (hn : n ≤ 1000000) (hp : PartsQ w g off zss) (hg : g < w.heap.size) (h1 : 1 ≤ zss.flatten.length) (h2 : zss.flatten.length ≤ 1000000) :
    Calls Try.prog 49 #[.slice (some ⟨g, off, none⟩) n cap] w fun e w' => ∃ v, e = .returned v ∧ OwnQ w' w.heap.size v zss.flatten ∧ Below w.heap.size w w' := by
  have HL : Hid (zss.length = n) := hl
  clear hl
  go_enter Try.func49, Try.ntmps49
  go_wp2
  go_loop [3, 11] (fun x i => ∃ k : Nat, k ≤ n ∧ i = .int .i64 k ∧ x = .int .i64 ((zss.take k).flatten.length : Nat)) (fun _ i => n - (intOf i).toNat)
  case atStart => exact ⟨0, Nat.zero_le _, rfl, rfl⟩
  case round =>
    obtain ⟨k, hk, rfl, rfl⟩ := hrel
    by_cases hlt : k < n
    · obtain ⟨a, c, hck, _, hbv, hm⟩ := hp k (by have := HL.out; omega)
      have hle := flatq_le zss (k + 1)
      have hnx := congrArg List.length (flatq_take zss k (by have := HL.out; omega))
      rw [List.length_append] at hnx
      clear hbv
      rw [hnx] at hle
      have HX : Hid ((zss.take (k + 1)).flatten.length = _) := hnx
      clear hnx
      generalize (zss.take k).flatten.length = x at *
      generalize (zss.getD k []).length = l at *
      go_wp2
      go_round
      case rel => exact ⟨k + 1, by omega, by go_num, by rw [HX.out]; go_num⟩
      case measure => simp [intOf]; omega
    · have : k = n := by omega
      subst this
      have hL := HL.out
      rw [List.take_of_length_le (by omega)]
      have HG := growq_ok _ w h1 h2
      have H2 : Hid (zss.flatten.length ≤ 1000000) := h2
      generalize HS : zss.flatten.length = S at HG
      have hs0 : 1 ≤ S := by omega
      have hs1 : S ≤ 1000000 := by omega
      clear HS h1 h2
      go_wp2_with (go_at_call 64; refine HG.mono ?_; rintro e w1 ⟨v, rfl, ho, hbl⟩)
      clear HG
      go_loopw [6, 27] (fun v i wr => ∃ j : Nat, j ≤ k ∧ i = .int .i64 j ∧ OwnQ wr w.heap.size v (zss.take j).flatten ∧ Below w.heap.size w wr) (fun _ i _ => k - (intOf i).toNat)
      case atStart => exact ⟨0, Nat.zero_le _, rfl, ho, hbl⟩
      case round =>
        clear ho hbl
        obtain ⟨j, hj, rfl, ho, hbl⟩ := hrel
        by_cases hjt : j < k
        · obtain ⟨a, c, hck, hnc, hbv, hm⟩ := (hp.below hg hbl) j (by omega)
          have hle := flatq_le zss (j + 1)
          have hnx := flatq_take zss j (by omega)
          rw [hnx, List.length_append] at hle
          have hle' := H2.out
          have HX : Hid ((zss.take (j + 1)).flatten = _) := hnx
          clear hnx
          generalize (zss.take j).flatten = xs at *
          generalize zss.getD j [] = ys at *
          have hbs := hbl.size
          have HB : Hid (Below w.heap.size w wr) := hbl
          have HO : Hid (OwnQ wr w.heap.size _ xs) := ho
          have HV : Hid (PV wr a ys) := hbv
          have HS : Hid (w.heap.size ≤ wr.heap.size) := hbs
          clear hbl ho hbv hbs
          go_wp2_with (at_builtin; refine wp_app_pv rfl _ _ rfl w.heap.size _ xs ys rfl HO.out a c rfl HV.out hnc (by omega) HS.out ?_; intro v' w2 ho2 hb2)
          go_roundw
          case rel => exact ⟨j + 1, by omega, by go_num, by rw [HX.out]; exact ho2, HB.out.trans hb2⟩
          case measure => simp [intOf]; omega
        · have : j = k := by omega
          subst this
          rw [List.take_of_length_le (by omega)] at ho
          go_wp2
          go_ret
          exact ⟨_, rfl, ho, hbl⟩

set_option maxHeartbeats 400000 in
theorem cloneq_some (x : Addr) (cap : Nat) (ps : List PR) (w : World) (hb : PV w (some x) ps) (hm : ps.length ≤ 1000000) :
    Calls Try.prog 47 #[.slice (some x) ps.length cap] w fun e w' => ∃ v, e = .returned v ∧ OwnQ w' w.heap.size v ps ∧ Below w.heap.size w w' := by
  have hlit : OwnQ (w.alloc (.cells #[] 45)) w.heap.size (.slice (some ⟨w.heap.size, 0, none⟩) 0 0) [] := World.ownsRow_lit w #[] 0 (Nat.le_refl _) (by decide) rfl
  have hv := hb.below (one_block w (.cells #[] 45))
  have heq := fun wx => Lib.run_eql_slice_nil (P := Try.prog) wx 22 45 (some x) ps.length cap 0 0 Try.underlying22
  have HL : Hid (OwnQ (w.alloc (.cells #[] 45)) w.heap.size (.slice (some ⟨w.heap.size, 0, none⟩) 0 0) []) := hlit
  have HV : Hid (PV (w.alloc (.cells #[] 45)) (some x) ps) := hv
  clear hb hlit hv
  go_enter Try.func47, Try.ntmps47
  go_wp2_with (at_builtin; refine wp_app_pv rfl _ _ rfl w.heap.size _ [] ps rfl HL.out (some x) cap rfl HV.out (fun h => by cases h) (by simpa using hm) (by simp) ?_; intro v' w1 ho hb1)
  go_ret
  exact ⟨_, rfl, by simpa using ho, (one_block _ _).trans hb1⟩
theorem cloneq_nil (w : World) : Calls Try.prog 47 #[.slice none 0 0] w fun e w' => ∃ v, e = .returned v ∧ OwnQ w' w.heap.size v [] ∧ Below w.heap.size w w' := by
  have heq := fun wx => Lib.run_eql_slice_nil (P := Try.prog) wx 22 45 none 0 0 0 0 Try.underlying22
  go_enter Try.func47, Try.ntmps47
  go_wp2
  go_ret
  exact ⟨_, rfl, OwnQ.nil _ _, Below.refl _ _⟩
theorem cloneq_any (a : Option Addr) (cap : Nat) (ps : List PR) (w : World) (hb : PV w a ps) (hm : ps.length ≤ 1000000) (hn : a = none → cap = 0) :
    Calls Try.prog 47 #[.slice a ps.length cap] w fun e w' => ∃ v, e = .returned v ∧ OwnQ w' w.heap.size v ps ∧ Below w.heap.size w w' := by
  cases a with
  | none =>
    obtain rfl := hn rfl
    obtain rfl := hb.nones
    exact cloneq_nil w
  | some x => exact cloneq_some x cap ps w hb hm
theorem PV.drop {w : World} {b off : Nat} {ps : List PR} (h : PV w (some ⟨b, off, none⟩) ps) (n : Nat) : PV w (some ⟨b, off + n * 2, none⟩) (ps.drop n) := by
  rcases h with rfl | ⟨b', off', e, hlt, hc⟩
  · exact .inl (by simp)
  · obtain ⟨rfl, rfl⟩ : b = b' ∧ off = off' := by simpa using e
    refine .inr ⟨b, off + n * 2, rfl, hlt, fun i hi => ?_⟩
    rw [List.length_drop] at hi
    have := hc (n + i) (by omega)
    rw [show off + n * 2 + i * 2 = off + (n + i) * 2 by omega]
    have e : (ps.drop n).getD i default = ps.getD (n + i) default := by simp [List.getD_eq_getElem?_getD]
    rw [e]
    exact this
theorem PV.take {w : World} {a : Option Addr} {ps : List PR} (h : PV w a ps) (n : Nat) : PV w a (ps.take n) := by
  rcases h with rfl | ⟨b, off, rfl, hlt, hc⟩
  · exact .inl (by simp)
  · refine .inr ⟨b, off, rfl, hlt, fun i hi => ?_⟩
    rw [List.length_take] at hi
    have e : (ps.take n).getD i default = ps.getD i default := by
      rw [List.getD_eq_getElem?_getD, List.getD_eq_getElem?_getD, List.getElem?_take, if_pos (by omega)]
    rw [e]
    exact hc i (by omega)
def slLen : Value → Nat
  | .slice _ n _ => n
  | _ => 0
theorem PV.nilAny {w : World} {a : Option Addr} : PV w a [] := .inl rfl
theorem filter_hit (q : PR → Bool) (ps : List PR) (n : Nat) (hn : ps.findIdx q = n) (h : n < ps.length) : ps.filter q = ps.getD n default :: (ps.drop (n + 1)).filter q := by
  subst hn
  induction ps with
  | nil => simp at h
  | cons p ps ih =>
    by_cases hq : q p = true
    · simp [List.findIdx_cons, hq]
    · have hq' : q p = false := by simpa using hq
      rw [List.findIdx_cons, hq'] at h ⊢
      simp only [cond_false, List.length_cons] at h ⊢
      have := ih (by omega)
      rw [List.filter_cons_of_neg (by simp [hq'])]
      rw [this]
      simp
theorem filter_none (q : PR → Bool) (ps : List PR) (hn : ps.findIdx q = ps.length) : ps.filter q = [] := by
  rw [List.findIdx_eq_length] at hn
  rw [List.filter_eq_nil_iff]
  intro a ha
  simp [hn a ha]
set_option maxHeartbeats 2000000 in
theorem those_any (k : Nat) (caps : Array Value) (q : PR → Bool) (a : Option Addr) (cap : Nat) (ps : List PR) (w : World) (hp : PV w a ps) (HQ : Asks w k caps q) (hl : ps.length ≤ 1000000) (hL : ∀ p ∈ ps, Lp p) (hc : ps.length ≤ cap) (hc2 : cap ≤ 9223372036854775807) :
    Calls Try.prog 50 #[.slice a ps.length cap, .func (.func k) #[] caps] w fun e w' => ∃ v, e = .returned v ∧ OwnQ w' w.heap.size v (ps.filter q) ∧ Below w.heap.size w w' := by
  go_enter Try.func50, Try.ntmps50
  go_wp2
  go_loopw [5, 6] (fun v s wr => ∃ (fs ls : List PR) (a1 : Option Addr) (cap1 : Nat), Hid (ps.filter q = fs ++ ls.filter q) ∧ Hid (fs.length + ls.length ≤ ps.length) ∧ s = .slice a1 ls.length cap1 ∧ ls.length ≤ cap1 ∧ cap1 ≤ cap ∧ Hid (PV w a1 ls) ∧ Hid (∀ p ∈ ls, Lp p) ∧ Hid (OwnQ wr w.heap.size v fs) ∧ Hid (Below w.heap.size w wr)) (fun _ s _ => slLen s)
  case atStart => exact ⟨[], ps, a, cap, rfl, Nat.le_of_eq (Nat.zero_add _), rfl, hc, Nat.le_refl _, hp, hL, OwnQ.nil _ _, Below.refl _ _⟩
  case round =>
    obtain ⟨fs, ls, a1, cap1, HF, HL, rfl, hcl, hcc, HP, HLP, HO, HB⟩ := hrel
    have HA := place_any k caps q a1 cap1 ls wr (HP.out.below HB.out) (HQ.below HB.out) (by have := HL.out; omega) HLP.out
    by_cases hn : ls.findIdx q = ls.length
    · have HE : Hid (ls.filter q = []) := filter_none q ls hn
      rw [hn] at HA
      clear hn
      go_wp2_with (go_at_call 42; refine HA.mono ?_; rintro e w1 ⟨rfl, hb1⟩; clear HA)
      go_ret
      refine ⟨_, rfl, ?_, bt HB.out hb1⟩
      rw [HF.out, HE.out, List.append_nil]
      exact HO.out.below hb1
    · have hlt : ls.findIdx q < ls.length := by
        have := List.findIdx_le_length (p := q) (xs := ls)
        omega
      have HE : Hid (ls.filter q = _) := filter_hit q ls _ rfl hlt
      generalize ls.findIdx q = n at *
      have hne : ((n : Int) == (ls.length : Int)) = false := by rw [beq_eq_false_iff_ne]; omega
      have hlm : ls.length ≤ 1000000 := by have := HL.out; omega
      have hc9 : cap1 ≤ 9223372036854775807 := by omega
      have H0 := HP.out
      obtain h0 | ⟨b, off, rfl, hbl, hcell⟩ := H0
      · subst h0; simp at hlt
      obtain ⟨c0, c1⟩ := hcell n hlt
      have X0 : Hid (∀ w1, Below wr.heap.size wr w1 → w1.cell? ⟨b, off + n * 2, none⟩ = some (.string (ls.getD n default).1) ∧ w1.cell? ⟨b, off + n * 2 + 1, none⟩ = some (.string (ls.getD n default).2)) := fun w1 h1 => ⟨((bt HB.out h1).cell (p := ⟨b, off + n * 2, none⟩) hbl).trans c0, ((bt HB.out h1).cell (p := ⟨b, off + n * 2 + 1, none⟩) hbl).trans c1⟩
      clear hcell c0 c1 hn
      by_cases hcap : cap1 = n + 1
      · subst hcap
        have hlen : ls.length = n + 1 := by omega
        have hd : ls.drop (n + 1) = [] := by simp; omega
        have HX : Hid (ps.filter q = (fs ++ [ls.getD n default]) ++ ([] : List PR).filter q) := by
          show ps.filter q = _
          rw [HF.out, HE.out, hd]; simp
        have HLN : Hid (fs.length + (n + 1) ≤ ps.length) := by have := HL.out; rw [hlen] at this; exact this
        generalize ls.getD n default = p at *
        obtain ⟨pk, pw⟩ := p
        rw [hlen] at HA hne hcl ⊢
        clear HL HF HE hd
        go_wp2_with (first | (go_at_call 42; refine HA.mono ?_; rintro e w1 ⟨rfl, hb1⟩; clear HA; obtain ⟨c0, c1⟩ := X0.out w1 hb1; simp only at c0 c1; have HB1 : Hid (Below wr.heap.size wr w1) := hb1; clear hb1) | (at_builtin; refine wp_app_pv rfl _ _ rfl w.heap.size _ fs [(pk, pw)] rfl ((HO.out.below HB1.out).below (one_block _ _)) (some ⟨_, 0, none⟩) 1 rfl (pv_lit _ (pk, pw)) (fun h => by cases h) (by have := HLN.out; simp; omega) (by have := (bt HB.out HB1.out).size; simp; omega) ?_; intro v' w2 ho2 hb2))
        go_roundw
        case rel => exact ⟨fs ++ [(pk, pw)], [], some ⟨b, off, none⟩, 0, HX, by simp [Hid]; have := HLN.out; omega, by simp, Nat.le_refl _, by omega, .inl rfl, (by simp [Hid]), ho2, ((bt HB.out HB1.out).alloc (bt HB.out HB1.out).size _).trans hb2⟩
        case measure => simp [slLen]
      · have hcx : (cap1 == n + 1) = false := by simpa using hcap
        have HX : Hid (ps.filter q = (fs ++ [ls.getD n default]) ++ (ls.drop (n + 1)).filter q) := by
          show ps.filter q = _
          rw [HF.out, HE.out]; simp
        have HD : Hid (PV w (some ⟨b, off + (n + 1) * 2, none⟩) (ls.drop (n + 1))) := HP.out.drop (n + 1)
        generalize ls.getD n default = p at *
        obtain ⟨pk, pw⟩ := p
        clear HF HE
        go_wp2_with (first | (go_at_call 42; refine HA.mono ?_; rintro e w1 ⟨rfl, hb1⟩; clear HA; obtain ⟨c0, c1⟩ := X0.out w1 hb1; simp only at c0 c1; have HB1 : Hid (Below wr.heap.size wr w1) := hb1; clear hb1) | (at_builtin; refine wp_app_pv rfl _ _ rfl w.heap.size _ fs [(pk, pw)] rfl ((HO.out.below HB1.out).below (one_block _ _)) (some ⟨_, 0, none⟩) 1 rfl (pv_lit _ (pk, pw)) (fun h => by cases h) (by have := HL.out; simp; omega) (by have := (bt HB.out HB1.out).size; simp; omega) ?_; intro v' w2 ho2 hb2))
        go_roundw
        case rel => exact ⟨fs ++ [(pk, pw)], ls.drop (n + 1), some ⟨b, off + (n + 1) * 2, none⟩, cap1 - (n + 1), HX, by simp [Hid]; have := HL.out; omega, by simp, by simp; omega, by omega, HD, (fun p hp => HLP.out p (List.mem_of_mem_drop hp)), ho2, ((bt HB.out HB1.out).alloc (bt HB.out HB1.out).size _).trans hb2⟩
        case measure => simp [slLen]; omega
end Go.Proofs.Ytnnndkpmlpbpcaa
