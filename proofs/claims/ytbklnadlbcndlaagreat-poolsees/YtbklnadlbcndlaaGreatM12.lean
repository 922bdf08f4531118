import Derived.Test.YtbklnadlbcndlaaGreatM6
import Derived.Test.YtbklnadlbcndlaaGreatM8
import Derived.Test.YtbklnadlbcndlaaGreatM9
import Derived.Test.YtbklnadlbcndlaaGreatM11
import Derived.ArgAppend
import Derived.Deep.WholeRow
namespace Go.Proofs.YtbklnadlbcndlaaGreat
set_option maxRecDepth 20000
open Go.RowKit
set_option linter.unusedVariables false
set_option maxHeartbeats 400000 in
theorem within_any (n lo hi : Int) (w : World) : Calls Tryz.prog 120 #[.int .i64 n, .int .i64 lo, .int .i64 hi] w fun e w' => e = .returned (.bool (decide (lo ≤ n) && decide (n ≤ hi))) ∧ w' = w := by
  by_cases h1 : lo ≤ n
  · have d1 : decide (lo ≤ n) = true := by simpa using h1
    go_enter Tryz.func120, Tryz.ntmps120
    go_wp2
    go_ret
    exact ⟨by rw [d1]; rfl, rfl⟩
  · have d1 : decide (lo ≤ n) = false := by simpa using h1
    go_enter Tryz.func120, Tryz.ntmps120
    go_wp2
    go_ret
    exact ⟨rfl, rfl⟩
def wi (lo n hi : Int) : Bool := decide (lo ≤ n) && decide (n ≤ hi)
theorem within_wi (n lo hi : Int) (w : World) : Calls Tryz.prog 120 #[.int .i64 n, .int .i64 lo, .int .i64 hi] w fun e w' => e = .returned (.bool (wi lo n hi)) ∧ w' = w := within_any n lo hi w
set_option maxHeartbeats 400000 in
theorem wide_any (n x : Int) (w : World) : Calls Tryz.prog 122 #[.int .i64 n, .int .i64 x] w fun e w' => ∃ v, e = .returned v ∧ Own w' w.heap.size v (putL n x) ∧ Below w.heap.size w w' := by
  have HP := put_any n x w
  go_enter Tryz.func122, Tryz.ntmps122
  go_wp2_with (first | (go_at_call 176; refine HP.mono ?_; rintro e w1 ⟨v, rfl, ho, hb⟩) | fail)
  go_ret
  exact ⟨v, rfl, ho, hb⟩
theorem putL_len (n x : Int) : (putL n x).length ≤ 6 := by
  unfold putL
  split
  · simp
  · split
    · simp
    · rw [dig_length]; omega
def IV (w : World) (a : Option Addr) (zs : List Int) : Prop :=
  zs = [] ∨ ∃ b off, a = some ⟨b, off, none⟩ ∧ b < w.heap.size ∧ ∀ i, i < zs.length → w.cell? ⟨b, off + i, none⟩ = some (.int .i64 (zs.getD i 0))
theorem IV.below {w w' : World} {a : Option Addr} {zs : List Int} (h : IV w a zs) (hb : Below w.heap.size w w') : IV w' a zs := by
  rcases h with rfl | ⟨b, off, rfl, hlt, hc⟩
  · exact .inl rfl
  · exact .inr ⟨b, off, rfl, Nat.lt_of_lt_of_le hlt hb.size, fun i hi => (hb.cell (p := ⟨b, off + i, none⟩) hlt).trans (hc i hi)⟩
def RQ (B : Nat) (w : World) (rb : Nat) (p : List Int × Int) : Prop := Rq.RdQ (fun b => b < B) w rb p.1 p.2 ∧ rb < B ∧ B ≤ w.heap.size
theorem RQ.keep {B : Nat} {w w' : World} {rb : Nat} {p : List Int × Int} (h : RQ B w rb p) (hb : Below B w w') : RQ B w' rb p :=
  ⟨Rq.rdq_frame h.1 (hb.block rb h.2.1) (fun k hk _ => hb.block k hk) hb.size, h.2.1, Nat.le_trans h.2.2 hb.size⟩
def nval (x : Int) (p : List Int × Int) : Int := numV p.1 p.2 x
def nstep (x : Int) (p : List Int × Int) : List Int × Int := (numZ p.1 p.2 x, numE p.1 p.2 x)
theorem rq_num {B : Nat} {w : World} {rb : Nat} {p : List Int × Int} (x : Int) (h : RQ B w rb p) : Calls Tryz.prog 234 #[.pointer (some ⟨rb, 0, none⟩), .int .i64 x] w fun e w' => e = .returned (.int .i64 (nval x p)) ∧ RQ B w' rb (nstep x p) ∧ w.grownBy w' (some rb) := by
  refine (Rq.num_any rb p.1 p.2 x w h.1).mono ?_
  rintro e w' ⟨rfl, h1, h2⟩
  exact ⟨rfl, ⟨h1, h.2.1, Nat.le_trans h.2.2 h2.size⟩, h2⟩
def OwnI (w : World) (base : Nat) (v : Value) (zs : List Int) : Prop := w.ownsRow base 3 1 v zs.length (zs.map (Value.int .i64))
theorem Tryz.info3 : (Tryz.prog.info? 3).map (fun i => (i.zero, i.size, i.bytes)) = some (some (.int .i64 0), 1, 8) := by kernel_rfl
theorem rq_new (a : Option Addr) (cap : Nat) (zs : List Int) (w : World) (hb : BV w a zs) (hm : zs.length ≤ 1000000) (hn : a = none → cap = 0) :
    Calls Tryz.prog 233 #[.slice a zs.length cap] w fun e w' => ∃ rb, e = .returned (.pointer (some ⟨rb, 0, none⟩)) ∧ Hid (w.heap.size ≤ rb ∧ RQ w'.heap.size w' rb (zs, 0) ∧ Below w.heap.size w w') := by
  refine (new_any a cap zs w hb hm hn).mono ?_
  rintro e w' ⟨rb, rfl, h1, h2, ⟨a', cap', q1, q2, q3, q4, q5⟩, h4⟩
  refine ⟨rb, rfl, h1, ⟨⟨a', cap', q1, q2, q3, q4, ?_⟩, h2, Nat.le_refl _⟩, h4⟩
  rcases q5 with q5 | ⟨b, off, e1, e2, e3, e4⟩
  · exact .inl q5
  · exact .inr ⟨b, off, e1, e2, e3, e3, e4⟩
theorem below_of_grown {w W W' : World} {rb : Nat} (hb : Below w.heap.size w W) (hg : W.grownBy W' (some rb)) (hr : w.heap.size ≤ rb) : Below w.heap.size w W' := hb.grown hg hb.size (by intro k hk; cases hk; exact hr)
def IVh (K : Nat) (w : World) (a : Option Addr) (zs : List Int) : Prop :=
  zs = [] ∨ ∃ b off, a = some ⟨b, off, none⟩ ∧ K ≤ b ∧ b < w.heap.size ∧ ∀ i, i < zs.length → w.cell? ⟨b, off + i, none⟩ = some (.int .i64 (zs.getD i 0))
theorem IVh.iv {K : Nat} {w : World} {a : Option Addr} {zs : List Int} (h : IVh K w a zs) : IV w a zs := by
  rcases h with rfl | ⟨b, off, rfl, _, hlt, hc⟩
  · exact .inl rfl
  · exact .inr ⟨b, off, rfl, hlt, hc⟩
theorem IVh.keep {K : Nat} {w w' : World} {a : Option Addr} {zs : List Int} (h : IVh K w a zs) (hk : ∀ k, K ≤ k → k < w.heap.size → w'.heap[k]? = w.heap[k]?) (hs : w.heap.size ≤ w'.heap.size) : IVh K w' a zs := by
  rcases h with rfl | ⟨b, off, rfl, h1, hlt, hc⟩
  · exact .inl rfl
  · exact .inr ⟨b, off, rfl, h1, Nat.lt_of_lt_of_le hlt hs, fun i hi => (World.cell?_of_block (a := ⟨b, off + i, none⟩) (hk b h1 hlt)).trans (hc i hi)⟩
theorem IVh.grown {K rb : Nat} {w w' : World} {a : Option Addr} {zs : List Int} (h : IVh K w a zs) (hg : w.grownBy w' (some rb)) (hr : rb < K) : IVh K w' a zs := h.keep (fun k hk hl => hg.block k hl (by simp; omega)) hg.size
theorem OwnI.view {w : World} {base : Nat} {v : Value} {zs : List Int} (h : OwnI w base v zs) : ∃ a cap, v = .slice a zs.length cap ∧ (a = none → cap = 0) ∧ IVh base w a zs ∧ zs.length ≤ cap ∧ cap ≤ 9223372036854775807 := by
  have hl := World.ownsRow.lt h
  rcases h.2 with ⟨rfl, h0⟩ | ⟨g, cap, cur, rfl, hb, hg, hc, hm, hs, ht⟩
  · have : zs = [] := List.eq_nil_of_length_eq_zero h0
    subst this
    exact ⟨none, 0, rfl, fun _ => rfl, .inl rfl, Nat.le_refl _, by decide⟩
  · refine ⟨_, cap, rfl, (by intro h; cases h), .inr ⟨g, 0, rfl, hb, (hl g rfl).2, fun i hi => ?_⟩, hc, by unfold maxLen at hm; omega⟩
    rw [Nat.zero_add, cell_of_row _ _ _ _ _ _ hg]
    have e : (cur.toList.take (zs.length * 1))[i]? = (zs.map (Value.int .i64))[i]? := by rw [ht]
    have e2 : (zs.map (Value.int .i64))[i]? = some (.int .i64 (zs.getD i 0)) := by
      rw [List.getElem?_map, List.getD_eq_getElem?_getD, List.getElem?_eq_getElem hi]
      rfl
    rw [List.getElem?_take, if_pos (by omega), e2] at e
    rw [← Array.getElem?_toList]
    exact e
theorem OwnI.below {w w' : World} {base : Nat} {v : Value} {zs : List Int} (h : OwnI w base v zs) (hb : Below w.heap.size w w') : OwnI w' base v zs := by
  refine ⟨h.1, ?_⟩
  have hl := World.ownsRow.lt h
  rcases h.2 with hn | ⟨g, cap, cur, rfl, hbb, hg, rest⟩
  · exact .inl hn
  · exact .inr ⟨g, cap, cur, rfl, hbb, (hb.block g (hl g rfl).2).trans hg, rest⟩
theorem wrap_sm {z : Int} (h0 : 0 ≤ z) (h1 : z ≤ 9223372036854775807) : IntKind.i64.wrap z = z := by rw [IntKind.wrap_i64]; omega
theorem name_ops {P : Program} {id : Nat} {ops : Array Oper} {Q : Exit → Act → World → Prop} {a : Act} {w : World} (h : ∀ (O : Array Oper) (QQ : Exit → Act → World → Prop), Hid (O = ops) → Hid (QQ = Q) → (Code.region id O true).wp P QQ a w) : (Code.region id ops true).wp P Q a w := h _ _ rfl rfl
end Go.Proofs.YtbklnadlbcndlaaGreat
namespace Go.Proofs.YtbklnadlbcndlaaGreat
set_option maxRecDepth 20000
open Go.RowKit
set_option linter.unusedVariables false
theorem i64row (zs : List Int) : ∀ u ∈ zs.map (Value.int .i64), u.oneCell' = true := by
  intro u hu; obtain ⟨z, _, rfl⟩ := List.mem_map.1 hu; rfl
theorem iv_none {zs : List Int} {w : World} (hb : IV w none zs) : zs = [] := by
  rcases hb with h | ⟨b, off, h, _⟩
  · exact h
  · cases h
def PartsI (w : World) (g off : Nat) (zss : List (List Int)) : Prop :=
  ∀ i, i < zss.length → ∃ a c, w.cell? ⟨g, off + i, none⟩ = some (.slice a (zss.getD i []).length c) ∧ (a = none → c = 0) ∧ IV w a (zss.getD i []) ∧ (zss.getD i []).length ≤ 9223372036854775807
theorem wp_app_iv {ops : Array Oper} {rest : List Oper} {o : Oper} {a : Act} {Q : Exit → Act → World → Prop} {w : World} (hgd : o.guard = none) (s x : Operand)
    (ho : o.op = .call { callee := .builtin .append, args := #[s, x], argTypes := #[52, 52] }) (base : Nat) (v : Value) (zs ys : List Int) (hs : a.eval s = v) (hown : OwnI w base v zs)
    (ad : Option Addr) (cap : Nat) (hx : a.eval x = .slice ad ys.length cap) (hv : IV w ad ys) (hn : ad = none → cap = 0) (hlen : zs.length + ys.length ≤ 1000000) (hbase : base ≤ w.heap.size)
    (h : ∀ v' w', OwnI w' base v' (zs ++ ys) → Below base w w' → wpList Tryz.prog ops Q rest (a.put o.dst v') w') : wpList Tryz.prog ops Q (o :: rest) a w := by
  obtain ⟨i0, hi, hz0, hz1, hz2⟩ := info_parts Tryz.info3
  cases ad with
  | none =>
    obtain rfl := hn rfl
    obtain rfl : ys = [] := iv_none hv
    refine wpList_append_own_none hgd s x 52 ho base 3 i0 1 Tryz.underlying52 hi v zs.length (zs.map (Value.int .i64)) hs hown hx ?_
    exact h v w (by simpa using hown) (Below.refl _ _)
  | some ad =>
    refine wpList_append_own w hgd s x 52 ho base 3 i0 (.int .i64 0) 1 8 Tryz.underlying52 hi hz0 hz1 hz2 rfl (by decide) v zs.length (zs.map (Value.int .i64)) hs hown ad ys.length cap (ys.map (Value.int .i64)) hx (by simp) ?_ (i64row _) (by unfold maxLen; omega) (by omega) hbase ?_
    · intro j u hu
      rw [List.getElem?_map] at hu
      obtain ⟨z, hz, rfl⟩ := Option.map_eq_some_iff.1 hu
      have hj := (List.getElem?_eq_some_iff.1 hz).1
      obtain h1 | ⟨b, off, hx, hlt, hc⟩ := hv
      · subst h1; simp at hj
      · obtain rfl := Option.some.inj hx
        rw [add_plain]
        have := hc j hj
        rw [this, List.getD_eq_getElem?_getD, hz]; rfl
    · intro v' w' h1 h2 _
      have ho' : OwnI w' base v' (zs ++ ys) := by
        unfold OwnI
        rw [List.length_append, List.map_append]
        exact h1
      refine h v' w' ho' ?_
      exact (Below.refl base w).grown h2 hbase (fun k hk => (World.ownsRow.lt hown k hk).1)
set_option maxHeartbeats 400000 in
theorem growI_ok (n : Nat) (w : World) (h1 : 1 ≤ n) (hn : n ≤ 1000000) :
    Calls Tryz.prog 206 #[.slice none 0 0, .int .i64 n] w fun e w' => ∃ v, e = .returned v ∧ OwnI w' w.heap.size v [] ∧ Below w.heap.size w w' := by
  obtain ⟨i0, hi, hz0, hz1, hz2⟩ := info_parts Tryz.info3
  have happ := Lib.run_append_nil_zeros (P := Tryz.prog) w 52 3 52 3 i0 (.int .i64 0) .i64 .i64 Tryz.underlying52 Tryz.underlying3 hi hz0 n (by omega) (by omega) (by omega) (by rw [hz2]; omega)
  have hcapge : n ≤ grownCap w n 0 3 := grownCap_ge w _ 0 3
  have hcaple : grownCap w n 0 3 ≤ maxLen := grownCap_le_maxLen w _ 0 3 (by unfold maxLen; omega)
  generalize grownCap w n 0 3 = cap at *
  generalize hZ : (Builtin.zeroCells (Value.int .i64 0).cells n ++ Builtin.zeroCells (Value.int .i64 0).cells (cap - n)) = Z at happ
  have hZs : Z.size = cap := by rw [← hZ]; simp [size_zeroCells, Value.cells]; omega
  clear hZ
  have HO : Hid (OwnI (w.drew.alloc (.cells Z 3)) w.heap.size (.slice (some ⟨w.heap.size, 0, none⟩) 0 cap) []) :=
    ⟨rfl, .inr ⟨w.heap.size, cap, Z, rfl, Nat.le_refl _, by simpa using heap_alloc_new w.drew _, Nat.zero_le _, hcaple, by omega, by simp⟩⟩
  have HB : Hid (Below w.heap.size w (w.drew.alloc (.cells Z 3))) := (Below.refl _ _).drew.alloc (Nat.le_refl _) _
  go_enter Tryz.func206, Tryz.ntmps206
  go_wp2_with (at_builtin; refine Lib.wpList_append_run _ rfl _ _ _ _ rfl _ _ rfl rfl _ _ happ ?_)
  go_ret
  exact ⟨_, rfl, HO.out, HB.out⟩
theorem growI_zero (w : World) : Calls Tryz.prog 206 #[.slice none 0 0, .int .i64 0] w fun e w' => e = .returned (.slice none 0 0) ∧ w' = w := by
  go_enter Tryz.func206, Tryz.ntmps206
  go_wp2
  go_ret
  exact ⟨rfl, rfl⟩
theorem growI_any (n : Nat) (w : World) (hn : n ≤ 1000000) :
    Calls Tryz.prog 206 #[.slice none 0 0, .int .i64 n] w fun e w' => ∃ v, e = .returned v ∧ OwnI w' w.heap.size v [] ∧ Below w.heap.size w w' := by
  by_cases h : n = 0
  · subst h
    refine (growI_zero w).mono ?_
    rintro e w' ⟨rfl, rfl⟩
    exact ⟨_, rfl, ⟨rfl, .inl ⟨rfl, rfl⟩⟩, Below.refl _ _⟩
  · exact growI_ok n w (by omega) hn
theorem PartsI.below {w w' : World} {g off : Nat} {zss : List (List Int)} (h : PartsI w g off zss) (hg : g < w.heap.size) (hb : Below w.heap.size w w') : PartsI w' g off zss := by
  intro i hi
  obtain ⟨a, c, h1, h2, h3, h4⟩ := h i hi
  exact ⟨a, c, (hb.cell (p := ⟨g, off + i, none⟩) hg).trans h1, h2, h3.below hb, h4⟩
set_option maxHeartbeats 800000 in
theorem concatI_any (g off n cap : Nat) (zss : List (List Int)) (w : World) (hl : zss.length = n) (hn : n ≤ 1000000) (hp : PartsI w g off zss) (hg : g < w.heap.size) (h2 : zss.flatten.length ≤ 1000000) :
    Calls Tryz.prog 168 #[.slice (some ⟨g, off, none⟩) n cap] w fun e w' => ∃ v, e = .returned v ∧ OwnI w' w.heap.size v zss.flatten ∧ Below w.heap.size w w' := by
  have HL : Hid (zss.length = n) := hl
  clear hl
  go_enter Tryz.func168, Tryz.ntmps168
  go_wp2
  go_loop [3, 11] (fun x i => ∃ k : Nat, k ≤ n ∧ i = .int .i64 k ∧ x = .int .i64 ((zss.take k).flatten.length : Nat)) (fun _ i => n - (intOf i).toNat)
  case atStart => exact ⟨0, Nat.zero_le _, rfl, rfl⟩
  case round =>
    obtain ⟨k, hk, rfl, rfl⟩ := hrel
    by_cases hlt : k < n
    · obtain ⟨a, c, hck, _, hbv, hm⟩ := hp k (by have := HL.out; omega)
      have hle := flat_le zss (k + 1)
      have hnx := congrArg List.length (flat_take zss k (by have := HL.out; omega))
      rw [List.length_append] at hnx
      clear hbv
      rw [hnx] at hle
      have HX : Hid ((zss.take (k + 1)).flatten.length = _) := hnx
      clear hnx
      generalize (zss.take k).flatten.length = x at *
      generalize (zss.getD k []).length = l at *
      go_wp2
      go_round
      case rel => exact ⟨k + 1, by omega, by go_num, by rw [HX.out]; go_num⟩
      case measure => simp [intOf]; omega
    · have : k = n := by omega
      subst this
      have hL := HL.out
      rw [List.take_of_length_le (by omega)]
      have HG := growI_any _ w h2
      have H2 : Hid (zss.flatten.length ≤ 1000000) := h2
      generalize HS : zss.flatten.length = S at HG
      have hs1 : S ≤ 1000000 := by omega
      clear HS h2
      go_wp2_with (go_at_call 206; refine HG.mono ?_; rintro e w1 ⟨v, rfl, ho, hbl⟩)
      clear HG
      go_loopw [6, 27] (fun v i wr => ∃ j : Nat, j ≤ k ∧ i = .int .i64 j ∧ OwnI wr w.heap.size v (zss.take j).flatten ∧ Below w.heap.size w wr) (fun _ i _ => k - (intOf i).toNat)
      case atStart => exact ⟨0, Nat.zero_le _, rfl, ho, hbl⟩
      case round =>
        clear ho hbl
        obtain ⟨j, hj, rfl, ho, hbl⟩ := hrel
        by_cases hjt : j < k
        · obtain ⟨a, c, hck, hnc, hbv, hm⟩ := (hp.below hg hbl) j (by omega)
          have hle := flat_le zss (j + 1)
          have hnx := flat_take zss j (by omega)
          rw [hnx, List.length_append] at hle
          have hle' := H2.out
          have HX : Hid ((zss.take (j + 1)).flatten = _) := hnx
          clear hnx
          generalize (zss.take j).flatten = xs at *
          generalize zss.getD j [] = ys at *
          have hbs := hbl.size
          have HB : Hid (Below w.heap.size w wr) := hbl
          have HO : Hid (OwnI wr w.heap.size _ xs) := ho
          have HV : Hid (IV wr a ys) := hbv
          have HS : Hid (w.heap.size ≤ wr.heap.size) := hbs
          clear hbl ho hbv hbs
          go_wp2_with (at_builtin; refine wp_app_iv rfl _ _ rfl w.heap.size _ xs ys rfl HO.out a c rfl HV.out hnc (by omega) HS.out ?_; intro v' w2 ho2 hb2)
          go_roundw
          case rel => exact ⟨j + 1, by omega, by go_num, by rw [HX.out]; exact ho2, HB.out.trans hb2⟩
          case measure => simp [intOf]; omega
        · have : j = k := by omega
          subst this
          rw [List.take_of_length_le (by omega)] at ho
          go_wp2
          go_ret
          exact ⟨_, rfl, ho, hbl⟩
set_option maxHeartbeats 400000 in
theorem concatI_none (w : World) : Calls Tryz.prog 168 #[.slice none 0 0] w fun e w' => e = .returned (.slice none 0 0) ∧ w' = w := by
  have HG := growI_zero w
  go_enter Tryz.func168, Tryz.ntmps168
  go_wp2
  go_loop [3, 11] (fun x i => i = .int .i64 0 ∧ x = .int .i64 0) (fun _ i => 0)
  case atStart => exact ⟨rfl, rfl⟩
  case round =>
    obtain ⟨rfl, rfl⟩ := hrel
    go_wp2_with (go_at_call 206; refine HG.mono ?_; rintro e w' ⟨rfl, hw⟩; obtain rfl := hw.symm)
    clear HG
    go_loopw [6, 27] (fun v i wr => i = .int .i64 0 ∧ v = .slice none 0 0 ∧ wr = w) (fun _ i _ => 0)
    case atStart => exact ⟨rfl, rfl, rfl⟩
    case round =>
      obtain ⟨rfl, rfl, rfl⟩ := hrel
      go_wp2
      go_ret
      exact ⟨rfl, rfl⟩
def zeroAt (tb : List Int) : Nat := tb.findIdx (fun z => decide (z = 0))
theorem zeroAt_le (tb : List Int) : zeroAt tb ≤ tb.length := List.findIdx_le_length
set_option maxHeartbeats 400000 in
theorem index_any (a : Option Addr) (cap : Nat) (tb : List Int) (w : World) (hb : IV w a tb) (hm : tb.length ≤ 1000000) :
    Calls Tryz.prog 174 #[.slice a tb.length cap, .int .i64 0] w fun e w' => e = .returned (.int .i64 (if zeroAt tb < tb.length then (zeroAt tb : Int) else -1)) ∧ w' = w := by
  by_cases hn : tb = []
  · subst hn
    go_enter Tryz.func174, Tryz.ntmps174
    go_wp2
    go_loop [8] (fun i => i = .int .i64 0) (fun _ => 0)
    case atStart => exact rfl
    case round =>
      obtain rfl := hrel
      go_wp2
      go_ret
      exact ⟨by simp, rfl⟩
  · rcases hb with h | ⟨b, off, rfl, hlt, hc⟩
    · exact absurd h hn
    · have HZ : Hid (∀ i, i < zeroAt tb → tb.getD i 0 ≠ 0) := by
        intro i hi h0
        have h1 : i < tb.length := Nat.lt_of_lt_of_le hi (zeroAt_le tb)
        have := List.not_of_lt_findIdx hi
        rw [List.getD_eq_getElem?_getD, List.getElem?_eq_getElem h1] at h0
        simp at this h0
        exact this h0
      have HE : Hid (zeroAt tb < tb.length → tb.getD (zeroAt tb) 0 = 0) := by
        intro hi
        have := List.findIdx_getElem (w := hi)
        rw [List.getD_eq_getElem?_getD, List.getElem?_eq_getElem hi]
        exact of_decide_eq_true this
      have hle := zeroAt_le tb
      have HC : Hid (∀ i, i < tb.length → w.cell? ⟨b, off + i, none⟩ = some (.int .i64 (tb.getD i 0))) := hc
      generalize zeroAt tb = z at *
      generalize tb.length = n at *
      clear hc hlt hn
      go_enter Tryz.func174, Tryz.ntmps174
      go_wp2
      go_loop [8] (fun i => ∃ k : Nat, k ≤ z ∧ i = .int .i64 k) (fun i => z - (intOf i).toNat)
      case atStart => exact ⟨0, Nat.zero_le _, rfl⟩
      case round =>
        obtain ⟨k, hk, rfl⟩ := hrel
        by_cases hkn : k < n
        · have hck := HC.out k hkn
          by_cases hkz : k < z
          · have hne : (0 == tb.getD k 0) = false := by
              have := HZ.out k hkz
              simp; exact fun e => this e.symm
            generalize tb.getD k 0 = y at *
            go_wp2
            go_round
            case rel => exact ⟨k + 1, by omega, by go_num⟩
            case measure => simp [intOf]; omega
          · obtain rfl : k = z := by omega
            rw [HE.out hkn] at hck
            go_wp2
            go_ret
            exact ⟨rfl, rfl⟩
        · obtain rfl : k = n := by omega
          obtain rfl : z = k := by omega
          go_wp2
          go_ret
          exact ⟨rfl, rfl⟩
def nPages (n : Nat) : Nat := (n + 245) / 246
set_option maxHeartbeats 400000 in
theorem pages_any (a : Option Addr) (n cap : Nat) (w : World) (hn : n ≤ 1000000) : Calls Tryz.prog 49 #[.slice a n cap] w fun e w' => e = .returned (.int .i64 (nPages n : Nat)) ∧ w' = w := by
  go_enter Tryz.func49, Tryz.ntmps49
  go_wp2
  go_ret
  refine ⟨?_, rfl⟩
  show Ending.returned (.int .i64 (((n : Int) + 246 - 1) / 246)) = _
  congr 2
  unfold nPages
  omega
end Go.Proofs.YtbklnadlbcndlaaGreat
namespace Go.Proofs.YtbklnadlbcndlaaGreat
set_option maxRecDepth 20000
open Go.RowKit
set_option linter.unusedVariables false
def headS (k id : Int) (n : Nat) : List Int := dig k 1 ++ dig id 3 ++ dig n 2
def frontS (k id : Int) (zs : List Int) : List Int := headS k id zs.length ++ zs ++ List.replicate (246 - zs.length) 0
def sealS (k id : Int) (zs : List Int) : List Int := frontS k id zs ++ dig (more 0 (frontS k id zs)) 4
def kindB (k : Int) : Bool := decide (1 ≤ k) && decide (k ≤ 5)
def idB (k : Int) : Bool := decide (0 ≤ k) && decide (k ≤ 3000)
def sealE (k id : Int) (n : Nat) : Int := if kindB k then (if idB id then (if n ≤ 246 then 0 else 5) else 12) else 9
def sealL (k id : Int) (zs : List Int) : List Int := if sealE k id zs.length = 0 then sealS k id zs else []
theorem head_len (k id : Int) (n : Nat) : (headS k id n).length = 6 := by simp [headS, dig_length]
theorem head_all (k id : Int) (n : Nat) : AllB (headS k id n) := ((dig_all _ _).append (dig_all _ _)).append (dig_all _ _)
theorem zeros_all (n : Nat) : AllB (List.replicate n 0) := by
  intro z hz
  obtain ⟨_, rfl⟩ := List.mem_replicate.1 hz
  decide
theorem front_len {k id : Int} {zs : List Int} (h : zs.length ≤ 246) : (frontS k id zs).length = 252 := by
  simp [frontS, head_len]; omega
theorem front_all {k id : Int} {zs : List Int} (h : AllB zs) : AllB (frontS k id zs) := ((head_all _ _ _).append h).append (zeros_all _)
theorem seal_len {k id : Int} {zs : List Int} (h : zs.length ≤ 246) : (sealS k id zs).length = 256 := by
  simp [sealS, front_len h, dig_length]
theorem sealS_all {k id : Int} {zs : List Int} (h : AllB zs) : AllB (sealS k id zs) := (front_all h).append (dig_all _ _)
theorem sealL_all {k id : Int} {zs : List Int} (h : AllB zs) : AllB (sealL k id zs) := by
  unfold sealL; split
  · exact sealS_all h
  · exact AllB.nil
theorem sealE_zero {k id : Int} {n : Nat} (h : sealE k id n = 0) : 1 ≤ k ∧ k ≤ 5 ∧ 0 ≤ id ∧ id ≤ 3000 ∧ n ≤ 246 := by
  unfold sealE at h
  split at h
  · split at h
    · split at h
      · rename_i h1 h2 h3
        simp [kindB] at h1
        simp [idB] at h2
        omega
      · cases h
    · cases h
  · cases h
theorem putL_dig (n : Int) (x : Nat) (h1 : 1 ≤ x) (h6 : x ≤ 6) (h0 : 0 ≤ n) (hn : n < 256 ^ x) : putL n x = dig n x := by
  unfold putL
  rw [if_neg (by omega), Int.toNat_natCast, if_neg (by omega)]
theorem parts3 {w : World} {a b d : Option Addr} {cap cap2 cap3 : Nat} {zs ys xs : List Int} (hb : BV w a zs) (hn : a = none → cap = 0) (hm : zs.length ≤ 9223372036854775807) (hb2 : BV w b ys) (hn2 : b = none → cap2 = 0) (hm2 : ys.length ≤ 9223372036854775807) (hb3 : BV w d xs) (hn3 : d = none → cap3 = 0) (hm3 : xs.length ≤ 9223372036854775807) :
    Parts (w.alloc (.cells #[.slice a zs.length cap, .slice b ys.length cap2, .slice d xs.length cap3] 29)) w.heap.size 0 [zs, ys, xs] := by
  intro i hi
  rcases Nat.lt_or_ge i 1 with h | h
  · obtain rfl : i = 0 := by omega
    exact ⟨a, cap, by go_simp, hn, hb.alloc _, hm⟩
  · rcases Nat.lt_or_ge i 2 with h | h
    · obtain rfl : i = 1 := by omega
      exact ⟨b, cap2, by go_simp, hn2, hb2.alloc _, hm2⟩
    · obtain rfl : i = 2 := by simp at hi; omega
      exact ⟨d, cap3, by go_simp, hn3, hb3.alloc _, hm3⟩
end Go.Proofs.YtbklnadlbcndlaaGreat
namespace Go.Proofs.YtbklnadlbcndlaaGreat
set_option maxRecDepth 20000
open Go.RowKit
set_option linter.unusedVariables false
set_option maxHeartbeats 800000 in
theorem pseal_bad (k id : Int) (a : Option Addr) (n cap : Nat) (w : World) (h : sealE k id n ≠ 0) (hn : n ≤ 9223372036854775807) :
    Calls Tryz.prog 56 #[.int .i64 k, .int .i64 id, .slice a n cap] w fun e w' => e = .returned (.tuple #[.slice none 0 0, .int .i64 (sealE k id n)]) ∧ w' = w := by
  have H1 : Hid (Calls Tryz.prog 120 #[.int .i64 k, .int .i64 1, .int .i64 5] w fun e w' => e = .returned (.bool (kindB k)) ∧ w' = w) := within_any k 1 5 w
  have H2 : Hid (Calls Tryz.prog 120 #[.int .i64 id, .int .i64 0, .int .i64 3000] w fun e w' => e = .returned (.bool (idB id)) ∧ w' = w) := within_any id 0 3000 w
  unfold sealE at h ⊢
  cases hk : kindB k with
  | false =>
    rw [hk] at H1
    go_enter Tryz.func56, Tryz.ntmps56
    go_wp2_with (first | (go_at_call 120; refine (H1.out).mono ?_; rintro e w' ⟨rfl, hw⟩; obtain rfl := hw.symm) | fail)
    exact bodyPost_ret (v := .tuple #[.slice none 0 0, .int .i64 9]) (by simp [results, Tryz.results56, go_sem]) rfl ⟨rfl, rfl⟩
  | true =>
    rw [hk] at H1
    cases hi : idB id with
    | false =>
      rw [hi] at H2
      go_enter Tryz.func56, Tryz.ntmps56
      go_wp2_with (first | (go_at_call 120; refine (H1.out).mono ?_; rintro e w' ⟨rfl, hw⟩; obtain rfl := hw.symm; clear H1) | (go_at_call 120; refine (H2.out).mono ?_; rintro e w' ⟨rfl, hw⟩; obtain rfl := hw.symm) | fail)
      exact bodyPost_ret (v := .tuple #[.slice none 0 0, .int .i64 12]) (by simp [results, Tryz.results56, go_sem]) rfl ⟨rfl, rfl⟩
    | true =>
      rw [hi] at H2
      have hn' : ¬ n ≤ 246 := by
        intro hc
        rw [hk, hi] at h
        simp [hc] at h
      have hd : 246 < (n : Int) := by omega
      rw [if_pos rfl, if_pos rfl, if_neg hn']
      clear h hn'
      go_enter Tryz.func56, Tryz.ntmps56
      go_wp2_with (first | (go_at_call 120; refine (H1.out).mono ?_; rintro e w' ⟨rfl, hw⟩; obtain rfl := hw.symm; clear H1) | (go_at_call 120; refine (H2.out).mono ?_; rintro e w' ⟨rfl, hw⟩; obtain rfl := hw.symm; clear H2) | fail)
      exact bodyPost_ret (v := .tuple #[.slice none 0 0, .int .i64 5]) (by simp [results, Tryz.results56, go_sem]) rfl ⟨rfl, rfl⟩
set_option maxHeartbeats 1600000 in
theorem pseal_good (k id : Int) (a : Option Addr) (cap : Nat) (zs : List Int) (w : World) (h : sealE k id zs.length = 0) (hb : BV w a zs) (hn : a = none → cap = 0) :
    Calls Tryz.prog 56 #[.int .i64 k, .int .i64 id, .slice a zs.length cap] w fun e w' => ∃ v, e = .returned (.tuple #[v, .int .i64 0]) ∧ Own w' w.heap.size v (sealS k id zs) ∧ Below w.heap.size w w' := by
  obtain ⟨k0, k1, i0, i1, hl⟩ := sealE_zero h
  have H1 : Hid (Calls Tryz.prog 120 #[.int .i64 k, .int .i64 1, .int .i64 5] w fun e w' => e = .returned (.bool true) ∧ w' = w) := by
    have := within_any k 1 5 w
    simp only [k0, k1, decide_true, Bool.and_true] at this
    exact this
  have H2 : Hid (Calls Tryz.prog 120 #[.int .i64 id, .int .i64 0, .int .i64 3000] w fun e w' => e = .returned (.bool true) ∧ w' = w) := by
    have := within_any id 0 3000 w
    simp only [i0, i1, decide_true, Bool.and_true] at this
    exact this
  have hd : ¬ (246 < (zs.length : Int)) := by omega
  have L1 := wide_any k 1 w
  rw [show putL k 1 = dig k 1 from putL_dig k 1 (by decide) (by decide) (by omega) (by show k < 256; omega)] at L1
  have L2 : Hid (∀ W, Calls Tryz.prog 122 #[.int .i64 id, .int .i64 3] W fun e w' => ∃ v, e = .returned v ∧ Own w' W.heap.size v (dig id 3) ∧ Below W.heap.size W w') := by
    intro W
    have := wide_any id 3 W
    rw [show putL id 3 = dig id 3 from putL_dig id 3 (by decide) (by decide) (by omega) (by show id < 16777216; omega)] at this
    exact this
  have L3 : Hid (∀ W, Calls Tryz.prog 122 #[.int .i64 (zs.length : Nat), .int .i64 2] W fun e w' => ∃ v, e = .returned v ∧ Own w' W.heap.size v (dig (zs.length : Nat) 2) ∧ Below W.heap.size W w') := by
    intro W
    have := wide_any (zs.length : Nat) 2 W
    rw [show putL (zs.length : Nat) 2 = dig (zs.length : Nat) 2 from putL_dig _ 2 (by decide) (by decide) (by omega) (by show ((zs.length : Nat) : Int) < 65536; omega)] at this
    exact this
  have HZ := zeros_all (246 - zs.length)
  have HB0 : Hid (BV w a zs) := hb
  have HN : Hid (a = none → cap = 0) := hn
  have HLE : Hid (zs.length ≤ 246) := hl
  have hw : wrap64 (246 - (zs.length : Int)) = ((246 - zs.length : Nat) : Int) := by unfold wrap64; omega
  have hw2 : (246 : Int) - (zs.length : Int) = ((246 - zs.length : Nat) : Int) := by omega
  obtain ⟨inf, hi, hz0, hz1, hz2⟩ := info_parts Tryz.info5
  clear h hb hn k0 k1 i0 i1 hl
  go_enter Tryz.func56, Tryz.ntmps56
  go_wp2_with (first | (go_at_call 120; refine (H1.out).mono ?_; rintro e w' ⟨rfl, hw⟩; obtain rfl := hw.symm; clear H1) | (go_at_call 120; refine (H2.out).mono ?_; rintro e w' ⟨rfl, hw⟩; obtain rfl := hw.symm; clear H2) | fail)
  refine L1.mono ?_
  rintro e w1 ⟨v1, rfl, o1, b1⟩
  obtain ⟨a1, c1, rfl, n1, bv1, _, _⟩ := o1.slice (dig_all _ _)
  have B1 : Hid (Below w.heap.size w w1) := b1
  have V1 : Hid (BV w1 a1 (dig k 1)) := bv1
  clear L1 o1 b1 bv1
  go_wp2_with fail
  refine (L2.out w1).mono ?_
  rintro e w2 ⟨v2, rfl, o2, b2⟩
  obtain ⟨a2, c2, rfl, n2, bv2, _, _⟩ := o2.slice (dig_all _ _)
  have B2 : Hid (Below w.heap.size w w2) := B1.out.trans (b2.mono B1.out.size)
  have V12 : Hid (BV w2 a1 (dig k 1)) := V1.out.below b2
  have V2 : Hid (BV w2 a2 (dig id 3)) := bv2
  clear L2 o2 b2 bv2 B1 V1
  go_wp2_with fail
  refine (L3.out w2).mono ?_
  rintro e w3 ⟨v3, rfl, o3, b3⟩
  obtain ⟨a3, c3, rfl, n3, bv3, _, _⟩ := o3.slice (dig_all _ _)
  have B3 : Hid (Below w.heap.size w w3) := B2.out.trans (b3.mono B2.out.size)
  have HC : Hid (Calls Tryz.prog 121 #[.slice (some ⟨w3.heap.size, 0, none⟩) 3 3] (w3.alloc (.cells #[.slice a1 (dig k 1).length c1, .slice a2 (dig id 3).length c2, .slice a3 (dig (zs.length : Nat) 2).length c3] 29)) fun e w' => ∃ v, e = .returned v ∧ Own w' w.heap.size v (headS k id zs.length) ∧ Below w.heap.size w w') := by
    have := concat_any w3.heap.size 0 3 3 [dig k 1, dig id 3, dig (zs.length : Nat) 2] _ rfl (by decide) (parts3 (V12.out.below b3) n1 (by rw [dig_length]; omega) (V2.out.below b3) n2 (by rw [dig_length]; omega) bv3 n3 (by rw [dig_length]; omega)) (by simp) (by simp [dig_length]) (by simp [dig_length])
    refine this.mono ?_
    rintro e w' ⟨v, rfl, ho, hbl⟩
    have e1 : [dig k 1, dig id 3, dig (zs.length : Nat) 2].flatten = headS k id zs.length := by simp [headS]
    rw [e1] at ho
    have hsz : w.heap.size ≤ (w3.alloc (.cells #[.slice a1 (dig k 1).length c1, .slice a2 (dig id 3).length c2, .slice a3 (dig (zs.length : Nat) 2).length c3] 29)).heap.size := Nat.le_trans B3.out.size (by simp)
    exact ⟨v, rfl, ho.mono hsz, (B3.out.alloc B3.out.size _).trans (hbl.mono hsz)⟩
  have hl1 := dig_length 1 k
  have hl2 := dig_length 3 id
  have hl3 := dig_length 2 ((zs.length : Nat) : Int)
  clear L3 o3 b3 bv3 B2 V12 V2
  go_wp2_with fail
  refine (HC.out).mono ?_
  rintro e w4 ⟨v4, rfl, o4, b4⟩
  have hsz4 := b4.size
  have O4 : Hid (Own w4 w.heap.size v4 (headS k id zs.length)) := o4
  have B4 : Hid (Below w.heap.size w w4) := b4
  clear HC o4 b4 B3
  go_wp2_with (at_make; refine wpList_make_full _ rfl _ _ 29 rfl w4.heap.size 5 inf (.int .u8 0) 1 Tryz.underlying29 hi hz0 hz1 .i64 .i64 _ _ (246 - zs.length) rfl rfl (by first | rfl | exact hw | exact hw2) (by first | rfl | exact hw | exact hw2) ?c2 ?c3 (Nat.le_refl _) ?_)
  case c2 => rw [hz2]; omega
  case c3 => unfold maxLen; omega
  intro w5 hown hg
  have b5 : Below w4.heap.size w4 w5 := (Below.refl _ _).grown hg (Nat.le_refl _) (by intro k hk; cases hk)
  have o5 : Own w5 w4.heap.size (.slice (some ⟨w4.heap.size, 0, none⟩) (246 - zs.length) (246 - zs.length)) (List.replicate (246 - zs.length) 0) := by
    rw [toList_madeCells_one] at hown
    show World.ownsRow _ _ _ _ _ _ _
    rw [List.length_replicate, List.map_replicate]
    exact hown
  have V5 : BV w5 (some ⟨w4.heap.size, 0, none⟩) (List.replicate (246 - zs.length) 0) := o5.bv HZ
  have B5 : Hid (Below w.heap.size w w5) := B4.out.trans (b5.mono B4.out.size)
  obtain ⟨a4, c4, rfl, n4, bv4, _, _⟩ := (O4.out.below b5).slice (head_all _ _ _)
  have HC : Hid (Calls Tryz.prog 121 #[.slice (some ⟨w5.heap.size, 0, none⟩) 3 3] (w5.alloc (.cells #[.slice a4 (headS k id zs.length).length c4, .slice a zs.length cap, .slice (some ⟨w4.heap.size, 0, none⟩) (246 - zs.length) (246 - zs.length)] 29)) fun e w' => ∃ v, e = .returned v ∧ Own w' w.heap.size v (frontS k id zs) ∧ Below w.heap.size w w') := by
    have hp := parts3 (cap3 := 246 - zs.length) bv4 n4 (by rw [head_len]; omega) (HB0.out.below B5.out) HN.out (by omega) V5 (by intro h; cases h) (by simp; omega)
    rw [List.length_replicate] at hp
    have hfl : [headS k id zs.length, zs, List.replicate (246 - zs.length) 0].flatten = frontS k id zs := by simp [frontS]
    have hle : (frontS k id zs).length = 252 := front_len HLE.out
    have := concat_any w5.heap.size 0 3 3 [headS k id zs.length, zs, List.replicate (246 - zs.length) 0] _ rfl (by decide) hp (by simp) (by rw [hfl, hle]; omega) (by rw [hfl, hle]; omega)
    refine this.mono ?_
    rintro e w' ⟨v, rfl, ho, hbl⟩
    rw [hfl] at ho
    have hsz : w.heap.size ≤ (w5.alloc (.cells #[.slice a4 (headS k id zs.length).length c4, .slice a zs.length cap, .slice (some ⟨w4.heap.size, 0, none⟩) (246 - zs.length) (246 - zs.length)] 29)).heap.size := Nat.le_trans B5.out.size (by simp)
    exact ⟨v, rfl, ho.mono hsz, (B5.out.alloc B5.out.size _).trans (hbl.mono hsz)⟩
  clear hown hg b5 o5 V5 bv4 O4 B4
  go_wp2_with fail
  refine (HC.out).mono ?_
  rintro e w6 ⟨v6, rfl, o6, b6⟩
  obtain ⟨a6, c6, rfl, n6, bv6, _, _⟩ := o6.slice (front_all HB0.out.1)
  have HS : Hid (Calls Tryz.prog 123 #[.slice a6 (frontS k id zs).length c6] w6 fun e w' => ∃ v, e = .returned v ∧ Own w' w.heap.size v (sealS k id zs) ∧ Below w.heap.size w w') := by
    refine (seal_any a6 c6 (frontS k id zs) w6 bv6 (by rw [front_len HLE.out]; omega) n6).mono ?_
    rintro e w' ⟨v, rfl, ho, hbl⟩
    exact ⟨v, rfl, ho.mono b6.size, b6.trans (hbl.mono b6.size)⟩
  clear HC o6 bv6 b6 B5
  go_wp2_with fail
  refine (HS.out).mono ?_
  rintro e w7 ⟨v7, rfl, o7, b7⟩
  clear HS
  go_wp2_with fail
  exact bodyPost_ret (v := .tuple #[v7, .int .i64 0]) (by simp [results, Tryz.results56, go_sem]) rfl ⟨v7, rfl, o7, b7⟩
theorem pseal_any (k id : Int) (a : Option Addr) (cap : Nat) (zs : List Int) (w : World) (hb : BV w a zs) (hn : a = none → cap = 0) (hm : zs.length ≤ 9223372036854775807) :
    Calls Tryz.prog 56 #[.int .i64 k, .int .i64 id, .slice a zs.length cap] w fun e w' => ∃ v, e = .returned (.tuple #[v, .int .i64 (sealE k id zs.length)]) ∧ Own w' w.heap.size v (sealL k id zs) ∧ Below w.heap.size w w' := by
  unfold sealL
  by_cases h : sealE k id zs.length = 0
  · rw [if_pos h, h]
    exact pseal_good k id a cap zs w h hb hn
  · rw [if_neg h]
    refine (pseal_bad k id a zs.length cap w h hm).mono ?_
    rintro e w' ⟨rfl, hw⟩
    obtain rfl := hw.symm
    exact ⟨_, rfl, Own.nil _ _, Below.refl _ _⟩
end Go.Proofs.YtbklnadlbcndlaaGreat
namespace Go.Proofs.YtbklnadlbcndlaaGreat
set_option maxRecDepth 20000
open Go.RowKit
set_option linter.unusedVariables false
set_option linter.unusedSimpArgs false
def rdK (zs : List Int) : Int := val (zs.take 1)
def rdI (zs : List Int) : Int := val ((zs.drop 1).take 3)
def rdL (zs : List Int) : Int := val ((zs.drop 4).take 2)
def rdN (zs : List Int) : Nat := (min (rdL zs) 246).toNat
def rdB (zs : List Int) : List Int := (zs.drop 6).take (rdN zs)
def opE (zs : List Int) : Int := if zs.length = 256 then (if Good zs then (if sealL (rdK zs) (rdI zs) (rdB zs) = zs then 0 else 4) else 13) else 2
def opK (zs : List Int) : Int := if opE zs = 0 then rdK zs else 0
def opI (zs : List Int) : Int := if opE zs = 0 then rdI zs else 0
def opB (zs : List Int) : List Int := if opE zs = 0 then rdB zs else []
theorem rdB_all {zs : List Int} (h : AllB zs) : AllB (rdB zs) := (h.drop _).take _
theorem rdN_le (zs : List Int) : rdN zs ≤ 246 := by unfold rdN; omega
theorem rdL_bound {zs : List Int} (h : AllB zs) (hl : 6 ≤ zs.length) : 0 ≤ rdL zs ∧ rdL zs < 65536 := by
  unfold rdL
  have := val_bound 2 ((zs.drop 4).take 2) (by rw [List.length_take, List.length_drop]; omega) ((h.drop 4).take 2)
  exact this
theorem rdN_eq {zs : List Int} (h : AllB zs) (hl : 6 ≤ zs.length) : (rdN zs : Int) = if 246 < rdL zs then 246 else rdL zs := by
  have := rdL_bound h hl
  unfold rdN
  split <;> omega
theorem rdB_len {zs : List Int} (h : 252 ≤ zs.length) : (rdB zs).length = rdN zs := by
  have := rdN_le zs
  unfold rdB
  rw [List.length_take, List.length_drop]; omega
theorem num_at {ys : List Int} (x : Nat) (h1 : 1 ≤ x) (h6 : x ≤ 6) (hl : x ≤ ys.length) : nval x (ys, 0) = val (ys.take x) ∧ nstep x (ys, 0) = (ys.drop x, 0) := by
  have hE : getE ys x = 0 := by unfold getE; rw [if_neg (by omega), if_neg (by omega)]
  constructor
  · show numV ys 0 x = _
    unfold numV getV
    rw [if_pos rfl, if_neg (by omega), if_neg (by omega), Int.toNat_natCast]
  · show (numZ ys 0 x, numE ys 0 x) = _
    unfold numZ numE
    rw [if_pos ⟨rfl, hE⟩, if_pos rfl, hE, Int.toNat_natCast]
set_option maxHeartbeats 1600000 in
theorem pread_any (a : Option Addr) (cap : Nat) (ys : List Int) (w : World) (hb : BV w a ys) (hl : ys.length = 252) (hn : a = none → cap = 0) (hc : ys.length ≤ cap) (hcm : cap ≤ maxLen) :
    Calls Tryz.prog 216 #[.slice a ys.length cap] w fun e w' => ∃ v, e = .returned (.tuple #[.int .i64 (rdK ys), .int .i64 (rdI ys), v]) ∧ Own w' w.heap.size v (rdB ys) ∧ Below w.heap.size w w' := by
  obtain ⟨b, off, rfl, hblt, hcells⟩ : ∃ b off, a = some ⟨b, off, none⟩ ∧ b < w.heap.size ∧ ∀ i, i < ys.length → w.cell? ⟨b, off + i, none⟩ = some (.int .u8 (ys.getD i 0)) := by
    obtain ⟨_, h | h⟩ := hb
    · subst h; simp at hl
    · exact h
  have HN := rq_new (some ⟨b, off, none⟩) cap ys w hb (by omega) hn
  have n1 := num_at (ys := ys) 1 (by decide) (by decide) (by omega)
  have n2 := num_at (ys := ys.drop 1) 3 (by decide) (by decide) (by simp; omega)
  have n3 := num_at (ys := ys.drop 4) 2 (by decide) (by decide) (by simp; omega)
  rw [List.drop_drop] at n2
  have M1 : Hid (∀ B W rb, RQ B W rb (ys, 0) → Calls Tryz.prog 234 #[.pointer (some ⟨rb, 0, none⟩), .int .i64 1] W fun e w' => e = .returned (.int .i64 (rdK ys)) ∧ Hid (RQ B w' rb (ys.drop 1, 0) ∧ W.grownBy w' (some rb))) := by
    intro B W rb h
    refine (rq_num 1 h).mono ?_
    rintro e w' ⟨rfl, h1, h2⟩
    rw [show nstep 1 (ys, 0) = (ys.drop 1, 0) from n1.2] at h1
    exact ⟨by rw [show nval 1 (ys, 0) = rdK ys from n1.1], h1, h2⟩
  have M2 : Hid (∀ B W rb, RQ B W rb (ys.drop 1, 0) → Calls Tryz.prog 234 #[.pointer (some ⟨rb, 0, none⟩), .int .i64 3] W fun e w' => e = .returned (.int .i64 (rdI ys)) ∧ Hid (RQ B w' rb (ys.drop 4, 0) ∧ W.grownBy w' (some rb))) := by
    intro B W rb h
    refine (rq_num 3 h).mono ?_
    rintro e w' ⟨rfl, h1, h2⟩
    rw [show nstep 3 (ys.drop 1, 0) = (ys.drop 4, 0) from n2.2] at h1
    exact ⟨by rw [show nval 3 (ys.drop 1, 0) = rdI ys from n2.1], h1, h2⟩
  have M3 : Hid (∀ B W rb, RQ B W rb (ys.drop 4, 0) → Calls Tryz.prog 234 #[.pointer (some ⟨rb, 0, none⟩), .int .i64 2] W fun e w' => e = .returned (.int .i64 (rdL ys)) ∧ Hid (W.grownBy w' (some rb))) := by
    intro B W rb h
    refine (rq_num 2 h).mono ?_
    rintro e w' ⟨rfl, h1, h2⟩
    exact ⟨by rw [show nval 2 (ys.drop 4, 0) = rdL ys from n3.1], h2⟩
  have hmn : (if 246 < rdL ys then (246 : Int) else rdL ys) = (rdN ys : Nat) := (rdN_eq hb.1 (by omega)).symm
  have hrl := rdL_bound hb.1 (by omega)
  have hN := rdN_le ys
  have hBL := rdB_len (zs := ys) (by omega)
  have HCL : Hid (∀ W, Below w.heap.size w W → Calls Tryz.prog 180 #[.slice (some ⟨b, off + 6, none⟩) (rdN ys) (cap - 6)] W fun e w' => ∃ v, e = .returned v ∧ Own w' w.heap.size v (rdB ys) ∧ Below w.heap.size w w') := by
    intro W hW
    have hbv : BV W (some ⟨b, off + 6, none⟩) (rdB ys) := by
      have h1 := hb.below hW
      refine ⟨rdB_all hb.1, ?_⟩
      by_cases h0 : rdB ys = []
      · exact .inl h0
      · refine .inr ⟨b, off + 6, rfl, Nat.lt_of_lt_of_le hblt hW.size, fun i hi => ?_⟩
        rw [hBL] at hi
        rw [show off + 6 + i = off + (6 + i) by omega, (hW.cell (p := ⟨b, off + (6 + i), none⟩) hblt), hcells (6 + i) (by omega)]
        unfold rdB
        rw [List.getD_eq_getElem?_getD, List.getD_eq_getElem?_getD, List.getElem?_take, if_pos hi, List.getElem?_drop]
    have := clone_any (some ⟨b, off + 6, none⟩) (cap - 6) (rdB ys) W hbv (by omega) (by intro h; cases h)
    rw [hBL] at this
    refine this.mono ?_
    rintro e w' ⟨v, rfl, ho, hbl⟩
    exact ⟨v, rfl, ho.mono hW.size, hW.trans (hbl.mono hW.size)⟩
  have hcap : 252 ≤ cap := by omega
  have hcap2 : cap ≤ 9223372036854775807 := by unfold maxLen at hcm; omega
  have hw6 : wrap64 (6 + (rdN ys : Int)) = 6 + (rdN ys : Int) := by unfold wrap64; omega
  rw [hl] at HN ⊢
  clear n1 n2 n3 hcells hb hn hc hl hBL hcm
  generalize rdK ys = rk at *
  generalize rdI ys = ri at *
  generalize rdL ys = rl at *
  generalize rdN ys = rn at *
  go_enter Tryz.func216, Tryz.ntmps216
  go_wp2_with fail
  refine HN.mono ?_
  rintro e w1 ⟨rb, rfl, H1⟩
  clear HN
  go_wp2_with fail
  refine (M1.out _ _ _ H1.out.2.1).mono ?_
  rintro e w2 ⟨rfl, H2⟩
  have B2 : Hid (Below w.heap.size w w2) := below_of_grown H1.out.2.2 H2.out.2 H1.out.1
  have HR : Hid (w.heap.size ≤ rb) := H1.out.1
  have Q2 : Hid (RQ w1.heap.size w2 rb (ys.drop 1, 0)) := H2.out.1
  clear M1 H1 H2
  go_wp2_with fail
  refine (M2.out _ _ _ Q2.out).mono ?_
  rintro e w3 ⟨rfl, H3⟩
  have B3 : Hid (Below w.heap.size w w3) := below_of_grown B2.out H3.out.2 HR.out
  have Q3 : Hid (RQ w1.heap.size w3 rb (ys.drop 4, 0)) := H3.out.1
  clear M2 Q2 B2 H3
  go_wp2_with fail
  refine (M3.out _ _ _ Q3.out).mono ?_
  rintro e w4 ⟨rfl, H4⟩
  have B4 : Hid (Below w.heap.size w w4) := below_of_grown B3.out H4.out HR.out
  clear M3 Q3 B3 H4
  go_wp2_with fail
  refine (HCL.out w4 B4.out).mono ?_
  rintro e w5 ⟨v, rfl, ho, hbl⟩
  clear HCL
  go_wp2_with fail
  exact bodyPost_ret (v := .tuple #[.int .i64 rk, .int .i64 ri, v]) (by simp [results, Tryz.results216, go_sem]) rfl ⟨v, rfl, ho, hbl⟩
end Go.Proofs.YtbklnadlbcndlaaGreat
namespace Go.Proofs.YtbklnadlbcndlaaGreat
set_option maxRecDepth 20000
open Go.RowKit
set_option linter.unusedVariables false
set_option linter.unusedSimpArgs false
theorem take_drop_take (zs : List Int) (n d m : Nat) (h : d + m ≤ n) : ((zs.take n).drop d).take m = (zs.drop d).take m := by
  rw [List.drop_take, List.take_take, Nat.min_eq_left (by omega)]
theorem rd_take (zs : List Int) : rdK (zs.take 252) = rdK zs ∧ rdI (zs.take 252) = rdI zs ∧ rdB (zs.take 252) = rdB zs := by
  have e1 : rdL (zs.take 252) = rdL zs := by unfold rdL; rw [take_drop_take _ _ _ _ (by decide)]
  have e2 : rdN (zs.take 252) = rdN zs := by unfold rdN; rw [e1]
  refine ⟨?_, ?_, ?_⟩
  · unfold rdK; rw [List.take_take]; rfl
  · unfold rdI; rw [take_drop_take _ _ _ _ (by decide)]
  · unfold rdB
    rw [e2, take_drop_take _ _ _ _ (by have := rdN_le zs; omega)]
theorem op_bad (zs : List Int) (h : opE zs ≠ 0) : opK zs = 0 ∧ opI zs = 0 ∧ opB zs = [] := by
  unfold opK opI opB
  rw [if_neg h, if_neg h, if_neg h]
  exact ⟨rfl, rfl, rfl⟩
theorem op_good (zs : List Int) (h : opE zs = 0) : opK zs = rdK zs ∧ opI zs = rdI zs ∧ opB zs = rdB zs := by
  unfold opK opI opB
  rw [if_pos h, if_pos h, if_pos h]
  exact ⟨rfl, rfl, rfl⟩
def OpPost (w : World) (zs : List Int) (e : Ending) (w' : World) : Prop := ∃ v, e = .returned (.tuple #[.int .i64 (opK zs), .int .i64 (opI zs), v, .int .i64 (opE zs)]) ∧ Own w' w.heap.size v (opB zs) ∧ Below w.heap.size w w'
theorem OpPost.bad {w w' : World} {zs : List Int} (h : opE zs ≠ 0) (hb : Below w.heap.size w w') : OpPost w zs (.returned (.tuple #[.int .i64 0, .int .i64 0, .slice none 0 0, .int .i64 (opE zs)])) w' := by
  obtain ⟨h1, h2, h3⟩ := op_bad zs h
  exact ⟨_, by rw [h1, h2], by rw [h3]; exact Own.nil _ _, hb⟩
theorem OpPost.good {w w' : World} {zs : List Int} {v : Value} (h : opE zs = 0) (ho : Own w' w.heap.size v (rdB zs)) (hb : Below w.heap.size w w') : OpPost w zs (.returned (.tuple #[.int .i64 (rdK zs), .int .i64 (rdI zs), v, .int .i64 0])) w' := by
  obtain ⟨h1, h2, h3⟩ := op_good zs h
  exact ⟨v, by rw [h1, h2, h], by rw [h3]; exact ho, hb⟩
set_option maxHeartbeats 800000 in
theorem popen_len (a : Option Addr) (n cap : Nat) (w : World) (h : n ≠ 256) (hn : n ≤ 9223372036854775807) :
    Calls Tryz.prog 173 #[.slice a n cap] w fun e w' => e = .returned (.tuple #[.int .i64 0, .int .i64 0, .slice none 0 0, .int .i64 2]) ∧ w' = w := by
  have hd : ((n : Int) == 256) = false := by simp; omega
  go_enter Tryz.func173, Tryz.ntmps173
  go_wp2
  exact bodyPost_ret (v := .tuple #[.int .i64 0, .int .i64 0, .slice none 0 0, .int .i64 2]) (by simp [results, Tryz.results173, go_sem]) rfl ⟨rfl, rfl⟩
set_option maxHeartbeats 800000 in
theorem popen_sum (a : Option Addr) (cap : Nat) (zs : List Int) (w : World) (hb : BV w a zs) (hl : zs.length = 256) (hc : zs.length ≤ cap) (hg : ¬ Good zs) :
    Calls Tryz.prog 173 #[.slice a 256 cap] w fun e w' => e = .returned (.tuple #[.int .i64 0, .int .i64 0, .slice none 0 0, .int .i64 13]) ∧ Below w.heap.size w w' := by
  have HO := open_any a cap zs w hb (by omega) hc
  have e1 : openE zs = 13 := by unfold openE; rw [if_neg (by omega), if_neg hg]
  rw [e1, hl] at HO
  clear hb hl hg e1 hc
  go_enter Tryz.func173, Tryz.ntmps173
  go_wp2_with fail
  refine HO.mono ?_
  rintro e w1 ⟨v1, rfl, _, b1⟩
  clear HO
  go_wp2_with fail
  exact bodyPost_ret (v := .tuple #[.int .i64 0, .int .i64 0, .slice none 0 0, .int .i64 13]) (by simp [results, Tryz.results173, go_sem]) rfl ⟨rfl, b1⟩
set_option maxHeartbeats 1600000 in
theorem popen_good (a : Option Addr) (cap : Nat) (zs : List Int) (w : World) (hb : BV w a zs) (hn : a = none → cap = 0) (hl : zs.length = 256) (hc : zs.length ≤ cap) (hg : Good zs) :
    Calls Tryz.prog 173 #[.slice a 256 cap] w fun e w' => OpPost w zs e w' := by
  have hEq : opE zs = if sealL (rdK zs) (rdI zs) (rdB zs) = zs then 0 else 4 := by unfold opE; rw [if_pos hl, if_pos hg]
  have HO := open_any a cap zs w hb (by omega) hc
  have e1 : openE zs = 0 := by unfold openE; rw [if_neg (by omega), if_pos hg]
  have e2 : openL zs = zs.take 252 := by unfold openL; rw [if_neg (by omega), if_pos hg, hl]
  have hl2 : (zs.take 252).length = 252 := by rw [List.length_take]; omega
  rw [e1, e2, hl] at HO
  obtain ⟨r1, r2, r3⟩ := rd_take zs
  have HR : Hid (∀ (a1 : Option Addr) (c1 : Nat) (W : World), BV W a1 (zs.take 252) → (a1 = none → c1 = 0) → (zs.take 252).length ≤ c1 → c1 ≤ maxLen → Calls Tryz.prog 216 #[.slice a1 252 c1] W fun e w' => ∃ v, e = .returned (.tuple #[.int .i64 (rdK zs), .int .i64 (rdI zs), v]) ∧ Own w' W.heap.size v (rdB zs) ∧ Below W.heap.size W w') := by
    intro a1 c1 W q1 q2 q3 q4
    have := pread_any a1 c1 (zs.take 252) W q1 hl2 q2 q3 q4
    rw [r1, r2, r3, hl2] at this
    exact this
  have hza := hb.1
  have hBL := rdB_len (zs := zs) (by omega)
  have hNle := rdN_le zs
  have HS : Hid (∀ (a1 : Option Addr) (c1 : Nat) (W : World), BV W a1 (rdB zs) → (a1 = none → c1 = 0) → Calls Tryz.prog 56 #[.int .i64 (rdK zs), .int .i64 (rdI zs), .slice a1 (rdB zs).length c1] W fun e w' => ∃ v, e = .returned (.tuple #[v, .int .i64 (sealE (rdK zs) (rdI zs) (rdB zs).length)]) ∧ Own w' W.heap.size v (sealL (rdK zs) (rdI zs) (rdB zs)) ∧ Below W.heap.size W w') := fun a1 c1 W q1 q2 => pseal_any _ _ a1 c1 _ W q1 q2 (by omega)
  have HSA : Hid (AllB (sealL (rdK zs) (rdI zs) (rdB zs))) := sealL_all (rdB_all hza)
  have HBA : Hid (AllB (rdB zs)) := rdB_all hza
  have HTA : Hid (AllB (zs.take 252)) := hza.take _
  have HBV : Hid (BV w a zs) := hb
  have HN : Hid (a = none → cap = 0) := hn
  have HL : Hid (zs.length = 256) := hl
  have HL2 : Hid ((zs.take 252).length = 252) := hl2
  have HSE : Hid (sealE (rdK zs) (rdI zs) (rdB zs).length ≠ 0 → opE zs = 4) := by
    intro h
    rw [hEq]
    unfold sealL
    rw [if_neg h, if_neg (by intro c; rw [← c] at hl; simp at hl)]
  have HEQ : Hid (opE zs = if sealL (rdK zs) (rdI zs) (rdB zs) = zs then 0 else 4) := hEq
  clear hb hl hg e1 e2 hc hn hl2 r1 r2 r3 hza hBL hNle hEq
  generalize hS : sealL (rdK zs) (rdI zs) (rdB zs) = ss at *
  clear hS
  generalize hE : sealE (rdK zs) (rdI zs) (rdB zs).length = se at *
  clear hE
  obtain ⟨rk, hrk⟩ : ∃ rk, rk = rdK zs := ⟨_, rfl⟩
  obtain ⟨ri, hri⟩ : ∃ ri, ri = rdI zs := ⟨_, rfl⟩
  rw [← hrk, ← hri] at HR HS
  have HRK : Hid (rk = rdK zs) := hrk
  have HRI : Hid (ri = rdI zs) := hri
  clear hrk hri
  go_enter Tryz.func173, Tryz.ntmps173
  go_wp2_with fail
  refine HO.mono ?_
  rintro e w1 ⟨v1, rfl, o1, b1⟩
  obtain ⟨a1, c1, rfl, n1, bv1, q3, q4⟩ := o1.slice HTA.out
  rw [HL2.out] at q3
  rw [HL2.out]
  have B1 : Hid (Below w.heap.size w w1) := b1
  have HR1 : Hid (Calls Tryz.prog 216 #[.slice a1 252 c1] w1 fun e w' => ∃ v, e = .returned (.tuple #[.int .i64 rk, .int .i64 ri, v]) ∧ Own w' w1.heap.size v (rdB zs) ∧ Below w1.heap.size w1 w') := HR.out a1 c1 w1 bv1 n1 (by rw [HL2.out]; exact q3) q4
  clear HO o1 b1 bv1 HR q3 q4
  go_wp2_with fail
  refine HR1.out.mono ?_
  rintro e w2 ⟨v2, rfl, o2, b2⟩
  have B2 : Hid (Below w.heap.size w w2) := B1.out.trans (b2.mono B1.out.size)
  have O2 : Hid (Own w2 w.heap.size v2 (rdB zs)) := o2.mono B1.out.size
  obtain ⟨a2, c2, rfl, n2, bv2, _, _⟩ := o2.slice HBA.out
  have HS1 : Hid (Calls Tryz.prog 56 #[.int .i64 rk, .int .i64 ri, .slice a2 (rdB zs).length c2] w2 fun e w' => ∃ v, e = .returned (.tuple #[v, .int .i64 se]) ∧ Own w' w2.heap.size v ss ∧ Below w2.heap.size w2 w') := HS.out a2 c2 w2 bv2 n2
  clear HR1 o2 b2 bv2 HS B1
  go_wp2_with fail
  refine HS1.out.mono ?_
  rintro e w3 ⟨v3, rfl, o3, b3⟩
  have B3 : Hid (Below w.heap.size w w3) := B2.out.trans (b3.mono B2.out.size)
  have O3 : Hid (Own w3 w.heap.size (.slice a2 (rdB zs).length c2) (rdB zs)) := O2.out.below b3
  obtain ⟨a3, c3, rfl, n3, bv3, _, _⟩ := o3.slice HSA.out
  have HQ : Hid (Calls Tryz.prog 217 #[.slice a3 ss.length c3, .slice a 256 cap] w3 fun e w' => e = .returned (.bool (decide (ss = zs))) ∧ Below w3.heap.size w3 w') := by
    have := beq_any a3 a c3 cap ss zs w3 bv3 (HBV.out.below B3.out) n3 HN.out
    rw [HL.out] at this
    exact this
  clear HS1 o3 b3 bv3 B2 O2
  by_cases hse : se = 0
  · subst hse
    by_cases hsz : ss = zs
    · have hd : decide (ss = zs) = true := by simpa using hsz
      rw [hd] at HQ
      have HF : Hid (opE zs = 0) := by
        have := HEQ.out
        rw [if_pos hsz] at this
        exact this
      clear hsz hd HEQ HSE
      go_wp2_with (first | (go_at_call 217; refine HQ.out.mono ?_; rintro e w4 ⟨rfl, b4⟩; clear HQ) | fail)
      exact bodyPost_ret (v := .tuple #[.int .i64 rk, .int .i64 ri, .slice a2 (rdB zs).length c2, .int .i64 0]) (by simp [results, Tryz.results173, go_sem]) rfl (by rw [HRK.out, HRI.out]; exact OpPost.good HF.out (O3.out.below b4) (B3.out.trans (b4.mono B3.out.size)))
    · have hd : decide (ss = zs) = false := by simpa using hsz
      rw [hd] at HQ
      have HF : Hid (opE zs = 4) := by
        have := HEQ.out
        rw [if_neg hsz] at this
        exact this
      clear hsz hd HEQ HSE
      go_wp2_with (first | (go_at_call 217; refine HQ.out.mono ?_; rintro e w4 ⟨rfl, b4⟩; clear HQ) | fail)
      exact bodyPost_ret (v := .tuple #[.int .i64 0, .int .i64 0, .slice none 0 0, .int .i64 4]) (by simp [results, Tryz.results173, go_sem]) rfl (by rw [← HF.out]; exact OpPost.bad (by rw [HF.out]; decide) (B3.out.trans (b4.mono B3.out.size)))
  · have hd : (se == 0) = false := by simpa using hse
    have HF : Hid (opE zs = 4) := HSE.out hse
    clear HQ HEQ HSE
    go_wp2_with fail
    exact bodyPost_ret (v := .tuple #[.int .i64 0, .int .i64 0, .slice none 0 0, .int .i64 4]) (by simp [results, Tryz.results173, go_sem]) rfl (by rw [← HF.out]; exact OpPost.bad (by rw [HF.out]; decide) B3.out)
theorem popen_any (a : Option Addr) (cap : Nat) (zs : List Int) (w : World) (hb : BV w a zs) (hn : a = none → cap = 0) (hm : zs.length ≤ 900000) (hc : zs.length ≤ cap) :
    Calls Tryz.prog 173 #[.slice a zs.length cap] w fun e w' => OpPost w zs e w' := by
  by_cases hl : zs.length = 256
  · by_cases hg : Good zs
    · have := popen_good a cap zs w hb hn hl hc hg
      rw [hl]; exact this
    · have := popen_sum a cap zs w hb hl hc hg
      rw [hl]
      refine this.mono ?_
      rintro e w' ⟨rfl, h⟩
      have hE : opE zs = 13 := by unfold opE; rw [if_pos hl, if_neg hg]
      rw [← hE]; exact OpPost.bad (by rw [hE]; decide) h
  · refine (popen_len a zs.length cap w hl (by omega)).mono ?_
    rintro e w' ⟨rfl, hw⟩
    obtain rfl := hw.symm
    have hE : opE zs = 2 := by unfold opE; rw [if_neg hl]
    rw [← hE]; exact OpPost.bad (by rw [hE]; decide) (Below.refl _ _)
end Go.Proofs.YtbklnadlbcndlaaGreat
namespace Go.Proofs.YtbklnadlbcndlaaGreat
set_option maxRecDepth 20000
open Go.RowKit
set_option linter.unusedVariables false
set_option linter.unusedSimpArgs false
def splitF (n : Nat) : Nat → List Int → List (List Int)
  | 0, _ => []
  | f + 1, zs => if zs = [] then [] else zs.take n :: splitF n f (zs.drop n)
def splitS (zs : List Int) (size : Int) : List (List Int) := if size < 1 then [] else splitF size.toNat zs.length zs
theorem splitF_nil (n : Nat) : ∀ f, splitF n f [] = []
  | 0 => rfl
  | _ + 1 => by unfold splitF; rw [if_pos rfl]
theorem splitF_step (n f : Nat) {zs : List Int} (h : zs ≠ []) : splitF n (f + 1) zs = zs.take n :: splitF n f (zs.drop n) := by
  show (if zs = [] then [] else _) = _
  rw [if_neg h]
def BT (w : World) (a : Option Addr) (zs : List Int) : Prop :=
  AllB zs ∧ (zs = [] ∨ ∃ b off cur fr, a = some ⟨b, off, none⟩ ∧ w.heap[b]? = some (.cells cur 5 fr) ∧ ∀ i, i < zs.length → w.cell? ⟨b, off + i, none⟩ = some (.int .u8 (zs.getD i 0)))
theorem BT.bv {w : World} {a : Option Addr} {zs : List Int} (h : BT w a zs) : BV w a zs := by
  obtain ⟨hz, h | ⟨b, off, cur, fr, rfl, hb, hc⟩⟩ := h
  · exact ⟨hz, .inl h⟩
  · exact ⟨hz, .inr ⟨b, off, rfl, (Array.getElem?_eq_some_iff.1 hb).1, hc⟩⟩
theorem BT.keep {w w' : World} {a : Option Addr} {zs : List Int} (h : BT w a zs) (hk : ∀ (b : Nat) (cur : Array Value) (fr : Nat × Nat), w.heap[b]? = some (Obj.cells cur 5 fr) → w'.heap[b]? = w.heap[b]?) : BT w' a zs := by
  obtain ⟨hz, h | ⟨b, off, cur, fr, rfl, hb, hc⟩⟩ := h
  · exact ⟨hz, .inl h⟩
  · exact ⟨hz, .inr ⟨b, off, cur, fr, rfl, (hk b cur fr hb).trans hb, fun i hi => (World.cell?_of_block (a := ⟨b, off + i, none⟩) (hk b cur fr hb)).trans (hc i hi)⟩⟩
theorem BT.below {w w' : World} {a : Option Addr} {zs : List Int} (h : BT w a zs) (hb : Below w.heap.size w w') : BT w' a zs :=
  h.keep (fun b cur fr he => hb.block b (Array.getElem?_eq_some_iff.1 he).1)
theorem BT.cut {w : World} {b off : Nat} {zs : List Int} (h : BT w (some ⟨b, off, none⟩) zs) (n m : Nat) : BT w (some ⟨b, off + n, none⟩) ((zs.drop n).take m) := by
  refine ⟨(h.1.drop _).take _, ?_⟩
  by_cases h0 : (zs.drop n).take m = []
  · exact .inl h0
  · obtain ⟨_, rfl | ⟨b', off', cur, fr, e, hlt, hc⟩⟩ := h
    · simp at h0
    · simp only [Option.some.injEq, Addr.mk.injEq, and_true] at e
      obtain ⟨rfl, rfl⟩ := e
      refine .inr ⟨b, off + n, cur, fr, rfl, hlt, fun i hi => ?_⟩
      rw [List.length_take, List.length_drop] at hi
      rw [Nat.add_assoc, hc (n + i) (by omega), List.getD_eq_getElem?_getD, List.getD_eq_getElem?_getD, List.getElem?_take, if_pos (by omega), List.getElem?_drop]
theorem Own.bt {w : World} {base : Nat} {a : Option Addr} {n cap : Nat} {zs : List Int} (h : Own w base (.slice a n cap) zs) (hz : AllB zs) : BT w a zs := by
  refine ⟨hz, ?_⟩
  have hb := h.bv hz
  rcases h.2 with ⟨e, h0⟩ | ⟨g, c, cur, e, _, hg, _⟩
  · exact .inl (List.eq_nil_of_length_eq_zero h0)
  · obtain ⟨rfl, _, _⟩ := Value.slice.inj e
    rcases hb.2 with hb | ⟨b, off, e2, _, hc⟩
    · exact .inl hb
    · simp only [Option.some.injEq, Addr.mk.injEq, and_true] at e2
      obtain ⟨rfl, rfl⟩ := e2
      exact .inr ⟨g, 0, cur, _, rfl, hg, hc⟩
def OwnP (w : World) (base : Nat) (v : Value) (zss : List (List Int)) : Prop :=
  ∃ vs : List Value, w.ownsRow base 29 1 v vs.length vs ∧ vs.length = zss.length ∧ ∀ i, i < zss.length → ∃ a c, vs[i]? = some (.slice a (zss.getD i []).length c) ∧ (a = none → c = 0) ∧ BT w a (zss.getD i [])
theorem OwnP.nil (w : World) (base : Nat) : OwnP w base (.slice none 0 0) [] := ⟨[], World.ownsRow_nil _ _ _ _, rfl, fun i hi => by cases hi⟩
theorem Tryz.info29 : (Tryz.prog.info? 29).map (fun i => (i.zero, i.size, i.bytes)) = some (some (.slice none 0 0), 1, 24) := by kernel_rfl
theorem OwnP.below {w w' : World} {base : Nat} {v : Value} {zss : List (List Int)} (h : OwnP w base v zss) (hb : Below w.heap.size w w') : OwnP w' base v zss := by
  obtain ⟨vs, h1, h2, h3⟩ := h
  refine ⟨vs, ⟨h1.1, ?_⟩, h2, fun i hi => ?_⟩
  · have hl := World.ownsRow.lt h1
    rcases h1.2 with hn | ⟨g, cap, cur, rfl, hbb, hg, rest⟩
    · exact .inl hn
    · exact .inr ⟨g, cap, cur, rfl, hbb, (hb.block g (hl g rfl).2).trans hg, rest⟩
  · obtain ⟨a, c, q1, q2, q3⟩ := h3 i hi
    exact ⟨a, c, q1, q2, q3.below hb⟩
theorem OwnP.mono {w : World} {b1 b2 : Nat} {v : Value} {zss : List (List Int)} (h : OwnP w b1 v zss) (hb : b2 ≤ b1) : OwnP w b2 v zss := by
  obtain ⟨vs, h1, h2, h3⟩ := h
  refine ⟨vs, ⟨h1.1, ?_⟩, h2, h3⟩
  rcases h1.2 with hn | ⟨g, cap, cur, rfl, hbb, hg, rest⟩
  · exact .inl hn
  · exact .inr ⟨g, cap, cur, rfl, Nat.le_trans hb hbb, hg, rest⟩
theorem OwnP.view {w : World} {base : Nat} {v : Value} {zss : List (List Int)} (h : OwnP w base v zss) : ∃ a cap, v = .slice a zss.length cap ∧ zss.length ≤ cap ∧ cap ≤ maxLen ∧ (zss = [] ∨ ∃ g, a = some ⟨g, 0, none⟩ ∧ base ≤ g ∧ g < w.heap.size ∧ ∀ i, i < zss.length → ∃ x c, w.cell? ⟨g, i, none⟩ = some (.slice x (zss.getD i []).length c) ∧ (x = none → c = 0) ∧ BT w x (zss.getD i [])) := by
  obtain ⟨vs, h1, h2, h3⟩ := h
  have hl := World.ownsRow.lt h1
  rcases h1.2 with ⟨rfl, h0⟩ | ⟨g, cap, cur, rfl, hb, hg, hnc, hcm, hcs, htake⟩
  · exact ⟨none, 0, by rw [← h2, h0], by omega, by decide, .inl (List.eq_nil_of_length_eq_zero (by omega))⟩
  · refine ⟨_, cap, by rw [h2], by omega, hcm, .inr ⟨g, rfl, hb, (hl g rfl).2, fun i hi => ?_⟩⟩
    obtain ⟨a, c, q1, q2, q3⟩ := h3 i hi
    exact ⟨a, c, by rw [World.ownsRow.cellAt (g := g) h1 i (by omega), q1], q2, q3⟩
theorem getD_snoc (zss : List (List Int)) (ps : List Int) (i : Nat) : (zss ++ [ps]).getD i [] = if i < zss.length then zss.getD i [] else if i = zss.length then ps else [] := by
  rw [List.getD_eq_getElem?_getD, List.getElem?_append]
  by_cases h : i < zss.length
  · rw [if_pos h, if_pos h, List.getD_eq_getElem?_getD]
  · rw [if_neg h, if_neg h]
    by_cases h2 : i = zss.length
    · rw [if_pos h2, h2, Nat.sub_self]; rfl
    · rw [if_neg h2, List.getElem?_eq_none (by simp; omega)]; rfl
theorem wp_appP {ops : Array Oper} {rest : List Oper} {o : Oper} {a : Act} {Q : Exit → Act → World → Prop} {w : World} (hgd : o.guard = none) (s x : Operand)
    (ho : o.op = .call { callee := .builtin .append, args := #[s, x], argTypes := #[119, 119] }) (base : Nat) (lv : Value) (zss : List (List Int)) (ps : List Int) (hs : a.eval s = lv) (hown : OwnP w base lv zss)
    (g : Nat) (hx : a.eval x = .slice (some ⟨g, 0, none⟩) 1 1) (pa : Option Addr) (pn pc : Nat) (hpn : ps.length = pn) (hg : w.heap[g]? = some (.cells #[.slice pa pn pc] 29 (0, 0))) (hpa : pa = none → pc = 0) (hbt : BT w pa ps) (hlen : zss.length ≤ 1000000) (hbase : base ≤ w.heap.size)
    (h : ∀ lv' w', OwnP w' base lv' (zss ++ [ps]) → Below base w w' → (∀ (b : Nat) (cur : Array Value) (fr : Nat × Nat), w.heap[b]? = some (Obj.cells cur 5 fr) → w'.heap[b]? = w.heap[b]?) → wpList Tryz.prog ops Q rest (a.put o.dst lv') w') : wpList Tryz.prog ops Q (o :: rest) a w := by
  subst hpn
  obtain ⟨i0, hi, hz0, hz1, hz2⟩ := info_parts Tryz.info29
  obtain ⟨vs, h1, h2, h3⟩ := hown
  refine wpList_append_own w hgd s x 119 ho base 29 i0 (.slice none 0 0) 1 24 Tryz.underlying119 hi hz0 hz1 hz2 rfl (by decide) lv vs.length vs hs h1 ⟨g, 0, none⟩ 1 1 [.slice pa ps.length pc] hx rfl ?_ (by simp [Value.oneCell']) (by unfold maxLen; omega) (by omega) hbase ?_
  · intro j u hu
    rw [add_plain, Nat.zero_add, cell_of_row _ _ _ _ _ _ hg]
    simpa using hu
  · intro v' w' q1 q2 _
    have hkeep : ∀ (b : Nat) (cur : Array Value) (fr : Nat × Nat), w.heap[b]? = some (Obj.cells cur 5 fr) → w'.heap[b]? = w.heap[b]? := by
      intro b cur fr hb
      refine q2.block b (Array.getElem?_eq_some_iff.1 hb).1 ?_
      intro hc
      rcases h1.2 with ⟨rfl, _⟩ | ⟨g', cap, cur', rfl, _, hg', _⟩
      · simp [Value.ownBlock] at hc
      · simp [Value.ownBlock] at hc
        subst hc
        rw [hg'] at hb
        simp at hb
    refine h v' w' ⟨vs ++ [.slice pa ps.length pc], ?_, by simp [h2], fun i hi => ?_⟩ ((Below.refl base w).grown q2 hbase (fun k hk => (World.ownsRow.lt h1 k hk).1)) hkeep
    · rw [List.length_append]; exact q1
    · rw [List.length_append, List.length_singleton] at hi
      rw [getD_snoc]
      by_cases hlt : i < zss.length
      · obtain ⟨a', c, r1, r2, r3⟩ := h3 i hlt
        refine ⟨a', c, ?_, r2, ?_⟩
        · rw [if_pos hlt, List.getElem?_append_left (by omega), r1]
        · rw [if_pos hlt]; exact r3.keep hkeep
      · have : i = zss.length := by omega
        subst this
        refine ⟨pa, pc, ?_, hpa, ?_⟩
        · rw [if_neg hlt, if_pos rfl, List.getElem?_append_right (by omega), h2, Nat.sub_self]; rfl
        · rw [if_neg hlt, if_pos rfl]; exact hbt.keep hkeep
end Go.Proofs.YtbklnadlbcndlaaGreat
namespace Go.Proofs.YtbklnadlbcndlaaGreat
set_option maxRecDepth 20000
open Go.RowKit
set_option linter.unusedVariables false
set_option linter.unusedSimpArgs false
def slLen : Value → Nat
  | .slice _ n _ => n
  | _ => 0
theorem BT.from' {w : World} {b off : Nat} {zs : List Int} (h : BT w (some ⟨b, off, none⟩) zs) (n : Nat) : BT w (some ⟨b, off + n, none⟩) (zs.drop n) := by
  have := h.cut n zs.length
  rw [List.take_of_length_le (by rw [List.length_drop]; omega)] at this
  exact this
theorem BT.upto {w : World} {a : Option Addr} {zs : List Int} (h : BT w a zs) (n : Nat) : BT w a (zs.take n) := by
  obtain ⟨hz, rfl | ⟨b, off, cur, fr, rfl, hb, hc⟩⟩ := h
  · exact ⟨by simpa using AllB.nil, .inl (by simp)⟩
  · refine ⟨hz.take n, .inr ⟨b, off, cur, fr, rfl, hb, fun i hi => ?_⟩⟩
    rw [List.length_take] at hi
    rw [hc i (by omega), List.getD_eq_getElem?_getD, List.getD_eq_getElem?_getD, List.getElem?_take, if_pos (by omega)]
set_option maxHeartbeats 400000 in
theorem split_none (a : Option Addr) (n cap : Nat) (size : Int) (w : World) (h : size < 1) :
    Calls Tryz.prog 172 #[.slice a n cap, .int .i64 size] w fun e w' => e = .returned (.slice none 0 0) ∧ w' = w := by
  go_enter Tryz.func172, Tryz.ntmps172
  go_wp2
  go_ret
  exact ⟨rfl, rfl⟩
structure Cut (N L : Nat) (zs : List Int) (f : Nat) (dn : List (List Int)) (ls : List Int) : Prop where
  le : ls.length ≤ f
  eq : dn ++ splitF N f ls = splitF N L zs
  dl : dn.length + f ≤ L
theorem Cut.step {N L : Nat} {zs : List Int} {f : Nat} {dn : List (List Int)} {ls : List Int} (h : Cut N L zs f dn ls) (hN : 1 ≤ N) (hl : 0 < ls.length) : ∃ f', Cut N L zs f' (dn ++ [ls.take N]) (ls.drop N) := by
  obtain ⟨h1, h2, h3⟩ := h
  obtain ⟨f', rfl⟩ : ∃ f', f = f' + 1 := ⟨f - 1, by omega⟩
  refine ⟨f', ?_, ?_, ?_⟩
  · rw [List.length_drop]; omega
  · rw [splitF_step N f' (by intro hc; subst hc; simp at hl)] at h2
    rw [List.append_assoc]; exact h2
  · rw [List.length_append, List.length_singleton]; omega
theorem Cut.last {N L : Nat} {zs : List Int} {f : Nat} {dn : List (List Int)} (h : Cut N L zs f dn []) : dn = splitF N L zs := by
  have := h.eq
  rw [splitF_nil, List.append_nil] at this
  exact this
set_option maxHeartbeats 1600000 in
theorem split_some (a : Option Addr) (cap : Nat) (zs : List Int) (size : Int) (w : World) (hb : BV w a zs) (hn : a = none → cap = 0) (hm : zs.length ≤ 10000) (h : 1 ≤ size) :
    Calls Tryz.prog 172 #[.slice a zs.length cap, .int .i64 size] w fun e w' => ∃ v, e = .returned v ∧ OwnP w' w.heap.size v (splitF size.toNat zs.length zs) ∧ Below w.heap.size w w' := by
  have HCl := clone_any a cap zs w hb (by omega) hn
  have HZA : Hid (AllB zs) := hb.1
  have hs0 : ¬ (size < 1) := by omega
  obtain ⟨N, HN⟩ : ∃ N : Nat, Hid ((N : Int) = size) := ⟨size.toNat, by show (size.toNat : Int) = size; omega⟩
  rw [show size.toNat = N by have := HN.out; omega]
  have HM : Hid (zs.length ≤ 10000) := hm
  clear hb hn hm
  go_enter Tryz.func172, Tryz.ntmps172
  go_wp2_with fail
  refine HCl.mono ?_
  rintro e w1 ⟨v1, rfl, o1, b1⟩
  obtain ⟨a1, c1, rfl, n1, _, q1, q2⟩ := o1.slice HZA.out
  have HB1 : Hid (Below w.heap.size w w1) := b1
  have HT1 : Hid (BT w1 a1 zs) := o1.bt HZA.out
  clear HCl o1 b1
  go_wp2
  go_loopw [5, 6] (fun pv lv wr => ∃ (f : Nat) (dn : List (List Int)) (ls : List Int) (la : Option Addr) (lc : Nat), lv = .slice la ls.length lc ∧ (la = none → lc = 0) ∧ ls.length ≤ lc ∧ lc ≤ maxLen ∧ Hid (Cut N zs.length zs f dn ls) ∧ Hid (OwnP wr w1.heap.size pv dn) ∧ Hid (BT wr la ls) ∧ Hid (Below w1.heap.size w1 wr)) (fun _ lv _ => slLen lv)
  case atStart => exact ⟨zs.length, [], zs, a1, c1, rfl, n1, q1, q2, ⟨Nat.le_refl _, by rw [List.nil_append], by simp⟩, OwnP.nil _ _, HT1.out, Below.refl _ _⟩
  case round =>
    clear n1 q1 q2 HT1
    obtain ⟨f, dn, ls, la, lc, rfl, n1, q1, q2, HC, HP, HT, HW⟩ := hrel
    by_cases hlt : 0 < ls.length
    · obtain ⟨b, off, cur, fr, rfl, hbk, hcs⟩ : ∃ b off cur fr, la = some ⟨b, off, none⟩ ∧ wr.heap[b]? = some (.cells cur 5 fr) ∧ ∀ i, i < ls.length → wr.cell? ⟨b, off + i, none⟩ = some (.int .u8 (ls.getD i 0)) := by
        obtain ⟨_, h | h⟩ := HT.out
        · subst h; simp at hlt
        · exact h
      clear hbk hcs n1
      obtain ⟨f', HC2⟩ := HC.out.step (by have := HN.out; omega) hlt
      obtain ⟨q, hq⟩ : ∃ q : Nat, q = min N ls.length := ⟨_, rfl⟩
      have hmn : (if (ls.length : Int) < size then (ls.length : Int) else size) = (q : Int) := by
        have := HN.out
        split <;> omega
      have HTK : Hid (ls.take N = ls.take q) := by
        show ls.take N = ls.take q
        rcases Nat.le_total N ls.length with h | h
        · rw [hq, Nat.min_eq_left h]
        · rw [hq, Nat.min_eq_right h, List.take_of_length_le h, List.take_of_length_le (Nat.le_refl _)]
      have HDK : Hid (ls.drop N = ls.drop q) := by
        show ls.drop N = ls.drop q
        rcases Nat.le_total N ls.length with h | h
        · rw [hq, Nat.min_eq_left h]
        · rw [hq, Nat.min_eq_right h, List.drop_of_length_le h, List.drop_of_length_le (Nat.le_refl _)]
      rw [HTK.out, HDK.out] at HC2
      have hq0 : 1 ≤ q := by have := HN.out; omega
      have hq1 : q ≤ ls.length := by omega
      have HC3 : Hid (Cut N zs.length zs f' (dn ++ [ls.take q]) (ls.drop q)) := HC2
      have HDL : Hid (dn.length ≤ 10000) := by
        have := HC.out.dl
        have := HM.out
        show dn.length ≤ 10000
        omega
      have hws : w1.heap.size ≤ wr.heap.size := HW.out.size
      have hb1 : Below wr.heap.size wr (wr.alloc (.cells #[.slice (some ⟨b, off, none⟩) q q] 29 (0, 0))) := (Below.refl _ _).alloc (Nat.le_refl _) _
      have HBA : Hid (Below wr.heap.size wr (wr.alloc (.cells #[.slice (some ⟨b, off, none⟩) q q] 29 (0, 0)))) := hb1
      have HLQ : Hid ((ls.drop q).length = ls.length - q) := by show (ls.drop q).length = _; simp
      have HLT : Hid ((ls.take q).length = q) := by show (ls.take q).length = _; rw [List.length_take]; omega
      clear hq HC2 hb1 HC
      have hlc : lc ≤ 9223372036854775807 := by unfold maxLen at q2; omega
      by_cases hcq : lc = q
      · have hlq : ls.length = q := by omega
        subst hcq
        rw [hlq] at hmn
        have HD0 : Hid (ls.drop lc = []) := by show ls.drop lc = []; exact List.drop_of_length_le (by omega)
        go_wp2_with (first
          | (at_builtin; refine wp_appP rfl _ _ rfl w1.heap.size _ dn (ls.take lc) rfl (HP.out.below HBA.out) wr.heap.size rfl (some ⟨b, off, none⟩) lc lc HLT.out (heap_alloc_last _ _) (by intro h; cases h) ((HT.out.below HBA.out).upto lc) (by have := HDL.out; omega) (Nat.le_trans HW.out.size HBA.out.size) ?_; intro v3 w3 o3 b3 k3; have O3 : Hid (OwnP w3 w1.heap.size v3 (dn ++ [ls.take lc])) := o3; have B3 : Hid (Below w1.heap.size w1 w3) := HW.out.trans ((HBA.out.mono HW.out.size).trans b3); clear o3 b3 k3)
          | fail)
        go_roundw
        case rel => exact ⟨f', dn ++ [ls.take lc], [], _, _, by first | rfl | (rw [hlq]; simp), (by intro h; cases h), Nat.zero_le _, by first | omega | (unfold maxLen; omega), by rw [← HD0.out]; exact HC3.out, O3.out, ⟨AllB.nil, .inl rfl⟩, B3.out⟩
        case measure => simp [slLen]; omega
      · have hlc2 : q < lc := by omega
        have HTn : Hid (BT (wr.alloc (.cells #[.slice (some ⟨b, off, none⟩) q q] 29 (0, 0))) (some ⟨b, off + q, none⟩) (ls.drop q)) := (HT.out.below HBA.out).from' q
        go_wp2_with (first
          | (at_builtin; refine wp_appP rfl _ _ rfl w1.heap.size _ dn (ls.take q) rfl (HP.out.below HBA.out) wr.heap.size rfl (some ⟨b, off, none⟩) q q HLT.out (heap_alloc_last _ _) (by intro h; cases h) ((HT.out.below HBA.out).upto q) (by have := HDL.out; omega) (Nat.le_trans HW.out.size HBA.out.size) ?_; intro v3 w3 o3 b3 k3; have O3 : Hid (OwnP w3 w1.heap.size v3 (dn ++ [ls.take q])) := o3; have B3 : Hid (Below w1.heap.size w1 w3) := HW.out.trans ((HBA.out.mono HW.out.size).trans b3); have T3 : Hid (BT w3 (some ⟨b, off + q, none⟩) (ls.drop q)) := HTn.out.keep k3; clear o3 b3 k3)
          | fail)
        go_roundw
        case rel => exact ⟨f', dn ++ [ls.take q], ls.drop q, some ⟨b, off + q, none⟩, lc - q, by rw [HLQ.out], (by intro h; cases h), by have := HLQ.out; omega, by omega, HC3.out, O3.out, T3.out, B3.out⟩
        case measure => simp [slLen]; omega
    · have hl0 : ls = [] := List.eq_nil_of_length_eq_zero (by omega)
      subst hl0
      have HE := HC.out.last
      have HF : Hid (OwnP wr w.heap.size u5 (splitF N zs.length zs)) := by
        have := HP.out.mono HB1.out.size
        rw [HE] at this
        exact this
      have HBF : Hid (Below w.heap.size w wr) := HB1.out.trans (HW.out.mono HB1.out.size)
      clear HE HC HP HT hlt
      go_wp2
      go_ret
      exact ⟨_, rfl, HF.out, HBF.out⟩
theorem split_any (a : Option Addr) (cap : Nat) (zs : List Int) (size : Int) (w : World) (hb : BV w a zs) (hn : a = none → cap = 0) (hm : zs.length ≤ 10000) :
    Calls Tryz.prog 172 #[.slice a zs.length cap, .int .i64 size] w fun e w' => ∃ v, e = .returned v ∧ OwnP w' w.heap.size v (splitS zs size) ∧ Below w.heap.size w w' := by
  unfold splitS
  by_cases h : size < 1
  · rw [if_pos h]
    refine (split_none a zs.length cap size w h).mono ?_
    rintro e w' ⟨rfl, hw⟩
    obtain rfl := hw.symm
    exact ⟨_, rfl, OwnP.nil _ _, Below.refl _ _⟩
  · rw [if_neg h]
    exact split_some a cap zs size w hb hn hm (by omega)
end Go.Proofs.YtbklnadlbcndlaaGreat
namespace Go.Proofs.YtbklnadlbcndlaaGreat
set_option maxRecDepth 20000
open Go.RowKit
set_option linter.unusedVariables false
set_option linter.unusedSimpArgs false
def wordB (n : Int) : Bool := decide (0 ≤ n) && decide (n ≤ 65535)
def wordsB (ns : List Int) : Bool := ns.all wordB
def wordsS (ns : List Int) : List Int := ns.flatMap (fun n => dig n 2)
def wordsE (ns : List Int) : Int := if wordsB ns then 0 else 12
def wordsL (ns : List Int) : List Int := if wordsB ns then wordsS ns else []
theorem wordsS_all : ∀ ns : List Int, AllB (wordsS ns)
  | [] => AllB.nil
  | n :: ns => (dig_all _ _).append (wordsS_all ns)
theorem wordsS_len : ∀ ns : List Int, (wordsS ns).length = 2 * ns.length
  | [] => rfl
  | n :: ns => by
    show (dig n 2 ++ wordsS ns).length = _
    rw [List.length_append, dig_length, wordsS_len ns, List.length_cons]; omega
theorem wordsS_take (ns : List Int) (k : Nat) (h : k < ns.length) : wordsS (ns.take (k + 1)) = wordsS (ns.take k) ++ dig (ns.getD k 0) 2 := by
  unfold wordsS
  rw [take_snoc ns k h, List.flatMap_append]; simp
theorem wordsB_take (ns : List Int) (k : Nat) (h : k < ns.length) : wordsB (ns.take (k + 1)) = (wordsB (ns.take k) && wordB (ns.getD k 0)) := by
  unfold wordsB
  rw [take_snoc ns k h, List.all_append]; simp
theorem wordsB_false {ns : List Int} {k : Nat} (h : k < ns.length) (hb : wordB (ns.getD k 0) = false) : wordsB ns = false := by
  cases h2 : wordsB ns with
  | false => rfl
  | true =>
    have := List.all_eq_true.1 h2 (ns.getD k 0) (by rw [List.getD_eq_getElem?_getD, List.getElem?_eq_getElem h]; simp)
    rw [hb] at this; cases this
set_option maxHeartbeats 800000 in
theorem words_nil (a : Option Addr) (cap : Nat) (w : World) :
    Calls Tryz.prog 105 #[.slice a 0 cap] w fun e w' => ∃ v, e = .returned (.tuple #[v, .int .i64 0]) ∧ Own w' w.heap.size v [] ∧ Below w.heap.size w w' := by
  obtain ⟨inf, hi, hz0, hz1, hz2⟩ := info_parts Tryz.info5
  go_enter Tryz.func105, Tryz.ntmps105
  go_wp2_with (at_make; refine wpList_make_own _ rfl _ _ 29 rfl w.heap.size 5 inf (.int .u8 0) 1 Tryz.underlying29 hi hz0 hz1 .i64 .i64 _ 0 rfl rfl rfl (by omega) (by decide) (Nat.le_refl _) ?_)
  intro w1 hown hg
  have HO : Hid (Own w1 w.heap.size (.slice (some ⟨w.heap.size, 0, none⟩) 0 0) []) := hown
  have HB : Hid (Below w.heap.size w w1) := (Below.refl _ _).grown hg (Nat.le_refl _) (by intro k hk; cases hk)
  clear hown hg
  go_wp2
  go_loop [4, 13] (fun bv i => bv = .slice (some ⟨w.heap.size, 0, none⟩) 0 0 ∧ i = .int .i64 0) (fun _ _ => 0)
  case atStart => exact ⟨rfl, rfl⟩
  case round =>
    obtain ⟨rfl, rfl⟩ := hrel
    go_wp2
    exact bodyPost_ret (v := .tuple #[.slice (some ⟨w.heap.size, 0, none⟩) 0 0, .int .i64 0]) (by simp [results, Tryz.results105, go_sem]) rfl ⟨_, rfl, HO.out, HB.out⟩
set_option maxHeartbeats 1600000 in
theorem words_ok (b off n cap : Nat) (ns : List Int) (w : World) (hl : ns.length = n) (hn : n ≤ 100000) (hblt : b < w.heap.size) (hc : ∀ i, i < ns.length → w.cell? ⟨b, off + i, none⟩ = some (.int .i64 (ns.getD i 0))) :
    Calls Tryz.prog 105 #[.slice (some ⟨b, off, none⟩) n cap] w fun e w' => ∃ v, e = .returned (.tuple #[v, .int .i64 (wordsE ns)]) ∧ Own w' w.heap.size v (wordsL ns) ∧ Below w.heap.size w w' := by
  obtain ⟨inf, hi, hz0, hz1, hz2⟩ := info_parts Tryz.info5
  have hw : wrap64 (2 * (n : Int)) = ((2 * n : Nat) : Int) := by unfold wrap64; omega
  have HW0 : Hid (wrap64 (2 * (n : Int)) = ((2 * n : Nat) : Int)) := hw
  have HW2 : Hid ((2 * (n : Int)) = ((2 * n : Nat) : Int)) := by show (2 * (n : Int)) = ((2 * n : Nat) : Int); omega
  have hw3 : wrap64 (2 * (n : Int)) = 2 * (n : Int) := by unfold wrap64; omega
  clear hw
  have HL : Hid (ns.length = n) := hl
  have HC : Hid (∀ i, i < ns.length → w.cell? ⟨b, off + i, none⟩ = some (.int .i64 (ns.getD i 0))) := hc
  clear hl hc
  go_enter Tryz.func105, Tryz.ntmps105
  go_wp2_with (at_make; refine wpList_make_own _ rfl _ _ 29 rfl w.heap.size 5 inf (.int .u8 0) 1 Tryz.underlying29 hi hz0 hz1 .i64 .i64 _ (2 * n) rfl rfl (by first | rfl | exact HW0.out | exact HW2.out) ?c2 ?c3 (Nat.le_refl _) ?_)
  case c2 => rw [hz2]; omega
  case c3 => unfold maxLen; omega
  intro w1 hown hg
  have HO1 : Hid (Own w1 w.heap.size (.slice (some ⟨w.heap.size, 0, none⟩) 0 (2 * n)) []) := hown
  have HB1 : Hid (Below w.heap.size w w1) := (Below.refl _ _).grown hg (Nat.le_refl _) (by intro k hk; cases hk)
  clear hown hg
  go_wp2
  go_loopw [4, 13] (fun bv iv wr => ∃ k : Nat, k ≤ n ∧ iv = .int .i64 k ∧ Hid (wordsB (ns.take k) = true) ∧ Hid (Own wr w.heap.size bv (wordsS (ns.take k))) ∧ Hid (Below w.heap.size w wr)) (fun _ iv _ => n - (intOf iv).toNat)
  case atStart => exact ⟨0, Nat.zero_le _, rfl, rfl, HO1.out, HB1.out⟩
  case round =>
    obtain ⟨k, hk, rfl, HK, HO, HB⟩ := hrel
    clear HO1 HB1
    by_cases hlt : k < n
    · have hck : wr.cell? ⟨b, off + k, none⟩ = some (.int .i64 (ns.getD k 0)) := by
        rw [HB.out.cell (p := ⟨b, off + k, none⟩) hblt]
        exact HC.out k (by have := HL.out; omega)
      have H1 : Hid (Calls Tryz.prog 120 #[.int .i64 (ns.getD k 0), .int .i64 0, .int .i64 65535] wr fun e w' => e = .returned (.bool (wordB (ns.getD k 0))) ∧ w' = wr) := within_any _ 0 65535 wr
      cases hwb : wordB (ns.getD k 0) with
      | false =>
        rw [hwb] at H1
        have HE : Hid (wordsB ns = false) := wordsB_false (by have := HL.out; omega) hwb
        generalize ns.getD k 0 = z at *
        clear hwb
        go_wp2_with (first | (go_at_call 120; refine H1.out.mono ?_; rintro e w' ⟨rfl, hw⟩; obtain rfl := hw.symm; clear H1) | fail)
        refine bodyPost_ret (v := .tuple #[.slice none 0 0, .int .i64 12]) (by simp [results, Tryz.results105, go_sem]) rfl ⟨.slice none 0 0, ?_, ?_, HB.out⟩
        · unfold wordsE; rw [HE.out]; rfl
        · unfold wordsL; rw [HE.out]; exact Own.nil _ _
      | true =>
        rw [hwb] at H1
        have HKn : Hid (wordsB (ns.take (k + 1)) = true) := by
          have := wordsB_take ns k (by have := HL.out; omega)
          rw [HK.out, hwb] at this
          exact this
        have HT : Hid (wordsS (ns.take (k + 1)) = wordsS (ns.take k) ++ dig (ns.getD k 0) 2) := wordsS_take ns k (by have := HL.out; omega)
        have HLE : Hid ((wordsS (ns.take k)).length ≤ 200000) := by
          have := wordsS_len (ns.take k)
          rw [List.length_take] at this
          show (wordsS (ns.take k)).length ≤ 200000
          omega
        have HW : Hid (Calls Tryz.prog 122 #[.int .i64 (ns.getD k 0), .int .i64 2] wr fun e w' => ∃ a' c', e = .returned (.slice a' (dig (ns.getD k 0) 2).length c') ∧ (a' = none → c' = 0) ∧ Hid (BV w' a' (dig (ns.getD k 0) 2)) ∧ Hid (Below wr.heap.size wr w')) := by
          have := wide_any (ns.getD k 0) 2 wr
          have hzz : 0 ≤ ns.getD k 0 ∧ ns.getD k 0 ≤ 65535 := by
            unfold wordB at hwb; simp only [Bool.and_eq_true, decide_eq_true_eq] at hwb; exact hwb
          rw [show putL (ns.getD k 0) 2 = dig (ns.getD k 0) 2 from putL_dig _ 2 (by decide) (by decide) (by omega) (by show ns.getD k 0 < 65536; omega)] at this
          refine this.mono ?_
          rintro e w' ⟨v, rfl, ho, hbl⟩
          obtain ⟨a', c', rfl, q1, q2, _, _⟩ := ho.slice (dig_all _ _)
          exact ⟨a', c', rfl, q1, q2, hbl⟩
        have HDL : Hid ((dig (ns.getD k 0) 2).length = 2) := dig_length _ _
        generalize dig (ns.getD k 0) 2 = ds at *
        generalize ns.getD k 0 = z at *
        clear hwb HK
        go_wp2_with (first
          | (go_at_call 120; refine H1.out.mono ?_; rintro e w' ⟨rfl, hw⟩; obtain rfl := hw.symm; clear H1)
          | (go_at_call 122; refine HW.out.mono ?_; rintro e w2 ⟨a2, c2, rfl, n2, V2, B2⟩; clear HW)
          | (at_builtin; refine wp_app_bv rfl _ _ rfl w.heap.size _ (wordsS (ns.take k)) ds rfl (HO.out.below B2.out) a2 c2 rfl V2.out n2 (by have := HDL.out; have := HLE.out; omega) (Nat.le_trans HB.out.size B2.out.size) ?_; intro v3 w3 o3 b3; have O3 : Hid (Own w3 w.heap.size v3 (wordsS (ns.take k) ++ ds)) := o3; have B3 : Hid (Below w.heap.size w w3) := (HB.out.trans (B2.out.mono HB.out.size)).trans b3; clear o3 b3)
          | fail)
        go_roundw
        case rel => exact ⟨k + 1, by omega, by go_num, HKn.out, by rw [HT.out]; exact O3.out, B3.out⟩
        case measure => simp [intOf]; omega
    · have : k = n := by omega
      subst this
      have h1 := HK.out
      have h2 := HO.out
      rw [List.take_of_length_le (by have := HL.out; omega)] at h1 h2
      have HE : Hid (wordsE ns = 0) := by unfold wordsE; rw [h1]; exact rfl
      have HF : Hid (wordsL ns = wordsS ns) := by unfold wordsL; rw [h1]; exact rfl
      have HO2 : Hid (Own wr w.heap.size u4 (wordsS ns)) := h2
      clear h1 h2 HK HO
      go_wp2
      exact bodyPost_ret (v := .tuple #[u4, .int .i64 0]) (by simp [results, Tryz.results105, go_sem]) rfl ⟨u4, by rw [HE.out], by rw [HF.out]; exact HO2.out, HB.out⟩
theorem words_any (a : Option Addr) (cap : Nat) (ns : List Int) (w : World) (hb : IV w a ns) (hm : ns.length ≤ 100000) :
    Calls Tryz.prog 105 #[.slice a ns.length cap] w fun e w' => ∃ v, e = .returned (.tuple #[v, .int .i64 (wordsE ns)]) ∧ Own w' w.heap.size v (wordsL ns) ∧ Below w.heap.size w w' := by
  rcases hb with rfl | ⟨b, off, rfl, hlt, hc⟩
  · exact words_nil a cap w
  · exact words_ok b off ns.length cap ns w rfl hm hlt hc
end Go.Proofs.YtbklnadlbcndlaaGreat
namespace Go.Proofs.YtbklnadlbcndlaaGreat
set_option maxRecDepth 20000
open Go.RowKit
set_option linter.unusedVariables false
set_option linter.unusedSimpArgs false
theorem take_pre {xs ys : List Int} {n : Nat} (h : xs.length = n) : (xs ++ ys).take n = xs := by subst h; simp
theorem drop_pre {xs ys : List Int} {n : Nat} (h : xs.length = n) : (xs ++ ys).drop n = ys := by subst h; simp
theorem seal_shape (k id : Int) (zs : List Int) : ∃ rest, sealS k id zs = dig k 1 ++ (dig id 3 ++ (dig (zs.length : Nat) 2 ++ (zs ++ rest))) :=
  ⟨List.replicate (246 - zs.length) 0 ++ dig (more 0 (frontS k id zs)) 4, by unfold sealS; simp [frontS, headS]⟩
theorem rd_seal {k id : Int} {zs : List Int} (h : sealE k id zs.length = 0) : rdK (sealS k id zs) = k ∧ rdI (sealS k id zs) = id ∧ rdB (sealS k id zs) = zs := by
  obtain ⟨k0, k1, i0, i1, hl⟩ := sealE_zero h
  obtain ⟨rest, e⟩ := seal_shape k id zs
  have d1 : (sealS k id zs).drop 1 = dig id 3 ++ (dig (zs.length : Nat) 2 ++ (zs ++ rest)) := by rw [e]; exact drop_pre (dig_length _ _)
  have d4 : (sealS k id zs).drop 4 = dig (zs.length : Nat) 2 ++ (zs ++ rest) := by
    rw [show (4 : Nat) = 1 + 3 from rfl, ← List.drop_drop, d1]; exact drop_pre (dig_length _ _)
  have d6 : (sealS k id zs).drop 6 = zs ++ rest := by
    rw [show (6 : Nat) = 4 + 2 from rfl, ← List.drop_drop, d4]; exact drop_pre (dig_length _ _)
  have hL : rdL (sealS k id zs) = (zs.length : Nat) := by
    unfold rdL
    rw [d4, take_pre (dig_length _ _)]
    exact val_dig 2 _ (by omega) (by show ((zs.length : Nat) : Int) < 65536; omega)
  have hN : rdN (sealS k id zs) = zs.length := by unfold rdN; rw [hL]; omega
  refine ⟨?_, ?_, ?_⟩
  · unfold rdK
    rw [e, take_pre (dig_length _ _)]
    exact val_dig 1 _ (by omega) (by show k < 256; omega)
  · unfold rdI
    rw [d1, take_pre (dig_length _ _)]
    exact val_dig 3 _ (by omega) (by show id < 16777216; omega)
  · unfold rdB
    rw [d6, hN, take_pre rfl]
theorem good_seal {k id : Int} {zs : List Int} (h : zs.length ≤ 246) : Good (sealS k id zs) := by
  rw [good_split (n := 252) (seal_len h)]
  have e : (sealS k id zs).take 252 = frontS k id zs := by unfold sealS; exact take_pre (front_len h)
  rw [e]; rfl
theorem op_seal {k id : Int} {zs : List Int} (h : sealE k id zs.length = 0) : opE (sealS k id zs) = 0 ∧ opK (sealS k id zs) = k ∧ opI (sealS k id zs) = id ∧ opB (sealS k id zs) = zs := by
  have hl := (sealE_zero h).2.2.2.2
  obtain ⟨r1, r2, r3⟩ := rd_seal h
  have hE : opE (sealS k id zs) = 0 := by
    unfold opE
    rw [if_pos (seal_len hl), if_pos (good_seal hl), r1, r2, r3, if_pos]
    unfold sealL
    rw [if_pos h]
  obtain ⟨o1, o2, o3⟩ := op_good _ hE
  exact ⟨hE, o1.trans r1, o2.trans r2, o3.trans r3⟩
end Go.Proofs.YtbklnadlbcndlaaGreat
