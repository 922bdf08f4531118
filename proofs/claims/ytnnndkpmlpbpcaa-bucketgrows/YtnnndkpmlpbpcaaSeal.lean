/- slices.Grow, slices.Concat. -/
import Derived.Test.YtnnndkpmlpbpcaaLay
import Derived.Laws.AppendOwnNone
namespace Go.Proofs.Ytnnndkpmlpbpcaa
set_option maxRecDepth 20000
open Go.RowKit
set_option linter.unusedVariables false
theorem wp_app_bv {ops : Array Oper} {rest : List Oper} {o : Oper} {a : Act} {Q : Exit → Act → World → Prop} {w : World} (hgd : o.guard = none) (s x : Operand)
    (ho : o.op = .call { callee := .builtin .append, args := #[s, x], argTypes := #[25, 25] }) (base : Nat) (v : Value) (zs ys : List Int) (hs : a.eval s = v) (hown : Own w base v zs)
    (ad : Option Addr) (cap : Nat) (hx : a.eval x = .slice ad ys.length cap) (hv : BV w ad ys) (hn : ad = none → cap = 0) (hlen : zs.length + ys.length ≤ 1000000) (hbase : base ≤ w.heap.size)
    (h : ∀ v' w', Own w' base v' (zs ++ ys) → Below base w w' → wpList Try.prog ops Q rest (a.put o.dst v') w') : wpList Try.prog ops Q (o :: rest) a w := by
  obtain ⟨i0, hi, hz0, hz1, hz2⟩ := info_parts Try.info5
  cases ad with
  | none =>
    obtain rfl := hn rfl
    obtain rfl : ys = [] := slice_some_len hv rfl
    refine wpList_append_own_none hgd s x 25 ho base 5 i0 1 Try.underlying25 hi v zs.length (zs.map (Value.int .u8)) hs hown hx ?_
    exact h v w (by simpa using hown) (Below.refl _ _)
  | some ad =>
    refine wpList_append_own w hgd s x 25 ho base 5 i0 (.int .u8 0) 1 1 Try.underlying25 hi hz0 hz1 hz2 rfl (by decide) v zs.length (zs.map (Value.int .u8)) hs hown ad ys.length cap (ys.map (Value.int .u8)) hx (by simp) ?_ (u8row _) (by unfold maxLen; omega) (by omega) hbase ?_
    · intro j u hu
      rw [List.getElem?_map] at hu
      obtain ⟨z, hz, rfl⟩ := Option.map_eq_some_iff.1 hu
      have hj := (List.getElem?_eq_some_iff.1 hz).1
      obtain ⟨_, h1 | ⟨b, off, hx, hlt, hc⟩⟩ := hv
      · subst h1; simp at hj
      · obtain rfl := Option.some.inj hx
        rw [add_plain]
        have := hc j hj
        rw [this, List.getD_eq_getElem?_getD, hz]; rfl
    · intro v' w' h1 h2 _
      have ho' : Own w' base v' (zs ++ ys) := by
        unfold Own
        rw [List.length_append, List.map_append]
        exact h1
      refine h v' w' ho' ?_
      exact (Below.refl base w).grown h2 hbase (fun k hk => (World.ownsRow.lt hown k hk).1)
set_option maxHeartbeats 400000 in
theorem grow_ok (n : Nat) (w : World) (h1 : 1 ≤ n) (hn : n ≤ 1000000) :
    Calls Try.prog 57 #[.slice none 0 0, .int .i64 n] w fun e w' => ∃ v, e = .returned v ∧ Own w' w.heap.size v [] ∧ Below w.heap.size w w' := by
  obtain ⟨i0, hi, hz0, hz1, hz2⟩ := info_parts Try.info5
  have happ := Lib.run_append_nil_zeros (P := Try.prog) w 25 3 25 5 i0 (.int .u8 0) .i64 .i64 Try.underlying25 Try.underlying3 hi hz0 n (by omega) (by omega) (by omega) (by rw [hz2]; omega)
  have hcapge : n ≤ grownCap w n 0 5 := grownCap_ge w _ 0 5
  have hcaple : grownCap w n 0 5 ≤ maxLen := grownCap_le_maxLen w _ 0 5 (by unfold maxLen; omega)
  generalize grownCap w n 0 5 = cap at *
  generalize hZ : (Builtin.zeroCells (Value.int .u8 0).cells n ++ Builtin.zeroCells (Value.int .u8 0).cells (cap - n)) = Z at happ
  have hZs : Z.size = cap := by rw [← hZ]; simp [size_zeroCells, Value.cells]; omega
  clear hZ
  have HO : Hid (Own (w.drew.alloc (.cells Z 5)) w.heap.size (.slice (some ⟨w.heap.size, 0, none⟩) 0 cap) []) :=
    ⟨rfl, .inr ⟨w.heap.size, cap, Z, rfl, Nat.le_refl _, by simpa using heap_alloc_new w.drew _, Nat.zero_le _, hcaple, by omega, by simp⟩⟩
  have HB : Hid (Below w.heap.size w (w.drew.alloc (.cells Z 5))) := (Below.refl _ _).drew.alloc (Nat.le_refl _) _
  go_enter Try.func57, Try.ntmps57
  go_wp2_with (at_builtin; refine Lib.wpList_append_run _ rfl _ _ _ _ rfl _ _ rfl rfl _ _ happ ?_)
  go_ret
  exact ⟨_, rfl, HO.out, HB.out⟩
theorem flat_take (zss : List (List Int)) (k : Nat) (h : k < zss.length) : (zss.take (k + 1)).flatten = (zss.take k).flatten ++ zss.getD k [] := by
  rw [List.take_succ_eq_append_getElem h, List.flatten_append, List.getD_eq_getElem?_getD, List.getElem?_eq_getElem h]; simp
theorem flat_le (zss : List (List Int)) (k : Nat) : (zss.take k).flatten.length ≤ zss.flatten.length := by
  conv => rhs; rw [← List.take_append_drop k zss, List.flatten_append, List.length_append]
  omega
theorem flat_all {zss : List (List Int)} (h : ∀ zs ∈ zss, AllB zs) : AllB zss.flatten := by
  intro z hz
  obtain ⟨zs, h1, h2⟩ := List.mem_flatten.1 hz
  exact h zs h1 z h2
theorem Parts.below {w w' : World} {g off : Nat} {zss : List (List Int)} (h : Parts w g off zss) (hg : g < w.heap.size) (hb : Below w.heap.size w w') : Parts w' g off zss := by
  intro i hi
  obtain ⟨a, c, h1, h2, h3, h4⟩ := h i hi
  exact ⟨a, c, (hb.cell (p := ⟨g, off + i, none⟩) hg).trans h1, h2, h3.below hb, h4⟩
set_option maxHeartbeats 800000 in
theorem concat_any (g off n cap : Nat) (zss : List (List Int)) (w : World) (hl : zss.length = n) (hn : n ≤ 1000000) (hp : Parts w g off zss) (hg : g < w.heap.size) (h1 : 1 ≤ zss.flatten.length) (h2 : zss.flatten.length ≤ 1000000) :
    Calls Try.prog 32 #[.slice (some ⟨g, off, none⟩) n cap] w fun e w' => ∃ v, e = .returned v ∧ Own w' w.heap.size v zss.flatten ∧ Below w.heap.size w w' := by
  have HL : Hid (zss.length = n) := hl
  clear hl
  go_enter Try.func32, Try.ntmps32
  go_wp2
  go_loop [3, 11] (fun x i => ∃ k : Nat, k ≤ n ∧ i = .int .i64 k ∧ x = .int .i64 ((zss.take k).flatten.length : Nat)) (fun _ i => n - (intOf i).toNat)
  case atStart => exact ⟨0, Nat.zero_le _, rfl, rfl⟩
  case round =>
    obtain ⟨k, hk, rfl, rfl⟩ := hrel
    by_cases hlt : k < n
    · obtain ⟨a, c, hck, _, hbv, hm⟩ := hp k (by have := HL.out; omega)
      have hle := flat_le zss (k + 1)
      have hnx := congrArg List.length (flat_take zss k (by have := HL.out; omega))
      rw [List.length_append] at hnx
      clear hbv
      rw [hnx] at hle
      have HX : Hid ((zss.take (k + 1)).flatten.length = _) := hnx
      clear hnx
      generalize (zss.take k).flatten.length = x at *
      generalize (zss.getD k []).length = l at *
      go_wp2
      go_round
      case rel => exact ⟨k + 1, by omega, by go_num, by rw [HX.out]; go_num⟩
      case measure => simp [intOf]; omega
    · have : k = n := by omega
      subst this
      have hL := HL.out
      rw [List.take_of_length_le (by omega)]
      have HG := grow_ok _ w h1 h2
      have H2 : Hid (zss.flatten.length ≤ 1000000) := h2
      generalize HS : zss.flatten.length = S at HG
      have hs0 : 1 ≤ S := by omega
      have hs1 : S ≤ 1000000 := by omega
      clear HS h1 h2
      go_wp2_with (go_at_call 57; refine HG.mono ?_; rintro e w1 ⟨v, rfl, ho, hbl⟩)
      clear HG
      go_loopw [6, 27] (fun v i wr => ∃ j : Nat, j ≤ k ∧ i = .int .i64 j ∧ Own wr w.heap.size v (zss.take j).flatten ∧ Below w.heap.size w wr) (fun _ i _ => k - (intOf i).toNat)
      case atStart => exact ⟨0, Nat.zero_le _, rfl, ho, hbl⟩
      case round =>
        clear ho hbl
        obtain ⟨j, hj, rfl, ho, hbl⟩ := hrel
        by_cases hjt : j < k
        · obtain ⟨a, c, hck, hnc, hbv, hm⟩ := (hp.below hg hbl) j (by omega)
          have hle := flat_le zss (j + 1)
          have hnx := flat_take zss j (by omega)
          rw [hnx, List.length_append] at hle
          have hle' := H2.out
          have HX : Hid ((zss.take (j + 1)).flatten = _) := hnx
          clear hnx
          generalize (zss.take j).flatten = xs at *
          generalize zss.getD j [] = ys at *
          have hbs := hbl.size
          have HB : Hid (Below w.heap.size w wr) := hbl
          have HO : Hid (Own wr w.heap.size _ xs) := ho
          have HV : Hid (BV wr a ys) := hbv
          have HS : Hid (w.heap.size ≤ wr.heap.size) := hbs
          clear hbl ho hbv hbs
          go_wp2_with (at_builtin; refine wp_app_bv rfl _ _ rfl w.heap.size _ xs ys rfl HO.out a c rfl HV.out hnc (by omega) HS.out ?_; intro v' w2 ho2 hb2)
          go_roundw
          case rel => exact ⟨j + 1, by omega, by go_num, by rw [HX.out]; exact ho2, HB.out.trans hb2⟩
          case measure => simp [intOf]; omega
        · have : j = k := by omega
          subst this
          rw [List.take_of_length_le (by omega)] at ho
          go_wp2
          go_ret
          exact ⟨_, rfl, ho, hbl⟩
end Go.Proofs.Ytnnndkpmlpbpcaa
