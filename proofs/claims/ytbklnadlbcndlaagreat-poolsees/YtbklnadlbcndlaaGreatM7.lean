import Derived.Test.YtbklnadlbcndlaaGreatM6
import Derived.Laws.AppendOwnNone
namespace Go.Proofs.YtbklnadlbcndlaaGreat
set_option maxRecDepth 20000
open Go.RowKit
set_option linter.unusedVariables false
theorem wp_app_bv {ops : Array Oper} {rest : List Oper} {o : Oper} {a : Act} {Q : Exit → Act → World → Prop} {w : World} (hgd : o.guard = none) (s x : Operand)
    (ho : o.op = .call { callee := .builtin .append, args := #[s, x], argTypes := #[29, 29] }) (base : Nat) (v : Value) (zs ys : List Int) (hs : a.eval s = v) (hown : Own w base v zs)
    (ad : Option Addr) (cap : Nat) (hx : a.eval x = .slice ad ys.length cap) (hv : BV w ad ys) (hn : ad = none → cap = 0) (hlen : zs.length + ys.length ≤ 1000000) (hbase : base ≤ w.heap.size)
    (h : ∀ v' w', Own w' base v' (zs ++ ys) → Below base w w' → wpList Tryz.prog ops Q rest (a.put o.dst v') w') : wpList Tryz.prog ops Q (o :: rest) a w := by
  obtain ⟨i0, hi, hz0, hz1, hz2⟩ := info_parts Tryz.info5
  cases ad with
  | none =>
    obtain rfl := hn rfl
    obtain rfl : ys = [] := slice_some_len hv rfl
    refine wpList_append_own_none hgd s x 29 ho base 5 i0 1 Tryz.underlying29 hi v zs.length (zs.map (Value.int .u8)) hs hown hx ?_
    exact h v w (by simpa using hown) (Below.refl _ _)
  | some ad =>
    refine wpList_append_own w hgd s x 29 ho base 5 i0 (.int .u8 0) 1 1 Tryz.underlying29 hi hz0 hz1 hz2 rfl (by decide) v zs.length (zs.map (Value.int .u8)) hs hown ad ys.length cap (ys.map (Value.int .u8)) hx (by simp) ?_ (u8row _) (by unfold maxLen; omega) (by omega) hbase ?_
    · intro j u hu
      rw [List.getElem?_map] at hu
      obtain ⟨z, hz, rfl⟩ := Option.map_eq_some_iff.1 hu
      have hj := (List.getElem?_eq_some_iff.1 hz).1
      obtain ⟨_, h1 | ⟨b, off, hx, hlt, hc⟩⟩ := hv
      · subst h1; simp at hj
      · obtain rfl := Option.some.inj hx
        rw [add_plain]
        have := hc j hj
        rw [this, List.getD_eq_getElem?_getD, hz]; rfl
    · intro v' w' h1 h2 _
      have ho' : Own w' base v' (zs ++ ys) := by
        unfold Own
        rw [List.length_append, List.map_append]
        exact h1
      refine h v' w' ho' ?_
      exact (Below.refl base w).grown h2 hbase (fun k hk => (World.ownsRow.lt hown k hk).1)
set_option maxHeartbeats 400000 in
theorem grow_ok (n : Nat) (w : World) (h1 : 1 ≤ n) (hn : n ≤ 1000000) :
    Calls Tryz.prog 175 #[.slice none 0 0, .int .i64 n] w fun e w' => ∃ v, e = .returned v ∧ Own w' w.heap.size v [] ∧ Below w.heap.size w w' := by
  obtain ⟨i0, hi, hz0, hz1, hz2⟩ := info_parts Tryz.info5
  have happ := Lib.run_append_nil_zeros (P := Tryz.prog) w 29 3 29 5 i0 (.int .u8 0) .i64 .i64 Tryz.underlying29 Tryz.underlying3 hi hz0 n (by omega) (by omega) (by omega) (by rw [hz2]; omega)
  have hcapge : n ≤ grownCap w n 0 5 := grownCap_ge w _ 0 5
  have hcaple : grownCap w n 0 5 ≤ maxLen := grownCap_le_maxLen w _ 0 5 (by unfold maxLen; omega)
  generalize grownCap w n 0 5 = cap at *
  generalize hZ : (Builtin.zeroCells (Value.int .u8 0).cells n ++ Builtin.zeroCells (Value.int .u8 0).cells (cap - n)) = Z at happ
  have hZs : Z.size = cap := by rw [← hZ]; simp [size_zeroCells, Value.cells]; omega
  clear hZ
  have HO : Hid (Own (w.drew.alloc (.cells Z 5)) w.heap.size (.slice (some ⟨w.heap.size, 0, none⟩) 0 cap) []) :=
    ⟨rfl, .inr ⟨w.heap.size, cap, Z, rfl, Nat.le_refl _, by simpa using heap_alloc_new w.drew _, Nat.zero_le _, hcaple, by omega, by simp⟩⟩
  have HB : Hid (Below w.heap.size w (w.drew.alloc (.cells Z 5))) := (Below.refl _ _).drew.alloc (Nat.le_refl _) _
  go_enter Tryz.func175, Tryz.ntmps175
  go_wp2_with (at_builtin; refine Lib.wpList_append_run _ rfl _ _ _ _ rfl _ _ rfl rfl _ _ happ ?_)
  go_ret
  exact ⟨_, rfl, HO.out, HB.out⟩
theorem flat_take (zss : List (List Int)) (k : Nat) (h : k < zss.length) : (zss.take (k + 1)).flatten = (zss.take k).flatten ++ zss.getD k [] := by
  rw [List.take_succ_eq_append_getElem h, List.flatten_append, List.getD_eq_getElem?_getD, List.getElem?_eq_getElem h]; simp
theorem flat_le (zss : List (List Int)) (k : Nat) : (zss.take k).flatten.length ≤ zss.flatten.length := by
  conv => rhs; rw [← List.take_append_drop k zss, List.flatten_append, List.length_append]
  omega
theorem Parts.below {w w' : World} {g off : Nat} {zss : List (List Int)} (h : Parts w g off zss) (hg : g < w.heap.size) (hb : Below w.heap.size w w') : Parts w' g off zss := by
  intro i hi
  obtain ⟨a, c, h1, h2, h3, h4⟩ := h i hi
  exact ⟨a, c, (hb.cell (p := ⟨g, off + i, none⟩) hg).trans h1, h2, h3.below hb, h4⟩
set_option maxHeartbeats 800000 in
theorem concat_any (g off n cap : Nat) (zss : List (List Int)) (w : World) (hl : zss.length = n) (hn : n ≤ 1000000) (hp : Parts w g off zss) (hg : g < w.heap.size) (h1 : 1 ≤ zss.flatten.length) (h2 : zss.flatten.length ≤ 1000000) :
    Calls Tryz.prog 121 #[.slice (some ⟨g, off, none⟩) n cap] w fun e w' => ∃ v, e = .returned v ∧ Own w' w.heap.size v zss.flatten ∧ Below w.heap.size w w' := by
  have HL : Hid (zss.length = n) := hl
  clear hl
  go_enter Tryz.func121, Tryz.ntmps121
  go_wp2
  go_loop [3, 11] (fun x i => ∃ k : Nat, k ≤ n ∧ i = .int .i64 k ∧ x = .int .i64 ((zss.take k).flatten.length : Nat)) (fun _ i => n - (intOf i).toNat)
  case atStart => exact ⟨0, Nat.zero_le _, rfl, rfl⟩
  case round =>
    obtain ⟨k, hk, rfl, rfl⟩ := hrel
    by_cases hlt : k < n
    · obtain ⟨a, c, hck, _, hbv, hm⟩ := hp k (by have := HL.out; omega)
      have hle := flat_le zss (k + 1)
      have hnx := congrArg List.length (flat_take zss k (by have := HL.out; omega))
      rw [List.length_append] at hnx
      clear hbv
      rw [hnx] at hle
      have HX : Hid ((zss.take (k + 1)).flatten.length = _) := hnx
      clear hnx
      generalize (zss.take k).flatten.length = x at *
      generalize (zss.getD k []).length = l at *
      go_wp2
      go_round
      case rel => exact ⟨k + 1, by omega, by go_num, by rw [HX.out]; go_num⟩
      case measure => simp [intOf]; omega
    · have : k = n := by omega
      subst this
      have hL := HL.out
      rw [List.take_of_length_le (by omega)]
      have HG := grow_ok _ w h1 h2
      have H2 : Hid (zss.flatten.length ≤ 1000000) := h2
      generalize HS : zss.flatten.length = S at HG
      have hs0 : 1 ≤ S := by omega
      have hs1 : S ≤ 1000000 := by omega
      clear HS h1 h2
      go_wp2_with (go_at_call 175; refine HG.mono ?_; rintro e w1 ⟨v, rfl, ho, hbl⟩)
      clear HG
      go_loopw [6, 27] (fun v i wr => ∃ j : Nat, j ≤ k ∧ i = .int .i64 j ∧ Own wr w.heap.size v (zss.take j).flatten ∧ Below w.heap.size w wr) (fun _ i _ => k - (intOf i).toNat)
      case atStart => exact ⟨0, Nat.zero_le _, rfl, ho, hbl⟩
      case round =>
        clear ho hbl
        obtain ⟨j, hj, rfl, ho, hbl⟩ := hrel
        by_cases hjt : j < k
        · obtain ⟨a, c, hck, hnc, hbv, hm⟩ := (hp.below hg hbl) j (by omega)
          have hle := flat_le zss (j + 1)
          have hnx := flat_take zss j (by omega)
          rw [hnx, List.length_append] at hle
          have hle' := H2.out
          have HX : Hid ((zss.take (j + 1)).flatten = _) := hnx
          clear hnx
          generalize (zss.take j).flatten = xs at *
          generalize zss.getD j [] = ys at *
          have hbs := hbl.size
          have HB : Hid (Below w.heap.size w wr) := hbl
          have HO : Hid (Own wr w.heap.size _ xs) := ho
          have HV : Hid (BV wr a ys) := hbv
          have HS : Hid (w.heap.size ≤ wr.heap.size) := hbs
          clear hbl ho hbv hbs
          go_wp2_with (at_builtin; refine wp_app_bv rfl _ _ rfl w.heap.size _ xs ys rfl HO.out a c rfl HV.out hnc (by omega) HS.out ?_; intro v' w2 ho2 hb2)
          go_roundw
          case rel => exact ⟨j + 1, by omega, by go_num, by rw [HX.out]; exact ho2, HB.out.trans hb2⟩
          case measure => simp [intOf]; omega
        · have : j = k := by omega
          subst this
          rw [List.take_of_length_le (by omega)] at ho
          go_wp2
          go_ret
          exact ⟨_, rfl, ho, hbl⟩
end Go.Proofs.YtbklnadlbcndlaaGreat
namespace Go.Proofs.YtbklnadlbcndlaaGreat
set_option maxRecDepth 20000
open Go.RowKit
set_option linter.unusedVariables false
theorem BV.alloc {w : World} {a : Option Addr} {zs : List Int} (h : BV w a zs) (o : Obj) : BV (w.alloc o) a zs := h.below ((Below.refl _ _).alloc (Nat.le_refl _) _)
theorem parts1 {w : World} {a : Option Addr} {cap : Nat} {zs : List Int} (hb : BV w a zs) (hn : a = none → cap = 0) (hm : zs.length ≤ 9223372036854775807) :
    Parts (w.alloc (.cells #[.slice a zs.length cap] 29)) w.heap.size 0 [zs] := by
  intro i hi
  obtain rfl : i = 0 := by simpa using hi
  exact ⟨a, cap, by go_simp, hn, hb.alloc _, hm⟩
theorem parts2 {w : World} {a b : Option Addr} {cap cap2 : Nat} {zs ys : List Int} (hb : BV w a zs) (hn : a = none → cap = 0) (hm : zs.length ≤ 9223372036854775807) (hb2 : BV w b ys) (hn2 : b = none → cap2 = 0) (hm2 : ys.length ≤ 9223372036854775807) :
    Parts (w.alloc (.cells #[.slice a zs.length cap, .slice b ys.length cap2] 29)) w.heap.size 0 [zs, ys] := by
  intro i hi
  rcases Nat.lt_or_ge i 1 with h | h
  · obtain rfl : i = 0 := by omega
    exact ⟨a, cap, by go_simp, hn, hb.alloc _, hm⟩
  · obtain rfl : i = 1 := by simp at hi; omega
    exact ⟨b, cap2, by go_simp, hn2, hb2.alloc _, hm2⟩
theorem Own.slice {w : World} {base : Nat} {v : Value} {zs : List Int} (h : Own w base v zs) (hz : AllB zs) : ∃ a cap, v = .slice a zs.length cap ∧ (a = none → cap = 0) ∧ BV w a zs ∧ zs.length ≤ cap ∧ cap ≤ maxLen := by
  obtain ⟨a, cap, rfl, h1, h2, _, h4⟩ := h.view hz
  refine ⟨a, cap, rfl, ?_, h.bv hz, h1, h2⟩
  rintro rfl
  rcases h.2 with ⟨e, _⟩ | ⟨g, c, cur, e, _⟩
  · exact (Value.slice.inj e).2.2
  · cases e
theorem Own.mono {w : World} {b1 b2 : Nat} {v : Value} {zs : List Int} (h : Own w b1 v zs) (hb : b2 ≤ b1) : Own w b2 v zs := by
  refine ⟨h.1, ?_⟩
  rcases h.2 with hn | ⟨g, cap, cur, rfl, hbb, hg, rest⟩
  · exact .inl hn
  · exact .inr ⟨g, cap, cur, rfl, Nat.le_trans hb hbb, hg, rest⟩
set_option maxHeartbeats 800000 in
theorem seal_any (a : Option Addr) (cap : Nat) (zs : List Int) (w : World) (hb : BV w a zs) (hm : zs.length ≤ 900000) (hn : a = none → cap = 0) :
    Calls Tryz.prog 123 #[.slice a zs.length cap] w fun e w' => ∃ v, e = .returned v ∧ Own w' w.heap.size v (zs ++ dig (more 0 zs) 4) ∧ Below w.heap.size w w' := by
  have hz := hb.1
  have H1 := of_any w.heap.size 0 1 1 [zs] _ rfl (by decide) (parts1 hb hn (by omega))
  have e1 : mores 0 [zs] = more 0 zs := rfl
  rw [e1] at H1
  clear e1
  have HL := fun wx => lay_any _ wx (more_lt (show 0 < 4294967296 by decide) hz)
  have B1 : Below w.heap.size w (w.alloc (.cells #[.slice a zs.length cap] 29)) := (Below.refl _ _).alloc (Nat.le_refl _) _
  go_enter Tryz.func123, Tryz.ntmps123
  go_wp2_with fail
  refine H1.mono ?_
  rintro e w1 ⟨rfl, hw⟩
  rw [← hw] at B1
  clear hw H1
  go_wp2_with fail
  refine (HL w1).mono ?_
  rintro e w2 ⟨v, rfl, ho, hb2⟩
  obtain ⟨a2, cap2, rfl, hn2, hbv2, hc1, hc2⟩ := ho.slice (dig_all _ _)
  clear HL ho
  have B2 := B1.trans (hb2.mono B1.size)
  have hl4 := dig_length 4 (more 0 zs)
  have H3 := concat_any w2.heap.size 0 2 2 [zs, dig (more 0 zs) 4] _ rfl (by decide) (parts2 (hb.below B2) hn (by omega) hbv2 hn2 (by omega)) (by simp) (by simp [hl4]) (by simp [hl4]; omega)
  have e1 : [zs, dig (more 0 zs) 4].flatten = zs ++ dig (more 0 zs) 4 := by simp
  rw [e1] at H3
  clear e1 hb2 hbv2 hb B1
  go_wp2_with fail
  refine H3.mono ?_
  rintro e w3 ⟨v, rfl, ho, hb3⟩
  clear H3
  have hsz : w2.heap.size ≤ (w2.alloc (.cells #[.slice a zs.length cap, .slice a2 (dig (more 0 zs) 4).length cap2] 29)).heap.size := by simp
  have B3 := (B2.alloc B2.size (.cells #[.slice a zs.length cap, .slice a2 (dig (more 0 zs) 4).length cap2] 29)).trans (hb3.mono (Nat.le_trans B2.size hsz))
  have HO := ho.mono (Nat.le_trans B2.size hsz)
  clear ho hb3 B2
  go_wp2
  go_ret
  exact ⟨_, rfl, HO, B3⟩
end Go.Proofs.YtbklnadlbcndlaaGreat
