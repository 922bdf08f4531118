/- The document's Seal of pages. -/
import Derived.Test.YtcegahmjegjckaaSpec
namespace Go.Proofs.Ytcegahmjegjckaa
open Go.RowKit
set_option linter.unusedVariables false
set_option linter.unusedSimpArgs false
theorem own_lit (w : World) (zs : List Int) (hm : zs.length ≤ maxLen) : Own (w.alloc (.cells (zs.map (Value.int .u8)).toArray 5)) w.heap.size (.slice (some ⟨w.heap.size, 0, none⟩) zs.length zs.length) zs :=
  ⟨by simp, .inr ⟨w.heap.size, zs.length, (zs.map (Value.int .u8)).toArray, rfl, Nat.le_refl _, heap_alloc_new w _, Nat.le_refl _, hm, by simp, by simpa using List.take_of_length_le (by simp)⟩⟩
theorem run_zeros_zero (w : World) (ty : TypeId) (i : TypeInfo) (hi : Try.prog.info? 5 = some i) (hz : i.zero = some (.int .u8 0)) (hs : i.size = 1) (hby : i.bytes = 1) (g n cap : Nat) (hnc : n ≤ cap) :
    (Builtin.append_ #[22, 3] ty #[.slice (some ⟨g, 0, none⟩) n cap, .int .i64 0]).run Try.prog w = .ok (.slice (some ⟨g, 0, none⟩) n cap) w := by
  have hw : IntKind.i64.wrap (0 : Int) = 0 := by rw [IntKind.wrap_i64]; omega
  simp [Builtin.append_, run_underlying Try.underlying22, run_underlying Try.underlying3, sizeOf, typeInfo, zeroValue, hi, hz, hs, hby, asInt, asIntOf, hw, hnc, storeCells]
theorem wp_zeros' {ops : Array Oper} {rest : List Oper} {o : Oper} {a : Act} {Q : Exit → Act → World → Prop} {w : World} (hgd : o.guard = none) (s x : Operand)
    (ho : o.op = .call { callee := .builtin .append, args := #[s, x], argTypes := #[22, 3] }) (base : Nat) (v : Value) (zs : List Int) (hs : a.eval s = v) (hown : Own w base v zs) (hz : 0 < zs.length)
    (m : Nat) (mi : Int) (hmi : mi = m) (hx : a.eval x = .int .i64 mi) (hlen : zs.length + m ≤ 1000000) (hbase : base ≤ w.heap.size)
    (h : ∀ v' w', Own w' base v' (zs ++ List.replicate m 0) → Below base w w' → wpList Try.prog ops Q rest (a.put o.dst v') w') : wpList Try.prog ops Q (o :: rest) a w := by
  by_cases hm : 0 < m
  · exact wp_zeros hgd s x ho base v zs hs hown hz m mi hmi hx hm hlen hbase h
  · obtain rfl : m = 0 := by omega
    subst hmi
    obtain ⟨i0, hi, hz0, hz1, hz2⟩ := info_parts Try.info5
    obtain ⟨g, cap, rfl, hnc, _, _⟩ := hown.shape zs.length rfl hz
    have hr := run_zeros_zero w o.type i0 hi hz0 hz1 hz2 g zs.length cap hnc
    refine Lib.wpList_append_run w hgd s x 22 3 ho _ _ hs hx _ _ hr (h _ _ ?_ (Below.refl _ _))
    simpa using hown
set_option maxHeartbeats 800000 in
theorem rpseal_bad (k id : Int) (a : Option Addr) (n cap : Nat) (w : World) (h : sealE k id n ≠ 0) (hn : n ≤ 9223372036854775807) :
    Calls Try.prog 10 #[.int .i64 k, .int .i64 id, .slice a n cap] w fun e w' => e = .returned (.tuple #[.slice none 0 0, .int .i64 (sealE k id n)]) ∧ w' = w := by
  by_cases k0 : k < 1
  · have hE : sealE k id n = 9 := by unfold sealE kindB; rw [if_neg (by simp; omega)]
    rw [hE]
    go_enter Try.func10, Try.ntmps10
    go_wp2
    exact bodyPost_ret (v := .tuple #[.slice none 0 0, .int .i64 9]) (by simp [results, Try.results10, go_sem]) rfl ⟨rfl, rfl⟩
  by_cases k1 : 5 < k
  · have hE : sealE k id n = 9 := by unfold sealE kindB; rw [if_neg (by simp; omega)]
    rw [hE]
    go_enter Try.func10, Try.ntmps10
    go_wp2
    exact bodyPost_ret (v := .tuple #[.slice none 0 0, .int .i64 9]) (by simp [results, Try.results10, go_sem]) rfl ⟨rfl, rfl⟩
  have hk : kindB k = true := by unfold kindB; simp; omega
  by_cases i0 : id < 0
  · have hE : sealE k id n = 12 := by unfold sealE idB; rw [if_pos hk, if_neg (by simp; omega)]
    rw [hE]
    go_enter Try.func10, Try.ntmps10
    go_wp2
    exact bodyPost_ret (v := .tuple #[.slice none 0 0, .int .i64 12]) (by simp [results, Try.results10, go_sem]) rfl ⟨rfl, rfl⟩
  by_cases i1 : 3000 < id
  · have hE : sealE k id n = 12 := by unfold sealE idB; rw [if_pos hk, if_neg (by simp; omega)]
    rw [hE]
    go_enter Try.func10, Try.ntmps10
    go_wp2
    exact bodyPost_ret (v := .tuple #[.slice none 0 0, .int .i64 12]) (by simp [results, Try.results10, go_sem]) rfl ⟨rfl, rfl⟩
  have hid : idB id = true := by unfold idB; simp; omega
  have hE : sealE k id n = if n ≤ 246 then 0 else 5 := by unfold sealE; rw [if_pos hk, if_pos hid]
  have hn' : ¬ n ≤ 246 := by
    intro hc
    rw [hE, if_pos hc] at h
    exact h rfl
  rw [hE, if_neg hn']
  have hd : 246 < (n : Int) := by omega
  clear h hn' hE
  go_enter Try.func10, Try.ntmps10
  go_wp2
  exact bodyPost_ret (v := .tuple #[.slice none 0 0, .int .i64 5]) (by simp [results, Try.results10, go_sem]) rfl ⟨rfl, rfl⟩
set_option maxHeartbeats 1600000 in
theorem rpseal_good (k id : Int) (a : Option Addr) (cap : Nat) (zs : List Int) (w : World) (h : sealE k id zs.length = 0) (hb : BV w a zs) (hn : a = none → cap = 0) :
    Calls Try.prog 10 #[.int .i64 k, .int .i64 id, .slice a zs.length cap] w fun e w' => ∃ v, e = .returned (.tuple #[v, .int .i64 0]) ∧ Own w' w.heap.size v (sealS k id zs) ∧ Below w.heap.size w w' := by
  obtain ⟨k0, k1, i0, i1, hl⟩ := sealE_zero h
  have hd : ¬ (246 < (zs.length : Int)) := by omega
  have d1 : ¬ (k < 1) := by omega
  have d2 : ¬ (5 < k) := by omega
  have d3 : ¬ (id < 0) := by omega
  have d4 : ¬ (3000 < id) := by omega
  have hu : IntKind.u8.wrap k = k := by show k % 256 = k; omega
  have L1 := rput_any id 3 w
  rw [show putL id 3 = dig id 3 from putL_dig id 3 (by decide) (by decide) (by omega) (by show id < 16777216; omega)] at L1
  have L2 : Hid (∀ W, Calls Try.prog 23 #[.int .i64 (zs.length : Nat), .int .i64 2] W fun e w' => ∃ v x, e = .returned (.tuple #[v, x]) ∧ Own w' W.heap.size v (dig (zs.length : Nat) 2) ∧ Below W.heap.size W w') := by
    intro W
    have := rput_any (zs.length : Nat) 2 W
    rw [show putL (zs.length : Nat) 2 = dig (zs.length : Nat) 2 from putL_dig _ 2 (by decide) (by decide) (by omega) (by show ((zs.length : Nat) : Int) < 65536; omega)] at this
    refine this.mono ?_
    rintro e w' ⟨v, rfl, h1, h2⟩
    exact ⟨v, _, rfl, h1, h2⟩
  have HF : Hid (frontS k id zs = [k] ++ dig id 3 ++ dig (zs.length : Nat) 2 ++ zs ++ List.replicate (246 - zs.length) 0) := by
    show frontS k id zs = _
    unfold frontS headS
    rw [dig1 k (by omega) (by omega)]
  have HK : Hid (AllB [k]) := by intro z hz; simp at hz; omega
  have HB0 : Hid (BV w a zs) := hb
  have HN : Hid (a = none → cap = 0) := hn
  have HLE : Hid (zs.length ≤ 246) := hl
  clear h hb hn k0 k1 i0 i1 hl
  go_enter Try.func10, Try.ntmps10
  go_wp2_with fail
  refine L1.mono ?_
  rintro e w1 ⟨v1, rfl, o1, b1⟩
  obtain ⟨a1, c1, rfl, n1, bv1, _, _⟩ := o1.slice (dig_all _ _)
  have B1 : Hid (Below w.heap.size w w1) := b1
  have V1 : Hid (BV w1 a1 (dig id 3)) := bv1
  generalize putE id 3 = pe at *
  clear L1 o1 b1 bv1
  go_wp2_with fail
  refine (L2.out w1).mono ?_
  rintro e w2 ⟨v2, x2, rfl, o2, b2⟩
  obtain ⟨a2, c2, rfl, n2, bv2, _, _⟩ := o2.slice (dig_all _ _)
  have B2 : Hid (Below w.heap.size w w2) := B1.out.trans (b2.mono B1.out.size)
  have V12 : Hid (BV w2 a1 (dig id 3)) := V1.out.below b2
  have V2 : Hid (BV w2 a2 (dig (zs.length : Nat) 2)) := bv2
  have V3 : Hid (BV w2 a zs) := HB0.out.below B2.out
  have O0 : Hid (Own (w2.alloc (.cells #[.int .u8 k] 5)) w2.heap.size (.slice (some ⟨w2.heap.size, 0, none⟩) 1 1) [k]) := own_lit w2 [k] (by simp [maxLen])
  have E0 : Hid (Below w2.heap.size w2 (w2.alloc (.cells #[.int .u8 k] 5))) := (Below.refl _ _).alloc (Nat.le_refl _) _
  clear L2 o2 b2 bv2 B1 V1
  go_wp2_with (first
    | (at_builtin; refine wp_app_bv rfl _ _ rfl w2.heap.size _ [k] (dig id 3) rfl O0.out a1 c1 rfl (V12.out.below E0.out) n1 (by rw [dig_length]; simp) E0.out.size ?_; intro v3 w3 o3 b3; have O3 : Hid (Own w3 w2.heap.size v3 ([k] ++ dig id 3)) := o3; have E3 : Hid (Below w2.heap.size w2 w3) := E0.out.trans b3; clear O0 E0 o3 b3)
    | (at_builtin; refine wp_app_bv rfl _ _ rfl w2.heap.size _ ([k] ++ dig id 3) (dig (zs.length : Nat) 2) rfl O3.out a2 c2 rfl (V2.out.below E3.out) n2 (by rw [List.length_append, dig_length, dig_length]; simp) E3.out.size ?_; intro v4 w4 o4 b4; have O4 : Hid (Own w4 w2.heap.size v4 ([k] ++ dig id 3 ++ dig (zs.length : Nat) 2)) := o4; have E4 : Hid (Below w2.heap.size w2 w4) := E3.out.trans b4; clear O3 E3 o4 b4)
    | (at_builtin; refine wp_app_bv rfl _ _ rfl w2.heap.size _ ([k] ++ dig id 3 ++ dig (zs.length : Nat) 2) zs rfl O4.out a cap rfl (V3.out.below E4.out) HN.out (by rw [List.length_append, List.length_append, dig_length, dig_length]; have := HLE.out; simp; omega) E4.out.size ?_; intro v5 w5 o5 b5; have O5 : Hid (Own w5 w2.heap.size v5 ([k] ++ dig id 3 ++ dig (zs.length : Nat) 2 ++ zs)) := o5; have E5 : Hid (Below w2.heap.size w2 w5) := E4.out.trans b5; clear O4 E4 o5 b5;
        obtain ⟨bs, hbs⟩ : ∃ bs, bs = [k] ++ dig id 3 ++ dig (zs.length : Nat) 2 ++ zs := ⟨_, rfl⟩;
        rw [← hbs] at O5;
        have hbl : bs.length = 6 + zs.length := (by rw [hbs]; simp [dig_length]; omega);
        obtain ⟨a5, c5, rfl, n5, bv5, _, _⟩ := O5.out.slice (by rw [hbs]; exact ((HK.out.append (dig_all _ _)).append (dig_all _ _)).append HB0.out.1);
        have hw : wrap64 (252 - (bs.length : Int)) = ((246 - zs.length : Nat) : Int) := (by unfold wrap64; have := HLE.out; omega);
        have hw2 : 252 - (bs.length : Int) = ((246 - zs.length : Nat) : Int) := (by have := HLE.out; omega);
        have HBL : Hid (bs.length = 6 + zs.length) := hbl;
        have HBS : Hid (bs = [k] ++ dig id 3 ++ dig (zs.length : Nat) 2 ++ zs) := hbs;
        clear hbl hbs bv5)
    | (at_builtin; refine wp_zeros' rfl _ _ rfl w2.heap.size _ bs rfl O5.out (by have := HBL.out; omega) (246 - zs.length) _ (by first | exact hw | exact hw2 | rfl) rfl (by have := HBL.out; have := HLE.out; omega) E5.out.size ?_; intro v6 w6 o6 b6;
        have HFS : Hid (bs ++ List.replicate (246 - zs.length) 0 = frontS k id zs) := (by rw [HF.out, HBS.out]; exact rfl);
        rw [HFS.out] at o6;
        obtain ⟨a6, c6, rfl, n6, bv6, _, _⟩ := o6.slice (front_all HB0.out.1);
        have V6 : Hid (BV w6 a6 (frontS k id zs)) := bv6;
        have E6 : Hid (Below w.heap.size w w6) := B2.out.trans ((E5.out.trans b6).mono B2.out.size);
        clear O5 E5 o6 b6 bv6)
    | fail)
  have HS : Hid (Calls Try.prog 24 #[.slice a6 (frontS k id zs).length c6] w6 fun e w' => ∃ v, e = .returned v ∧ Own w' w.heap.size v (sealS k id zs) ∧ Below w.heap.size w w') := by
    refine (rseal_any a6 c6 (frontS k id zs) w6 V6.out (by rw [front_len HLE.out]; omega) n6).mono ?_
    rintro e w' ⟨v, rfl, ho, hbl⟩
    exact ⟨v, rfl, ho.mono E6.out.size, E6.out.trans (hbl.mono E6.out.size)⟩
  refine (HS.out).mono ?_
  rintro e w7 ⟨v7, rfl, o7, b7⟩
  clear HS
  go_wp2_with fail
  exact bodyPost_ret (v := .tuple #[v7, .int .i64 0]) (by simp [results, Try.results10, go_sem]) rfl ⟨v7, rfl, o7, b7⟩
theorem rpseal_any (k id : Int) (a : Option Addr) (cap : Nat) (zs : List Int) (w : World) (hb : BV w a zs) (hn : a = none → cap = 0) (hm : zs.length ≤ 9223372036854775807) :
    Calls Try.prog 10 #[.int .i64 k, .int .i64 id, .slice a zs.length cap] w fun e w' => ∃ v, e = .returned (.tuple #[v, .int .i64 (sealE k id zs.length)]) ∧ Own w' w.heap.size v (sealL k id zs) ∧ Below w.heap.size w w' := by
  unfold sealL
  by_cases h : sealE k id zs.length = 0
  · rw [if_pos h, h]
    exact rpseal_good k id a cap zs w h hb hn
  · rw [if_neg h]
    refine (rpseal_bad k id a zs.length cap w h hm).mono ?_
    rintro e w' ⟨rfl, hw⟩
    obtain rfl := hw.symm
    exact ⟨_, rfl, Own.nil _ _, Below.refl _ _⟩
end Go.Proofs.Ytcegahmjegjckaa
