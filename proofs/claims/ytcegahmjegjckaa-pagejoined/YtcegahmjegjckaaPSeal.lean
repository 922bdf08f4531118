/- page.Seal at any page: the contract of a single call. -/
import Derived.Test.YtcegahmjegjckaaSpec
namespace Go.Proofs.Ytcegahmjegjckaa
open Go.RowKit
set_option linter.unusedVariables false
set_option maxHeartbeats 800000 in
theorem pseal_bad (k id : Int) (a : Option Addr) (n cap : Nat) (w : World) (h : sealE k id n ≠ 0) (hn : n ≤ 9223372036854775807) :
    Calls Try.prog 9 #[.int .i64 k, .int .i64 id, .slice a n cap] w fun e w' => e = .returned (.tuple #[.slice none 0 0, .int .i64 (sealE k id n)]) ∧ w' = w := by
  have H1 : Hid (Calls Try.prog 19 #[.int .i64 k, .int .i64 1, .int .i64 5] w fun e w' => e = .returned (.bool (kindB k)) ∧ w' = w) := within_any k 1 5 w
  have H2 : Hid (Calls Try.prog 19 #[.int .i64 id, .int .i64 0, .int .i64 3000] w fun e w' => e = .returned (.bool (idB id)) ∧ w' = w) := within_any id 0 3000 w
  unfold sealE at h ⊢
  cases hk : kindB k with
  | false =>
    rw [hk] at H1
    go_enter Try.func9, Try.ntmps9
    go_wp2_with (first | (go_at_call 19; refine (H1.out).mono ?_; rintro e w' ⟨rfl, hw⟩; obtain rfl := hw.symm) | fail)
    exact bodyPost_ret (v := .tuple #[.slice none 0 0, .int .i64 9]) (by simp [results, Try.results9, go_sem]) rfl ⟨rfl, rfl⟩
  | true =>
    rw [hk] at H1
    cases hi : idB id with
    | false =>
      rw [hi] at H2
      go_enter Try.func9, Try.ntmps9
      go_wp2_with (first | (go_at_call 19; refine (H1.out).mono ?_; rintro e w' ⟨rfl, hw⟩; obtain rfl := hw.symm; clear H1) | (go_at_call 19; refine (H2.out).mono ?_; rintro e w' ⟨rfl, hw⟩; obtain rfl := hw.symm) | fail)
      exact bodyPost_ret (v := .tuple #[.slice none 0 0, .int .i64 12]) (by simp [results, Try.results9, go_sem]) rfl ⟨rfl, rfl⟩
    | true =>
      rw [hi] at H2
      have hn' : ¬ n ≤ 246 := by
        intro hc
        rw [hk, hi] at h
        simp [hc] at h
      have hd : 246 < (n : Int) := by omega
      rw [if_pos rfl, if_pos rfl, if_neg hn']
      clear h hn'
      go_enter Try.func9, Try.ntmps9
      go_wp2_with (first | (go_at_call 19; refine (H1.out).mono ?_; rintro e w' ⟨rfl, hw⟩; obtain rfl := hw.symm; clear H1) | (go_at_call 19; refine (H2.out).mono ?_; rintro e w' ⟨rfl, hw⟩; obtain rfl := hw.symm; clear H2) | fail)
      exact bodyPost_ret (v := .tuple #[.slice none 0 0, .int .i64 5]) (by simp [results, Try.results9, go_sem]) rfl ⟨rfl, rfl⟩
set_option maxHeartbeats 1600000 in
theorem pseal_good (k id : Int) (a : Option Addr) (cap : Nat) (zs : List Int) (w : World) (h : sealE k id zs.length = 0) (hb : BV w a zs) (hn : a = none → cap = 0) :
    Calls Try.prog 9 #[.int .i64 k, .int .i64 id, .slice a zs.length cap] w fun e w' => ∃ v, e = .returned (.tuple #[v, .int .i64 0]) ∧ Own w' w.heap.size v (sealS k id zs) ∧ Below w.heap.size w w' := by
  obtain ⟨k0, k1, i0, i1, hl⟩ := sealE_zero h
  have H1 : Hid (Calls Try.prog 19 #[.int .i64 k, .int .i64 1, .int .i64 5] w fun e w' => e = .returned (.bool true) ∧ w' = w) := by
    have := within_any k 1 5 w
    simp only [k0, k1, decide_true, Bool.and_true] at this
    exact this
  have H2 : Hid (Calls Try.prog 19 #[.int .i64 id, .int .i64 0, .int .i64 3000] w fun e w' => e = .returned (.bool true) ∧ w' = w) := by
    have := within_any id 0 3000 w
    simp only [i0, i1, decide_true, Bool.and_true] at this
    exact this
  have hd : ¬ (246 < (zs.length : Int)) := by omega
  have L1 := wide_any k 1 w
  rw [show putL k 1 = dig k 1 from putL_dig k 1 (by decide) (by decide) (by omega) (by show k < 256; omega)] at L1
  have L2 : Hid (∀ W, Calls Try.prog 21 #[.int .i64 id, .int .i64 3] W fun e w' => ∃ v, e = .returned v ∧ Own w' W.heap.size v (dig id 3) ∧ Below W.heap.size W w') := by
    intro W
    have := wide_any id 3 W
    rw [show putL id 3 = dig id 3 from putL_dig id 3 (by decide) (by decide) (by omega) (by show id < 16777216; omega)] at this
    exact this
  have L3 : Hid (∀ W, Calls Try.prog 21 #[.int .i64 (zs.length : Nat), .int .i64 2] W fun e w' => ∃ v, e = .returned v ∧ Own w' W.heap.size v (dig (zs.length : Nat) 2) ∧ Below W.heap.size W w') := by
    intro W
    have := wide_any (zs.length : Nat) 2 W
    rw [show putL (zs.length : Nat) 2 = dig (zs.length : Nat) 2 from putL_dig _ 2 (by decide) (by decide) (by omega) (by show ((zs.length : Nat) : Int) < 65536; omega)] at this
    exact this
  have HZ := zeros_all (246 - zs.length)
  have HB0 : Hid (BV w a zs) := hb
  have HN : Hid (a = none → cap = 0) := hn
  have HLE : Hid (zs.length ≤ 246) := hl
  have hw : wrap64 (246 - (zs.length : Int)) = ((246 - zs.length : Nat) : Int) := by unfold wrap64; omega
  have hw2 : (246 : Int) - (zs.length : Int) = ((246 - zs.length : Nat) : Int) := by omega
  obtain ⟨inf, hi, hz0, hz1, hz2⟩ := info_parts Try.info5
  clear h hb hn k0 k1 i0 i1 hl
  go_enter Try.func9, Try.ntmps9
  go_wp2_with (first | (go_at_call 19; refine (H1.out).mono ?_; rintro e w' ⟨rfl, hw⟩; obtain rfl := hw.symm; clear H1) | (go_at_call 19; refine (H2.out).mono ?_; rintro e w' ⟨rfl, hw⟩; obtain rfl := hw.symm; clear H2) | fail)
  refine L1.mono ?_
  rintro e w1 ⟨v1, rfl, o1, b1⟩
  obtain ⟨a1, c1, rfl, n1, bv1, _, _⟩ := o1.slice (dig_all _ _)
  have B1 : Hid (Below w.heap.size w w1) := b1
  have V1 : Hid (BV w1 a1 (dig k 1)) := bv1
  clear L1 o1 b1 bv1
  go_wp2_with fail
  refine (L2.out w1).mono ?_
  rintro e w2 ⟨v2, rfl, o2, b2⟩
  obtain ⟨a2, c2, rfl, n2, bv2, _, _⟩ := o2.slice (dig_all _ _)
  have B2 : Hid (Below w.heap.size w w2) := B1.out.trans (b2.mono B1.out.size)
  have V12 : Hid (BV w2 a1 (dig k 1)) := V1.out.below b2
  have V2 : Hid (BV w2 a2 (dig id 3)) := bv2
  clear L2 o2 b2 bv2 B1 V1
  go_wp2_with fail
  refine (L3.out w2).mono ?_
  rintro e w3 ⟨v3, rfl, o3, b3⟩
  obtain ⟨a3, c3, rfl, n3, bv3, _, _⟩ := o3.slice (dig_all _ _)
  have B3 : Hid (Below w.heap.size w w3) := B2.out.trans (b3.mono B2.out.size)
  have HC : Hid (Calls Try.prog 20 #[.slice (some ⟨w3.heap.size, 0, none⟩) 3 3] (w3.alloc (.cells #[.slice a1 (dig k 1).length c1, .slice a2 (dig id 3).length c2, .slice a3 (dig (zs.length : Nat) 2).length c3] 22)) fun e w' => ∃ v, e = .returned v ∧ Own w' w.heap.size v (headS k id zs.length) ∧ Below w.heap.size w w') := by
    have := concat_any w3.heap.size 0 3 3 [dig k 1, dig id 3, dig (zs.length : Nat) 2] _ rfl (by decide) (parts3 (V12.out.below b3) n1 (by rw [dig_length]; omega) (V2.out.below b3) n2 (by rw [dig_length]; omega) bv3 n3 (by rw [dig_length]; omega)) (by simp) (by simp [dig_length]) (by simp [dig_length])
    refine this.mono ?_
    rintro e w' ⟨v, rfl, ho, hbl⟩
    have e1 : [dig k 1, dig id 3, dig (zs.length : Nat) 2].flatten = headS k id zs.length := by simp [headS]
    rw [e1] at ho
    have hsz : w.heap.size ≤ (w3.alloc (.cells #[.slice a1 (dig k 1).length c1, .slice a2 (dig id 3).length c2, .slice a3 (dig (zs.length : Nat) 2).length c3] 22)).heap.size := Nat.le_trans B3.out.size (by simp)
    exact ⟨v, rfl, ho.mono hsz, (B3.out.alloc B3.out.size _).trans (hbl.mono hsz)⟩
  have hl1 := dig_length 1 k
  have hl2 := dig_length 3 id
  have hl3 := dig_length 2 ((zs.length : Nat) : Int)
  clear L3 o3 b3 bv3 B2 V12 V2
  go_wp2_with fail
  refine (HC.out).mono ?_
  rintro e w4 ⟨v4, rfl, o4, b4⟩
  have hsz4 := b4.size
  have O4 : Hid (Own w4 w.heap.size v4 (headS k id zs.length)) := o4
  have B4 : Hid (Below w.heap.size w w4) := b4
  clear HC o4 b4 B3
  go_wp2_with (at_make; refine wpList_make_full _ rfl _ _ 22 rfl w4.heap.size 5 inf (.int .u8 0) 1 Try.underlying22 hi hz0 hz1 .i64 .i64 _ _ (246 - zs.length) rfl rfl (by first | rfl | exact hw | exact hw2) (by first | rfl | exact hw | exact hw2) ?c2 ?c3 (Nat.le_refl _) ?_)
  case c2 => rw [hz2]; omega
  case c3 => unfold maxLen; omega
  intro w5 hown hg
  have b5 : Below w4.heap.size w4 w5 := (Below.refl _ _).grown hg (Nat.le_refl _) (by intro k hk; cases hk)
  have o5 : Own w5 w4.heap.size (.slice (some ⟨w4.heap.size, 0, none⟩) (246 - zs.length) (246 - zs.length)) (List.replicate (246 - zs.length) 0) := by
    rw [toList_madeCells_one] at hown
    show World.ownsRow _ _ _ _ _ _ _
    rw [List.length_replicate, List.map_replicate]
    exact hown
  have V5 : BV w5 (some ⟨w4.heap.size, 0, none⟩) (List.replicate (246 - zs.length) 0) := o5.bv HZ
  have B5 : Hid (Below w.heap.size w w5) := B4.out.trans (b5.mono B4.out.size)
  obtain ⟨a4, c4, rfl, n4, bv4, _, _⟩ := (O4.out.below b5).slice (head_all _ _ _)
  have HC : Hid (Calls Try.prog 20 #[.slice (some ⟨w5.heap.size, 0, none⟩) 3 3] (w5.alloc (.cells #[.slice a4 (headS k id zs.length).length c4, .slice a zs.length cap, .slice (some ⟨w4.heap.size, 0, none⟩) (246 - zs.length) (246 - zs.length)] 22)) fun e w' => ∃ v, e = .returned v ∧ Own w' w.heap.size v (frontS k id zs) ∧ Below w.heap.size w w') := by
    have hp := parts3 (cap3 := 246 - zs.length) bv4 n4 (by rw [head_len]; omega) (HB0.out.below B5.out) HN.out (by omega) V5 (by intro h; cases h) (by simp; omega)
    rw [List.length_replicate] at hp
    have hfl : [headS k id zs.length, zs, List.replicate (246 - zs.length) 0].flatten = frontS k id zs := by simp [frontS]
    have hle : (frontS k id zs).length = 252 := front_len HLE.out
    have := concat_any w5.heap.size 0 3 3 [headS k id zs.length, zs, List.replicate (246 - zs.length) 0] _ rfl (by decide) hp (by simp) (by rw [hfl, hle]; omega) (by rw [hfl, hle]; omega)
    refine this.mono ?_
    rintro e w' ⟨v, rfl, ho, hbl⟩
    rw [hfl] at ho
    have hsz : w.heap.size ≤ (w5.alloc (.cells #[.slice a4 (headS k id zs.length).length c4, .slice a zs.length cap, .slice (some ⟨w4.heap.size, 0, none⟩) (246 - zs.length) (246 - zs.length)] 22)).heap.size := Nat.le_trans B5.out.size (by simp)
    exact ⟨v, rfl, ho.mono hsz, (B5.out.alloc B5.out.size _).trans (hbl.mono hsz)⟩
  clear hown hg b5 o5 V5 bv4 O4 B4
  go_wp2_with fail
  refine (HC.out).mono ?_
  rintro e w6 ⟨v6, rfl, o6, b6⟩
  obtain ⟨a6, c6, rfl, n6, bv6, _, _⟩ := o6.slice (front_all HB0.out.1)
  have HS : Hid (Calls Try.prog 22 #[.slice a6 (frontS k id zs).length c6] w6 fun e w' => ∃ v, e = .returned v ∧ Own w' w.heap.size v (sealS k id zs) ∧ Below w.heap.size w w') := by
    refine (seal_any a6 c6 (frontS k id zs) w6 bv6 (by rw [front_len HLE.out]; omega) n6).mono ?_
    rintro e w' ⟨v, rfl, ho, hbl⟩
    exact ⟨v, rfl, ho.mono b6.size, b6.trans (hbl.mono b6.size)⟩
  clear HC o6 bv6 b6 B5
  go_wp2_with fail
  refine (HS.out).mono ?_
  rintro e w7 ⟨v7, rfl, o7, b7⟩
  clear HS
  go_wp2_with fail
  exact bodyPost_ret (v := .tuple #[v7, .int .i64 0]) (by simp [results, Try.results9, go_sem]) rfl ⟨v7, rfl, o7, b7⟩
theorem pseal_any (k id : Int) (a : Option Addr) (cap : Nat) (zs : List Int) (w : World) (hb : BV w a zs) (hn : a = none → cap = 0) (hm : zs.length ≤ 9223372036854775807) :
    Calls Try.prog 9 #[.int .i64 k, .int .i64 id, .slice a zs.length cap] w fun e w' => ∃ v, e = .returned (.tuple #[v, .int .i64 (sealE k id zs.length)]) ∧ Own w' w.heap.size v (sealL k id zs) ∧ Below w.heap.size w w' := by
  unfold sealL
  by_cases h : sealE k id zs.length = 0
  · rw [if_pos h, h]
    exact pseal_good k id a cap zs w h hb hn
  · rw [if_neg h]
    refine (pseal_bad k id a zs.length cap w h hm).mono ?_
    rintro e w' ⟨rfl, hw⟩
    obtain rfl := hw.symm
    exact ⟨_, rfl, Own.nil _ _, Below.refl _ _⟩
end Go.Proofs.Ytcegahmjegjckaa
