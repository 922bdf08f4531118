/- The document's Split. -/
import Derived.Test.YtcegahmjegjckaaSplit
import Derived.Test.YtcegahmjegjckaaROpen6
namespace Go.Proofs.Ytcegahmjegjckaa
open Go.RowKit
set_option linter.unusedVariables false
set_option linter.unusedSimpArgs false
set_option maxHeartbeats 400000 in
theorem rsplit_none (a : Option Addr) (n cap : Nat) (size : Int) (w : World) (h : size < 1) :
    Calls Try.prog 18 #[.slice a n cap, .int .i64 size] w fun e w' => e = .returned (.slice none 0 0) ∧ w' = w := by
  by_cases hn : 0 < n
  · have hd : ¬ (1 ≤ size) := by omega
    have hd2 : decide (1 ≤ size) = false := by simpa using hd
    have hd3 : 0 < (n : Int) := by omega
    go_enter Try.func18, Try.ntmps18
    go_wp2
    go_loop [0, 5] (fun bv i => bv = .slice a n cap ∧ i = .slice none 0 0) (fun _ _ => 0)
    case atStart => exact ⟨rfl, rfl⟩
    case round =>
      obtain ⟨rfl, rfl⟩ := hrel
      go_wp2
      go_ret
      exact ⟨rfl, rfl⟩
  · obtain rfl : n = 0 := by omega
    go_enter Try.func18, Try.ntmps18
    go_wp2
    go_loop [0, 5] (fun bv i => bv = .slice a 0 cap ∧ i = .slice none 0 0) (fun _ _ => 0)
    case atStart => exact ⟨rfl, rfl⟩
    case round =>
      obtain ⟨rfl, rfl⟩ := hrel
      go_wp2
      go_ret
      exact ⟨rfl, rfl⟩
theorem BV.from' {w : World} {b off : Nat} {zs : List Int} (h : BV w (some ⟨b, off, none⟩) zs) (n : Nat) : BV w (some ⟨b, off + n, none⟩) (zs.drop n) := by
  have := h.cut n zs.length
  rw [List.take_of_length_le (by rw [List.length_drop]; omega)] at this
  exact this
theorem BV.upto {w : World} {a : Option Addr} {zs : List Int} (h : BV w a zs) (n : Nat) : BV w a (zs.take n) := by
  obtain ⟨hz, rfl | ⟨b, off, rfl, hb, hc⟩⟩ := h
  · exact ⟨by simpa using AllB.nil, .inl (by simp)⟩
  · refine ⟨hz.take n, .inr ⟨b, off, rfl, hb, fun i hi => ?_⟩⟩
    rw [List.length_take] at hi
    rw [hc i (by omega), List.getD_eq_getElem?_getD, List.getD_eq_getElem?_getD, List.getElem?_take, if_pos (by omega)]
set_option maxHeartbeats 1600000 in
theorem rsplit_some (a : Option Addr) (cap : Nat) (zs : List Int) (size : Int) (w : World) (hb : BV w a zs) (hn : a = none → cap = 0) (hm : zs.length ≤ 1000) (hc0 : zs.length ≤ cap) (hcm : cap ≤ 9223372036854775807) (h : 1 ≤ size) :
    Calls Try.prog 18 #[.slice a zs.length cap, .int .i64 size] w fun e w' => ∃ v, e = .returned v ∧ OwnP w' w.heap.size v (splitF size.toNat zs.length zs) ∧ Below w.heap.size w w' := by
  have HZA : Hid (AllB zs) := hb.1
  obtain ⟨N, HN⟩ : ∃ N : Nat, Hid ((N : Int) = size) := ⟨size.toNat, by show (size.toNat : Int) = size; omega⟩
  rw [show size.toNat = N by have := HN.out; omega]
  have HM : Hid (zs.length ≤ 1000) := hm
  have HB0 : Hid (BV w a zs) := hb
  have hsd : decide (1 ≤ size) = true := by simpa using h
  clear hb hm
  go_enter Try.func18, Try.ntmps18
  go_wp2
  go_loopw [0, 5] (fun lv pv wr => ∃ (f : Nat) (dn : List (List Int)) (ls : List Int) (la : Option Addr) (lc : Nat), lv = .slice la ls.length lc ∧ (la = none → lc = 0) ∧ ls.length ≤ lc ∧ lc ≤ 9223372036854775807 ∧ Hid (Cut N zs.length zs f dn ls) ∧ Hid (OwnP wr w.heap.size pv dn) ∧ Hid (BV w la ls) ∧ Hid (Below w.heap.size w wr)) (fun lv _ _ => slLen lv)
  case atStart => exact ⟨zs.length, [], zs, a, cap, rfl, hn, hc0, hcm, ⟨Nat.le_refl _, by rw [List.nil_append], by simp⟩, OwnP.nil _ _, HB0.out, Below.refl _ _⟩
  case round =>
    clear hn hc0 hcm
    obtain ⟨f, dn, ls, la, lc, rfl, n1, q1, q2, HC, HP, HT, HW⟩ := hrel
    by_cases hlt : 0 < ls.length
    · obtain ⟨b, off, rfl, hbk, hcs⟩ : ∃ b off, la = some ⟨b, off, none⟩ ∧ b < w.heap.size ∧ ∀ i, i < ls.length → w.cell? ⟨b, off + i, none⟩ = some (.int .u8 (ls.getD i 0)) := by
        obtain ⟨_, h | h⟩ := HT.out
        · subst h; simp at hlt
        · exact h
      clear hbk hcs n1
      obtain ⟨f', HC2⟩ := HC.out.step (by have := HN.out; omega) hlt
      obtain ⟨q, hq⟩ : ∃ q : Nat, q = min N ls.length := ⟨_, rfl⟩
      have hmn : (if (ls.length : Int) < size then (ls.length : Int) else size) = (q : Int) := by
        have := HN.out
        split <;> omega
      have HTK : Hid (ls.take N = ls.take q) := by
        show ls.take N = ls.take q
        rcases Nat.le_total N ls.length with h | h
        · rw [hq, Nat.min_eq_left h]
        · rw [hq, Nat.min_eq_right h, List.take_of_length_le h, List.take_of_length_le (Nat.le_refl _)]
      have HDK : Hid (ls.drop N = ls.drop q) := by
        show ls.drop N = ls.drop q
        rcases Nat.le_total N ls.length with h | h
        · rw [hq, Nat.min_eq_left h]
        · rw [hq, Nat.min_eq_right h, List.drop_of_length_le h, List.drop_of_length_le (Nat.le_refl _)]
      rw [HTK.out, HDK.out] at HC2
      have hq0 : 1 ≤ q := by have := HN.out; omega
      have hq1 : q ≤ ls.length := by omega
      have HC3 : Hid (Cut N zs.length zs f' (dn ++ [ls.take q]) (ls.drop q)) := HC2
      have HDL : Hid (dn.length ≤ 1000 ∧ ls.length ≤ 1000) := by
        have := HC.out.dl
        have := HC.out.le
        have := HM.out
        exact ⟨by omega, by omega⟩
      have HE0 : Hid (Below wr.heap.size wr (wr.alloc (.cells #[] 5))) := (Below.refl _ _).alloc (Nat.le_refl _) _
      have O0 : Hid (Own (wr.alloc (.cells #[] 5)) wr.heap.size (.slice (some ⟨wr.heap.size, 0, none⟩) 0 0) []) := own_lit wr [] (by simp)
      have HLQ : Hid ((ls.drop q).length = ls.length - q) := by show (ls.drop q).length = _; simp
      have HLT : Hid ((ls.take q).length = q) := by show (ls.take q).length = _; rw [List.length_take]; omega
      have HTA : Hid (AllB (ls.take q)) := HT.out.1.take q
      have HLS : Hid (([] : List Int).length + (ls.take q).length ≤ 1000000) := by
        have h1 := HLT.out; have h2 := HDL.out.2
        show ([] : List Int).length + (ls.take q).length ≤ 1000000
        rw [h1]; simp; omega
      clear hq HC2 HC
      by_cases hcq : lc = q
      · have hlq : ls.length = q := by omega
        subst hcq
        rw [hlq] at hmn
        have HD0 : Hid (ls.drop lc = []) := by show ls.drop lc = []; exact List.drop_of_length_le (by omega)
        go_wp2_with (first
          | (at_builtin; refine wp_app_m rfl _ _ rfl wr.heap.size _ [] (ls.take lc) rfl O0.out (some ⟨b, off, none⟩) lc lc HLT.out rfl (((HT.out.upto lc).below HW.out).below HE0.out) (by intro h; cases h) HLS.out HE0.out.size ?_; intro v3 w3 o3 b3; rw [List.nil_append] at o3;
              have E3 : Hid (Below wr.heap.size wr w3) := HE0.out.trans b3;
              have P3 : Hid (OwnP w3 w.heap.size u5 dn) := HP.out.below E3.out;
              obtain ⟨a3, c3, rfl, n3, _, _, _⟩ := o3.slice HTA.out;
              have T3 : Hid (BT w3 a3 (ls.take lc)) := o3.bt HTA.out;
              rw [HLT.out]; have HBA : Hid (Below w3.heap.size w3 (w3.alloc (.cells #[.slice a3 lc c3] 22 (0, 0)))) := (Below.refl _ _).alloc (Nat.le_refl _) _;
              clear O0 HE0 o3 b3)
          | (at_builtin; refine wp_appP rfl _ _ rfl w.heap.size _ dn (ls.take lc) rfl (P3.out.below HBA.out) w3.heap.size rfl a3 lc c3 HLT.out (heap_alloc_last _ _) n3 (T3.out.below HBA.out) (by have := HDL.out; omega) (Nat.le_trans (Nat.le_trans HW.out.size E3.out.size) HBA.out.size) ?_; intro v4 w4 o4 b4 k4; have O4 : Hid (OwnP w4 w.heap.size v4 (dn ++ [ls.take lc])) := o4; have B4 : Hid (Below w.heap.size w w4) := (HW.out.trans (E3.out.mono HW.out.size)).trans ((HBA.out.mono (Nat.le_trans HW.out.size E3.out.size)).trans b4); clear o4 b4 k4)
          | fail)
        go_roundw
        case rel => exact ⟨f', dn ++ [ls.take lc], [], _, _, by first | rfl | (rw [hlq]; simp), (by intro h; cases h), Nat.zero_le _, by omega, by rw [← HD0.out]; exact HC3.out, O4.out, ⟨AllB.nil, .inl rfl⟩, B4.out⟩
        case measure => simp [slLen]; omega
      · have hlc2 : q < lc := by omega
        have HTn : Hid (BV w (some ⟨b, off + q, none⟩) (ls.drop q)) := HT.out.from' q
        go_wp2_with (first
          | (at_builtin; refine wp_app_m rfl _ _ rfl wr.heap.size _ [] (ls.take q) rfl O0.out (some ⟨b, off, none⟩) q lc HLT.out rfl (((HT.out.upto q).below HW.out).below HE0.out) (by intro h; cases h) HLS.out HE0.out.size ?_; intro v3 w3 o3 b3; rw [List.nil_append] at o3;
              have E3 : Hid (Below wr.heap.size wr w3) := HE0.out.trans b3;
              have P3 : Hid (OwnP w3 w.heap.size u5 dn) := HP.out.below E3.out;
              obtain ⟨a3, c3, rfl, n3, _, _, _⟩ := o3.slice HTA.out;
              have T3 : Hid (BT w3 a3 (ls.take q)) := o3.bt HTA.out;
              rw [HLT.out]; have HBA : Hid (Below w3.heap.size w3 (w3.alloc (.cells #[.slice a3 q c3] 22 (0, 0)))) := (Below.refl _ _).alloc (Nat.le_refl _) _;
              clear O0 HE0 o3 b3)
          | (at_builtin; refine wp_appP rfl _ _ rfl w.heap.size _ dn (ls.take q) rfl (P3.out.below HBA.out) w3.heap.size rfl a3 q c3 HLT.out (heap_alloc_last _ _) n3 (T3.out.below HBA.out) (by have := HDL.out; omega) (Nat.le_trans (Nat.le_trans HW.out.size E3.out.size) HBA.out.size) ?_; intro v4 w4 o4 b4 k4; have O4 : Hid (OwnP w4 w.heap.size v4 (dn ++ [ls.take q])) := o4; have B4 : Hid (Below w.heap.size w w4) := (HW.out.trans (E3.out.mono HW.out.size)).trans ((HBA.out.mono (Nat.le_trans HW.out.size E3.out.size)).trans b4); clear o4 b4 k4)
          | fail)
        go_roundw
        case rel => exact ⟨f', dn ++ [ls.take q], ls.drop q, some ⟨b, off + q, none⟩, lc - q, by rw [HLQ.out], (by intro h; cases h), by have := HLQ.out; omega, by omega, HC3.out, O4.out, HTn.out, B4.out⟩
        case measure => simp [slLen]; omega
    · have hl0 : ls = [] := List.eq_nil_of_length_eq_zero (by omega)
      subst hl0
      have HE := HC.out.last
      have HF : Hid (OwnP wr w.heap.size u5 (splitF N zs.length zs)) := by
        have := HP.out
        rw [HE] at this
        exact this
      clear HE HC HP HT hlt
      go_wp2
      go_ret
      exact ⟨_, rfl, HF.out, HW.out⟩
theorem rsplit_any (a : Option Addr) (cap : Nat) (zs : List Int) (size : Int) (w : World) (hb : BV w a zs) (hn : a = none → cap = 0) (hm : zs.length ≤ 1000) (hc0 : zs.length ≤ cap) (hcm : cap ≤ 9223372036854775807) :
    Calls Try.prog 18 #[.slice a zs.length cap, .int .i64 size] w fun e w' => ∃ v, e = .returned v ∧ OwnP w' w.heap.size v (splitS zs size) ∧ Below w.heap.size w w' := by
  unfold splitS
  by_cases h : size < 1
  · rw [if_pos h]
    refine (rsplit_none a zs.length cap size w h).mono ?_
    rintro e w' ⟨rfl, hw⟩
    obtain rfl := hw.symm
    exact ⟨_, rfl, OwnP.nil _ _, Below.refl _ _⟩
  · rw [if_neg h]
    exact rsplit_some a cap zs size w hb hn hm hc0 hcm (by omega)
end Go.Proofs.Ytcegahmjegjckaa
