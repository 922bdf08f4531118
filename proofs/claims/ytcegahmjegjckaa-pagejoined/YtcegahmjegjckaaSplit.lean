/- page.Split at any bytes: the contract of a single call. -/
import Derived.Test.YtcegahmjegjckaaPcs
namespace Go.Proofs.Ytcegahmjegjckaa
open Go.RowKit
set_option linter.unusedVariables false
set_option linter.unusedSimpArgs false
def slLen : Value → Nat
  | .slice _ n _ => n
  | _ => 0
theorem BT.from' {w : World} {b off : Nat} {zs : List Int} (h : BT w (some ⟨b, off, none⟩) zs) (n : Nat) : BT w (some ⟨b, off + n, none⟩) (zs.drop n) := by
  have := h.cut n zs.length
  rw [List.take_of_length_le (by rw [List.length_drop]; omega)] at this
  exact this
theorem BT.upto {w : World} {a : Option Addr} {zs : List Int} (h : BT w a zs) (n : Nat) : BT w a (zs.take n) := by
  obtain ⟨hz, rfl | ⟨b, off, cur, fr, rfl, hb, hc⟩⟩ := h
  · exact ⟨by simpa using AllB.nil, .inl (by simp)⟩
  · refine ⟨hz.take n, .inr ⟨b, off, cur, fr, rfl, hb, fun i hi => ?_⟩⟩
    rw [List.length_take] at hi
    rw [hc i (by omega), List.getD_eq_getElem?_getD, List.getD_eq_getElem?_getD, List.getElem?_take, if_pos (by omega)]
set_option maxHeartbeats 400000 in
theorem split_none (a : Option Addr) (n cap : Nat) (size : Int) (w : World) (h : size < 1) :
    Calls Try.prog 17 #[.slice a n cap, .int .i64 size] w fun e w' => e = .returned (.slice none 0 0) ∧ w' = w := by
  go_enter Try.func17, Try.ntmps17
  go_wp2
  go_ret
  exact ⟨rfl, rfl⟩
/-- The state of a loop that cuts: what was cut, and what is left. -/
structure Cut (N L : Nat) (zs : List Int) (f : Nat) (dn : List (List Int)) (ls : List Int) : Prop where
  le : ls.length ≤ f
  eq : dn ++ splitF N f ls = splitF N L zs
  dl : dn.length + f ≤ L
theorem Cut.step {N L : Nat} {zs : List Int} {f : Nat} {dn : List (List Int)} {ls : List Int} (h : Cut N L zs f dn ls) (hN : 1 ≤ N) (hl : 0 < ls.length) : ∃ f', Cut N L zs f' (dn ++ [ls.take N]) (ls.drop N) := by
  obtain ⟨h1, h2, h3⟩ := h
  obtain ⟨f', rfl⟩ : ∃ f', f = f' + 1 := ⟨f - 1, by omega⟩
  refine ⟨f', ?_, ?_, ?_⟩
  · rw [List.length_drop]; omega
  · rw [splitF_step N f' (by intro hc; subst hc; simp at hl)] at h2
    rw [List.append_assoc]; exact h2
  · rw [List.length_append, List.length_singleton]; omega
theorem Cut.last {N L : Nat} {zs : List Int} {f : Nat} {dn : List (List Int)} (h : Cut N L zs f dn []) : dn = splitF N L zs := by
  have := h.eq
  rw [splitF_nil, List.append_nil] at this
  exact this
set_option maxHeartbeats 1600000 in
theorem split_some (a : Option Addr) (cap : Nat) (zs : List Int) (size : Int) (w : World) (hb : BV w a zs) (hn : a = none → cap = 0) (hm : zs.length ≤ 1000) (h : 1 ≤ size) :
    Calls Try.prog 17 #[.slice a zs.length cap, .int .i64 size] w fun e w' => ∃ v, e = .returned v ∧ OwnP w' w.heap.size v (splitF size.toNat zs.length zs) ∧ Below w.heap.size w w' := by
  have HCl := clone_any a cap zs w hb (by omega) hn
  have HZA : Hid (AllB zs) := hb.1
  have hs0 : ¬ (size < 1) := by omega
  obtain ⟨N, HN⟩ : ∃ N : Nat, Hid ((N : Int) = size) := ⟨size.toNat, by show (size.toNat : Int) = size; omega⟩
  rw [show size.toNat = N by have := HN.out; omega]
  have HM : Hid (zs.length ≤ 1000) := hm
  clear hb hn hm
  go_enter Try.func17, Try.ntmps17
  go_wp2_with fail
  refine HCl.mono ?_
  rintro e w1 ⟨v1, rfl, o1, b1⟩
  obtain ⟨a1, c1, rfl, n1, _, q1, q2⟩ := o1.slice HZA.out
  have HB1 : Hid (Below w.heap.size w w1) := b1
  have HT1 : Hid (BT w1 a1 zs) := o1.bt HZA.out
  clear HCl o1 b1
  go_wp2
  go_loopw [5, 6] (fun pv lv wr => ∃ (f : Nat) (dn : List (List Int)) (ls : List Int) (la : Option Addr) (lc : Nat), lv = .slice la ls.length lc ∧ (la = none → lc = 0) ∧ ls.length ≤ lc ∧ lc ≤ maxLen ∧ Hid (Cut N zs.length zs f dn ls) ∧ Hid (OwnP wr w1.heap.size pv dn) ∧ Hid (BT wr la ls) ∧ Hid (Below w1.heap.size w1 wr)) (fun _ lv _ => slLen lv)
  case atStart => exact ⟨zs.length, [], zs, a1, c1, rfl, n1, q1, q2, ⟨Nat.le_refl _, by rw [List.nil_append], by simp⟩, OwnP.nil _ _, HT1.out, Below.refl _ _⟩
  case round =>
    clear n1 q1 q2 HT1
    obtain ⟨f, dn, ls, la, lc, rfl, n1, q1, q2, HC, HP, HT, HW⟩ := hrel
    by_cases hlt : 0 < ls.length
    · obtain ⟨b, off, cur, fr, rfl, hbk, hcs⟩ : ∃ b off cur fr, la = some ⟨b, off, none⟩ ∧ wr.heap[b]? = some (.cells cur 5 fr) ∧ ∀ i, i < ls.length → wr.cell? ⟨b, off + i, none⟩ = some (.int .u8 (ls.getD i 0)) := by
        obtain ⟨_, h | h⟩ := HT.out
        · subst h; simp at hlt
        · exact h
      clear hbk hcs n1
      obtain ⟨f', HC2⟩ := HC.out.step (by have := HN.out; omega) hlt
      obtain ⟨q, hq⟩ : ∃ q : Nat, q = min N ls.length := ⟨_, rfl⟩
      have hmn : (if (ls.length : Int) < size then (ls.length : Int) else size) = (q : Int) := by
        have := HN.out
        split <;> omega
      have HTK : Hid (ls.take N = ls.take q) := by
        show ls.take N = ls.take q
        rcases Nat.le_total N ls.length with h | h
        · rw [hq, Nat.min_eq_left h]
        · rw [hq, Nat.min_eq_right h, List.take_of_length_le h, List.take_of_length_le (Nat.le_refl _)]
      have HDK : Hid (ls.drop N = ls.drop q) := by
        show ls.drop N = ls.drop q
        rcases Nat.le_total N ls.length with h | h
        · rw [hq, Nat.min_eq_left h]
        · rw [hq, Nat.min_eq_right h, List.drop_of_length_le h, List.drop_of_length_le (Nat.le_refl _)]
      rw [HTK.out, HDK.out] at HC2
      have hq0 : 1 ≤ q := by have := HN.out; omega
      have hq1 : q ≤ ls.length := by omega
      have HC3 : Hid (Cut N zs.length zs f' (dn ++ [ls.take q]) (ls.drop q)) := HC2
      have HDL : Hid (dn.length ≤ 1000) := by
        have := HC.out.dl
        have := HM.out
        show dn.length ≤ 1000
        omega
      have hws : w1.heap.size ≤ wr.heap.size := HW.out.size
      have hb1 : Below wr.heap.size wr (wr.alloc (.cells #[.slice (some ⟨b, off, none⟩) q q] 22 (0, 0))) := (Below.refl _ _).alloc (Nat.le_refl _) _
      have HBA : Hid (Below wr.heap.size wr (wr.alloc (.cells #[.slice (some ⟨b, off, none⟩) q q] 22 (0, 0)))) := hb1
      have HLQ : Hid ((ls.drop q).length = ls.length - q) := by show (ls.drop q).length = _; simp
      have HLT : Hid ((ls.take q).length = q) := by show (ls.take q).length = _; rw [List.length_take]; omega
      clear hq HC2 hb1 HC
      have hlc : lc ≤ 9223372036854775807 := by unfold maxLen at q2; omega
      by_cases hcq : lc = q
      · have hlq : ls.length = q := by omega
        subst hcq
        rw [hlq] at hmn
        have HD0 : Hid (ls.drop lc = []) := by show ls.drop lc = []; exact List.drop_of_length_le (by omega)
        go_wp2_with (first
          | (at_builtin; refine wp_appP rfl _ _ rfl w1.heap.size _ dn (ls.take lc) rfl (HP.out.below HBA.out) wr.heap.size rfl (some ⟨b, off, none⟩) lc lc HLT.out (heap_alloc_last _ _) (by intro h; cases h) ((HT.out.below HBA.out).upto lc) (by have := HDL.out; omega) (Nat.le_trans HW.out.size HBA.out.size) ?_; intro v3 w3 o3 b3 k3; have O3 : Hid (OwnP w3 w1.heap.size v3 (dn ++ [ls.take lc])) := o3; have B3 : Hid (Below w1.heap.size w1 w3) := HW.out.trans ((HBA.out.mono HW.out.size).trans b3); clear o3 b3 k3)
          | fail)
        go_roundw
        case rel => exact ⟨f', dn ++ [ls.take lc], [], _, _, by first | rfl | (rw [hlq]; simp), (by intro h; cases h), Nat.zero_le _, by first | omega | (unfold maxLen; omega), by rw [← HD0.out]; exact HC3.out, O3.out, ⟨AllB.nil, .inl rfl⟩, B3.out⟩
        case measure => simp [slLen]; omega
      · have hlc2 : q < lc := by omega
        have HTn : Hid (BT (wr.alloc (.cells #[.slice (some ⟨b, off, none⟩) q q] 22 (0, 0))) (some ⟨b, off + q, none⟩) (ls.drop q)) := (HT.out.below HBA.out).from' q
        go_wp2_with (first
          | (at_builtin; refine wp_appP rfl _ _ rfl w1.heap.size _ dn (ls.take q) rfl (HP.out.below HBA.out) wr.heap.size rfl (some ⟨b, off, none⟩) q q HLT.out (heap_alloc_last _ _) (by intro h; cases h) ((HT.out.below HBA.out).upto q) (by have := HDL.out; omega) (Nat.le_trans HW.out.size HBA.out.size) ?_; intro v3 w3 o3 b3 k3; have O3 : Hid (OwnP w3 w1.heap.size v3 (dn ++ [ls.take q])) := o3; have B3 : Hid (Below w1.heap.size w1 w3) := HW.out.trans ((HBA.out.mono HW.out.size).trans b3); have T3 : Hid (BT w3 (some ⟨b, off + q, none⟩) (ls.drop q)) := HTn.out.keep k3; clear o3 b3 k3)
          | fail)
        go_roundw
        case rel => exact ⟨f', dn ++ [ls.take q], ls.drop q, some ⟨b, off + q, none⟩, lc - q, by rw [HLQ.out], (by intro h; cases h), by have := HLQ.out; omega, by omega, HC3.out, O3.out, T3.out, B3.out⟩
        case measure => simp [slLen]; omega
    · have hl0 : ls = [] := List.eq_nil_of_length_eq_zero (by omega)
      subst hl0
      have HE := HC.out.last
      have HF : Hid (OwnP wr w.heap.size u5 (splitF N zs.length zs)) := by
        have := HP.out.mono HB1.out.size
        rw [HE] at this
        exact this
      have HBF : Hid (Below w.heap.size w wr) := HB1.out.trans (HW.out.mono HB1.out.size)
      clear HE HC HP HT hlt
      go_wp2
      go_ret
      exact ⟨_, rfl, HF.out, HBF.out⟩
theorem split_any (a : Option Addr) (cap : Nat) (zs : List Int) (size : Int) (w : World) (hb : BV w a zs) (hn : a = none → cap = 0) (hm : zs.length ≤ 1000) :
    Calls Try.prog 17 #[.slice a zs.length cap, .int .i64 size] w fun e w' => ∃ v, e = .returned v ∧ OwnP w' w.heap.size v (splitS zs size) ∧ Below w.heap.size w w' := by
  unfold splitS
  by_cases h : size < 1
  · rw [if_pos h]
    refine (split_none a zs.length cap size w h).mono ?_
    rintro e w' ⟨rfl, hw⟩
    obtain rfl := hw.symm
    exact ⟨_, rfl, OwnP.nil _ _, Below.refl _ _⟩
  · rw [if_neg h]
    exact split_some a cap zs size w hb hn hm (by omega)
end Go.Proofs.Ytcegahmjegjckaa
