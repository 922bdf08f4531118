/- The document's Join and Less: contracts of single calls. -/
import Derived.Test.YtfbmpnhoohfcgaaRMake
namespace Go.Proofs.Ytfbmpnhoohfcgaa
open Go.RowKit

theorem Own.split {w : World} {base : Nat} {v : Value} {zs : List Int} (h : Own w base v zs) (hz : AllB zs) : ∃ a cap, v = .slice a zs.length cap ∧ BV w a zs ∧ (a = none → cap = 0) := by
  obtain ⟨a, cap, rfl, h1, h2, _, hb⟩ := h.view hz
  refine ⟨a, cap, rfl, h.bv hz, fun e => ?_⟩
  subst e
  rcases h.2 with ⟨e, _⟩ | ⟨g, cap', cur, e, _⟩
  · simp at e; exact e.2
  · simp at e
theorem Own.mono {w : World} {b1 b2 : Nat} {v : Value} {zs : List Int} (h : Own w b1 v zs) (hb : b2 ≤ b1) : Own w b2 v zs := by
  refine ⟨h.1, ?_⟩
  rcases h.2 with hn | ⟨g, cap, cur, e, h1, rest⟩
  · exact .inl hn
  · exact .inr ⟨g, cap, cur, e, Nat.le_trans hb h1, rest⟩
/-- The first k numbers are those that F tells; no other one is in. -/
def Upto (F : Nat → Bool) (N k : Nat) (zs : List Int) : Prop := zs.length = N ∧ AllB zs ∧ ∀ n, hasB zs n = (decide (n < k) && F n)
theorem Upto.zero (F : Nat → Bool) (N : Nat) : Upto F N 0 (List.replicate N 0) := by
  refine ⟨List.length_replicate, AllB.zeros _, fun n => ?_⟩
  unfold hasB byt
  rw [List.getD_eq_getElem?_getD, List.getElem?_replicate]
  split <;> simp
theorem Upto.yes {F : Nat → Bool} {N k : Nat} {zs : List Int} (h : Upto F N k zs) (hk : k < 8 * N) (hF : F k = true) : Upto F N (k + 1) (withI zs (k : Int) true) := by
  have hl : k < 8 * zs.length := by rw [h.1]; exact hk
  rw [withI_in true hl]
  refine ⟨by rw [setB_length]; exact h.1, setB_all h.2.1 _ _, fun n => ?_⟩
  rw [hasB_setB k n true (by omega)]
  by_cases e : n = k
  · subst e; simp [hF]
  · rw [if_neg e, h.2.2 n]
    have : decide (n < k + 1) = decide (n < k) := by simp; omega
    rw [this]
theorem Upto.no {F : Nat → Bool} {N k : Nat} {zs : List Int} (h : Upto F N k zs) (hF : F k = false) : Upto F N (k + 1) zs := by
  refine ⟨h.1, h.2.1, fun n => ?_⟩
  rw [h.2.2 n]
  by_cases e : n = k
  · subst e; simp [hF]
  · have : decide (n < k + 1) = decide (n < k) := by simp; omega
    rw [this]
theorem Upto.all {F : Nat → Bool} {N : Nat} {zs : List Int} (h : Upto F N (8 * N) zs) (hF : ∀ n, 8 * N ≤ n → F n = false) : zs.length = N ∧ AllB zs ∧ ∀ n, hasB zs n = F n := by
  refine ⟨h.1, h.2.1, fun n => ?_⟩
  rw [h.2.2 n]
  by_cases e : n < 8 * N
  · simp [e]
  · rw [hF n (by omega)]; simp
set_option maxHeartbeats 1600000 in
theorem rjoin_any (a b : Option Addr) (c1 c2 : Nat) (xs ys : List Int) (w : World) (ha : BV w a xs) (hb : BV w b ys) (hx : xs.length ≤ 1000000) (hy : ys.length ≤ 1000000) :
    Calls Try.prog 23 #[.slice a xs.length c1, .slice b ys.length c2] w fun e w' => ∃ v zs, e = .returned v ∧ Own w' w.heap.size v zs ∧ IsJoin xs ys zs ∧ Below w.heap.size w w' := by
  have HX : Hid (∀ (n : Nat) (W : World), n ≤ 9000000 → Below w.heap.size w W → Calls Try.prog 12 #[.slice a xs.length c1, .int .i64 (n : Int)] W fun e w' => e = .returned (.bool (hasB xs n)) ∧ Below W.heap.size W w') := fun n W h9 hW => rhas_c n W (ha.below hW) hx h9
  have HY : Hid (∀ (n : Nat) (W : World), n ≤ 9000000 → Below w.heap.size w W → Calls Try.prog 12 #[.slice b ys.length c2, .int .i64 (n : Int)] W fun e w' => e = .returned (.bool (hasB ys n)) ∧ Below W.heap.size W w') := fun n W h9 hW => rhas_c n W (hb.below hW) hy h9
  obtain ⟨F, hF⟩ : ∃ F : Nat → Bool, F = fun n => hasB xs n || hasB ys n := ⟨_, rfl⟩
  obtain ⟨N, hN⟩ : ∃ N, max xs.length ys.length = N := ⟨_, rfl⟩
  have HE : Hid (∀ zs, Upto F N (8 * N) zs → IsJoin xs ys zs) := fun zs h => by
    have := h.all (fun n hn => by rw [hF]; show (hasB xs n || hasB ys n) = false; rw [hasB_out (zs := xs) (by omega)]; first | rfl | (rw [hasB_out (zs := ys) (by omega)]; rfl))
    rw [hF] at this
    rw [← hN] at this
    exact this
  have hFk : ∀ n, F n = (hasB xs n || hasB ys n) := fun n => by rw [hF]
  have HFK : Hid (∀ n, F n = (hasB xs n || hasB ys n)) := hFk
  have hN1 : N ≤ 1000000 := by omega
  have hmx : N = xs.length ∧ ys.length ≤ N ∨ N = ys.length ∧ xs.length < N := by omega
  have hm8 : wrap64 (8 * (N : Int)) = 8 * (N : Int) := by unfold wrap64; omega
  generalize xs.length = m at *
  generalize ys.length = m2 at *
  clear ha hb hN hF hFk
  rcases hmx with ⟨rfl, h2⟩ | ⟨rfl, h2⟩
  all_goals (
    go_enter Try.func23, Try.ntmps23
    go_wp2_with (first
      | (refine wp_make rfl _ _ rfl N hN1 (by simp [Act.eval]; done) (by simp [Act.eval]; done) ?_; intro w1 ho1 hb1 hs1; have HO1 : Hid (Own w1 w.heap.size (.slice (some ⟨w.heap.size, 0, none⟩) N N) (List.replicate N 0)) := ho1; have HB1 : Hid (Below w.heap.size w w1) := hb1; clear ho1 hb1)
      | fail)
    go_loopw [5, 6] (fun v iv wr => ∃ (k : Nat) (zs : List Int) (a1 : Option Addr) (cap1 : Nat), k ≤ 8 * N ∧ iv = .int .i64 k ∧ v = .slice a1 N cap1 ∧ Hid (Own wr w.heap.size (.slice a1 N cap1) zs) ∧ Hid (Upto F N k zs) ∧ Hid (Below w.heap.size w wr)) (fun _ iv _ => 8 * N - (intOf iv).toNat)
    case atStart => exact ⟨0, _, _, _, Nat.zero_le _, rfl, rfl, HO1.out, Upto.zero F N, HB1.out⟩
    case round =>
      obtain ⟨k, zs, a1, cap1, hk, rfl, rfl, HO, HU, HBW⟩ := hrel
      by_cases hlt : k < 8 * N
      · have hd : decide ((k : Int) < 8 * (N : Int)) = true := by simp; omega
        have hk9 : k ≤ 9000000 := by omega
        have CX := HX.out k
        have CY := HY.out k
        have HFk := HFK.out k
        have HWI : Hid (∀ W, Below wr.heap.size wr W → Calls Try.prog 22 #[.slice a1 N cap1, .int .i64 (k : Int), .bool true] W fun e w' => ∃ v a2 cap2, e = .returned v ∧ v = .slice a2 N cap2 ∧ Own w' W.heap.size v (withI zs (k : Int) true) ∧ Below W.heap.size W w') := fun W hW => by
          obtain ⟨a3, cap3, e3, hb3, hn3⟩ := (HO.out.below hW).split HU.out.2.1
          have hzl := HU.out.1
          rw [hzl] at e3
          obtain ⟨rfl, rfl⟩ : a1 = a3 ∧ cap1 = cap3 := by simpa using e3
          have := rwith_any a1 cap1 zs (k : Int) true W hb3 (by omega) hn3 (by omega)
          rw [hzl] at this
          refine this.mono ?_
          rintro e w' ⟨v, rfl, ho, hbb⟩
          have hzw : (withI zs (k : Int) true).length = N := by rw [withI_in true (by omega), setB_length]; exact hzl
          obtain ⟨a4, cap4, e4, _⟩ := ho.view (by rw [withI_in true (by omega)]; exact setB_all HU.out.2.1 _ _)
          rw [hzw] at e4
          exact ⟨v, a4, cap4, rfl, e4, ho, hbb⟩
        cases hxk : hasB xs k <;> cases hyk : hasB ys k <;> rw [hxk] at CX HFk <;> rw [hyk] at CY HFk <;> simp only [Bool.or_false, Bool.or_true] at HFk <;> (
          have HFk2 := HFk
          clear HX HY HFK HFk hxk hyk
          go_wp2_with (first
            | (go_at_call_of 12 a; refine (CX _ hk9 HBW.out).mono ?_; rintro e w2 ⟨rfl, hb2⟩; have HB2 : Hid (Below wr.heap.size wr w2) := hb2; clear hb2 CX)
            | (go_at_call_of 12 b; refine (CY _ hk9 (HBW.out.trans (HB2.out.mono HBW.out.size))).mono ?_; rintro e w3 ⟨rfl, hb3⟩; have HB3 : Hid (Below wr.heap.size wr w3) := HB2.out.trans (hb3.mono HB2.out.size); clear hb3 CY)
            | (go_at_call 22; (first | refine (HWI.out _ HB3.out).mono ?_ | refine (HWI.out _ HB2.out).mono ?_); rintro e w4 ⟨v4, a4, cap4, rfl, rfl, ho4, hb4⟩; have HO4 : Hid (Own w4 w.heap.size (.slice a4 N cap4) (withI zs (k : Int) true)) := ho4.mono (by first | (have := HB3.out.size; have := HBW.out.size; omega) | (have := HB2.out.size; have := HBW.out.size; omega)); have HB4 : Hid (Below wr.heap.size wr w4) := (by first | exact HB3.out.trans (hb4.mono HB3.out.size) | exact HB2.out.trans (hb4.mono HB2.out.size)); clear ho4 hb4)
            | fail)
          go_roundw
          case rel => first
            | exact ⟨k + 1, _, _, _, by omega, by go_num, rfl, HO4.out, HU.out.yes hlt HFk2, HBW.out.trans (HB4.out.mono HBW.out.size)⟩
            | exact ⟨k + 1, _, _, _, by omega, by go_num, rfl, HO.out.below HB3.out, HU.out.no HFk2, HBW.out.trans (HB3.out.mono HBW.out.size)⟩
            | exact ⟨k + 1, _, _, _, by omega, by go_num, rfl, HO.out.below HB2.out, HU.out.no HFk2, HBW.out.trans (HB2.out.mono HBW.out.size)⟩
          case measure => simp [intOf]; omega)
      · have hd : decide ((k : Int) < 8 * (N : Int)) = false := by simp; omega
        have HD := HE.out zs (by have e : 8 * N = k := (by omega); rw [e]; exact HU.out)
        go_wp2
        go_ret
        exact ⟨_, zs, rfl, HO.out, HD, HBW.out⟩)
set_option maxHeartbeats 1600000 in
theorem rless_any (a b : Option Addr) (c1 c2 : Nat) (xs ys : List Int) (w : World) (ha : BV w a xs) (hb : BV w b ys) (hx : xs.length ≤ 1000000) (hy : ys.length ≤ 1000000) :
    Calls Try.prog 24 #[.slice a xs.length c1, .slice b ys.length c2] w fun e w' => ∃ v zs, e = .returned v ∧ Own w' w.heap.size v zs ∧ IsLess xs ys zs ∧ Below w.heap.size w w' := by
  have HX : Hid (∀ (n : Nat) (W : World), n ≤ 9000000 → Below w.heap.size w W → Calls Try.prog 12 #[.slice a xs.length c1, .int .i64 (n : Int)] W fun e w' => e = .returned (.bool (hasB xs n)) ∧ Below W.heap.size W w') := fun n W h9 hW => rhas_c n W (ha.below hW) hx h9
  have HY : Hid (∀ (n : Nat) (W : World), n ≤ 9000000 → Below w.heap.size w W → Calls Try.prog 12 #[.slice b ys.length c2, .int .i64 (n : Int)] W fun e w' => e = .returned (.bool (hasB ys n)) ∧ Below W.heap.size W w') := fun n W h9 hW => rhas_c n W (hb.below hW) hy h9
  obtain ⟨F, hF⟩ : ∃ F : Nat → Bool, F = fun n => hasB xs n && !hasB ys n := ⟨_, rfl⟩
  obtain ⟨N, hN⟩ : ∃ N, max xs.length ys.length = N := ⟨_, rfl⟩
  have HE : Hid (∀ zs, Upto F N (8 * N) zs → IsLess xs ys zs) := fun zs h => by
    have := h.all (fun n hn => by rw [hF]; show (hasB xs n && !hasB ys n) = false; rw [hasB_out (zs := xs) (by omega)]; first | rfl | (rw [hasB_out (zs := ys) (by omega)]; rfl))
    rw [hF] at this
    rw [← hN] at this
    exact this
  have hFk : ∀ n, F n = (hasB xs n && !hasB ys n) := fun n => by rw [hF]
  have HFK : Hid (∀ n, F n = (hasB xs n && !hasB ys n)) := hFk
  have hN1 : N ≤ 1000000 := by omega
  have hmx : N = xs.length ∧ ys.length ≤ N ∨ N = ys.length ∧ xs.length < N := by omega
  have hm8 : wrap64 (8 * (N : Int)) = 8 * (N : Int) := by unfold wrap64; omega
  generalize xs.length = m at *
  generalize ys.length = m2 at *
  clear ha hb hN hF hFk
  rcases hmx with ⟨rfl, h2⟩ | ⟨rfl, h2⟩
  all_goals (
    go_enter Try.func24, Try.ntmps24
    go_wp2_with (first
      | (refine wp_make rfl _ _ rfl N hN1 (by simp [Act.eval]; done) (by simp [Act.eval]; done) ?_; intro w1 ho1 hb1 hs1; have HO1 : Hid (Own w1 w.heap.size (.slice (some ⟨w.heap.size, 0, none⟩) N N) (List.replicate N 0)) := ho1; have HB1 : Hid (Below w.heap.size w w1) := hb1; clear ho1 hb1)
      | fail)
    go_loopw [5, 6] (fun v iv wr => ∃ (k : Nat) (zs : List Int) (a1 : Option Addr) (cap1 : Nat), k ≤ 8 * N ∧ iv = .int .i64 k ∧ v = .slice a1 N cap1 ∧ Hid (Own wr w.heap.size (.slice a1 N cap1) zs) ∧ Hid (Upto F N k zs) ∧ Hid (Below w.heap.size w wr)) (fun _ iv _ => 8 * N - (intOf iv).toNat)
    case atStart => exact ⟨0, _, _, _, Nat.zero_le _, rfl, rfl, HO1.out, Upto.zero F N, HB1.out⟩
    case round =>
      obtain ⟨k, zs, a1, cap1, hk, rfl, rfl, HO, HU, HBW⟩ := hrel
      by_cases hlt : k < 8 * N
      · have hd : decide ((k : Int) < 8 * (N : Int)) = true := by simp; omega
        have hk9 : k ≤ 9000000 := by omega
        have CX := HX.out k
        have CY := HY.out k
        have HFk := HFK.out k
        have HWI : Hid (∀ W, Below wr.heap.size wr W → Calls Try.prog 22 #[.slice a1 N cap1, .int .i64 (k : Int), .bool true] W fun e w' => ∃ v a2 cap2, e = .returned v ∧ v = .slice a2 N cap2 ∧ Own w' W.heap.size v (withI zs (k : Int) true) ∧ Below W.heap.size W w') := fun W hW => by
          obtain ⟨a3, cap3, e3, hb3, hn3⟩ := (HO.out.below hW).split HU.out.2.1
          have hzl := HU.out.1
          rw [hzl] at e3
          obtain ⟨rfl, rfl⟩ : a1 = a3 ∧ cap1 = cap3 := by simpa using e3
          have := rwith_any a1 cap1 zs (k : Int) true W hb3 (by omega) hn3 (by omega)
          rw [hzl] at this
          refine this.mono ?_
          rintro e w' ⟨v, rfl, ho, hbb⟩
          have hzw : (withI zs (k : Int) true).length = N := by rw [withI_in true (by omega), setB_length]; exact hzl
          obtain ⟨a4, cap4, e4, _⟩ := ho.view (by rw [withI_in true (by omega)]; exact setB_all HU.out.2.1 _ _)
          rw [hzw] at e4
          exact ⟨v, a4, cap4, rfl, e4, ho, hbb⟩
        cases hxk : hasB xs k <;> cases hyk : hasB ys k <;> rw [hxk] at CX HFk <;> rw [hyk] at CY HFk <;> simp only [Bool.and_false, Bool.and_true, Bool.not_false, Bool.not_true] at HFk <;> (
          have HFk2 := HFk
          clear HX HY HFK HFk hxk hyk
          go_wp2_with (first
            | (go_at_call_of 12 a; refine (CX _ hk9 HBW.out).mono ?_; rintro e w2 ⟨rfl, hb2⟩; have HB2 : Hid (Below wr.heap.size wr w2) := hb2; clear hb2 CX)
            | (go_at_call_of 12 b; refine (CY _ hk9 (HBW.out.trans (HB2.out.mono HBW.out.size))).mono ?_; rintro e w3 ⟨rfl, hb3⟩; have HB3 : Hid (Below wr.heap.size wr w3) := HB2.out.trans (hb3.mono HB2.out.size); clear hb3 CY)
            | (go_at_call 22; (first | refine (HWI.out _ HB3.out).mono ?_ | refine (HWI.out _ HB2.out).mono ?_); rintro e w4 ⟨v4, a4, cap4, rfl, rfl, ho4, hb4⟩; have HO4 : Hid (Own w4 w.heap.size (.slice a4 N cap4) (withI zs (k : Int) true)) := ho4.mono (by first | (have := HB3.out.size; have := HBW.out.size; omega) | (have := HB2.out.size; have := HBW.out.size; omega)); have HB4 : Hid (Below wr.heap.size wr w4) := (by first | exact HB3.out.trans (hb4.mono HB3.out.size) | exact HB2.out.trans (hb4.mono HB2.out.size)); clear ho4 hb4)
            | fail)
          go_roundw
          case rel => first
            | exact ⟨k + 1, _, _, _, by omega, by go_num, rfl, HO4.out, HU.out.yes hlt HFk2, HBW.out.trans (HB4.out.mono HBW.out.size)⟩
            | exact ⟨k + 1, _, _, _, by omega, by go_num, rfl, HO.out.below HB3.out, HU.out.no HFk2, HBW.out.trans (HB3.out.mono HBW.out.size)⟩
            | exact ⟨k + 1, _, _, _, by omega, by go_num, rfl, HO.out.below HB2.out, HU.out.no HFk2, HBW.out.trans (HB2.out.mono HBW.out.size)⟩
          case measure => simp [intOf]; omega)
      · have hd : decide ((k : Int) < 8 * (N : Int)) = false := by simp; omega
        have HD := HE.out zs (by have e : 8 * N = k := (by omega); rw [e]; exact HU.out)
        go_wp2
        go_ret
        exact ⟨_, zs, rfl, HO.out, HD, HBW.out⟩)
end Go.Proofs.Ytfbmpnhoohfcgaa
