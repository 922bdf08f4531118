/- Whether pairs, and buckets, are the same. -/
import Derived.Test.YtnnndkpmlpbpcaaSz
namespace Go.Proofs.Ytnnndkpmlpbpcaa
open Go.RowKit
set_option linter.unusedVariables false
set_option maxRecDepth 20000

theorem eqP_true {p q : PR} : eqP p q = true ↔ p = q := by rw [eqP_iff, decide_eq_true_eq]
theorem same_all {xs ys : List PR} (hl : xs.length = ys.length) (h : ∀ m, m < xs.length → eqP (xs.getD m default) (ys.getD m default) = true) : decide (xs = ys) = true := by
  rw [decide_eq_true_eq]
  apply List.ext_getElem hl
  intro i h1 h2
  have := eqP_true.1 (h i h1)
  rw [List.getD_eq_getElem?_getD, List.getElem?_eq_getElem h1, List.getD_eq_getElem?_getD, List.getElem?_eq_getElem h2] at this
  exact this
theorem same_not {xs ys : List PR} {m : Nat} (h : eqP (xs.getD m default) (ys.getD m default) = false) : decide (xs = ys) = false := by
  rw [decide_eq_false_iff_not]
  rintro rfl
  rw [eqP_iff] at h
  simp at h
set_option maxHeartbeats 4000000 in
theorem spairs_any (a b : Option Addr) (c e : Nat) (xs ys : List PR) (w : World) (hx : PV w a xs) (hy : PV w b ys) (hl : xs.length ≤ 1000000) (hl2 : ys.length ≤ 9223372036854775807) :
    Calls Try.prog 27 #[.slice a xs.length c, .slice b ys.length e] w fun e w' => e = .returned (.bool (decide (xs = ys))) ∧ Below w.heap.size w w' := by
  by_cases hlen : xs.length = ys.length
  · have HL : Hid (xs.length = ys.length) := hlen
    rw [← hlen]
    clear hlen hl2
    go_enter Try.func27, Try.ntmps27
    go_wp2
    go_loopw [5] (fun i wr => ∃ k : Nat, k ≤ xs.length ∧ i = .int .i64 k ∧ Hid (∀ m, m < k → eqP (xs.getD m default) (ys.getD m default) = true) ∧ Hid (Below w.heap.size w wr)) (fun i _ => xs.length - (intOf i).toNat)
    case atStart => exact ⟨0, Nat.zero_le _, rfl, (fun m hm => by omega), Below.refl _ _⟩
    case round =>
      obtain ⟨k, hk, rfl, HN, HB⟩ := hrel
      by_cases hlt : k < xs.length
      · obtain h0 | ⟨b1, o1, rfl, hb1, hc1⟩ := hx.below HB.out
        · subst h0; simp at hlt
        obtain h0 | ⟨b2, o2, rfl, hb2, hc2⟩ := hy.below HB.out
        · have := HL.out; subst h0; rw [this] at hlt; simp at hlt
        obtain ⟨c0, c1⟩ := hc1 k hlt
        obtain ⟨d0, d1⟩ := hc2 k (by have := HL.out; omega)
        clear hc1 hc2
        have hlt2 : (k : Int) < (xs.length : Int) := by omega
        cases hq : eqP (xs.getD k default) (ys.getD k default)
        · have HF : Hid (decide (xs = ys) = false) := same_not hq
          unfold eqP at hq
          generalize (xs.getD k default).1 = k1 at *
          generalize (xs.getD k default).2 = v1 at *
          generalize (ys.getD k default).1 = k2 at *
          generalize (ys.getD k default).2 = v2 at *
          by_cases e1 : k1.toList = k2.toList
          · have e2 : ¬ v1.toList = v2.toList := by simpa [e1] using hq
            clear hq
            go_wp2
            go_quiet (fail)
            go_wp2
            go_ret
            exact ⟨by rw [HF.out]; rfl, below_drewN HB.out _⟩
          · clear hq
            go_wp2
            go_quiet (fail)
            go_wp2
            go_ret
            exact ⟨by rw [HF.out]; rfl, below_drewN HB.out _⟩
        · have HN1 : Hid (∀ m, m < k + 1 → eqP (xs.getD m default) (ys.getD m default) = true) := by
            intro m hm
            by_cases e : m = k
            · subst e; exact hq
            · exact HN.out m (by omega)
          unfold eqP at hq
          generalize (xs.getD k default).1 = k1 at *
          generalize (xs.getD k default).2 = v1 at *
          generalize (ys.getD k default).1 = k2 at *
          generalize (ys.getD k default).2 = v2 at *
          simp only [Bool.and_eq_true, decide_eq_true_eq] at hq
          obtain ⟨e1, e2⟩ := hq
          go_wp2
          go_quiet (fail)
          go_wp2
          go_roundw
          case rel => exact ⟨k + 1, by omega, by go_num, HN1, below_drewN HB.out _⟩
          case measure => simp [intOf]; omega
      · have : k = xs.length := by omega
        subst this
        have HT : Hid (decide (xs = ys) = true) := same_all HL.out HN.out
        have hxx : ¬ ((xs.length : Int) < (xs.length : Int)) := by omega
        go_wp2
        go_ret
        exact ⟨by rw [HT.out]; rfl, HB.out⟩
  · have HF : Hid (decide (xs = ys) = false) := by
      show decide (xs = ys) = false
      rw [decide_eq_false_iff_not]
      rintro rfl
      exact hlen rfl
    have hne : ((xs.length : Int) == (ys.length : Int)) = false := by rw [beq_eq_false_iff_ne]; omega
    have hne2 : ¬ ((xs.length : Int) = (ys.length : Int)) := by omega
    go_enter Try.func27, Try.ntmps27
    go_wp2
    go_ret
    exact ⟨by rw [HF.out]; rfl, Below.refl _ _⟩
set_option maxHeartbeats 4000000 in
theorem equalq_any (a b : Option Addr) (c e : Nat) (xs ys : List PR) (w : World) (hx : PV w a xs) (hy : PV w b ys) (hl : xs.length ≤ 1000000) (hl2 : ys.length ≤ 9223372036854775807) :
    Calls Try.prog 45 #[.slice a xs.length c, .slice b ys.length e] w fun e w' => e = .returned (.bool (decide (xs = ys))) ∧ Below w.heap.size w w' := by
  by_cases hlen : xs.length = ys.length
  · have HL : Hid (xs.length = ys.length) := hlen
    rw [← hlen]
    clear hlen hl2
    go_enter Try.func45, Try.ntmps45
    go_wp2
    go_loopw [13] (fun i wr => ∃ k : Nat, k ≤ xs.length ∧ i = .int .i64 k ∧ Hid (∀ m, m < k → eqP (xs.getD m default) (ys.getD m default) = true) ∧ Hid (Below w.heap.size w wr)) (fun i _ => xs.length - (intOf i).toNat)
    case atStart => exact ⟨0, Nat.zero_le _, rfl, (fun m hm => by omega), Below.refl _ _⟩
    case round =>
      obtain ⟨k, hk, rfl, HN, HB⟩ := hrel
      by_cases hlt : k < xs.length
      · obtain h0 | ⟨b1, o1, rfl, hb1, hc1⟩ := hx.below HB.out
        · subst h0; simp at hlt
        obtain h0 | ⟨b2, o2, rfl, hb2, hc2⟩ := hy.below HB.out
        · have := HL.out; subst h0; rw [this] at hlt; simp at hlt
        obtain ⟨c0, c1⟩ := hc1 k hlt
        obtain ⟨d0, d1⟩ := hc2 k (by have := HL.out; omega)
        clear hc1 hc2
        have hlt2 : (k : Int) < (xs.length : Int) := by omega
        cases hq : eqP (xs.getD k default) (ys.getD k default)
        · have HF : Hid (decide (xs = ys) = false) := same_not hq
          unfold eqP at hq
          generalize (xs.getD k default).1 = k1 at *
          generalize (xs.getD k default).2 = v1 at *
          generalize (ys.getD k default).1 = k2 at *
          generalize (ys.getD k default).2 = v2 at *
          by_cases e1 : k1.toList = k2.toList
          · have e2 : ¬ v1.toList = v2.toList := by simpa [e1] using hq
            clear hq
            go_wp2
            go_quiet (fail)
            go_wp2
            go_ret
            exact ⟨by rw [HF.out]; rfl, below_drewN HB.out _⟩
          · clear hq
            go_wp2
            go_quiet (fail)
            go_wp2
            go_ret
            exact ⟨by rw [HF.out]; rfl, below_drewN HB.out _⟩
        · have HN1 : Hid (∀ m, m < k + 1 → eqP (xs.getD m default) (ys.getD m default) = true) := by
            intro m hm
            by_cases e : m = k
            · subst e; exact hq
            · exact HN.out m (by omega)
          unfold eqP at hq
          generalize (xs.getD k default).1 = k1 at *
          generalize (xs.getD k default).2 = v1 at *
          generalize (ys.getD k default).1 = k2 at *
          generalize (ys.getD k default).2 = v2 at *
          simp only [Bool.and_eq_true, decide_eq_true_eq] at hq
          obtain ⟨e1, e2⟩ := hq
          go_wp2
          go_quiet (fail)
          go_wp2
          go_roundw
          case rel => exact ⟨k + 1, by omega, by go_num, HN1, below_drewN HB.out _⟩
          case measure => simp [intOf]; omega
      · have : k = xs.length := by omega
        subst this
        have HT : Hid (decide (xs = ys) = true) := same_all HL.out HN.out
        have hxx : ¬ ((xs.length : Int) < (xs.length : Int)) := by omega
        go_wp2
        go_ret
        exact ⟨by rw [HT.out]; rfl, HB.out⟩
  · have HF : Hid (decide (xs = ys) = false) := by
      show decide (xs = ys) = false
      rw [decide_eq_false_iff_not]
      rintro rfl
      exact hlen rfl
    have hne : ((xs.length : Int) == (ys.length : Int)) = false := by rw [beq_eq_false_iff_ne]; omega
    have hne2 : ¬ ((xs.length : Int) = (ys.length : Int)) := by omega
    go_enter Try.func45, Try.ntmps45
    go_wp2
    go_ret
    exact ⟨by rw [HF.out]; rfl, Below.refl _ _⟩
def sameBk (d n : Int) (xs : List PR) (d' n' : Int) (ys : List PR) : Bool := decide (d = d') && (decide (n = n') && decide (xs = ys))
set_option maxHeartbeats 2000000 in
theorem sameb_any (d n d' n' : Int) (a b : Option Addr) (c e : Nat) (xs ys : List PR) (w : World) (hx : PV w a xs) (hy : PV w b ys) (hl : xs.length ≤ 1000000) (hl2 : ys.length ≤ 9223372036854775807) :
    Calls Try.prog 18 #[bkv d n a xs.length c, bkv d' n' b ys.length e] w fun e w' => e = .returned (.bool (sameBk d n xs d' n' ys)) ∧ Below w.heap.size w w' := by
  have HQ : Hid (∀ W, Below w.heap.size w W → Calls Try.prog 45 #[.slice a xs.length c, .slice b ys.length e] W fun e w' => e = .returned (.bool (decide (xs = ys))) ∧ Below W.heap.size W w') := fun W hW => equalq_any a b c e xs ys W (hx.below hW) (hy.below hW) hl hl2
  unfold bkv sameBk
  by_cases h1 : d = d'
  · by_cases h2 : n = n'
    · rw [decide_eq_true h1, decide_eq_true h2, Bool.true_and, Bool.true_and]
      generalize decide (xs = ys) = r at *
      go_enter Try.func18, Try.ntmps18
      go_wp2_with (go_at_call 45; refine (HQ.out _ (two_blocks _ _ _)).mono ?_; rintro e w1 ⟨rfl, hb1⟩)
      go_ret
      exact ⟨rfl, bt (two_blocks _ _ _) hb1⟩
    · rw [decide_eq_true h1, decide_eq_false h2, Bool.true_and, Bool.false_and]
      go_enter Try.func18, Try.ntmps18
      go_wp2
      go_ret
      exact ⟨rfl, two_blocks _ _ _⟩
  · rw [decide_eq_false h1, Bool.false_and]
    go_enter Try.func18, Try.ntmps18
    go_wp2
    go_ret
    exact ⟨rfl, two_blocks _ _ _⟩
set_option maxHeartbeats 2000000 in
theorem rsameb_any (d n d' n' : Int) (a b : Option Addr) (c e : Nat) (xs ys : List PR) (w : World) (hx : PV w a xs) (hy : PV w b ys) (hl : xs.length ≤ 1000000) (hl2 : ys.length ≤ 9223372036854775807) :
    Calls Try.prog 17 #[bkv d n a xs.length c, bkv d' n' b ys.length e] w fun e w' => e = .returned (.bool (sameBk d n xs d' n' ys)) ∧ Below w.heap.size w w' := by
  have HQ : Hid (∀ W, Below w.heap.size w W → Calls Try.prog 27 #[.slice a xs.length c, .slice b ys.length e] W fun e w' => e = .returned (.bool (decide (xs = ys))) ∧ Below W.heap.size W w') := fun W hW => spairs_any a b c e xs ys W (hx.below hW) (hy.below hW) hl hl2
  unfold bkv sameBk
  by_cases h1 : d = d'
  · by_cases h2 : n = n'
    · rw [decide_eq_true h1, decide_eq_true h2, Bool.true_and, Bool.true_and]
      generalize decide (xs = ys) = r at *
      go_enter Try.func17, Try.ntmps17
      go_wp2_with (go_at_call 27; refine (HQ.out _ (two_blocks _ _ _)).mono ?_; rintro e w1 ⟨rfl, hb1⟩)
      go_ret
      exact ⟨rfl, bt (two_blocks _ _ _) hb1⟩
    · rw [decide_eq_true h1, decide_eq_false h2, Bool.true_and, Bool.false_and]
      go_enter Try.func17, Try.ntmps17
      go_wp2
      go_ret
      exact ⟨rfl, two_blocks _ _ _⟩
  · rw [decide_eq_false h1, Bool.false_and]
    go_enter Try.func17, Try.ntmps17
    go_wp2
    go_ret
    exact ⟨rfl, two_blocks _ _ _⟩
end Go.Proofs.Ytnnndkpmlpbpcaa
