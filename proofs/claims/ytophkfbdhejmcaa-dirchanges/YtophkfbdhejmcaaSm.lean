/- Whether ints, and directories, are the same: slices.Equal, sameInts, both Sames. -/
import Derived.Test.YtophkfbdhejmcaaCk
namespace Go.Proofs.Ytophkfbdhejmcaa
open Go.RowKit
set_option linter.unusedVariables false
set_option maxRecDepth 20000

theorem same_all {xs ys : List Int} (hl : xs.length = ys.length) (h : ∀ m, m < xs.length → xs.getD m 0 = ys.getD m 0) : decide (xs = ys) = true := by
  rw [decide_eq_true_eq]
  apply List.ext_getElem hl
  intro i h1 h2
  have := h i h1
  rw [List.getD_eq_getElem?_getD, List.getElem?_eq_getElem h1, List.getD_eq_getElem?_getD, List.getElem?_eq_getElem h2] at this
  exact this
theorem same_not {xs ys : List Int} {m : Nat} (h : ¬ xs.getD m 0 = ys.getD m 0) : decide (xs = ys) = false := by
  rw [decide_eq_false_iff_not]
  rintro rfl
  exact h rfl
theorem same_len {xs ys : List Int} (h : ¬ xs.length = ys.length) : decide (xs = ys) = false := by
  rw [decide_eq_false_iff_not]
  rintro rfl
  exact h rfl
set_option maxHeartbeats 1600000 in
theorem equal_any (a b : Option Addr) (c e : Nat) (xs ys : List Int) (w : World) (hx : IV w a xs) (hy : IV w b ys) (hl : xs.length ≤ 1000000) (hl2 : ys.length ≤ 9223372036854775807) :
    Calls Try.prog 40 #[.slice a xs.length c, .slice b ys.length e] w fun e w' => e = .returned (.bool (decide (xs = ys))) ∧ Below w.heap.size w w' := by
  by_cases hlen : xs.length = ys.length
  · have HL : Hid (xs.length = ys.length) := hlen
    rw [← hlen]
    clear hlen hl2
    go_enter Try.func40, Try.ntmps40
    go_wp2
    go_loopw [13] (fun i wr => ∃ k : Nat, k ≤ xs.length ∧ i = .int .i64 k ∧ Hid (∀ m, m < k → xs.getD m 0 = ys.getD m 0) ∧ Hid (Below w.heap.size w wr)) (fun i _ => xs.length - (intOf i).toNat)
    case atStart => exact ⟨0, Nat.zero_le _, rfl, (fun m hm => by omega), Below.refl _ _⟩
    case round =>
      obtain ⟨k, hk, rfl, HN, HB⟩ := hrel
      by_cases hlt : k < xs.length
      · obtain ⟨b1, o1, rfl, hb1, c1⟩ := (hx.below HB.out).cell hlt
        obtain ⟨b2, o2, rfl, hb2, c2⟩ := (hy.below HB.out).cell (show k < ys.length by have := HL.out; omega)
        have hlt2 : (k : Int) < (xs.length : Int) := by omega
        by_cases hq : xs.getD k 0 = ys.getD k 0
        · have HN1 : Hid (∀ m, m < k + 1 → xs.getD m 0 = ys.getD m 0) := by
            intro m hm
            by_cases e : m = k
            · subst e; exact hq
            · exact HN.out m (by omega)
          rw [← hq] at c2
          clear hq
          generalize xs.getD k 0 = x at *
          go_wp2
          go_quiet (fail)
          go_wp2
          go_roundw
          case rel => exact ⟨k + 1, by omega, by go_num, HN1, below_drewN HB.out _⟩
          case measure => simp [intOf]; omega
        · have HF : Hid (decide (xs = ys) = false) := same_not hq
          generalize xs.getD k 0 = x at *
          generalize ys.getD k 0 = y at *
          go_wp2
          go_quiet (fail)
          go_wp2
          go_ret
          exact ⟨by rw [HF.out]; rfl, below_drewN HB.out _⟩
      · have : k = xs.length := by omega
        subst this
        have HT : Hid (decide (xs = ys) = true) := same_all HL.out HN.out
        have hxx : ¬ ((xs.length : Int) < (xs.length : Int)) := by omega
        go_wp2
        go_ret
        exact ⟨by rw [HT.out]; rfl, HB.out⟩
  · have HF : Hid (decide (xs = ys) = false) := same_len hlen
    have hne2 : ¬ ((xs.length : Int) = (ys.length : Int)) := by omega
    go_enter Try.func40, Try.ntmps40
    go_wp2
    go_ret
    exact ⟨by rw [HF.out]; rfl, Below.refl _ _⟩
set_option maxHeartbeats 1600000 in
theorem sints_any (a b : Option Addr) (c e : Nat) (xs ys : List Int) (w : World) (hx : IV w a xs) (hy : IV w b ys) (hl : xs.length ≤ 1000000) (hl2 : ys.length ≤ 9223372036854775807) :
    Calls Try.prog 17 #[.slice a xs.length c, .slice b ys.length e] w fun e w' => e = .returned (.bool (decide (xs = ys))) ∧ Below w.heap.size w w' := by
  by_cases hlen : xs.length = ys.length
  · have HL : Hid (xs.length = ys.length) := hlen
    rw [← hlen]
    clear hlen hl2
    go_enter Try.func17, Try.ntmps17
    go_wp2
    go_loopw [5] (fun i wr => ∃ k : Nat, k ≤ xs.length ∧ i = .int .i64 k ∧ Hid (∀ m, m < k → xs.getD m 0 = ys.getD m 0) ∧ Hid (Below w.heap.size w wr)) (fun i _ => xs.length - (intOf i).toNat)
    case atStart => exact ⟨0, Nat.zero_le _, rfl, (fun m hm => by omega), Below.refl _ _⟩
    case round =>
      obtain ⟨k, hk, rfl, HN, HB⟩ := hrel
      by_cases hlt : k < xs.length
      · obtain ⟨b1, o1, rfl, hb1, c1⟩ := (hx.below HB.out).cell hlt
        obtain ⟨b2, o2, rfl, hb2, c2⟩ := (hy.below HB.out).cell (show k < ys.length by have := HL.out; omega)
        have hlt2 : (k : Int) < (xs.length : Int) := by omega
        by_cases hq : xs.getD k 0 = ys.getD k 0
        · have HN1 : Hid (∀ m, m < k + 1 → xs.getD m 0 = ys.getD m 0) := by
            intro m hm
            by_cases e : m = k
            · subst e; exact hq
            · exact HN.out m (by omega)
          rw [← hq] at c2
          clear hq
          generalize xs.getD k 0 = x at *
          go_wp2
          go_quiet (fail)
          go_wp2
          go_roundw
          case rel => exact ⟨k + 1, by omega, by go_num, HN1, below_drewN HB.out _⟩
          case measure => simp [intOf]; omega
        · have HF : Hid (decide (xs = ys) = false) := same_not hq
          generalize xs.getD k 0 = x at *
          generalize ys.getD k 0 = y at *
          go_wp2
          go_quiet (fail)
          go_wp2
          go_ret
          exact ⟨by rw [HF.out]; rfl, below_drewN HB.out _⟩
      · have : k = xs.length := by omega
        subst this
        have HT : Hid (decide (xs = ys) = true) := same_all HL.out HN.out
        have hxx : ¬ ((xs.length : Int) < (xs.length : Int)) := by omega
        go_wp2
        go_ret
        exact ⟨by rw [HT.out]; rfl, HB.out⟩
  · have HF : Hid (decide (xs = ys) = false) := same_len hlen
    have hne2 : ¬ ((xs.length : Int) = (ys.length : Int)) := by omega
    go_enter Try.func17, Try.ntmps17
    go_wp2
    go_ret
    exact ⟨by rw [HF.out]; rfl, Below.refl _ _⟩
def sameD (d : Int) (xs : List Int) (d' : Int) (ys : List Int) : Bool := decide (d = d') && decide (xs = ys)
theorem sameD_refl (d : Int) (xs : List Int) : sameD d xs d xs = true := by simp [sameD]
set_option maxHeartbeats 800000 in
theorem same_any (d d' : Int) (a b : Option Addr) (c e : Nat) (xs ys : List Int) (w : World) (hx : IV w a xs) (hy : IV w b ys) (hl : xs.length ≤ 1000000) (hl2 : ys.length ≤ 9223372036854775807) :
    Calls Try.prog 20 #[dv d a xs.length c, dv d' b ys.length e] w fun e w' => e = .returned (.bool (sameD d xs d' ys)) ∧ Below w.heap.size w w' := by
  have HQ : Hid (∀ W, Below w.heap.size w W → Calls Try.prog 40 #[.slice a xs.length c, .slice b ys.length e] W fun e w' => e = .returned (.bool (decide (xs = ys))) ∧ Below W.heap.size W w') := fun W hW => equal_any a b c e xs ys W (hx.below hW) (hy.below hW) hl hl2
  unfold dv sameD
  by_cases h1 : d = d'
  · rw [decide_eq_true h1, Bool.true_and]
    generalize decide (xs = ys) = r at *
    go_enter Try.func20, Try.ntmps20
    go_wp2_with (go_at_call 40; refine (HQ.out _ (two_blocks _ _ _)).mono ?_; rintro e w1 ⟨rfl, hb1⟩)
    go_ret
    exact ⟨rfl, bt (two_blocks _ _ _) hb1⟩
  · rw [decide_eq_false h1, Bool.false_and]
    go_enter Try.func20, Try.ntmps20
    go_wp2
    go_ret
    exact ⟨rfl, two_blocks _ _ _⟩
set_option maxHeartbeats 1600000 in
theorem rsame_any (d d' : Int) (a b : Option Addr) (c e : Nat) (xs ys : List Int) (w : World) (hx : IV w a xs) (hy : IV w b ys) (hl : xs.length ≤ 1000000) (hl2 : ys.length ≤ 9223372036854775807) :
    Calls Try.prog 21 #[dv d a xs.length c, dv d' b ys.length e] w fun e w' => e = .returned (.bool (sameD d xs d' ys)) ∧ Below w.heap.size w w' := by
  obtain ⟨r, hr⟩ : ∃ r, r = sameD d xs d' ys := ⟨_, rfl⟩
  rw [← hr]
  have HR : Hid (r = sameD d xs d' ys) := hr
  clear hr
  unfold dv
  by_cases h1 : d = d'
  · by_cases hlen : xs.length = ys.length
    · have HL : Hid (xs.length = ys.length) := hlen
      have HR2 : Hid (r = decide (xs = ys)) := HR.out.trans (by unfold sameD; rw [decide_eq_true h1, Bool.true_and])
      rw [← hlen]
      subst h1
      clear hlen hl2 HR
      go_enter Try.func21, Try.ntmps21
      go_wp2
      go_loopw [5] (fun i wr => ∃ k : Nat, k ≤ xs.length ∧ i = .int .i64 k ∧ Hid (∀ m, m < k → xs.getD m 0 = ys.getD m 0) ∧ Hid (Below ((w.alloc (.cells #[.int .i64 d, .slice a xs.length c] 24)).alloc (.cells #[.int .i64 d, .slice b xs.length e] 24)).heap.size ((w.alloc (.cells #[.int .i64 d, .slice a xs.length c] 24)).alloc (.cells #[.int .i64 d, .slice b xs.length e] 24)) wr)) (fun i _ => xs.length - (intOf i).toNat)
      case atStart => exact ⟨0, Nat.zero_le _, rfl, (fun m hm => by omega), Below.refl _ _⟩
      case round =>
        obtain ⟨k, hk, rfl, HN, HB⟩ := hrel
        have q0 : wr.cell? ⟨w.heap.size, 1, none⟩ = some (.slice a xs.length c) := (HB.out.cell (p := ⟨w.heap.size, 1, none⟩) (by simp; omega)).trans (by go_simp)
        have q1 : wr.cell? ⟨w.heap.size + 1, 1, none⟩ = some (.slice b xs.length e) := (HB.out.cell (p := ⟨w.heap.size + 1, 1, none⟩) (by simp)).trans (by go_simp)
        by_cases hlt : k < xs.length
        · obtain ⟨b1, o1, rfl, hb1, c1⟩ := (hx.below (bt (two_blocks _ _ _) HB.out)).cell hlt
          obtain ⟨b2, o2, rfl, hb2, c2⟩ := (hy.below (bt (two_blocks _ _ _) HB.out)).cell (show k < ys.length by have := HL.out; omega)
          have hlt2 : (k : Int) < (xs.length : Int) := by omega
          by_cases hq : xs.getD k 0 = ys.getD k 0
          · have HN1 : Hid (∀ m, m < k + 1 → xs.getD m 0 = ys.getD m 0) := by
              intro m hm
              by_cases e : m = k
              · subst e; exact hq
              · exact HN.out m (by omega)
            rw [← hq] at c2
            clear hq
            generalize xs.getD k 0 = x at *
            go_wp2
            go_quiet (fail)
            go_wp2
            go_roundw
            case rel => exact ⟨k + 1, by omega, by go_num, HN1, below_drewN HB.out _⟩
            case measure => simp [intOf]; omega
          · have HF : Hid (r = false) := HR2.out.trans (same_not hq)
            generalize xs.getD k 0 = x at *
            generalize ys.getD k 0 = y at *
            go_wp2
            go_quiet (fail)
            go_wp2
            go_ret
            exact ⟨by rw [HF.out]; rfl, below_drewN (bt (two_blocks _ _ _) HB.out) _⟩
        · have : k = xs.length := by omega
          subst this
          have HT : Hid (r = true) := HR2.out.trans (same_all HL.out HN.out)
          have hxx : ¬ ((xs.length : Int) < (xs.length : Int)) := by omega
          go_wp2
          go_ret
          exact ⟨by rw [HT.out]; rfl, bt (two_blocks _ _ _) HB.out⟩
    · have HF : Hid (r = false) := HR.out.trans (by unfold sameD; rw [same_len hlen, Bool.and_false])
      have hne2 : ¬ ((xs.length : Int) = (ys.length : Int)) := by omega
      subst h1
      go_enter Try.func21, Try.ntmps21
      go_wp2
      go_ret
      exact ⟨by rw [HF.out]; rfl, two_blocks _ _ _⟩
  · have HF : Hid (r = false) := HR.out.trans (by unfold sameD; rw [decide_eq_false h1, Bool.false_and])
    go_enter Try.func21, Try.ntmps21
    go_wp2
    go_ret
    exact ⟨by rw [HF.out]; rfl, two_blocks _ _ _⟩
end Go.Proofs.Ytophkfbdhejmcaa
