/- Check: the program's and the document's. -/
import Derived.Test.YtophkfbdhejmcaaDr
namespace Go.Proofs.Ytophkfbdhejmcaa
open Go.RowKit
set_option linter.unusedVariables false
set_option maxRecDepth 20000

theorem IV.cell {w : World} {a : Option Addr} {zs : List Int} (h : IV w a zs) {k : Nat} (hk : k < zs.length) : ∃ b off, a = some ⟨b, off, none⟩ ∧ b < w.heap.size ∧ w.cell? ⟨b, off + k, none⟩ = some (.int .i64 (zs.getD k 0)) := by
  obtain rfl | ⟨b, off, rfl, hlt, hc⟩ := h
  · simp at hk
  · exact ⟨b, off, rfl, hlt, hc k hk⟩
set_option maxHeartbeats 1600000 in
theorem check_any (d : Int) (a : Option Addr) (cap : Nat) (zs : List Int) (w : World) (hp : IV w a zs) (hl : zs.length ≤ 1000000) :
    Calls Try.prog 11 #[dv d a zs.length cap] w fun e w' => e = .returned (.int .i64 (chkE d zs)) ∧ Below w.heap.size w w' := by
  have W1 := fun W => dwithin_any d 0 10 W
  have HPG : Hid (∀ z W, Calls Try.prog 34 #[.int .i64 z] W fun e w' => e = .returned (.bool (isP z)) ∧ w' = W) := fun z W => ispage_any z W
  obtain ⟨r, hr⟩ : ∃ r, r = chkE d zs := ⟨_, rfl⟩
  rw [← hr]
  have HR : Hid (r = chkE d zs) := hr
  clear hr
  unfold dv
  by_cases h1 : 0 ≤ d ∧ d ≤ 10
  · rw [show (decide (0 ≤ d) && decide (d ≤ 10)) = true by simp [h1]] at W1
    have HD : Hid (0 ≤ d ∧ d ≤ 10) := h1
    have HPW : Hid (∀ W, Calls Try.prog 35 #[.int .i64 d] W fun e w' => e = .returned (.int .i64 (pwr d : Nat)) ∧ w' = W) := fun W => power_any d W h1
    clear h1
    go_enter Try.func11, Try.ntmps11
    go_wp2_with (go_at_call 33; refine (W1 _).mono ?_; rintro e w1 ⟨rfl, hw⟩; obtain rfl := hw.symm; clear W1)
    go_loop [11] (fun i => ∃ k : Nat, k ≤ zs.length ∧ i = .int .i64 k ∧ Hid (∀ m, m < k → isP (zs.getD m 0) = true)) (fun i => zs.length - (intOf i).toNat)
    case atStart => exact ⟨0, Nat.zero_le _, rfl, (fun m hm => by omega)⟩
    case round =>
      obtain ⟨k, hk, rfl, HN⟩ := hrel
      by_cases hlt : k < zs.length
      · obtain ⟨b, off, rfl, hbl, hc⟩ := hp.cell hlt
        clear hp
        have hlt2 : (k : Int) < (zs.length : Int) := by omega
        have H1 := HPG.out (zs.getD k 0)
        cases hq : isP (zs.getD k 0)
        · have HX : Hid (r = 12) := HR.out.trans (chkE_slot HD.out hlt hq)
          rw [hq] at H1
          clear hq
          generalize zs.getD k 0 = z at *
          go_wp2_with (go_at_call 34; refine (H1 _).mono ?_; rintro e w1 ⟨rfl, hw⟩; obtain rfl := hw.symm; clear H1)
          go_ret
          exact ⟨by rw [HX.out]; rfl, one_block _ _⟩
        · have HN1 : Hid (∀ m, m < k + 1 → isP (zs.getD m 0) = true) := by
            intro m hm
            by_cases e : m = k
            · subst e; exact hq
            · exact HN.out m (by omega)
          rw [hq] at H1
          clear hq
          generalize zs.getD k 0 = z at *
          go_wp2_with (go_at_call 34; refine (H1 _).mono ?_; rintro e w1 ⟨rfl, hw⟩; obtain rfl := hw.symm; clear H1)
          go_round
          case rel => exact ⟨k + 1, by omega, by go_num, HN1⟩
          case measure => simp [intOf]; omega
      · have : k = zs.length := by omega
        subst this
        have hxx : ¬ ((zs.length : Int) < (zs.length : Int)) := by omega
        have HE : Hid (r = if zs.length = pwr d then 0 else 4) := HR.out.trans (chkE_end HD.out HN.out)
        by_cases he : zs.length = pwr d
        · have HX : Hid (r = 0) := by rw [if_pos he] at HE; exact HE.out
          have he2 : ((zs.length : Nat) : Int) = ((pwr d : Nat) : Int) := by omega
          generalize pwr d = p at *
          go_wp2
          go_quiet (first | (go_at_call 35; exact Calls.quiet_of_same (HPW.out _)))
          go_wp2
          go_ret
          exact ⟨by rw [HX.out]; rfl, below_drewN (one_block _ _) _⟩
        · have HX : Hid (r = 4) := by rw [if_neg he] at HE; exact HE.out
          have he2 : ¬ ((zs.length : Nat) : Int) = ((pwr d : Nat) : Int) := by omega
          generalize pwr d = p at *
          go_wp2
          go_quiet (first | (go_at_call 35; exact Calls.quiet_of_same (HPW.out _)))
          go_wp2
          go_ret
          exact ⟨by rw [HX.out]; rfl, below_drewN (one_block _ _) _⟩
  · have HX : Hid (r = 12) := HR.out.trans (chkE_range h1)
    rw [show (decide (0 ≤ d) && decide (d ≤ 10)) = false by simp only [Bool.and_eq_false_iff, decide_eq_false_iff_not]; omega] at W1
    clear h1
    go_enter Try.func11, Try.ntmps11
    go_wp2_with (go_at_call 33; refine (W1 _).mono ?_; rintro e w1 ⟨rfl, hw⟩; obtain rfl := hw.symm; clear W1)
    go_ret
    exact ⟨by rw [HX.out]; rfl, one_block _ _⟩
set_option maxHeartbeats 1600000 in
theorem rcheck_any (d : Int) (a : Option Addr) (cap : Nat) (zs : List Int) (w : World) (hp : IV w a zs) (hl : zs.length ≤ 1000000) :
    Calls Try.prog 12 #[dv d a zs.length cap] w fun e w' => e = .returned (.int .i64 (chkE d zs)) ∧ Below w.heap.size w w' := by
  obtain ⟨r, hr⟩ : ∃ r, r = chkE d zs := ⟨_, rfl⟩
  rw [← hr]
  have HR : Hid (r = chkE d zs) := hr
  clear hr
  unfold dv
  by_cases h1 : 0 ≤ d
  · by_cases h2 : d ≤ 10
    · have HD : Hid (0 ≤ d ∧ d ≤ 10) := ⟨h1, h2⟩
      have HPW : Hid (∀ W, Calls Try.prog 36 #[.int .i64 d] W fun e w' => e = .returned (.int .i64 (pwr d : Nat)) ∧ w' = W) := fun W => rpower_any d W ⟨h1, h2⟩
      have d1 : ¬ d < 0 := by omega
      have d2 : ¬ 10 < d := by omega
      go_enter Try.func12, Try.ntmps12
      go_wp2
      clear d1 d2
      go_loop [3] (fun i => ∃ k : Nat, k ≤ zs.length ∧ i = .int .i64 k ∧ Hid (∀ m, m < k → isP (zs.getD m 0) = true)) (fun i => zs.length - (intOf i).toNat)
      case atStart => exact ⟨0, Nat.zero_le _, rfl, (fun m hm => by omega)⟩
      case round =>
        obtain ⟨k, hk, rfl, HN⟩ := hrel
        by_cases hlt : k < zs.length
        · obtain ⟨b, off, rfl, hbl, hc⟩ := hp.cell hlt
          clear hp
          have hlt2 : (k : Int) < (zs.length : Int) := by omega
          by_cases q1 : zs.getD k 0 < 1
          · have HX : Hid (r = 12) := HR.out.trans (chkE_slot HD.out hlt (by unfold isP; rw [decide_eq_false (by omega)]; rfl))
            generalize zs.getD k 0 = z at *
            go_wp2
            go_ret
            exact ⟨by rw [HX.out]; rfl, one_block _ _⟩
          · by_cases q2 : 3000 < zs.getD k 0
            · have HX : Hid (r = 12) := HR.out.trans (chkE_slot HD.out hlt (by unfold isP; rw [decide_eq_false (show ¬ zs.getD k 0 ≤ 3000 by omega), Bool.and_false]))
              generalize zs.getD k 0 = z at *
              go_wp2
              go_ret
              exact ⟨by rw [HX.out]; rfl, one_block _ _⟩
            · have HN1 : Hid (∀ m, m < k + 1 → isP (zs.getD m 0) = true) := by
                intro m hm
                by_cases e : m = k
                · subst e; unfold isP; rw [decide_eq_true (by omega), decide_eq_true (by omega)]; rfl
                · exact HN.out m (by omega)
              generalize zs.getD k 0 = z at *
              go_wp2
              go_round
              case rel => exact ⟨k + 1, by omega, by go_num, HN1⟩
              case measure => simp [intOf]; omega
        · have : k = zs.length := by omega
          subst this
          have hxx : ¬ ((zs.length : Int) < (zs.length : Int)) := by omega
          have HE : Hid (r = if zs.length = pwr d then 0 else 4) := HR.out.trans (chkE_end HD.out HN.out)
          by_cases he : zs.length = pwr d
          · have HX : Hid (r = 0) := by rw [if_pos he] at HE; exact HE.out
            have he2 : ((zs.length : Nat) : Int) = ((pwr d : Nat) : Int) := by omega
            generalize pwr d = p at *
            go_wp2
            go_quiet (first | (go_at_call 36; exact Calls.quiet_of_same (HPW.out _)))
            go_wp2
            go_ret
            exact ⟨by rw [HX.out]; rfl, below_drewN (one_block _ _) _⟩
          · have HX : Hid (r = 4) := by rw [if_neg he] at HE; exact HE.out
            have he2 : ¬ ((zs.length : Nat) : Int) = ((pwr d : Nat) : Int) := by omega
            generalize pwr d = p at *
            go_wp2
            go_quiet (first | (go_at_call 36; exact Calls.quiet_of_same (HPW.out _)))
            go_wp2
            go_ret
            exact ⟨by rw [HX.out]; rfl, below_drewN (one_block _ _) _⟩
    · have HX : Hid (r = 12) := HR.out.trans (chkE_range (by omega))
      have d1 : ¬ d < 0 := by omega
      have d2 : 10 < d := by omega
      go_enter Try.func12, Try.ntmps12
      go_wp2
      go_ret
      exact ⟨by rw [HX.out]; rfl, one_block _ _⟩
  · have HX : Hid (r = 12) := HR.out.trans (chkE_range (by omega))
    have d1 : d < 0 := by omega
    go_enter Try.func12, Try.ntmps12
    go_wp2
    go_ret
    exact ⟨by rw [HX.out]; rfl, one_block _ _⟩
end Go.Proofs.Ytophkfbdhejmcaa
