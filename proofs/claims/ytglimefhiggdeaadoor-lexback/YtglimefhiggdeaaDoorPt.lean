/- The program's takeMark, takeNot, takePred: contracts of single calls. -/
import Derived.Test.YtglimefhiggdeaaDoorRf
import Derived.Test.YtglimefhiggdeaaDoorHo
import Derived.Deep.LoopGhost
namespace Go.Proofs.YtglimefhiggdeaaDoor
open Go.RowKit
set_option linter.unusedVariables false
set_option linter.unusedSimpArgs false
set_option maxRecDepth 20000

theorem mk_len (k : Nat) : (mkL k).length ≤ 3 := by
  unfold mkL
  repeat' split
  all_goals simp
theorem mk_step (l : List UInt8) (k : Nat) (hk : k < 7) : mkFrom l (7 - k) k = if preB (mkL k) l = true then some (tok0 k, (mkL k).length) else mkFrom l (7 - (k + 1)) (k + 1) := by
  obtain ⟨m, hm⟩ : ∃ m, 7 - k = m + 1 := ⟨6 - k, by omega⟩
  rw [hm, show 7 - (k + 1) = m by omega]; rfl
theorem pr_step (l : List UInt8) (m k : Nat) (hk : k < 6) : prFrom l m (6 - k) k = if (sgnL k).length = m ∧ preB (sgnL k) l = true then some (tokP k, m) else prFrom l m (6 - (k + 1)) (k + 1) := by
  obtain ⟨q, hm⟩ : ∃ q, 6 - k = q + 1 := ⟨5 - k, by omega⟩
  rw [hm, show 6 - (k + 1) = q by omega]; rfl
theorem sgn_st (p : Int) : sgnS p = st (sgnL p) := by
  unfold sgnS sgnL
  repeat' split
  all_goals rfl
theorem sgn_len (p : Int) : (sgnL p).length ≤ 2 := by
  unfold sgnL
  repeat' split
  all_goals simp
set_option maxHeartbeats 2000000 in
theorem tmark_any (s : ByteArray) (w : World) (hs : s.size ≤ 1000000) :
    Calls Tryd.prog 23 #[.string s] w fun e w' => e = .returned (tkV (mkFrom s.data.toList 7 0)) ∧ Below w.heap.size w w' := by
  obtain ⟨A, hA⟩ : ∃ A, A = mkFrom s.data.toList 7 0 := ⟨_, rfl⟩
  rw [← hA]
  have HA : Hid (mkFrom s.data.toList 7 0 = A) := hA.symm
  clear hA
  go_enter Tryd.func23, Tryd.ntmps23
  go_wp2
  go_loop [4] (fun v => ∃ k : Nat, v = .int .u8 k ∧ k ≤ 7 ∧ mkFrom s.data.toList (7 - k) k = A) (fun v => (7 - intOf v).toNat)
  case atStart => exact ⟨0, rfl, by omega, HA.out⟩
  case round =>
    obtain ⟨k, rfl, hk, hr⟩ := hrel
    have HR : Hid (mkFrom s.data.toList (7 - k) k = A) := hr
    clear hr HA
    by_cases h7 : k < 7
    · have h6 : (k : Int) ≤ 6 := by omega
      have CM := fun W => mark_any k W (by omega)
      have CP := fun W => hp_any s (st (mkL k)) W hs (by rw [st_size]; have := mk_len k; omega)
      rw [st_list] at CP
      have hz := st_size (mkL k)
      have hz3 := mk_len k
      have hst := mk_step s.data.toList k h7
      cases hb : preB (mkL k) s.data.toList with
      | true =>
        rw [hb] at CP hst
        have HE : Hid (A = some (tok0 k, (mkL k).length)) := by show _ = _; rw [← HR.out, hst, if_pos rfl]
        generalize (mkL k).length = n at *
        generalize st (mkL k) = m at *
        clear HR hst hb
        go_wp2_with (first | (go_at_call 19; refine (CM _).mono ?_; rintro e w' ⟨rfl, hw⟩; obtain rfl := hw.symm; clear CM) | (go_at_call 41; refine (CP _).mono ?_; rintro e w' ⟨rfl, hw⟩; obtain rfl := hw.symm; clear CP))
        exact bodyPost_ret (v := tkV (some (tok0 k, n))) (by simp [results, Tryd.results23, go_sem, tkV, tv, st, tok0] <;> rfl) rfl ⟨by rw [HE.out], bxn _ _⟩
      | false =>
        rw [hb] at CP hst
        have HE : Hid (mkFrom s.data.toList (7 - (k + 1)) (k + 1) = A) := by show _ = _; rw [← HR.out, hst]; rfl
        generalize st (mkL k) = m at *
        clear HR hst hb
        go_wp2_with (first | (go_at_call 19; refine (CM _).mono ?_; rintro e w' ⟨rfl, hw⟩; obtain rfl := hw.symm; clear CM) | (go_at_call 41; refine (CP _).mono ?_; rintro e w' ⟨rfl, hw⟩; obtain rfl := hw.symm; clear CP))
        go_round
        case rel => exact ⟨k + 1, by simp, by omega, HE.out⟩
        case measure => simp [intOf]; omega
    · obtain rfl : k = 7 := by omega
      have HE : Hid (A = none) := by show _ = _; rw [← HR.out]; rfl
      clear HR
      go_wp2
      exact bodyPost_ret (v := tkV none) (by simp [results, Tryd.results23, go_sem, tkV, tv, st, tok0] <;> rfl) rfl ⟨by rw [HE.out], bxn _ _⟩
theorem mk7 (W : World) : Calls Tryd.prog 19 #[.int .u8 7] W fun e w' => e = .returned (.string ⟨#[45]⟩) ∧ w' = W := mark_any 7 W (by decide)
theorem mk0 (W : World) : Calls Tryd.prog 19 #[.int .u8 0] W fun e w' => e = .returned (.string ⟨#[40]⟩) ∧ w' = W := mark_any 0 W (by decide)
set_option maxHeartbeats 2000000 in
theorem tnot_any (s : ByteArray) (w : World) (hs : s.size ≤ 1000000) :
    Calls Tryd.prog 24 #[.string s] w fun e w' => e = .returned (tkV (ntL s.data.toList)) ∧ Below w.heap.size w w' := by
  have CP : ∀ W, Calls Tryd.prog 41 #[.string s, .string ⟨#[45, 40]⟩] W fun e w' => e = .returned (.bool (preB [45, 40] s.data.toList)) ∧ w' = W := fun W => hp_any s ⟨#[45, 40]⟩ W hs (by decide)
  have hcat : (⟨#[45]⟩ ++ ⟨#[40]⟩ : ByteArray) = ⟨#[45, 40]⟩ := by decide
  unfold ntL
  have CA := mk7
  have CB := mk0
  have CC := mk7
  cases hb : preB [45, 40] s.data.toList with
  | true =>
    rw [hb] at CP
    rw [if_pos rfl]
    go_enter Tryd.func24, Tryd.ntmps24
    go_wp2_with (first | (go_at_call 19; refine (CA _).mono ?_; rintro e w' ⟨rfl, hw⟩; obtain rfl := hw.symm; clear CA) | (go_at_call 19; refine (CB _).mono ?_; rintro e w' ⟨rfl, hw⟩; obtain rfl := hw.symm; clear CB) | (go_at_call 19; refine (CC _).mono ?_; rintro e w' ⟨rfl, hw⟩; obtain rfl := hw.symm; clear CC) | (go_at_call 41; refine (CP _).mono ?_; rintro e w' ⟨rfl, hw⟩; obtain rfl := hw.symm; clear CP))
    exact bodyPost_ret (v := tkV (some (tok0 7, 1))) (by simp [results, Tryd.results24, go_sem, tkV, tv, st, tok0] <;> rfl) rfl ⟨rfl, bxn _ _⟩
  | false =>
    rw [hb] at CP
    rw [if_neg (by simp)]
    go_enter Tryd.func24, Tryd.ntmps24
    go_wp2_with (first | (go_at_call 19; refine (CA _).mono ?_; rintro e w' ⟨rfl, hw⟩; obtain rfl := hw.symm; clear CA) | (go_at_call 19; refine (CB _).mono ?_; rintro e w' ⟨rfl, hw⟩; obtain rfl := hw.symm; clear CB) | (go_at_call 19; refine (CC _).mono ?_; rintro e w' ⟨rfl, hw⟩; obtain rfl := hw.symm; clear CC) | (go_at_call 41; refine (CP _).mono ?_; rintro e w' ⟨rfl, hw⟩; obtain rfl := hw.symm; clear CP))
    exact bodyPost_ret (v := tkV none) (by simp [results, Tryd.results24, go_sem, tkV, tv, st, tok0] <;> rfl) rfl ⟨rfl, bxn _ _⟩
set_option maxHeartbeats 2000000 in
theorem tpred_any (s : ByteArray) (m : Nat) (w : World) (hs : s.size ≤ 1000000) (hm : m ≤ 2) :
    Calls Tryd.prog 26 #[.string s, .int .i64 m] w fun e w' => e = .returned (tkV (prFrom s.data.toList m 6 0)) ∧ Below w.heap.size w w' := by
  obtain ⟨A, hA⟩ : ∃ A, A = prFrom s.data.toList m 6 0 := ⟨_, rfl⟩
  rw [← hA]
  have HA : Hid (prFrom s.data.toList m 6 0 = A) := hA.symm
  clear hA
  go_enter Tryd.func26, Tryd.ntmps26
  go_wp2
  go_loop [6] (fun v => ∃ k : Nat, v = .int .u8 k ∧ k ≤ 6 ∧ prFrom s.data.toList m (6 - k) k = A) (fun v => (6 - intOf v).toNat)
  case atStart => exact ⟨0, rfl, by omega, HA.out⟩
  case round =>
    obtain ⟨k, rfl, hk, hr⟩ := hrel
    have HR : Hid (prFrom s.data.toList m (6 - k) k = A) := hr
    clear hr HA
    by_cases h7 : k < 6
    · have h6 : (k : Int) ≤ 5 := by omega
      have CM := fun W => sign_any13 (k : Int) W
      rw [sgn_st] at CM
      have CP := fun W => hp_any s (st (sgnL k)) W hs (by rw [st_size]; have := sgn_len k; omega)
      rw [st_list] at CP
      have hz := st_size (sgnL k)
      have hz3 := sgn_len k
      have hst := pr_step s.data.toList m k h7
      by_cases hl : (sgnL k).length = m
      · have hlz : (((st (sgnL k)).size : Int) == (m : Int)) = true := by rw [hz, hl]; simp
        cases hb : preB (sgnL k) s.data.toList with
        | true =>
          rw [hb] at CP hst
          have HE : Hid (A = some (tokP k, m)) := by show _ = _; rw [← HR.out, hst, if_pos ⟨hl, rfl⟩]
          generalize st (sgnL k) = g at *
          clear HR hst hb hl hz hz3
          go_wp2_with (first | (go_at_call 17; refine (CM _).mono ?_; rintro e w' ⟨rfl, hw⟩; obtain rfl := hw.symm; clear CM) | (go_at_call 41; refine (CP _).mono ?_; rintro e w' ⟨rfl, hw⟩; obtain rfl := hw.symm; clear CP))
          exact bodyPost_ret (v := tkV (some (tokP k, m))) (by simp [results, Tryd.results26, go_sem, tkV, tv, st, tokP] <;> rfl) rfl ⟨by rw [HE.out], bxn _ _⟩
        | false =>
          rw [hb] at CP hst
          have HE : Hid (prFrom s.data.toList m (6 - (k + 1)) (k + 1) = A) := by show _ = _; rw [← HR.out, hst, if_neg (by rintro ⟨_, h⟩; cases h)]
          generalize st (sgnL k) = g at *
          clear HR hst hb hl hz hz3
          go_wp2_with (first | (go_at_call 17; refine (CM _).mono ?_; rintro e w' ⟨rfl, hw⟩; obtain rfl := hw.symm; clear CM) | (go_at_call 41; refine (CP _).mono ?_; rintro e w' ⟨rfl, hw⟩; obtain rfl := hw.symm; clear CP))
          go_round
          case rel => exact ⟨k + 1, by simp, by omega, HE.out⟩
          case measure => simp [intOf]; omega
      · have hlz : (((st (sgnL k)).size : Int) == (m : Int)) = false := by rw [hz, beq_eq_false_iff_ne]; omega
        have HE : Hid (prFrom s.data.toList m (6 - (k + 1)) (k + 1) = A) := by show _ = _; rw [← HR.out, hst, if_neg (by rintro ⟨h, _⟩; exact hl h)]
        generalize st (sgnL k) = g at *
        clear HR hst hl hz hz3
        go_wp2_with (first | (go_at_call 17; refine (CM _).mono ?_; rintro e w' ⟨rfl, hw⟩; obtain rfl := hw.symm; clear CM) | (go_at_call 41; refine (CP _).mono ?_; rintro e w' ⟨rfl, hw⟩; obtain rfl := hw.symm; clear CP))
        go_round
        case rel => exact ⟨k + 1, by simp, by omega, HE.out⟩
        case measure => simp [intOf]; omega
    · obtain rfl : k = 6 := by omega
      have HE : Hid (A = none) := by show _ = _; rw [← HR.out]; rfl
      clear HR
      go_wp2
      exact bodyPost_ret (v := tkV none) (by simp [results, Tryd.results26, go_sem, tkV, tv, st, tok0] <;> rfl) rfl ⟨by rw [HE.out], bxn _ _⟩
end Go.Proofs.YtglimefhiggdeaaDoor
