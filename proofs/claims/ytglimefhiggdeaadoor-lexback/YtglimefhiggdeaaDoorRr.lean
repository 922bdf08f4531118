/- The document's run: contract of a single call. -/
import Derived.Test.YtglimefhiggdeaaDoorRf
import Derived.Test.YtglimefhiggdeaaDoorWf
namespace Go.Proofs.YtglimefhiggdeaaDoor
open Go.RowKit
set_option linter.unusedVariables false
set_option linter.unusedSimpArgs false
set_option maxRecDepth 20000

theorem ret_bs {a b : ByteArray} (h : a = b) : Ending.returned (.string a) = .returned (.string b) := by rw [h]
theorem run_at {l : List UInt8} {n : Nat} (h : n < l.length) (hb : badR (l.drop n) = false) (hs : stands (Lib.decodeL (l.drop n)).1 = true) : runN (l.drop n) = (Lib.decodeL (l.drop n)).2 + runN (l.drop (n + (Lib.decodeL (l.drop n)).2)) := by
  rw [runN_step (drop_ne h) hb hs, List.drop_drop]
set_option maxHeartbeats 1000000 in
theorem rrun_any (s : ByteArray) (w : World) (hs : s.size ≤ 1000000) :
    Calls Tryd.prog 33 #[.string s] w fun e w' => e = .returned (.string (s.extract 0 (runN s.data.toList))) ∧ w' = w := by
  obtain ⟨A, hA⟩ : ∃ A, A = runN s.data.toList := ⟨_, rfl⟩
  rw [← hA]
  have HA : Hid (A = runN s.data.toList) := hA
  clear hA
  go_enter Tryd.func33, Tryd.ntmps33
  go_wp2
  go_loop [3] (fun v => ∃ n : Nat, v = .int .i64 n ∧ n ≤ s.size ∧ n + runN (s.data.toList.drop n) = A) (fun v => (s.size - intOf v).toNat)
  case atStart => exact ⟨0, rfl, Nat.zero_le _, by rw [HA.out]; simp⟩
  case round =>
    obtain ⟨n, rfl, hn, hr⟩ := hrel
    have HR : Hid (n + runN (s.data.toList.drop n) = A) := hr
    clear hr HA
    have hnz : (n : Int) ≤ s.size := by omega
    by_cases hp : n < s.size
    · have hpz : (n : Int) < s.size := by omega
      have hl : n < s.data.toList.length := by rw [lenL]; exact hp
      obtain ⟨t, ht⟩ : ∃ t, s.extract n s.size = t := ⟨_, rfl⟩
      have HL : Hid (t.data.toList = s.data.toList.drop n) := by show _ = _; rw [← ht, ext_list]
      have hz' : t.size + n = s.size := by rw [← lenL t, HL.out, List.length_drop, lenL]; omega
      have CR := rune_any t w (by omega) (by omega)
      unfold rn runeR at CR
      have hw1 := Lib.decodeL_width t.data.toList
      have hwl := dl_le t.data.toList (by rw [HL.out]; exact drop_ne hl)
      rw [lenL] at hwl
      by_cases hb : badR t.data.toList = true
      · rw [hb, if_pos rfl] at CR
        have HE : Hid (A = n) := by show _ = _; rw [← HR.out, runN_stop (.inl (by rw [← HL.out]; exact hb))]; rfl
        clear HR hb HL hw1 hwl
        go_wp2_with (first | (go_at_call 45; refine CR.mono ?_; rintro e w' ⟨rfl, hw⟩; obtain rfl := hw.symm; clear CR))
        go_ret
        exact ⟨ret_bs (by rw [HE.out]), rfl⟩
      · have hbf : badR t.data.toList = false := by simpa using hb
        rw [hbf, if_neg (by simp)] at CR
        have CI := inw_any (Lib.decodeL t.data.toList).1 w
        by_cases hst : stands (Lib.decodeL t.data.toList).1 = true
        · rw [hst] at CI
          have HX : Hid (n + (Lib.decodeL t.data.toList).2 + runN (s.data.toList.drop (n + (Lib.decodeL t.data.toList).2)) = A) := by
            show _ = _
            have := run_at hl (by rw [← HL.out]; exact hbf) (by rw [← HL.out]; exact hst)
            rw [← HL.out] at this
            rw [← HR.out, ← HL.out, this]; omega
          clear hb hbf hst HL HR
          generalize (Lib.decodeL t.data.toList).1 = c at *
          generalize (Lib.decodeL t.data.toList).2 = k at *
          have hk0 : ((k : Int) == 0) = false := by rw [beq_eq_false_iff_ne]; omega
          go_wp2_with (first | (go_at_call 45; refine CR.mono ?_; rintro e w' ⟨rfl, hw⟩; obtain rfl := hw.symm; clear CR) | (go_at_call 46; refine CI.mono ?_; rintro e w' ⟨rfl, hw⟩; obtain rfl := hw.symm; clear CI))
          go_round
          case rel => exact ⟨n + k, by simp, by omega, HX.out⟩
          case measure => simp [intOf]; omega
        · have hsf : stands (Lib.decodeL t.data.toList).1 = false := by simpa using hst
          rw [hsf] at CI
          have HE : Hid (A = n) := by show _ = _; rw [← HR.out, runN_stop (.inr (by rw [← HL.out]; exact hsf))]; rfl
          clear hb hbf hst hsf HL HR
          generalize (Lib.decodeL t.data.toList).1 = c at *
          generalize (Lib.decodeL t.data.toList).2 = k at *
          have hk0 : ((k : Int) == 0) = false := by rw [beq_eq_false_iff_ne]; omega
          go_wp2_with (first | (go_at_call 45; refine CR.mono ?_; rintro e w' ⟨rfl, hw⟩; obtain rfl := hw.symm; clear CR) | (go_at_call 46; refine CI.mono ?_; rintro e w' ⟨rfl, hw⟩; obtain rfl := hw.symm; clear CI))
          go_ret
          exact ⟨ret_bs (by rw [HE.out]), rfl⟩
    · have hpz : ¬ (n : Int) < s.size := by omega
      have HE : Hid (A = n) := by show _ = _; rw [← HR.out, List.drop_eq_nil_of_le (by rw [lenL]; omega)]; rfl
      clear HR
      go_wp2
      go_ret
      exact ⟨ret_bs (by rw [HE.out]), rfl⟩
end Go.Proofs.YtglimefhiggdeaaDoor
