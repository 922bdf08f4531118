/- White, as the document has it: contract of a single call. -/
import Derived.Test.YtglimefhiggdeaaDoorTv
import Derived.Deep.LoopGhost
namespace Go.Proofs.YtglimefhiggdeaaDoor
open Go.RowKit
set_option linter.unusedVariables false
set_option linter.unusedSimpArgs false
set_option maxRecDepth 20000

theorem ret_n {a b : Int} (h : a = b) : Ending.returned (.int .i64 a) = .returned (.int .i64 b) := by rw [h]
theorem getD_drop (l : List UInt8) (n : Nat) : (l.drop n).getD 0 0 = l.getD n 0 := by
  rw [List.getD_eq_getElem?_getD, List.getD_eq_getElem?_getD, List.getElem?_drop, Nat.add_zero]
theorem drop_ne {l : List UInt8} {n : Nat} (h : n < l.length) : l.drop n ≠ [] := fun e => by
  have := congrArg List.length e; rw [List.length_drop] at this; simp at this; omega
theorem drop_hd {l : List UInt8} {n : Nat} (h : n < l.length) : l.drop n = l.getD n 0 :: l.drop (n + 1) := by
  rw [List.drop_eq_getElem_cons h, List.getD_eq_getElem?_getD, List.getElem?_eq_getElem h]; rfl
theorem cm_at {l : List UInt8} {n : Nat} (h : n < l.length) : cmN (l.drop n) = if l.getD n 0 = 10 then 0 else 1 + cmN (l.drop (n + 1)) := by
  rw [drop_hd h]
  unfold cmN
  rw [List.takeWhile_cons]
  by_cases hc : l.getD n 0 = 10
  · rw [if_pos hc, hc]; simp
  · rw [if_neg hc, if_pos (by simpa using hc)]; simp; omega
theorem cm_end {l : List UInt8} {n : Nat} (h : l.length ≤ n) : cmN (l.drop n) = 0 := by rw [List.drop_eq_nil_of_le h]; rfl
theorem wh_at {l : List UInt8} {n : Nat} (h : n < l.length) : whN (l.drop n) = if isW (l.getD n 0) = true then 1 + whN (l.drop (n + 1)) else if l.getD n 0 = 59 then cmN (l.drop n) + whN (l.drop (n + cmN (l.drop n))) else 0 := by
  rw [wh_step _ (drop_ne h), getD_drop, List.drop_drop, List.drop_drop]
theorem isW_of {b : UInt8} (h : isW b = true) : b = 32 ∨ b = 9 ∨ b = 10 ∨ b = 13 := by
  unfold isW at h
  simp only [Bool.or_eq_true, beq_iff_eq] at h
  rcases h with ((h | h) | h) | h
  · exact .inl h
  · exact .inr (.inl h)
  · exact .inr (.inr (.inl h))
  · exact .inr (.inr (.inr h))
theorem notW_of {b : UInt8} (h : ¬ isW b = true) : ¬ b.toNat = 32 ∧ ¬ b.toNat = 9 ∧ ¬ b.toNat = 10 ∧ ¬ b.toNat = 13 := by
  unfold isW at h
  simp only [Bool.or_eq_true, beq_iff_eq, not_or] at h
  refine ⟨?_, ?_, ?_, ?_⟩ <;> intro e
  · exact h.1.1.1 (UInt8.toNat_inj.1 e)
  · exact h.1.1.2 (UInt8.toNat_inj.1 e)
  · exact h.1.2 (UInt8.toNat_inj.1 e)
  · exact h.2 (UInt8.toNat_inj.1 e)

set_option maxHeartbeats 1000000 in
theorem rwhite_any (s : ByteArray) (w : World) (hs : s.size ≤ 1000000) :
    Calls Tryd.prog 15 #[.string s] w fun e w' => e = .returned (.int .i64 (whN s.data.toList)) ∧ w' = w := by
  obtain ⟨A, hA⟩ : ∃ A, A = whN s.data.toList := ⟨_, rfl⟩
  rw [← hA]
  have HA : Hid (A = whN s.data.toList) := hA
  clear hA
  go_enter Tryd.func15, Tryd.ntmps15
  go_wp2
  go_loop [3] (fun v => ∃ n : Nat, v = .int .i64 n ∧ n ≤ s.size ∧ n + whN (s.data.toList.drop n) = A) (fun v => (s.size - intOf v).toNat)
  case atStart => exact ⟨0, rfl, Nat.zero_le _, by rw [HA.out]; simp⟩
  case round =>
    obtain ⟨n, rfl, hn, hr⟩ := hrel
    have HR : Hid (n + whN (s.data.toList.drop n) = A) := hr
    clear hr HA
    by_cases hp : n < s.size
    · have hpz : (n : Int) < s.size := by omega
      have hg := get_at s n hp
      have hl : n < s.data.toList.length := by rw [lenL]; exact hp
      have HW := wh_at hl
      have HC : Hid (n + cmN (s.data.toList.drop n) ≤ s.size) := by
        show _ ≤ _
        have h1 : cmN (s.data.toList.drop n) ≤ (s.data.toList.drop n).length := List.Sublist.length_le (List.takeWhile_sublist _)
        rw [List.length_drop, lenL] at h1
        omega
      generalize hb : s.data.toList.getD n 0 = b at hg HW
      by_cases hw : isW b = true
      · rw [if_pos hw] at HW
        have HX : Hid (n + 1 + whN (s.data.toList.drop (n + 1)) = A) := by show _ = _; rw [← HR.out, HW]; omega
        clear HW
        rcases isW_of hw with rfl | rfl | rfl | rfl
        all_goals
         clear hw hb HR HC
         go_wp2
         go_round
         case rel => exact ⟨n + 1, by simp, by omega, HX.out⟩
         case measure => simp [intOf]; omega
      · rw [if_neg hw] at HW
        obtain ⟨n1, n2, n3, n4⟩ := notW_of hw
        have m1 : ((b.toNat : Int) == 32) = false := by rw [beq_eq_false_iff_ne]; omega
        have m2 : ((b.toNat : Int) == 9) = false := by rw [beq_eq_false_iff_ne]; omega
        have m3 : ((b.toNat : Int) == 10) = false := by rw [beq_eq_false_iff_ne]; omega
        have m4 : ((b.toNat : Int) == 13) = false := by rw [beq_eq_false_iff_ne]; omega
        by_cases h59 : b = 59
        · rw [if_pos h59] at HW
          have hc1 : 1 ≤ cmN (s.data.toList.drop n) := (cm_pos (by rw [getD_drop, hb, h59])).1
          obtain ⟨K, hK⟩ : ∃ K, K = n + cmN (s.data.toList.drop n) := ⟨_, rfl⟩
          have HX : Hid (K + whN (s.data.toList.drop K) = A) := by show _ = _; rw [← HR.out, HW, hK]; omega
          have HK : Hid (n + cmN (s.data.toList.drop n) = K) := hK.symm
          have HL : Hid (K ≤ s.size ∧ n < K) := ⟨by rw [hK]; exact HC.out, by rw [hK]; omega⟩
          subst h59
          clear HW hb hw HR HC hK hc1 n1 n2 n3 n4
          go_wp2
          go_loop [3] (fun v => ∃ m : Nat, v = .int .i64 m ∧ m ≤ s.size ∧ m + cmN (s.data.toList.drop m) = K) (fun v => (s.size - intOf v).toNat)
          case atStart => exact ⟨n, rfl, hn, HK.out⟩
          case round =>
            obtain ⟨m, rfl, hm, hmr⟩ := hrel
            have HM : Hid (m + cmN (s.data.toList.drop m) = K) := hmr
            clear hmr HK
            by_cases hq : m < s.size
            · have hqz : (m : Int) < s.size := by omega
              have hgm := get_at s m hq
              have HY := cm_at (l := s.data.toList) (n := m) (by rw [lenL]; exact hq)
              generalize hbm : s.data.toList.getD m 0 = c at hgm HY
              by_cases h10 : c = 10
              · rw [if_pos h10] at HY
                have HE : Hid (m = K) := by show _ = _; have := HM.out; omega
                subst h10
                clear HY HM hbm
                go_wp2
                go_round
                case rel => exact ⟨m, rfl, hm, by rw [HE.out]; exact HX.out⟩
                case measure => simp [intOf]; have := HL.out; have := HE.out; omega
              · rw [if_neg h10] at HY
                have HE : Hid (m + 1 + cmN (s.data.toList.drop (m + 1)) = K) := by show _ = _; have := HM.out; omega
                have mc : ((c.toNat : Int) == 10) = false := by
                  rw [beq_eq_false_iff_ne]
                  intro e
                  exact h10 (UInt8.toNat_inj.1 (by simp; omega))
                clear HY HM hbm h10
                go_wp2
                go_round
                case rel => exact ⟨m + 1, by simp, by omega, HE.out⟩
                case measure => simp [intOf]; omega
            · have hqz : ¬ (m : Int) < s.size := by omega
              have HE : Hid (m = K) := by show _ = _; have := HM.out; rw [cm_end (by rw [lenL]; omega)] at this; omega
              clear HM
              go_wp2
              go_round
              case rel => exact ⟨m, rfl, hm, by rw [HE.out]; exact HX.out⟩
              case measure => simp [intOf]; have := HL.out; have := HE.out; omega
        · rw [if_neg h59] at HW
          have HE : Hid (A = n) := by show _ = _; rw [← HR.out, HW]; omega
          have m5 : ((b.toNat : Int) == 59) = false := by
            rw [beq_eq_false_iff_ne]
            intro e
            exact h59 (UInt8.toNat_inj.1 (by simp; omega))
          clear HW hb hw h59 HR HC n1 n2 n3 n4
          go_wp2
          go_ret
          exact ⟨ret_n (by rw [HE.out]), rfl⟩
    · have hpz : ¬ (n : Int) < s.size := by omega
      have HE : Hid (A = n) := by show _ = _; rw [← HR.out, List.drop_eq_nil_of_le (by rw [lenL]; omega)]; rfl
      clear HR
      go_wp2
      go_ret
      exact ⟨ret_n (by rw [HE.out]), rfl⟩
end Go.Proofs.YtglimefhiggdeaaDoor
