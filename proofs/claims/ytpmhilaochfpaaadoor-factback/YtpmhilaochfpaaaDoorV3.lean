import Derived.Test.YtpmhilaochfpaaaDoorV2
import Derived.Test.YtpmhilaochfpaaaDoorRows
import Derived.WalkSpells
import Derived.WalkLawsBesides
import Derived.Laws.AppendOwnNone
import Derived.Lib.AppendStr
import Derived.Laws.BytesArg
import Derived.WalkKit
import Derived.Lib.OthersKept
import Derived.Lib.TrimUEq
namespace Go.Proofs.YtpmhilaochfpaaaDoor
set_option maxRecDepth 20000
set_option maxRecDepth 20000
set_option maxRecDepth 20000
set_option maxRecDepth 20000
set_option maxRecDepth 20000
open Go.RowKit
set_option linter.unusedVariables false
set_option linter.unusedSimpArgs false
set_option maxRecDepth 20000
theorem ret_bool {a b : Bool} (h : a = b) : Ending.returned (.bool a) = .returned (.bool b) := by rw [h]
def digI (r : Int) : Bool := decide (48 ≤ r ∧ r ≤ 57)
set_option maxHeartbeats 400000 in
theorem isdig_any (r : Int) (w : World) : Calls Tryd.prog 68 #[.int .i32 r] w fun e w' => e = .returned (.bool (digI r)) ∧ w' = w := by
  unfold digI
  by_cases h1 : 48 ≤ r
  · have h1' : decide (48 ≤ r) = true := decide_eq_true h1
    go_enter Tryd.func68, Tryd.ntmps68
    go_wp2
    go_ret
    exact ⟨ret_bool (by simp [h1]), rfl⟩
  · have h1' : decide (48 ≤ r) = false := decide_eq_false h1
    go_enter Tryd.func68, Tryd.ntmps68
    go_wp2
    go_ret
    exact ⟨ret_bool (by simp [h1]), rfl⟩
def inB (n : Int) : Bool := decide (-1099511627776 ≤ n ∧ n ≤ 1099511627776)
set_option maxHeartbeats 400000 in
theorem inr_any (n : Int) (w : World) : Calls Tryd.prog 48 #[.int .i64 n] w fun e w' => e = .returned (.bool (inB n)) ∧ w' = w := by
  unfold inB
  by_cases h1 : -1099511627776 ≤ n
  · have h1' : decide (-1099511627776 ≤ n) = true := decide_eq_true h1
    go_enter Tryd.func48, Tryd.ntmps48
    go_wp2
    go_ret
    exact ⟨ret_bool (by simp [h1]), rfl⟩
  · have h1' : decide (-1099511627776 ≤ n) = false := decide_eq_false h1
    go_enter Tryd.func48, Tryd.ntmps48
    go_wp2
    go_ret
    exact ⟨ret_bool (by simp [h1]), rfl⟩
set_option maxHeartbeats 1000000 in
theorem may_any (c : Nat) (w : World) : Calls Tryd.prog 67 #[.int .i32 c] w fun e w' => e = .returned (.bool (stands c)) ∧ w' = w := by
  go_enter Tryd.func67, Tryd.ntmps67
  go_wp2_with (go_at_call 68; refine (isdig_any _ _).mono ?_; rintro e w' ⟨rfl, hw⟩; obtain rfl := hw.symm)
  all_goals go_ret
  all_goals refine ⟨ret_bool ?_, rfl⟩
  all_goals (simp only [beq_iff_eq, beq_eq_false_iff_ne, ne_eq, digI, decide_eq_true_eq, Bool.not_eq_true, decide_eq_false_iff_not] at *; unfold stands)
  all_goals first | (refine (decide_eq_true ?_).symm; omega) | (refine (decide_eq_false ?_).symm; omega) | (rw [decide_eq_decide]; omega) | (rw [Bool.eq_iff_iff]; simp only [Bool.or_eq_true, decide_eq_true_eq]; omega)

theorem get_at (s : ByteArray) (i : Nat) (h : i < s.size) : s[i] = s.data.toList.getD i 0 := by
  show s.data[i] = _
  rw [← Array.getElem_toList]
  simp [List.getD, h]
theorem lenL (s : ByteArray) : s.data.toList.length = s.size := by simp
theorem byte_lt (l : List UInt8) (i : Nat) : (l.getD i 0).toNat < 256 := UInt8.toNat_lt _
def rn (l : List UInt8) : Value := .tuple #[.int .i64 (runeR l).1, .int .i64 (runeR l).2]
theorem rn_bad {l : List UInt8} (h : Lib.decodeL l = (65533, 1)) : runeR l = (0, 0) := by unfold runeR badR; rw [h]; rfl
theorem rn_ok {l : List UInt8} {c n : Nat} (h : Lib.decodeL l = (c, n)) (hn : n ≠ 1 ∨ c < 128) : runeR l = (c, n) := by
  unfold runeR badR; rw [h]; rw [if_neg]
  simp; omega
set_option maxHeartbeats 1000000 in
theorem rune1 (s : ByteArray) (w : World) (hs : 0 < s.size) (hm : s.size ≤ 1000000) (h : (s.data.toList.getD 0 0).toNat < 128) :
    Calls Tryd.prog 60 #[.string s] w fun e w' => e = .returned (rn s.data.toList) ∧ w' = w := by
  have hd : runeR s.data.toList = ((s.data.toList.getD 0 0).toNat, 1) := rn_ok (by rw [Lib.decodeL_N]; exact rr1 _ _ _ _ _ h) (.inr h)
  have h0 := get_at s 0 hs
  unfold rn; rw [hd]
  generalize s.data.toList.getD 0 0 = b0 at *
  have h' : (b0.toNat : Int) < 128 := by omega
  have hz : (0 : Int) < s.size := by omega
  clear hd
  go_enter Tryd.func60, Tryd.ntmps60
  go_wp2
  go_ret2
  exact ⟨rfl, rfl⟩
theorem ret_rn {l : List UInt8} {c n : Nat} (h : runeR l = (c, n)) : Ending.returned (.tuple #[.int .i64 c, .int .i64 n]) = .returned (rn l) := by unfold rn; rw [h]
set_option maxHeartbeats 2000000 in
theorem rune2 (s : ByteArray) (w : World) (hs : 0 < s.size) (hm : s.size ≤ 1000000) (h : 194 ≤ (s.data.toList.getD 0 0).toNat) (h' : (s.data.toList.getD 0 0).toNat < 224) :
    Calls Tryd.prog 60 #[.string s] w fun e w' => e = .returned (rn s.data.toList) ∧ w' = w := by
  have hd := Lib.decodeL_N s.data.toList
  rw [rr2 _ _ _ _ _ h h' (byte_lt _ _), lenL] at hd
  have h0 := get_at s 0
  have h1 := get_at s 1
  generalize s.data.toList.getD 0 0 = b0 at hd h h' h0
  generalize s.data.toList.getD 1 0 = b1 at hd h h' h1
  have HB : Hid (s.size < 2 ∨ b1.toNat < 128 ∨ 191 < b1.toNat → Ending.returned (.tuple #[.int .i64 0, .int .i64 0]) = .returned (rn s.data.toList)) := fun hc => ret_rn (c := 0) (n := 0) (rn_bad (by rw [hd, if_pos (by omega)]))
  have HG : Hid (¬ (s.size < 2 ∨ b1.toNat < 128 ∨ 191 < b1.toNat) → ∀ x : Int, x = ((64 * (b0.toNat - 192) + (b1.toNat - 128)) : Nat) → Ending.returned (.tuple #[.int .i64 x, .int .i64 2]) = .returned (rn s.data.toList)) := fun hc x hx => by rw [hx]; exact ret_rn (n := 2) (rn_ok (by rw [hd, if_neg (by omega)]) (.inl (by decide)))
  have hz : (0 : Int) < s.size := by omega
  have h0' := h0 hs
  have u1 : (194 : Int) ≤ b0.toNat := by omega
  have u2 : (b0.toNat : Int) < 224 := by omega
  clear hd h0
  generalize rn s.data.toList = rv at *
  by_cases hn : s.size < 2
  · have hn' : (s.size : Int) < 2 := by omega
    clear h1
    go_enter Tryd.func60, Tryd.ntmps60
    go_wp2
    go_ret2
    exact ⟨HB.out (.inl hn), rfl⟩
  · have hn' : (2 : Int) ≤ s.size := by omega
    have h1' := h1 (by omega)
    have v1 : (b1.toNat : Int) < 256 := by have := UInt8.toNat_lt b1; omega
    have z1 : (1 : Int) < s.size := by omega
    clear h1
    go_enter Tryd.func60, Tryd.ntmps60
    go_wp2
    go_loop [5, 7] (fun c i => (i = .int .i64 1 ∧ c = .int .i64 ((b0.toNat : Int) - 192)) ∨ (i = .int .i64 2 ∧ 128 ≤ b1.toNat ∧ b1.toNat ≤ 191 ∧ c = .int .i64 (64 * ((b0.toNat : Int) - 192) + (b1.toNat : Int) - 128))) (fun c i => (2 - intOf i).toNat)
    case atStart => exact .inl ⟨rfl, rfl⟩
    case round =>
      rcases hrel with ⟨rfl, rfl⟩ | ⟨rfl, p1, q1, rfl⟩
      · go_wp2
        all_goals first
          | (go_ret2; exact ⟨HB.out (by omega), rfl⟩)
          | (go_round
             case rel => exact .inr (⟨rfl, by omega, by omega, rfl⟩)
             case measure => simp [intOf])
      · go_wp2
        all_goals go_ret2
        all_goals first
          | exact ⟨HG.out (by omega) _ (by omega), rfl⟩
          | exact ⟨HB.out (by omega), rfl⟩
set_option maxHeartbeats 2000000 in
theorem rune3 (s : ByteArray) (w : World) (hs : 0 < s.size) (hm : s.size ≤ 1000000) (h : 224 ≤ (s.data.toList.getD 0 0).toNat) (h' : (s.data.toList.getD 0 0).toNat < 240) :
    Calls Tryd.prog 60 #[.string s] w fun e w' => e = .returned (rn s.data.toList) ∧ w' = w := by
  have hd := Lib.decodeL_N s.data.toList
  rw [rr3 _ _ _ _ _ h h' (byte_lt _ _) (byte_lt _ _), lenL] at hd
  have h0 := get_at s 0
  have h1 := get_at s 1
  have h2 := get_at s 2
  generalize s.data.toList.getD 0 0 = b0 at hd h h' h0
  generalize s.data.toList.getD 1 0 = b1 at hd h h' h1
  generalize s.data.toList.getD 2 0 = b2 at hd h h' h2
  have HB : Hid (s.size < 3 ∨ b1.toNat < 128 ∨ 191 < b1.toNat ∨ b2.toNat < 128 ∨ 191 < b2.toNat ∨ (64 * (64 * (b0.toNat - 224) + (b1.toNat - 128)) + (b2.toNat - 128)) < 2048 ∨ ((64 * (64 * (b0.toNat - 224) + (b1.toNat - 128)) + (b2.toNat - 128)) ≥ 55296 ∧ (64 * (64 * (b0.toNat - 224) + (b1.toNat - 128)) + (b2.toNat - 128)) < 57344) → Ending.returned (.tuple #[.int .i64 0, .int .i64 0]) = .returned (rn s.data.toList)) := fun hc => ret_rn (c := 0) (n := 0) (rn_bad (by rw [hd, if_pos (by omega)]))
  have HG : Hid (¬ (s.size < 3 ∨ b1.toNat < 128 ∨ 191 < b1.toNat ∨ b2.toNat < 128 ∨ 191 < b2.toNat ∨ (64 * (64 * (b0.toNat - 224) + (b1.toNat - 128)) + (b2.toNat - 128)) < 2048 ∨ ((64 * (64 * (b0.toNat - 224) + (b1.toNat - 128)) + (b2.toNat - 128)) ≥ 55296 ∧ (64 * (64 * (b0.toNat - 224) + (b1.toNat - 128)) + (b2.toNat - 128)) < 57344)) → ∀ x : Int, x = ((64 * (64 * (b0.toNat - 224) + (b1.toNat - 128)) + (b2.toNat - 128)) : Nat) → Ending.returned (.tuple #[.int .i64 x, .int .i64 3]) = .returned (rn s.data.toList)) := fun hc x hx => by rw [hx]; exact ret_rn (n := 3) (rn_ok (by rw [hd, if_neg (by omega)]) (.inl (by decide)))
  have hz : (0 : Int) < s.size := by omega
  have h0' := h0 hs
  have u1 : (224 : Int) ≤ b0.toNat := by omega
  have u2 : (b0.toNat : Int) < 240 := by omega
  clear hd h0
  generalize rn s.data.toList = rv at *
  by_cases hn : s.size < 3
  · have hn' : (s.size : Int) < 3 := by omega
    clear h1 h2
    go_enter Tryd.func60, Tryd.ntmps60
    go_wp2
    go_ret2
    exact ⟨HB.out (.inl hn), rfl⟩
  · have hn' : (3 : Int) ≤ s.size := by omega
    have h1' := h1 (by omega)
    have v1 : (b1.toNat : Int) < 256 := by have := UInt8.toNat_lt b1; omega
    have z1 : (1 : Int) < s.size := by omega
    have h2' := h2 (by omega)
    have v2 : (b2.toNat : Int) < 256 := by have := UInt8.toNat_lt b2; omega
    have z2 : (2 : Int) < s.size := by omega
    clear h1 h2
    go_enter Tryd.func60, Tryd.ntmps60
    go_wp2
    go_loop [5, 7] (fun c i => (i = .int .i64 1 ∧ c = .int .i64 ((b0.toNat : Int) - 224)) ∨ (i = .int .i64 2 ∧ 128 ≤ b1.toNat ∧ b1.toNat ≤ 191 ∧ c = .int .i64 (64 * ((b0.toNat : Int) - 224) + (b1.toNat : Int) - 128)) ∨ (i = .int .i64 3 ∧ 128 ≤ b1.toNat ∧ b1.toNat ≤ 191 ∧ 128 ≤ b2.toNat ∧ b2.toNat ≤ 191 ∧ c = .int .i64 (64 * (64 * ((b0.toNat : Int) - 224) + (b1.toNat : Int) - 128) + (b2.toNat : Int) - 128))) (fun c i => (3 - intOf i).toNat)
    case atStart => exact .inl ⟨rfl, rfl⟩
    case round =>
      rcases hrel with ⟨rfl, rfl⟩ | ⟨rfl, p1, q1, rfl⟩ | ⟨rfl, p1, q1, p2, q2, rfl⟩
      · go_wp2
        all_goals first
          | (go_ret2; exact ⟨HB.out (by omega), rfl⟩)
          | (go_round
             case rel => exact .inr (.inl ⟨rfl, by omega, by omega, rfl⟩)
             case measure => simp [intOf])
      · go_wp2
        all_goals first
          | (go_ret2; exact ⟨HB.out (by omega), rfl⟩)
          | (go_round
             case rel => exact .inr (.inr (⟨rfl, p1, q1, by omega, by omega, rfl⟩))
             case measure => simp [intOf])
      · go_wp2
        all_goals go_ret2
        all_goals first
          | exact ⟨HG.out (by omega) _ (by omega), rfl⟩
          | exact ⟨HB.out (by omega), rfl⟩
set_option maxHeartbeats 2000000 in
theorem rune4 (s : ByteArray) (w : World) (hs : 0 < s.size) (hm : s.size ≤ 1000000) (h : 240 ≤ (s.data.toList.getD 0 0).toNat) (h' : (s.data.toList.getD 0 0).toNat < 245) :
    Calls Tryd.prog 60 #[.string s] w fun e w' => e = .returned (rn s.data.toList) ∧ w' = w := by
  have hd := Lib.decodeL_N s.data.toList
  rw [rr4 _ _ _ _ _ h h' (byte_lt _ _) (byte_lt _ _) (byte_lt _ _), lenL] at hd
  have h0 := get_at s 0
  have h1 := get_at s 1
  have h2 := get_at s 2
  have h3 := get_at s 3
  generalize s.data.toList.getD 0 0 = b0 at hd h h' h0
  generalize s.data.toList.getD 1 0 = b1 at hd h h' h1
  generalize s.data.toList.getD 2 0 = b2 at hd h h' h2
  generalize s.data.toList.getD 3 0 = b3 at hd h h' h3
  have HB : Hid (s.size < 4 ∨ b1.toNat < 128 ∨ 191 < b1.toNat ∨ b2.toNat < 128 ∨ 191 < b2.toNat ∨ b3.toNat < 128 ∨ 191 < b3.toNat ∨ (64 * (64 * (64 * (b0.toNat - 240) + (b1.toNat - 128)) + (b2.toNat - 128)) + (b3.toNat - 128)) < 65536 ∨ 1114111 < (64 * (64 * (64 * (b0.toNat - 240) + (b1.toNat - 128)) + (b2.toNat - 128)) + (b3.toNat - 128)) → Ending.returned (.tuple #[.int .i64 0, .int .i64 0]) = .returned (rn s.data.toList)) := fun hc => ret_rn (c := 0) (n := 0) (rn_bad (by rw [hd, if_pos (by omega)]))
  have HG : Hid (¬ (s.size < 4 ∨ b1.toNat < 128 ∨ 191 < b1.toNat ∨ b2.toNat < 128 ∨ 191 < b2.toNat ∨ b3.toNat < 128 ∨ 191 < b3.toNat ∨ (64 * (64 * (64 * (b0.toNat - 240) + (b1.toNat - 128)) + (b2.toNat - 128)) + (b3.toNat - 128)) < 65536 ∨ 1114111 < (64 * (64 * (64 * (b0.toNat - 240) + (b1.toNat - 128)) + (b2.toNat - 128)) + (b3.toNat - 128))) → ∀ x : Int, x = ((64 * (64 * (64 * (b0.toNat - 240) + (b1.toNat - 128)) + (b2.toNat - 128)) + (b3.toNat - 128)) : Nat) → Ending.returned (.tuple #[.int .i64 x, .int .i64 4]) = .returned (rn s.data.toList)) := fun hc x hx => by rw [hx]; exact ret_rn (n := 4) (rn_ok (by rw [hd, if_neg (by omega)]) (.inl (by decide)))
  have hz : (0 : Int) < s.size := by omega
  have h0' := h0 hs
  have u1 : (240 : Int) ≤ b0.toNat := by omega
  have u2 : (b0.toNat : Int) < 245 := by omega
  clear hd h0
  generalize rn s.data.toList = rv at *
  by_cases hn : s.size < 4
  · have hn' : (s.size : Int) < 4 := by omega
    clear h1 h2 h3
    go_enter Tryd.func60, Tryd.ntmps60
    go_wp2
    go_ret2
    exact ⟨HB.out (.inl hn), rfl⟩
  · have hn' : (4 : Int) ≤ s.size := by omega
    have h1' := h1 (by omega)
    have v1 : (b1.toNat : Int) < 256 := by have := UInt8.toNat_lt b1; omega
    have z1 : (1 : Int) < s.size := by omega
    have h2' := h2 (by omega)
    have v2 : (b2.toNat : Int) < 256 := by have := UInt8.toNat_lt b2; omega
    have z2 : (2 : Int) < s.size := by omega
    have h3' := h3 (by omega)
    have v3 : (b3.toNat : Int) < 256 := by have := UInt8.toNat_lt b3; omega
    have z3 : (3 : Int) < s.size := by omega
    clear h1 h2 h3
    go_enter Tryd.func60, Tryd.ntmps60
    go_wp2
    go_loop [5, 7] (fun c i => (i = .int .i64 1 ∧ c = .int .i64 ((b0.toNat : Int) - 240)) ∨ (i = .int .i64 2 ∧ 128 ≤ b1.toNat ∧ b1.toNat ≤ 191 ∧ c = .int .i64 (64 * ((b0.toNat : Int) - 240) + (b1.toNat : Int) - 128)) ∨ (i = .int .i64 3 ∧ 128 ≤ b1.toNat ∧ b1.toNat ≤ 191 ∧ 128 ≤ b2.toNat ∧ b2.toNat ≤ 191 ∧ c = .int .i64 (64 * (64 * ((b0.toNat : Int) - 240) + (b1.toNat : Int) - 128) + (b2.toNat : Int) - 128)) ∨ (i = .int .i64 4 ∧ 128 ≤ b1.toNat ∧ b1.toNat ≤ 191 ∧ 128 ≤ b2.toNat ∧ b2.toNat ≤ 191 ∧ 128 ≤ b3.toNat ∧ b3.toNat ≤ 191 ∧ c = .int .i64 (64 * (64 * (64 * ((b0.toNat : Int) - 240) + (b1.toNat : Int) - 128) + (b2.toNat : Int) - 128) + (b3.toNat : Int) - 128))) (fun c i => (4 - intOf i).toNat)
    case atStart => exact .inl ⟨rfl, rfl⟩
    case round =>
      rcases hrel with ⟨rfl, rfl⟩ | ⟨rfl, p1, q1, rfl⟩ | ⟨rfl, p1, q1, p2, q2, rfl⟩ | ⟨rfl, p1, q1, p2, q2, p3, q3, rfl⟩
      · go_wp2
        all_goals first
          | (go_ret2; exact ⟨HB.out (by omega), rfl⟩)
          | (go_round
             case rel => exact .inr (.inl ⟨rfl, by omega, by omega, rfl⟩)
             case measure => simp [intOf])
      · go_wp2
        all_goals first
          | (go_ret2; exact ⟨HB.out (by omega), rfl⟩)
          | (go_round
             case rel => exact .inr (.inr (.inl ⟨rfl, p1, q1, by omega, by omega, rfl⟩))
             case measure => simp [intOf])
      · go_wp2
        all_goals first
          | (go_ret2; exact ⟨HB.out (by omega), rfl⟩)
          | (go_round
             case rel => exact .inr (.inr (.inr (⟨rfl, p1, q1, p2, q2, by omega, by omega, rfl⟩)))
             case measure => simp [intOf])
      · go_wp2
        all_goals go_ret2
        all_goals first
          | exact ⟨HG.out (by omega) _ (by omega), rfl⟩
          | exact ⟨HB.out (by omega), rfl⟩
set_option maxHeartbeats 1000000 in
theorem rune0 (s : ByteArray) (w : World) (hs : 0 < s.size) (hm : s.size ≤ 1000000) (h : 128 ≤ (s.data.toList.getD 0 0).toNat) (h' : (s.data.toList.getD 0 0).toNat < 194 ∨ 245 ≤ (s.data.toList.getD 0 0).toNat) :
    Calls Tryd.prog 60 #[.string s] w fun e w' => e = .returned (rn s.data.toList) ∧ w' = w := by
  have hd : runeR s.data.toList = (0, 0) := rn_bad (by rw [Lib.decodeL_N]; exact rr0 _ _ _ _ _ h h' (byte_lt _ _))
  have h0 := get_at s 0 hs
  unfold rn; rw [hd]
  have hlt := byte_lt s.data.toList 0
  generalize s.data.toList.getD 0 0 = b0 at *
  have u0 : ¬ (b0.toNat : Int) < 128 := by omega
  have hz : (0 : Int) < s.size := by omega
  clear hd
  rcases h' with h' | h'
  · have u1 : (b0.toNat : Int) < 194 := by omega
    go_enter Tryd.func60, Tryd.ntmps60
    go_wp2
    go_ret2
    exact ⟨rfl, rfl⟩
  · have u1 : (245 : Int) ≤ b0.toNat := by omega
    go_enter Tryd.func60, Tryd.ntmps60
    go_wp2
    go_ret2
    exact ⟨rfl, rfl⟩
theorem rune_any (s : ByteArray) (w : World) (hs : 0 < s.size) (hm : s.size ≤ 1000000) :
    Calls Tryd.prog 60 #[.string s] w fun e w' => e = .returned (rn s.data.toList) ∧ w' = w := by
  by_cases h1 : (s.data.toList.getD 0 0).toNat < 128
  · exact rune1 s w hs hm h1
  · by_cases h2 : (s.data.toList.getD 0 0).toNat < 194 ∨ 245 ≤ (s.data.toList.getD 0 0).toNat
    · exact rune0 s w hs hm (by omega) h2
    · by_cases h3 : (s.data.toList.getD 0 0).toNat < 224
      · exact rune2 s w hs hm (by omega) h3
      · by_cases h4 : (s.data.toList.getD 0 0).toNat < 240
        · exact rune3 s w hs hm (by omega) h4
        · exact rune4 s w hs hm (by omega) (by omega)
end Go.Proofs.YtpmhilaochfpaaaDoor
