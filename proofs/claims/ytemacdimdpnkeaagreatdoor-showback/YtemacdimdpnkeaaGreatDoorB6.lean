import Derived.Test.YtemacdimdpnkeaaGreatDoorB2
import Derived.Test.YtemacdimdpnkeaaGreatDoorB4
import Derived.Deep.QuietTactic
import Derived.BigQuiet
namespace Go.Proofs.YtemacdimdpnkeaaGreatDoor
set_option maxRecDepth 20000
open Go.RowKit
set_option linter.unusedVariables false
set_option linter.unusedSimpArgs false
def st (l : List UInt8) : ByteArray := ⟨l.toArray⟩
theorem st_list (l : List UInt8) : (st l).data.toList = l := by simp [st]
theorem st_of (s : ByteArray) : st s.data.toList = s := by cases s; simp [st]
theorem st_size (l : List UInt8) : (st l).size = l.length := by rw [← lenL, st_list]
def tv (t : Tk) (at_ : Int) : Value := .agg #[.int .u8 t.k, .string (st t.nm), .int .u8 t.p, .int .u8 t.vk, .int .i64 t.vn, .string (st t.vs), .int .i64 at_]
def tkV (x : Option (Tk × Nat)) : Value := match x with
  | some (t, n) => .tuple #[tv t 0, .int .i64 n]
  | none => .tuple #[tv (tok0 0) 0, .int .i64 0]
theorem take_list (s : ByteArray) (n : Nat) : (s.extract 0 n).data.toList = s.data.toList.take n := by
  rw [Lib.extract_data]; simp
theorem eq_list (a b : ByteArray) : (a.toList == b.toList) = decide (a.data.toList = b.data.toList) := by
  rw [Go.ByteArray.toList_eq, Go.ByteArray.toList_eq, Bool.eq_iff_iff, beq_iff_eq, decide_eq_true_eq]
set_option maxHeartbeats 1000000 in
theorem hpl_any (s p : ByteArray) (w : World) (hs : s.size ≤ 1000000) (hp : p.size ≤ 1000000) :
    Calls Tryz.prog 93 #[.string s, .string p] w fun e w' => e = .returned (.bool (preB p.data.toList s.data.toList)) ∧ w' = w := by
  by_cases h : s.size < p.size
  · have hz : ¬ (p.size : Int) ≤ s.size := by omega
    have HA : Hid (preB p.data.toList s.data.toList = false) := by
      show _ = _
      cases hb : preB p.data.toList s.data.toList
      · rfl
      · have := pre_len hb; rw [lenL, lenL] at this; omega
    generalize preB p.data.toList s.data.toList = ans at *
    go_enter Tryz.func93, Tryz.ntmps93
    go_wp2
    go_ret
    exact ⟨ret_bool HA.out.symm, rfl⟩
  · have hz : (p.size : Int) ≤ s.size := by omega
    have HA : Hid (preB p.data.toList s.data.toList = ((s.extract 0 p.size).toList == p.toList)) := by
      show _ = _
      rw [eq_list, take_list]; unfold preB; rw [lenL]
    generalize preB p.data.toList s.data.toList = ans at *
    go_enter Tryz.func93, Tryz.ntmps93
    go_wp2
    go_ret
    exact ⟨ret_bool HA.out.symm, rfl⟩

theorem hp_any (s p : ByteArray) (w : World) (hs : s.size ≤ 1000000) (hp : p.size ≤ 1000000) :
    Calls Tryz.prog 79 #[.string s, .string p] w fun e w' => e = .returned (.bool (preB p.data.toList s.data.toList)) ∧ w' = w := by
  have C := hpl_any s p w hs hp
  generalize preB p.data.toList s.data.toList = ans at *
  go_enter Tryz.func79, Tryz.ntmps79
  go_wp2_with (go_at_call 93; refine C.mono ?_; rintro e w' ⟨rfl, hw⟩; obtain rfl := hw.symm; clear C)
  go_ret
  exact ⟨rfl, rfl⟩
theorem cpl_any (s p : ByteArray) (w : World) (hs : s.size ≤ 1000000) (hp : p.size ≤ 1000000) :
    Calls Tryz.prog 94 #[.string s, .string p] w fun e w' => e = .returned (.tuple #[.string (if preB p.data.toList s.data.toList = true then s.extract p.size s.size else s), .bool (preB p.data.toList s.data.toList)]) ∧ w' = w := by
  have C := hpl_any s p w hs hp
  cases hb : preB p.data.toList s.data.toList with
  | false =>
    rw [hb] at C
    go_enter Tryz.func94, Tryz.ntmps94
    go_wp2_with (go_at_call 93; refine C.mono ?_; rintro e w' ⟨rfl, hw⟩; obtain rfl := hw.symm; clear C)
    exact bodyPost_ret (v := .tuple #[.string s, .bool false]) (by simp [results, Tryz.results94, go_sem] <;> rfl) rfl ⟨by simp, rfl⟩
  | true =>
    have hl := pre_len hb
    rw [lenL, lenL] at hl
    have hz : (p.size : Int) ≤ s.size := by omega
    rw [hb] at C
    go_enter Tryz.func94, Tryz.ntmps94
    go_wp2_with (go_at_call 93; refine C.mono ?_; rintro e w' ⟨rfl, hw⟩; obtain rfl := hw.symm; clear C)
    exact bodyPost_ret (v := .tuple #[.string (s.extract p.size s.size), .bool true]) (by simp [results, Tryz.results94, go_sem] <;> rfl) rfl ⟨by simp, rfl⟩
theorem cp_any (s p : ByteArray) (w : World) (hs : s.size ≤ 1000000) (hp : p.size ≤ 1000000) :
    Calls Tryz.prog 80 #[.string s, .string p] w fun e w' => e = .returned (.tuple #[.string (if preB p.data.toList s.data.toList = true then s.extract p.size s.size else s), .bool (preB p.data.toList s.data.toList)]) ∧ w' = w := by
  have C := cpl_any s p w hs hp
  generalize (if preB p.data.toList s.data.toList = true then s.extract p.size s.size else s) = r at *
  generalize preB p.data.toList s.data.toList = ans at *
  go_enter Tryz.func80, Tryz.ntmps80
  go_wp2_with (go_at_call 94; refine C.mono ?_; rintro e w' ⟨rfl, hw⟩; obtain rfl := hw.symm; clear C)
  exact bodyPost_ret (v := .tuple #[.string r, .bool ans]) (by simp [results, Tryz.results80, go_sem] <;> rfl) rfl ⟨rfl, rfl⟩
theorem mark_any (k : Nat) (w : World) (hk : k ≤ 255) : Calls Tryz.prog 78 #[.int .u8 k] w fun e w' => e = .returned (.string (st (mkL k))) ∧ w' = w := by
  by_cases h : 8 ≤ k
  · have H : Hid (mkL k = []) := by show mkL k = []; unfold mkL; repeat' (rw [if_neg (by omega)])
    generalize mkL k = m at *
    go_enter Tryz.func78, Tryz.ntmps78
    go_wp2
    all_goals first | (exfalso; omega) | (go_ret; exact ⟨by rw [H.out]; rfl, rfl⟩)
  · obtain h0 | h0 | h0 | h0 | h0 | h0 | h0 | h0 : k = 0 ∨ k = 1 ∨ k = 2 ∨ k = 3 ∨ k = 4 ∨ k = 5 ∨ k = 6 ∨ k = 7 := by omega
    all_goals
     subst h0
     go_enter Tryz.func78, Tryz.ntmps78
     go_wp2
     go_ret
     exact ⟨rfl, rfl⟩
def blkB (c : Int) : Bool := decide (c = 32 ∨ c = 9 ∨ c = 13)
theorem blank_any (c : Int) (w : World) : Calls Tryz.prog 48 #[.int .i32 c] w fun e w' => e = .returned (.bool (blkB c)) ∧ w' = w := by
  by_cases h1 : c = 32
  · subst h1
    go_enter Tryz.func48, Tryz.ntmps48
    go_wp2
    go_ret
    exact ⟨rfl, rfl⟩
  by_cases h2 : c = 9
  · subst h2
    go_enter Tryz.func48, Tryz.ntmps48
    go_wp2
    go_ret
    exact ⟨rfl, rfl⟩
  by_cases h3 : c = 13
  · subst h3
    go_enter Tryz.func48, Tryz.ntmps48
    go_wp2
    go_ret
    exact ⟨rfl, rfl⟩
  have H : Hid (blkB c = false) := decide_eq_false (by omega)
  have e1 : (c == 32) = false := by simpa using h1
  have e2 : (c == 9) = false := by simpa using h2
  have e3 : (c == 13) = false := by simpa using h3
  generalize blkB c = b at *
  go_enter Tryz.func48, Tryz.ntmps48
  go_wp2
  go_ret
  exact ⟨ret_bool H.out.symm, rfl⟩
end Go.Proofs.YtemacdimdpnkeaaGreatDoor
