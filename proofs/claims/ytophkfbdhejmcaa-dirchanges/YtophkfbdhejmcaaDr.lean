/- A directory as data and in memory; within, isPage, power, Check: the program's and the document's. -/
import Derived.Test.YtophkfbdhejmcaaUnw
import Derived.Test.YtophkfbdhejmcaaRWords
import Derived.Test.YtophkfbdhejmcaaMix
import Derived.Deep.RegionHeld3
namespace Go.Proofs.Ytophkfbdhejmcaa
open Go.RowKit
set_option linter.unusedVariables false
set_option maxRecDepth 20000

theorem two_blocks (w : World) (o p : Obj) : Below w.heap.size w ((w.alloc o).alloc p) := ((Below.refl _ _).alloc (Nat.le_refl _) _).alloc (by simp) _
theorem one_block (w : World) (o : Obj) : Below w.heap.size w (w.alloc o) := (Below.refl _ _).alloc (Nat.le_refl _) _
theorem bt {w w1 w2 : World} (h : Below w.heap.size w w1) (k : Below w1.heap.size w1 w2) : Below w.heap.size w w2 := h.trans (k.mono h.size)
theorem three_blocks (w : World) (o p q : Obj) : Below w.heap.size w (((w.alloc o).alloc p).alloc q) := bt (two_blocks _ _ _) (one_block _ _)

def dv (d : Int) (a : Option Addr) (n cap : Nat) : Value := .agg #[.int .i64 d, .slice a n cap]
def isP (z : Int) : Bool := decide (1 ≤ z) && decide (z ≤ 3000)
def pwr (d : Int) : Nat := 2 ^ d.toNat
def chkE (d : Int) (zs : List Int) : Int := if ¬ (0 ≤ d ∧ d ≤ 10) then 12 else if zs.all isP then (if zs.length = pwr d then 0 else 4) else 12
theorem chkE_range {d : Int} {zs : List Int} (h : ¬ (0 ≤ d ∧ d ≤ 10)) : chkE d zs = 12 := if_pos h
theorem getD_mem {zs : List Int} {k : Nat} (h : k < zs.length) : zs.getD k 0 ∈ zs := by
  rw [List.getD_eq_getElem?_getD, List.getElem?_eq_getElem h]; exact List.getElem_mem h
theorem chkE_slot {d : Int} {zs : List Int} {k : Nat} (h : 0 ≤ d ∧ d ≤ 10) (hk : k < zs.length) (hb : isP (zs.getD k 0) = false) : chkE d zs = 12 := by
  unfold chkE
  rw [if_neg (by simp [h]), if_neg]
  intro ha
  have := List.all_eq_true.1 ha _ (getD_mem hk)
  rw [hb] at this; cases this
theorem all_isP {zs : List Int} (h : ∀ m, m < zs.length → isP (zs.getD m 0) = true) : zs.all isP = true := by
  rw [List.all_eq_true]
  intro x hx
  obtain ⟨j, hj, rfl⟩ := List.mem_iff_getElem.1 hx
  have := h j hj
  rw [List.getD_eq_getElem?_getD, List.getElem?_eq_getElem hj] at this
  exact this
theorem chkE_end {d : Int} {zs : List Int} (h : 0 ≤ d ∧ d ≤ 10) (ha : ∀ m, m < zs.length → isP (zs.getD m 0) = true) : chkE d zs = if zs.length = pwr d then 0 else 4 := by
  unfold chkE
  rw [if_neg (by simp [h]), if_pos (all_isP ha)]
theorem chkE_ok {d : Int} {zs : List Int} (h : chkE d zs = 0) : (0 ≤ d ∧ d ≤ 10) ∧ zs.length = pwr d ∧ zs.all isP = true := by
  unfold chkE at h
  split at h
  · cases h
  · rename_i h1
    split at h
    · rename_i h2
      split at h
      · rename_i h3; exact ⟨by simpa using h1, h3, h2⟩
      · cases h
    · cases h
theorem pw_cases {d : Int} (h : 0 ≤ d ∧ d ≤ 10) : d = 0 ∨ d = 1 ∨ d = 2 ∨ d = 3 ∨ d = 4 ∨ d = 5 ∨ d = 6 ∨ d = 7 ∨ d = 8 ∨ d = 9 ∨ d = 10 := by omega
theorem pw_le {d : Int} (h : 0 ≤ d ∧ d ≤ 10) : 1 ≤ pwr d ∧ pwr d ≤ 1024 := by
  rcases pw_cases h with rfl | rfl | rfl | rfl | rfl | rfl | rfl | rfl | rfl | rfl | rfl <;> decide
theorem dwithin_any (n lo hi : Int) (w : World) : Calls Try.prog 33 #[.int .i64 n, .int .i64 lo, .int .i64 hi] w fun e w' => e = .returned (.bool (decide (lo ≤ n) && decide (n ≤ hi))) ∧ w' = w := by
  by_cases h1 : lo ≤ n
  · have d1 : decide (lo ≤ n) = true := by simpa using h1
    go_enter Try.func33, Try.ntmps33
    go_wp2
    go_ret
    exact ⟨by rw [d1]; rfl, rfl⟩
  · have d1 : decide (lo ≤ n) = false := by simpa using h1
    go_enter Try.func33, Try.ntmps33
    go_wp2
    go_ret
    exact ⟨rfl, rfl⟩
theorem ispage_any (z : Int) (w : World) : Calls Try.prog 34 #[.int .i64 z] w fun e w' => e = .returned (.bool (isP z)) ∧ w' = w := by
  have H := dwithin_any z 1 3000
  go_enter Try.func34, Try.ntmps34
  go_wp2_with (go_at_call 33; refine (H _).mono ?_; rintro e w' ⟨rfl, hw⟩; obtain rfl := hw.symm)
  go_ret
  exact ⟨rfl, rfl⟩
theorem power_any (d : Int) (w : World) (h : 0 ≤ d ∧ d ≤ 10) : Calls Try.prog 35 #[.int .i64 d] w fun e w' => e = .returned (.int .i64 (pwr d : Nat)) ∧ w' = w := by
  rcases pw_cases h with rfl | rfl | rfl | rfl | rfl | rfl | rfl | rfl | rfl | rfl | rfl <;>
  · go_enter Try.func35, Try.ntmps35
    go_wp2
    go_ret
    exact ⟨rfl, rfl⟩
set_option maxHeartbeats 800000 in
theorem rpower_any (d : Int) (w : World) (h : 0 ≤ d ∧ d ≤ 10) : Calls Try.prog 36 #[.int .i64 d] w fun e w' => e = .returned (.int .i64 (pwr d : Nat)) ∧ w' = w := by
  obtain ⟨n, rfl⟩ := Int.eq_ofNat_of_zero_le h.1
  have hn : n ≤ 10 := by omega
  have hp : ∀ k, k ≤ 10 → 2 ^ k ≤ 1024 := fun k hk => Nat.pow_le_pow_right (by decide) hk
  obtain ⟨r, hr⟩ : ∃ r : Nat, r = pwr (n : Int) := ⟨_, rfl⟩
  rw [← hr]
  have HR : Hid (r = 2 ^ n) := by rw [hr]; unfold pwr; rw [Int.toNat_natCast]; exact rfl
  clear hr
  go_enter Try.func36, Try.ntmps36
  go_wp2
  go_loop [3, 4] (fun p i => ∃ k : Nat, k ≤ n ∧ i = .int .i64 k ∧ p = .int .i64 (2 ^ k : Nat)) (fun _ i => n - (intOf i).toNat)
  case atStart => exact ⟨0, Nat.zero_le _, rfl, rfl⟩
  case round =>
    obtain ⟨k, hk, rfl, rfl⟩ := hrel
    have h1 := hp k (by omega)
    have h2 : (2 ^ (k + 1) : Nat) = 2 * 2 ^ k := by rw [Nat.pow_succ]; omega
    have H2 : Hid ((2 ^ (k + 1) : Nat) = 2 * 2 ^ k) := h2
    clear h2 hp
    have HX : Hid (k = n → r = 2 ^ k) := fun e => by rw [e]; exact HR.out
    generalize 2 ^ k = x at *
    by_cases hlt : k < n
    · have d1 : (k : Int) < (n : Int) := by omega
      have d2 : (k : Int) < 10 := by omega
      go_wp2
      go_round
      case rel => exact ⟨k + 1, by omega, by go_num, by rw [H2.out]; go_num⟩
      case measure => simp [intOf]; omega
    · have e : k = n := by omega
      have d1 : ¬ (k : Int) < (n : Int) := by omega
      go_wp2
      go_ret
      exact ⟨by rw [HX.out e]; rfl, rfl⟩
end Go.Proofs.Ytophkfbdhejmcaa
