/- For every directory, every key and whatever slots are set by, the call DirSets of the statements returns true and its arguments read as they did: no condition. -/
import Derived.Test.YtophkfbdhejmcaaRows
import Derived.Test.YtophkfbdhejmcaaArg
import Derived.Test.YtophkfbdhejmcaaPu
import Derived.WalkKit
import Derived.ProofKit
import Derived.OpenShut
import Derived.ShutString
import Derived.ChangeOld
import Derived.Below
namespace Go.Proofs.Ytophkfbdhejmcaa.dirSets
open Go.ChangeShapes Go.WideShapes Go.ChangeAt Go.RowKit
set_option linter.unusedVariables false
set_option linter.unusedSimpArgs false
set_option maxRecDepth 20000

theorem own : ownKnob Try.prog.godebug = none := by kernel_rfl
theorem laidOut : laidOutB Try.prog = true := by kernel_rfl
theorem boxesH {w W : World} {x y x' y' z' : Value} (hb : Below ((w.alloc (.cells #[x, y] 24)).alloc (.cells #[x', y', z'] 44)).heap.size ((w.alloc (.cells #[x, y] 24)).alloc (.cells #[x', y', z'] 44)) W) :
    W.cell? ⟨w.heap.size, 0, none⟩ = some x ∧ W.cell? ⟨w.heap.size, 1, none⟩ = some y ∧ W.cell? ⟨w.heap.size + 1, 0, none⟩ = some x' ∧ W.cell? ⟨w.heap.size + 1, 1, none⟩ = some y' ∧ W.cell? ⟨w.heap.size + 1, 2, none⟩ = some z' :=
  ⟨(hb.cell (p := ⟨w.heap.size, 0, none⟩) (by simp; omega)).trans (by go_simp), (hb.cell (p := ⟨w.heap.size, 1, none⟩) (by simp; omega)).trans (by go_simp), (hb.cell (p := ⟨w.heap.size + 1, 0, none⟩) (by simp)).trans (by go_simp), (hb.cell (p := ⟨w.heap.size + 1, 1, none⟩) (by simp)).trans (by go_simp), (hb.cell (p := ⟨w.heap.size + 1, 2, none⟩) (by simp)).trans (by go_simp)⟩
set_option maxHeartbeats 1600000 in
theorem walk_a (d0 : Int) (a0 : Option Addr) (len0 cap0 : Nat) (y0 : List Int) (s1 : ByteArray) (p2 k2 i2 : Int) (w : World) (w0 : Sli w a0 len0 cap0 y0 ∧ WfI d0) (w1 : s1.size ≤ maxLen) (w2 : WfI p2 ∧ WfI k2 ∧ WfI i2) (h : 300 < len0) : Calls Try.prog 6 #[dv d0 a0 len0 cap0, .string s1, hwv p2 k2 i2] w fun e w' => e = .returned (.bool true) ∧ Below w.heap.size w w' := by
  have HA := awake_any
  obtain ⟨⟨rfl, hiv, hn, hc, hm, hwf⟩, hd0⟩ := w0
  obtain ⟨wp2, wk2, wi2⟩ := w2
  unfold dv hwv
  unfold WfI at *
  have h1 : decide ((300 : Int) < (y0.length : Int)) = true := by simp; omega
  go_enter Try.func6, Try.ntmps6
  go_wp2_with (first | (go_at_call 8; refine (HA _).mono ?_; rintro e wz ⟨rfl, bz⟩; clear HA))
  go_ret
  exact ⟨rfl, bt (two_blocks _ _ _) bz⟩
set_option maxHeartbeats 1600000 in
theorem walk_b (d0 : Int) (a0 : Option Addr) (len0 cap0 : Nat) (y0 : List Int) (s1 : ByteArray) (p2 k2 i2 : Int) (w : World) (w0 : Sli w a0 len0 cap0 y0 ∧ WfI d0) (w1 : s1.size ≤ maxLen) (w2 : WfI p2 ∧ WfI k2 ∧ WfI i2) (h : ¬ 300 < len0) (h2 : 300 < s1.size) : Calls Try.prog 6 #[dv d0 a0 len0 cap0, .string s1, hwv p2 k2 i2] w fun e w' => e = .returned (.bool true) ∧ Below w.heap.size w w' := by
  have HA := awake_any
  obtain ⟨⟨rfl, hiv, hn, hc, hm, hwf⟩, hd0⟩ := w0
  obtain ⟨wp2, wk2, wi2⟩ := w2
  unfold dv hwv
  unfold WfI at *
  have h1 : decide ((300 : Int) < (y0.length : Int)) = false := by simp; omega
  have h3 : decide ((300 : Int) < (s1.size : Int)) = true := by simp; omega
  unfold maxLen at w1
  go_enter Try.func6, Try.ntmps6
  go_wp2_with (first | (go_at_call 8; refine (HA _).mono ?_; rintro e wz ⟨rfl, bz⟩; clear HA))
  go_ret
  exact ⟨rfl, bt (two_blocks _ _ _) bz⟩
set_option maxHeartbeats 1600000 in
theorem walk_c (d0 : Int) (a0 : Option Addr) (len0 cap0 : Nat) (y0 : List Int) (s1 : ByteArray) (p2 k2 i2 : Int) (w : World) (w0 : Sli w a0 len0 cap0 y0 ∧ WfI d0) (w1 : s1.size ≤ maxLen) (w2 : WfI p2 ∧ WfI k2 ∧ WfI i2) (h : ¬ 300 < len0) (h2 : ¬ 300 < s1.size) (h0 : ¬ chkE d0 y0 = 0) : Calls Try.prog 6 #[dv d0 a0 len0 cap0, .string s1, hwv p2 k2 i2] w fun e w' => e = .returned (.bool true) ∧ Below w.heap.size w w' := by
  have HA := awake_any
  obtain ⟨⟨rfl, hiv, hn, hc, hm, hwf⟩, hd0⟩ := w0
  obtain ⟨wp2, wk2, wi2⟩ := w2
  unfold dv hwv
  unfold WfI at *
  have h1 : decide ((300 : Int) < (y0.length : Int)) = false := by simp; omega
  have h3 : decide ((300 : Int) < (s1.size : Int)) = false := by simp; omega
  have HW1 : Hid (s1.size ≤ maxLen) := w1
  have HIV : Hid (∀ W, Below w.heap.size w W → IV W a0 y0) := fun W hW => hiv.below hW
  have HC : Hid (∀ W, Below w.heap.size w W → Calls Try.prog 11 #[.agg #[.int .i64 d0, .slice a0 y0.length cap0]] W fun e w' => e = .returned (.int .i64 (chkE d0 y0)) ∧ Below W.heap.size W w') := fun W hW => check_any d0 a0 cap0 y0 W (HIV.out W hW) (by omega)
  clear w1 hc hm hwf hd0 wp2
  generalize chkE d0 y0 = x at *
  clear hiv
  go_enter Try.func6, Try.ntmps6
  go_wp2_with (first | (go_at_call 11; refine (HC.out _ (two_blocks _ _ _)).mono ?_; rintro e w1' ⟨rfl, b1⟩; clear HC; obtain ⟨c0, c1, c2, c3, c4⟩ := boxesH b1) | (go_at_call 8; refine (HA _).mono ?_; rintro e wz ⟨rfl, bz⟩; clear HA))
  go_ret
  exact ⟨rfl, bt (two_blocks _ _ _) (bt b1 bz)⟩
set_option maxHeartbeats 1600000 in
theorem walk_d (d0 : Int) (a0 : Option Addr) (len0 cap0 : Nat) (y0 : List Int) (s1 : ByteArray) (p2 k2 i2 : Int) (w : World) (w0 : Sli w a0 len0 cap0 y0 ∧ WfI d0) (w1 : s1.size ≤ maxLen) (w2 : WfI p2 ∧ WfI k2 ∧ WfI i2) (h : ¬ 300 < len0) (h2 : ¬ 300 < s1.size) (h0 : chkE d0 y0 = 0) (q1 : k2 < 0) : Calls Try.prog 6 #[dv d0 a0 len0 cap0, .string s1, hwv p2 k2 i2] w fun e w' => e = .returned (.bool true) ∧ Below w.heap.size w w' := by
  have HA := awake_any
  obtain ⟨⟨rfl, hiv, hn, hc, hm, hwf⟩, hd0⟩ := w0
  obtain ⟨wp2, wk2, wi2⟩ := w2
  unfold dv hwv
  unfold WfI at *
  have h1 : decide ((300 : Int) < (y0.length : Int)) = false := by simp; omega
  have h3 : decide ((300 : Int) < (s1.size : Int)) = false := by simp; omega
  have HW1 : Hid (s1.size ≤ maxLen) := w1
  have HIV : Hid (∀ W, Below w.heap.size w W → IV W a0 y0) := fun W hW => hiv.below hW
  have HC : Hid (∀ W, Below w.heap.size w W → Calls Try.prog 11 #[.agg #[.int .i64 d0, .slice a0 y0.length cap0]] W fun e w' => e = .returned (.int .i64 (chkE d0 y0)) ∧ Below W.heap.size W w') := fun W hW => check_any d0 a0 cap0 y0 W (HIV.out W hW) (by omega)
  clear w1 hc hm hwf hd0 wp2
  rw [h0] at HC
  clear h0
  clear hiv
  go_enter Try.func6, Try.ntmps6
  go_wp2_with (first | (go_at_call 11; refine (HC.out _ (two_blocks _ _ _)).mono ?_; rintro e w1' ⟨rfl, b1⟩; clear HC; obtain ⟨c0, c1, c2, c3, c4⟩ := boxesH b1) | (go_at_call 8; refine (HA _).mono ?_; rintro e wz ⟨rfl, bz⟩; clear HA))
  go_ret
  exact ⟨rfl, bt (two_blocks _ _ _) (bt b1 bz)⟩
set_option maxHeartbeats 1600000 in
theorem walk_e (d0 : Int) (a0 : Option Addr) (len0 cap0 : Nat) (y0 : List Int) (s1 : ByteArray) (p2 k2 i2 : Int) (w : World) (w0 : Sli w a0 len0 cap0 y0 ∧ WfI d0) (w1 : s1.size ≤ maxLen) (w2 : WfI p2 ∧ WfI k2 ∧ WfI i2) (h : ¬ 300 < len0) (h2 : ¬ 300 < s1.size) (h0 : chkE d0 y0 = 0) (q1 : ¬ k2 < 0) (q2 : d0 < k2) : Calls Try.prog 6 #[dv d0 a0 len0 cap0, .string s1, hwv p2 k2 i2] w fun e w' => e = .returned (.bool true) ∧ Below w.heap.size w w' := by
  have HA := awake_any
  obtain ⟨⟨rfl, hiv, hn, hc, hm, hwf⟩, hd0⟩ := w0
  obtain ⟨wp2, wk2, wi2⟩ := w2
  unfold dv hwv
  unfold WfI at *
  have h1 : decide ((300 : Int) < (y0.length : Int)) = false := by simp; omega
  have h3 : decide ((300 : Int) < (s1.size : Int)) = false := by simp; omega
  have HW1 : Hid (s1.size ≤ maxLen) := w1
  have HIV : Hid (∀ W, Below w.heap.size w W → IV W a0 y0) := fun W hW => hiv.below hW
  have HC : Hid (∀ W, Below w.heap.size w W → Calls Try.prog 11 #[.agg #[.int .i64 d0, .slice a0 y0.length cap0]] W fun e w' => e = .returned (.int .i64 (chkE d0 y0)) ∧ Below W.heap.size W w') := fun W hW => check_any d0 a0 cap0 y0 W (HIV.out W hW) (by omega)
  clear w1 hc hm hwf hd0 wp2
  rw [h0] at HC
  clear h0
  clear hiv
  go_enter Try.func6, Try.ntmps6
  go_wp2_with (first | (go_at_call 11; refine (HC.out _ (two_blocks _ _ _)).mono ?_; rintro e w1' ⟨rfl, b1⟩; clear HC; obtain ⟨c0, c1, c2, c3, c4⟩ := boxesH b1) | (go_at_call 8; refine (HA _).mono ?_; rintro e wz ⟨rfl, bz⟩; clear HA))
  go_ret
  exact ⟨rfl, bt (two_blocks _ _ _) (bt b1 bz)⟩
set_option maxHeartbeats 1600000 in
theorem walk_f (d0 : Int) (a0 : Option Addr) (len0 cap0 : Nat) (y0 : List Int) (s1 : ByteArray) (p2 k2 i2 : Int) (w : World) (w0 : Sli w a0 len0 cap0 y0 ∧ WfI d0) (w1 : s1.size ≤ maxLen) (w2 : WfI p2 ∧ WfI k2 ∧ WfI i2) (h : ¬ 300 < len0) (h2 : ¬ 300 < s1.size) (h0 : chkE d0 y0 = 0) (q1 : ¬ k2 < 0) (q2 : ¬ d0 < k2) (q3 : i2 < 1) : Calls Try.prog 6 #[dv d0 a0 len0 cap0, .string s1, hwv p2 k2 i2] w fun e w' => e = .returned (.bool true) ∧ Below w.heap.size w w' := by
  have HA := awake_any
  obtain ⟨⟨rfl, hiv, hn, hc, hm, hwf⟩, hd0⟩ := w0
  obtain ⟨wp2, wk2, wi2⟩ := w2
  unfold dv hwv
  unfold WfI at *
  have h1 : decide ((300 : Int) < (y0.length : Int)) = false := by simp; omega
  have h3 : decide ((300 : Int) < (s1.size : Int)) = false := by simp; omega
  have HW1 : Hid (s1.size ≤ maxLen) := w1
  have HIV : Hid (∀ W, Below w.heap.size w W → IV W a0 y0) := fun W hW => hiv.below hW
  have HC : Hid (∀ W, Below w.heap.size w W → Calls Try.prog 11 #[.agg #[.int .i64 d0, .slice a0 y0.length cap0]] W fun e w' => e = .returned (.int .i64 (chkE d0 y0)) ∧ Below W.heap.size W w') := fun W hW => check_any d0 a0 cap0 y0 W (HIV.out W hW) (by omega)
  clear w1 hc hm hwf hd0 wp2
  rw [h0] at HC
  clear h0
  clear hiv
  go_enter Try.func6, Try.ntmps6
  go_wp2_with (first | (go_at_call 11; refine (HC.out _ (two_blocks _ _ _)).mono ?_; rintro e w1' ⟨rfl, b1⟩; clear HC; obtain ⟨c0, c1, c2, c3, c4⟩ := boxesH b1) | (go_at_call 8; refine (HA _).mono ?_; rintro e wz ⟨rfl, bz⟩; clear HA))
  go_ret
  exact ⟨rfl, bt (two_blocks _ _ _) (bt b1 bz)⟩
set_option maxHeartbeats 1600000 in
theorem walk_g (d0 : Int) (a0 : Option Addr) (len0 cap0 : Nat) (y0 : List Int) (s1 : ByteArray) (p2 k2 i2 : Int) (w : World) (w0 : Sli w a0 len0 cap0 y0 ∧ WfI d0) (w1 : s1.size ≤ maxLen) (w2 : WfI p2 ∧ WfI k2 ∧ WfI i2) (h : ¬ 300 < len0) (h2 : ¬ 300 < s1.size) (h0 : chkE d0 y0 = 0) (q1 : ¬ k2 < 0) (q2 : ¬ d0 < k2) (q3 : ¬ i2 < 1) (q4 : 3000 < i2) : Calls Try.prog 6 #[dv d0 a0 len0 cap0, .string s1, hwv p2 k2 i2] w fun e w' => e = .returned (.bool true) ∧ Below w.heap.size w w' := by
  have HA := awake_any
  obtain ⟨⟨rfl, hiv, hn, hc, hm, hwf⟩, hd0⟩ := w0
  obtain ⟨wp2, wk2, wi2⟩ := w2
  unfold dv hwv
  unfold WfI at *
  have h1 : decide ((300 : Int) < (y0.length : Int)) = false := by simp; omega
  have h3 : decide ((300 : Int) < (s1.size : Int)) = false := by simp; omega
  have HW1 : Hid (s1.size ≤ maxLen) := w1
  have HIV : Hid (∀ W, Below w.heap.size w W → IV W a0 y0) := fun W hW => hiv.below hW
  have HC : Hid (∀ W, Below w.heap.size w W → Calls Try.prog 11 #[.agg #[.int .i64 d0, .slice a0 y0.length cap0]] W fun e w' => e = .returned (.int .i64 (chkE d0 y0)) ∧ Below W.heap.size W w') := fun W hW => check_any d0 a0 cap0 y0 W (HIV.out W hW) (by omega)
  clear w1 hc hm hwf hd0 wp2
  rw [h0] at HC
  clear h0
  clear hiv
  go_enter Try.func6, Try.ntmps6
  go_wp2_with (first | (go_at_call 11; refine (HC.out _ (two_blocks _ _ _)).mono ?_; rintro e w1' ⟨rfl, b1⟩; clear HC; obtain ⟨c0, c1, c2, c3, c4⟩ := boxesH b1) | (go_at_call 8; refine (HA _).mono ?_; rintro e wz ⟨rfl, bz⟩; clear HA))
  go_ret
  exact ⟨rfl, bt (two_blocks _ _ _) (bt b1 bz)⟩
theorem half_pre (d k : Int) (s : ByteArray) (m : Nat) : topK d s / 2 ^ m / 2 = topK d s / 2 ^ (m + 1) := by
  rw [Nat.pow_succ, Nat.div_div_eq_div_mul]
set_option maxHeartbeats 6400000 in
theorem walk_h (d0 : Int) (a0 : Option Addr) (len0 cap0 : Nat) (y0 : List Int) (s1 : ByteArray) (p2 k2 i2 : Int) (w : World) (w0 : Sli w a0 len0 cap0 y0 ∧ WfI d0) (w1 : s1.size ≤ maxLen) (w2 : WfI p2 ∧ WfI k2 ∧ WfI i2) (h : ¬ 300 < len0) (h2 : ¬ 300 < s1.size) (h0 : chkE d0 y0 = 0) (q1 : ¬ k2 < 0) (q2 : ¬ d0 < k2) (q3 : ¬ i2 < 1) (q4 : ¬ 3000 < i2) : Calls Try.prog 6 #[dv d0 a0 len0 cap0, .string s1, hwv p2 k2 i2] w fun e w' => e = .returned (.bool true) ∧ Below w.heap.size w w' := by
  have HA := awake_any
  obtain ⟨⟨rfl, hiv, hn, hc, hm, hwf⟩, hd0⟩ := w0
  obtain ⟨wp2, wk2, wi2⟩ := w2
  unfold dv hwv
  unfold WfI at *
  have h1 : decide ((300 : Int) < (y0.length : Int)) = false := by simp; omega
  have h3 : decide ((300 : Int) < (s1.size : Int)) = false := by simp; omega
  have HW1 : Hid (s1.size ≤ maxLen) := w1
  have HIV : Hid (∀ W, Below w.heap.size w W → IV W a0 y0) := fun W hW => hiv.below hW
  have HC : Hid (∀ W, Below w.heap.size w W → Calls Try.prog 11 #[.agg #[.int .i64 d0, .slice a0 y0.length cap0]] W fun e w' => e = .returned (.int .i64 (chkE d0 y0)) ∧ Below W.heap.size W w') := fun W hW => check_any d0 a0 cap0 y0 W (HIV.out W hW) (by omega)
  clear w1 hc hm hwf hd0 wp2
  have hd := (chkE_ok h0).1
  have hk : 0 ≤ k2 ∧ k2 ≤ d0 := by omega
  have hip : isP i2 = true := by unfold isP; rw [decide_eq_true (by omega), decide_eq_true (by omega)]; rfl
  have hlx : topK d0 s1 < 1024 := Nat.lt_of_lt_of_le (topK_lt s1 hd) (pw_le hd).2
  have hpl := pre_lt s1 hd hk
  have hpk := pw_le (show 0 ≤ k2 ∧ k2 ≤ 10 by omega)
  have HPX : Hid (∀ W, Below w.heap.size w W → Calls Try.prog 15 #[.agg #[.int .i64 d0, .slice a0 y0.length cap0], .string s1] W fun e w' => e = .returned (.int .i64 (topK d0 s1 : Nat)) ∧ Below W.heap.size W w') := fun W hW => by
    have := place_any d0 a0 cap0 y0 s1 W (HIV.out W hW) (by omega) HW1.out
    unfold placeS at this
    rw [if_pos h0] at this
    exact this
  have HAX : Hid (∀ W, Below w.heap.size w W → Calls Try.prog 13 #[.agg #[.int .i64 d0, .slice a0 y0.length cap0], .string s1] W fun e w' => e = .returned (.int .i64 (atS d0 y0 s1)) ∧ Below W.heap.size W w') := fun W hW => at_any d0 a0 cap0 y0 s1 W (HIV.out W hW) (by omega) HW1.out
  have HST : Hid (∀ W p, Below w.heap.size w W → Calls Try.prog 26 #[.agg #[.int .i64 d0, .slice a0 y0.length cap0], .int .i64 p, .int .i64 k2, .int .i64 i2] W fun e w' => ∃ a c, e = .returned (.agg #[.int .i64 d0, .slice a y0.length c]) ∧ IV w' a (setL d0 y0 p k2 i2) ∧ Below W.heap.size W w') := fun W p hW => by
    refine (set_any d0 a0 cap0 y0 p k2 i2 W (HIV.out W hW) (by omega) hn).mono ?_
    rintro e w2 ⟨v2, rfl, ⟨a2, c2, rfl, n2, iv2⟩, b2⟩
    exact ⟨a2, c2, by rw [setL_len]; rfl, iv2, b2⟩
  have HCY : Hid (∀ W a c p, IV W a (setL d0 y0 p k2 i2) → Calls Try.prog 11 #[.agg #[.int .i64 d0, .slice a y0.length c]] W fun e w' => e = .returned (.int .i64 0) ∧ Below W.heap.size W w') := fun W a c p hv => by
    have := check_any d0 a c (setL d0 y0 p k2 i2) W hv (by rw [setL_len]; omega)
    rw [chk_set h0, setL_len] at this
    exact this
  have HAY : Hid (∀ W a c p, IV W a (setL d0 y0 p k2 i2) → Calls Try.prog 13 #[.agg #[.int .i64 d0, .slice a y0.length c], .string s1] W fun e w' => e = .returned (.int .i64 (atS d0 (setL d0 y0 p k2 i2) s1)) ∧ Below W.heap.size W w') := fun W a c p hv => by
    have := at_any d0 a c (setL d0 y0 p k2 i2) s1 W hv (by rw [setL_len]; omega) HW1.out
    rw [setL_len] at this
    exact this
  have HHIT : Hid (atS d0 (setL d0 y0 (preK d0 k2 s1 : Nat) k2 i2) s1 = i2) := set_hit s1 h0 hk hip
  have HMISS : Hid (∀ p, ¬ ((preK d0 k2 s1 : Nat) : Int) = p → atS d0 (setL d0 y0 p k2 i2) s1 = atS d0 y0 s1) := fun p hp => set_miss s1 h0 hp
  rw [h0] at HC
  clear h0 hiv hip
  go_enter Try.func6, Try.ntmps6
  go_wp2_with (first
    | (go_at_call 11; refine (HC.out _ (two_blocks _ _ _)).mono ?_; rintro e w1' ⟨rfl, b1⟩; clear HC; obtain ⟨c0, c1, c2, c3, c4⟩ := boxesH b1)
    | (go_at_call 15; refine (HPX.out _ (bt (two_blocks _ _ _) (bt b1 (one_block _ _)))).mono ?_; rintro e w3 ⟨rfl, b3⟩; have hx := box2 b3; have BX : Hid (Below ((w.alloc (.cells #[.int .i64 d0, .slice a0 y0.length cap0] 24)).alloc (.cells #[.int .i64 p2, .int .i64 k2, .int .i64 i2] 44)).heap.size ((w.alloc (.cells #[.int .i64 d0, .slice a0 y0.length cap0] 24)).alloc (.cells #[.int .i64 p2, .int .i64 k2, .int .i64 i2] 44)) w3) := bt b1 (bt (one_block _ _) b3); clear c0 c1 c2 c3 c4; obtain ⟨c0, c1, c2, c3, c4⟩ := boxesH BX.out))
  have BW : Hid (Below w.heap.size w w3) := bt (two_blocks _ _ _) BX.out
  obtain ⟨X, hX⟩ : ∃ X, X = w1'.heap.size := ⟨_, rfl⟩
  rw [← hX] at hx
  rw [← hX]
  clear hX b1 b3 HPX BX
  obtain ⟨x0, x1⟩ := hx
  have HPP : Hid (preK d0 k2 s1 = topK d0 s1 / 2 ^ (d0 - k2).toNat) := rfl
  generalize topK d0 s1 = tx at *
  generalize preK d0 k2 s1 = pk at *
  go_loop [8, 9] (fun pv iv => ∃ m : Nat, k2 + m ≤ d0 ∧ iv = .int .i64 (k2 + m) ∧ pv = .int .i64 (tx / 2 ^ m : Nat)) (fun _ iv => (d0 - intOf iv).toNat)
  case atStart => exact ⟨0, by omega, by simp, by simp⟩
  case round =>
    obtain ⟨m, hm, rfl, rfl⟩ := hrel
    have hq1 : tx / 2 ^ m ≤ tx := Nat.div_le_self _ _
    have HQ1 : Hid (tx / 2 ^ m / 2 = tx / 2 ^ (m + 1)) := by show _ = _; rw [Nat.pow_succ, Nat.div_div_eq_div_mul]
    have HQE : Hid (k2 + m = d0 → pk = tx / 2 ^ m) := fun e => by rw [HPP.out, show (d0 - k2).toNat = m by omega]
    by_cases hlt : k2 + m < d0
    · generalize tx / 2 ^ m = q at *
      have t1 : Int.tdiv (q : Int) 2 = ((q / 2 : Nat) : Int) := by rw [Int.tdiv_eq_ediv_of_nonneg (by omega)]; rfl
      go_wp2
      go_round
      case rel => exact ⟨m + 1, by omega, by go_num, by rw [← HQ1.out]; go_num⟩
      case measure => simp [intOf]; omega
    · have HPK := HQE.out (by omega)
      have hxx : ¬ (k2 + (m : Int) < d0) := by omega
      rw [← HPK]
      clear HQ1 HQE hq1
      clear HPK
      have K3 : Hid (∀ W, Below w3.heap.size w3 W → (W.cell? ⟨w.heap.size + 1, 1, none⟩ = some (.int .i64 k2) ∧ W.cell? ⟨w.heap.size + 1, 2, none⟩ = some (.int .i64 i2)) ∧ (W.cell? ⟨X, 0, none⟩ = some (.int .i64 d0) ∧ W.cell? ⟨X, 1, none⟩ = some (.slice a0 y0.length cap0)) ∧ (w.heap.size + 1 < W.heap.size ∧ X < W.heap.size)) := fun W hW => by
        have l1 : w.heap.size + 1 < w3.heap.size := by have := World.block_lt_of_cell? _ _ c3; simpa using this
        have l2 : X < w3.heap.size := by have := World.block_lt_of_cell? _ _ x0; simpa using this
        exact ⟨⟨(hW.cell (p := ⟨w.heap.size + 1, 1, none⟩) l1).trans c3, (hW.cell (p := ⟨w.heap.size + 1, 2, none⟩) l1).trans c4⟩, ⟨(hW.cell (p := ⟨X, 0, none⟩) l2).trans x0, (hW.cell (p := ⟨X, 1, none⟩) l2).trans x1⟩, Nat.lt_of_lt_of_le l1 hW.size, Nat.lt_of_lt_of_le l2 hW.size⟩
      have HST2 := HST
      have hpb : pk ≤ 1024 := by omega
      clear hpl hpk hlx
      obtain ⟨oz, hoz⟩ : ∃ oz : Int, oz = (if pk % 2 = 1 then (pk : Int) - 1 else pk + 1) := ⟨_, rfl⟩
      have HNE : Hid (¬ (pk : Int) = oz) := by
        show ¬ (pk : Int) = oz
        rw [hoz]
        split <;> omega
      by_cases hpar : pk % 2 = 1
      · rw [if_pos hpar] at hoz
        have t1 : Int.tmod (pk : Int) 2 = 1 := by rw [Int.tmod_eq_emod_of_nonneg (by omega)]; omega
        have t2 : (pk : Int) % 2 = 1 := by omega
        have hoz2 : (pk : Int) - 1 = oz := hoz.symm
        clear hoz
        go_wp2_with (first
          | (go_at_call 26; refine (HST.out _ (pk : Int) BW.out).mono ?_; rintro e w5 ⟨a5, c5, rfl, iv5, b5⟩; clear HST c0 c1 c2 c3 c4 x0 x1; obtain ⟨⟨c3, c4⟩, ⟨x0, x1⟩, l1, l2⟩ := K3.out _ b5)
          | (go_at_call 26; refine (HST2.out _ oz (bt BW.out (bt b5 (one_block _ _)))).mono ?_; rintro e w6 ⟨a6, c6, rfl, iv6, b6⟩; clear HST2))
        obtain ⟨W7, hW7⟩ : ∃ W7, W7 = w6.alloc (.cells #[.int .i64 d0, .slice a6 y0.length c6] 26) := ⟨_, rfl⟩
        have BB5 : Hid (Below w5.heap.size w5 W7) := by rw [hW7]; exact bt (one_block _ _) (bt b6 (one_block _ _))
        have BB3 : Hid (Below w3.heap.size w3 W7) := bt b5 BB5.out
        have SL : Hid (∀ W, Below W7.heap.size W7 W → (W.cell? ⟨w5.heap.size, 0, none⟩ = some (.int .i64 d0) ∧ W.cell? ⟨w5.heap.size, 1, none⟩ = some (.slice a5 y0.length c5)) ∧ (W.cell? ⟨w6.heap.size, 0, none⟩ = some (.int .i64 d0) ∧ W.cell? ⟨w6.heap.size, 1, none⟩ = some (.slice a6 y0.length c6)) ∧ (W.cell? ⟨X, 0, none⟩ = some (.int .i64 d0) ∧ W.cell? ⟨X, 1, none⟩ = some (.slice a0 y0.length cap0)) ∧ W.cell? ⟨w.heap.size + 1, 2, none⟩ = some (.int .i64 i2)) := fun W hW => by
          have k := K3.out _ (bt BB3.out hW)
          refine ⟨?_, ?_, k.2.1, k.1.2⟩
          · rw [hW7] at hW
            exact box2 (bt b6 (bt (one_block _ _) hW))
          · rw [hW7] at hW
            exact box2 hW
        have HV5 : Hid (∀ W, Below W7.heap.size W7 W → IV W a5 (setL d0 y0 (pk : Nat) k2 i2)) := fun W hW => iv5.below (bt BB5.out hW)
        have HV6 : Hid (∀ W, Below W7.heap.size W7 W → IV W a6 (setL d0 y0 oz k2 i2)) := fun W hW => by rw [hW7] at hW; exact iv6.below (bt (one_block _ _) hW)
        have HBW : Hid (∀ W, Below W7.heap.size W7 W → Below w.heap.size w W) := fun W hW => bt BW.out (bt BB3.out hW)
        have HA1 : Hid (∀ W, Below W7.heap.size W7 W → Calls Try.prog 13 #[.agg #[.int .i64 d0, .slice a5 y0.length c5], .string s1] W fun e w' => e = .returned (.int .i64 i2) ∧ Below W.heap.size W w') := fun W hW => by
          have := HAY.out W a5 c5 _ (HV5.out W hW)
          rw [HHIT.out] at this
          exact this
        have HA2 : Hid (∀ W, Below W7.heap.size W7 W → Calls Try.prog 13 #[.agg #[.int .i64 d0, .slice a6 y0.length c6], .string s1] W fun e w' => e = .returned (.int .i64 (atS d0 y0 s1)) ∧ Below W.heap.size W w') := fun W hW => by
          have := HAY.out W a6 c6 _ (HV6.out W hW)
          rw [HMISS.out oz HNE.out] at this
          exact this
        rw [← hW7]
        clear hW7 c3 c4 x0 x1 iv5 iv6 b5 b6 HAY
        generalize atS d0 y0 s1 = az at *
        refine wp_region_noPanic ?_
        refine name_ops ?_
        intro O QQ HO HQ
        refine wp_region_held_drew (S := fun W => Below W7.heap.size W7 W) (by kernel_rfl) (Below.refl _ _).drew (fun hS => ?_)
        rw [show O.size = 24 by rw [HO.out]; rfl]
        refine wpAnyH_take (i := 0) (v := .agg #[.int .i64 d0, .slice a5 y0.length c5]) (by rw [HO.out]; simp only [List.getElem?_toArray, List.getElem?_cons_succ, List.getElem?_cons_zero]; rfl) (by rw [HO.out]; kernel_rfl) (by rw [HO.out]; kernel_rfl) (by rw [HO.out]; kernel_rfl) (by rw [HQ.out]; exact fun _ _ _ h => h) (Or.inl ⟨by first | rfl | (rw [HO.out]; kernel_rfl), ?_⟩) hS ?_
        · intro w' hSw
          have q := (SL.out _ hSw).1
          obtain ⟨q0, q1⟩ := q
          go_simp
        try simp only [Act.put, List.setIfInBounds_toArray, List.set_cons_zero, List.set_cons_succ]
        refine wpAnyH_take (i := 1) (v := .string s1) (by rw [HO.out]; simp only [List.getElem?_toArray, List.getElem?_cons_succ, List.getElem?_cons_zero]; rfl) (by rw [HO.out]; kernel_rfl) (by rw [HO.out]; kernel_rfl) (by rw [HO.out]; kernel_rfl) (by rw [HQ.out]; exact fun _ _ _ h => h) (Or.inl ⟨by first | rfl | (rw [HO.out]; kernel_rfl), ?_⟩) hS ?_
        · intro w' hSw
          go_simp
        try simp only [Act.put, List.setIfInBounds_toArray, List.set_cons_zero, List.set_cons_succ]
        refine wpAnyH_take (i := 3) (v := .pointer (some ⟨w.heap.size + 1, 2, none⟩)) (by rw [HO.out]; simp only [List.getElem?_toArray, List.getElem?_cons_succ, List.getElem?_cons_zero]; rfl) (by rw [HO.out]; kernel_rfl) (by rw [HO.out]; kernel_rfl) (by rw [HO.out]; kernel_rfl) (by rw [HQ.out]; exact fun _ _ _ h => h) (Or.inl ⟨by first | rfl | (rw [HO.out]; kernel_rfl), ?_⟩) hS ?_
        · intro w' hSw
          go_simp
        try simp only [Act.put, List.setIfInBounds_toArray, List.set_cons_zero, List.set_cons_succ]
        refine wpAnyH_take (i := 4) (v := .int .i64 i2) (by rw [HO.out]; simp only [List.getElem?_toArray, List.getElem?_cons_succ, List.getElem?_cons_zero]; rfl) (by rw [HO.out]; kernel_rfl) (by rw [HO.out]; kernel_rfl) (by rw [HO.out]; kernel_rfl) (by rw [HQ.out]; exact fun _ _ _ h => h) (Or.inl ⟨by first | rfl | (rw [HO.out]; kernel_rfl), ?_⟩) hS ?_
        · intro w' hSw
          have q0 := (SL.out _ hSw).2.2.2
          go_simp
        try simp only [Act.put, List.setIfInBounds_toArray, List.set_cons_zero, List.set_cons_succ]
        refine wpAnyH_one (i := 2) (x := 87) (R := fun v _ => v = .int .i64 i2) (by rw [HO.out]; simp only [List.getElem?_toArray, List.getElem?_cons_succ, List.getElem?_cons_zero]; rfl) (by rw [HO.out]; kernel_rfl) hS ?_ ?_
        · intro K hK
          simp only [Act.put, List.setIfInBounds_toArray, List.set_cons_zero, List.set_cons_succ] at hK
          unfold Steps
          rw [if_pos (by rw [HO.out]; kernel_rfl)]
          go_simp
          refine (HA1.out _ hS).mono ?_
          rintro e w9 ⟨rfl, hb9⟩
          exact hK _ _ rfl hb9
        rintro v9 w9 hv9 hb9 hS9
        obtain rfl := hv9
        clear hb9
        replace hS := hS9
        clear hS9
        try simp only [Act.put, List.setIfInBounds_toArray, List.set_cons_zero, List.set_cons_succ]
        refine wpAnyH_take (i := 5) (v := .bool true) (by rw [HO.out]; simp only [List.getElem?_toArray, List.getElem?_cons_succ, List.getElem?_cons_zero]; rfl) (by rw [HO.out]; kernel_rfl) (by rw [HO.out]; kernel_rfl) (by rw [HO.out]; kernel_rfl) (by rw [HQ.out]; exact fun _ _ _ h => h) (Or.inl ⟨by first | rfl | (rw [HO.out]; kernel_rfl), ?_⟩) hS ?_
        · intro w' hSw
          go_simp
        try simp only [Act.put, List.setIfInBounds_toArray, List.set_cons_zero, List.set_cons_succ]
        refine wpAnyH_take (i := 6) (v := .bool true) (by rw [HO.out]; simp only [List.getElem?_toArray, List.getElem?_cons_succ, List.getElem?_cons_zero]; rfl) (by rw [HO.out]; kernel_rfl) (by rw [HO.out]; kernel_rfl) (by rw [HO.out]; kernel_rfl) (by rw [HQ.out]; exact fun _ _ _ h => h) (Or.inl ⟨by first | rfl | (rw [HO.out]; kernel_rfl), ?_⟩) hS ?_
        · intro w' hSw
          go_simp
        try simp only [Act.put, List.setIfInBounds_toArray, List.set_cons_zero, List.set_cons_succ]
        refine wpAnyH_take (i := 7) (v := .agg #[.int .i64 d0, .slice a6 y0.length c6]) (by rw [HO.out]; simp only [List.getElem?_toArray, List.getElem?_cons_succ, List.getElem?_cons_zero]; rfl) (by rw [HO.out]; kernel_rfl) (by rw [HO.out]; kernel_rfl) (by rw [HO.out]; kernel_rfl) (by rw [HQ.out]; exact fun _ _ _ h => h) (Or.inl ⟨by first | rfl | (rw [HO.out]; kernel_rfl), ?_⟩) hS ?_
        · intro w' hSw
          have q := (SL.out _ hSw).2.1
          obtain ⟨q0, q1⟩ := q
          go_simp
        try simp only [Act.put, List.setIfInBounds_toArray, List.set_cons_zero, List.set_cons_succ]
        refine wpAnyH_take (i := 8) (v := .string s1) (by rw [HO.out]; simp only [List.getElem?_toArray, List.getElem?_cons_succ, List.getElem?_cons_zero]; rfl) (by rw [HO.out]; kernel_rfl) (by rw [HO.out]; kernel_rfl) (by rw [HO.out]; kernel_rfl) (by rw [HQ.out]; exact fun _ _ _ h => h) (Or.inl ⟨by first | rfl | (rw [HO.out]; kernel_rfl), ?_⟩) hS ?_
        · intro w' hSw
          go_simp
        try simp only [Act.put, List.setIfInBounds_toArray, List.set_cons_zero, List.set_cons_succ]
        refine wpAnyH_take (i := 10) (v := .agg #[.int .i64 d0, .slice a0 y0.length cap0]) (by rw [HO.out]; simp only [List.getElem?_toArray, List.getElem?_cons_succ, List.getElem?_cons_zero]; rfl) (by rw [HO.out]; kernel_rfl) (by rw [HO.out]; kernel_rfl) (by rw [HO.out]; kernel_rfl) (by rw [HQ.out]; exact fun _ _ _ h => h) (Or.inl ⟨by first | rfl | (rw [HO.out]; kernel_rfl), ?_⟩) hS ?_
        · intro w' hSw
          have q := (SL.out _ hSw).2.2.1
          obtain ⟨q0, q1⟩ := q
          go_simp
        try simp only [Act.put, List.setIfInBounds_toArray, List.set_cons_zero, List.set_cons_succ]
        refine wpAnyH_take (i := 11) (v := .string s1) (by rw [HO.out]; simp only [List.getElem?_toArray, List.getElem?_cons_succ, List.getElem?_cons_zero]; rfl) (by rw [HO.out]; kernel_rfl) (by rw [HO.out]; kernel_rfl) (by rw [HO.out]; kernel_rfl) (by rw [HQ.out]; exact fun _ _ _ h => h) (Or.inl ⟨by first | rfl | (rw [HO.out]; kernel_rfl), ?_⟩) hS ?_
        · intro w' hSw
          go_simp
        try simp only [Act.put, List.setIfInBounds_toArray, List.set_cons_zero, List.set_cons_succ]
        refine wpAnyH_one (i := 9) (x := 94) (R := fun v _ => v = .int .i64 az) (by rw [HO.out]; simp only [List.getElem?_toArray, List.getElem?_cons_succ, List.getElem?_cons_zero]; rfl) (by rw [HO.out]; kernel_rfl) hS ?_ ?_
        · intro K hK
          simp only [Act.put, List.setIfInBounds_toArray, List.set_cons_zero, List.set_cons_succ] at hK
          unfold Steps
          rw [if_pos (by rw [HO.out]; kernel_rfl)]
          go_simp
          refine (HA2.out _ hS).mono ?_
          rintro e w9 ⟨rfl, hb9⟩
          exact hK _ _ rfl hb9
        rintro v9 w9 hv9 hb9 hS9
        obtain rfl := hv9
        clear hb9
        replace hS := hS9
        clear hS9
        try simp only [Act.put, List.setIfInBounds_toArray, List.set_cons_zero, List.set_cons_succ]
        refine wpAnyH_one (i := 12) (x := 97) (R := fun v _ => v = .int .i64 az) (by rw [HO.out]; simp only [List.getElem?_toArray, List.getElem?_cons_succ, List.getElem?_cons_zero]; rfl) (by rw [HO.out]; kernel_rfl) hS ?_ ?_
        · intro K hK
          simp only [Act.put, List.setIfInBounds_toArray, List.set_cons_zero, List.set_cons_succ] at hK
          unfold Steps
          rw [if_pos (by rw [HO.out]; kernel_rfl)]
          go_simp
          refine (HAX.out _ (HBW.out _ hS)).mono ?_
          rintro e w9 ⟨rfl, hb9⟩
          exact hK _ _ rfl hb9
        rintro v9 w9 hv9 hb9 hS9
        obtain rfl := hv9
        clear hb9
        replace hS := hS9
        clear hS9
        try simp only [Act.put, List.setIfInBounds_toArray, List.set_cons_zero, List.set_cons_succ]
        refine wpAnyH_take (i := 13) (v := .bool true) (by rw [HO.out]; simp only [List.getElem?_toArray, List.getElem?_cons_succ, List.getElem?_cons_zero]; rfl) (by rw [HO.out]; kernel_rfl) (by rw [HO.out]; kernel_rfl) (by rw [HO.out]; kernel_rfl) (by rw [HQ.out]; exact fun _ _ _ h => h) (Or.inl ⟨by first | rfl | (rw [HO.out]; kernel_rfl), ?_⟩) hS ?_
        · intro w' hSw
          go_simp
        try simp only [Act.put, List.setIfInBounds_toArray, List.set_cons_zero, List.set_cons_succ]
        refine wpAnyH_take (i := 14) (v := .bool true) (by rw [HO.out]; simp only [List.getElem?_toArray, List.getElem?_cons_succ, List.getElem?_cons_zero]; rfl) (by rw [HO.out]; kernel_rfl) (by rw [HO.out]; kernel_rfl) (by rw [HO.out]; kernel_rfl) (by rw [HQ.out]; exact fun _ _ _ h => h) (Or.inl ⟨by first | rfl | (rw [HO.out]; kernel_rfl), ?_⟩) hS ?_
        · intro w' hSw
          go_simp
        try simp only [Act.put, List.setIfInBounds_toArray, List.set_cons_zero, List.set_cons_succ]
        refine wpAnyH_take (i := 15) (v := .bool true) (by rw [HO.out]; simp only [List.getElem?_toArray, List.getElem?_cons_succ, List.getElem?_cons_zero]; rfl) (by rw [HO.out]; kernel_rfl) (by rw [HO.out]; kernel_rfl) (by rw [HO.out]; kernel_rfl) (by rw [HQ.out]; exact fun _ _ _ h => h) (Or.inl ⟨by first | rfl | (rw [HO.out]; kernel_rfl), ?_⟩) hS ?_
        · intro w' hSw
          go_simp
        try simp only [Act.put, List.setIfInBounds_toArray, List.set_cons_zero, List.set_cons_succ]
        refine wpAnyH_take (i := 16) (v := .agg #[.int .i64 d0, .slice a5 y0.length c5]) (by rw [HO.out]; simp only [List.getElem?_toArray, List.getElem?_cons_succ, List.getElem?_cons_zero]; rfl) (by rw [HO.out]; kernel_rfl) (by rw [HO.out]; kernel_rfl) (by rw [HO.out]; kernel_rfl) (by rw [HQ.out]; exact fun _ _ _ h => h) (Or.inl ⟨by first | rfl | (rw [HO.out]; kernel_rfl), ?_⟩) hS ?_
        · intro w' hSw
          have q := (SL.out _ hSw).1
          obtain ⟨q0, q1⟩ := q
          go_simp
        try simp only [Act.put, List.setIfInBounds_toArray, List.set_cons_zero, List.set_cons_succ]
        refine wpAnyH_one (i := 17) (x := 102) (R := fun v _ => v = .int .i64 0) (by rw [HO.out]; simp only [List.getElem?_toArray, List.getElem?_cons_succ, List.getElem?_cons_zero]; rfl) (by rw [HO.out]; kernel_rfl) hS ?_ ?_
        · intro K hK
          simp only [Act.put, List.setIfInBounds_toArray, List.set_cons_zero, List.set_cons_succ] at hK
          unfold Steps
          rw [if_pos (by rw [HO.out]; kernel_rfl)]
          go_simp
          refine (HCY.out _ a5 c5 _ (HV5.out _ hS)).mono ?_
          rintro e w9 ⟨rfl, hb9⟩
          exact hK _ _ rfl hb9
        rintro v9 w9 hv9 hb9 hS9
        obtain rfl := hv9
        clear hb9
        replace hS := hS9
        clear hS9
        try simp only [Act.put, List.setIfInBounds_toArray, List.set_cons_zero, List.set_cons_succ]
        refine wpAnyH_take (i := 18) (v := .bool true) (by rw [HO.out]; simp only [List.getElem?_toArray, List.getElem?_cons_succ, List.getElem?_cons_zero]; rfl) (by rw [HO.out]; kernel_rfl) (by rw [HO.out]; kernel_rfl) (by rw [HO.out]; kernel_rfl) (by rw [HQ.out]; exact fun _ _ _ h => h) (Or.inl ⟨by first | rfl | (rw [HO.out]; kernel_rfl), ?_⟩) hS ?_
        · intro w' hSw
          go_simp
        try simp only [Act.put, List.setIfInBounds_toArray, List.set_cons_zero, List.set_cons_succ]
        refine wpAnyH_take (i := 19) (v := .bool true) (by rw [HO.out]; simp only [List.getElem?_toArray, List.getElem?_cons_succ, List.getElem?_cons_zero]; rfl) (by rw [HO.out]; kernel_rfl) (by rw [HO.out]; kernel_rfl) (by rw [HO.out]; kernel_rfl) (by rw [HQ.out]; exact fun _ _ _ h => h) (Or.inl ⟨by first | rfl | (rw [HO.out]; kernel_rfl), ?_⟩) hS ?_
        · intro w' hSw
          go_simp
        try simp only [Act.put, List.setIfInBounds_toArray, List.set_cons_zero, List.set_cons_succ]
        refine wpAnyH_take (i := 20) (v := .bool true) (by rw [HO.out]; simp only [List.getElem?_toArray, List.getElem?_cons_succ, List.getElem?_cons_zero]; rfl) (by rw [HO.out]; kernel_rfl) (by rw [HO.out]; kernel_rfl) (by rw [HO.out]; kernel_rfl) (by rw [HQ.out]; exact fun _ _ _ h => h) (Or.inl ⟨by first | rfl | (rw [HO.out]; kernel_rfl), ?_⟩) hS ?_
        · intro w' hSw
          go_simp
        try simp only [Act.put, List.setIfInBounds_toArray, List.set_cons_zero, List.set_cons_succ]
        refine wpAnyH_one (i := 21) (x := 106) (R := fun v _ => v = .bool true) (by rw [HO.out]; simp only [List.getElem?_toArray, List.getElem?_cons_succ, List.getElem?_cons_zero]; rfl) (by rw [HO.out]; kernel_rfl) hS ?_ ?_
        · intro K hK
          simp only [Act.put, List.setIfInBounds_toArray, List.set_cons_zero, List.set_cons_succ] at hK
          unfold Steps
          rw [if_pos (by rw [HO.out]; kernel_rfl)]
          go_simp
          refine (HA _).mono ?_
          rintro e w9 ⟨rfl, hb9⟩
          exact hK _ _ rfl hb9
        rintro v9 w9 hv9 hb9 hS9
        obtain rfl := hv9
        clear hb9
        replace hS := hS9
        clear hS9
        try simp only [Act.put, List.setIfInBounds_toArray, List.set_cons_zero, List.set_cons_succ]
        refine wpAnyH_take (i := 22) (v := .bool true) (by rw [HO.out]; simp only [List.getElem?_toArray, List.getElem?_cons_succ, List.getElem?_cons_zero]; rfl) (by rw [HO.out]; kernel_rfl) (by rw [HO.out]; kernel_rfl) (by rw [HO.out]; kernel_rfl) (by rw [HQ.out]; exact fun _ _ _ h => h) (Or.inl ⟨by first | rfl | (rw [HO.out]; kernel_rfl), ?_⟩) hS ?_
        · intro w' hSw
          go_simp
        try simp only [Act.put, List.setIfInBounds_toArray, List.set_cons_zero, List.set_cons_succ]
        refine wpAnyH_take (i := 23) (v := .bool true) (by rw [HO.out]; simp only [List.getElem?_toArray, List.getElem?_cons_succ, List.getElem?_cons_zero]; rfl) (by rw [HO.out]; kernel_rfl) (by rw [HO.out]; kernel_rfl) (by rw [HO.out]; kernel_rfl) (by rw [HQ.out]; exact fun _ _ _ h => h) (Or.inl ⟨by first | rfl | (rw [HO.out]; kernel_rfl), ?_⟩) hS ?_
        · intro w' hSw
          go_simp
        try simp only [Act.put, List.setIfInBounds_toArray, List.set_cons_zero, List.set_cons_succ]
        refine wpAnyH_done (by rw [HO.out]; kernel_rfl) ?_ _
        rw [HQ.out]
        refine NoPanic.normal ?_
        go_wp2
        go_ret
        exact ⟨rfl, HBW.out _ hS⟩
      · rw [if_neg hpar] at hoz
        have t1 : Int.tmod (pk : Int) 2 = 0 := by rw [Int.tmod_eq_emod_of_nonneg (by omega)]; omega
        have t2 : (pk : Int) % 2 = 0 := by omega
        have hoz2 : (pk : Int) + 1 = oz := hoz.symm
        clear hoz
        go_wp2_with (first
          | (go_at_call 26; refine (HST.out _ (pk : Int) BW.out).mono ?_; rintro e w5 ⟨a5, c5, rfl, iv5, b5⟩; clear HST c0 c1 c2 c3 c4 x0 x1; obtain ⟨⟨c3, c4⟩, ⟨x0, x1⟩, l1, l2⟩ := K3.out _ b5)
          | (go_at_call 26; refine (HST2.out _ oz (bt BW.out (bt b5 (one_block _ _)))).mono ?_; rintro e w6 ⟨a6, c6, rfl, iv6, b6⟩; clear HST2))
        obtain ⟨W7, hW7⟩ : ∃ W7, W7 = w6.alloc (.cells #[.int .i64 d0, .slice a6 y0.length c6] 26) := ⟨_, rfl⟩
        have BB5 : Hid (Below w5.heap.size w5 W7) := by rw [hW7]; exact bt (one_block _ _) (bt b6 (one_block _ _))
        have BB3 : Hid (Below w3.heap.size w3 W7) := bt b5 BB5.out
        have SL : Hid (∀ W, Below W7.heap.size W7 W → (W.cell? ⟨w5.heap.size, 0, none⟩ = some (.int .i64 d0) ∧ W.cell? ⟨w5.heap.size, 1, none⟩ = some (.slice a5 y0.length c5)) ∧ (W.cell? ⟨w6.heap.size, 0, none⟩ = some (.int .i64 d0) ∧ W.cell? ⟨w6.heap.size, 1, none⟩ = some (.slice a6 y0.length c6)) ∧ (W.cell? ⟨X, 0, none⟩ = some (.int .i64 d0) ∧ W.cell? ⟨X, 1, none⟩ = some (.slice a0 y0.length cap0)) ∧ W.cell? ⟨w.heap.size + 1, 2, none⟩ = some (.int .i64 i2)) := fun W hW => by
          have k := K3.out _ (bt BB3.out hW)
          refine ⟨?_, ?_, k.2.1, k.1.2⟩
          · rw [hW7] at hW
            exact box2 (bt b6 (bt (one_block _ _) hW))
          · rw [hW7] at hW
            exact box2 hW
        have HV5 : Hid (∀ W, Below W7.heap.size W7 W → IV W a5 (setL d0 y0 (pk : Nat) k2 i2)) := fun W hW => iv5.below (bt BB5.out hW)
        have HV6 : Hid (∀ W, Below W7.heap.size W7 W → IV W a6 (setL d0 y0 oz k2 i2)) := fun W hW => by rw [hW7] at hW; exact iv6.below (bt (one_block _ _) hW)
        have HBW : Hid (∀ W, Below W7.heap.size W7 W → Below w.heap.size w W) := fun W hW => bt BW.out (bt BB3.out hW)
        have HA1 : Hid (∀ W, Below W7.heap.size W7 W → Calls Try.prog 13 #[.agg #[.int .i64 d0, .slice a5 y0.length c5], .string s1] W fun e w' => e = .returned (.int .i64 i2) ∧ Below W.heap.size W w') := fun W hW => by
          have := HAY.out W a5 c5 _ (HV5.out W hW)
          rw [HHIT.out] at this
          exact this
        have HA2 : Hid (∀ W, Below W7.heap.size W7 W → Calls Try.prog 13 #[.agg #[.int .i64 d0, .slice a6 y0.length c6], .string s1] W fun e w' => e = .returned (.int .i64 (atS d0 y0 s1)) ∧ Below W.heap.size W w') := fun W hW => by
          have := HAY.out W a6 c6 _ (HV6.out W hW)
          rw [HMISS.out oz HNE.out] at this
          exact this
        rw [← hW7]
        clear hW7 c3 c4 x0 x1 iv5 iv6 b5 b6 HAY
        generalize atS d0 y0 s1 = az at *
        refine wp_region_noPanic ?_
        refine name_ops ?_
        intro O QQ HO HQ
        refine wp_region_held_drew (S := fun W => Below W7.heap.size W7 W) (by kernel_rfl) (Below.refl _ _).drew (fun hS => ?_)
        rw [show O.size = 24 by rw [HO.out]; rfl]
        refine wpAnyH_take (i := 0) (v := .agg #[.int .i64 d0, .slice a5 y0.length c5]) (by rw [HO.out]; simp only [List.getElem?_toArray, List.getElem?_cons_succ, List.getElem?_cons_zero]; rfl) (by rw [HO.out]; kernel_rfl) (by rw [HO.out]; kernel_rfl) (by rw [HO.out]; kernel_rfl) (by rw [HQ.out]; exact fun _ _ _ h => h) (Or.inl ⟨by first | rfl | (rw [HO.out]; kernel_rfl), ?_⟩) hS ?_
        · intro w' hSw
          have q := (SL.out _ hSw).1
          obtain ⟨q0, q1⟩ := q
          go_simp
        try simp only [Act.put, List.setIfInBounds_toArray, List.set_cons_zero, List.set_cons_succ]
        refine wpAnyH_take (i := 1) (v := .string s1) (by rw [HO.out]; simp only [List.getElem?_toArray, List.getElem?_cons_succ, List.getElem?_cons_zero]; rfl) (by rw [HO.out]; kernel_rfl) (by rw [HO.out]; kernel_rfl) (by rw [HO.out]; kernel_rfl) (by rw [HQ.out]; exact fun _ _ _ h => h) (Or.inl ⟨by first | rfl | (rw [HO.out]; kernel_rfl), ?_⟩) hS ?_
        · intro w' hSw
          go_simp
        try simp only [Act.put, List.setIfInBounds_toArray, List.set_cons_zero, List.set_cons_succ]
        refine wpAnyH_take (i := 3) (v := .pointer (some ⟨w.heap.size + 1, 2, none⟩)) (by rw [HO.out]; simp only [List.getElem?_toArray, List.getElem?_cons_succ, List.getElem?_cons_zero]; rfl) (by rw [HO.out]; kernel_rfl) (by rw [HO.out]; kernel_rfl) (by rw [HO.out]; kernel_rfl) (by rw [HQ.out]; exact fun _ _ _ h => h) (Or.inl ⟨by first | rfl | (rw [HO.out]; kernel_rfl), ?_⟩) hS ?_
        · intro w' hSw
          go_simp
        try simp only [Act.put, List.setIfInBounds_toArray, List.set_cons_zero, List.set_cons_succ]
        refine wpAnyH_take (i := 4) (v := .int .i64 i2) (by rw [HO.out]; simp only [List.getElem?_toArray, List.getElem?_cons_succ, List.getElem?_cons_zero]; rfl) (by rw [HO.out]; kernel_rfl) (by rw [HO.out]; kernel_rfl) (by rw [HO.out]; kernel_rfl) (by rw [HQ.out]; exact fun _ _ _ h => h) (Or.inl ⟨by first | rfl | (rw [HO.out]; kernel_rfl), ?_⟩) hS ?_
        · intro w' hSw
          have q0 := (SL.out _ hSw).2.2.2
          go_simp
        try simp only [Act.put, List.setIfInBounds_toArray, List.set_cons_zero, List.set_cons_succ]
        refine wpAnyH_one (i := 2) (x := 87) (R := fun v _ => v = .int .i64 i2) (by rw [HO.out]; simp only [List.getElem?_toArray, List.getElem?_cons_succ, List.getElem?_cons_zero]; rfl) (by rw [HO.out]; kernel_rfl) hS ?_ ?_
        · intro K hK
          simp only [Act.put, List.setIfInBounds_toArray, List.set_cons_zero, List.set_cons_succ] at hK
          unfold Steps
          rw [if_pos (by rw [HO.out]; kernel_rfl)]
          go_simp
          refine (HA1.out _ hS).mono ?_
          rintro e w9 ⟨rfl, hb9⟩
          exact hK _ _ rfl hb9
        rintro v9 w9 hv9 hb9 hS9
        obtain rfl := hv9
        clear hb9
        replace hS := hS9
        clear hS9
        try simp only [Act.put, List.setIfInBounds_toArray, List.set_cons_zero, List.set_cons_succ]
        refine wpAnyH_take (i := 5) (v := .bool true) (by rw [HO.out]; simp only [List.getElem?_toArray, List.getElem?_cons_succ, List.getElem?_cons_zero]; rfl) (by rw [HO.out]; kernel_rfl) (by rw [HO.out]; kernel_rfl) (by rw [HO.out]; kernel_rfl) (by rw [HQ.out]; exact fun _ _ _ h => h) (Or.inl ⟨by first | rfl | (rw [HO.out]; kernel_rfl), ?_⟩) hS ?_
        · intro w' hSw
          go_simp
        try simp only [Act.put, List.setIfInBounds_toArray, List.set_cons_zero, List.set_cons_succ]
        refine wpAnyH_take (i := 6) (v := .bool true) (by rw [HO.out]; simp only [List.getElem?_toArray, List.getElem?_cons_succ, List.getElem?_cons_zero]; rfl) (by rw [HO.out]; kernel_rfl) (by rw [HO.out]; kernel_rfl) (by rw [HO.out]; kernel_rfl) (by rw [HQ.out]; exact fun _ _ _ h => h) (Or.inl ⟨by first | rfl | (rw [HO.out]; kernel_rfl), ?_⟩) hS ?_
        · intro w' hSw
          go_simp
        try simp only [Act.put, List.setIfInBounds_toArray, List.set_cons_zero, List.set_cons_succ]
        refine wpAnyH_take (i := 7) (v := .agg #[.int .i64 d0, .slice a6 y0.length c6]) (by rw [HO.out]; simp only [List.getElem?_toArray, List.getElem?_cons_succ, List.getElem?_cons_zero]; rfl) (by rw [HO.out]; kernel_rfl) (by rw [HO.out]; kernel_rfl) (by rw [HO.out]; kernel_rfl) (by rw [HQ.out]; exact fun _ _ _ h => h) (Or.inl ⟨by first | rfl | (rw [HO.out]; kernel_rfl), ?_⟩) hS ?_
        · intro w' hSw
          have q := (SL.out _ hSw).2.1
          obtain ⟨q0, q1⟩ := q
          go_simp
        try simp only [Act.put, List.setIfInBounds_toArray, List.set_cons_zero, List.set_cons_succ]
        refine wpAnyH_take (i := 8) (v := .string s1) (by rw [HO.out]; simp only [List.getElem?_toArray, List.getElem?_cons_succ, List.getElem?_cons_zero]; rfl) (by rw [HO.out]; kernel_rfl) (by rw [HO.out]; kernel_rfl) (by rw [HO.out]; kernel_rfl) (by rw [HQ.out]; exact fun _ _ _ h => h) (Or.inl ⟨by first | rfl | (rw [HO.out]; kernel_rfl), ?_⟩) hS ?_
        · intro w' hSw
          go_simp
        try simp only [Act.put, List.setIfInBounds_toArray, List.set_cons_zero, List.set_cons_succ]
        refine wpAnyH_take (i := 10) (v := .agg #[.int .i64 d0, .slice a0 y0.length cap0]) (by rw [HO.out]; simp only [List.getElem?_toArray, List.getElem?_cons_succ, List.getElem?_cons_zero]; rfl) (by rw [HO.out]; kernel_rfl) (by rw [HO.out]; kernel_rfl) (by rw [HO.out]; kernel_rfl) (by rw [HQ.out]; exact fun _ _ _ h => h) (Or.inl ⟨by first | rfl | (rw [HO.out]; kernel_rfl), ?_⟩) hS ?_
        · intro w' hSw
          have q := (SL.out _ hSw).2.2.1
          obtain ⟨q0, q1⟩ := q
          go_simp
        try simp only [Act.put, List.setIfInBounds_toArray, List.set_cons_zero, List.set_cons_succ]
        refine wpAnyH_take (i := 11) (v := .string s1) (by rw [HO.out]; simp only [List.getElem?_toArray, List.getElem?_cons_succ, List.getElem?_cons_zero]; rfl) (by rw [HO.out]; kernel_rfl) (by rw [HO.out]; kernel_rfl) (by rw [HO.out]; kernel_rfl) (by rw [HQ.out]; exact fun _ _ _ h => h) (Or.inl ⟨by first | rfl | (rw [HO.out]; kernel_rfl), ?_⟩) hS ?_
        · intro w' hSw
          go_simp
        try simp only [Act.put, List.setIfInBounds_toArray, List.set_cons_zero, List.set_cons_succ]
        refine wpAnyH_one (i := 9) (x := 94) (R := fun v _ => v = .int .i64 az) (by rw [HO.out]; simp only [List.getElem?_toArray, List.getElem?_cons_succ, List.getElem?_cons_zero]; rfl) (by rw [HO.out]; kernel_rfl) hS ?_ ?_
        · intro K hK
          simp only [Act.put, List.setIfInBounds_toArray, List.set_cons_zero, List.set_cons_succ] at hK
          unfold Steps
          rw [if_pos (by rw [HO.out]; kernel_rfl)]
          go_simp
          refine (HA2.out _ hS).mono ?_
          rintro e w9 ⟨rfl, hb9⟩
          exact hK _ _ rfl hb9
        rintro v9 w9 hv9 hb9 hS9
        obtain rfl := hv9
        clear hb9
        replace hS := hS9
        clear hS9
        try simp only [Act.put, List.setIfInBounds_toArray, List.set_cons_zero, List.set_cons_succ]
        refine wpAnyH_one (i := 12) (x := 97) (R := fun v _ => v = .int .i64 az) (by rw [HO.out]; simp only [List.getElem?_toArray, List.getElem?_cons_succ, List.getElem?_cons_zero]; rfl) (by rw [HO.out]; kernel_rfl) hS ?_ ?_
        · intro K hK
          simp only [Act.put, List.setIfInBounds_toArray, List.set_cons_zero, List.set_cons_succ] at hK
          unfold Steps
          rw [if_pos (by rw [HO.out]; kernel_rfl)]
          go_simp
          refine (HAX.out _ (HBW.out _ hS)).mono ?_
          rintro e w9 ⟨rfl, hb9⟩
          exact hK _ _ rfl hb9
        rintro v9 w9 hv9 hb9 hS9
        obtain rfl := hv9
        clear hb9
        replace hS := hS9
        clear hS9
        try simp only [Act.put, List.setIfInBounds_toArray, List.set_cons_zero, List.set_cons_succ]
        refine wpAnyH_take (i := 13) (v := .bool true) (by rw [HO.out]; simp only [List.getElem?_toArray, List.getElem?_cons_succ, List.getElem?_cons_zero]; rfl) (by rw [HO.out]; kernel_rfl) (by rw [HO.out]; kernel_rfl) (by rw [HO.out]; kernel_rfl) (by rw [HQ.out]; exact fun _ _ _ h => h) (Or.inl ⟨by first | rfl | (rw [HO.out]; kernel_rfl), ?_⟩) hS ?_
        · intro w' hSw
          go_simp
        try simp only [Act.put, List.setIfInBounds_toArray, List.set_cons_zero, List.set_cons_succ]
        refine wpAnyH_take (i := 14) (v := .bool true) (by rw [HO.out]; simp only [List.getElem?_toArray, List.getElem?_cons_succ, List.getElem?_cons_zero]; rfl) (by rw [HO.out]; kernel_rfl) (by rw [HO.out]; kernel_rfl) (by rw [HO.out]; kernel_rfl) (by rw [HQ.out]; exact fun _ _ _ h => h) (Or.inl ⟨by first | rfl | (rw [HO.out]; kernel_rfl), ?_⟩) hS ?_
        · intro w' hSw
          go_simp
        try simp only [Act.put, List.setIfInBounds_toArray, List.set_cons_zero, List.set_cons_succ]
        refine wpAnyH_take (i := 15) (v := .bool true) (by rw [HO.out]; simp only [List.getElem?_toArray, List.getElem?_cons_succ, List.getElem?_cons_zero]; rfl) (by rw [HO.out]; kernel_rfl) (by rw [HO.out]; kernel_rfl) (by rw [HO.out]; kernel_rfl) (by rw [HQ.out]; exact fun _ _ _ h => h) (Or.inl ⟨by first | rfl | (rw [HO.out]; kernel_rfl), ?_⟩) hS ?_
        · intro w' hSw
          go_simp
        try simp only [Act.put, List.setIfInBounds_toArray, List.set_cons_zero, List.set_cons_succ]
        refine wpAnyH_take (i := 16) (v := .agg #[.int .i64 d0, .slice a5 y0.length c5]) (by rw [HO.out]; simp only [List.getElem?_toArray, List.getElem?_cons_succ, List.getElem?_cons_zero]; rfl) (by rw [HO.out]; kernel_rfl) (by rw [HO.out]; kernel_rfl) (by rw [HO.out]; kernel_rfl) (by rw [HQ.out]; exact fun _ _ _ h => h) (Or.inl ⟨by first | rfl | (rw [HO.out]; kernel_rfl), ?_⟩) hS ?_
        · intro w' hSw
          have q := (SL.out _ hSw).1
          obtain ⟨q0, q1⟩ := q
          go_simp
        try simp only [Act.put, List.setIfInBounds_toArray, List.set_cons_zero, List.set_cons_succ]
        refine wpAnyH_one (i := 17) (x := 102) (R := fun v _ => v = .int .i64 0) (by rw [HO.out]; simp only [List.getElem?_toArray, List.getElem?_cons_succ, List.getElem?_cons_zero]; rfl) (by rw [HO.out]; kernel_rfl) hS ?_ ?_
        · intro K hK
          simp only [Act.put, List.setIfInBounds_toArray, List.set_cons_zero, List.set_cons_succ] at hK
          unfold Steps
          rw [if_pos (by rw [HO.out]; kernel_rfl)]
          go_simp
          refine (HCY.out _ a5 c5 _ (HV5.out _ hS)).mono ?_
          rintro e w9 ⟨rfl, hb9⟩
          exact hK _ _ rfl hb9
        rintro v9 w9 hv9 hb9 hS9
        obtain rfl := hv9
        clear hb9
        replace hS := hS9
        clear hS9
        try simp only [Act.put, List.setIfInBounds_toArray, List.set_cons_zero, List.set_cons_succ]
        refine wpAnyH_take (i := 18) (v := .bool true) (by rw [HO.out]; simp only [List.getElem?_toArray, List.getElem?_cons_succ, List.getElem?_cons_zero]; rfl) (by rw [HO.out]; kernel_rfl) (by rw [HO.out]; kernel_rfl) (by rw [HO.out]; kernel_rfl) (by rw [HQ.out]; exact fun _ _ _ h => h) (Or.inl ⟨by first | rfl | (rw [HO.out]; kernel_rfl), ?_⟩) hS ?_
        · intro w' hSw
          go_simp
        try simp only [Act.put, List.setIfInBounds_toArray, List.set_cons_zero, List.set_cons_succ]
        refine wpAnyH_take (i := 19) (v := .bool true) (by rw [HO.out]; simp only [List.getElem?_toArray, List.getElem?_cons_succ, List.getElem?_cons_zero]; rfl) (by rw [HO.out]; kernel_rfl) (by rw [HO.out]; kernel_rfl) (by rw [HO.out]; kernel_rfl) (by rw [HQ.out]; exact fun _ _ _ h => h) (Or.inl ⟨by first | rfl | (rw [HO.out]; kernel_rfl), ?_⟩) hS ?_
        · intro w' hSw
          go_simp
        try simp only [Act.put, List.setIfInBounds_toArray, List.set_cons_zero, List.set_cons_succ]
        refine wpAnyH_take (i := 20) (v := .bool true) (by rw [HO.out]; simp only [List.getElem?_toArray, List.getElem?_cons_succ, List.getElem?_cons_zero]; rfl) (by rw [HO.out]; kernel_rfl) (by rw [HO.out]; kernel_rfl) (by rw [HO.out]; kernel_rfl) (by rw [HQ.out]; exact fun _ _ _ h => h) (Or.inl ⟨by first | rfl | (rw [HO.out]; kernel_rfl), ?_⟩) hS ?_
        · intro w' hSw
          go_simp
        try simp only [Act.put, List.setIfInBounds_toArray, List.set_cons_zero, List.set_cons_succ]
        refine wpAnyH_one (i := 21) (x := 106) (R := fun v _ => v = .bool true) (by rw [HO.out]; simp only [List.getElem?_toArray, List.getElem?_cons_succ, List.getElem?_cons_zero]; rfl) (by rw [HO.out]; kernel_rfl) hS ?_ ?_
        · intro K hK
          simp only [Act.put, List.setIfInBounds_toArray, List.set_cons_zero, List.set_cons_succ] at hK
          unfold Steps
          rw [if_pos (by rw [HO.out]; kernel_rfl)]
          go_simp
          refine (HA _).mono ?_
          rintro e w9 ⟨rfl, hb9⟩
          exact hK _ _ rfl hb9
        rintro v9 w9 hv9 hb9 hS9
        obtain rfl := hv9
        clear hb9
        replace hS := hS9
        clear hS9
        try simp only [Act.put, List.setIfInBounds_toArray, List.set_cons_zero, List.set_cons_succ]
        refine wpAnyH_take (i := 22) (v := .bool true) (by rw [HO.out]; simp only [List.getElem?_toArray, List.getElem?_cons_succ, List.getElem?_cons_zero]; rfl) (by rw [HO.out]; kernel_rfl) (by rw [HO.out]; kernel_rfl) (by rw [HO.out]; kernel_rfl) (by rw [HQ.out]; exact fun _ _ _ h => h) (Or.inl ⟨by first | rfl | (rw [HO.out]; kernel_rfl), ?_⟩) hS ?_
        · intro w' hSw
          go_simp
        try simp only [Act.put, List.setIfInBounds_toArray, List.set_cons_zero, List.set_cons_succ]
        refine wpAnyH_take (i := 23) (v := .bool true) (by rw [HO.out]; simp only [List.getElem?_toArray, List.getElem?_cons_succ, List.getElem?_cons_zero]; rfl) (by rw [HO.out]; kernel_rfl) (by rw [HO.out]; kernel_rfl) (by rw [HO.out]; kernel_rfl) (by rw [HQ.out]; exact fun _ _ _ h => h) (Or.inl ⟨by first | rfl | (rw [HO.out]; kernel_rfl), ?_⟩) hS ?_
        · intro w' hSw
          go_simp
        try simp only [Act.put, List.setIfInBounds_toArray, List.set_cons_zero, List.set_cons_succ]
        refine wpAnyH_done (by rw [HO.out]; kernel_rfl) ?_ _
        rw [HQ.out]
        refine NoPanic.normal ?_
        go_wp2
        go_ret
        exact ⟨rfl, HBW.out _ hS⟩
theorem walk (d0 : Int) (a0 : Option Addr) (len0 cap0 : Nat) (y0 : List Int) (s1 : ByteArray) (p2 k2 i2 : Int) (w : World) (w0 : Sli w a0 len0 cap0 y0 ∧ WfI d0) (w1 : s1.size ≤ maxLen) (w2 : WfI p2 ∧ WfI k2 ∧ WfI i2) : Calls Try.prog 6 #[dv d0 a0 len0 cap0, .string s1, hwv p2 k2 i2] w fun e w' => e = .returned (.bool true) ∧ Below w.heap.size w w' := by
  by_cases h : 300 < len0
  · exact walk_a d0 a0 len0 cap0 y0 s1 p2 k2 i2 w w0 w1 w2 h
  · by_cases h2 : 300 < s1.size
    · exact walk_b d0 a0 len0 cap0 y0 s1 p2 k2 i2 w w0 w1 w2 h h2
    · by_cases h0 : chkE d0 y0 = 0
      · by_cases q1 : k2 < 0
        · exact walk_d d0 a0 len0 cap0 y0 s1 p2 k2 i2 w w0 w1 w2 h h2 h0 q1
        · by_cases q2 : d0 < k2
          · exact walk_e d0 a0 len0 cap0 y0 s1 p2 k2 i2 w w0 w1 w2 h h2 h0 q1 q2
          · by_cases q3 : i2 < 1
            · exact walk_f d0 a0 len0 cap0 y0 s1 p2 k2 i2 w w0 w1 w2 h h2 h0 q1 q2 q3
            · by_cases q4 : 3000 < i2
              · exact walk_g d0 a0 len0 cap0 y0 s1 p2 k2 i2 w w0 w1 w2 h h2 h0 q1 q2 q3 q4
              · exact walk_h d0 a0 len0 cap0 y0 s1 p2 k2 i2 w w0 w1 w2 h h2 h0 q1 q2 q3 q4
      · exact walk_c d0 a0 len0 cap0 y0 s1 p2 k2 i2 w w0 w1 w2 h h2 h0
set_option maxRecDepth 100000 in
theorem lifted (os : Os) (started : os.Started) (H : Type) (enc : TypeId × Value → H) :
    ReturnsInHanded {} Try.checked os 6 .any (Rows.dirSetsSpec.pre6 enc Try.prog Try.f6 Rows.dirSetsRow.domain false) (Rows.dirSetsSpec.post enc Try.prog Try.f6 false true false false) := by
  refine returnsInHanded_of_change (C := Try.checked) own started (by kernel_rfl) Try.func6
    (ChangeSpec.witness6 (enc := enc) (C := Try.checked) false ⟨#[], #[.agg #[.int .i64 0, .slice none 0 0], .string ByteArray.empty, .agg #[.int .i64 0, .int .i64 0, .int .i64 0]], []⟩ 8 (by kernel_rfl) (by kernel_rfl) (by kernel_rfl) (by kernel_rfl)) ?_
  intro W base args ds gs before hval0 hW hcnd _
  have hval : ∀ (j : Nat) t v, Try.f6.params[j]? = some t → args[j]? = some v → Value.okWide Try.prog W .any base t v := hval0
  have hW' := hW
  obtain ⟨p, q, hA0, hV, rfl, hfz, hnd⟩ := hW
  have hA : DataW.TrodAll enc Try.prog W 0 (fun _ => true) true Try.f6.params.toList args.toList ds p := hA0
  rw [Try.params6] at hA hval
  obtain ⟨v0, vs0, d'0, ds0, q0, r'0, hargs, rfl, rfl, h0, r0⟩ := trodAll_cons hA
  obtain ⟨v1, vs1, d'1, ds1, q1, r'1, rfl, rfl, rfl, h1, r1⟩ := trodAll_cons r0
  obtain ⟨v2, vs2, d'2, ds2, q2, r'2, rfl, rfl, rfl, h2, r2⟩ := trodAll_cons r1
  obtain ⟨rfl, rfl, rfl⟩ := trodAll_nil r2
  obtain rfl : args = #[v0, v1, v2] := by cases args; simp_all
  obtain ⟨rfl, rfl⟩ := trodVars_none hV
  have k0' := h0
  have lt0 : ∀ x ∈ q0, x.block < W.heap.size := by obtain ⟨m, hm⟩ := k0'; exact DataW.trod_lt m _ _ _ hm
  obtain ⟨d0, a0, len0, cap0, y0, rfl, w0⟩ := open_d (hval 0 24 v0 rfl rfl) h0
  obtain ⟨s1, rfl, rfl, rfl, w1⟩ := Go.ChangeMaps.open_string Try.underlying9 (hval 1 9 v1 rfl rfl) h1
  have k2' := h2
  have lt2 : ∀ x ∈ q2, x.block < W.heap.size := by obtain ⟨m, hm⟩ := k2'; exact DataW.trod_lt m _ _ _ hm
  obtain ⟨p2, k2, i2, rfl, w2⟩ := open_h (hval 2 44 v2 rfl rfl) h2
  clear hA0 hval0
  refine (walk d0 a0 len0 cap0 y0 s1 p2 k2 i2 W w0 w1 w2).mono fun e W' ⟨he, bel⟩ => ?_
  subst he
  exact ⟨_, rfl, _, _, _, [], _, [], hW', trodAll_mk1 (shut_bool Try.underlying4 _), (trodAll_cons_mk (Below.trod laidOut (by kernel_rfl) (of_decide_eq_true (by kernel_rfl)) k0' bel lt0) (trodAll_cons_mk (Go.ChangeMaps.shut_string Try.underlying9 w1) (trodAll_cons_mk (Below.trod laidOut (by kernel_rfl) (of_decide_eq_true (by kernel_rfl)) k2' bel lt2) trodAll_mk0))), rfl, bel.frame _, fun h => by cases h⟩

theorem over : Rows.dirSetsRow.holds Try.pinned (OpenSpec.ofChange Rows.dirSetsSpec) :=
  OpenClaim.holds_of_wide 6 Try.f6 rfl rfl rfl rfl rfl rfl rfl ⟨rfl, rfl, rfl, rfl, rfl⟩ rfl rfl rfl rfl rfl (by kernel_rfl) Try.func6 (by kernel_rfl)
    (of_decide_eq_true (by kernel_rfl)) (by unfold Func.isWrapper; first | (rw [if_pos (by decide +kernel)]; kernel_rfl) | (rw [if_neg (by decide +kernel)]; exact ⟨rfl, rfl⟩))
    (fun os started H enc _ => lifted os started H enc)
end Go.Proofs.Ytophkfbdhejmcaa.dirSets

namespace Go.Proofs.Ytophkfbdhejmcaa
theorem dirSets_holds : Rows.DirSetsSaid := dirSets.over
#print axioms dirSets_holds
end Go.Proofs.Ytophkfbdhejmcaa
