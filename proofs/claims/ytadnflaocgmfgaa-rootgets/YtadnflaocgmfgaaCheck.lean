/- Check: the program's. -/
import Derived.Test.YtadnflaocgmfgaaInts
import Derived.Test.YtadnflaocgmfgaaSpec
namespace Go.Proofs.Ytadnflaocgmfgaa
open Go.RowKit
set_option linter.unusedVariables false
set_option maxHeartbeats 400000 in
theorem within_any (n lo hi : Int) (w : World) : Calls Try.prog 23 #[.int .i64 n, .int .i64 lo, .int .i64 hi] w fun e w' => e = .returned (.bool (decide (lo ≤ n) && decide (n ≤ hi))) ∧ w' = w := by
  by_cases h1 : lo ≤ n
  · have d1 : decide (lo ≤ n) = true := by simpa using h1
    go_enter Try.func23, Try.ntmps23
    go_wp2
    go_ret
    exact ⟨by rw [d1]; rfl, rfl⟩
  · have d1 : decide (lo ≤ n) = false := by simpa using h1
    go_enter Try.func23, Try.ntmps23
    go_wp2
    go_ret
    exact ⟨rfl, rfl⟩
def wi (lo n hi : Int) : Bool := decide (lo ≤ n) && decide (n ≤ hi)
theorem within_wi (n lo hi : Int) (w : World) : Calls Try.prog 23 #[.int .i64 n, .int .i64 lo, .int .i64 hi] w fun e w' => e = .returned (.bool (wi lo n hi)) ∧ w' = w := within_any n lo hi w
/-- Is a number none of a block? -/
def beyond (B x : Int) : Bool := !(decide (2 ≤ x) && decide (x ≤ B - 1))
set_option maxHeartbeats 400000 in
theorem beyond_any (x B : Int) (rb : Nat) (w : World) (hc : w.cell? ⟨rb, 1, none⟩ = some (.int .i64 B)) (h0 : 2 ≤ B) (h1 : B ≤ 4096) : Calls Try.prog 24 #[.int .i64 x, .pointer (some ⟨rb, 0, none⟩)] w fun e w' => e = .returned (.bool (beyond B x)) ∧ w' = w := by
  have HW := within_any x 2 (B - 1) w
  have hw : wrap64 (B - 1) = B - 1 := by unfold wrap64; omega
  unfold beyond
  generalize (decide (2 ≤ x) && decide (x ≤ B - 1)) = b at *
  go_enter Try.func24, Try.ntmps24
  go_wp2_with (first | (go_at_call 23; refine HW.mono ?_; rintro e w' ⟨rfl, hww⟩; obtain rfl := hww.symm) | fail)
  go_ret
  exact ⟨rfl, rfl⟩
theorem any_take (zs : List Int) (f : Int → Bool) (k : Nat) (h : k < zs.length) : (zs.take (k + 1)).any f = ((zs.take k).any f || f (zs.getD k 0)) := by
  rw [take_snoc zs k h, List.any_append]; simp
set_option maxHeartbeats 800000 in
theorem index_ok (B : Int) (rb b off n c : Nat) (zs : List Int) (w : World) (hl : zs.length = n) (hn : n ≤ 9223372036854775807) (hbl : b < w.heap.size) (hz : ∀ i, i < zs.length → w.cell? ⟨b, off + i, none⟩ = some (.int .i64 (zs.getD i 0))) (hrb : rb < w.heap.size) (hc : w.cell? ⟨rb, 1, none⟩ = some (.int .i64 B)) (h0 : 2 ≤ B) (h1 : B ≤ 4096) :
    Calls Try.prog 43 #[.slice (some ⟨b, off, none⟩) n c, .func (.func 24) #[] #[.pointer (some ⟨rb, 0, none⟩)]] w fun e w' => ∃ k : Int, e = .returned (.int .i64 k) ∧ decide (0 ≤ k) = zs.any (beyond B) ∧ Below w.heap.size w w' := by
  have HB : Hid (∀ W x, Below w.heap.size w W → Calls Try.prog 24 #[.int .i64 x, .pointer (some ⟨rb, 0, none⟩)] W fun e w' => e = .returned (.bool (beyond B x)) ∧ w' = W) := fun W x hb => beyond_any x B rb W ((hb.cell (p := ⟨rb, 1, none⟩) hrb).trans hc) h0 h1
  have HL : Hid (zs.length = n) := hl
  have HZ : Hid (∀ i, i < n → w.cell? ⟨b, off + i, none⟩ = some (.int .i64 (zs.getD i 0))) := fun i hi => hz i (by omega)
  clear hl hz
  go_enter Try.func43, Try.ntmps43
  go_wp2
  go_loopw [8] (fun i wr => ∃ k : Nat, k ≤ n ∧ i = .int .i64 k ∧ Hid ((zs.take k).any (beyond B) = false) ∧ Hid (Below w.heap.size w wr)) (fun i _ => n - (intOf i).toNat)
  case atStart => exact ⟨0, Nat.zero_le _, rfl, rfl, Below.refl _ _⟩
  case round =>
    obtain ⟨k, hk, rfl, HA, HW⟩ := hrel
    by_cases hlt : k < n
    · have hx := (HW.out.cell (p := ⟨b, off + k, none⟩) hbl).trans (HZ.out k hlt)
      have HT : Hid ((zs.take (k + 1)).any (beyond B) = beyond B (zs.getD k 0)) := by
        have := any_take zs (beyond B) k (by rw [HL.out]; exact hlt)
        rw [HA.out, Bool.false_or] at this
        exact this
      have HAN : Hid (beyond B (zs.getD k 0) = true → zs.any (beyond B) = true) := fun h => List.any_eq_true.2 ⟨zs.getD k 0, by
        have h2 := HL.out
        rw [List.getD_eq_getElem?_getD, List.getElem?_eq_getElem (by omega)]
        exact List.getElem_mem _, h⟩
      clear HZ HA
      generalize zs.getD k 0 = x at *
      cases hb : beyond B x with
      | false =>
        rw [hb] at HT
        go_wp2_with (first | (go_at_call 24; refine (HB.out _ x (by first | exact HW.out | exact HW.out.drew)).mono ?_; rintro e w' ⟨rfl, hww⟩; obtain rfl := hww.symm) | fail)
        go_roundw
        case rel => exact ⟨k + 1, by omega, by go_num, HT.out, HW.out⟩
        case measure => simp [intOf]; omega
      | true =>
        have HQ : Hid (zs.any (beyond B) = true) := HAN.out hb
        go_wp2_with (first | (go_at_call 24; refine (HB.out _ x (by first | exact HW.out | exact HW.out.drew)).mono ?_; rintro e w' ⟨rfl, hww⟩; obtain rfl := hww.symm) | fail)
        go_ret
        exact ⟨k, rfl, by rw [HQ.out]; simp, HW.out⟩
    · have : k = n := by omega
      subst this
      have HF : Hid (zs.any (beyond B) = false) := by
        have h := HA.out
        rw [List.take_of_length_le (by rw [HL.out]; exact Nat.le_refl _)] at h
        exact h
      go_wp2
      go_ret
      exact ⟨-1, rfl, by rw [HF.out]; rfl, HW.out⟩

theorem index_zero (B : Int) (rb c : Nat) (a : Option Addr) (w : World) : Calls Try.prog 43 #[.slice a 0 c, .func (.func 24) #[] #[.pointer (some ⟨rb, 0, none⟩)]] w fun e w' => ∃ k : Int, e = .returned (.int .i64 k) ∧ decide (0 ≤ k) = [].any (beyond B) ∧ Below w.heap.size w w' := by
  go_enter Try.func43, Try.ntmps43
  go_wp2
  go_loop [8] (fun i => i = .int .i64 0) (fun _ => 0)
  case atStart => rfl
  case round =>
    obtain rfl := hrel
    go_wp2
    go_ret
    exact ⟨-1, rfl, by decide, Below.refl _ _⟩
def anyB (B : Int) (zs : List Int) : Bool := zs.any (beyond B)
theorem contains_any (B : Int) (rb n c : Nat) (a : Option Addr) (zs : List Int) (w : World) (hl : zs.length = n) (hn : n ≤ 9223372036854775807) (hz : IV w a zs) (hrb : rb < w.heap.size) (hc : w.cell? ⟨rb, 1, none⟩ = some (.int .i64 B)) (h0 : 2 ≤ B) (h1 : B ≤ 4096) :
    Calls Try.prog 25 #[.slice a n c, .func (.func 24) #[] #[.pointer (some ⟨rb, 0, none⟩)]] w fun e w' => e = .returned (.bool (anyB B zs)) ∧ Below w.heap.size w w' := by
  have HI : Calls Try.prog 43 #[.slice a n c, .func (.func 24) #[] #[.pointer (some ⟨rb, 0, none⟩)]] w fun e w' => ∃ k : Int, e = .returned (.int .i64 k) ∧ decide (0 ≤ k) = zs.any (beyond B) ∧ Below w.heap.size w w' := by
    rcases hz with rfl | ⟨b, off, rfl, hb, hcc⟩
    · subst hl; exact index_zero B rb c a w
    · exact index_ok B rb b off n c zs w hl hn hb hcc hrb hc h0 h1
  clear hl hz
  go_enter Try.func25, Try.ntmps25
  go_wp2_with (first | (go_at_call 43; refine HI.mono ?_; rintro e w' ⟨k, rfl, hd, hb⟩; have HD : Hid (decide (0 ≤ k) = zs.any (beyond B)) := hd; clear hd) | fail)
  go_ret
  exact ⟨by unfold anyB; rw [← HD.out]; rfl, hb⟩
theorem limB_wi (r : RD) : limB r = (wi 0 r.E 1099511627776 && wi 2 r.B 4096 && wi 0 r.N 3000 && wi 0 r.S r.N) := rfl
theorem inB_any (B : Int) (zs : List Int) : inB B zs = !anyB B zs := by
  unfold inB anyB
  induction zs with
  | nil => rfl
  | cons z zs ih =>
    rw [List.all_cons, List.any_cons, ih, Bool.not_or]
    congr 1
    unfold beyond
    rw [Bool.not_not]
    have : decide (z < B) = decide (z ≤ B - 1) := by
      by_cases h : z < B
      · rw [decide_eq_true h, decide_eq_true (by omega)]
      · rw [decide_eq_false h, decide_eq_false (by omega)]
    rw [this]
theorem checkE_bad {r : RD} (h : limB r = false) : checkE r = 12 := by unfold checkE; rw [if_pos h]
def rootV (r : RD) (ta : Option Addr) (tc : Nat) (ma : Option Addr) (mc : Nat) : Value := .agg #[.int .i64 r.E, .int .i64 r.B, .int .i64 r.N, .int .i64 r.S, .slice ta r.T.length tc, .slice ma r.M.length mc]
/-- A root's two slices lie in memory. -/
structure Rt (w : World) (r : RD) (ta : Option Addr) (tc : Nat) (ma : Option Addr) (mc : Nat) : Prop where
  t : IV w ta r.T
  m : IV w ma r.M
  tn : ta = none → tc = 0
  mn : ma = none → mc = 0
  tl : r.T.length ≤ tc
  ml : r.M.length ≤ mc
  th : tc ≤ 9223372036854775807
  mh : mc ≤ 9223372036854775807
theorem Rt.below {w w' : World} {r : RD} {ta ma : Option Addr} {tc mc : Nat} (h : Rt w r ta tc ma mc) (hb : Below w.heap.size w w') : Rt w' r ta tc ma mc := ⟨h.t.below hb, h.m.below hb, h.tn, h.mn, h.tl, h.ml, h.th, h.mh⟩
set_option maxHeartbeats 800000 in
theorem check_bad (r : RD) (ta ma : Option Addr) (tc mc : Nat) (w : World) (h : limB r = false) :
    Calls Try.prog 11 #[rootV r ta tc ma mc] w fun e w' => e = .returned (.int .i64 12) ∧ Below w.heap.size w w' := by
  have HW := within_wi
  have hB : Below w.heap.size w (w.alloc (.cells #[.int .i64 r.E, .int .i64 r.B, .int .i64 r.N, .int .i64 r.S, .slice ta r.T.length tc, .slice ma r.M.length mc] 31)) := (Below.refl _ _).alloc (Nat.le_refl _) _
  rw [limB_wi] at h
  unfold rootV
  cases h1 : wi 0 r.E 1099511627776
  · clear h
    go_enter Try.func11, Try.ntmps11
    go_wp2_with (first | (go_at_call 23; refine (HW _ _ _ _).mono ?_; rintro e w' ⟨rfl, hww⟩; obtain rfl := hww.symm) | fail)
    go_ret
    exact ⟨rfl, hB⟩
  · cases h2 : wi 2 r.B 4096
    · clear h
      go_enter Try.func11, Try.ntmps11
      go_wp2_with (first | (go_at_call 23; refine (HW _ _ _ _).mono ?_; rintro e w' ⟨rfl, hww⟩; obtain rfl := hww.symm) | fail)
      go_ret
      exact ⟨rfl, hB⟩
    · cases h3 : wi 0 r.N 3000
      · clear h
        go_enter Try.func11, Try.ntmps11
        go_wp2_with (first | (go_at_call 23; refine (HW _ _ _ _).mono ?_; rintro e w' ⟨rfl, hww⟩; obtain rfl := hww.symm) | fail)
        go_ret
        exact ⟨rfl, hB⟩
      · have h4 : wi 0 r.S r.N = false := by rw [h1, h2, h3] at h; simpa using h
        clear h
        go_enter Try.func11, Try.ntmps11
        go_wp2_with (first | (go_at_call 23; refine (HW _ _ _ _).mono ?_; rintro e w' ⟨rfl, hww⟩; obtain rfl := hww.symm) | fail)
        go_ret
        exact ⟨rfl, hB⟩
end Go.Proofs.Ytadnflaocgmfgaa
