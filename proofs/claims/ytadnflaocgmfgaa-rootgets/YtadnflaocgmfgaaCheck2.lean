/- Check: the program's, whole. -/
import Derived.Test.YtadnflaocgmfgaaCheck
namespace Go.Proofs.Ytadnflaocgmfgaa
open Go.RowKit
set_option linter.unusedVariables false
theorem lim_parts {r : RD} (h : limB r = true) : wi 0 r.E 1099511627776 = true ∧ wi 2 r.B 4096 = true ∧ wi 0 r.N 3000 = true ∧ wi 0 r.S r.N = true := by
  rw [limB_wi] at h
  simp only [Bool.and_eq_true] at h
  exact ⟨h.1.1.1, h.1.1.2, h.1.2, h.2⟩
set_option maxHeartbeats 800000 in
theorem check_long (r : RD) (ta ma : Option Addr) (tc mc : Nat) (w : World) (h : limB r = true) (hl : longB r = true) :
    Calls Try.prog 11 #[rootV r ta tc ma mc] w fun e w' => e = .returned (.int .i64 5) ∧ Below w.heap.size w w' := by
  have HW := within_wi
  have hB : Below w.heap.size w (w.alloc (.cells #[.int .i64 r.E, .int .i64 r.B, .int .i64 r.N, .int .i64 r.S, .slice ta r.T.length tc, .slice ma r.M.length mc] 31)) := (Below.refl _ _).alloc (Nat.le_refl _) _
  obtain ⟨h1, h2, h3, h4⟩ := lim_parts h
  unfold rootV
  clear h
  unfold longB at hl
  generalize r.T.length = tl at *
  generalize r.M.length = ml at *
  by_cases ht : 26 < tl
  · have d1 : decide ((26 : Int) < (tl : Int)) = true := by simp; omega
    clear hl
    go_enter Try.func11, Try.ntmps11
    go_wp2_with (first | (go_at_call 23; refine (HW _ _ _ _).mono ?_; rintro e w' ⟨rfl, hww⟩; obtain rfl := hww.symm) | fail)
    go_ret
    exact ⟨rfl, hB⟩
  · have d1 : decide ((26 : Int) < (tl : Int)) = false := by simp; omega
    have d2 : decide ((3 : Int) < (ml : Int)) = true := by simp at hl ⊢; omega
    clear hl
    go_enter Try.func11, Try.ntmps11
    go_wp2_with (first | (go_at_call 23; refine (HW _ _ _ _).mono ?_; rintro e w' ⟨rfl, hww⟩; obtain rfl := hww.symm) | fail)
    go_ret
    exact ⟨rfl, hB⟩
set_option maxHeartbeats 800000 in
theorem check_rest (r : RD) (ta ma : Option Addr) (tc mc : Nat) (w : World) (h : limB r = true) (hl : longB r = false) (hr : Rt w r ta tc ma mc) :
    Calls Try.prog 11 #[rootV r ta tc ma mc] w fun e w' => e = .returned (.int .i64 (if (inB r.B r.T && inB r.B r.M) = false then 12 else 0)) ∧ Below w.heap.size w w' := by
  have HW := within_wi
  obtain ⟨W, hW⟩ : ∃ W, W = w.alloc (.cells #[.int .i64 r.E, .int .i64 r.B, .int .i64 r.N, .int .i64 r.S, .slice ta r.T.length tc, .slice ma r.M.length mc] 31) := ⟨_, rfl⟩
  have hB : Below w.heap.size w W := by rw [hW]; exact (Below.refl _ _).alloc (Nat.le_refl _) _
  obtain ⟨h1, h2, h3, h4⟩ := lim_parts h
  have hb : 2 ≤ r.B ∧ r.B ≤ 4096 := by simpa [wi] using h2
  have hc : W.cell? ⟨w.heap.size, 1, none⟩ = some (.int .i64 r.B) := by rw [hW]; go_simp
  have hsz : w.heap.size < W.heap.size := by rw [hW]; simp
  have HCT : Hid (∀ W', Below W.heap.size W W' → Calls Try.prog 25 #[.slice ta r.T.length tc, .func (.func 24) #[] #[.pointer (some ⟨w.heap.size, 0, none⟩)]] W' fun e w' => e = .returned (.bool (anyB r.B r.T)) ∧ Below W.heap.size W w') := fun W' hb' => by
    refine (contains_any r.B w.heap.size r.T.length tc ta r.T W' rfl (Nat.le_trans hr.tl hr.th) (hr.t.below (hB.trans (hb'.mono hB.size))) (Nat.lt_of_lt_of_le hsz hb'.size) ((hb'.cell (p := ⟨w.heap.size, 1, none⟩) hsz).trans hc) hb.1 hb.2).mono ?_
    rintro e w' ⟨rfl, h⟩
    exact ⟨rfl, hb'.trans (h.mono hb'.size)⟩
  have HCM : Hid (∀ W', Below W.heap.size W W' → Calls Try.prog 25 #[.slice ma r.M.length mc, .func (.func 24) #[] #[.pointer (some ⟨w.heap.size, 0, none⟩)]] W' fun e w' => e = .returned (.bool (anyB r.B r.M)) ∧ Below W.heap.size W w') := fun W' hb' => by
    refine (contains_any r.B w.heap.size r.M.length mc ma r.M W' rfl (Nat.le_trans hr.ml hr.mh) (hr.m.below (hB.trans (hb'.mono hB.size))) (Nat.lt_of_lt_of_le hsz hb'.size) ((hb'.cell (p := ⟨w.heap.size, 1, none⟩) hsz).trans hc) hb.1 hb.2).mono ?_
    rintro e w' ⟨rfl, h⟩
    exact ⟨rfl, hb'.trans (h.mono hb'.size)⟩
  have HE : Hid ((if (inB r.B r.T && inB r.B r.M) = false then (12 : Int) else 0) = if anyB r.B r.T = true then 12 else if anyB r.B r.M = true then 12 else 0) := by
    rw [inB_any, inB_any]
    show _ = _
    cases anyB r.B r.T <;> cases anyB r.B r.M <;> rfl
  rw [HE.out]
  unfold longB at hl
  have d1 : decide ((26 : Int) < (r.T.length : Int)) = false := by simp at hl ⊢; omega
  have d2 : decide ((3 : Int) < (r.M.length : Int)) = false := by simp at hl ⊢; omega
  have w4 : W.cell? ⟨w.heap.size, 4, none⟩ = some (.slice ta r.T.length tc) := by rw [hW]; go_simp
  have w5 : W.cell? ⟨w.heap.size, 5, none⟩ = some (.slice ma r.M.length mc) := by rw [hW]; go_simp
  have w0 : W.cell? ⟨w.heap.size, 0, none⟩ = some (.int .i64 r.E) := by rw [hW]; go_simp
  have w2 : W.cell? ⟨w.heap.size, 2, none⟩ = some (.int .i64 r.N) := by rw [hW]; go_simp
  have w3 : W.cell? ⟨w.heap.size, 3, none⟩ = some (.int .i64 r.S) := by rw [hW]; go_simp
  clear h hl HE hr
  unfold rootV
  generalize hTL : r.T.length = tl at *
  generalize hML : r.M.length = ml at *
  have hmf : ∀ (fn : Fn) (first cap : Array Value) (w : World), (Instr.makeFunc fn first cap).run Try.prog w = .ok (.func fn first cap) w := fun _ _ _ _ => rfl
  clear hTL hML
  cases hT : anyB r.B r.T
  · rw [hT] at HCT
    cases hM : anyB r.B r.M
    · rw [hM] at HCM
      go_enter Try.func11, Try.ntmps11
      go_wp2_with fail
      rw [← hW]
      clear hW
      refine (HW _ _ _ _).mono ?_
      rintro e w' ⟨rfl, hww⟩
      obtain rfl := hww.symm
      go_wp2_with (first
        | (go_at_call 23; refine (HW _ _ _ _).mono ?_; rintro e w' ⟨rfl, hww⟩; obtain rfl := hww.symm)
        | (go_at_call 25; refine (HCT.out _ (Below.refl _ _)).mono ?_; rintro e w7 ⟨rfl, hb7⟩; have HB7 : Hid (Below W.heap.size W w7) := hb7; have v5 := (hb7.cell (p := ⟨w.heap.size, 5, none⟩) hsz).trans w5; clear HCT hb7)
        | (go_at_call 25; refine (HCM.out _ HB7.out).mono ?_; rintro e w8 ⟨rfl, hb8⟩; have HB8 : Hid (Below W.heap.size W w8) := hb8; clear HCM hb8)
        | fail)
      go_ret
      exact ⟨rfl, hB.trans (HB8.out.mono hB.size)⟩
    · rw [hM] at HCM
      go_enter Try.func11, Try.ntmps11
      go_wp2_with fail
      rw [← hW]
      clear hW
      refine (HW _ _ _ _).mono ?_
      rintro e w' ⟨rfl, hww⟩
      obtain rfl := hww.symm
      go_wp2_with (first
        | (go_at_call 23; refine (HW _ _ _ _).mono ?_; rintro e w' ⟨rfl, hww⟩; obtain rfl := hww.symm)
        | (go_at_call 25; refine (HCT.out _ (Below.refl _ _)).mono ?_; rintro e w7 ⟨rfl, hb7⟩; have HB7 : Hid (Below W.heap.size W w7) := hb7; have v5 := (hb7.cell (p := ⟨w.heap.size, 5, none⟩) hsz).trans w5; clear HCT hb7)
        | (go_at_call 25; refine (HCM.out _ HB7.out).mono ?_; rintro e w8 ⟨rfl, hb8⟩; have HB8 : Hid (Below W.heap.size W w8) := hb8; clear HCM hb8)
        | fail)
      go_ret
      exact ⟨rfl, hB.trans (HB8.out.mono hB.size)⟩
  · rw [hT] at HCT
    go_enter Try.func11, Try.ntmps11
    go_wp2_with fail
    rw [← hW]
    clear hW
    refine (HW _ _ _ _).mono ?_
    rintro e w' ⟨rfl, hww⟩
    obtain rfl := hww.symm
    go_wp2_with (first
      | (go_at_call 23; refine (HW _ _ _ _).mono ?_; rintro e w' ⟨rfl, hww⟩; obtain rfl := hww.symm)
      | (go_at_call 25; refine (HCT.out _ (Below.refl _ _)).mono ?_; rintro e w7 ⟨rfl, hb7⟩; have HB7 : Hid (Below W.heap.size W w7) := hb7; have v5 := (hb7.cell (p := ⟨w.heap.size, 5, none⟩) hsz).trans w5; clear HCT hb7)
      | (go_at_call 25; refine (HCM.out _ HB7.out).mono ?_; rintro e w8 ⟨rfl, hb8⟩; have HB8 : Hid (Below W.heap.size W w8) := hb8; clear HCM hb8)
      | fail)
    go_ret
    exact ⟨rfl, hB.trans (HB7.out.mono hB.size)⟩
theorem check_any (r : RD) (ta ma : Option Addr) (tc mc : Nat) (w : World) (hr : Rt w r ta tc ma mc) :
    Calls Try.prog 11 #[rootV r ta tc ma mc] w fun e w' => e = .returned (.int .i64 (checkE r)) ∧ Below w.heap.size w w' := by
  unfold checkE
  by_cases h1 : limB r = false
  · rw [if_pos h1]; exact check_bad r ta ma tc mc w h1
  · rw [if_neg h1]
    have h1 : limB r = true := by simpa using h1
    by_cases h2 : longB r = true
    · rw [if_pos h2]; exact check_long r ta ma tc mc w h1 h2
    · rw [if_neg h2]; exact check_rest r ta ma tc mc w h1 (by simpa using h2) hr
end Go.Proofs.Ytadnflaocgmfgaa
