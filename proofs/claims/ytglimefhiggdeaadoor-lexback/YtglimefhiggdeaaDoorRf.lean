/- The document's fixed, single: contracts of single calls. -/
import Derived.Test.YtglimefhiggdeaaDoorRw
import Derived.Below
namespace Go.Proofs.YtglimefhiggdeaaDoor
open Go.RowKit
set_option linter.unusedVariables false
set_option linter.unusedSimpArgs false
set_option maxRecDepth 20000

def zt : Value := .agg #[.int .u8 0, .string ⟨#[]⟩, .int .u8 0, .int .u8 0, .int .i64 0, .string ⟨#[]⟩, .int .i64 0]
def tp (a : Value) (n : Int) : Value := .tuple #[a, .int .i64 n]
/-- fixed, place by place. -/
theorem fix_ifs (l : List UInt8) (hl : l ≠ []) : fixL l =
    if l.getD 0 0 = 40 then some (tok0 0, 1) else if l.getD 0 0 = 41 then some (tok0 1, 1) else if l.getD 0 0 = 123 then some (tok0 2, 1) else if l.getD 0 0 = 125 then some (tok0 3, 1)
    else if preB [60, 60] l = true then some (tok0 4, 2) else if preB [62, 62] l = true then some (tok0 5, 2) else if preB [45, 45, 62] l = true then some (tok0 6, 3)
    else if preB [45, 40] l = true then some (tok0 7, 1) else if preB [60, 61] l = true then some (tokP 3, 2) else if preB [60, 62] l = true then some (tokP 1, 2) else if preB [62, 61] l = true then some (tokP 5, 2) else none := by
  rw [fix_seven]
  unfold ntL
  simp only [mkFrom, prFrom, mkL, sgnL]
  simp only [Nat.reduceAdd, Nat.zero_add, Nat.one_ne_zero, if_true, if_false, Nat.reduceEqDiff, List.length_cons, List.length_nil, Int.reduceEq, Int.cast_ofNat_Int]
  cases l with
  | nil => exact absurd rfl hl
  | cons a t =>
    have hg : ∀ u : UInt8, (preB [u] (a :: t) = true) = ((a :: t).getD 0 0 = u) := fun u => by rw [pre_cons, pre_nil]; simp
    simp only [hg]
    have h6 : ¬ (preB [60, 62] (a :: t) = true ∧ preB [60, 61] (a :: t) = true) := by
      intro hh
      cases t with
      | nil => rw [pre_cons, pre_of_nil] at hh; simp at hh
      | cons b t =>
        rw [pre_cons, pre_cons, pre_cons, pre_cons] at hh
        simp [pre_nil] at hh
        have := hh.1.2.symm.trans hh.2.2
        exact absurd this (by decide)
    generalize (a :: t).getD 0 0 = u
    generalize preB [60, 62] (a :: t) = x at *
    generalize preB [60, 61] (a :: t) = y at *
    generalize preB [60, 60] (a :: t) = p1
    generalize preB [62, 62] (a :: t) = p2
    generalize preB [45, 45, 62] (a :: t) = p3
    generalize preB [45, 40] (a :: t) = p4
    generalize preB [62, 61] (a :: t) = p5
    by_cases u1 : u = 40
    · simp [u1]
    by_cases u2 : u = 41
    · simp [u2]
    by_cases u3 : u = 123
    · simp [u3]
    by_cases u4 : u = 125
    · simp [u4]
    simp only [u1, u2, u3, u4, if_false]
    clear u1 u2 u3 u4 hg hl
    cases x <;> cases y <;> cases p1 <;> cases p2 <;> cases p3 <;> cases p4 <;> cases p5 <;> first | rfl | (exact absurd ⟨rfl, rfl⟩ h6)
theorem sgl_ifs (l : List UInt8) : sglL l = if l.getD 0 0 = 60 then some (tokP 2, 1) else if l.getD 0 0 = 62 then some (tokP 4, 1) else if l.getD 0 0 = 61 then some (tokP 0, 1) else none := sgl_seven l
theorem st0 : st [] = ⟨#[]⟩ := rfl
theorem bxn (w : World) (o : Obj) : Below w.heap.size w (w.alloc o) := (Below.refl _ _).alloc (Nat.le_refl _) _
theorem u8_ne {b : UInt8} {n : Nat} (hn : n < 256) (h : ¬ b = UInt8.ofNat n) : ((b.toNat : Int) == (n : Int)) = false := by
  rw [beq_eq_false_iff_ne]
  intro e
  exact h (UInt8.toNat_inj.1 (by rw [UInt8.toNat_ofNat', Nat.mod_eq_of_lt (by omega)]; omega))
set_option maxHeartbeats 1000000 in
theorem single_any (s : ByteArray) (w : World) (h0 : 0 < s.size) :
    Calls Tryd.prog 35 #[.string s] w fun e w' => e = .returned (tkV (sglL s.data.toList)) ∧ Below w.heap.size w w' := by
  have hg := get_at s 0 h0
  have hz : (0 : Int) < s.size := by omega
  rw [sgl_ifs]
  generalize s.data.toList.getD 0 0 = b at *
  by_cases h60 : b = 60
  · subst h60
    rw [if_pos rfl]
    go_enter Tryd.func35, Tryd.ntmps35
    go_wp2
    exact bodyPost_ret (v := tkV (some (tokP 2, 1))) (by simp [results, Tryd.results35, go_sem, tkV, tv, st, tokP, tok0] <;> rfl) rfl ⟨rfl, bxn _ _⟩
  rw [if_neg h60]
  have m60 : ((b.toNat : Int) == 60) = false := u8_ne (n := 60) (by decide) h60
  by_cases h62 : b = 62
  · subst h62
    rw [if_pos rfl]
    go_enter Tryd.func35, Tryd.ntmps35
    go_wp2
    exact bodyPost_ret (v := tkV (some (tokP 4, 1))) (by simp [results, Tryd.results35, go_sem, tkV, tv, st, tokP, tok0] <;> rfl) rfl ⟨rfl, bxn _ _⟩
  rw [if_neg h62]
  have m62 : ((b.toNat : Int) == 62) = false := u8_ne (n := 62) (by decide) h62
  by_cases h61 : b = 61
  · subst h61
    rw [if_pos rfl]
    go_enter Tryd.func35, Tryd.ntmps35
    go_wp2
    exact bodyPost_ret (v := tkV (some (tokP 0, 1))) (by simp [results, Tryd.results35, go_sem, tkV, tv, st, tokP, tok0] <;> rfl) rfl ⟨rfl, bxn _ _⟩
  rw [if_neg h61]
  have m61 : ((b.toNat : Int) == 61) = false := u8_ne (n := 61) (by decide) h61
  clear h60 h61 h62
  go_enter Tryd.func35, Tryd.ntmps35
  go_wp2
  exact bodyPost_ret (v := tkV (none)) (by simp [results, Tryd.results35, go_sem, tkV, tv, st, tokP, tok0] <;> rfl) rfl ⟨rfl, bxn _ _⟩
set_option maxHeartbeats 4000000 in
theorem fixed_any (s : ByteArray) (w : World) (h0 : 0 < s.size) (hs : s.size ≤ 1000000) :
    Calls Tryd.prog 32 #[.string s] w fun e w' => e = .returned (tkV (fixL s.data.toList)) ∧ Below w.heap.size w w' := by
  have hg := get_at s 0 h0
  have hz : (0 : Int) < s.size := by omega
  rw [fix_ifs _ (by intro e; have := lenL s; rw [e] at this; simp at this; omega)]
  have C0 : ∀ W, Calls Tryd.prog 34 #[.string s, .string ⟨#[60, 60]⟩] W fun e w' => e = .returned (.bool (preB [60, 60] s.data.toList)) ∧ w' = W := fun W => begins_any s ⟨#[60, 60]⟩ W hs (by decide)
  have C1 : ∀ W, Calls Tryd.prog 34 #[.string s, .string ⟨#[62, 62]⟩] W fun e w' => e = .returned (.bool (preB [62, 62] s.data.toList)) ∧ w' = W := fun W => begins_any s ⟨#[62, 62]⟩ W hs (by decide)
  have C2 : ∀ W, Calls Tryd.prog 34 #[.string s, .string ⟨#[45, 45, 62]⟩] W fun e w' => e = .returned (.bool (preB [45, 45, 62] s.data.toList)) ∧ w' = W := fun W => begins_any s ⟨#[45, 45, 62]⟩ W hs (by decide)
  have C3 : ∀ W, Calls Tryd.prog 34 #[.string s, .string ⟨#[45, 40]⟩] W fun e w' => e = .returned (.bool (preB [45, 40] s.data.toList)) ∧ w' = W := fun W => begins_any s ⟨#[45, 40]⟩ W hs (by decide)
  have C4 : ∀ W, Calls Tryd.prog 34 #[.string s, .string ⟨#[60, 61]⟩] W fun e w' => e = .returned (.bool (preB [60, 61] s.data.toList)) ∧ w' = W := fun W => begins_any s ⟨#[60, 61]⟩ W hs (by decide)
  have C5 : ∀ W, Calls Tryd.prog 34 #[.string s, .string ⟨#[60, 62]⟩] W fun e w' => e = .returned (.bool (preB [60, 62] s.data.toList)) ∧ w' = W := fun W => begins_any s ⟨#[60, 62]⟩ W hs (by decide)
  have C6 : ∀ W, Calls Tryd.prog 34 #[.string s, .string ⟨#[62, 61]⟩] W fun e w' => e = .returned (.bool (preB [62, 61] s.data.toList)) ∧ w' = W := fun W => begins_any s ⟨#[62, 61]⟩ W hs (by decide)
  generalize s.data.toList.getD 0 0 = b at *
  generalize preB [60, 60] s.data.toList = p0 at *
  generalize preB [62, 62] s.data.toList = p1 at *
  generalize preB [45, 45, 62] s.data.toList = p2 at *
  generalize preB [45, 40] s.data.toList = p3 at *
  generalize preB [60, 61] s.data.toList = p4 at *
  generalize preB [60, 62] s.data.toList = p5 at *
  generalize preB [62, 61] s.data.toList = p6 at *
  by_cases h40 : b = 40
  · subst h40
    rw [if_pos rfl]
    clear C0 C1 C2 C3 C4 C5 C6
    go_enter Tryd.func32, Tryd.ntmps32
    go_wp2
    exact bodyPost_ret (v := tkV (some (tok0 0, 1))) (by simp [results, Tryd.results32, go_sem, tkV, tv, st, tokP, tok0] <;> rfl) rfl ⟨rfl, bxn _ _⟩
  rw [if_neg h40]
  have m40 : ((b.toNat : Int) == 40) = false := u8_ne (n := 40) (by decide) h40
  by_cases h41 : b = 41
  · subst h41
    rw [if_pos rfl]
    clear C0 C1 C2 C3 C4 C5 C6
    go_enter Tryd.func32, Tryd.ntmps32
    go_wp2
    exact bodyPost_ret (v := tkV (some (tok0 1, 1))) (by simp [results, Tryd.results32, go_sem, tkV, tv, st, tokP, tok0] <;> rfl) rfl ⟨rfl, bxn _ _⟩
  rw [if_neg h41]
  have m41 : ((b.toNat : Int) == 41) = false := u8_ne (n := 41) (by decide) h41
  by_cases h123 : b = 123
  · subst h123
    rw [if_pos rfl]
    clear C0 C1 C2 C3 C4 C5 C6
    go_enter Tryd.func32, Tryd.ntmps32
    go_wp2
    exact bodyPost_ret (v := tkV (some (tok0 2, 1))) (by simp [results, Tryd.results32, go_sem, tkV, tv, st, tokP, tok0] <;> rfl) rfl ⟨rfl, bxn _ _⟩
  rw [if_neg h123]
  have m123 : ((b.toNat : Int) == 123) = false := u8_ne (n := 123) (by decide) h123
  by_cases h125 : b = 125
  · subst h125
    rw [if_pos rfl]
    clear C0 C1 C2 C3 C4 C5 C6
    go_enter Tryd.func32, Tryd.ntmps32
    go_wp2
    exact bodyPost_ret (v := tkV (some (tok0 3, 1))) (by simp [results, Tryd.results32, go_sem, tkV, tv, st, tokP, tok0] <;> rfl) rfl ⟨rfl, bxn _ _⟩
  rw [if_neg h125]
  have m125 : ((b.toNat : Int) == 125) = false := u8_ne (n := 125) (by decide) h125
  clear h40 h41 h123 h125
  cases p0 with
  | true =>
    rw [if_pos rfl]
    go_enter Tryd.func32, Tryd.ntmps32
    go_wp2_with (first | (go_at_call 34; refine (C0 _).mono ?_; rintro e w' ⟨rfl, hw⟩; obtain rfl := hw.symm; clear C0))
    exact bodyPost_ret (v := tkV (some (tok0 4, 2))) (by simp [results, Tryd.results32, go_sem, tkV, tv, st, tokP, tok0] <;> rfl) rfl ⟨rfl, bxn _ _⟩
  | false =>
  rw [if_neg (by simp)]
  cases p1 with
  | true =>
    rw [if_pos rfl]
    go_enter Tryd.func32, Tryd.ntmps32
    go_wp2_with (first | (go_at_call 34; refine (C0 _).mono ?_; rintro e w' ⟨rfl, hw⟩; obtain rfl := hw.symm; clear C0) | (go_at_call 34; refine (C1 _).mono ?_; rintro e w' ⟨rfl, hw⟩; obtain rfl := hw.symm; clear C1))
    exact bodyPost_ret (v := tkV (some (tok0 5, 2))) (by simp [results, Tryd.results32, go_sem, tkV, tv, st, tokP, tok0] <;> rfl) rfl ⟨rfl, bxn _ _⟩
  | false =>
  rw [if_neg (by simp)]
  cases p2 with
  | true =>
    rw [if_pos rfl]
    go_enter Tryd.func32, Tryd.ntmps32
    go_wp2_with (first | (go_at_call 34; refine (C0 _).mono ?_; rintro e w' ⟨rfl, hw⟩; obtain rfl := hw.symm; clear C0) | (go_at_call 34; refine (C1 _).mono ?_; rintro e w' ⟨rfl, hw⟩; obtain rfl := hw.symm; clear C1) | (go_at_call 34; refine (C2 _).mono ?_; rintro e w' ⟨rfl, hw⟩; obtain rfl := hw.symm; clear C2))
    exact bodyPost_ret (v := tkV (some (tok0 6, 3))) (by simp [results, Tryd.results32, go_sem, tkV, tv, st, tokP, tok0] <;> rfl) rfl ⟨rfl, bxn _ _⟩
  | false =>
  rw [if_neg (by simp)]
  cases p3 with
  | true =>
    rw [if_pos rfl]
    go_enter Tryd.func32, Tryd.ntmps32
    go_wp2_with (first | (go_at_call 34; refine (C0 _).mono ?_; rintro e w' ⟨rfl, hw⟩; obtain rfl := hw.symm; clear C0) | (go_at_call 34; refine (C1 _).mono ?_; rintro e w' ⟨rfl, hw⟩; obtain rfl := hw.symm; clear C1) | (go_at_call 34; refine (C2 _).mono ?_; rintro e w' ⟨rfl, hw⟩; obtain rfl := hw.symm; clear C2) | (go_at_call 34; refine (C3 _).mono ?_; rintro e w' ⟨rfl, hw⟩; obtain rfl := hw.symm; clear C3))
    exact bodyPost_ret (v := tkV (some (tok0 7, 1))) (by simp [results, Tryd.results32, go_sem, tkV, tv, st, tokP, tok0] <;> rfl) rfl ⟨rfl, bxn _ _⟩
  | false =>
  rw [if_neg (by simp)]
  cases p4 with
  | true =>
    rw [if_pos rfl]
    go_enter Tryd.func32, Tryd.ntmps32
    go_wp2_with (first | (go_at_call 34; refine (C0 _).mono ?_; rintro e w' ⟨rfl, hw⟩; obtain rfl := hw.symm; clear C0) | (go_at_call 34; refine (C1 _).mono ?_; rintro e w' ⟨rfl, hw⟩; obtain rfl := hw.symm; clear C1) | (go_at_call 34; refine (C2 _).mono ?_; rintro e w' ⟨rfl, hw⟩; obtain rfl := hw.symm; clear C2) | (go_at_call 34; refine (C3 _).mono ?_; rintro e w' ⟨rfl, hw⟩; obtain rfl := hw.symm; clear C3) | (go_at_call 34; refine (C4 _).mono ?_; rintro e w' ⟨rfl, hw⟩; obtain rfl := hw.symm; clear C4))
    exact bodyPost_ret (v := tkV (some (tokP 3, 2))) (by simp [results, Tryd.results32, go_sem, tkV, tv, st, tokP, tok0] <;> rfl) rfl ⟨rfl, bxn _ _⟩
  | false =>
  rw [if_neg (by simp)]
  cases p5 with
  | true =>
    rw [if_pos rfl]
    go_enter Tryd.func32, Tryd.ntmps32
    go_wp2_with (first | (go_at_call 34; refine (C0 _).mono ?_; rintro e w' ⟨rfl, hw⟩; obtain rfl := hw.symm; clear C0) | (go_at_call 34; refine (C1 _).mono ?_; rintro e w' ⟨rfl, hw⟩; obtain rfl := hw.symm; clear C1) | (go_at_call 34; refine (C2 _).mono ?_; rintro e w' ⟨rfl, hw⟩; obtain rfl := hw.symm; clear C2) | (go_at_call 34; refine (C3 _).mono ?_; rintro e w' ⟨rfl, hw⟩; obtain rfl := hw.symm; clear C3) | (go_at_call 34; refine (C4 _).mono ?_; rintro e w' ⟨rfl, hw⟩; obtain rfl := hw.symm; clear C4) | (go_at_call 34; refine (C5 _).mono ?_; rintro e w' ⟨rfl, hw⟩; obtain rfl := hw.symm; clear C5))
    exact bodyPost_ret (v := tkV (some (tokP 1, 2))) (by simp [results, Tryd.results32, go_sem, tkV, tv, st, tokP, tok0] <;> rfl) rfl ⟨rfl, bxn _ _⟩
  | false =>
  rw [if_neg (by simp)]
  cases p6 with
  | true =>
    rw [if_pos rfl]
    go_enter Tryd.func32, Tryd.ntmps32
    go_wp2_with (first | (go_at_call 34; refine (C0 _).mono ?_; rintro e w' ⟨rfl, hw⟩; obtain rfl := hw.symm; clear C0) | (go_at_call 34; refine (C1 _).mono ?_; rintro e w' ⟨rfl, hw⟩; obtain rfl := hw.symm; clear C1) | (go_at_call 34; refine (C2 _).mono ?_; rintro e w' ⟨rfl, hw⟩; obtain rfl := hw.symm; clear C2) | (go_at_call 34; refine (C3 _).mono ?_; rintro e w' ⟨rfl, hw⟩; obtain rfl := hw.symm; clear C3) | (go_at_call 34; refine (C4 _).mono ?_; rintro e w' ⟨rfl, hw⟩; obtain rfl := hw.symm; clear C4) | (go_at_call 34; refine (C5 _).mono ?_; rintro e w' ⟨rfl, hw⟩; obtain rfl := hw.symm; clear C5) | (go_at_call 34; refine (C6 _).mono ?_; rintro e w' ⟨rfl, hw⟩; obtain rfl := hw.symm; clear C6))
    exact bodyPost_ret (v := tkV (some (tokP 5, 2))) (by simp [results, Tryd.results32, go_sem, tkV, tv, st, tokP, tok0] <;> rfl) rfl ⟨rfl, bxn _ _⟩
  | false =>
  rw [if_neg (by simp)]
  go_enter Tryd.func32, Tryd.ntmps32
  go_wp2_with (first | (go_at_call 34; refine (C0 _).mono ?_; rintro e w' ⟨rfl, hw⟩; obtain rfl := hw.symm; clear C0) | (go_at_call 34; refine (C1 _).mono ?_; rintro e w' ⟨rfl, hw⟩; obtain rfl := hw.symm; clear C1) | (go_at_call 34; refine (C2 _).mono ?_; rintro e w' ⟨rfl, hw⟩; obtain rfl := hw.symm; clear C2) | (go_at_call 34; refine (C3 _).mono ?_; rintro e w' ⟨rfl, hw⟩; obtain rfl := hw.symm; clear C3) | (go_at_call 34; refine (C4 _).mono ?_; rintro e w' ⟨rfl, hw⟩; obtain rfl := hw.symm; clear C4) | (go_at_call 34; refine (C5 _).mono ?_; rintro e w' ⟨rfl, hw⟩; obtain rfl := hw.symm; clear C5) | (go_at_call 34; refine (C6 _).mono ?_; rintro e w' ⟨rfl, hw⟩; obtain rfl := hw.symm; clear C6))
  exact bodyPost_ret (v := tkV (none)) (by simp [results, Tryd.results32, go_sem, tkV, tv, st, tokP, tok0] <;> rfl) rfl ⟨rfl, bxn _ _⟩
end Go.Proofs.YtglimefhiggdeaaDoor
