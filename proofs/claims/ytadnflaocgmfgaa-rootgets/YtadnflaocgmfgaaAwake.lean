/- awake, light. -/
import Derived.Test.YtadnflaocgmfgaaBack
import Derived.Test.YtadnflaocgmfgaaSame
namespace Go.Proofs.Ytadnflaocgmfgaa
open Go.RowKit
set_option linter.unusedVariables false
def lightB (r : RD) : Bool := decide (r.T.length ≤ 60) && decide (r.M.length ≤ 60)
set_option maxHeartbeats 400000 in
theorem light_any (r : RD) (ta ma : Option Addr) (tc mc : Nat) (w : World) : Calls Try.prog 7 #[rootV r ta tc ma mc] w fun e w' => e = .returned (.bool (lightB r)) ∧ Below w.heap.size w w' := by
  have B0 : Below w.heap.size w (w.alloc (.cells #[.int .i64 r.E, .int .i64 r.B, .int .i64 r.N, .int .i64 r.S, .slice ta r.T.length tc, .slice ma r.M.length mc] 24)) := (Below.refl _ _).alloc (Nat.le_refl _) _
  unfold rootV lightB
  have e1 : decide ((r.T.length : Int) ≤ 60) = decide (r.T.length ≤ 60) := by by_cases h : r.T.length ≤ 60 <;> simp [h] <;> omega
  have e2 : decide ((r.M.length : Int) ≤ 60) = decide (r.M.length ≤ 60) := by by_cases h : r.M.length ≤ 60 <;> simp [h] <;> omega
  have H1 : Hid (decide ((r.T.length : Int) ≤ 60) = decide (r.T.length ≤ 60)) := e1
  have H2 : Hid (decide ((r.M.length : Int) ≤ 60) = decide (r.M.length ≤ 60)) := e2
  rw [← H1.out, ← H2.out]
  clear e1 e2 H1 H2
  generalize r.T.length = tl at *
  generalize r.M.length = ml at *
  by_cases h1 : (tl : Int) ≤ 60
  · have d1 : decide ((tl : Int) ≤ 60) = true := by simpa using h1
    go_enter Try.func7, Try.ntmps7
    go_wp2
    go_ret
    exact ⟨by rw [d1]; rfl, B0⟩
  · have d1 : decide ((tl : Int) ≤ 60) = false := by simpa using h1
    go_enter Try.func7, Try.ntmps7
    go_wp2
    go_ret
    exact ⟨rfl, B0⟩
def r0 : RD := ⟨5, 9, 1, 1, [2], [3]⟩
theorem r0_ok : r0.Ok := ok_checkE (by decide)
theorem put_front (r : RD) : (putS r).take (frontS r).length = frontS r := by
  rw [show putS r = (frontS r ++ List.replicate (246 - (frontS r).length) 0) ++ dig (more 0 (bodyS r)) 4 ++ dig r.E 6 from rfl, List.append_assoc, List.append_assoc, List.take_left]
theorem r0_front : frontS r0 = [114, 111, 111, 116, 0, 0, 0, 0, 0, 5, 0, 9, 0, 1, 0, 1, 1, 1, 0, 2, 0, 3] := by decide
theorem r0_take : (putS r0).take 22 = [114, 111, 111, 116, 0, 0, 0, 0, 0, 5, 0, 9, 0, 1, 0, 1, 1, 1, 0, 2, 0, 3] := by
  have h := put_front r0
  rw [r0_front] at h
  exact h
theorem get_nil : (getS []).2 ≠ 0 := by
  have : getS [] = (zero, 2) := by unfold getS; rw [if_pos (by decide)]
  rw [this]; decide
theorem chS_right {zs : List Int} {r : RD} (h : getS zs = (r, 0)) (h1 : r.E.tmod 2 = 1) : chS [] zs 2 = ⟨r, 1, 0⟩ := by
  show pick 1 zs (pick 0 [] ⟨zero, 0, 4⟩) = _
  rw [pick_skip1 get_nil, pick_take (by rw [h]) (by rw [h]; exact h1) (Or.inl (by decide)), h]
theorem chS_left {zs : List Int} {r : RD} (h : getS zs = (r, 0)) (h1 : r.E.tmod 2 = 0) : chS zs [] 2 = ⟨r, 0, 0⟩ := by
  show pick 1 [] (pick 0 zs ⟨zero, 0, 4⟩) = _
  rw [pick_skip1 get_nil, pick_take (by rw [h]) (by rw [h]; exact h1) (Or.inl (by decide)), h]
theorem r0_tmod : r0.E.tmod 2 = 1 := by decide
theorem r0_choose : chS [] (putS r0) 2 = ⟨r0, 1, 0⟩ := chS_right (get_put r0_ok) r0_tmod
/-- What Put answers, as the laws have it. -/
theorem put_ans {r : RD} {ta ma : Option Addr} {tc mc : Nat} {w : World} (hr : Rt w r ta tc ma mc) (h : r.Ok) : Calls Try.prog 9 #[rootV r ta tc ma mc] w fun e w' => ∃ pa pc, e = .returned (.tuple #[.slice pa 256 pc, .int .i64 0]) ∧ Hid (BV w' pa (putS r) ∧ (pa = none → pc = 0) ∧ 256 ≤ pc ∧ pc ≤ 9223372036854775807 ∧ Below w.heap.size w w') := by
  refine (put_good r ta ma tc mc w hr h).mono ?_
  rintro e w' ⟨v, rfl, ho, hb⟩
  obtain ⟨pa, pc, rfl, q1, q2, q3, q4⟩ := ho.slice (put_all r)
  rw [put_len h] at q3 ⊢
  exact ⟨pa, pc, rfl, q2, q1, q3, by unfold maxLen at q4; omega, hb⟩
theorem get_ans {r : RD} {pa : Option Addr} {pc : Nat} {w : World} (h : r.Ok) (hb : BV w pa (putS r)) (h1 : 256 ≤ pc) (h2 : pc ≤ 9223372036854775807) : Calls Try.prog 14 #[.slice pa 256 pc] w fun e w' => ∃ ta tc ma mc, e = .returned (.tuple #[rootV r ta tc ma mc, .int .i64 0]) ∧ Hid (Rt w' r ta tc ma mc ∧ Below w.heap.size w w') := by
  have h3 := groot_any pa pc (putS r) w hb (by rw [put_len h]; exact h1) h2
  rw [put_len h, get_put h] at h3
  refine h3.mono ?_
  rintro e w' ⟨ta, tc, ma, mc, rfl, H⟩
  exact ⟨ta, tc, ma, mc, rfl, H.out.1, H.out.2.1⟩
theorem choose_ans {xs ys : List Int} {c : CS} {a b : Option Addr} {n m ca cb : Nat} {w : World} (ha : BV w a xs) (hb : BV w b ys) (hn : xs.length = n) (hm : ys.length = m) (hca : n ≤ ca) (hcb : m ≤ cb) (hma : ca ≤ 9223372036854775807) (hmb : cb ≤ 9223372036854775807) (hc : chS xs ys 2 = c) : Calls Try.prog 16 #[.slice a n ca, .slice b m cb] w fun e w' => ∃ ta tc ma mc, e = .returned (.tuple #[rootV c.r ta tc ma mc, .int .i64 c.n, .int .i64 c.e]) ∧ Hid (Rt w' c.r ta tc ma mc ∧ Below w.heap.size w w' ∧ IVh w.heap.size w' ta c.r.T ∧ IVh w.heap.size w' ma c.r.M) := by
  subst hn; subst hm; subst hc
  exact choose_any a b ca cb xs ys w ha hb hca hcb hma hmb
theorem awake_str : strOfNums [114, 111, 111, 116, 0, 0, 0, 0, 0, 5, 0, 9, 0, 1, 0, 1, 1, 1, 0, 2, 0, 3] = ⟨#[114, 111, 111, 116, 0, 0, 0, 0, 0, 5, 0, 9, 0, 1, 0, 1, 1, 1, 0, 2, 0, 3]⟩ := by decide
theorem rootV_r0 (ta ma : Option Addr) (tc mc : Nat) : rootV r0 ta tc ma mc = .agg #[.int .i64 5, .int .i64 9, .int .i64 1, .int .i64 1, .slice ta 1 tc, .slice ma 1 mc] := rfl
theorem awake_parts (w : World) : ∃ (z0 : List Int) (rr : RD), (z0.length = 256 ∧ z0.take 22 = [114, 111, 111, 116, 0, 0, 0, 0, 0, 5, 0, 9, 0, 1, 0, 1, 1, 1, 0, 2, 0, 3] ∧ AllB z0) ∧
    Calls Try.prog 9 #[.agg #[.int .i64 5, .int .i64 9, .int .i64 1, .int .i64 1, .slice (some ⟨w.heap.size, 0, none⟩) 1 1, .slice (some ⟨w.heap.size + 1, 0, none⟩) 1 1]] ((w.alloc (.cells #[.int .i64 2] 3)).alloc (.cells #[.int .i64 3] 3)) (fun e w' => ∃ pa pc, e = .returned (.tuple #[.slice pa 256 pc, .int .i64 0]) ∧ Hid (BV w' pa z0 ∧ (pa = none → pc = 0) ∧ 256 ≤ pc ∧ pc ≤ 9223372036854775807 ∧ Below w.heap.size w w')) ∧
    (∀ W pa pc, BV W pa z0 → 256 ≤ pc → pc ≤ 9223372036854775807 → Calls Try.prog 14 #[.slice pa 256 pc] W fun e w' => ∃ ta tc ma mc, e = .returned (.tuple #[.agg #[.int .i64 5, .int .i64 9, .int .i64 1, .int .i64 1, .slice ta 1 tc, .slice ma 1 mc], .int .i64 0]) ∧ Hid (Rt w' rr ta tc ma mc ∧ Below W.heap.size W w')) ∧
    (∀ W pa pc, BV W pa z0 → 256 ≤ pc → pc ≤ 9223372036854775807 → Calls Try.prog 16 #[.slice none 0 0, .slice pa 256 pc] W fun e w' => ∃ ta tc ma mc, e = .returned (.tuple #[.agg #[.int .i64 5, .int .i64 9, .int .i64 1, .int .i64 1, .slice ta 1 tc, .slice ma 1 mc], .int .i64 1, .int .i64 0]) ∧ Hid (Rt w' rr ta tc ma mc ∧ Below W.heap.size W w')) ∧
    (∀ W ta tc ma mc sa sc na nc, Rt W rr ta tc ma mc → Rt W rr sa sc na nc → Calls Try.prog 12 #[.agg #[.int .i64 5, .int .i64 9, .int .i64 1, .int .i64 1, .slice ta 1 tc, .slice ma 1 mc], .agg #[.int .i64 5, .int .i64 9, .int .i64 1, .int .i64 1, .slice sa 1 sc, .slice na 1 nc]] W fun e w' => e = .returned (.bool true) ∧ Below W.heap.size W w') := by
  refine ⟨putS r0, r0, ⟨put_len r0_ok, r0_take, put_all r0⟩, ?_, fun W pa pc h1 h2 h3 => ?_, fun W pa pc h1 h2 h3 => ?_, fun W ta tc ma mc sa sc na nc h1 h2 => ?_⟩
  · have hB0 : Below w.heap.size w ((w.alloc (.cells #[.int .i64 2] 3)).alloc (.cells #[.int .i64 3] 3)) := ((Below.refl _ _).alloc (Nat.le_refl _) _).alloc (by simp) _
    have HR0 : Rt ((w.alloc (.cells #[.int .i64 2] 3)).alloc (.cells #[.int .i64 3] 3)) r0 (some ⟨w.heap.size, 0, none⟩) 1 (some ⟨w.heap.size + 1, 0, none⟩) 1 := by
      have t1 := iv_lit w [2]
      have t2 := iv_lit (w.alloc (.cells #[.int .i64 2] 3)) [3]
      rw [World.size_alloc] at t2
      exact ⟨t1.below ((Below.refl _ _).alloc (Nat.le_refl _) _), t2, (by intro h; cases h), (by intro h; cases h), Nat.le_refl _, Nat.le_refl _, by decide, by decide⟩
    have h := put_ans HR0 r0_ok
    rw [rootV_r0] at h
    refine h.mono ?_
    rintro e w' ⟨pa, pc, rfl, H⟩
    exact ⟨pa, pc, rfl, H.out.1, H.out.2.1, H.out.2.2.1, H.out.2.2.2.1, hB0.trans (H.out.2.2.2.2.mono hB0.size)⟩
  · exact get_ans r0_ok h1 h2 h3
  · refine (choose_ans (xs := []) (ys := putS r0) ⟨AllB.nil, .inl rfl⟩ h1 rfl (put_len r0_ok) (Nat.le_refl _) h2 (by decide) h3 r0_choose).mono ?_
    rintro e w' ⟨ta, tc, ma, mc, rfl, H⟩
    exact ⟨ta, tc, ma, mc, rfl, H.out.1, H.out.2.1⟩
  · have h := same_any r0 r0 ta ma tc mc sa na sc nc W h1 h2
    rw [rootV_r0, rootV_r0, (sameB_iff r0 r0).2 rfl] at h
    exact h
set_option maxHeartbeats 1600000 in
theorem awake_any (w : World) : Calls Try.prog 8 #[] w fun e w' => e = .returned (.bool true) ∧ Below w.heap.size w w' := by
  obtain ⟨z0, rr, HZ0, HP0, HGT0, HCH0, HSM0⟩ := awake_parts w
  have HZ : Hid (z0.length = 256 ∧ z0.take 22 = [114, 111, 111, 116, 0, 0, 0, 0, 0, 5, 0, 9, 0, 1, 0, 1, 1, 1, 0, 2, 0, 3] ∧ AllB z0) := HZ0
  have HGT : Hid (∀ W pa pc, BV W pa z0 → 256 ≤ pc → pc ≤ 9223372036854775807 → _) := HGT0
  have HCH : Hid (∀ W pa pc, BV W pa z0 → 256 ≤ pc → pc ≤ 9223372036854775807 → _) := HCH0
  have HSM : Hid (∀ W ta tc ma mc sa sc na nc, Rt W rr ta tc ma mc → Rt W rr sa sc na nc → _) := HSM0
  clear HZ0 HGT0 HCH0 HSM0
  go_enter Try.func8, Try.ntmps8
  go_wp2_with fail
  refine HP0.mono ?_
  rintro e w1 ⟨pa, pc, rfl, H1⟩
  clear HP0
  go_wp2_with (first
    | (go_at_call 14; refine (HGT.out _ pa pc H1.out.1 H1.out.2.2.1 H1.out.2.2.2.1).mono ?_; rintro e w2 ⟨ta, tc, ma, mc, rfl, H2⟩; clear HGT)
    | fail)
  have hb23 : Below w2.heap.size w2 (w2.alloc (.cells #[.int .i64 5, .int .i64 9, .int .i64 1, .int .i64 1, .slice ta 1 tc, .slice ma 1 mc] 31)) := (Below.refl _ _).alloc (Nat.le_refl _) _
  have HB3 : Hid (Below w1.heap.size w1 (w2.alloc (.cells #[.int .i64 5, .int .i64 9, .int .i64 1, .int .i64 1, .slice ta 1 tc, .slice ma 1 mc] 31))) := H2.out.2.trans (hb23.mono H2.out.2.size)
  refine (HCH.out _ pa pc (H1.out.1.below HB3.out) H1.out.2.2.1 H1.out.2.2.2.1).mono ?_
  rintro e w4 ⟨sa, sc, na, nc, rfl, H4⟩
  clear HCH
  have HB4 : Hid (Below w1.heap.size w1 w4) := HB3.out.trans (H4.out.2.mono HB3.out.size)
  have HR4 : Hid (Rt w4 rr ta tc ma mc ∧ Rt w4 rr sa sc na nc) := ⟨(H2.out.1.below hb23).below H4.out.2, H4.out.1⟩
  have X4 : Hid (w4.heap[w2.heap.size]? = some (.cells #[.int .i64 5, .int .i64 9, .int .i64 1, .int .i64 1, .slice ta 1 tc, .slice ma 1 mc] 31 (0, 0))) := (H4.out.2.block w2.heap.size (by simp)).trans (heap_alloc_last _ _)
  have hb45 : Below w4.heap.size w4 (w4.alloc (.cells #[.int .i64 5, .int .i64 9, .int .i64 1, .int .i64 1, .slice sa 1 sc, .slice na 1 nc] 31)) := (Below.refl _ _).alloc (Nat.le_refl _) _
  have hc22 : (22 : Int) ≤ (pc : Int) := by have := H1.out.2.2.1; omega
  have hpc0 : ¬ pc = 0 := by have := H1.out.2.2.1; omega
  have hcv : (convert 27 9 (.slice pa 22 pc)).run Try.prog (w4.alloc (.cells #[.int .i64 5, .int .i64 9, .int .i64 1, .int .i64 1, .slice sa 1 sc, .slice na 1 nc] 31)) = .ok (.string ⟨#[114, 111, 111, 116, 0, 0, 0, 0, 0, 5, 0, 9, 0, 1, 0, 1, 1, 1, 0, 2, 0, 3]⟩) (w4.alloc (.cells #[.int .i64 5, .int .i64 9, .int .i64 1, .int .i64 1, .slice sa 1 sc, .slice na 1 nc] 31)) := by
    have h := conv_bv (cap := pc) (((H1.out.1.below HB4.out).below hb45).take 22) H1.out.2.1
    rw [HZ.out.2.1, awake_str] at h
    exact h
  obtain ⟨x0, x1, x2, x3, x4, x5, _⟩ := RX.of ((hb45.block w2.heap.size (Array.getElem?_eq_some_iff.1 X4.out).1).trans X4.out)
  have HSM5 : Hid (Calls Try.prog 12 _ (w4.alloc (.cells #[.int .i64 5, .int .i64 9, .int .i64 1, .int .i64 1, .slice sa 1 sc, .slice na 1 nc] 31)) _) := HSM.out (w4.alloc (.cells #[.int .i64 5, .int .i64 9, .int .i64 1, .int .i64 1, .slice sa 1 sc, .slice na 1 nc] 31)) ta tc ma mc sa sc na nc (HR4.out.1.below hb45) (HR4.out.2.below hb45)
  have HB5 : Hid (Below w.heap.size w (w4.alloc (.cells #[.int .i64 5, .int .i64 9, .int .i64 1, .int .i64 1, .slice sa 1 sc, .slice na 1 nc] 31))) := H1.out.2.2.2.2.trans ((HB4.out.trans (hb45.mono HB4.out.size)).mono H1.out.2.2.2.2.size)
  clear hb23 HB3 hb45 HSM
  go_wp2_with (first
    | (go_at_call 12; refine HSM5.out.mono ?_; rintro e w6 ⟨rfl, hb6⟩; clear HSM5)
    | fail)
  go_ret
  exact ⟨rfl, HB5.out.trans (hb6.mono HB5.out.size)⟩
end Go.Proofs.Ytadnflaocgmfgaa
