/- For every directory and every key the call DirDoubled of the statements returns true and its arguments read as they did: no condition. -/
import Derived.Test.YtophkfbdhejmcaaRows
import Derived.Test.YtophkfbdhejmcaaArg
import Derived.Test.YtophkfbdhejmcaaPu
import Derived.WalkKit
import Derived.ProofKit
import Derived.OpenShut
import Derived.ShutString
import Derived.ChangeOld
import Derived.Below
namespace Go.Proofs.Ytophkfbdhejmcaa.dirDoubled
open Go.ChangeShapes Go.WideShapes Go.ChangeAt Go.RowKit
set_option linter.unusedVariables false
set_option linter.unusedSimpArgs false
set_option maxRecDepth 20000

theorem own : ownKnob Try.prog.godebug = none := by kernel_rfl
theorem laidOut : laidOutB Try.prog = true := by kernel_rfl
set_option maxHeartbeats 1600000 in
theorem walk_a (d0 : Int) (a0 : Option Addr) (len0 cap0 : Nat) (y0 : List Int) (s1 : ByteArray) (w : World) (w0 : Sli w a0 len0 cap0 y0 ∧ WfI d0) (w1 : s1.size ≤ maxLen) (h : 300 < len0) : Calls Try.prog 5 #[dv d0 a0 len0 cap0, .string s1] w fun e w' => e = .returned (.bool true) ∧ Below w.heap.size w w' := by
  have HA := awake_any
  obtain ⟨⟨rfl, hiv, hn, hc, hm, hwf⟩, hd0⟩ := w0
  unfold dv
  have h1 : decide ((300 : Int) < (y0.length : Int)) = true := by simp; omega
  go_enter Try.func5, Try.ntmps5
  go_wp2_with (first | (go_at_call 8; refine (HA _).mono ?_; rintro e wz ⟨rfl, bz⟩; clear HA))
  go_ret
  exact ⟨rfl, bt (one_block _ _) bz⟩
set_option maxHeartbeats 1600000 in
theorem walk_b (d0 : Int) (a0 : Option Addr) (len0 cap0 : Nat) (y0 : List Int) (s1 : ByteArray) (w : World) (w0 : Sli w a0 len0 cap0 y0 ∧ WfI d0) (w1 : s1.size ≤ maxLen) (h : ¬ 300 < len0) (h2 : 300 < s1.size) : Calls Try.prog 5 #[dv d0 a0 len0 cap0, .string s1] w fun e w' => e = .returned (.bool true) ∧ Below w.heap.size w w' := by
  have HA := awake_any
  obtain ⟨⟨rfl, hiv, hn, hc, hm, hwf⟩, hd0⟩ := w0
  unfold dv
  have h1 : decide ((300 : Int) < (y0.length : Int)) = false := by simp; omega
  have h3 : decide ((300 : Int) < (s1.size : Int)) = true := by simp; omega
  unfold maxLen at w1
  go_enter Try.func5, Try.ntmps5
  go_wp2_with (first | (go_at_call 8; refine (HA _).mono ?_; rintro e wz ⟨rfl, bz⟩; clear HA))
  go_ret
  exact ⟨rfl, bt (one_block _ _) bz⟩
theorem boxes2 {w W : World} {t t' : Nat} {x y x' y' : Value} (hb : Below ((w.alloc (.cells #[x, y] t)).alloc (.cells #[x', y'] t')).heap.size ((w.alloc (.cells #[x, y] t)).alloc (.cells #[x', y'] t')) W) :
    W.cell? ⟨w.heap.size, 0, none⟩ = some x ∧ W.cell? ⟨w.heap.size, 1, none⟩ = some y ∧ W.cell? ⟨w.heap.size + 1, 0, none⟩ = some x' ∧ W.cell? ⟨w.heap.size + 1, 1, none⟩ = some y' :=
  ⟨(hb.cell (p := ⟨w.heap.size, 0, none⟩) (by simp; omega)).trans (by go_simp), (hb.cell (p := ⟨w.heap.size, 1, none⟩) (by simp; omega)).trans (by go_simp), (hb.cell (p := ⟨w.heap.size + 1, 0, none⟩) (by simp)).trans (by go_simp), (hb.cell (p := ⟨w.heap.size + 1, 1, none⟩) (by simp)).trans (by go_simp)⟩
set_option maxHeartbeats 3200000 in
theorem walk_c (d0 : Int) (a0 : Option Addr) (len0 cap0 : Nat) (y0 : List Int) (s1 : ByteArray) (w : World) (w0 : Sli w a0 len0 cap0 y0 ∧ WfI d0) (w1 : s1.size ≤ maxLen) (h : ¬ 300 < len0) (h2 : ¬ 300 < s1.size) (hk : dblB d0 y0 = false) : Calls Try.prog 5 #[dv d0 a0 len0 cap0, .string s1] w fun e w' => e = .returned (.bool true) ∧ Below w.heap.size w w' := by
  have HA := awake_any
  obtain ⟨⟨rfl, hiv, hn, hc, hm, hwf⟩, hd0⟩ := w0
  unfold dv
  have h1 : decide ((300 : Int) < (y0.length : Int)) = false := by simp; omega
  have h3 : decide ((300 : Int) < (s1.size : Int)) = false := by simp; omega
  have HW1 : Hid (s1.size ≤ maxLen) := w1
  clear w1 hc hm hwf hd0
  obtain ⟨W0, hW0⟩ : ∃ W0, W0 = (w.alloc (.cells #[.int .i64 d0, .slice a0 y0.length cap0] 24)).alloc (.cells #[.int .i64 d0, .slice a0 y0.length cap0] 26) := ⟨_, rfl⟩
  have HB0 : Hid (Below w.heap.size w W0) := by rw [hW0]; exact two_blocks _ _ _
  have HS0 : Hid (W0.heap.size = w.heap.size + 1 + 1) := by rw [hW0]; simp [Hid]
  have CL : Hid (∀ W, Below W0.heap.size W0 W → W.cell? ⟨w.heap.size, 0, none⟩ = some (.int .i64 d0) ∧ W.cell? ⟨w.heap.size, 1, none⟩ = some (.slice a0 y0.length cap0) ∧ W.cell? ⟨w.heap.size + 1, 0, none⟩ = some (.int .i64 d0) ∧ W.cell? ⟨w.heap.size + 1, 1, none⟩ = some (.slice a0 y0.length cap0)) := fun W hW => by
    rw [hW0] at hW
    exact boxes2 hW
  have HIV : Hid (∀ W, Below w.heap.size w W → IV W a0 y0) := fun W hW => hiv.below hW
  have HC : Hid (∀ W, Below w.heap.size w W → Calls Try.prog 11 #[.agg #[.int .i64 d0, .slice a0 y0.length cap0]] W fun e w' => e = .returned (.int .i64 (chkE d0 y0)) ∧ Below W.heap.size W w') := fun W hW => check_any d0 a0 cap0 y0 W (HIV.out W hW) (by omega)
  have HD : Hid (Calls Try.prog 22 #[.agg #[.int .i64 d0, .slice a0 y0.length cap0]] W0 fun e w' => ∃ a2 n2 c2, e = .returned (.tuple #[.agg #[.int .i64 d0, .slice a2 n2 c2], .bool false]) ∧ Below W0.heap.size W0 w') := by
    have := double_any d0 a0 cap0 y0 W0 (HIV.out _ HB0.out) (by omega) hn
    unfold dblD at this
    rw [hk] at this
    refine this.mono ?_
    rintro e w2 ⟨v2, rfl, ⟨a2, c2, rfl, n2, iv2⟩, b2⟩
    exact ⟨a2, _, c2, rfl, b2⟩
  have hor : ¬ chkE d0 y0 = 0 ∨ d0 = 10 := by
    unfold dblB at hk
    by_cases e1 : chkE d0 y0 = 0
    · by_cases e2 : d0 = 10
      · exact .inr e2
      · rw [decide_eq_true e1, decide_eq_false e2] at hk; cases hk
    · exact .inl e1
  clear hiv hk
  by_cases e1 : chkE d0 y0 = 0
  · rw [e1] at HC hor
    obtain h | rfl := hor
    · exact absurd rfl h
    clear e1
    go_enter Try.func5, Try.ntmps5
    go_wp2_with (first
      | (go_at_call 22; rw [← hW0]; refine HD.out.mono ?_; rintro e w2 ⟨a2, n2, c2, rfl, b2⟩; clear hW0; obtain ⟨c0, c1, c2', c3⟩ := CL.out _ b2; have hz : w.heap.size < w2.heap.size := (by have := HS0.out; have := b2.size; omega); have hz1 : w.heap.size + 1 < w2.heap.size := (by have := HS0.out; have := b2.size; omega))
      | (go_at_call 11; refine (HC.out _ (bt HB0.out (bt b2 (one_block _ _)))).mono ?_; rintro e w3 ⟨rfl, b3⟩; clear c0 c1 c2' c3; obtain ⟨c0, c1, c2', c3⟩ := CL.out _ (bt b2 (bt (one_block _ _) b3)))
      | (go_at_call 8; refine (HA _).mono ?_; rintro e wz ⟨rfl, bz⟩; clear HA))
    go_ret
    exact ⟨rfl, bt HB0.out (bt b2 (bt (one_block _ _) (bt b3 bz)))⟩
  · clear hor
    generalize chkE d0 y0 = x at *
    go_enter Try.func5, Try.ntmps5
    go_wp2_with (first
      | (go_at_call 22; rw [← hW0]; refine HD.out.mono ?_; rintro e w2 ⟨a2, n2, c2, rfl, b2⟩; clear hW0; obtain ⟨c0, c1, c2', c3⟩ := CL.out _ b2; have hz : w.heap.size < w2.heap.size := (by have := HS0.out; have := b2.size; omega); have hz1 : w.heap.size + 1 < w2.heap.size := (by have := HS0.out; have := b2.size; omega))
      | (go_at_call 11; refine (HC.out _ (bt HB0.out (bt b2 (one_block _ _)))).mono ?_; rintro e w3 ⟨rfl, b3⟩; clear c0 c1 c2' c3; obtain ⟨c0, c1, c2', c3⟩ := CL.out _ (bt b2 (bt (one_block _ _) b3)))
      | (go_at_call 8; refine (HA _).mono ?_; rintro e wz ⟨rfl, bz⟩; clear HA))
    go_ret
    exact ⟨rfl, bt HB0.out (bt b2 (bt (one_block _ _) (bt b3 bz)))⟩
set_option maxHeartbeats 6400000 in
theorem walk_d (d0 : Int) (a0 : Option Addr) (len0 cap0 : Nat) (y0 : List Int) (s1 : ByteArray) (w : World) (w0 : Sli w a0 len0 cap0 y0 ∧ WfI d0) (w1 : s1.size ≤ maxLen) (h : ¬ 300 < len0) (h2 : ¬ 300 < s1.size) (h0 : chkE d0 y0 = 0) (h10 : ¬ d0 = 10) : Calls Try.prog 5 #[dv d0 a0 len0 cap0, .string s1] w fun e w' => e = .returned (.bool true) ∧ Below w.heap.size w w' := by
  have HA := awake_any
  obtain ⟨⟨rfl, hiv, hn, hc, hm, hwf⟩, hd0⟩ := w0
  unfold dv
  have h1 : decide ((300 : Int) < (y0.length : Int)) = false := by simp; omega
  have h3 : decide ((300 : Int) < (s1.size : Int)) = false := by simp; omega
  have HW1 : Hid (s1.size ≤ maxLen) := w1
  clear w1 hc hm hwf hd0
  obtain ⟨W0, hW0⟩ : ∃ W0, W0 = (w.alloc (.cells #[.int .i64 d0, .slice a0 y0.length cap0] 24)).alloc (.cells #[.int .i64 d0, .slice a0 y0.length cap0] 26) := ⟨_, rfl⟩
  have HB0 : Hid (Below w.heap.size w W0) := by rw [hW0]; exact two_blocks _ _ _
  have HS0 : Hid (W0.heap.size = w.heap.size + 1 + 1) := by rw [hW0]; simp [Hid]
  have CL : Hid (∀ W, Below W0.heap.size W0 W → W.cell? ⟨w.heap.size, 0, none⟩ = some (.int .i64 d0) ∧ W.cell? ⟨w.heap.size, 1, none⟩ = some (.slice a0 y0.length cap0) ∧ W.cell? ⟨w.heap.size + 1, 0, none⟩ = some (.int .i64 d0) ∧ W.cell? ⟨w.heap.size + 1, 1, none⟩ = some (.slice a0 y0.length cap0)) := fun W hW => by
    rw [hW0] at hW
    exact boxes2 hW
  have HIV : Hid (∀ W, Below w.heap.size w W → IV W a0 y0) := fun W hW => hiv.below hW
  obtain ⟨ds, hds⟩ : ∃ ds, ds = tabL (dblF y0) (2 * y0.length) := ⟨_, rfl⟩
  have hdl : ds.length ≤ 600 := by rw [hds, tabL_len]; omega
  have HD : Hid (Calls Try.prog 22 #[.agg #[.int .i64 d0, .slice a0 y0.length cap0]] W0 fun e w' => ∃ a2 c2, e = .returned (.tuple #[.agg #[.int .i64 (d0 + 1), .slice a2 ds.length c2], .bool true]) ∧ (a2 = none → c2 = 0) ∧ IV w' a2 ds ∧ Below W0.heap.size W0 w') := by
    have := double_any d0 a0 cap0 y0 W0 (HIV.out _ HB0.out) (by omega) hn
    unfold dblD dblL at this
    rw [show dblB d0 y0 = true by unfold dblB; rw [decide_eq_true h0, decide_eq_false h10]; rfl] at this
    refine this.mono ?_
    rintro e w2 ⟨v2, rfl, ⟨a2, c2, rfl, n2, iv2⟩, b2⟩
    rw [if_pos rfl, ← hds] at iv2
    exact ⟨a2, c2, by rw [if_pos rfl, if_pos rfl, hds]; rfl, n2, iv2, b2⟩
  have HH : Hid (∀ W a c, (a = none → c = 0) → IV W a ds → Calls Try.prog 24 #[.agg #[.int .i64 (d0 + 1), .slice a ds.length c]] W fun e w' => ∃ a4 c4, e = .returned (.tuple #[.agg #[.int .i64 d0, .slice a4 y0.length c4], .bool true]) ∧ IV w' a4 y0 ∧ Below W.heap.size W w') := fun W a c hn hv => by
    have := halve_any (d0 + 1) a c ds W hv (by omega) hn
    obtain ⟨q1, q2, q3⟩ := hlv_dbl h0 h10
    rw [hds, q1, q2, q3, ← hds] at this
    refine this.mono ?_
    rintro e w2 ⟨v2, rfl, ⟨a2, c2, rfl, n2, iv2⟩, b2⟩
    exact ⟨a2, c2, rfl, iv2, b2⟩
  have HC : Hid (∀ W a c, IV W a ds → Calls Try.prog 11 #[.agg #[.int .i64 (d0 + 1), .slice a ds.length c]] W fun e w' => e = .returned (.int .i64 0) ∧ Below W.heap.size W w') := fun W a c hv => by
    have := check_any (d0 + 1) a c ds W hv (by omega)
    rw [hds, chk_dbl h0 h10, ← hds] at this
    exact this
  have HAX : Hid (∀ W, Below w.heap.size w W → Calls Try.prog 13 #[.agg #[.int .i64 d0, .slice a0 y0.length cap0], .string s1] W fun e w' => e = .returned (.int .i64 (atS d0 y0 s1)) ∧ Below W.heap.size W w') := fun W hW => at_any d0 a0 cap0 y0 s1 W (HIV.out W hW) (by omega) HW1.out
  have HAY : Hid (∀ W a c, IV W a ds → Calls Try.prog 13 #[.agg #[.int .i64 (d0 + 1), .slice a ds.length c], .string s1] W fun e w' => e = .returned (.int .i64 (atS d0 y0 s1)) ∧ Below W.heap.size W w') := fun W a c hv => by
    have := at_any (d0 + 1) a c ds s1 W hv (by omega) HW1.out
    rw [hds, at_dbl s1 h0 h10, ← hds] at this
    exact this
  have hd := (chkE_ok h0).1
  have hlx : topK d0 s1 < 1024 := Nat.lt_of_lt_of_le (topK_lt s1 hd) (pw_le hd).2
  have HPX : Hid (∀ W, Below w.heap.size w W → Calls Try.prog 15 #[.agg #[.int .i64 d0, .slice a0 y0.length cap0], .string s1] W fun e w' => e = .returned (.int .i64 (topK d0 s1 : Nat)) ∧ Below W.heap.size W w') := fun W hW => by
    have := place_any d0 a0 cap0 y0 s1 W (HIV.out W hW) (by omega) HW1.out
    unfold placeS at this
    rw [if_pos h0] at this
    exact this
  have HPY : Hid (∀ W a c, IV W a ds → Calls Try.prog 15 #[.agg #[.int .i64 (d0 + 1), .slice a ds.length c], .string s1] W fun e w' => e = .returned (.int .i64 (topK (d0 + 1) s1 : Nat)) ∧ Below W.heap.size W w') := fun W a c hv => by
    have := place_any (d0 + 1) a c ds s1 W hv (by omega) HW1.out
    unfold placeS at this
    rw [hds, if_pos (chk_dbl h0 h10), ← hds] at this
    exact this
  have HT : topK (d0 + 1) s1 / 2 = topK d0 s1 := topK_succ s1 (by omega)
  have HSM : Hid (∀ W b c, Below w.heap.size w W → IV W b y0 → Calls Try.prog 20 #[.agg #[.int .i64 d0, .slice a0 y0.length cap0], .agg #[.int .i64 d0, .slice b y0.length c]] W fun e w' => e = .returned (.bool true) ∧ Below W.heap.size W w') := fun W b c hW hv => by
    have := same_any d0 d0 a0 b cap0 c y0 y0 W (HIV.out W hW) hv (by omega) (by omega)
    rw [sameD_refl] at this
    exact this
  have hpy : topK (d0 + 1) s1 ≤ 4096 := by omega
  have tq1 : Int.tdiv ((topK (d0 + 1) s1 : Nat) : Int) 2 = ((topK d0 s1 : Nat) : Int) := by rw [Int.tdiv_eq_ediv_of_nonneg (by omega)]; omega
  have tq2 : ((topK (d0 + 1) s1 : Nat) : Int) / 2 = ((topK d0 s1 : Nat) : Int) := by omega
  clear hds h0 h10 hd hiv HT
  generalize topK (d0 + 1) s1 = ty at *
  generalize topK d0 s1 = tx at *
  generalize atS d0 y0 s1 = az at *
  go_enter Try.func5, Try.ntmps5
  go_wp2_with (first
    | (go_at_call 22; rw [← hW0]; refine HD.out.mono ?_; rintro e w2 ⟨a2, c2, rfl, n2, iv2, b2⟩; clear hW0; obtain ⟨c0, c1, c2', c3⟩ := CL.out _ b2; have hz : w.heap.size < w2.heap.size := (by have := HS0.out; have := b2.size; omega); have hz1 : w.heap.size + 1 < w2.heap.size := (by have := HS0.out; have := b2.size; omega))
    | (go_at_call 24; refine (HH.out _ a2 c2 n2 (iv2.below (one_block _ _))).mono ?_; rintro e w4 ⟨a4, c4, rfl, iv4, b4⟩))
  obtain ⟨W5, hW5⟩ : ∃ W5, W5 = w4.alloc (.cells #[.int .i64 d0, .slice a4 y0.length c4] 26) := ⟨_, rfl⟩
  have BB2 : Hid (Below w2.heap.size w2 W5) := by rw [hW5]; exact bt (one_block _ _) (bt b4 (one_block _ _))
  have BB : Hid (Below W0.heap.size W0 W5) := bt b2 BB2.out
  have SL : Hid (∀ W, Below W5.heap.size W5 W → (W.cell? ⟨w.heap.size + 1, 0, none⟩ = some (.int .i64 d0) ∧ W.cell? ⟨w.heap.size + 1, 1, none⟩ = some (.slice a0 y0.length cap0)) ∧ (W.cell? ⟨w2.heap.size, 0, none⟩ = some (.int .i64 (d0 + 1)) ∧ W.cell? ⟨w2.heap.size, 1, none⟩ = some (.slice a2 ds.length c2)) ∧ (W.cell? ⟨w4.heap.size, 0, none⟩ = some (.int .i64 d0) ∧ W.cell? ⟨w4.heap.size, 1, none⟩ = some (.slice a4 y0.length c4))) := fun W hW => by
    refine ⟨(CL.out _ (bt BB.out hW)).2.2, ?_, ?_⟩
    · rw [hW5] at hW
      exact box2 (bt b4 (bt (one_block _ _) hW))
    · rw [hW5] at hW
      exact box2 hW
  have HV2 : Hid (∀ W, Below W5.heap.size W5 W → IV W a2 ds) := fun W hW => iv2.below (bt BB2.out hW)
  have HV4 : Hid (∀ W, Below W5.heap.size W5 W → IV W a4 y0) := fun W hW => by rw [hW5] at hW; exact iv4.below (bt (one_block _ _) hW)
  have HBW : Hid (∀ W, Below W5.heap.size W5 W → Below w.heap.size w W) := fun W hW => bt HB0.out (bt BB.out hW)
  rw [← hW5]
  clear hW5 c0 c1 c2' c3 iv2 iv4 b4 b2 HD HH
  refine wp_region_noPanic ?_
  refine name_ops ?_
  intro O QQ HO HQ
  refine wp_region_held_drew (S := fun W => Below W5.heap.size W5 W) (by kernel_rfl) (Below.refl _ _).drew (fun hS => ?_)
  rw [show O.size = 34 by rw [HO.out]; rfl]
  refine wpAnyH_take (i := 0) (v := .agg #[.int .i64 (d0 + 1), .slice a2 ds.length c2]) (by rw [HO.out]; simp only [List.getElem?_toArray, List.getElem?_cons_succ, List.getElem?_cons_zero]; rfl) (by rw [HO.out]; kernel_rfl) (by rw [HO.out]; kernel_rfl) (by rw [HO.out]; kernel_rfl) (by rw [HQ.out]; exact fun _ _ _ h => h) (Or.inl ⟨by first | rfl | (rw [HO.out]; kernel_rfl), ?_⟩) hS ?_
  · intro w' hSw
    have q := (SL.out _ hSw).2.1
    obtain ⟨q0, q1⟩ := q
    go_simp
  try simp only [Act.put, List.setIfInBounds_toArray, List.set_cons_zero, List.set_cons_succ]
  refine wpAnyH_one (i := 1) (x := 45) (R := fun v _ => v = .int .i64 0) (by rw [HO.out]; simp only [List.getElem?_toArray, List.getElem?_cons_succ, List.getElem?_cons_zero]; rfl) (by rw [HO.out]; kernel_rfl) hS ?_ ?_
  · intro K hK
    simp only [Act.put, List.setIfInBounds_toArray, List.set_cons_zero, List.set_cons_succ] at hK
    unfold Steps
    rw [if_pos (by rw [HO.out]; kernel_rfl)]
    go_simp
    refine (HC.out _ a2 c2 (HV2.out _ hS)).mono ?_
    rintro e w9 ⟨rfl, hb9⟩
    exact hK _ _ rfl hb9
  rintro v9 w9 hv9 hb9 hS9
  obtain rfl := hv9
  clear hb9
  replace hS := hS9
  clear hS9
  try simp only [Act.put, List.setIfInBounds_toArray, List.set_cons_zero, List.set_cons_succ]
  refine wpAnyH_take (i := 2) (v := .bool true) (by rw [HO.out]; simp only [List.getElem?_toArray, List.getElem?_cons_succ, List.getElem?_cons_zero]; rfl) (by rw [HO.out]; kernel_rfl) (by rw [HO.out]; kernel_rfl) (by rw [HO.out]; kernel_rfl) (by rw [HQ.out]; exact fun _ _ _ h => h) (Or.inl ⟨by first | rfl | (rw [HO.out]; kernel_rfl), ?_⟩) hS ?_
  · intro w' hSw
    go_simp
  try simp only [Act.put, List.setIfInBounds_toArray, List.set_cons_zero, List.set_cons_succ]
  refine wpAnyH_take (i := 3) (v := .bool true) (by rw [HO.out]; simp only [List.getElem?_toArray, List.getElem?_cons_succ, List.getElem?_cons_zero]; rfl) (by rw [HO.out]; kernel_rfl) (by rw [HO.out]; kernel_rfl) (by rw [HO.out]; kernel_rfl) (by rw [HQ.out]; exact fun _ _ _ h => h) (Or.inl ⟨by first | rfl | (rw [HO.out]; kernel_rfl), ?_⟩) hS ?_
  · intro w' hSw
    go_simp
  try simp only [Act.put, List.setIfInBounds_toArray, List.set_cons_zero, List.set_cons_succ]
  refine wpAnyH_take (i := 4) (v := .agg #[.int .i64 d0, .slice a0 y0.length cap0]) (by rw [HO.out]; simp only [List.getElem?_toArray, List.getElem?_cons_succ, List.getElem?_cons_zero]; rfl) (by rw [HO.out]; kernel_rfl) (by rw [HO.out]; kernel_rfl) (by rw [HO.out]; kernel_rfl) (by rw [HQ.out]; exact fun _ _ _ h => h) (Or.inl ⟨by first | rfl | (rw [HO.out]; kernel_rfl), ?_⟩) hS ?_
  · intro w' hSw
    have q := (SL.out _ hSw).1
    obtain ⟨q0, q1⟩ := q
    go_simp
  try simp only [Act.put, List.setIfInBounds_toArray, List.set_cons_zero, List.set_cons_succ]
  refine wpAnyH_take (i := 5) (v := .string s1) (by rw [HO.out]; simp only [List.getElem?_toArray, List.getElem?_cons_succ, List.getElem?_cons_zero]; rfl) (by rw [HO.out]; kernel_rfl) (by rw [HO.out]; kernel_rfl) (by rw [HO.out]; kernel_rfl) (by rw [HQ.out]; exact fun _ _ _ h => h) (Or.inl ⟨by first | rfl | (rw [HO.out]; kernel_rfl), ?_⟩) hS ?_
  · intro w' hSw
    go_simp
  try simp only [Act.put, List.setIfInBounds_toArray, List.set_cons_zero, List.set_cons_succ]
  refine wpAnyH_take (i := 7) (v := .agg #[.int .i64 (d0 + 1), .slice a2 ds.length c2]) (by rw [HO.out]; simp only [List.getElem?_toArray, List.getElem?_cons_succ, List.getElem?_cons_zero]; rfl) (by rw [HO.out]; kernel_rfl) (by rw [HO.out]; kernel_rfl) (by rw [HO.out]; kernel_rfl) (by rw [HQ.out]; exact fun _ _ _ h => h) (Or.inl ⟨by first | rfl | (rw [HO.out]; kernel_rfl), ?_⟩) hS ?_
  · intro w' hSw
    have q := (SL.out _ hSw).2.1
    obtain ⟨q0, q1⟩ := q
    go_simp
  try simp only [Act.put, List.setIfInBounds_toArray, List.set_cons_zero, List.set_cons_succ]
  refine wpAnyH_take (i := 8) (v := .string s1) (by rw [HO.out]; simp only [List.getElem?_toArray, List.getElem?_cons_succ, List.getElem?_cons_zero]; rfl) (by rw [HO.out]; kernel_rfl) (by rw [HO.out]; kernel_rfl) (by rw [HO.out]; kernel_rfl) (by rw [HQ.out]; exact fun _ _ _ h => h) (Or.inl ⟨by first | rfl | (rw [HO.out]; kernel_rfl), ?_⟩) hS ?_
  · intro w' hSw
    go_simp
  try simp only [Act.put, List.setIfInBounds_toArray, List.set_cons_zero, List.set_cons_succ]
  refine wpAnyH_one (i := 6) (x := 50) (R := fun v _ => v = .int .i64 az) (by rw [HO.out]; simp only [List.getElem?_toArray, List.getElem?_cons_succ, List.getElem?_cons_zero]; rfl) (by rw [HO.out]; kernel_rfl) hS ?_ ?_
  · intro K hK
    simp only [Act.put, List.setIfInBounds_toArray, List.set_cons_zero, List.set_cons_succ] at hK
    unfold Steps
    rw [if_pos (by rw [HO.out]; kernel_rfl)]
    go_simp
    refine (HAX.out _ (HBW.out _ hS)).mono ?_
    rintro e w9 ⟨rfl, hb9⟩
    exact hK _ _ rfl hb9
  rintro v9 w9 hv9 hb9 hS9
  obtain rfl := hv9
  clear hb9
  replace hS := hS9
  clear hS9
  try simp only [Act.put, List.setIfInBounds_toArray, List.set_cons_zero, List.set_cons_succ]
  refine wpAnyH_one (i := 9) (x := 53) (R := fun v _ => v = .int .i64 az) (by rw [HO.out]; simp only [List.getElem?_toArray, List.getElem?_cons_succ, List.getElem?_cons_zero]; rfl) (by rw [HO.out]; kernel_rfl) hS ?_ ?_
  · intro K hK
    simp only [Act.put, List.setIfInBounds_toArray, List.set_cons_zero, List.set_cons_succ] at hK
    unfold Steps
    rw [if_pos (by rw [HO.out]; kernel_rfl)]
    go_simp
    refine (HAY.out _ a2 c2 (HV2.out _ hS)).mono ?_
    rintro e w9 ⟨rfl, hb9⟩
    exact hK _ _ rfl hb9
  rintro v9 w9 hv9 hb9 hS9
  obtain rfl := hv9
  clear hb9
  replace hS := hS9
  clear hS9
  try simp only [Act.put, List.setIfInBounds_toArray, List.set_cons_zero, List.set_cons_succ]
  refine wpAnyH_take (i := 10) (v := .bool true) (by rw [HO.out]; simp only [List.getElem?_toArray, List.getElem?_cons_succ, List.getElem?_cons_zero]; rfl) (by rw [HO.out]; kernel_rfl) (by rw [HO.out]; kernel_rfl) (by rw [HO.out]; kernel_rfl) (by rw [HQ.out]; exact fun _ _ _ h => h) (Or.inl ⟨by first | rfl | (rw [HO.out]; kernel_rfl), ?_⟩) hS ?_
  · intro w' hSw
    go_simp
  try simp only [Act.put, List.setIfInBounds_toArray, List.set_cons_zero, List.set_cons_succ]
  refine wpAnyH_take (i := 11) (v := .bool true) (by rw [HO.out]; simp only [List.getElem?_toArray, List.getElem?_cons_succ, List.getElem?_cons_zero]; rfl) (by rw [HO.out]; kernel_rfl) (by rw [HO.out]; kernel_rfl) (by rw [HO.out]; kernel_rfl) (by rw [HQ.out]; exact fun _ _ _ h => h) (Or.inl ⟨by first | rfl | (rw [HO.out]; kernel_rfl), ?_⟩) hS ?_
  · intro w' hSw
    go_simp
  try simp only [Act.put, List.setIfInBounds_toArray, List.set_cons_zero, List.set_cons_succ]
  refine wpAnyH_take (i := 12) (v := .bool true) (by rw [HO.out]; simp only [List.getElem?_toArray, List.getElem?_cons_succ, List.getElem?_cons_zero]; rfl) (by rw [HO.out]; kernel_rfl) (by rw [HO.out]; kernel_rfl) (by rw [HO.out]; kernel_rfl) (by rw [HQ.out]; exact fun _ _ _ h => h) (Or.inl ⟨by first | rfl | (rw [HO.out]; kernel_rfl), ?_⟩) hS ?_
  · intro w' hSw
    go_simp
  try simp only [Act.put, List.setIfInBounds_toArray, List.set_cons_zero, List.set_cons_succ]
  refine wpAnyH_take (i := 13) (v := .agg #[.int .i64 (d0 + 1), .slice a2 ds.length c2]) (by rw [HO.out]; simp only [List.getElem?_toArray, List.getElem?_cons_succ, List.getElem?_cons_zero]; rfl) (by rw [HO.out]; kernel_rfl) (by rw [HO.out]; kernel_rfl) (by rw [HO.out]; kernel_rfl) (by rw [HQ.out]; exact fun _ _ _ h => h) (Or.inl ⟨by first | rfl | (rw [HO.out]; kernel_rfl), ?_⟩) hS ?_
  · intro w' hSw
    have q := (SL.out _ hSw).2.1
    obtain ⟨q0, q1⟩ := q
    go_simp
  try simp only [Act.put, List.setIfInBounds_toArray, List.set_cons_zero, List.set_cons_succ]
  refine wpAnyH_take (i := 14) (v := .string s1) (by rw [HO.out]; simp only [List.getElem?_toArray, List.getElem?_cons_succ, List.getElem?_cons_zero]; rfl) (by rw [HO.out]; kernel_rfl) (by rw [HO.out]; kernel_rfl) (by rw [HO.out]; kernel_rfl) (by rw [HQ.out]; exact fun _ _ _ h => h) (Or.inl ⟨by first | rfl | (rw [HO.out]; kernel_rfl), ?_⟩) hS ?_
  · intro w' hSw
    go_simp
  try simp only [Act.put, List.setIfInBounds_toArray, List.set_cons_zero, List.set_cons_succ]
  refine wpAnyH_take (i := 17) (v := .agg #[.int .i64 d0, .slice a0 y0.length cap0]) (by rw [HO.out]; simp only [List.getElem?_toArray, List.getElem?_cons_succ, List.getElem?_cons_zero]; rfl) (by rw [HO.out]; kernel_rfl) (by rw [HO.out]; kernel_rfl) (by rw [HO.out]; kernel_rfl) (by rw [HQ.out]; exact fun _ _ _ h => h) (Or.inl ⟨by first | rfl | (rw [HO.out]; kernel_rfl), ?_⟩) hS ?_
  · intro w' hSw
    have q := (SL.out _ hSw).1
    obtain ⟨q0, q1⟩ := q
    go_simp
  try simp only [Act.put, List.setIfInBounds_toArray, List.set_cons_zero, List.set_cons_succ]
  refine wpAnyH_take (i := 18) (v := .string s1) (by rw [HO.out]; simp only [List.getElem?_toArray, List.getElem?_cons_succ, List.getElem?_cons_zero]; rfl) (by rw [HO.out]; kernel_rfl) (by rw [HO.out]; kernel_rfl) (by rw [HO.out]; kernel_rfl) (by rw [HQ.out]; exact fun _ _ _ h => h) (Or.inl ⟨by first | rfl | (rw [HO.out]; kernel_rfl), ?_⟩) hS ?_
  · intro w' hSw
    go_simp
  try simp only [Act.put, List.setIfInBounds_toArray, List.set_cons_zero, List.set_cons_succ]
  refine wpAnyH_one (i := 15) (x := 59) (R := fun v _ => v = .int .i64 ty) (by rw [HO.out]; simp only [List.getElem?_toArray, List.getElem?_cons_succ, List.getElem?_cons_zero]; rfl) (by rw [HO.out]; kernel_rfl) hS ?_ ?_
  · intro K hK
    simp only [Act.put, List.setIfInBounds_toArray, List.set_cons_zero, List.set_cons_succ] at hK
    unfold Steps
    rw [if_pos (by rw [HO.out]; kernel_rfl)]
    go_simp
    refine (HPY.out _ a2 c2 (HV2.out _ hS)).mono ?_
    rintro e w9 ⟨rfl, hb9⟩
    exact hK _ _ rfl hb9
  rintro v9 w9 hv9 hb9 hS9
  obtain rfl := hv9
  clear hb9
  replace hS := hS9
  clear hS9
  try simp only [Act.put, List.setIfInBounds_toArray, List.set_cons_zero, List.set_cons_succ]
  refine wpAnyH_take (i := 16) (v := .int .i64 tx) (by rw [HO.out]; simp only [List.getElem?_toArray, List.getElem?_cons_succ, List.getElem?_cons_zero]; rfl) (by rw [HO.out]; kernel_rfl) (by rw [HO.out]; kernel_rfl) (by rw [HO.out]; kernel_rfl) (by rw [HQ.out]; exact fun _ _ _ h => h) (Or.inl ⟨by first | rfl | (rw [HO.out]; kernel_rfl), ?_⟩) hS ?_
  · intro w' hSw
    have hww : IntKind.i64.wrap (tx : Int) = tx := wrap_sm (by omega) (by omega)
    go_simp
  try simp only [Act.put, List.setIfInBounds_toArray, List.set_cons_zero, List.set_cons_succ]
  refine wpAnyH_one (i := 19) (x := 63) (R := fun v _ => v = .int .i64 tx) (by rw [HO.out]; simp only [List.getElem?_toArray, List.getElem?_cons_succ, List.getElem?_cons_zero]; rfl) (by rw [HO.out]; kernel_rfl) hS ?_ ?_
  · intro K hK
    simp only [Act.put, List.setIfInBounds_toArray, List.set_cons_zero, List.set_cons_succ] at hK
    unfold Steps
    rw [if_pos (by rw [HO.out]; kernel_rfl)]
    go_simp
    refine (HPX.out _ (HBW.out _ hS)).mono ?_
    rintro e w9 ⟨rfl, hb9⟩
    exact hK _ _ rfl hb9
  rintro v9 w9 hv9 hb9 hS9
  obtain rfl := hv9
  clear hb9
  replace hS := hS9
  clear hS9
  try simp only [Act.put, List.setIfInBounds_toArray, List.set_cons_zero, List.set_cons_succ]
  refine wpAnyH_take (i := 20) (v := .bool true) (by rw [HO.out]; simp only [List.getElem?_toArray, List.getElem?_cons_succ, List.getElem?_cons_zero]; rfl) (by rw [HO.out]; kernel_rfl) (by rw [HO.out]; kernel_rfl) (by rw [HO.out]; kernel_rfl) (by rw [HQ.out]; exact fun _ _ _ h => h) (Or.inl ⟨by first | rfl | (rw [HO.out]; kernel_rfl), ?_⟩) hS ?_
  · intro w' hSw
    go_simp
  try simp only [Act.put, List.setIfInBounds_toArray, List.set_cons_zero, List.set_cons_succ]
  refine wpAnyH_take (i := 21) (v := .bool true) (by rw [HO.out]; simp only [List.getElem?_toArray, List.getElem?_cons_succ, List.getElem?_cons_zero]; rfl) (by rw [HO.out]; kernel_rfl) (by rw [HO.out]; kernel_rfl) (by rw [HO.out]; kernel_rfl) (by rw [HQ.out]; exact fun _ _ _ h => h) (Or.inl ⟨by first | rfl | (rw [HO.out]; kernel_rfl), ?_⟩) hS ?_
  · intro w' hSw
    go_simp
  try simp only [Act.put, List.setIfInBounds_toArray, List.set_cons_zero, List.set_cons_succ]
  refine wpAnyH_take (i := 22) (v := .bool true) (by rw [HO.out]; simp only [List.getElem?_toArray, List.getElem?_cons_succ, List.getElem?_cons_zero]; rfl) (by rw [HO.out]; kernel_rfl) (by rw [HO.out]; kernel_rfl) (by rw [HO.out]; kernel_rfl) (by rw [HQ.out]; exact fun _ _ _ h => h) (Or.inl ⟨by first | rfl | (rw [HO.out]; kernel_rfl), ?_⟩) hS ?_
  · intro w' hSw
    go_simp
  try simp only [Act.put, List.setIfInBounds_toArray, List.set_cons_zero, List.set_cons_succ]
  refine wpAnyH_take (i := 23) (v := .bool true) (by rw [HO.out]; simp only [List.getElem?_toArray, List.getElem?_cons_succ, List.getElem?_cons_zero]; rfl) (by rw [HO.out]; kernel_rfl) (by rw [HO.out]; kernel_rfl) (by rw [HO.out]; kernel_rfl) (by rw [HQ.out]; exact fun _ _ _ h => h) (Or.inl ⟨by first | rfl | (rw [HO.out]; kernel_rfl), ?_⟩) hS ?_
  · intro w' hSw
    go_simp
  try simp only [Act.put, List.setIfInBounds_toArray, List.set_cons_zero, List.set_cons_succ]
  refine wpAnyH_take (i := 24) (v := .bool true) (by rw [HO.out]; simp only [List.getElem?_toArray, List.getElem?_cons_succ, List.getElem?_cons_zero]; rfl) (by rw [HO.out]; kernel_rfl) (by rw [HO.out]; kernel_rfl) (by rw [HO.out]; kernel_rfl) (by rw [HQ.out]; exact fun _ _ _ h => h) (Or.inl ⟨by first | rfl | (rw [HO.out]; kernel_rfl), ?_⟩) hS ?_
  · intro w' hSw
    go_simp
  try simp only [Act.put, List.setIfInBounds_toArray, List.set_cons_zero, List.set_cons_succ]
  refine wpAnyH_take (i := 25) (v := .bool true) (by rw [HO.out]; simp only [List.getElem?_toArray, List.getElem?_cons_succ, List.getElem?_cons_zero]; rfl) (by rw [HO.out]; kernel_rfl) (by rw [HO.out]; kernel_rfl) (by rw [HO.out]; kernel_rfl) (by rw [HQ.out]; exact fun _ _ _ h => h) (Or.inl ⟨by first | rfl | (rw [HO.out]; kernel_rfl), ?_⟩) hS ?_
  · intro w' hSw
    go_simp
  try simp only [Act.put, List.setIfInBounds_toArray, List.set_cons_zero, List.set_cons_succ]
  refine wpAnyH_take (i := 26) (v := .agg #[.int .i64 d0, .slice a0 y0.length cap0]) (by rw [HO.out]; simp only [List.getElem?_toArray, List.getElem?_cons_succ, List.getElem?_cons_zero]; rfl) (by rw [HO.out]; kernel_rfl) (by rw [HO.out]; kernel_rfl) (by rw [HO.out]; kernel_rfl) (by rw [HQ.out]; exact fun _ _ _ h => h) (Or.inl ⟨by first | rfl | (rw [HO.out]; kernel_rfl), ?_⟩) hS ?_
  · intro w' hSw
    have q := (SL.out _ hSw).1
    obtain ⟨q0, q1⟩ := q
    go_simp
  try simp only [Act.put, List.setIfInBounds_toArray, List.set_cons_zero, List.set_cons_succ]
  refine wpAnyH_take (i := 27) (v := .agg #[.int .i64 d0, .slice a4 y0.length c4]) (by rw [HO.out]; simp only [List.getElem?_toArray, List.getElem?_cons_succ, List.getElem?_cons_zero]; rfl) (by rw [HO.out]; kernel_rfl) (by rw [HO.out]; kernel_rfl) (by rw [HO.out]; kernel_rfl) (by rw [HQ.out]; exact fun _ _ _ h => h) (Or.inl ⟨by first | rfl | (rw [HO.out]; kernel_rfl), ?_⟩) hS ?_
  · intro w' hSw
    have q := (SL.out _ hSw).2.2
    obtain ⟨q0, q1⟩ := q
    go_simp
  try simp only [Act.put, List.setIfInBounds_toArray, List.set_cons_zero, List.set_cons_succ]
  refine wpAnyH_one (i := 28) (x := 72) (R := fun v _ => v = .bool true) (by rw [HO.out]; simp only [List.getElem?_toArray, List.getElem?_cons_succ, List.getElem?_cons_zero]; rfl) (by rw [HO.out]; kernel_rfl) hS ?_ ?_
  · intro K hK
    simp only [Act.put, List.setIfInBounds_toArray, List.set_cons_zero, List.set_cons_succ] at hK
    unfold Steps
    rw [if_pos (by rw [HO.out]; kernel_rfl)]
    go_simp
    refine (HSM.out _ a4 c4 (HBW.out _ hS) (HV4.out _ hS)).mono ?_
    rintro e w9 ⟨rfl, hb9⟩
    exact hK _ _ rfl hb9
  rintro v9 w9 hv9 hb9 hS9
  obtain rfl := hv9
  clear hb9
  replace hS := hS9
  clear hS9
  try simp only [Act.put, List.setIfInBounds_toArray, List.set_cons_zero, List.set_cons_succ]
  refine wpAnyH_take (i := 29) (v := .bool true) (by rw [HO.out]; simp only [List.getElem?_toArray, List.getElem?_cons_succ, List.getElem?_cons_zero]; rfl) (by rw [HO.out]; kernel_rfl) (by rw [HO.out]; kernel_rfl) (by rw [HO.out]; kernel_rfl) (by rw [HQ.out]; exact fun _ _ _ h => h) (Or.inl ⟨by first | rfl | (rw [HO.out]; kernel_rfl), ?_⟩) hS ?_
  · intro w' hSw
    go_simp
  try simp only [Act.put, List.setIfInBounds_toArray, List.set_cons_zero, List.set_cons_succ]
  refine wpAnyH_take (i := 30) (v := .bool true) (by rw [HO.out]; simp only [List.getElem?_toArray, List.getElem?_cons_succ, List.getElem?_cons_zero]; rfl) (by rw [HO.out]; kernel_rfl) (by rw [HO.out]; kernel_rfl) (by rw [HO.out]; kernel_rfl) (by rw [HQ.out]; exact fun _ _ _ h => h) (Or.inl ⟨by first | rfl | (rw [HO.out]; kernel_rfl), ?_⟩) hS ?_
  · intro w' hSw
    go_simp
  try simp only [Act.put, List.setIfInBounds_toArray, List.set_cons_zero, List.set_cons_succ]
  refine wpAnyH_one (i := 31) (x := 75) (R := fun v _ => v = .bool true) (by rw [HO.out]; simp only [List.getElem?_toArray, List.getElem?_cons_succ, List.getElem?_cons_zero]; rfl) (by rw [HO.out]; kernel_rfl) hS ?_ ?_
  · intro K hK
    simp only [Act.put, List.setIfInBounds_toArray, List.set_cons_zero, List.set_cons_succ] at hK
    unfold Steps
    rw [if_pos (by rw [HO.out]; kernel_rfl)]
    go_simp
    refine (HA _).mono ?_
    rintro e w9 ⟨rfl, hb9⟩
    exact hK _ _ rfl hb9
  rintro v9 w9 hv9 hb9 hS9
  obtain rfl := hv9
  clear hb9
  replace hS := hS9
  clear hS9
  try simp only [Act.put, List.setIfInBounds_toArray, List.set_cons_zero, List.set_cons_succ]
  refine wpAnyH_take (i := 32) (v := .bool true) (by rw [HO.out]; simp only [List.getElem?_toArray, List.getElem?_cons_succ, List.getElem?_cons_zero]; rfl) (by rw [HO.out]; kernel_rfl) (by rw [HO.out]; kernel_rfl) (by rw [HO.out]; kernel_rfl) (by rw [HQ.out]; exact fun _ _ _ h => h) (Or.inl ⟨by first | rfl | (rw [HO.out]; kernel_rfl), ?_⟩) hS ?_
  · intro w' hSw
    go_simp
  try simp only [Act.put, List.setIfInBounds_toArray, List.set_cons_zero, List.set_cons_succ]
  refine wpAnyH_take (i := 33) (v := .bool true) (by rw [HO.out]; simp only [List.getElem?_toArray, List.getElem?_cons_succ, List.getElem?_cons_zero]; rfl) (by rw [HO.out]; kernel_rfl) (by rw [HO.out]; kernel_rfl) (by rw [HO.out]; kernel_rfl) (by rw [HQ.out]; exact fun _ _ _ h => h) (Or.inl ⟨by first | rfl | (rw [HO.out]; kernel_rfl), ?_⟩) hS ?_
  · intro w' hSw
    go_simp
  try simp only [Act.put, List.setIfInBounds_toArray, List.set_cons_zero, List.set_cons_succ]
  refine wpAnyH_done (by rw [HO.out]; kernel_rfl) ?_ _
  rw [HQ.out]
  refine NoPanic.normal ?_
  go_wp2
  go_ret
  exact ⟨rfl, HBW.out _ hS⟩
theorem walk (d0 : Int) (a0 : Option Addr) (len0 cap0 : Nat) (y0 : List Int) (s1 : ByteArray) (w : World) (w0 : Sli w a0 len0 cap0 y0 ∧ WfI d0) (w1 : s1.size ≤ maxLen) : Calls Try.prog 5 #[dv d0 a0 len0 cap0, .string s1] w fun e w' => e = .returned (.bool true) ∧ Below w.heap.size w w' := by
  by_cases h : 300 < len0
  · exact walk_a d0 a0 len0 cap0 y0 s1 w w0 w1 h
  · by_cases h2 : 300 < s1.size
    · exact walk_b d0 a0 len0 cap0 y0 s1 w w0 w1 h h2
    · by_cases h0 : chkE d0 y0 = 0
      · by_cases h10 : d0 = 10
        · exact walk_c d0 a0 len0 cap0 y0 s1 w w0 w1 h h2 (by unfold dblB; rw [decide_eq_true h10]; simp)
        · exact walk_d d0 a0 len0 cap0 y0 s1 w w0 w1 h h2 h0 h10
      · exact walk_c d0 a0 len0 cap0 y0 s1 w w0 w1 h h2 (by unfold dblB; rw [decide_eq_false h0]; rfl)
set_option maxRecDepth 100000 in
theorem lifted (os : Os) (started : os.Started) (H : Type) (enc : TypeId × Value → H) :
    ReturnsInHanded {} Try.checked os 5 .any (Rows.dirDoubledSpec.pre6 enc Try.prog Try.f5 Rows.dirDoubledRow.domain false) (Rows.dirDoubledSpec.post enc Try.prog Try.f5 false true false false) := by
  refine returnsInHanded_of_change (C := Try.checked) own started (by kernel_rfl) Try.func5
    (ChangeSpec.witness6 (enc := enc) (C := Try.checked) false ⟨#[], #[.agg #[.int .i64 0, .slice none 0 0], .string ByteArray.empty], []⟩ 8 (by kernel_rfl) (by kernel_rfl) (by kernel_rfl) (by kernel_rfl)) ?_
  intro W base args ds gs before hval0 hW hcnd _
  have hval : ∀ (j : Nat) t v, Try.f5.params[j]? = some t → args[j]? = some v → Value.okWide Try.prog W .any base t v := hval0
  have hW' := hW
  obtain ⟨p, q, hA0, hV, rfl, hfz, hnd⟩ := hW
  have hA : DataW.TrodAll enc Try.prog W 0 (fun _ => true) true Try.f5.params.toList args.toList ds p := hA0
  rw [Try.params5] at hA hval
  obtain ⟨v0, vs0, d'0, ds0, q0, r'0, hargs, rfl, rfl, h0, r0⟩ := trodAll_cons hA
  obtain ⟨v1, vs1, d'1, ds1, q1, r'1, rfl, rfl, rfl, h1, r1⟩ := trodAll_cons r0
  obtain ⟨rfl, rfl, rfl⟩ := trodAll_nil r1
  obtain rfl : args = #[v0, v1] := by cases args; simp_all
  obtain ⟨rfl, rfl⟩ := trodVars_none hV
  have k0' := h0
  have lt0 : ∀ x ∈ q0, x.block < W.heap.size := by obtain ⟨m, hm⟩ := k0'; exact DataW.trod_lt m _ _ _ hm
  obtain ⟨d0, a0, len0, cap0, y0, rfl, w0⟩ := open_d (hval 0 24 v0 rfl rfl) h0
  obtain ⟨s1, rfl, rfl, rfl, w1⟩ := Go.ChangeMaps.open_string Try.underlying9 (hval 1 9 v1 rfl rfl) h1
  clear hA0 hval0
  refine (walk d0 a0 len0 cap0 y0 s1 W w0 w1).mono fun e W' ⟨he, bel⟩ => ?_
  subst he
  exact ⟨_, rfl, _, _, _, [], _, [], hW', trodAll_mk1 (shut_bool Try.underlying4 _), (trodAll_cons_mk (Below.trod laidOut (by kernel_rfl) (of_decide_eq_true (by kernel_rfl)) k0' bel lt0) (trodAll_cons_mk (Go.ChangeMaps.shut_string Try.underlying9 w1) trodAll_mk0)), rfl, bel.frame _, fun h => by cases h⟩

theorem over : Rows.dirDoubledRow.holds Try.pinned (OpenSpec.ofChange Rows.dirDoubledSpec) :=
  OpenClaim.holds_of_wide 5 Try.f5 rfl rfl rfl rfl rfl rfl rfl ⟨rfl, rfl, rfl, rfl, rfl⟩ rfl rfl rfl rfl rfl (by kernel_rfl) Try.func5 (by kernel_rfl)
    (of_decide_eq_true (by kernel_rfl)) (by unfold Func.isWrapper; first | (rw [if_pos (by decide +kernel)]; kernel_rfl) | (rw [if_neg (by decide +kernel)]; exact ⟨rfl, rfl⟩))
    (fun os started H enc _ => lifted os started H enc)
end Go.Proofs.Ytophkfbdhejmcaa.dirDoubled

namespace Go.Proofs.Ytophkfbdhejmcaa
theorem dirDoubled_holds : Rows.DirDoubledSaid := dirDoubled.over
#print axioms dirDoubled_holds
end Go.Proofs.Ytophkfbdhejmcaa
