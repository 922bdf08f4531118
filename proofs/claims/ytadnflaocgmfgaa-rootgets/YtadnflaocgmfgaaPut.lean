/- Put: the program's. -/
import Derived.Test.YtadnflaocgmfgaaLayers
import Derived.Test.YtadnflaocgmfgaaCheck2
namespace Go.Proofs.Ytadnflaocgmfgaa
open Go.RowKit
set_option linter.unusedVariables false
theorem putL_dig (n : Int) (x : Nat) (h1 : 1 ≤ x) (h6 : x ≤ 6) (h0 : 0 ≤ n) (hn : n < 256 ^ x) : putL n x = dig n x := by
  unfold putL
  rw [if_neg (by omega), Int.toNat_natCast, if_neg (by omega)]
theorem wides_two : ∀ zs : List Int, (∀ z ∈ zs, 0 ≤ z ∧ z < 65536) → wides 2 zs = twos zs
  | [], _ => rfl
  | z :: zs, h => by
    show putL z 2 ++ wides 2 zs = dig z 2 ++ twos zs
    rw [wides_two zs (fun y hy => h y (by simp [hy]))]
    have := h z (by simp)
    rw [show putL z 2 = dig z 2 from putL_dig z 2 (by decide) (by decide) this.1 this.2]
/-- What is laid ahead of the layer k. -/
def pr (r : RD) : Nat → List Int
  | 0 => []
  | 1 => [114, 111, 111, 116]
  | 2 => [114, 111, 111, 116] ++ dig r.E 6
  | 3 => [114, 111, 111, 116] ++ dig r.E 6 ++ (dig r.B 2 ++ dig r.N 2 ++ dig r.S 2)
  | 4 => [114, 111, 111, 116] ++ dig r.E 6 ++ (dig r.B 2 ++ dig r.N 2 ++ dig r.S 2) ++ (dig r.T.length 1 ++ dig r.M.length 1)
  | 5 => [114, 111, 111, 116] ++ dig r.E 6 ++ (dig r.B 2 ++ dig r.N 2 ++ dig r.S 2) ++ (dig r.T.length 1 ++ dig r.M.length 1) ++ twos r.T
  | 6 => frontS r
  | 7 => bodyS r
  | 8 => bodyS r ++ dig (more 0 (bodyS r)) 4
  | _ => putS r
theorem four_all : AllB [114, 111, 111, 116] := by intro z hz; revert z; decide
theorem pr_all (r : RD) : ∀ k, AllB (pr r k)
  | 0 => AllB.nil
  | 1 => four_all
  | 2 => four_all.append (dig_all _ _)
  | 3 => (four_all.append (dig_all _ _)).append (((dig_all _ _).append (dig_all _ _)).append (dig_all _ _))
  | 4 => ((four_all.append (dig_all _ _)).append (((dig_all _ _).append (dig_all _ _)).append (dig_all _ _))).append ((dig_all _ _).append (dig_all _ _))
  | 5 => (((four_all.append (dig_all _ _)).append (((dig_all _ _).append (dig_all _ _)).append (dig_all _ _))).append ((dig_all _ _).append (dig_all _ _))).append (twos_all _)
  | 6 => front_all r
  | 7 => body_all r
  | 8 => (body_all r).append (dig_all _ _)
  | _ + 9 => put_all r
theorem pr_len {r : RD} (h : r.Ok) : ∀ k, (pr r k).length ≤ 256
  | 0 => by simp [pr]
  | 1 => by simp [pr]
  | 2 => by simp [pr, dig_length]
  | 3 => by simp [pr, dig_length]
  | 4 => by simp [pr, dig_length]
  | 5 => by have := h.t1; simp [pr, dig_length, twos_len]; omega
  | 6 => by have := h.t1; have := h.m1; show (frontS r).length ≤ _; rw [front_len]; omega
  | 7 => by show (bodyS r).length ≤ _; rw [body_len h]; omega
  | 8 => by show (bodyS r ++ _).length ≤ _; rw [List.length_append, body_len h, dig_length]; omega
  | _ + 9 => by show (putS r).length ≤ _; rw [put_len h]; omega
theorem laid_step {wL wr w' : World} {e : Ending} {bv : Value} {zs ys : List Int} (ho : Own wr wL.heap.size bv zs) (hb : Below wL.heap.size wL wr) (h : Laid wr w' e ys) : ∃ a c, e = .returned (.slice a ys.length c) ∧ Hid (BV w' a ys ∧ (a = none → c = 0) ∧ Own w' wL.heap.size bv zs ∧ Below wL.heap.size wL w') := by
  obtain ⟨a, c, rfl, h1, h2⟩ := h
  exact ⟨a, c, rfl, h1.out.1, h1.out.2, ho.below h2, hb.trans (h2.mono hb.size)⟩
theorem wides_6 {r : RD} (h : r.Ok) : wides 6 [r.E] = dig r.E 6 := by
  show putL r.E 6 ++ [] = _
  have := h.e0; have := h.e1
  rw [List.append_nil, show putL r.E 6 = dig r.E 6 from putL_dig r.E 6 (by decide) (by decide) (by omega) (by show r.E < 281474976710656; omega)]
theorem wides_3 {r : RD} (h : r.Ok) : wides 2 [r.B, r.N, r.S] = dig r.B 2 ++ dig r.N 2 ++ dig r.S 2 := by
  have := h.b0; have := h.b1; have := h.n0; have := h.n1; have := h.s0; have := h.s1
  rw [wides_two _ (fun z hz => by simp at hz; omega)]
  show dig r.B 2 ++ (dig r.N 2 ++ (dig r.S 2 ++ [])) = _
  rw [List.append_nil, List.append_assoc]
theorem wides_1 {r : RD} (h : r.Ok) : wides 1 [(r.T.length : Int), (r.M.length : Int)] = dig r.T.length 1 ++ dig r.M.length 1 := by
  have := h.t1; have := h.m1
  show putL (r.T.length : Int) 1 ++ (putL (r.M.length : Int) 1 ++ []) = _
  rw [List.append_nil, show putL (r.T.length : Int) 1 = dig r.T.length 1 from putL_dig _ 1 (by decide) (by decide) (by omega) (by show (r.T.length : Int) < 256; omega), show putL (r.M.length : Int) 1 = dig r.M.length 1 from putL_dig _ 1 (by decide) (by decide) (by omega) (by show (r.M.length : Int) < 256; omega)]
theorem wides_T {r : RD} (h : r.Ok) : wides 2 r.T = twos r.T := wides_two _ (fun z hz => by have := h.tb z hz; have := h.b1; omega)
theorem wides_M {r : RD} (h : r.Ok) : wides 2 r.M = twos r.M := wides_two _ (fun z hz => by have := h.mb z hz; have := h.b1; omega)
set_option maxHeartbeats 400000 in
theorem put_bad (r : RD) (ta ma : Option Addr) (tc mc : Nat) (w : World) (hr : Rt w r ta tc ma mc) (h : checkE r ≠ 0) :
    Calls Try.prog 9 #[rootV r ta tc ma mc] w fun e w' => e = .returned (.tuple #[.slice none 0 0, .int .i64 (checkE r)]) ∧ Below w.heap.size w w' := by
  obtain ⟨W, hW⟩ : ∃ W, W = w.alloc (.cells #[.int .i64 r.E, .int .i64 r.B, .int .i64 r.N, .int .i64 r.S, .slice ta r.T.length tc, .slice ma r.M.length mc] 31) := ⟨_, rfl⟩
  have hB : Below w.heap.size w W := by rw [hW]; exact (Below.refl _ _).alloc (Nat.le_refl _) _
  have hsz : w.heap.size < W.heap.size := by rw [hW]; simp
  have c0 : W.cell? ⟨w.heap.size, 0, none⟩ = some (.int .i64 r.E) := by rw [hW]; go_simp
  have c1 : W.cell? ⟨w.heap.size, 1, none⟩ = some (.int .i64 r.B) := by rw [hW]; go_simp
  have c2 : W.cell? ⟨w.heap.size, 2, none⟩ = some (.int .i64 r.N) := by rw [hW]; go_simp
  have c3 : W.cell? ⟨w.heap.size, 3, none⟩ = some (.int .i64 r.S) := by rw [hW]; go_simp
  have c4 : W.cell? ⟨w.heap.size, 4, none⟩ = some (.slice ta r.T.length tc) := by rw [hW]; go_simp
  have c5 : W.cell? ⟨w.heap.size, 5, none⟩ = some (.slice ma r.M.length mc) := by rw [hW]; go_simp
  have HC := check_any r ta ma tc mc W (hr.below hB)
  have hd : (checkE r == 0) = false := by simpa using h
  clear h hr
  generalize checkE r = c at *
  unfold rootV at *
  go_enter Try.func9, Try.ntmps9
  go_wp2_with fail
  rw [← hW]
  clear hW
  refine HC.mono ?_
  rintro e w1 ⟨rfl, hb1⟩
  clear HC
  go_wp2_with fail
  exact bodyPost_ret (v := .tuple #[.slice none 0 0, .int .i64 c]) (by simp [results, Try.results9, go_sem]) rfl ⟨rfl, hB.trans (hb1.mono hB.size)⟩
set_option maxHeartbeats 3200000 in
theorem put_good (r : RD) (ta ma : Option Addr) (tc mc : Nat) (w : World) (hr : Rt w r ta tc ma mc) (h : r.Ok) :
    Calls Try.prog 9 #[rootV r ta tc ma mc] w fun e w' => ∃ v, e = .returned (.tuple #[v, .int .i64 0]) ∧ Own w' w.heap.size v (putS r) ∧ Below w.heap.size w w' := by
  obtain ⟨W, hW⟩ : ∃ W, W = w.alloc (.cells #[.int .i64 r.E, .int .i64 r.B, .int .i64 r.N, .int .i64 r.S, .slice ta r.T.length tc, .slice ma r.M.length mc] 31) := ⟨_, rfl⟩
  have hB : Below w.heap.size w W := by rw [hW]; exact (Below.refl _ _).alloc (Nat.le_refl _) _
  have hsz : w.heap.size < W.heap.size := by rw [hW]; simp
  have c0 : W.cell? ⟨w.heap.size, 0, none⟩ = some (.int .i64 r.E) := by rw [hW]; go_simp
  have c1 : W.cell? ⟨w.heap.size, 1, none⟩ = some (.int .i64 r.B) := by rw [hW]; go_simp
  have c2 : W.cell? ⟨w.heap.size, 2, none⟩ = some (.int .i64 r.N) := by rw [hW]; go_simp
  have c3 : W.cell? ⟨w.heap.size, 3, none⟩ = some (.int .i64 r.S) := by rw [hW]; go_simp
  have c4 : W.cell? ⟨w.heap.size, 4, none⟩ = some (.slice ta r.T.length tc) := by rw [hW]; go_simp
  have c5 : W.cell? ⟨w.heap.size, 5, none⟩ = some (.slice ma r.M.length mc) := by rw [hW]; go_simp
  have HC := check_any r ta ma tc mc W (hr.below hB)
  rw [checkE_ok h] at HC
  have HLY : Hid (∀ W', Below W.heap.size W W' → Calls Try.prog 18 #[rootV r ta tc ma mc] W' fun e w' => LayersPost W' r e w') := fun W' hW' => layers_any r ta ma tc mc W' ((hr.below hB).below hW')
  have HOK : Hid (r.Ok) := h
  clear hr h
  unfold rootV at *
  go_enter Try.func9, Try.ntmps9
  go_wp2_with fail
  rw [← hW]
  clear hW
  refine HC.mono ?_
  rintro e w1 ⟨rfl, hb1⟩
  have d0 := (hb1.cell (p := ⟨w.heap.size, 0, none⟩) hsz).trans c0
  have d1 := (hb1.cell (p := ⟨w.heap.size, 1, none⟩) hsz).trans c1
  have d2 := (hb1.cell (p := ⟨w.heap.size, 2, none⟩) hsz).trans c2
  have d3 := (hb1.cell (p := ⟨w.heap.size, 3, none⟩) hsz).trans c3
  have d4 := (hb1.cell (p := ⟨w.heap.size, 4, none⟩) hsz).trans c4
  have d5 := (hb1.cell (p := ⟨w.heap.size, 5, none⟩) hsz).trans c5
  clear HC c0 c1 c2 c3 c4 c5
  go_wp2_with (first
    | (go_at_call 18; refine (HLY.out _ hb1).mono ?_; rintro e wL ⟨g, a1, b1, a2, b2, a3, b3, a4, b4, a5, b5, rfl, HL, hbL⟩; clear HLY)
    | fail)
  go_loopw [5, 16] (fun bv iv wr => ∃ k : Nat, k ≤ 9 ∧ iv = .int .i64 k ∧ Hid (Own wr wL.heap.size bv (pr r k)) ∧ Hid (Below wL.heap.size wL wr)) (fun _ iv _ => 9 - (intOf iv).toNat)
  case atStart => exact ⟨0, Nat.zero_le _, rfl, Own.nil _ _, Below.refl _ _⟩
  case round =>
    obtain ⟨k, hk, rfl, HO, HW⟩ := hrel
    clear d0 d1 d2 d3 d4 d5
    by_cases hlt : k < 9
    · have hbr := HW.out
      have hgs : g < wL.heap.size := (Array.getElem?_eq_some_iff.1 HL.out.1).1
      have HPL : Hid ((pr r k).length ≤ 256) := pr_len HOK.out k
      obtain ⟨xa, xc, hbe, hxn, hbv, _, _⟩ := HO.out.slice (pr_all r k)
      subst hbe
      have HOW : Hid (Own wr wL.heap.size (.slice xa (pr r k).length xc) (pr r k)) := HO.out
      have hk9 : k = 0 ∨ k = 1 ∨ k = 2 ∨ k = 3 ∨ k = 4 ∨ k = 5 ∨ k = 6 ∨ k = 7 ∨ k = 8 := by omega
      rcases hk9 with e | e | e | e | e | e | e | e | e
      · have hx : wr.cell? ⟨g, k, none⟩ = some (.func (.func 35) #[] #[]) := by
          rw [e, (hbr.cell (p := ⟨g, 0, none⟩) hgs), cell_of_row _ _ _ _ _ _ HL.out.1]; rfl
        have HCL : Hid (Calls Try.prog 35 #[.slice xa (pr r k).length xc] wr fun e w' => ∃ a c, e = .returned (.slice a ([114, 111, 111, 116] : List Int).length c) ∧ Hid (BV w' a ([114, 111, 111, 116] : List Int) ∧ (a = none → c = 0) ∧ Own w' wL.heap.size (.slice xa (pr r k).length xc) (pr r k) ∧ Below wL.heap.size wL w')) := by
          have hq : Calls Try.prog 35 #[.slice xa (pr r k).length xc] wr fun e w' => Laid wr w' e ([114, 111, 111, 116] : List Int) := layers1_any _ _
          exact hq.mono (fun e w' h => laid_step HOW.out hbr h)
        have HT : Hid (pr r (k + 1) = pr r k ++ [114, 111, 111, 116]) := by rw [e]; rfl
        have HYL : Hid (([114, 111, 111, 116] : List Int).length ≤ 300) := by
          have : ([114, 111, 111, 116] : List Int).length ≤ 300 := by simp
          exact this
        clear e hbv hxn
        generalize ([114, 111, 111, 116] : List Int) = ys at *
        go_wp2_with (first
          | (go_at_call 35; refine (HCL.out).mono ?_; rintro e w2 ⟨ya, yc, rfl, H2⟩; clear HCL)
          | (at_builtin; refine wp_app_bv rfl _ _ rfl wL.heap.size _ (pr r k) ys rfl H2.out.2.2.1 ya yc rfl H2.out.1 H2.out.2.1 (by have := HPL.out; have := HYL.out; omega) H2.out.2.2.2.size ?_; intro v3 w3 ho3 hb3)
          | fail)
        go_roundw
        case rel => exact ⟨k + 1, by omega, by go_num, by rw [HT.out]; exact ho3, H2.out.2.2.2.trans hb3⟩
        case measure => simp [intOf]; omega
      · have hx : wr.cell? ⟨g, k, none⟩ = some (.func (.func 50) #[] #[.pointer (some ⟨a1, 0, none⟩), .pointer (some ⟨b1, 0, none⟩)]) := by
          rw [e, (hbr.cell (p := ⟨g, 1, none⟩) hgs), cell_of_row _ _ _ _ _ _ HL.out.1]; rfl
        have HCL : Hid (Calls Try.prog 50 #[.slice xa (pr r k).length xc, .pointer (some ⟨a1, 0, none⟩), .pointer (some ⟨b1, 0, none⟩)] wr fun e w' => ∃ a c, e = .returned (.slice a (dig r.E 6).length c) ∧ Hid (BV w' a (dig r.E 6) ∧ (a = none → c = 0) ∧ Own w' wL.heap.size (.slice xa (pr r k).length xc) (pr r k) ∧ Below wL.heap.size wL w')) := by
          have hq : Calls Try.prog 50 #[.slice xa (pr r k).length xc, .pointer (some ⟨a1, 0, none⟩), .pointer (some ⟨b1, 0, none⟩)] wr fun e w' => Laid wr w' e (dig r.E 6) := by
              have hq := nf_call (.slice xa (pr r k).length xc) (HL.out.2.1.below hbr) (by simp)
              rw [wides_6 HOK.out] at hq
              exact hq
          exact hq.mono (fun e w' h => laid_step HOW.out hbr h)
        have HT : Hid (pr r (k + 1) = pr r k ++ dig r.E 6) := by rw [e]; rfl
        have HYL : Hid ((dig r.E 6).length ≤ 300) := by
          have : (dig r.E 6).length ≤ 300 := by rw [dig_length]; omega
          exact this
        clear e hbv hxn
        generalize (dig r.E 6) = ys at *
        go_wp2_with (first
          | (go_at_call 50; refine (HCL.out).mono ?_; rintro e w2 ⟨ya, yc, rfl, H2⟩; clear HCL)
          | (at_builtin; refine wp_app_bv rfl _ _ rfl wL.heap.size _ (pr r k) ys rfl H2.out.2.2.1 ya yc rfl H2.out.1 H2.out.2.1 (by have := HPL.out; have := HYL.out; omega) H2.out.2.2.2.size ?_; intro v3 w3 ho3 hb3)
          | fail)
        go_roundw
        case rel => exact ⟨k + 1, by omega, by go_num, by rw [HT.out]; exact ho3, H2.out.2.2.2.trans hb3⟩
        case measure => simp [intOf]; omega
      · have hx : wr.cell? ⟨g, k, none⟩ = some (.func (.func 50) #[] #[.pointer (some ⟨a2, 0, none⟩), .pointer (some ⟨b2, 0, none⟩)]) := by
          rw [e, (hbr.cell (p := ⟨g, 2, none⟩) hgs), cell_of_row _ _ _ _ _ _ HL.out.1]; rfl
        have HCL : Hid (Calls Try.prog 50 #[.slice xa (pr r k).length xc, .pointer (some ⟨a2, 0, none⟩), .pointer (some ⟨b2, 0, none⟩)] wr fun e w' => ∃ a c, e = .returned (.slice a (dig r.B 2 ++ dig r.N 2 ++ dig r.S 2).length c) ∧ Hid (BV w' a (dig r.B 2 ++ dig r.N 2 ++ dig r.S 2) ∧ (a = none → c = 0) ∧ Own w' wL.heap.size (.slice xa (pr r k).length xc) (pr r k) ∧ Below wL.heap.size wL w')) := by
          have hq : Calls Try.prog 50 #[.slice xa (pr r k).length xc, .pointer (some ⟨a2, 0, none⟩), .pointer (some ⟨b2, 0, none⟩)] wr fun e w' => Laid wr w' e (dig r.B 2 ++ dig r.N 2 ++ dig r.S 2) := by
              have hq := nf_call (.slice xa (pr r k).length xc) (HL.out.2.2.1.below hbr) (by simp)
              rw [wides_3 HOK.out] at hq
              exact hq
          exact hq.mono (fun e w' h => laid_step HOW.out hbr h)
        have HT : Hid (pr r (k + 1) = pr r k ++ (dig r.B 2 ++ dig r.N 2 ++ dig r.S 2)) := by rw [e]; rfl
        have HYL : Hid ((dig r.B 2 ++ dig r.N 2 ++ dig r.S 2).length ≤ 300) := by
          have : (dig r.B 2 ++ dig r.N 2 ++ dig r.S 2).length ≤ 300 := by rw [List.length_append, List.length_append, dig_length, dig_length, dig_length]; omega
          exact this
        clear e hbv hxn
        generalize (dig r.B 2 ++ dig r.N 2 ++ dig r.S 2) = ys at *
        go_wp2_with (first
          | (go_at_call 50; refine (HCL.out).mono ?_; rintro e w2 ⟨ya, yc, rfl, H2⟩; clear HCL)
          | (at_builtin; refine wp_app_bv rfl _ _ rfl wL.heap.size _ (pr r k) ys rfl H2.out.2.2.1 ya yc rfl H2.out.1 H2.out.2.1 (by have := HPL.out; have := HYL.out; omega) H2.out.2.2.2.size ?_; intro v3 w3 ho3 hb3)
          | fail)
        go_roundw
        case rel => exact ⟨k + 1, by omega, by go_num, by rw [HT.out]; exact ho3, H2.out.2.2.2.trans hb3⟩
        case measure => simp [intOf]; omega
      · have hx : wr.cell? ⟨g, k, none⟩ = some (.func (.func 50) #[] #[.pointer (some ⟨a3, 0, none⟩), .pointer (some ⟨b3, 0, none⟩)]) := by
          rw [e, (hbr.cell (p := ⟨g, 3, none⟩) hgs), cell_of_row _ _ _ _ _ _ HL.out.1]; rfl
        have HCL : Hid (Calls Try.prog 50 #[.slice xa (pr r k).length xc, .pointer (some ⟨a3, 0, none⟩), .pointer (some ⟨b3, 0, none⟩)] wr fun e w' => ∃ a c, e = .returned (.slice a (dig r.T.length 1 ++ dig r.M.length 1).length c) ∧ Hid (BV w' a (dig r.T.length 1 ++ dig r.M.length 1) ∧ (a = none → c = 0) ∧ Own w' wL.heap.size (.slice xa (pr r k).length xc) (pr r k) ∧ Below wL.heap.size wL w')) := by
          have hq : Calls Try.prog 50 #[.slice xa (pr r k).length xc, .pointer (some ⟨a3, 0, none⟩), .pointer (some ⟨b3, 0, none⟩)] wr fun e w' => Laid wr w' e (dig r.T.length 1 ++ dig r.M.length 1) := by
              have hq := nf_call (.slice xa (pr r k).length xc) (HL.out.2.2.2.1.below hbr) (by simp)
              rw [wides_1 HOK.out] at hq
              exact hq
          exact hq.mono (fun e w' h => laid_step HOW.out hbr h)
        have HT : Hid (pr r (k + 1) = pr r k ++ (dig r.T.length 1 ++ dig r.M.length 1)) := by rw [e]; rfl
        have HYL : Hid ((dig r.T.length 1 ++ dig r.M.length 1).length ≤ 300) := by
          have : (dig r.T.length 1 ++ dig r.M.length 1).length ≤ 300 := by rw [List.length_append, dig_length, dig_length]; omega
          exact this
        clear e hbv hxn
        generalize (dig r.T.length 1 ++ dig r.M.length 1) = ys at *
        go_wp2_with (first
          | (go_at_call 50; refine (HCL.out).mono ?_; rintro e w2 ⟨ya, yc, rfl, H2⟩; clear HCL)
          | (at_builtin; refine wp_app_bv rfl _ _ rfl wL.heap.size _ (pr r k) ys rfl H2.out.2.2.1 ya yc rfl H2.out.1 H2.out.2.1 (by have := HPL.out; have := HYL.out; omega) H2.out.2.2.2.size ?_; intro v3 w3 ho3 hb3)
          | fail)
        go_roundw
        case rel => exact ⟨k + 1, by omega, by go_num, by rw [HT.out]; exact ho3, H2.out.2.2.2.trans hb3⟩
        case measure => simp [intOf]; omega
      · have hx : wr.cell? ⟨g, k, none⟩ = some (.func (.func 50) #[] #[.pointer (some ⟨a4, 0, none⟩), .pointer (some ⟨b4, 0, none⟩)]) := by
          rw [e, (hbr.cell (p := ⟨g, 4, none⟩) hgs), cell_of_row _ _ _ _ _ _ HL.out.1]; rfl
        have HCL : Hid (Calls Try.prog 50 #[.slice xa (pr r k).length xc, .pointer (some ⟨a4, 0, none⟩), .pointer (some ⟨b4, 0, none⟩)] wr fun e w' => ∃ a c, e = .returned (.slice a (twos r.T).length c) ∧ Hid (BV w' a (twos r.T) ∧ (a = none → c = 0) ∧ Own w' wL.heap.size (.slice xa (pr r k).length xc) (pr r k) ∧ Below wL.heap.size wL w')) := by
          have hq : Calls Try.prog 50 #[.slice xa (pr r k).length xc, .pointer (some ⟨a4, 0, none⟩), .pointer (some ⟨b4, 0, none⟩)] wr fun e w' => Laid wr w' e (twos r.T) := by
              have hq := nf_call (.slice xa (pr r k).length xc) (HL.out.2.2.2.2.1.below hbr) (by have := HOK.out.t1; omega)
              rw [wides_T HOK.out] at hq
              exact hq
          exact hq.mono (fun e w' h => laid_step HOW.out hbr h)
        have HT : Hid (pr r (k + 1) = pr r k ++ twos r.T) := by rw [e]; rfl
        have HYL : Hid ((twos r.T).length ≤ 300) := by
          have : (twos r.T).length ≤ 300 := by rw [twos_len]; have := HOK.out.t1; omega
          exact this
        clear e hbv hxn
        generalize (twos r.T) = ys at *
        go_wp2_with (first
          | (go_at_call 50; refine (HCL.out).mono ?_; rintro e w2 ⟨ya, yc, rfl, H2⟩; clear HCL)
          | (at_builtin; refine wp_app_bv rfl _ _ rfl wL.heap.size _ (pr r k) ys rfl H2.out.2.2.1 ya yc rfl H2.out.1 H2.out.2.1 (by have := HPL.out; have := HYL.out; omega) H2.out.2.2.2.size ?_; intro v3 w3 ho3 hb3)
          | fail)
        go_roundw
        case rel => exact ⟨k + 1, by omega, by go_num, by rw [HT.out]; exact ho3, H2.out.2.2.2.trans hb3⟩
        case measure => simp [intOf]; omega
      · have hx : wr.cell? ⟨g, k, none⟩ = some (.func (.func 50) #[] #[.pointer (some ⟨a5, 0, none⟩), .pointer (some ⟨b5, 0, none⟩)]) := by
          rw [e, (hbr.cell (p := ⟨g, 5, none⟩) hgs), cell_of_row _ _ _ _ _ _ HL.out.1]; rfl
        have HCL : Hid (Calls Try.prog 50 #[.slice xa (pr r k).length xc, .pointer (some ⟨a5, 0, none⟩), .pointer (some ⟨b5, 0, none⟩)] wr fun e w' => ∃ a c, e = .returned (.slice a (twos r.M).length c) ∧ Hid (BV w' a (twos r.M) ∧ (a = none → c = 0) ∧ Own w' wL.heap.size (.slice xa (pr r k).length xc) (pr r k) ∧ Below wL.heap.size wL w')) := by
          have hq : Calls Try.prog 50 #[.slice xa (pr r k).length xc, .pointer (some ⟨a5, 0, none⟩), .pointer (some ⟨b5, 0, none⟩)] wr fun e w' => Laid wr w' e (twos r.M) := by
              have hq := nf_call (.slice xa (pr r k).length xc) (HL.out.2.2.2.2.2.below hbr) (by have := HOK.out.m1; omega)
              rw [wides_M HOK.out] at hq
              exact hq
          exact hq.mono (fun e w' h => laid_step HOW.out hbr h)
        have HT : Hid (pr r (k + 1) = pr r k ++ twos r.M) := by rw [e]; rfl
        have HYL : Hid ((twos r.M).length ≤ 300) := by
          have : (twos r.M).length ≤ 300 := by rw [twos_len]; have := HOK.out.m1; omega
          exact this
        clear e hbv hxn
        generalize (twos r.M) = ys at *
        go_wp2_with (first
          | (go_at_call 50; refine (HCL.out).mono ?_; rintro e w2 ⟨ya, yc, rfl, H2⟩; clear HCL)
          | (at_builtin; refine wp_app_bv rfl _ _ rfl wL.heap.size _ (pr r k) ys rfl H2.out.2.2.1 ya yc rfl H2.out.1 H2.out.2.1 (by have := HPL.out; have := HYL.out; omega) H2.out.2.2.2.size ?_; intro v3 w3 ho3 hb3)
          | fail)
        go_roundw
        case rel => exact ⟨k + 1, by omega, by go_num, by rw [HT.out]; exact ho3, H2.out.2.2.2.trans hb3⟩
        case measure => simp [intOf]; omega
      · have hx : wr.cell? ⟨g, k, none⟩ = some (.func (.func 36) #[] #[]) := by
          rw [e, (hbr.cell (p := ⟨g, 6, none⟩) hgs), cell_of_row _ _ _ _ _ _ HL.out.1]; rfl
        have HCL : Hid (Calls Try.prog 36 #[.slice xa (pr r k).length xc] wr fun e w' => ∃ a c, e = .returned (.slice a (List.replicate (246 - (pr r k).length) 0 : List Int).length c) ∧ Hid (BV w' a (List.replicate (246 - (pr r k).length) 0 : List Int) ∧ (a = none → c = 0) ∧ Own w' wL.heap.size (.slice xa (pr r k).length xc) (pr r k) ∧ Below wL.heap.size wL w')) := by
          have hq : Calls Try.prog 36 #[.slice xa (pr r k).length xc] wr fun e w' => Laid wr w' e (List.replicate (246 - (pr r k).length) 0 : List Int) := by
              refine layers2_any xa (pr r k).length xc wr ?_
              rw [e]
              have := HOK.out.t1; have := HOK.out.m1
              show (frontS r).length ≤ 246
              rw [front_len]; omega
          exact hq.mono (fun e w' h => laid_step HOW.out hbr h)
        have HT : Hid (pr r (k + 1) = pr r k ++ List.replicate (246 - (pr r k).length) 0) := by rw [e]; rfl
        have HYL : Hid ((List.replicate (246 - (pr r k).length) 0 : List Int).length ≤ 300) := by
          have : (List.replicate (246 - (pr r k).length) 0 : List Int).length ≤ 300 := by rw [List.length_replicate]; omega
          exact this
        clear e hbv hxn
        generalize (List.replicate (246 - (pr r k).length) 0 : List Int) = ys at *
        go_wp2_with (first
          | (go_at_call 36; refine (HCL.out).mono ?_; rintro e w2 ⟨ya, yc, rfl, H2⟩; clear HCL)
          | (at_builtin; refine wp_app_bv rfl _ _ rfl wL.heap.size _ (pr r k) ys rfl H2.out.2.2.1 ya yc rfl H2.out.1 H2.out.2.1 (by have := HPL.out; have := HYL.out; omega) H2.out.2.2.2.size ?_; intro v3 w3 ho3 hb3)
          | fail)
        go_roundw
        case rel => exact ⟨k + 1, by omega, by go_num, by rw [HT.out]; exact ho3, H2.out.2.2.2.trans hb3⟩
        case measure => simp [intOf]; omega
      · have hx : wr.cell? ⟨g, k, none⟩ = some (.func (.func 37) #[] #[]) := by
          rw [e, (hbr.cell (p := ⟨g, 7, none⟩) hgs), cell_of_row _ _ _ _ _ _ HL.out.1]; rfl
        have HCL : Hid (Calls Try.prog 37 #[.slice xa (pr r k).length xc] wr fun e w' => ∃ a c, e = .returned (.slice a (dig (more 0 (pr r k)) 4).length c) ∧ Hid (BV w' a (dig (more 0 (pr r k)) 4) ∧ (a = none → c = 0) ∧ Own w' wL.heap.size (.slice xa (pr r k).length xc) (pr r k) ∧ Below wL.heap.size wL w')) := by
          have hq : Calls Try.prog 37 #[.slice xa (pr r k).length xc] wr fun e w' => Laid wr w' e (dig (more 0 (pr r k)) 4) := layers3_any xa (pr r k) xc wr hbv hxn (by have := pr_len HOK.out k; omega)
          exact hq.mono (fun e w' h => laid_step HOW.out hbr h)
        have HT : Hid (pr r (k + 1) = pr r k ++ dig (more 0 (pr r k)) 4) := by rw [e]; rfl
        have HYL : Hid ((dig (more 0 (pr r k)) 4).length ≤ 300) := by
          have : (dig (more 0 (pr r k)) 4).length ≤ 300 := by rw [dig_length]; omega
          exact this
        clear e hbv hxn
        generalize (dig (more 0 (pr r k)) 4) = ys at *
        go_wp2_with (first
          | (go_at_call 37; refine (HCL.out).mono ?_; rintro e w2 ⟨ya, yc, rfl, H2⟩; clear HCL)
          | (at_builtin; refine wp_app_bv rfl _ _ rfl wL.heap.size _ (pr r k) ys rfl H2.out.2.2.1 ya yc rfl H2.out.1 H2.out.2.1 (by have := HPL.out; have := HYL.out; omega) H2.out.2.2.2.size ?_; intro v3 w3 ho3 hb3)
          | fail)
        go_roundw
        case rel => exact ⟨k + 1, by omega, by go_num, by rw [HT.out]; exact ho3, H2.out.2.2.2.trans hb3⟩
        case measure => simp [intOf]; omega
      · have hx : wr.cell? ⟨g, k, none⟩ = some (.func (.func 50) #[] #[.pointer (some ⟨a1, 0, none⟩), .pointer (some ⟨b1, 0, none⟩)]) := by
          rw [e, (hbr.cell (p := ⟨g, 8, none⟩) hgs), cell_of_row _ _ _ _ _ _ HL.out.1]; rfl
        have HCL : Hid (Calls Try.prog 50 #[.slice xa (pr r k).length xc, .pointer (some ⟨a1, 0, none⟩), .pointer (some ⟨b1, 0, none⟩)] wr fun e w' => ∃ a c, e = .returned (.slice a (dig r.E 6).length c) ∧ Hid (BV w' a (dig r.E 6) ∧ (a = none → c = 0) ∧ Own w' wL.heap.size (.slice xa (pr r k).length xc) (pr r k) ∧ Below wL.heap.size wL w')) := by
          have hq : Calls Try.prog 50 #[.slice xa (pr r k).length xc, .pointer (some ⟨a1, 0, none⟩), .pointer (some ⟨b1, 0, none⟩)] wr fun e w' => Laid wr w' e (dig r.E 6) := by
              have hq := nf_call (.slice xa (pr r k).length xc) (HL.out.2.1.below hbr) (by simp)
              rw [wides_6 HOK.out] at hq
              exact hq
          exact hq.mono (fun e w' h => laid_step HOW.out hbr h)
        have HT : Hid (pr r (k + 1) = pr r k ++ dig r.E 6) := by rw [e]; rfl
        have HYL : Hid ((dig r.E 6).length ≤ 300) := by
          have : (dig r.E 6).length ≤ 300 := by rw [dig_length]; omega
          exact this
        clear e hbv hxn
        generalize (dig r.E 6) = ys at *
        go_wp2_with (first
          | (go_at_call 50; refine (HCL.out).mono ?_; rintro e w2 ⟨ya, yc, rfl, H2⟩; clear HCL)
          | (at_builtin; refine wp_app_bv rfl _ _ rfl wL.heap.size _ (pr r k) ys rfl H2.out.2.2.1 ya yc rfl H2.out.1 H2.out.2.1 (by have := HPL.out; have := HYL.out; omega) H2.out.2.2.2.size ?_; intro v3 w3 ho3 hb3)
          | fail)
        go_roundw
        case rel => exact ⟨k + 1, by omega, by go_num, by rw [HT.out]; exact ho3, H2.out.2.2.2.trans hb3⟩
        case measure => simp [intOf]; omega
    · have HOF : Hid (Own wr wL.heap.size u5 (putS r)) := by
        have e : k = 9 := by omega
        have h := HO.out
        rw [e] at h
        exact h
      have HBF : Hid (Below w.heap.size w wr ∧ w.heap.size ≤ wL.heap.size) := by
        have q1 := hB.trans (hb1.mono hB.size)
        have q2 := q1.trans (hbL.mono q1.size)
        exact ⟨q2.trans (HW.out.mono q2.size), q2.size⟩
      clear HO
      go_wp2_with fail
      exact bodyPost_ret (v := .tuple #[u5, .int .i64 0]) (by simp [results, Try.results9, go_sem]) rfl ⟨u5, rfl, HOF.out.mono HBF.out.2, HBF.out.1⟩
end Go.Proofs.Ytadnflaocgmfgaa
