/- Size, inOrder, Check; whether pairs are the same. -/
import Derived.Test.YtnnndkpmlpbpcaaCl
import Derived.Deep.RegionHeld3
namespace Go.Proofs.Ytnnndkpmlpbpcaa
open Go.RowKit
set_option linter.unusedVariables false
set_option maxRecDepth 20000

def szN (ps : List PR) : Nat := ps.foldr (fun p n => 2 + p.1.size + p.2.size + n) 0
theorem szN_cons (p : PR) (ps : List PR) : szN (p :: ps) = 2 + p.1.size + p.2.size + szN ps := rfl
theorem szN_append (ps qs : List PR) : szN (ps ++ qs) = szN ps + szN qs := by
  induction ps with
  | nil => simp [szN]
  | cons p ps ih => rw [List.cons_append, szN_cons, szN_cons, ih]; omega
theorem take_snocP (ps : List PR) (k : Nat) (h : k < ps.length) : ps.take (k + 1) = ps.take k ++ [ps.getD k default] := by
  rw [List.take_succ_eq_append_getElem h, List.getD_eq_getElem?_getD, List.getElem?_eq_getElem h]; rfl
theorem szN_take (ps : List PR) (k : Nat) (h : k < ps.length) : szN (ps.take (k + 1)) = szN (ps.take k) + (2 + (ps.getD k default).1.size + (ps.getD k default).2.size) := by
  rw [take_snocP ps k h, szN_append]; rfl
theorem szN_le (ps : List PR) (h : ∀ p ∈ ps, Lp p) : szN ps ≤ 2002 * ps.length := by
  induction ps with
  | nil => simp [szN]
  | cons p ps ih =>
    rw [szN_cons, List.length_cons]
    have h1 := h p (by simp)
    have h2 := ih (fun q hq => h q (by simp [hq]))
    unfold Lp at h1
    omega
def sizeS (ps : List PR) : Int := 4 + (szN ps : Int)
def bkv (d n : Int) (a : Option Addr) (len cap : Nat) : Value := .agg #[.int .i64 d, .int .i64 n, .slice a len cap]
set_option maxHeartbeats 800000 in
theorem size_any (d n : Int) (a : Option Addr) (cap : Nat) (ps : List PR) (w : World) (hp : PV w a ps) (hl : ps.length ≤ 1000000) (hL : ∀ p ∈ ps, Lp p) :
    Calls Try.prog 15 #[bkv d n a ps.length cap] w fun e w' => e = .returned (.int .i64 (sizeS ps)) ∧ Below w.heap.size w w' := by
  unfold bkv
  go_enter Try.func15, Try.ntmps15
  go_wp2
  go_loopw [3, 9] (fun x i wr => ∃ k : Nat, k ≤ ps.length ∧ i = .int .i64 k ∧ x = .int .i64 (4 + (szN (ps.take k) : Int)) ∧ Hid (Below w.heap.size w wr)) (fun _ i _ => ps.length - (intOf i).toNat)
  case atStart => exact ⟨0, Nat.zero_le _, rfl, rfl, one_block _ _⟩
  case round =>
    obtain ⟨k, hk, rfl, rfl, HB⟩ := hrel
    by_cases hlt : k < ps.length
    · obtain h0 | ⟨b, off, rfl, hbl, hc⟩ := hp.below HB.out
      · subst h0; simp at hlt
      obtain ⟨c0, c1⟩ := hc k hlt
      have hP := Lp.get hL k hlt
      have hX := szN_take ps k hlt
      have hle := szN_le (ps.take k) (fun p hp => hL p (List.mem_of_mem_take hp))
      have hle2 : (ps.take k).length ≤ 1000000 := by simp; omega
      have HX : Hid (szN (ps.take (k + 1)) = _) := hX
      clear hX hc
      generalize szN (ps.take k) = x at *
      generalize (ps.take k).length = y at *
      unfold Lp at hP
      generalize (ps.getD k default).1 = sk at *
      generalize (ps.getD k default).2 = sv at *
      go_wp2
      go_roundw
      case rel => exact ⟨k + 1, by omega, by go_num, by rw [HX.out]; go_num, bt HB.out (one_block _ _)⟩
      case measure => simp [intOf]; omega
    · have : k = ps.length := by omega
      subst this
      rw [List.take_length]
      go_wp2
      go_ret
      exact ⟨rfl, HB.out⟩
set_option maxHeartbeats 800000 in
theorem rsize_any (a : Option Addr) (cap : Nat) (ps : List PR) (w : World) (hp : PV w a ps) (hl : ps.length ≤ 1000000) (hL : ∀ p ∈ ps, Lp p) :
    Calls Try.prog 16 #[.slice a ps.length cap] w fun e w' => e = .returned (.int .i64 (sizeS ps)) ∧ Below w.heap.size w w' := by
  go_enter Try.func16, Try.ntmps16
  go_wp2
  go_loopw [3, 4] (fun x i wr => ∃ k : Nat, k ≤ ps.length ∧ i = .int .i64 k ∧ x = .int .i64 (4 + (szN (ps.take k) : Int)) ∧ Hid (Below w.heap.size w wr)) (fun _ i _ => ps.length - (intOf i).toNat)
  case atStart => exact ⟨0, Nat.zero_le _, rfl, rfl, Below.refl _ _⟩
  case round =>
    obtain ⟨k, hk, rfl, rfl, HB⟩ := hrel
    by_cases hlt : k < ps.length
    · obtain h0 | ⟨b, off, rfl, hbl, hc⟩ := hp.below HB.out
      · subst h0; simp at hlt
      obtain ⟨c0, c1⟩ := hc k hlt
      have hP := Lp.get hL k hlt
      have hX := szN_take ps k hlt
      have hle := szN_le (ps.take k) (fun p hp => hL p (List.mem_of_mem_take hp))
      have hle2 : (ps.take k).length ≤ 1000000 := by simp; omega
      have HX : Hid (szN (ps.take (k + 1)) = _) := hX
      clear hX hc
      generalize szN (ps.take k) = x at *
      generalize (ps.take k).length = y at *
      unfold Lp at hP
      generalize (ps.getD k default).1 = sk at *
      generalize (ps.getD k default).2 = sv at *
      have hlt2 : (k : Int) < (ps.length : Int) := by omega
      go_wp2
      go_quiet (fail)
      go_wp2
      go_roundw
      case rel => exact ⟨k + 1, by omega, by go_num, by rw [HX.out]; go_num, below_drewN HB.out _⟩
      case measure => simp [intOf]; omega
    · have : k = ps.length := by omega
      subst this
      rw [List.take_length]
      go_wp2
      go_ret
      exact ⟨rfl, HB.out⟩
def risesB (ps : List PR) : Bool := (List.range (ps.length - 1)).all fun i => lessP (ps.getD i default) (ps.getD (i + 1) default)
theorem rises_true {ps : List PR} (h : ∀ m, m + 1 < ps.length → lessP (ps.getD m default) (ps.getD (m + 1) default) = true) : risesB ps = true := by
  unfold risesB
  rw [List.all_eq_true]
  intro i hi
  exact h i (by have := List.mem_range.1 hi; omega)
theorem rises_false {ps : List PR} {m : Nat} (hm : m + 1 < ps.length) (h : lessP (ps.getD m default) (ps.getD (m + 1) default) = false) : risesB ps = false := by
  unfold risesB
  rw [List.all_eq_false]
  exact ⟨m, List.mem_range.2 (by omega), by rw [h]; simp⟩
set_option maxHeartbeats 2000000 in
theorem order_any (a : Option Addr) (cap : Nat) (ps : List PR) (w : World) (hp : PV w a ps) (hl : ps.length ≤ 1000000) :
    Calls Try.prog 44 #[.slice a ps.length cap] w fun e w' => e = .returned (.bool (risesB ps)) ∧ Below w.heap.size w w' := by
  go_enter Try.func44, Try.ntmps44
  go_wp2
  go_loopw [3] (fun i wr => ∃ k : Nat, k ≤ ps.length ∧ i = .int .i64 (k + 1) ∧ Hid (∀ m, m < k → m + 1 < ps.length → lessP (ps.getD m default) (ps.getD (m + 1) default) = true) ∧ Hid (Below w.heap.size w wr)) (fun i _ => ps.length + 1 - (intOf i).toNat)
  case atStart => exact ⟨0, Nat.zero_le _, rfl, (fun m hm => by omega), Below.refl _ _⟩
  case round =>
    obtain ⟨k, hk, rfl, HN, HB⟩ := hrel
    by_cases hlt : k + 1 < ps.length
    · have HPV := hp.below HB.out
      obtain h0 | ⟨b, off, rfl, hbl, hc⟩ := HPV
      · subst h0; simp at hlt
      have SL : Hid (∀ W, Below wr.heap.size wr W → W.cell? ⟨b, off + k * 2, none⟩ = some (.string (ps.getD k default).1) ∧ W.cell? ⟨b, off + k * 2 + 1, none⟩ = some (.string (ps.getD k default).2) ∧ W.cell? ⟨b, off + (k + 1) * 2, none⟩ = some (.string (ps.getD (k + 1) default).1) ∧ W.cell? ⟨b, off + (k + 1) * 2 + 1, none⟩ = some (.string (ps.getD (k + 1) default).2)) := fun W hW =>
        ⟨(hW.cell (p := ⟨b, off + k * 2, none⟩) hbl).trans (hc k (by omega)).1, (hW.cell (p := ⟨b, off + k * 2 + 1, none⟩) hbl).trans (hc k (by omega)).2, (hW.cell (p := ⟨b, off + (k + 1) * 2, none⟩) hbl).trans (hc (k + 1) hlt).1, (hW.cell (p := ⟨b, off + (k + 1) * 2 + 1, none⟩) hbl).trans (hc (k + 1) hlt).2⟩
      have HLS : Hid (∀ W, Calls Try.prog 30 #[pv (ps.getD k default), pv (ps.getD (k + 1) default)] W fun e w' => e = .returned (.bool (lessP (ps.getD k default) (ps.getD (k + 1) default))) ∧ Below W.heap.size W w') := fun W => less_any _ _ W
      unfold pv at HLS
      clear hc
      have hlt1 : (k : Int) < (ps.length : Int) := by omega
      have hlt2 : (k : Int) + 1 < (ps.length : Int) := by omega
      have hz1 : (0 : Int) ≤ (k : Int) + 1 := by omega
      have ht1 : ((k : Int) + 1).toNat = k + 1 := by omega
      have hw1 : IntKind.i64.wrap (k : Int) = k := by rw [IntKind.wrap_i64]; omega
      have hw2 : IntKind.i64.wrap ((k : Int) + 1 - 1) = k := by rw [IntKind.wrap_i64]; omega
      cases hless : lessP (ps.getD k default) (ps.getD (k + 1) default)
      · have HF : Hid (risesB ps = false) := rises_false hlt hless
        rw [hless] at HLS
        clear hless
        generalize (ps.getD k default).1 = k1 at *
        generalize (ps.getD k default).2 = v1 at *
        generalize (ps.getD (k + 1) default).1 = k2 at *
        generalize (ps.getD (k + 1) default).2 = v2 at *
        go_wp2_with fail
        go_region_held3 (fun W => W.cell? ⟨b, off + k * 2, none⟩ = some (.string k1) ∧ W.cell? ⟨b, off + k * 2 + 1, none⟩ = some (.string v1) ∧ W.cell? ⟨b, off + (k + 1) * 2, none⟩ = some (.string k2) ∧ W.cell? ⟨b, off + (k + 1) * 2 + 1, none⟩ = some (.string v2)) (first | exact SL.out _ (Below.refl _ _).drew | exact SL.out _ ((Below.refl _ _).drew.trans hb1)) (first | (go_at_call 30; refine (HLS.out _).mono ?_; rintro e w1 ⟨rfl, hb1⟩))
        go_wp2
        go_ret
        exact ⟨by rw [HF.out]; rfl, bt HB.out ((Below.refl _ _).drew.trans hb1)⟩
      · have HN1 : Hid (∀ m, m < k + 1 → m + 1 < ps.length → lessP (ps.getD m default) (ps.getD (m + 1) default) = true) := by
          intro m hm hm2
          by_cases e : m = k
          · subst e; exact hless
          · exact HN.out m (by omega) hm2
        rw [hless] at HLS
        clear hless
        generalize (ps.getD k default).1 = k1 at *
        generalize (ps.getD k default).2 = v1 at *
        generalize (ps.getD (k + 1) default).1 = k2 at *
        generalize (ps.getD (k + 1) default).2 = v2 at *
        go_wp2_with fail
        go_region_held3 (fun W => W.cell? ⟨b, off + k * 2, none⟩ = some (.string k1) ∧ W.cell? ⟨b, off + k * 2 + 1, none⟩ = some (.string v1) ∧ W.cell? ⟨b, off + (k + 1) * 2, none⟩ = some (.string k2) ∧ W.cell? ⟨b, off + (k + 1) * 2 + 1, none⟩ = some (.string v2)) (first | exact SL.out _ (Below.refl _ _).drew | exact SL.out _ ((Below.refl _ _).drew.trans hb1)) (first | (go_at_call 30; refine (HLS.out _).mono ?_; rintro e w1 ⟨rfl, hb1⟩))
        go_wp2
        go_roundw
        case rel => exact ⟨k + 1, by omega, by go_num, HN1, bt HB.out ((Below.refl _ _).drew.trans hb1)⟩
        case measure => simp [intOf]; omega
    · have HT : Hid (risesB ps = true) := rises_true (fun m hm => HN.out m (by omega) hm)
      have hx : ¬ ((k : Int) + 1 < (ps.length : Int)) := by omega
      go_wp2
      go_ret
      exact ⟨by rw [HT.out]; rfl, HB.out⟩
def checkE (d n : Int) (ps : List PR) : Int :=
  if ¬ (0 ≤ d ∧ d ≤ 10) ∨ ¬ (0 ≤ n ∧ n ≤ 3000) then 12 else if ps.any longP then 5 else if 246 < sizeS ps then 10 else if risesB ps then 0 else 4
theorem place_lt (q : PR → Bool) (ps : List PR) : decide (ps.findIdx q < ps.length) = ps.any q := by
  rw [Bool.eq_iff_iff, decide_eq_true_eq, List.any_eq_true]
  constructor
  · intro h
    exact List.findIdx_lt_length.1 (by omega)
  · intro h
    have := List.findIdx_lt_length.2 h
    omega
set_option maxHeartbeats 2000000 in
theorem check_any (d n : Int) (a : Option Addr) (cap : Nat) (ps : List PR) (w : World) (hp : PV w a ps) (hl : ps.length ≤ 1000000) (hL : ∀ p ∈ ps, Lp p) :
    Calls Try.prog 14 #[bkv d n a ps.length cap] w fun e w' => e = .returned (.int .i64 (checkE d n ps)) ∧ Below w.heap.size w w' := by
  have W1 := fun W => within_any d 10 W
  have W2 := fun W => within_any n 3000 W
  unfold checkE
  by_cases h1 : 0 ≤ d ∧ d ≤ 10
  · by_cases h2 : 0 ≤ n ∧ n ≤ 3000
    · rw [if_neg (by simp [h1, h2])]
      rw [show (decide (0 ≤ d) && decide (d ≤ 10)) = true by simp [h1]] at W1
      rw [show (decide (0 ≤ n) && decide (n ≤ 3000)) = true by simp [h2]] at W2
      have SL : Hid (∀ W, Below w.heap.size w W → PV W a ps) := fun W hW => hp.below hW
      have PL : Hid (∀ W, Below w.heap.size w W → Calls Try.prog 42 #[.slice a ps.length cap, .func (.func 43) #[] #[]] W fun e w' => e = .returned (.int .i64 (ps.findIdx longP)) ∧ Below W.heap.size W w') := fun W hW => place_any 43 #[] longP a cap ps W (hp.below hW) (asks43 W) hl hL
      have SZ : Hid (∀ W, Below w.heap.size w W → Calls Try.prog 15 #[.agg #[.int .i64 d, .int .i64 n, .slice a ps.length cap]] W fun e w' => e = .returned (.int .i64 (sizeS ps)) ∧ Below W.heap.size W w') := fun W hW => size_any d n a cap ps W (hp.below hW) hl hL
      have OD : Hid (∀ W, Below w.heap.size w W → Calls Try.prog 44 #[.slice a ps.length cap] W fun e w' => e = .returned (.bool (risesB ps)) ∧ Below W.heap.size W w') := fun W hW => order_any a cap ps W (hp.below hW) hl
      have CL : Hid (∀ W, Below (w.alloc (.cells #[.int .i64 d, .int .i64 n, .slice a ps.length cap] 28)).heap.size (w.alloc (.cells #[.int .i64 d, .int .i64 n, .slice a ps.length cap] 28)) W → W.cell? ⟨w.heap.size, 0, none⟩ = some (.int .i64 d) ∧ W.cell? ⟨w.heap.size, 1, none⟩ = some (.int .i64 n) ∧ W.cell? ⟨w.heap.size, 2, none⟩ = some (.slice a ps.length cap)) := fun W hW => by
        refine ⟨(hW.cell (p := ⟨w.heap.size, 0, none⟩) (by simp)).trans (by go_simp), (hW.cell (p := ⟨w.heap.size, 1, none⟩) (by simp)).trans (by go_simp), (hW.cell (p := ⟨w.heap.size, 2, none⟩) (by simp)).trans (by go_simp)⟩
      have PLT := place_lt longP ps
      clear h1 h2 hp
      unfold bkv
      cases hA : ps.any longP
      · rw [hA] at PLT
        rw [if_neg (by simp)]
        generalize ps.findIdx longP = x at *
        have hx : ¬ x < ps.length := by simpa using PLT
        by_cases hS : 246 < sizeS ps
        · rw [if_pos hS]
          generalize sizeS ps = y at *
          go_enter Try.func14, Try.ntmps14
          go_wp2_with (first | (go_at_call 41; refine (W1 _).mono ?_; rintro e w1 ⟨rfl, hw⟩; obtain rfl := hw.symm; clear W1) | (go_at_call 41; refine (W2 _).mono ?_; rintro e w1 ⟨rfl, hw⟩; obtain rfl := hw.symm; clear W2))
          go_region_held3 (fun W => W.cell? ⟨w.heap.size, 0, none⟩ = some (.int .i64 d) ∧ W.cell? ⟨w.heap.size, 1, none⟩ = some (.int .i64 n) ∧ W.cell? ⟨w.heap.size, 2, none⟩ = some (.slice a ps.length cap)) (first | exact CL.out _ (Below.refl _ _).drew | exact CL.out _ ((Below.refl _ _).drew.trans hb1)) (first | (go_at_call 42; refine (PL.out _ (one_block _ _).drew).mono ?_; rintro e w1 ⟨rfl, hb1⟩))
          obtain ⟨c0, c1, c2⟩ := CL.out _ ((Below.refl _ _).drew.trans hb1)
          go_wp2_with (first | (go_at_call 15; refine (SZ.out _ (bt (one_block _ _) ((Below.refl _ _).drew.trans hb1))).mono ?_; rintro e w2 ⟨rfl, hb2⟩; obtain ⟨d0, d1, d2⟩ := CL.out _ (bt ((Below.refl _ _).drew.trans hb1) hb2)) | (go_at_call 44; refine (OD.out _ (bt (one_block _ _) (bt ((Below.refl _ _).drew.trans hb1) hb2))).mono ?_; rintro e w3 ⟨rfl, hb3⟩))
          go_ret
          exact ⟨rfl, bt (one_block _ _) (bt ((Below.refl _ _).drew.trans hb1) hb2)⟩
        · rw [if_neg hS]
          generalize sizeS ps = y at *
          cases hR : risesB ps
          · rw [hR] at OD
            rw [if_neg (by simp)]
            go_enter Try.func14, Try.ntmps14
            go_wp2_with (first | (go_at_call 41; refine (W1 _).mono ?_; rintro e w1 ⟨rfl, hw⟩; obtain rfl := hw.symm; clear W1) | (go_at_call 41; refine (W2 _).mono ?_; rintro e w1 ⟨rfl, hw⟩; obtain rfl := hw.symm; clear W2))
            go_region_held3 (fun W => W.cell? ⟨w.heap.size, 0, none⟩ = some (.int .i64 d) ∧ W.cell? ⟨w.heap.size, 1, none⟩ = some (.int .i64 n) ∧ W.cell? ⟨w.heap.size, 2, none⟩ = some (.slice a ps.length cap)) (first | exact CL.out _ (Below.refl _ _).drew | exact CL.out _ ((Below.refl _ _).drew.trans hb1)) (first | (go_at_call 42; refine (PL.out _ (one_block _ _).drew).mono ?_; rintro e w1 ⟨rfl, hb1⟩))
            obtain ⟨c0, c1, c2⟩ := CL.out _ ((Below.refl _ _).drew.trans hb1)
            go_wp2_with (first | (go_at_call 15; refine (SZ.out _ (bt (one_block _ _) ((Below.refl _ _).drew.trans hb1))).mono ?_; rintro e w2 ⟨rfl, hb2⟩; obtain ⟨d0, d1, d2⟩ := CL.out _ (bt ((Below.refl _ _).drew.trans hb1) hb2)) | (go_at_call 44; refine (OD.out _ (bt (one_block _ _) (bt ((Below.refl _ _).drew.trans hb1) hb2))).mono ?_; rintro e w3 ⟨rfl, hb3⟩))
            go_ret
            exact ⟨rfl, bt (one_block _ _) (bt (bt ((Below.refl _ _).drew.trans hb1) hb2) hb3)⟩
          · rw [hR] at OD
            rw [if_pos rfl]
            go_enter Try.func14, Try.ntmps14
            go_wp2_with (first | (go_at_call 41; refine (W1 _).mono ?_; rintro e w1 ⟨rfl, hw⟩; obtain rfl := hw.symm; clear W1) | (go_at_call 41; refine (W2 _).mono ?_; rintro e w1 ⟨rfl, hw⟩; obtain rfl := hw.symm; clear W2))
            go_region_held3 (fun W => W.cell? ⟨w.heap.size, 0, none⟩ = some (.int .i64 d) ∧ W.cell? ⟨w.heap.size, 1, none⟩ = some (.int .i64 n) ∧ W.cell? ⟨w.heap.size, 2, none⟩ = some (.slice a ps.length cap)) (first | exact CL.out _ (Below.refl _ _).drew | exact CL.out _ ((Below.refl _ _).drew.trans hb1)) (first | (go_at_call 42; refine (PL.out _ (one_block _ _).drew).mono ?_; rintro e w1 ⟨rfl, hb1⟩))
            obtain ⟨c0, c1, c2⟩ := CL.out _ ((Below.refl _ _).drew.trans hb1)
            go_wp2_with (first | (go_at_call 15; refine (SZ.out _ (bt (one_block _ _) ((Below.refl _ _).drew.trans hb1))).mono ?_; rintro e w2 ⟨rfl, hb2⟩; obtain ⟨d0, d1, d2⟩ := CL.out _ (bt ((Below.refl _ _).drew.trans hb1) hb2)) | (go_at_call 44; refine (OD.out _ (bt (one_block _ _) (bt ((Below.refl _ _).drew.trans hb1) hb2))).mono ?_; rintro e w3 ⟨rfl, hb3⟩))
            go_ret
            exact ⟨rfl, bt (one_block _ _) (bt (bt ((Below.refl _ _).drew.trans hb1) hb2) hb3)⟩
      · rw [hA] at PLT
        rw [if_pos rfl]
        generalize ps.findIdx longP = x at *
        have hx : x < ps.length := by simpa using PLT
        go_enter Try.func14, Try.ntmps14
        go_wp2_with (first | (go_at_call 41; refine (W1 _).mono ?_; rintro e w1 ⟨rfl, hw⟩; obtain rfl := hw.symm; clear W1) | (go_at_call 41; refine (W2 _).mono ?_; rintro e w1 ⟨rfl, hw⟩; obtain rfl := hw.symm; clear W2))
        go_region_held3 (fun W => W.cell? ⟨w.heap.size, 0, none⟩ = some (.int .i64 d) ∧ W.cell? ⟨w.heap.size, 1, none⟩ = some (.int .i64 n) ∧ W.cell? ⟨w.heap.size, 2, none⟩ = some (.slice a ps.length cap)) (first | exact CL.out _ (Below.refl _ _).drew | exact CL.out _ ((Below.refl _ _).drew.trans hb1)) (first | (go_at_call 42; refine (PL.out _ (one_block _ _).drew).mono ?_; rintro e w1 ⟨rfl, hb1⟩))
        obtain ⟨c0, c1, c2⟩ := CL.out _ ((Below.refl _ _).drew.trans hb1)
        go_wp2_with (first | (go_at_call 15; refine (SZ.out _ (bt (one_block _ _) ((Below.refl _ _).drew.trans hb1))).mono ?_; rintro e w2 ⟨rfl, hb2⟩; obtain ⟨d0, d1, d2⟩ := CL.out _ (bt ((Below.refl _ _).drew.trans hb1) hb2)) | (go_at_call 44; refine (OD.out _ (bt (one_block _ _) (bt ((Below.refl _ _).drew.trans hb1) hb2))).mono ?_; rintro e w3 ⟨rfl, hb3⟩))
        go_ret
        exact ⟨rfl, bt (one_block _ _) ((Below.refl _ _).drew.trans hb1)⟩
    · rw [if_pos (Or.inr h2)]
      rw [show (decide (0 ≤ d) && decide (d ≤ 10)) = true by simp [h1]] at W1
      rw [show (decide (0 ≤ n) && decide (n ≤ 3000)) = false by simp only [Bool.and_eq_false_iff, decide_eq_false_iff_not]; omega] at W2
      clear h1 h2
      unfold bkv
      go_enter Try.func14, Try.ntmps14
      go_wp2_with (first | (go_at_call 41; refine (W1 _).mono ?_; rintro e w1 ⟨rfl, hw⟩; obtain rfl := hw.symm; clear W1) | (go_at_call 41; refine (W2 _).mono ?_; rintro e w1 ⟨rfl, hw⟩; obtain rfl := hw.symm; clear W2))
      go_ret
      exact ⟨rfl, one_block _ _⟩
  · rw [if_pos (Or.inl h1)]
    rw [show (decide (0 ≤ d) && decide (d ≤ 10)) = false by simp only [Bool.and_eq_false_iff, decide_eq_false_iff_not]; omega] at W1
    clear h1
    unfold bkv
    go_enter Try.func14, Try.ntmps14
    go_wp2_with (first | (go_at_call 41; refine (W1 _).mono ?_; rintro e w1 ⟨rfl, hw⟩; obtain rfl := hw.symm; clear W1) | (go_at_call 41; refine (W2 _).mono ?_; rintro e w1 ⟨rfl, hw⟩; obtain rfl := hw.symm; clear W2))
    go_ret
    exact ⟨rfl, one_block _ _⟩
end Go.Proofs.Ytnnndkpmlpbpcaa
