/- The document's Check. -/
import Derived.Test.YtnnndkpmlpbpcaaSz
namespace Go.Proofs.Ytnnndkpmlpbpcaa
open Go.RowKit
set_option linter.unusedVariables false
set_option maxRecDepth 20000

theorem any_false_take {q : PR → Bool} {ps : List PR} (h : ∀ m, m < ps.length → q (ps.getD m default) = false) : ps.any q = false := by
  rw [List.any_eq_false]
  intro x hx
  obtain ⟨j, hj, rfl⟩ := List.mem_iff_getElem.1 hx
  have := h j hj
  rw [List.getD_eq_getElem?_getD, List.getElem?_eq_getElem hj] at this
  simp only [Option.getD_some] at this
  simp [this]
theorem any_true_at {q : PR → Bool} {ps : List PR} {m : Nat} (hm : m < ps.length) (h : q (ps.getD m default) = true) : ps.any q = true := by
  rw [List.any_eq_true]
  refine ⟨ps.getD m default, ?_, h⟩
  rw [List.getD_eq_getElem?_getD, List.getElem?_eq_getElem hm]
  exact List.getElem_mem hm
theorem checkE_long {d n : Int} {ps : List PR} (h : (0 ≤ d ∧ d ≤ 10) ∧ (0 ≤ n ∧ n ≤ 3000)) (ha : ps.any longP = true) : checkE d n ps = 5 := by unfold checkE; rw [if_neg (by omega), if_pos ha]
theorem checkE_full {d n : Int} {ps : List PR} (h : (0 ≤ d ∧ d ≤ 10) ∧ (0 ≤ n ∧ n ≤ 3000)) (ha : ps.any longP = false) (hs : 246 < sizeS ps) : checkE d n ps = 10 := by unfold checkE; rw [if_neg (by omega), if_neg (by simp [ha]), if_pos hs]
theorem checkE_form {d n : Int} {ps : List PR} (h : (0 ≤ d ∧ d ≤ 10) ∧ (0 ≤ n ∧ n ≤ 3000)) (ha : ps.any longP = false) (hs : ¬ 246 < sizeS ps) (hr : risesB ps = false) : checkE d n ps = 4 := by unfold checkE; rw [if_neg (by omega), if_neg (by simp [ha]), if_neg hs, if_neg (by simp [hr])]
theorem checkE_ok {d n : Int} {ps : List PR} (h : (0 ≤ d ∧ d ≤ 10) ∧ (0 ≤ n ∧ n ≤ 3000)) (ha : ps.any longP = false) (hs : ¬ 246 < sizeS ps) (hr : risesB ps = true) : checkE d n ps = 0 := by unfold checkE; rw [if_neg (by omega), if_neg (by simp [ha]), if_neg hs, if_pos hr]
theorem checkE_range {d n : Int} {ps : List PR} (h : ¬ ((0 ≤ d ∧ d ≤ 10) ∧ (0 ≤ n ∧ n ≤ 3000))) : checkE d n ps = 12 := by unfold checkE; rw [if_pos (by omega)]
set_option maxHeartbeats 4000000 in
theorem rcheck_any (d n : Int) (a : Option Addr) (cap : Nat) (ps : List PR) (w : World) (hp : PV w a ps) (hl : ps.length ≤ 1000000) (hL : ∀ p ∈ ps, Lp p) :
    Calls Try.prog 35 #[bkv d n a ps.length cap] w fun e w' => e = .returned (.int .i64 (checkE d n ps)) ∧ Below w.heap.size w w' := by
  obtain ⟨r, hr⟩ : ∃ r, r = checkE d n ps := ⟨_, rfl⟩
  rw [← hr]
  have HR : Hid (r = checkE d n ps) := hr
  clear hr
  by_cases h1 : 0 ≤ d
  · by_cases h2 : d ≤ 10
    · by_cases h3 : 0 ≤ n
      · by_cases h4 : n ≤ 3000
        · have HD : Hid ((0 ≤ d ∧ d ≤ 10) ∧ (0 ≤ n ∧ n ≤ 3000)) := ⟨⟨h1, h2⟩, h3, h4⟩
          have SZ : Hid (∀ W, Below w.heap.size w W → Calls Try.prog 16 #[.slice a ps.length cap] W fun e w' => e = .returned (.int .i64 (sizeS ps)) ∧ Below W.heap.size W w') := fun W hW => rsize_any a cap ps W (hp.below hW) hl hL
          have CL : Hid (∀ W, Below (w.alloc (.cells #[.int .i64 d, .int .i64 n, .slice a ps.length cap] 24)).heap.size (w.alloc (.cells #[.int .i64 d, .int .i64 n, .slice a ps.length cap] 24)) W → W.cell? ⟨w.heap.size, 2, none⟩ = some (.slice a ps.length cap)) := fun W hW => (hW.cell (p := ⟨w.heap.size, 2, none⟩) (by simp)).trans (by go_simp)
          unfold bkv
          go_enter Try.func35, Try.ntmps35
          go_wp2
          go_loop [3] (fun i => ∃ k : Nat, k ≤ ps.length ∧ i = .int .i64 k ∧ Hid (∀ m, m < k → longP (ps.getD m default) = false)) (fun i => ps.length - (intOf i).toNat)
          case atStart => exact ⟨0, Nat.zero_le _, rfl, (fun m hm => by omega)⟩
          case round =>
            obtain ⟨k, hk, rfl, HN⟩ := hrel
            by_cases hlt : k < ps.length
            · have HP0 := hp.below (one_block w (.cells #[.int .i64 d, .int .i64 n, .slice a ps.length cap] 24))
              obtain h0 | ⟨b, off, rfl, hbl, hc⟩ := HP0
              · subst h0; simp at hlt
              obtain ⟨c0, c1⟩ := hc k hlt
              clear hc hp
              have hlt2 : (k : Int) < (ps.length : Int) := by omega
              by_cases hk1 : 48 < (ps.getD k default).1.size
              · have HA : Hid (ps.any longP = true) := any_true_at hlt (by unfold longP; simp only [Bool.or_eq_true, decide_eq_true_eq]; exact Or.inl hk1)
                generalize (ps.getD k default).1 = sk at *
                generalize (ps.getD k default).2 = sv at *
                have hx : (48 : Int) < (sk.size : Int) := by omega
                clear hk1
                go_wp2
                go_ret
                exact ⟨by rw [HR.out, checkE_long HD.out HA.out]; rfl, one_block _ _⟩
              · by_cases hv1 : 160 < (ps.getD k default).2.size
                · have HA : Hid (ps.any longP = true) := any_true_at hlt (by unfold longP; simp only [Bool.or_eq_true, decide_eq_true_eq]; exact Or.inr hv1)
                  generalize (ps.getD k default).1 = sk at *
                  generalize (ps.getD k default).2 = sv at *
                  have hx : ¬ (48 : Int) < (sk.size : Int) := by omega
                  have hy : (160 : Int) < (sv.size : Int) := by omega
                  clear hk1 hv1
                  go_wp2
                  go_ret
                  exact ⟨by rw [HR.out, checkE_long HD.out HA.out]; rfl, one_block _ _⟩
                · have HN1 : Hid (∀ m, m < k + 1 → longP (ps.getD m default) = false) := by
                    intro m hm
                    by_cases e : m = k
                    · subst e
                      unfold longP
                      rw [decide_eq_false hk1, decide_eq_false hv1]; rfl
                    · exact HN.out m (by omega)
                  generalize (ps.getD k default).1 = sk at *
                  generalize (ps.getD k default).2 = sv at *
                  have hx : ¬ (48 : Int) < (sk.size : Int) := by omega
                  have hy : ¬ (160 : Int) < (sv.size : Int) := by omega
                  clear hk1 hv1
                  go_wp2
                  go_round
                  case rel => exact ⟨k + 1, by omega, by go_num, HN1⟩
                  case measure => simp [intOf]; omega
            · have : k = ps.length := by omega
              have HA : Hid (ps.any longP = false) := any_false_take (by rw [← this]; exact HN.out)
              subst this
              have hxx : ¬ ((ps.length : Int) < (ps.length : Int)) := by omega
              by_cases hS : 246 < sizeS ps
              · have HX : Hid (r = 10) := HR.out.trans (checkE_full HD.out HA.out hS)
                generalize sizeS ps = y at SZ hS
                go_wp2_with (go_at_call 16; refine (SZ.out _ (one_block _ _)).mono ?_; rintro e w1 ⟨rfl, hb1⟩)
                go_ret
                exact ⟨by rw [HX.out]; rfl, bt (one_block _ _) hb1⟩
              · have HS : Hid (sizeS ps ≤ 246) := Int.not_lt.1 hS
                generalize sizeS ps = y at SZ hS
                go_wp2_with (go_at_call 16; refine (SZ.out _ (one_block _ _)).mono ?_; rintro e w1 ⟨rfl, hb1⟩)
                go_loopw [4] (fun i wr => ∃ k : Nat, k ≤ ps.length ∧ i = .int .i64 k ∧ Hid (∀ m, m < k → m + 1 < ps.length → lessP (ps.getD m default) (ps.getD (m + 1) default) = true) ∧ Hid (Below (w.alloc (.cells #[.int .i64 d, .int .i64 n, .slice a ps.length cap] 24)).heap.size (w.alloc (.cells #[.int .i64 d, .int .i64 n, .slice a ps.length cap] 24)) wr)) (fun i _ => ps.length - (intOf i).toNat)
                case atStart => exact ⟨0, Nat.zero_le _, rfl, (fun m hm => by omega), hb1⟩
                case round =>
                  obtain ⟨k, hk, rfl, HN2, HB⟩ := hrel
                  have c2 := CL.out _ HB.out
                  by_cases hlt : k + 1 < ps.length
                  · have HPV := (hp.below (one_block w (.cells #[.int .i64 d, .int .i64 n, .slice a ps.length cap] 24))).below HB.out
                    obtain h0 | ⟨b, off, rfl, hbl, hc⟩ := HPV
                    · subst h0; simp at hlt
                    have SL : Hid (∀ W, Below wr.heap.size wr W → W.cell? ⟨b, off + k * 2, none⟩ = some (.string (ps.getD k default).1) ∧ W.cell? ⟨b, off + k * 2 + 1, none⟩ = some (.string (ps.getD k default).2) ∧ W.cell? ⟨b, off + (k + 1) * 2, none⟩ = some (.string (ps.getD (k + 1) default).1) ∧ W.cell? ⟨b, off + (k + 1) * 2 + 1, none⟩ = some (.string (ps.getD (k + 1) default).2) ∧ W.cell? ⟨w.heap.size, 2, none⟩ = some (.slice (some ⟨b, off, none⟩) ps.length cap)) := fun W hW =>
                      ⟨(hW.cell (p := ⟨b, off + k * 2, none⟩) hbl).trans (hc k (by omega)).1, (hW.cell (p := ⟨b, off + k * 2 + 1, none⟩) hbl).trans (hc k (by omega)).2, (hW.cell (p := ⟨b, off + (k + 1) * 2, none⟩) hbl).trans (hc (k + 1) hlt).1, (hW.cell (p := ⟨b, off + (k + 1) * 2 + 1, none⟩) hbl).trans (hc (k + 1) hlt).2, CL.out W (bt HB.out hW)⟩
                    have HLS : Hid (∀ W, Calls Try.prog 31 #[pv (ps.getD k default), pv (ps.getD (k + 1) default)] W fun e w' => e = .returned (.bool (lessP (ps.getD k default) (ps.getD (k + 1) default))) ∧ Below W.heap.size W w') := fun W => rless_any _ _ W
                    unfold pv at HLS
                    clear hc hp
                    have hlt1 : (k : Int) < (ps.length : Int) := by omega
                    have hlt2 : (k : Int) + 1 < (ps.length : Int) := by omega
                    have hz1 : (0 : Int) ≤ (k : Int) + 1 := by omega
                    have ht1 : ((k : Int) + 1).toNat = k + 1 := by omega
                    have hw1 : IntKind.i64.wrap ((k : Int) + 1) = (k : Int) + 1 := by rw [IntKind.wrap_i64]; omega
                    cases hless : lessP (ps.getD k default) (ps.getD (k + 1) default)
                    · have HF : Hid (r = 4) := HR.out.trans (checkE_form HD.out HA.out (Int.not_lt.2 HS.out) (rises_false hlt hless))
                      rw [hless] at HLS
                      clear hless
                      generalize (ps.getD k default).1 = k1 at *
                      generalize (ps.getD k default).2 = v1 at *
                      generalize (ps.getD (k + 1) default).1 = k2 at *
                      generalize (ps.getD (k + 1) default).2 = v2 at *
                      go_wp2_with fail
                      go_region_held3 (fun W => W.cell? ⟨b, off + k * 2, none⟩ = some (.string k1) ∧ W.cell? ⟨b, off + k * 2 + 1, none⟩ = some (.string v1) ∧ W.cell? ⟨b, off + (k + 1) * 2, none⟩ = some (.string k2) ∧ W.cell? ⟨b, off + (k + 1) * 2 + 1, none⟩ = some (.string v2) ∧ W.cell? ⟨w.heap.size, 2, none⟩ = some (.slice (some ⟨b, off, none⟩) ps.length cap)) (first | exact SL.out _ (Below.refl _ _).drew | exact SL.out _ ((Below.refl _ _).drew.trans hb2)) (first | (go_at_call 31; refine (HLS.out _).mono ?_; rintro e w2 ⟨rfl, hb2⟩))
                      go_wp2
                      go_ret
                      exact ⟨by rw [HF.out]; rfl, bt (one_block _ _) (bt HB.out ((Below.refl _ _).drew.trans hb2))⟩
                    · have HN1 : Hid (∀ m, m < k + 1 → m + 1 < ps.length → lessP (ps.getD m default) (ps.getD (m + 1) default) = true) := by
                        intro m hm hm2
                        by_cases e : m = k
                        · subst e; exact hless
                        · exact HN2.out m (by omega) hm2
                      rw [hless] at HLS
                      clear hless
                      generalize (ps.getD k default).1 = k1 at *
                      generalize (ps.getD k default).2 = v1 at *
                      generalize (ps.getD (k + 1) default).1 = k2 at *
                      generalize (ps.getD (k + 1) default).2 = v2 at *
                      go_wp2_with fail
                      go_region_held3 (fun W => W.cell? ⟨b, off + k * 2, none⟩ = some (.string k1) ∧ W.cell? ⟨b, off + k * 2 + 1, none⟩ = some (.string v1) ∧ W.cell? ⟨b, off + (k + 1) * 2, none⟩ = some (.string k2) ∧ W.cell? ⟨b, off + (k + 1) * 2 + 1, none⟩ = some (.string v2) ∧ W.cell? ⟨w.heap.size, 2, none⟩ = some (.slice (some ⟨b, off, none⟩) ps.length cap)) (first | exact SL.out _ (Below.refl _ _).drew | exact SL.out _ ((Below.refl _ _).drew.trans hb2)) (first | (go_at_call 31; refine (HLS.out _).mono ?_; rintro e w2 ⟨rfl, hb2⟩))
                      go_wp2
                      go_roundw
                      case rel => exact ⟨k + 1, by omega, by go_num, HN1, bt HB.out ((Below.refl _ _).drew.trans hb2)⟩
                      case measure => simp [intOf]; omega
                  · have HT : Hid (r = 0) := HR.out.trans (checkE_ok HD.out HA.out (Int.not_lt.2 HS.out) (rises_true (fun m hm => HN2.out m (by omega) hm)))
                    have hx : ¬ ((k : Int) + 1 < (ps.length : Int)) := by omega
                    have hw1 : IntKind.i64.wrap ((k : Int) + 1) = (k : Int) + 1 := by rw [IntKind.wrap_i64]; omega
                    go_wp2
                    go_ret
                    exact ⟨by rw [HT.out]; rfl, bt (one_block _ _) HB.out⟩
        · have HX : Hid (r = 12) := HR.out.trans (checkE_range (by omega))
          unfold bkv
          go_enter Try.func35, Try.ntmps35
          go_wp2
          go_ret
          exact ⟨by rw [HX.out]; rfl, one_block _ _⟩
      · have HX : Hid (r = 12) := HR.out.trans (checkE_range (by omega))
        unfold bkv
        go_enter Try.func35, Try.ntmps35
        go_wp2
        go_ret
        exact ⟨by rw [HX.out]; rfl, one_block _ _⟩
    · have HX : Hid (r = 12) := HR.out.trans (checkE_range (by omega))
      unfold bkv
      go_enter Try.func35, Try.ntmps35
      go_wp2
      go_ret
      exact ⟨by rw [HX.out]; rfl, one_block _ _⟩
  · have HX : Hid (r = 12) := HR.out.trans (checkE_range (by omega))
    unfold bkv
    go_enter Try.func35, Try.ntmps35
    go_wp2
    go_ret
    exact ⟨by rw [HX.out]; rfl, one_block _ _⟩
end Go.Proofs.Ytnnndkpmlpbpcaa
