/- For every directory and every key the call DirPlaces of the statements returns true and its arguments read as they did: no condition. -/
import Derived.Test.YtophkfbdhejmcaaRows
import Derived.Test.YtophkfbdhejmcaaArg
import Derived.Test.YtophkfbdhejmcaaPu
import Derived.WalkKit
import Derived.ProofKit
import Derived.OpenShut
import Derived.ShutString
import Derived.ChangeOld
import Derived.Below
namespace Go.Proofs.Ytophkfbdhejmcaa.dirPlaces
open Go.ChangeShapes Go.WideShapes Go.ChangeAt Go.RowKit
set_option linter.unusedVariables false
set_option linter.unusedSimpArgs false
set_option maxRecDepth 20000

theorem own : ownKnob Try.prog.godebug = none := by kernel_rfl
theorem laidOut : laidOutB Try.prog = true := by kernel_rfl
set_option maxHeartbeats 1600000 in
theorem walk_a (d0 : Int) (a0 : Option Addr) (len0 cap0 : Nat) (y0 : List Int) (s1 : ByteArray) (w : World) (w0 : Sli w a0 len0 cap0 y0 ∧ WfI d0) (w1 : s1.size ≤ maxLen) (h : 300 < len0) : Calls Try.prog 7 #[dv d0 a0 len0 cap0, .string s1] w fun e w' => e = .returned (.bool true) ∧ Below w.heap.size w w' := by
  have HA := awake_any
  obtain ⟨⟨rfl, hiv, hn, hc, hm, hwf⟩, hd0⟩ := w0
  unfold dv
  have h1 : decide ((300 : Int) < (y0.length : Int)) = true := by simp; omega
  go_enter Try.func7, Try.ntmps7
  go_wp2_with (first | (go_at_call 8; refine (HA _).mono ?_; rintro e wz ⟨rfl, bz⟩; clear HA))
  go_ret
  exact ⟨rfl, bt (one_block _ _) bz⟩
set_option maxHeartbeats 1600000 in
theorem walk_b (d0 : Int) (a0 : Option Addr) (len0 cap0 : Nat) (y0 : List Int) (s1 : ByteArray) (w : World) (w0 : Sli w a0 len0 cap0 y0 ∧ WfI d0) (w1 : s1.size ≤ maxLen) (h : ¬ 300 < len0) (h2 : 300 < s1.size) : Calls Try.prog 7 #[dv d0 a0 len0 cap0, .string s1] w fun e w' => e = .returned (.bool true) ∧ Below w.heap.size w w' := by
  have HA := awake_any
  obtain ⟨⟨rfl, hiv, hn, hc, hm, hwf⟩, hd0⟩ := w0
  unfold dv
  have h1 : decide ((300 : Int) < (y0.length : Int)) = false := by simp; omega
  have h3 : decide ((300 : Int) < (s1.size : Int)) = true := by simp; omega
  unfold maxLen at w1
  go_enter Try.func7, Try.ntmps7
  go_wp2_with (first | (go_at_call 8; refine (HA _).mono ?_; rintro e wz ⟨rfl, bz⟩; clear HA))
  go_ret
  exact ⟨rfl, bt (one_block _ _) bz⟩
theorem boxes2 {w W : World} {t t' : Nat} {x y x' y' : Value} (hb : Below ((w.alloc (.cells #[x, y] t)).alloc (.cells #[x', y'] t')).heap.size ((w.alloc (.cells #[x, y] t)).alloc (.cells #[x', y'] t')) W) :
    W.cell? ⟨w.heap.size, 0, none⟩ = some x ∧ W.cell? ⟨w.heap.size, 1, none⟩ = some y ∧ W.cell? ⟨w.heap.size + 1, 0, none⟩ = some x' ∧ W.cell? ⟨w.heap.size + 1, 1, none⟩ = some y' :=
  ⟨(hb.cell (p := ⟨w.heap.size, 0, none⟩) (by simp; omega)).trans (by go_simp), (hb.cell (p := ⟨w.heap.size, 1, none⟩) (by simp; omega)).trans (by go_simp), (hb.cell (p := ⟨w.heap.size + 1, 0, none⟩) (by simp)).trans (by go_simp), (hb.cell (p := ⟨w.heap.size + 1, 1, none⟩) (by simp)).trans (by go_simp)⟩
set_option maxHeartbeats 6400000 in
theorem walk_c (d0 : Int) (a0 : Option Addr) (len0 cap0 : Nat) (y0 : List Int) (s1 : ByteArray) (w : World) (w0 : Sli w a0 len0 cap0 y0 ∧ WfI d0) (w1 : s1.size ≤ maxLen) (h : ¬ 300 < len0) (h2 : ¬ 300 < s1.size) : Calls Try.prog 7 #[dv d0 a0 len0 cap0, .string s1] w fun e w' => e = .returned (.bool true) ∧ Below w.heap.size w w' := by
  have HA := awake_any
  obtain ⟨⟨rfl, hiv, hn, hc, hm, hwf⟩, hd0⟩ := w0
  unfold dv
  have h1 : decide ((300 : Int) < (y0.length : Int)) = false := by simp; omega
  have h3 : decide ((300 : Int) < (s1.size : Int)) = false := by simp; omega
  have HW1 : Hid (s1.size ≤ maxLen) := w1
  have HIV : Hid (∀ W, Below w.heap.size w W → IV W a0 y0) := fun W hW => hiv.below hW
  obtain ⟨W0, hW0⟩ : ∃ W0, W0 = (w.alloc (.cells #[.int .i64 d0, .slice a0 y0.length cap0] 24)).alloc (.cells #[.int .i64 d0, .slice a0 y0.length cap0] 26) := ⟨_, rfl⟩
  have HB0 : Hid (Below w.heap.size w W0) := by rw [hW0]; exact two_blocks _ _ _
  have CL : Hid (∀ W, Below W0.heap.size W0 W → W.cell? ⟨w.heap.size, 0, none⟩ = some (.int .i64 d0) ∧ W.cell? ⟨w.heap.size, 1, none⟩ = some (.slice a0 y0.length cap0) ∧ W.cell? ⟨w.heap.size + 1, 0, none⟩ = some (.int .i64 d0) ∧ W.cell? ⟨w.heap.size + 1, 1, none⟩ = some (.slice a0 y0.length cap0)) := fun W hW => by
    rw [hW0] at hW
    exact boxes2 hW
  have HC : Hid (∀ W, Below w.heap.size w W → Calls Try.prog 11 #[.agg #[.int .i64 d0, .slice a0 y0.length cap0]] W fun e w' => e = .returned (.int .i64 (chkE d0 y0)) ∧ Below W.heap.size W w') := fun W hW => check_any d0 a0 cap0 y0 W (HIV.out W hW) (by omega)
  have HT : Hid (∀ W, Below w.heap.size w W → Calls Try.prog 13 #[.agg #[.int .i64 d0, .slice a0 y0.length cap0], .string s1] W fun e w' => e = .returned (.int .i64 (atS d0 y0 s1)) ∧ Below W.heap.size W w') := fun W hW => at_any d0 a0 cap0 y0 s1 W (HIV.out W hW) (by omega) HW1.out
  have HP : Hid (∀ W, Below w.heap.size w W → Calls Try.prog 15 #[.agg #[.int .i64 d0, .slice a0 y0.length cap0], .string s1] W fun e w' => e = .returned (.int .i64 (placeS d0 y0 s1)) ∧ Below W.heap.size W w') := fun W hW => place_any d0 a0 cap0 y0 s1 W (HIV.out W hW) (by omega) HW1.out
  have HI : Hid (∀ W, Below w.heap.size w W → Calls Try.prog 18 #[.agg #[.int .i64 d0, .slice a0 y0.length cap0]] W fun e w' => ∃ a c, e = .returned (.slice a (idsK y0 y0.length).length c) ∧ IV w' a (idsK y0 y0.length) ∧ Below W.heap.size W w') := fun W hW => by
    refine (ids_any d0 a0 cap0 y0 W (HIV.out W hW) (by omega) hwf).mono ?_
    rintro e w' ⟨v, rfl, h1, h2⟩
    obtain ⟨a', c', rfl, _, hv, _, _⟩ := h1.view
    exact ⟨a', c', rfl, hv.iv, h2⟩
  have HND : Hid (∀ i j, j < i → i < (idsK y0 y0.length).length → ¬ (idsK y0 y0.length).getD j 0 = (idsK y0 y0.length).getD i 0) := fun i j h1 h2 => nodup_get (idsK_nodup y0 y0.length (Nat.le_refl _)) h1 h2
  have HMM : Hid (∀ i, i < y0.length → y0.getD i 0 ∈ (idsK y0 y0.length).take (idsK y0 y0.length).length) := fun i hi => by
    rw [List.take_length, idsK_mem y0 y0.length (Nat.le_refl _), List.take_length]
    exact getD_mem hi
  have hil := idsK_len y0 y0.length
  have hyl : y0.length ≤ 300 := by omega
  clear hiv hwf hc hm hd0 w1 h h2
  generalize idsK y0 y0.length = is at *
  go_enter Try.func7, Try.ntmps7
  go_wp2_with (first
    | (go_at_call 18; rw [← hW0]; refine (HI.out _ HB0.out).mono ?_; rintro e w3 ⟨a3, c3, rfl, iv3, b3⟩; clear hW0))
  have HV3 : Hid (IV w3 a3 is) := iv3
  have HB3 : Hid (Below W0.heap.size W0 w3) := b3
  have HBW : Hid (∀ W, Below w3.heap.size w3 W → Below w.heap.size w W) := fun W hW => bt HB0.out (bt HB3.out hW)
  clear iv3 b3 HI h1 h3
  obtain ⟨n, hnn⟩ : ∃ n, n = is.length := ⟨_, rfl⟩
  rw [← hnn]
  have HN : Hid (n = is.length) := hnn
  have hn3 : n ≤ 300 := by omega
  clear hnn hil
  go_loopw [7] (fun iv wr => ∃ i : Nat, i ≤ n ∧ iv = .int .i64 i ∧ Hid (Below w3.heap.size w3 wr)) (fun iv _ => n - (intOf iv).toNat)
  case atStart => exact ⟨0, Nat.zero_le _, rfl, Below.refl _ _⟩
  case round =>
    obtain ⟨i, hi, rfl, HB⟩ := hrel
    by_cases hlt : i < n
    · have hlt2 : (i : Int) < (n : Int) := by omega
      go_wp2
      obtain ⟨wo, hwo⟩ : ∃ wo, wo = wr := ⟨_, rfl⟩
      subst hwo
      go_loopw [8] (fun kv wx => ∃ k : Nat, k ≤ i ∧ kv = .int .i64 k ∧ Hid (Below w3.heap.size w3 wx)) (fun kv _ => i - (intOf kv).toNat)
      case atStart => exact ⟨0, Nat.zero_le _, rfl, HB.out⟩
      case round =>
        obtain ⟨k, hk, rfl, HBk⟩ := hrel
        by_cases hki : k < i
        · have hki2 : (k : Int) < (i : Int) := by omega
          have hkn : (k : Int) < (n : Int) := by omega
          obtain ⟨g, off, rfl, hg, x1⟩ := (HV3.out.below HBk.out).cell (show k < is.length by have := HN.out; omega)
          obtain ⟨g', off', e2, _, x2⟩ := (HV3.out.below HBk.out).cell (show i < is.length by have := HN.out; omega)
          obtain ⟨rfl, rfl⟩ : g = g' ∧ off = off' := by simpa using e2
          clear e2
          have hne := HND.out i k hki (by have := HN.out; omega)
          have hq : (is.getD k 0 == is.getD i 0) = false := by rw [beq_eq_false_iff_ne]; exact hne
          generalize is.getD k 0 = zk at *
          generalize is.getD i 0 = zi at *
          go_wp2
          go_quiet (fail)
          go_wp2
          go_roundw
          case rel => exact ⟨k + 1, by omega, by go_num, below_drewN HBk.out _⟩
          case measure => simp [intOf]; omega
        · have : k = i := by omega
          subst this
          have hxx : ¬ ((k : Int) < (k : Int)) := by omega
          go_wp2
          go_roundw
          case rel => exact ⟨k + 1, by omega, by go_num, HBk.out⟩
          case measure => simp [intOf]; omega
    · have : i = n := by omega
      subst this
      have hxx : ¬ ((i : Int) < (i : Int)) := by omega
      go_wp2
      clear hxx hlt hi
      obtain ⟨wq, hwq⟩ : ∃ wq, wq = wr := ⟨_, rfl⟩
      subst hwq
      go_loopw [9] (fun jv wr => ∃ j : Nat, j ≤ y0.length ∧ jv = .int .i64 j ∧ Hid (Below w3.heap.size w3 wr)) (fun jv _ => y0.length - (intOf jv).toNat)
      case atStart => exact ⟨0, Nat.zero_le _, rfl, HB.out⟩
      case round =>
        obtain ⟨j, hj, rfl, HBj⟩ := hrel
        obtain ⟨c0, c1, c2, c3'⟩ := CL.out _ (bt HB3.out HBj.out)
        by_cases hjl : j < y0.length
        · have hjl2 : (j : Int) < (y0.length : Int) := by omega
          have HM := HMM.out j hjl
          rw [← HN.out] at HM
          have HMH : Hid (y0.getD j 0 ∈ is.take i) := HM
          clear HM
          go_wp2
          clear c0 c1 c2 c3'
          obtain ⟨wp, hwp⟩ : ∃ wp, wp = wr := ⟨_, rfl⟩
          subst hwp
          go_loopw [10, 11] (fun bv kv wx => ∃ k : Nat, k ≤ i ∧ kv = .int .i64 k ∧ bv = .bool (decide (y0.getD j 0 ∈ is.take k)) ∧ Hid (Below w3.heap.size w3 wx)) (fun _ kv _ => i - (intOf kv).toNat)
          case atStart => exact ⟨0, Nat.zero_le _, rfl, by simp, HBj.out⟩
          case round =>
            obtain ⟨k, hk, rfl, rfl, HBk⟩ := hrel
            obtain ⟨c0, c1, c2, c3'⟩ := CL.out _ (bt HB3.out HBk.out)
            by_cases hki : k < i
            · have hki2 : (k : Int) < (i : Int) := by omega
              obtain ⟨g, off, rfl, hg, x1⟩ := (HV3.out.below HBk.out).cell (show k < is.length by have := HN.out; omega)
              obtain ⟨g2, off2, rfl, hg2, x2⟩ := (HIV.out _ (HBW.out _ HBk.out)).cell hjl
              by_cases hin : y0.getD j 0 ∈ is.take k
              · have HMk : Hid (decide (y0.getD j 0 ∈ is.take (k + 1)) = true) := decide_eq_true ((mem_take_succ (by have := HN.out; omega) _).2 (.inl hin))
                rw [decide_eq_true hin]
                clear hin
                go_wp2
                go_quiet (fail)
                go_wp2
                go_roundw
                case rel => exact ⟨k + 1, by omega, by go_num, by rw [HMk.out], below_drewN HBk.out _⟩
                case measure => simp [intOf]; omega
              · rw [decide_eq_false hin]
                by_cases he : is.getD k 0 = y0.getD j 0
                · have HMk : Hid (decide (y0.getD j 0 ∈ is.take (k + 1)) = true) := decide_eq_true ((mem_take_succ (by have := HN.out; omega) _).2 (.inr he.symm))
                  rw [he] at x1
                  clear hin he
                  generalize y0.getD j 0 = z at *
                  go_wp2
                  go_quiet (fail)
                  go_wp2
                  go_roundw
                  case rel => exact ⟨k + 1, by omega, by go_num, by rw [HMk.out], below_drewN HBk.out _⟩
                  case measure => simp [intOf]; omega
                · have HMk : Hid (decide (y0.getD j 0 ∈ is.take (k + 1)) = false) := decide_eq_false (fun h => ((mem_take_succ (by have := HN.out; omega) _).1 h).elim hin (fun h => he h.symm))
                  have hq : (is.getD k 0 == y0.getD j 0) = false := by rw [beq_eq_false_iff_ne]; exact he
                  clear hin
                  generalize y0.getD j 0 = z at *
                  generalize is.getD k 0 = y at *
                  go_wp2
                  go_quiet (fail)
                  go_wp2
                  go_roundw
                  case rel => exact ⟨k + 1, by omega, by go_num, by rw [HMk.out], below_drewN HBk.out _⟩
                  case measure => simp [intOf]; omega
            · have : k = i := by omega
              subst this
              have hxx : ¬ ((k : Int) < (k : Int)) := by omega
              rw [decide_eq_true HMH.out]
              go_wp2
              go_roundw
              case rel => exact ⟨j + 1, by omega, by go_num, HBk.out⟩
              case measure => simp [intOf]; omega
        · have : j = y0.length := by omega
          subst this
          have hxx : ¬ ((y0.length : Int) < (y0.length : Int)) := by omega
          clear HMM HND
          by_cases h0 : chkE d0 y0 = 0
          · rw [h0] at HC
            have hdd := chkE_ok h0
            have hlt : topK d0 s1 < y0.length := by rw [hdd.2.1]; exact topK_lt s1 hdd.1
            rw [show placeS d0 y0 s1 = ((topK d0 s1 : Nat) : Int) from if_pos h0] at HP
            rw [show atS d0 y0 s1 = y0.getD (topK d0 s1) 0 from if_pos h0] at HT
            clear h0 hdd
            have hlt2 : ((topK d0 s1 : Nat) : Int) < (y0.length : Int) := by omega
            have HIC : Hid (∃ g off, a0 = some ⟨g, off, none⟩ ∧ ∀ W, Below w3.heap.size w3 W → W.cell? ⟨g, off + topK d0 s1, none⟩ = some (.int .i64 (y0.getD (topK d0 s1) 0))) := by
              obtain ⟨g, off, e, hg, x⟩ := (HIV.out w3 (HBW.out _ (Below.refl _ _))).cell hlt
              exact ⟨g, off, e, fun W hW => (hW.cell (p := ⟨g, off + topK d0 s1, none⟩) hg).trans x⟩
            obtain ⟨g, off, rfl, hcell⟩ := HIC.out
            have HCE : Hid (∀ W, Below w3.heap.size w3 W → W.cell? ⟨g, off + topK d0 s1, none⟩ = some (.int .i64 (y0.getD (topK d0 s1) 0))) := hcell
            clear hcell HIC
            generalize y0.getD (topK d0 s1) 0 = az at *
            generalize topK d0 s1 = tx at *
            go_wp2_with (first | (go_at_call 11; refine (HC.out _ (HBW.out _ HBj.out)).mono ?_; rintro e w5 ⟨rfl, b5⟩; clear HC; have B5 : Hid (Below w3.heap.size w3 w5) := bt HBj.out b5; clear b5))
            clear c0 c1 c2 c3'
            refine wp_region_noPanic ?_
            refine name_ops ?_
            intro O QQ HO HQ
            refine wp_region_held_drew (S := fun W => Below w5.heap.size w5 W) (by kernel_rfl) (Below.refl _ _).drew (fun hS => ?_)
            rw [show O.size = 15 by rw [HO.out]; rfl]
            refine wpAnyH_take (i := 0) (v := .agg #[.int .i64 d0, .slice (some ⟨g, off, none⟩) y0.length cap0]) (by rw [HO.out]; simp only [List.getElem?_toArray, List.getElem?_cons_succ, List.getElem?_cons_zero]; rfl) (by rw [HO.out]; kernel_rfl) (by rw [HO.out]; kernel_rfl) (by rw [HO.out]; kernel_rfl) (by rw [HQ.out]; exact fun _ _ _ h => h) (Or.inl ⟨by first | rfl | (rw [HO.out]; kernel_rfl), ?_⟩) hS ?_
            · intro w' hSw
              have q := (CL.out _ (bt HB3.out (bt B5.out hSw))).2.2
              obtain ⟨q0, q1⟩ := q
              go_simp
            try simp only [Act.put, List.setIfInBounds_toArray, List.set_cons_zero, List.set_cons_succ]
            refine wpAnyH_take (i := 1) (v := .string s1) (by rw [HO.out]; simp only [List.getElem?_toArray, List.getElem?_cons_succ, List.getElem?_cons_zero]; rfl) (by rw [HO.out]; kernel_rfl) (by rw [HO.out]; kernel_rfl) (by rw [HO.out]; kernel_rfl) (by rw [HQ.out]; exact fun _ _ _ h => h) (Or.inl ⟨by first | rfl | (rw [HO.out]; kernel_rfl), ?_⟩) hS ?_
            · intro w' hSw
              go_simp
            try simp only [Act.put, List.setIfInBounds_toArray, List.set_cons_zero, List.set_cons_succ]
            refine wpAnyH_take (i := 3) (v := .pointer (some ⟨w.heap.size, 1, none⟩)) (by rw [HO.out]; simp only [List.getElem?_toArray, List.getElem?_cons_succ, List.getElem?_cons_zero]; rfl) (by rw [HO.out]; kernel_rfl) (by rw [HO.out]; kernel_rfl) (by rw [HO.out]; kernel_rfl) (by rw [HQ.out]; exact fun _ _ _ h => h) (Or.inl ⟨by first | rfl | (rw [HO.out]; kernel_rfl), ?_⟩) hS ?_
            · intro w' hSw
              go_simp
            try simp only [Act.put, List.setIfInBounds_toArray, List.set_cons_zero, List.set_cons_succ]
            refine wpAnyH_take (i := 4) (v := .slice (some ⟨g, off, none⟩) y0.length cap0) (by rw [HO.out]; simp only [List.getElem?_toArray, List.getElem?_cons_succ, List.getElem?_cons_zero]; rfl) (by rw [HO.out]; kernel_rfl) (by rw [HO.out]; kernel_rfl) (by rw [HO.out]; kernel_rfl) (by rw [HQ.out]; exact fun _ _ _ h => h) (Or.inl ⟨by first | rfl | (rw [HO.out]; kernel_rfl), ?_⟩) hS ?_
            · intro w' hSw
              have q1 := (CL.out _ (bt HB3.out (bt B5.out hSw))).2.1
              go_simp
            try simp only [Act.put, List.setIfInBounds_toArray, List.set_cons_zero, List.set_cons_succ]
            refine wpAnyH_take (i := 5) (v := .agg #[.int .i64 d0, .slice (some ⟨g, off, none⟩) y0.length cap0]) (by rw [HO.out]; simp only [List.getElem?_toArray, List.getElem?_cons_succ, List.getElem?_cons_zero]; rfl) (by rw [HO.out]; kernel_rfl) (by rw [HO.out]; kernel_rfl) (by rw [HO.out]; kernel_rfl) (by rw [HQ.out]; exact fun _ _ _ h => h) (Or.inl ⟨by first | rfl | (rw [HO.out]; kernel_rfl), ?_⟩) hS ?_
            · intro w' hSw
              have q := (CL.out _ (bt HB3.out (bt B5.out hSw))).2.2
              obtain ⟨q0, q1⟩ := q
              go_simp
            try simp only [Act.put, List.setIfInBounds_toArray, List.set_cons_zero, List.set_cons_succ]
            refine wpAnyH_take (i := 6) (v := .string s1) (by rw [HO.out]; simp only [List.getElem?_toArray, List.getElem?_cons_succ, List.getElem?_cons_zero]; rfl) (by rw [HO.out]; kernel_rfl) (by rw [HO.out]; kernel_rfl) (by rw [HO.out]; kernel_rfl) (by rw [HQ.out]; exact fun _ _ _ h => h) (Or.inl ⟨by first | rfl | (rw [HO.out]; kernel_rfl), ?_⟩) hS ?_
            · intro w' hSw
              go_simp
            try simp only [Act.put, List.setIfInBounds_toArray, List.set_cons_zero, List.set_cons_succ]
            refine wpAnyH_one (i := 2) (x := 85) (R := fun v _ => v = .int .i64 az) (by rw [HO.out]; simp only [List.getElem?_toArray, List.getElem?_cons_succ, List.getElem?_cons_zero]; rfl) (by rw [HO.out]; kernel_rfl) hS ?_ ?_
            · intro K hK
              simp only [Act.put, List.setIfInBounds_toArray, List.set_cons_zero, List.set_cons_succ] at hK
              unfold Steps
              rw [if_pos (by rw [HO.out]; kernel_rfl)]
              go_simp
              refine (HT.out _ (HBW.out _ (bt B5.out hS))).mono ?_
              rintro e w9 ⟨rfl, hb9⟩
              exact hK _ _ rfl hb9
            rintro v9 w9 hv9 hb9 hS9
            obtain rfl := hv9
            clear hb9
            replace hS := hS9
            clear hS9
            try simp only [Act.put, List.setIfInBounds_toArray, List.set_cons_zero, List.set_cons_succ]
            refine wpAnyH_one (i := 7) (x := 90) (R := fun v _ => v = .int .i64 tx) (by rw [HO.out]; simp only [List.getElem?_toArray, List.getElem?_cons_succ, List.getElem?_cons_zero]; rfl) (by rw [HO.out]; kernel_rfl) hS ?_ ?_
            · intro K hK
              simp only [Act.put, List.setIfInBounds_toArray, List.set_cons_zero, List.set_cons_succ] at hK
              unfold Steps
              rw [if_pos (by rw [HO.out]; kernel_rfl)]
              go_simp
              refine (HP.out _ (HBW.out _ (bt B5.out hS))).mono ?_
              rintro e w9 ⟨rfl, hb9⟩
              exact hK _ _ rfl hb9
            rintro v9 w9 hv9 hb9 hS9
            obtain rfl := hv9
            clear hb9
            replace hS := hS9
            clear hS9
            try simp only [Act.put, List.setIfInBounds_toArray, List.set_cons_zero, List.set_cons_succ]
            refine wpAnyH_take (i := 8) (v := .pointer (some ⟨g, off + tx, none⟩)) (by rw [HO.out]; simp only [List.getElem?_toArray, List.getElem?_cons_succ, List.getElem?_cons_zero]; rfl) (by rw [HO.out]; kernel_rfl) (by rw [HO.out]; kernel_rfl) (by rw [HO.out]; kernel_rfl) (by rw [HQ.out]; exact fun _ _ _ h => h) (Or.inl ⟨by first | rfl | (rw [HO.out]; kernel_rfl), ?_⟩) hS ?_
            · intro w' hSw
              go_simp
            try simp only [Act.put, List.setIfInBounds_toArray, List.set_cons_zero, List.set_cons_succ]
            refine wpAnyH_take (i := 9) (v := .int .i64 az) (by rw [HO.out]; simp only [List.getElem?_toArray, List.getElem?_cons_succ, List.getElem?_cons_zero]; rfl) (by rw [HO.out]; kernel_rfl) (by rw [HO.out]; kernel_rfl) (by rw [HO.out]; kernel_rfl) (by rw [HQ.out]; exact fun _ _ _ h => h) (Or.inl ⟨by first | rfl | (rw [HO.out]; kernel_rfl), ?_⟩) hS ?_
            · intro w' hSw
              have q := HCE.out _ (bt B5.out hSw)
              go_simp
            try simp only [Act.put, List.setIfInBounds_toArray, List.set_cons_zero, List.set_cons_succ]
            refine wpAnyH_take (i := 10) (v := .bool true) (by rw [HO.out]; simp only [List.getElem?_toArray, List.getElem?_cons_succ, List.getElem?_cons_zero]; rfl) (by rw [HO.out]; kernel_rfl) (by rw [HO.out]; kernel_rfl) (by rw [HO.out]; kernel_rfl) (by rw [HQ.out]; exact fun _ _ _ h => h) (Or.inl ⟨by first | rfl | (rw [HO.out]; kernel_rfl), ?_⟩) hS ?_
            · intro w' hSw
              go_simp
            try simp only [Act.put, List.setIfInBounds_toArray, List.set_cons_zero, List.set_cons_succ]
            refine wpAnyH_take (i := 11) (v := .bool true) (by rw [HO.out]; simp only [List.getElem?_toArray, List.getElem?_cons_succ, List.getElem?_cons_zero]; rfl) (by rw [HO.out]; kernel_rfl) (by rw [HO.out]; kernel_rfl) (by rw [HO.out]; kernel_rfl) (by rw [HQ.out]; exact fun _ _ _ h => h) (Or.inl ⟨by first | rfl | (rw [HO.out]; kernel_rfl), ?_⟩) hS ?_
            · intro w' hSw
              go_simp
            try simp only [Act.put, List.setIfInBounds_toArray, List.set_cons_zero, List.set_cons_succ]
            refine wpAnyH_one (i := 12) (x := 95) (R := fun v _ => v = .bool true) (by rw [HO.out]; simp only [List.getElem?_toArray, List.getElem?_cons_succ, List.getElem?_cons_zero]; rfl) (by rw [HO.out]; kernel_rfl) hS ?_ ?_
            · intro K hK
              simp only [Act.put, List.setIfInBounds_toArray, List.set_cons_zero, List.set_cons_succ] at hK
              unfold Steps
              rw [if_pos (by rw [HO.out]; kernel_rfl)]
              go_simp
              refine (HA _).mono ?_
              rintro e w9 ⟨rfl, hb9⟩
              exact hK _ _ rfl hb9
            rintro v9 w9 hv9 hb9 hS9
            obtain rfl := hv9
            clear hb9
            replace hS := hS9
            clear hS9
            try simp only [Act.put, List.setIfInBounds_toArray, List.set_cons_zero, List.set_cons_succ]
            refine wpAnyH_take (i := 13) (v := .bool true) (by rw [HO.out]; simp only [List.getElem?_toArray, List.getElem?_cons_succ, List.getElem?_cons_zero]; rfl) (by rw [HO.out]; kernel_rfl) (by rw [HO.out]; kernel_rfl) (by rw [HO.out]; kernel_rfl) (by rw [HQ.out]; exact fun _ _ _ h => h) (Or.inl ⟨by first | rfl | (rw [HO.out]; kernel_rfl), ?_⟩) hS ?_
            · intro w' hSw
              go_simp
            try simp only [Act.put, List.setIfInBounds_toArray, List.set_cons_zero, List.set_cons_succ]
            refine wpAnyH_take (i := 14) (v := .bool true) (by rw [HO.out]; simp only [List.getElem?_toArray, List.getElem?_cons_succ, List.getElem?_cons_zero]; rfl) (by rw [HO.out]; kernel_rfl) (by rw [HO.out]; kernel_rfl) (by rw [HO.out]; kernel_rfl) (by rw [HQ.out]; exact fun _ _ _ h => h) (Or.inl ⟨by first | rfl | (rw [HO.out]; kernel_rfl), ?_⟩) hS ?_
            · intro w' hSw
              go_simp
            try simp only [Act.put, List.setIfInBounds_toArray, List.set_cons_zero, List.set_cons_succ]
            refine wpAnyH_done (by rw [HO.out]; kernel_rfl) ?_ _
            rw [HQ.out]
            refine NoPanic.normal ?_
            go_wp2
            go_ret
            exact ⟨rfl, HBW.out _ (bt B5.out hS)⟩
          · rw [show atS d0 y0 s1 = 0 from if_neg h0] at HT
            generalize chkE d0 y0 = x at *
            go_wp2_with (first
              | (go_at_call 11; refine (HC.out _ (HBW.out _ HBj.out)).mono ?_; rintro e w5 ⟨rfl, b5⟩; clear HC c0 c1 c2 c3'; obtain ⟨c0, c1, c2, c3'⟩ := CL.out _ (bt HB3.out (bt HBj.out b5)))
              | (go_at_call 13; refine (HT.out _ (HBW.out _ (bt HBj.out b5))).mono ?_; rintro e w6 ⟨rfl, b6⟩; clear HT)
              | (go_at_call 8; refine (HA _).mono ?_; rintro e wz ⟨rfl, bz⟩; clear HA))
            go_ret
            exact ⟨rfl, bt (HBW.out _ (bt HBj.out (bt b5 b6))) bz⟩
theorem walk (d0 : Int) (a0 : Option Addr) (len0 cap0 : Nat) (y0 : List Int) (s1 : ByteArray) (w : World) (w0 : Sli w a0 len0 cap0 y0 ∧ WfI d0) (w1 : s1.size ≤ maxLen) : Calls Try.prog 7 #[dv d0 a0 len0 cap0, .string s1] w fun e w' => e = .returned (.bool true) ∧ Below w.heap.size w w' := by
  by_cases h : 300 < len0
  · exact walk_a d0 a0 len0 cap0 y0 s1 w w0 w1 h
  · by_cases h2 : 300 < s1.size
    · exact walk_b d0 a0 len0 cap0 y0 s1 w w0 w1 h h2
    · exact walk_c d0 a0 len0 cap0 y0 s1 w w0 w1 h h2
set_option maxRecDepth 100000 in
theorem lifted (os : Os) (started : os.Started) (H : Type) (enc : TypeId × Value → H) :
    ReturnsInHanded {} Try.checked os 7 .any (Rows.dirPlacesSpec.pre6 enc Try.prog Try.f7 Rows.dirPlacesRow.domain false) (Rows.dirPlacesSpec.post enc Try.prog Try.f7 false true false false) := by
  refine returnsInHanded_of_change (C := Try.checked) own started (by kernel_rfl) Try.func7
    (ChangeSpec.witness6 (enc := enc) (C := Try.checked) false ⟨#[], #[.agg #[.int .i64 0, .slice none 0 0], .string ByteArray.empty], []⟩ 8 (by kernel_rfl) (by kernel_rfl) (by kernel_rfl) (by kernel_rfl)) ?_
  intro W base args ds gs before hval0 hW hcnd _
  have hval : ∀ (j : Nat) t v, Try.f7.params[j]? = some t → args[j]? = some v → Value.okWide Try.prog W .any base t v := hval0
  have hW' := hW
  obtain ⟨p, q, hA0, hV, rfl, hfz, hnd⟩ := hW
  have hA : DataW.TrodAll enc Try.prog W 0 (fun _ => true) true Try.f7.params.toList args.toList ds p := hA0
  rw [Try.params7] at hA hval
  obtain ⟨v0, vs0, d'0, ds0, q0, r'0, hargs, rfl, rfl, h0, r0⟩ := trodAll_cons hA
  obtain ⟨v1, vs1, d'1, ds1, q1, r'1, rfl, rfl, rfl, h1, r1⟩ := trodAll_cons r0
  obtain ⟨rfl, rfl, rfl⟩ := trodAll_nil r1
  obtain rfl : args = #[v0, v1] := by cases args; simp_all
  obtain ⟨rfl, rfl⟩ := trodVars_none hV
  have k0' := h0
  have lt0 : ∀ x ∈ q0, x.block < W.heap.size := by obtain ⟨m, hm⟩ := k0'; exact DataW.trod_lt m _ _ _ hm
  obtain ⟨d0, a0, len0, cap0, y0, rfl, w0⟩ := open_d (hval 0 24 v0 rfl rfl) h0
  obtain ⟨s1, rfl, rfl, rfl, w1⟩ := Go.ChangeMaps.open_string Try.underlying9 (hval 1 9 v1 rfl rfl) h1
  clear hA0 hval0
  refine (walk d0 a0 len0 cap0 y0 s1 W w0 w1).mono fun e W' ⟨he, bel⟩ => ?_
  subst he
  exact ⟨_, rfl, _, _, _, [], _, [], hW', trodAll_mk1 (shut_bool Try.underlying4 _), (trodAll_cons_mk (Below.trod laidOut (by kernel_rfl) (of_decide_eq_true (by kernel_rfl)) k0' bel lt0) (trodAll_cons_mk (Go.ChangeMaps.shut_string Try.underlying9 w1) trodAll_mk0)), rfl, bel.frame _, fun h => by cases h⟩

theorem over : Rows.dirPlacesRow.holds Try.pinned (OpenSpec.ofChange Rows.dirPlacesSpec) :=
  OpenClaim.holds_of_wide 7 Try.f7 rfl rfl rfl rfl rfl rfl rfl ⟨rfl, rfl, rfl, rfl, rfl⟩ rfl rfl rfl rfl rfl (by kernel_rfl) Try.func7 (by kernel_rfl)
    (of_decide_eq_true (by kernel_rfl)) (by unfold Func.isWrapper; first | (rw [if_pos (by decide +kernel)]; kernel_rfl) | (rw [if_neg (by decide +kernel)]; exact ⟨rfl, rfl⟩))
    (fun os started H enc _ => lifted os started H enc)
end Go.Proofs.Ytophkfbdhejmcaa.dirPlaces

namespace Go.Proofs.Ytophkfbdhejmcaa
theorem dirPlaces_holds : Rows.DirPlacesSaid := dirPlaces.over
#print axioms dirPlaces_holds
end Go.Proofs.Ytophkfbdhejmcaa
