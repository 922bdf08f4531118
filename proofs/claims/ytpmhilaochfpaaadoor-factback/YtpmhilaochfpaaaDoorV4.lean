import Derived.Test.YtpmhilaochfpaaaDoorV3
import Derived.Test.YtpmhilaochfpaaaDoorV2
import Derived.Lib.ValidAsc
namespace Go.Proofs.YtpmhilaochfpaaaDoor
set_option maxRecDepth 20000
set_option maxRecDepth 20000
set_option maxRecDepth 20000
set_option maxRecDepth 20000
set_option maxRecDepth 20000
open Go.RowKit
set_option linter.unusedVariables false
set_option linter.unusedSimpArgs false
set_option maxRecDepth 20000
theorem ext_list (s : ByteArray) (n : Nat) : (s.extract n s.size).data.toList = s.data.toList.drop n := Lib.ext_list s n
theorem digI_is (b : UInt8) : digI (b.toNat : Int) = isDig b := by unfold digI isDig; rw [decide_eq_decide]; omega
set_option maxHeartbeats 1000000 in
theorem isnum_any (s : ByteArray) (w : World) (hs : s.size ≤ 1000000) :
    Calls Tryd.prog 59 #[.string s] w fun e w' => e = .returned (.bool (numB s.data.toList)) ∧ Below w.heap.size w w' := by
  have hl := lenL s
  have hk0 : (w.iter s 0).heap[w.heap.size]? = some (.stringIter s 0) := by simpa using World.iter_heap w s 0
  have hb0 : Below w.heap.size w (w.iter s 0) := (Below.refl _ w).alloc (Nat.le_refl _) _
  have HE : Hid (∀ k, k = s.size → goodTo s.data.toList k → numB s.data.toList = decide (0 < cnt s.data.toList k)) := fun k hk h => by subst hk; rw [← hl] at h ⊢; exact nb_end _ h
  have HN : Hid (∀ k, k < s.size → isDig (s.data.toList.getD k 0) = false → ¬ (k = 0 ∧ isSg (s.data.toList.getD 0 0) = true) → numB s.data.toList = false) := fun k hk => nb_no _ k (by omega)
  go_enter Tryd.func59, Tryd.ntmps59
  go_wp2
  go_loopw [3, 4, 5] (fun d _ _ wr => ∃ pos : Nat, pos ≤ s.size ∧ wr.heap[w.heap.size]? = some (.stringIter s pos) ∧ Below w.heap.size w wr ∧ goodTo s.data.toList pos ∧ d = .int .i64 (cnt s.data.toList pos))
    (fun _ _ _ wr => s.size - wr.iterPos w.heap.size)
  case atStart => exact ⟨0, Nat.zero_le _, hk0, hb0, fun j hj => by omega, by simp [cnt]⟩
  case round =>
    obtain ⟨pos, hps, hk, hbw, hg, rfl⟩ := hrel
    clear hk0 hb0
    by_cases hp : pos < s.size
    · have hnx : ∀ ty, (Instr.next (.pointer (some ⟨w.heap.size, 0, none⟩)) true ty).run Tryd.prog wr = _ := fun ty => Lib.run_next_any_at wr w.heap.size s pos ty hk hp
      have hhi := dec_hi s pos
      have hlo := dec_lo s pos hp
      have hit2 := Lib.iterAt_heap wr w.heap.size s pos (pos + (Utf8.decode s pos).2) hk
      have hbw2 := Lib.below_iterAt hbw (k := w.heap.size) (Nat.le_refl _) s (pos + (Utf8.decode s pos).2)
      have hmu : wr.iterPos w.heap.size = pos := by simp [World.iterPos, hk]
      obtain ⟨b, hbb⟩ : ∃ b, s.data.toList.getD pos 0 = b := ⟨_, rfl⟩
      rw [hbb] at hhi hlo
      have hN := HN.out pos hp
      rw [hbb] at hN
      by_cases hasc : b.toNat < 128
      · rw [hlo hasc] at hnx hit2 hbw2
        dsimp only at hnx hit2 hbw2
        generalize wr.iterAt w.heap.size s (pos + 1) = W1 at hnx hit2 hbw2
        have hmu2 : W1.iterPos w.heap.size = pos + 1 := by simp [World.iterPos, hit2]
        by_cases hsg : pos = 0 ∧ isSg b = true
        · obtain ⟨rfl, hsg⟩ := hsg
          have hc1 : cnt s.data.toList (0 + 1) = 0 := by unfold cnt; rw [hbb, hsg]; rfl
          have hc0 : cnt s.data.toList 0 = 0 := by unfold cnt; omega
          have hg1 : goodTo s.data.toList (0 + 1) := fun j hj => .inr ⟨by omega, by rw [hbb]; exact hsg⟩
          have HD : Hid (cnt s.data.toList 0 = 0) := hc0
          have HG : Hid (goodTo s.data.toList (0 + 1)) := hg1
          have HC : Hid (cnt s.data.toList (0 + 1) = 0) := hc1
          clear hc1 hc0 hg1 hlo hhi hg hN HN HE
          simp only [isSg, decide_eq_true_eq] at hsg
          rcases hsg with hsg | hsg
          · have e1 : ((b.toNat : Int) == 45) = true := by rw [beq_iff_eq]; omega
            have HX : Hid (b.toNat = 45) := hsg
            clear hsg
            go_wp2
            go_roundw
            case rel => exact ⟨0 + 1, by omega, hit2, hbw2, HG.out, by rw [HC.out, HD.out]⟩
            case measure => rw [hmu, hmu2]; omega
          · have e1 : ((b.toNat : Int) == 45) = false := by rw [beq_eq_false_iff_ne]; omega
            have e2 : ((b.toNat : Int) == 43) = true := by rw [beq_iff_eq]; omega
            have HX : Hid (b.toNat = 43) := hsg
            clear hsg
            go_wp2
            go_roundw
            case rel => exact ⟨0 + 1, by omega, hit2, hbw2, HG.out, by rw [HC.out, HD.out]⟩
            case measure => rw [hmu, hmu2]; omega
        · have hd := digI_is b
          have HSG : Hid (¬ (pos = 0 ∧ isSg b = true)) := hsg
          have e0 : ((pos : Int) == 0) = false ∨ (((b.toNat : Int) == 45) = false ∧ ((b.toNat : Int) == 43) = false) := by
            by_cases h0 : pos = 0
            · right
              simp only [isSg, decide_eq_true_eq, h0, true_and] at hsg
              simp only [beq_eq_false_iff_ne]; omega
            · left; rw [beq_eq_false_iff_ne]; omega
          by_cases hdg : isDig b = true
          · have hc1 : cnt s.data.toList (pos + 1) = cnt s.data.toList pos + 1 := by
              unfold cnt
              by_cases h0 : pos = 0
              · subst h0; rw [hbb]
                have : isSg b = false := by rw [Bool.eq_false_iff]; intro e; exact hsg ⟨rfl, e⟩
                rw [this]; rfl
              · split <;> omega
            have hcl : cnt s.data.toList pos ≤ 1000000 := by unfold cnt; omega
            have hg1 : goodTo s.data.toList (pos + 1) := fun j hj => by
              by_cases hj' : j = pos
              · subst hj'; left; rw [hbb]; exact hdg
              · exact hg j (by omega)
            have HG : Hid (goodTo s.data.toList (pos + 1)) := hg1
            have HC : Hid (cnt s.data.toList (pos + 1) = cnt s.data.toList pos + 1) := hc1
            rw [hdg] at hd
            generalize hcp : cnt s.data.toList pos = cp at *
            clear hc1 hg1 hlo hhi hg hN HN HE hsg hdg hcp
            have hcz : (cp : Int) ≤ 1000000 := by omega
            have hcz0 : (0 : Int) ≤ cp := by omega
            rcases e0 with e0 | ⟨e1, e2⟩
            all_goals
              go_wp2_with (go_at_call 68; refine (isdig_any _ _).mono ?_; rintro e w' ⟨rfl, hw⟩; obtain rfl := hw.symm)
              all_goals
                go_roundw
                case rel => exact ⟨pos + 1, by omega, hit2, hbw2, HG.out, by rw [HC.out]; go_num⟩
                case measure => rw [hmu, hmu2]; omega
          · have hdf : isDig b = false := by simpa using hdg
            rw [hdf] at hd
            have hno := hN hdf (fun h => hsg ⟨h.1, by rw [← hbb, h.1]; exact h.2⟩)
            have HNo : Hid (numB s.data.toList = false) := hno
            clear hlo hhi hg hN HN HE hsg hdg hdf hno
            rcases e0 with e0 | ⟨e1, e2⟩
            all_goals
              go_wp2_with (go_at_call 68; refine (isdig_any _ _).mono ?_; rintro e w' ⟨rfl, hw⟩; obtain rfl := hw.symm)
              all_goals
                go_ret
                exact ⟨ret_bool HNo.out.symm, hbw2⟩
      · have hc := hhi (by omega)
        have hdf : isDig b = false := by simp only [isDig, decide_eq_false_iff_not]; omega
        have hsf : ¬ isSg b = true := by simp only [isSg, decide_eq_true_eq]; omega
        have HNo : Hid (numB s.data.toList = false) := hN hdf (fun h => hsf (by rw [← hbb, h.1]; exact h.2))
        generalize Utf8.decode s pos = dc at *
        obtain ⟨c, n⟩ := dc
        dsimp only at hnx hit2 hbw2 hc
        generalize wr.iterAt w.heap.size s (pos + n) = W1 at hnx hit2 hbw2
        have e1 : ((c : Int) == 45) = false := by rw [beq_eq_false_iff_ne]; omega
        have e2 : ((c : Int) == 43) = false := by rw [beq_eq_false_iff_ne]; omega
        have e3 : digI (c : Int) = false := by unfold digI; rw [decide_eq_false_iff_not]; omega
        clear hlo hhi hg hN HN HE hdf hsf
        go_wp2_with (go_at_call 68; refine (isdig_any _ _).mono ?_; rintro e w' ⟨rfl, hw⟩; obtain rfl := hw.symm)
        all_goals
          go_ret
          exact ⟨ret_bool HNo.out.symm, hbw2⟩
    · have hnx : ∀ ty, (Instr.next (.pointer (some ⟨w.heap.size, 0, none⟩)) true ty).run Tryd.prog wr = _ := fun ty => Lib.run_next_end_at wr w.heap.size s pos ty hk hp
      have hE := HE.out pos (by omega) hg
      clear HE HN hg
      have HE2 : Hid (numB s.data.toList = decide (0 < cnt s.data.toList pos)) := hE
      clear hE
      go_wp2
      go_ret
      exact ⟨ret_bool (by rw [HE2.out, decide_eq_decide]; try omega), hbw⟩
end Go.Proofs.YtpmhilaochfpaaaDoor
namespace Go.Proofs.YtpmhilaochfpaaaDoor
set_option maxRecDepth 20000
set_option maxRecDepth 20000
set_option maxRecDepth 20000
set_option maxRecDepth 20000
set_option maxRecDepth 20000
open Go.RowKit
set_option linter.unusedVariables false
set_option linter.unusedSimpArgs false
set_option maxRecDepth 20000
set_option maxHeartbeats 1000000 in
theorem inw_any (c : Nat) (w : World) : Calls Tryd.prog 61 #[.int .i64 c] w fun e w' => e = .returned (.bool (stands c)) ∧ w' = w := by
  by_cases hA : 128 ≤ c ∨ (97 ≤ c ∧ c ≤ 122) ∨ (65 ≤ c ∧ c ≤ 90) ∨ (48 ≤ c ∧ c ≤ 57)
  · have HS : Hid (stands c = true) := by unfold stands; exact decide_eq_true (by omega)
    generalize stands c = st at *
    go_enter Tryd.func61, Tryd.ntmps61
    go_wp2
    all_goals first | (go_ret; exact ⟨ret_bool HS.out.symm, rfl⟩) | (exfalso; omega)
  · have HS : Hid (stands c = decide (c = 95 ∨ c = 45 ∨ c = 63 ∨ c = 33 ∨ c = 43 ∨ c = 42 ∨ c = 46)) := by unfold stands; rw [decide_eq_decide]; constructor <;> intro h <;> omega
    generalize stands c = st at *
    --LOOP
    have hB : (c : Int) < 48 ∨ ((57 : Int) < c ∧ (c : Int) < 65) ∨ ((90 : Int) < c ∧ (c : Int) < 97) ∨ ((122 : Int) < c ∧ (c : Int) < 128) := by omega
    clear hA
    rcases hB with a1 | ⟨a1, a2⟩ | ⟨a1, a2⟩ | ⟨a1, a2⟩
    all_goals
     go_enter Tryd.func61, Tryd.ntmps61
     go_wp2
     go_loop [4] (fun i => (i = .int .i64 0) ∨ (i = .int .i64 1 ∧ ¬ c = 95) ∨ (i = .int .i64 2 ∧ ¬ c = 95 ∧ ¬ c = 45) ∨ (i = .int .i64 3 ∧ ¬ c = 95 ∧ ¬ c = 45 ∧ ¬ c = 63) ∨ (i = .int .i64 4 ∧ ¬ c = 95 ∧ ¬ c = 45 ∧ ¬ c = 63 ∧ ¬ c = 33) ∨ (i = .int .i64 5 ∧ ¬ c = 95 ∧ ¬ c = 45 ∧ ¬ c = 63 ∧ ¬ c = 33 ∧ ¬ c = 43) ∨ (i = .int .i64 6 ∧ ¬ c = 95 ∧ ¬ c = 45 ∧ ¬ c = 63 ∧ ¬ c = 33 ∧ ¬ c = 43 ∧ ¬ c = 42) ∨ (i = .int .i64 7 ∧ ¬ c = 95 ∧ ¬ c = 45 ∧ ¬ c = 63 ∧ ¬ c = 33 ∧ ¬ c = 43 ∧ ¬ c = 42 ∧ ¬ c = 46)) (fun i => (7 - intOf i).toNat)
     case atStart => exact .inl rfl
     case round =>
      rcases hrel with rfl | ⟨rfl, p0⟩ | ⟨rfl, p0, p1⟩ | ⟨rfl, p0, p1, p2⟩ | ⟨rfl, p0, p1, p2, p3⟩ | ⟨rfl, p0, p1, p2, p3, p4⟩ | ⟨rfl, p0, p1, p2, p3, p4, p5⟩ | ⟨rfl, p0, p1, p2, p3, p4, p5, p6⟩
      · have t0 : ({ data := #[95, 45, 63, 33, 43, 42, 46] } : ByteArray)[0]'(by decide) = 95 := rfl
        by_cases hc : c = 95
        · have hc' : ((95 : Int) == (c : Int)) = true := by subst hc; rfl
          have HT : Hid (c = 95) := hc
          clear hc
          go_wp2
          go_ret
          exact ⟨ret_bool (by rw [HS.out]; exact (decide_eq_true (by have := HT.out; omega)).symm), rfl⟩
        · have hc' : ((95 : Int) == (c : Int)) = false := by rw [beq_eq_false_iff_ne]; omega
          go_wp2
          go_round
          case rel => exact .inr (.inl ⟨rfl, by omega⟩)
          case measure => simp [intOf]
      · have t0 : ({ data := #[95, 45, 63, 33, 43, 42, 46] } : ByteArray)[1]'(by decide) = 45 := rfl
        by_cases hc : c = 45
        · have hc' : ((45 : Int) == (c : Int)) = true := by subst hc; rfl
          have HT : Hid (c = 45) := hc
          clear hc
          go_wp2
          go_ret
          exact ⟨ret_bool (by rw [HS.out]; exact (decide_eq_true (by have := HT.out; omega)).symm), rfl⟩
        · have hc' : ((45 : Int) == (c : Int)) = false := by rw [beq_eq_false_iff_ne]; omega
          go_wp2
          go_round
          case rel => exact .inr (.inr (.inl ⟨rfl, p0, by omega⟩))
          case measure => simp [intOf]
      · have t0 : ({ data := #[95, 45, 63, 33, 43, 42, 46] } : ByteArray)[2]'(by decide) = 63 := rfl
        by_cases hc : c = 63
        · have hc' : ((63 : Int) == (c : Int)) = true := by subst hc; rfl
          have HT : Hid (c = 63) := hc
          clear hc
          go_wp2
          go_ret
          exact ⟨ret_bool (by rw [HS.out]; exact (decide_eq_true (by have := HT.out; omega)).symm), rfl⟩
        · have hc' : ((63 : Int) == (c : Int)) = false := by rw [beq_eq_false_iff_ne]; omega
          go_wp2
          go_round
          case rel => exact .inr (.inr (.inr (.inl ⟨rfl, p0, p1, by omega⟩)))
          case measure => simp [intOf]
      · have t0 : ({ data := #[95, 45, 63, 33, 43, 42, 46] } : ByteArray)[3]'(by decide) = 33 := rfl
        by_cases hc : c = 33
        · have hc' : ((33 : Int) == (c : Int)) = true := by subst hc; rfl
          have HT : Hid (c = 33) := hc
          clear hc
          go_wp2
          go_ret
          exact ⟨ret_bool (by rw [HS.out]; exact (decide_eq_true (by have := HT.out; omega)).symm), rfl⟩
        · have hc' : ((33 : Int) == (c : Int)) = false := by rw [beq_eq_false_iff_ne]; omega
          go_wp2
          go_round
          case rel => exact .inr (.inr (.inr (.inr (.inl ⟨rfl, p0, p1, p2, by omega⟩))))
          case measure => simp [intOf]
      · have t0 : ({ data := #[95, 45, 63, 33, 43, 42, 46] } : ByteArray)[4]'(by decide) = 43 := rfl
        by_cases hc : c = 43
        · have hc' : ((43 : Int) == (c : Int)) = true := by subst hc; rfl
          have HT : Hid (c = 43) := hc
          clear hc
          go_wp2
          go_ret
          exact ⟨ret_bool (by rw [HS.out]; exact (decide_eq_true (by have := HT.out; omega)).symm), rfl⟩
        · have hc' : ((43 : Int) == (c : Int)) = false := by rw [beq_eq_false_iff_ne]; omega
          go_wp2
          go_round
          case rel => exact .inr (.inr (.inr (.inr (.inr (.inl ⟨rfl, p0, p1, p2, p3, by omega⟩)))))
          case measure => simp [intOf]
      · have t0 : ({ data := #[95, 45, 63, 33, 43, 42, 46] } : ByteArray)[5]'(by decide) = 42 := rfl
        by_cases hc : c = 42
        · have hc' : ((42 : Int) == (c : Int)) = true := by subst hc; rfl
          have HT : Hid (c = 42) := hc
          clear hc
          go_wp2
          go_ret
          exact ⟨ret_bool (by rw [HS.out]; exact (decide_eq_true (by have := HT.out; omega)).symm), rfl⟩
        · have hc' : ((42 : Int) == (c : Int)) = false := by rw [beq_eq_false_iff_ne]; omega
          go_wp2
          go_round
          case rel => exact .inr (.inr (.inr (.inr (.inr (.inr (.inl ⟨rfl, p0, p1, p2, p3, p4, by omega⟩))))))
          case measure => simp [intOf]
      · have t0 : ({ data := #[95, 45, 63, 33, 43, 42, 46] } : ByteArray)[6]'(by decide) = 46 := rfl
        by_cases hc : c = 46
        · have hc' : ((46 : Int) == (c : Int)) = true := by subst hc; rfl
          have HT : Hid (c = 46) := hc
          clear hc
          go_wp2
          go_ret
          exact ⟨ret_bool (by rw [HS.out]; exact (decide_eq_true (by have := HT.out; omega)).symm), rfl⟩
        · have hc' : ((46 : Int) == (c : Int)) = false := by rw [beq_eq_false_iff_ne]; omega
          go_wp2
          go_round
          case rel => exact .inr (.inr (.inr (.inr (.inr (.inr (.inr (⟨rfl, p0, p1, p2, p3, p4, p5, by omega⟩)))))))
          case measure => simp [intOf]
      · go_wp2
        go_ret
        exact ⟨ret_bool (by rw [HS.out]; exact (decide_eq_false (by omega)).symm), rfl⟩
end Go.Proofs.YtpmhilaochfpaaaDoor
