import Derived.Test.YtemacdimdpnkeaaGreatDoorB11
namespace Go.Proofs.YtemacdimdpnkeaaGreatDoor
set_option maxRecDepth 20000
open Go.RowKit
set_option linter.unusedVariables false
set_option linter.unusedSimpArgs false
set_option maxHeartbeats 8000000 in
theorem sameRule_any {P1 P2 : Nat → Nat → Prop} (cs1 cs2 : List Value) (x y : RuleD) (w : World) (h1 : ReR P1 w cs1 x) (h2 : ReR P2 w cs2 y) :
    Calls Tryz.prog 16 #[.agg cs1.toArray, .agg cs2.toArray] w fun e w' => e = .returned (.bool (decide (x = y))) ∧ Below w.heap.size w w' := by
  obtain ⟨v10, v11, rfl, r10, r11⟩ := h1
  obtain ⟨v20, v21, rfl, r20, r21⟩ := h2
  obtain ⟨css10, r10, hh10⟩ := r10
  have HH10 := hh10
  have le10 := hh10.len
  obtain ⟨a10, c10, rfl⟩ := r10.shape
  obtain ⟨-, l10, m10, z10⟩ := r10.row
  rw [le10] at l10 z10 ⊢
  obtain ⟨css11, r11, hh11⟩ := r11
  have HH11 := hh11
  have le11 := hh11.len
  obtain ⟨a11, c11, rfl⟩ := r11.shape
  obtain ⟨-, l11, m11, z11⟩ := r11.row
  rw [le11] at l11 z11 ⊢
  obtain ⟨css20, r20, hh20⟩ := r20
  have HH20 := hh20
  have le20 := hh20.len
  obtain ⟨a20, c20, rfl⟩ := r20.shape
  obtain ⟨-, l20, m20, z20⟩ := r20.row
  rw [le20] at l20 z20 ⊢
  obtain ⟨css21, r21, hh21⟩ := r21
  have HH21 := hh21
  have le21 := hh21.len
  obtain ⟨a21, c21, rfl⟩ := r21.shape
  obtain ⟨-, l21, m21, z21⟩ := r21.row
  rw [le21] at l21 z21 ⊢
  have R10 : Hid (∀ i, i < x.conds.length → ∃ b off, a10 = some ⟨b, off, none⟩ ∧ b < w.heap.size ∧ ∀ j, j < 3 → w.cell? ⟨b, off + (i * 3 + j), none⟩ = (css10.getD i [])[j]?) := z10
  have G10 : Hid (All2 (ReC P1 w) css10 x.conds) := HH10
  clear HH10 hh10 le10
  have R11 : Hid (∀ i, i < x.acts.length → ∃ b off, a11 = some ⟨b, off, none⟩ ∧ b < w.heap.size ∧ ∀ j, j < 6 → w.cell? ⟨b, off + (i * 6 + j), none⟩ = (css11.getD i [])[j]?) := z11
  have G11 : Hid (All2 (ReT P1 w) css11 x.acts) := HH11
  clear HH11 hh11 le11
  have R20 : Hid (∀ i, i < y.conds.length → ∃ b off, a20 = some ⟨b, off, none⟩ ∧ b < w.heap.size ∧ ∀ j, j < 3 → w.cell? ⟨b, off + (i * 3 + j), none⟩ = (css20.getD i [])[j]?) := z20
  have G20 : Hid (All2 (ReC P2 w) css20 y.conds) := HH20
  clear HH20 hh20 le20
  have R21 : Hid (∀ i, i < y.acts.length → ∃ b off, a21 = some ⟨b, off, none⟩ ∧ b < w.heap.size ∧ ∀ j, j < 6 → w.cell? ⟨b, off + (i * 6 + j), none⟩ = (css21.getD i [])[j]?) := z21
  have G21 : Hid (All2 (ReT P2 w) css21 y.acts) := HH21
  clear HH21 hh21 le21
  obtain ⟨A, hA⟩ : ∃ A, A = decide (x = y) := ⟨_, rfl⟩
  rw [← hA]
  have HA : Hid (A = decide (x = y)) := hA
  clear hA z10 r10 z11 r11 z20 r20 z21 r21
  by_cases hnm : ¬ (x.nm = y.nm)
  · have hznm : ((st x.nm).toList == (st y.nm).toList) = false := by rw [beq_eq_false_iff_ne]; exact fun e => hnm (st_eq e)
    have HN : Hid (A = false) := by show _ = _; rw [HA.out]; exact decide_eq_false (fun e => hnm (by rw [e]))
    clear HA hnm
    go_enter Tryz.func16, Tryz.ntmps16
    go_wp2
    go_ret
    exact ⟨ret_bool HN.out.symm, bxn2t _ _ _⟩
  replace hnm := Classical.not_not.1 hnm
  rw [← hnm]
  have Hnm : Hid (x.nm = y.nm) := hnm
  clear hnm
  by_cases hconds : ¬ (x.conds.length = y.conds.length)
  · have hzconds : ((x.conds.length : Int) == y.conds.length) = false := by rw [beq_eq_false_iff_ne]; omega
    have HN : Hid (A = false) := by show _ = _; rw [HA.out]; exact decide_eq_false (fun e => hconds (by rw [e]))
    clear HA hconds
    go_enter Tryz.func16, Tryz.ntmps16
    go_wp2
    go_ret
    exact ⟨ret_bool HN.out.symm, bxn2t _ _ _⟩
  replace hconds := Classical.not_not.1 hconds
  rw [← hconds] at l20 ⊢
  have Hconds : Hid (x.conds.length = y.conds.length) := hconds
  clear hconds
  by_cases hacts : ¬ (x.acts.length = y.acts.length)
  · have hzacts : ((x.acts.length : Int) == y.acts.length) = false := by rw [beq_eq_false_iff_ne]; omega
    have HN : Hid (A = false) := by show _ = _; rw [HA.out]; exact decide_eq_false (fun e => hacts (by rw [e]))
    clear HA hacts
    go_enter Tryz.func16, Tryz.ntmps16
    go_wp2
    go_ret
    exact ⟨ret_bool HN.out.symm, bxn2t _ _ _⟩
  replace hacts := Classical.not_not.1 hacts
  rw [← hacts] at l21 ⊢
  have Hacts : Hid (x.acts.length = y.acts.length) := hacts
  clear hacts
  have hnn0 : (x.conds.length : Int) ≤ 9223372036854775807 := by omega
  have hnn1 : (x.acts.length : Int) ≤ 9223372036854775807 := by omega
  go_enter Tryz.func16, Tryz.ntmps16
  go_wp2
  go_loopw [5] (fun v wr => ∃ i : Nat, v = .int .i64 i ∧ i ≤ x.conds.length ∧ (∀ j, j < i → x.conds.getD j cd0 = y.conds.getD j cd0) ∧ Below ((w.alloc (.cells #[.string (st x.nm), .slice a10 x.conds.length c10, .slice a11 x.acts.length c11] 51)).alloc (.cells #[.string (st x.nm), .slice a20 x.conds.length c20, .slice a21 x.acts.length c21] 51)).heap.size ((w.alloc (.cells #[.string (st x.nm), .slice a10 x.conds.length c10, .slice a11 x.acts.length c11] 51)).alloc (.cells #[.string (st x.nm), .slice a20 x.conds.length c20, .slice a21 x.acts.length c21] 51)) wr) (fun v _ => (x.conds.length - intOf v).toNat)
  case atStart => exact ⟨0, rfl, Nat.zero_le _, fun j hj => absurd hj (Nat.not_lt_zero _), Below.refl _ _⟩
  case round =>
    obtain ⟨i0Q, rfl, hi0, hall0, hbr0⟩ := hrel
    obtain ⟨wq0, hwq⟩ : ∃ wq, wq = wr := ⟨_, rfl⟩
    subst hwq
    have BW0 : Hid (Below w.heap.size w wq0) := bt (bxn2t _ _ _) hbr0
    have p10 : wq0.cell? ⟨w.heap.size, 0, none⟩ = some (.string (st x.nm)) := by rw [hbr0.cell (p := ⟨w.heap.size, 0, none⟩) (by simp <;> omega)]; go_simp
    have p11 : wq0.cell? ⟨w.heap.size, 1, none⟩ = some (.slice a10 x.conds.length c10) := by rw [hbr0.cell (p := ⟨w.heap.size, 1, none⟩) (by simp <;> omega)]; go_simp
    have p12 : wq0.cell? ⟨w.heap.size, 2, none⟩ = some (.slice a11 x.acts.length c11) := by rw [hbr0.cell (p := ⟨w.heap.size, 2, none⟩) (by simp <;> omega)]; go_simp
    have p20 : wq0.cell? ⟨w.heap.size + 1, 0, none⟩ = some (.string (st x.nm)) := by rw [hbr0.cell (p := ⟨w.heap.size + 1, 0, none⟩) (by simp <;> omega)]; go_simp
    have p21 : wq0.cell? ⟨w.heap.size + 1, 1, none⟩ = some (.slice a20 x.conds.length c20) := by rw [hbr0.cell (p := ⟨w.heap.size + 1, 1, none⟩) (by simp <;> omega)]; go_simp
    have p22 : wq0.cell? ⟨w.heap.size + 1, 2, none⟩ = some (.slice a21 x.acts.length c21) := by rw [hbr0.cell (p := ⟨w.heap.size + 1, 2, none⟩) (by simp <;> omega)]; go_simp
    by_cases hlt0 : i0Q < x.conds.length
    · have hiz : (i0Q : Int) < x.conds.length := by omega
      obtain ⟨b1, o1, rfl, hb1, q1⟩ := R10.out i0Q hlt0
      obtain ⟨b2, o2, rfl, hb2, q2⟩ := R20.out i0Q (by have := Hconds.out; omega)
      have e1 := G10.out.at i0Q [] cd0 hlt0
      have e2 := G20.out.at i0Q [] cd0 (by have := Hconds.out; omega)
      by_cases heq : x.conds.getD i0Q cd0 = y.conds.getD i0Q cd0
      · have HALL : Hid (∀ j, j < i0Q + 1 → x.conds.getD j cd0 = y.conds.getD j cd0) := fun j hj => by
          rcases Nat.lt_or_ge j i0Q with h | h
          · exact hall0 j h
          · obtain rfl : j = i0Q := by omega
            exact heq
        generalize x.conds.getD i0Q cd0 = x' at *
        generalize y.conds.getD i0Q cd0 = y' at *
        subst heq
        have e1' := e1
        have e2' := e2
        obtain ⟨u1, ec1, ku1⟩ := e1
        obtain ⟨t1, ec2, kt1⟩ := e2
        rw [ec1] at q1 e1'
        rw [ec2] at q2 e2'
        have SL : Hid (∀ W, Below wq0.heap.size wq0 W → (W.cell? ⟨b1, o1 + i0Q * 3, none⟩ = some (.bool x'.neg) ∧ W.cell? ⟨b1, o1 + i0Q * 3 + 1, none⟩ = some (.string (st x'.c)) ∧ W.cell? ⟨b1, o1 + i0Q * 3 + 2, none⟩ = some (u1)) ∧ (W.cell? ⟨b2, o2 + i0Q * 3, none⟩ = some (.bool x'.neg) ∧ W.cell? ⟨b2, o2 + i0Q * 3 + 1, none⟩ = some (.string (st x'.c)) ∧ W.cell? ⟨b2, o2 + i0Q * 3 + 2, none⟩ = some (t1)) ∧ W.cell? ⟨w.heap.size, 0, none⟩ = some (.string (st x.nm)) ∧ W.cell? ⟨w.heap.size, 1, none⟩ = some (.slice (some ⟨b1, o1, none⟩) x.conds.length c10) ∧ W.cell? ⟨w.heap.size, 2, none⟩ = some (.slice a11 x.acts.length c11) ∧ W.cell? ⟨w.heap.size + 1, 0, none⟩ = some (.string (st x.nm)) ∧ W.cell? ⟨w.heap.size + 1, 1, none⟩ = some (.slice (some ⟨b2, o2, none⟩) x.conds.length c20) ∧ W.cell? ⟨w.heap.size + 1, 2, none⟩ = some (.slice a21 x.acts.length c21)) := fun W hW => ⟨⟨((bt BW0.out hW).cell (p := ⟨b1, o1 + i0Q * 3, none⟩) hb1).trans (q1 0 (by decide)), ((bt BW0.out hW).cell (p := ⟨b1, o1 + i0Q * 3 + 1, none⟩) hb1).trans (q1 1 (by decide)), ((bt BW0.out hW).cell (p := ⟨b1, o1 + i0Q * 3 + 2, none⟩) hb1).trans (q1 2 (by decide))⟩, ⟨((bt BW0.out hW).cell (p := ⟨b2, o2 + i0Q * 3, none⟩) hb2).trans (q2 0 (by decide)), ((bt BW0.out hW).cell (p := ⟨b2, o2 + i0Q * 3 + 1, none⟩) hb2).trans (q2 1 (by decide)), ((bt BW0.out hW).cell (p := ⟨b2, o2 + i0Q * 3 + 2, none⟩) hb2).trans (q2 2 (by decide))⟩, (hW.cell (p := ⟨w.heap.size, 0, none⟩) (by have := hbr0.size; simp at this; show w.heap.size < _; omega)).trans p10, (hW.cell (p := ⟨w.heap.size, 1, none⟩) (by have := hbr0.size; simp at this; show w.heap.size < _; omega)).trans p11, (hW.cell (p := ⟨w.heap.size, 2, none⟩) (by have := hbr0.size; simp at this; show w.heap.size < _; omega)).trans p12, (hW.cell (p := ⟨w.heap.size + 1, 0, none⟩) (by have := hbr0.size; simp at this; show w.heap.size + 1 < _; omega)).trans p20, (hW.cell (p := ⟨w.heap.size + 1, 1, none⟩) (by have := hbr0.size; simp at this; show w.heap.size + 1 < _; omega)).trans p21, (hW.cell (p := ⟨w.heap.size + 1, 2, none⟩) (by have := hbr0.size; simp at this; show w.heap.size + 1 < _; omega)).trans p22⟩
        have CC : ∀ W, Below wq0.heap.size wq0 W → Calls Tryz.prog 31 #[.agg #[.bool x'.neg, .string (st x'.c), u1], .agg #[.bool x'.neg, .string (st x'.c), t1]] W fun e w' => e = .returned (.bool true) ∧ Below W.heap.size W w' := fun W hW => (sameCond_any _ _ x' x' W (e1'.keep (Stays.below (bt BW0.out hW))) (e2'.keep (Stays.below (bt BW0.out hW)))).mono (by rintro e w' ⟨rfl, hb⟩; exact ⟨by rw [decide_eq_true rfl], hb⟩); clear e1' e2' ec1 ec2 ku1 kt1
        clear q1 q2 hall0
        go_wp2_with fail
        refine wp_region_noPanic ?_
        refine name_ops ?_
        intro O QQ HO HQ
        refine wp_region_held_drew (S := fun W => Below wq0.heap.size wq0 W) (by kernel_rfl) (Below.refl _ _).drew (fun hS => ?_)
        rw [show O.size = 12 by rw [HO.out]; rfl]
        refine qwt (i := 0) (v := .pointer (some ⟨w.heap.size, 1, none⟩)) HO HQ (by simp only [qa1, qa2, qa3]; rfl) (by kernel_rfl) (by kernel_rfl) (by kernel_rfl) (fun _ _ _ h => h) (Or.inl ⟨by first | rfl | (rw [HO.out]; kernel_rfl), ?_⟩) hS ?_
        · intro w' hSw
          go_simp
        try simp only [Act.put, qb1, qb2, qb3]
        refine qwt (i := 1) (v := .slice (some ⟨b1, o1, none⟩) x.conds.length c10) HO HQ (by simp only [qa1, qa2, qa3]; rfl) (by kernel_rfl) (by kernel_rfl) (by kernel_rfl) (fun _ _ _ h => h) (Or.inl ⟨by first | rfl | (rw [HO.out]; kernel_rfl), ?_⟩) hS ?_
        · intro w' hSw
          obtain ⟨⟨q10, q11, q12⟩, ⟨q20, q21, q22⟩, p10, p11, p12, p20, p21, p22⟩ := SL.out _ hSw
          go_simp
        try simp only [Act.put, qb1, qb2, qb3]
        refine qwt (i := 2) (v := .int .i64 i0Q) HO HQ (by simp only [qa1, qa2, qa3]; rfl) (by kernel_rfl) (by kernel_rfl) (by kernel_rfl) (fun _ _ _ h => h) (Or.inl ⟨by first | rfl | (rw [HO.out]; kernel_rfl), ?_⟩) hS ?_
        · intro w' hSw
          go_simp
        try simp only [Act.put, qb1, qb2, qb3]
        refine qwt (i := 3) (v := .pointer (some ⟨b1, o1 + i0Q * 3, none⟩)) HO HQ (by simp only [qa1, qa2, qa3]; rfl) (by kernel_rfl) (by kernel_rfl) (by kernel_rfl) (fun _ _ _ h => h) (Or.inl ⟨by first | rfl | (rw [HO.out]; kernel_rfl), ?_⟩) hS ?_
        · intro w' hSw
          go_simp
        try simp only [Act.put, qb1, qb2, qb3]
        refine qwt (i := 4) (v := .agg #[.bool x'.neg, .string (st x'.c), u1]) HO HQ (by simp only [qa1, qa2, qa3]; rfl) (by kernel_rfl) (by kernel_rfl) (by kernel_rfl) (fun _ _ _ h => h) (Or.inl ⟨by first | rfl | (rw [HO.out]; kernel_rfl), ?_⟩) hS ?_
        · intro w' hSw
          obtain ⟨⟨q10, q11, q12⟩, ⟨q20, q21, q22⟩, p10, p11, p12, p20, p21, p22⟩ := SL.out _ hSw
          go_simp
        try simp only [Act.put, qb1, qb2, qb3]
        refine qwt (i := 5) (v := .pointer (some ⟨w.heap.size + 1, 1, none⟩)) HO HQ (by simp only [qa1, qa2, qa3]; rfl) (by kernel_rfl) (by kernel_rfl) (by kernel_rfl) (fun _ _ _ h => h) (Or.inl ⟨by first | rfl | (rw [HO.out]; kernel_rfl), ?_⟩) hS ?_
        · intro w' hSw
          go_simp
        try simp only [Act.put, qb1, qb2, qb3]
        refine qwt (i := 6) (v := .slice (some ⟨b2, o2, none⟩) x.conds.length c20) HO HQ (by simp only [qa1, qa2, qa3]; rfl) (by kernel_rfl) (by kernel_rfl) (by kernel_rfl) (fun _ _ _ h => h) (Or.inl ⟨by first | rfl | (rw [HO.out]; kernel_rfl), ?_⟩) hS ?_
        · intro w' hSw
          obtain ⟨⟨q10, q11, q12⟩, ⟨q20, q21, q22⟩, p10, p11, p12, p20, p21, p22⟩ := SL.out _ hSw
          go_simp
        try simp only [Act.put, qb1, qb2, qb3]
        refine qwt (i := 7) (v := .int .i64 i0Q) HO HQ (by simp only [qa1, qa2, qa3]; rfl) (by kernel_rfl) (by kernel_rfl) (by kernel_rfl) (fun _ _ _ h => h) (Or.inl ⟨by first | rfl | (rw [HO.out]; kernel_rfl), ?_⟩) hS ?_
        · intro w' hSw
          go_simp
        try simp only [Act.put, qb1, qb2, qb3]
        refine qwt (i := 8) (v := .pointer (some ⟨b2, o2 + i0Q * 3, none⟩)) HO HQ (by simp only [qa1, qa2, qa3]; rfl) (by kernel_rfl) (by kernel_rfl) (by kernel_rfl) (fun _ _ _ h => h) (Or.inl ⟨by first | rfl | (rw [HO.out]; kernel_rfl), ?_⟩) hS ?_
        · intro w' hSw
          go_simp
        try simp only [Act.put, qb1, qb2, qb3]
        refine qwt (i := 9) (v := .agg #[.bool x'.neg, .string (st x'.c), t1]) HO HQ (by simp only [qa1, qa2, qa3]; rfl) (by kernel_rfl) (by kernel_rfl) (by kernel_rfl) (fun _ _ _ h => h) (Or.inl ⟨by first | rfl | (rw [HO.out]; kernel_rfl), ?_⟩) hS ?_
        · intro w' hSw
          obtain ⟨⟨q10, q11, q12⟩, ⟨q20, q21, q22⟩, p10, p11, p12, p20, p21, p22⟩ := SL.out _ hSw
          go_simp
        try simp only [Act.put, qb1, qb2, qb3]
        refine wpAnyH_one (i := 10) (x := 47) (R := fun v _ => v = .bool true) (by rw [HO.out]; simp only [qa1, qa2, qa3]; rfl) (by rw [HO.out]; kernel_rfl) hS ?_ ?_
        · intro K hK
          simp only [Act.put, qb1, qb2, qb3] at hK
          unfold Steps
          rw [if_pos (by rw [HO.out]; kernel_rfl)]
          go_simp
          refine (CC _ hS).mono ?_
          rintro e w9 ⟨rfl, hb9⟩
          exact hK _ _ rfl hb9
        rintro v9 w9 hv9 hb9 hS9
        obtain rfl := hv9
        clear hb9
        replace hS := hS9
        clear hS9
        try simp only [Act.put, qb1, qb2, qb3]
        refine qwt (i := 11) (v := .bool false) HO HQ (by simp only [qa1, qa2, qa3]; rfl) (by kernel_rfl) (by kernel_rfl) (by kernel_rfl) (fun _ _ _ h => h) (Or.inl ⟨by first | rfl | (rw [HO.out]; kernel_rfl), ?_⟩) hS ?_
        · intro w' hSw
          go_simp
        try simp only [Act.put, qb1, qb2, qb3]
        refine wpAnyH_done (by rw [HO.out]; kernel_rfl) ?_ _
        rw [HQ.out]
        refine NoPanic.normal ?_
        go_wp2
        go_roundw
        case rel => exact ⟨i0Q + 1, by simp, by omega, HALL.out, bt hbr0 hS⟩
        case measure => simp [intOf]; omega
      · have HN : Hid (A = false) := by show _ = _; rw [HA.out]; exact decide_eq_false (fun e => heq (by rw [e]))
        generalize x.conds.getD i0Q cd0 = x' at *
        generalize y.conds.getD i0Q cd0 = y' at *
        have e1' := e1
        have e2' := e2
        obtain ⟨u1, ec1, ku1⟩ := e1
        obtain ⟨t1, ec2, kt1⟩ := e2
        rw [ec1] at q1 e1'
        rw [ec2] at q2 e2'
        have SL : Hid (∀ W, Below wq0.heap.size wq0 W → (W.cell? ⟨b1, o1 + i0Q * 3, none⟩ = some (.bool x'.neg) ∧ W.cell? ⟨b1, o1 + i0Q * 3 + 1, none⟩ = some (.string (st x'.c)) ∧ W.cell? ⟨b1, o1 + i0Q * 3 + 2, none⟩ = some (u1)) ∧ (W.cell? ⟨b2, o2 + i0Q * 3, none⟩ = some (.bool y'.neg) ∧ W.cell? ⟨b2, o2 + i0Q * 3 + 1, none⟩ = some (.string (st y'.c)) ∧ W.cell? ⟨b2, o2 + i0Q * 3 + 2, none⟩ = some (t1)) ∧ W.cell? ⟨w.heap.size, 0, none⟩ = some (.string (st x.nm)) ∧ W.cell? ⟨w.heap.size, 1, none⟩ = some (.slice (some ⟨b1, o1, none⟩) x.conds.length c10) ∧ W.cell? ⟨w.heap.size, 2, none⟩ = some (.slice a11 x.acts.length c11) ∧ W.cell? ⟨w.heap.size + 1, 0, none⟩ = some (.string (st x.nm)) ∧ W.cell? ⟨w.heap.size + 1, 1, none⟩ = some (.slice (some ⟨b2, o2, none⟩) x.conds.length c20) ∧ W.cell? ⟨w.heap.size + 1, 2, none⟩ = some (.slice a21 x.acts.length c21)) := fun W hW => ⟨⟨((bt BW0.out hW).cell (p := ⟨b1, o1 + i0Q * 3, none⟩) hb1).trans (q1 0 (by decide)), ((bt BW0.out hW).cell (p := ⟨b1, o1 + i0Q * 3 + 1, none⟩) hb1).trans (q1 1 (by decide)), ((bt BW0.out hW).cell (p := ⟨b1, o1 + i0Q * 3 + 2, none⟩) hb1).trans (q1 2 (by decide))⟩, ⟨((bt BW0.out hW).cell (p := ⟨b2, o2 + i0Q * 3, none⟩) hb2).trans (q2 0 (by decide)), ((bt BW0.out hW).cell (p := ⟨b2, o2 + i0Q * 3 + 1, none⟩) hb2).trans (q2 1 (by decide)), ((bt BW0.out hW).cell (p := ⟨b2, o2 + i0Q * 3 + 2, none⟩) hb2).trans (q2 2 (by decide))⟩, (hW.cell (p := ⟨w.heap.size, 0, none⟩) (by have := hbr0.size; simp at this; show w.heap.size < _; omega)).trans p10, (hW.cell (p := ⟨w.heap.size, 1, none⟩) (by have := hbr0.size; simp at this; show w.heap.size < _; omega)).trans p11, (hW.cell (p := ⟨w.heap.size, 2, none⟩) (by have := hbr0.size; simp at this; show w.heap.size < _; omega)).trans p12, (hW.cell (p := ⟨w.heap.size + 1, 0, none⟩) (by have := hbr0.size; simp at this; show w.heap.size + 1 < _; omega)).trans p20, (hW.cell (p := ⟨w.heap.size + 1, 1, none⟩) (by have := hbr0.size; simp at this; show w.heap.size + 1 < _; omega)).trans p21, (hW.cell (p := ⟨w.heap.size + 1, 2, none⟩) (by have := hbr0.size; simp at this; show w.heap.size + 1 < _; omega)).trans p22⟩
        have CC : ∀ W, Below wq0.heap.size wq0 W → Calls Tryz.prog 31 #[.agg #[.bool x'.neg, .string (st x'.c), u1], .agg #[.bool y'.neg, .string (st y'.c), t1]] W fun e w' => e = .returned (.bool false) ∧ Below W.heap.size W w' := fun W hW => (sameCond_any _ _ x' y' W (e1'.keep (Stays.below (bt BW0.out hW))) (e2'.keep (Stays.below (bt BW0.out hW)))).mono (by rintro e w' ⟨rfl, hb⟩; exact ⟨by rw [decide_eq_false heq], hb⟩); clear e1' e2' ec1 ec2 ku1 kt1
        clear q1 q2 hall0 heq
        go_wp2_with fail
        refine wp_region_noPanic ?_
        refine name_ops ?_
        intro O QQ HO HQ
        refine wp_region_held_drew (S := fun W => Below wq0.heap.size wq0 W) (by kernel_rfl) (Below.refl _ _).drew (fun hS => ?_)
        rw [show O.size = 12 by rw [HO.out]; rfl]
        refine qwt (i := 0) (v := .pointer (some ⟨w.heap.size, 1, none⟩)) HO HQ (by simp only [qa1, qa2, qa3]; rfl) (by kernel_rfl) (by kernel_rfl) (by kernel_rfl) (fun _ _ _ h => h) (Or.inl ⟨by first | rfl | (rw [HO.out]; kernel_rfl), ?_⟩) hS ?_
        · intro w' hSw
          go_simp
        try simp only [Act.put, qb1, qb2, qb3]
        refine qwt (i := 1) (v := .slice (some ⟨b1, o1, none⟩) x.conds.length c10) HO HQ (by simp only [qa1, qa2, qa3]; rfl) (by kernel_rfl) (by kernel_rfl) (by kernel_rfl) (fun _ _ _ h => h) (Or.inl ⟨by first | rfl | (rw [HO.out]; kernel_rfl), ?_⟩) hS ?_
        · intro w' hSw
          obtain ⟨⟨q10, q11, q12⟩, ⟨q20, q21, q22⟩, p10, p11, p12, p20, p21, p22⟩ := SL.out _ hSw
          go_simp
        try simp only [Act.put, qb1, qb2, qb3]
        refine qwt (i := 2) (v := .int .i64 i0Q) HO HQ (by simp only [qa1, qa2, qa3]; rfl) (by kernel_rfl) (by kernel_rfl) (by kernel_rfl) (fun _ _ _ h => h) (Or.inl ⟨by first | rfl | (rw [HO.out]; kernel_rfl), ?_⟩) hS ?_
        · intro w' hSw
          go_simp
        try simp only [Act.put, qb1, qb2, qb3]
        refine qwt (i := 3) (v := .pointer (some ⟨b1, o1 + i0Q * 3, none⟩)) HO HQ (by simp only [qa1, qa2, qa3]; rfl) (by kernel_rfl) (by kernel_rfl) (by kernel_rfl) (fun _ _ _ h => h) (Or.inl ⟨by first | rfl | (rw [HO.out]; kernel_rfl), ?_⟩) hS ?_
        · intro w' hSw
          go_simp
        try simp only [Act.put, qb1, qb2, qb3]
        refine qwt (i := 4) (v := .agg #[.bool x'.neg, .string (st x'.c), u1]) HO HQ (by simp only [qa1, qa2, qa3]; rfl) (by kernel_rfl) (by kernel_rfl) (by kernel_rfl) (fun _ _ _ h => h) (Or.inl ⟨by first | rfl | (rw [HO.out]; kernel_rfl), ?_⟩) hS ?_
        · intro w' hSw
          obtain ⟨⟨q10, q11, q12⟩, ⟨q20, q21, q22⟩, p10, p11, p12, p20, p21, p22⟩ := SL.out _ hSw
          go_simp
        try simp only [Act.put, qb1, qb2, qb3]
        refine qwt (i := 5) (v := .pointer (some ⟨w.heap.size + 1, 1, none⟩)) HO HQ (by simp only [qa1, qa2, qa3]; rfl) (by kernel_rfl) (by kernel_rfl) (by kernel_rfl) (fun _ _ _ h => h) (Or.inl ⟨by first | rfl | (rw [HO.out]; kernel_rfl), ?_⟩) hS ?_
        · intro w' hSw
          go_simp
        try simp only [Act.put, qb1, qb2, qb3]
        refine qwt (i := 6) (v := .slice (some ⟨b2, o2, none⟩) x.conds.length c20) HO HQ (by simp only [qa1, qa2, qa3]; rfl) (by kernel_rfl) (by kernel_rfl) (by kernel_rfl) (fun _ _ _ h => h) (Or.inl ⟨by first | rfl | (rw [HO.out]; kernel_rfl), ?_⟩) hS ?_
        · intro w' hSw
          obtain ⟨⟨q10, q11, q12⟩, ⟨q20, q21, q22⟩, p10, p11, p12, p20, p21, p22⟩ := SL.out _ hSw
          go_simp
        try simp only [Act.put, qb1, qb2, qb3]
        refine qwt (i := 7) (v := .int .i64 i0Q) HO HQ (by simp only [qa1, qa2, qa3]; rfl) (by kernel_rfl) (by kernel_rfl) (by kernel_rfl) (fun _ _ _ h => h) (Or.inl ⟨by first | rfl | (rw [HO.out]; kernel_rfl), ?_⟩) hS ?_
        · intro w' hSw
          go_simp
        try simp only [Act.put, qb1, qb2, qb3]
        refine qwt (i := 8) (v := .pointer (some ⟨b2, o2 + i0Q * 3, none⟩)) HO HQ (by simp only [qa1, qa2, qa3]; rfl) (by kernel_rfl) (by kernel_rfl) (by kernel_rfl) (fun _ _ _ h => h) (Or.inl ⟨by first | rfl | (rw [HO.out]; kernel_rfl), ?_⟩) hS ?_
        · intro w' hSw
          go_simp
        try simp only [Act.put, qb1, qb2, qb3]
        refine qwt (i := 9) (v := .agg #[.bool y'.neg, .string (st y'.c), t1]) HO HQ (by simp only [qa1, qa2, qa3]; rfl) (by kernel_rfl) (by kernel_rfl) (by kernel_rfl) (fun _ _ _ h => h) (Or.inl ⟨by first | rfl | (rw [HO.out]; kernel_rfl), ?_⟩) hS ?_
        · intro w' hSw
          obtain ⟨⟨q10, q11, q12⟩, ⟨q20, q21, q22⟩, p10, p11, p12, p20, p21, p22⟩ := SL.out _ hSw
          go_simp
        try simp only [Act.put, qb1, qb2, qb3]
        refine wpAnyH_one (i := 10) (x := 47) (R := fun v _ => v = .bool false) (by rw [HO.out]; simp only [qa1, qa2, qa3]; rfl) (by rw [HO.out]; kernel_rfl) hS ?_ ?_
        · intro K hK
          simp only [Act.put, qb1, qb2, qb3] at hK
          unfold Steps
          rw [if_pos (by rw [HO.out]; kernel_rfl)]
          go_simp
          refine (CC _ hS).mono ?_
          rintro e w9 ⟨rfl, hb9⟩
          exact hK _ _ rfl hb9
        rintro v9 w9 hv9 hb9 hS9
        obtain rfl := hv9
        clear hb9
        replace hS := hS9
        clear hS9
        try simp only [Act.put, qb1, qb2, qb3]
        refine qwt (i := 11) (v := .bool true) HO HQ (by simp only [qa1, qa2, qa3]; rfl) (by kernel_rfl) (by kernel_rfl) (by kernel_rfl) (fun _ _ _ h => h) (Or.inl ⟨by first | rfl | (rw [HO.out]; kernel_rfl), ?_⟩) hS ?_
        · intro w' hSw
          go_simp
        try simp only [Act.put, qb1, qb2, qb3]
        refine wpAnyH_done (by rw [HO.out]; kernel_rfl) ?_ _
        rw [HQ.out]
        refine NoPanic.normal ?_
        go_wp2
        go_ret
        exact ⟨ret_bool HN.out.symm, bt BW0.out hS⟩
    · have hiz : ¬ (i0Q : Int) < x.conds.length := by omega
      have E0 : Hid (x.conds = y.conds) := eq_go cd0 Hconds.out hall0 (by omega)
      clear hall0
      go_wp2_with fail
      go_loopw [6] (fun v wr => ∃ i : Nat, v = .int .i64 i ∧ i ≤ x.acts.length ∧ (∀ j, j < i → x.acts.getD j ac0 = y.acts.getD j ac0) ∧ Below ((w.alloc (.cells #[.string (st x.nm), .slice a10 x.conds.length c10, .slice a11 x.acts.length c11] 51)).alloc (.cells #[.string (st x.nm), .slice a20 x.conds.length c20, .slice a21 x.acts.length c21] 51)).heap.size ((w.alloc (.cells #[.string (st x.nm), .slice a10 x.conds.length c10, .slice a11 x.acts.length c11] 51)).alloc (.cells #[.string (st x.nm), .slice a20 x.conds.length c20, .slice a21 x.acts.length c21] 51)) wr) (fun v _ => (x.acts.length - intOf v).toNat)
      case atStart => exact ⟨0, rfl, Nat.zero_le _, fun j hj => absurd hj (Nat.not_lt_zero _), hbr0⟩
      case round =>
        obtain ⟨i1, rfl, hi1, hall1, hbr1⟩ := hrel
        obtain ⟨wq1, hwq⟩ : ∃ wq, wq = wr := ⟨_, rfl⟩
        subst hwq
        have BW1 : Hid (Below w.heap.size w wq1) := bt (bxn2t _ _ _) hbr1
        have p10 : wq1.cell? ⟨w.heap.size, 0, none⟩ = some (.string (st x.nm)) := by rw [hbr1.cell (p := ⟨w.heap.size, 0, none⟩) (by simp <;> omega)]; go_simp
        have p11 : wq1.cell? ⟨w.heap.size, 1, none⟩ = some (.slice a10 x.conds.length c10) := by rw [hbr1.cell (p := ⟨w.heap.size, 1, none⟩) (by simp <;> omega)]; go_simp
        have p12 : wq1.cell? ⟨w.heap.size, 2, none⟩ = some (.slice a11 x.acts.length c11) := by rw [hbr1.cell (p := ⟨w.heap.size, 2, none⟩) (by simp <;> omega)]; go_simp
        have p20 : wq1.cell? ⟨w.heap.size + 1, 0, none⟩ = some (.string (st x.nm)) := by rw [hbr1.cell (p := ⟨w.heap.size + 1, 0, none⟩) (by simp <;> omega)]; go_simp
        have p21 : wq1.cell? ⟨w.heap.size + 1, 1, none⟩ = some (.slice a20 x.conds.length c20) := by rw [hbr1.cell (p := ⟨w.heap.size + 1, 1, none⟩) (by simp <;> omega)]; go_simp
        have p22 : wq1.cell? ⟨w.heap.size + 1, 2, none⟩ = some (.slice a21 x.acts.length c21) := by rw [hbr1.cell (p := ⟨w.heap.size + 1, 2, none⟩) (by simp <;> omega)]; go_simp
        by_cases hlt1 : i1 < x.acts.length
        · have hiz : (i1 : Int) < x.acts.length := by omega
          obtain ⟨b1, o1, rfl, hb1, q1⟩ := R11.out i1 hlt1
          obtain ⟨b2, o2, rfl, hb2, q2⟩ := R21.out i1 (by have := Hacts.out; omega)
          have e1 := G11.out.at i1 [] ac0 hlt1
          have e2 := G21.out.at i1 [] ac0 (by have := Hacts.out; omega)
          by_cases heq : x.acts.getD i1 ac0 = y.acts.getD i1 ac0
          · have HALL : Hid (∀ j, j < i1 + 1 → x.acts.getD j ac0 = y.acts.getD j ac0) := fun j hj => by
              rcases Nat.lt_or_ge j i1 with h | h
              · exact hall1 j h
              · obtain rfl : j = i1 := by omega
                exact heq
            generalize x.acts.getD i1 ac0 = x' at *
            generalize y.acts.getD i1 ac0 = y' at *
            subst heq
            have e1' := e1
            have e2' := e2
            obtain ⟨u1, u2, ec1, ku1, ku2⟩ := e1
            obtain ⟨t1, t2, ec2, kt1, kt2⟩ := e2
            rw [ec1] at q1 e1'
            rw [ec2] at q2 e2'
            have SL : Hid (∀ W, Below wq1.heap.size wq1 W → (W.cell? ⟨b1, o1 + i1 * 6, none⟩ = some (.int .u8 x'.k) ∧ W.cell? ⟨b1, o1 + i1 * 6 + 1, none⟩ = some (.string (st x'.c)) ∧ W.cell? ⟨b1, o1 + i1 * 6 + 2, none⟩ = some (.int .i64 x'.n) ∧ W.cell? ⟨b1, o1 + i1 * 6 + 3, none⟩ = some (.string (st x'.v)) ∧ W.cell? ⟨b1, o1 + i1 * 6 + 4, none⟩ = some (u1) ∧ W.cell? ⟨b1, o1 + i1 * 6 + 5, none⟩ = some (u2)) ∧ (W.cell? ⟨b2, o2 + i1 * 6, none⟩ = some (.int .u8 x'.k) ∧ W.cell? ⟨b2, o2 + i1 * 6 + 1, none⟩ = some (.string (st x'.c)) ∧ W.cell? ⟨b2, o2 + i1 * 6 + 2, none⟩ = some (.int .i64 x'.n) ∧ W.cell? ⟨b2, o2 + i1 * 6 + 3, none⟩ = some (.string (st x'.v)) ∧ W.cell? ⟨b2, o2 + i1 * 6 + 4, none⟩ = some (t1) ∧ W.cell? ⟨b2, o2 + i1 * 6 + 5, none⟩ = some (t2)) ∧ W.cell? ⟨w.heap.size, 0, none⟩ = some (.string (st x.nm)) ∧ W.cell? ⟨w.heap.size, 1, none⟩ = some (.slice a10 x.conds.length c10) ∧ W.cell? ⟨w.heap.size, 2, none⟩ = some (.slice (some ⟨b1, o1, none⟩) x.acts.length c11) ∧ W.cell? ⟨w.heap.size + 1, 0, none⟩ = some (.string (st x.nm)) ∧ W.cell? ⟨w.heap.size + 1, 1, none⟩ = some (.slice a20 x.conds.length c20) ∧ W.cell? ⟨w.heap.size + 1, 2, none⟩ = some (.slice (some ⟨b2, o2, none⟩) x.acts.length c21)) := fun W hW => ⟨⟨((bt BW1.out hW).cell (p := ⟨b1, o1 + i1 * 6, none⟩) hb1).trans (q1 0 (by decide)), ((bt BW1.out hW).cell (p := ⟨b1, o1 + i1 * 6 + 1, none⟩) hb1).trans (q1 1 (by decide)), ((bt BW1.out hW).cell (p := ⟨b1, o1 + i1 * 6 + 2, none⟩) hb1).trans (q1 2 (by decide)), ((bt BW1.out hW).cell (p := ⟨b1, o1 + i1 * 6 + 3, none⟩) hb1).trans (q1 3 (by decide)), ((bt BW1.out hW).cell (p := ⟨b1, o1 + i1 * 6 + 4, none⟩) hb1).trans (q1 4 (by decide)), ((bt BW1.out hW).cell (p := ⟨b1, o1 + i1 * 6 + 5, none⟩) hb1).trans (q1 5 (by decide))⟩, ⟨((bt BW1.out hW).cell (p := ⟨b2, o2 + i1 * 6, none⟩) hb2).trans (q2 0 (by decide)), ((bt BW1.out hW).cell (p := ⟨b2, o2 + i1 * 6 + 1, none⟩) hb2).trans (q2 1 (by decide)), ((bt BW1.out hW).cell (p := ⟨b2, o2 + i1 * 6 + 2, none⟩) hb2).trans (q2 2 (by decide)), ((bt BW1.out hW).cell (p := ⟨b2, o2 + i1 * 6 + 3, none⟩) hb2).trans (q2 3 (by decide)), ((bt BW1.out hW).cell (p := ⟨b2, o2 + i1 * 6 + 4, none⟩) hb2).trans (q2 4 (by decide)), ((bt BW1.out hW).cell (p := ⟨b2, o2 + i1 * 6 + 5, none⟩) hb2).trans (q2 5 (by decide))⟩, (hW.cell (p := ⟨w.heap.size, 0, none⟩) (by have := hbr1.size; simp at this; show w.heap.size < _; omega)).trans p10, (hW.cell (p := ⟨w.heap.size, 1, none⟩) (by have := hbr1.size; simp at this; show w.heap.size < _; omega)).trans p11, (hW.cell (p := ⟨w.heap.size, 2, none⟩) (by have := hbr1.size; simp at this; show w.heap.size < _; omega)).trans p12, (hW.cell (p := ⟨w.heap.size + 1, 0, none⟩) (by have := hbr1.size; simp at this; show w.heap.size + 1 < _; omega)).trans p20, (hW.cell (p := ⟨w.heap.size + 1, 1, none⟩) (by have := hbr1.size; simp at this; show w.heap.size + 1 < _; omega)).trans p21, (hW.cell (p := ⟨w.heap.size + 1, 2, none⟩) (by have := hbr1.size; simp at this; show w.heap.size + 1 < _; omega)).trans p22⟩
            have CC : ∀ W, Below wq1.heap.size wq1 W → Calls Tryz.prog 32 #[.agg #[.int .u8 x'.k, .string (st x'.c), .int .i64 x'.n, .string (st x'.v), u1, u2], .agg #[.int .u8 x'.k, .string (st x'.c), .int .i64 x'.n, .string (st x'.v), t1, t2]] W fun e w' => e = .returned (.bool true) ∧ Below W.heap.size W w' := fun W hW => (sameAct_any _ _ x' x' W (e1'.keep (Stays.below (bt BW1.out hW))) (e2'.keep (Stays.below (bt BW1.out hW)))).mono (by rintro e w' ⟨rfl, hb⟩; exact ⟨by rw [decide_eq_true rfl], hb⟩); clear e1' e2' ec1 ec2 ku1 kt1 ku2 kt2
            clear q1 q2 hall1
            go_wp2_with fail
            refine wp_region_noPanic ?_
            refine name_ops ?_
            intro O QQ HO HQ
            refine wp_region_held_drew (S := fun W => Below wq1.heap.size wq1 W) (by kernel_rfl) (Below.refl _ _).drew (fun hS => ?_)
            rw [show O.size = 12 by rw [HO.out]; rfl]
            refine qwt (i := 0) (v := .pointer (some ⟨w.heap.size, 2, none⟩)) HO HQ (by simp only [qa1, qa2, qa3]; rfl) (by kernel_rfl) (by kernel_rfl) (by kernel_rfl) (fun _ _ _ h => h) (Or.inl ⟨by first | rfl | (rw [HO.out]; kernel_rfl), ?_⟩) hS ?_
            · intro w' hSw
              go_simp
            try simp only [Act.put, qb1, qb2, qb3]
            refine qwt (i := 1) (v := .slice (some ⟨b1, o1, none⟩) x.acts.length c11) HO HQ (by simp only [qa1, qa2, qa3]; rfl) (by kernel_rfl) (by kernel_rfl) (by kernel_rfl) (fun _ _ _ h => h) (Or.inl ⟨by first | rfl | (rw [HO.out]; kernel_rfl), ?_⟩) hS ?_
            · intro w' hSw
              obtain ⟨⟨q10, q11, q12, q13, q14, q15⟩, ⟨q20, q21, q22, q23, q24, q25⟩, p10, p11, p12, p20, p21, p22⟩ := SL.out _ hSw
              go_simp
            try simp only [Act.put, qb1, qb2, qb3]
            refine qwt (i := 2) (v := .int .i64 i1) HO HQ (by simp only [qa1, qa2, qa3]; rfl) (by kernel_rfl) (by kernel_rfl) (by kernel_rfl) (fun _ _ _ h => h) (Or.inl ⟨by first | rfl | (rw [HO.out]; kernel_rfl), ?_⟩) hS ?_
            · intro w' hSw
              go_simp
            try simp only [Act.put, qb1, qb2, qb3]
            refine qwt (i := 3) (v := .pointer (some ⟨b1, o1 + i1 * 6, none⟩)) HO HQ (by simp only [qa1, qa2, qa3]; rfl) (by kernel_rfl) (by kernel_rfl) (by kernel_rfl) (fun _ _ _ h => h) (Or.inl ⟨by first | rfl | (rw [HO.out]; kernel_rfl), ?_⟩) hS ?_
            · intro w' hSw
              go_simp
            try simp only [Act.put, qb1, qb2, qb3]
            refine qwt (i := 4) (v := .agg #[.int .u8 x'.k, .string (st x'.c), .int .i64 x'.n, .string (st x'.v), u1, u2]) HO HQ (by simp only [qa1, qa2, qa3]; rfl) (by kernel_rfl) (by kernel_rfl) (by kernel_rfl) (fun _ _ _ h => h) (Or.inl ⟨by first | rfl | (rw [HO.out]; kernel_rfl), ?_⟩) hS ?_
            · intro w' hSw
              obtain ⟨⟨q10, q11, q12, q13, q14, q15⟩, ⟨q20, q21, q22, q23, q24, q25⟩, p10, p11, p12, p20, p21, p22⟩ := SL.out _ hSw
              go_simp
            try simp only [Act.put, qb1, qb2, qb3]
            refine qwt (i := 5) (v := .pointer (some ⟨w.heap.size + 1, 2, none⟩)) HO HQ (by simp only [qa1, qa2, qa3]; rfl) (by kernel_rfl) (by kernel_rfl) (by kernel_rfl) (fun _ _ _ h => h) (Or.inl ⟨by first | rfl | (rw [HO.out]; kernel_rfl), ?_⟩) hS ?_
            · intro w' hSw
              go_simp
            try simp only [Act.put, qb1, qb2, qb3]
            refine qwt (i := 6) (v := .slice (some ⟨b2, o2, none⟩) x.acts.length c21) HO HQ (by simp only [qa1, qa2, qa3]; rfl) (by kernel_rfl) (by kernel_rfl) (by kernel_rfl) (fun _ _ _ h => h) (Or.inl ⟨by first | rfl | (rw [HO.out]; kernel_rfl), ?_⟩) hS ?_
            · intro w' hSw
              obtain ⟨⟨q10, q11, q12, q13, q14, q15⟩, ⟨q20, q21, q22, q23, q24, q25⟩, p10, p11, p12, p20, p21, p22⟩ := SL.out _ hSw
              go_simp
            try simp only [Act.put, qb1, qb2, qb3]
            refine qwt (i := 7) (v := .int .i64 i1) HO HQ (by simp only [qa1, qa2, qa3]; rfl) (by kernel_rfl) (by kernel_rfl) (by kernel_rfl) (fun _ _ _ h => h) (Or.inl ⟨by first | rfl | (rw [HO.out]; kernel_rfl), ?_⟩) hS ?_
            · intro w' hSw
              go_simp
            try simp only [Act.put, qb1, qb2, qb3]
            refine qwt (i := 8) (v := .pointer (some ⟨b2, o2 + i1 * 6, none⟩)) HO HQ (by simp only [qa1, qa2, qa3]; rfl) (by kernel_rfl) (by kernel_rfl) (by kernel_rfl) (fun _ _ _ h => h) (Or.inl ⟨by first | rfl | (rw [HO.out]; kernel_rfl), ?_⟩) hS ?_
            · intro w' hSw
              go_simp
            try simp only [Act.put, qb1, qb2, qb3]
            refine qwt (i := 9) (v := .agg #[.int .u8 x'.k, .string (st x'.c), .int .i64 x'.n, .string (st x'.v), t1, t2]) HO HQ (by simp only [qa1, qa2, qa3]; rfl) (by kernel_rfl) (by kernel_rfl) (by kernel_rfl) (fun _ _ _ h => h) (Or.inl ⟨by first | rfl | (rw [HO.out]; kernel_rfl), ?_⟩) hS ?_
            · intro w' hSw
              obtain ⟨⟨q10, q11, q12, q13, q14, q15⟩, ⟨q20, q21, q22, q23, q24, q25⟩, p10, p11, p12, p20, p21, p22⟩ := SL.out _ hSw
              go_simp
            try simp only [Act.put, qb1, qb2, qb3]
            refine wpAnyH_one (i := 10) (x := 66) (R := fun v _ => v = .bool true) (by rw [HO.out]; simp only [qa1, qa2, qa3]; rfl) (by rw [HO.out]; kernel_rfl) hS ?_ ?_
            · intro K hK
              simp only [Act.put, qb1, qb2, qb3] at hK
              unfold Steps
              rw [if_pos (by rw [HO.out]; kernel_rfl)]
              go_simp
              refine (CC _ hS).mono ?_
              rintro e w9 ⟨rfl, hb9⟩
              exact hK _ _ rfl hb9
            rintro v9 w9 hv9 hb9 hS9
            obtain rfl := hv9
            clear hb9
            replace hS := hS9
            clear hS9
            try simp only [Act.put, qb1, qb2, qb3]
            refine qwt (i := 11) (v := .bool false) HO HQ (by simp only [qa1, qa2, qa3]; rfl) (by kernel_rfl) (by kernel_rfl) (by kernel_rfl) (fun _ _ _ h => h) (Or.inl ⟨by first | rfl | (rw [HO.out]; kernel_rfl), ?_⟩) hS ?_
            · intro w' hSw
              go_simp
            try simp only [Act.put, qb1, qb2, qb3]
            refine wpAnyH_done (by rw [HO.out]; kernel_rfl) ?_ _
            rw [HQ.out]
            refine NoPanic.normal ?_
            go_wp2
            go_roundw
            case rel => exact ⟨i1 + 1, by simp, by omega, HALL.out, bt hbr1 hS⟩
            case measure => simp [intOf]; omega
          · have HN : Hid (A = false) := by show _ = _; rw [HA.out]; exact decide_eq_false (fun e => heq (by rw [e]))
            generalize x.acts.getD i1 ac0 = x' at *
            generalize y.acts.getD i1 ac0 = y' at *
            have e1' := e1
            have e2' := e2
            obtain ⟨u1, u2, ec1, ku1, ku2⟩ := e1
            obtain ⟨t1, t2, ec2, kt1, kt2⟩ := e2
            rw [ec1] at q1 e1'
            rw [ec2] at q2 e2'
            have SL : Hid (∀ W, Below wq1.heap.size wq1 W → (W.cell? ⟨b1, o1 + i1 * 6, none⟩ = some (.int .u8 x'.k) ∧ W.cell? ⟨b1, o1 + i1 * 6 + 1, none⟩ = some (.string (st x'.c)) ∧ W.cell? ⟨b1, o1 + i1 * 6 + 2, none⟩ = some (.int .i64 x'.n) ∧ W.cell? ⟨b1, o1 + i1 * 6 + 3, none⟩ = some (.string (st x'.v)) ∧ W.cell? ⟨b1, o1 + i1 * 6 + 4, none⟩ = some (u1) ∧ W.cell? ⟨b1, o1 + i1 * 6 + 5, none⟩ = some (u2)) ∧ (W.cell? ⟨b2, o2 + i1 * 6, none⟩ = some (.int .u8 y'.k) ∧ W.cell? ⟨b2, o2 + i1 * 6 + 1, none⟩ = some (.string (st y'.c)) ∧ W.cell? ⟨b2, o2 + i1 * 6 + 2, none⟩ = some (.int .i64 y'.n) ∧ W.cell? ⟨b2, o2 + i1 * 6 + 3, none⟩ = some (.string (st y'.v)) ∧ W.cell? ⟨b2, o2 + i1 * 6 + 4, none⟩ = some (t1) ∧ W.cell? ⟨b2, o2 + i1 * 6 + 5, none⟩ = some (t2)) ∧ W.cell? ⟨w.heap.size, 0, none⟩ = some (.string (st x.nm)) ∧ W.cell? ⟨w.heap.size, 1, none⟩ = some (.slice a10 x.conds.length c10) ∧ W.cell? ⟨w.heap.size, 2, none⟩ = some (.slice (some ⟨b1, o1, none⟩) x.acts.length c11) ∧ W.cell? ⟨w.heap.size + 1, 0, none⟩ = some (.string (st x.nm)) ∧ W.cell? ⟨w.heap.size + 1, 1, none⟩ = some (.slice a20 x.conds.length c20) ∧ W.cell? ⟨w.heap.size + 1, 2, none⟩ = some (.slice (some ⟨b2, o2, none⟩) x.acts.length c21)) := fun W hW => ⟨⟨((bt BW1.out hW).cell (p := ⟨b1, o1 + i1 * 6, none⟩) hb1).trans (q1 0 (by decide)), ((bt BW1.out hW).cell (p := ⟨b1, o1 + i1 * 6 + 1, none⟩) hb1).trans (q1 1 (by decide)), ((bt BW1.out hW).cell (p := ⟨b1, o1 + i1 * 6 + 2, none⟩) hb1).trans (q1 2 (by decide)), ((bt BW1.out hW).cell (p := ⟨b1, o1 + i1 * 6 + 3, none⟩) hb1).trans (q1 3 (by decide)), ((bt BW1.out hW).cell (p := ⟨b1, o1 + i1 * 6 + 4, none⟩) hb1).trans (q1 4 (by decide)), ((bt BW1.out hW).cell (p := ⟨b1, o1 + i1 * 6 + 5, none⟩) hb1).trans (q1 5 (by decide))⟩, ⟨((bt BW1.out hW).cell (p := ⟨b2, o2 + i1 * 6, none⟩) hb2).trans (q2 0 (by decide)), ((bt BW1.out hW).cell (p := ⟨b2, o2 + i1 * 6 + 1, none⟩) hb2).trans (q2 1 (by decide)), ((bt BW1.out hW).cell (p := ⟨b2, o2 + i1 * 6 + 2, none⟩) hb2).trans (q2 2 (by decide)), ((bt BW1.out hW).cell (p := ⟨b2, o2 + i1 * 6 + 3, none⟩) hb2).trans (q2 3 (by decide)), ((bt BW1.out hW).cell (p := ⟨b2, o2 + i1 * 6 + 4, none⟩) hb2).trans (q2 4 (by decide)), ((bt BW1.out hW).cell (p := ⟨b2, o2 + i1 * 6 + 5, none⟩) hb2).trans (q2 5 (by decide))⟩, (hW.cell (p := ⟨w.heap.size, 0, none⟩) (by have := hbr1.size; simp at this; show w.heap.size < _; omega)).trans p10, (hW.cell (p := ⟨w.heap.size, 1, none⟩) (by have := hbr1.size; simp at this; show w.heap.size < _; omega)).trans p11, (hW.cell (p := ⟨w.heap.size, 2, none⟩) (by have := hbr1.size; simp at this; show w.heap.size < _; omega)).trans p12, (hW.cell (p := ⟨w.heap.size + 1, 0, none⟩) (by have := hbr1.size; simp at this; show w.heap.size + 1 < _; omega)).trans p20, (hW.cell (p := ⟨w.heap.size + 1, 1, none⟩) (by have := hbr1.size; simp at this; show w.heap.size + 1 < _; omega)).trans p21, (hW.cell (p := ⟨w.heap.size + 1, 2, none⟩) (by have := hbr1.size; simp at this; show w.heap.size + 1 < _; omega)).trans p22⟩
            have CC : ∀ W, Below wq1.heap.size wq1 W → Calls Tryz.prog 32 #[.agg #[.int .u8 x'.k, .string (st x'.c), .int .i64 x'.n, .string (st x'.v), u1, u2], .agg #[.int .u8 y'.k, .string (st y'.c), .int .i64 y'.n, .string (st y'.v), t1, t2]] W fun e w' => e = .returned (.bool false) ∧ Below W.heap.size W w' := fun W hW => (sameAct_any _ _ x' y' W (e1'.keep (Stays.below (bt BW1.out hW))) (e2'.keep (Stays.below (bt BW1.out hW)))).mono (by rintro e w' ⟨rfl, hb⟩; exact ⟨by rw [decide_eq_false heq], hb⟩); clear e1' e2' ec1 ec2 ku1 kt1 ku2 kt2
            clear q1 q2 hall1 heq
            go_wp2_with fail
            refine wp_region_noPanic ?_
            refine name_ops ?_
            intro O QQ HO HQ
            refine wp_region_held_drew (S := fun W => Below wq1.heap.size wq1 W) (by kernel_rfl) (Below.refl _ _).drew (fun hS => ?_)
            rw [show O.size = 12 by rw [HO.out]; rfl]
            refine qwt (i := 0) (v := .pointer (some ⟨w.heap.size, 2, none⟩)) HO HQ (by simp only [qa1, qa2, qa3]; rfl) (by kernel_rfl) (by kernel_rfl) (by kernel_rfl) (fun _ _ _ h => h) (Or.inl ⟨by first | rfl | (rw [HO.out]; kernel_rfl), ?_⟩) hS ?_
            · intro w' hSw
              go_simp
            try simp only [Act.put, qb1, qb2, qb3]
            refine qwt (i := 1) (v := .slice (some ⟨b1, o1, none⟩) x.acts.length c11) HO HQ (by simp only [qa1, qa2, qa3]; rfl) (by kernel_rfl) (by kernel_rfl) (by kernel_rfl) (fun _ _ _ h => h) (Or.inl ⟨by first | rfl | (rw [HO.out]; kernel_rfl), ?_⟩) hS ?_
            · intro w' hSw
              obtain ⟨⟨q10, q11, q12, q13, q14, q15⟩, ⟨q20, q21, q22, q23, q24, q25⟩, p10, p11, p12, p20, p21, p22⟩ := SL.out _ hSw
              go_simp
            try simp only [Act.put, qb1, qb2, qb3]
            refine qwt (i := 2) (v := .int .i64 i1) HO HQ (by simp only [qa1, qa2, qa3]; rfl) (by kernel_rfl) (by kernel_rfl) (by kernel_rfl) (fun _ _ _ h => h) (Or.inl ⟨by first | rfl | (rw [HO.out]; kernel_rfl), ?_⟩) hS ?_
            · intro w' hSw
              go_simp
            try simp only [Act.put, qb1, qb2, qb3]
            refine qwt (i := 3) (v := .pointer (some ⟨b1, o1 + i1 * 6, none⟩)) HO HQ (by simp only [qa1, qa2, qa3]; rfl) (by kernel_rfl) (by kernel_rfl) (by kernel_rfl) (fun _ _ _ h => h) (Or.inl ⟨by first | rfl | (rw [HO.out]; kernel_rfl), ?_⟩) hS ?_
            · intro w' hSw
              go_simp
            try simp only [Act.put, qb1, qb2, qb3]
            refine qwt (i := 4) (v := .agg #[.int .u8 x'.k, .string (st x'.c), .int .i64 x'.n, .string (st x'.v), u1, u2]) HO HQ (by simp only [qa1, qa2, qa3]; rfl) (by kernel_rfl) (by kernel_rfl) (by kernel_rfl) (fun _ _ _ h => h) (Or.inl ⟨by first | rfl | (rw [HO.out]; kernel_rfl), ?_⟩) hS ?_
            · intro w' hSw
              obtain ⟨⟨q10, q11, q12, q13, q14, q15⟩, ⟨q20, q21, q22, q23, q24, q25⟩, p10, p11, p12, p20, p21, p22⟩ := SL.out _ hSw
              go_simp
            try simp only [Act.put, qb1, qb2, qb3]
            refine qwt (i := 5) (v := .pointer (some ⟨w.heap.size + 1, 2, none⟩)) HO HQ (by simp only [qa1, qa2, qa3]; rfl) (by kernel_rfl) (by kernel_rfl) (by kernel_rfl) (fun _ _ _ h => h) (Or.inl ⟨by first | rfl | (rw [HO.out]; kernel_rfl), ?_⟩) hS ?_
            · intro w' hSw
              go_simp
            try simp only [Act.put, qb1, qb2, qb3]
            refine qwt (i := 6) (v := .slice (some ⟨b2, o2, none⟩) x.acts.length c21) HO HQ (by simp only [qa1, qa2, qa3]; rfl) (by kernel_rfl) (by kernel_rfl) (by kernel_rfl) (fun _ _ _ h => h) (Or.inl ⟨by first | rfl | (rw [HO.out]; kernel_rfl), ?_⟩) hS ?_
            · intro w' hSw
              obtain ⟨⟨q10, q11, q12, q13, q14, q15⟩, ⟨q20, q21, q22, q23, q24, q25⟩, p10, p11, p12, p20, p21, p22⟩ := SL.out _ hSw
              go_simp
            try simp only [Act.put, qb1, qb2, qb3]
            refine qwt (i := 7) (v := .int .i64 i1) HO HQ (by simp only [qa1, qa2, qa3]; rfl) (by kernel_rfl) (by kernel_rfl) (by kernel_rfl) (fun _ _ _ h => h) (Or.inl ⟨by first | rfl | (rw [HO.out]; kernel_rfl), ?_⟩) hS ?_
            · intro w' hSw
              go_simp
            try simp only [Act.put, qb1, qb2, qb3]
            refine qwt (i := 8) (v := .pointer (some ⟨b2, o2 + i1 * 6, none⟩)) HO HQ (by simp only [qa1, qa2, qa3]; rfl) (by kernel_rfl) (by kernel_rfl) (by kernel_rfl) (fun _ _ _ h => h) (Or.inl ⟨by first | rfl | (rw [HO.out]; kernel_rfl), ?_⟩) hS ?_
            · intro w' hSw
              go_simp
            try simp only [Act.put, qb1, qb2, qb3]
            refine qwt (i := 9) (v := .agg #[.int .u8 y'.k, .string (st y'.c), .int .i64 y'.n, .string (st y'.v), t1, t2]) HO HQ (by simp only [qa1, qa2, qa3]; rfl) (by kernel_rfl) (by kernel_rfl) (by kernel_rfl) (fun _ _ _ h => h) (Or.inl ⟨by first | rfl | (rw [HO.out]; kernel_rfl), ?_⟩) hS ?_
            · intro w' hSw
              obtain ⟨⟨q10, q11, q12, q13, q14, q15⟩, ⟨q20, q21, q22, q23, q24, q25⟩, p10, p11, p12, p20, p21, p22⟩ := SL.out _ hSw
              go_simp
            try simp only [Act.put, qb1, qb2, qb3]
            refine wpAnyH_one (i := 10) (x := 66) (R := fun v _ => v = .bool false) (by rw [HO.out]; simp only [qa1, qa2, qa3]; rfl) (by rw [HO.out]; kernel_rfl) hS ?_ ?_
            · intro K hK
              simp only [Act.put, qb1, qb2, qb3] at hK
              unfold Steps
              rw [if_pos (by rw [HO.out]; kernel_rfl)]
              go_simp
              refine (CC _ hS).mono ?_
              rintro e w9 ⟨rfl, hb9⟩
              exact hK _ _ rfl hb9
            rintro v9 w9 hv9 hb9 hS9
            obtain rfl := hv9
            clear hb9
            replace hS := hS9
            clear hS9
            try simp only [Act.put, qb1, qb2, qb3]
            refine qwt (i := 11) (v := .bool true) HO HQ (by simp only [qa1, qa2, qa3]; rfl) (by kernel_rfl) (by kernel_rfl) (by kernel_rfl) (fun _ _ _ h => h) (Or.inl ⟨by first | rfl | (rw [HO.out]; kernel_rfl), ?_⟩) hS ?_
            · intro w' hSw
              go_simp
            try simp only [Act.put, qb1, qb2, qb3]
            refine wpAnyH_done (by rw [HO.out]; kernel_rfl) ?_ _
            rw [HQ.out]
            refine NoPanic.normal ?_
            go_wp2
            go_ret
            exact ⟨ret_bool HN.out.symm, bt BW1.out hS⟩
        · have hiz : ¬ (i1 : Int) < x.acts.length := by omega
          have E1 : Hid (x.acts = y.acts) := eq_go ac0 Hacts.out hall1 (by omega)
          clear hall1
          have HN : Hid (A = true) := by
            show _ = _
            rw [HA.out]
            exact decide_eq_true (extRuleD (Hnm.out) (E0.out) (E1.out))
          go_wp2
          go_ret
          exact ⟨ret_bool HN.out.symm, BW1.out⟩
end Go.Proofs.YtemacdimdpnkeaaGreatDoor
namespace Go.Proofs.YtemacdimdpnkeaaGreatDoor
set_option maxRecDepth 20000
open Go.RowKit
set_option linter.unusedVariables false
set_option linter.unusedSimpArgs false
set_option maxHeartbeats 8000000 in
theorem same_any {P1 P2 : Nat → Nat → Prop} (cs1 cs2 : List Value) (x y : ProgD) (w : World) (h1 : ReP P1 w cs1 x) (h2 : ReP P2 w cs2 y) :
    Calls Tryz.prog 7 #[.agg cs1.toArray, .agg cs2.toArray] w fun e w' => e = .returned (.bool (decide (x = y))) ∧ Below w.heap.size w w' := by
  obtain ⟨v10, v11, rfl, r10, r11⟩ := h1
  obtain ⟨v20, v21, rfl, r20, r21⟩ := h2
  obtain ⟨css10, r10, hh10⟩ := r10
  have HH10 := hh10
  have le10 := hh10.len
  obtain ⟨a10, c10, rfl⟩ := r10.shape
  obtain ⟨-, l10, m10, z10⟩ := r10.row
  rw [le10] at l10 z10 ⊢
  obtain ⟨css11, r11, hh11⟩ := r11
  have HH11 := hh11
  have le11 := hh11.len
  obtain ⟨a11, c11, rfl⟩ := r11.shape
  obtain ⟨-, l11, m11, z11⟩ := r11.row
  rw [le11] at l11 z11 ⊢
  obtain ⟨css20, r20, hh20⟩ := r20
  have HH20 := hh20
  have le20 := hh20.len
  obtain ⟨a20, c20, rfl⟩ := r20.shape
  obtain ⟨-, l20, m20, z20⟩ := r20.row
  rw [le20] at l20 z20 ⊢
  obtain ⟨css21, r21, hh21⟩ := r21
  have HH21 := hh21
  have le21 := hh21.len
  obtain ⟨a21, c21, rfl⟩ := r21.shape
  obtain ⟨-, l21, m21, z21⟩ := r21.row
  rw [le21] at l21 z21 ⊢
  have R10 : Hid (∀ i, i < x.cs.length → ∃ b off, a10 = some ⟨b, off, none⟩ ∧ b < w.heap.size ∧ ∀ j, j < 2 → w.cell? ⟨b, off + (i * 2 + j), none⟩ = (css10.getD i [])[j]?) := z10
  have G10 : Hid (All2 (ReK P1 w) css10 x.cs) := HH10
  clear HH10 hh10 le10
  have R11 : Hid (∀ i, i < x.rs.length → ∃ b off, a11 = some ⟨b, off, none⟩ ∧ b < w.heap.size ∧ ∀ j, j < 3 → w.cell? ⟨b, off + (i * 3 + j), none⟩ = (css11.getD i [])[j]?) := z11
  have G11 : Hid (All2 (ReR P1 w) css11 x.rs) := HH11
  clear HH11 hh11 le11
  have R20 : Hid (∀ i, i < y.cs.length → ∃ b off, a20 = some ⟨b, off, none⟩ ∧ b < w.heap.size ∧ ∀ j, j < 2 → w.cell? ⟨b, off + (i * 2 + j), none⟩ = (css20.getD i [])[j]?) := z20
  have G20 : Hid (All2 (ReK P2 w) css20 y.cs) := HH20
  clear HH20 hh20 le20
  have R21 : Hid (∀ i, i < y.rs.length → ∃ b off, a21 = some ⟨b, off, none⟩ ∧ b < w.heap.size ∧ ∀ j, j < 3 → w.cell? ⟨b, off + (i * 3 + j), none⟩ = (css21.getD i [])[j]?) := z21
  have G21 : Hid (All2 (ReR P2 w) css21 y.rs) := HH21
  clear HH21 hh21 le21
  obtain ⟨A, hA⟩ : ∃ A, A = decide (x = y) := ⟨_, rfl⟩
  rw [← hA]
  have HA : Hid (A = decide (x = y)) := hA
  clear hA z10 r10 z11 r11 z20 r20 z21 r21
  by_cases hcs : ¬ (x.cs.length = y.cs.length)
  · have hzcs : ((x.cs.length : Int) == y.cs.length) = false := by rw [beq_eq_false_iff_ne]; omega
    have HN : Hid (A = false) := by show _ = _; rw [HA.out]; exact decide_eq_false (fun e => hcs (by rw [e]))
    clear HA hcs
    go_enter Tryz.func7, Tryz.ntmps7
    go_wp2
    go_ret
    exact ⟨ret_bool HN.out.symm, bxn2t _ _ _⟩
  replace hcs := Classical.not_not.1 hcs
  rw [← hcs] at l20 ⊢
  have Hcs : Hid (x.cs.length = y.cs.length) := hcs
  clear hcs
  by_cases hrs : ¬ (x.rs.length = y.rs.length)
  · have hzrs : ((x.rs.length : Int) == y.rs.length) = false := by rw [beq_eq_false_iff_ne]; omega
    have HN : Hid (A = false) := by show _ = _; rw [HA.out]; exact decide_eq_false (fun e => hrs (by rw [e]))
    clear HA hrs
    go_enter Tryz.func7, Tryz.ntmps7
    go_wp2
    go_ret
    exact ⟨ret_bool HN.out.symm, bxn2t _ _ _⟩
  replace hrs := Classical.not_not.1 hrs
  rw [← hrs] at l21 ⊢
  have Hrs : Hid (x.rs.length = y.rs.length) := hrs
  clear hrs
  have hnn0 : (x.cs.length : Int) ≤ 9223372036854775807 := by omega
  have hnn1 : (x.rs.length : Int) ≤ 9223372036854775807 := by omega
  go_enter Tryz.func7, Tryz.ntmps7
  go_wp2
  go_loopw [5] (fun v wr => ∃ i : Nat, v = .int .i64 i ∧ i ≤ x.cs.length ∧ (∀ j, j < i → x.cs.getD j k0 = y.cs.getD j k0) ∧ Below ((w.alloc (.cells #[.slice a10 x.cs.length c10, .slice a11 x.rs.length c11] 26)).alloc (.cells #[.slice a20 x.cs.length c20, .slice a21 x.rs.length c21] 26)).heap.size ((w.alloc (.cells #[.slice a10 x.cs.length c10, .slice a11 x.rs.length c11] 26)).alloc (.cells #[.slice a20 x.cs.length c20, .slice a21 x.rs.length c21] 26)) wr) (fun v _ => (x.cs.length - intOf v).toNat)
  case atStart => exact ⟨0, rfl, Nat.zero_le _, fun j hj => absurd hj (Nat.not_lt_zero _), Below.refl _ _⟩
  case round =>
    obtain ⟨i0Q, rfl, hi0, hall0, hbr0⟩ := hrel
    obtain ⟨wq0, hwq⟩ : ∃ wq, wq = wr := ⟨_, rfl⟩
    subst hwq
    have BW0 : Hid (Below w.heap.size w wq0) := bt (bxn2t _ _ _) hbr0
    have p10 : wq0.cell? ⟨w.heap.size, 0, none⟩ = some (.slice a10 x.cs.length c10) := by rw [hbr0.cell (p := ⟨w.heap.size, 0, none⟩) (by simp <;> omega)]; go_simp
    have p11 : wq0.cell? ⟨w.heap.size, 1, none⟩ = some (.slice a11 x.rs.length c11) := by rw [hbr0.cell (p := ⟨w.heap.size, 1, none⟩) (by simp <;> omega)]; go_simp
    have p20 : wq0.cell? ⟨w.heap.size + 1, 0, none⟩ = some (.slice a20 x.cs.length c20) := by rw [hbr0.cell (p := ⟨w.heap.size + 1, 0, none⟩) (by simp <;> omega)]; go_simp
    have p21 : wq0.cell? ⟨w.heap.size + 1, 1, none⟩ = some (.slice a21 x.rs.length c21) := by rw [hbr0.cell (p := ⟨w.heap.size + 1, 1, none⟩) (by simp <;> omega)]; go_simp
    by_cases hlt0 : i0Q < x.cs.length
    · have hiz : (i0Q : Int) < x.cs.length := by omega
      obtain ⟨b1, o1, rfl, hb1, q1⟩ := R10.out i0Q hlt0
      obtain ⟨b2, o2, rfl, hb2, q2⟩ := R20.out i0Q (by have := Hcs.out; omega)
      have e1 := G10.out.at i0Q [] k0 hlt0
      have e2 := G20.out.at i0Q [] k0 (by have := Hcs.out; omega)
      by_cases heq : x.cs.getD i0Q k0 = y.cs.getD i0Q k0
      · have HALL : Hid (∀ j, j < i0Q + 1 → x.cs.getD j k0 = y.cs.getD j k0) := fun j hj => by
          rcases Nat.lt_or_ge j i0Q with h | h
          · exact hall0 j h
          · obtain rfl : j = i0Q := by omega
            exact heq
        generalize x.cs.getD i0Q k0 = x' at *
        generalize y.cs.getD i0Q k0 = y' at *
        subst heq
        have e1' := e1
        have e2' := e2
        obtain ⟨u1, ec1, ku1⟩ := e1
        obtain ⟨t1, ec2, kt1⟩ := e2
        rw [ec1] at q1 e1'
        rw [ec2] at q2 e2'
        have SL : Hid (∀ W, Below wq0.heap.size wq0 W → (W.cell? ⟨b1, o1 + i0Q * 2, none⟩ = some (.string (st x'.nm)) ∧ W.cell? ⟨b1, o1 + i0Q * 2 + 1, none⟩ = some (u1)) ∧ (W.cell? ⟨b2, o2 + i0Q * 2, none⟩ = some (.string (st x'.nm)) ∧ W.cell? ⟨b2, o2 + i0Q * 2 + 1, none⟩ = some (t1)) ∧ W.cell? ⟨w.heap.size, 0, none⟩ = some (.slice (some ⟨b1, o1, none⟩) x.cs.length c10) ∧ W.cell? ⟨w.heap.size, 1, none⟩ = some (.slice a11 x.rs.length c11) ∧ W.cell? ⟨w.heap.size + 1, 0, none⟩ = some (.slice (some ⟨b2, o2, none⟩) x.cs.length c20) ∧ W.cell? ⟨w.heap.size + 1, 1, none⟩ = some (.slice a21 x.rs.length c21)) := fun W hW => ⟨⟨((bt BW0.out hW).cell (p := ⟨b1, o1 + i0Q * 2, none⟩) hb1).trans (q1 0 (by decide)), ((bt BW0.out hW).cell (p := ⟨b1, o1 + i0Q * 2 + 1, none⟩) hb1).trans (q1 1 (by decide))⟩, ⟨((bt BW0.out hW).cell (p := ⟨b2, o2 + i0Q * 2, none⟩) hb2).trans (q2 0 (by decide)), ((bt BW0.out hW).cell (p := ⟨b2, o2 + i0Q * 2 + 1, none⟩) hb2).trans (q2 1 (by decide))⟩, (hW.cell (p := ⟨w.heap.size, 0, none⟩) (by have := hbr0.size; simp at this; show w.heap.size < _; omega)).trans p10, (hW.cell (p := ⟨w.heap.size, 1, none⟩) (by have := hbr0.size; simp at this; show w.heap.size < _; omega)).trans p11, (hW.cell (p := ⟨w.heap.size + 1, 0, none⟩) (by have := hbr0.size; simp at this; show w.heap.size + 1 < _; omega)).trans p20, (hW.cell (p := ⟨w.heap.size + 1, 1, none⟩) (by have := hbr0.size; simp at this; show w.heap.size + 1 < _; omega)).trans p21⟩
        have CC : ∀ W, Below wq0.heap.size wq0 W → Calls Tryz.prog 15 #[.agg #[.string (st x'.nm), u1], .agg #[.string (st x'.nm), t1]] W fun e w' => e = .returned (.bool true) ∧ Below W.heap.size W w' := fun W hW => (sameClass_any _ _ x' x' W (e1'.keep (Stays.below (bt BW0.out hW))) (e2'.keep (Stays.below (bt BW0.out hW)))).mono (by rintro e w' ⟨rfl, hb⟩; exact ⟨by rw [decide_eq_true rfl], hb⟩); clear e1' e2' ec1 ec2 ku1 kt1
        clear q1 q2 hall0
        go_wp2_with fail
        refine wp_region_noPanic ?_
        refine name_ops ?_
        intro O QQ HO HQ
        refine wp_region_held_drew (S := fun W => Below wq0.heap.size wq0 W) (by kernel_rfl) (Below.refl _ _).drew (fun hS => ?_)
        rw [show O.size = 12 by rw [HO.out]; rfl]
        refine qwt (i := 0) (v := .pointer (some ⟨w.heap.size, 0, none⟩)) HO HQ (by simp only [qa1, qa2, qa3]; rfl) (by kernel_rfl) (by kernel_rfl) (by kernel_rfl) (fun _ _ _ h => h) (Or.inl ⟨by first | rfl | (rw [HO.out]; kernel_rfl), ?_⟩) hS ?_
        · intro w' hSw
          go_simp
        try simp only [Act.put, qb1, qb2, qb3]
        refine qwt (i := 1) (v := .slice (some ⟨b1, o1, none⟩) x.cs.length c10) HO HQ (by simp only [qa1, qa2, qa3]; rfl) (by kernel_rfl) (by kernel_rfl) (by kernel_rfl) (fun _ _ _ h => h) (Or.inl ⟨by first | rfl | (rw [HO.out]; kernel_rfl), ?_⟩) hS ?_
        · intro w' hSw
          obtain ⟨⟨q10, q11⟩, ⟨q20, q21⟩, p10, p11, p20, p21⟩ := SL.out _ hSw
          go_simp
        try simp only [Act.put, qb1, qb2, qb3]
        refine qwt (i := 2) (v := .int .i64 i0Q) HO HQ (by simp only [qa1, qa2, qa3]; rfl) (by kernel_rfl) (by kernel_rfl) (by kernel_rfl) (fun _ _ _ h => h) (Or.inl ⟨by first | rfl | (rw [HO.out]; kernel_rfl), ?_⟩) hS ?_
        · intro w' hSw
          go_simp
        try simp only [Act.put, qb1, qb2, qb3]
        refine qwt (i := 3) (v := .pointer (some ⟨b1, o1 + i0Q * 2, none⟩)) HO HQ (by simp only [qa1, qa2, qa3]; rfl) (by kernel_rfl) (by kernel_rfl) (by kernel_rfl) (fun _ _ _ h => h) (Or.inl ⟨by first | rfl | (rw [HO.out]; kernel_rfl), ?_⟩) hS ?_
        · intro w' hSw
          go_simp
        try simp only [Act.put, qb1, qb2, qb3]
        refine qwt (i := 4) (v := .agg #[.string (st x'.nm), u1]) HO HQ (by simp only [qa1, qa2, qa3]; rfl) (by kernel_rfl) (by kernel_rfl) (by kernel_rfl) (fun _ _ _ h => h) (Or.inl ⟨by first | rfl | (rw [HO.out]; kernel_rfl), ?_⟩) hS ?_
        · intro w' hSw
          obtain ⟨⟨q10, q11⟩, ⟨q20, q21⟩, p10, p11, p20, p21⟩ := SL.out _ hSw
          go_simp
        try simp only [Act.put, qb1, qb2, qb3]
        refine qwt (i := 5) (v := .pointer (some ⟨w.heap.size + 1, 0, none⟩)) HO HQ (by simp only [qa1, qa2, qa3]; rfl) (by kernel_rfl) (by kernel_rfl) (by kernel_rfl) (fun _ _ _ h => h) (Or.inl ⟨by first | rfl | (rw [HO.out]; kernel_rfl), ?_⟩) hS ?_
        · intro w' hSw
          go_simp
        try simp only [Act.put, qb1, qb2, qb3]
        refine qwt (i := 6) (v := .slice (some ⟨b2, o2, none⟩) x.cs.length c20) HO HQ (by simp only [qa1, qa2, qa3]; rfl) (by kernel_rfl) (by kernel_rfl) (by kernel_rfl) (fun _ _ _ h => h) (Or.inl ⟨by first | rfl | (rw [HO.out]; kernel_rfl), ?_⟩) hS ?_
        · intro w' hSw
          obtain ⟨⟨q10, q11⟩, ⟨q20, q21⟩, p10, p11, p20, p21⟩ := SL.out _ hSw
          go_simp
        try simp only [Act.put, qb1, qb2, qb3]
        refine qwt (i := 7) (v := .int .i64 i0Q) HO HQ (by simp only [qa1, qa2, qa3]; rfl) (by kernel_rfl) (by kernel_rfl) (by kernel_rfl) (fun _ _ _ h => h) (Or.inl ⟨by first | rfl | (rw [HO.out]; kernel_rfl), ?_⟩) hS ?_
        · intro w' hSw
          go_simp
        try simp only [Act.put, qb1, qb2, qb3]
        refine qwt (i := 8) (v := .pointer (some ⟨b2, o2 + i0Q * 2, none⟩)) HO HQ (by simp only [qa1, qa2, qa3]; rfl) (by kernel_rfl) (by kernel_rfl) (by kernel_rfl) (fun _ _ _ h => h) (Or.inl ⟨by first | rfl | (rw [HO.out]; kernel_rfl), ?_⟩) hS ?_
        · intro w' hSw
          go_simp
        try simp only [Act.put, qb1, qb2, qb3]
        refine qwt (i := 9) (v := .agg #[.string (st x'.nm), t1]) HO HQ (by simp only [qa1, qa2, qa3]; rfl) (by kernel_rfl) (by kernel_rfl) (by kernel_rfl) (fun _ _ _ h => h) (Or.inl ⟨by first | rfl | (rw [HO.out]; kernel_rfl), ?_⟩) hS ?_
        · intro w' hSw
          obtain ⟨⟨q10, q11⟩, ⟨q20, q21⟩, p10, p11, p20, p21⟩ := SL.out _ hSw
          go_simp
        try simp only [Act.put, qb1, qb2, qb3]
        refine wpAnyH_one (i := 10) (x := 40) (R := fun v _ => v = .bool true) (by rw [HO.out]; simp only [qa1, qa2, qa3]; rfl) (by rw [HO.out]; kernel_rfl) hS ?_ ?_
        · intro K hK
          simp only [Act.put, qb1, qb2, qb3] at hK
          unfold Steps
          rw [if_pos (by rw [HO.out]; kernel_rfl)]
          go_simp
          refine (CC _ hS).mono ?_
          rintro e w9 ⟨rfl, hb9⟩
          exact hK _ _ rfl hb9
        rintro v9 w9 hv9 hb9 hS9
        obtain rfl := hv9
        clear hb9
        replace hS := hS9
        clear hS9
        try simp only [Act.put, qb1, qb2, qb3]
        refine qwt (i := 11) (v := .bool false) HO HQ (by simp only [qa1, qa2, qa3]; rfl) (by kernel_rfl) (by kernel_rfl) (by kernel_rfl) (fun _ _ _ h => h) (Or.inl ⟨by first | rfl | (rw [HO.out]; kernel_rfl), ?_⟩) hS ?_
        · intro w' hSw
          go_simp
        try simp only [Act.put, qb1, qb2, qb3]
        refine wpAnyH_done (by rw [HO.out]; kernel_rfl) ?_ _
        rw [HQ.out]
        refine NoPanic.normal ?_
        go_wp2
        go_roundw
        case rel => exact ⟨i0Q + 1, by simp, by omega, HALL.out, bt hbr0 hS⟩
        case measure => simp [intOf]; omega
      · have HN : Hid (A = false) := by show _ = _; rw [HA.out]; exact decide_eq_false (fun e => heq (by rw [e]))
        generalize x.cs.getD i0Q k0 = x' at *
        generalize y.cs.getD i0Q k0 = y' at *
        have e1' := e1
        have e2' := e2
        obtain ⟨u1, ec1, ku1⟩ := e1
        obtain ⟨t1, ec2, kt1⟩ := e2
        rw [ec1] at q1 e1'
        rw [ec2] at q2 e2'
        have SL : Hid (∀ W, Below wq0.heap.size wq0 W → (W.cell? ⟨b1, o1 + i0Q * 2, none⟩ = some (.string (st x'.nm)) ∧ W.cell? ⟨b1, o1 + i0Q * 2 + 1, none⟩ = some (u1)) ∧ (W.cell? ⟨b2, o2 + i0Q * 2, none⟩ = some (.string (st y'.nm)) ∧ W.cell? ⟨b2, o2 + i0Q * 2 + 1, none⟩ = some (t1)) ∧ W.cell? ⟨w.heap.size, 0, none⟩ = some (.slice (some ⟨b1, o1, none⟩) x.cs.length c10) ∧ W.cell? ⟨w.heap.size, 1, none⟩ = some (.slice a11 x.rs.length c11) ∧ W.cell? ⟨w.heap.size + 1, 0, none⟩ = some (.slice (some ⟨b2, o2, none⟩) x.cs.length c20) ∧ W.cell? ⟨w.heap.size + 1, 1, none⟩ = some (.slice a21 x.rs.length c21)) := fun W hW => ⟨⟨((bt BW0.out hW).cell (p := ⟨b1, o1 + i0Q * 2, none⟩) hb1).trans (q1 0 (by decide)), ((bt BW0.out hW).cell (p := ⟨b1, o1 + i0Q * 2 + 1, none⟩) hb1).trans (q1 1 (by decide))⟩, ⟨((bt BW0.out hW).cell (p := ⟨b2, o2 + i0Q * 2, none⟩) hb2).trans (q2 0 (by decide)), ((bt BW0.out hW).cell (p := ⟨b2, o2 + i0Q * 2 + 1, none⟩) hb2).trans (q2 1 (by decide))⟩, (hW.cell (p := ⟨w.heap.size, 0, none⟩) (by have := hbr0.size; simp at this; show w.heap.size < _; omega)).trans p10, (hW.cell (p := ⟨w.heap.size, 1, none⟩) (by have := hbr0.size; simp at this; show w.heap.size < _; omega)).trans p11, (hW.cell (p := ⟨w.heap.size + 1, 0, none⟩) (by have := hbr0.size; simp at this; show w.heap.size + 1 < _; omega)).trans p20, (hW.cell (p := ⟨w.heap.size + 1, 1, none⟩) (by have := hbr0.size; simp at this; show w.heap.size + 1 < _; omega)).trans p21⟩
        have CC : ∀ W, Below wq0.heap.size wq0 W → Calls Tryz.prog 15 #[.agg #[.string (st x'.nm), u1], .agg #[.string (st y'.nm), t1]] W fun e w' => e = .returned (.bool false) ∧ Below W.heap.size W w' := fun W hW => (sameClass_any _ _ x' y' W (e1'.keep (Stays.below (bt BW0.out hW))) (e2'.keep (Stays.below (bt BW0.out hW)))).mono (by rintro e w' ⟨rfl, hb⟩; exact ⟨by rw [decide_eq_false heq], hb⟩); clear e1' e2' ec1 ec2 ku1 kt1
        clear q1 q2 hall0 heq
        go_wp2_with fail
        refine wp_region_noPanic ?_
        refine name_ops ?_
        intro O QQ HO HQ
        refine wp_region_held_drew (S := fun W => Below wq0.heap.size wq0 W) (by kernel_rfl) (Below.refl _ _).drew (fun hS => ?_)
        rw [show O.size = 12 by rw [HO.out]; rfl]
        refine qwt (i := 0) (v := .pointer (some ⟨w.heap.size, 0, none⟩)) HO HQ (by simp only [qa1, qa2, qa3]; rfl) (by kernel_rfl) (by kernel_rfl) (by kernel_rfl) (fun _ _ _ h => h) (Or.inl ⟨by first | rfl | (rw [HO.out]; kernel_rfl), ?_⟩) hS ?_
        · intro w' hSw
          go_simp
        try simp only [Act.put, qb1, qb2, qb3]
        refine qwt (i := 1) (v := .slice (some ⟨b1, o1, none⟩) x.cs.length c10) HO HQ (by simp only [qa1, qa2, qa3]; rfl) (by kernel_rfl) (by kernel_rfl) (by kernel_rfl) (fun _ _ _ h => h) (Or.inl ⟨by first | rfl | (rw [HO.out]; kernel_rfl), ?_⟩) hS ?_
        · intro w' hSw
          obtain ⟨⟨q10, q11⟩, ⟨q20, q21⟩, p10, p11, p20, p21⟩ := SL.out _ hSw
          go_simp
        try simp only [Act.put, qb1, qb2, qb3]
        refine qwt (i := 2) (v := .int .i64 i0Q) HO HQ (by simp only [qa1, qa2, qa3]; rfl) (by kernel_rfl) (by kernel_rfl) (by kernel_rfl) (fun _ _ _ h => h) (Or.inl ⟨by first | rfl | (rw [HO.out]; kernel_rfl), ?_⟩) hS ?_
        · intro w' hSw
          go_simp
        try simp only [Act.put, qb1, qb2, qb3]
        refine qwt (i := 3) (v := .pointer (some ⟨b1, o1 + i0Q * 2, none⟩)) HO HQ (by simp only [qa1, qa2, qa3]; rfl) (by kernel_rfl) (by kernel_rfl) (by kernel_rfl) (fun _ _ _ h => h) (Or.inl ⟨by first | rfl | (rw [HO.out]; kernel_rfl), ?_⟩) hS ?_
        · intro w' hSw
          go_simp
        try simp only [Act.put, qb1, qb2, qb3]
        refine qwt (i := 4) (v := .agg #[.string (st x'.nm), u1]) HO HQ (by simp only [qa1, qa2, qa3]; rfl) (by kernel_rfl) (by kernel_rfl) (by kernel_rfl) (fun _ _ _ h => h) (Or.inl ⟨by first | rfl | (rw [HO.out]; kernel_rfl), ?_⟩) hS ?_
        · intro w' hSw
          obtain ⟨⟨q10, q11⟩, ⟨q20, q21⟩, p10, p11, p20, p21⟩ := SL.out _ hSw
          go_simp
        try simp only [Act.put, qb1, qb2, qb3]
        refine qwt (i := 5) (v := .pointer (some ⟨w.heap.size + 1, 0, none⟩)) HO HQ (by simp only [qa1, qa2, qa3]; rfl) (by kernel_rfl) (by kernel_rfl) (by kernel_rfl) (fun _ _ _ h => h) (Or.inl ⟨by first | rfl | (rw [HO.out]; kernel_rfl), ?_⟩) hS ?_
        · intro w' hSw
          go_simp
        try simp only [Act.put, qb1, qb2, qb3]
        refine qwt (i := 6) (v := .slice (some ⟨b2, o2, none⟩) x.cs.length c20) HO HQ (by simp only [qa1, qa2, qa3]; rfl) (by kernel_rfl) (by kernel_rfl) (by kernel_rfl) (fun _ _ _ h => h) (Or.inl ⟨by first | rfl | (rw [HO.out]; kernel_rfl), ?_⟩) hS ?_
        · intro w' hSw
          obtain ⟨⟨q10, q11⟩, ⟨q20, q21⟩, p10, p11, p20, p21⟩ := SL.out _ hSw
          go_simp
        try simp only [Act.put, qb1, qb2, qb3]
        refine qwt (i := 7) (v := .int .i64 i0Q) HO HQ (by simp only [qa1, qa2, qa3]; rfl) (by kernel_rfl) (by kernel_rfl) (by kernel_rfl) (fun _ _ _ h => h) (Or.inl ⟨by first | rfl | (rw [HO.out]; kernel_rfl), ?_⟩) hS ?_
        · intro w' hSw
          go_simp
        try simp only [Act.put, qb1, qb2, qb3]
        refine qwt (i := 8) (v := .pointer (some ⟨b2, o2 + i0Q * 2, none⟩)) HO HQ (by simp only [qa1, qa2, qa3]; rfl) (by kernel_rfl) (by kernel_rfl) (by kernel_rfl) (fun _ _ _ h => h) (Or.inl ⟨by first | rfl | (rw [HO.out]; kernel_rfl), ?_⟩) hS ?_
        · intro w' hSw
          go_simp
        try simp only [Act.put, qb1, qb2, qb3]
        refine qwt (i := 9) (v := .agg #[.string (st y'.nm), t1]) HO HQ (by simp only [qa1, qa2, qa3]; rfl) (by kernel_rfl) (by kernel_rfl) (by kernel_rfl) (fun _ _ _ h => h) (Or.inl ⟨by first | rfl | (rw [HO.out]; kernel_rfl), ?_⟩) hS ?_
        · intro w' hSw
          obtain ⟨⟨q10, q11⟩, ⟨q20, q21⟩, p10, p11, p20, p21⟩ := SL.out _ hSw
          go_simp
        try simp only [Act.put, qb1, qb2, qb3]
        refine wpAnyH_one (i := 10) (x := 40) (R := fun v _ => v = .bool false) (by rw [HO.out]; simp only [qa1, qa2, qa3]; rfl) (by rw [HO.out]; kernel_rfl) hS ?_ ?_
        · intro K hK
          simp only [Act.put, qb1, qb2, qb3] at hK
          unfold Steps
          rw [if_pos (by rw [HO.out]; kernel_rfl)]
          go_simp
          refine (CC _ hS).mono ?_
          rintro e w9 ⟨rfl, hb9⟩
          exact hK _ _ rfl hb9
        rintro v9 w9 hv9 hb9 hS9
        obtain rfl := hv9
        clear hb9
        replace hS := hS9
        clear hS9
        try simp only [Act.put, qb1, qb2, qb3]
        refine qwt (i := 11) (v := .bool true) HO HQ (by simp only [qa1, qa2, qa3]; rfl) (by kernel_rfl) (by kernel_rfl) (by kernel_rfl) (fun _ _ _ h => h) (Or.inl ⟨by first | rfl | (rw [HO.out]; kernel_rfl), ?_⟩) hS ?_
        · intro w' hSw
          go_simp
        try simp only [Act.put, qb1, qb2, qb3]
        refine wpAnyH_done (by rw [HO.out]; kernel_rfl) ?_ _
        rw [HQ.out]
        refine NoPanic.normal ?_
        go_wp2
        go_ret
        exact ⟨ret_bool HN.out.symm, bt BW0.out hS⟩
    · have hiz : ¬ (i0Q : Int) < x.cs.length := by omega
      have E0 : Hid (x.cs = y.cs) := eq_go k0 Hcs.out hall0 (by omega)
      clear hall0
      go_wp2_with fail
      go_loopw [6] (fun v wr => ∃ i : Nat, v = .int .i64 i ∧ i ≤ x.rs.length ∧ (∀ j, j < i → x.rs.getD j ru0 = y.rs.getD j ru0) ∧ Below ((w.alloc (.cells #[.slice a10 x.cs.length c10, .slice a11 x.rs.length c11] 26)).alloc (.cells #[.slice a20 x.cs.length c20, .slice a21 x.rs.length c21] 26)).heap.size ((w.alloc (.cells #[.slice a10 x.cs.length c10, .slice a11 x.rs.length c11] 26)).alloc (.cells #[.slice a20 x.cs.length c20, .slice a21 x.rs.length c21] 26)) wr) (fun v _ => (x.rs.length - intOf v).toNat)
      case atStart => exact ⟨0, rfl, Nat.zero_le _, fun j hj => absurd hj (Nat.not_lt_zero _), hbr0⟩
      case round =>
        obtain ⟨i1, rfl, hi1, hall1, hbr1⟩ := hrel
        obtain ⟨wq1, hwq⟩ : ∃ wq, wq = wr := ⟨_, rfl⟩
        subst hwq
        have BW1 : Hid (Below w.heap.size w wq1) := bt (bxn2t _ _ _) hbr1
        have p10 : wq1.cell? ⟨w.heap.size, 0, none⟩ = some (.slice a10 x.cs.length c10) := by rw [hbr1.cell (p := ⟨w.heap.size, 0, none⟩) (by simp <;> omega)]; go_simp
        have p11 : wq1.cell? ⟨w.heap.size, 1, none⟩ = some (.slice a11 x.rs.length c11) := by rw [hbr1.cell (p := ⟨w.heap.size, 1, none⟩) (by simp <;> omega)]; go_simp
        have p20 : wq1.cell? ⟨w.heap.size + 1, 0, none⟩ = some (.slice a20 x.cs.length c20) := by rw [hbr1.cell (p := ⟨w.heap.size + 1, 0, none⟩) (by simp <;> omega)]; go_simp
        have p21 : wq1.cell? ⟨w.heap.size + 1, 1, none⟩ = some (.slice a21 x.rs.length c21) := by rw [hbr1.cell (p := ⟨w.heap.size + 1, 1, none⟩) (by simp <;> omega)]; go_simp
        by_cases hlt1 : i1 < x.rs.length
        · have hiz : (i1 : Int) < x.rs.length := by omega
          obtain ⟨b1, o1, rfl, hb1, q1⟩ := R11.out i1 hlt1
          obtain ⟨b2, o2, rfl, hb2, q2⟩ := R21.out i1 (by have := Hrs.out; omega)
          have e1 := G11.out.at i1 [] ru0 hlt1
          have e2 := G21.out.at i1 [] ru0 (by have := Hrs.out; omega)
          by_cases heq : x.rs.getD i1 ru0 = y.rs.getD i1 ru0
          · have HALL : Hid (∀ j, j < i1 + 1 → x.rs.getD j ru0 = y.rs.getD j ru0) := fun j hj => by
              rcases Nat.lt_or_ge j i1 with h | h
              · exact hall1 j h
              · obtain rfl : j = i1 := by omega
                exact heq
            generalize x.rs.getD i1 ru0 = x' at *
            generalize y.rs.getD i1 ru0 = y' at *
            subst heq
            have e1' := e1
            have e2' := e2
            obtain ⟨u1, u2, ec1, ku1, ku2⟩ := e1
            obtain ⟨t1, t2, ec2, kt1, kt2⟩ := e2
            rw [ec1] at q1 e1'
            rw [ec2] at q2 e2'
            have SL : Hid (∀ W, Below wq1.heap.size wq1 W → (W.cell? ⟨b1, o1 + i1 * 3, none⟩ = some (.string (st x'.nm)) ∧ W.cell? ⟨b1, o1 + i1 * 3 + 1, none⟩ = some (u1) ∧ W.cell? ⟨b1, o1 + i1 * 3 + 2, none⟩ = some (u2)) ∧ (W.cell? ⟨b2, o2 + i1 * 3, none⟩ = some (.string (st x'.nm)) ∧ W.cell? ⟨b2, o2 + i1 * 3 + 1, none⟩ = some (t1) ∧ W.cell? ⟨b2, o2 + i1 * 3 + 2, none⟩ = some (t2)) ∧ W.cell? ⟨w.heap.size, 0, none⟩ = some (.slice a10 x.cs.length c10) ∧ W.cell? ⟨w.heap.size, 1, none⟩ = some (.slice (some ⟨b1, o1, none⟩) x.rs.length c11) ∧ W.cell? ⟨w.heap.size + 1, 0, none⟩ = some (.slice a20 x.cs.length c20) ∧ W.cell? ⟨w.heap.size + 1, 1, none⟩ = some (.slice (some ⟨b2, o2, none⟩) x.rs.length c21)) := fun W hW => ⟨⟨((bt BW1.out hW).cell (p := ⟨b1, o1 + i1 * 3, none⟩) hb1).trans (q1 0 (by decide)), ((bt BW1.out hW).cell (p := ⟨b1, o1 + i1 * 3 + 1, none⟩) hb1).trans (q1 1 (by decide)), ((bt BW1.out hW).cell (p := ⟨b1, o1 + i1 * 3 + 2, none⟩) hb1).trans (q1 2 (by decide))⟩, ⟨((bt BW1.out hW).cell (p := ⟨b2, o2 + i1 * 3, none⟩) hb2).trans (q2 0 (by decide)), ((bt BW1.out hW).cell (p := ⟨b2, o2 + i1 * 3 + 1, none⟩) hb2).trans (q2 1 (by decide)), ((bt BW1.out hW).cell (p := ⟨b2, o2 + i1 * 3 + 2, none⟩) hb2).trans (q2 2 (by decide))⟩, (hW.cell (p := ⟨w.heap.size, 0, none⟩) (by have := hbr1.size; simp at this; show w.heap.size < _; omega)).trans p10, (hW.cell (p := ⟨w.heap.size, 1, none⟩) (by have := hbr1.size; simp at this; show w.heap.size < _; omega)).trans p11, (hW.cell (p := ⟨w.heap.size + 1, 0, none⟩) (by have := hbr1.size; simp at this; show w.heap.size + 1 < _; omega)).trans p20, (hW.cell (p := ⟨w.heap.size + 1, 1, none⟩) (by have := hbr1.size; simp at this; show w.heap.size + 1 < _; omega)).trans p21⟩
            have CC : ∀ W, Below wq1.heap.size wq1 W → Calls Tryz.prog 16 #[.agg #[.string (st x'.nm), u1, u2], .agg #[.string (st x'.nm), t1, t2]] W fun e w' => e = .returned (.bool true) ∧ Below W.heap.size W w' := fun W hW => (sameRule_any _ _ x' x' W (e1'.keep (Stays.below (bt BW1.out hW))) (e2'.keep (Stays.below (bt BW1.out hW)))).mono (by rintro e w' ⟨rfl, hb⟩; exact ⟨by rw [decide_eq_true rfl], hb⟩); clear e1' e2' ec1 ec2 ku1 kt1 ku2 kt2
            clear q1 q2 hall1
            go_wp2_with fail
            refine wp_region_noPanic ?_
            refine name_ops ?_
            intro O QQ HO HQ
            refine wp_region_held_drew (S := fun W => Below wq1.heap.size wq1 W) (by kernel_rfl) (Below.refl _ _).drew (fun hS => ?_)
            rw [show O.size = 12 by rw [HO.out]; rfl]
            refine qwt (i := 0) (v := .pointer (some ⟨w.heap.size, 1, none⟩)) HO HQ (by simp only [qa1, qa2, qa3]; rfl) (by kernel_rfl) (by kernel_rfl) (by kernel_rfl) (fun _ _ _ h => h) (Or.inl ⟨by first | rfl | (rw [HO.out]; kernel_rfl), ?_⟩) hS ?_
            · intro w' hSw
              go_simp
            try simp only [Act.put, qb1, qb2, qb3]
            refine qwt (i := 1) (v := .slice (some ⟨b1, o1, none⟩) x.rs.length c11) HO HQ (by simp only [qa1, qa2, qa3]; rfl) (by kernel_rfl) (by kernel_rfl) (by kernel_rfl) (fun _ _ _ h => h) (Or.inl ⟨by first | rfl | (rw [HO.out]; kernel_rfl), ?_⟩) hS ?_
            · intro w' hSw
              obtain ⟨⟨q10, q11, q12⟩, ⟨q20, q21, q22⟩, p10, p11, p20, p21⟩ := SL.out _ hSw
              go_simp
            try simp only [Act.put, qb1, qb2, qb3]
            refine qwt (i := 2) (v := .int .i64 i1) HO HQ (by simp only [qa1, qa2, qa3]; rfl) (by kernel_rfl) (by kernel_rfl) (by kernel_rfl) (fun _ _ _ h => h) (Or.inl ⟨by first | rfl | (rw [HO.out]; kernel_rfl), ?_⟩) hS ?_
            · intro w' hSw
              go_simp
            try simp only [Act.put, qb1, qb2, qb3]
            refine qwt (i := 3) (v := .pointer (some ⟨b1, o1 + i1 * 3, none⟩)) HO HQ (by simp only [qa1, qa2, qa3]; rfl) (by kernel_rfl) (by kernel_rfl) (by kernel_rfl) (fun _ _ _ h => h) (Or.inl ⟨by first | rfl | (rw [HO.out]; kernel_rfl), ?_⟩) hS ?_
            · intro w' hSw
              go_simp
            try simp only [Act.put, qb1, qb2, qb3]
            refine qwt (i := 4) (v := .agg #[.string (st x'.nm), u1, u2]) HO HQ (by simp only [qa1, qa2, qa3]; rfl) (by kernel_rfl) (by kernel_rfl) (by kernel_rfl) (fun _ _ _ h => h) (Or.inl ⟨by first | rfl | (rw [HO.out]; kernel_rfl), ?_⟩) hS ?_
            · intro w' hSw
              obtain ⟨⟨q10, q11, q12⟩, ⟨q20, q21, q22⟩, p10, p11, p20, p21⟩ := SL.out _ hSw
              go_simp
            try simp only [Act.put, qb1, qb2, qb3]
            refine qwt (i := 5) (v := .pointer (some ⟨w.heap.size + 1, 1, none⟩)) HO HQ (by simp only [qa1, qa2, qa3]; rfl) (by kernel_rfl) (by kernel_rfl) (by kernel_rfl) (fun _ _ _ h => h) (Or.inl ⟨by first | rfl | (rw [HO.out]; kernel_rfl), ?_⟩) hS ?_
            · intro w' hSw
              go_simp
            try simp only [Act.put, qb1, qb2, qb3]
            refine qwt (i := 6) (v := .slice (some ⟨b2, o2, none⟩) x.rs.length c21) HO HQ (by simp only [qa1, qa2, qa3]; rfl) (by kernel_rfl) (by kernel_rfl) (by kernel_rfl) (fun _ _ _ h => h) (Or.inl ⟨by first | rfl | (rw [HO.out]; kernel_rfl), ?_⟩) hS ?_
            · intro w' hSw
              obtain ⟨⟨q10, q11, q12⟩, ⟨q20, q21, q22⟩, p10, p11, p20, p21⟩ := SL.out _ hSw
              go_simp
            try simp only [Act.put, qb1, qb2, qb3]
            refine qwt (i := 7) (v := .int .i64 i1) HO HQ (by simp only [qa1, qa2, qa3]; rfl) (by kernel_rfl) (by kernel_rfl) (by kernel_rfl) (fun _ _ _ h => h) (Or.inl ⟨by first | rfl | (rw [HO.out]; kernel_rfl), ?_⟩) hS ?_
            · intro w' hSw
              go_simp
            try simp only [Act.put, qb1, qb2, qb3]
            refine qwt (i := 8) (v := .pointer (some ⟨b2, o2 + i1 * 3, none⟩)) HO HQ (by simp only [qa1, qa2, qa3]; rfl) (by kernel_rfl) (by kernel_rfl) (by kernel_rfl) (fun _ _ _ h => h) (Or.inl ⟨by first | rfl | (rw [HO.out]; kernel_rfl), ?_⟩) hS ?_
            · intro w' hSw
              go_simp
            try simp only [Act.put, qb1, qb2, qb3]
            refine qwt (i := 9) (v := .agg #[.string (st x'.nm), t1, t2]) HO HQ (by simp only [qa1, qa2, qa3]; rfl) (by kernel_rfl) (by kernel_rfl) (by kernel_rfl) (fun _ _ _ h => h) (Or.inl ⟨by first | rfl | (rw [HO.out]; kernel_rfl), ?_⟩) hS ?_
            · intro w' hSw
              obtain ⟨⟨q10, q11, q12⟩, ⟨q20, q21, q22⟩, p10, p11, p20, p21⟩ := SL.out _ hSw
              go_simp
            try simp only [Act.put, qb1, qb2, qb3]
            refine wpAnyH_one (i := 10) (x := 59) (R := fun v _ => v = .bool true) (by rw [HO.out]; simp only [qa1, qa2, qa3]; rfl) (by rw [HO.out]; kernel_rfl) hS ?_ ?_
            · intro K hK
              simp only [Act.put, qb1, qb2, qb3] at hK
              unfold Steps
              rw [if_pos (by rw [HO.out]; kernel_rfl)]
              go_simp
              refine (CC _ hS).mono ?_
              rintro e w9 ⟨rfl, hb9⟩
              exact hK _ _ rfl hb9
            rintro v9 w9 hv9 hb9 hS9
            obtain rfl := hv9
            clear hb9
            replace hS := hS9
            clear hS9
            try simp only [Act.put, qb1, qb2, qb3]
            refine qwt (i := 11) (v := .bool false) HO HQ (by simp only [qa1, qa2, qa3]; rfl) (by kernel_rfl) (by kernel_rfl) (by kernel_rfl) (fun _ _ _ h => h) (Or.inl ⟨by first | rfl | (rw [HO.out]; kernel_rfl), ?_⟩) hS ?_
            · intro w' hSw
              go_simp
            try simp only [Act.put, qb1, qb2, qb3]
            refine wpAnyH_done (by rw [HO.out]; kernel_rfl) ?_ _
            rw [HQ.out]
            refine NoPanic.normal ?_
            go_wp2
            go_roundw
            case rel => exact ⟨i1 + 1, by simp, by omega, HALL.out, bt hbr1 hS⟩
            case measure => simp [intOf]; omega
          · have HN : Hid (A = false) := by show _ = _; rw [HA.out]; exact decide_eq_false (fun e => heq (by rw [e]))
            generalize x.rs.getD i1 ru0 = x' at *
            generalize y.rs.getD i1 ru0 = y' at *
            have e1' := e1
            have e2' := e2
            obtain ⟨u1, u2, ec1, ku1, ku2⟩ := e1
            obtain ⟨t1, t2, ec2, kt1, kt2⟩ := e2
            rw [ec1] at q1 e1'
            rw [ec2] at q2 e2'
            have SL : Hid (∀ W, Below wq1.heap.size wq1 W → (W.cell? ⟨b1, o1 + i1 * 3, none⟩ = some (.string (st x'.nm)) ∧ W.cell? ⟨b1, o1 + i1 * 3 + 1, none⟩ = some (u1) ∧ W.cell? ⟨b1, o1 + i1 * 3 + 2, none⟩ = some (u2)) ∧ (W.cell? ⟨b2, o2 + i1 * 3, none⟩ = some (.string (st y'.nm)) ∧ W.cell? ⟨b2, o2 + i1 * 3 + 1, none⟩ = some (t1) ∧ W.cell? ⟨b2, o2 + i1 * 3 + 2, none⟩ = some (t2)) ∧ W.cell? ⟨w.heap.size, 0, none⟩ = some (.slice a10 x.cs.length c10) ∧ W.cell? ⟨w.heap.size, 1, none⟩ = some (.slice (some ⟨b1, o1, none⟩) x.rs.length c11) ∧ W.cell? ⟨w.heap.size + 1, 0, none⟩ = some (.slice a20 x.cs.length c20) ∧ W.cell? ⟨w.heap.size + 1, 1, none⟩ = some (.slice (some ⟨b2, o2, none⟩) x.rs.length c21)) := fun W hW => ⟨⟨((bt BW1.out hW).cell (p := ⟨b1, o1 + i1 * 3, none⟩) hb1).trans (q1 0 (by decide)), ((bt BW1.out hW).cell (p := ⟨b1, o1 + i1 * 3 + 1, none⟩) hb1).trans (q1 1 (by decide)), ((bt BW1.out hW).cell (p := ⟨b1, o1 + i1 * 3 + 2, none⟩) hb1).trans (q1 2 (by decide))⟩, ⟨((bt BW1.out hW).cell (p := ⟨b2, o2 + i1 * 3, none⟩) hb2).trans (q2 0 (by decide)), ((bt BW1.out hW).cell (p := ⟨b2, o2 + i1 * 3 + 1, none⟩) hb2).trans (q2 1 (by decide)), ((bt BW1.out hW).cell (p := ⟨b2, o2 + i1 * 3 + 2, none⟩) hb2).trans (q2 2 (by decide))⟩, (hW.cell (p := ⟨w.heap.size, 0, none⟩) (by have := hbr1.size; simp at this; show w.heap.size < _; omega)).trans p10, (hW.cell (p := ⟨w.heap.size, 1, none⟩) (by have := hbr1.size; simp at this; show w.heap.size < _; omega)).trans p11, (hW.cell (p := ⟨w.heap.size + 1, 0, none⟩) (by have := hbr1.size; simp at this; show w.heap.size + 1 < _; omega)).trans p20, (hW.cell (p := ⟨w.heap.size + 1, 1, none⟩) (by have := hbr1.size; simp at this; show w.heap.size + 1 < _; omega)).trans p21⟩
            have CC : ∀ W, Below wq1.heap.size wq1 W → Calls Tryz.prog 16 #[.agg #[.string (st x'.nm), u1, u2], .agg #[.string (st y'.nm), t1, t2]] W fun e w' => e = .returned (.bool false) ∧ Below W.heap.size W w' := fun W hW => (sameRule_any _ _ x' y' W (e1'.keep (Stays.below (bt BW1.out hW))) (e2'.keep (Stays.below (bt BW1.out hW)))).mono (by rintro e w' ⟨rfl, hb⟩; exact ⟨by rw [decide_eq_false heq], hb⟩); clear e1' e2' ec1 ec2 ku1 kt1 ku2 kt2
            clear q1 q2 hall1 heq
            go_wp2_with fail
            refine wp_region_noPanic ?_
            refine name_ops ?_
            intro O QQ HO HQ
            refine wp_region_held_drew (S := fun W => Below wq1.heap.size wq1 W) (by kernel_rfl) (Below.refl _ _).drew (fun hS => ?_)
            rw [show O.size = 12 by rw [HO.out]; rfl]
            refine qwt (i := 0) (v := .pointer (some ⟨w.heap.size, 1, none⟩)) HO HQ (by simp only [qa1, qa2, qa3]; rfl) (by kernel_rfl) (by kernel_rfl) (by kernel_rfl) (fun _ _ _ h => h) (Or.inl ⟨by first | rfl | (rw [HO.out]; kernel_rfl), ?_⟩) hS ?_
            · intro w' hSw
              go_simp
            try simp only [Act.put, qb1, qb2, qb3]
            refine qwt (i := 1) (v := .slice (some ⟨b1, o1, none⟩) x.rs.length c11) HO HQ (by simp only [qa1, qa2, qa3]; rfl) (by kernel_rfl) (by kernel_rfl) (by kernel_rfl) (fun _ _ _ h => h) (Or.inl ⟨by first | rfl | (rw [HO.out]; kernel_rfl), ?_⟩) hS ?_
            · intro w' hSw
              obtain ⟨⟨q10, q11, q12⟩, ⟨q20, q21, q22⟩, p10, p11, p20, p21⟩ := SL.out _ hSw
              go_simp
            try simp only [Act.put, qb1, qb2, qb3]
            refine qwt (i := 2) (v := .int .i64 i1) HO HQ (by simp only [qa1, qa2, qa3]; rfl) (by kernel_rfl) (by kernel_rfl) (by kernel_rfl) (fun _ _ _ h => h) (Or.inl ⟨by first | rfl | (rw [HO.out]; kernel_rfl), ?_⟩) hS ?_
            · intro w' hSw
              go_simp
            try simp only [Act.put, qb1, qb2, qb3]
            refine qwt (i := 3) (v := .pointer (some ⟨b1, o1 + i1 * 3, none⟩)) HO HQ (by simp only [qa1, qa2, qa3]; rfl) (by kernel_rfl) (by kernel_rfl) (by kernel_rfl) (fun _ _ _ h => h) (Or.inl ⟨by first | rfl | (rw [HO.out]; kernel_rfl), ?_⟩) hS ?_
            · intro w' hSw
              go_simp
            try simp only [Act.put, qb1, qb2, qb3]
            refine qwt (i := 4) (v := .agg #[.string (st x'.nm), u1, u2]) HO HQ (by simp only [qa1, qa2, qa3]; rfl) (by kernel_rfl) (by kernel_rfl) (by kernel_rfl) (fun _ _ _ h => h) (Or.inl ⟨by first | rfl | (rw [HO.out]; kernel_rfl), ?_⟩) hS ?_
            · intro w' hSw
              obtain ⟨⟨q10, q11, q12⟩, ⟨q20, q21, q22⟩, p10, p11, p20, p21⟩ := SL.out _ hSw
              go_simp
            try simp only [Act.put, qb1, qb2, qb3]
            refine qwt (i := 5) (v := .pointer (some ⟨w.heap.size + 1, 1, none⟩)) HO HQ (by simp only [qa1, qa2, qa3]; rfl) (by kernel_rfl) (by kernel_rfl) (by kernel_rfl) (fun _ _ _ h => h) (Or.inl ⟨by first | rfl | (rw [HO.out]; kernel_rfl), ?_⟩) hS ?_
            · intro w' hSw
              go_simp
            try simp only [Act.put, qb1, qb2, qb3]
            refine qwt (i := 6) (v := .slice (some ⟨b2, o2, none⟩) x.rs.length c21) HO HQ (by simp only [qa1, qa2, qa3]; rfl) (by kernel_rfl) (by kernel_rfl) (by kernel_rfl) (fun _ _ _ h => h) (Or.inl ⟨by first | rfl | (rw [HO.out]; kernel_rfl), ?_⟩) hS ?_
            · intro w' hSw
              obtain ⟨⟨q10, q11, q12⟩, ⟨q20, q21, q22⟩, p10, p11, p20, p21⟩ := SL.out _ hSw
              go_simp
            try simp only [Act.put, qb1, qb2, qb3]
            refine qwt (i := 7) (v := .int .i64 i1) HO HQ (by simp only [qa1, qa2, qa3]; rfl) (by kernel_rfl) (by kernel_rfl) (by kernel_rfl) (fun _ _ _ h => h) (Or.inl ⟨by first | rfl | (rw [HO.out]; kernel_rfl), ?_⟩) hS ?_
            · intro w' hSw
              go_simp
            try simp only [Act.put, qb1, qb2, qb3]
            refine qwt (i := 8) (v := .pointer (some ⟨b2, o2 + i1 * 3, none⟩)) HO HQ (by simp only [qa1, qa2, qa3]; rfl) (by kernel_rfl) (by kernel_rfl) (by kernel_rfl) (fun _ _ _ h => h) (Or.inl ⟨by first | rfl | (rw [HO.out]; kernel_rfl), ?_⟩) hS ?_
            · intro w' hSw
              go_simp
            try simp only [Act.put, qb1, qb2, qb3]
            refine qwt (i := 9) (v := .agg #[.string (st y'.nm), t1, t2]) HO HQ (by simp only [qa1, qa2, qa3]; rfl) (by kernel_rfl) (by kernel_rfl) (by kernel_rfl) (fun _ _ _ h => h) (Or.inl ⟨by first | rfl | (rw [HO.out]; kernel_rfl), ?_⟩) hS ?_
            · intro w' hSw
              obtain ⟨⟨q10, q11, q12⟩, ⟨q20, q21, q22⟩, p10, p11, p20, p21⟩ := SL.out _ hSw
              go_simp
            try simp only [Act.put, qb1, qb2, qb3]
            refine wpAnyH_one (i := 10) (x := 59) (R := fun v _ => v = .bool false) (by rw [HO.out]; simp only [qa1, qa2, qa3]; rfl) (by rw [HO.out]; kernel_rfl) hS ?_ ?_
            · intro K hK
              simp only [Act.put, qb1, qb2, qb3] at hK
              unfold Steps
              rw [if_pos (by rw [HO.out]; kernel_rfl)]
              go_simp
              refine (CC _ hS).mono ?_
              rintro e w9 ⟨rfl, hb9⟩
              exact hK _ _ rfl hb9
            rintro v9 w9 hv9 hb9 hS9
            obtain rfl := hv9
            clear hb9
            replace hS := hS9
            clear hS9
            try simp only [Act.put, qb1, qb2, qb3]
            refine qwt (i := 11) (v := .bool true) HO HQ (by simp only [qa1, qa2, qa3]; rfl) (by kernel_rfl) (by kernel_rfl) (by kernel_rfl) (fun _ _ _ h => h) (Or.inl ⟨by first | rfl | (rw [HO.out]; kernel_rfl), ?_⟩) hS ?_
            · intro w' hSw
              go_simp
            try simp only [Act.put, qb1, qb2, qb3]
            refine wpAnyH_done (by rw [HO.out]; kernel_rfl) ?_ _
            rw [HQ.out]
            refine NoPanic.normal ?_
            go_wp2
            go_ret
            exact ⟨ret_bool HN.out.symm, bt BW1.out hS⟩
        · have hiz : ¬ (i1 : Int) < x.rs.length := by omega
          have E1 : Hid (x.rs = y.rs) := eq_go ru0 Hrs.out hall1 (by omega)
          clear hall1
          have HN : Hid (A = true) := by
            show _ = _
            rw [HA.out]
            exact decide_eq_true (extProgD (E0.out) (E1.out))
          go_wp2
          go_ret
          exact ⟨ret_bool HN.out.symm, BW1.out⟩
end Go.Proofs.YtemacdimdpnkeaaGreatDoor
