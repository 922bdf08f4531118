/- The program's takeNamed, takeVal: contracts of single calls. -/
import Derived.Test.YtglimefhiggdeaaDoorPt
import Derived.Test.YtglimefhiggdeaaDoorPr
namespace Go.Proofs.YtglimefhiggdeaaDoor
open Go.RowKit
set_option linter.unusedVariables false
set_option linter.unusedSimpArgs false
set_option maxRecDepth 20000

theorem set7 {B : Nat} {w w1 : World} (h : Below B w w1) (b : Nat) (hb : B ≤ b) (x0 x1 x2 x3 x4 x5 x6 : Value) : Below B w (((((((w1.setCell ⟨b, 0, none⟩ x0).setCell ⟨b, 1, none⟩ x1).setCell ⟨b, 2, none⟩ x2).setCell ⟨b, 3, none⟩ x3).setCell ⟨b, 4, none⟩ x4).setCell ⟨b, 5, none⟩ x5).setCell ⟨b, 6, none⟩ x6) :=
  (((((((h.setCell hb _).setCell hb _).setCell hb _).setCell hb _).setCell hb _).setCell hb _).setCell hb _)
set_option maxHeartbeats 4000000 in
theorem tnamed_any (s a b : ByteArray) (k : Int) (w : World) (hs : s.size ≤ 1000000) (ha : a.size ≤ 4) (hb : b.size ≤ 4) (hV : Vars w) :
    Calls Tryd.prog 28 #[.string s, .int .u8 k, .string a, .string b] w fun e w' => e = .returned (tkV (nmL s.data.toList k a.data.toList b.data.toList)) ∧ Below w.heap.size w w' := by
  have CC := fun W => cp_any s a W hs (by omega)
  obtain ⟨A, hA⟩ : ∃ A, A = nmL s.data.toList k a.data.toList b.data.toList := ⟨_, rfl⟩
  rw [← hA]
  have hN := hA
  unfold nmL at hN
  cases hp : preB a.data.toList s.data.toList with
  | false =>
    rw [hp] at CC hN
    rw [if_pos rfl] at hN
    simp only [Bool.false_eq_true, if_false] at CC
    have HE : Hid (A = none) := hN
    clear hN hA hp
    go_enter Tryd.func28, Tryd.ntmps28
    go_wp2_with (first | (go_at_call 42; refine (CC _).mono ?_; rintro e w' ⟨rfl, hw⟩; obtain rfl := hw.symm; clear CC))
    exact bodyPost_ret (v := tkV none) (by simp [results, Tryd.results28, go_sem, tkV, tv, st, tok0] <;> rfl) rfl ⟨by rw [HE.out], bxn _ _⟩
  | true =>
    have hpl := pre_len hp
    rw [lenL, lenL] at hpl
    rw [hp] at CC hN
    rw [if_neg (by simp)] at hN
    simp only [if_true] at CC
    obtain ⟨r, hr⟩ : ∃ r, s.extract a.size s.size = r := ⟨_, rfl⟩
    have hrl : r.data.toList = s.data.toList.drop a.size := by rw [← hr, ext_list]
    have hrs : r.size + a.size = s.size := by rw [← lenL r, hrl, List.length_drop, lenL]; omega
    rw [hr] at CC
    have CR := fun W hv => run_any r W (by omega) hv
    rw [lenL, ← hrl] at hN
    have hRle := runN_le _ r.data.toList (Nat.le_refl _)
    rw [lenL] at hRle
    obtain ⟨R, hR⟩ : ∃ R, runN r.data.toList = R := ⟨_, rfl⟩
    rw [hR] at CR hN hRle
    obtain ⟨nm, hnm⟩ : ∃ nm, r.extract 0 R = nm := ⟨_, rfl⟩
    have hnl : nm.data.toList = r.data.toList.take R := by rw [← hnm, take_list]
    have hns : nm.size = R := by rw [← lenL nm, hnl, List.length_take, lenL]; omega
    rw [hnm] at CR
    by_cases hR0 : R = 0
    · rw [if_pos (.inl hR0)] at hN
      have hne : nm = ByteArray.empty := emp_eq (List.eq_nil_of_length_eq_zero (by rw [lenL]; omega))
      have HE : Hid (A = none) := hN
      clear hN hA hp hrl hnl hnm hR hr
      subst hne
      go_enter Tryd.func28, Tryd.ntmps28
      go_wp2_with (first | (go_at_call 42; refine (CC _).mono ?_; rintro e w' ⟨rfl, hw⟩; obtain rfl := hw.symm; clear CC) | (go_at_call 43; refine (CR _ (hV.below (bxn _ _))).mono ?_; rintro e w1 ⟨rfl, hb1⟩; clear CR; obtain ⟨hc, hf⟩ := bcell hb1; have hz : w.heap.size < w1.heap.size := by { have := hb1.size; simp at this; omega }))
      refine bodyPost_ret (v := tkV none) (by simp [results, Tryd.results28, go_sem, tkV, tv, st, tok0, hc, hz] <;> rfl) rfl ⟨by rw [HE.out], ?_⟩
      exact set7 (up1 hb1) _ (Nat.le_refl _) _ _ _ _ _ _ _
    · have hem : nm.toList.isEmpty = false := emp_ne (fun e => by rw [← lenL, e] at hns; simp at hns; omega)
      obtain ⟨q, hq⟩ : ∃ q, r.extract R r.size = q := ⟨_, rfl⟩
      have hql : q.data.toList = s.data.toList.drop (a.size + R) := by rw [← hq, ext_list, hrl, List.drop_drop]
      have hqs : q.size ≤ 1000000 := by rw [← lenL, hql, List.length_drop, lenL]; omega
      have CP := fun W => hp_any q b W hqs (by omega)
      rw [hql] at CP
      have hRz : (R : Int) ≤ r.size := by omega
      have hnz : (nm.size : Int) = R := by omega
      cases hpb : preB b.data.toList (s.data.toList.drop (a.size + R)) with
      | false =>
        rw [hpb] at CP hN
        rw [if_pos (.inr rfl)] at hN
        have HE : Hid (A = none) := hN
        clear hN hA hp hrl hnl hnm hR hr hql hpb
        go_enter Tryd.func28, Tryd.ntmps28
        go_wp2_with (first | (go_at_call 42; refine (CC _).mono ?_; rintro e w' ⟨rfl, hw⟩; obtain rfl := hw.symm; clear CC) | (go_at_call 43; refine (CR _ (hV.below (bxn _ _))).mono ?_; rintro e w1 ⟨rfl, hb1⟩; clear CR; obtain ⟨hc, hf⟩ := bcell hb1; have hz : w.heap.size < w1.heap.size := by { have := hb1.size; simp at this; omega }) | (go_at_call 41; refine (CP _).mono ?_; rintro e w' ⟨rfl, hw⟩; obtain rfl := hw.symm; clear CP))
        refine bodyPost_ret (v := tkV none) (by simp [results, Tryd.results28, go_sem, tkV, tv, st, tok0, hc, hz] <;> rfl) rfl ⟨by rw [HE.out], ?_⟩
        exact set7 (up1 hb1) _ (Nat.le_refl _) _ _ _ _ _ _ _
      | true =>
        rw [hpb] at CP hN
        rw [if_neg (by rintro (h | h); exact hR0 h; cases h), ← hnl, lenL] at hN
        have HE : Hid (tkV A = .tuple #[.agg #[.int .u8 k, .string nm, .int .u8 0, .int .u8 0, .int .i64 0, .string ⟨#[]⟩, .int .i64 0], .int .i64 ((a.size : Int) + R + b.size)]) := by
          show _ = _
          rw [hN]
          unfold tkV tv tokN
          simp only [st_of]
          push_cast
          rfl
        clear hN hA hp hrl hnl hnm hR hr hql hpb
        go_enter Tryd.func28, Tryd.ntmps28
        go_wp2_with (first | (go_at_call 42; refine (CC _).mono ?_; rintro e w' ⟨rfl, hw⟩; obtain rfl := hw.symm; clear CC) | (go_at_call 43; refine (CR _ (hV.below (bxn _ _))).mono ?_; rintro e w1 ⟨rfl, hb1⟩; clear CR; obtain ⟨hc, hf⟩ := bcell hb1; have hz : w.heap.size < w1.heap.size := by { have := hb1.size; simp at this; omega }) | (go_at_call 41; refine (CP _).mono ?_; rintro e w' ⟨rfl, hw⟩; obtain rfl := hw.symm; clear CP))
        refine bodyPost_ret (v := .tuple #[.agg #[.int .u8 k, .string nm, .int .u8 0, .int .u8 0, .int .i64 0, .string ⟨#[]⟩, .int .i64 0], .int .i64 ((a.size : Int) + R + b.size)]) (by simp [results, Tryd.results28, go_sem, hc, hz] <;> rfl) rfl ⟨by rw [HE.out], ?_⟩
        exact set7 (up1 hb1) _ (Nat.le_refl _) _ _ _ _ _ _ _
end Go.Proofs.YtglimefhiggdeaaDoor
