import Derived.Test.YtbklnadlbcndlaaGreatM10
import Derived.Deep.RegionWith
namespace Go.Proofs.YtbklnadlbcndlaaGreat.B
set_option maxRecDepth 20000
open Go.RowKit
theorem wp_make {ops : Array Oper} {rest : List Oper} {o : Oper} {a : Act} {w : World} {Q : Exit → Act → World → Prop} (hgd : o.guard = none) (x y : Operand) (ho : o.op = .makeSlice 29 x y) (n : Nat) (hn : n ≤ 1000000) (hx : a.eval x = .int .i64 n) (hy : a.eval y = .int .i64 n)
    (h : ∀ w', Own w' w.heap.size (.slice (some ⟨w.heap.size, 0, none⟩) n n) (List.replicate n 0) → Below w.heap.size w w' → w'.heap.size = w.heap.size + 1 → wpList Tryz.prog ops Q rest (a.put o.dst (.slice (some ⟨w.heap.size, 0, none⟩) n n)) w') : wpList Tryz.prog ops Q (o :: rest) a w := by
  obtain ⟨i0, hi, hz0, hz1, hz2⟩ := info_parts Tryz.info5
  have hrun := run_makeSlice (P := Tryz.prog) w 29 5 i0 (.int .u8 0) Tryz.underlying29 hi hz0 .i64 .i64 n n (by omega) (by omega) (by rw [hz1]; simp; omega) (by rw [hz2]; omega) (by omega)
  refine wpList_plain hgd fun K hK => ?_
  unfold Oper.wp
  rw [hz1, Int.toNat_natCast, Nat.mul_one] at hrun
  simp only [execOp, ho, hx, hy, Sem.run_bind, hrun, Result.andThen, Sem.run_pure]
  refine hK _ _ (h _ ?_ ((Below.refl _ _).alloc (Nat.le_refl _) _) (by simp))
  have := World.ownsRow_lit (base := w.heap.size) (e := 5) (size := 1) w (madeCells (Value.int .u8 0).cells n) n (Nat.le_refl _) (by unfold maxLen; omega) (by rw [size_madeCells]; omega)
  have e : (madeCells (Value.int .u8 0).cells n).toList = (List.replicate n (0 : Int)).map (Value.int .u8) := by
    rw [List.map_replicate]
    exact toList_madeCells_one _ n
  rw [e] at this
  unfold Own
  rw [List.length_replicate]
  exact this
def makeN (n : Int) : Nat := ((min (max n 0) 4096).toNat + 7) / 8
theorem makeN_cases (n : Int) : ∃ c m : Nat, makeN n = m ∧ c ≤ 4096 ∧ m = (c + 7) / 8 ∧ ((n < 0 ∧ c = 0) ∨ (0 ≤ n ∧ n ≤ 4096 ∧ n = c) ∨ (4096 < n ∧ c = 4096)) := ⟨(min (max n 0) 4096).toNat, _, rfl, by omega, rfl, by omega⟩
set_option maxHeartbeats 400000 in
theorem make_any (n : Int) (w : World) : Calls Tryz.prog 103 #[.int .i64 n] w fun e w' => ∃ v, e = .returned v ∧ Own w' w.heap.size v (List.replicate (makeN n) 0) ∧ Below w.heap.size w w' := by
  obtain ⟨c, m, hm, hc, hmc, hcase⟩ := makeN_cases n
  rw [hm]
  have h1 : ((c : Int) + 8 - 1) / 8 = (m : Int) := by omega
  have hw1 : wrap64 ((c : Int) + 8) = (c : Int) + 8 := by unfold wrap64; omega
  have hw2 : wrap64 ((c : Int) + 8 - 1) = (c : Int) + 8 - 1 := by unfold wrap64; omega
  have HM : m ≤ 1000000 := by omega
  rcases hcase with ⟨h0, rfl⟩ | ⟨h0, h4, rfl⟩ | ⟨h4, rfl⟩
  · obtain rfl : m = 0 := by omega
    clear h1 hw1 hw2 hm hmc
    go_enter Tryz.func103, Tryz.ntmps103
    go_wp2_with (first | (refine wp_make rfl _ _ rfl 0 (by omega) rfl rfl ?_; intro w1 ho1 hb1 _) | fail)
    go_ret
    exact ⟨_, rfl, ho1, hb1⟩
  · subst hmc
    clear h1 hm
    go_enter Tryz.func103, Tryz.ntmps103
    go_wp2_with (first | (refine wp_make rfl _ _ rfl ((c + 7) / 8) HM (by simp [Act.eval] <;> (try split) <;> omega) (by simp [Act.eval] <;> (try split) <;> omega) ?_; intro w1 ho1 hb1 _) | fail)
    go_ret
    exact ⟨_, rfl, ho1, hb1⟩
  · obtain rfl : m = 512 := by omega
    clear h1 hw1 hw2 hm hmc
    go_enter Tryz.func103, Tryz.ntmps103
    go_wp2_with (first | (refine wp_make rfl _ _ rfl 512 (by omega) rfl rfl ?_; intro w1 ho1 hb1 _) | fail)
    go_ret
    exact ⟨_, rfl, ho1, hb1⟩
theorem Own.stored {w : World} {base g n cap : Nat} {zs : List Int} (h : Own w base (.slice (some ⟨g, 0, none⟩) n cap) zs) (j : Nat) (z : Int) : Own (w.setCell ⟨g, j, none⟩ (.int .u8 z)) base (.slice (some ⟨g, 0, none⟩) n cap) (zs.set j z) := by
  have hn : zs.length = n := by
    rcases h.2 with ⟨h', _⟩ | ⟨g', cap', cur, h', _⟩
    · simp at h'
    · simp at h'; omega
  subst hn
  have := (World.ownsRow.stored h j (.int .u8 z)).1
  unfold Own
  rw [List.length_set, List.map_set]
  exact this
theorem Own.pos {w : World} {base : Nat} {v : Value} {zs : List Int} (h : Own w base v zs) (hz : AllB zs) (hp : 0 < zs.length) : ∃ g cap, v = .slice (some ⟨g, 0, none⟩) zs.length cap ∧ zs.length ≤ cap ∧ base ≤ g ∧ g < w.heap.size ∧ (∀ i, i < zs.length → w.cell? ⟨g, i, none⟩ = some (.int .u8 (zs.getD i 0))) ∧ ∀ i, w.frozen? ⟨g, i, none⟩ = false := by
  obtain ⟨g, cap, rfl, h1, h2, h3⟩ := h.shape zs.length rfl hp
  refine ⟨g, cap, rfl, h1, h2, h3, fun i hi => ?_, fun i => World.ownsRow.frozenAt h i⟩
  obtain ⟨b, off, e, _, hc⟩ := (h.bv hz).at i hi
  obtain ⟨rfl, rfl⟩ : g = b ∧ 0 = off := by simpa using e
  rw [Nat.zero_add] at hc
  exact hc
theorem withI_out {zs : List Int} {i : Int} (on : Bool) (h : ¬ (0 ≤ i ∧ i.toNat < 8 * zs.length)) : withI zs i on = zs := if_neg h
theorem withI_in {zs : List Int} {n : Nat} (on : Bool) (h : n < 8 * zs.length) : withI zs (n : Int) on = setB zs n on := by
  unfold withI
  rw [if_pos ⟨by omega, by omega⟩, Int.toNat_natCast]
theorem byt_cast {zs : List Int} (h : AllB zs) (n : Nat) : ((byt zs n : Nat) : Int) = zs.getD (n / 8) 0 := by
  have := h.getD (n / 8)
  unfold byt; omega
set_option maxHeartbeats 1600000 in
theorem with_any (a : Option Addr) (cap : Nat) (zs : List Int) (i : Int) (on : Bool) (w : World) (hb : BV w a zs) (hn : zs.length ≤ 1000000) (hnil : a = none → cap = 0) :
    Calls Tryz.prog 128 #[.slice a zs.length cap, .int .i64 i, .bool on] w fun e w' => ∃ v, e = .returned v ∧ Own w' w.heap.size v (withI zs i on) ∧ Below w.heap.size w w' := by
  have HC : Hid (Calls Tryz.prog 180 #[.slice a zs.length cap] w fun e w' => ∃ v, e = .returned v ∧ Own w' w.heap.size v zs ∧ Below w.heap.size w w') := clone_any a cap zs w hb hn hnil
  have HF : Hid (∀ (a : Option Addr) (cap : Nat) (w : World), Calls Tryz.prog 181 #[.slice a zs.length cap, .int .i64 i] w fun e w' => e = .returned (.bool (decide (0 ≤ i ∧ i.toNat < 8 * zs.length))) ∧ w' = w) := fun a cap w => fits_any a zs.length cap i w hn
  have hz := hb.1
  by_cases hf : 0 ≤ i ∧ i.toNat < 8 * zs.length
  · rw [decide_eq_true hf] at HF
    obtain ⟨n, rfl⟩ : ∃ n : Nat, i = (n : Int) := ⟨i.toNat, by omega⟩
    have hn8 : n < 8 * zs.length := by omega
    rw [withI_in on hn8]
    have HB := bit_any n
    have hq2 : ((n : Int) / 8).toNat = n / 8 := by omega
    have hlq : (n : Int) / 8 < (zs.length : Int) := by omega
    have hlq0 : 0 ≤ (n : Int) / 8 := by omega
    have hwr : wrap64 ((n : Int) / 8) = (n : Int) / 8 := by unfold wrap64; omega
    have hwr2 : IntKind.i64.wrap ((n : Int) / 8) = (n : Int) / 8 := by rw [IntKind.wrap_i64]; omega
    have hlt8 : n / 8 < zs.length := by omega
    have hor := or_bit (byt zs n) (7 - n % 8) (byt_lt hz n) (by omega)
    have hand := less_bit (byt zs n) (7 - n % 8) (byt_lt hz n) (by omega)
    rw [byt_cast hz] at hor hand
    have HO : Hid (∀ W : World, ∀ g n' cap', Own W w.heap.size (.slice (some ⟨g, 0, none⟩) n' cap') zs → Own (W.setCell ⟨g, n / 8, none⟩ (.int .u8 (bits (if on then .or else .andNot) .u8 (zs.getD (n / 8) 0) ((pw n : Nat) : Int)))) w.heap.size (.slice (some ⟨g, 0, none⟩) n' cap') (setB zs n on)) := by
      intro W g n' cap' h
      have := h.stored (n / 8) (bits (if on then .or else .andNot) .u8 (zs.getD (n / 8) 0) ((pw n : Nat) : Int))
      have e : bits (if on then BinOp.or else .andNot) .u8 (zs.getD (n / 8) 0) ((pw n : Nat) : Int) = (bitB (byt zs n) (7 - n % 8) on : Nat) := by
        cases on
        · exact hand
        · exact hor
      rw [e] at this
      rw [e]
      exact this
    have HZL : Hid (∀ v W, Own W w.heap.size v zs → ∃ g cap, v = .slice (some ⟨g, 0, none⟩) zs.length cap ∧ zs.length ≤ cap ∧ w.heap.size ≤ g ∧ g < W.heap.size ∧ W.cell? ⟨g, n / 8, none⟩ = some (.int .u8 (zs.getD (n / 8) 0)) ∧ W.frozen? ⟨g, n / 8, none⟩ = false) := by
      intro v W h
      obtain ⟨g, cap, h1, h2, h3, h4, h5, h6⟩ := h.pos hz (by omega)
      exact ⟨g, cap, h1, h2, h3, h4, h5 _ (by omega), h6 _⟩
    clear hor hand hb hf
    generalize zs.getD (n / 8) 0 = z at *
    generalize pw n = p at *
    cases on
    · simp only [Bool.false_eq_true, if_false] at HO
      go_enter Tryz.func128, Tryz.ntmps128
      go_wp2_with (first | (go_at_call 180; refine HC.out.mono ?_; rintro e w1 ⟨v, rfl, ho1, hb1⟩; obtain ⟨g, cap1, rfl, hgc, hgb, hgs, hc1, hf1⟩ := HZL.out _ _ ho1; clear HC HZL) | (go_at_call 181; refine (HF.out _ _ _).mono ?_; rintro e w2 ⟨rfl, hw2⟩; obtain rfl := hw2.symm) | fail)
      go_region_with (first | (go_at_call 182; refine (HB _).mono ?_; rintro e w2 ⟨rfl, hw2⟩; obtain rfl := hw2.symm))
      all_goals (
        go_wp2
        go_ret
        refine ⟨_, rfl, HO.out _ _ _ _ (ho1.below ?_), ?_⟩
        · first | exact Below.refl _ _ | exact (Below.refl _ _).drew
        · first | exact hb1.setCell hgb _ | exact hb1.drew.setCell hgb _)
    · simp only [if_true] at HO
      go_enter Tryz.func128, Tryz.ntmps128
      go_wp2_with (first | (go_at_call 180; refine HC.out.mono ?_; rintro e w1 ⟨v, rfl, ho1, hb1⟩; obtain ⟨g, cap1, rfl, hgc, hgb, hgs, hc1, hf1⟩ := HZL.out _ _ ho1; clear HC HZL) | (go_at_call 181; refine (HF.out _ _ _).mono ?_; rintro e w2 ⟨rfl, hw2⟩; obtain rfl := hw2.symm) | fail)
      go_region_with (first | (go_at_call 182; refine (HB _).mono ?_; rintro e w2 ⟨rfl, hw2⟩; obtain rfl := hw2.symm))
      all_goals (
        go_wp2
        go_ret
        refine ⟨_, rfl, HO.out _ _ _ _ (ho1.below ?_), ?_⟩
        · first | exact Below.refl _ _ | exact (Below.refl _ _).drew
        · first | exact hb1.setCell hgb _ | exact hb1.drew.setCell hgb _)
  · rw [decide_eq_false hf] at HF
    rw [withI_out on hf]
    go_enter Tryz.func128, Tryz.ntmps128
    go_wp2_with (first | (go_at_call 180; refine HC.out.mono ?_; rintro e w1 ⟨v, rfl, ho1, hb1⟩; obtain ⟨a1, cap1, rfl, _⟩ := ho1.view hz; clear HC) | (go_at_call 181; refine (HF.out _ _ _).mono ?_; rintro e w2 ⟨rfl, hw2⟩; obtain rfl := hw2.symm) | fail)
    go_ret
    exact ⟨_, rfl, ho1, hb1⟩
end Go.Proofs.YtbklnadlbcndlaaGreat.B
