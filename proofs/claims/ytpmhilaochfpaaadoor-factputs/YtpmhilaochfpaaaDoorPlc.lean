/- At which place the first class of a name stands: both sides. -/
import Derived.Test.YtpmhilaochfpaaaDoorFi
import Derived.Test.YtpmhilaochfpaaaDoorFn
namespace Go.Proofs.YtpmhilaochfpaaaDoor
set_option maxRecDepth 20000
open Go.RowKit
set_option linter.unusedVariables false
set_option linter.unusedSimpArgs false
theorem entersP (args : Array Value) (w' : World) : Sem.run Tryd.prog (callFunc 34 args) w' = .ok (.enter 34 args) w' := rfl
set_option maxHeartbeats 1600000 in
theorem fp_any (nm s : Str) (u : Option Addr) (n c B : Nat) (w : World) (h : w.cell? ⟨B, 0, none⟩ = some (.string (st s))) (hB : B < w.heap.size) :
    Calls Tryd.prog 36 #[.agg #[.string (st nm), .slice u n c], .pointer (some ⟨B, 0, none⟩)] w fun e w' => e = .returned (.bool (decide (nm = s))) ∧ Below w.heap.size w w' := by
  have hbe := st_beq nm s
  have h1 : (w.alloc (.cells #[.string (st nm), .slice u n c] 50)).cell? ⟨B, 0, none⟩ = some (.string (st s)) := ((bxn w _).cell (p := ⟨B, 0, none⟩) hB).trans h
  generalize decide (nm = s) = d at *
  go_enter Tryd.func36, Tryd.ntmps36
  go_wp2
  all_goals (go_ret; first | exact ⟨rfl, bxn _ _⟩ | exact ⟨by rw [← hbe]; rfl, bxn _ _⟩)
set_option maxHeartbeats 4000000 in
theorem indexP_any {P : Nat → Nat → Prop} {Q : Nat → Prop} (v : Value) (cs : List ClassD) (s : Str) (B : Nat) (w : World) (h : Row 2 (ReK P) w Q v cs) (hb : w.cell? ⟨B, 0, none⟩ = some (.string (st s))) (hB : B < w.heap.size) :
    Calls Tryd.prog 35 #[v, .func (.func 36) #[] #[.pointer (some ⟨B, 0, none⟩)]] w fun e w' => e = .returned (.int .i64 (idxC cs s)) ∧ Below w.heap.size w w' := by
  obtain ⟨css1, h1, hh1⟩ := h
  have le1 := hh1.len
  obtain ⟨a1, c1, rfl⟩ := h1.shape
  obtain ⟨-, l1, m1, r1⟩ := h1.row
  rw [le1] at l1 r1 ⊢
  have R1 : Hid (∀ i, i < cs.length → ∃ b off, a1 = some ⟨b, off, none⟩ ∧ b < w.heap.size ∧ ∀ j, j < 2 → w.cell? ⟨b, off + (i * 2 + j), none⟩ = (css1.getD i [])[j]?) := r1
  have G1 : Hid (All2 (ReK P w) css1 cs) := hh1
  have HBX : Hid (w.cell? ⟨B, 0, none⟩ = some (.string (st s))) := hb
  clear r1 h1 hh1 le1 hb
  have hnn : (cs.length : Int) ≤ 9223372036854775807 := by omega
  go_enter Tryd.func35, Tryd.ntmps35
  go_wp2
  go_loopw [5, 8] (fun _ v wr => ∃ i : Nat, v = .int .i64 i ∧ i ≤ cs.length ∧ Hid (Below w.heap.size w wr) ∧ Hid (∀ j, j < i → (cs.getD j ⟨[], []⟩).nm ≠ s)) (fun _ v _ => (cs.length - intOf v).toNat)
  case atStart => exact ⟨0, rfl, Nat.zero_le _, Below.refl _ _, fun j hj => absurd hj (Nat.not_lt_zero _)⟩
  case round =>
    obtain ⟨i, rfl, hi, HB, NO⟩ := hrel
    by_cases hlt : i < cs.length
    · have hiz : (i : Int) < cs.length := by omega
      obtain ⟨b1, o1, rfl, hb1, q1⟩ := R1.out i hlt
      have e1 := G1.out.at i [] ⟨[], []⟩ hlt
      have HX : Hid ((cs.getD i ⟨[], []⟩).nm = s → idxC cs s = i) := fun he => (idxC_at hlt he NO.out).1
      have NX : Hid ((cs.getD i ⟨[], []⟩).nm ≠ s → ∀ j, j < i + 1 → (cs.getD j ⟨[], []⟩).nm ≠ s) := fun he j hj => by
        rcases Nat.lt_or_eq_of_le (Nat.le_of_lt_succ hj) with hj | rfl
        · exact NO.out j hj
        · exact he
      generalize cs.getD i ⟨[], []⟩ = c at q1 e1 HX NX
      obtain ⟨u, ec, hu⟩ := e1
      obtain ⟨au, cu, rfl⟩ := hu.shape
      simp only [List.length_map] at ec
      rw [ec] at q1
      have d0 : wr.cell? ⟨b1, o1 + i * 2, none⟩ = some (.string (st c.nm)) := (HB.out.cell (p := ⟨b1, o1 + i * 2, none⟩) hb1).trans (q1 0 (by decide))
      have d1 : wr.cell? ⟨b1, o1 + i * 2 + 1, none⟩ = some (.slice au c.attrs.length cu) := (HB.out.cell (p := ⟨b1, o1 + i * 2 + 1, none⟩) hb1).trans (q1 1 (by decide))
      have CF := fp_any c.nm s au c.attrs.length cu B wr ((HB.out.cell (p := ⟨B, 0, none⟩) hB).trans HBX.out) (Nat.lt_of_lt_of_le hB HB.out.size)
      have HE := entersP #[.agg #[.string (st c.nm), .slice au c.attrs.length cu], .pointer (some ⟨B, 0, none⟩)] wr
      clear q1 ec hu
      by_cases he : c.nm = s
      · have E : Hid (idxC cs s = i) := HX.out he
        rw [decide_eq_true he] at CF
        clear he HX NX
        go_wp2_with (refine CF.mono ?_; rintro e w2 ⟨rfl, hb2⟩; have B2 : Hid (Below w.heap.size w w2) := bt HB.out hb2; clear CF hb2)
        go_ret
        exact ⟨by rw [E.out]; rfl, B2.out⟩
      · have N2 : Hid (∀ j, j < i + 1 → (cs.getD j ⟨[], []⟩).nm ≠ s) := NX.out he
        rw [decide_eq_false he] at CF
        clear he HX NX
        go_wp2_with (refine CF.mono ?_; rintro e w2 ⟨rfl, hb2⟩; have B2 : Hid (Below w.heap.size w w2) := bt HB.out hb2; clear CF hb2)
        go_roundw
        case rel => exact ⟨i + 1, by simp, by omega, B2.out, N2.out⟩
        case measure => simp [intOf]; omega
    · have hiz : ¬ (i : Int) < cs.length := by omega
      have E : Hid (idxC cs s = -1) := (idxC_no fun j hj => NO.out j (by omega)).1
      go_wp2
      go_ret
      exact ⟨by rw [E.out]; rfl, HB.out⟩
set_option maxHeartbeats 1600000 in
theorem place_any {P : Nat → Nat → Prop} {Q : Nat → Prop} (v : Value) (cs : List ClassD) (s : Str) (w : World) (h : Row 2 (ReK P) w Q v cs) :
    Calls Tryd.prog 23 #[v, .string (st s)] w fun e w' => e = .returned (.int .i64 (idxC cs s)) ∧ Below w.heap.size w w' := by
  have h2 : Row 2 (ReK P) (w.alloc (.cells #[.string (st s)] 9)) Q v cs := rowK_keep h (bxn _ _)
  have CI := indexP_any v cs s w.heap.size (w.alloc (.cells #[.string (st s)] 9)) h2 (by simp) (by simp)
  clear h h2
  go_enter Tryd.func23, Tryd.ntmps23
  go_wp2_with (go_at_call 35; refine CI.mono ?_; rintro e w2 ⟨rfl, hb2⟩)
  go_ret
  exact ⟨rfl, bt (bxn _ _) hb2⟩
set_option maxHeartbeats 4000000 in
theorem rplace_any {P : Nat → Nat → Prop} {Q : Nat → Prop} (v : Value) (cs : List ClassD) (s : Str) (w : World) (h : Row 2 (ReK P) w Q v cs) :
    Calls Tryd.prog 27 #[v, .string (st s)] w fun e w' => e = .returned (.int .i64 (idxC cs s)) ∧ Below w.heap.size w w' := by
  obtain ⟨css1, h1, hh1⟩ := h
  have le1 := hh1.len
  obtain ⟨a1, c1, rfl⟩ := h1.shape
  obtain ⟨-, l1, m1, r1⟩ := h1.row
  rw [le1] at l1 r1 ⊢
  have R1 : Hid (∀ i, i < cs.length → ∃ b off, a1 = some ⟨b, off, none⟩ ∧ b < w.heap.size ∧ ∀ j, j < 2 → w.cell? ⟨b, off + (i * 2 + j), none⟩ = (css1.getD i [])[j]?) := r1
  have G1 : Hid (All2 (ReK P w) css1 cs) := hh1
  clear r1 h1 hh1 le1
  have hnn : (cs.length : Int) ≤ 9223372036854775807 := by omega
  go_enter Tryd.func27, Tryd.ntmps27
  go_wp2
  go_loopw [5] (fun v wr => ∃ i : Nat, v = .int .i64 i ∧ i ≤ cs.length ∧ wr = w ∧ Hid (∀ j, j < i → (cs.getD j ⟨[], []⟩).nm ≠ s)) (fun v _ => (cs.length - intOf v).toNat)
  case atStart => exact ⟨0, rfl, Nat.zero_le _, rfl, fun j hj => absurd hj (Nat.not_lt_zero _)⟩
  case round =>
    obtain ⟨i, rfl, hi, rfl, NO⟩ := hrel
    by_cases hlt : i < cs.length
    · have hiz : (i : Int) < cs.length := by omega
      obtain ⟨b1, o1, rfl, hb1, q1⟩ := R1.out i hlt
      have e1 := G1.out.at i [] ⟨[], []⟩ hlt
      have HX : Hid ((cs.getD i ⟨[], []⟩).nm = s → idxC cs s = i) := fun he => (idxC_at hlt he NO.out).1
      have NX : Hid ((cs.getD i ⟨[], []⟩).nm ≠ s → ∀ j, j < i + 1 → (cs.getD j ⟨[], []⟩).nm ≠ s) := fun he j hj => by
        rcases Nat.lt_or_eq_of_le (Nat.le_of_lt_succ hj) with hj | rfl
        · exact NO.out j hj
        · exact he
      generalize cs.getD i ⟨[], []⟩ = c at q1 e1 HX NX
      obtain ⟨u, ec, hu⟩ := e1
      obtain ⟨au, cu, rfl⟩ := hu.shape
      simp only [List.length_map] at ec
      rw [ec] at q1
      have d0 : wr.cell? ⟨b1, o1 + i * 2, none⟩ = some (.string (st c.nm)) := q1 0 (by decide)
      clear q1 ec hu
      have hbe := st_beq c.nm s
      by_cases he : c.nm = s
      · have E : Hid (idxC cs s = i) := HX.out he
        rw [decide_eq_true he] at hbe
        clear he HX NX
        go_wp2
        go_ret
        exact ⟨by rw [E.out]; rfl, Below.refl _ _⟩
      · have N2 : Hid (∀ j, j < i + 1 → (cs.getD j ⟨[], []⟩).nm ≠ s) := NX.out he
        rw [decide_eq_false he] at hbe
        clear he HX NX
        go_wp2
        go_roundw
        case rel => exact ⟨i + 1, by simp, by omega, trivial, N2.out⟩
        case measure => simp [intOf]; omega
    · have hiz : ¬ (i : Int) < cs.length := by omega
      have E : Hid (idxC cs s = -1) := (idxC_no fun j hj => NO.out j (by omega)).1
      go_wp2
      go_ret
      exact ⟨by rw [E.out]; rfl, Below.refl _ _⟩
end Go.Proofs.YtpmhilaochfpaaaDoor
