/- Find, Attr: the program's and the document's; In. -/
import Derived.Test.YtakibdkmgjpbhaaPh
namespace Go.Proofs.Ytakibdkmgjpbhaa
open Go.RowKit
set_option linter.unusedVariables false
set_option linter.unusedSimpArgs false
set_option maxRecDepth 20000

def idxC (cs : List ClassD) (s : Str) : Int := match cs.findIdx? (fun x => decide (x.nm = s)) with | some i => (i : Int) | none => -1
theorem idxC_at {cs : List ClassD} {s : Str} {k : Nat} (hk : k < cs.length) (h : (cs.getD k ⟨[], []⟩).nm = s) (hn : ∀ j, j < k → (cs.getD j ⟨[], []⟩).nm ≠ s) : idxC cs s = k ∧ findC cs s = some (cs.getD k ⟨[], []⟩) := by
  have h1 : cs.findIdx? (fun x => decide (x.nm = s)) = some k := by
    rw [List.findIdx?_eq_some_iff_getElem]
    refine ⟨hk, ?_, fun j hj => ?_⟩
    · rw [List.getD_eq_getElem?_getD, List.getElem?_eq_getElem hk] at h
      simpa using h
    · have := hn j hj
      rw [List.getD_eq_getElem?_getD, List.getElem?_eq_getElem (by omega)] at this
      simpa using this
  constructor
  · unfold idxC; rw [h1]
  · unfold findC
    rw [List.find?_eq_some_iff_getElem]
    rw [List.getD_eq_getElem?_getD, List.getElem?_eq_getElem hk] at h ⊢
    refine ⟨by simpa using h, k, hk, rfl, fun j hj => ?_⟩
    have := hn j hj
    rw [List.getD_eq_getElem?_getD, List.getElem?_eq_getElem (by omega)] at this
    simpa using this
theorem idxC_no {cs : List ClassD} {s : Str} (hn : ∀ j, j < cs.length → (cs.getD j ⟨[], []⟩).nm ≠ s) : idxC cs s = -1 ∧ findC cs s = none := by
  have h2 : ∀ x ∈ cs, x.nm ≠ s := fun x hx => by
    obtain ⟨j, hj, rfl⟩ := List.mem_iff_getElem.1 hx
    have := hn j hj
    rw [List.getD_eq_getElem?_getD, List.getElem?_eq_getElem hj] at this
    simpa using this
  constructor
  · unfold idxC
    rw [List.findIdx?_eq_none_iff.2 (fun x hx => by simpa using h2 x hx)]
  · unfold findC
    rw [List.find?_eq_none]
    intro x hx; simpa using h2 x hx
theorem enters34 (args : Array Value) (w' : World) : Sem.run Try.prog (callFunc 34 args) w' = .ok (.enter 34 args) w' := rfl
set_option maxHeartbeats 1600000 in
theorem fc_any (nm s : Str) (u : Option Addr) (n c B : Nat) (w : World) (h : w.cell? ⟨B, 0, none⟩ = some (.string (st s))) (hB : B < w.heap.size) :
    Calls Try.prog 34 #[.agg #[.string (st nm), .slice u n c], .pointer (some ⟨B, 0, none⟩)] w fun e w' => e = .returned (.bool (decide (nm = s))) ∧ Below w.heap.size w w' := by
  have hbe := st_beq nm s
  have h1 : (w.alloc (.cells #[.string (st nm), .slice u n c] 41)).cell? ⟨B, 0, none⟩ = some (.string (st s)) := ((bxn w _).cell (p := ⟨B, 0, none⟩) hB).trans h
  generalize decide (nm = s) = d at *
  go_enter Try.func34, Try.ntmps34
  go_wp2
  all_goals (go_ret; first | exact ⟨rfl, bxn _ _⟩ | exact ⟨by rw [← hbe]; rfl, bxn _ _⟩)
set_option maxHeartbeats 4000000 in
theorem indexF_any {P : Nat → Nat → Prop} {Q : Nat → Prop} (v : Value) (cs : List ClassD) (s : Str) (B : Nat) (w : World) (h : Row 2 (ReK P) w Q v cs) (hb : w.cell? ⟨B, 0, none⟩ = some (.string (st s))) (hB : B < w.heap.size) :
    Calls Try.prog 33 #[v, .func (.func 34) #[] #[.pointer (some ⟨B, 0, none⟩)]] w fun e w' => e = .returned (.int .i64 (idxC cs s)) ∧ Below w.heap.size w w' := by
  obtain ⟨css1, h1, hh1⟩ := h
  have le1 := hh1.len
  obtain ⟨a1, c1, rfl⟩ := h1.shape
  obtain ⟨-, l1, m1, r1⟩ := h1.row
  rw [le1] at l1 r1 ⊢
  have R1 : Hid (∀ i, i < cs.length → ∃ b off, a1 = some ⟨b, off, none⟩ ∧ b < w.heap.size ∧ ∀ j, j < 2 → w.cell? ⟨b, off + (i * 2 + j), none⟩ = (css1.getD i [])[j]?) := r1
  have G1 : Hid (All2 (ReK P w) css1 cs) := hh1
  have HBX : Hid (w.cell? ⟨B, 0, none⟩ = some (.string (st s))) := hb
  clear r1 h1 hh1 le1 hb
  have hnn : (cs.length : Int) ≤ 9223372036854775807 := by omega
  go_enter Try.func33, Try.ntmps33
  go_wp2
  go_loopw [5, 8] (fun _ v wr => ∃ i : Nat, v = .int .i64 i ∧ i ≤ cs.length ∧ Hid (Below w.heap.size w wr) ∧ Hid (∀ j, j < i → (cs.getD j ⟨[], []⟩).nm ≠ s)) (fun _ v _ => (cs.length - intOf v).toNat)
  case atStart => exact ⟨0, rfl, Nat.zero_le _, Below.refl _ _, fun j hj => absurd hj (Nat.not_lt_zero _)⟩
  case round =>
    obtain ⟨i, rfl, hi, HB, NO⟩ := hrel
    by_cases hlt : i < cs.length
    · have hiz : (i : Int) < cs.length := by omega
      obtain ⟨b1, o1, rfl, hb1, q1⟩ := R1.out i hlt
      have e1 := G1.out.at i [] ⟨[], []⟩ hlt
      have HX : Hid ((cs.getD i ⟨[], []⟩).nm = s → idxC cs s = i) := fun he => (idxC_at hlt he NO.out).1
      have NX : Hid ((cs.getD i ⟨[], []⟩).nm ≠ s → ∀ j, j < i + 1 → (cs.getD j ⟨[], []⟩).nm ≠ s) := fun he j hj => by
        rcases Nat.lt_or_eq_of_le (Nat.le_of_lt_succ hj) with hj | rfl
        · exact NO.out j hj
        · exact he
      generalize cs.getD i ⟨[], []⟩ = c at q1 e1 HX NX
      obtain ⟨u, ec, hu⟩ := e1
      obtain ⟨au, cu, rfl⟩ := hu.shape
      simp only [List.length_map] at ec
      rw [ec] at q1
      have d0 : wr.cell? ⟨b1, o1 + i * 2, none⟩ = some (.string (st c.nm)) := (HB.out.cell (p := ⟨b1, o1 + i * 2, none⟩) hb1).trans (q1 0 (by decide))
      have d1 : wr.cell? ⟨b1, o1 + i * 2 + 1, none⟩ = some (.slice au c.attrs.length cu) := (HB.out.cell (p := ⟨b1, o1 + i * 2 + 1, none⟩) hb1).trans (q1 1 (by decide))
      have CF := fc_any c.nm s au c.attrs.length cu B wr ((HB.out.cell (p := ⟨B, 0, none⟩) hB).trans HBX.out) (Nat.lt_of_lt_of_le hB HB.out.size)
      have HE := enters34 #[.agg #[.string (st c.nm), .slice au c.attrs.length cu], .pointer (some ⟨B, 0, none⟩)] wr
      clear q1 ec hu
      by_cases he : c.nm = s
      · have E : Hid (idxC cs s = i) := HX.out he
        rw [decide_eq_true he] at CF
        clear he HX NX
        go_wp2_with (refine CF.mono ?_; rintro e w2 ⟨rfl, hb2⟩; have B2 : Hid (Below w.heap.size w w2) := bt HB.out hb2; clear CF hb2)
        go_ret
        exact ⟨by rw [E.out]; rfl, B2.out⟩
      · have N2 : Hid (∀ j, j < i + 1 → (cs.getD j ⟨[], []⟩).nm ≠ s) := NX.out he
        rw [decide_eq_false he] at CF
        clear he HX NX
        go_wp2_with (refine CF.mono ?_; rintro e w2 ⟨rfl, hb2⟩; have B2 : Hid (Below w.heap.size w w2) := bt HB.out hb2; clear CF hb2)
        go_roundw
        case rel => exact ⟨i + 1, by simp, by omega, B2.out, N2.out⟩
        case measure => simp [intOf]; omega
    · have hiz : ¬ (i : Int) < cs.length := by omega
      have E : Hid (idxC cs s = -1) := (idxC_no fun j hj => NO.out j (by omega)).1
      go_wp2
      go_ret
      exact ⟨by rw [E.out]; rfl, HB.out⟩
set_option maxHeartbeats 1600000 in
theorem in_any {P : Nat → Prop} (v : Value) (ss : List Str) (s : Str) (w : World) (h : SlW 1 w P v (ss.map clS)) :
    Calls Try.prog 32 #[v, .string (st s)] w fun e w' => e = .returned (.bool (decide (s ∈ ss))) ∧ Below w.heap.size w w' := by
  obtain ⟨a, cap, rfl, hc1, hc2, hcell⟩ := h.cells
  have hnn : (ss.length : Int) ≤ 9223372036854775807 := by omega
  have RC : Hid (∀ i, i < ss.length → ∃ b off, a = some ⟨b, off, none⟩ ∧ b < w.heap.size ∧ w.cell? ⟨b, off + i, none⟩ = some (.string (st (ss.getD i [])))) := hcell
  clear hcell h
  go_enter Try.func32, Try.ntmps32
  go_wp2
  go_loopw [5] (fun v wr => ∃ i : Nat, v = .int .i64 i ∧ i ≤ ss.length ∧ Below w.heap.size w wr ∧ Hid (∀ j, j < i → ss.getD j [] ≠ s)) (fun v _ => (ss.length - intOf v).toNat)
  case atStart => exact ⟨0, rfl, Nat.zero_le _, Below.refl _ _, fun j hj => absurd hj (Nat.not_lt_zero _)⟩
  case round =>
    obtain ⟨i, rfl, hi, hbr, NO⟩ := hrel
    by_cases hlt : i < ss.length
    · have hiz : (i : Int) < ss.length := by omega
      obtain ⟨b1, o1, rfl, hb1, q1⟩ := RC.out i hlt
      have c0 : wr.cell? ⟨b1, o1 + i, none⟩ = some (.string (st (ss.getD i []))) := (hbr.cell (p := ⟨b1, o1 + i, none⟩) hb1).trans q1
      clear q1
      have hbe := st_beq (ss.getD i []) s
      by_cases he : ss.getD i [] = s
      · have hX : Hid (decide (s ∈ ss) = true) := decide_eq_true (by
          rw [List.getD_eq_getElem?_getD, List.getElem?_eq_getElem hlt] at he
          exact he ▸ List.getElem_mem hlt)
        rw [decide_eq_true he] at hbe
        generalize ss.getD i [] = x at *
        clear he
        go_wp2
        go_ret
        exact ⟨by rw [hX.out]; rfl, hbr⟩
      · have NX : Hid (∀ j, j < i + 1 → ss.getD j [] ≠ s) := fun j hj => by
          rcases Nat.lt_or_eq_of_le (Nat.le_of_lt_succ hj) with hj | rfl
          · exact NO.out j hj
          · exact he
        rw [decide_eq_false he] at hbe
        generalize ss.getD i [] = x at *
        clear he
        go_wp2
        go_roundw
        case rel => exact ⟨i + 1, by simp, by omega, hbr, NX.out⟩
        case measure => simp [intOf]; omega
    · have hiz : ¬ (i : Int) < ss.length := by omega
      have hX : Hid (decide (s ∈ ss) = false) := decide_eq_false (fun hm => by
        obtain ⟨j, hj, e⟩ := List.mem_iff_getElem.1 hm
        have := NO.out j (by omega)
        rw [List.getD_eq_getElem?_getD, List.getElem?_eq_getElem hj] at this
        exact this (by simpa using e))
      go_wp2
      go_ret
      exact ⟨by rw [hX.out]; rfl, hbr⟩
set_option maxHeartbeats 4000000 in
theorem rexpr_any {P Q : Nat → Prop} (v1 v2 : Value) (xs : List ItemD) (zs : List Str) (w : World) (h1 : SlW 5 w P v1 (xs.map clI)) (h2 : SlW 1 w Q v2 (zs.map clS)) :
    Calls Try.prog 24 #[v1, v2] w fun e w' => e = .returned (.int .i64 (exE zs xs)) ∧ Below w.heap.size w w' := by
  obtain ⟨a1, c1, rfl⟩ := h1.shape
  obtain ⟨-, l1, m1, r1⟩ := h1.row
  simp only [List.length_map] at *
  have R1 : Hid (∀ i, i < xs.length → ∃ b off, a1 = some ⟨b, off, none⟩ ∧ b < w.heap.size ∧ ∀ j, j < 5 → w.cell? ⟨b, off + (i * 5 + j), none⟩ = ((xs.map clI).getD i [])[j]?) := r1
  have CI : Hid (∀ W s, Below w.heap.size w W → Calls Try.prog 32 #[v2, .string (st s)] W fun e w' => e = .returned (.bool (decide (s ∈ zs))) ∧ Below W.heap.size W w') := fun W s hW => in_any v2 zs s W (h2.bl hW)
  clear r1 h1 h2
  have hnn : (xs.length : Int) ≤ 9223372036854775807 := by omega
  go_enter Try.func24, Try.ntmps24
  go_wp2
  go_loopw [5] (fun v wr => ∃ i : Nat, v = .int .i64 i ∧ i ≤ xs.length ∧ Hid (Below w.heap.size w wr) ∧ Hid (∀ j, j < i → itemE zs (xs.getD j ⟨0, v0, []⟩) = false)) (fun v _ => (xs.length - intOf v).toNat)
  case atStart => exact ⟨0, rfl, Nat.zero_le _, Below.refl _ _, fun j hj => absurd hj (Nat.not_lt_zero _)⟩
  case round =>
    obtain ⟨i, rfl, hi, HB, NO⟩ := hrel
    by_cases hlt : i < xs.length
    · have hiz : (i : Int) < xs.length := by omega
      obtain ⟨b1, o1, rfl, hb1, q1⟩ := R1.out i hlt
      rw [getD_map clI xs i ⟨0, v0, []⟩ hlt] at q1
      have HX : Hid (itemE zs (xs.getD i ⟨0, v0, []⟩) = true → exE zs xs = 20) := fun hx => by unfold exE; rw [if_pos (any_take hlt hx)]
      have NX : Hid (itemE zs (xs.getD i ⟨0, v0, []⟩) = false → ∀ j, j < i + 1 → itemE zs (xs.getD j ⟨0, v0, []⟩) = false) := fun hx j hj => by
        rcases Nat.lt_or_eq_of_le (Nat.le_of_lt_succ hj) with hj | rfl
        · exact NO.out j hj
        · exact hx
      generalize xs.getD i ⟨0, v0, []⟩ = x at q1 HX NX
      have c0 : wr.cell? ⟨b1, o1 + i * 5, none⟩ = some (.int .u8 x.k) := (HB.out.cell (p := ⟨b1, o1 + i * 5, none⟩) hb1).trans (q1 0 (by decide))
      have c4 : wr.cell? ⟨b1, o1 + i * 5 + 4, none⟩ = some (.string (st x.v)) := (HB.out.cell (p := ⟨b1, o1 + i * 5 + 4, none⟩) hb1).trans (q1 4 (by decide))
      clear q1
      have CH := CI.out wr x.v HB.out
      by_cases hk : x.k = 1
      · rw [hk] at c0
        by_cases hv : x.v ∈ zs
        · rw [decide_eq_true hv] at CH
          have N2 : Hid (∀ j, j < i + 1 → itemE zs (xs.getD j ⟨0, v0, []⟩) = false) := NX.out (by unfold itemE; simp [hv])
          clear hv HX NX
          go_wp2_with (go_at_call 32; refine CH.mono ?_; rintro e w2 ⟨rfl, hb2⟩; have B2 : Hid (Below w.heap.size w w2) := bt HB.out hb2; clear CH hb2)
          go_roundw
          case rel => exact ⟨i + 1, by simp, by omega, B2.out, N2.out⟩
          case measure => simp [intOf]; omega
        · rw [decide_eq_false hv] at CH
          have E2 : Hid (exE zs xs = 20) := HX.out (by unfold itemE; simp [hv, hk])
          clear hv HX NX
          go_wp2_with (go_at_call 32; refine CH.mono ?_; rintro e w2 ⟨rfl, hb2⟩; have B2 : Hid (Below w.heap.size w w2) := bt HB.out hb2; clear CH hb2)
          go_ret
          exact ⟨by rw [E2.out]; rfl, B2.out⟩
      · have N2 : Hid (∀ j, j < i + 1 → itemE zs (xs.getD j ⟨0, v0, []⟩) = false) := NX.out (by unfold itemE; simp [hk])
        clear HX NX CH
        go_wp2
        go_roundw
        case rel => exact ⟨i + 1, by simp, by omega, HB.out, N2.out⟩
        case measure => simp [intOf]; omega
    · have hiz : ¬ (i : Int) < xs.length := by omega
      have E0 : Hid (exE zs xs = 0) := by unfold exE Hid; rw [any_none (d := ⟨0, v0, []⟩) fun j hj => NO.out j (by omega)]; rfl
      go_wp2
      go_ret
      exact ⟨by rw [E0.out]; rfl, HB.out⟩
end Go.Proofs.Ytakibdkmgjpbhaa
