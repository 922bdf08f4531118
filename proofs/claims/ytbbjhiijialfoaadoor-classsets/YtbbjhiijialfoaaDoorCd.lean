/- Check; a set's place, sets looked through: contracts of single calls. -/
import Derived.Test.YtbbjhiijialfoaaDoorCc
namespace Go.Proofs.YtbbjhiijialfoaaDoor
set_option maxRecDepth 20000
open Go.RowKit
set_option linter.unusedVariables false
set_option linter.unusedSimpArgs false

set_option maxHeartbeats 4000000 in
theorem check_any {P : Nat → Nat → Prop} {Q Q2 : Nat → Prop} (v u : Value) (cs : List ClassD) (f : FactD) (w : World) (h : Row 2 (ReK P) w Q v cs) (hL : ∀ c ∈ cs, c.attrs.length ≤ 100000)
    (hf : SlW 3 w Q2 u (f.vs.map clV)) (hv : ∀ x ∈ f.vs, fV x) (hV : Vars w) :
    Calls Tryd.prog 14 #[v, .agg #[.int .i64 f.t, .string (st f.c), u]] w fun e w' => e = .returned (.int .i64 (factE cs f)) ∧ Below w.heap.size w w' := by
  obtain ⟨a2, c2, rfl⟩ := hf.shape
  have C25 := classOf_any v _ cs f (w.alloc (.cells #[.int .i64 f.t, .string (st f.c), .slice a2 (f.vs.map clV).length c2] 25)) (rowK_keep h (bxn _ _)) hL (hf.bl (bxn _ _)) hv (hV.below (bxn _ _))
  rw [List.length_map] at *
  clear h hL hf hv hV
  go_enter Tryd.func14, Tryd.ntmps14
  go_wp2_with (go_at_call 25; refine C25.mono ?_; rintro e w2 ⟨hb2, ⟨h0, rfl⟩ | ⟨h0, k, a, c, hk, hl, rfl, hs⟩⟩ <;> (have B2 : Hid (Below w.heap.size w w2) := bt (bxn _ _) hb2; have E0 := h0; have E : Hid _ := E0; clear C25 hb2 h0 E0))
  all_goals (
    go_ret
    first
      | exact ⟨rfl, bt B2.out (bxn _ _)⟩
      | exact ⟨by rw [E.out]; rfl, bt B2.out (bxn _ _)⟩)
theorem enters43 (args : Array Value) (w' : World) : Sem.run Tryd.prog (callFunc 43 args) w' = .ok (.enter 43 args) w' := rfl
set_option maxHeartbeats 1600000 in
theorem fb_any (y : BoundD) (s : Str) (B : Nat) (w : World) (h : w.cell? ⟨B, 0, none⟩ = some (.string (st s))) (hB : B < w.heap.size) :
    Calls Tryd.prog 43 #[.agg #[.string (st y.nm), .int .u8 y.x.k, .int .i64 y.x.n, .string (st y.x.s)], .pointer (some ⟨B, 0, none⟩)] w fun e w' => e = .returned (.bool (decide (y.nm = s))) ∧ Below w.heap.size w w' := by
  have hbe := st_beq y.nm s
  have h1 : (w.alloc (.cells #[.string (st y.nm), .int .u8 y.x.k, .int .i64 y.x.n, .string (st y.x.s)] 51)).cell? ⟨B, 0, none⟩ = some (.string (st s)) := ((bxn w _).cell (p := ⟨B, 0, none⟩) hB).trans h
  generalize decide (y.nm = s) = d at *
  go_enter Tryd.func43, Tryd.ntmps43
  go_wp2
  all_goals (go_ret; first | exact ⟨rfl, bxn _ _⟩ | exact ⟨by rw [← hbe]; rfl, bxn _ _⟩)
theorem names_at (bs : List BoundD) (j : Nat) (hj : j < bs.length) : (bs.map (·.nm)).getD j [] = (bs.getD j ⟨[], v00⟩).nm := by
  rw [List.getD_eq_getElem?_getD, List.getD_eq_getElem?_getD, List.getElem?_map, List.getElem?_eq_getElem hj]; rfl
set_option maxHeartbeats 4000000 in
theorem indexB_any {P : Nat → Prop} (v : Value) (bs : List BoundD) (s : Str) (B : Nat) (w : World) (h : SlW 4 w P v (bs.map clB)) (hb : w.cell? ⟨B, 0, none⟩ = some (.string (st s))) (hB : B < w.heap.size) :
    Calls Tryd.prog 54 #[v, .func (.func 43) #[] #[.pointer (some ⟨B, 0, none⟩)]] w fun e w' => e = .returned (.int .i64 (idxS (bs.map (·.nm)) s)) ∧ Below w.heap.size w w' := by
  obtain ⟨a1, c1, rfl⟩ := h.shape
  obtain ⟨-, l1, m1, r1⟩ := h.at ⟨[], v00⟩
  simp only [List.length_map] at *
  have R1 : Hid (∀ i, i < bs.length → ∃ b off, a1 = some ⟨b, off, none⟩ ∧ b < w.heap.size ∧ ∀ j, j < 4 → w.cell? ⟨b, off + (i * 4 + j), none⟩ = (clB (bs.getD i ⟨[], v00⟩))[j]?) := r1
  have HBX : Hid (w.cell? ⟨B, 0, none⟩ = some (.string (st s))) := hb
  clear r1 h hb
  have hnn : (bs.length : Int) ≤ 9223372036854775807 := by omega
  generalize hAN : idxS (bs.map (·.nm)) s = ans
  have HA : Hid (∀ r, idxS (bs.map (·.nm)) s = r → ans = r) := fun r hr => hAN.symm.trans hr
  clear hAN
  go_enter Tryd.func54, Tryd.ntmps54
  go_wp2
  go_loopw [5, 8] (fun _ v wr => ∃ i : Nat, v = .int .i64 i ∧ i ≤ bs.length ∧ Hid (Below w.heap.size w wr) ∧ Hid (∀ j, j < i → (bs.getD j ⟨[], v00⟩).nm ≠ s)) (fun _ v _ => (bs.length - intOf v).toNat)
  case atStart => exact ⟨0, rfl, Nat.zero_le _, Below.refl _ _, fun j hj => absurd hj (Nat.not_lt_zero _)⟩
  case round =>
    obtain ⟨i, rfl, hi, HB, NO⟩ := hrel
    by_cases hlt : i < bs.length
    · have hiz : (i : Int) < bs.length := by omega
      obtain ⟨b1, o1, rfl, hb1, q1⟩ := R1.out i hlt
      have HX : Hid ((bs.getD i ⟨[], v00⟩).nm = s → ans = i) := fun he => HA.out _ (idxS_at (by rw [List.length_map]; exact hlt) ((names_at bs i hlt).trans he) fun j hj => by rw [names_at bs j (by omega)]; exact NO.out j hj)
      have NX : Hid ((bs.getD i ⟨[], v00⟩).nm ≠ s → ∀ j, j < i + 1 → (bs.getD j ⟨[], v00⟩).nm ≠ s) := fun he j hj => by
        rcases Nat.lt_or_eq_of_le (Nat.le_of_lt_succ hj) with hj | rfl
        · exact NO.out j hj
        · exact he
      have d0 : wr.cell? ⟨b1, o1 + i * 4, none⟩ = (clB (bs.getD i ⟨[], v00⟩))[0]? := (HB.out.cell (p := ⟨b1, o1 + i * 4, none⟩) hb1).trans (q1 0 (by decide))
      have d1 : wr.cell? ⟨b1, o1 + i * 4 + 1, none⟩ = (clB (bs.getD i ⟨[], v00⟩))[1]? := (HB.out.cell (p := ⟨b1, o1 + i * 4 + 1, none⟩) hb1).trans (q1 1 (by decide))
      have d2 : wr.cell? ⟨b1, o1 + i * 4 + 2, none⟩ = (clB (bs.getD i ⟨[], v00⟩))[2]? := (HB.out.cell (p := ⟨b1, o1 + i * 4 + 2, none⟩) hb1).trans (q1 2 (by decide))
      have d3 : wr.cell? ⟨b1, o1 + i * 4 + 3, none⟩ = (clB (bs.getD i ⟨[], v00⟩))[3]? := (HB.out.cell (p := ⟨b1, o1 + i * 4 + 3, none⟩) hb1).trans (q1 3 (by decide))
      clear q1
      generalize bs.getD i ⟨[], v00⟩ = c at *
      simp only [clB, List.getElem?_cons_zero, List.getElem?_cons_succ] at d0 d1 d2 d3
      have CF := fb_any c s B wr ((HB.out.cell (p := ⟨B, 0, none⟩) hB).trans HBX.out) (Nat.lt_of_lt_of_le hB HB.out.size)
      have HE := enters43 #[.agg #[.string (st c.nm), .int .u8 c.x.k, .int .i64 c.x.n, .string (st c.x.s)], .pointer (some ⟨B, 0, none⟩)] wr
      by_cases he : c.nm = s
      · have E : Hid (ans = i) := HX.out he
        rw [decide_eq_true he] at CF
        clear he HX NX
        go_wp2_with (refine CF.mono ?_; rintro e w2 ⟨rfl, hb2⟩; have B2 : Hid (Below w.heap.size w w2) := bt HB.out hb2; clear CF hb2)
        go_ret
        exact ⟨by rw [E.out]; rfl, B2.out⟩
      · have N2 : Hid (∀ j, j < i + 1 → (bs.getD j ⟨[], v00⟩).nm ≠ s) := NX.out he
        rw [decide_eq_false he] at CF
        clear he HX NX
        go_wp2_with (refine CF.mono ?_; rintro e w2 ⟨rfl, hb2⟩; have B2 : Hid (Below w.heap.size w w2) := bt HB.out hb2; clear CF hb2)
        go_roundw
        case rel => exact ⟨i + 1, by simp, by omega, B2.out, N2.out⟩
        case measure => simp [intOf]; omega
    · have hiz : ¬ (i : Int) < bs.length := by omega
      have E : Hid (ans = -1) := HA.out _ (idxS_no fun j hj => by rw [List.length_map] at hj; rw [names_at bs j hj]; exact NO.out j (by omega))
      go_wp2
      go_ret
      exact ⟨by rw [E.out]; rfl, HB.out⟩
set_option maxHeartbeats 400000 in
theorem contains_any {P : Nat → Prop} (v : Value) (bs : List BoundD) (s : Str) (B : Nat) (w : World) (h : SlW 4 w P v (bs.map clB)) (hb : w.cell? ⟨B, 0, none⟩ = some (.string (st s))) (hB : B < w.heap.size) :
    Calls Tryd.prog 44 #[v, .func (.func 43) #[] #[.pointer (some ⟨B, 0, none⟩)]] w fun e w' => e = .returned (.bool (decide (s ∈ bs.map (·.nm)))) ∧ Below w.heap.size w w' := by
  have C := indexB_any v bs s B w h hb hB
  obtain ⟨a1, c1, rfl⟩ := h.shape
  simp only [List.length_map] at *
  clear h hb
  have hd : decide (s ∈ bs.map (·.nm)) = decide (0 ≤ idxS (bs.map (·.nm)) s) := decide_eq_decide.2 (idxS_mem _ _).symm
  rw [hd]
  clear hd
  have ho := idxS_or (bs.map (·.nm)) s
  generalize idxS (bs.map (·.nm)) s = ix at *
  have hge : (if (0 : Int) ≤ ix then true else false) = decide (0 ≤ ix) := by by_cases h : 0 ≤ ix <;> simp [h]
  rcases ho with rfl | hi
  · go_enter Tryd.func44, Tryd.ntmps44
    go_wp2_with (go_at_call 54; refine C.mono ?_; rintro e w2 ⟨rfl, hb2⟩; have B2 : Hid (Below w.heap.size w w2) := hb2; clear C hb2)
    go_ret
    exact ⟨rfl, B2.out⟩
  · have hd : decide (0 ≤ ix) = true := decide_eq_true hi
    rw [hd]
    go_enter Tryd.func44, Tryd.ntmps44
    go_wp2_with (go_at_call 54; refine C.mono ?_; rintro e w2 ⟨rfl, hb2⟩; have B2 : Hid (Below w.heap.size w w2) := hb2; clear C hb2)
    all_goals (go_ret; exact ⟨rfl, B2.out⟩)
end Go.Proofs.YtbbjhiijialfoaaDoor
