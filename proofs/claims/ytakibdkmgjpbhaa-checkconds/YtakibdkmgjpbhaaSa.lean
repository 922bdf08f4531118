/- Once, an expression, tests: what is asked against a scope. -/
import Derived.Test.YtakibdkmgjpbhaaAt
namespace Go.Proofs.Ytakibdkmgjpbhaa
open Go.RowKit
set_option linter.unusedVariables false
set_option linter.unusedSimpArgs false
set_option maxRecDepth 20000

theorem NV.below {w w' : World} {v : Value} {zs : List Str} {B : Nat} (h : NV w v zs) (hb : Below B w w') (hB : ∀ b, v = .map (some b) → b < B) : NV w' v zs := by
  rcases h with h | ⟨b, n, rfl, h⟩
  · exact .inl h
  · exact .inr ⟨b, n, rfl, h.below hb (hB b rfl)⟩
theorem NV.bl {w w' : World} {v : Value} {zs : List Str} (h : NV w v zs) (hb : Below w.heap.size w w') : NV w' v zs := by
  rcases h with h | ⟨b, n, rfl, h⟩
  · exact .inl h
  · exact .inr ⟨b, n, rfl, h.below hb h.lt⟩
theorem one_s (w : World) (x : Str) : SlW 1 (w.alloc (.cells #[.string (st x)] 9)) (fun _ => True) (.slice (some ⟨w.heap.size, 0, none⟩) 1 1) ([x].map clS) :=
  ⟨_, 1, rfl, Nat.le_refl _, by decide, .inr ⟨w.heap.size, 0, rfl, by simp, trivial, fun i j hi hj => by
    have hi0 : i = 0 := by simpa using hi
    have hj0 : j = 0 := by omega
    subst hi0; subst hj0
    go_simp; rfl⟩⟩
set_option maxHeartbeats 1600000 in
theorem once_any (av : Value) (b n : Nat) (has met : List Str) (s : Str) (w : World) (hA : NV w av has) (h : NS w b n met) (hn : n ≤ 100000) (hl : s.length ≤ 9223372036854775807) :
    Calls Try.prog 45 #[av, .map (some b), .string (st s)] w fun e w' => e = .returned (.int .i64 (onceE has met s)) ∧ (onceE has met s = 0 → NS w' b (n + 1) (met ++ [s])) ∧ Fx b w w' := by
  have CH := has_any av has s w hA hl
  have CA : Hid (∀ W, NS W b n met → Calls Try.prog 30 #[.map (some b), .string (st s)] W fun e w' => e = .returned (.bool (decide (s ∉ met))) ∧ NS w' b (n + 1) (addZ met s) ∧ Fx b W w') := fun W hW => add_any b n met s W hW (by omega) hl
  have HN : Hid (NS w b n met) := h
  clear h hA
  by_cases h1 : s ∈ has
  · rw [decide_eq_true h1] at CH
    by_cases h2 : s ∈ met
    · have e1 : onceE has met s = 7 := by unfold onceE; rw [if_neg (by simp [h1]), if_pos h2]
      have e2 : decide (s ∉ met) = false := decide_eq_false (by simp [h2])
      rw [e1]; rw [e2] at CA
      clear e1 e2 h1 h2
      go_enter Try.func45, Try.ntmps45
      go_wp2_with (first
        | (go_at_call 44; refine CH.mono ?_; rintro e w2 ⟨rfl, hb2⟩; have HB : Hid (Below w.heap.size w w2) := hb2; have CA2 := CA.out w2 (HN.out.below hb2 HN.out.lt); clear hb2 CH)
        | (go_at_call 30; refine CA2.mono ?_; rintro e w3 ⟨rfl, hn3, hf3⟩; have F3 : Hid (Fx b w2 w3) := hf3; clear CA2 hn3 hf3))
      all_goals (go_ret; exact ⟨rfl, (fun h => by cases h), (Fx.of HB.out b).tr F3.out⟩)
    · have e1 : onceE has met s = 0 := by unfold onceE; rw [if_neg (by simp [h1]), if_neg h2]
      have e2 : decide (s ∉ met) = true := decide_eq_true h2
      have e3 : addZ met s = met ++ [s] := if_neg h2
      rw [e1]; rw [e2, e3] at CA
      clear e1 e2 e3 h1 h2
      go_enter Try.func45, Try.ntmps45
      go_wp2_with (first
        | (go_at_call 44; refine CH.mono ?_; rintro e w2 ⟨rfl, hb2⟩; have HB : Hid (Below w.heap.size w w2) := hb2; have CA2 := CA.out w2 (HN.out.below hb2 HN.out.lt); clear hb2 CH)
        | (go_at_call 30; refine CA2.mono ?_; rintro e w3 ⟨rfl, hn3, hf3⟩; have F3 : Hid (Fx b w2 w3) := hf3; have N3 : Hid (NS w3 b (n + 1) (met ++ [s])) := hn3; clear CA2 hn3 hf3))
      all_goals (go_ret; exact ⟨rfl, (fun _ => N3.out), (Fx.of HB.out b).tr F3.out⟩)
  · rw [decide_eq_false h1] at CH
    have e1 : onceE has met s = 19 := if_pos h1
    rw [e1]
    clear e1 h1
    go_enter Try.func45, Try.ntmps45
    go_wp2_with (go_at_call 44; refine CH.mono ?_; rintro e w2 ⟨rfl, hb2⟩; have HB : Hid (Below w.heap.size w w2) := hb2; clear hb2 CH)
    all_goals (go_ret; exact ⟨rfl, (fun h => by cases h), Fx.of HB.out b⟩)
theorem any_take {α : Type} {p : α → Bool} {l : List α} {d : α} {i : Nat} (hlt : i < l.length) (h : p (l.getD i d) = true) : l.any p = true := by
  rw [List.any_eq_true]
  rw [List.getD_eq_getElem?_getD, List.getElem?_eq_getElem hlt] at h
  exact ⟨_, List.getElem_mem hlt, h⟩
theorem any_none {α : Type} {p : α → Bool} {l : List α} {d : α} (h : ∀ j, j < l.length → p (l.getD j d) = false) : l.any p = false := by
  rw [Bool.eq_false_iff]
  intro hc
  rw [List.any_eq_true] at hc
  obtain ⟨x, hx, hp⟩ := hc
  obtain ⟨j, hj, rfl⟩ := List.mem_iff_getElem.1 hx
  have := h j hj
  rw [List.getD_eq_getElem?_getD, List.getElem?_eq_getElem hj] at this
  exact absurd hp (by simpa using this)
set_option maxHeartbeats 4000000 in
theorem expr_any {P : Nat → Prop} (av : Value) (b n : Nat) (zs : List Str) (v1 : Value) (xs : List ItemD) (w : World) (h : NS w b n zs) (h1 : SlW 5 w P v1 (xs.map clI)) (hl : ∀ x ∈ xs, x.v.length ≤ 9223372036854775807) :
    Calls Try.prog 39 #[.agg #[av, .map (some b)], v1] w fun e w' => e = .returned (.int .i64 (exE zs xs)) ∧ Below w.heap.size w w' := by
  obtain ⟨a1, c1, rfl⟩ := h1.shape
  obtain ⟨-, l1, m1, r1⟩ := h1.row
  simp only [List.length_map] at *
  have R1 : Hid (∀ i, i < xs.length → ∃ b off, a1 = some ⟨b, off, none⟩ ∧ b < w.heap.size ∧ ∀ j, j < 5 → w.cell? ⟨b, off + (i * 5 + j), none⟩ = ((xs.map clI).getD i [])[j]?) := r1
  have HL : Hid (∀ i, i < xs.length → (xs.getD i ⟨0, v0, []⟩).v.length ≤ 9223372036854775807) := fun i hi => by
    rw [List.getD_eq_getElem?_getD, List.getElem?_eq_getElem hi]; exact hl _ (List.getElem_mem hi)
  have HN : Hid (NS w b n zs) := h
  clear r1 h1 h hl
  have hnn : (xs.length : Int) ≤ 9223372036854775807 := by omega
  go_enter Try.func39, Try.ntmps39
  go_wp2
  go_loopw [9] (fun v wr => ∃ i : Nat, v = .int .i64 i ∧ i ≤ xs.length ∧ Hid (Below w.heap.size w wr) ∧ wr.cell? ⟨w.heap.size, 1, none⟩ = some (.map (some b)) ∧ w.heap.size < wr.heap.size ∧ Hid (∀ j, j < i → itemE zs (xs.getD j ⟨0, v0, []⟩) = false)) (fun v _ => (xs.length - intOf v).toNat)
  case atStart => exact ⟨0, rfl, Nat.zero_le _, bxn _ _, by go_simp, by simp, fun j hj => absurd hj (Nat.not_lt_zero _)⟩
  case round =>
    obtain ⟨i, rfl, hi, HB, hbx, hsz, NO⟩ := hrel
    by_cases hlt : i < xs.length
    · have hiz : (i : Int) < xs.length := by omega
      obtain ⟨b1, o1, rfl, hb1, q1⟩ := R1.out i hlt
      rw [getD_map clI xs i ⟨0, v0, []⟩ hlt] at q1
      have HX : Hid (itemE zs (xs.getD i ⟨0, v0, []⟩) = true → exE zs xs = 20) := fun hx => by unfold exE; rw [if_pos (any_take hlt hx)]
      have NX : Hid (itemE zs (xs.getD i ⟨0, v0, []⟩) = false → ∀ j, j < i + 1 → itemE zs (xs.getD j ⟨0, v0, []⟩) = false) := fun hx j hj => by
        rcases Nat.lt_or_eq_of_le (Nat.le_of_lt_succ hj) with hj | rfl
        · exact NO.out j hj
        · exact hx
      have hxl := HL.out i hlt
      generalize xs.getD i ⟨0, v0, []⟩ = x at q1 HX NX hxl
      have c0 : wr.cell? ⟨b1, o1 + i * 5, none⟩ = some (.int .u8 x.k) := (HB.out.cell (p := ⟨b1, o1 + i * 5, none⟩) hb1).trans (q1 0 (by decide))
      have c1 : wr.cell? ⟨b1, o1 + i * 5 + 1, none⟩ = some (.int .u8 x.x.k) := (HB.out.cell (p := ⟨b1, o1 + i * 5 + 1, none⟩) hb1).trans (q1 1 (by decide))
      have c2 : wr.cell? ⟨b1, o1 + i * 5 + 2, none⟩ = some (.int .i64 x.x.n) := (HB.out.cell (p := ⟨b1, o1 + i * 5 + 2, none⟩) hb1).trans (q1 2 (by decide))
      have c3 : wr.cell? ⟨b1, o1 + i * 5 + 3, none⟩ = some (.string (st x.x.s)) := (HB.out.cell (p := ⟨b1, o1 + i * 5 + 3, none⟩) hb1).trans (q1 3 (by decide))
      have c4 : wr.cell? ⟨b1, o1 + i * 5 + 4, none⟩ = some (.string (st x.v)) := (HB.out.cell (p := ⟨b1, o1 + i * 5 + 4, none⟩) hb1).trans (q1 4 (by decide))
      clear q1
      have HW1 : Hid (Below w.heap.size w (wr.alloc (.cells #[.int .u8 x.k, .int .u8 x.x.k, .int .i64 x.x.n, .string (st x.x.s), .string (st x.v)] 93))) := bt HB.out (bxn _ _)
      have CH := has_any (.map (some b)) zs x.v _ (.inr ⟨b, n, rfl, HN.out.below HW1.out HN.out.lt⟩) hxl
      have hbx2 : (wr.alloc (.cells #[.int .u8 x.k, .int .u8 x.x.k, .int .i64 x.x.n, .string (st x.x.s), .string (st x.v)] 93)).cell? ⟨w.heap.size, 1, none⟩ = some (.map (some b)) := ((bxn wr _).cell (p := ⟨w.heap.size, 1, none⟩) hsz).trans hbx
      by_cases hk : x.k = 1
      · rw [hk] at c0 CH hbx2 HW1
        by_cases hv : x.v ∈ zs
        · rw [decide_eq_true hv] at CH
          have N2 : Hid (∀ j, j < i + 1 → itemE zs (xs.getD j ⟨0, v0, []⟩) = false) := NX.out (by unfold itemE; simp [hv])
          clear hv HX NX
          go_wp2_with (go_at_call 44; refine CH.mono ?_; rintro e w2 ⟨rfl, hb2⟩; have B2 : Hid (Below w.heap.size w w2) := bt HW1.out hb2; have x2 : w2.cell? ⟨w.heap.size, 1, none⟩ = some (.map (some b)) := (hb2.cell (p := ⟨w.heap.size, 1, none⟩) (by simp; omega)).trans hbx2; have z2 : w.heap.size < w2.heap.size := (by (have := hb2.size; simp at this; omega)); clear CH hb2)
          go_roundw
          case rel => exact ⟨i + 1, by simp, by omega, B2.out, x2, z2, N2.out⟩
          case measure => simp [intOf]; omega
        · rw [decide_eq_false hv] at CH
          have E2 : Hid (exE zs xs = 20) := HX.out (by unfold itemE; simp [hv, hk])
          clear hv HX NX
          go_wp2_with (go_at_call 44; refine CH.mono ?_; rintro e w2 ⟨rfl, hb2⟩; have B2 : Hid (Below w.heap.size w w2) := bt HW1.out hb2; clear CH hb2)
          go_ret
          exact ⟨by rw [E2.out]; rfl, B2.out⟩
      · have N2 : Hid (∀ j, j < i + 1 → itemE zs (xs.getD j ⟨0, v0, []⟩) = false) := NX.out (by unfold itemE; simp [hk])
        clear HX NX CH
        go_wp2
        go_roundw
        case rel => exact ⟨i + 1, by simp, by omega, HW1.out, hbx2, by simp; omega, N2.out⟩
        case measure => simp [intOf]; omega
    · have hiz : ¬ (i : Int) < xs.length := by omega
      have E0 : Hid (exE zs xs = 0) := by unfold exE Hid; rw [any_none (d := ⟨0, v0, []⟩) fun j hj => NO.out j (by omega)]; rfl
      go_wp2
      go_ret
      exact ⟨by rw [E0.out]; rfl, HB.out⟩
theorem Fx.low {b B : Nat} {w w1 w2 : World} (h : Fx b w w1) (k : Below B w1 w2) (hB : w.heap.size ≤ B) : Fx b w w2 :=
  ⟨k.os.trans h.os, k.tape.trans h.tape, k.output.trans h.output, Nat.le_trans h.size k.size, fun i hi hn => (k.block i (Nat.lt_of_lt_of_le hi hB)).trans (h.block i hi hn)⟩
/-- What tests tell. -/
def TP (w : World) (b m : Nat) (zs : List Str) (r : Except Int (List Str)) (e : Ending) (w' : World) : Prop := Fx b w w' ∧ match r with
  | .error er => e = .returned (.tuple #[.slice none 0 0, .int .i64 er])
  | .ok f => ∃ v, e = .returned (.tuple #[v, .int .i64 0]) ∧ OwnS w' w.heap.size v f ∧ NS w' b m (zs ++ f)
theorem st_nil (x : Str) : (st x).toList.isEmpty = decide (x = []) := by
  have : (st x).toList = x := by rw [Go.ByteArray.toList_eq]; exact st_list x
  rw [this]; cases x <;> simp
set_option maxHeartbeats 8000000 in
theorem tests_any (K : Nat) (av : Value) (b n : Nat) (zs : List Str) (v1 : Value) (ts : List TestD) (w : World) (h : NS w b n zs) (h1 : SlW 5 w (fun k => k < K) v1 (ts.map clT)) (hKb : K ≤ b) (hn : n ≤ 10000) (hts : ts.length ≤ 12) (hl : ∀ x ∈ ts, x.v.length ≤ 60) :
    Calls Try.prog 46 #[.agg #[av, .map (some b)], v1] w (TP w b (n + ts.length) zs (tstR zs ts)) := by
  have HR : Hid (∀ e w', TP w b (n + ts.length) zs (tstR zs ts) e w' ↔ TP w b (n + ts.length) zs (tstR zs ts) e w') := fun _ _ => Iff.rfl
  generalize hPO : TP w b (n + ts.length) zs (tstR zs ts) = PO at *
  obtain ⟨a1, c1, rfl⟩ := h1.shape
  have HK : Hid (∀ i k off, i < ts.length → a1 = some ⟨k, off, none⟩ → k < K) := fun i k off hi e => by
    obtain ⟨a', cap', e1, h2, h3, h4⟩ := h1
    rcases h4 with h4 | ⟨b', off', e', hb, hp, hc⟩
    · rw [List.map_eq_nil_iff] at h4; subst h4; simp at hi
    · obtain ⟨e1, -, -⟩ := Value.slice.inj e1
      rw [e', e] at e1
      obtain rfl : k = b' := by injection e1 with e1; injection e1
      exact hp
  obtain ⟨-, l1, m1, r1⟩ := h1.row
  simp only [List.length_map] at *
  have R1 : Hid (∀ i, i < ts.length → ∃ b off, a1 = some ⟨b, off, none⟩ ∧ b < w.heap.size ∧ ∀ j, j < 5 → w.cell? ⟨b, off + (i * 5 + j), none⟩ = ((ts.map clT).getD i [])[j]?) := r1
  have HL : Hid (∀ i, i < ts.length → (ts.getD i ⟨0, [], v0⟩).v.length ≤ 60) := fun i hi => by
    rw [List.getD_eq_getElem?_getD, List.getElem?_eq_getElem hi]; exact hl _ (List.getElem_mem hi)
  have HN : Hid (NS w b n zs) := h
  have HPE : Hid (∀ er w', tstR zs ts = .error er → Fx b w w' → PO (.returned (.tuple #[.slice none 0 0, .int .i64 er])) w') := fun er w' he hf => by rw [← hPO]; exact ⟨hf, by rw [he]⟩
  have HPO : Hid (∀ f v w', tstR zs ts = .ok f → Fx b w w' → OwnS w' w.heap.size v f → NS w' b (n + ts.length) (zs ++ f) → PO (.returned (.tuple #[v, .int .i64 0])) w') := fun f v w' he hf ho hn => by rw [← hPO]; exact ⟨hf, by rw [he]; exact ⟨v, rfl, ho, hn⟩⟩
  clear r1 h1 h hl HR hPO
  have hnn : (ts.length : Int) ≤ 9223372036854775807 := by omega
  go_enter Try.func46, Try.ntmps46
  go_wp2
  go_loopw [6, 11] (fun v6 v wr => ∃ (i : Nat) (f : List Str), v = .int .i64 i ∧ i ≤ ts.length ∧ Hid (Fx b w wr) ∧ wr.cell? ⟨w.heap.size, 1, none⟩ = some (.map (some b)) ∧ w.heap.size < wr.heap.size ∧ Hid (runE (tstS zs) [] (ts.take i) = .ok f) ∧ Hid (OwnS wr (w.heap.size + 1) v6 f) ∧ Hid (NS wr b (n + i) (zs ++ f)) ∧ Hid (f.length ≤ i)) (fun _ v _ => (ts.length - intOf v).toNat)
  case atStart => exact ⟨0, [], rfl, Nat.zero_le _, Fx.of (bxn _ _) b, by go_simp, by simp, rfl, OwnS.nil _ _, by rw [List.append_nil]; exact HN.out.below (bxn _ _) HN.out.lt, Nat.le_refl _⟩
  case round =>
    obtain ⟨i, f, rfl, hi, HF, hbx, hsz, HRU, HO, HNS, HFL⟩ := hrel
    have hbw := HN.out.lt
    by_cases hlt : i < ts.length
    · have hiz : (i : Int) < ts.length := by omega
      obtain ⟨b1, o1, rfl, hb1, q1⟩ := R1.out i hlt
      have hbk := HK.out i b1 o1 hlt rfl
      rw [getD_map clT ts i ⟨0, [], v0⟩ hlt] at q1
      have HNX := runE_next (step := tstS zs) ⟨0, [], v0⟩ hlt HRU.out
      have HER : Hid (∀ er, tstS zs f (ts.getD i ⟨0, [], v0⟩) = .error er → tstR zs ts = .error er) := fun er he => runE_err ⟨0, [], v0⟩ hlt HRU.out he
      have HNY : Hid (runE (tstS zs) [] (ts.take (i + 1)) = tstS zs f (ts.getD i ⟨0, [], v0⟩)) := HNX
      clear HNX
      have hxl := HL.out i hlt
      generalize ts.getD i ⟨0, [], v0⟩ = x at q1 HER HNY hxl
      have cc : ∀ j u, (clT x)[j]? = some u → j < 5 → wr.cell? ⟨b1, o1 + (i * 5 + j), none⟩ = some u := fun j u hu hj => HF.out.cell (by rw [q1 j hj]; exact hu) (by simp; omega)
      have c0 : wr.cell? ⟨b1, o1 + i * 5, none⟩ = some (.int .u8 x.p) := cc 0 _ rfl (by decide)
      have c1 : wr.cell? ⟨b1, o1 + i * 5 + 1, none⟩ = some (.string (st x.v)) := cc 1 _ rfl (by decide)
      have c2 : wr.cell? ⟨b1, o1 + i * 5 + 2, none⟩ = some (.int .u8 x.x.k) := cc 2 _ rfl (by decide)
      have c3 : wr.cell? ⟨b1, o1 + i * 5 + 3, none⟩ = some (.int .i64 x.x.n) := cc 3 _ rfl (by decide)
      have c4 : wr.cell? ⟨b1, o1 + i * 5 + 4, none⟩ = some (.string (st x.x.s)) := cc 4 _ rfl (by decide)
      clear q1 cc
      have hse := st_nil x.v
      generalize hbxo : (Obj.cells #[.int .u8 x.p, .string (st x.v), .int .u8 x.x.k, .int .i64 x.x.n, .string (st x.x.s)] 66) = bo
      have hbx2 : (wr.alloc bo).cell? ⟨w.heap.size, 1, none⟩ = some (.map (some b)) := ((bxn wr _).cell (p := ⟨w.heap.size, 1, none⟩) hsz).trans hbx
      have F1 : Hid (Fx b w (wr.alloc bo)) := HF.out.al _
      have N1 : Hid (NS (wr.alloc bo) b (n + i) (zs ++ f)) := HNS.out.below (bxn _ _) HNS.out.lt
      have O1 : Hid (OwnS (wr.alloc bo) (w.heap.size + 1) _ f) := HO.out.below (bxn _ _)
      by_cases h0 : x.v = []
      · rw [decide_eq_true h0] at hse
        have R2 : Hid (runE (tstS zs) [] (ts.take (i + 1)) = .ok f) := by rw [HNY.out]; unfold tstS; rw [if_pos (.inl h0)]; exact rfl
        clear h0
        subst hbxo
        go_wp2
        go_roundw
        case rel => exact ⟨i + 1, f, by simp, by omega, F1.out, hbx2, by simp; omega, R2.out, O1.out, N1.out.mono (by omega), Nat.le_succ_of_le HFL.out⟩
        case measure => simp [intOf]; omega
      · rw [decide_eq_false h0] at hse
        have CH := has_any (.map (some b)) (zs ++ f) x.v _ (.inr ⟨b, n + i, rfl, N1.out⟩) (by omega)
        by_cases hin : x.v ∈ zs ++ f
        · rw [decide_eq_true hin] at CH
          have R2 : Hid (runE (tstS zs) [] (ts.take (i + 1)) = .ok f) := by rw [HNY.out]; unfold tstS; rw [if_pos (.inr hin)]; exact rfl
          clear h0 hin
          subst hbxo
          go_wp2_with (go_at_call 44; refine CH.mono ?_; rintro e w2 ⟨rfl, hb2⟩; have F2 : Hid (Fx b w w2) := F1.out.bl hb2; have N2 : Hid (NS w2 b (n + i) (zs ++ f)) := N1.out.below hb2 N1.out.lt; have O2 : Hid (OwnS w2 (w.heap.size + 1) _ f) := O1.out.below hb2; have x2 : w2.cell? ⟨w.heap.size, 1, none⟩ = some (.map (some b)) := (hb2.cell (p := ⟨w.heap.size, 1, none⟩) (by simp; omega)).trans hbx2; have z2 : w.heap.size < w2.heap.size := (by (have := hb2.size; simp at this; omega)); clear CH hb2)
          go_roundw
          case rel => exact ⟨i + 1, f, by simp, by omega, F2.out, x2, z2, R2.out, O2.out, N2.out.mono (by omega), Nat.le_succ_of_le HFL.out⟩
          case measure => simp [intOf]; omega
        · rw [decide_eq_false hin] at CH
          by_cases hp : x.p = 0
          · have R2 : Hid (runE (tstS zs) [] (ts.take (i + 1)) = .ok (f ++ [x.v])) := by rw [HNY.out]; unfold tstS; rw [if_neg (by intro h; exact h.elim h0 hin), if_neg (by simp [hp])]; exact rfl
            have hadd : addZ (zs ++ f) x.v = zs ++ (f ++ [x.v]) := by rw [← List.append_assoc]; exact if_neg hin
            have hdn : decide (x.v ∉ zs ++ f) = true := decide_eq_true hin
            have CA : Hid (∀ W, NS W b (n + i) (zs ++ f) → Calls Try.prog 30 #[.map (some b), .string (st x.v)] W fun e w' => e = .returned (.bool true) ∧ NS w' b (n + i + 1) (zs ++ (f ++ [x.v])) ∧ Fx b W w') := fun W hW => by
              have := add_any b (n + i) (zs ++ f) x.v W hW (by omega) (by omega)
              rw [hadd, hdn] at this; exact this
            clear h0 hin hadd hdn
            subst hbxo
            rw [hp] at c0 CH hbx2 F1 N1 O1
            go_wp2_with (first
              | (go_at_call 44; refine CH.mono ?_; rintro e w2 ⟨rfl, hb2⟩; have F2 : Hid (Fx b w w2) := F1.out.bl hb2; have N2 : Hid (NS w2 b (n + i) (zs ++ f)) := N1.out.below hb2 N1.out.lt; have O2 : Hid (OwnS w2 (w.heap.size + 1) _ f) := O1.out.below hb2; have x2 : w2.cell? ⟨w.heap.size, 1, none⟩ = some (.map (some b)) := (hb2.cell (p := ⟨w.heap.size, 1, none⟩) (by simp; omega)).trans hbx2; have z2 : wr.heap.size < w2.heap.size := (by (have := hb2.size; simp at this; omega)); have p2 : w2.cell? ⟨wr.heap.size, 0, none⟩ = some (.int .u8 0) := (hb2.cell (p := ⟨wr.heap.size, 0, none⟩) (by simp)).trans (by go_simp); have s2 : w2.cell? ⟨wr.heap.size, 1, none⟩ = some (.string (st x.v)) := (hb2.cell (p := ⟨wr.heap.size, 1, none⟩) (by simp)).trans (by go_simp); have CA2 := CA.out w2 N2.out; clear CH hb2)
              | (go_at_call 30; refine CA2.mono ?_; rintro e w3 ⟨rfl, hn3, hf3⟩; have N3 : Hid (NS w3 b (n + i + 1) (zs ++ (f ++ [x.v]))) := hn3; have F3 : Hid (Fx b w2 w3) := hf3; have O3 : Hid (OwnS w3 (w.heap.size + 1) _ f) := O2.out.grow hf3 (by omega); have x3 : w3.cell? ⟨w.heap.size, 1, none⟩ = some (.map (some b)) := hf3.cell x2 (by simp; omega); have s3 : w3.cell? ⟨wr.heap.size, 1, none⟩ = some (.string (st x.v)) := hf3.cell s2 (by simp; omega); have z3 : wr.heap.size < w3.heap.size := Nat.lt_of_lt_of_le z2 hf3.size; clear CA2 hn3 hf3)
              | (at_builtin; refine wp_app_ss rfl _ _ rfl (w.heap.size + 1) _ f [x.v] rfl (O3.out.below (bxn _ _)) _ rfl (one_s _ _) (by have := HFL.out; simp; omega) (by simp; omega) ?_; intro v5 w5 o5 g5 b5))
            have O5 : Hid (OwnS w5 (w.heap.size + 1) v5 (f ++ [x.v])) := o5
            have hb35 : Below (w.heap.size + 1) w3 w5 := ((bxn w3 _).mono (by omega)).trans b5
            have F5 : Hid (Fx b w w5) := (F2.out.tr F3.out).low hb35 (by omega)
            have x5 : w5.cell? ⟨w.heap.size, 1, none⟩ = some (.map (some b)) := (hb35.cell (p := ⟨w.heap.size, 1, none⟩) (by simp)).trans x3
            have N5 : Hid (NS w5 b (n + i + 1) (zs ++ (f ++ [x.v]))) := N3.out.below hb35 (by omega)
            go_roundw
            case rel => exact ⟨i + 1, f ++ [x.v], by simp, by omega, F5.out, x5, by have := hb35.size; omega, R2.out, O5.out, N5.out, by have := HFL.out; show _ ≤ _; simp; omega⟩
            case measure => simp [intOf]; omega
          · have E2 : Hid (tstR zs ts = .error 20) := HER.out 20 (by unfold tstS; rw [if_neg (by intro h; exact h.elim h0 hin), if_pos hp])
            clear h0 hin
            subst hbxo
            go_wp2_with (go_at_call 44; refine CH.mono ?_; rintro e w2 ⟨rfl, hb2⟩; have F2 : Hid (Fx b w w2) := F1.out.bl hb2; have x2 : w2.cell? ⟨wr.heap.size, 0, none⟩ = some (.int .u8 x.p) := (hb2.cell (p := ⟨wr.heap.size, 0, none⟩) (by simp)).trans (by go_simp); clear CH hb2)
            exact HPE.out 20 _ E2.out F2.out
    · have hiz : ¬ (i : Int) < ts.length := by omega
      have : i = ts.length := by omega
      subst this
      rw [List.take_length] at HRU
      go_wp2
      exact HPO.out f _ _ HRU.out HF.out (HO.out.mono (by omega)) HNS.out
end Go.Proofs.Ytakibdkmgjpbhaa
