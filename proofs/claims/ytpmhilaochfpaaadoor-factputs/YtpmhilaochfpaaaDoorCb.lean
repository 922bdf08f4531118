/- Whether two rows of values are one, whether two facts are: contracts of single calls. -/
import Derived.Test.YtpmhilaochfpaaaDoorCa
import Derived.BigQuiet
import Derived.Deep.QuietTactic
namespace Go.Proofs.YtpmhilaochfpaaaDoor
set_option maxRecDepth 20000
set_option maxRecDepth 20000
open Go.RowKit
set_option linter.unusedVariables false
set_option linter.unusedSimpArgs false

def fB (f : FactD) (u : Value) : Value := .agg #[.int .i64 f.t, .string (st f.c), u]
theorem below_dn {B : Nat} {w w1 : World} (h : Below B w w1) (n : Nat) : Below B w (w1.drewN n) := h.trans (drewN_b _ _)
theorem vd_ext {x y : VD} (h1 : x.k = y.k) (h2 : x.n = y.n) (h3 : x.s = y.s) : x = y := by cases x; cases y; simp at h1 h2 h3; subst h1 h2 h3; rfl
theorem st_tl (a b : Str) (h : a ≠ b) : ¬ (st a).toList = (st b).toList := by
  have := eq_list (st a) (st b)
  rw [st_list, st_list, decide_eq_false h] at this
  exact fun e => by rw [e] at this; simp at this
set_option maxHeartbeats 4000000 in
theorem vequal_any {P Q : Nat → Prop} (u v : Value) (xs ys : List VD) (w : World) (hx : SlW 3 w P u (xs.map clV)) (hy : SlW 3 w Q v (ys.map clV)) :
    Calls Tryd.prog 32 #[u, v] w fun e w' => e = .returned (.bool (decide (xs = ys))) ∧ Below w.heap.size w w' := by
  obtain ⟨a, c, rfl⟩ := hx.shape
  obtain ⟨-, l1, m1, r1⟩ := hx.at v00
  obtain ⟨b, d, rfl⟩ := hy.shape
  obtain ⟨-, l2, m2, r2⟩ := hy.at v00
  rw [List.length_map] at *
  rw [List.length_map] at *
  have RX : Hid (∀ i, i < xs.length → ∃ bb off, a = some ⟨bb, off, none⟩ ∧ bb < w.heap.size ∧ ∀ j, j < 3 → w.cell? ⟨bb, off + (i * 3 + j), none⟩ = (clV (xs.getD i v00))[j]?) := r1
  have RY : Hid (∀ i, i < ys.length → ∃ bb off, b = some ⟨bb, off, none⟩ ∧ bb < w.heap.size ∧ ∀ j, j < 3 → w.cell? ⟨bb, off + (i * 3 + j), none⟩ = (clV (ys.getD i v00))[j]?) := r2
  clear r1 r2 hx hy
  have hnx : (xs.length : Int) ≤ 9223372036854775807 := by omega
  have hny : (ys.length : Int) ≤ 9223372036854775807 := by omega
  by_cases hlen : ¬ xs.length = ys.length
  · have HF : Hid (decide (xs = ys) = false) := decide_eq_false (fun e => hlen (by rw [e]))
    have hne : ((xs.length : Int) == (ys.length : Int)) = false := by rw [beq_eq_false_iff_ne]; omega
    have hne2 : ¬ ((xs.length : Int) = (ys.length : Int)) := by omega
    go_enter Tryd.func32, Tryd.ntmps32
    go_wp2
    go_ret
    exact ⟨by rw [HF.out]; rfl, Below.refl _ _⟩
  have HL : Hid (xs.length = ys.length) := Classical.not_not.1 hlen
  rw [← HL.out]
  clear hlen
  go_enter Tryd.func32, Tryd.ntmps32
  go_wp2
  go_loopw [13] (fun i wr => ∃ k : Nat, k ≤ xs.length ∧ i = .int .i64 k ∧ Hid (∀ m, m < k → xs.getD m v00 = ys.getD m v00) ∧ Hid (Below w.heap.size w wr)) (fun i _ => xs.length - (intOf i).toNat)
  case atStart => exact ⟨0, Nat.zero_le _, rfl, (fun m hm => by omega), Below.refl _ _⟩
  case round =>
    obtain ⟨k, hk, rfl, HN, HB⟩ := hrel
    have HW : Hid (Below w.heap.size w wr) := HB.out
    by_cases hlt : k < xs.length
    · have hlt2 : (k : Int) < (xs.length : Int) := by omega
      obtain ⟨b1, o1, rfl, hb1, q1⟩ := RX.out k hlt
      obtain ⟨b2, o2, rfl, hb2, q2⟩ := RY.out k (by have := HL.out; omega)
      have c0 : wr.cell? ⟨b1, o1 + k * 3, none⟩ = (clV (xs.getD k v00))[0]? := (HW.out.cell (p := ⟨b1, o1 + k * 3, none⟩) hb1).trans (q1 0 (by decide))
      have c1 : wr.cell? ⟨b1, o1 + k * 3 + 1, none⟩ = (clV (xs.getD k v00))[1]? := (HW.out.cell (p := ⟨b1, o1 + k * 3 + 1, none⟩) hb1).trans (q1 1 (by decide))
      have c2 : wr.cell? ⟨b1, o1 + k * 3 + 2, none⟩ = (clV (xs.getD k v00))[2]? := (HW.out.cell (p := ⟨b1, o1 + k * 3 + 2, none⟩) hb1).trans (q1 2 (by decide))
      have d0 : wr.cell? ⟨b2, o2 + k * 3, none⟩ = (clV (ys.getD k v00))[0]? := (HW.out.cell (p := ⟨b2, o2 + k * 3, none⟩) hb2).trans (q2 0 (by decide))
      have d1 : wr.cell? ⟨b2, o2 + k * 3 + 1, none⟩ = (clV (ys.getD k v00))[1]? := (HW.out.cell (p := ⟨b2, o2 + k * 3 + 1, none⟩) hb2).trans (q2 1 (by decide))
      have d2 : wr.cell? ⟨b2, o2 + k * 3 + 2, none⟩ = (clV (ys.getD k v00))[2]? := (HW.out.cell (p := ⟨b2, o2 + k * 3 + 2, none⟩) hb2).trans (q2 2 (by decide))
      clear q1 q2
      have HF : Hid (xs.getD k v00 ≠ ys.getD k v00 → decide (xs = ys) = false) := fun h => decide_eq_false (ne_go v00 h)
      have HT : Hid (xs.getD k v00 = ys.getD k v00 → ∀ m, m < k + 1 → xs.getD m v00 = ys.getD m v00) := fun h m hm => by
        rcases Nat.lt_or_eq_of_le (Nat.le_of_lt_succ hm) with hm | rfl
        · exact HN.out m hm
        · exact h
      generalize xs.getD k v00 = x at *
      generalize ys.getD k v00 = y at *
      obtain ⟨k1, n1, s1⟩ := x
      obtain ⟨k2, n2, s2⟩ := y
      simp only [clV, List.getElem?_cons_zero, List.getElem?_cons_succ] at c0 c1 c2 d0 d1 d2
      by_cases e1 : k1 = k2
      · subst e1
        by_cases e2 : n1 = n2
        · subst e2
          by_cases e3 : s1 = s2
          · subst e3
            have HT2 : Hid (∀ m, m < k + 1 → xs.getD m v00 = ys.getD m v00) := HT.out rfl
            clear HT HF
            go_wp2
            go_quiet (fail)
            go_wp2
            go_roundw
            case rel => exact ⟨k + 1, by omega, by go_num, HT2, below_dn HB.out _⟩
            case measure => simp [intOf]; omega
          · have e4 := st_tl s1 s2 e3
            have E : Hid (decide (xs = ys) = false) := HF.out (by simp [e3])
            clear HT HF e3
            go_wp2
            go_quiet (fail)
            go_wp2
            go_ret; exact ⟨by rw [E.out]; rfl, below_dn HW.out _⟩
        · have E : Hid (decide (xs = ys) = false) := HF.out (by simp [e2])
          clear HT HF
          go_wp2
          go_quiet (fail)
          go_wp2
          go_ret; exact ⟨by rw [E.out]; rfl, below_dn HW.out _⟩
      · have E : Hid (decide (xs = ys) = false) := HF.out (by simp [e1])
        clear HT HF
        go_wp2
        go_quiet (fail)
        go_wp2
        go_ret; exact ⟨by rw [E.out]; rfl, below_dn HW.out _⟩
    · have hkx : k = xs.length := by omega
      subst hkx
      have E : Hid (decide (xs = ys) = true) := decide_eq_true (eq_go v00 HL.out (fun j hj => HN.out j hj) rfl)
      have hxx : ¬ ((xs.length : Int) < (xs.length : Int)) := by omega
      go_wp2
      go_ret
      exact ⟨by rw [E.out]; rfl, HW.out⟩
set_option maxHeartbeats 4000000 in
theorem same_any {P Q : Nat → Prop} (f g : FactD) (u v : Value) (w : World) (hx : SlW 3 w P u (f.vs.map clV)) (hy : SlW 3 w Q v (g.vs.map clV)) :
    Calls Tryd.prog 18 #[fB f u, fB g v] w fun e w' => e = .returned (.bool (decide (f = g))) ∧ Below w.heap.size w w' := by
  obtain ⟨t1, n1, xs⟩ := f
  obtain ⟨t2, n2, ys⟩ := g
  change SlW 3 w P u (xs.map clV) at hx
  change SlW 3 w Q v (ys.map clV) at hy
  show Calls Tryd.prog 18 #[.agg #[.int .i64 t1, .string (st n1), u], .agg #[.int .i64 t2, .string (st n2), v]] w fun e w' => e = .returned (.bool (decide ((⟨t1, n1, xs⟩ : FactD) = ⟨t2, n2, ys⟩))) ∧ Below w.heap.size w w'
  generalize hAN : decide ((⟨t1, n1, xs⟩ : FactD) = ⟨t2, n2, ys⟩) = ans
  by_cases ht : ¬ t1 = t2
  · have HF : Hid (ans = false) := hAN.symm.trans (decide_eq_false (fun e => ht (by injection e)))
    clear hAN
    obtain ⟨a, c, rfl⟩ := hx.shape
    obtain ⟨b, d, rfl⟩ := hy.shape
    go_enter Tryd.func18, Tryd.ntmps18
    go_wp2
    go_ret
    exact ⟨by rw [HF.out]; rfl, bt (bxn _ _) (bxn _ _)⟩
  have ht := Classical.not_not.1 ht
  subst ht
  by_cases hn : ¬ n1 = n2
  · have HF : Hid (ans = false) := hAN.symm.trans (decide_eq_false (fun e => hn (by injection e)))
    clear hAN
    have e4 := st_tl n1 n2 hn
    clear hn
    obtain ⟨a, c, rfl⟩ := hx.shape
    obtain ⟨b, d, rfl⟩ := hy.shape
    go_enter Tryd.func18, Tryd.ntmps18
    go_wp2
    go_ret
    exact ⟨by rw [HF.out]; rfl, bt (bxn _ _) (bxn _ _)⟩
  have hn := Classical.not_not.1 hn
  subst hn
  have HD : decide ((⟨t1, n1, xs⟩ : FactD) = ⟨t1, n1, ys⟩) = decide (xs = ys) := decide_eq_decide.2 ⟨fun e => by injection e, fun e => by rw [e]⟩
  rw [← hAN, HD]
  clear HD hAN
  have C36 : Hid (∀ W, Below w.heap.size w W → Calls Tryd.prog 32 #[u, v] W fun e w' => e = .returned (.bool (decide (xs = ys))) ∧ Below W.heap.size W w') := fun W hW => vequal_any u v xs ys W (hx.bl hW) (hy.bl hW)
  obtain ⟨a, c, rfl⟩ := hx.shape
  obtain ⟨b, d, rfl⟩ := hy.shape
  rw [List.length_map] at *
  rw [List.length_map] at *
  have CE := C36.out ((w.alloc (.cells #[.int .i64 t1, .string (st n1), .slice a xs.length c] 36)).alloc (.cells #[.int .i64 t1, .string (st n1), .slice b ys.length d] 36)) (bt (bxn _ _) (bxn _ _))
  clear hx hy C36
  generalize decide (xs = ys) = ans at *
  go_enter Tryd.func18, Tryd.ntmps18
  go_wp2_with (go_at_call 32; refine CE.mono ?_; rintro e w2 ⟨rfl, hb2⟩; have B2 : Hid (Below w.heap.size w w2) := bt (bt (bxn _ _) (bxn _ _)) hb2; clear hb2)
  go_ret
  exact ⟨rfl, B2.out⟩
set_option maxHeartbeats 4000000 in
theorem rsame_any {P Q : Nat → Prop} (f g : FactD) (u v : Value) (w : World) (hx : SlW 3 w P u (f.vs.map clV)) (hy : SlW 3 w Q v (g.vs.map clV)) :
    Calls Tryd.prog 16 #[fB f u, fB g v] w fun e w' => e = .returned (.bool (decide (f = g))) ∧ Below w.heap.size w w' := by
  obtain ⟨t1, n1, xs⟩ := f
  obtain ⟨t2, n2, ys⟩ := g
  change SlW 3 w P u (xs.map clV) at hx
  change SlW 3 w Q v (ys.map clV) at hy
  show Calls Tryd.prog 16 #[.agg #[.int .i64 t1, .string (st n1), u], .agg #[.int .i64 t2, .string (st n2), v]] w fun e w' => e = .returned (.bool (decide ((⟨t1, n1, xs⟩ : FactD) = ⟨t2, n2, ys⟩))) ∧ Below w.heap.size w w'
  generalize hAN : decide ((⟨t1, n1, xs⟩ : FactD) = ⟨t2, n2, ys⟩) = ans
  by_cases ht : ¬ t1 = t2
  · have HF : Hid (ans = false) := hAN.symm.trans (decide_eq_false (fun e => ht (by injection e)))
    clear hAN
    obtain ⟨a, c, rfl⟩ := hx.shape
    obtain ⟨b, d, rfl⟩ := hy.shape
    go_enter Tryd.func16, Tryd.ntmps16
    go_wp2
    go_ret
    exact ⟨by rw [HF.out]; rfl, bt (bxn _ _) (bxn _ _)⟩
  have ht := Classical.not_not.1 ht
  subst ht
  by_cases hn : ¬ n1 = n2
  · have HF : Hid (ans = false) := hAN.symm.trans (decide_eq_false (fun e => hn (by injection e)))
    clear hAN
    have e4 := st_tl n1 n2 hn
    clear hn
    obtain ⟨a, c, rfl⟩ := hx.shape
    obtain ⟨b, d, rfl⟩ := hy.shape
    go_enter Tryd.func16, Tryd.ntmps16
    go_wp2
    go_ret
    exact ⟨by rw [HF.out]; rfl, bt (bxn _ _) (bxn _ _)⟩
  have hn := Classical.not_not.1 hn
  subst hn
  have HD : decide ((⟨t1, n1, xs⟩ : FactD) = ⟨t1, n1, ys⟩) = decide (xs = ys) := decide_eq_decide.2 ⟨fun e => by injection e, fun e => by rw [e]⟩
  rw [← hAN, HD]
  clear HD hAN
  obtain ⟨a, c, rfl⟩ := hx.shape
  obtain ⟨-, l1, m1, r1⟩ := hx.at v00
  obtain ⟨b, d, rfl⟩ := hy.shape
  obtain ⟨-, l2, m2, r2⟩ := hy.at v00
  rw [List.length_map] at *
  rw [List.length_map] at *
  have RX : Hid (∀ i, i < xs.length → ∃ bb off, a = some ⟨bb, off, none⟩ ∧ bb < w.heap.size ∧ ∀ j, j < 3 → w.cell? ⟨bb, off + (i * 3 + j), none⟩ = (clV (xs.getD i v00))[j]?) := r1
  have RY : Hid (∀ i, i < ys.length → ∃ bb off, b = some ⟨bb, off, none⟩ ∧ bb < w.heap.size ∧ ∀ j, j < 3 → w.cell? ⟨bb, off + (i * 3 + j), none⟩ = (clV (ys.getD i v00))[j]?) := r2
  clear r1 r2 hx hy
  have hnx : (xs.length : Int) ≤ 9223372036854775807 := by omega
  have hny : (ys.length : Int) ≤ 9223372036854775807 := by omega
  obtain ⟨W0, hW0⟩ : ∃ W0, W0 = (w.alloc (.cells #[.int .i64 t1, .string (st n1), .slice a xs.length c] 36)).alloc (.cells #[.int .i64 t1, .string (st n1), .slice b ys.length d] 36) := ⟨_, rfl⟩
  have HW0 : Hid (Below w.heap.size w W0 ∧ w.heap.size + 2 ≤ W0.heap.size ∧ W0.cell? ⟨w.heap.size, 2, none⟩ = some (.slice a xs.length c) ∧ W0.cell? ⟨w.heap.size + 1, 2, none⟩ = some (.slice b ys.length d)) := by
    subst hW0; exact ⟨bt (bxn _ _) (bxn _ _), by simp, by go_simp, by go_simp⟩
  by_cases hlen : ¬ xs.length = ys.length
  · have HF : Hid (decide (xs = ys) = false) := decide_eq_false (fun e => hlen (by rw [e]))
    have hne : ((xs.length : Int) == (ys.length : Int)) = false := by rw [beq_eq_false_iff_ne]; omega
    have hne2 : ¬ ((xs.length : Int) = (ys.length : Int)) := by omega
    go_enter Tryd.func16, Tryd.ntmps16
    go_wp2
    go_ret
    exact ⟨by rw [HF.out]; rfl, bt (bxn _ _) (bxn _ _)⟩
  have HL : Hid (xs.length = ys.length) := Classical.not_not.1 hlen
  rw [← HL.out] at hW0 HW0 ⊢
  clear hlen
  go_enter Tryd.func16, Tryd.ntmps16
  go_wp2
  rw [← hW0]
  clear hW0
  go_loopw [5] (fun i wr => ∃ k : Nat, k ≤ xs.length ∧ i = .int .i64 k ∧ Hid (∀ m, m < k → xs.getD m v00 = ys.getD m v00) ∧ Hid (Below W0.heap.size W0 wr)) (fun i _ => xs.length - (intOf i).toNat)
  case atStart => exact ⟨0, Nat.zero_le _, rfl, (fun m hm => by omega), Below.refl _ _⟩
  case round =>
    obtain ⟨k, hk, rfl, HN, HB⟩ := hrel
    have HW : Hid (Below w.heap.size w wr) := HW0.out.1.trans (HB.out.mono (by have := HW0.out.2.1; omega))
    have p2 : wr.cell? ⟨w.heap.size, 2, none⟩ = some (.slice a xs.length c) := (HB.out.cell (p := ⟨w.heap.size, 2, none⟩) (by have := HW0.out.2.1; simp; omega)).trans HW0.out.2.2.1
    have g2 : wr.cell? ⟨w.heap.size + 1, 2, none⟩ = some (.slice b xs.length d) := (HB.out.cell (p := ⟨w.heap.size + 1, 2, none⟩) (by have := HW0.out.2.1; simp; omega)).trans HW0.out.2.2.2
    by_cases hlt : k < xs.length
    · have hlt2 : (k : Int) < (xs.length : Int) := by omega
      obtain ⟨b1, o1, rfl, hb1, q1⟩ := RX.out k hlt
      obtain ⟨b2, o2, rfl, hb2, q2⟩ := RY.out k (by have := HL.out; omega)
      have c0 : wr.cell? ⟨b1, o1 + k * 3, none⟩ = (clV (xs.getD k v00))[0]? := (HW.out.cell (p := ⟨b1, o1 + k * 3, none⟩) hb1).trans (q1 0 (by decide))
      have c1 : wr.cell? ⟨b1, o1 + k * 3 + 1, none⟩ = (clV (xs.getD k v00))[1]? := (HW.out.cell (p := ⟨b1, o1 + k * 3 + 1, none⟩) hb1).trans (q1 1 (by decide))
      have c2 : wr.cell? ⟨b1, o1 + k * 3 + 2, none⟩ = (clV (xs.getD k v00))[2]? := (HW.out.cell (p := ⟨b1, o1 + k * 3 + 2, none⟩) hb1).trans (q1 2 (by decide))
      have d0 : wr.cell? ⟨b2, o2 + k * 3, none⟩ = (clV (ys.getD k v00))[0]? := (HW.out.cell (p := ⟨b2, o2 + k * 3, none⟩) hb2).trans (q2 0 (by decide))
      have d1 : wr.cell? ⟨b2, o2 + k * 3 + 1, none⟩ = (clV (ys.getD k v00))[1]? := (HW.out.cell (p := ⟨b2, o2 + k * 3 + 1, none⟩) hb2).trans (q2 1 (by decide))
      have d2 : wr.cell? ⟨b2, o2 + k * 3 + 2, none⟩ = (clV (ys.getD k v00))[2]? := (HW.out.cell (p := ⟨b2, o2 + k * 3 + 2, none⟩) hb2).trans (q2 2 (by decide))
      clear q1 q2
      have HF : Hid (xs.getD k v00 ≠ ys.getD k v00 → decide (xs = ys) = false) := fun h => decide_eq_false (ne_go v00 h)
      have HT : Hid (xs.getD k v00 = ys.getD k v00 → ∀ m, m < k + 1 → xs.getD m v00 = ys.getD m v00) := fun h m hm => by
        rcases Nat.lt_or_eq_of_le (Nat.le_of_lt_succ hm) with hm | rfl
        · exact HN.out m hm
        · exact h
      generalize xs.getD k v00 = x at *
      generalize ys.getD k v00 = y at *
      obtain ⟨k1, n1, s1⟩ := x
      obtain ⟨k2, n2, s2⟩ := y
      simp only [clV, List.getElem?_cons_zero, List.getElem?_cons_succ] at c0 c1 c2 d0 d1 d2
      by_cases e1 : k1 = k2
      · subst e1
        by_cases e2 : n1 = n2
        · subst e2
          by_cases e3 : s1 = s2
          · subst e3
            have HT2 : Hid (∀ m, m < k + 1 → xs.getD m v00 = ys.getD m v00) := HT.out rfl
            clear HT HF
            go_wp2
            go_quiet (fail)
            go_wp2
            go_roundw
            case rel => exact ⟨k + 1, by omega, by go_num, HT2, below_dn HB.out _⟩
            case measure => simp [intOf]; omega
          · have e4 := st_tl s1 s2 e3
            have E : Hid (decide (xs = ys) = false) := HF.out (by simp [e3])
            clear HT HF e3
            go_wp2
            go_quiet (fail)
            go_wp2
            go_ret; exact ⟨by rw [E.out]; rfl, below_dn HW.out _⟩
        · have E : Hid (decide (xs = ys) = false) := HF.out (by simp [e2])
          clear HT HF
          go_wp2
          go_quiet (fail)
          go_wp2
          go_ret; exact ⟨by rw [E.out]; rfl, below_dn HW.out _⟩
      · have E : Hid (decide (xs = ys) = false) := HF.out (by simp [e1])
        clear HT HF
        go_wp2
        go_quiet (fail)
        go_wp2
        go_ret; exact ⟨by rw [E.out]; rfl, below_dn HW.out _⟩
    · have hkx : k = xs.length := by omega
      subst hkx
      have E : Hid (decide (xs = ys) = true) := decide_eq_true (eq_go v00 HL.out (fun j hj => HN.out j hj) rfl)
      have hxx : ¬ ((xs.length : Int) < (xs.length : Int)) := by omega
      go_wp2
      go_ret
      exact ⟨by rw [E.out]; rfl, HW.out⟩
end Go.Proofs.YtpmhilaochfpaaaDoor
