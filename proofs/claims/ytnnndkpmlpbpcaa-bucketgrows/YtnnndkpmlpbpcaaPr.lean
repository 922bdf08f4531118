/- Pairs in memory; which is ahead; the place of the first one that is as asked. -/
import Derived.Test.YtnnndkpmlpbpcaaWide
namespace Go.Proofs.Ytnnndkpmlpbpcaa
open Go.RowKit
set_option linter.unusedVariables false
set_option maxRecDepth 20000

abbrev PR := ByteArray × ByteArray
def pv (p : PR) : Value := .agg #[.string p.1, .string p.2]
def lessP (p q : PR) : Bool := Op.bytesLess p.1.toList q.1.toList || (decide (p.1.toList = q.1.toList) && Op.bytesLess p.2.toList q.2.toList)
theorem within_any (n hi : Int) (w : World) : Calls Try.prog 41 #[.int .i64 n, .int .i64 hi] w fun e w' => e = .returned (.bool (decide (0 ≤ n) && decide (n ≤ hi))) ∧ w' = w := by
  by_cases h1 : 0 ≤ n
  · have d1 : decide (0 ≤ n) = true := by simpa using h1
    go_enter Try.func41, Try.ntmps41
    go_wp2
    go_ret
    exact ⟨by rw [d1]; rfl, rfl⟩
  · have d1 : decide (0 ≤ n) = false := by simpa using h1
    go_enter Try.func41, Try.ntmps41
    go_wp2
    go_ret
    exact ⟨rfl, rfl⟩
theorem two_blocks (w : World) (o p : Obj) : Below w.heap.size w ((w.alloc o).alloc p) := ((Below.refl _ _).alloc (Nat.le_refl _) _).alloc (by simp) _
theorem one_block (w : World) (o : Obj) : Below w.heap.size w (w.alloc o) := (Below.refl _ _).alloc (Nat.le_refl _) _
theorem less_any (p q : PR) (w : World) : Calls Try.prog 30 #[pv p, pv q] w fun e w' => e = .returned (.bool (lessP p q)) ∧ Below w.heap.size w w' := by
  obtain ⟨k1, v1⟩ := p
  obtain ⟨k2, v2⟩ := q
  unfold pv lessP
  go_enter Try.func30, Try.ntmps30
  go_wp2
  all_goals go_ret
  all_goals refine ⟨?_, two_blocks _ _ _⟩
  all_goals simp_all
theorem rless_any (p q : PR) (w : World) : Calls Try.prog 31 #[pv p, pv q] w fun e w' => e = .returned (.bool (lessP p q)) ∧ Below w.heap.size w w' := by
  obtain ⟨k1, v1⟩ := p
  obtain ⟨k2, v2⟩ := q
  unfold pv lessP
  go_enter Try.func31, Try.ntmps31
  go_wp2
  all_goals go_ret
  all_goals refine ⟨?_, two_blocks _ _ _⟩
  all_goals simp_all
def longP (p : PR) : Bool := decide (48 < p.1.size) || decide (160 < p.2.size)
theorem long_any (p : PR) (w : World) : Calls Try.prog 43 #[pv p] w fun e w' => e = .returned (.bool (longP p)) ∧ Below w.heap.size w w' := by
  obtain ⟨k1, v1⟩ := p
  unfold pv longP
  by_cases h1 : 48 < k1.size
  · have h2 : (48 : Int) < k1.size := by omega
    rw [decide_eq_true h1, Bool.true_or]
    clear h1
    go_enter Try.func43, Try.ntmps43
    go_wp2
    go_ret
    exact ⟨rfl, one_block _ _⟩
  · have h2 : ¬ (48 : Int) < k1.size := by omega
    rw [decide_eq_false h1, Bool.false_or, show decide (160 < v1.size) = decide ((160 : Int) < v1.size) by rw [Bool.eq_iff_iff, decide_eq_true_eq, decide_eq_true_eq]; omega]
    clear h1
    go_enter Try.func43, Try.ntmps43
    go_wp2
    go_ret
    exact ⟨rfl, one_block _ _⟩

/-- The pairs ps lie at the address a. -/
def PV (w : World) (a : Option Addr) (ps : List PR) : Prop :=
  ps = [] ∨ ∃ b off, a = some ⟨b, off, none⟩ ∧ b < w.heap.size ∧ ∀ i, i < ps.length → w.cell? ⟨b, off + i * 2, none⟩ = some (.string (ps.getD i default).1) ∧ w.cell? ⟨b, off + i * 2 + 1, none⟩ = some (.string (ps.getD i default).2)
theorem PV.below {w w' : World} {a : Option Addr} {ps : List PR} (h : PV w a ps) (hb : Below w.heap.size w w') : PV w' a ps := by
  rcases h with rfl | ⟨b, off, rfl, hlt, hc⟩
  · exact .inl rfl
  · exact .inr ⟨b, off, rfl, Nat.lt_of_lt_of_le hlt hb.size, fun i hi => ⟨(hb.cell (p := ⟨b, off + i * 2, none⟩) hlt).trans (hc i hi).1, (hb.cell (p := ⟨b, off + i * 2 + 1, none⟩) hlt).trans (hc i hi).2⟩⟩
def Lp (p : PR) : Prop := p.1.size ≤ 1000 ∧ p.2.size ≤ 1000
theorem Lp.get {ps : List PR} (h : ∀ p ∈ ps, Lp p) (i : Nat) (hi : i < ps.length) : Lp (ps.getD i default) := by
  rw [List.getD_eq_getElem?_getD, List.getElem?_eq_getElem hi]
  exact h _ (List.getElem_mem hi)
/-- The function k, with what it has captured, asks q of a pair, in w and in all that comes behind. -/
def Asks (w : World) (k : Nat) (caps : Array Value) (q : PR → Bool) : Prop := (∀ args w', Sem.run Try.prog (callFunc k args) w' = .ok (.enter k args) w') ∧ ∀ w', Below w.heap.size w w' → ∀ p, Lp p → Calls Try.prog k (#[pv p] ++ caps) w' fun e w'' => e = .returned (.bool (q p)) ∧ Below w'.heap.size w' w''
theorem bt {w w1 w2 : World} (h : Below w.heap.size w w1) (k : Below w1.heap.size w1 w2) : Below w.heap.size w w2 := h.trans (k.mono h.size)
theorem Asks.below {w w' : World} {k : Nat} {caps : Array Value} {q : PR → Bool} (h : Asks w k caps q) (hb : Below w.heap.size w w') : Asks w' k caps q := ⟨h.1, fun w2 h2 p hp => h.2 w2 (bt hb h2) p hp⟩
theorem enters43 (args : Array Value) (w' : World) : Sem.run Try.prog (callFunc 43 args) w' = .ok (.enter 43 args) w' := by rfl
theorem findIdx_hit {q : PR → Bool} {ps : List PR} {k : Nat} (hk : k < ps.length) (h : ∀ j, j < k → q (ps.getD j default) = false) (hq : q (ps.getD k default) = true) : ps.findIdx q = k := by
  rw [List.findIdx_eq hk]
  have e : ∀ j (hj : j < ps.length), ps.getD j default = ps[j] := fun j hj => by rw [List.getD_eq_getElem?_getD, List.getElem?_eq_getElem hj]; rfl
  refine ⟨by rw [← e]; exact hq, fun j hj => by rw [← e]; exact h j hj⟩
theorem findIdx_none {q : PR → Bool} {ps : List PR} (h : ∀ j, j < ps.length → q (ps.getD j default) = false) : ps.findIdx q = ps.length := by
  rw [List.findIdx_eq_length]
  intro x hx
  obtain ⟨j, hj, rfl⟩ := List.mem_iff_getElem.1 hx
  have := h j hj
  rw [List.getD_eq_getElem?_getD, List.getElem?_eq_getElem hj] at this
  exact this
set_option maxHeartbeats 1000000 in
theorem place_any (k : Nat) (caps : Array Value) (q : PR → Bool) (a : Option Addr) (cap : Nat) (ps : List PR) (w : World) (hp : PV w a ps) (HQ : Asks w k caps q) (hl : ps.length ≤ 1000000) (hL : ∀ p ∈ ps, Lp p) :
    Calls Try.prog 42 #[.slice a ps.length cap, .func (.func k) #[] caps] w fun e w' => e = .returned (.int .i64 (ps.findIdx q)) ∧ Below w.heap.size w w' := by
  go_enter Try.func42, Try.ntmps42
  go_wp2
  go_loopw [9] (fun i wr => ∃ j : Nat, j ≤ ps.length ∧ i = .int .i64 j ∧ Hid (∀ m, m < j → q (ps.getD m default) = false) ∧ Below w.heap.size w wr) (fun i _ => ps.length - (intOf i).toNat)
  case atStart => exact ⟨0, Nat.zero_le _, rfl, (fun m hm => by omega), Below.refl _ _⟩
  case round =>
    obtain ⟨j, hj, rfl, hno, hb⟩ := hrel
    by_cases hlt : j < ps.length
    · have hpv := hp.below hb
      obtain h0 | ⟨b, off, rfl, hbl, hc⟩ := hpv
      · subst h0; simp at hlt
      obtain ⟨c0, c1⟩ := hc j hlt
      have HR := HQ.1 (#[.agg #[.string (ps.getD j default).1, .string (ps.getD j default).2]] ++ caps) (wr.alloc (.cells #[.string (ps.getD j default).1, .string (ps.getD j default).2] 45))
      have HA := (HQ.below hb).2 _ (one_block wr (.cells #[.string (ps.getD j default).1, .string (ps.getD j default).2] 45)) (ps.getD j default) (Lp.get hL j hlt)
      unfold pv at HA
      have HB : Hid (Below w.heap.size w wr) := hb
      clear hc hb
      have e1 : wr.heap.size < (wr.alloc (.cells #[.string (ps.getD j default).1, .string (ps.getD j default).2] 45)).heap.size := by simp
      cases hq : q (ps.getD j default)
      · rw [hq] at HA
        have HQ1 : Hid (q (ps.getD j default) = false) := hq
        clear hq
        generalize (ps.getD j default).1 = sk at *
        generalize (ps.getD j default).2 = sv at *
        go_wp2_with (refine HA.mono ?_; rintro e w1 ⟨rfl, hb1⟩; clear HA)
        go_roundw
        case rel =>
          refine ⟨j + 1, by omega, by go_num, (fun m hm => ?_), bt HB (bt (one_block _ _) hb1)⟩
          by_cases e : m = j
          · subst e; exact HQ1
          · exact hno m (by omega)
        case measure => simp [intOf]; omega
      · rw [hq] at HA
        have HI : Hid (ps.findIdx q = j) := findIdx_hit hlt hno hq
        clear hq
        generalize (ps.getD j default).1 = sk at *
        generalize (ps.getD j default).2 = sv at *
        go_wp2_with (refine HA.mono ?_; rintro e w1 ⟨rfl, hb1⟩; clear HA)
        go_ret
        exact ⟨by rw [HI.out]; rfl, bt HB (bt (one_block _ _) hb1)⟩
    · have : j = ps.length := by omega
      have HI : Hid (ps.findIdx q = ps.length) := findIdx_none (by rw [← this]; exact hno)
      subst this
      go_wp2
      go_ret
      exact ⟨by rw [HI.out]; rfl, hb⟩
end Go.Proofs.Ytnnndkpmlpbpcaa
