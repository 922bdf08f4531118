/- For every program the call CheckFewer of the statements returns true and its argument reads as it did: no condition. -/
import Derived.Test.YtakibdkmgjpbhaaRows
import Derived.Test.YtakibdkmgjpbhaaArg
import Derived.Test.YtakibdkmgjpbhaaAw
import Derived.WalkKit
import Derived.ProofKit
import Derived.OpenShut
import Derived.ShutString
import Derived.ChangeOld
import Derived.Below
import Derived.Test.YtakibdkmgjpbhaaLpa
namespace Go.Proofs.Ytakibdkmgjpbhaa.checkFewer
open Go.ChangeShapes Go.WideShapes Go.ChangeAt Go.RowKit
set_option linter.unusedVariables false
set_option linter.unusedSimpArgs false
set_option maxRecDepth 20000

theorem own : ownKnob Try.prog.godebug = none := by kernel_rfl
theorem laidOut : laidOutB Try.prog = true := by kernel_rfl
theorem progS_pre {cs : List ClassD} {l : List RuleD} (h : errE (runE (progS cs) [] l) = 0) (i : Nat) : errE (runE (progS cs) [] (l.take i)) = 0 := by
  cases hr : runE (progS cs) [] (l.take i) with
  | ok s => rfl
  | error e =>
    rw [← List.take_append_drop i l, runE_app, hr] at h
    exact h
theorem progS_ok {cs : List ClassD} {m : List Str} {r : RuleD} {t : List Str} (h : progS cs m r = .ok t) : ruleE cs r = 0 := by
  unfold progS at h
  split at h
  · cases h
  · split at h
    · cases h
    · rename_i hh; exact Classical.not_not.1 hh
theorem fewer (p : ProgD) (h : progE p = 0) (i : Nat) (hi : i < p.rs.length) : progE ⟨p.cs, p.rs.take i⟩ = 0 ∧ progE ⟨p.cs, [p.rs.getD i ⟨[], [], []⟩]⟩ = 0 := by
  have hc : clsE p.cs = 0 := by
    unfold progE at h; split at h
    · rename_i hn; exact absurd h hn
    · rename_i hn; exact Classical.not_not.1 hn
  have hr : errE (runE (progS p.cs) [] p.rs) = 0 := by
    unfold progE at h; rw [if_neg (by simp [hc])] at h; exact h
  constructor
  · unfold progE; rw [if_neg (by simp [hc])]; exact progS_pre hr i
  · unfold progE; rw [if_neg (by simp [hc]), runE_one]
    have h1 := progS_pre hr i
    have h2 := progS_pre hr (i + 1)
    cases hq : runE (progS p.cs) [] (p.rs.take i) with
    | error e =>
      have h3 := progS_pre (l := p.rs.take (i + 1)) h2 i
      rw [List.take_take, Nat.min_eq_left (by omega), hq] at h3
      rw [hq] at h1
      rw [take_snocD p.rs i ⟨[], [], []⟩ hi, runE_app, hq] at h2
      exfalso
      have he : e = 0 := h1
      have hb := runE_bad hq
      obtain ⟨s, x, _, hx⟩ := hb
      unfold progS at hx
      split at hx
      · injection hx with hx; omega
      · split at hx
        · rename_i hh; injection hx with hx; exact hh (by rw [hx]; exact he)
        · cases hx
    | ok m =>
      have h3 := runE_next (step := progS p.cs) ⟨[], [], []⟩ hi hq
      rw [h3] at h2
      cases hs : progS p.cs m (p.rs.getD i ⟨[], [], []⟩) with
      | ok t =>
        have hru := progS_ok hs
        unfold progS
        rw [if_neg (by simp), if_neg (fun h => h hru)]; rfl
      | error e =>
        rw [hs] at h2
        have he : e = 0 := h2
        exfalso
        unfold progS at hs
        split at hs
        · injection hs with hs; omega
        · split at hs
          · rename_i hh; injection hs with hs; exact hh (by rw [hs]; exact he)
          · cases hs
theorem one_of (W : World) (b o len c i : Nat) (h : i + 1 ≤ c) : (Instr.slice 23 (.slice (some ⟨b, o, none⟩) len c) (some (.int .i64 (i : Int))) (some (.int .i64 ((i : Int) + 1))) none).run Try.prog W = .ok (.slice (some ⟨b, o + i * 3, none⟩) 1 (c - i)) W := by
  have ht' : Try.prog.underlying 23 = some (.slice (Try.prog.elem 23)) := by kernel_rfl
  have he : Try.prog.elem 23 = 33 := by kernel_rfl
  have hz : (Go.sizeOf 33).run Try.prog W = .ok 3 W := by rfl
  have e1 : ((i : Int) + 1) = ((i + 1 : Nat) : Int) := by omega
  rw [e1, run_slice_lh W 23 _ _ _ ht' .i64 .i64 _ _ (by omega) (by omega) (by omega), he, hz]
  have hne : ¬ c = i := by omega
  by_cases h0 : i = 0
  · subst h0
    simp [Result.andThen, sliced, Addr.add, hne]
  · have h3 : ¬ i * 3 = 0 := by omega
    simp [Result.andThen, sliced, Addr.add, hne, h0, h3]
/-- A slice's beginning, and one element of it. -/
theorem row_pre {α : Type} {n : Nat} {R : World → List Value → α → Prop} {w : World} {Q : Nat → Prop} {a : Option Addr} {m c : Nat} {xs : List α} (h : Row n R w Q (.slice a m c) xs) (i : Nat) (hi : i ≤ m) : Row n R w Q (.slice a i c) (xs.take i) := by
  obtain ⟨css, ⟨a', cap', h1, h2, h3, h4⟩, hh⟩ := h
  obtain ⟨rfl, rfl, rfl⟩ := Value.slice.inj h1
  have hl := hh.len
  refine ⟨css.take i, ⟨a, c, by rw [List.length_take, Nat.min_eq_left hi], by rw [List.length_take]; omega, h3, ?_⟩, ?_⟩
  · rcases h4 with rfl | ⟨b, off, e, hb, hq, hc⟩
    · exact .inl (by simp)
    · refine .inr ⟨b, off, e, hb, hq, fun k j hk hj => ?_⟩
      rw [List.length_take] at hk
      rw [hc k j (by omega) hj]
      congr 1
      rw [List.getD_eq_getElem?_getD, List.getD_eq_getElem?_getD, List.getElem?_take_of_lt (by omega)]
  · clear h1 h2 h3 h4 hl hi
    induction i generalizing css xs with
    | zero => exact trivial
    | succ i ih => cases css with
      | nil => cases xs with
        | nil => exact trivial
        | cons x xs => exact hh.elim
      | cons d ds => cases xs with
        | nil => exact hh.elim
        | cons x xs => exact ⟨hh.1, ih _ hh.2⟩
theorem row_one' {α : Type} {n : Nat} {R : World → List Value → α → Prop} {w : World} {Q : Nat → Prop} {b off m c : Nat} {xs : List α} (h : Row n R w Q (.slice (some ⟨b, off, none⟩) m c) xs) (i : Nat) (hi : i < m) (d : α) : Row n R w Q (.slice (some ⟨b, off + i * n, none⟩) 1 (c - i)) [xs.getD i d] := by
  obtain ⟨css, ⟨a', cap', h1, h2, h3, h4⟩, hh⟩ := h
  obtain ⟨rfl, rfl, rfl⟩ := Value.slice.inj h1
  have hl := hh.len
  refine ⟨[css.getD i []], ⟨_, c - i, rfl, by simp; omega, by omega, ?_⟩, ⟨hh.at i [] d (by omega), trivial⟩⟩
  rcases h4 with rfl | ⟨b', off', e, hb, hq, hc⟩
  · simp at hi
  · obtain ⟨rfl, rfl, -⟩ := Addr.mk.inj (Option.some.inj e)
    refine .inr ⟨b, off + i * n, rfl, hb, hq, fun k j hk hj => ?_⟩
    have hk0 : k = 0 := by simpa using hk
    subst hk0
    have := hc i j hi hj
    rw [Nat.zero_mul, Nat.zero_add, Nat.add_assoc, this]; rfl
set_option maxHeartbeats 8000000 in
theorem core (a1 a2 : Option Addr) (c1 c2 : Nat) (p : ProgD) (w : World) (h1 : Row 2 (ReK fun _ _ => True) w (fun _ => True) (.slice a1 p.cs.length c1) p.cs) (h2 : Row 3 (ReR fun _ _ => True) w (fun _ => True) (.slice a2 p.rs.length c2) p.rs) (hI : ∀ r ∈ p.rs, ∀ a ∈ r.acts, okI a) :
    Calls Try.prog 7 #[.agg #[.slice a1 p.cs.length c1, .slice a2 p.rs.length c2]] w fun e w' => e = .returned (.bool true) ∧ Below w.heap.size w w' := by
  have HA : Hid (∀ W, Below w.heap.size w W → Calls Try.prog 9 #[] W fun e w' => e = .returned (.bool true) ∧ Below W.heap.size W w') := fun W _ => awake_any W
  have C8 : Hid (∀ W, Below w.heap.size w W → Calls Try.prog 8 #[.agg #[.slice a1 p.cs.length c1, .slice a2 p.rs.length c2]] W (SomeL (progL p) W)) := fun W hW => lightB_any (P := fun _ _ => True) [.slice a1 p.cs.length c1, .slice a2 p.rs.length c2] p W (ReP.keep (Stays.below hW) ⟨_, _, rfl, h1, h2⟩)
  have C12 : Hid (progL p → ∀ W, Below w.heap.size w W → Calls Try.prog 12 #[.agg #[.slice a1 p.cs.length c1, .slice a2 p.rs.length c2]] W fun e w' => e = .returned (.int .i64 (progE p)) ∧ Below W.heap.size W w') := fun hL W hW => program_any (P := fun _ _ => True) [.slice a1 p.cs.length c1, .slice a2 p.rs.length c2] p W (ReP.keep (Stays.below hW) ⟨_, _, rfl, h1, h2⟩) hL hI
  have CP : Hid (progL p → ∀ i, i < p.rs.length → ∀ W, Below w.heap.size w W → Calls Try.prog 12 #[.agg #[.slice a1 p.cs.length c1, .slice a2 i c2]] W fun e w' => e = .returned (.int .i64 (progE ⟨p.cs, p.rs.take i⟩)) ∧ Below W.heap.size W w') := fun hL i hi W hW =>
    program_any (P := fun _ _ => True) [.slice a1 p.cs.length c1, .slice a2 i c2] ⟨p.cs, p.rs.take i⟩ W (ReP.keep (Stays.below hW) ⟨_, _, rfl, h1, row_pre h2 i (by omega)⟩) ⟨hL.1, by have := hL.2.1; show (p.rs.take i).length ≤ 6; rw [List.length_take]; omega, hL.2.2.1, fun r hr => hL.2.2.2 r (List.mem_of_mem_take hr)⟩ (fun r hr => hI r (List.mem_of_mem_take hr))
  have CQ : Hid (progL p → ∀ i b off, i < p.rs.length → a2 = some ⟨b, off, none⟩ → ∀ W, Below w.heap.size w W → Calls Try.prog 12 #[.agg #[.slice a1 p.cs.length c1, .slice (some ⟨b, off + i * 3, none⟩) 1 (c2 - i)]] W fun e w' => e = .returned (.int .i64 (progE ⟨p.cs, [p.rs.getD i ⟨[], [], []⟩]⟩)) ∧ Below W.heap.size W w') := fun hL i b off hi he W hW => by
    subst he
    have hm : p.rs.getD i ⟨[], [], []⟩ ∈ p.rs := by rw [List.getD_eq_getElem?_getD, List.getElem?_eq_getElem hi]; exact List.getElem_mem hi
    exact program_any (P := fun _ _ => True) [.slice a1 p.cs.length c1, .slice (some ⟨b, off + i * 3, none⟩) 1 (c2 - i)] ⟨p.cs, [p.rs.getD i ⟨[], [], []⟩]⟩ W (ReP.keep (Stays.below hW) ⟨_, _, rfl, h1, row_one' h2 i hi _⟩) ⟨hL.1, by show 1 ≤ 6; decide, hL.2.2.1, fun r hr => by obtain rfl := List.mem_singleton.1 hr; exact hL.2.2.2 _ hm⟩ (fun r hr => by obtain rfl := List.mem_singleton.1 hr; exact hI _ hm)
  have HAD : Hid (∀ i, i < p.rs.length → ∃ b off, a2 = some ⟨b, off, none⟩) := fun i hi => by
    obtain ⟨css, hs, hh⟩ := h2
    obtain ⟨-, -, -, hc⟩ := hs.row
    have := hh.len
    obtain ⟨b, off, e, -⟩ := hc i (by omega)
    exact ⟨b, off, e⟩
  obtain ⟨hcap, hcap2⟩ : p.rs.length ≤ c2 ∧ c2 ≤ 9223372036854775807 := by
    obtain ⟨css, hs, hh⟩ := h2
    obtain ⟨-, l, m, -⟩ := hs.row
    have := hh.len
    omega
  clear h1 h2 hI
  have hnn : (p.rs.length : Int) ≤ 9223372036854775807 := by omega
  have tk1 : Hid True := trivial
  have tk2 : Hid True := trivial
  have tk3 : Hid True := trivial
  by_cases hp : progE p = 0
  · have FW : Hid (∀ i, i < p.rs.length → progE ⟨p.cs, p.rs.take i⟩ = 0 ∧ progE ⟨p.cs, [p.rs.getD i ⟨[], [], []⟩]⟩ = 0) := fun i hi => fewer p hp i hi
    rw [hp] at C12
    clear hp
    go_enter Try.func7, Try.ntmps7
    go_wp2_with (first
      | (go_at_call 8; refine (C8.out _ (bxn _ _)).mono ?_; rintro e w2 ⟨bb, rfl, hLL, hb2⟩; have HLL : Hid (bb = true → progL p) := hLL; have B2 : Hid (Below w.heap.size w w2) := bt (bxn _ _) hb2
         have k0 : w2.cell? ⟨w.heap.size, 0, none⟩ = some (.slice a1 p.cs.length c1) := (hb2.cell (p := ⟨w.heap.size, 0, none⟩) (by simp)).trans (by go_simp)
         have k1 : w2.cell? ⟨w.heap.size, 1, none⟩ = some (.slice a2 p.rs.length c2) := (hb2.cell (p := ⟨w.heap.size, 1, none⟩) (by simp)).trans (by go_simp)
         have z2 : w.heap.size < w2.heap.size := (by (have := hb2.size; simp at this; omega))
         clear C8 hb2 hLL)
      | (go_at_call 12; refine (C12.out (HLL.out (by first | assumption | rfl | simp_all)) _ B2.out).mono ?_; rintro e w3 ⟨rfl, hb3⟩; have HL3 : Hid (progL p) := HLL.out (by first | assumption | rfl | simp_all); have B3 : Hid (Below w.heap.size w w3) := bt B2.out hb3
         have j0 : w3.cell? ⟨w.heap.size, 0, none⟩ = some (.slice a1 p.cs.length c1) := (hb3.cell (p := ⟨w.heap.size, 0, none⟩) (by show w.heap.size < _; omega)).trans k0
         have j1 : w3.cell? ⟨w.heap.size, 1, none⟩ = some (.slice a2 p.rs.length c2) := (hb3.cell (p := ⟨w.heap.size, 1, none⟩) (by show w.heap.size < _; omega)).trans k1
         have z3 : w.heap.size < w3.heap.size := Nat.lt_of_lt_of_le z2 hb3.size
         clear hb3)
      | (go_at_call 9; refine (HA.out _ B2.out).mono ?_; rintro e w4 ⟨rfl, hb4⟩; have B4 : Hid (Below w.heap.size w w4) := bt B2.out hb4))
    all_goals try (go_ret; exact ⟨rfl, B4.out⟩)
    go_loopw [3] (fun v wr => ∃ i : Nat, v = .int .i64 i ∧ i ≤ p.rs.length ∧ Hid (Below w3.heap.size w3 wr)) (fun v _ => (p.rs.length - intOf v).toNat)
    case atStart => exact ⟨0, rfl, Nat.zero_le _, Below.refl _ _⟩
    case round =>
      obtain ⟨i, rfl, hi, HB⟩ := hrel
      have SL : Hid (∀ W, Below w3.heap.size w3 W → W.cell? ⟨w.heap.size, 0, none⟩ = some (.slice a1 p.cs.length c1) ∧ W.cell? ⟨w.heap.size, 1, none⟩ = some (.slice a2 p.rs.length c2) ∧ Below w3.heap.size w3 W) := fun W hW => ⟨(hW.cell (p := ⟨w.heap.size, 0, none⟩) z3).trans j0, (hW.cell (p := ⟨w.heap.size, 1, none⟩) z3).trans j1, hW⟩
      obtain ⟨q0, q1, -⟩ := SL.out _ HB.out
      by_cases hlt : i < p.rs.length
      · have hiz : (i : Int) < p.rs.length := by omega
        obtain ⟨b1, o1, rfl⟩ := HAD.out i hlt
        obtain ⟨f1, f2⟩ := FW.out i hlt
        have CP1 : Hid (∀ W, Below w.heap.size w W → Calls Try.prog 12 #[.agg #[.slice a1 p.cs.length c1, .slice (some ⟨b1, o1, none⟩) i c2]] W fun e w' => e = .returned (.int .i64 0) ∧ Below W.heap.size W w') := fun W hW => by
          have := CP.out HL3.out i hlt W hW
          rw [f1] at this; exact this
        have CQ1 : Hid (∀ W, Below w.heap.size w W → Calls Try.prog 12 #[.agg #[.slice a1 p.cs.length c1, .slice (some ⟨b1, o1 + i * 3, none⟩) 1 (c2 - i)]] W fun e w' => e = .returned (.int .i64 0) ∧ Below W.heap.size W w') := fun W hW => by
          have := CQ.out HL3.out i b1 o1 hlt rfl W hW
          rw [f2] at this; exact this
        clear f1 f2 CP CQ FW
        have hsl := fun W => one_of W b1 o1 p.rs.length c2 i (by omega)
        have hw1 : IntKind.i64.wrap ((i : Int) + 1) = (i : Int) + 1 := by rw [IntKind.wrap_i64]; omega
        have hz0 : (0 : Int) ≤ (i : Int) := by omega
        have hz1 : (0 : Int) ≤ (i : Int) + 1 := by omega
        have hz2 : (i : Int) ≤ (i : Int) + 1 := by omega
        have hz3 : (i : Int) ≤ (c2 : Int) := by omega
        have g1 : i ≤ c2 := by omega
        have g2 : i + 1 ≤ c2 := by omega
        have g3 : (i : Int) + 1 ≤ (c2 : Int) := by omega
        have g4 : ¬ (c2 : Int) < (i : Int) + 1 := by omega
        have g5 : ¬ i = c2 := by omega
        have g6 : i < c2 := by omega
        go_wp2
        go_region_held3 (fun W => W.cell? ⟨w.heap.size, 0, none⟩ = some (.slice a1 p.cs.length c1) ∧ W.cell? ⟨w.heap.size, 1, none⟩ = some (.slice (some ⟨b1, o1, none⟩) p.rs.length c2) ∧ Below w3.heap.size w3 W) (first | (refine SL.out _ ?_; first | assumption | exact HB.out.drew) | go_keep) (first
          | (go_at_call 12; have tku := tk1; clear tku tk1; refine (CP1.out _ (bt B3.out (And.right (And.right (by assumption))))).mono ?_; rintro e w4 ⟨rfl, hb4⟩; have B5 : Below w3.heap.size w3 w4 := bt (And.right (And.right (by assumption))) hb4)
          | (go_at_call 12; have tku := tk2; clear tku tk2; refine (CQ1.out _ (bt B3.out (And.right (And.right (by assumption))))).mono ?_; rintro e w5 ⟨rfl, hb5⟩; have B6 : Below w3.heap.size w3 w5 := bt (And.right (And.right (by assumption))) hb5))
        all_goals
          have BZ : Hid (Below w3.heap.size w3 w5) := B6
          go_wp2
          go_roundw
          case rel => exact ⟨i + 1, by simp, by omega, BZ.out⟩
          case measure => simp [intOf]; omega
      · have hiz : ¬ (i : Int) < p.rs.length := by omega
        have BW : Hid (Below w.heap.size w wr) := bt B3.out HB.out
        go_wp2_with (go_at_call 9; refine (HA.out _ BW.out).mono ?_; rintro e w4 ⟨rfl, hb4⟩; have B4 : Hid (Below w.heap.size w w4) := bt BW.out hb4)
        go_ret
        exact ⟨rfl, B4.out⟩
  · generalize progE p = pe at C12 hp
    clear CP CQ HAD
    go_enter Try.func7, Try.ntmps7
    go_wp2_with (first
      | (go_at_call 8; refine (C8.out _ (bxn _ _)).mono ?_; rintro e w2 ⟨bb, rfl, hLL, hb2⟩; have HLL : Hid (bb = true → progL p) := hLL; have B2 : Hid (Below w.heap.size w w2) := bt (bxn _ _) hb2
         have k0 : w2.cell? ⟨w.heap.size, 0, none⟩ = some (.slice a1 p.cs.length c1) := (hb2.cell (p := ⟨w.heap.size, 0, none⟩) (by simp)).trans (by go_simp)
         have k1 : w2.cell? ⟨w.heap.size, 1, none⟩ = some (.slice a2 p.rs.length c2) := (hb2.cell (p := ⟨w.heap.size, 1, none⟩) (by simp)).trans (by go_simp)
         clear C8 hb2 hLL)
      | (go_at_call 12; refine (C12.out (HLL.out (by first | assumption | rfl | simp_all)) _ B2.out).mono ?_; rintro e w3 ⟨rfl, hb3⟩; have B3 : Hid (Below w.heap.size w w3) := bt B2.out hb3; clear hb3)
      | (go_at_call 9; refine (HA.out _ (by first | exact B3.out | exact B2.out)).mono ?_; rintro e w4 ⟨rfl, hb4⟩; have B4 : Hid (Below w.heap.size w w4) := (by first | exact bt B3.out hb4 | exact bt B2.out hb4)))
    all_goals (go_ret; exact ⟨rfl, B4.out⟩)
theorem walk (cs0 : List Value) (x0 : ProgD) (w : World) (w0 : ReP (fun _ _ => True) w cs0 x0 ∧ x0.Ok) : Calls Try.prog 7 #[.agg cs0.toArray] w fun e w' => e = .returned (.bool true) ∧ Below w.heap.size w w' := by
  obtain ⟨w0, ok0⟩ := w0
  obtain ⟨v1, v2, rfl, h1, h2⟩ := w0
  have h1' := h1
  have h2' := h2
  obtain ⟨css1, hs1, hh1⟩ := h1'
  obtain ⟨a1, c1, rfl⟩ := hs1.shape
  obtain ⟨css2, hs2, hh2⟩ := h2'
  obtain ⟨a2, c2, rfl⟩ := hs2.shape
  rw [hh1.len] at h1 ⊢
  rw [hh2.len] at h2 ⊢
  exact core a1 a2 c1 c2 x0 w h1 h2 (fun r hr a ha => ((ok0.2 r hr).2.2 a ha).2.2.1)
set_option maxRecDepth 100000 in
theorem lifted (os : Os) (started : os.Started) (H : Type) (enc : TypeId × Value → H) :
    ReturnsInHanded {} Try.checked os 7 .any (Rows.checkFewerSpec.pre6 enc Try.prog Try.f7 Rows.checkFewerRow.domain false) (Rows.checkFewerSpec.post enc Try.prog Try.f7 false true false false) := by
  refine returnsInHanded_of_change (C := Try.checked) own started (by kernel_rfl) Try.func7
    (ChangeSpec.witness6 (enc := enc) (C := Try.checked) false ⟨#[], #[.agg #[.slice none 0 0, .slice none 0 0]], []⟩ 8 (by kernel_rfl) (by kernel_rfl) (by kernel_rfl) (by kernel_rfl)) ?_
  intro W base args ds gs before hval0 hW hcnd _
  have hval : ∀ (j : Nat) t v, Try.f7.params[j]? = some t → args[j]? = some v → Value.okWide Try.prog W .any base t v := hval0
  have hW' := hW
  obtain ⟨p, q, hA0, hV, rfl, hfz, hnd⟩ := hW
  have hA : DataW.TrodAll enc Try.prog W 0 (fun _ => true) true Try.f7.params.toList args.toList ds p := hA0
  rw [Try.params7] at hA hval
  obtain ⟨v0, vs0, d'0, ds0, q0, r'0, hargs, rfl, rfl, h0, r0⟩ := trodAll_cons hA
  obtain ⟨rfl, rfl, rfl⟩ := trodAll_nil r0
  obtain rfl : args = #[v0] := by cases args; simp_all
  obtain ⟨rfl, rfl⟩ := trodVars_none hV
  have k0' := h0
  have lt0 : ∀ x ∈ q0, x.block < W.heap.size := by obtain ⟨m, hm⟩ := k0'; exact DataW.trod_lt m _ _ _ hm
  obtain ⟨cs0, x0, rfl, w0⟩ := arg_prog (hval 0 25 v0 rfl rfl) h0
  clear hA0 hval0
  refine (walk cs0 x0 W w0).mono fun e W' ⟨he, bel⟩ => ?_
  subst he
  exact ⟨_, rfl, _, _, _, [], _, [], hW', trodAll_mk1 (shut_bool Try.underlying4 _), (trodAll_cons_mk (Below.trod laidOut (by kernel_rfl) (of_decide_eq_true (by kernel_rfl)) k0' bel lt0) trodAll_mk0), rfl, bel.frame _, fun h => by cases h⟩

theorem over : Rows.checkFewerRow.holds Try.pinned (OpenSpec.ofChange Rows.checkFewerSpec) :=
  OpenClaim.holds_of_wide 7 Try.f7 rfl rfl rfl rfl rfl rfl rfl ⟨rfl, rfl, rfl, rfl, rfl⟩ rfl rfl rfl rfl rfl (by kernel_rfl) Try.func7 (by kernel_rfl)
    (of_decide_eq_true (by kernel_rfl)) (by unfold Func.isWrapper; first | (rw [if_pos (by decide +kernel)]; kernel_rfl) | (rw [if_neg (by decide +kernel)]; exact ⟨rfl, rfl⟩))
    (fun os started H enc _ => lifted os started H enc)
end Go.Proofs.Ytakibdkmgjpbhaa.checkFewer

namespace Go.Proofs.Ytakibdkmgjpbhaa
theorem checkFewer_holds : Rows.CheckFewerSaid := checkFewer.over
#print axioms checkFewer_holds
end Go.Proofs.Ytakibdkmgjpbhaa
