/- Add of pairs of whatever size. -/
import Derived.Test.YtnnndkpmlpbpcaaAd
namespace Go.Proofs.Ytnnndkpmlpbpcaa
open Go.RowKit
set_option linter.unusedVariables false
set_option maxRecDepth 20000

def AsksT (w : World) (k : Nat) (caps : Array Value) (q : PR → Bool) : Prop := (∀ args w', Sem.run Try.prog (callFunc k args) w' = .ok (.enter k args) w') ∧ ∀ w', Below w.heap.size w w' → ∀ p, Calls Try.prog k (#[pv p] ++ caps) w' fun e w'' => e = .returned (.bool (q p)) ∧ Below w'.heap.size w' w''
theorem AsksT.below {w w' : World} {k : Nat} {caps : Array Value} {q : PR → Bool} (h : AsksT w k caps q) (hb : Below w.heap.size w w') : AsksT w' k caps q := ⟨h.1, fun w2 h2 p => h.2 w2 (bt hb h2) p⟩
theorem asks53T {w : World} {B : Nat} {p : PR} (h : Boxed w B p) : AsksT w 53 #[.pointer (some ⟨B, 0, none⟩)] (fun q => eqP q p) := ⟨enters53, fun w' hb q => has1 B p q w' (h.below hb)⟩
theorem asks48T {w : World} {B : Nat} {p : PR} (h : Boxed w B p) : AsksT w 48 #[.pointer (some ⟨B, 0, none⟩)] (fun q => lessP p q) := ⟨enters48, fun w' hb q => add1 B p q w' (h.below hb)⟩
set_option maxHeartbeats 1000000 in
theorem place_anyT (k : Nat) (caps : Array Value) (q : PR → Bool) (a : Option Addr) (cap : Nat) (ps : List PR) (w : World) (hp : PV w a ps) (HQ : AsksT w k caps q) (hl : ps.length ≤ 1000000) :
    Calls Try.prog 42 #[.slice a ps.length cap, .func (.func k) #[] caps] w fun e w' => e = .returned (.int .i64 (ps.findIdx q)) ∧ Below w.heap.size w w' := by
  go_enter Try.func42, Try.ntmps42
  go_wp2
  go_loopw [9] (fun i wr => ∃ j : Nat, j ≤ ps.length ∧ i = .int .i64 j ∧ Hid (∀ m, m < j → q (ps.getD m default) = false) ∧ Below w.heap.size w wr) (fun i _ => ps.length - (intOf i).toNat)
  case atStart => exact ⟨0, Nat.zero_le _, rfl, (fun m hm => by omega), Below.refl _ _⟩
  case round =>
    obtain ⟨j, hj, rfl, hno, hb⟩ := hrel
    by_cases hlt : j < ps.length
    · have hpv := hp.below hb
      obtain h0 | ⟨b, off, rfl, hbl, hc⟩ := hpv
      · subst h0; simp at hlt
      obtain ⟨c0, c1⟩ := hc j hlt
      have HR := HQ.1 (#[.agg #[.string (ps.getD j default).1, .string (ps.getD j default).2]] ++ caps) (wr.alloc (.cells #[.string (ps.getD j default).1, .string (ps.getD j default).2] 45))
      have HA := (HQ.below hb).2 _ (one_block wr (.cells #[.string (ps.getD j default).1, .string (ps.getD j default).2] 45)) (ps.getD j default)
      unfold pv at HA
      have HB : Hid (Below w.heap.size w wr) := hb
      clear hc hb
      have e1 : wr.heap.size < (wr.alloc (.cells #[.string (ps.getD j default).1, .string (ps.getD j default).2] 45)).heap.size := by simp
      cases hq : q (ps.getD j default)
      · rw [hq] at HA
        have HQ1 : Hid (q (ps.getD j default) = false) := hq
        clear hq
        generalize (ps.getD j default).1 = sk at *
        generalize (ps.getD j default).2 = sv at *
        go_wp2_with (refine HA.mono ?_; rintro e w1 ⟨rfl, hb1⟩; clear HA)
        go_roundw
        case rel =>
          refine ⟨j + 1, by omega, by go_num, (fun m hm => ?_), bt HB (bt (one_block _ _) hb1)⟩
          by_cases e : m = j
          · subst e; exact HQ1
          · exact hno m (by omega)
        case measure => simp [intOf]; omega
      · rw [hq] at HA
        have HI : Hid (ps.findIdx q = j) := findIdx_hit hlt hno hq
        clear hq
        generalize (ps.getD j default).1 = sk at *
        generalize (ps.getD j default).2 = sv at *
        go_wp2_with (refine HA.mono ?_; rintro e w1 ⟨rfl, hb1⟩; clear HA)
        go_ret
        exact ⟨by rw [HI.out]; rfl, bt HB (bt (one_block _ _) hb1)⟩
    · have : j = ps.length := by omega
      have HI : Hid (ps.findIdx q = ps.length) := findIdx_none (by rw [← this]; exact hno)
      subst this
      go_wp2
      go_ret
      exact ⟨by rw [HI.out]; rfl, hb⟩
set_option maxHeartbeats 2000000 in
theorem has_anyT (d n : Int) (a : Option Addr) (cap : Nat) (ps : List PR) (p : PR) (w : World) (hp : PV w a ps) (hl : ps.length ≤ 1000000) :
    Calls Try.prog 25 #[bkv d n a ps.length cap, pv p] w fun e w' => e = .returned (.bool (ps.any fun q => eqP q p)) ∧ Below w.heap.size w w' := by
  have PLT := place_lt (fun q => eqP q p) ps
  have BX : Hid (Boxed ((w.alloc (.cells #[.int .i64 d, .int .i64 n, .slice a ps.length cap] 28)).alloc (.cells #[.string p.1, .string p.2] 45)) (w.heap.size + 1) p) := ⟨by go_simp, by go_simp, by simp⟩
  have PL : Hid (∀ W, Below ((w.alloc (.cells #[.int .i64 d, .int .i64 n, .slice a ps.length cap] 28)).alloc (.cells #[.string p.1, .string p.2] 45)).heap.size ((w.alloc (.cells #[.int .i64 d, .int .i64 n, .slice a ps.length cap] 28)).alloc (.cells #[.string p.1, .string p.2] 45)) W → Calls Try.prog 42 #[.slice a ps.length cap, .func (.func 53) #[] #[.pointer (some ⟨w.heap.size + 1, 0, none⟩)]] W fun e w' => e = .returned (.int .i64 (ps.findIdx (fun q => eqP q p))) ∧ Below W.heap.size W w') := fun W hW => place_anyT 53 _ _ a cap ps W ((hp.below (two_blocks _ _ _)).below hW) (asks53T (BX.out.below hW)) hl
  have CL : Hid (∀ W, Below ((w.alloc (.cells #[.int .i64 d, .int .i64 n, .slice a ps.length cap] 28)).alloc (.cells #[.string p.1, .string p.2] 45)).heap.size ((w.alloc (.cells #[.int .i64 d, .int .i64 n, .slice a ps.length cap] 28)).alloc (.cells #[.string p.1, .string p.2] 45)) W → W.cell? ⟨w.heap.size, 2, none⟩ = some (.slice a ps.length cap)) := fun W hW => (hW.cell (p := ⟨w.heap.size, 2, none⟩) (by simp; omega)).trans (by go_simp)
  obtain ⟨pk, pw⟩ := p
  simp only at *
  generalize (ps.any fun q => eqP q (pk, pw)) = r at *
  generalize (ps.findIdx fun q => eqP q (pk, pw)) = x at *
  unfold bkv pv
  go_enter Try.func25, Try.ntmps25
  go_wp2_with fail
  go_region_held3 (fun W => W.cell? ⟨w.heap.size, 2, none⟩ = some (.slice a ps.length cap)) (first | exact CL.out _ (Below.refl _ _).drew | exact CL.out _ ((Below.refl _ _).drew.trans hb1)) (first | (go_at_call 42; refine (PL.out _ (Below.refl _ _).drew).mono ?_; rintro e w1 ⟨rfl, hb1⟩))
  go_wp2
  go_ret
  exact ⟨rfl, bt (two_blocks _ _ _) ((Below.refl _ _).drew.trans hb1)⟩
set_option maxHeartbeats 4000000 in
theorem add_inT (d n : Int) (a : Option Addr) (cap : Nat) (ps : List PR) (p : PR) (w : World) (hp : PV w a ps) (hl : ps.length ≤ 1000000) (hn : a = none → cap = 0) (hin : (ps.any fun q => eqP q p) = true) :
    Calls Try.prog 19 #[bkv d n a ps.length cap, pv p] w fun e w' => ∃ v, e = .returned (.tuple #[.agg #[.int .i64 d, .int .i64 n, v], .bool false]) ∧ OwnQ w' w.heap.size v ps ∧ Below w.heap.size w w' := by
  obtain ⟨pk, pw⟩ := p
  have HH : Hid (∀ W, Below w.heap.size w W → Calls Try.prog 25 #[.agg #[.int .i64 d, .int .i64 n, .slice a ps.length cap], .agg #[.string pk, .string pw]] W fun e w' => e = .returned (.bool true) ∧ Below W.heap.size W w') := fun W hW => by
    have := has_anyT d n a cap ps (pk, pw) W (hp.below hW) hl
    rw [hin] at this
    exact this
  have HC : Hid (∀ W, Below w.heap.size w W → Calls Try.prog 47 #[.slice a ps.length cap] W fun e w' => ∃ v, e = .returned v ∧ OwnQ w' W.heap.size v ps ∧ Below W.heap.size W w') := fun W hW => cloneq_any a cap ps W (hp.below hW) hl hn
  have HW : Hid (∀ v W, (∃ b l c, v = .slice b l c) → Calls Try.prog 46 #[.agg #[.int .i64 d, .int .i64 n, .slice a ps.length cap], v] W fun e w' => e = .returned (.agg #[.int .i64 d, .int .i64 n, v]) ∧ Below W.heap.size W w') := fun v W hv => with_any d n a ps.length cap v W hv
  obtain ⟨W0, hW0⟩ : ∃ W0, W0 = ((w.alloc (.cells #[.int .i64 d, .int .i64 n, .slice a ps.length cap] 28)).alloc (.cells #[.string pk, .string pw] 45)).alloc (.cells #[.int .i64 0, .int .i64 0, .slice none 0 0] 28) := ⟨_, rfl⟩
  have HB0 : Hid (Below w.heap.size w W0) := by rw [hW0]; exact three_blocks _ _ _ _
  have CL : Hid (∀ W, Below W0.heap.size W0 W → W.cell? ⟨w.heap.size, 0, none⟩ = some (.int .i64 d) ∧ W.cell? ⟨w.heap.size, 1, none⟩ = some (.int .i64 n) ∧ W.cell? ⟨w.heap.size, 2, none⟩ = some (.slice a ps.length cap)) := fun W hW => by
    rw [hW0] at hW
    exact ⟨(hW.cell (p := ⟨w.heap.size, 0, none⟩) (by simp; omega)).trans (by go_simp), (hW.cell (p := ⟨w.heap.size, 1, none⟩) (by simp; omega)).trans (by go_simp), (hW.cell (p := ⟨w.heap.size, 2, none⟩) (by simp; omega)).trans (by go_simp)⟩
  have RL : Hid (∀ W, Below W0.heap.size W0 W → W.cell? ⟨w.heap.size + 1 + 1, 0, none⟩ = some (.int .i64 0) ∧ W.cell? ⟨w.heap.size + 1 + 1, 1, none⟩ = some (.int .i64 0) ∧ W.cell? ⟨w.heap.size + 1 + 1, 2, none⟩ = some (.slice none 0 0) ∧ W.frozen? ⟨w.heap.size + 1 + 1, 0, none⟩ = false ∧ W.frozen? ⟨w.heap.size + 1 + 1, 1, none⟩ = false ∧ W.frozen? ⟨w.heap.size + 1 + 1, 2, none⟩ = false) := fun W hW => by
    rw [hW0] at hW
    exact ⟨(hW.cell (p := ⟨w.heap.size + 1 + 1, 0, none⟩) (by simp)).trans (by go_simp), (hW.cell (p := ⟨w.heap.size + 1 + 1, 1, none⟩) (by simp)).trans (by go_simp), (hW.cell (p := ⟨w.heap.size + 1 + 1, 2, none⟩) (by simp)).trans (by go_simp), (hW.frozen (p := ⟨w.heap.size + 1 + 1, 0, none⟩) (by simp)).trans (by go_simp), (hW.frozen (p := ⟨w.heap.size + 1 + 1, 1, none⟩) (by simp)).trans (by go_simp), (hW.frozen (p := ⟨w.heap.size + 1 + 1, 2, none⟩) (by simp)).trans (by go_simp)⟩
  have KS : Hid (∀ W x y z, Below W0.heap.size W0 W → (((W.setCell ⟨w.heap.size + 1 + 1, 0, none⟩ x).setCell ⟨w.heap.size + 1 + 1, 1, none⟩ y).setCell ⟨w.heap.size + 1 + 1, 2, none⟩ z).cell? ⟨w.heap.size, 0, none⟩ = some (.int .i64 d) ∧ (((W.setCell ⟨w.heap.size + 1 + 1, 0, none⟩ x).setCell ⟨w.heap.size + 1 + 1, 1, none⟩ y).setCell ⟨w.heap.size + 1 + 1, 2, none⟩ z).cell? ⟨w.heap.size, 1, none⟩ = some (.int .i64 n) ∧ (((W.setCell ⟨w.heap.size + 1 + 1, 0, none⟩ x).setCell ⟨w.heap.size + 1 + 1, 1, none⟩ y).setCell ⟨w.heap.size + 1 + 1, 2, none⟩ z).cell? ⟨w.heap.size, 2, none⟩ = some (.slice a ps.length cap)) := fun W x y z hW => by
    obtain ⟨c0, c1, c2⟩ := CL.out W hW
    have hB : Below (w.heap.size + 1) W (((W.setCell ⟨w.heap.size + 1 + 1, 0, none⟩ x).setCell ⟨w.heap.size + 1 + 1, 1, none⟩ y).setCell ⟨w.heap.size + 1 + 1, 2, none⟩ z) := (((Below.refl _ _).setCell (by simp) _).setCell (by simp) _).setCell (by simp) _
    exact ⟨(hB.cell (p := ⟨w.heap.size, 0, none⟩) (by simp)).trans c0, (hB.cell (p := ⟨w.heap.size, 1, none⟩) (by simp)).trans c1, (hB.cell (p := ⟨w.heap.size, 2, none⟩) (by simp)).trans c2⟩
  unfold bkv pv
  clear hp hin
  go_enter Try.func19, Try.ntmps19
  go_wp2_with (first | (go_at_call 25; rw [← hW0]; refine (HH.out _ HB0.out).mono ?_; rintro e w1 ⟨rfl, hb1⟩))
  obtain ⟨c0, c1, c2⟩ := CL.out _ hb1
  go_region_held3 (fun W => W.cell? ⟨w.heap.size, 0, none⟩ = some (.int .i64 d) ∧ W.cell? ⟨w.heap.size, 1, none⟩ = some (.int .i64 n) ∧ W.cell? ⟨w.heap.size, 2, none⟩ = some (.slice a ps.length cap)) (first | exact CL.out _ hb1.drew | exact CL.out _ (bt hb1.drew hb2) | exact CL.out _ (bt (bt hb1.drew hb2) hb3) | exact KS.out _ _ _ _ (bt (bt hb1.drew hb2) hb3)) (first | (go_at_call 47; refine (HC.out _ (bt HB0.out hb1.drew)).mono ?_; rintro e w2 ⟨v, rfl, ho, hb2⟩; obtain ⟨b9, l9, c9, rfl⟩ := ho.isSlice) | (go_at_call 46; refine (HW.out _ _ ⟨_, _, _, rfl⟩).mono ?_; rintro e w3 ⟨rfl, hb3⟩; obtain ⟨r0, r1, r2, f0, f1, f2⟩ := RL.out w3 (bt (bt hb1.drew hb2) hb3)))
  go_wp2
  refine bodyPost_ret (v := .tuple #[.agg #[.int .i64 d, .int .i64 n, .slice b9 l9 c9], .bool false]) (by simp [results, Try.results19, go_sem, r0, r1, r2]) rfl ⟨_, rfl, ?_, ?_⟩
  · have q1 := hb1.size
    have q0 := HB0.out.size
    have q2 : w.heap.size + 3 ≤ W0.heap.size := by rw [hW0]; simp
    exact own_set3 (ho.below hb3) (by show w.heap.size + 1 + 1 < w1.heap.size; omega) (by show w.heap.size ≤ w1.heap.size; omega)
  · exact (((bt HB0.out (bt (bt hb1.drew hb2) hb3)).setCell (by simp; omega) _).setCell (by simp; omega) _).setCell (by simp; omega) _
set_option maxHeartbeats 4000000 in
theorem add_out_someT (d n : Int) (ba oa : Nat) (cap : Nat) (ps : List PR) (p : PR) (w : World) (hp : PV w (some ⟨ba, oa, none⟩) ps) (hl : ps.length ≤ 1000000) (hin : (ps.any fun q => eqP q p) = false) (hlt : ps.length + 1 ≤ 1000000) (hcx : ¬ cap = ps.findIdx (lessP p)) (hcl : ps.length ≤ cap) (hcap : cap ≤ 9223372036854775807) :
    Calls Try.prog 19 #[bkv d n (some ⟨ba, oa, none⟩) ps.length cap, pv p] w fun e w' => ∃ v, e = .returned (.tuple #[.agg #[.int .i64 d, .int .i64 n, v], .bool true]) ∧ OwnQ w' w.heap.size v (ps.take (ps.findIdx (lessP p)) ++ ([p] ++ ps.drop (ps.findIdx (lessP p)))) ∧ Below w.heap.size w w' := by
  obtain ⟨pk, pw⟩ := p
  have HH : Hid (∀ W, Below w.heap.size w W → Calls Try.prog 25 #[.agg #[.int .i64 d, .int .i64 n, .slice (some ⟨ba, oa, none⟩) ps.length cap], .agg #[.string pk, .string pw]] W fun e w' => e = .returned (.bool false) ∧ Below W.heap.size W w') := fun W hW => by
    have := has_anyT d n (some ⟨ba, oa, none⟩) cap ps (pk, pw) W (hp.below hW) hl
    rw [hin] at this
    exact this
  have HW : Hid (∀ v W, (∃ b l c, v = .slice b l c) → Calls Try.prog 46 #[.agg #[.int .i64 d, .int .i64 n, .slice (some ⟨ba, oa, none⟩) ps.length cap], v] W fun e w' => e = .returned (.agg #[.int .i64 d, .int .i64 n, v]) ∧ Below W.heap.size W w') := fun v W hv => with_any d n (some ⟨ba, oa, none⟩) ps.length cap v W hv
  obtain ⟨W0, hW0⟩ : ∃ W0, W0 = ((w.alloc (.cells #[.int .i64 d, .int .i64 n, .slice (some ⟨ba, oa, none⟩) ps.length cap] 28)).alloc (.cells #[.string pk, .string pw] 45)).alloc (.cells #[.int .i64 0, .int .i64 0, .slice none 0 0] 28) := ⟨_, rfl⟩
  have HB0 : Hid (Below w.heap.size w W0) := by rw [hW0]; exact three_blocks _ _ _ _
  have CL : Hid (∀ W, Below W0.heap.size W0 W → W.cell? ⟨w.heap.size, 0, none⟩ = some (.int .i64 d) ∧ W.cell? ⟨w.heap.size, 1, none⟩ = some (.int .i64 n) ∧ W.cell? ⟨w.heap.size, 2, none⟩ = some (.slice (some ⟨ba, oa, none⟩) ps.length cap) ∧ W.cell? ⟨w.heap.size + 1, 0, none⟩ = some (.string pk) ∧ W.cell? ⟨w.heap.size + 1, 1, none⟩ = some (.string pw)) := fun W hW => by
    rw [hW0] at hW
    exact ⟨(hW.cell (p := ⟨w.heap.size, 0, none⟩) (by simp; omega)).trans (by go_simp), (hW.cell (p := ⟨w.heap.size, 1, none⟩) (by simp; omega)).trans (by go_simp), (hW.cell (p := ⟨w.heap.size, 2, none⟩) (by simp; omega)).trans (by go_simp), (hW.cell (p := ⟨w.heap.size + 1, 0, none⟩) (by simp)).trans (by go_simp), (hW.cell (p := ⟨w.heap.size + 1, 1, none⟩) (by simp)).trans (by go_simp)⟩
  have RL : Hid (∀ W, Below W0.heap.size W0 W → W.cell? ⟨w.heap.size + 1 + 1, 0, none⟩ = some (.int .i64 0) ∧ W.cell? ⟨w.heap.size + 1 + 1, 1, none⟩ = some (.int .i64 0) ∧ W.cell? ⟨w.heap.size + 1 + 1, 2, none⟩ = some (.slice none 0 0) ∧ W.frozen? ⟨w.heap.size + 1 + 1, 0, none⟩ = false ∧ W.frozen? ⟨w.heap.size + 1 + 1, 1, none⟩ = false ∧ W.frozen? ⟨w.heap.size + 1 + 1, 2, none⟩ = false) := fun W hW => by
    rw [hW0] at hW
    exact ⟨(hW.cell (p := ⟨w.heap.size + 1 + 1, 0, none⟩) (by simp)).trans (by go_simp), (hW.cell (p := ⟨w.heap.size + 1 + 1, 1, none⟩) (by simp)).trans (by go_simp), (hW.cell (p := ⟨w.heap.size + 1 + 1, 2, none⟩) (by simp)).trans (by go_simp), (hW.frozen (p := ⟨w.heap.size + 1 + 1, 0, none⟩) (by simp)).trans (by go_simp), (hW.frozen (p := ⟨w.heap.size + 1 + 1, 1, none⟩) (by simp)).trans (by go_simp), (hW.frozen (p := ⟨w.heap.size + 1 + 1, 2, none⟩) (by simp)).trans (by go_simp)⟩
  have KS : Hid (∀ W x y z, Below W0.heap.size W0 W → (((W.setCell ⟨w.heap.size + 1 + 1, 0, none⟩ x).setCell ⟨w.heap.size + 1 + 1, 1, none⟩ y).setCell ⟨w.heap.size + 1 + 1, 2, none⟩ z).cell? ⟨w.heap.size, 0, none⟩ = some (.int .i64 d) ∧ (((W.setCell ⟨w.heap.size + 1 + 1, 0, none⟩ x).setCell ⟨w.heap.size + 1 + 1, 1, none⟩ y).setCell ⟨w.heap.size + 1 + 1, 2, none⟩ z).cell? ⟨w.heap.size, 1, none⟩ = some (.int .i64 n) ∧ (((W.setCell ⟨w.heap.size + 1 + 1, 0, none⟩ x).setCell ⟨w.heap.size + 1 + 1, 1, none⟩ y).setCell ⟨w.heap.size + 1 + 1, 2, none⟩ z).cell? ⟨w.heap.size, 2, none⟩ = some (.slice (some ⟨ba, oa, none⟩) ps.length cap) ∧ (((W.setCell ⟨w.heap.size + 1 + 1, 0, none⟩ x).setCell ⟨w.heap.size + 1 + 1, 1, none⟩ y).setCell ⟨w.heap.size + 1 + 1, 2, none⟩ z).cell? ⟨w.heap.size + 1, 0, none⟩ = some (.string pk) ∧ (((W.setCell ⟨w.heap.size + 1 + 1, 0, none⟩ x).setCell ⟨w.heap.size + 1 + 1, 1, none⟩ y).setCell ⟨w.heap.size + 1 + 1, 2, none⟩ z).cell? ⟨w.heap.size + 1, 1, none⟩ = some (.string pw)) := fun W x y z hW => by
    obtain ⟨c0, c1, c2, c3, c4⟩ := CL.out W hW
    have hB : Below (w.heap.size + 1 + 1) W (((W.setCell ⟨w.heap.size + 1 + 1, 0, none⟩ x).setCell ⟨w.heap.size + 1 + 1, 1, none⟩ y).setCell ⟨w.heap.size + 1 + 1, 2, none⟩ z) := (((Below.refl _ _).setCell (by simp) _).setCell (by simp) _).setCell (by simp) _
    exact ⟨(hB.cell (p := ⟨w.heap.size, 0, none⟩) (by simp; omega)).trans c0, (hB.cell (p := ⟨w.heap.size, 1, none⟩) (by simp; omega)).trans c1, (hB.cell (p := ⟨w.heap.size, 2, none⟩) (by simp; omega)).trans c2, (hB.cell (p := ⟨w.heap.size + 1, 0, none⟩) (by simp)).trans c3, (hB.cell (p := ⟨w.heap.size + 1, 1, none⟩) (by simp)).trans c4⟩
  have BX : Hid (∀ W, Below W0.heap.size W0 W → Boxed W (w.heap.size + 1) (pk, pw)) := fun W hW => by
    obtain ⟨_, _, _, c3, c4⟩ := CL.out W hW
    exact ⟨c3, c4, by have := hW.size; rw [hW0] at this; simp at this; omega⟩
  have PL : Hid (∀ W, Below W0.heap.size W0 W → Calls Try.prog 42 #[.slice (some ⟨ba, oa, none⟩) ps.length cap, .func (.func 48) #[] #[.pointer (some ⟨w.heap.size + 1, 0, none⟩)]] W fun e w' => e = .returned (.int .i64 (ps.findIdx (lessP (pk, pw)))) ∧ Below W.heap.size W w') := fun W hW => place_anyT 48 _ _ (some ⟨ba, oa, none⟩) cap ps W ((hp.below HB0.out).below hW) (asks48T (BX.out W hW)) hl
  have hxl : ps.findIdx (lessP (pk, pw)) ≤ ps.length := List.findIdx_le_length
  generalize ps.findIdx (lessP (pk, pw)) = x at *
  have HCC : Hid (∀ W, Below W0.heap.size W0 W → Calls Try.prog 49 #[.slice (some ⟨W.heap.size + 1, 0, none⟩) 3 3] ((W.alloc (.cells #[.string pk, .string pw] 45)).alloc (.cells #[.slice (some ⟨ba, oa, none⟩) x cap, .slice (some ⟨W.heap.size, 0, none⟩) 1 1, .slice (some ⟨ba, oa + x * 2, none⟩) (ps.length - x) (cap - x)] 22)).drew fun e w' => ∃ v, e = .returned v ∧ OwnQ w' ((W.alloc (.cells #[.string pk, .string pw] 45)).alloc (.cells #[.slice (some ⟨ba, oa, none⟩) x cap, .slice (some ⟨W.heap.size, 0, none⟩) 1 1, .slice (some ⟨ba, oa + x * 2, none⟩) (ps.length - x) (cap - x)] 22)).drew.heap.size v (ps.take x ++ ([(pk, pw)] ++ ps.drop x)) ∧ Below ((W.alloc (.cells #[.string pk, .string pw] 45)).alloc (.cells #[.slice (some ⟨ba, oa, none⟩) x cap, .slice (some ⟨W.heap.size, 0, none⟩) 1 1, .slice (some ⟨ba, oa + x * 2, none⟩) (ps.length - x) (cap - x)] 22)).drew.heap.size ((W.alloc (.cells #[.string pk, .string pw] 45)).alloc (.cells #[.slice (some ⟨ba, oa, none⟩) x cap, .slice (some ⟨W.heap.size, 0, none⟩) 1 1, .slice (some ⟨ba, oa + x * 2, none⟩) (ps.length - x) (cap - x)] 22)).drew w') := fun W hW => by
    have hpW := (hp.below HB0.out).below hW
    have HPQ : PartsQ ((W.alloc (.cells #[.string pk, .string pw] 45)).alloc (.cells #[.slice (some ⟨ba, oa, none⟩) x cap, .slice (some ⟨W.heap.size, 0, none⟩) 1 1, .slice (some ⟨ba, oa + x * 2, none⟩) (ps.length - x) (cap - x)] 22)).drew (W.heap.size + 1) 0 [ps.take x, [(pk, pw)], ps.drop x] := by
      have q1 : (ps.take x).length = x := by simp; omega
      have q2 : (ps.drop x).length = ps.length - x := by simp
      have HPQ := partsq3 (pk := pk) (pw := pw) (c1 := cap) (c2 := cap - x) (hpW.take x) (hpW.drop x) (fun h => by cases h) (fun h => by cases h) (by omega) (by omega)
      rw [q1, q2] at HPQ
      exact HPQ
    have := concatq_any (W.heap.size + 1) 0 3 3 [ps.take x, [(pk, pw)], ps.drop x] ((W.alloc (.cells #[.string pk, .string pw] 45)).alloc (.cells #[.slice (some ⟨ba, oa, none⟩) x cap, .slice (some ⟨W.heap.size, 0, none⟩) 1 1, .slice (some ⟨ba, oa + x * 2, none⟩) (ps.length - x) (cap - x)] 22)).drew rfl (by decide) HPQ (by simp) (by simp <;> omega) (by simp <;> omega)
    simpa using this
  unfold bkv pv
  clear hp hin
  have hx1 : (0 : Int) ≤ (x : Int) := by omega
  have hx2 : (x : Int) ≤ (ps.length : Int) := by omega
  have hx3 : (x : Int) ≤ (cap : Int) := by omega
  have hx5 : (ps.length : Int) ≤ (cap : Int) := by omega
  go_enter Try.func19, Try.ntmps19
  go_wp2_with (first | (go_at_call 25; rw [← hW0]; refine (HH.out _ HB0.out).mono ?_; rintro e w1 ⟨rfl, hb1⟩; obtain ⟨c0, c1, c2, c3, c4⟩ := CL.out _ hb1) | (go_at_call 42; refine (PL.out _ hb1).mono ?_; rintro e w2 ⟨rfl, hb2⟩))
  have HB2 : Hid (Below W0.heap.size W0 w2) := bt hb1 hb2
  clear c0 c1 c2 c3 c4
  obtain ⟨c0, c1, c2, c3, c4⟩ := CL.out _ HB2.out
  go_region_held3 (fun W => W.cell? ⟨w.heap.size, 0, none⟩ = some (.int .i64 d) ∧ W.cell? ⟨w.heap.size, 1, none⟩ = some (.int .i64 n) ∧ W.cell? ⟨w.heap.size, 2, none⟩ = some (.slice (some ⟨ba, oa, none⟩) ps.length cap) ∧ W.cell? ⟨w.heap.size + 1, 0, none⟩ = some (.string pk) ∧ W.cell? ⟨w.heap.size + 1, 1, none⟩ = some (.string pw)) (first | exact CL.out _ (bt HB2.out (two_blocks _ _ _)).drew | exact CL.out _ (bt (bt HB2.out (two_blocks _ _ _)).drew hb3) | exact CL.out _ (bt (bt (bt HB2.out (two_blocks _ _ _)).drew hb3) hb4) | exact KS.out _ _ _ _ (bt (bt (bt HB2.out (two_blocks _ _ _)).drew hb3) hb4) | exact CL.out _ HB2.out.drew | exact CL.out _ (bt HB2.out.drew (one_block _ _)) | exact CL.out _ (bt HB2.out.drew (two_blocks _ _ _)) | exact CL.out _ (bt (bt HB2.out.drew (two_blocks _ _ _)) hb3) | exact CL.out _ (bt (bt (bt HB2.out (two_blocks _ _ _)).drew hb3) hb4) | exact KS.out _ _ _ _ (bt (bt (bt HB2.out (two_blocks _ _ _)).drew hb3) hb4)) (first | (go_at_call 49; refine (HCC.out w2 HB2.out).mono ?_; rintro e w3 ⟨v, rfl, ho, hb3⟩; obtain ⟨b9, l9, c9, rfl⟩ := ho.isSlice) | (go_at_call 46; refine (HW.out _ _ ⟨_, _, _, rfl⟩).mono ?_; rintro e w4 ⟨rfl, hb4⟩; obtain ⟨r0, r1, r2, f0, f1, f2⟩ := RL.out w4 (bt (bt (bt HB2.out (two_blocks _ _ _)).drew hb3) hb4)))
  go_wp2
  have q1 := HB2.out.size
  have q2 : w.heap.size + 3 ≤ W0.heap.size := by rw [hW0]; simp
  refine bodyPost_ret (v := .tuple #[.agg #[.int .i64 d, .int .i64 n, .slice b9 l9 c9], .bool true]) (by simp [results, Try.results19, go_sem, r0, r1, r2]) rfl ⟨_, rfl, ?_, ?_⟩
  · exact own_set3 (ho.below hb4) (by simp; omega) (by simp; omega)
  · exact (((bt HB0.out (bt (bt (bt HB2.out (two_blocks _ _ _)).drew hb3) hb4)).setCell (by simp; omega) _).setCell (by simp; omega) _).setCell (by simp; omega) _
set_option maxHeartbeats 4000000 in
theorem add_out_capT (d n : Int) (ad : Addr) (ps : List PR) (p : PR) (w : World) (hp : PV w (some ad) ps) (hl : ps.length ≤ 1000000) (hin : (ps.any fun q => eqP q p) = false) (hlt : ps.length + 1 ≤ 1000000) (hcx : ps.findIdx (lessP p) = ps.length) :
    Calls Try.prog 19 #[bkv d n (some ad) ps.length ps.length, pv p] w fun e w' => ∃ v, e = .returned (.tuple #[.agg #[.int .i64 d, .int .i64 n, v], .bool true]) ∧ OwnQ w' w.heap.size v (ps.take (ps.findIdx (lessP p)) ++ ([p] ++ ps.drop (ps.findIdx (lessP p)))) ∧ Below w.heap.size w w' := by
  obtain ⟨pk, pw⟩ := p
  have HH : Hid (∀ W, Below w.heap.size w W → Calls Try.prog 25 #[.agg #[.int .i64 d, .int .i64 n, .slice (some ad) ps.length ps.length], .agg #[.string pk, .string pw]] W fun e w' => e = .returned (.bool false) ∧ Below W.heap.size W w') := fun W hW => by
    have := has_anyT d n (some ad) ps.length ps (pk, pw) W (hp.below hW) hl
    rw [hin] at this
    exact this
  have HW : Hid (∀ v W, (∃ b l c, v = .slice b l c) → Calls Try.prog 46 #[.agg #[.int .i64 d, .int .i64 n, .slice (some ad) ps.length ps.length], v] W fun e w' => e = .returned (.agg #[.int .i64 d, .int .i64 n, v]) ∧ Below W.heap.size W w') := fun v W hv => with_any d n (some ad) ps.length ps.length v W hv
  obtain ⟨W0, hW0⟩ : ∃ W0, W0 = ((w.alloc (.cells #[.int .i64 d, .int .i64 n, .slice (some ad) ps.length ps.length] 28)).alloc (.cells #[.string pk, .string pw] 45)).alloc (.cells #[.int .i64 0, .int .i64 0, .slice none 0 0] 28) := ⟨_, rfl⟩
  have HB0 : Hid (Below w.heap.size w W0) := by rw [hW0]; exact three_blocks _ _ _ _
  have CL : Hid (∀ W, Below W0.heap.size W0 W → W.cell? ⟨w.heap.size, 0, none⟩ = some (.int .i64 d) ∧ W.cell? ⟨w.heap.size, 1, none⟩ = some (.int .i64 n) ∧ W.cell? ⟨w.heap.size, 2, none⟩ = some (.slice (some ad) ps.length ps.length) ∧ W.cell? ⟨w.heap.size + 1, 0, none⟩ = some (.string pk) ∧ W.cell? ⟨w.heap.size + 1, 1, none⟩ = some (.string pw)) := fun W hW => by
    rw [hW0] at hW
    exact ⟨(hW.cell (p := ⟨w.heap.size, 0, none⟩) (by simp; omega)).trans (by go_simp), (hW.cell (p := ⟨w.heap.size, 1, none⟩) (by simp; omega)).trans (by go_simp), (hW.cell (p := ⟨w.heap.size, 2, none⟩) (by simp; omega)).trans (by go_simp), (hW.cell (p := ⟨w.heap.size + 1, 0, none⟩) (by simp)).trans (by go_simp), (hW.cell (p := ⟨w.heap.size + 1, 1, none⟩) (by simp)).trans (by go_simp)⟩
  have RL : Hid (∀ W, Below W0.heap.size W0 W → W.cell? ⟨w.heap.size + 1 + 1, 0, none⟩ = some (.int .i64 0) ∧ W.cell? ⟨w.heap.size + 1 + 1, 1, none⟩ = some (.int .i64 0) ∧ W.cell? ⟨w.heap.size + 1 + 1, 2, none⟩ = some (.slice none 0 0) ∧ W.frozen? ⟨w.heap.size + 1 + 1, 0, none⟩ = false ∧ W.frozen? ⟨w.heap.size + 1 + 1, 1, none⟩ = false ∧ W.frozen? ⟨w.heap.size + 1 + 1, 2, none⟩ = false) := fun W hW => by
    rw [hW0] at hW
    exact ⟨(hW.cell (p := ⟨w.heap.size + 1 + 1, 0, none⟩) (by simp)).trans (by go_simp), (hW.cell (p := ⟨w.heap.size + 1 + 1, 1, none⟩) (by simp)).trans (by go_simp), (hW.cell (p := ⟨w.heap.size + 1 + 1, 2, none⟩) (by simp)).trans (by go_simp), (hW.frozen (p := ⟨w.heap.size + 1 + 1, 0, none⟩) (by simp)).trans (by go_simp), (hW.frozen (p := ⟨w.heap.size + 1 + 1, 1, none⟩) (by simp)).trans (by go_simp), (hW.frozen (p := ⟨w.heap.size + 1 + 1, 2, none⟩) (by simp)).trans (by go_simp)⟩
  have KS : Hid (∀ W x y z, Below W0.heap.size W0 W → (((W.setCell ⟨w.heap.size + 1 + 1, 0, none⟩ x).setCell ⟨w.heap.size + 1 + 1, 1, none⟩ y).setCell ⟨w.heap.size + 1 + 1, 2, none⟩ z).cell? ⟨w.heap.size, 0, none⟩ = some (.int .i64 d) ∧ (((W.setCell ⟨w.heap.size + 1 + 1, 0, none⟩ x).setCell ⟨w.heap.size + 1 + 1, 1, none⟩ y).setCell ⟨w.heap.size + 1 + 1, 2, none⟩ z).cell? ⟨w.heap.size, 1, none⟩ = some (.int .i64 n) ∧ (((W.setCell ⟨w.heap.size + 1 + 1, 0, none⟩ x).setCell ⟨w.heap.size + 1 + 1, 1, none⟩ y).setCell ⟨w.heap.size + 1 + 1, 2, none⟩ z).cell? ⟨w.heap.size, 2, none⟩ = some (.slice (some ad) ps.length ps.length) ∧ (((W.setCell ⟨w.heap.size + 1 + 1, 0, none⟩ x).setCell ⟨w.heap.size + 1 + 1, 1, none⟩ y).setCell ⟨w.heap.size + 1 + 1, 2, none⟩ z).cell? ⟨w.heap.size + 1, 0, none⟩ = some (.string pk) ∧ (((W.setCell ⟨w.heap.size + 1 + 1, 0, none⟩ x).setCell ⟨w.heap.size + 1 + 1, 1, none⟩ y).setCell ⟨w.heap.size + 1 + 1, 2, none⟩ z).cell? ⟨w.heap.size + 1, 1, none⟩ = some (.string pw)) := fun W x y z hW => by
    obtain ⟨c0, c1, c2, c3, c4⟩ := CL.out W hW
    have hB : Below (w.heap.size + 1 + 1) W (((W.setCell ⟨w.heap.size + 1 + 1, 0, none⟩ x).setCell ⟨w.heap.size + 1 + 1, 1, none⟩ y).setCell ⟨w.heap.size + 1 + 1, 2, none⟩ z) := (((Below.refl _ _).setCell (by simp) _).setCell (by simp) _).setCell (by simp) _
    exact ⟨(hB.cell (p := ⟨w.heap.size, 0, none⟩) (by simp; omega)).trans c0, (hB.cell (p := ⟨w.heap.size, 1, none⟩) (by simp; omega)).trans c1, (hB.cell (p := ⟨w.heap.size, 2, none⟩) (by simp; omega)).trans c2, (hB.cell (p := ⟨w.heap.size + 1, 0, none⟩) (by simp)).trans c3, (hB.cell (p := ⟨w.heap.size + 1, 1, none⟩) (by simp)).trans c4⟩
  have BX : Hid (∀ W, Below W0.heap.size W0 W → Boxed W (w.heap.size + 1) (pk, pw)) := fun W hW => by
    obtain ⟨_, _, _, c3, c4⟩ := CL.out W hW
    exact ⟨c3, c4, by have := hW.size; rw [hW0] at this; simp at this; omega⟩
  have PL : Hid (∀ W, Below W0.heap.size W0 W → Calls Try.prog 42 #[.slice (some ad) ps.length ps.length, .func (.func 48) #[] #[.pointer (some ⟨w.heap.size + 1, 0, none⟩)]] W fun e w' => e = .returned (.int .i64 (ps.findIdx (lessP (pk, pw)))) ∧ Below W.heap.size W w') := fun W hW => place_anyT 48 _ _ (some ad) ps.length ps W ((hp.below HB0.out).below hW) (asks48T (BX.out W hW)) hl
  have hxl : ps.findIdx (lessP (pk, pw)) ≤ ps.length := List.findIdx_le_length
  rw [hcx] at *
  clear hxl
  have HCC : Hid (∀ W, Below W0.heap.size W0 W → Calls Try.prog 49 #[.slice (some ⟨W.heap.size + 1, 0, none⟩) 3 3] ((W.alloc (.cells #[.string pk, .string pw] 45)).alloc (.cells #[.slice (some ad) ps.length ps.length, .slice (some ⟨W.heap.size, 0, none⟩) 1 1, .slice (some ad) 0 0] 22)).drew fun e w' => ∃ v, e = .returned v ∧ OwnQ w' ((W.alloc (.cells #[.string pk, .string pw] 45)).alloc (.cells #[.slice (some ad) ps.length ps.length, .slice (some ⟨W.heap.size, 0, none⟩) 1 1, .slice (some ad) 0 0] 22)).drew.heap.size v (ps.take ps.length ++ ([(pk, pw)] ++ ps.drop ps.length)) ∧ Below ((W.alloc (.cells #[.string pk, .string pw] 45)).alloc (.cells #[.slice (some ad) ps.length ps.length, .slice (some ⟨W.heap.size, 0, none⟩) 1 1, .slice (some ad) 0 0] 22)).drew.heap.size ((W.alloc (.cells #[.string pk, .string pw] 45)).alloc (.cells #[.slice (some ad) ps.length ps.length, .slice (some ⟨W.heap.size, 0, none⟩) 1 1, .slice (some ad) 0 0] 22)).drew w') := fun W hW => by
    have hpW := (hp.below HB0.out).below hW
    have HPQ : PartsQ ((W.alloc (.cells #[.string pk, .string pw] 45)).alloc (.cells #[.slice (some ad) ps.length ps.length, .slice (some ⟨W.heap.size, 0, none⟩) 1 1, .slice (some ad) 0 0] 22)).drew (W.heap.size + 1) 0 [ps.take ps.length, [(pk, pw)], ps.drop ps.length] := by
      have q3 : PV W (some ad) (ps.drop ps.length) := by rw [List.drop_eq_nil_of_le (by omega)]; exact .nilAny
      have HPQ := partsq3 (pk := pk) (pw := pw) (c1 := ps.length) (c2 := 0) (hpW.take ps.length) q3 (fun h => by cases h) (fun h => by cases h) (by simp; omega) (by simp)
      have q1 : (ps.take ps.length).length = ps.length := by simp
      have q2 : (ps.drop ps.length).length = 0 := by simp
      rw [q1, q2] at HPQ
      exact HPQ
    have := concatq_any (W.heap.size + 1) 0 3 3 [ps.take ps.length, [(pk, pw)], ps.drop ps.length] ((W.alloc (.cells #[.string pk, .string pw] 45)).alloc (.cells #[.slice (some ad) ps.length ps.length, .slice (some ⟨W.heap.size, 0, none⟩) 1 1, .slice (some ad) 0 0] 22)).drew rfl (by decide) HPQ (by simp) (by simp <;> omega) (by simp <;> omega)
    simpa using this
  unfold bkv pv
  clear hp hin
  have hx1 : (0 : Int) ≤ (ps.length : Int) := by omega
  go_enter Try.func19, Try.ntmps19
  go_wp2_with (first | (go_at_call 25; rw [← hW0]; refine (HH.out _ HB0.out).mono ?_; rintro e w1 ⟨rfl, hb1⟩; obtain ⟨c0, c1, c2, c3, c4⟩ := CL.out _ hb1) | (go_at_call 42; refine (PL.out _ hb1).mono ?_; rintro e w2 ⟨rfl, hb2⟩))
  have HB2 : Hid (Below W0.heap.size W0 w2) := bt hb1 hb2
  clear c0 c1 c2 c3 c4
  obtain ⟨c0, c1, c2, c3, c4⟩ := CL.out _ HB2.out
  go_region_held3 (fun W => W.cell? ⟨w.heap.size, 0, none⟩ = some (.int .i64 d) ∧ W.cell? ⟨w.heap.size, 1, none⟩ = some (.int .i64 n) ∧ W.cell? ⟨w.heap.size, 2, none⟩ = some (.slice (some ad) ps.length ps.length) ∧ W.cell? ⟨w.heap.size + 1, 0, none⟩ = some (.string pk) ∧ W.cell? ⟨w.heap.size + 1, 1, none⟩ = some (.string pw)) (first | exact CL.out _ (bt HB2.out (two_blocks _ _ _)).drew | exact CL.out _ (bt (bt HB2.out (two_blocks _ _ _)).drew hb3) | exact CL.out _ (bt (bt (bt HB2.out (two_blocks _ _ _)).drew hb3) hb4) | exact KS.out _ _ _ _ (bt (bt (bt HB2.out (two_blocks _ _ _)).drew hb3) hb4) | exact CL.out _ HB2.out.drew | exact CL.out _ (bt HB2.out.drew (one_block _ _)) | exact CL.out _ (bt HB2.out.drew (two_blocks _ _ _)) | exact CL.out _ (bt (bt HB2.out.drew (two_blocks _ _ _)) hb3) | exact CL.out _ (bt (bt (bt HB2.out (two_blocks _ _ _)).drew hb3) hb4) | exact KS.out _ _ _ _ (bt (bt (bt HB2.out (two_blocks _ _ _)).drew hb3) hb4)) (first | (go_at_call 49; refine (HCC.out w2 HB2.out).mono ?_; rintro e w3 ⟨v, rfl, ho, hb3⟩; obtain ⟨b9, l9, c9, rfl⟩ := ho.isSlice) | (go_at_call 46; refine (HW.out _ _ ⟨_, _, _, rfl⟩).mono ?_; rintro e w4 ⟨rfl, hb4⟩; obtain ⟨r0, r1, r2, f0, f1, f2⟩ := RL.out w4 (bt (bt (bt HB2.out (two_blocks _ _ _)).drew hb3) hb4)))
  go_wp2
  have q1 := HB2.out.size
  have q2 : w.heap.size + 3 ≤ W0.heap.size := by rw [hW0]; simp
  refine bodyPost_ret (v := .tuple #[.agg #[.int .i64 d, .int .i64 n, .slice b9 l9 c9], .bool true]) (by simp [results, Try.results19, go_sem, r0, r1, r2]) rfl ⟨_, rfl, ?_, ?_⟩
  · exact own_set3 (ho.below hb4) (by simp; omega) (by simp; omega)
  · exact (((bt HB0.out (bt (bt (bt HB2.out (two_blocks _ _ _)).drew hb3) hb4)).setCell (by simp; omega) _).setCell (by simp; omega) _).setCell (by simp; omega) _
set_option maxHeartbeats 4000000 in
theorem add_out_noneT (d n : Int) (p : PR) (w : World) :
    Calls Try.prog 19 #[bkv d n none 0 0, pv p] w fun e w' => ∃ v, e = .returned (.tuple #[.agg #[.int .i64 d, .int .i64 n, v], .bool true]) ∧ OwnQ w' w.heap.size v [p] ∧ Below w.heap.size w w' := by
  obtain ⟨pk, pw⟩ := p
  have HH : Hid (∀ W, Below w.heap.size w W → Calls Try.prog 25 #[.agg #[.int .i64 d, .int .i64 n, .slice none 0 0], .agg #[.string pk, .string pw]] W fun e w' => e = .returned (.bool false) ∧ Below W.heap.size W w') := fun W hW => by
    have := has_anyT d n none 0 [] (pk, pw) W .nilAny (by simp)
    exact this
  have HW : Hid (∀ v W, (∃ b l c, v = .slice b l c) → Calls Try.prog 46 #[.agg #[.int .i64 d, .int .i64 n, .slice none 0 0], v] W fun e w' => e = .returned (.agg #[.int .i64 d, .int .i64 n, v]) ∧ Below W.heap.size W w') := fun v W hv => with_any d n none 0 0 v W hv
  obtain ⟨W0, hW0⟩ : ∃ W0, W0 = ((w.alloc (.cells #[.int .i64 d, .int .i64 n, .slice none 0 0] 28)).alloc (.cells #[.string pk, .string pw] 45)).alloc (.cells #[.int .i64 0, .int .i64 0, .slice none 0 0] 28) := ⟨_, rfl⟩
  have HB0 : Hid (Below w.heap.size w W0) := by rw [hW0]; exact three_blocks _ _ _ _
  have CL : Hid (∀ W, Below W0.heap.size W0 W → W.cell? ⟨w.heap.size, 0, none⟩ = some (.int .i64 d) ∧ W.cell? ⟨w.heap.size, 1, none⟩ = some (.int .i64 n) ∧ W.cell? ⟨w.heap.size, 2, none⟩ = some (.slice none 0 0) ∧ W.cell? ⟨w.heap.size + 1, 0, none⟩ = some (.string pk) ∧ W.cell? ⟨w.heap.size + 1, 1, none⟩ = some (.string pw)) := fun W hW => by
    rw [hW0] at hW
    exact ⟨(hW.cell (p := ⟨w.heap.size, 0, none⟩) (by simp; omega)).trans (by go_simp), (hW.cell (p := ⟨w.heap.size, 1, none⟩) (by simp; omega)).trans (by go_simp), (hW.cell (p := ⟨w.heap.size, 2, none⟩) (by simp; omega)).trans (by go_simp), (hW.cell (p := ⟨w.heap.size + 1, 0, none⟩) (by simp)).trans (by go_simp), (hW.cell (p := ⟨w.heap.size + 1, 1, none⟩) (by simp)).trans (by go_simp)⟩
  have RL : Hid (∀ W, Below W0.heap.size W0 W → W.cell? ⟨w.heap.size + 1 + 1, 0, none⟩ = some (.int .i64 0) ∧ W.cell? ⟨w.heap.size + 1 + 1, 1, none⟩ = some (.int .i64 0) ∧ W.cell? ⟨w.heap.size + 1 + 1, 2, none⟩ = some (.slice none 0 0) ∧ W.frozen? ⟨w.heap.size + 1 + 1, 0, none⟩ = false ∧ W.frozen? ⟨w.heap.size + 1 + 1, 1, none⟩ = false ∧ W.frozen? ⟨w.heap.size + 1 + 1, 2, none⟩ = false) := fun W hW => by
    rw [hW0] at hW
    exact ⟨(hW.cell (p := ⟨w.heap.size + 1 + 1, 0, none⟩) (by simp)).trans (by go_simp), (hW.cell (p := ⟨w.heap.size + 1 + 1, 1, none⟩) (by simp)).trans (by go_simp), (hW.cell (p := ⟨w.heap.size + 1 + 1, 2, none⟩) (by simp)).trans (by go_simp), (hW.frozen (p := ⟨w.heap.size + 1 + 1, 0, none⟩) (by simp)).trans (by go_simp), (hW.frozen (p := ⟨w.heap.size + 1 + 1, 1, none⟩) (by simp)).trans (by go_simp), (hW.frozen (p := ⟨w.heap.size + 1 + 1, 2, none⟩) (by simp)).trans (by go_simp)⟩
  have KS : Hid (∀ W x y z, Below W0.heap.size W0 W → (((W.setCell ⟨w.heap.size + 1 + 1, 0, none⟩ x).setCell ⟨w.heap.size + 1 + 1, 1, none⟩ y).setCell ⟨w.heap.size + 1 + 1, 2, none⟩ z).cell? ⟨w.heap.size, 0, none⟩ = some (.int .i64 d) ∧ (((W.setCell ⟨w.heap.size + 1 + 1, 0, none⟩ x).setCell ⟨w.heap.size + 1 + 1, 1, none⟩ y).setCell ⟨w.heap.size + 1 + 1, 2, none⟩ z).cell? ⟨w.heap.size, 1, none⟩ = some (.int .i64 n) ∧ (((W.setCell ⟨w.heap.size + 1 + 1, 0, none⟩ x).setCell ⟨w.heap.size + 1 + 1, 1, none⟩ y).setCell ⟨w.heap.size + 1 + 1, 2, none⟩ z).cell? ⟨w.heap.size, 2, none⟩ = some (.slice none 0 0) ∧ (((W.setCell ⟨w.heap.size + 1 + 1, 0, none⟩ x).setCell ⟨w.heap.size + 1 + 1, 1, none⟩ y).setCell ⟨w.heap.size + 1 + 1, 2, none⟩ z).cell? ⟨w.heap.size + 1, 0, none⟩ = some (.string pk) ∧ (((W.setCell ⟨w.heap.size + 1 + 1, 0, none⟩ x).setCell ⟨w.heap.size + 1 + 1, 1, none⟩ y).setCell ⟨w.heap.size + 1 + 1, 2, none⟩ z).cell? ⟨w.heap.size + 1, 1, none⟩ = some (.string pw)) := fun W x y z hW => by
    obtain ⟨c0, c1, c2, c3, c4⟩ := CL.out W hW
    have hB : Below (w.heap.size + 1 + 1) W (((W.setCell ⟨w.heap.size + 1 + 1, 0, none⟩ x).setCell ⟨w.heap.size + 1 + 1, 1, none⟩ y).setCell ⟨w.heap.size + 1 + 1, 2, none⟩ z) := (((Below.refl _ _).setCell (by simp) _).setCell (by simp) _).setCell (by simp) _
    exact ⟨(hB.cell (p := ⟨w.heap.size, 0, none⟩) (by simp; omega)).trans c0, (hB.cell (p := ⟨w.heap.size, 1, none⟩) (by simp; omega)).trans c1, (hB.cell (p := ⟨w.heap.size, 2, none⟩) (by simp; omega)).trans c2, (hB.cell (p := ⟨w.heap.size + 1, 0, none⟩) (by simp)).trans c3, (hB.cell (p := ⟨w.heap.size + 1, 1, none⟩) (by simp)).trans c4⟩
  have BX : Hid (∀ W, Below W0.heap.size W0 W → Boxed W (w.heap.size + 1) (pk, pw)) := fun W hW => by
    obtain ⟨_, _, _, c3, c4⟩ := CL.out W hW
    exact ⟨c3, c4, by have := hW.size; rw [hW0] at this; simp at this; omega⟩
  have PL : Hid (∀ W, Below W0.heap.size W0 W → Calls Try.prog 42 #[.slice none 0 0, .func (.func 48) #[] #[.pointer (some ⟨w.heap.size + 1, 0, none⟩)]] W fun e w' => e = .returned (.int .i64 0) ∧ Below W.heap.size W w') := fun W hW => place_anyT 48 _ _ none 0 [] W .nilAny (asks48T (BX.out W hW)) (by simp)
  have HCC : Hid (∀ W, Below W0.heap.size W0 W → Calls Try.prog 49 #[.slice (some ⟨W.heap.size + 1, 0, none⟩) 3 3] ((W.alloc (.cells #[.string pk, .string pw] 45)).alloc (.cells #[.slice none 0 0, .slice (some ⟨W.heap.size, 0, none⟩) 1 1, .slice none 0 0] 22)).drew fun e w' => ∃ v, e = .returned v ∧ OwnQ w' ((W.alloc (.cells #[.string pk, .string pw] 45)).alloc (.cells #[.slice none 0 0, .slice (some ⟨W.heap.size, 0, none⟩) 1 1, .slice none 0 0] 22)).drew.heap.size v [(pk, pw)] ∧ Below ((W.alloc (.cells #[.string pk, .string pw] 45)).alloc (.cells #[.slice none 0 0, .slice (some ⟨W.heap.size, 0, none⟩) 1 1, .slice none 0 0] 22)).drew.heap.size ((W.alloc (.cells #[.string pk, .string pw] 45)).alloc (.cells #[.slice none 0 0, .slice (some ⟨W.heap.size, 0, none⟩) 1 1, .slice none 0 0] 22)).drew w') := fun W hW => by
    have HPQ : PartsQ ((W.alloc (.cells #[.string pk, .string pw] 45)).alloc (.cells #[.slice none 0 0, .slice (some ⟨W.heap.size, 0, none⟩) 1 1, .slice none 0 0] 22)).drew (W.heap.size + 1) 0 [[], [(pk, pw)], []] := by
      exact partsq3 (pk := pk) (pw := pw) (xs := []) (ys := []) (c1 := 0) (c2 := 0) .nilAny .nilAny (fun _ => rfl) (fun _ => rfl) (by simp) (by simp)
    have := concatq_any (W.heap.size + 1) 0 3 3 [[], [(pk, pw)], []] ((W.alloc (.cells #[.string pk, .string pw] 45)).alloc (.cells #[.slice none 0 0, .slice (some ⟨W.heap.size, 0, none⟩) 1 1, .slice none 0 0] 22)).drew rfl (by decide) HPQ (by simp) (by simp <;> omega) (by simp <;> omega)
    simpa using this
  unfold bkv pv
  go_enter Try.func19, Try.ntmps19
  go_wp2_with (first | (go_at_call 25; rw [← hW0]; refine (HH.out _ HB0.out).mono ?_; rintro e w1 ⟨rfl, hb1⟩; obtain ⟨c0, c1, c2, c3, c4⟩ := CL.out _ hb1) | (go_at_call 42; refine (PL.out _ hb1).mono ?_; rintro e w2 ⟨rfl, hb2⟩))
  have HB2 : Hid (Below W0.heap.size W0 w2) := bt hb1 hb2
  clear c0 c1 c2 c3 c4
  obtain ⟨c0, c1, c2, c3, c4⟩ := CL.out _ HB2.out
  go_region_held3 (fun W => W.cell? ⟨w.heap.size, 0, none⟩ = some (.int .i64 d) ∧ W.cell? ⟨w.heap.size, 1, none⟩ = some (.int .i64 n) ∧ W.cell? ⟨w.heap.size, 2, none⟩ = some (.slice none 0 0) ∧ W.cell? ⟨w.heap.size + 1, 0, none⟩ = some (.string pk) ∧ W.cell? ⟨w.heap.size + 1, 1, none⟩ = some (.string pw)) (first | exact CL.out _ (bt HB2.out (two_blocks _ _ _)).drew | exact CL.out _ (bt (bt HB2.out (two_blocks _ _ _)).drew hb3) | exact CL.out _ (bt (bt (bt HB2.out (two_blocks _ _ _)).drew hb3) hb4) | exact KS.out _ _ _ _ (bt (bt (bt HB2.out (two_blocks _ _ _)).drew hb3) hb4) | exact CL.out _ HB2.out.drew | exact CL.out _ (bt HB2.out.drew (one_block _ _)) | exact CL.out _ (bt HB2.out.drew (two_blocks _ _ _)) | exact CL.out _ (bt (bt HB2.out.drew (two_blocks _ _ _)) hb3) | exact CL.out _ (bt (bt (bt HB2.out (two_blocks _ _ _)).drew hb3) hb4) | exact KS.out _ _ _ _ (bt (bt (bt HB2.out (two_blocks _ _ _)).drew hb3) hb4)) (first | (go_at_call 49; refine (HCC.out w2 HB2.out).mono ?_; rintro e w3 ⟨v, rfl, ho, hb3⟩; obtain ⟨b9, l9, c9, rfl⟩ := ho.isSlice) | (go_at_call 46; refine (HW.out _ _ ⟨_, _, _, rfl⟩).mono ?_; rintro e w4 ⟨rfl, hb4⟩; obtain ⟨r0, r1, r2, f0, f1, f2⟩ := RL.out w4 (bt (bt (bt HB2.out (two_blocks _ _ _)).drew hb3) hb4)))
  go_wp2
  have q1 := HB2.out.size
  have q2 : w.heap.size + 3 ≤ W0.heap.size := by rw [hW0]; simp
  refine bodyPost_ret (v := .tuple #[.agg #[.int .i64 d, .int .i64 n, .slice b9 l9 c9], .bool true]) (by simp [results, Try.results19, go_sem, r0, r1, r2]) rfl ⟨_, rfl, ?_, ?_⟩
  · exact own_set3 (ho.below hb4) (by simp; omega) (by simp; omega)
  · exact (((bt HB0.out (bt (bt (bt HB2.out (two_blocks _ _ _)).drew hb3) hb4)).setCell (by simp; omega) _).setCell (by simp; omega) _).setCell (by simp; omega) _
theorem add_anyT (d n : Int) (a : Option Addr) (cap : Nat) (ps : List PR) (p : PR) (w : World) (hp : PV w a ps) (hl : ps.length + 1 ≤ 1000000) (hn : a = none → cap = 0) (hcl : ps.length ≤ cap) (hcap : cap ≤ 9223372036854775807) (hsp : ∀ ad, a = some ad → 0 < cap → ad.spot = none) :
    Calls Try.prog 19 #[bkv d n a ps.length cap, pv p] w fun e w' => ∃ v, e = .returned (.tuple #[.agg #[.int .i64 d, .int .i64 n, v], .bool (!(ps.any fun q => eqP q p))]) ∧ OwnQ w' w.heap.size v (addP ps p) ∧ Below w.heap.size w w' := by
  cases hin : (ps.any fun q => eqP q p)
  · rw [show addP ps p = ps.take (ps.findIdx (lessP p)) ++ ([p] ++ ps.drop (ps.findIdx (lessP p))) by unfold addP; rw [hin]; rfl]
    cases a with
    | none =>
      obtain rfl := hn rfl
      obtain rfl := hp.nones
      exact add_out_noneT d n p w
    | some ad =>
      by_cases hcx : cap = ps.findIdx (lessP p)
      · have hx : ps.findIdx (lessP p) ≤ ps.length := List.findIdx_le_length
        have e1 : cap = ps.length := by omega
        have e2 : ps.findIdx (lessP p) = ps.length := by omega
        rw [e1]
        exact add_out_capT d n ad ps p w hp (by omega) hin hl e2
      · have hx : ps.findIdx (lessP p) ≤ ps.length := List.findIdx_le_length
        have h0 := hsp ad rfl (by omega)
        obtain ⟨b, o, sp⟩ := ad
        simp only at h0
        subst h0
        exact add_out_someT d n b o cap ps p w hp (by omega) hin hl hcx hcl hcap
  · rw [show addP ps p = ps by unfold addP; rw [hin]; rfl]
    exact add_inT d n a cap ps p w hp (by omega) hn hin
end Go.Proofs.Ytnnndkpmlpbpcaa
