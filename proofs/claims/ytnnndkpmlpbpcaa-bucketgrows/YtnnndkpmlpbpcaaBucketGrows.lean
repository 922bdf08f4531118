/- For all pairs the call BucketGrows of the statements returns true and its argument reads as it did: no condition. -/
import Derived.Test.YtnnndkpmlpbpcaaRows
import Derived.Test.YtnnndkpmlpbpcaaArg
import Derived.Test.YtnnndkpmlpbpcaaGr
import Derived.Deep.RegionLaw
import Derived.WalkKit
import Derived.ProofKit
import Derived.OpenShut
import Derived.ShutString
import Derived.ChangeOld
import Derived.Below
namespace Go.Proofs.Ytnnndkpmlpbpcaa.bucketGrows
open Go.ChangeShapes Go.WideShapes Go.ChangeAt Go.RowKit
set_option linter.unusedVariables false
set_option linter.unusedSimpArgs false
set_option maxRecDepth 20000

theorem own : ownKnob Try.prog.godebug = none := by kernel_rfl
theorem laidOut : laidOutB Try.prog = true := by kernel_rfl
set_option maxHeartbeats 2000000 in
theorem walk_many (a0 : Option Addr) (len0 cap0 : Nat) (y0 : List PR) (w : World) (w0 : Prs w a0 len0 cap0 y0) (hl : 40 < y0.length) :
    Calls Try.prog 6 #[.slice a0 len0 cap0] w fun e w' => e = .returned (.bool true) ∧ Below w.heap.size w w' := by
  obtain ⟨rfl, hp, hn, hcl, hcap, _, _⟩ := w0
  have h1 : (40 : Int) < (y0.length : Int) := by omega
  clear hp
  go_enter Try.func6, Try.ntmps6
  go_wp2_with (go_at_call 9; refine (awake_any _).mono ?_; rintro e v9 ⟨rfl, g9⟩)
  go_ret
  exact ⟨rfl, g9⟩
theorem gr_start (w : World) : GrI w ((w.alloc (.cells #[.int .i64 0, .int .i64 0, .slice none 0 0] 28)).alloc (.cells #[.int .i64 0, .int .i64 0, .slice none 0 0] 28)) (.slice none 0 0) (.slice none 0 0) [] [] := by
  refine ⟨(Below.heap_alloc _ _ _ (by simp)).trans (heap_alloc_new w _), ?_, OwnQ.nil _ _, OwnQ.nil _ _, two_blocks _ _ _⟩
  have := heap_alloc_new (w.alloc (.cells #[.int .i64 0, .int .i64 0, .slice none 0 0] 28)) (.cells #[.int .i64 0, .int .i64 0, .slice none 0 0] 28)
  rw [show (w.alloc (.cells #[.int .i64 0, .int .i64 0, .slice none 0 0] 28)).heap.size = w.heap.size + 1 by simp] at this
  exact this
theorem growS_take (l : List PR) (k : Nat) (h : k < l.length) : growS (l.take (k + 1)) = addP (growS (l.take k)) (l.getD k default) := by rw [take_snocP l k h, grow_snoc]
theorem growS_rev (l : List PR) (k : Nat) (h : k < l.length) : growS (l.reverse.take (k + 1)) = addP (growS (l.reverse.take k)) (l.getD (l.length - 1 - k) default) := by rw [rev_take l k h, grow_snoc]
theorem all_take {l : List PR} {k : Nat} (h : k = l.length) : growS (l.take k) = growS l := by rw [h, List.take_length]
theorem all_rev {l : List PR} {k : Nat} (h : k = l.length) : growS (l.reverse.take k) = growS l := by rw [List.take_of_length_le (by simp [h]), grow_rev]
theorem boxf {w w4 : World} {x y z : Value} (hb : Below (w.alloc (.cells #[x, y, z] 28)).heap.size (w.alloc (.cells #[x, y, z] 28)) w4) : w4.cell? ⟨w.heap.size, 0, none⟩ = some x ∧ w4.cell? ⟨w.heap.size, 1, none⟩ = some y ∧ w4.cell? ⟨w.heap.size, 2, none⟩ = some z ∧ w4.frozen? ⟨w.heap.size, 0, none⟩ = false ∧ w4.frozen? ⟨w.heap.size, 1, none⟩ = false ∧ w4.frozen? ⟨w.heap.size, 2, none⟩ = false := by
  have h : w4.heap[w.heap.size]? = some (.cells #[x, y, z] 28 (0, 0)) := (hb.block _ (by simp)).trans (heap_alloc_new w _)
  exact ⟨by simp [World.cell?, h], by simp [World.cell?, h], by simp [World.cell?, h], by simp [World.frozen?, h], by simp [World.frozen?, h], by simp [World.frozen?, h]⟩
theorem boxfd {w w4 : World} {x y z : Value} (hb : Below (w.alloc (.cells #[x, y, z] 28)).drew.heap.size (w.alloc (.cells #[x, y, z] 28)).drew w4) : w4.cell? ⟨w.heap.size, 0, none⟩ = some x ∧ w4.cell? ⟨w.heap.size, 1, none⟩ = some y ∧ w4.cell? ⟨w.heap.size, 2, none⟩ = some z ∧ w4.frozen? ⟨w.heap.size, 0, none⟩ = false ∧ w4.frozen? ⟨w.heap.size, 1, none⟩ = false ∧ w4.frozen? ⟨w.heap.size, 2, none⟩ = false := by
  have h : w4.heap[w.heap.size]? = some (.cells #[x, y, z] 28 (0, 0)) := (hb.block w.heap.size (by simp)).trans (heap_alloc_new w _)
  exact ⟨by simp [World.cell?, h], by simp [World.cell?, h], by simp [World.cell?, h], by simp [World.frozen?, h], by simp [World.frozen?, h], by simp [World.frozen?, h]⟩
theorem check_small {gs : List PR} (h : ∀ q ∈ gs, q.1.size ≤ 20 ∧ q.2.size ≤ 20) (hu : risesB gs = true) : (checkE 0 0 gs = 10 ∧ 246 < sizeS gs) ∨ checkE 0 0 gs = 0 := by
  have ha : gs.any longP = false := by
    rw [List.any_eq_false]
    intro q hq
    have := h q hq
    unfold longP
    simp
    omega
  by_cases hs : 246 < sizeS gs
  · left; unfold checkE; rw [if_neg (by omega), if_neg (by simp [ha]), if_pos hs]; exact ⟨rfl, hs⟩
  · right; unfold checkE; rw [if_neg (by omega), if_neg (by simp [ha]), if_neg hs, if_pos hu]
theorem lp20 {l : List PR} (h : ∀ q ∈ l, q.1.size ≤ 20 ∧ q.2.size ≤ 20) : ∀ q ∈ l, Lp q := fun q hq => ⟨by have := (h q hq).1; omega, by have := (h q hq).2; omega⟩
set_option maxHeartbeats 16000000 in
theorem walk_few (a0 : Option Addr) (len0 cap0 : Nat) (y0 : List PR) (w : World) (w0 : Prs w a0 len0 cap0 y0) (hl : ¬ 40 < y0.length) :
    Calls Try.prog 6 #[.slice a0 len0 cap0] w fun e w' => e = .returned (.bool true) ∧ Below w.heap.size w w' := by
  obtain ⟨rfl, hp, hn, hcl, hcap, _, _⟩ := w0
  have h1 : ¬ (40 : Int) < (y0.length : Int) := by omega
  have G0 : Hid (GrI w ((w.alloc (.cells #[.int .i64 0, .int .i64 0, .slice none 0 0] 28)).alloc (.cells #[.int .i64 0, .int .i64 0, .slice none 0 0] 28)) (.slice none 0 0) (.slice none 0 0) [] []) := gr_start w
  go_enter Try.func6, Try.ntmps6
  go_wp2
  go_loopw [5] (fun i wr => ∃ (k : Nat) (va vb : Value), k ≤ y0.length ∧ i = .int .i64 k ∧ Hid (GrI w wr va vb (growS (y0.take k)) (growS (y0.reverse.take k))) ∧ Hid (∀ j, j < k → (y0.getD j default).1.size ≤ 20 ∧ (y0.getD j default).2.size ≤ 20)) (fun i _ => y0.length - (intOf i).toNat)
  case atStart => exact ⟨0, _, _, Nat.zero_le _, rfl, by simpa [growS, Hid] using G0.out, (fun j hj => by omega)⟩
  case round =>
    clear G0
    obtain ⟨k, va, vb, hk, rfl, HI, HS⟩ := hrel
    obtain ⟨aa, ca, rfl, _⟩ := HI.out.oa.view
    obtain ⟨ab, cb, rfl, _⟩ := HI.out.ob.view
    obtain ⟨x0, x1, x2, f0, f1, f2⟩ := HI.out.hA.cells
    by_cases hlt : k < y0.length
    · have hpW := hp
      obtain h0 | ⟨b, off, rfl, hbl, hc⟩ := hpW
      · subst h0; simp at hlt
      have LC : Hid (∀ W, Below w.heap.size w W → (W.cell? ⟨b, off + k * 2, none⟩ = some (.string (y0.getD k default).1) ∧ W.cell? ⟨b, off + k * 2 + 1, none⟩ = some (.string (y0.getD k default).2)) ∧ (W.cell? ⟨b, off + (y0.length - 1 - k) * 2, none⟩ = some (.string (y0.getD (y0.length - 1 - k) default).1) ∧ W.cell? ⟨b, off + (y0.length - 1 - k) * 2 + 1, none⟩ = some (.string (y0.getD (y0.length - 1 - k) default).2))) := fun W hW =>
        ⟨⟨(hW.cell (p := ⟨b, off + k * 2, none⟩) hbl).trans (hc k hlt).1, (hW.cell (p := ⟨b, off + k * 2 + 1, none⟩) hbl).trans (hc k hlt).2⟩, (hW.cell (p := ⟨b, off + (y0.length - 1 - k) * 2, none⟩) hbl).trans (hc (y0.length - 1 - k) (by omega)).1, (hW.cell (p := ⟨b, off + (y0.length - 1 - k) * 2 + 1, none⟩) hbl).trans (hc (y0.length - 1 - k) (by omega)).2⟩
      obtain ⟨⟨c0, c1⟩, c2, c3⟩ := LC.out _ HI.out.bl
      have hlt2 : (k : Int) < (y0.length : Int) := by omega
      clear hc
      by_cases hk1 : 20 < (y0.getD k default).1.size
      · generalize (y0.getD k default).1 = sk at *
        generalize (y0.getD k default).2 = sv at *
        have hx : (20 : Int) < (sk.size : Int) := by omega
        go_wp2_with (go_at_call 9; refine (awake_any _).mono ?_; rintro e v9 ⟨rfl, g9⟩)
        go_ret
        exact ⟨rfl, bt HI.out.bl g9⟩
      · by_cases hv1 : 20 < (y0.getD k default).2.size
        · generalize (y0.getD k default).1 = sk at *
          generalize (y0.getD k default).2 = sv at *
          have hx : ¬ (20 : Int) < (sk.size : Int) := by omega
          have hy : (20 : Int) < (sv.size : Int) := by omega
          go_wp2_with (go_at_call 9; refine (awake_any _).mono ?_; rintro e v9 ⟨rfl, g9⟩)
          go_ret
          exact ⟨rfl, bt HI.out.bl g9⟩
        · have HS1 : Hid (∀ j, j < k + 1 → (y0.getD j default).1.size ≤ 20 ∧ (y0.getD j default).2.size ≤ 20) := by
            intro j hj
            by_cases e : j = k
            · subst e; exact ⟨by omega, by omega⟩
            · exact HS.out j (by omega)
          have hga := growS_take y0 k hlt
          have hgb := growS_rev y0 k hlt
          have hla : (growS (y0.take k)).length ≤ 40 := Nat.le_trans (grow_len _) (by simp; omega)
          have hlb : (growS (y0.reverse.take k)).length ≤ 40 := Nat.le_trans (grow_len _) (by simp; omega)
          have HGA : Hid (growS (y0.take (k + 1)) = _) := hga
          have HGB : Hid (growS (y0.reverse.take (k + 1)) = _) := hgb
          clear hga hgb
          have e9 : (y0.getD k default) = ((y0.getD k default).1, (y0.getD k default).2) := rfl
          have e8 : (y0.getD (y0.length - 1 - k) default) = ((y0.getD (y0.length - 1 - k) default).1, (y0.getD (y0.length - 1 - k) default).2) := rfl
          rw [e9] at HGA
          rw [e8] at HGB
          clear e9 e8
          generalize growS (y0.take k) = xs at *
          generalize growS (y0.reverse.take k) = ys at *
          have CI : ((y0.length : Int) - 1 - (k : Int)).toNat = y0.length - 1 - k := by omega
          have i0 : (0 : Int) ≤ (y0.length : Int) - 1 - (k : Int) := by omega
          have i1 : (y0.length : Int) - 1 - (k : Int) < (y0.length : Int) := by omega
          have i4 : (k : Int) ≤ (y0.length : Int) - 1 := by omega
          have i2 : IntKind.i64.wrap ((y0.length : Int) - 1) = (y0.length : Int) - 1 := by rw [IntKind.wrap_i64]; omega
          have i3 : IntKind.i64.wrap ((y0.length : Int) - 1 - (k : Int)) = (y0.length : Int) - 1 - (k : Int) := by rw [IntKind.wrap_i64]; omega
          have hx : ¬ (20 : Int) < ((y0.getD k default).1.size : Int) := by omega
          have hy : ¬ (20 : Int) < ((y0.getD k default).2.size : Int) := by omega
          clear hk1 hv1
          generalize (y0.getD k default).1 = sk at *
          generalize (y0.getD k default).2 = sv at *
          generalize (y0.getD (y0.length - 1 - k) default).1 = tk at *
          generalize (y0.getD (y0.length - 1 - k) default).2 = tv at *
          have AD : Hid (∀ W, Below wr.heap.size wr W → Calls Try.prog 19 #[.agg #[.int .i64 0, .int .i64 0, .slice aa xs.length ca], .agg #[.string sk, .string sv]] W fun e w' => ∃ a' l' c', e = .returned (.tuple #[.agg #[.int .i64 0, .int .i64 0, .slice a' l' c'], .bool (!(xs.any fun q => eqP q (sk, sv)))]) ∧ OwnQ w' (w.heap.size + 2) (.slice a' l' c') (addP xs (sk, sv)) ∧ Below W.heap.size W w') := fun W hW => gr_add (sk, sv) (HI.out.below hW).oa (by omega) (by have := (HI.out.below hW).hB.lt; omega)
          go_wp2_with fail
          go_region_law (first | (go_simp; go_at_call 19; refine (AD.out _ (Below.refl _ _).drew).mono ?_; rintro e w5 ⟨a5, l5, c5, rfl, ho5, hb5⟩; have J5 : Hid (GrI w w5 (.slice aa xs.length ca) (.slice ab ys.length cb) xs ys) := HI.out.drew.below hb5; obtain ⟨m0, m1, m2, q0, q1, q2⟩ := J5.out.hA.cells))
          all_goals have K5 : Hid (GrI w (((w5.setCell ⟨w.heap.size, 0, none⟩ (.int .i64 0)).setCell ⟨w.heap.size, 1, none⟩ (.int .i64 0)).setCell ⟨w.heap.size, 2, none⟩ (.slice a5 l5 c5)) (.slice a5 l5 c5) (.slice ab ys.length cb) (addP xs (sk, sv)) ys) := J5.out.setA ho5
          all_goals generalize (((w5.setCell ⟨w.heap.size, 0, none⟩ (.int .i64 0)).setCell ⟨w.heap.size, 1, none⟩ (.int .i64 0)).setCell ⟨w.heap.size, 2, none⟩ (.slice a5 l5 c5)) = X5 at K5 ⊢
          all_goals clear m0 m1 m2 q0 q1 q2 J5 ho5 hb5 c0 c1 c2 c3 x0 x1 x2 f0 f1 f2
          all_goals obtain ⟨⟨c0, c1⟩, c2, c3⟩ := LC.out _ K5.out.bl
          all_goals obtain ⟨x0, x1, x2, f0, f1, f2⟩ := K5.out.hB.cells
          all_goals have AE : Hid (∀ W, Below X5.heap.size X5 W → Calls Try.prog 19 #[.agg #[.int .i64 0, .int .i64 0, .slice ab ys.length cb], .agg #[.string tk, .string tv]] W fun e w' => ∃ a' l' c', e = .returned (.tuple #[.agg #[.int .i64 0, .int .i64 0, .slice a' l' c'], .bool (!(ys.any fun q => eqP q (tk, tv)))]) ∧ OwnQ w' (w.heap.size + 2) (.slice a' l' c') (addP ys (tk, tv)) ∧ Below W.heap.size W w') := fun W hW => gr_add (tk, tv) (K5.out.below hW).ob (by omega) (by have := (K5.out.below hW).hB.lt; omega)
          all_goals go_wp2_with fail
          all_goals go_region_law (first | (go_simp; go_at_call 19; refine (AE.out _ (Below.refl _ _).drew).mono ?_; rintro e w6 ⟨a6, l6, c6, rfl, ho6, hb6⟩; have J6 : Hid (GrI w w6 (.slice a5 l5 c5) (.slice ab ys.length cb) (addP xs (sk, sv)) ys) := K5.out.drew.below hb6; obtain ⟨m0, m1, m2, q0, q1, q2⟩ := J6.out.hB.cells))
          all_goals have K6 : Hid (GrI w (((w6.setCell ⟨w.heap.size + 1, 0, none⟩ (.int .i64 0)).setCell ⟨w.heap.size + 1, 1, none⟩ (.int .i64 0)).setCell ⟨w.heap.size + 1, 2, none⟩ (.slice a6 l6 c6)) (.slice a5 l5 c5) (.slice a6 l6 c6) (addP xs (sk, sv)) (addP ys (tk, tv))) := J6.out.setB ho6
          all_goals generalize (((w6.setCell ⟨w.heap.size + 1, 0, none⟩ (.int .i64 0)).setCell ⟨w.heap.size + 1, 1, none⟩ (.int .i64 0)).setCell ⟨w.heap.size + 1, 2, none⟩ (.slice a6 l6 c6)) = X6 at K6 ⊢
          all_goals clear m0 m1 m2 q0 q1 q2 J6 ho6 hb6 c0 c1 c2 c3 x0 x1 x2 f0 f1 f2
          all_goals go_wp2
          all_goals refine ⟨⟨k + 1, .slice a5 l5 c5, .slice a6 l6 c6, by omega, by go_num, by rw [HGA.out, HGB.out]; exact K6.out, HS1⟩, by simp [intOf]; omega⟩
    · have ek : k = y0.length := by omega
      have hxx : ¬ (k : Int) < (y0.length : Int) := by omega
      have HL20 : Hid (∀ q ∈ y0, q.1.size ≤ 20 ∧ q.2.size ≤ 20) := fun q hq => by
        obtain ⟨j, hj, e⟩ := List.mem_iff_getElem.1 hq
        have := HS.out j (by omega)
        rw [List.getD_eq_getElem?_getD, List.getElem?_eq_getElem hj] at this
        simp only [Option.getD_some, e] at this
        exact this
      have HI1 : Hid (GrI w wr (.slice aa (growS (y0.take k)).length ca) (.slice ab (growS (y0.reverse.take k)).length cb) (growS y0) (growS y0)) := by
        have := HI.out
        rw [all_take ek, all_rev ek] at this
        rw [all_take ek, all_rev ek]
        exact this
      rw [all_take ek, all_rev ek] at HI1
      have hgl : (growS y0).length ≤ 40 := Nat.le_trans (grow_len _) (by omega)
      have HGS : Hid (∀ q ∈ growS y0, q.1.size ≤ 20 ∧ q.2.size ≤ 20) := fun q hq => HL20.out q (((grow_up y0).2 q).1 hq)
      have HUP : Hid (risesB (growS y0) = true) := up_rises (grow_up y0).1
      have HIN : Hid (∀ j, j < y0.length → ((growS y0).any fun q => eqP q (y0.getD j default)) = true) := fun j hj => (any_in _ _).2 (((grow_up y0).2 _).2 (by rw [List.getD_eq_getElem?_getD, List.getElem?_eq_getElem hj]; exact List.getElem_mem hj))
      have HNIL : Hid (remS y0 (growS y0) y0.length = []) := rem_nil y0
      clear HI HS x0 x1 x2 f0 f1 f2
      generalize growS y0 = gs at *
      go_wp2
      go_loopw [6] (fun i wq => ∃ m : Nat, m ≤ y0.length ∧ i = .int .i64 m ∧ Hid (GrI w wq (.slice aa gs.length ca) (.slice ab gs.length cb) gs gs)) (fun i _ => y0.length - (intOf i).toNat)
      case atStart => exact ⟨0, Nat.zero_le _, rfl, HI1⟩
      case round =>
        clear HI1
        obtain ⟨m, hm, rfl, HI⟩ := hrel
        obtain ⟨x0, x1, x2, f0, f1, f2⟩ := HI.out.hA.cells
        by_cases hlt : m < y0.length
        · have hpW := hp
          obtain h0 | ⟨b, off, rfl, hbl, hc⟩ := hpW
          · subst h0; simp at hlt
          have hlt2 : (m : Int) < (y0.length : Int) := by omega
          have SL : Hid (∀ W, Below wr.heap.size wr W → W.cell? ⟨w.heap.size, 0, none⟩ = some (.int .i64 0) ∧ W.cell? ⟨w.heap.size, 1, none⟩ = some (.int .i64 0) ∧ W.cell? ⟨w.heap.size, 2, none⟩ = some (.slice aa gs.length ca) ∧ W.cell? ⟨b, off + m * 2, none⟩ = some (.string (y0.getD m default).1) ∧ W.cell? ⟨b, off + m * 2 + 1, none⟩ = some (.string (y0.getD m default).2)) := fun W hW => by
            obtain ⟨q0, q1, q2, _, _, _⟩ := (HI.out.below hW).hA.cells
            exact ⟨q0, q1, q2, ((bt HI.out.bl hW).cell (p := ⟨b, off + m * 2, none⟩) hbl).trans (hc m hlt).1, ((bt HI.out.bl hW).cell (p := ⟨b, off + m * 2 + 1, none⟩) hbl).trans (hc m hlt).2⟩
          have hin := HIN.out m hlt
          have AD : Hid (∀ W, Below wr.heap.size wr W → Calls Try.prog 19 #[.agg #[.int .i64 0, .int .i64 0, .slice aa gs.length ca], pv (y0.getD m default)] W fun e w' => ∃ a' l' c', e = .returned (.tuple #[.agg #[.int .i64 0, .int .i64 0, .slice a' l' c'], .bool false]) ∧ Below W.heap.size W w') := fun W hW => by
            have := gr_add (y0.getD m default) (HI.out.below hW).oa (by omega) (by have := (HI.out.below hW).hB.lt; omega)
            rw [hin] at this
            refine this.mono ?_
            rintro e w' ⟨a', l', c', rfl, _, h9⟩
            exact ⟨a', l', c', rfl, h9⟩
          have HS : Hid (∀ W, Below wr.heap.size wr W → Calls Try.prog 25 #[.agg #[.int .i64 0, .int .i64 0, .slice aa gs.length ca], pv (y0.getD m default)] W fun e w' => e = .returned (.bool true) ∧ Below W.heap.size W w') := fun W hW => by
            obtain ⟨a, cap, e, _, q2, _⟩ := (HI.out.below hW).oa.arg
            obtain ⟨rfl, _, rfl⟩ : aa = a ∧ gs.length = gs.length ∧ ca = cap := by simpa using e
            have := has_any 0 0 aa ca gs (y0.getD m default) W q2 (by omega) (lp20 HGS.out)
            rw [hin] at this
            exact this
          clear hc hin
          unfold pv at AD HS
          generalize (y0.getD m default).1 = sk at *
          generalize (y0.getD m default).2 = sv at *
          obtain ⟨_, _, _, c0, c1⟩ := SL.out _ (Below.refl _ _)
          have AD1 := AD.out wr.drew (Below.refl _ _).drew
          have AD2 := AD.out (wr.alloc (.cells #[.int .i64 0, .int .i64 0, .slice none 0 0] 28)).drew (one_block _ _).drew
          clear AD
          go_wp2_with fail
          go_region_held3 (fun W => W.cell? ⟨w.heap.size, 0, none⟩ = some (.int .i64 0) ∧ W.cell? ⟨w.heap.size, 1, none⟩ = some (.int .i64 0) ∧ W.cell? ⟨w.heap.size, 2, none⟩ = some (.slice aa gs.length ca) ∧ W.cell? ⟨b, off + m * 2, none⟩ = some (.string sk) ∧ W.cell? ⟨b, off + m * 2 + 1, none⟩ = some (.string sv)) (first | exact SL.out _ (Below.refl _ _).drew | exact SL.out _ (Below.trans (Below.refl _ _).drew g5) | exact SL.out _ (bt (Below.trans (Below.refl _ _).drew g5) (one_block _ _)) | exact SL.out _ (one_block _ _).drew | exact SL.out _ (bt (one_block _ _).drew g5) | exact SL.out _ (set3_below (bt (one_block _ _).drew g5) (Nat.le_refl _)) | exact SL.out _ (set3_below (bt (Below.trans (Below.refl _ _).drew g5) (one_block _ _)) (by have := g5.size; simp at this; simp; omega))) (first | (go_at_call 19; with_reducible refine AD1.mono ?_; rintro e w5 ⟨a5, l5, c5, rfl, g5⟩; clear AD1 AD2) | (go_at_call 19; with_reducible refine AD2.mono ?_; rintro e w5 ⟨a5, l5, c5, rfl, g5⟩; clear AD1 AD2; obtain ⟨s0, s1, s2, s3, s4, s5⟩ := boxfd (w := wr) g5))
          all_goals first | (have HB5 : Hid (Below wr.heap.size wr (w5.alloc (.cells #[.int .i64 0, .int .i64 0, .slice a5 l5 c5] 28))) := bt (Below.trans (Below.refl _ _).drew g5) (one_block _ _); generalize w5.alloc (.cells #[.int .i64 0, .int .i64 0, .slice a5 l5 c5] 28) = V5 at HB5 ⊢) | (have HB5 : Hid (Below wr.heap.size wr (((w5.setCell ⟨wr.heap.size, 0, none⟩ (.int .i64 0)).setCell ⟨wr.heap.size, 1, none⟩ (.int .i64 0)).setCell ⟨wr.heap.size, 2, none⟩ (.slice a5 l5 c5))) := set3_below (bt (one_block _ _).drew g5) (Nat.le_refl _); generalize (((w5.setCell ⟨wr.heap.size, 0, none⟩ (.int .i64 0)).setCell ⟨wr.heap.size, 1, none⟩ (.int .i64 0)).setCell ⟨wr.heap.size, 2, none⟩ (.slice a5 l5 c5)) = V5 at HB5 ⊢)
          all_goals obtain ⟨d0, d1, d2, d3, d4⟩ := SL.out _ HB5.out
          all_goals clear x0 x1 x2 f0 f1 f2 c0 c1
          all_goals go_wp2_with fail
          all_goals go_region_held3 (fun W => W.cell? ⟨w.heap.size, 0, none⟩ = some (.int .i64 0) ∧ W.cell? ⟨w.heap.size, 1, none⟩ = some (.int .i64 0) ∧ W.cell? ⟨w.heap.size, 2, none⟩ = some (.slice aa gs.length ca) ∧ W.cell? ⟨b, off + m * 2, none⟩ = some (.string sk) ∧ W.cell? ⟨b, off + m * 2 + 1, none⟩ = some (.string sv)) (first | exact SL.out _ (bt HB5.out (Below.refl _ _).drew) | exact SL.out _ (bt HB5.out (Below.trans (Below.refl _ _).drew g6))) (first | (go_at_call 25; refine (HS.out _ (bt HB5.out (Below.refl _ _).drew)).mono ?_; rintro e w6 ⟨rfl, g6⟩; clear HS))
          all_goals go_wp2
          all_goals refine ⟨⟨m + 1, by omega, by go_num, HI.out.below (bt HB5.out (Below.trans (Below.refl _ _).drew g6))⟩, by simp [intOf]; omega⟩
        · have em : m = y0.length := by omega
          have hxm : ¬ (m : Int) < (y0.length : Int) := by omega
          have CKW : ∀ W, PV W aa gs → Calls Try.prog 14 #[.agg #[.int .i64 0, .int .i64 0, .slice aa gs.length ca]] W fun e w' => e = .returned (.int .i64 (checkE 0 0 gs)) ∧ Below W.heap.size W w' := fun W h9 => check_any 0 0 aa ca gs W h9 (by omega) (lp20 HGS.out)
          have SZW : ∀ W, PV W aa gs → Calls Try.prog 15 #[.agg #[.int .i64 0, .int .i64 0, .slice aa gs.length ca]] W fun e w' => e = .returned (.int .i64 (sizeS gs)) ∧ Below W.heap.size W w' := fun W h9 => size_any 0 0 aa ca gs W h9 (by omega) (lp20 HGS.out)
          have SMW : ∀ W, PV W aa gs → PV W ab gs → Calls Try.prog 18 #[.agg #[.int .i64 0, .int .i64 0, .slice aa gs.length ca], .agg #[.int .i64 0, .int .i64 0, .slice ab gs.length cb]] W fun e w' => e = .returned (.bool true) ∧ Below W.heap.size W w' := fun W h8 h9 => by
            have := sameb_any 0 0 0 0 aa ab ca cb gs gs W h8 h9 (by omega) (by omega)
            rw [show sameBk 0 0 gs 0 0 gs = true by simp [sameBk]] at this
            exact this
          have CK : Hid (∀ W, PV W aa gs → Calls Try.prog 14 #[.agg #[.int .i64 0, .int .i64 0, .slice aa gs.length ca]] W fun e w' => e = .returned (.int .i64 (checkE 0 0 gs)) ∧ Below W.heap.size W w') := CKW
          have SZ : Hid (∀ W, PV W aa gs → Calls Try.prog 15 #[.agg #[.int .i64 0, .int .i64 0, .slice aa gs.length ca]] W fun e w' => e = .returned (.int .i64 (sizeS gs)) ∧ Below W.heap.size W w') := SZW
          have SM : Hid (∀ W, PV W aa gs → PV W ab gs → Calls Try.prog 18 #[.agg #[.int .i64 0, .int .i64 0, .slice aa gs.length ca], .agg #[.int .i64 0, .int .i64 0, .slice ab gs.length cb]] W fun e w' => e = .returned (.bool true) ∧ Below W.heap.size W w') := SMW
          clear CKW SZW SMW
          have PVA : Hid (∀ W, GrI w W (.slice aa gs.length ca) (.slice ab gs.length cb) gs gs → PV W aa gs ∧ PV W ab gs) := fun W h9 => by
            obtain ⟨a, cap, e, _, q2, _⟩ := h9.oa.arg
            obtain ⟨a', cap', e', _, q2', _⟩ := h9.ob.arg
            obtain ⟨rfl, _, rfl⟩ : aa = a ∧ gs.length = gs.length ∧ ca = cap := by simpa using e
            obtain ⟨rfl, _, rfl⟩ : ab = a' ∧ gs.length = gs.length ∧ cb = cap' := by simpa using e'
            exact ⟨q2, q2'⟩
          have HE : Hid ((checkE 0 0 gs = 10 ∧ 246 < sizeS gs) ∨ checkE 0 0 gs = 0) := check_small HGS.out HUP.out
          generalize checkE 0 0 gs = E at *
          generalize sizeS gs = sz at *
          go_wp2_with (first | (go_at_call 14; refine (CK.out _ (PVA.out _ HI.out).1).mono ?_; rintro e w7 ⟨rfl, g7⟩; clear CK; have HI7 : Hid (GrI w w7 (.slice aa gs.length ca) (.slice ab gs.length cb) gs gs) := HI.out.below g7; clear x0 x1 x2 f0 f1 f2; obtain ⟨x0, x1, x2, f0, f1, f2⟩ := HI7.out.hA.cells))
          have HOA : Hid (∀ g, (Value.slice aa gs.length ca).ownBlock = some g → g < w7.heap.size) := fun g hg => (World.ownsRow.lt HI7.out.oa g hg).2
          have HOB : Hid (∀ g, (Value.slice ab gs.length cb).ownBlock = some g → g < w7.heap.size) := fun g hg => (World.ownsRow.lt HI7.out.ob g hg).2
          have HI8 : Hid (GrI w (w7.alloc (.cells #[.int .i64 0, .int .i64 0, .slice aa gs.length ca] 28)) (.slice aa gs.length ca) (.slice ab gs.length cb) gs gs) := HI7.out.below (one_block _ _)
          have HC8 : Hid (Blk (w7.alloc (.cells #[.int .i64 0, .int .i64 0, .slice aa gs.length ca] 28)) w7.heap.size 0 0 (.slice aa gs.length ca)) := heap_alloc_new w7 _
          have HCB : Hid (w.heap.size + 2 ≤ w7.heap.size) := by have := HI7.out.hB.lt; show w.heap.size + 2 ≤ w7.heap.size; omega
          clear x0 x1 x2 f0 f1 f2 HI HI7
          generalize w7.alloc (.cells #[.int .i64 0, .int .i64 0, .slice aa gs.length ca] 28) = V7 at *
          generalize w7.heap.size = CB at *
          go_loopw [11] (fun i wz => ∃ (n : Nat) (av : Option Addr) (cv : Nat), n ≤ y0.length ∧ i = .int .i64 n ∧ Hid (GrI w wz (.slice aa gs.length ca) (.slice ab gs.length cb) gs gs) ∧ Hid (Blk wz CB 0 0 (.slice av (remS y0 gs n).length cv)) ∧ Hid (OwnQ wz (w.heap.size + 2) (.slice av (remS y0 gs n).length cv) (remS y0 gs n)) ∧ Hid (∀ g, (Value.slice av (remS y0 gs n).length cv).ownBlock = some g → g ≠ CB)) (fun i _ => y0.length - (intOf i).toNat)
          case atStart => exact ⟨0, aa, ca, Nat.zero_le _, rfl, HI8, HC8, HI8.out.oa, (fun g hg => Nat.ne_of_lt (HOA.out g hg))⟩
          case round =>
            clear HI8 HC8
            obtain ⟨n, av, cv, hn9, rfl, HI, HC, HO, HX⟩ := hrel
            obtain ⟨x0, x1, x2, f0, f1, f2⟩ := HC.out.cells
            by_cases hlt : n < y0.length
            · have hpW := hp
              obtain h0 | ⟨b, off, rfl, hbl, hc⟩ := hpW
              · subst h0; simp at hlt
              have hlt2 : (n : Int) < (y0.length : Int) := by omega
              have c0 := (HI.out.bl.cell (p := ⟨b, off + n * 2, none⟩) hbl).trans (hc n hlt).1
              have c1 := (HI.out.bl.cell (p := ⟨b, off + n * 2 + 1, none⟩) hbl).trans (hc n hlt).2
              have hrl : (remS y0 gs n).length ≤ 40 := Nat.le_trans (rem_le _ _ _) hgl
              have HRL : Hid (∀ q ∈ remS y0 gs n, Lp q) := fun q hq => lp20 HGS.out q ((rem_in _ _ _ _).1 hq).1
              have RM : Hid (∀ W, Below wr.heap.size wr W → Calls Try.prog 21 #[.agg #[.int .i64 0, .int .i64 0, .slice av (remS y0 gs n).length cv], pv (y0.getD n default)] W fun e w' => ∃ a' l' c', e = .returned (.tuple #[.agg #[.int .i64 0, .int .i64 0, .slice a' l' c'], .bool ((remS y0 gs n).any fun q => eqP q (y0.getD n default))]) ∧ OwnQ w' W.heap.size (.slice a' l' c') (remS y0 gs (n + 1)) ∧ Below W.heap.size W w') := fun W hW => gr_rem (y0.getD n default) (HO.out.below hW) (by omega) HRL.out (by have := (HI.out.below hW).hB.lt; omega)
              clear hc HRL
              generalize ((remS y0 gs n).any fun q => eqP q (y0.getD n default)) = rr at *
              unfold pv at RM
              generalize (y0.getD n default).1 = sk at *
              generalize (y0.getD n default).2 = sv at *
              generalize hrn : remS y0 gs (n + 1) = rt at *
              have HRN : Hid (remS y0 gs (n + 1) = rt) := hrn
              clear hrn
              generalize remS y0 gs n = rs at *
              go_wp2_with fail
              go_region_law (first | (go_simp; go_at_call 21; refine (RM.out _ (Below.refl _ _).drew).mono ?_; rintro e w8 ⟨a8, l8, c8, rfl, ho8, g8⟩; have HI9 : Hid (GrI w w8 (.slice aa gs.length ca) (.slice ab gs.length cb) gs gs) := HI.out.below (Below.trans (Below.refl _ _).drew g8); have HC9 : Hid (Blk w8 CB 0 0 (.slice av rs.length cv)) := (g8.block CB HC.out.lt).trans HC.out; obtain ⟨m0, m1, m2, q0, q1, q2⟩ := HC9.out.cells))
              all_goals have HIN9 : Hid (GrI w (((w8.setCell ⟨CB, 0, none⟩ (.int .i64 0)).setCell ⟨CB, 1, none⟩ (.int .i64 0)).setCell ⟨CB, 2, none⟩ (.slice a8 l8 c8)) (.slice aa gs.length ca) (.slice ab gs.length cb) gs gs) := HI9.out.setC HCB.out (fun g hg => Nat.ne_of_lt (HOA.out g hg)) (fun g hg => Nat.ne_of_lt (HOB.out g hg))
              all_goals have HCN9 : Hid (Blk (((w8.setCell ⟨CB, 0, none⟩ (.int .i64 0)).setCell ⟨CB, 1, none⟩ (.int .i64 0)).setCell ⟨CB, 2, none⟩ (.slice a8 l8 c8)) CB 0 0 (.slice a8 l8 c8)) := set3_at HC9.out
              all_goals have hnc : ∀ g, (Value.slice a8 l8 c8).ownBlock = some g → g ≠ CB := fun g hg => by (have h7 := (World.ownsRow.lt ho8 g hg).1; have h8 : CB < wr.heap.size := HC.out.lt; have h9 : wr.drew.heap.size = wr.heap.size := rfl; omega)
              all_goals have HON9 : Hid (OwnQ (((w8.setCell ⟨CB, 0, none⟩ (.int .i64 0)).setCell ⟨CB, 1, none⟩ (.int .i64 0)).setCell ⟨CB, 2, none⟩ (.slice a8 l8 c8)) (w.heap.size + 2) (.slice a8 l8 c8) rt) := OwnQ.setC (ho8.mono (by (have h7 := HI.out.hB.lt; have h9 : wr.drew.heap.size = wr.heap.size := rfl; omega))) hnc
              all_goals have HXN9 : Hid (∀ g, (Value.slice a8 l8 c8).ownBlock = some g → g ≠ CB) := hnc
              all_goals generalize (((w8.setCell ⟨CB, 0, none⟩ (.int .i64 0)).setCell ⟨CB, 1, none⟩ (.int .i64 0)).setCell ⟨CB, 2, none⟩ (.slice a8 l8 c8)) = X8 at HIN9 HCN9 HON9 ⊢
              all_goals clear m0 m1 m2 q0 q1 q2 hnc HI9 HC9 ho8 g8 x0 x1 x2 f0 f1 f2 c0 c1
              all_goals go_wp2
              all_goals (obtain ⟨b7, k7, e7, _⟩ := HON9.out.view)
              all_goals (obtain ⟨rfl, rfl, rfl⟩ : a8 = b7 ∧ l8 = rt.length ∧ c8 = k7 := by simpa using e7)
              all_goals refine ⟨⟨n + 1, a8, c8, by omega, by go_num, HIN9, ?_, ?_, ?_⟩, by simp [intOf]; omega⟩
              all_goals rw [HRN.out]
              all_goals assumption
            · have en : n = y0.length := by omega
              have hxn : ¬ (n : Int) < (y0.length : Int) := by omega
              have hr0 : remS y0 gs n = [] := by rw [en]; exact HNIL.out
              rw [hr0] at x2
              simp only [List.length_nil] at x2
              have XC : Hid (∀ W, Below wr.heap.size wr W → W.cell? ⟨CB, 0, none⟩ = some (.int .i64 0) ∧ W.cell? ⟨CB, 1, none⟩ = some (.int .i64 0) ∧ W.cell? ⟨CB, 2, none⟩ = some (.slice av 0 cv)) := fun W hW => ⟨(hW.cell (p := ⟨CB, 0, none⟩) HC.out.lt).trans x0, (hW.cell (p := ⟨CB, 1, none⟩) HC.out.lt).trans x1, (hW.cell (p := ⟨CB, 2, none⟩) HC.out.lt).trans x2⟩
              obtain ⟨y0', y1', y2', _, _, _⟩ := HI.out.hA.cells
              obtain ⟨z0', z1', z2', _, _, _⟩ := HI.out.hB.cells
              clear hr0 HC HO HX HNIL
              rcases HE.out with ⟨hE, hs⟩ | hE
              · subst hE
                go_wp2_with (first | (go_at_call 18; refine (SM.out _ (PVA.out _ HI.out).1 (PVA.out _ HI.out).2).mono ?_; rintro e u1 ⟨rfl, k1⟩; clear SM; clear x0 x1 x2 y0' y1' y2' z0' z1' z2'; obtain ⟨y0', y1', y2', _, _, _⟩ := (HI.out.below k1).hA.cells; obtain ⟨x0, x1, x2⟩ := XC.out _ k1) | (go_at_call 15; refine (SZ.out _ (PVA.out _ (HI.out.below k1)).1).mono ?_; rintro e u2 ⟨rfl, k2⟩; clear SZ; clear x0 x1 x2; obtain ⟨x0, x1, x2⟩ := XC.out _ (bt k1 k2)) | (go_at_call 9; refine (awake_any _).mono ?_; rintro e v9 ⟨rfl, g9⟩))
                go_ret
                exact ⟨rfl, bt HI.out.bl (bt (bt k1 k2) g9)⟩
              · subst hE
                go_wp2_with (first | (go_at_call 18; refine (SM.out _ (PVA.out _ HI.out).1 (PVA.out _ HI.out).2).mono ?_; rintro e u1 ⟨rfl, k1⟩; clear SM; clear x0 x1 x2 y0' y1' y2' z0' z1' z2'; obtain ⟨x0, x1, x2⟩ := XC.out _ k1) | (go_at_call 9; refine (awake_any _).mono ?_; rintro e v9 ⟨rfl, g9⟩))
                go_ret
                exact ⟨rfl, bt HI.out.bl (bt k1 g9)⟩
theorem walk (a0 : Option Addr) (len0 cap0 : Nat) (y0 : List PR) (w : World) (w0 : Prs w a0 len0 cap0 y0) :
    Calls Try.prog 6 #[.slice a0 len0 cap0] w fun e w' => e = .returned (.bool true) ∧ Below w.heap.size w w' := by
  by_cases hl : 40 < y0.length
  · exact walk_many a0 len0 cap0 y0 w w0 hl
  · exact walk_few a0 len0 cap0 y0 w w0 hl
set_option maxRecDepth 100000 in
theorem lifted (os : Os) (started : os.Started) (H : Type) (enc : TypeId × Value → H) :
    ReturnsInHanded {} Try.checked os 6 .any (Rows.bucketGrowsSpec.pre6 enc Try.prog Try.f6 Rows.bucketGrowsRow.domain false) (Rows.bucketGrowsSpec.post enc Try.prog Try.f6 false true false false) := by
  refine returnsInHanded_of_change (C := Try.checked) own started (by kernel_rfl) Try.func6
    (ChangeSpec.witness6 (enc := enc) (C := Try.checked) false ⟨#[], #[.slice none 0 0], []⟩ 8 (by kernel_rfl) (by kernel_rfl) (by kernel_rfl) (by kernel_rfl)) ?_
  intro W base args ds gs before hval0 hW hcnd _
  have hval : ∀ (j : Nat) t v, Try.f6.params[j]? = some t → args[j]? = some v → Value.okWide Try.prog W .any base t v := hval0
  have hW' := hW
  obtain ⟨p, q, hA0, hV, rfl, hfz, hnd⟩ := hW
  have hA : DataW.TrodAll enc Try.prog W 0 (fun _ => true) true Try.f6.params.toList args.toList ds p := hA0
  rw [Try.params6] at hA hval
  obtain ⟨v0, vs0, d'0, ds0, q0, r'0, hargs, rfl, rfl, h0, r0⟩ := trodAll_cons hA
  obtain ⟨rfl, rfl, rfl⟩ := trodAll_nil r0
  obtain rfl : args = #[v0] := by cases args; simp_all
  obtain ⟨rfl, rfl⟩ := trodVars_none hV
  obtain ⟨a0, len0, cap0, rfl⟩ := okWide_slice Try.underlying22 (hval 0 22 v0 rfl rfl)
  have k0 := h0
  have lt0 : ∀ x ∈ q0, x.block < W.heap.size := by obtain ⟨m, hm⟩ := k0; exact DataW.trod_lt m _ _ _ hm
  obtain ⟨y0, w0⟩ : ∃ ps, Prs W a0 len0 cap0 ps := by
    obtain ⟨fuel, hf⟩ := h0
    exact open_pairs hf
  clear hA0 hval0
  refine (walk a0 len0 cap0 y0 W w0).mono fun e W' ⟨he, bel⟩ => ?_
  subst he
  exact ⟨_, rfl, _, _, _, [], _, [], hW', trodAll_mk1 (shut_bool Try.underlying4 _), (trodAll_cons_mk (Below.trod laidOut (by kernel_rfl) (of_decide_eq_true (by kernel_rfl)) k0 bel lt0) trodAll_mk0), rfl, bel.frame _, fun h => by cases h⟩

theorem over : Rows.bucketGrowsRow.holds Try.pinned (OpenSpec.ofChange Rows.bucketGrowsSpec) :=
  OpenClaim.holds_of_wide 6 Try.f6 rfl rfl rfl rfl rfl rfl rfl ⟨rfl, rfl, rfl, rfl, rfl⟩ rfl rfl rfl rfl rfl (by kernel_rfl) Try.func6 (by kernel_rfl)
    (of_decide_eq_true (by kernel_rfl)) (by unfold Func.isWrapper; first | (rw [if_pos (by decide +kernel)]; kernel_rfl) | (rw [if_neg (by decide +kernel)]; exact ⟨rfl, rfl⟩))
    (fun os started H enc _ => lifted os started H enc)
end Go.Proofs.Ytnnndkpmlpbpcaa.bucketGrows

namespace Go.Proofs.Ytnnndkpmlpbpcaa
theorem bucketGrows_holds : Rows.BucketGrowsSaid := bucketGrows.over
#print axioms bucketGrows_holds
end Go.Proofs.Ytnnndkpmlpbpcaa
