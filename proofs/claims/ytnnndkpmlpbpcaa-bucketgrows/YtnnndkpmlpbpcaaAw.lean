/- awake. -/
import Derived.Test.YtnnndkpmlpbpcaaGg
import Derived.Test.YtnnndkpmlpbpcaaAd
import Derived.Test.YtnnndkpmlpbpcaaRm
import Derived.Test.YtnnndkpmlpbpcaaSm
namespace Go.Proofs.Ytnnndkpmlpbpcaa
open Go.RowKit
set_option linter.unusedVariables false
set_option maxRecDepth 20000

def P0 : PR := (⟨#[107]⟩, ⟨#[118, 119]⟩)
def J0 : PR := (⟨#[106]⟩, ByteArray.empty)
def BS : List Int := [1, 0, 0, 1, 1, 107, 2, 118, 119]
theorem p0_fine : Fine 1 0 [P0] := ⟨by decide, by decide, by decide, by decide, by decide, by decide, by decide⟩
theorem p0_put : putB 1 0 [P0] = BS := by unfold putB; rw [if_pos p0_fine.check]; decide
theorem p0_get : gD BS = 1 ∧ gN BS = 0 ∧ gP BS = [P0] ∧ gE BS = 0 := by
  have e : putS 1 0 [P0] = BS := by decide
  have h := isB_put p0_fine
  obtain ⟨h1, h2, _, _, h5⟩ := read_put [] p0_fine
  rw [List.append_nil] at h1 h2 h5
  rw [e] at h h1 h2 h5
  unfold gD gN gP gE
  rw [h, h1, h2, h5]
  exact ⟨rfl, rfl, rfl, rfl⟩
theorem p0_add : addP [P0] J0 = [J0, P0] ∧ ([P0].any fun q => eqP q J0) = false := by
  have h1 : ([P0].any fun q => eqP q J0) = false := by simp only [eqP_iff]; decide
  have h2 : lessP J0 P0 = true := by unfold lessP; simp only [ByteArray.toList_eq]; decide
  refine ⟨?_, h1⟩
  unfold addP
  rw [h1]
  have h3 : [P0].findIdx (lessP J0) = 0 := by simp [List.findIdx_cons, h2]
  rw [h3]
  rfl
theorem p0_vals : ([P0].filter (keyB ⟨#[107]⟩)).length = 1 := by
  have : keyB ⟨#[107]⟩ P0 = true := by unfold keyB; simp only [ByteArray.toList_eq]; decide
  simp [this]
theorem p0_lp : ∀ p ∈ [P0], Lp p := by
  intro p hp
  obtain rfl : p = P0 := by simpa using hp
  exact ⟨by decide, by decide⟩
theorem bs_str : (strOfNums BS).toList = [1, 0, 0, 1, 1, 107, 2, 118, 119] := by
  rw [Lib.strOfNums_toList]; decide
theorem bs_eq : (strOfNums BS).toList = (⟨#[1, 0, 0, 1, 1, 107, 2, 118, 119]⟩ : ByteArray).toList := by rw [bs_str, ByteArray.toList_eq]
theorem ABS : AllB BS := by intro z hz; revert z; decide
theorem p0_size : sizeS [P0] = 9 := by decide
theorem box3 {w w4 : World} {x y z : Value} {o : Obj} (hb : Below (w.alloc (.cells #[x, y, z] 28)).heap.size (w.alloc (.cells #[x, y, z] 28)) w4) : (w4.alloc o).cell? ⟨w.heap.size, 0, none⟩ = some x ∧ (w4.alloc o).cell? ⟨w.heap.size, 1, none⟩ = some y ∧ (w4.alloc o).cell? ⟨w.heap.size, 2, none⟩ = some z := by
  have h := bt hb (one_block w4 o)
  exact ⟨(h.cell (p := ⟨w.heap.size, 0, none⟩) (by simp)).trans (by go_simp), (h.cell (p := ⟨w.heap.size, 1, none⟩) (by simp)).trans (by go_simp), (h.cell (p := ⟨w.heap.size, 2, none⟩) (by simp)).trans (by go_simp)⟩
theorem box3' {w w4 : World} {x y z : Value} (hb : Below (w.alloc (.cells #[x, y, z] 28)).heap.size (w.alloc (.cells #[x, y, z] 28)) w4) : w4.cell? ⟨w.heap.size, 0, none⟩ = some x ∧ w4.cell? ⟨w.heap.size, 1, none⟩ = some y ∧ w4.cell? ⟨w.heap.size, 2, none⟩ = some z :=
  ⟨(hb.cell (p := ⟨w.heap.size, 0, none⟩) (by simp)).trans (by go_simp), (hb.cell (p := ⟨w.heap.size, 1, none⟩) (by simp)).trans (by go_simp), (hb.cell (p := ⟨w.heap.size, 2, none⟩) (by simp)).trans (by go_simp)⟩
set_option maxHeartbeats 8000000 in
theorem awake_any (w : World) : Calls Try.prog 9 #[] w fun e w' => e = .returned (.bool true) ∧ Below w.heap.size w w' := by
  obtain ⟨W1, hW1⟩ : ∃ W1, W1 = (w.alloc (.cells #[.string ⟨#[107]⟩, .string ⟨#[118, 119]⟩] 45)).alloc (.cells #[.int .i64 1, .int .i64 0, .slice (some ⟨w.heap.size, 0, none⟩) 1 1] 28) := ⟨_, rfl⟩
  have HB1 : Hid (Below w.heap.size w W1) := by rw [hW1]; exact two_blocks _ _ _
  have PB : Hid (∀ W, Below W1.heap.size W1 W → PV W (some ⟨w.heap.size, 0, none⟩) [P0]) := fun W hW => by
    have : PV W1 (some ⟨w.heap.size, 0, none⟩) [P0] := by rw [hW1]; exact (pv_lit w P0).below (one_block _ _)
    exact this.below hW
  have CL : Hid (∀ W, Below W1.heap.size W1 W → W.cell? ⟨w.heap.size + 1, 0, none⟩ = some (.int .i64 1) ∧ W.cell? ⟨w.heap.size + 1, 1, none⟩ = some (.int .i64 0) ∧ W.cell? ⟨w.heap.size + 1, 2, none⟩ = some (.slice (some ⟨w.heap.size, 0, none⟩) 1 1)) := fun W hW => by
    rw [hW1] at hW
    exact ⟨(hW.cell (p := ⟨w.heap.size + 1, 0, none⟩) (by simp)).trans (by go_simp), (hW.cell (p := ⟨w.heap.size + 1, 1, none⟩) (by simp)).trans (by go_simp), (hW.cell (p := ⟨w.heap.size + 1, 2, none⟩) (by simp)).trans (by go_simp)⟩
  have PT : Hid (Calls Try.prog 10 #[.agg #[.int .i64 1, .int .i64 0, .slice (some ⟨w.heap.size, 0, none⟩) 1 1]] W1 fun e w' => ∃ a c, e = .returned (.tuple #[.slice a 9 c, .int .i64 0]) ∧ BV w' a BS ∧ (a = none → c = 0) ∧ Below W1.heap.size W1 w') := by
    have := bput_any 1 0 (some ⟨w.heap.size, 0, none⟩) 1 [P0] W1 (PB.out _ (Below.refl _ _)) (by decide) p0_lp
    rw [p0_put, p0_fine.check] at this
    refine this.mono ?_
    rintro e w' ⟨v, rfl, h1, h2⟩
    obtain ⟨a, c, rfl, n2, bv2, _, _⟩ := h1.slice ABS
    exact ⟨a, c, rfl, bv2, n2, h2⟩
  have GT : Hid (∀ W a c, BV W a BS → (a = none → c = 0) → Calls Try.prog 12 #[.slice a 9 c] W fun e w' => ∃ a8 c8, e = .returned (.tuple #[.agg #[.int .i64 1, .int .i64 0, .slice a8 1 c8], .int .i64 0]) ∧ PV w' a8 [P0] ∧ Below W.heap.size W w') := fun W a c h1 h2 => by
    have := get_any2 a c BS W h1 (by decide) h2
    obtain ⟨e1, e2, e3, e4⟩ := p0_get
    rw [e1, e2, e3, e4] at this
    refine this.mono ?_
    rintro e w' ⟨v, rfl, h1, h2⟩
    obtain ⟨a8, c8, rfl, _, h3, _⟩ := h1.view
    exact ⟨a8, c8, rfl, h3, h2⟩
  have AD : Hid (∀ W, Below W1.heap.size W1 W → Calls Try.prog 19 #[.agg #[.int .i64 1, .int .i64 0, .slice (some ⟨w.heap.size, 0, none⟩) 1 1], .agg #[.string ⟨#[106]⟩, .string ByteArray.empty]] W fun e w' => ∃ g8 o8 c8, e = .returned (.tuple #[.agg #[.int .i64 1, .int .i64 0, .slice (some ⟨g8, o8, none⟩) 2 c8], .bool true]) ∧ w'.cell? ⟨g8, o8, none⟩ = some (.string ⟨#[106]⟩) ∧ g8 < w'.heap.size ∧ Below W.heap.size W w') := fun W hW => by
    have := add_any 1 0 (some ⟨w.heap.size, 0, none⟩) 1 [P0] J0 W (PB.out _ hW) (by decide) p0_lp (fun h => by cases h) (by decide) (by decide) (fun ad h _ => by cases h; rfl)
    rw [p0_add.1, p0_add.2] at this
    refine this.mono ?_
    rintro e w' ⟨v, rfl, h1, h2⟩
    obtain ⟨a8, c8, rfl, _, h3, _⟩ := h1.view
    obtain h4 | ⟨b, off, rfl, hlt, hc⟩ := h3
    · cases h4
    · exact ⟨b, off, c8, rfl, (hc 0 (by decide)).1, hlt, h2⟩
  have SM : Hid (∀ W a1 c1, Below W1.heap.size W1 W → PV W a1 [P0] → Calls Try.prog 18 #[.agg #[.int .i64 1, .int .i64 0, .slice (some ⟨w.heap.size, 0, none⟩) 1 1], .agg #[.int .i64 1, .int .i64 0, .slice a1 1 c1]] W fun e w' => e = .returned (.bool true) ∧ Below W.heap.size W w') := fun W a1 c1 hW h1 => by
    have := sameb_any 1 0 1 0 (some ⟨w.heap.size, 0, none⟩) a1 1 c1 [P0] [P0] W (PB.out _ hW) h1 (by decide) (by decide)
    rw [show sameBk 1 0 [P0] 1 0 [P0] = true by simp [sameBk]] at this
    exact this
  have SZ : Hid (∀ W, Below W1.heap.size W1 W → Calls Try.prog 15 #[.agg #[.int .i64 1, .int .i64 0, .slice (some ⟨w.heap.size, 0, none⟩) 1 1]] W fun e w' => e = .returned (.int .i64 9) ∧ Below W.heap.size W w') := fun W hW => by
    have := size_any 1 0 (some ⟨w.heap.size, 0, none⟩) 1 [P0] W (PB.out _ hW) (by decide) p0_lp
    rw [p0_size] at this
    exact this
  have VL : Hid (∀ W, Below W1.heap.size W1 W → Calls Try.prog 23 #[.agg #[.int .i64 1, .int .i64 0, .slice (some ⟨w.heap.size, 0, none⟩) 1 1], .string ⟨#[107]⟩] W fun e w' => ∃ a9 c9, e = .returned (.slice a9 1 c9) ∧ Below W.heap.size W w') := fun W hW => by
    have := vals_any 1 0 (some ⟨w.heap.size, 0, none⟩) 1 [P0] ⟨#[107]⟩ W (PB.out _ hW) (by decide) p0_lp (by decide) (by decide)
    rw [p0_vals] at this
    exact this
  obtain ⟨sx, hsx⟩ : ∃ sx, sx = strOfNums BS := ⟨_, rfl⟩
  have he : sx.toList = [1, 0, 0, 1, 1, 107, 2, 118, 119] := by rw [hsx]; exact bs_str
  have CV : Hid (∀ W a c, BV W a BS → (a = none → c = 0) → (convert 25 9 (.slice a 9 c)).run Try.prog W = .ok (.string sx) W) := fun W a c h1 h2 => by rw [hsx]; exact conv_bv h1 h2
  clear hsx
  have HW1 : Hid (W1 = (w.alloc (.cells #[.string ⟨#[107]⟩, .string ⟨#[118, 119]⟩] 45)).alloc (.cells #[.int .i64 1, .int .i64 0, .slice (some ⟨w.heap.size, 0, none⟩) 1 1] 28)) := hW1
  clear hW1
  go_enter Try.func9, Try.ntmps9
  go_wp2_with (first | (go_at_call 10; rw [← HW1.out]; refine PT.out.mono ?_; rintro e w2 ⟨a2, c2, rfl, bv2, n2, hb2⟩; clear PT; obtain ⟨x0, x1, x2⟩ := CL.out _ hb2) | (go_at_call 12; refine (GT.out _ _ _ bv2 n2).mono ?_; rintro e w3 ⟨a3, c3, rfl, pv3, hb3⟩; clear GT; clear x0 x1 x2; obtain ⟨x0, x1, x2⟩ := CL.out _ (bt (bt hb2 hb3) (one_block _ (.cells #[.int .i64 1, .int .i64 0, .slice a3 1 c3] 28)))) | (go_at_call 19; refine (AD.out _ (bt (bt hb2 hb3) (one_block _ _))).mono ?_; rintro e w4 ⟨g4, o4, c4, rfl, y4, z4, hb4⟩; clear AD; clear x0 x1 x2; obtain ⟨x0, x1, x2⟩ := CL.out _ (bt (bt (bt (bt hb2 hb3) (one_block _ (.cells #[.int .i64 1, .int .i64 0, .slice a3 1 c3] 28))) hb4) (one_block _ (.cells #[.int .i64 1, .int .i64 0, .slice (some ⟨g4, o4, none⟩) 2 c4] 28))); have cv := CV.out _ _ _ ((((bv2.below hb3).below (one_block _ (.cells #[.int .i64 1, .int .i64 0, .slice a3 1 c3] 28))).below hb4).below (one_block _ (.cells #[.int .i64 1, .int .i64 0, .slice (some ⟨g4, o4, none⟩) 2 c4] 28))) n2; obtain ⟨m0, m1, m2⟩ := box3 (o := .cells #[.int .i64 1, .int .i64 0, .slice (some ⟨g4, o4, none⟩) 2 c4] 28) hb4; have HB5 : Hid (Below W1.heap.size W1 (w4.alloc (.cells #[.int .i64 1, .int .i64 0, .slice (some ⟨g4, o4, none⟩) 2 c4] 28))) := bt (bt (bt (bt hb2 hb3) (one_block _ _)) hb4) (one_block _ _); have PV5 : Hid (PV (w4.alloc (.cells #[.int .i64 1, .int .i64 0, .slice (some ⟨g4, o4, none⟩) 2 c4] 28)) a3 [P0]) := ((pv3.below (one_block _ _)).below hb4).below (one_block _ _)) | (go_at_call 18; refine (SM.out _ _ _ HB5.out PV5.out).mono ?_; rintro e w5 ⟨rfl, hb5⟩; clear SM; obtain ⟨t0, t1, t2⟩ := box3' hb5; have t3 := ((bt (one_block w4 (.cells #[.int .i64 1, .int .i64 0, .slice (some ⟨g4, o4, none⟩) 2 c4] 28)) hb5).cell (p := ⟨g4, o4, none⟩) z4).trans y4; clear x0 x1 x2; obtain ⟨x0, x1, x2⟩ := CL.out _ (bt HB5.out hb5)) | (go_at_call 15; refine (SZ.out _ (bt HB5.out hb5)).mono ?_; rintro e w6 ⟨rfl, hb6⟩; clear SZ; clear x0 x1 x2; obtain ⟨x0, x1, x2⟩ := CL.out _ (bt (bt HB5.out hb5) hb6)) | (go_at_call 23; refine (VL.out _ (bt (bt HB5.out hb5) hb6)).mono ?_; rintro e w7 ⟨a7, c7, rfl, hb7⟩; clear VL))
  go_ret
  exact ⟨rfl, bt HB1.out (bt (bt (bt HB5.out hb5) hb6) hb7)⟩
end Go.Proofs.Ytnnndkpmlpbpcaa
