/- For all buckets and all bytes the call BucketPuts of the statements returns true and its arguments read as they did: no condition. -/
import Derived.Test.YtnnndkpmlpbpcaaRows
import Derived.Test.YtnnndkpmlpbpcaaArg
import Derived.Test.YtnnndkpmlpbpcaaRgm
import Derived.WalkKit
import Derived.ProofKit
import Derived.OpenShut
import Derived.ShutString
import Derived.ChangeOld
import Derived.Below
namespace Go.Proofs.Ytnnndkpmlpbpcaa.bucketPuts
open Go.ChangeShapes Go.WideShapes Go.ChangeAt Go.RowKit
set_option linter.unusedVariables false
set_option linter.unusedSimpArgs false
set_option maxRecDepth 20000

theorem own : ownKnob Try.prog.godebug = none := by kernel_rfl
theorem laidOut : laidOutB Try.prog = true := by kernel_rfl
theorem bytes_of {w : World} {a : Option Addr} {len cap : Nat} {zs : List Int} (h : (a = none ∧ len = 0 ∧ cap = 0 ∧ zs = []) ∨ ∃ x, a = some x ∧ len ≤ cap ∧ cap ≤ maxLen ∧ zs.length = cap ∧ (∀ i, i < zs.length → w.cell? (x.add i) = some (.int .u8 (zs.getD i 0))) ∧ ∀ n ∈ zs, (Lit.int .u8 n).wf = true) :
    ∃ ys : List Int, ys.length = len ∧ BV w a ys ∧ (a = none → cap = 0) ∧ len ≤ cap ∧ cap ≤ 9223372036854775807 := by
  rcases h with ⟨rfl, rfl, rfl, rfl⟩ | ⟨x, rfl, hl, hm, hz, hcell, hwz⟩
  · exact ⟨[], rfl, ⟨AllB.nil, .inl rfl⟩, fun _ => rfl, Nat.le_refl _, by decide⟩
  · refine ⟨zs.take len, by simp; omega, ⟨?_, ?_⟩, (fun h => by cases h), hl, by unfold maxLen at hm; omega⟩
    · intro z hz'
      have := bounds_u8 (hwz z (List.mem_of_mem_take hz'))
      omega
    · by_cases h0 : len = 0
      · left; simp [h0]
      · right
        obtain ⟨b, off, spot⟩ := x
        have hc := hcell 0 (by omega)
        have hspot : spot = none := by simpa [Addr.add] using World.cell?_spot hc
        subst hspot
        refine ⟨b, off, rfl, ?_, ?_⟩
        · have := World.block_lt_of_cell? _ _ hc
          simpa [Addr.add] using this
        · intro i hi
          rw [List.length_take] at hi
          have := hcell i (by omega)
          rw [add_plain] at this
          rw [this, List.getD_eq_getElem?_getD, List.getD_eq_getElem?_getD, List.getElem?_take, if_pos (by omega)]
theorem box24 {w w4 : World} {x y z : Value} (hb : Below (w.alloc (.cells #[x, y, z] 24)).heap.size (w.alloc (.cells #[x, y, z] 24)) w4) : w4.cell? ⟨w.heap.size, 0, none⟩ = some x ∧ w4.cell? ⟨w.heap.size, 1, none⟩ = some y ∧ w4.cell? ⟨w.heap.size, 2, none⟩ = some z :=
  ⟨(hb.cell (p := ⟨w.heap.size, 0, none⟩) (by simp)).trans (by go_simp), (hb.cell (p := ⟨w.heap.size, 1, none⟩) (by simp)).trans (by go_simp), (hb.cell (p := ⟨w.heap.size, 2, none⟩) (by simp)).trans (by go_simp)⟩
set_option maxHeartbeats 2000000 in
theorem walk_d0 (d0 n0 : Int) (a0 : Option Addr) (len0 cap0 : Nat) (y0 : List PR) (d1 n1 : Int) (a1 : Option Addr) (len1 cap1 : Nat) (y1 : List PR) (a2 : Option Addr) (len2 cap2 : Nat) (y2 : List Int) (w : World) (w0 : Prs w a0 len0 cap0 y0) (w1 : Prs w a1 len1 cap1 y1) (w2 : y2.length = len2 ∧ BV w a2 y2 ∧ (a2 = none → cap2 = 0) ∧ len2 ≤ cap2 ∧ cap2 ≤ 9223372036854775807) (hl : lightB y0 100 = false) :
    Calls Try.prog 3 #[bkv d0 n0 a0 len0 cap0, bkv d1 n1 a1 len1 cap1, .slice a2 len2 cap2] w fun e w' => e = .returned (.bool true) ∧ Below w.heap.size w w' := by
  obtain ⟨rfl, hp0, hn0, hcl0, hcap0, _, _⟩ := w0
  obtain ⟨rfl, hp1, hn1, hcl1, hcap1, _, _⟩ := w1
  obtain ⟨rfl, hb2, hn2, hcl2, hcap2⟩ := w2
  obtain ⟨W0, hW0⟩ : ∃ W0, W0 = ((w.alloc (.cells #[.int .i64 d0, .int .i64 n0, .slice a0 y0.length cap0] 24)).alloc (.cells #[.int .i64 d1, .int .i64 n1, .slice a1 y1.length cap1] 24)) := ⟨_, rfl⟩
  have HB0 : Hid (Below w.heap.size w W0) := by rw [hW0]; exact two_blocks _ _ _
  have CL : Hid (∀ W, Below W0.heap.size W0 W → (W.cell? ⟨w.heap.size, 0, none⟩ = some (.int .i64 d0) ∧ W.cell? ⟨w.heap.size, 1, none⟩ = some (.int .i64 n0) ∧ W.cell? ⟨w.heap.size, 2, none⟩ = some (.slice a0 y0.length cap0)) ∧ (W.cell? ⟨w.heap.size + 1, 0, none⟩ = some (.int .i64 d1) ∧ W.cell? ⟨w.heap.size + 1, 1, none⟩ = some (.int .i64 n1) ∧ W.cell? ⟨w.heap.size + 1, 2, none⟩ = some (.slice a1 y1.length cap1))) := fun W hW => by
    rw [hW0] at hW
    exact ⟨⟨(hW.cell (p := ⟨w.heap.size, 0, none⟩) (by simp; omega)).trans (by go_simp), (hW.cell (p := ⟨w.heap.size, 1, none⟩) (by simp; omega)).trans (by go_simp), (hW.cell (p := ⟨w.heap.size, 2, none⟩) (by simp; omega)).trans (by go_simp)⟩, ⟨(hW.cell (p := ⟨w.heap.size + 1, 0, none⟩) (by simp)).trans (by go_simp), (hW.cell (p := ⟨w.heap.size + 1, 1, none⟩) (by simp)).trans (by go_simp), (hW.cell (p := ⟨w.heap.size + 1, 2, none⟩) (by simp)).trans (by go_simp)⟩⟩
  have HW0 : Hid (W0 = ((w.alloc (.cells #[.int .i64 d0, .int .i64 n0, .slice a0 y0.length cap0] 24)).alloc (.cells #[.int .i64 d1, .int .i64 n1, .slice a1 y1.length cap1] 24))) := hW0
  have L0 : Hid (Calls Try.prog 8 #[.slice a0 y0.length cap0, .int .i64 100] W0 fun e w' => e = .returned (.bool (lightB y0 100)) ∧ Below W0.heap.size W0 w') := light_any a0 cap0 100 y0 W0 (hp0.below HB0.out) (by decide)
  have L1 : Hid (∀ W, Below W0.heap.size W0 W → Calls Try.prog 8 #[.slice a1 y1.length cap1, .int .i64 100] W fun e w' => e = .returned (.bool (lightB y1 100)) ∧ Below W.heap.size W w') := fun W hW => light_any a1 cap1 100 y1 W ((hp1.below HB0.out).below hW) (by decide)
  rw [hl] at L0
  unfold bkv
  clear hW0 hp0 hp1 hb2
  go_enter Try.func3, Try.ntmps3
  go_wp2_with (first | (go_at_call 8; rw [← HW0.out]; refine L0.out.mono ?_; rintro e v1 ⟨rfl, g1⟩; clear L0; obtain ⟨⟨x0, x1, x2⟩, x3, x4, x5⟩ := CL.out _ g1) | (go_at_call 9; refine (awake_any _).mono ?_; rintro e v9 ⟨rfl, g9⟩))
  go_ret
  exact ⟨rfl, bt HB0.out (bt g1 g9)⟩
set_option maxHeartbeats 2000000 in
theorem walk_d1 (d0 n0 : Int) (a0 : Option Addr) (len0 cap0 : Nat) (y0 : List PR) (d1 n1 : Int) (a1 : Option Addr) (len1 cap1 : Nat) (y1 : List PR) (a2 : Option Addr) (len2 cap2 : Nat) (y2 : List Int) (w : World) (w0 : Prs w a0 len0 cap0 y0) (w1 : Prs w a1 len1 cap1 y1) (w2 : y2.length = len2 ∧ BV w a2 y2 ∧ (a2 = none → cap2 = 0) ∧ len2 ≤ cap2 ∧ cap2 ≤ 9223372036854775807) (hl : lightB y0 100 = true) (hq : lightB y1 100 = false) :
    Calls Try.prog 3 #[bkv d0 n0 a0 len0 cap0, bkv d1 n1 a1 len1 cap1, .slice a2 len2 cap2] w fun e w' => e = .returned (.bool true) ∧ Below w.heap.size w w' := by
  obtain ⟨rfl, hp0, hn0, hcl0, hcap0, _, _⟩ := w0
  obtain ⟨rfl, hp1, hn1, hcl1, hcap1, _, _⟩ := w1
  obtain ⟨rfl, hb2, hn2, hcl2, hcap2⟩ := w2
  obtain ⟨W0, hW0⟩ : ∃ W0, W0 = ((w.alloc (.cells #[.int .i64 d0, .int .i64 n0, .slice a0 y0.length cap0] 24)).alloc (.cells #[.int .i64 d1, .int .i64 n1, .slice a1 y1.length cap1] 24)) := ⟨_, rfl⟩
  have HB0 : Hid (Below w.heap.size w W0) := by rw [hW0]; exact two_blocks _ _ _
  have CL : Hid (∀ W, Below W0.heap.size W0 W → (W.cell? ⟨w.heap.size, 0, none⟩ = some (.int .i64 d0) ∧ W.cell? ⟨w.heap.size, 1, none⟩ = some (.int .i64 n0) ∧ W.cell? ⟨w.heap.size, 2, none⟩ = some (.slice a0 y0.length cap0)) ∧ (W.cell? ⟨w.heap.size + 1, 0, none⟩ = some (.int .i64 d1) ∧ W.cell? ⟨w.heap.size + 1, 1, none⟩ = some (.int .i64 n1) ∧ W.cell? ⟨w.heap.size + 1, 2, none⟩ = some (.slice a1 y1.length cap1))) := fun W hW => by
    rw [hW0] at hW
    exact ⟨⟨(hW.cell (p := ⟨w.heap.size, 0, none⟩) (by simp; omega)).trans (by go_simp), (hW.cell (p := ⟨w.heap.size, 1, none⟩) (by simp; omega)).trans (by go_simp), (hW.cell (p := ⟨w.heap.size, 2, none⟩) (by simp; omega)).trans (by go_simp)⟩, ⟨(hW.cell (p := ⟨w.heap.size + 1, 0, none⟩) (by simp)).trans (by go_simp), (hW.cell (p := ⟨w.heap.size + 1, 1, none⟩) (by simp)).trans (by go_simp), (hW.cell (p := ⟨w.heap.size + 1, 2, none⟩) (by simp)).trans (by go_simp)⟩⟩
  have HW0 : Hid (W0 = ((w.alloc (.cells #[.int .i64 d0, .int .i64 n0, .slice a0 y0.length cap0] 24)).alloc (.cells #[.int .i64 d1, .int .i64 n1, .slice a1 y1.length cap1] 24))) := hW0
  have L0 : Hid (Calls Try.prog 8 #[.slice a0 y0.length cap0, .int .i64 100] W0 fun e w' => e = .returned (.bool (lightB y0 100)) ∧ Below W0.heap.size W0 w') := light_any a0 cap0 100 y0 W0 (hp0.below HB0.out) (by decide)
  have L1 : Hid (∀ W, Below W0.heap.size W0 W → Calls Try.prog 8 #[.slice a1 y1.length cap1, .int .i64 100] W fun e w' => e = .returned (.bool (lightB y1 100)) ∧ Below W.heap.size W w') := fun W hW => light_any a1 cap1 100 y1 W ((hp1.below HB0.out).below hW) (by decide)
  rw [hl] at L0
  rw [hq] at L1
  unfold bkv
  clear hW0 hp0 hp1 hb2
  go_enter Try.func3, Try.ntmps3
  go_wp2_with (first | (go_at_call 8; rw [← HW0.out]; refine L0.out.mono ?_; rintro e v1 ⟨rfl, g1⟩; clear L0; obtain ⟨⟨x0, x1, x2⟩, x3, x4, x5⟩ := CL.out _ g1) | (go_at_call 8; refine (L1.out _ g1).mono ?_; rintro e v2 ⟨rfl, g2⟩; clear L1; clear x0 x1 x2 x3 x4 x5; obtain ⟨⟨x0, x1, x2⟩, x3, x4, x5⟩ := CL.out _ (bt g1 g2)) | (go_at_call 9; refine (awake_any _).mono ?_; rintro e v9 ⟨rfl, g9⟩))
  go_ret
  exact ⟨rfl, bt HB0.out (bt (bt g1 g2) g9)⟩
set_option maxHeartbeats 2000000 in
theorem walk_d2 (d0 n0 : Int) (a0 : Option Addr) (len0 cap0 : Nat) (y0 : List PR) (d1 n1 : Int) (a1 : Option Addr) (len1 cap1 : Nat) (y1 : List PR) (a2 : Option Addr) (len2 cap2 : Nat) (y2 : List Int) (w : World) (w0 : Prs w a0 len0 cap0 y0) (w1 : Prs w a1 len1 cap1 y1) (w2 : y2.length = len2 ∧ BV w a2 y2 ∧ (a2 = none → cap2 = 0) ∧ len2 ≤ cap2 ∧ cap2 ≤ 9223372036854775807) (hl : lightB y0 100 = true) (hq : lightB y1 100 = true) (hr : 400 < y2.length) :
    Calls Try.prog 3 #[bkv d0 n0 a0 len0 cap0, bkv d1 n1 a1 len1 cap1, .slice a2 len2 cap2] w fun e w' => e = .returned (.bool true) ∧ Below w.heap.size w w' := by
  obtain ⟨rfl, hp0, hn0, hcl0, hcap0, _, _⟩ := w0
  obtain ⟨rfl, hp1, hn1, hcl1, hcap1, _, _⟩ := w1
  obtain ⟨rfl, hb2, hn2, hcl2, hcap2⟩ := w2
  obtain ⟨W0, hW0⟩ : ∃ W0, W0 = ((w.alloc (.cells #[.int .i64 d0, .int .i64 n0, .slice a0 y0.length cap0] 24)).alloc (.cells #[.int .i64 d1, .int .i64 n1, .slice a1 y1.length cap1] 24)) := ⟨_, rfl⟩
  have HB0 : Hid (Below w.heap.size w W0) := by rw [hW0]; exact two_blocks _ _ _
  have CL : Hid (∀ W, Below W0.heap.size W0 W → (W.cell? ⟨w.heap.size, 0, none⟩ = some (.int .i64 d0) ∧ W.cell? ⟨w.heap.size, 1, none⟩ = some (.int .i64 n0) ∧ W.cell? ⟨w.heap.size, 2, none⟩ = some (.slice a0 y0.length cap0)) ∧ (W.cell? ⟨w.heap.size + 1, 0, none⟩ = some (.int .i64 d1) ∧ W.cell? ⟨w.heap.size + 1, 1, none⟩ = some (.int .i64 n1) ∧ W.cell? ⟨w.heap.size + 1, 2, none⟩ = some (.slice a1 y1.length cap1))) := fun W hW => by
    rw [hW0] at hW
    exact ⟨⟨(hW.cell (p := ⟨w.heap.size, 0, none⟩) (by simp; omega)).trans (by go_simp), (hW.cell (p := ⟨w.heap.size, 1, none⟩) (by simp; omega)).trans (by go_simp), (hW.cell (p := ⟨w.heap.size, 2, none⟩) (by simp; omega)).trans (by go_simp)⟩, ⟨(hW.cell (p := ⟨w.heap.size + 1, 0, none⟩) (by simp)).trans (by go_simp), (hW.cell (p := ⟨w.heap.size + 1, 1, none⟩) (by simp)).trans (by go_simp), (hW.cell (p := ⟨w.heap.size + 1, 2, none⟩) (by simp)).trans (by go_simp)⟩⟩
  have HW0 : Hid (W0 = ((w.alloc (.cells #[.int .i64 d0, .int .i64 n0, .slice a0 y0.length cap0] 24)).alloc (.cells #[.int .i64 d1, .int .i64 n1, .slice a1 y1.length cap1] 24))) := hW0
  have L0 : Hid (Calls Try.prog 8 #[.slice a0 y0.length cap0, .int .i64 100] W0 fun e w' => e = .returned (.bool (lightB y0 100)) ∧ Below W0.heap.size W0 w') := light_any a0 cap0 100 y0 W0 (hp0.below HB0.out) (by decide)
  have L1 : Hid (∀ W, Below W0.heap.size W0 W → Calls Try.prog 8 #[.slice a1 y1.length cap1, .int .i64 100] W fun e w' => e = .returned (.bool (lightB y1 100)) ∧ Below W.heap.size W w') := fun W hW => light_any a1 cap1 100 y1 W ((hp1.below HB0.out).below hW) (by decide)
  rw [hl] at L0
  rw [hq] at L1
  have hr2 : (400 : Int) < (y2.length : Int) := by omega
  unfold bkv
  clear hW0 hp0 hp1 hb2
  go_enter Try.func3, Try.ntmps3
  go_wp2_with (first | (go_at_call 8; rw [← HW0.out]; refine L0.out.mono ?_; rintro e v1 ⟨rfl, g1⟩; clear L0; obtain ⟨⟨x0, x1, x2⟩, x3, x4, x5⟩ := CL.out _ g1) | (go_at_call 8; refine (L1.out _ g1).mono ?_; rintro e v2 ⟨rfl, g2⟩; clear L1; clear x0 x1 x2 x3 x4 x5; obtain ⟨⟨x0, x1, x2⟩, x3, x4, x5⟩ := CL.out _ (bt g1 g2)) | (go_at_call 9; refine (awake_any _).mono ?_; rintro e v9 ⟨rfl, g9⟩))
  go_ret
  exact ⟨rfl, bt HB0.out (bt (bt g1 g2) g9)⟩
set_option maxHeartbeats 16000000 in
theorem walk_l (d0 n0 : Int) (a0 : Option Addr) (len0 cap0 : Nat) (y0 : List PR) (d1 n1 : Int) (a1 : Option Addr) (len1 cap1 : Nat) (y1 : List PR) (a2 : Option Addr) (len2 cap2 : Nat) (y2 : List Int) (w : World) (w0 : Prs w a0 len0 cap0 y0) (w1 : Prs w a1 len1 cap1 y1) (w2 : y2.length = len2 ∧ BV w a2 y2 ∧ (a2 = none → cap2 = 0) ∧ len2 ≤ cap2 ∧ cap2 ≤ 9223372036854775807) (hl : lightB y0 100 = true) (hq : lightB y1 100 = true) (hr : ¬ 400 < y2.length) :
    Calls Try.prog 3 #[bkv d0 n0 a0 len0 cap0, bkv d1 n1 a1 len1 cap1, .slice a2 len2 cap2] w fun e w' => e = .returned (.bool true) ∧ Below w.heap.size w w' := by
  obtain ⟨rfl, hp0, hn0, hcl0, hcap0, _, _⟩ := w0
  obtain ⟨rfl, hp1, hn1, hcl1, hcap1, _, _⟩ := w1
  obtain ⟨rfl, hb2, hn2, hcl2, hcap2⟩ := w2
  obtain ⟨W0, hW0⟩ : ∃ W0, W0 = ((w.alloc (.cells #[.int .i64 d0, .int .i64 n0, .slice a0 y0.length cap0] 24)).alloc (.cells #[.int .i64 d1, .int .i64 n1, .slice a1 y1.length cap1] 24)) := ⟨_, rfl⟩
  have HB0 : Hid (Below w.heap.size w W0) := by rw [hW0]; exact two_blocks _ _ _
  have CL : Hid (∀ W, Below W0.heap.size W0 W → (W.cell? ⟨w.heap.size, 0, none⟩ = some (.int .i64 d0) ∧ W.cell? ⟨w.heap.size, 1, none⟩ = some (.int .i64 n0) ∧ W.cell? ⟨w.heap.size, 2, none⟩ = some (.slice a0 y0.length cap0)) ∧ (W.cell? ⟨w.heap.size + 1, 0, none⟩ = some (.int .i64 d1) ∧ W.cell? ⟨w.heap.size + 1, 1, none⟩ = some (.int .i64 n1) ∧ W.cell? ⟨w.heap.size + 1, 2, none⟩ = some (.slice a1 y1.length cap1))) := fun W hW => by
    rw [hW0] at hW
    exact ⟨⟨(hW.cell (p := ⟨w.heap.size, 0, none⟩) (by simp; omega)).trans (by go_simp), (hW.cell (p := ⟨w.heap.size, 1, none⟩) (by simp; omega)).trans (by go_simp), (hW.cell (p := ⟨w.heap.size, 2, none⟩) (by simp; omega)).trans (by go_simp)⟩, ⟨(hW.cell (p := ⟨w.heap.size + 1, 0, none⟩) (by simp)).trans (by go_simp), (hW.cell (p := ⟨w.heap.size + 1, 1, none⟩) (by simp)).trans (by go_simp), (hW.cell (p := ⟨w.heap.size + 1, 2, none⟩) (by simp)).trans (by go_simp)⟩⟩
  have HW0 : Hid (W0 = ((w.alloc (.cells #[.int .i64 d0, .int .i64 n0, .slice a0 y0.length cap0] 24)).alloc (.cells #[.int .i64 d1, .int .i64 n1, .slice a1 y1.length cap1] 24))) := hW0
  have L0 : Hid (Calls Try.prog 8 #[.slice a0 y0.length cap0, .int .i64 100] W0 fun e w' => e = .returned (.bool (lightB y0 100)) ∧ Below W0.heap.size W0 w') := light_any a0 cap0 100 y0 W0 (hp0.below HB0.out) (by decide)
  have L1 : Hid (∀ W, Below W0.heap.size W0 W → Calls Try.prog 8 #[.slice a1 y1.length cap1, .int .i64 100] W fun e w' => e = .returned (.bool (lightB y1 100)) ∧ Below W.heap.size W w') := fun W hW => light_any a1 cap1 100 y1 W ((hp1.below HB0.out).below hW) (by decide)
  rw [hl] at L0
  rw [hq] at L1
  have hr2 : ¬ (400 : Int) < (y2.length : Int) := by omega
  obtain ⟨hlen0, hL0⟩ := light_of hl
  obtain ⟨hlen1, hL1⟩ := light_of hq
  have CK : Hid (∀ W, Below W0.heap.size W0 W → Calls Try.prog 14 #[.agg #[.int .i64 d0, .int .i64 n0, .slice a0 y0.length cap0]] W fun e w' => e = .returned (.int .i64 (checkE d0 n0 y0)) ∧ Below W.heap.size W w') := fun W hW => check_any d0 n0 a0 cap0 y0 W ((hp0.below HB0.out).below hW) (by omega) hL0
  have SZ : Hid (∀ W, Below W0.heap.size W0 W → Calls Try.prog 15 #[.agg #[.int .i64 d0, .int .i64 n0, .slice a0 y0.length cap0]] W fun e w' => e = .returned (.int .i64 (sizeS y0)) ∧ Below W.heap.size W w') := fun W hW => size_any d0 n0 a0 cap0 y0 W ((hp0.below HB0.out).below hW) (by omega) hL0
  have RZ : Hid (∀ W, Below W0.heap.size W0 W → Calls Try.prog 16 #[.slice a0 y0.length cap0] W fun e w' => e = .returned (.int .i64 (sizeS y0)) ∧ Below W.heap.size W w') := fun W hW => rsize_any a0 cap0 y0 W ((hp0.below HB0.out).below hW) (by omega) hL0
  have S8 : Hid (∀ W, Below W0.heap.size W0 W → Calls Try.prog 18 #[.agg #[.int .i64 d0, .int .i64 n0, .slice a0 y0.length cap0], .agg #[.int .i64 d1, .int .i64 n1, .slice a1 y1.length cap1]] W fun e w' => e = .returned (.bool (sameBk d0 n0 y0 d1 n1 y1)) ∧ Below W.heap.size W w') := fun W hW => sameb_any d0 n0 d1 n1 a0 a1 cap0 cap1 y0 y1 W ((hp0.below HB0.out).below hW) ((hp1.below HB0.out).below hW) (by omega) (by omega)
  have S7 : Hid (∀ W, Below W0.heap.size W0 W → Calls Try.prog 17 #[.agg #[.int .i64 d0, .int .i64 n0, .slice a0 y0.length cap0], .agg #[.int .i64 d1, .int .i64 n1, .slice a1 y1.length cap1]] W fun e w' => e = .returned (.bool (sameBk d0 n0 y0 d1 n1 y1)) ∧ Below W.heap.size W w') := fun W hW => rsameb_any d0 n0 d1 n1 a0 a1 cap0 cap1 y0 y1 W ((hp0.below HB0.out).below hW) ((hp1.below HB0.out).below hW) (by omega) (by omega)
  have PA : Hid (AllB (putB d0 n0 y0)) := putB_all _ _ _
  have HGL : Hid ((gP y2).length ≤ 1000000) := by
    show (gP y2).length ≤ 1000000
    unfold gP
    split
    · have := readP_len hb2.1; omega
    · simp
  have P1 : Hid (∀ W, Below W0.heap.size W0 W → Calls Try.prog 10 #[.agg #[.int .i64 d0, .int .i64 n0, .slice a0 y0.length cap0]] W fun e w' => ∃ a c, e = .returned (.tuple #[.slice a (putB d0 n0 y0).length c, .int .i64 (checkE d0 n0 y0)]) ∧ BV w' a (putB d0 n0 y0) ∧ (a = none → c = 0) ∧ Below W.heap.size W w') := fun W hW => by
    refine (bput_any d0 n0 a0 cap0 y0 W ((hp0.below HB0.out).below hW) (by omega) hL0).mono ?_
    rintro e w' ⟨v, rfl, h1, h2⟩
    obtain ⟨a, c, rfl, n2, bv2, _, _⟩ := h1.slice PA.out
    exact ⟨a, c, rfl, bv2, n2, h2⟩
  have P2 : Hid (∀ W, Below W0.heap.size W0 W → Calls Try.prog 11 #[.agg #[.int .i64 d0, .int .i64 n0, .slice a0 y0.length cap0]] W fun e w' => ∃ a c, e = .returned (.tuple #[.slice a (putB d0 n0 y0).length c, .int .i64 (checkE d0 n0 y0)]) ∧ BV w' a (putB d0 n0 y0) ∧ (a = none → c = 0) ∧ Below W.heap.size W w') := fun W hW => by
    refine (brput_any d0 n0 a0 cap0 y0 W ((hp0.below HB0.out).below hW) (by omega) hL0).mono ?_
    rintro e w' ⟨v, rfl, h1, h2⟩
    obtain ⟨a, c, rfl, n2, bv2, _, _⟩ := h1.slice PA.out
    exact ⟨a, c, rfl, bv2, n2, h2⟩
  have G1 : Hid (∀ W, Below W0.heap.size W0 W → Calls Try.prog 12 #[.slice a2 y2.length cap2] W fun e w' => ∃ a c, e = .returned (.tuple #[.agg #[.int .i64 (gD y2), .int .i64 (gN y2), .slice a (gP y2).length c], .int .i64 (gE y2)]) ∧ PV w' a (gP y2) ∧ Below W.heap.size W w') := fun W hW => by
    refine (get_any2 a2 cap2 y2 W ((hb2.below HB0.out).below hW) (by omega) hn2).mono ?_
    rintro e w' ⟨v, rfl, h1, h2⟩
    obtain ⟨a, c, rfl, _, h3, _⟩ := h1.view
    exact ⟨a, c, rfl, h3, h2⟩
  have G2 : Hid (∀ W, Below W0.heap.size W0 W → Calls Try.prog 13 #[.slice a2 y2.length cap2] W fun e w' => ∃ a c, e = .returned (.tuple #[.agg #[.int .i64 (gD y2), .int .i64 (gN y2), .slice a (gP y2).length c], .int .i64 (gE y2)]) ∧ PV w' a (gP y2) ∧ Below W.heap.size W w') := fun W hW => by
    refine (rget2_any a2 cap2 y2 W ((hb2.below HB0.out).below hW) hn2 hcl2 hcap2).mono ?_
    rintro e w' ⟨v, rfl, h1, h2⟩
    obtain ⟨a, c, rfl, _, h3, _⟩ := h1.view
    exact ⟨a, c, rfl, h3, h2⟩
  have S9 : Hid (∀ W a c a' c', PV W a (gP y2) → PV W a' (gP y2) → Calls Try.prog 17 #[.agg #[.int .i64 (gD y2), .int .i64 (gN y2), .slice a (gP y2).length c], .agg #[.int .i64 (gD y2), .int .i64 (gN y2), .slice a' (gP y2).length c']] W fun e w' => e = .returned (.bool true) ∧ Below W.heap.size W w') := fun W a c a' c' h1 h2 => by
    have := rsameb_any (gD y2) (gN y2) (gD y2) (gN y2) a a' c c' (gP y2) (gP y2) W h1 h2 HGL.out (by have := HGL.out; omega)
    rw [show sameBk (gD y2) (gN y2) (gP y2) (gD y2) (gN y2) (gP y2) = true by simp [sameBk]] at this
    exact this
  generalize gD y2 = gd at *
  generalize gN y2 = gn at *
  generalize gP y2 = gp at *
  generalize gE y2 = ge at *
  generalize checkE d0 n0 y0 = E at *
  generalize putB d0 n0 y0 = bs at *
  generalize sizeS y0 = sz at *
  generalize sameBk d0 n0 y0 d1 n1 y1 = sm at *
  obtain ⟨sx, hsx⟩ : ∃ sx, sx = strOfNums bs := ⟨_, rfl⟩
  have CV : Hid (∀ W a c, BV W a bs → (a = none → c = 0) → (convert 25 9 (.slice a bs.length c)).run Try.prog W = .ok (.string sx) W) := fun W a c h1 h2 => by rw [hsx]; exact conv_bv h1 h2
  unfold bkv
  clear hW0 hp0 hp1 hb2 hsx
  go_enter Try.func3, Try.ntmps3
  go_wp2_with (first | (go_at_call 8; rw [← HW0.out]; refine L0.out.mono ?_; rintro e v1 ⟨rfl, g1⟩; clear L0; obtain ⟨⟨x0, x1, x2⟩, x3, x4, x5⟩ := CL.out _ g1) | (go_at_call 8; refine (L1.out _ g1).mono ?_; rintro e v2 ⟨rfl, g2⟩; clear L1; clear x0 x1 x2 x3 x4 x5; obtain ⟨⟨x0, x1, x2⟩, x3, x4, x5⟩ := CL.out _ (bt g1 g2)) | (go_at_call 10; refine (P1.out _ (bt (bt g1 g2) (one_block _ _))).mono ?_; rintro e v3 ⟨a3, c3, rfl, b3, n3, g3⟩; clear P1; have H3 : Hid (Below W0.heap.size W0 v3) := bt (bt (bt g1 g2) (one_block _ _)) g3; clear x0 x1 x2 x3 x4 x5; obtain ⟨⟨x0, x1, x2⟩, x3, x4, x5⟩ := CL.out _ H3.out) | (go_at_call 11; refine (P2.out _ H3.out).mono ?_; rintro e v4 ⟨a4, c4, rfl, b4, n4, g4⟩; clear P2) | (go_at_call 12; refine (G1.out _ (bt H3.out g4)).mono ?_; rintro e v5 ⟨a5, c5, rfl, q5, g5⟩; clear G1) | (go_at_call 13; refine (G2.out _ (bt (bt (bt H3.out g4) g5) (one_block _ _))).mono ?_; rintro e v6 ⟨a6, c6, rfl, q6, g6⟩; clear G2))
  have HV : Hid (Below W0.heap.size W0 (v6.alloc (.cells #[.int .i64 gd, .int .i64 gn, .slice a6 gp.length c6] 24))) := bt (bt (bt (bt (bt H3.out g4) g5) (one_block _ _)) g6) (one_block _ _)
  have K7 : Hid (Below (v2.alloc (.cells #[.int .i64 d0, .int .i64 n0, .slice a0 y0.length cap0] 28)).heap.size (v2.alloc (.cells #[.int .i64 d0, .int .i64 n0, .slice a0 y0.length cap0] 28)) (v6.alloc (.cells #[.int .i64 gd, .int .i64 gn, .slice a6 gp.length c6] 24))) := bt (bt (bt (bt (bt g3 g4) g5) (one_block _ _)) g6) (one_block _ _)
  have K12 : Hid (Below (v5.alloc (.cells #[.int .i64 gd, .int .i64 gn, .slice a5 gp.length c5] 28)).heap.size (v5.alloc (.cells #[.int .i64 gd, .int .i64 gn, .slice a5 gp.length c5] 28)) (v6.alloc (.cells #[.int .i64 gd, .int .i64 gn, .slice a6 gp.length c6] 24))) := bt g6 (one_block _ _)
  have Q5 : Hid (PV (v6.alloc (.cells #[.int .i64 gd, .int .i64 gn, .slice a6 gp.length c6] 24)) a5 gp) := (q5.below (one_block _ _)).below K12.out
  have Q6 : Hid (PV (v6.alloc (.cells #[.int .i64 gd, .int .i64 gn, .slice a6 gp.length c6] 24)) a6 gp) := q6.below (one_block _ _)
  have R3 : Hid (BV (v6.alloc (.cells #[.int .i64 gd, .int .i64 gn, .slice a6 gp.length c6] 24)) a3 bs) := ((((b3.below g4).below g5).below (one_block _ _)).below K12.out)
  have R4 : Hid (BV (v6.alloc (.cells #[.int .i64 gd, .int .i64 gn, .slice a6 gp.length c6] 24)) a4 bs) := (((b4.below g5).below (one_block _ _)).below K12.out)
  clear x0 x1 x2 x3 x4 x5 g1 g2 g3 g4 g5 g6 b3 b4 q5 q6
  have SL : Hid (∀ W, Below (v6.alloc (.cells #[.int .i64 gd, .int .i64 gn, .slice a6 gp.length c6] 24)).heap.size (v6.alloc (.cells #[.int .i64 gd, .int .i64 gn, .slice a6 gp.length c6] 24)) W → W.cell? ⟨w.heap.size, 0, none⟩ = some (.int .i64 d0) ∧ W.cell? ⟨w.heap.size, 1, none⟩ = some (.int .i64 n0) ∧ W.cell? ⟨w.heap.size, 2, none⟩ = some (.slice a0 y0.length cap0) ∧ W.cell? ⟨w.heap.size + 1, 0, none⟩ = some (.int .i64 d1) ∧ W.cell? ⟨w.heap.size + 1, 1, none⟩ = some (.int .i64 n1) ∧ W.cell? ⟨w.heap.size + 1, 2, none⟩ = some (.slice a1 y1.length cap1) ∧ W.cell? ⟨v2.heap.size, 0, none⟩ = some (.int .i64 d0) ∧ W.cell? ⟨v2.heap.size, 1, none⟩ = some (.int .i64 n0) ∧ W.cell? ⟨v2.heap.size, 2, none⟩ = some (.slice a0 y0.length cap0) ∧ W.cell? ⟨v5.heap.size, 0, none⟩ = some (.int .i64 gd) ∧ W.cell? ⟨v5.heap.size, 1, none⟩ = some (.int .i64 gn) ∧ W.cell? ⟨v5.heap.size, 2, none⟩ = some (.slice a5 gp.length c5) ∧ W.cell? ⟨v6.heap.size, 0, none⟩ = some (.int .i64 gd) ∧ W.cell? ⟨v6.heap.size, 1, none⟩ = some (.int .i64 gn) ∧ W.cell? ⟨v6.heap.size, 2, none⟩ = some (.slice a6 gp.length c6) ∧ (convert 25 9 (.slice a3 bs.length c3)).run Try.prog W = .ok (.string sx) W ∧ (convert 25 9 (.slice a4 bs.length c4)).run Try.prog W = .ok (.string sx) W) := fun W hW => by
    obtain ⟨⟨x0, x1, x2⟩, x3, x4, x5⟩ := CL.out _ (bt HV.out hW)
    obtain ⟨m0, m1, m2⟩ := box3' (bt K7.out hW)
    obtain ⟨m3, m4, m5⟩ := box3' (bt K12.out hW)
    obtain ⟨m6, m7, m8⟩ := box24 hW
    exact ⟨x0, x1, x2, x3, x4, x5, m0, m1, m2, m3, m4, m5, m6, m7, m8, CV.out _ _ _ (R3.out.below hW) n3, CV.out _ _ _ (R4.out.below hW) n4⟩
  generalize hVV : (v6.alloc (.cells #[.int .i64 gd, .int .i64 gn, .slice a6 gp.length c6] 24)) = VV at *
  clear hVV
  go_wp2_with fail
  go_region_held3 (fun W => W.cell? ⟨w.heap.size, 0, none⟩ = some (.int .i64 d0) ∧ W.cell? ⟨w.heap.size, 1, none⟩ = some (.int .i64 n0) ∧ W.cell? ⟨w.heap.size, 2, none⟩ = some (.slice a0 y0.length cap0) ∧ W.cell? ⟨w.heap.size + 1, 0, none⟩ = some (.int .i64 d1) ∧ W.cell? ⟨w.heap.size + 1, 1, none⟩ = some (.int .i64 n1) ∧ W.cell? ⟨w.heap.size + 1, 2, none⟩ = some (.slice a1 y1.length cap1) ∧ W.cell? ⟨v2.heap.size, 0, none⟩ = some (.int .i64 d0) ∧ W.cell? ⟨v2.heap.size, 1, none⟩ = some (.int .i64 n0) ∧ W.cell? ⟨v2.heap.size, 2, none⟩ = some (.slice a0 y0.length cap0) ∧ W.cell? ⟨v5.heap.size, 0, none⟩ = some (.int .i64 gd) ∧ W.cell? ⟨v5.heap.size, 1, none⟩ = some (.int .i64 gn) ∧ W.cell? ⟨v5.heap.size, 2, none⟩ = some (.slice a5 gp.length c5) ∧ W.cell? ⟨v6.heap.size, 0, none⟩ = some (.int .i64 gd) ∧ W.cell? ⟨v6.heap.size, 1, none⟩ = some (.int .i64 gn) ∧ W.cell? ⟨v6.heap.size, 2, none⟩ = some (.slice a6 gp.length c6) ∧ (convert 25 9 (.slice a3 bs.length c3)).run Try.prog W = .ok (.string sx) W ∧ (convert 25 9 (.slice a4 bs.length c4)).run Try.prog W = .ok (.string sx) W) (first | exact SL.out _ (Below.refl _ _).drew | exact SL.out _ (Below.trans (Below.refl _ _).drew k1) | exact SL.out _ (bt (Below.trans (Below.refl _ _).drew k1) k2) | exact SL.out _ (bt (bt (Below.trans (Below.refl _ _).drew k1) k2) k3) | exact SL.out _ (bt (bt (bt (Below.trans (Below.refl _ _).drew k1) k2) k3) k4) | exact SL.out _ (bt (bt (bt (bt (Below.trans (Below.refl _ _).drew k1) k2) k3) k4) k5) | exact SL.out _ (bt (bt (bt (bt (bt (Below.trans (Below.refl _ _).drew k1) k2) k3) k4) k5) k6) | exact SL.out _ (bt (bt (bt (bt (bt (bt (Below.trans (Below.refl _ _).drew k1) k2) k3) k4) k5) k6) k7)) (first | (go_at_call 14; refine (CK.out _ (bt HV.out (Below.refl _ _).drew)).mono ?_; rintro e z1 ⟨rfl, k1⟩; clear CK) | (go_at_call 15; refine (SZ.out _ (bt HV.out (Below.trans (Below.refl _ _).drew k1))).mono ?_; rintro e z2 ⟨rfl, k2⟩; clear SZ) | (go_at_call 16; refine (RZ.out _ (bt HV.out (bt (Below.trans (Below.refl _ _).drew k1) k2))).mono ?_; rintro e z3 ⟨rfl, k3⟩; clear RZ) | (go_at_call 17; refine (S9.out _ _ _ _ _ (Q5.out.below (bt (bt (Below.trans (Below.refl _ _).drew k1) k2) k3)) (Q6.out.below (bt (bt (Below.trans (Below.refl _ _).drew k1) k2) k3))).mono ?_; rintro e z4 ⟨rfl, k4⟩; clear S9) | (go_at_call 18; refine (S8.out _ (bt HV.out (bt (bt (bt (Below.trans (Below.refl _ _).drew k1) k2) k3) k4))).mono ?_; rintro e z5 ⟨rfl, k5⟩; clear S8) | (go_at_call 17; refine (S7.out _ (bt HV.out (bt (bt (bt (bt (Below.trans (Below.refl _ _).drew k1) k2) k3) k4) k5))).mono ?_; rintro e z6 ⟨rfl, k6⟩; clear S7) | (go_at_call 9; refine (awake_any _).mono ?_; rintro e z7 ⟨rfl, k7⟩))
  go_wp2
  go_ret
  exact ⟨rfl, bt HB0.out (bt HV.out (bt (bt (bt (bt (bt (bt (Below.trans (Below.refl _ _).drew k1) k2) k3) k4) k5) k6) k7))⟩
theorem walk (d0 n0 : Int) (a0 : Option Addr) (len0 cap0 : Nat) (y0 : List PR) (d1 n1 : Int) (a1 : Option Addr) (len1 cap1 : Nat) (y1 : List PR) (a2 : Option Addr) (len2 cap2 : Nat) (y2 : List Int) (w : World) (w0 : Prs w a0 len0 cap0 y0) (w1 : Prs w a1 len1 cap1 y1) (w2 : y2.length = len2 ∧ BV w a2 y2 ∧ (a2 = none → cap2 = 0) ∧ len2 ≤ cap2 ∧ cap2 ≤ 9223372036854775807) :
    Calls Try.prog 3 #[bkv d0 n0 a0 len0 cap0, bkv d1 n1 a1 len1 cap1, .slice a2 len2 cap2] w fun e w' => e = .returned (.bool true) ∧ Below w.heap.size w w' := by
  cases hl : lightB y0 100
  · exact walk_d0 d0 n0 a0 len0 cap0 y0 d1 n1 a1 len1 cap1 y1 a2 len2 cap2 y2 w w0 w1 w2 hl
  · cases hq : lightB y1 100
    · exact walk_d1 d0 n0 a0 len0 cap0 y0 d1 n1 a1 len1 cap1 y1 a2 len2 cap2 y2 w w0 w1 w2 hl hq
    · by_cases hr : 400 < y2.length
      · exact walk_d2 d0 n0 a0 len0 cap0 y0 d1 n1 a1 len1 cap1 y1 a2 len2 cap2 y2 w w0 w1 w2 hl hq hr
      · exact walk_l d0 n0 a0 len0 cap0 y0 d1 n1 a1 len1 cap1 y1 a2 len2 cap2 y2 w w0 w1 w2 hl hq hr
set_option maxRecDepth 100000 in
theorem lifted (os : Os) (started : os.Started) (H : Type) (enc : TypeId × Value → H) :
    ReturnsInHanded {} Try.checked os 3 .any (Rows.bucketPutsSpec.pre6 enc Try.prog Try.f3 Rows.bucketPutsRow.domain false) (Rows.bucketPutsSpec.post enc Try.prog Try.f3 false true false false) := by
  refine returnsInHanded_of_change (C := Try.checked) own started (by kernel_rfl) Try.func3
    (ChangeSpec.witness6 (enc := enc) (C := Try.checked) false ⟨#[], #[.agg #[.int .i64 0, .int .i64 0, .slice none 0 0], .agg #[.int .i64 0, .int .i64 0, .slice none 0 0], .slice none 0 0], []⟩ 8 (by kernel_rfl) (by kernel_rfl) (by kernel_rfl) (by kernel_rfl)) ?_
  intro W base args ds gs before hval0 hW hcnd _
  have hval : ∀ (j : Nat) t v, Try.f3.params[j]? = some t → args[j]? = some v → Value.okWide Try.prog W .any base t v := hval0
  have hW' := hW
  obtain ⟨p, q, hA0, hV, rfl, hfz, hnd⟩ := hW
  have hA : DataW.TrodAll enc Try.prog W 0 (fun _ => true) true Try.f3.params.toList args.toList ds p := hA0
  rw [Try.params3] at hA hval
  obtain ⟨v0, vs0, d'0, ds0, q0, r'0, hargs, rfl, rfl, h0, r0⟩ := trodAll_cons hA
  obtain ⟨v1, vs1, d'1, ds1, q1, r'1, rfl, rfl, rfl, h1, r1⟩ := trodAll_cons r0
  obtain ⟨v2, vs2, d'2, ds2, q2, r'2, rfl, rfl, rfl, h2, r2⟩ := trodAll_cons r1
  obtain ⟨rfl, rfl, rfl⟩ := trodAll_nil r2
  obtain rfl : args = #[v0, v1, v2] := by cases args; simp_all
  obtain ⟨rfl, rfl⟩ := trodVars_none hV
  have k0 := h0
  have lt0 : ∀ x ∈ q0, x.block < W.heap.size := by obtain ⟨m, hm⟩ := k0; exact DataW.trod_lt m _ _ _ hm
  obtain ⟨d0, n0, a0, len0, cap0, y0, rfl, w0⟩ := open_b (hval 0 24 v0 rfl rfl) h0
  have k1 := h1
  have lt1 : ∀ x ∈ q1, x.block < W.heap.size := by obtain ⟨m, hm⟩ := k1; exact DataW.trod_lt m _ _ _ hm
  obtain ⟨d1, n1, a1, len1, cap1, y1, rfl, w1⟩ := open_b (hval 1 24 v1 rfl rfl) h1
  obtain ⟨a2, len2, cap2, rfl⟩ := okWide_slice Try.underlying25 (hval 2 25 v2 rfl rfl)
  have k2 := h2
  have lt2 : ∀ x ∈ q2, x.block < W.heap.size := by obtain ⟨m, hm⟩ := k2; exact DataW.trod_lt m _ _ _ hm
  obtain ⟨y2, w2⟩ : ∃ ys : List Int, ys.length = len2 ∧ BV W a2 ys ∧ (a2 = none → cap2 = 0) ∧ len2 ≤ cap2 ∧ cap2 ≤ 9223372036854775807 := by
    obtain ⟨fuel, hf⟩ := h2
    rcases open_ints Try.underlying25 Try.underlying5 (by kernel_rfl) hf with ⟨hcs, _⟩ | ⟨x, l, c, zs, hcs, _, hl, hm, hz, _, hcell, hwz⟩
    · simp [Value.cells] at hcs
      obtain ⟨rfl, rfl, rfl⟩ := hcs
      exact bytes_of (zs := []) (.inl ⟨rfl, rfl, rfl, rfl⟩)
    · simp [Value.cells] at hcs
      obtain ⟨rfl, rfl, rfl⟩ := hcs
      exact bytes_of (.inr ⟨_, rfl, hl, hm, by simpa using hz, hcell, hwz⟩)
  clear hA0 hval0
  refine (walk d0 n0 a0 len0 cap0 y0 d1 n1 a1 len1 cap1 y1 a2 len2 cap2 y2 W w0 w1 w2).mono fun e W' ⟨he, bel⟩ => ?_
  subst he
  exact ⟨_, rfl, _, _, _, [], _, [], hW', trodAll_mk1 (shut_bool Try.underlying4 _), (trodAll_cons_mk (Below.trod laidOut (by kernel_rfl) (of_decide_eq_true (by kernel_rfl)) k0 bel lt0) (trodAll_cons_mk (Below.trod laidOut (by kernel_rfl) (of_decide_eq_true (by kernel_rfl)) k1 bel lt1) (trodAll_cons_mk (Below.trod laidOut (by kernel_rfl) (of_decide_eq_true (by kernel_rfl)) k2 bel lt2) trodAll_mk0))), rfl, bel.frame _, fun h => by cases h⟩

theorem over : Rows.bucketPutsRow.holds Try.pinned (OpenSpec.ofChange Rows.bucketPutsSpec) :=
  OpenClaim.holds_of_wide 3 Try.f3 rfl rfl rfl rfl rfl rfl rfl ⟨rfl, rfl, rfl, rfl, rfl⟩ rfl rfl rfl rfl rfl (by kernel_rfl) Try.func3 (by kernel_rfl)
    (of_decide_eq_true (by kernel_rfl)) (by unfold Func.isWrapper; first | (rw [if_pos (by decide +kernel)]; kernel_rfl) | (rw [if_neg (by decide +kernel)]; exact ⟨rfl, rfl⟩))
    (fun os started H enc _ => lifted os started H enc)
end Go.Proofs.Ytnnndkpmlpbpcaa.bucketPuts

namespace Go.Proofs.Ytnnndkpmlpbpcaa
theorem bucketPuts_holds : Rows.BucketPutsSaid := bucketPuts.over
#print axioms bucketPuts_holds
end Go.Proofs.Ytnnndkpmlpbpcaa
