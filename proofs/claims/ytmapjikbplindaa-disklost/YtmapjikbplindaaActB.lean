/- What an act writes. -/
import Derived.Test.YtmapjikbplindaaRefF
namespace Go.Proofs.Ytmapjikbplindaa
open Go.RowKit Go.Maps
set_option maxRecDepth 20000

/-- The 256 bytes of an act. -/
def actB (c : Int) : List Int := ((c + 1) % 256) :: List.replicate 255 c
def actL (c cut : Int) : List Int := if 0 < cut then (actB c).take cut.toNat else actB c
theorem act_set (c : Int) : (blkA (List.replicate 256 c)).setIfInBounds 0 (.int .u8 ((c + 1) % 256)) = blkA (actB c) := by
  unfold blkA actB
  rw [List.setIfInBounds_toArray, show (256 : Nat) = 255 + 1 from rfl, List.replicate_succ, List.map_cons, List.set_cons_zero, List.map_cons]
set_option maxHeartbeats 800000 in
theorem bytes_any (kd n c cut : Int) (d : Bool) (fa : Option Addr) (fl fc : Nat) (w : World) (h0 : 0 ≤ c) (h1 : c ≤ 255) (k0 : 0 ≤ cut) (k1 : cut ≤ 255) :
    Calls Try.prog 29 #[.agg #[.int .u8 kd, .int .i64 n, .int .u8 c, .int .u8 cut, .bool d, .slice fa fl fc]] w fun e w' => e = .returned (.slice (some ⟨w.heap.size + 1, 0, none⟩) (if 0 < cut then cut.toNat else 256) 256) ∧ w'.heap[w.heap.size + 1]? = some (.cells (blkA (actB c)) 5 (0, 0)) ∧ Below w.heap.size w w' := by
  have HF : Hid (∀ w : World, Calls Try.prog 24 #[.int .u8 c] w fun e w' => ∃ v, e = .returned v ∧ v = .slice (some ⟨w.heap.size, 0, none⟩) 256 256 ∧ w'.heap[w.heap.size]? = some (.cells (blkA (List.replicate 256 c)) 5 (0, 0)) ∧ Below w.heap.size w w') := fun w => full_any c w h0 h1
  have HS := act_set c
  have HSH : Hid ((blkA (List.replicate 256 c)).setIfInBounds 0 (.int .u8 ((c + 1) % 256)) = blkA (actB c)) := HS
  clear HS
  have HSZ : Hid ((w.alloc (.cells #[.int .u8 kd, .int .i64 n, .int .u8 c, .int .u8 cut, .bool d, .slice fa fl fc] 34)).heap.size = w.heap.size + 1) := by simp [Hid]
  by_cases hc : 0 < cut
  · rw [if_pos hc]
    have hd : decide (0 < cut) = true := by simpa using hc
    have hcI : cut ≤ 256 := by omega
    go_enter Try.func29, Try.ntmps29
    go_wp2_with (first | (go_at_call 24; refine (HF.out _).mono ?_; rintro e w1 ⟨v, rfl, rfl, hk, hb⟩; rw [HSZ.out] at hk; have q0 := cell_of_row w1 _ 0 _ 5 (0, 0) hk; rw [blkA_get _ 0 (by rw [List.length_replicate]; decide)] at q0; have q1 := frozen_of_row w1 _ 0 _ 5 hk; have q2 := (hb.cell (p := ⟨w.heap.size, 2, none⟩) (by simp)).trans (by go_simp : _ = some (Value.int .u8 c)); have q3 := (hb.cell (p := ⟨w.heap.size, 3, none⟩) (by simp)).trans (by go_simp : _ = some (Value.int .u8 cut)); have HK : Hid (w1.heap[w.heap.size + 1]? = some (.cells (blkA (List.replicate 256 c)) 5 (0, 0)) ∧ Below w.heap.size w w1) := ⟨hk, ((Below.refl _ _).alloc (Nat.le_refl _) _).trans (hb.mono (by simp))⟩; clear HF hk hb) | fail)
    go_ret
    refine ⟨rfl, ?_, HK.out.2.setCell (by simp) _⟩
    rw [← HSH.out]
    exact heap_setCell_same w1 (w.heap.size + 1) 0 _ 5 _ HK.out.1
  · rw [if_neg hc]
    have hd : decide (0 < cut) = false := by simpa using hc
    go_enter Try.func29, Try.ntmps29
    go_wp2_with (first | (go_at_call 24; refine (HF.out _).mono ?_; rintro e w1 ⟨v, rfl, rfl, hk, hb⟩; rw [HSZ.out] at hk; have q0 := cell_of_row w1 _ 0 _ 5 (0, 0) hk; rw [blkA_get _ 0 (by rw [List.length_replicate]; decide)] at q0; have q1 := frozen_of_row w1 _ 0 _ 5 hk; have q2 := (hb.cell (p := ⟨w.heap.size, 2, none⟩) (by simp)).trans (by go_simp : _ = some (Value.int .u8 c)); have q3 := (hb.cell (p := ⟨w.heap.size, 3, none⟩) (by simp)).trans (by go_simp : _ = some (Value.int .u8 cut)); have HK : Hid (w1.heap[w.heap.size + 1]? = some (.cells (blkA (List.replicate 256 c)) 5 (0, 0)) ∧ Below w.heap.size w w1) := ⟨hk, ((Below.refl _ _).alloc (Nat.le_refl _) _).trans (hb.mono (by simp))⟩; clear HF hk hb) | fail)
    go_ret
    refine ⟨rfl, ?_, HK.out.2.setCell (by simp) _⟩
    rw [← HSH.out]
    exact heap_setCell_same w1 (w.heap.size + 1) 0 _ 5 _ HK.out.1
end Go.Proofs.Ytmapjikbplindaa
