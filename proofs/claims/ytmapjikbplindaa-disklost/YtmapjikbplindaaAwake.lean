/- What every right program has behind a torn block: the call 'awake' of the statements answers true. -/
import Derived.Test.YtmapjikbplindaaDoC
namespace Go.Proofs.Ytmapjikbplindaa
open Go.RowKit Go.Maps
set_option maxRecDepth 20000
set_option linter.unusedVariables false

def aw0 : DS := newS 3
def aw1 : DS := writeS aw0 1 (List.replicate 256 7)
def aw2 : DS := syncS aw1
def aw3 : DS := writeS aw2 1 (List.replicate 256 9)
def aw4 : DS := crashS aw3 [2, 3]
def aw5 : DS := readS aw4 1
theorem aw_e1 : writeE aw0 1 (List.replicate 256 7) = 0 := by decide +kernel
theorem aw_e2 : syncE aw1 = 0 := by decide +kernel
theorem aw_e3 : writeE aw2 1 (List.replicate 256 9) = 0 := by decide +kernel
theorem aw_e4 : reachE aw4 1 = 0 := by decide +kernel
theorem aw_b2 : (readB aw4 1).getD 2 0 = 9 := by decide +kernel
theorem aw_b3 : (readB aw4 1).getD 3 0 = 7 := by decide +kernel
theorem aw_bl : (readB aw4 1).length = 256 := by decide +kernel
theorem aw_ops : aw5.ops = 3 := by decide +kernel
theorem aw_reads : aw5.reads = 1 := by decide +kernel
theorem aw_e5 (zs : List Int) : writeE aw5 3 zs = 12 := by
  have : reachE aw5 3 = 12 := by decide +kernel
  unfold writeE
  rw [this]
  rfl
theorem aw_rep (c : Int) (h0 : 0 ≤ c) (h1 : c ≤ 255) : AllB (List.replicate 256 c) := fun z hz => by
  obtain ⟨_, rfl⟩ := List.mem_replicate.1 hz; exact ⟨h0, h1⟩
theorem full_bv {w : World} {g : Nat} {c : Int} (h0 : 0 ≤ c) (h1 : c ≤ 255) (h : w.heap[g]? = some (.cells (blkA (List.replicate 256 c)) 5 (0, 0))) : BV w (some ⟨g, 0, none⟩) (List.replicate 256 c) := blk_bv (aw_rep c h0 h1) List.length_replicate h
/-- A disk of the call's own: its three blocks lie from B on. -/
def Mine (w0 w : World) (p nb mb : Nat) (s : DS) : Prop := Dk w p nb mb s ∧ w0.heap.size ≤ p ∧ w0.heap.size ≤ nb ∧ w0.heap.size ≤ mb ∧ Below w0.heap.size w0 w
theorem Mine.step {w0 w w' : World} {p nb mb : Nat} {s t : DS} (h : Mine w0 w p nb mb s) (hd : Dk w' p nb mb t) (ho : Off [p, nb, mb] w w') : Mine w0 w' p nb mb t :=
  ⟨hd, h.2.1, h.2.2.1, h.2.2.2.1, h.2.2.2.2.trans (ho.below h.2.2.2.2.size (by intro x hx; have := h.2.1; have := h.2.2.1; have := h.2.2.2.1; simp at hx; omega))⟩
theorem Mine.below {w0 w w' : World} {p nb mb : Nat} {s : DS} (h : Mine w0 w p nb mb s) (hb : Below w.heap.size w w') : Mine w0 w' p nb mb s :=
  ⟨h.1.below hb, h.2.1, h.2.2.1, h.2.2.2.1, h.2.2.2.2.trans (hb.mono h.2.2.2.2.size)⟩
theorem Mine.lt {w0 w : World} {p nb mb : Nat} {s : DS} (h : Mine w0 w p nb mb s) : ∀ x ∈ [p, nb, mb], x < w.heap.size := by
  obtain ⟨_, _, _, h1, h2, h3⟩ := h.1.ne
  intro x hx; simp at hx; omega
/-- Full and Write in one. -/
theorem mnew (b : Int) (w : World) : Calls Try.prog 9 #[.int .i64 b] w fun e w' => ∃ p nb mb, e = .returned (.pointer (some ⟨p, 0, none⟩)) ∧ Mine w w' p nb mb (newS b) := by
  refine (new_any b w).mono ?_
  rintro e w' ⟨p, nb, mb, rfl, hd, h1, h2, h3, hb⟩
  exact ⟨p, nb, mb, rfl, hd, h1, h2, h3, hb⟩
/-- v is a block of c, in a new block. -/
def FullV (w : World) (X : List Nat) (v : Value) (c : Int) : Prop := ∃ g, v = .slice (some ⟨g, 0, none⟩) 256 256 ∧ BV w (some ⟨g, 0, none⟩) (List.replicate 256 c) ∧ g ∉ X
theorem mfull {w0 : World} {p nb mb : Nat} {s : DS} (c : Int) (w : World) (h : Mine w0 w p nb mb s) (h0 : 0 ≤ c) (h1 : c ≤ 255) : Calls Try.prog 24 #[.int .u8 c] w fun e w' => ∃ g, e = .returned (.slice (some ⟨g, 0, none⟩) 256 256) ∧ BV w' (some ⟨g, 0, none⟩) (List.replicate 256 c) ∧ g ∉ [p, nb, mb] ∧ Mine w0 w' p nb mb s ∧ Below w.heap.size w w' := by
  refine (full_any c w h0 h1).mono ?_
  rintro e w' ⟨v, rfl, rfl, hg, hb⟩
  refine ⟨w.heap.size, rfl, full_bv h0 h1 hg, fun hm => ?_, h.below hb, hb⟩
  have := h.lt _ hm
  omega
theorem mwrite {w0 : World} {p nb mb : Nat} {s : DS} (n : Int) (g : Nat) (zs : List Int) (len cap : Nat) (w : World) (h : Mine w0 w p nb mb s) (hbv : BV w (some ⟨g, 0, none⟩) zs) (hl : zs.length = len) (hm : len ≤ 256) (hg : g ∉ [p, nb, mb]) : Calls Try.prog 16 #[.pointer (some ⟨p, 0, none⟩), .int .i64 n, .slice (some ⟨g, 0, none⟩) len cap] w fun e w' => e = .returned (.int .i64 (writeE s n zs)) ∧ Mine w0 w' p nb mb (writeS s n zs) := by
  refine (write_any p nb mb s n (some ⟨g, 0, none⟩) len cap zs w h.1 hbv hl (by omega) (fun b off e => by simp at e; rw [← e.1]; exact hg)).mono ?_
  rintro e w' ⟨rfl, hd, ho⟩
  exact ⟨rfl, h.step hd ho⟩
theorem msync {w0 : World} {p nb mb : Nat} {s : DS} (w : World) (h : Mine w0 w p nb mb s) : Calls Try.prog 17 #[.pointer (some ⟨p, 0, none⟩)] w fun e w' => e = .returned (.int .i64 (syncE s)) ∧ Mine w0 w' p nb mb (syncS s) := by
  refine (sync_any p nb mb s w h.1).mono ?_
  rintro e w' ⟨rfl, hd, ho⟩
  exact ⟨rfl, h.step hd ho⟩
theorem mcrash {w0 : World} {p nb mb : Nat} {s : DS} (v : Value) (fs : List Int) (w : World) (h : Mine w0 w p nb mb s) (hf : FV w [p, nb, mb] v fs) : Calls Try.prog 14 #[.pointer (some ⟨p, 0, none⟩), v] w fun e w' => e = .returned (.tuple #[]) ∧ Mine w0 w' p nb mb (crashS s fs) ∧ Off [p, nb, mb] w w' := by
  refine (crash_any p nb mb s v fs w h.1 hf).mono ?_
  rintro e w' ⟨rfl, hd, ho⟩
  exact ⟨rfl, h.step hd ho, ho⟩
theorem mread {w0 : World} {p nb mb : Nat} {s : DS} (n : Int) (w : World) (h : Mine w0 w p nb mb s) : Calls Try.prog 15 #[.pointer (some ⟨p, 0, none⟩), .int .i64 n] w fun e w' => ∃ v, e = .returned (.tuple #[v, .int .i64 (reachE s n)]) ∧ Own w' w.heap.size v (readB s n) ∧ Mine w0 w' p nb mb (readS s n) ∧ Off [p, nb, mb] w w' := by
  refine (read_any p nb mb s n w h.1).mono ?_
  rintro e w' ⟨v, rfl, hown, hd, ho⟩
  exact ⟨v, rfl, hown, h.step hd ho, ho⟩
theorem fv_lit (w : World) (X : List Nat) (hX : ∀ x ∈ X, x < w.heap.size) : FV (w.alloc (.cells #[.int .u8 2, .int .u8 3] 5)) X (.slice (some ⟨w.heap.size, 0, none⟩) 2 2) [2, 3] := by
  refine ⟨_, 2, rfl, by decide, by decide, ⟨?_, .inr ⟨w.heap.size, 0, rfl, by simp, fun i hi => ?_⟩⟩, fun _ b off e hm => ?_⟩
  · intro z hz; revert z; decide
  · have hh := heap_alloc_last w (.cells #[.int .u8 2, .int .u8 3] 5 (0, 0))
    rw [Nat.zero_add, cell_of_row _ _ _ _ _ _ hh]
    have : i = 0 ∨ i = 1 := by simp at hi; omega
    rcases this with rfl | rfl <;> rfl
  · simp at e
    have := hX b hm
    omega
set_option maxHeartbeats 1600000 in
theorem awake_any (w : World) : Calls Try.prog 8 #[] w fun e w' => e = .returned (.bool true) ∧ Below w.heap.size w w' := by
  have H9 : Hid (Calls Try.prog 9 #[.int .i64 3] w fun e w' => ∃ p nb mb, e = .returned (.pointer (some ⟨p, 0, none⟩)) ∧ Mine w w' p nb mb aw0) := mnew 3 w
  have HF7 : Hid (∀ w1 p nb mb, Mine w w1 p nb mb aw0 → Calls Try.prog 24 #[.int .u8 7] w1 fun e w' => ∃ g, e = .returned (.slice (some ⟨g, 0, none⟩) 256 256) ∧ BV w' (some ⟨g, 0, none⟩) (List.replicate 256 7) ∧ g ∉ [p, nb, mb] ∧ Mine w w' p nb mb aw0 ∧ Below w1.heap.size w1 w') := fun w1 p nb mb h => mfull 7 w1 h (by decide) (by decide)
  have HW7 : Hid (∀ w1 p nb mb g, Mine w w1 p nb mb aw0 → BV w1 (some ⟨g, 0, none⟩) (List.replicate 256 7) → g ∉ [p, nb, mb] → Calls Try.prog 16 #[.pointer (some ⟨p, 0, none⟩), .int .i64 1, .slice (some ⟨g, 0, none⟩) 256 256] w1 fun e w' => e = .returned (.int .i64 0) ∧ Mine w w' p nb mb aw1) := fun w1 p nb mb g h hb hg => by
    have := mwrite 1 g (List.replicate 256 7) 256 256 w1 h hb List.length_replicate (by decide) hg
    rw [aw_e1] at this
    exact this
  have HS : Hid (∀ w1 p nb mb, Mine w w1 p nb mb aw1 → Calls Try.prog 17 #[.pointer (some ⟨p, 0, none⟩)] w1 fun e w' => e = .returned (.int .i64 0) ∧ Mine w w' p nb mb aw2) := fun w1 p nb mb h => by
    have := msync w1 h
    rw [aw_e2] at this
    exact this
  have HF9 : Hid (∀ w1 p nb mb, Mine w w1 p nb mb aw2 → Calls Try.prog 24 #[.int .u8 9] w1 fun e w' => ∃ g, e = .returned (.slice (some ⟨g, 0, none⟩) 256 256) ∧ BV w' (some ⟨g, 0, none⟩) (List.replicate 256 9) ∧ g ∉ [p, nb, mb] ∧ Mine w w' p nb mb aw2 ∧ Below w1.heap.size w1 w') := fun w1 p nb mb h => mfull 9 w1 h (by decide) (by decide)
  have HW9 : Hid (∀ w1 p nb mb g, Mine w w1 p nb mb aw2 → BV w1 (some ⟨g, 0, none⟩) (List.replicate 256 9) → g ∉ [p, nb, mb] → Calls Try.prog 16 #[.pointer (some ⟨p, 0, none⟩), .int .i64 1, .slice (some ⟨g, 0, none⟩) 256 256] w1 fun e w' => e = .returned (.int .i64 0) ∧ Mine w w' p nb mb aw3) := fun w1 p nb mb g h hb hg => by
    have := mwrite 1 g (List.replicate 256 9) 256 256 w1 h hb List.length_replicate (by decide) hg
    rw [aw_e3] at this
    exact this
  have HC : Hid (∀ w1 p nb mb, Mine w w1 p nb mb aw3 → Calls Try.prog 14 #[.pointer (some ⟨p, 0, none⟩), .slice (some ⟨w1.heap.size, 0, none⟩) 2 2] (w1.alloc (.cells #[.int .u8 2, .int .u8 3] 5)) fun e w' => e = .returned (.tuple #[]) ∧ Mine w w' p nb mb aw4) := fun w1 p nb mb h => by
    refine (mcrash _ [2, 3] _ (h.below ((Below.refl _ _).alloc (Nat.le_refl _) _)) (fv_lit w1 _ h.lt)).mono ?_
    rintro e w' ⟨rfl, hm, _⟩
    exact ⟨rfl, hm⟩
  have HR : Hid (∀ w1 p nb mb, Mine w w1 p nb mb aw4 → Calls Try.prog 15 #[.pointer (some ⟨p, 0, none⟩), .int .i64 1] w1 fun e w' => ∃ g cap, e = .returned (.tuple #[.slice (some ⟨g, 0, none⟩) 256 cap, .int .i64 0]) ∧ BV w' (some ⟨g, 0, none⟩) (readB aw4 1) ∧ g ∉ [p, nb, mb] ∧ Mine w w' p nb mb aw5 ∧ w'.cell? ⟨g, 2, none⟩ = some (.int .u8 9) ∧ w'.cell? ⟨g, 3, none⟩ = some (.int .u8 7)) := fun w1 p nb mb h => by
    have := mread 1 w1 h
    rw [aw_e4] at this
    refine this.mono ?_
    rintro e w' ⟨v, rfl, hown, hm, _⟩
    have hz := readB_allB h.1.1 1
    obtain ⟨g, cap, rfl, _, hgb, hgs⟩ := hown.shape 256 aw_bl (by decide)
    have c2 := (hown.cells1 hz 2 (by rw [aw_bl]; decide)).1
    have c3 := (hown.cells1 hz 3 (by rw [aw_bl]; decide)).1
    rw [aw_b2] at c2
    rw [aw_b3] at c3
    exact ⟨g, cap, rfl, hown.bv hz, fun hm' => by have := h.lt g hm'; omega, hm, c2, c3⟩
  have HO : Hid (∀ w1 p nb mb, Mine w w1 p nb mb aw5 → Calls Try.prog 21 #[.pointer (some ⟨p, 0, none⟩)] w1 fun e w' => e = .returned (.int .i64 3) ∧ w' = w1) := fun w1 p nb mb h => by
    have := ops_any p nb mb aw5 w1 h.1
    rw [aw_ops] at this
    exact this
  have HRD : Hid (∀ w1 p nb mb, Mine w w1 p nb mb aw5 → Calls Try.prog 22 #[.pointer (some ⟨p, 0, none⟩)] w1 fun e w' => e = .returned (.int .i64 1) ∧ w' = w1) := fun w1 p nb mb h => by
    have := reads_any p nb mb aw5 w1 h.1
    rw [aw_reads] at this
    exact this
  have HWL : Hid (∀ w1 p nb mb g cap, Mine w w1 p nb mb aw5 → BV w1 (some ⟨g, 0, none⟩) (readB aw4 1) → g ∉ [p, nb, mb] → Calls Try.prog 16 #[.pointer (some ⟨p, 0, none⟩), .int .i64 3, .slice (some ⟨g, 0, none⟩) 256 cap] w1 fun e w' => e = .returned (.int .i64 12) ∧ Below w.heap.size w w') := fun w1 p nb mb g cap h hb hg => by
    have := mwrite 3 g (readB aw4 1) 256 cap w1 h hb aw_bl (by decide) hg
    rw [aw_e5] at this
    refine this.mono ?_
    rintro e w' ⟨rfl, hm⟩
    exact ⟨rfl, hm.2.2.2.2⟩
  go_enter Try.func8, Try.ntmps8
  go_wp2_with (first
    | (go_at_call 9; refine H9.out.mono ?_; rintro e w1 ⟨p, nb, mb, rfl, h1⟩; have M1 : Hid (Mine w w1 p nb mb aw0) := h1; clear h1 H9)
    | (go_at_call_of 24 (7 : Int); refine (HF7.out _ _ _ _ M1.out).mono ?_; rintro e w2 ⟨g2, rfl, hb2, hg2, h2, _⟩; have M2 : Hid (Mine w w2 p nb mb aw0 ∧ BV w2 (some ⟨g2, 0, none⟩) (List.replicate 256 7) ∧ g2 ∉ [p, nb, mb]) := ⟨h2, hb2, hg2⟩; clear hb2 hg2 h2 HF7)
    | (go_at_call_of 16 g2; refine (HW7.out _ _ _ _ _ M2.out.1 M2.out.2.1 M2.out.2.2).mono ?_; rintro e w3 ⟨rfl, h3⟩; have M3 : Hid (Mine w w3 p nb mb aw1) := h3; clear h3 HW7)
    | (go_at_call 17; refine (HS.out _ _ _ _ M3.out).mono ?_; rintro e w4 ⟨rfl, h4⟩; have M4 : Hid (Mine w w4 p nb mb aw2) := h4; clear h4 HS)
    | (go_at_call_of 24 (9 : Int); refine (HF9.out _ _ _ _ M4.out).mono ?_; rintro e w5 ⟨g5, rfl, hb5, hg5, h5, _⟩; have M5 : Hid (Mine w w5 p nb mb aw2 ∧ BV w5 (some ⟨g5, 0, none⟩) (List.replicate 256 9) ∧ g5 ∉ [p, nb, mb]) := ⟨h5, hb5, hg5⟩; clear hb5 hg5 h5 HF9)
    | (go_at_call_of 16 g5; refine (HW9.out _ _ _ _ _ M5.out.1 M5.out.2.1 M5.out.2.2).mono ?_; rintro e w6 ⟨rfl, h6⟩; have M6 : Hid (Mine w w6 p nb mb aw3) := h6; clear h6 HW9)
    | (go_at_call 14; refine (HC.out _ _ _ _ M6.out).mono ?_; rintro e w7 ⟨rfl, h7⟩; have M7 : Hid (Mine w w7 p nb mb aw4) := h7; clear h7 HC)
    | (go_at_call 15; refine (HR.out _ _ _ _ M7.out).mono ?_; rintro e w8 ⟨g8, cap8, rfl, hb8, hg8, h8, cc2, cc3⟩; have M8 : Hid (Mine w w8 p nb mb aw5 ∧ BV w8 (some ⟨g8, 0, none⟩) (readB aw4 1) ∧ g8 ∉ [p, nb, mb]) := ⟨h8, hb8, hg8⟩; clear hb8 hg8 h8 HR)
    | (go_at_call 21; refine (HO.out _ _ _ _ M8.out.1).mono ?_; rintro e w9 ⟨rfl, hw9⟩; obtain rfl := hw9.symm; clear HO)
    | (go_at_call 22; refine (HRD.out _ _ _ _ M8.out.1).mono ?_; rintro e w9 ⟨rfl, hw9⟩; obtain rfl := hw9.symm; clear HRD)
    | (go_at_call_of 16 g8; refine (HWL.out _ _ _ _ _ _ M8.out.1 M8.out.2.1 M8.out.2.2).mono ?_; rintro e w10 ⟨rfl, h10⟩; have M10 : Hid (Below w.heap.size w w10) := h10; clear h10 HWL)
    | fail)
  go_ret
  exact ⟨rfl, M10.out⟩
end Go.Proofs.Ytmapjikbplindaa
