/- A disk in memory: the looks at it, and what its calls ask first. -/
import Derived.Test.YtmapjikbplindaaLay
import Derived.Deep.QuietTactic
import Derived.BigQuiet
namespace Go.Proofs.Ytmapjikbplindaa
open Go.RowKit Go.Maps Go.Sort Go.Shelf

/-- The eight cells of a disk. -/
def DkB (w : World) (p : Nat) (c0 c1 c2 c3 c4 c5 c6 c7 : Value) : Prop := w.heap[p]? = some (.cells #[c0, c1, c2, c3, c4, c5, c6, c7] 60 (0, 0))

structure DkC (w : World) (p : Nat) (c0 c1 c2 c3 c4 c5 c6 c7 : Value) : Prop where
  c0 : w.cell? ⟨p, 0, none⟩ = some c0
  c1 : w.cell? ⟨p, 1, none⟩ = some c1
  c2 : w.cell? ⟨p, 2, none⟩ = some c2
  c3 : w.cell? ⟨p, 3, none⟩ = some c3
  c4 : w.cell? ⟨p, 4, none⟩ = some c4
  c5 : w.cell? ⟨p, 5, none⟩ = some c5
  c6 : w.cell? ⟨p, 6, none⟩ = some c6
  c7 : w.cell? ⟨p, 7, none⟩ = some c7
  f0 : w.frozen? ⟨p, 0, none⟩ = false
  f1 : w.frozen? ⟨p, 1, none⟩ = false
  f2 : w.frozen? ⟨p, 2, none⟩ = false
  f3 : w.frozen? ⟨p, 3, none⟩ = false
  f4 : w.frozen? ⟨p, 4, none⟩ = false
  f5 : w.frozen? ⟨p, 5, none⟩ = false
  f6 : w.frozen? ⟨p, 6, none⟩ = false
  f7 : w.frozen? ⟨p, 7, none⟩ = false
theorem DkB.cells {w : World} {p : Nat} {c0 c1 c2 c3 c4 c5 c6 c7 : Value} (h : DkB w p c0 c1 c2 c3 c4 c5 c6 c7) : DkC w p c0 c1 c2 c3 c4 c5 c6 c7 := by
  refine ⟨?_, ?_, ?_, ?_, ?_, ?_, ?_, ?_, ?_, ?_, ?_, ?_, ?_, ?_, ?_, ?_⟩ <;> first
    | (rw [cell_of_row _ _ _ _ _ _ h]; rfl)
    | exact frozen_of_row _ _ _ _ _ h
theorem DkB.lt {w : World} {p : Nat} {c0 c1 c2 c3 c4 c5 c6 c7 : Value} (h : DkB w p c0 c1 c2 c3 c4 c5 c6 c7) : p < w.heap.size := (Array.getElem?_eq_some_iff.1 h).1

/-- Each block's bytes, one block behind the other. -/
def Rows256 (flat : Array Value) (room : Nat) (B : Nat → List Int) : Prop := room * 256 ≤ flat.size ∧ ∀ n, n < room → ∀ i, i < 256 → flat[n * 256 + i]? = some (.int .u8 ((B n).getD i 0))

/-- What waits for a failing power. -/
def Waits (s : DS) (set : Bool) (after : Int) (done : Bool) : Prop := (s.fails = -1 ∧ set = false) ∨ (0 ≤ s.fails ∧ set = true ∧ after = s.fails ∧ done = s.done)

/-- A disk in the blocks p, nb and mb. -/
def Dk (w : World) (p nb mb : Nat) (s : DS) : Prop :=
  s.Ok ∧ ∃ cap set after done flat,
    DkB w p (.slice (some ⟨nb, 0, none⟩) s.room cap) (.map (some mb)) (.bool s.down) (.bool set) (.int .i64 after) (.bool done) (.int .i64 s.ops) (.int .i64 s.reads) ∧
    w.heap[nb]? = some (.cells flat 71 (0, 0)) ∧ s.room ≤ cap ∧ Rows256 flat s.room s.B ∧ Mp w mb s.room s.L s.S ∧ Waits s set after done

theorem Dk.ne {w : World} {p nb mb : Nat} {s : DS} (h : Dk w p nb mb s) : p ≠ nb ∧ p ≠ mb ∧ nb ≠ mb ∧ p < w.heap.size ∧ nb < w.heap.size ∧ mb < w.heap.size := by
  obtain ⟨_, cap, set, after, done, flat, h1, h2, _, _, h3, _⟩ := h
  have h3' := h3.lt
  obtain ⟨D, ⟨es, clock, hb, _⟩, _⟩ := h3
  refine ⟨?_, ?_, ?_, h1.lt, (Array.getElem?_eq_some_iff.1 h2).1, h3'⟩
  · rintro rfl; unfold DkB at h1; rw [h1] at h2; simp at h2
  · rintro rfl; unfold DkB at h1; rw [h1] at hb; simp at hb
  · rintro rfl; rw [h2] at hb; simp at hb
theorem Dk.off {w w' : World} {p nb mb : Nat} {s : DS} {X : List Nat} (h : Dk w p nb mb s) (ho : Off X w w') (h1 : p ∉ X) (h2 : nb ∉ X) (h3 : mb ∉ X) : Dk w' p nb mb s := by
  have hn := h.ne
  obtain ⟨ok, cap, set, after, done, flat, d1, d2, d3, d4, d5, d6⟩ := h
  exact ⟨ok, cap, set, after, done, flat, (ho.block p hn.2.2.2.1 h1).trans d1, (ho.block nb hn.2.2.2.2.1 h2).trans d2, d3, d4, d5.off ho h3, d6⟩
theorem Dk.below {w w' : World} {p nb mb : Nat} {s : DS} (h : Dk w p nb mb s) (hb : Below w.heap.size w w') : Dk w' p nb mb s := h.off (Off.of_below (X := []) hb) (by simp) (by simp) (by simp)

set_option maxHeartbeats 400000 in
theorem down_any (p nb mb : Nat) (s : DS) (w : World) (h : Dk w p nb mb s) : Calls Try.prog 19 #[.pointer (some ⟨p, 0, none⟩)] w fun e w' => e = .returned (.bool s.down) ∧ w' = w := by
  obtain ⟨_, cap, set, after, done, flat, d1, _⟩ := h
  obtain ⟨c0, c1, c2, c3, c4, c5, c6, c7, f0, f1, f2, f3, f4, f5, f6, f7⟩ := d1.cells
  clear d1
  go_enter Try.func19, Try.ntmps19
  go_wp2
  go_ret
  exact ⟨rfl, rfl⟩
set_option maxHeartbeats 400000 in
theorem blocks_any (p nb mb : Nat) (s : DS) (w : World) (h : Dk w p nb mb s) : Calls Try.prog 20 #[.pointer (some ⟨p, 0, none⟩)] w fun e w' => e = .returned (.int .i64 s.room) ∧ w' = w := by
  obtain ⟨_, cap, set, after, done, flat, d1, _⟩ := h
  obtain ⟨c0, c1, c2, c3, c4, c5, c6, c7, f0, f1, f2, f3, f4, f5, f6, f7⟩ := d1.cells
  clear d1
  go_enter Try.func20, Try.ntmps20
  go_wp2
  go_ret
  exact ⟨rfl, rfl⟩
set_option maxHeartbeats 400000 in
theorem ops_any (p nb mb : Nat) (s : DS) (w : World) (h : Dk w p nb mb s) : Calls Try.prog 21 #[.pointer (some ⟨p, 0, none⟩)] w fun e w' => e = .returned (.int .i64 s.ops) ∧ w' = w := by
  obtain ⟨_, cap, set, after, done, flat, d1, _⟩ := h
  obtain ⟨c0, c1, c2, c3, c4, c5, c6, c7, f0, f1, f2, f3, f4, f5, f6, f7⟩ := d1.cells
  clear d1
  go_enter Try.func21, Try.ntmps21
  go_wp2
  go_ret
  exact ⟨rfl, rfl⟩
set_option maxHeartbeats 400000 in
theorem reads_any (p nb mb : Nat) (s : DS) (w : World) (h : Dk w p nb mb s) : Calls Try.prog 22 #[.pointer (some ⟨p, 0, none⟩)] w fun e w' => e = .returned (.int .i64 s.reads) ∧ w' = w := by
  obtain ⟨_, cap, set, after, done, flat, d1, _⟩ := h
  obtain ⟨c0, c1, c2, c3, c4, c5, c6, c7, f0, f1, f2, f3, f4, f5, f6, f7⟩ := d1.cells
  clear d1
  go_enter Try.func22, Try.ntmps22
  go_wp2
  go_ret
  exact ⟨rfl, rfl⟩
set_option maxHeartbeats 400000 in
theorem ready_any (p nb mb : Nat) (s : DS) (w : World) (h : Dk w p nb mb s) : Calls Try.prog 40 #[.pointer (some ⟨p, 0, none⟩)] w fun e w' => e = .returned (.int .i64 (readyE s)) ∧ w' = w := by
  obtain ⟨_, cap, set, after, done, flat, d1, _⟩ := h
  obtain ⟨c0, c1, c2, c3, c4, c5, c6, c7, f0, f1, f2, f3, f4, f5, f6, f7⟩ := d1.cells
  clear d1
  unfold readyE
  cases hd : s.down
  · rw [hd] at c2
    go_enter Try.func40, Try.ntmps40
    go_wp2
    go_ret
    exact ⟨rfl, rfl⟩
  · rw [hd] at c2
    go_enter Try.func40, Try.ntmps40
    go_wp2
    go_ret
    exact ⟨rfl, rfl⟩
set_option maxHeartbeats 400000 in
theorem reach_any (p nb mb : Nat) (s : DS) (n : Int) (w : World) (h : Dk w p nb mb s) : Calls Try.prog 36 #[.pointer (some ⟨p, 0, none⟩), .int .i64 n] w fun e w' => e = .returned (.int .i64 (reachE s n)) ∧ w' = w := by
  have HR : Hid (Calls Try.prog 40 #[.pointer (some ⟨p, 0, none⟩)] w fun e w' => e = .returned (.int .i64 (readyE s)) ∧ w' = w) := ready_any p nb mb s w h
  obtain ⟨_, cap, set, after, done, flat, d1, _⟩ := h
  obtain ⟨c0, c1, c2, c3, c4, c5, c6, c7, f0, f1, f2, f3, f4, f5, f6, f7⟩ := d1.cells
  clear d1
  unfold reachE
  unfold readyE at HR
  cases hd : s.down
  · rw [hd] at HR
    simp only [Bool.false_eq_true, if_false] at HR ⊢
    by_cases h1 : n < 0
    · have hb1 : decide (n < 0) = true := by simpa using h1
      rw [if_pos (Or.inl h1)]
      go_enter Try.func36, Try.ntmps36
      go_wp2_with (go_at_call 40; refine HR.out.mono ?_; rintro e w' ⟨rfl, hw⟩; obtain rfl := hw.symm)
      go_ret
      exact ⟨rfl, rfl⟩
    · have hb1 : decide (n < 0) = false := by simpa using h1
      by_cases h2 : (s.room : Int) ≤ n
      · have hb2 : decide ((s.room : Int) ≤ n) = true := by simpa using h2
        rw [if_pos (Or.inr h2)]
        go_enter Try.func36, Try.ntmps36
        go_wp2_with (go_at_call 40; refine HR.out.mono ?_; rintro e w' ⟨rfl, hw⟩; obtain rfl := hw.symm)
        go_ret
        exact ⟨rfl, rfl⟩
      · have hb2 : decide ((s.room : Int) ≤ n) = false := by simpa using h2
        rw [if_neg (by rintro (h | h); exact h1 h; exact h2 h)]
        go_enter Try.func36, Try.ntmps36
        go_wp2_with (go_at_call 40; refine HR.out.mono ?_; rintro e w' ⟨rfl, hw⟩; obtain rfl := hw.symm)
        go_ret
        exact ⟨rfl, rfl⟩
  · rw [hd] at HR
    simp only [if_true] at HR ⊢
    go_enter Try.func36, Try.ntmps36
    go_wp2_with (go_at_call 40; refine HR.out.mono ?_; rintro e w' ⟨rfl, hw⟩; obtain rfl := hw.symm)
    go_ret
    exact ⟨rfl, rfl⟩

theorem int_perm {l : List Nat} {ss : List Int} (h : ss.Perm (l.map Int.ofNat)) (hs : l.Pairwise (· < ·)) : ss.mergeSort (fun x y => decide (x ≤ y)) = l.map Int.ofNat := by
  show ss.mergeSort leI = _
  rw [mergeSort_of_perm_i h]
  refine List.mergeSort_of_pairwise ?_
  refine List.pairwise_map.2 (hs.imp ?_)
  intro a b hab
  simp only [leI, decide_eq_true_eq]
  exact Int.ofNat_le.2 (Nat.le_of_lt hab)
/-- v is a new slice of these numbers. -/
def OwnN (w : World) (base : Nat) (v : Value) (l : List Nat) : Prop := w.ownsRow base 3 1 v l.length (l.map fun n : Nat => Value.int .i64 (n : Int))
set_option maxHeartbeats 1000000 in
theorem loose_any (p nb mb : Nat) (s : DS) (w : World) (h : Dk w p nb mb s) : Calls Try.prog 23 #[.pointer (some ⟨p, 0, none⟩)] w fun e w' => ∃ v, e = .returned v ∧ OwnN w' w.heap.size v (loose s) ∧ Below w.heap.size w w' := by
  obtain ⟨ok, cap, set, after, done, flat, d1, _, _, _, ⟨D, hown, hperm, _⟩, _⟩ := h
  have hsz := Mp.size_le hown hperm
  have hroom := ok.room
  have hbl := hown.lt
  obtain ⟨c0, c1, c2, c3, c4, c5, c6, c7, f0, f1, f2, f3, f4, f5, f6, f7⟩ := d1.cells
  clear d1
  refine (callsIn_wide (n := 6)).1 ?_
  have hseq : SeqGives Fence.wide 2 Try.prog 52 #[.pointer (some ⟨w.heap.size, 0, none⟩)] encZ (fun ss => ss.Perm (intKeys D)) (Maps.size D) (w.alloc (.cells #[.map (some mb)] 56)) :=
    AnyZI.keys_gives (ρ := keysA_ren) { keysA with } Fence.wide _ trivial rfl (by omega) w.heap.size mb (Maps.size D) D _ (by simp) (by simp) (by
      obtain ⟨es, clock, hb, Ft, hs, hD⟩ := hown
      exact ⟨es, clock, (Below.heap_alloc _ _ mb hbl).trans hb, Ft, hs, hD⟩)
  have cK : ∀ mb W, CallsIn Fence.wide 5 Try.prog 42 #[.map mb] W fun e w' => e = .returned (.func (.func 52) #[] #[.pointer (some ⟨W.heap.size, 0, none⟩)]) ∧ w' = W.alloc (.cells #[.map mb] 56) := fun mb W => AnyZI.keys_in keysA Fence.wide 5 trivial rfl mb W
  have cS := AnyZI.sorted_in sortedA Fence.wide 5 trivial trivial trivial trivial rfl (by omega) (sorts1 _) (enters_of Try.func51 (by kernel_rfl) rfl) 52 #[.pointer (some ⟨w.heap.size, 0, none⟩)] trivial (enters_of Try.func52 (by kernel_rfl) rfl) _ _ (by unfold maxLen; omega) (by omega) _ hseq
  change CallsIn _ _ Try.prog 41 _ _ _ at cS
  have hfK : Fence.wide.fn 42 := trivial
  have hfS : Fence.wide.fn 41 := trivial
  refine callsIn_of_wp Try.func23 rfl trivial ?_ rfl
  simp only [Try.ntmps23, List.size_toArray, List.length_cons, List.length_nil, Nat.reduceAdd, Nat.reduceSub, Array.replicate_succ, Array.replicate_zero, List.push_toArray, List.append_toArray, List.nil_append, List.cons_append]
  gi_wp2_with (first
    | (gi_at_call 42; refine (cK _ _).mono ?_; rintro e w' ⟨rfl, rfl⟩)
    | (gi_at_call 41; refine cS.mono ?_; rintro e w' ⟨v, ss, rfl, hS, hrow, hnil, hb⟩))
  go_ret
  refine ⟨v, rfl, ?_, ((Below.refl _ w).alloc (Nat.le_refl _) _).trans (hb.mono (by simp))⟩
  have hp := hS.trans hperm
  rw [int_perm hp (List.Pairwise.filter _ List.pairwise_lt_range), hp.length_eq, List.length_map, List.map_map] at hrow
  exact ownsRow_base_a hrow (by simp)
end Go.Proofs.Ytmapjikbplindaa
