import Derived.Test.YtbklnadlbcndlaaGreatM2
import Derived.Shelf.SlIterI.Nil
import Derived.Shelf.SortM.Plain
import Derived.Shelf.SortM.SortNone
import Derived.Shelf.SlMaps.Clone
import Derived.Deep.QuietTactic
import Derived.BigQuiet
namespace Go.Proofs.YtbklnadlbcndlaaGreat.D
set_option maxRecDepth 20000
open Go.RowKit Go.Maps Go.Sort Go.Shelf
def sortA_ren : Go.Shelf.Ren := ⟨fun | 5 => 64 | 8 => 132 | 7 => 131 | 19 => 192 | 20 => 193 | 10 => 183 | 11 => 184 | 12 => 185 | 13 => 186 | 14 => 187 | 15 => 188 | 16 => 189 | 17 => 190 | 18 => 191 | 30 => 220 | 31 => 221 | 32 => 222 | 33 => 223 | 34 => 224 | 35 => 225 | 40 => 236 | n => n, fun | 23 => 52 | 25 => 3 | 3 => 3 | 32 => 167 | 22 => 52 | 0 => 0 | 44 => 209 | 46 => 222 | 4 => 4 | 36 => 214 | 35 => 213 | 41 => 197 | 5 => 5 | 9 => 9 | 53 => 244 | 57 => 248 | 63 => 257 | 64 => 251 | n => n, fun | n => n⟩
theorem sortA : Go.Proofs.SlLaysM.n5 Tryz.prog sortA_ren := {
  mixed := by kernel_rfl,
  f5 := ⟨Tryz.f64.name, by decide, Tryz.func64.trans (congrArg some (by kernel_rfl))⟩,
  f7 := ⟨Tryz.f131.name, by decide, Tryz.func131.trans (congrArg some (by kernel_rfl))⟩,
  f8 := Tryz.func132.trans (congrArg some (by kernel_rfl)),
  f10 := ⟨Tryz.f183.name, by decide, Tryz.func183.trans (congrArg some (by kernel_rfl))⟩,
  f11 := ⟨Tryz.f184.name, by decide, Tryz.func184.trans (congrArg some (by kernel_rfl))⟩,
  f12 := ⟨Tryz.f185.name, by decide, Tryz.func185.trans (congrArg some (by kernel_rfl))⟩,
  f13 := ⟨Tryz.f186.name, by decide, Tryz.func186.trans (congrArg some (by kernel_rfl))⟩,
  f14 := ⟨Tryz.f187.name, by decide, Tryz.func187.trans (congrArg some (by kernel_rfl))⟩,
  f15 := ⟨Tryz.f188.name, by decide, Tryz.func188.trans (congrArg some (by kernel_rfl))⟩,
  f16 := ⟨Tryz.f189.name, by decide, Tryz.func189.trans (congrArg some (by kernel_rfl))⟩,
  f17 := ⟨Tryz.f190.name, by decide, Tryz.func190.trans (congrArg some (by kernel_rfl))⟩,
  f18 := ⟨Tryz.f191.name, by decide, Tryz.func191.trans (congrArg some (by kernel_rfl))⟩,
  f19 := Tryz.func192.trans (congrArg some (by kernel_rfl)),
  f20 := Tryz.func193.trans (congrArg some (by kernel_rfl)),
  f30 := ⟨Tryz.f220.name, by decide, Tryz.func220.trans (congrArg some (by kernel_rfl))⟩,
  f31 := Tryz.func221.trans (congrArg some (by kernel_rfl)),
  f32 := Tryz.func222.trans (congrArg some (by kernel_rfl)),
  f33 := ⟨Tryz.f223.name, by decide, Tryz.func223.trans (congrArg some (by kernel_rfl))⟩,
  f34 := ⟨Tryz.f224.name, by decide, Tryz.func224.trans (congrArg some (by kernel_rfl))⟩,
  f35 := ⟨Tryz.f225.name, by decide, Tryz.func225.trans (congrArg some (by kernel_rfl))⟩,
  f40 := ⟨Tryz.f236.name, by decide, Tryz.func236.trans (congrArg some (by kernel_rfl))⟩,
  t0 := Tryz.underlying0,
  a0 := Tryz.isAgg0,
  z0 := Tryz.sizeOf0,
  v0 := Tryz.zeroValue0,
  t3 := Tryz.underlying3,
  a3 := Tryz.isAgg3,
  z3 := Tryz.sizeOf3,
  v3 := Tryz.zeroValue3,
  t4 := Tryz.underlying4,
  a4 := Tryz.isAgg4,
  z4 := Tryz.sizeOf4,
  v4 := Tryz.zeroValue4,
  t5 := Tryz.underlying5,
  a5 := Tryz.isAgg5,
  z5 := Tryz.sizeOf5,
  v5 := Tryz.zeroValue5,
  t9 := Tryz.underlying9,
  a9 := Tryz.isAgg9,
  z9 := Tryz.sizeOf9,
  v9 := Tryz.zeroValue9,
  t22 := Tryz.underlying52,
  a22 := Tryz.isAgg52,
  z22 := Tryz.sizeOf52,
  v22 := Tryz.zeroValue52,
  t23 := Tryz.underlying52,
  a23 := Tryz.isAgg52,
  z23 := Tryz.sizeOf52,
  v23 := Tryz.zeroValue52,
  t25 := Tryz.underlying3,
  a25 := Tryz.isAgg3,
  z25 := Tryz.sizeOf3,
  v25 := Tryz.zeroValue3,
  t32 := Tryz.underlying167,
  a32 := Tryz.isAgg167,
  z32 := Tryz.sizeOf167,
  v32 := Tryz.zeroValue167,
  t35 := Tryz.underlying213,
  a35 := Tryz.isAgg213,
  z35 := Tryz.sizeOf213,
  v35 := Tryz.zeroValue213,
  t36 := Tryz.underlying214,
  a36 := Tryz.isAgg214,
  z36 := Tryz.sizeOf214,
  v36 := Tryz.zeroValue214,
  t41 := Tryz.underlying197,
  a41 := Tryz.isAgg197,
  z41 := Tryz.sizeOf197,
  v41 := Tryz.zeroValue197,
  t44 := Tryz.underlying209,
  a44 := Tryz.isAgg209,
  z44 := Tryz.sizeOf209,
  v44 := Tryz.zeroValue209,
  t46 := Tryz.underlying222,
  a46 := Tryz.isAgg222,
  z46 := Tryz.sizeOf222,
  v46 := Tryz.zeroValue222,
  t53 := Tryz.underlying244,
  a53 := Tryz.isAgg244,
  z53 := Tryz.sizeOf244,
  v53 := Tryz.zeroValue244,
  t57 := Tryz.underlying248,
  a57 := Tryz.isAgg248,
  z57 := Tryz.sizeOf248,
  v57 := Tryz.zeroValue248,
  t63 := Tryz.underlying257,
  a63 := Tryz.isAgg257,
  z63 := Tryz.sizeOf257,
  v63 := Tryz.zeroValue257,
  t64 := Tryz.underlying251,
  a64 := Tryz.isAgg251,
  z64 := Tryz.sizeOf251,
  v64 := Tryz.zeroValue251 }
end Go.Proofs.YtbklnadlbcndlaaGreat.D
namespace Go.Proofs.YtbklnadlbcndlaaGreat.D
set_option maxRecDepth 20000
open Go.RowKit Go.Maps Go.Sort Go.Shelf
def DkB (w : World) (p : Nat) (c0 c1 c2 c3 c4 c5 c6 c7 : Value) : Prop := w.heap[p]? = some (.cells #[c0, c1, c2, c3, c4, c5, c6, c7] 98 (0, 0))

structure DkC (w : World) (p : Nat) (c0 c1 c2 c3 c4 c5 c6 c7 : Value) : Prop where
  c0 : w.cell? ⟨p, 0, none⟩ = some c0
  c1 : w.cell? ⟨p, 1, none⟩ = some c1
  c2 : w.cell? ⟨p, 2, none⟩ = some c2
  c3 : w.cell? ⟨p, 3, none⟩ = some c3
  c4 : w.cell? ⟨p, 4, none⟩ = some c4
  c5 : w.cell? ⟨p, 5, none⟩ = some c5
  c6 : w.cell? ⟨p, 6, none⟩ = some c6
  c7 : w.cell? ⟨p, 7, none⟩ = some c7
  f0 : w.frozen? ⟨p, 0, none⟩ = false
  f1 : w.frozen? ⟨p, 1, none⟩ = false
  f2 : w.frozen? ⟨p, 2, none⟩ = false
  f3 : w.frozen? ⟨p, 3, none⟩ = false
  f4 : w.frozen? ⟨p, 4, none⟩ = false
  f5 : w.frozen? ⟨p, 5, none⟩ = false
  f6 : w.frozen? ⟨p, 6, none⟩ = false
  f7 : w.frozen? ⟨p, 7, none⟩ = false
theorem DkB.cells {w : World} {p : Nat} {c0 c1 c2 c3 c4 c5 c6 c7 : Value} (h : DkB w p c0 c1 c2 c3 c4 c5 c6 c7) : DkC w p c0 c1 c2 c3 c4 c5 c6 c7 := by
  refine ⟨?_, ?_, ?_, ?_, ?_, ?_, ?_, ?_, ?_, ?_, ?_, ?_, ?_, ?_, ?_, ?_⟩ <;> first
    | (rw [cell_of_row _ _ _ _ _ _ h]; rfl)
    | exact frozen_of_row _ _ _ _ _ h
theorem DkB.lt {w : World} {p : Nat} {c0 c1 c2 c3 c4 c5 c6 c7 : Value} (h : DkB w p c0 c1 c2 c3 c4 c5 c6 c7) : p < w.heap.size := (Array.getElem?_eq_some_iff.1 h).1

def Rows256 (flat : Array Value) (room : Nat) (B : Nat → List Int) : Prop := room * 256 ≤ flat.size ∧ ∀ n, n < room → ∀ i, i < 256 → flat[n * 256 + i]? = some (.int .u8 ((B n).getD i 0))

def Waits (s : DS) (set : Bool) (after : Int) (done : Bool) : Prop := (s.fails = -1 ∧ set = false) ∨ (0 ≤ s.fails ∧ set = true ∧ after = s.fails ∧ done = s.done)

def Dk (w : World) (p nb mb : Nat) (s : DS) : Prop :=
  s.Ok ∧ ∃ cap set after done flat,
    DkB w p (.slice (some ⟨nb, 0, none⟩) s.room cap) (.map (some mb)) (.bool s.down) (.bool set) (.int .i64 after) (.bool done) (.int .i64 s.ops) (.int .i64 s.reads) ∧
    w.heap[nb]? = some (.cells flat 182 (0, 0)) ∧ s.room ≤ cap ∧ Rows256 flat s.room s.B ∧ Mp w mb s.room s.L s.S ∧ Waits s set after done

theorem Dk.ne {w : World} {p nb mb : Nat} {s : DS} (h : Dk w p nb mb s) : p ≠ nb ∧ p ≠ mb ∧ nb ≠ mb ∧ p < w.heap.size ∧ nb < w.heap.size ∧ mb < w.heap.size := by
  obtain ⟨_, cap, set, after, done, flat, h1, h2, _, _, h3, _⟩ := h
  have h3' := h3.lt
  obtain ⟨D, ⟨es, clock, hb, _⟩, _⟩ := h3
  refine ⟨?_, ?_, ?_, h1.lt, (Array.getElem?_eq_some_iff.1 h2).1, h3'⟩
  · rintro rfl; unfold DkB at h1; rw [h1] at h2; simp at h2
  · rintro rfl; unfold DkB at h1; rw [h1] at hb; simp at hb
  · rintro rfl; rw [h2] at hb; simp at hb
theorem Dk.off {w w' : World} {p nb mb : Nat} {s : DS} {X : List Nat} (h : Dk w p nb mb s) (ho : Off X w w') (h1 : p ∉ X) (h2 : nb ∉ X) (h3 : mb ∉ X) : Dk w' p nb mb s := by
  have hn := h.ne
  obtain ⟨ok, cap, set, after, done, flat, d1, d2, d3, d4, d5, d6⟩ := h
  exact ⟨ok, cap, set, after, done, flat, (ho.block p hn.2.2.2.1 h1).trans d1, (ho.block nb hn.2.2.2.2.1 h2).trans d2, d3, d4, d5.off ho h3, d6⟩
theorem Dk.below {w w' : World} {p nb mb : Nat} {s : DS} (h : Dk w p nb mb s) (hb : Below w.heap.size w w') : Dk w' p nb mb s := h.off (Off.of_below (X := []) hb) (by simp) (by simp) (by simp)

set_option maxHeartbeats 400000 in
theorem blocks_any (p nb mb : Nat) (s : DS) (w : World) (h : Dk w p nb mb s) : Calls Tryz.prog 101 #[.pointer (some ⟨p, 0, none⟩)] w fun e w' => e = .returned (.int .i64 s.room) ∧ w' = w := by
  obtain ⟨_, cap, set, after, done, flat, d1, _⟩ := h
  obtain ⟨c0, c1, c2, c3, c4, c5, c6, c7, f0, f1, f2, f3, f4, f5, f6, f7⟩ := d1.cells
  clear d1
  go_enter Tryz.func101, Tryz.ntmps101
  go_wp2
  go_ret
  exact ⟨rfl, rfl⟩
set_option maxHeartbeats 400000 in
theorem ready_any (p nb mb : Nat) (s : DS) (w : World) (h : Dk w p nb mb s) : Calls Tryz.prog 145 #[.pointer (some ⟨p, 0, none⟩)] w fun e w' => e = .returned (.int .i64 (readyE s)) ∧ w' = w := by
  obtain ⟨_, cap, set, after, done, flat, d1, _⟩ := h
  obtain ⟨c0, c1, c2, c3, c4, c5, c6, c7, f0, f1, f2, f3, f4, f5, f6, f7⟩ := d1.cells
  clear d1
  unfold readyE
  cases hd : s.down
  · rw [hd] at c2
    go_enter Tryz.func145, Tryz.ntmps145
    go_wp2
    go_ret
    exact ⟨rfl, rfl⟩
  · rw [hd] at c2
    go_enter Tryz.func145, Tryz.ntmps145
    go_wp2
    go_ret
    exact ⟨rfl, rfl⟩
set_option maxHeartbeats 400000 in
theorem reach_any (p nb mb : Nat) (s : DS) (n : Int) (w : World) (h : Dk w p nb mb s) : Calls Tryz.prog 150 #[.pointer (some ⟨p, 0, none⟩), .int .i64 n] w fun e w' => e = .returned (.int .i64 (reachE s n)) ∧ w' = w := by
  have HR : Hid (Calls Tryz.prog 145 #[.pointer (some ⟨p, 0, none⟩)] w fun e w' => e = .returned (.int .i64 (readyE s)) ∧ w' = w) := ready_any p nb mb s w h
  obtain ⟨_, cap, set, after, done, flat, d1, _⟩ := h
  obtain ⟨c0, c1, c2, c3, c4, c5, c6, c7, f0, f1, f2, f3, f4, f5, f6, f7⟩ := d1.cells
  clear d1
  unfold reachE
  unfold readyE at HR
  cases hd : s.down
  · rw [hd] at HR
    simp only [Bool.false_eq_true, if_false] at HR ⊢
    by_cases h1 : n < 0
    · have hb1 : decide (n < 0) = true := by simpa using h1
      rw [if_pos (Or.inl h1)]
      go_enter Tryz.func150, Tryz.ntmps150
      go_wp2_with (go_at_call 145; refine HR.out.mono ?_; rintro e w' ⟨rfl, hw⟩; obtain rfl := hw.symm)
      go_ret
      exact ⟨rfl, rfl⟩
    · have hb1 : decide (n < 0) = false := by simpa using h1
      by_cases h2 : (s.room : Int) ≤ n
      · have hb2 : decide ((s.room : Int) ≤ n) = true := by simpa using h2
        rw [if_pos (Or.inr h2)]
        go_enter Tryz.func150, Tryz.ntmps150
        go_wp2_with (go_at_call 145; refine HR.out.mono ?_; rintro e w' ⟨rfl, hw⟩; obtain rfl := hw.symm)
        go_ret
        exact ⟨rfl, rfl⟩
      · have hb2 : decide ((s.room : Int) ≤ n) = false := by simpa using h2
        rw [if_neg (by rintro (h | h); exact h1 h; exact h2 h)]
        go_enter Tryz.func150, Tryz.ntmps150
        go_wp2_with (go_at_call 145; refine HR.out.mono ?_; rintro e w' ⟨rfl, hw⟩; obtain rfl := hw.symm)
        go_ret
        exact ⟨rfl, rfl⟩
  · rw [hd] at HR
    simp only [if_true] at HR ⊢
    go_enter Tryz.func150, Tryz.ntmps150
    go_wp2_with (go_at_call 145; refine HR.out.mono ?_; rintro e w' ⟨rfl, hw⟩; obtain rfl := hw.symm)
    go_ret
    exact ⟨rfl, rfl⟩

theorem int_perm {l : List Nat} {ss : List Int} (h : ss.Perm (l.map Int.ofNat)) (hs : l.Pairwise (· < ·)) : ss.mergeSort (fun x y => decide (x ≤ y)) = l.map Int.ofNat := by
  show ss.mergeSort leI = _
  rw [mergeSort_of_perm_i h]
  refine List.mergeSort_of_pairwise ?_
  refine List.pairwise_map.2 (hs.imp ?_)
  intro a b hab
  simp only [leI, decide_eq_true_eq]
  exact Int.ofNat_le.2 (Nat.le_of_lt hab)
def OwnN (w : World) (base : Nat) (v : Value) (l : List Nat) : Prop := w.ownsRow base 3 1 v l.length (l.map fun n : Nat => Value.int .i64 (n : Int))
end Go.Proofs.YtbklnadlbcndlaaGreat.D
