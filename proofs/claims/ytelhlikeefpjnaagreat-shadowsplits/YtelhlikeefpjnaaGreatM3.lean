import Derived.Test.YtelhlikeefpjnaaGreatM2
import Derived.Shelf.SlIterI.Nil
import Derived.Shelf.SortM.Plain
import Derived.Shelf.SortM.SortNone
import Derived.Shelf.SlMaps.Clone
import Derived.Deep.QuietTactic
import Derived.BigQuiet
namespace Go.Proofs.YtelhlikeefpjnaaGreat.D
set_option maxRecDepth 20000
open Go.RowKit Go.Maps Go.Sort Go.Shelf
def keysA_ren : Go.Shelf.Ren := ⟨fun | 7 => 82 | 10 => 145 | n => n, fun | 23 => 78 | 26 => 3 | 3 => 85 | 28 => 123 | 0 => 0 | 27 => 122 | 33 => 174 | 4 => 4 | n => n, fun | n => n⟩
theorem keysA : Go.Proofs.SlLaysZI.n7 Tryz.prog keysA_ren := {
  mixed := by kernel_rfl,
  f7 := ⟨Tryz.f82.name, by decide, Tryz.func82.trans (congrArg some (by kernel_rfl))⟩,
  f10 := ⟨Tryz.f145.name, by decide, Tryz.func145.trans (congrArg some (by kernel_rfl))⟩,
  t0 := Tryz.underlying0,
  a0 := Tryz.isAgg0,
  z0 := Tryz.sizeOf0,
  v0 := Tryz.zeroValue0,
  t4 := Tryz.underlying4,
  a4 := Tryz.isAgg4,
  z4 := Tryz.sizeOf4,
  v4 := Tryz.zeroValue4,
  t23 := Tryz.underlying78,
  a23 := Tryz.isAgg78,
  z23 := Tryz.sizeOf78,
  v23 := Tryz.zeroValue78,
  t26 := Tryz.underlying3,
  a26 := Tryz.isAgg3,
  z26 := Tryz.sizeOf3,
  v26 := Tryz.zeroValue3,
  t27 := Tryz.underlying122,
  a27 := Tryz.isAgg122,
  z27 := Tryz.sizeOf122,
  v27 := Tryz.zeroValue122,
  t28 := Tryz.underlying123,
  a28 := Tryz.isAgg123,
  z28 := Tryz.sizeOf123,
  v28 := Tryz.zeroValue123,
  t33 := Tryz.underlying174,
  a33 := Tryz.isAgg174,
  z33 := Tryz.sizeOf174,
  v33 := Tryz.zeroValue174 }
def sortedA_ren : Go.Shelf.Ren := ⟨fun | 6 => 81 | 8 => 143 | 9 => 144 | 11 => 185 | 13 => 187 | 12 => 186 | 23 => 216 | 24 => 217 | 14 => 207 | 15 => 208 | 16 => 209 | 17 => 210 | 18 => 211 | 19 => 212 | 20 => 213 | 21 => 214 | 22 => 215 | 25 => 223 | 26 => 224 | 27 => 225 | 28 => 226 | 29 => 227 | 30 => 228 | 31 => 229 | n => n, fun | 26 => 3 | 28 => 123 | 24 => 40 | 0 => 0 | 3 => 3 | 37 => 65 | 48 => 210 | 50 => 240 | 4 => 4 | 40 => 232 | 39 => 231 | 45 => 201 | 5 => 5 | 9 => 9 | 51 => 245 | 55 => 249 | 57 => 251 | 58 => 189 | 33 => 174 | n => n, fun | n => n⟩
theorem sortedA : Go.Proofs.SlLaysZI.n6 Tryz.prog sortedA_ren := {
  mixed := by kernel_rfl,
  f6 := ⟨Tryz.f81.name, by decide, Tryz.func81.trans (congrArg some (by kernel_rfl))⟩,
  f8 := ⟨Tryz.f143.name, by decide, Tryz.func143.trans (congrArg some (by kernel_rfl))⟩,
  f11 := ⟨Tryz.f185.name, by decide, Tryz.func185.trans (congrArg some (by kernel_rfl))⟩,
  t0 := Tryz.underlying0,
  a0 := Tryz.isAgg0,
  z0 := Tryz.sizeOf0,
  v0 := Tryz.zeroValue0,
  t24 := Tryz.underlying40,
  a24 := Tryz.isAgg40,
  z24 := Tryz.sizeOf40,
  v24 := Tryz.zeroValue40,
  t26 := Tryz.underlying3,
  a26 := Tryz.isAgg3,
  z26 := Tryz.sizeOf3,
  v26 := Tryz.zeroValue3,
  t28 := Tryz.underlying123,
  a28 := Tryz.isAgg123,
  z28 := Tryz.sizeOf123,
  v28 := Tryz.zeroValue123,
  i26 := by kernel_rfl }
def sortA_ren : Go.Shelf.Ren := ⟨fun | 5 => 144 | 8 => 187 | 7 => 186 | 19 => 216 | 20 => 217 | 10 => 207 | 11 => 208 | 12 => 209 | 13 => 210 | 14 => 211 | 15 => 212 | 16 => 213 | 17 => 214 | 18 => 215 | 30 => 223 | 31 => 224 | 32 => 225 | 33 => 226 | 34 => 227 | 35 => 228 | 40 => 229 | n => n, fun | 23 => 40 | 25 => 3 | 3 => 3 | 32 => 65 | 22 => 40 | 0 => 0 | 44 => 210 | 46 => 240 | 4 => 4 | 36 => 232 | 35 => 231 | 41 => 201 | 5 => 5 | 9 => 9 | 53 => 245 | 57 => 249 | 63 => 251 | 64 => 189 | n => n, fun | n => n⟩
theorem sortA : Go.Proofs.SlLaysM.n5 Tryz.prog sortA_ren := {
  mixed := by kernel_rfl,
  f5 := ⟨Tryz.f144.name, by decide, Tryz.func144.trans (congrArg some (by kernel_rfl))⟩,
  f7 := ⟨Tryz.f186.name, by decide, Tryz.func186.trans (congrArg some (by kernel_rfl))⟩,
  f8 := Tryz.func187.trans (congrArg some (by kernel_rfl)),
  f10 := ⟨Tryz.f207.name, by decide, Tryz.func207.trans (congrArg some (by kernel_rfl))⟩,
  f11 := ⟨Tryz.f208.name, by decide, Tryz.func208.trans (congrArg some (by kernel_rfl))⟩,
  f12 := ⟨Tryz.f209.name, by decide, Tryz.func209.trans (congrArg some (by kernel_rfl))⟩,
  f13 := ⟨Tryz.f210.name, by decide, Tryz.func210.trans (congrArg some (by kernel_rfl))⟩,
  f14 := ⟨Tryz.f211.name, by decide, Tryz.func211.trans (congrArg some (by kernel_rfl))⟩,
  f15 := ⟨Tryz.f212.name, by decide, Tryz.func212.trans (congrArg some (by kernel_rfl))⟩,
  f16 := ⟨Tryz.f213.name, by decide, Tryz.func213.trans (congrArg some (by kernel_rfl))⟩,
  f17 := ⟨Tryz.f214.name, by decide, Tryz.func214.trans (congrArg some (by kernel_rfl))⟩,
  f18 := ⟨Tryz.f215.name, by decide, Tryz.func215.trans (congrArg some (by kernel_rfl))⟩,
  f19 := Tryz.func216.trans (congrArg some (by kernel_rfl)),
  f20 := Tryz.func217.trans (congrArg some (by kernel_rfl)),
  f30 := ⟨Tryz.f223.name, by decide, Tryz.func223.trans (congrArg some (by kernel_rfl))⟩,
  f31 := Tryz.func224.trans (congrArg some (by kernel_rfl)),
  f32 := Tryz.func225.trans (congrArg some (by kernel_rfl)),
  f33 := ⟨Tryz.f226.name, by decide, Tryz.func226.trans (congrArg some (by kernel_rfl))⟩,
  f34 := ⟨Tryz.f227.name, by decide, Tryz.func227.trans (congrArg some (by kernel_rfl))⟩,
  f35 := ⟨Tryz.f228.name, by decide, Tryz.func228.trans (congrArg some (by kernel_rfl))⟩,
  f40 := ⟨Tryz.f229.name, by decide, Tryz.func229.trans (congrArg some (by kernel_rfl))⟩,
  t0 := Tryz.underlying0,
  a0 := Tryz.isAgg0,
  z0 := Tryz.sizeOf0,
  v0 := Tryz.zeroValue0,
  t3 := Tryz.underlying3,
  a3 := Tryz.isAgg3,
  z3 := Tryz.sizeOf3,
  v3 := Tryz.zeroValue3,
  t4 := Tryz.underlying4,
  a4 := Tryz.isAgg4,
  z4 := Tryz.sizeOf4,
  v4 := Tryz.zeroValue4,
  t5 := Tryz.underlying5,
  a5 := Tryz.isAgg5,
  z5 := Tryz.sizeOf5,
  v5 := Tryz.zeroValue5,
  t9 := Tryz.underlying9,
  a9 := Tryz.isAgg9,
  z9 := Tryz.sizeOf9,
  v9 := Tryz.zeroValue9,
  t22 := Tryz.underlying40,
  a22 := Tryz.isAgg40,
  z22 := Tryz.sizeOf40,
  v22 := Tryz.zeroValue40,
  t23 := Tryz.underlying40,
  a23 := Tryz.isAgg40,
  z23 := Tryz.sizeOf40,
  v23 := Tryz.zeroValue40,
  t25 := Tryz.underlying3,
  a25 := Tryz.isAgg3,
  z25 := Tryz.sizeOf3,
  v25 := Tryz.zeroValue3,
  t32 := Tryz.underlying65,
  a32 := Tryz.isAgg65,
  z32 := Tryz.sizeOf65,
  v32 := Tryz.zeroValue65,
  t35 := Tryz.underlying231,
  a35 := Tryz.isAgg231,
  z35 := Tryz.sizeOf231,
  v35 := Tryz.zeroValue231,
  t36 := Tryz.underlying232,
  a36 := Tryz.isAgg232,
  z36 := Tryz.sizeOf232,
  v36 := Tryz.zeroValue232,
  t41 := Tryz.underlying201,
  a41 := Tryz.isAgg201,
  z41 := Tryz.sizeOf201,
  v41 := Tryz.zeroValue201,
  t44 := Tryz.underlying210,
  a44 := Tryz.isAgg210,
  z44 := Tryz.sizeOf210,
  v44 := Tryz.zeroValue210,
  t46 := Tryz.underlying240,
  a46 := Tryz.isAgg240,
  z46 := Tryz.sizeOf240,
  v46 := Tryz.zeroValue240,
  t53 := Tryz.underlying245,
  a53 := Tryz.isAgg245,
  z53 := Tryz.sizeOf245,
  v53 := Tryz.zeroValue245,
  t57 := Tryz.underlying249,
  a57 := Tryz.isAgg249,
  z57 := Tryz.sizeOf249,
  v57 := Tryz.zeroValue249,
  t63 := Tryz.underlying251,
  a63 := Tryz.isAgg251,
  z63 := Tryz.sizeOf251,
  v63 := Tryz.zeroValue251,
  t64 := Tryz.underlying189,
  a64 := Tryz.isAgg189,
  z64 := Tryz.sizeOf189,
  v64 := Tryz.zeroValue189 }
theorem sorts1 (m : Nat) : AnyZI.SortsIn Tryz.prog sortedA_ren Fence.wide m :=
  ⟨fun blk off cap ss W hH hblk hsz => callsIn_wide.2 (AnyM.slices_Sort_int sortA blk off cap ss W hH hblk hsz),
   fun p cap W => callsIn_wide.2 (AnyM.slices_Sort_int_none sortA p cap W)⟩
end Go.Proofs.YtelhlikeefpjnaaGreat.D
namespace Go.Proofs.YtelhlikeefpjnaaGreat.D
set_option maxRecDepth 20000
open Go.RowKit Go.Maps Go.Sort Go.Shelf
def DkB (w : World) (p : Nat) (c0 c1 c2 c3 c4 c5 c6 c7 : Value) : Prop := w.heap[p]? = some (.cells #[c0, c1, c2, c3, c4, c5, c6, c7] 82 (0, 0))

structure DkC (w : World) (p : Nat) (c0 c1 c2 c3 c4 c5 c6 c7 : Value) : Prop where
  c0 : w.cell? ⟨p, 0, none⟩ = some c0
  c1 : w.cell? ⟨p, 1, none⟩ = some c1
  c2 : w.cell? ⟨p, 2, none⟩ = some c2
  c3 : w.cell? ⟨p, 3, none⟩ = some c3
  c4 : w.cell? ⟨p, 4, none⟩ = some c4
  c5 : w.cell? ⟨p, 5, none⟩ = some c5
  c6 : w.cell? ⟨p, 6, none⟩ = some c6
  c7 : w.cell? ⟨p, 7, none⟩ = some c7
  f0 : w.frozen? ⟨p, 0, none⟩ = false
  f1 : w.frozen? ⟨p, 1, none⟩ = false
  f2 : w.frozen? ⟨p, 2, none⟩ = false
  f3 : w.frozen? ⟨p, 3, none⟩ = false
  f4 : w.frozen? ⟨p, 4, none⟩ = false
  f5 : w.frozen? ⟨p, 5, none⟩ = false
  f6 : w.frozen? ⟨p, 6, none⟩ = false
  f7 : w.frozen? ⟨p, 7, none⟩ = false
theorem DkB.cells {w : World} {p : Nat} {c0 c1 c2 c3 c4 c5 c6 c7 : Value} (h : DkB w p c0 c1 c2 c3 c4 c5 c6 c7) : DkC w p c0 c1 c2 c3 c4 c5 c6 c7 := by
  refine ⟨?_, ?_, ?_, ?_, ?_, ?_, ?_, ?_, ?_, ?_, ?_, ?_, ?_, ?_, ?_, ?_⟩ <;> first
    | (rw [cell_of_row _ _ _ _ _ _ h]; rfl)
    | exact frozen_of_row _ _ _ _ _ h
theorem DkB.lt {w : World} {p : Nat} {c0 c1 c2 c3 c4 c5 c6 c7 : Value} (h : DkB w p c0 c1 c2 c3 c4 c5 c6 c7) : p < w.heap.size := (Array.getElem?_eq_some_iff.1 h).1

def Rows256 (flat : Array Value) (room : Nat) (B : Nat → List Int) : Prop := room * 256 ≤ flat.size ∧ ∀ n, n < room → ∀ i, i < 256 → flat[n * 256 + i]? = some (.int .u8 ((B n).getD i 0))

def Waits (s : DS) (set : Bool) (after : Int) (done : Bool) : Prop := (s.fails = -1 ∧ set = false) ∨ (0 ≤ s.fails ∧ set = true ∧ after = s.fails ∧ done = s.done)

def Dk (w : World) (p nb mb : Nat) (s : DS) : Prop :=
  s.Ok ∧ ∃ cap set after done flat,
    DkB w p (.slice (some ⟨nb, 0, none⟩) s.room cap) (.map (some mb)) (.bool s.down) (.bool set) (.int .i64 after) (.bool done) (.int .i64 s.ops) (.int .i64 s.reads) ∧
    w.heap[nb]? = some (.cells flat 85 (0, 0)) ∧ s.room ≤ cap ∧ Rows256 flat s.room s.B ∧ Mp w mb s.room s.L s.S ∧ Waits s set after done

theorem Dk.ne {w : World} {p nb mb : Nat} {s : DS} (h : Dk w p nb mb s) : p ≠ nb ∧ p ≠ mb ∧ nb ≠ mb ∧ p < w.heap.size ∧ nb < w.heap.size ∧ mb < w.heap.size := by
  obtain ⟨_, cap, set, after, done, flat, h1, h2, _, _, h3, _⟩ := h
  have h3' := h3.lt
  obtain ⟨D, ⟨es, clock, hb, _⟩, _⟩ := h3
  refine ⟨?_, ?_, ?_, h1.lt, (Array.getElem?_eq_some_iff.1 h2).1, h3'⟩
  · rintro rfl; unfold DkB at h1; rw [h1] at h2; simp at h2
  · rintro rfl; unfold DkB at h1; rw [h1] at hb; simp at hb
  · rintro rfl; rw [h2] at hb; simp at hb
theorem Dk.off {w w' : World} {p nb mb : Nat} {s : DS} {X : List Nat} (h : Dk w p nb mb s) (ho : Off X w w') (h1 : p ∉ X) (h2 : nb ∉ X) (h3 : mb ∉ X) : Dk w' p nb mb s := by
  have hn := h.ne
  obtain ⟨ok, cap, set, after, done, flat, d1, d2, d3, d4, d5, d6⟩ := h
  exact ⟨ok, cap, set, after, done, flat, (ho.block p hn.2.2.2.1 h1).trans d1, (ho.block nb hn.2.2.2.2.1 h2).trans d2, d3, d4, d5.off ho h3, d6⟩
theorem Dk.below {w w' : World} {p nb mb : Nat} {s : DS} (h : Dk w p nb mb s) (hb : Below w.heap.size w w') : Dk w' p nb mb s := h.off (Off.of_below (X := []) hb) (by simp) (by simp) (by simp)

set_option maxHeartbeats 400000 in
theorem down_any (p nb mb : Nat) (s : DS) (w : World) (h : Dk w p nb mb s) : Calls Tryz.prog 34 #[.pointer (some ⟨p, 0, none⟩)] w fun e w' => e = .returned (.bool s.down) ∧ w' = w := by
  obtain ⟨_, cap, set, after, done, flat, d1, _⟩ := h
  obtain ⟨c0, c1, c2, c3, c4, c5, c6, c7, f0, f1, f2, f3, f4, f5, f6, f7⟩ := d1.cells
  clear d1
  go_enter Tryz.func34, Tryz.ntmps34
  go_wp2
  go_ret
  exact ⟨rfl, rfl⟩
set_option maxHeartbeats 400000 in
theorem blocks_any (p nb mb : Nat) (s : DS) (w : World) (h : Dk w p nb mb s) : Calls Tryz.prog 108 #[.pointer (some ⟨p, 0, none⟩)] w fun e w' => e = .returned (.int .i64 s.room) ∧ w' = w := by
  obtain ⟨_, cap, set, after, done, flat, d1, _⟩ := h
  obtain ⟨c0, c1, c2, c3, c4, c5, c6, c7, f0, f1, f2, f3, f4, f5, f6, f7⟩ := d1.cells
  clear d1
  go_enter Tryz.func108, Tryz.ntmps108
  go_wp2
  go_ret
  exact ⟨rfl, rfl⟩
set_option maxHeartbeats 400000 in
theorem ops_any (p nb mb : Nat) (s : DS) (w : World) (h : Dk w p nb mb s) : Calls Tryz.prog 35 #[.pointer (some ⟨p, 0, none⟩)] w fun e w' => e = .returned (.int .i64 s.ops) ∧ w' = w := by
  obtain ⟨_, cap, set, after, done, flat, d1, _⟩ := h
  obtain ⟨c0, c1, c2, c3, c4, c5, c6, c7, f0, f1, f2, f3, f4, f5, f6, f7⟩ := d1.cells
  clear d1
  go_enter Tryz.func35, Tryz.ntmps35
  go_wp2
  go_ret
  exact ⟨rfl, rfl⟩
set_option maxHeartbeats 400000 in
theorem reads_any (p nb mb : Nat) (s : DS) (w : World) (h : Dk w p nb mb s) : Calls Tryz.prog 36 #[.pointer (some ⟨p, 0, none⟩)] w fun e w' => e = .returned (.int .i64 s.reads) ∧ w' = w := by
  obtain ⟨_, cap, set, after, done, flat, d1, _⟩ := h
  obtain ⟨c0, c1, c2, c3, c4, c5, c6, c7, f0, f1, f2, f3, f4, f5, f6, f7⟩ := d1.cells
  clear d1
  go_enter Tryz.func36, Tryz.ntmps36
  go_wp2
  go_ret
  exact ⟨rfl, rfl⟩
set_option maxHeartbeats 400000 in
theorem ready_any (p nb mb : Nat) (s : DS) (w : World) (h : Dk w p nb mb s) : Calls Tryz.prog 69 #[.pointer (some ⟨p, 0, none⟩)] w fun e w' => e = .returned (.int .i64 (readyE s)) ∧ w' = w := by
  obtain ⟨_, cap, set, after, done, flat, d1, _⟩ := h
  obtain ⟨c0, c1, c2, c3, c4, c5, c6, c7, f0, f1, f2, f3, f4, f5, f6, f7⟩ := d1.cells
  clear d1
  unfold readyE
  cases hd : s.down
  · rw [hd] at c2
    go_enter Tryz.func69, Tryz.ntmps69
    go_wp2
    go_ret
    exact ⟨rfl, rfl⟩
  · rw [hd] at c2
    go_enter Tryz.func69, Tryz.ntmps69
    go_wp2
    go_ret
    exact ⟨rfl, rfl⟩
set_option maxHeartbeats 400000 in
theorem reach_any (p nb mb : Nat) (s : DS) (n : Int) (w : World) (h : Dk w p nb mb s) : Calls Tryz.prog 150 #[.pointer (some ⟨p, 0, none⟩), .int .i64 n] w fun e w' => e = .returned (.int .i64 (reachE s n)) ∧ w' = w := by
  have HR : Hid (Calls Tryz.prog 69 #[.pointer (some ⟨p, 0, none⟩)] w fun e w' => e = .returned (.int .i64 (readyE s)) ∧ w' = w) := ready_any p nb mb s w h
  obtain ⟨_, cap, set, after, done, flat, d1, _⟩ := h
  obtain ⟨c0, c1, c2, c3, c4, c5, c6, c7, f0, f1, f2, f3, f4, f5, f6, f7⟩ := d1.cells
  clear d1
  unfold reachE
  unfold readyE at HR
  cases hd : s.down
  · rw [hd] at HR
    simp only [Bool.false_eq_true, if_false] at HR ⊢
    by_cases h1 : n < 0
    · have hb1 : decide (n < 0) = true := by simpa using h1
      rw [if_pos (Or.inl h1)]
      go_enter Tryz.func150, Tryz.ntmps150
      go_wp2_with (go_at_call 69; refine HR.out.mono ?_; rintro e w' ⟨rfl, hw⟩; obtain rfl := hw.symm)
      go_ret
      exact ⟨rfl, rfl⟩
    · have hb1 : decide (n < 0) = false := by simpa using h1
      by_cases h2 : (s.room : Int) ≤ n
      · have hb2 : decide ((s.room : Int) ≤ n) = true := by simpa using h2
        rw [if_pos (Or.inr h2)]
        go_enter Tryz.func150, Tryz.ntmps150
        go_wp2_with (go_at_call 69; refine HR.out.mono ?_; rintro e w' ⟨rfl, hw⟩; obtain rfl := hw.symm)
        go_ret
        exact ⟨rfl, rfl⟩
      · have hb2 : decide ((s.room : Int) ≤ n) = false := by simpa using h2
        rw [if_neg (by rintro (h | h); exact h1 h; exact h2 h)]
        go_enter Tryz.func150, Tryz.ntmps150
        go_wp2_with (go_at_call 69; refine HR.out.mono ?_; rintro e w' ⟨rfl, hw⟩; obtain rfl := hw.symm)
        go_ret
        exact ⟨rfl, rfl⟩
  · rw [hd] at HR
    simp only [if_true] at HR ⊢
    go_enter Tryz.func150, Tryz.ntmps150
    go_wp2_with (go_at_call 69; refine HR.out.mono ?_; rintro e w' ⟨rfl, hw⟩; obtain rfl := hw.symm)
    go_ret
    exact ⟨rfl, rfl⟩

theorem int_perm {l : List Nat} {ss : List Int} (h : ss.Perm (l.map Int.ofNat)) (hs : l.Pairwise (· < ·)) : ss.mergeSort (fun x y => decide (x ≤ y)) = l.map Int.ofNat := by
  show ss.mergeSort leI = _
  rw [mergeSort_of_perm_i h]
  refine List.mergeSort_of_pairwise ?_
  refine List.pairwise_map.2 (hs.imp ?_)
  intro a b hab
  simp only [leI, decide_eq_true_eq]
  exact Int.ofNat_le.2 (Nat.le_of_lt hab)
def OwnN (w : World) (base : Nat) (v : Value) (l : List Nat) : Prop := w.ownsRow base 3 1 v l.length (l.map fun n : Nat => Value.int .i64 (n : Int))
set_option maxHeartbeats 1000000 in
theorem loose_any (p nb mb : Nat) (s : DS) (w : World) (h : Dk w p nb mb s) : Calls Tryz.prog 39 #[.pointer (some ⟨p, 0, none⟩)] w fun e w' => ∃ v, e = .returned v ∧ OwnN w' w.heap.size v (loose s) ∧ Below w.heap.size w w' := by
  obtain ⟨ok, cap, set, after, done, flat, d1, _, _, _, ⟨D, hown, hperm, _⟩, _⟩ := h
  have hsz := Mp.size_le hown hperm
  have hroom := ok.room
  have hbl := hown.lt
  obtain ⟨c0, c1, c2, c3, c4, c5, c6, c7, f0, f1, f2, f3, f4, f5, f6, f7⟩ := d1.cells
  clear d1
  refine (callsIn_wide (n := 6)).1 ?_
  have hseq : SeqGives Fence.wide 2 Tryz.prog 145 #[.pointer (some ⟨w.heap.size, 0, none⟩)] encZ (fun ss => ss.Perm (intKeys D)) (Maps.size D) (w.alloc (.cells #[.map (some mb)] 78)) :=
    AnyZI.keys_gives (ρ := keysA_ren) { keysA with } Fence.wide _ trivial rfl (by omega) w.heap.size mb (Maps.size D) D _ (by simp) (by simp) (by
      obtain ⟨es, clock, hb, Ft, hs, hD⟩ := hown
      exact ⟨es, clock, (Below.heap_alloc _ _ mb hbl).trans hb, Ft, hs, hD⟩)
  have cK : ∀ mb W, CallsIn Fence.wide 5 Tryz.prog 82 #[.map mb] W fun e w' => e = .returned (.func (.func 145) #[] #[.pointer (some ⟨W.heap.size, 0, none⟩)]) ∧ w' = W.alloc (.cells #[.map mb] 78) := fun mb W => AnyZI.keys_in keysA Fence.wide 5 trivial rfl mb W
  have cS := AnyZI.sorted_in sortedA Fence.wide 5 trivial trivial trivial trivial rfl (by omega) (sorts1 _) (enters_of Tryz.func144 (by kernel_rfl) rfl) 145 #[.pointer (some ⟨w.heap.size, 0, none⟩)] trivial (enters_of Tryz.func145 (by kernel_rfl) rfl) _ _ (by unfold maxLen; omega) (by omega) _ hseq
  change CallsIn _ _ Tryz.prog 81 _ _ _ at cS
  have hfK : Fence.wide.fn 82 := trivial
  have hfS : Fence.wide.fn 81 := trivial
  refine callsIn_of_wp Tryz.func39 rfl trivial ?_ rfl
  simp only [Tryz.ntmps39, List.size_toArray, List.length_cons, List.length_nil, Nat.reduceAdd, Nat.reduceSub, Array.replicate_succ, Array.replicate_zero, List.push_toArray, List.append_toArray, List.nil_append, List.cons_append]
  gi_wp2_with (first
    | (gi_at_call 82; refine (cK _ _).mono ?_; rintro e w' ⟨rfl, rfl⟩)
    | (gi_at_call 81; refine cS.mono ?_; rintro e w' ⟨v, ss, rfl, hS, hrow, hnil, hb⟩))
  go_ret
  refine ⟨v, rfl, ?_, ((Below.refl _ w).alloc (Nat.le_refl _) _).trans (hb.mono (by simp))⟩
  have hp := hS.trans hperm
  rw [int_perm hp (List.Pairwise.filter _ List.pairwise_lt_range), hp.length_eq, List.length_map, List.map_map] at hrow
  exact ownsRow_base_a hrow (by simp)
end Go.Proofs.YtelhlikeefpjnaaGreat.D
