/- A reader that is not there; and a reader whose bytes lie from a block on: contracts of single calls. -/
import Derived.Test.YtfldbcolfdofaaaRefT
namespace Go.Proofs.Ytfldbcolfdofaaa
open Go.RowKit

set_option maxHeartbeats 400000 in
theorem nil_err (w : World) : Calls Try.prog 28 #[.pointer none] w fun e w' => e = .returned (.int .i64 1) ∧ w' = w := by
  go_enter Try.func28, Try.ntmps28
  go_wp2
  go_ret
  exact ⟨rfl, rfl⟩
set_option maxHeartbeats 400000 in
theorem nil_left (w : World) : Calls Try.prog 27 #[.pointer none] w fun e w' => e = .returned (.int .i64 0) ∧ w' = w := by
  go_enter Try.func27, Try.ntmps27
  go_wp2
  go_ret
  exact ⟨rfl, rfl⟩
set_option maxHeartbeats 400000 in
theorem nil_num (x : Int) (w : World) : Calls Try.prog 26 #[.pointer none, .int .i64 x] w fun e w' => e = .returned (.int .i64 0) ∧ w' = w := by
  go_enter Try.func26, Try.ntmps26
  go_wp2_with (go_at_call 28; refine (nil_err _).mono ?_; rintro e w' ⟨rfl, hw⟩; obtain rfl := hw.symm)
  go_ret
  exact ⟨rfl, rfl⟩
set_option maxHeartbeats 400000 in
theorem nil_signed (w : World) : Calls Try.prog 24 #[.pointer none] w fun e w' => e = .returned (.int .i64 0) ∧ w' = w := by
  go_enter Try.func24, Try.ntmps24
  go_wp2_with (go_at_call 28; refine (nil_err _).mono ?_; rintro e w' ⟨rfl, hw⟩; obtain rfl := hw.symm)
  go_ret
  exact ⟨rfl, rfl⟩
set_option maxHeartbeats 400000 in
theorem nil_text (w : World) : Calls Try.prog 22 #[.pointer none] w fun e w' => e = .returned (.string ⟨#[]⟩) ∧ w' = w := by
  go_enter Try.func22, Try.ntmps22
  go_wp2_with (go_at_call 28; refine (nil_err _).mono ?_; rintro e w' ⟨rfl, hw⟩; obtain rfl := hw.symm)
  go_ret
  exact ⟨rfl, rfl⟩
set_option maxHeartbeats 400000 in
theorem nil_done (w : World) : Calls Try.prog 29 #[.pointer none] w fun e w' => e = .returned (.int .i64 1) ∧ w' = w := by
  go_enter Try.func29, Try.ntmps29
  go_wp2_with (go_at_call 28; refine (nil_err _).mono ?_; rintro e w' ⟨rfl, hw⟩; obtain rfl := hw.symm)
  go_ret
  exact ⟨rfl, rfl⟩

/-- A reader whose two cells and whose bytes lie in blocks from lo on. -/
def RdL (w : World) (rb lo : Nat) (zs : List Int) (e : Int) : Prop :=
  ∃ a cap, Rd w rb a zs.length cap e ∧ zs.length ≤ cap ∧ cap ≤ maxLen ∧ AllB zs ∧ lo ≤ rb ∧ rb < w.heap.size ∧ (zs = [] ∨ ∃ b off, a = some ⟨b, off, none⟩ ∧ b ≠ rb ∧ lo ≤ b ∧ b < w.heap.size ∧ ∀ i, i < zs.length → w.cell? ⟨b, off + i, none⟩ = some (.int .u8 (zs.getD i 0)))
theorem RdL.rds {w : World} {rb lo : Nat} {zs : List Int} {e : Int} (h : RdL w rb lo zs e) : RdS w rb zs e := by
  obtain ⟨a, cap, h1, h2, h3, h4, _, _, h5⟩ := h
  refine ⟨a, cap, h1, h2, h3, h4, ?_⟩
  rcases h5 with h5 | ⟨b, off, e1, e2, _, e3, e4⟩
  · exact .inl h5
  · exact .inr ⟨b, off, e1, e2, e3, e4⟩
theorem RdL.frame {w w' : World} {rb lo : Nat} {zs : List Int} {e : Int} (h : RdL w rb lo zs e) (hb : ∀ k, lo ≤ k → k < w.heap.size → w'.heap[k]? = w.heap[k]?) (hs : w.heap.size ≤ w'.heap.size) : RdL w' rb lo zs e := by
  obtain ⟨a, cap, ⟨c0, c1, f0, f1⟩, h2, h3, h4, h6, h7, h5⟩ := h
  have hr := hb rb h6 h7
  refine ⟨a, cap, ⟨?_, ?_, ?_, ?_⟩, h2, h3, h4, h6, by omega, ?_⟩
  · rw [World.cell?_of_block (a := ⟨rb, 0, none⟩) hr]; exact c0
  · rw [World.cell?_of_block (a := ⟨rb, 1, none⟩) hr]; exact c1
  · rw [World.frozen?_of_block (a := ⟨rb, 0, none⟩) hr]; exact f0
  · rw [World.frozen?_of_block (a := ⟨rb, 1, none⟩) hr]; exact f1
  · rcases h5 with h5 | ⟨b, off, e1, e2, e5, e3, e4⟩
    · exact .inl h5
    · refine .inr ⟨b, off, e1, e2, e5, by omega, fun i hi => ?_⟩
      rw [World.cell?_of_block (a := ⟨b, off + i, none⟩) (hb b e5 e3)]; exact e4 i hi
theorem RdL.below {w w' : World} {rb lo : Nat} {zs : List Int} {e : Int} (h : RdL w rb lo zs e) (hb : Below w.heap.size w w') : RdL w' rb lo zs e :=
  h.frame (fun k _ hk => hb.block k hk) hb.size
theorem RdS.frame {w w' : World} {rb : Nat} {zs : List Int} {e : Int} (h : RdS w rb zs e) (hrb : rb < w.heap.size) (hb : Below w.heap.size w w') : RdS w' rb zs e := by
  obtain ⟨a, cap, ⟨c0, c1, f0, f1⟩, h2, h3, h4, h5⟩ := h
  have hr := hb.block rb hrb
  refine ⟨a, cap, ⟨?_, ?_, ?_, ?_⟩, h2, h3, h4, ?_⟩
  · rw [World.cell?_of_block (a := ⟨rb, 0, none⟩) hr]; exact c0
  · rw [World.cell?_of_block (a := ⟨rb, 1, none⟩) hr]; exact c1
  · rw [World.frozen?_of_block (a := ⟨rb, 0, none⟩) hr]; exact f0
  · rw [World.frozen?_of_block (a := ⟨rb, 1, none⟩) hr]; exact f1
  · rcases h5 with h5 | ⟨b, off, e1, e2, e3, e4⟩
    · exact .inl h5
    · refine .inr ⟨b, off, e1, e2, by have := hb.size; omega, fun i hi => ?_⟩
      rw [World.cell?_of_block (a := ⟨b, off + i, none⟩) (hb.block b e3)]; exact e4 i hi

set_option maxHeartbeats 400000 in
theorem new_lo (a : Option Addr) (cap : Nat) (zs : List Int) (w : World) (hb : BV w a zs) (hm : zs.length ≤ 1000000) (hn : a = none → cap = 0) :
    Calls Try.prog 20 #[.slice a zs.length cap] w fun e w' => ∃ rb, e = .returned (.pointer (some ⟨rb, 0, none⟩)) ∧ RdL w' rb w.heap.size zs 0 ∧ Below w.heap.size w w' := by
  have HC := clone_any a cap zs w hb hm hn
  have hz := hb.1
  clear hb hn
  go_enter Try.func20, Try.ntmps20
  go_wp2_with (go_at_call 33; refine HC.mono ?_; rintro e w1 ⟨v, rfl, ho, hbl⟩; obtain ⟨a', cap', rfl, hv⟩ := ho.view hz; clear HC)
  obtain ⟨h1, h2, h3, h4⟩ := hv
  have HR : RdL (w1.alloc (.cells #[.slice a' zs.length cap', .int .i64 0] 62)) w1.heap.size w.heap.size zs 0 := by
    refine ⟨a', cap', ⟨by go_simp, by go_simp, by go_simp, by go_simp⟩, h1, h2, h3, hbl.size, by simp, ?_⟩
    rcases h4 with h4 | ⟨b, off, e, hlo, hlt, hcell⟩
    · exact .inl h4
    · refine .inr ⟨b, off, e, by omega, hlo, by simp; omega, fun i hi => ?_⟩
      exact (Below.cell ((Below.refl w1.heap.size w1).alloc (Nat.le_refl _) _) (p := ⟨b, off + i, none⟩) hlt).trans (hcell i hi)
  go_ret
  exact ⟨_, rfl, HR, hbl.alloc hbl.size _⟩
end Go.Proofs.Ytfldbcolfdofaaa
