/- Place and At: the program's and the document's. -/
import Derived.Test.YtophkfbdhejmcaaCk
namespace Go.Proofs.Ytophkfbdhejmcaa
open Go.RowKit
set_option linter.unusedVariables false
set_option maxRecDepth 20000

def topK (d : Int) (s : ByteArray) : Nat := M.topS (M.ofS s) d
def placeS (d : Int) (zs : List Int) (s : ByteArray) : Int := if chkE d zs = 0 then (topK d s : Int) else 0
def atS (d : Int) (zs : List Int) (s : ByteArray) : Int := if chkE d zs = 0 then zs.getD (topK d s) 0 else 0
theorem topK_lt {d : Int} (s : ByteArray) (h : 0 ≤ d ∧ d ≤ 10) : topK d s < pwr d := by
  obtain ⟨n, rfl⟩ := Int.eq_ofNat_of_zero_le h.1
  have ho : M.ofS s < 4294967296 := M.fin_lt _
  unfold topK pwr
  rw [M.topS_nat (M.ofS s) n ho (by omega), Int.toNat_natCast]
  unfold M.topN
  refine Nat.div_lt_of_lt_mul ?_
  rw [← Nat.pow_add, show 32 - n + n = 32 by omega]
  exact ho
theorem placeof_any (d : Int) (a : Option Addr) (n cap : Nat) (s : ByteArray) (w : World) (h : 0 ≤ d ∧ d ≤ 10) (hs : s.size ≤ maxLen) :
    Calls Try.prog 37 #[dv d a n cap, .string s] w fun e w' => e = .returned (.int .i64 (topK d s : Nat)) ∧ Below w.heap.size w w' := by
  have H1 : Hid (∀ W, Calls Try.prog 48 #[.string s] W fun e w' => e = .returned (.int .u32 (M.ofS s)) ∧ w' = W) := fun W => M.of_any s W hs
  have H2 : Hid (∀ W, Calls Try.prog 47 #[.int .u32 (M.ofS s), .int .i64 d] W fun e w' => e = .returned (.int .i64 (topK d s)) ∧ w' = W) := fun W => M.top_any (M.ofS s) d W (M.fin_lt _) (by omega) (by omega)
  unfold dv
  clear hs h
  generalize topK d s = r at *
  generalize M.ofS s = x at *
  go_enter Try.func37, Try.ntmps37
  go_wp2
  go_quiet (first | (go_at_call 48; exact Calls.quiet_of_same (H1.out _)) | (go_at_call 47; exact Calls.quiet_of_same (H2.out _)))
  go_wp2
  go_ret
  exact ⟨rfl, below_drewN (one_block _ _) _⟩
theorem box2 {w w4 : World} {x y : Value} {t : Nat} (hb : Below (w.alloc (.cells #[x, y] t)).heap.size (w.alloc (.cells #[x, y] t)) w4) : w4.cell? ⟨w.heap.size, 0, none⟩ = some x ∧ w4.cell? ⟨w.heap.size, 1, none⟩ = some y :=
  ⟨(hb.cell (p := ⟨w.heap.size, 0, none⟩) (by simp)).trans (by go_simp), (hb.cell (p := ⟨w.heap.size, 1, none⟩) (by simp)).trans (by go_simp)⟩
set_option maxHeartbeats 800000 in
theorem place_any (d : Int) (a : Option Addr) (cap : Nat) (zs : List Int) (s : ByteArray) (w : World) (hp : IV w a zs) (hl : zs.length ≤ 1000000) (hs : s.size ≤ maxLen) :
    Calls Try.prog 15 #[dv d a zs.length cap, .string s] w fun e w' => e = .returned (.int .i64 (placeS d zs s)) ∧ Below w.heap.size w w' := by
  have HC : Hid (∀ W, Below w.heap.size w W → Calls Try.prog 11 #[.agg #[.int .i64 d, .slice a zs.length cap]] W fun e w' => e = .returned (.int .i64 (chkE d zs)) ∧ Below W.heap.size W w') := fun W hW => check_any d a cap zs W (hp.below hW) hl
  unfold placeS
  by_cases h0 : chkE d zs = 0
  · rw [if_pos h0]
    rw [h0] at HC
    have HP : Hid (∀ W, Calls Try.prog 37 #[.agg #[.int .i64 d, .slice a zs.length cap], .string s] W fun e w' => e = .returned (.int .i64 (topK d s : Nat)) ∧ Below W.heap.size W w') := fun W => placeof_any d a zs.length cap s W (chkE_ok h0).1 hs
    clear h0 hp
    unfold dv
    generalize topK d s = r at *
    go_enter Try.func15, Try.ntmps15
    go_wp2_with (first
      | (go_at_call 11; refine (HC.out _ (one_block _ _)).mono ?_; rintro e w1 ⟨rfl, b1⟩; obtain ⟨c0, c1⟩ := box2 b1)
      | (go_at_call 37; refine (HP.out _).mono ?_; rintro e w2 ⟨rfl, b2⟩))
    go_ret
    exact ⟨rfl, bt (one_block _ _) (bt b1 b2)⟩
  · rw [if_neg h0]
    generalize chkE d zs = x at *
    unfold dv
    go_enter Try.func15, Try.ntmps15
    go_wp2_with (first
      | (go_at_call 11; refine (HC.out _ (one_block _ _)).mono ?_; rintro e w1 ⟨rfl, b1⟩))
    go_ret
    exact ⟨rfl, bt (one_block _ _) b1⟩
set_option maxHeartbeats 800000 in
theorem rplace_any (d : Int) (a : Option Addr) (cap : Nat) (zs : List Int) (s : ByteArray) (w : World) (hp : IV w a zs) (hl : zs.length ≤ 1000000) (hs : s.size ≤ maxLen) :
    Calls Try.prog 16 #[dv d a zs.length cap, .string s] w fun e w' => e = .returned (.int .i64 (placeS d zs s)) ∧ Below w.heap.size w w' := by
  have HC : Hid (∀ W, Below w.heap.size w W → Calls Try.prog 12 #[.agg #[.int .i64 d, .slice a zs.length cap]] W fun e w' => e = .returned (.int .i64 (chkE d zs)) ∧ Below W.heap.size W w') := fun W hW => rcheck_any d a cap zs W (hp.below hW) hl
  unfold placeS
  by_cases h0 : chkE d zs = 0
  · rw [if_pos h0]
    rw [h0] at HC
    have hd := (chkE_ok h0).1
    have H1 : Hid (∀ W, Calls Try.prog 39 #[.string s] W fun e w' => e = .returned (.int .u32 (M.ofS s)) ∧ w' = W) := fun W => M.rof_any s W hs
    have H2 : Hid (∀ W, Calls Try.prog 38 #[.int .u32 (M.ofS s), .int .i64 d] W fun e w' => e = .returned (.int .i64 (topK d s)) ∧ w' = W) := fun W => M.rtop_any (M.ofS s) d W (M.fin_lt _) (by omega) (by omega)
    clear h0 hp hd
    unfold dv
    generalize topK d s = r at *
    generalize M.ofS s = x at *
    go_enter Try.func16, Try.ntmps16
    go_wp2_with (first
      | (go_at_call 12; refine (HC.out _ (one_block _ _)).mono ?_; rintro e w1 ⟨rfl, b1⟩; obtain ⟨c0, c1⟩ := box2 b1))
    go_quiet (first | (go_at_call 39; exact Calls.quiet_of_same (H1.out _)) | (go_at_call 38; exact Calls.quiet_of_same (H2.out _)))
    go_wp2
    go_ret
    exact ⟨rfl, below_drewN (bt (one_block _ _) b1) _⟩
  · rw [if_neg h0]
    generalize chkE d zs = x at *
    unfold dv
    go_enter Try.func16, Try.ntmps16
    go_wp2_with (first
      | (go_at_call 12; refine (HC.out _ (one_block _ _)).mono ?_; rintro e w1 ⟨rfl, b1⟩))
    go_ret
    exact ⟨rfl, bt (one_block _ _) b1⟩
set_option maxHeartbeats 1600000 in
theorem at_any (d : Int) (a : Option Addr) (cap : Nat) (zs : List Int) (s : ByteArray) (w : World) (hp : IV w a zs) (hl : zs.length ≤ 1000000) (hs : s.size ≤ maxLen) :
    Calls Try.prog 13 #[dv d a zs.length cap, .string s] w fun e w' => e = .returned (.int .i64 (atS d zs s)) ∧ Below w.heap.size w w' := by
  have HC : Hid (∀ W, Below w.heap.size w W → Calls Try.prog 11 #[.agg #[.int .i64 d, .slice a zs.length cap]] W fun e w' => e = .returned (.int .i64 (chkE d zs)) ∧ Below W.heap.size W w') := fun W hW => check_any d a cap zs W (hp.below hW) hl
  unfold atS
  by_cases h0 : chkE d zs = 0
  · rw [if_pos h0]
    rw [h0] at HC
    have hd := chkE_ok h0
    have hlt : topK d s < zs.length := by rw [hd.2.1]; exact topK_lt s hd.1
    have HP : Hid (∀ W, Calls Try.prog 37 #[.agg #[.int .i64 d, .slice a zs.length cap], .string s] W fun e w' => e = .returned (.int .i64 (topK d s : Nat)) ∧ Below W.heap.size W w') := fun W => placeof_any d a zs.length cap s W (chkE_ok h0).1 hs
    obtain ⟨b, off, rfl, hbl, hc⟩ := hp.cell hlt
    clear h0 hp hd
    have hlt2 : (topK d s : Int) < (zs.length : Int) := by omega
    have CL : Hid (∀ W, Below (w.alloc (.cells #[.int .i64 d, .slice (some ⟨b, off, none⟩) zs.length cap] 26)).heap.size (w.alloc (.cells #[.int .i64 d, .slice (some ⟨b, off, none⟩) zs.length cap] 26)) W → W.cell? ⟨w.heap.size, 0, none⟩ = some (.int .i64 d) ∧ W.cell? ⟨w.heap.size, 1, none⟩ = some (.slice (some ⟨b, off, none⟩) zs.length cap) ∧ W.cell? ⟨b, off + topK d s, none⟩ = some (.int .i64 (zs.getD (topK d s) 0))) := fun W hW => ⟨(box2 hW).1, (box2 hW).2, ((bt (one_block _ _) hW).cell (p := ⟨b, off + topK d s, none⟩) hbl).trans hc⟩
    unfold dv
    clear hc
    generalize zs.getD (topK d s) 0 = z at *
    generalize topK d s = r at *
    go_enter Try.func13, Try.ntmps13
    go_wp2_with (first
      | (go_at_call 11; refine (HC.out _ (one_block _ _)).mono ?_; rintro e w1 ⟨rfl, b1⟩; obtain ⟨c0, c1, c2⟩ := CL.out _ b1))
    go_region_held3 (fun W => W.cell? ⟨w.heap.size, 0, none⟩ = some (.int .i64 d) ∧ W.cell? ⟨w.heap.size, 1, none⟩ = some (.slice (some ⟨b, off, none⟩) zs.length cap) ∧ W.cell? ⟨b, off + r, none⟩ = some (.int .i64 z)) (first | exact CL.out _ b1.drew | exact CL.out _ (bt b1 ((Below.refl _ _).drew.trans b2))) (first | (go_at_call 37; refine (HP.out _).mono ?_; rintro e w2 ⟨rfl, b2⟩))
    go_wp2
    go_ret
    exact ⟨rfl, bt (one_block _ _) (bt b1 ((Below.refl _ _).drew.trans b2))⟩
  · rw [if_neg h0]
    generalize chkE d zs = x at *
    unfold dv
    go_enter Try.func13, Try.ntmps13
    go_wp2_with (first
      | (go_at_call 11; refine (HC.out _ (one_block _ _)).mono ?_; rintro e w1 ⟨rfl, b1⟩))
    go_ret
    exact ⟨rfl, bt (one_block _ _) b1⟩
set_option maxHeartbeats 1600000 in
theorem rat_any (d : Int) (a : Option Addr) (cap : Nat) (zs : List Int) (s : ByteArray) (w : World) (hp : IV w a zs) (hl : zs.length ≤ 1000000) (hs : s.size ≤ maxLen) :
    Calls Try.prog 14 #[dv d a zs.length cap, .string s] w fun e w' => e = .returned (.int .i64 (atS d zs s)) ∧ Below w.heap.size w w' := by
  have HC : Hid (∀ W, Below w.heap.size w W → Calls Try.prog 12 #[.agg #[.int .i64 d, .slice a zs.length cap]] W fun e w' => e = .returned (.int .i64 (chkE d zs)) ∧ Below W.heap.size W w') := fun W hW => rcheck_any d a cap zs W (hp.below hW) hl
  unfold atS
  by_cases h0 : chkE d zs = 0
  · rw [if_pos h0]
    rw [h0] at HC
    have hd := chkE_ok h0
    have hlt : topK d s < zs.length := by rw [hd.2.1]; exact topK_lt s hd.1
    have HP : Hid (∀ W, Below w.heap.size w W → Calls Try.prog 16 #[.agg #[.int .i64 d, .slice a zs.length cap], .string s] W fun e w' => e = .returned (.int .i64 (topK d s : Nat)) ∧ Below W.heap.size W w') := fun W hW => by
      have := rplace_any d a cap zs s W (hp.below hW) hl hs
      unfold placeS at this
      rw [if_pos h0] at this
      exact this
    obtain ⟨b, off, rfl, hbl, hc⟩ := hp.cell hlt
    clear h0 hp hd
    have hlt2 : (topK d s : Int) < (zs.length : Int) := by omega
    have CL : Hid (∀ W, Below (w.alloc (.cells #[.int .i64 d, .slice (some ⟨b, off, none⟩) zs.length cap] 24)).heap.size (w.alloc (.cells #[.int .i64 d, .slice (some ⟨b, off, none⟩) zs.length cap] 24)) W → W.cell? ⟨w.heap.size, 0, none⟩ = some (.int .i64 d) ∧ W.cell? ⟨w.heap.size, 1, none⟩ = some (.slice (some ⟨b, off, none⟩) zs.length cap) ∧ W.cell? ⟨b, off + topK d s, none⟩ = some (.int .i64 (zs.getD (topK d s) 0))) := fun W hW => ⟨(box2 hW).1, (box2 hW).2, ((bt (one_block _ _) hW).cell (p := ⟨b, off + topK d s, none⟩) hbl).trans hc⟩
    unfold dv
    clear hc
    generalize zs.getD (topK d s) 0 = z at *
    generalize topK d s = r at *
    go_enter Try.func14, Try.ntmps14
    go_wp2_with (first
      | (go_at_call 12; refine (HC.out _ (one_block _ _)).mono ?_; rintro e w1 ⟨rfl, b1⟩; obtain ⟨c0, c1, c2⟩ := CL.out _ b1))
    go_region_held3 (fun W => W.cell? ⟨w.heap.size, 0, none⟩ = some (.int .i64 d) ∧ W.cell? ⟨w.heap.size, 1, none⟩ = some (.slice (some ⟨b, off, none⟩) zs.length cap) ∧ W.cell? ⟨b, off + r, none⟩ = some (.int .i64 z)) (first | exact CL.out _ b1.drew | exact CL.out _ (bt b1 ((Below.refl _ _).drew.trans b2))) (first | (go_at_call 16; refine (HP.out _ (bt (one_block _ _) b1.drew)).mono ?_; rintro e w2 ⟨rfl, b2⟩))
    go_wp2
    go_ret
    exact ⟨rfl, bt (one_block _ _) (bt b1 ((Below.refl _ _).drew.trans b2))⟩
  · rw [if_neg h0]
    generalize chkE d zs = x at *
    unfold dv
    go_enter Try.func14, Try.ntmps14
    go_wp2_with (first
      | (go_at_call 12; refine (HC.out _ (one_block _ _)).mono ?_; rintro e w1 ⟨rfl, b1⟩))
    go_ret
    exact ⟨rfl, bt (one_block _ _) b1⟩
end Go.Proofs.Ytophkfbdhejmcaa
