import Derived.Test.YtbklnadlbcndlaaGreatM1
import Derived.Test.YtbklnadlbcndlaaGreatProg
import Derived.ProofKit
import Derived.WalkKit
import Derived.WalkSpells
import Derived.WalkLawsBesides
import Derived.Lib.AppendStr
import Derived.Lib.AppendZeros
import Derived.Laws.BitsAllLaws
import Derived.Laws.AppendOwn
namespace Go.Proofs.YtbklnadlbcndlaaGreat
set_option maxRecDepth 20000
open Go.RowKit
set_option linter.unusedVariables false
theorem Tryz.info5 : (Tryz.prog.info? 5).map (fun i => (i.zero, i.size, i.bytes)) = some (some (.int .u8 0), 1, 1) := by kernel_rfl
def BV (w : World) (a : Option Addr) (zs : List Int) : Prop :=
  AllB zs ∧ (zs = [] ∨ ∃ b off, a = some ⟨b, off, none⟩ ∧ b < w.heap.size ∧ ∀ i, i < zs.length → w.cell? ⟨b, off + i, none⟩ = some (.int .u8 (zs.getD i 0)))
def Own (w : World) (base : Nat) (v : Value) (zs : List Int) : Prop := w.ownsRow base 5 1 v zs.length (zs.map (Value.int .u8))
theorem Own.nil (w : World) (base : Nat) : Own w base (.slice none 0 0) [] := World.ownsRow_nil w base 5 1
theorem u8row (zs : List Int) : ∀ u ∈ zs.map (Value.int .u8), u.oneCell' = true := by
  intro u hu; obtain ⟨z, _, rfl⟩ := List.mem_map.1 hu; rfl
theorem Own.view {w : World} {base : Nat} {v : Value} {zs : List Int} (h : Own w base v zs) (hz : AllB zs) :
    ∃ a cap, v = .slice a zs.length cap ∧ zs.length ≤ cap ∧ cap ≤ maxLen ∧ AllB zs ∧ (zs = [] ∨ ∃ b off, a = some ⟨b, off, none⟩ ∧ base ≤ b ∧ b < w.heap.size ∧ ∀ i, i < zs.length → w.cell? ⟨b, off + i, none⟩ = some (.int .u8 (zs.getD i 0))) := by
  have hl := World.ownsRow.lt h
  rcases h.2 with ⟨rfl, hn⟩ | ⟨g, cap, cur, rfl, hb, hg, hnc, hcm, hcs, htake⟩
  · refine ⟨none, 0, by rw [hn], by omega, by decide, hz, .inl (List.eq_nil_of_length_eq_zero hn)⟩
  · refine ⟨_, cap, rfl, hnc, hcm, hz, .inr ⟨g, 0, rfl, hb, (hl g rfl).2, ?_⟩⟩
    intro i hi
    have hc := World.ownsRow.cellAt (g := g) h i (by omega)
    rw [Nat.zero_add, hc, List.getElem?_map, List.getElem?_eq_getElem hi, List.getD_eq_getElem?_getD, List.getElem?_eq_getElem hi]
    rfl
theorem Own.below {w w' : World} {base : Nat} {v : Value} {zs : List Int} (h : Own w base v zs) (hb : Below w.heap.size w w') : Own w' base v zs := by
  refine ⟨h.1, ?_⟩
  have hl := World.ownsRow.lt h
  rcases h.2 with hn | ⟨g, cap, cur, rfl, hbb, hg, rest⟩
  · exact .inl hn
  · exact .inr ⟨g, cap, cur, rfl, hbb, (hb.block g (hl g rfl).2).trans hg, rest⟩
theorem BV.below {w w' : World} {a : Option Addr} {zs : List Int} (h : BV w a zs) (hb : Below w.heap.size w w') : BV w' a zs := by
  obtain ⟨hz, h1 | ⟨b, off, rfl, hlt, hc⟩⟩ := h
  · exact ⟨hz, .inl h1⟩
  · exact ⟨hz, .inr ⟨b, off, rfl, Nat.lt_of_lt_of_le hlt hb.size, fun i hi => (hb.cell (p := ⟨b, off + i, none⟩) hlt).trans (hc i hi)⟩⟩
theorem add_plain (b off j : Nat) : (⟨b, off, none⟩ : Addr).add j = ⟨b, off + j, none⟩ := by unfold Addr.add; split <;> simp_all
theorem Own.shape {w : World} {base : Nat} {v : Value} {zs : List Int} (h : Own w base v zs) (n : Nat) (hn : zs.length = n) (hp : 0 < n) : ∃ g cap, v = .slice (some ⟨g, 0, none⟩) n cap ∧ n ≤ cap ∧ base ≤ g ∧ g < w.heap.size := by
  subst hn
  have hl := World.ownsRow.lt h
  rcases h.2 with ⟨rfl, hn⟩ | ⟨g, cap, cur, rfl, hb, hg, hnc, hcm, hcs, htake⟩
  · omega
  · exact ⟨g, cap, rfl, hnc, hb, (hl g rfl).2⟩
theorem Own.bv {w : World} {base : Nat} {a : Option Addr} {n cap : Nat} {zs : List Int} (h : Own w base (.slice a n cap) zs) (hz : AllB zs) : BV w a zs := by
  obtain ⟨a', cap', e, _, _, _, hb⟩ := h.view hz
  obtain ⟨rfl, _, _⟩ := Value.slice.inj e
  refine ⟨hz, ?_⟩
  rcases hb with h1 | ⟨b, off, e, _, h2, h3⟩
  · exact .inl h1
  · exact .inr ⟨b, off, e, h2, h3⟩
theorem slice_some_len {a : Option Addr} {zs : List Int} {w : World} (hb : BV w a zs) (ha : a = none) : zs = [] := by
  subst ha
  rcases hb.2 with h | ⟨b, off, h, _⟩
  · exact h
  · cases h
end Go.Proofs.YtbklnadlbcndlaaGreat
namespace Go.Proofs.YtbklnadlbcndlaaGreat
set_option maxRecDepth 20000
open Go.RowKit
set_option linter.unusedVariables false
def getE (zs : List Int) (x : Int) : Int := if x < 1 ∨ 6 < x then 2 else if (zs.length : Int) < x then 3 else 0
def getV (zs : List Int) (x : Int) : Int := if x < 1 ∨ 6 < x then 0 else if (zs.length : Int) < x then 0 else val (zs.take x.toNat)
theorem ret2 {a b c d : Int} (h1 : a = c) (h2 : b = d) : Ending.returned (.tuple #[.int .i64 a, .int .i64 b]) = .returned (.tuple #[.int .i64 c, .int .i64 d]) := by rw [h1, h2]
set_option maxHeartbeats 400000 in
theorem mayBe_yes (x : Int) (w : World) (h1 : 1 ≤ x) (h6 : x ≤ 6) : Calls Tryz.prog 218 #[.int .i64 x] w fun e w' => e = .returned (.bool true) ∧ w' = w := by
  have hd : decide (x ≤ 6) = true := by simpa using h6
  go_enter Tryz.func218, Tryz.ntmps218
  go_wp2
  go_ret
  exact ⟨rfl, rfl⟩
set_option maxHeartbeats 400000 in
theorem mayBe_no (x : Int) (w : World) (h1 : x < 1 ∨ 6 < x) : Calls Tryz.prog 218 #[.int .i64 x] w fun e w' => e = .returned (.bool false) ∧ w' = w := by
  rcases h1 with h1 | h1
  · go_enter Tryz.func218, Tryz.ntmps218
    go_wp2
    go_ret
    exact ⟨rfl, rfl⟩
  · have hd : decide (x ≤ 6) = false := by simp; omega
    go_enter Tryz.func218, Tryz.ntmps218
    go_wp2
    go_ret
    exact ⟨rfl, rfl⟩
set_option maxHeartbeats 400000 in
theorem get_arg (a : Option Addr) (len cap : Nat) (x : Int) (w : World) (h : x < 1 ∨ 6 < x) :
    Calls Tryz.prog 239 #[.slice a len cap, .int .i64 x] w fun e w' => e = .returned (.tuple #[.int .i64 0, .int .i64 2]) ∧ w' = w := by
  go_enter Tryz.func239, Tryz.ntmps239
  go_wp2_with (go_at_call 218; refine (mayBe_no _ _ h).mono ?_; rintro e w' ⟨rfl, rfl⟩)
  go_ret2
  exact ⟨rfl, rfl⟩
set_option maxHeartbeats 400000 in
theorem get_cut (a : Option Addr) (len cap : Nat) (x : Int) (w : World) (h1 : 1 ≤ x) (h6 : x ≤ 6) (hl : (len : Int) < x) :
    Calls Tryz.prog 239 #[.slice a len cap, .int .i64 x] w fun e w' => e = .returned (.tuple #[.int .i64 0, .int .i64 3]) ∧ w' = w := by
  go_enter Tryz.func239, Tryz.ntmps239
  go_wp2_with (go_at_call 218; refine (mayBe_yes _ _ (by omega) (by omega)).mono ?_; rintro e w' ⟨rfl, rfl⟩)
  go_ret2
  exact ⟨rfl, rfl⟩
set_option maxHeartbeats 400000 in
theorem get_ok (b off len cap : Nat) (zs : List Int) (x : Nat) (w : World) (h1 : 1 ≤ x) (h6 : x ≤ 6) (hl : x ≤ len) (hm : len ≤ 9223372036854775807)
   (hz : AllB zs) (hlen : zs.length = len) (hc : ∀ i, i < zs.length → w.cell? ⟨b, off + i, none⟩ = some (.int .u8 (zs.getD i 0))) :
    Calls Tryz.prog 239 #[.slice (some ⟨b, off, none⟩) len cap, .int .i64 x] w fun e w' => e = .returned (.tuple #[.int .i64 (val (zs.take x)), .int .i64 0]) ∧ w' = w := by
  have HL : Hid (zs.length = len) := hlen
  clear hlen
  go_enter Tryz.func239, Tryz.ntmps239
  go_wp2_with (go_at_call 218; refine (mayBe_yes _ _ (by omega) (by omega)).mono ?_; rintro e w' ⟨rfl, rfl⟩)
  go_loop [6, 16] (fun n i => ∃ k : Nat, k ≤ x ∧ i = .int .i64 k ∧ n = .int .i64 (val (zs.take k))) (fun _ i => x - (intOf i).toNat)
  case atStart => exact ⟨0, Nat.zero_le _, rfl, rfl⟩
  case round =>
    obtain ⟨k, hk, rfl, rfl⟩ := hrel
    by_cases hlt : k < x
    · obtain ⟨hv0, hv1⟩ := val_take_bound5 zs k (by omega) hz
      have hck := hc k (by have := HL.out; omega)
      obtain ⟨hz0, hz1⟩ := hz.getD k
      go_wp2
      go_round
      case rel =>
        refine ⟨k + 1, by omega, by go_num, ?_⟩
        rw [val_take zs k (by have := HL.out; omega), ← List.getD_eq_getElem?_getD, or_byte _ _ hv0 hv1 hz0 hz1]
      case measure => simp [intOf]; omega
    · go_wp2
      go_ret2
      exact ⟨ret2 (by rw [show k = x from by omega]) rfl, rfl⟩
theorem get_any (a : Option Addr) (len cap : Nat) (zs : List Int) (x : Int) (w : World) (hb : BV w a zs) (hl : zs.length = len) (hm : len ≤ 9223372036854775807) :
    Calls Tryz.prog 239 #[.slice a len cap, .int .i64 x] w fun e w' => e = .returned (.tuple #[.int .i64 (getV zs x), .int .i64 (getE zs x)]) ∧ w' = w := by
  unfold getV getE
  by_cases h : x < 1 ∨ 6 < x
  · rw [if_pos h, if_pos h]; exact get_arg a len cap x w h
  · rw [if_neg h, if_neg h, hl]
    by_cases h2 : (len : Int) < x
    · rw [if_pos h2, if_pos h2]; exact get_cut a len cap x w (by omega) (by omega) h2
    · rw [if_neg h2, if_neg h2]
      obtain ⟨y, rfl⟩ := Int.eq_ofNat_of_zero_le (show 0 ≤ x by omega)
      rw [Int.toNat_natCast]
      obtain ⟨hz, h3 | ⟨b, off, rfl, _, hc⟩⟩ := hb
      · subst h3; simp at hl; omega
      · exact get_ok b off len cap zs y w (by omega) (by omega) (by omega) hm hz hl hc
end Go.Proofs.YtbklnadlbcndlaaGreat
namespace Go.Proofs.YtbklnadlbcndlaaGreat
set_option maxRecDepth 20000
open Go.RowKit
set_option linter.unusedVariables false
theorem and_one (x : Nat) (h : x < 4294967296) : bits .and .u32 (x : Int) 1 = ((x % 2 : Nat) : Int) := by
  rw [show (1 : Int) = ((1 : Nat) : Int) from rfl, u32_and_nat x 1 h (by decide), nat_mask1]
theorem odd_xor (x : Nat) (h : x < 4294967296) (ho : x % 2 = 1) : bits .xor .u32 ((x : Int) / 2) 2197175160 = ((bit1 x : Nat) : Int) := by
  rw [show (2197175160 : Int) = ((2197175160 : Nat) : Int) from rfl, show (x : Int) / 2 = ((x / 2 : Nat) : Int) by omega, u32_xor_nat (x / 2) _ (by omega) (by decide)]
  unfold bit1
  rw [if_pos ho]
theorem even_half (x : Nat) (ho : ¬ x % 2 = 1) : (x : Int) / 2 = ((bit1 x : Nat) : Int) := by
  unfold bit1
  rw [if_neg ho]; omega
set_option maxHeartbeats 400000 in
theorem step_ok (r : Nat) (w : World) (h : r < 4294967296) : Calls Tryz.prog 235 #[.int .u32 r] w fun e w' => e = .returned (.int .u32 (stp r)) ∧ w' = w := by
  go_enter Tryz.func235, Tryz.ntmps235
  go_wp2
  go_loop [0, 4] (fun x i => ∃ k : Nat, k ≤ 8 ∧ i = .int .i64 k ∧ x = .int .u32 (bitN k r : Nat)) (fun _ i => 8 - (intOf i).toNat)
  case atStart => exact ⟨0, Nat.zero_le _, rfl, rfl⟩
  case round =>
    obtain ⟨k, hk, rfl, rfl⟩ := hrel
    by_cases hlt : k < 8
    · have hb := bitN_lt k h
      have hnx : bitN (k + 1) r = bit1 (bitN k r) := rfl
      by_cases hodd : bitN k r % 2 = 1
      · have hA := and_one _ hb
        rw [hodd] at hA
        have hX := odd_xor _ hb hodd
        generalize bitN k r = x at *
        go_wp2
        go_round
        case rel => exact ⟨k + 1, by omega, by go_num, by rw [hnx]⟩
        case measure => simp [intOf]; omega
      · have hA := and_one _ hb
        rw [show bitN k r % 2 = 0 by omega] at hA
        have hX := even_half _ hodd
        generalize bitN k r = x at *
        go_wp2
        go_round
        case rel => exact ⟨k + 1, by omega, by go_num, by rw [hnx, ← hX]⟩
        case measure => simp [intOf]; omega
    · have : k = 8 := by omega
      subst this
      go_wp2
      go_ret
      exact ⟨rfl, rfl⟩
theorem inv_u32 (x : Nat) (h : x < 4294967296) : bits .xor .u32 IntKind.u32.max (x : Int) = ((flip x : Nat) : Int) := by
  rw [show IntKind.u32.max = ((4294967295 : Nat) : Int) from rfl, u32_xor_nat _ x (by decide) h, Nat.xor_comm]; rfl
theorem xor_in (x : Nat) (h : x < 4294967296) (z : Int) (h0 : 0 ≤ z) (h1 : z ≤ 255) : bits .xor .u32 (x : Int) z = ((x ^^^ z.toNat : Nat) : Int) := by
  obtain ⟨y, rfl⟩ := Int.eq_ofNat_of_zero_le h0
  rw [u32_xor_nat x y h (by omega)]; rfl
set_option maxHeartbeats 400000 in
theorem more_ok (c b off len cap : Nat) (zs : List Int) (w : World) (hcl : c < 4294967296) (hm : len ≤ 9223372036854775807)
   (hz : AllB zs) (hlen : zs.length = len) (hc : ∀ i, i < zs.length → w.cell? ⟨b, off + i, none⟩ = some (.int .u8 (zs.getD i 0))) :
    Calls Tryz.prog 219 #[.int .u32 c, .slice (some ⟨b, off, none⟩) len cap] w fun e w' => e = .returned (.int .u32 (more c zs)) ∧ w' = w := by
  have HL : Hid (zs.length = len) := hlen
  clear hlen
  have hi := inv_u32 c hcl
  go_enter Tryz.func219, Tryz.ntmps219
  go_wp2
  go_loop [5, 12] (fun x i => ∃ k : Nat, k ≤ len ∧ i = .int .i64 k ∧ x = .int .u32 (reg (flip c) (zs.take k) : Nat)) (fun _ i => len - (intOf i).toNat)
  case atStart => exact ⟨0, Nat.zero_le _, rfl, rfl⟩
  case round =>
    obtain ⟨k, hk, rfl, rfl⟩ := hrel
    by_cases hlt : k < len
    · have hb := reg_lt (zs.take k) (flip_lt hcl) (hz.take k)
      have hck := hc k (by have := HL.out; omega)
      obtain ⟨hz0, hz1⟩ := hz.getD k
      have hnx := reg_take (flip c) zs k (by have := HL.out; omega)
      have hX := xor_in _ hb _ hz0 hz1
      have hS := fun wx => step_ok _ wx (xor_lt hb (show (zs.getD k 0).toNat < 4294967296 by omega))
      generalize reg (flip c) (zs.take k) = x at *
      generalize zs.getD k 0 = z at *
      go_wp2_with (go_at_call 235; refine (hS _).mono ?_; rintro e w' ⟨rfl, hw⟩; obtain rfl := hw.symm)
      go_round
      case rel => exact ⟨k + 1, by omega, by go_num, by rw [hnx]⟩
      case measure => simp [intOf]; omega
    · have : k = len := by omega
      subst this
      have hL := HL.out
      rw [List.take_of_length_le (by omega)]
      have hf := inv_u32 _ (reg_lt zs (flip_lt hcl) hz)
      go_wp2
      go_ret
      exact ⟨rfl, rfl⟩
theorem more_zero_ok (c cap : Nat) (a : Option Addr) (w : World) (hcl : c < 4294967296) : Calls Tryz.prog 219 #[.int .u32 c, .slice a 0 cap] w fun e w' => e = .returned (.int .u32 c) ∧ w' = w := by
  have hi := inv_u32 c hcl
  have hf := inv_u32 _ (flip_lt hcl)
  rw [flip_flip] at hf
  go_enter Tryz.func219, Tryz.ntmps219
  go_wp2
  go_loop [5, 12] (fun x i => i = .int .i64 0 ∧ x = .int .u32 (flip c : Nat)) (fun _ _ => 0)
  case atStart => exact ⟨rfl, rfl⟩
  case round =>
    obtain ⟨rfl, rfl⟩ := hrel
    go_wp2
    go_ret
    exact ⟨rfl, rfl⟩
theorem more_any (c : Nat) (a : Option Addr) (len cap : Nat) (zs : List Int) (w : World) (hcl : c < 4294967296) (hb : BV w a zs) (hl : zs.length = len) (hm : len ≤ 9223372036854775807) :
    Calls Tryz.prog 219 #[.int .u32 c, .slice a len cap] w fun e w' => e = .returned (.int .u32 (more c zs)) ∧ w' = w := by
  obtain ⟨hz, rfl | ⟨b, off, rfl, _, hc⟩⟩ := hb
  · subst hl
    rw [more_nil]
    exact more_zero_ok c cap a w hcl
  · exact more_ok c b off len cap zs w hcl hm hz hl hc
end Go.Proofs.YtbklnadlbcndlaaGreat
namespace Go.Proofs.YtbklnadlbcndlaaGreat
set_option maxRecDepth 20000
open Go.RowKit
set_option linter.unusedVariables false
def mores (c : Nat) (zss : List (List Int)) : Nat := zss.foldl more c
theorem mores_take (c : Nat) (zss : List (List Int)) (k : Nat) (h : k < zss.length) : mores c (zss.take (k + 1)) = more (mores c (zss.take k)) (zss.getD k []) := by
  unfold mores
  rw [List.take_succ_eq_append_getElem h, List.foldl_append, List.getD_eq_getElem?_getD, List.getElem?_eq_getElem h]; rfl
theorem mores_lt : ∀ (zss : List (List Int)) {c : Nat}, c < 4294967296 → (∀ zs ∈ zss, AllB zs) → mores c zss < 4294967296
  | [], _, h, _ => h
  | zs :: zss, _, h, hz => mores_lt zss (more_lt h (hz zs (by simp))) (fun y hy => hz y (by simp [hy]))
theorem mem_getD {zss : List (List Int)} {zs : List Int} (h : zs ∈ zss) : ∃ i, i < zss.length ∧ zss.getD i [] = zs := by
  obtain ⟨i, hi, e⟩ := List.mem_iff_getElem.1 h
  exact ⟨i, hi, by rw [List.getD_eq_getElem?_getD, List.getElem?_eq_getElem hi]; exact e⟩
def Parts (w : World) (g off : Nat) (zss : List (List Int)) : Prop :=
  ∀ i, i < zss.length → ∃ a c, w.cell? ⟨g, off + i, none⟩ = some (.slice a (zss.getD i []).length c) ∧ (a = none → c = 0) ∧ BV w a (zss.getD i []) ∧ (zss.getD i []).length ≤ 9223372036854775807
set_option maxHeartbeats 400000 in
theorem of_any (g off n cap : Nat) (zss : List (List Int)) (w : World) (hl : zss.length = n) (hn : n ≤ 9223372036854775807) (hp : Parts w g off zss) :
    Calls Tryz.prog 178 #[.slice (some ⟨g, off, none⟩) n cap] w fun e w' => e = .returned (.int .u32 (mores 0 zss)) ∧ w' = w := by
  have hall : ∀ zs ∈ zss, AllB zs := by
    intro zs hzs
    obtain ⟨i, hi, rfl⟩ := mem_getD hzs
    obtain ⟨a, c, _, _, hb, _⟩ := hp i hi
    exact hb.1
  have HL : Hid (zss.length = n) := hl
  clear hl
  go_enter Tryz.func178, Tryz.ntmps178
  go_wp2
  go_loop [3, 8] (fun x i => ∃ k : Nat, k ≤ n ∧ i = .int .i64 k ∧ x = .int .u32 (mores 0 (zss.take k) : Nat)) (fun _ i => n - (intOf i).toNat)
  case atStart => exact ⟨0, Nat.zero_le _, rfl, rfl⟩
  case round =>
    obtain ⟨k, hk, rfl, rfl⟩ := hrel
    by_cases hlt : k < n
    · have hb := mores_lt (zss.take k) (c := 0) (by decide) (fun y hy => hall y (List.mem_of_mem_take hy))
      obtain ⟨a, c, hck, _, hbv, hm⟩ := hp k (by have := HL.out; omega)
      have hnx := mores_take 0 zss k (by have := HL.out; omega)
      have hS := fun cc => more_any _ a _ cc _ w hb hbv rfl hm
      generalize mores 0 (zss.take k) = x at *
      generalize zss.getD k [] = zs at *
      go_wp2_with (go_at_call 219; refine (hS _).mono ?_; rintro e w' ⟨rfl, hw⟩; obtain rfl := hw.symm)
      go_round
      case rel => exact ⟨k + 1, by omega, by go_num, by rw [hnx]⟩
      case measure => simp [intOf]; omega
    · have : k = n := by omega
      subst this
      have hL := HL.out
      rw [List.take_of_length_le (by omega)]
      go_wp2
      go_ret
      exact ⟨rfl, rfl⟩
end Go.Proofs.YtbklnadlbcndlaaGreat
namespace Go.Proofs.YtbklnadlbcndlaaGreat
set_option maxRecDepth 20000
open Go.RowKit
set_option linter.unusedVariables false
theorem two8 (x : Nat) : (2 : Int) ^ (8 * x) = 256 ^ x := by rw [Int.pow_mul]; rfl
def rowAt (n : Int) (x k : Nat) : List Value := List.replicate (x - k) (Value.int .u8 0) ++ (dig n k).map (Value.int .u8)
theorem rowAt_zero (n : Int) (x : Nat) : rowAt n x 0 = List.replicate x (Value.int .u8 0) := by simp [rowAt, dig]
theorem rowAt_full (n : Int) (x : Nat) : rowAt n x x = (dig n x).map (Value.int .u8) := by simp [rowAt]
theorem rowAt_set (n : Int) (x k : Nat) (h : k < x) : (rowAt n x k).set (x - 1 - k) (.int .u8 (n / 256 ^ k % 256)) = rowAt n x (k + 1) := by
  unfold rowAt
  obtain ⟨d, rfl⟩ := Nat.exists_eq_add_of_lt h
  have e1 : k + d + 1 - k = d + 1 := by omega
  have e2 : k + d + 1 - 1 - k = d := by omega
  have e3 : k + d + 1 - (k + 1) = d := by omega
  rw [e1, e2, e3, dig_cons, List.replicate_succ', List.append_assoc, List.set_append_right _ _ (by simp)]
  simp
set_option maxHeartbeats 400000 in
theorem lay_ok (n : Nat) (w : World) (_hn : n < 4294967296) :
    Calls Tryz.prog 177 #[.int .u32 n] w fun e w' => ∃ v, e = .returned v ∧ w'.ownsRow w.heap.size 5 1 v 4 ((dig n 4).map (Value.int .u8)) ∧ Below w.heap.size w w' := by
  obtain ⟨i0, hi, hz0, hz1, hz2⟩ := info_parts Tryz.info5
  go_enter Tryz.func177, Tryz.ntmps177
  go_wp2_with (at_make; refine wpList_make_full _ rfl _ _ 29 rfl w.heap.size 5 i0 (.int .u8 0) 1 Tryz.underlying29 hi hz0 hz1 .i64 .i64 _ _ 4 rfl rfl rfl rfl ?c2 ?c3 (Nat.le_refl _) ?_)
  case c2 => rw [hz2]; omega
  case c3 => unfold maxLen; omega
  intro w1 hown hg
  have hb1 : Below w.heap.size w w1 := (Below.refl _ _).grown hg (Nat.le_refl _) (by intro k hk; cases hk)
  have hown1 : w1.ownsRow w.heap.size 5 1 (.slice (some ⟨w.heap.size, 0, none⟩) 4 4) 4 (rowAt n 4 0) := by
    rw [toList_madeCells_one] at hown; rw [rowAt_zero]; exact hown
  clear hown hg
  go_wp2
  go_loopw [6] (fun i wr => ∃ k : Nat, k ≤ 4 ∧ i = .int .i64 k ∧ wr.ownsRow w.heap.size 5 1 (.slice (some ⟨w.heap.size, 0, none⟩) 4 4) 4 (rowAt n 4 k) ∧ Below w.heap.size w wr) (fun i _ => 4 - (intOf i).toNat)
  case atStart => exact ⟨0, Nat.zero_le _, rfl, hown1, hb1⟩
  case round =>
    obtain ⟨k, hk, rfl, hown, hb⟩ := hrel
    clear hown1 hb1
    by_cases hlt : k < 4
    · have hfz := hown.frozenAt (3 - k)
      obtain ⟨u, hu⟩ : ∃ u, wr.cell? ⟨w.heap.size, 3 - k, none⟩ = some u := by
        rw [hown.cellAt (3 - k) (by omega)]
        have : 3 - k < (rowAt n 4 k).length := by rw [hown.1]; omega
        exact ⟨_, List.getElem?_eq_getElem this⟩
      have hst := hown.stored (3 - k) (.int .u8 (n / 2 ^ (8 * k) % 256))
      have HO : Hid ((wr.setCell ⟨w.heap.size, 3 - k, none⟩ (.int .u8 (n / 2 ^ (8 * k) % 256))).ownsRow w.heap.size 5 1 (.slice (some ⟨w.heap.size, 0, none⟩) 4 4) 4 (rowAt n 4 (k + 1))) := by
        have h := hst.1
        have e := rowAt_set n 4 k hlt
        rw [← two8] at e
        rw [show 3 - k = 4 - 1 - k by omega] at h ⊢
        rw [e] at h
        exact h
      have HB : Hid (Below w.heap.size w (wr.setCell ⟨w.heap.size, 3 - k, none⟩ (.int .u8 (n / 2 ^ (8 * k) % 256)))) := hb.setCell (Nat.le_refl _) _
      clear hst hown hb
      go_wp2
      go_roundw
      case rel => exact ⟨k + 1, by omega, by go_num, HO.out, HB.out⟩
      case measure => simp [intOf]; omega
    · have : k = 4 := by omega
      subst this
      rw [rowAt_full] at hown
      go_wp2
      go_ret
      exact ⟨_, rfl, hown, hb⟩
theorem lay_any (n : Nat) (w : World) (hn : n < 4294967296) :
    Calls Tryz.prog 177 #[.int .u32 n] w fun e w' => ∃ v, e = .returned v ∧ Own w' w.heap.size v (dig n 4) ∧ Below w.heap.size w w' := by
  refine (lay_ok n w hn).mono ?_
  rintro e w' ⟨v, rfl, ho, hb⟩
  refine ⟨v, rfl, ?_, hb⟩
  unfold Own
  rw [dig_length]
  exact ho
end Go.Proofs.YtbklnadlbcndlaaGreat
namespace Go.Proofs.YtbklnadlbcndlaaGreat
set_option maxRecDepth 20000
open Go.RowKit
set_option linter.unusedVariables false
theorem lim (x : Nat) (h : x ≤ 6) : wrap64 (2 ^ (8 * x)) = 256 ^ x := by
  rw [two8]
  have := pow_le h
  have p := pow_pos x
  have q : (256 : Int) ^ 6 = 281474976710656 := by decide
  unfold wrap64; omega
set_option maxHeartbeats 400000 in
theorem put_ok (n : Int) (x : Nat) (w : World) (h1 : 1 ≤ x) (h6 : x ≤ 6) (h0 : 0 ≤ n) (hn : n < 256 ^ x) :
    Calls Tryz.prog 176 #[.int .i64 n, .int .i64 x] w fun e w' => ∃ v, e = .returned (.tuple #[v, .int .i64 0]) ∧ w'.ownsRow w.heap.size 5 1 v x ((dig n x).map (Value.int .u8)) ∧ Below w.heap.size w w' := by
  obtain ⟨i0, hi, hz0, hz1, hz2⟩ := info_parts Tryz.info5
  have hlim : n < wrap64 (2 ^ (8 * x)) := by rw [lim x h6]; exact hn
  have hmx : n < 281474976710656 := by have := pow_le h6; have q : (256 : Int) ^ 6 = 281474976710656 := by decide
                                       omega
  clear hn
  go_enter Tryz.func176, Tryz.ntmps176
  go_wp2_with (first | (go_at_call 218; refine (mayBe_yes _ _ (by omega) (by omega)).mono ?_; rintro e w' ⟨rfl, hw⟩; obtain rfl := hw.symm) | (at_make; refine wpList_make_full _ rfl _ _ 29 rfl w.heap.size 5 i0 (.int .u8 0) 1 Tryz.underlying29 hi hz0 hz1 .i64 .i64 _ _ x rfl rfl rfl rfl ?c2 ?c3 (Nat.le_refl _) ?_))
  case c2 => rw [hz2]; omega
  case c3 => unfold maxLen; omega
  intro w1 hown hg
  have hb1 : Below w.heap.size w w1 := (Below.refl _ _).grown hg (Nat.le_refl _) (by intro k hk; cases hk)
  have hown1 : w1.ownsRow w.heap.size 5 1 (.slice (some ⟨w.heap.size, 0, none⟩) x x) x (rowAt n x 0) := by
    rw [toList_madeCells_one] at hown; rw [rowAt_zero]; exact hown
  clear hown hg hlim
  go_wp2
  go_loopw [23] (fun i wr => ∃ k : Nat, k ≤ x ∧ i = .int .i64 k ∧ wr.ownsRow w.heap.size 5 1 (.slice (some ⟨w.heap.size, 0, none⟩) x x) x (rowAt n x k) ∧ Below w.heap.size w wr) (fun i _ => x - (intOf i).toNat)
  case atStart => exact ⟨0, Nat.zero_le _, rfl, hown1, hb1⟩
  case round =>
    obtain ⟨k, hk, rfl, hown, hb⟩ := hrel
    clear hown1 hb1
    by_cases hlt : k < x
    · have hfz := hown.frozenAt (x - 1 - k)
      obtain ⟨u, hu⟩ : ∃ u, wr.cell? ⟨w.heap.size, x - 1 - k, none⟩ = some u := by
        rw [hown.cellAt (x - 1 - k) (by omega)]
        have : x - 1 - k < (rowAt n x k).length := by rw [hown.1]; omega
        exact ⟨_, List.getElem?_eq_getElem this⟩
      have hst := hown.stored (x - 1 - k) (.int .u8 (n / 2 ^ (8 * k) % 256))
      have HO : Hid ((wr.setCell ⟨w.heap.size, x - 1 - k, none⟩ (.int .u8 (n / 2 ^ (8 * k) % 256))).ownsRow w.heap.size 5 1 (.slice (some ⟨w.heap.size, 0, none⟩) x x) x (rowAt n x (k + 1))) := by
        have h := hst.1
        have e := rowAt_set n x k hlt
        rw [← two8] at e
        rw [e] at h
        exact h
      have HB : Hid (Below w.heap.size w (wr.setCell ⟨w.heap.size, x - 1 - k, none⟩ (.int .u8 (n / 2 ^ (8 * k) % 256)))) := hb.setCell (Nat.le_refl _) _
      clear hst hown hb
      go_wp2
      go_roundw
      case rel => exact ⟨k + 1, by omega, by go_num, HO.out, HB.out⟩
      case measure => simp [intOf]; omega
    · have : k = x := by omega
      subst this
      rw [rowAt_full] at hown
      go_wp2
      go_ret2
      exact ⟨_, rfl, hown, hb⟩
set_option maxHeartbeats 400000 in
theorem put_arg (n x : Int) (w : World) (h : x < 1 ∨ 6 < x) :
    Calls Tryz.prog 176 #[.int .i64 n, .int .i64 x] w fun e w' => e = .returned (.tuple #[.slice none 0 0, .int .i64 2]) ∧ w' = w := by
  go_enter Tryz.func176, Tryz.ntmps176
  go_wp2_with (go_at_call 218; refine (mayBe_no _ _ h).mono ?_; rintro e w' ⟨rfl, rfl⟩)
  go_ret2
  exact ⟨rfl, rfl⟩
set_option maxHeartbeats 400000 in
theorem put_range (n : Int) (x : Nat) (w : World) (h1 : 1 ≤ x) (h6 : x ≤ 6) (hn : n < 0 ∨ 256 ^ x ≤ n) :
    Calls Tryz.prog 176 #[.int .i64 n, .int .i64 x] w fun e w' => e = .returned (.tuple #[.slice none 0 0, .int .i64 12]) ∧ w' = w := by
  rw [← lim x h6] at hn
  by_cases h0 : n < 0
  · go_enter Tryz.func176, Tryz.ntmps176
    go_wp2_with (go_at_call 218; refine (mayBe_yes _ _ (by omega) (by omega)).mono ?_; rintro e w' ⟨rfl, rfl⟩)
    go_ret2
    exact ⟨rfl, rfl⟩
  · have h : wrap64 (2 ^ (8 * x)) ≤ n := by omega
    clear hn
    go_enter Tryz.func176, Tryz.ntmps176
    go_wp2_with (go_at_call 218; refine (mayBe_yes _ _ (by omega) (by omega)).mono ?_; rintro e w' ⟨rfl, rfl⟩)
    go_ret2
    exact ⟨rfl, rfl⟩
def putE (n x : Int) : Int := if x < 1 ∨ 6 < x then 2 else if n < 0 ∨ 256 ^ x.toNat ≤ n then 12 else 0
def putL (n x : Int) : List Int := if x < 1 ∨ 6 < x then [] else if n < 0 ∨ 256 ^ x.toNat ≤ n then [] else dig n x.toNat
theorem putL_all (n x : Int) : AllB (putL n x) := by
  unfold putL
  split
  · exact AllB.nil
  · split
    · exact AllB.nil
    · exact dig_all _ _
theorem put_any (n x : Int) (w : World) :
    Calls Tryz.prog 176 #[.int .i64 n, .int .i64 x] w fun e w' => ∃ v, e = .returned (.tuple #[v, .int .i64 (putE n x)]) ∧ Own w' w.heap.size v (putL n x) ∧ Below w.heap.size w w' := by
  unfold putE putL
  by_cases h : x < 1 ∨ 6 < x
  · rw [if_pos h, if_pos h]
    refine (put_arg n x w h).mono ?_
    rintro e w' ⟨rfl, hw⟩
    obtain rfl := hw.symm
    exact ⟨_, rfl, Own.nil _ _, Below.refl _ _⟩
  · rw [if_neg h, if_neg h]
    obtain ⟨y, rfl⟩ := Int.eq_ofNat_of_zero_le (show 0 ≤ x by omega)
    rw [Int.toNat_natCast]
    by_cases h2 : n < 0 ∨ 256 ^ y ≤ n
    · rw [if_pos h2, if_pos h2]
      refine (put_range n y w (by omega) (by omega) h2).mono ?_
      rintro e w' ⟨rfl, hw⟩
      obtain rfl := hw.symm
      exact ⟨_, rfl, Own.nil _ _, Below.refl _ _⟩
    · rw [if_neg h2, if_neg h2]
      refine (put_ok n y w (by omega) (by omega) (by omega) (by omega)).mono ?_
      rintro e w' ⟨v, rfl, ho, hb⟩
      refine ⟨v, rfl, ?_, hb⟩
      unfold Own
      rw [dig_length]
      exact ho
end Go.Proofs.YtbklnadlbcndlaaGreat
namespace Go.Proofs.YtbklnadlbcndlaaGreat
set_option maxRecDepth 20000
open Go.RowKit
set_option linter.unusedVariables false
def pw (k : Nat) : Int := 256 ^ k
end Go.Proofs.YtbklnadlbcndlaaGreat
namespace Go.Proofs.YtbklnadlbcndlaaGreat
set_option maxRecDepth 20000
open Go.RowKit
set_option linter.unusedVariables false
set_option maxHeartbeats 400000 in
theorem clone_nil (w : World) :
    Calls Tryz.prog 180 #[.slice none 0 0] w fun e w' => e = .returned (.slice none 0 0) ∧ w' = w := by
  have heq := fun wx => Lib.run_eql_slice_nil (P := Tryz.prog) wx 29 5 none 0 0 0 0 Tryz.underlying29
  go_enter Tryz.func180, Tryz.ntmps180
  go_wp2
  go_ret
  exact ⟨rfl, rfl⟩
set_option maxHeartbeats 400000 in
theorem clone_some (x : Addr) (cap : Nat) (zs : List Int) (w : World) (hb : BV w (some x) zs) (hm : zs.length ≤ 1000000) :
    Calls Tryz.prog 180 #[.slice (some x) zs.length cap] w fun e w' => ∃ v, e = .returned v ∧ Own w' w.heap.size v zs ∧ Below w.heap.size w w' := by
  obtain ⟨i0, hi, hz0, hz1, hz2⟩ := info_parts Tryz.info5
  have hlit : (w.alloc (.cells #[] 5)).ownsRow w.heap.size 5 1 (.slice (some ⟨w.heap.size, 0, none⟩) 0 0) 0 [] := World.ownsRow_lit w #[] 0 (Nat.le_refl _) (by decide) rfl
  have hcs : ∀ j u, (zs.map (Value.int .u8))[j]? = some u → (w.alloc (.cells #[] 5)).cell? (x.add j) = some u := by
    intro j u hu
    rw [List.getElem?_map] at hu
    obtain ⟨z, hz, rfl⟩ := Option.map_eq_some_iff.1 hu
    have hj := (List.getElem?_eq_some_iff.1 hz).1
    obtain ⟨_, h1 | ⟨b, off, hx, hlt, hc⟩⟩ := hb
    · subst h1; simp at hj
    · obtain rfl := Option.some.inj hx
      rw [add_plain]
      have := hc j hj
      rw [List.getD_eq_getElem?_getD, hz] at this
      exact (Below.cell ((Below.refl w.heap.size w).alloc (Nat.le_refl _) _) (p := ⟨b, off + j, none⟩) hlt).trans this
  clear hb
  have heq := fun wx => Lib.run_eql_slice_nil (P := Tryz.prog) wx 29 5 (some x) zs.length cap 0 0 Tryz.underlying29
  go_enter Tryz.func180, Tryz.ntmps180
  go_wp2_with (at_builtin; refine wpList_append_own _ rfl _ _ 29 rfl w.heap.size 5 i0 (.int .u8 0) 1 1 Tryz.underlying29 hi hz0 hz1 hz2 rfl (by decide) _ 0 _ rfl hlit x zs.length cap (zs.map (Value.int .u8)) rfl ?c0 hcs (u8row _) ?c3 ?c4 ?c5 ?_)
  case c0 => simp
  case c3 => unfold maxLen; omega
  case c4 => omega
  case c5 => simp
  intro v' w1 hown hgrow _
  have HB : Hid (Below w.heap.size w w1) := ((Below.refl _ _).alloc (Nat.le_refl _) _).grown hgrow (by simp) (by intro j hj; simp [Value.ownBlock] at hj; omega)
  have HO : Hid (Own w1 w.heap.size v' zs) := by
    simpa [Own, Hid] using hown
  clear hgrow hlit hcs hown
  go_wp2
  go_ret
  exact ⟨_, rfl, HO, HB⟩
theorem clone_any (a : Option Addr) (cap : Nat) (zs : List Int) (w : World) (hb : BV w a zs) (hm : zs.length ≤ 1000000) (hn : a = none → cap = 0) :
    Calls Tryz.prog 180 #[.slice a zs.length cap] w fun e w' => ∃ v, e = .returned v ∧ Own w' w.heap.size v zs ∧ Below w.heap.size w w' := by
  cases a with
  | none =>
    obtain rfl := hn rfl
    obtain rfl : zs = [] := slice_some_len hb rfl
    refine (clone_nil w).mono ?_
    rintro e w' ⟨rfl, hw⟩
    obtain rfl := hw.symm
    exact ⟨_, rfl, Own.nil _ _, Below.refl _ _⟩
  | some x => exact clone_some x cap zs w hb hm
end Go.Proofs.YtbklnadlbcndlaaGreat
namespace Go.Proofs.YtbklnadlbcndlaaGreat.B
set_option maxRecDepth 20000
open Go.RowKit
theorem Tryz.info5 : (Tryz.prog.info? 5).map (fun i => (i.zero, i.size, i.bytes)) = some (some (.int .u8 0), 1, 1) := by kernel_rfl

def BV (w : World) (a : Option Addr) (zs : List Int) : Prop :=
  AllB zs ∧ (zs = [] ∨ ∃ b off, a = some ⟨b, off, none⟩ ∧ b < w.heap.size ∧ ∀ i, i < zs.length → w.cell? ⟨b, off + i, none⟩ = some (.int .u8 (zs.getD i 0)))

def Own (w : World) (base : Nat) (v : Value) (zs : List Int) : Prop := w.ownsRow base 5 1 v zs.length (zs.map (Value.int .u8))

theorem Own.nil (w : World) (base : Nat) : Own w base (.slice none 0 0) [] := World.ownsRow_nil w base 5 1

theorem u8row (zs : List Int) : ∀ u ∈ zs.map (Value.int .u8), u.oneCell' = true := by
  intro u hu; obtain ⟨z, _, rfl⟩ := List.mem_map.1 hu; rfl
theorem Own.view {w : World} {base : Nat} {v : Value} {zs : List Int} (h : Own w base v zs) (hz : AllB zs) :
    ∃ a cap, v = .slice a zs.length cap ∧ zs.length ≤ cap ∧ cap ≤ maxLen ∧ AllB zs ∧ (zs = [] ∨ ∃ b off, a = some ⟨b, off, none⟩ ∧ base ≤ b ∧ b < w.heap.size ∧ ∀ i, i < zs.length → w.cell? ⟨b, off + i, none⟩ = some (.int .u8 (zs.getD i 0))) := by
  have hl := World.ownsRow.lt h
  rcases h.2 with ⟨rfl, hn⟩ | ⟨g, cap, cur, rfl, hb, hg, hnc, hcm, hcs, htake⟩
  · refine ⟨none, 0, by rw [hn], by omega, by decide, hz, .inl (List.eq_nil_of_length_eq_zero hn)⟩
  · refine ⟨_, cap, rfl, hnc, hcm, hz, .inr ⟨g, 0, rfl, hb, (hl g rfl).2, ?_⟩⟩
    intro i hi
    have hc := World.ownsRow.cellAt (g := g) h i (by omega)
    rw [Nat.zero_add, hc, List.getElem?_map, List.getElem?_eq_getElem hi, List.getD_eq_getElem?_getD, List.getElem?_eq_getElem hi]
    rfl
theorem Own.below {w w' : World} {base : Nat} {v : Value} {zs : List Int} (h : Own w base v zs) (hb : Below w.heap.size w w') : Own w' base v zs := by
  refine ⟨h.1, ?_⟩
  have hl := World.ownsRow.lt h
  rcases h.2 with hn | ⟨g, cap, cur, rfl, hbb, hg, rest⟩
  · exact .inl hn
  · exact .inr ⟨g, cap, cur, rfl, hbb, (hb.block g (hl g rfl).2).trans hg, rest⟩
theorem BV.below {w w' : World} {a : Option Addr} {zs : List Int} (h : BV w a zs) (hb : Below w.heap.size w w') : BV w' a zs := by
  obtain ⟨hz, h1 | ⟨b, off, rfl, hlt, hc⟩⟩ := h
  · exact ⟨hz, .inl h1⟩
  · exact ⟨hz, .inr ⟨b, off, rfl, Nat.lt_of_lt_of_le hlt hb.size, fun i hi => (hb.cell (p := ⟨b, off + i, none⟩) hlt).trans (hc i hi)⟩⟩

theorem add_plain (b off j : Nat) : (⟨b, off, none⟩ : Addr).add j = ⟨b, off + j, none⟩ := by unfold Addr.add; split <;> simp_all

theorem Own.shape {w : World} {base : Nat} {v : Value} {zs : List Int} (h : Own w base v zs) (n : Nat) (hn : zs.length = n) (hp : 0 < n) : ∃ g cap, v = .slice (some ⟨g, 0, none⟩) n cap ∧ n ≤ cap ∧ base ≤ g ∧ g < w.heap.size := by
  subst hn
  have hl := World.ownsRow.lt h
  rcases h.2 with ⟨rfl, hn⟩ | ⟨g, cap, cur, rfl, hb, hg, hnc, hcm, hcs, htake⟩
  · omega
  · exact ⟨g, cap, rfl, hnc, hb, (hl g rfl).2⟩
theorem Own.bv {w : World} {base : Nat} {a : Option Addr} {n cap : Nat} {zs : List Int} (h : Own w base (.slice a n cap) zs) (hz : AllB zs) : BV w a zs := by
  obtain ⟨a', cap', e, _, _, _, hb⟩ := h.view hz
  obtain ⟨rfl, _, _⟩ := Value.slice.inj e
  refine ⟨hz, ?_⟩
  rcases hb with h1 | ⟨b, off, e, _, h2, h3⟩
  · exact .inl h1
  · exact .inr ⟨b, off, e, h2, h3⟩

theorem slice_some_len {a : Option Addr} {zs : List Int} {w : World} (hb : BV w a zs) (ha : a = none) : zs = [] := by
  subst ha
  rcases hb.2 with h | ⟨b, off, h, _⟩
  · exact h
  · cases h
end Go.Proofs.YtbklnadlbcndlaaGreat.B
namespace Go.Proofs.YtbklnadlbcndlaaGreat.B
set_option maxRecDepth 20000
open Go.RowKit
set_option maxHeartbeats 400000 in
theorem clone_nil (w : World) :
    Calls Tryz.prog 180 #[.slice none 0 0] w fun e w' => e = .returned (.slice none 0 0) ∧ w' = w := by
  have heq := fun wx => Lib.run_eql_slice_nil (P := Tryz.prog) wx 29 5 none 0 0 0 0 Tryz.underlying29
  go_enter Tryz.func180, Tryz.ntmps180
  go_wp2
  go_ret
  exact ⟨rfl, rfl⟩
set_option maxHeartbeats 400000 in
theorem clone_some (x : Addr) (cap : Nat) (zs : List Int) (w : World) (hb : BV w (some x) zs) (hm : zs.length ≤ 1000000) :
    Calls Tryz.prog 180 #[.slice (some x) zs.length cap] w fun e w' => ∃ v, e = .returned v ∧ Own w' w.heap.size v zs ∧ Below w.heap.size w w' := by
  obtain ⟨i0, hi, hz0, hz1, hz2⟩ := info_parts Tryz.info5
  have hlit : (w.alloc (.cells #[] 5)).ownsRow w.heap.size 5 1 (.slice (some ⟨w.heap.size, 0, none⟩) 0 0) 0 [] := World.ownsRow_lit w #[] 0 (Nat.le_refl _) (by decide) rfl
  have hcs : ∀ j u, (zs.map (Value.int .u8))[j]? = some u → (w.alloc (.cells #[] 5)).cell? (x.add j) = some u := by
    intro j u hu
    rw [List.getElem?_map] at hu
    obtain ⟨z, hz, rfl⟩ := Option.map_eq_some_iff.1 hu
    have hj := (List.getElem?_eq_some_iff.1 hz).1
    obtain ⟨_, h1 | ⟨b, off, hx, hlt, hc⟩⟩ := hb
    · subst h1; simp at hj
    · obtain rfl := Option.some.inj hx
      rw [add_plain]
      have := hc j hj
      rw [List.getD_eq_getElem?_getD, hz] at this
      exact (Below.cell ((Below.refl w.heap.size w).alloc (Nat.le_refl _) _) (p := ⟨b, off + j, none⟩) hlt).trans this
  clear hb
  have heq := fun wx => Lib.run_eql_slice_nil (P := Tryz.prog) wx 29 5 (some x) zs.length cap 0 0 Tryz.underlying29
  go_enter Tryz.func180, Tryz.ntmps180
  go_wp2_with (at_builtin; refine wpList_append_own _ rfl _ _ 29 rfl w.heap.size 5 i0 (.int .u8 0) 1 1 Tryz.underlying29 hi hz0 hz1 hz2 rfl (by decide) _ 0 _ rfl hlit x zs.length cap (zs.map (Value.int .u8)) rfl ?c0 hcs (u8row _) ?c3 ?c4 ?c5 ?_)
  case c0 => simp
  case c3 => unfold maxLen; omega
  case c4 => omega
  case c5 => simp
  intro v' w1 hown hgrow _
  have HB : Hid (Below w.heap.size w w1) := ((Below.refl _ _).alloc (Nat.le_refl _) _).grown hgrow (by simp) (by intro j hj; simp [Value.ownBlock] at hj; omega)
  have HO : Hid (Own w1 w.heap.size v' zs) := by
    simpa [Own, Hid] using hown
  clear hgrow hlit hcs hown
  go_wp2
  go_ret
  exact ⟨_, rfl, HO, HB⟩

theorem clone_any (a : Option Addr) (cap : Nat) (zs : List Int) (w : World) (hb : BV w a zs) (hm : zs.length ≤ 1000000) (hn : a = none → cap = 0) :
    Calls Tryz.prog 180 #[.slice a zs.length cap] w fun e w' => ∃ v, e = .returned v ∧ Own w' w.heap.size v zs ∧ Below w.heap.size w w' := by
  cases a with
  | none =>
    obtain rfl := hn rfl
    obtain rfl : zs = [] := slice_some_len hb rfl
    refine (clone_nil w).mono ?_
    rintro e w' ⟨rfl, hw⟩
    obtain rfl := hw.symm
    exact ⟨_, rfl, Own.nil _ _, Below.refl _ _⟩
  | some x => exact clone_some x cap zs w hb hm
end Go.Proofs.YtbklnadlbcndlaaGreat.B
namespace Go.Proofs.YtbklnadlbcndlaaGreat
set_option maxRecDepth 20000
open Go.RowKit
set_option linter.unusedVariables false
set_option linter.unusedSimpArgs false
structure Fr where
  id : Int
  kd : Int
  zs : List Int
  pn : Int
  dt : Bool
structure PS where
  lim : Int
  fs : List Fr
  hits : Int
  miss : Int
def incI (n : Int) : Int := wrap64 (n + 1)
def pf (b : Nat) : Value := .pointer (some ⟨b, 0, none⟩)
def FrB (w : World) (b : Nat) (f : Fr) (v : Value) : Prop :=
  w.heap[b]? = some (.cells #[.int .i64 f.id, .int .i64 f.kd, v, .int .i64 f.pn, .bool f.dt] 106 (0, 0))
structure FrC (w : World) (b : Nat) (f : Fr) (v : Value) : Prop where
  c0 : w.cell? ⟨b, 0, none⟩ = some (.int .i64 f.id)
  c1 : w.cell? ⟨b, 1, none⟩ = some (.int .i64 f.kd)
  c2 : w.cell? ⟨b, 2, none⟩ = some v
  c3 : w.cell? ⟨b, 3, none⟩ = some (.int .i64 f.pn)
  c4 : w.cell? ⟨b, 4, none⟩ = some (.bool f.dt)
  f : ∀ i, w.frozen? ⟨b, i, none⟩ = false
theorem FrB.cells {w : World} {b : Nat} {f : Fr} {v : Value} (h : FrB w b f v) : FrC w b f v := by
  refine ⟨?_, ?_, ?_, ?_, ?_, ?_⟩ <;> first
    | (rw [cell_of_row _ _ _ _ _ _ h]; rfl)
    | (intro i; exact frozen_of_row _ _ _ _ _ h)
theorem FrB.lt {w : World} {b : Nat} {f : Fr} {v : Value} (h : FrB w b f v) : b < w.heap.size := (Array.getElem?_eq_some_iff.1 h).1
theorem FrB.set1 {w : World} {b : Nat} {f : Fr} {v : Value} (h : FrB w b f v) (x : Int) : FrB (w.setCell ⟨b, 1, none⟩ (.int .i64 x)) b { f with kd := x } v := heap_setCell_same w b _ _ 106 _ h
theorem FrB.set2 {w : World} {b : Nat} {f : Fr} {v : Value} (h : FrB w b f v) (u : Value) (zs : List Int) : FrB (w.setCell ⟨b, 2, none⟩ u) b { f with zs := zs } u := heap_setCell_same w b _ _ 106 _ h
theorem FrB.set3 {w : World} {b : Nat} {f : Fr} {v : Value} (h : FrB w b f v) (x : Int) : FrB (w.setCell ⟨b, 3, none⟩ (.int .i64 x)) b { f with pn := x } v := heap_setCell_same w b _ _ 106 _ h
theorem FrB.set4 {w : World} {b : Nat} {f : Fr} {v : Value} (h : FrB w b f v) (x : Bool) : FrB (w.setCell ⟨b, 4, none⟩ (.bool x)) b { f with dt := x } v := heap_setCell_same w b _ _ 106 _ h
def PoB (w : World) (q p : Nat) (lim : Int) (row : Value) (h m : Int) : Prop :=
  w.heap[q]? = some (.cells #[pf p, .int .i64 lim, row, .int .i64 h, .int .i64 m] 101 (0, 0))
structure PoC (w : World) (q p : Nat) (lim : Int) (row : Value) (h m : Int) : Prop where
  c0 : w.cell? ⟨q, 0, none⟩ = some (pf p)
  c1 : w.cell? ⟨q, 1, none⟩ = some (.int .i64 lim)
  c2 : w.cell? ⟨q, 2, none⟩ = some row
  c3 : w.cell? ⟨q, 3, none⟩ = some (.int .i64 h)
  c4 : w.cell? ⟨q, 4, none⟩ = some (.int .i64 m)
  f : ∀ i, w.frozen? ⟨q, i, none⟩ = false
theorem PoB.cells {w : World} {q p : Nat} {lim : Int} {row : Value} {x y : Int} (h : PoB w q p lim row x y) : PoC w q p lim row x y := by
  refine ⟨?_, ?_, ?_, ?_, ?_, ?_⟩ <;> first
    | (rw [cell_of_row _ _ _ _ _ _ h]; rfl)
    | (intro i; exact frozen_of_row _ _ _ _ _ h)
theorem PoB.lt {w : World} {q p : Nat} {lim : Int} {row : Value} {x y : Int} (h : PoB w q p lim row x y) : q < w.heap.size := (Array.getElem?_eq_some_iff.1 h).1
theorem PoB.set2 {w : World} {q p : Nat} {lim : Int} {row : Value} {x y : Int} (h : PoB w q p lim row x y) (u : Value) : PoB (w.setCell ⟨q, 2, none⟩ u) q p lim u x y := heap_setCell_same w q _ _ 101 _ h
theorem PoB.set3 {w : World} {q p : Nat} {lim : Int} {row : Value} {x y : Int} (h : PoB w q p lim row x y) (n : Int) : PoB (w.setCell ⟨q, 3, none⟩ (.int .i64 n)) q p lim row n y := heap_setCell_same w q _ _ 101 _ h
theorem PoB.set4 {w : World} {q p : Nat} {lim : Int} {row : Value} {x y : Int} (h : PoB w q p lim row x y) (n : Int) : PoB (w.setCell ⟨q, 4, none⟩ (.int .i64 n)) q p lim row x n := heap_setCell_same w q _ _ 101 _ h

abbrev FL := List (Nat × Fr)
def FL.ps (L : FL) : List Value := L.map (fun x => pf x.1)
def FL.fs (L : FL) : List Fr := L.map (fun x => x.2)
def FL.bs (L : FL) : List Nat := L.map (fun x => x.1)
def RowB (w : World) (base : Nat) (row : Value) (L : FL) : Prop := w.ownsRow base 102 1 row L.length L.ps

def AsksF (w : World) (k : Nat) (caps : Array Value) (pr : Fr → Bool) : Prop :=
  (∀ args w', Sem.run Tryz.prog (callFunc k args) w' = .ok (.enter k args) w') ∧ ∀ w', Below w.heap.size w w' → ∀ b f v, FrB w' b f v → Calls Tryz.prog k (#[pf b] ++ caps) w' fun e w'' => e = .returned (.bool (pr f)) ∧ Below w'.heap.size w' w''
theorem AsksF.below {w w' : World} {k : Nat} {caps : Array Value} {pr : Fr → Bool} (h : AsksF w k caps pr) (hb : Below w.heap.size w w') : AsksF w' k caps pr :=
  ⟨h.1, fun v hv => h.2 v (hb.trans (hv.mono hb.size))⟩
def hasId (id : Int) (f : Fr) : Bool := f.id == id
def loose (f : Fr) : Bool := f.pn == 0
theorem asks116 (w : World) : AsksF w 116 #[] loose := by
  refine ⟨fun args w' => rfl, ?_⟩
  intro w' hb b f v hf
  have hc := hf.cells
  have c3 := hc.c3
  unfold pf loose
  clear hf hc
  go_enter Tryz.func116, Tryz.ntmps116
  go_wp2
  go_ret
  exact ⟨rfl, Below.refl _ _⟩
theorem asks125 (w : World) (x : Nat) (id : Int) (hx : x < w.heap.size) (hc : w.cell? ⟨x, 0, none⟩ = some (.int .i64 id)) : AsksF w 125 #[.pointer (some ⟨x, 0, none⟩)] (hasId id) := by
  refine ⟨fun args w' => rfl, ?_⟩
  intro w' hb b f v hf
  have c0 := hf.cells.c0
  have cx : w'.cell? ⟨x, 0, none⟩ = some (.int .i64 id) := by
    simp only [World.cell?, hb.block x hx] at hc ⊢; exact hc
  unfold pf hasId
  clear hf hc
  go_enter Tryz.func125, Tryz.ntmps125
  go_wp2_with fail
  go_region
  go_wp2
  go_ret
  exact ⟨rfl, (Below.refl _ _).drew⟩
theorem holding_any (id : Int) (w : World) : Calls Tryz.prog 58 #[.int .i64 id] w fun e w' => e = .returned (.func (.func 125) #[] #[.pointer (some ⟨w.heap.size, 0, none⟩)]) ∧ Below w.heap.size w w' ∧ AsksF w' 125 #[.pointer (some ⟨w.heap.size, 0, none⟩)] (hasId id) := by
  go_enter Tryz.func58, Tryz.ntmps58
  go_wp2
  go_ret
  refine ⟨rfl, (Below.refl _ _).alloc (Nat.le_refl _) _, asks125 _ _ _ (by simp) ?_⟩
  go_simp

def idxF (fs : List Fr) (pr : Fr → Bool) : Int := if fs.findIdx pr < fs.length then (fs.findIdx pr : Int) else -1
theorem FL.fs_len (L : FL) : L.fs.length = L.length := by simp [FL.fs]
theorem FL.fs_get (L : FL) (j : Nat) (h : j < L.length) : L.fs[j]? = some L[j].2 := by simp [FL.fs, h]
theorem idxF_hit {fs : List Fr} {pr : Fr → Bool} {j : Nat} {f : Fr} (hj : fs[j]? = some f) (hno : ∀ m, m < j → ∀ g, fs[m]? = some g → pr g = false) (hq : pr f = true) : idxF fs pr = j := by
  have hlt : j < fs.length := (List.getElem?_eq_some_iff.1 hj).1
  have e : fs.findIdx pr = j := by
    rw [List.findIdx_eq hlt]
    refine ⟨by rw [← (List.getElem?_eq_some_iff.1 hj).2] at hq; exact hq, fun m hm => ?_⟩
    exact hno m hm _ (List.getElem?_eq_getElem (by omega))
  unfold idxF
  rw [e, if_pos hlt]
theorem idxF_none {fs : List Fr} {pr : Fr → Bool} (hno : ∀ m, m < fs.length → ∀ g, fs[m]? = some g → pr g = false) : idxF fs pr = -1 := by
  have e : fs.findIdx pr = fs.length := by
    rw [List.findIdx_eq_length]
    intro x hx
    obtain ⟨m, hm, rfl⟩ := List.getElem_of_mem hx
    exact hno m hm _ (List.getElem?_eq_getElem hm)
  unfold idxF
  rw [e, if_neg (Nat.lt_irrefl _)]
theorem RowB.shape {w : World} {base : Nat} {row : Value} {L : FL} (h : RowB w base row L) : ∃ a cap, row = .slice a L.length cap ∧ (a = none → cap = 0) ∧ L.length ≤ cap ∧ cap ≤ 9223372036854775807 ∧ (0 < L.length → ∃ g, a = some ⟨g, 0, none⟩ ∧ g < w.heap.size ∧ ∀ j (hj : j < L.length), w.cell? ⟨g, j, none⟩ = some (pf L[j].1)) := by
  have hl := World.ownsRow.lt h
  rcases h.2 with ⟨rfl, h0⟩ | ⟨g, cap, cur, rfl, hb, hg, hc, hm, hs, ht⟩
  · exact ⟨none, 0, by rw [h0], fun _ => rfl, by omega, by omega, fun hp => by omega⟩
  · refine ⟨some ⟨g, 0, none⟩, cap, rfl, by simp, hc, hm, fun _ => ⟨g, rfl, (hl g rfl).2, fun j hj => ?_⟩⟩
    have := World.ownsRow.cellAt h j (by omega)
    rw [this]
    simp [FL.ps, hj]
set_option maxHeartbeats 1000000 in
theorem findex_any (k : Nat) (caps : Array Value) (pr : Fr → Bool) (base : Nat) (row : Value) (L : FL) (w : World) (hr : RowB w base row L) (hF : ∀ x ∈ L, ∃ v, FrB w x.1 x.2 v) (HQ : AsksF w k caps pr) :
    Calls Tryz.prog 124 #[row, .func (.func k) #[] caps] w fun e w' => e = .returned (.int .i64 (idxF L.fs pr)) ∧ Below w.heap.size w w' := by
  obtain ⟨a, cap, rfl, hn, hc, hm, hcell⟩ := hr.shape
  have HCE : Hid (0 < L.length → ∃ g, a = some ⟨g, 0, none⟩ ∧ g < w.heap.size ∧ ∀ j (hj : j < L.length), w.cell? ⟨g, j, none⟩ = some (pf L[j].1)) := hcell
  have HFF : Hid (∀ x ∈ L, ∃ v, FrB w x.1 x.2 v) := hF
  clear hr hcell hF
  obtain ⟨r, hr⟩ : ∃ r, r = idxF L.fs pr := ⟨_, rfl⟩
  have HR : Hid (r = idxF L.fs pr) := hr
  rw [← hr]
  clear hr
  obtain ⟨n, hN⟩ : ∃ n, n = L.length := ⟨_, rfl⟩
  have HN : Hid (n = L.length) := hN
  rw [← hN] at hc ⊢
  clear hN
  go_enter Tryz.func124, Tryz.ntmps124
  go_wp2
  go_loopw [8] (fun i wr => ∃ j : Nat, j ≤ n ∧ i = .int .i64 j ∧ Hid (∀ m, m < j → ∀ g, L.fs[m]? = some g → pr g = false) ∧ Below w.heap.size w wr) (fun i _ => n - (intOf i).toNat)
  case atStart => exact ⟨0, Nat.zero_le _, rfl, (fun m hm => by omega), Below.refl _ _⟩
  case round =>
    obtain ⟨j, hj, rfl, hno, hb⟩ := hrel
    by_cases hlt : j < n
    · have hl2 : j < L.length := by have := HN.out; omega
      obtain ⟨g, rfl, hg, hce⟩ := HCE.out (by omega)
      have c0 : wr.cell? ⟨g, j, none⟩ = some (pf L[j].1) := by
        have := hce j hl2
        simp only [World.cell?, hb.block g hg] at this ⊢; exact this
      obtain ⟨v, hfv⟩ := HFF.out L[j] (List.getElem_mem _)
      have hfw : FrB wr L[j].1 L[j].2 v := by
        unfold FrB at hfv ⊢
        rw [hb.block _ (Array.getElem?_eq_some_iff.1 hfv).1]; exact hfv
      have HR1 := HQ.1 (#[pf L[j].1] ++ caps) wr
      have HA := (HQ.below hb).2 wr (Below.refl _ _) _ _ _ hfw
      have HB : Hid (Below w.heap.size w wr) := hb
      have HG : Hid (L.fs[j]? = some L[j].2) := L.fs_get j hl2
      clear hb hfw hfv hce
      unfold pf at c0 HA HR1
      generalize L[j].1 = b at *
      generalize L[j].2 = f at *
      cases hq : pr f
      · rw [hq] at HA
        have HQ1 : Hid (pr f = false) := hq
        clear hq
        go_wp2_with (refine HA.mono ?_; rintro e w1 ⟨rfl, hb1⟩; clear HA)
        go_roundw
        case rel =>
          refine ⟨j + 1, by omega, by go_num, (fun m hm g' hg' => ?_), HB.out.trans (hb1.mono HB.out.size)⟩
          by_cases e : m = j
          · subst e
            have := HG.out
            rw [this] at hg'
            cases hg'
            exact HQ1.out
          · exact hno m (by omega) g' hg'
        case measure => simp [intOf]; omega
      · rw [hq] at HA
        have HQ1 : Hid (pr f = true) := hq
        clear hq
        go_wp2_with (refine HA.mono ?_; rintro e w1 ⟨rfl, hb1⟩; clear HA)
        go_ret
        refine ⟨?_, HB.out.trans (hb1.mono HB.out.size)⟩
        rw [HR.out, idxF_hit HG.out hno HQ1.out]; rfl
    · have hjn : j = n := by omega
      have HI : Hid (r = -1) := by
        rw [HR.out]
        exact idxF_none (fun m hm => hno m (by rw [FL.fs_len] at hm; have := HN.out; omega))
      have HB : Hid (Below w.heap.size w wr) := hb
      clear hb
      subst hjn
      go_wp2
      go_ret
      exact ⟨by rw [HI.out]; rfl, HB.out⟩
end Go.Proofs.YtbklnadlbcndlaaGreat
