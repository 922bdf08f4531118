import Derived.WalkKit
import Derived.Laws.BitsAllLaws
namespace Go.Proofs.YtbklnadlbcndlaaGreat.D
set_option maxRecDepth 20000
open Go.RowKit
def val (zs : List Int) : Int := zs.foldl (fun n z => 256 * n + z) 0
def dig (n : Int) : Nat → List Int
  | 0 => []
  | k + 1 => dig (n / 256) k ++ [n % 256]
def AllB (zs : List Int) : Prop := ∀ z ∈ zs, 0 ≤ z ∧ z ≤ 255

theorem AllB.nil : AllB [] := by intro z hz; cases hz
theorem AllB.append {a b : List Int} (ha : AllB a) (hb : AllB b) : AllB (a ++ b) := by
  intro z hz; rcases List.mem_append.1 hz with h | h
  · exact ha z h
  · exact hb z h
theorem AllB.cons {z : Int} {b : List Int} (h0 : 0 ≤ z) (h1 : z ≤ 255) (hb : AllB b) : AllB (z :: b) := by
  intro y hy; rcases List.mem_cons.1 hy with h | h
  · subst h; exact ⟨h0, h1⟩
  · exact hb y h
theorem AllB.take {a : List Int} (ha : AllB a) (k : Nat) : AllB (a.take k) := fun z hz => ha z (List.mem_of_mem_take hz)
theorem AllB.drop {a : List Int} (ha : AllB a) (k : Nat) : AllB (a.drop k) := fun z hz => ha z (List.mem_of_mem_drop hz)
theorem AllB.getD {a : List Int} (ha : AllB a) (k : Nat) : 0 ≤ a.getD k 0 ∧ a.getD k 0 ≤ 255 := by
  rw [List.getD_eq_getElem?_getD]
  rcases Nat.lt_or_ge k a.length with h | h
  · rw [List.getElem?_eq_getElem h]; exact ha _ (List.getElem_mem h)
  · rw [List.getElem?_eq_none h]; exact ⟨by decide, by decide⟩

theorem val_snoc (zs : List Int) (z : Int) : val (zs ++ [z]) = 256 * val zs + z := by simp [val, List.foldl_append]
theorem take_snoc (zs : List Int) (k : Nat) (h : k < zs.length) : zs.take (k + 1) = zs.take k ++ [zs.getD k 0] := by
  rw [List.take_succ_eq_append_getElem h, List.getD_eq_getElem?_getD, List.getElem?_eq_getElem h]; rfl
theorem val_take (zs : List Int) (k : Nat) (h : k < zs.length) : val (zs.take (k + 1)) = 256 * val (zs.take k) + zs.getD k 0 := by
  rw [take_snoc zs k h, val_snoc]
theorem val_bound : ∀ (k : Nat) (zs : List Int), zs.length = k → AllB zs → 0 ≤ val zs ∧ val zs < 256 ^ k
  | 0, zs, h, _ => by
    obtain rfl := List.eq_nil_of_length_eq_zero h
    exact ⟨by decide, by decide⟩
  | k + 1, zs, h, hb => by
    have e := List.take_append_getElem (l := zs) (i := k) (by omega)
    have e1 : zs.take (k + 1) = zs := List.take_of_length_le (by omega)
    have ih := val_bound k (zs.take k) (by simp; omega) (hb.take k)
    have hg := hb.getD k
    rw [← e1, val_take zs k (by omega)]
    rw [Int.pow_succ]
    omega
theorem pow_pos (a : Nat) : (0 : Int) < 256 ^ a := Int.pow_pos (by decide)
theorem pow_mono (a : Nat) : ∀ d : Nat, (256 : Int) ^ a ≤ 256 ^ (a + d)
  | 0 => Int.le_refl _
  | d + 1 => by
    have h := pow_mono a d
    have p := pow_pos (a + d)
    rw [← Nat.add_assoc, Int.pow_succ]
    omega
theorem pow_le {a b : Nat} (h : a ≤ b) : (256 : Int) ^ a ≤ 256 ^ b := by
  obtain ⟨d, rfl⟩ := Nat.exists_eq_add_of_le h
  exact pow_mono a d
theorem val_take_bound5 (zs : List Int) (k : Nat) (hk : k ≤ 5) (hb : AllB zs) : 0 ≤ val (zs.take k) ∧ val (zs.take k) < 1099511627776 := by
  have h := val_bound (zs.take k).length (zs.take k) rfl (hb.take k)
  have hl : (zs.take k).length ≤ 5 := by simp; omega
  have hp : (256 : Int) ^ (zs.take k).length ≤ 256 ^ 5 := pow_le hl
  have : (256 : Int) ^ 5 = 1099511627776 := by decide
  omega

theorem dig_length : ∀ (k : Nat) (n : Int), (dig n k).length = k
  | 0, _ => rfl
  | k + 1, n => by simp [dig, dig_length k]
theorem dig_all : ∀ (k : Nat) (n : Int), AllB (dig n k)
  | 0, _ => AllB.nil
  | k + 1, n => (dig_all k _).append (AllB.cons (by omega) (by omega) AllB.nil)
theorem val_dig : ∀ (k : Nat) (n : Int), 0 ≤ n → n < 256 ^ k → val (dig n k) = n
  | 0, n, h0, h1 => by simp at h1; have : n = 0 := by omega
                       subst this; rfl
  | k + 1, n, h0, h1 => by
    rw [Int.pow_succ] at h1
    rw [dig, val_snoc, val_dig k (n / 256) (by omega) (by omega)]
    omega
theorem dig_cons : ∀ (k : Nat) (n : Int), dig n (k + 1) = (n / 256 ^ k % 256) :: dig n k
  | 0, n => by simp [dig]
  | k + 1, n => by
    rw [dig, dig_cons k (n / 256), List.cons_append]
    have h : n / 256 / 256 ^ k = n / 256 ^ (k + 1) := by
      rw [Int.ediv_ediv_of_nonneg (by decide), Int.pow_succ, Int.mul_comm]
    rw [h]; rfl
theorem or_byte (v z : Int) (h0 : 0 ≤ v) (h1 : v < 1099511627776) (h2 : 0 ≤ z) (h3 : z ≤ 255) : bits .or .i64 (v * 256) (wrap64 z) = 256 * v + z := by
  have hw : wrap64 z = z := by unfold wrap64; omega
  have hk : ∀ n : Int, 0 ≤ n → n < 2 ^ 62 → IntKind.i64.wrap n = n := by
    intro n a b
    have : (2 : Int) ^ 62 = 4611686018427387904 := by decide
    rw [IntKind.wrap_i64]; omega
  have p : (2 : Int) ^ 62 = 4611686018427387904 := by decide
  have q : (2 : Int) ^ 8 = 256 := by decide
  rw [hw, bits_join .i64 62 (by decide) hk 8 (v * 256) z (by omega) (by omega) (by omega) h2 (by omega) (by omega)]
  omega
end Go.Proofs.YtbklnadlbcndlaaGreat.D
namespace Go.Proofs.YtbklnadlbcndlaaGreat.D
set_option maxRecDepth 20000
open Go.RowKit
structure DS where
  room : Nat
  B : Nat → List Int
  S : Nat → List Int
  L : Nat → Bool
  down : Bool
  fails : Int
  done : Bool
  ops : Int
  reads : Int

def IsB (zs : List Int) : Prop := zs.length = 256 ∧ AllB zs

structure DS.Ok (s : DS) : Prop where
  room : s.room ≤ 4096
  isB : ∀ n, n < s.room → IsB (s.B n)
  isS : ∀ n, n < s.room → IsB (s.S n)
  same : ∀ n, n < s.room → s.L n = false → s.S n = s.B n
  lo : -1 ≤ s.fails
  hi : s.fails ≤ 9223372036854775807

def upd {α : Type} (f : Nat → α) (n : Nat) (v : α) : Nat → α := fun k => if k = n then v else f k
theorem upd_same {α : Type} (f : Nat → α) (n : Nat) (v : α) : upd f n v n = v := by simp [upd]
theorem upd_other {α : Type} (f : Nat → α) {n k : Nat} (v : α) (h : k ≠ n) : upd f n v k = f k := by simp [upd, h]

def inc (x : Int) : Int := wrap64 (x + 1)

def newS (blocks : Int) : DS := ⟨(min (max blocks 0) 4096).toNat, fun _ => List.replicate 256 0, fun _ => List.replicate 256 0, fun _ => false, false, -1, false, 0, 0⟩
def readyE (s : DS) : Int := if s.down then 11 else 0
def reachE (s : DS) (n : Int) : Int := if s.down then 11 else if n < 0 ∨ (s.room : Int) ≤ n then 12 else 0
def putS (s : DS) (n : Nat) (b : List Int) : DS := { s with B := upd s.B n b, L := upd s.L n true }
def safeS (s : DS) : DS := { s with S := s.B, L := fun _ => false }
def stepS (s t : DS) : DS := if s.fails = 0 then { (if s.done then t else s) with ops := inc s.ops, reads := s.reads, fails := -1, down := true, done := s.done, room := s.room } else { t with ops := inc s.ops, fails := (if 0 < s.fails then s.fails - 1 else s.fails), reads := s.reads, down := s.down, done := s.done, room := s.room }
def stepE (s : DS) : Int := if s.fails = 0 then 11 else 0
def writeE (s : DS) (n : Int) (b : List Int) : Int := if reachE s n ≠ 0 then reachE s n else if b.length ≠ 256 then 2 else stepE s
def writeS (s : DS) (n : Int) (b : List Int) : DS := if reachE s n ≠ 0 ∨ b.length ≠ 256 then s else stepS s (putS s n.toNat b)
def syncE (s : DS) : Int := if s.down then 11 else stepE s
def syncS (s : DS) : DS := if s.down then s else stepS s (safeS s)
def readS (s : DS) (n : Int) : DS := if reachE s n ≠ 0 then s else { s with reads := inc s.reads }
def readB (s : DS) (n : Int) : List Int := if reachE s n ≠ 0 then [] else s.B n.toNat
def loose (s : DS) : List Nat := (List.range s.room).filter s.L
theorem isB_zeros : IsB (List.replicate 256 0) := by
  refine ⟨List.length_replicate, ?_⟩
  intro z hz
  rw [List.mem_replicate] at hz
  obtain ⟨_, rfl⟩ := hz
  decide
theorem newS_ok (n : Int) : (newS n).Ok := by
  refine ⟨?_, fun _ _ => isB_zeros, fun _ _ => isB_zeros, fun _ _ _ => rfl, by show (-1 : Int) ≤ -1; decide, by show (-1 : Int) ≤ 9223372036854775807; decide⟩
  show (min (max n 0) 4096).toNat ≤ 4096
  omega
theorem putS_ok {s : DS} (h : s.Ok) {n : Nat} {b : List Int} (hb : IsB b) : (putS s n b).Ok := by
  refine ⟨h.room, fun k hk => ?_, h.isS, fun k hk hl => ?_, h.lo, h.hi⟩
  · show IsB (upd s.B n b k)
    by_cases e : k = n
    · subst e; rw [upd_same]; exact hb
    · rw [upd_other _ _ e]; exact h.isB k hk
  · by_cases e : k = n
    · subst e
      have : upd s.L k true k = false := hl
      rw [upd_same] at this; cases this
    · have h1 : upd s.L n true k = false := hl
      rw [upd_other _ _ e] at h1
      show s.S k = upd s.B n b k
      rw [upd_other _ _ e]; exact h.same k hk h1
theorem safeS_ok {s : DS} (h : s.Ok) : (safeS s).Ok := ⟨h.room, h.isB, h.isB, fun _ _ _ => rfl, h.lo, h.hi⟩
theorem reach_ok {s : DS} {n : Int} (h : reachE s n = 0) : s.down = false ∧ 0 ≤ n ∧ n.toNat < s.room := by
  unfold reachE at h
  split at h
  · cases h
  · split at h
    · cases h
    · rename_i h1 h2
      refine ⟨by simpa using h1, ?_, ?_⟩ <;> omega
theorem readB_allB {s : DS} (h : s.Ok) (n : Int) : AllB (readB s n) := by
  unfold readB
  split
  · intro z hz; cases hz
  · rename_i hc
    have hr : reachE s n = 0 := by
      by_cases e : reachE s n = 0
      · exact e
      · exact absurd e hc
    exact (h.isB _ (reach_ok hr).2.2).2
end Go.Proofs.YtbklnadlbcndlaaGreat.D
namespace Go.Proofs.YtbklnadlbcndlaaGreat
set_option maxRecDepth 20000
open Go.RowKit
set_option linter.unusedVariables false
def val (zs : List Int) : Int := zs.foldl (fun n z => 256 * n + z) 0
def dig (n : Int) : Nat → List Int
  | 0 => []
  | k + 1 => dig (n / 256) k ++ [n % 256]
def AllB (zs : List Int) : Prop := ∀ z ∈ zs, 0 ≤ z ∧ z ≤ 255
theorem AllB.nil : AllB [] := by intro z hz; cases hz
theorem AllB.append {a b : List Int} (ha : AllB a) (hb : AllB b) : AllB (a ++ b) := by
  intro z hz; rcases List.mem_append.1 hz with h | h
  · exact ha z h
  · exact hb z h
theorem AllB.cons {z : Int} {b : List Int} (h0 : 0 ≤ z) (h1 : z ≤ 255) (hb : AllB b) : AllB (z :: b) := by
  intro y hy; rcases List.mem_cons.1 hy with h | h
  · subst h; exact ⟨h0, h1⟩
  · exact hb y h
theorem AllB.take {a : List Int} (ha : AllB a) (k : Nat) : AllB (a.take k) := fun z hz => ha z (List.mem_of_mem_take hz)
theorem AllB.drop {a : List Int} (ha : AllB a) (k : Nat) : AllB (a.drop k) := fun z hz => ha z (List.mem_of_mem_drop hz)
theorem AllB.getD {a : List Int} (ha : AllB a) (k : Nat) : 0 ≤ a.getD k 0 ∧ a.getD k 0 ≤ 255 := by
  rw [List.getD_eq_getElem?_getD]
  rcases Nat.lt_or_ge k a.length with h | h
  · rw [List.getElem?_eq_getElem h]; exact ha _ (List.getElem_mem h)
  · rw [List.getElem?_eq_none h]; exact ⟨by decide, by decide⟩
theorem val_snoc (zs : List Int) (z : Int) : val (zs ++ [z]) = 256 * val zs + z := by simp [val, List.foldl_append]
theorem take_snoc (zs : List Int) (k : Nat) (h : k < zs.length) : zs.take (k + 1) = zs.take k ++ [zs.getD k 0] := by
  rw [List.take_succ_eq_append_getElem h, List.getD_eq_getElem?_getD, List.getElem?_eq_getElem h]; rfl
theorem val_take (zs : List Int) (k : Nat) (h : k < zs.length) : val (zs.take (k + 1)) = 256 * val (zs.take k) + zs.getD k 0 := by
  rw [take_snoc zs k h, val_snoc]
theorem val_bound : ∀ (k : Nat) (zs : List Int), zs.length = k → AllB zs → 0 ≤ val zs ∧ val zs < 256 ^ k
  | 0, zs, h, _ => by
    obtain rfl := List.eq_nil_of_length_eq_zero h
    exact ⟨by decide, by decide⟩
  | k + 1, zs, h, hb => by
    have e := List.take_append_getElem (l := zs) (i := k) (by omega)
    have e1 : zs.take (k + 1) = zs := List.take_of_length_le (by omega)
    have ih := val_bound k (zs.take k) (by simp; omega) (hb.take k)
    have hg := hb.getD k
    rw [← e1, val_take zs k (by omega)]
    rw [Int.pow_succ]
    omega
theorem pow_pos (a : Nat) : (0 : Int) < 256 ^ a := Int.pow_pos (by decide)
theorem pow_mono (a : Nat) : ∀ d : Nat, (256 : Int) ^ a ≤ 256 ^ (a + d)
  | 0 => Int.le_refl _
  | d + 1 => by
    have h := pow_mono a d
    have p := pow_pos (a + d)
    rw [← Nat.add_assoc, Int.pow_succ]
    omega
theorem pow_le {a b : Nat} (h : a ≤ b) : (256 : Int) ^ a ≤ 256 ^ b := by
  obtain ⟨d, rfl⟩ := Nat.exists_eq_add_of_le h
  exact pow_mono a d
theorem val_take_bound5 (zs : List Int) (k : Nat) (hk : k ≤ 5) (hb : AllB zs) : 0 ≤ val (zs.take k) ∧ val (zs.take k) < 1099511627776 := by
  have h := val_bound (zs.take k).length (zs.take k) rfl (hb.take k)
  have hl : (zs.take k).length ≤ 5 := by simp; omega
  have hp : (256 : Int) ^ (zs.take k).length ≤ 256 ^ 5 := pow_le hl
  have : (256 : Int) ^ 5 = 1099511627776 := by decide
  omega
theorem dig_length : ∀ (k : Nat) (n : Int), (dig n k).length = k
  | 0, _ => rfl
  | k + 1, n => by simp [dig, dig_length k]
theorem dig_all : ∀ (k : Nat) (n : Int), AllB (dig n k)
  | 0, _ => AllB.nil
  | k + 1, n => (dig_all k _).append (AllB.cons (by omega) (by omega) AllB.nil)
theorem val_dig : ∀ (k : Nat) (n : Int), 0 ≤ n → n < 256 ^ k → val (dig n k) = n
  | 0, n, h0, h1 => by simp at h1; have : n = 0 := by omega
                       subst this; rfl
  | k + 1, n, h0, h1 => by
    rw [Int.pow_succ] at h1
    rw [dig, val_snoc, val_dig k (n / 256) (by omega) (by omega)]
    omega
theorem dig_cons : ∀ (k : Nat) (n : Int), dig n (k + 1) = (n / 256 ^ k % 256) :: dig n k
  | 0, n => by simp [dig]
  | k + 1, n => by
    rw [dig, dig_cons k (n / 256), List.cons_append]
    have h : n / 256 / 256 ^ k = n / 256 ^ (k + 1) := by
      rw [Int.ediv_ediv_of_nonneg (by decide), Int.pow_succ, Int.mul_comm]
    rw [h]; rfl
theorem or_byte (v z : Int) (h0 : 0 ≤ v) (h1 : v < 1099511627776) (h2 : 0 ≤ z) (h3 : z ≤ 255) : bits .or .i64 (v * 256) (wrap64 z) = 256 * v + z := by
  have hw : wrap64 z = z := by unfold wrap64; omega
  have hk : ∀ n : Int, 0 ≤ n → n < 2 ^ 62 → IntKind.i64.wrap n = n := by
    intro n a b
    have : (2 : Int) ^ 62 = 4611686018427387904 := by decide
    rw [IntKind.wrap_i64]; omega
  have p : (2 : Int) ^ 62 = 4611686018427387904 := by decide
  have q : (2 : Int) ^ 8 = 256 := by decide
  rw [hw, bits_join .i64 62 (by decide) hk 8 (v * 256) z (by omega) (by omega) (by omega) h2 (by omega) (by omega)]
  omega
end Go.Proofs.YtbklnadlbcndlaaGreat
namespace Go.Proofs.YtbklnadlbcndlaaGreat
set_option maxRecDepth 20000
open Go.RowKit
set_option linter.unusedVariables false
def bit1 (r : Nat) : Nat := if r % 2 = 1 then (r / 2) ^^^ 2197175160 else r / 2
def bitN : Nat → Nat → Nat
  | 0, r => r
  | k + 1, r => bit1 (bitN k r)
def stp (r : Nat) : Nat := bitN 8 r
def reg (r : Nat) (zs : List Int) : Nat := zs.foldl (fun r z => stp (r ^^^ z.toNat)) r
def flip (r : Nat) : Nat := r ^^^ 4294967295
def more (c : Nat) (zs : List Int) : Nat := flip (reg (flip c) zs)
theorem xor_lt {a b : Nat} (ha : a < 4294967296) (hb : b < 4294967296) : a ^^^ b < 4294967296 := Nat.xor_lt_two_pow (n := 32) ha hb
theorem bit1_lt {r : Nat} (h : r < 4294967296) : bit1 r < 4294967296 := by
  unfold bit1
  split
  · exact xor_lt (by omega) (by decide)
  · omega
theorem bitN_lt : ∀ (k : Nat) {r : Nat}, r < 4294967296 → bitN k r < 4294967296
  | 0, _, h => h
  | k + 1, _, h => bit1_lt (bitN_lt k h)
theorem stp_lt {r : Nat} (h : r < 4294967296) : stp r < 4294967296 := bitN_lt 8 h
theorem flip_lt {r : Nat} (h : r < 4294967296) : flip r < 4294967296 := xor_lt h (by decide)
theorem reg_lt : ∀ (zs : List Int) {r : Nat}, r < 4294967296 → AllB zs → reg r zs < 4294967296
  | [], _, h, _ => h
  | z :: zs, r, h, hz => by
    have hh := hz z (by simp)
    exact reg_lt zs (stp_lt (xor_lt h (by omega))) (fun y hy => hz y (by simp [hy]))
theorem more_lt {c : Nat} {zs : List Int} (h : c < 4294967296) (hz : AllB zs) : more c zs < 4294967296 := flip_lt (reg_lt zs (flip_lt h) hz)
theorem flip_flip (r : Nat) : flip (flip r) = r := by unfold flip; rw [Nat.xor_assoc, Nat.xor_self, Nat.xor_zero]
theorem reg_snoc (r : Nat) (a : List Int) (z : Int) : reg r (a ++ [z]) = stp (reg r a ^^^ z.toNat) := by simp [reg, List.foldl_append]
theorem reg_take (r : Nat) (zs : List Int) (k : Nat) (h : k < zs.length) : reg r (zs.take (k + 1)) = stp (reg r (zs.take k) ^^^ (zs.getD k 0).toNat) := by
  rw [take_snoc zs k h, reg_snoc]
theorem more_nil (c : Nat) : more c [] = c := flip_flip c
end Go.Proofs.YtbklnadlbcndlaaGreat
namespace Go.Proofs.YtbklnadlbcndlaaGreat.B
set_option maxRecDepth 20000
open Go.RowKit
def AllB (zs : List Int) : Prop := ∀ z ∈ zs, 0 ≤ z ∧ z ≤ 255
theorem AllB.nil : AllB [] := by intro z hz; cases hz
theorem AllB.append {a b : List Int} (ha : AllB a) (hb : AllB b) : AllB (a ++ b) := by
  intro z hz; rcases List.mem_append.1 hz with h | h
  · exact ha z h
  · exact hb z h
theorem AllB.take {a : List Int} (ha : AllB a) (k : Nat) : AllB (a.take k) := fun z hz => ha z (List.mem_of_mem_take hz)
theorem AllB.drop {a : List Int} (ha : AllB a) (k : Nat) : AllB (a.drop k) := fun z hz => ha z (List.mem_of_mem_drop hz)
theorem AllB.getD {a : List Int} (ha : AllB a) (k : Nat) : 0 ≤ a.getD k 0 ∧ a.getD k 0 ≤ 255 := by
  rw [List.getD_eq_getElem?_getD]
  rcases Nat.lt_or_ge k a.length with h | h
  · rw [List.getElem?_eq_getElem h]; exact ha _ (List.getElem_mem h)
  · rw [List.getElem?_eq_none h]; exact ⟨by decide, by decide⟩
theorem AllB.set {a : List Int} (ha : AllB a) (k : Nat) {z : Int} (h0 : 0 ≤ z) (h1 : z ≤ 255) : AllB (a.set k z) := fun y hy => by
  rcases List.mem_or_eq_of_mem_set hy with h | h
  · exact ha y h
  · subst h; exact ⟨h0, h1⟩
theorem AllB.zeros (n : Nat) : AllB (List.replicate n 0) := fun z hz => by
  obtain ⟨_, rfl⟩ := List.mem_replicate.1 hz; exact ⟨by decide, by decide⟩

def byt (zs : List Int) (n : Nat) : Nat := (zs.getD (n / 8) 0).toNat
def hasB (zs : List Int) (n : Nat) : Bool := (byt zs n).testBit (7 - n % 8)
def hasI (zs : List Int) (i : Int) : Bool := decide (0 ≤ i) && hasB zs i.toNat
def bitB (z k : Nat) (on : Bool) : Nat := if on then z ||| 2 ^ k else z &&& (255 - 2 ^ k)
def setB (zs : List Int) (n : Nat) (on : Bool) : List Int := zs.set (n / 8) (bitB (byt zs n) (7 - n % 8) on : Nat)
def withI (zs : List Int) (i : Int) (on : Bool) : List Int := if 0 ≤ i ∧ i.toNat < 8 * zs.length then setB zs i.toNat on else zs
theorem byt_lt {zs : List Int} (h : AllB zs) (n : Nat) : byt zs n < 256 := by
  have := h.getD (n / 8); unfold byt; omega
theorem pw_lt (k : Nat) (h : k < 8) : 2 ^ k < 256 := by
  have : 2 ^ k < 2 ^ 8 := Nat.pow_lt_pow_right (by decide) h
  simpa using this
theorem bitB_lt {z k : Nat} (hz : z < 256) (hk : k < 8) (on : Bool) : bitB z k on < 256 := by
  cases on
  · exact Nat.lt_of_le_of_lt Nat.and_le_left hz
  · exact Nat.or_lt_two_pow (n := 8) hz (pw_lt k hk)
theorem not_bit (k j : Nat) (hk : k < 8) (hj : j < 8) : (255 - 2 ^ k).testBit j = !decide (k = j) := by
  have e : 255 - 2 ^ k = 2 ^ 8 - (2 ^ k + 1) := by omega
  rw [e, Nat.testBit_two_pow_sub_succ (pw_lt k hk), Nat.testBit_two_pow]
  simp [hj]
theorem bitB_bit (z k j : Nat) (hk : k < 8) (hj : j < 8) (on : Bool) : (bitB z k on).testBit j = if j = k then on else z.testBit j := by
  cases on
  · show (z &&& (255 - 2 ^ k)).testBit j = _
    rw [Nat.testBit_and, not_bit k j hk hj]
    by_cases e : j = k
    · subst e; simp
    · simp [e, Ne.symm e]
  · show (z ||| 2 ^ k).testBit j = _
    rw [Nat.testBit_or, Nat.testBit_two_pow]
    by_cases e : j = k
    · subst e; simp
    · simp [e, Ne.symm e]
theorem setB_length (zs : List Int) (n : Nat) (on : Bool) : (setB zs n on).length = zs.length := by simp [setB]
theorem setB_all {zs : List Int} (h : AllB zs) (n : Nat) (on : Bool) : AllB (setB zs n on) := by
  have := bitB_lt (byt_lt h n) (k := 7 - n % 8) (by omega) on
  exact h.set _ (by omega) (by omega)
theorem byt_set (zs : List Int) (n m : Nat) (x : Nat) (hn : n / 8 < zs.length) : byt (zs.set (n / 8) (x : Int)) m = if n / 8 = m / 8 then x else byt zs m := by
  unfold byt
  rw [List.getD_eq_getElem?_getD, List.getElem?_set]
  by_cases e : n / 8 = m / 8
  · rw [if_pos e, if_pos e, if_pos hn]; simp
  · rw [if_neg e, if_neg e, List.getD_eq_getElem?_getD]
theorem hasB_setB {zs : List Int} (n m : Nat) (on : Bool) (hn : n / 8 < zs.length) : hasB (setB zs n on) m = if m = n then on else hasB zs m := by
  unfold hasB setB
  rw [byt_set _ _ _ _ hn]
  by_cases e : n / 8 = m / 8
  · rw [if_pos e, bitB_bit _ _ _ (by omega) (by omega)]
    by_cases e2 : m = n
    · subst e2; simp
    · rw [if_neg (by omega), if_neg e2]
      unfold byt; rw [e]
  · rw [if_neg e, if_neg (by rintro rfl; exact e rfl)]
theorem hasB_out {zs : List Int} {n : Nat} (h : 8 * zs.length ≤ n) : hasB zs n = false := by
  unfold hasB byt
  rw [List.getD_eq_getElem?_getD, List.getElem?_eq_none (by omega)]
  simp
theorem byte_ext {x y : Nat} (hx : x < 256) (hy : y < 256) (h : ∀ k, k < 8 → x.testBit k = y.testBit k) : x = y := by
  refine Nat.eq_of_testBit_eq (fun i => ?_)
  by_cases hi : i < 8
  · exact h i hi
  · have p : 2 ^ 8 ≤ 2 ^ i := Nat.pow_le_pow_right (by decide) (by omega)
    rw [Nat.testBit_lt_two_pow (by omega), Nat.testBit_lt_two_pow (by omega)]
theorem set_ext {a b : List Int} (ha : AllB a) (hb : AllB b) (hl : a.length = b.length) (h : ∀ n, n < 8 * a.length → hasB a n = hasB b n) : a = b := by
  refine List.ext_getElem hl (fun i h1 h2 => ?_)
  have ea := ha _ (List.getElem_mem h1)
  have eb := hb _ (List.getElem_mem h2)
  have : a[i].toNat = b[i].toNat := by
    refine byte_ext (by omega) (by omega) (fun k hk => ?_)
    have := h (8 * i + (7 - k)) (by omega)
    unfold hasB byt at this
    have e1 : (8 * i + (7 - k)) / 8 = i := by omega
    have e2 : 7 - (8 * i + (7 - k)) % 8 = k := by omega
    rw [e1, e2, List.getD_eq_getElem?_getD, List.getElem?_eq_getElem h1, List.getD_eq_getElem?_getD, List.getElem?_eq_getElem h2] at this
    exact this
  omega

def upd {α : Type} (f : Nat → α) (n : Nat) (v : α) : Nat → α := fun k => if k = n then v else f k
theorem upd_same {α : Type} (f : Nat → α) (n : Nat) (v : α) : upd f n v n = v := by simp [upd]
theorem upd_other {α : Type} (f : Nat → α) {n k : Nat} (v : α) (h : k ≠ n) : upd f n v k = f k := by simp [upd, h]
theorem filter_upd (L : Nat → Bool) (n : Nat) (hl : L n = false) : ∀ (l : List Nat), l.Nodup → n ∈ l → (l.filter (upd L n true)).length = (l.filter L).length + 1
  | [], _, h => by cases h
  | m :: l, hd, h => by
    have hd2 := List.nodup_cons.1 hd
    by_cases e : m = n
    · subst e
      have e1 : l.filter (upd L m true) = l.filter L := List.filter_congr (fun k hk => upd_other _ _ (fun e => hd2.1 (by rw [← e]; exact hk)))
      rw [List.filter_cons_of_pos (by rw [upd_same]), List.filter_cons_of_neg (by simp [hl]), e1, List.length_cons]
    · have ih := filter_upd L n hl l hd2.2 (by rcases List.mem_cons.1 h with h | h; exact absurd h.symm e; exact h)
      cases hm : L m
      · rw [List.filter_cons_of_neg (by rw [upd_other _ _ e]; simp [hm]), List.filter_cons_of_neg (by simp [hm])]
        exact ih
      · rw [List.filter_cons_of_pos (by rw [upd_other _ _ e]; simp [hm]), List.filter_cons_of_pos (by simp [hm]), List.length_cons, List.length_cons, ih]
def IsJoin (a b zs : List Int) : Prop := zs.length = max a.length b.length ∧ AllB zs ∧ ∀ n, hasB zs n = (hasB a n || hasB b n)
def IsLess (a b zs : List Int) : Prop := zs.length = max a.length b.length ∧ AllB zs ∧ ∀ n, hasB zs n = (hasB a n && !hasB b n)
theorem IsJoin.one {a b x y : List Int} (h : IsJoin a b x) (k : IsJoin a b y) : x = y :=
  set_ext h.2.1 k.2.1 (h.1.trans k.1.symm) (fun n _ => (h.2.2 n).trans (k.2.2 n).symm)
theorem IsLess.one {a b x y : List Int} (h : IsLess a b x) (k : IsLess a b y) : x = y :=
  set_ext h.2.1 k.2.1 (h.1.trans k.1.symm) (fun n _ => (h.2.2 n).trans (k.2.2 n).symm)
def IsFirst (zs : List Int) (f i : Nat) (ok : Bool) : Prop :=
  (ok = true ∧ f ≤ i ∧ i < 8 * zs.length ∧ hasB zs i = false ∧ ∀ j, f ≤ j → j < i → hasB zs j = true) ∨ (ok = false ∧ i = 0 ∧ ∀ j, f ≤ j → j < 8 * zs.length → hasB zs j = true)
theorem IsFirst.one {zs : List Int} {f i j : Nat} {a b : Bool} (h : IsFirst zs f i a) (k : IsFirst zs f j b) : i = j ∧ a = b := by
  rcases h with ⟨rfl, h1, h2, h3, h4⟩ | ⟨rfl, rfl, h1⟩ <;> rcases k with ⟨rfl, k1, k2, k3, k4⟩ | ⟨rfl, rfl, k1'⟩
  · refine ⟨?_, rfl⟩
    rcases Nat.lt_trichotomy i j with e | e | e
    · have := k4 i h1 e; rw [h3] at this; cases this
    · exact e
    · have := h4 j k1 e; rw [k3] at this; cases this
  · have := k1' i h1 h2; rw [h3] at this; cases this
  · have := h1 j k1 k2; rw [k3] at this; cases this
  · exact ⟨rfl, rfl⟩
theorem and_bit (z k : Nat) (hz : z < 256) (hk : k < 8) : bits .and .u8 (z : Int) ((2 ^ k : Nat) : Int) = if z.testBit k then ((2 ^ k : Nat) : Int) else 0 := by
  rw [u8_and_nat z _ hz (pw_lt k hk)]
  have : ∀ z : Fin 256, ∀ k : Fin 8, z.val &&& 2 ^ k.val = if z.val.testBit k.val then 2 ^ k.val else 0 := by decide +kernel
  have := this ⟨z, hz⟩ ⟨k, hk⟩
  simp only at this
  rw [this]
  split <;> rfl
theorem or_bit (z k : Nat) (hz : z < 256) (hk : k < 8) : bits .or .u8 (z : Int) ((2 ^ k : Nat) : Int) = (bitB z k true : Nat) := u8_or_nat z _ hz (pw_lt k hk)
theorem less_bit (z k : Nat) (hz : z < 256) (hk : k < 8) : bits .andNot .u8 (z : Int) ((2 ^ k : Nat) : Int) = (bitB z k false : Nat) := u8_andNot_nat z _ hz (pw_lt k hk)
theorem or_bytes (x y : Nat) (hx : x < 256) (hy : y < 256) : ∃ z : Nat, z < 256 ∧ bits .or .u8 (x : Int) (y : Int) = z ∧ ∀ k, k < 8 → z.testBit k = (x.testBit k || y.testBit k) :=
  ⟨x ||| y, Nat.or_lt_two_pow (n := 8) hx hy, u8_or_nat x y hx hy, fun _ _ => Nat.testBit_or ..⟩
theorem less_bytes (x y : Nat) (hx : x < 256) (hy : y < 256) : ∃ z : Nat, z < 256 ∧ bits .andNot .u8 (x : Int) (y : Int) = z ∧ ∀ k, k < 8 → z.testBit k = (x.testBit k && !y.testBit k) := by
  refine ⟨x &&& (255 - y), Nat.lt_of_le_of_lt Nat.and_le_left hx, u8_andNot_nat x y hx hy, fun k hk => ?_⟩
  have e : 255 - y = 2 ^ 8 - (y + 1) := by omega
  rw [Nat.testBit_and, e, Nat.testBit_two_pow_sub_succ hy]
  simp [hk]
end Go.Proofs.YtbklnadlbcndlaaGreat.B
namespace Go.Proofs.YtbklnadlbcndlaaGreat.R
set_option maxRecDepth 20000
open Go.RowKit
structure RD where
  E : Int
  B : Int
  N : Int
  S : Int
  T : List Int
  M : List Int
def inB (b : Int) (zs : List Int) : Bool := zs.all (fun z => decide (2 ≤ z) && decide (z < b))
def limB (r : RD) : Bool := (decide (0 ≤ r.E) && decide (r.E ≤ 1099511627776)) && (decide (2 ≤ r.B) && decide (r.B ≤ 4096)) && (decide (0 ≤ r.N) && decide (r.N ≤ 3000)) && (decide (0 ≤ r.S) && decide (r.S ≤ r.N))
def longB (r : RD) : Bool := decide (26 < r.T.length) || decide (3 < r.M.length)
def checkE (r : RD) : Int := if limB r = false then 12 else if longB r = true then 5 else if (inB r.B r.T && inB r.B r.M) = false then 12 else 0
structure RD.Ok (r : RD) : Prop where
  e0 : 0 ≤ r.E
  e1 : r.E ≤ 1099511627776
  b0 : 2 ≤ r.B
  b1 : r.B ≤ 4096
  n0 : 0 ≤ r.N
  n1 : r.N ≤ 3000
  s0 : 0 ≤ r.S
  s1 : r.S ≤ r.N
  t1 : r.T.length ≤ 26
  m1 : r.M.length ≤ 3
  tb : ∀ z ∈ r.T, 2 ≤ z ∧ z < r.B
  mb : ∀ z ∈ r.M, 2 ≤ z ∧ z < r.B
theorem inB_iff (b : Int) (zs : List Int) : inB b zs = true ↔ ∀ z ∈ zs, 2 ≤ z ∧ z < b := by simp [inB]
theorem limB_iff (r : RD) : limB r = true ↔ (0 ≤ r.E ∧ r.E ≤ 1099511627776) ∧ (2 ≤ r.B ∧ r.B ≤ 4096) ∧ (0 ≤ r.N ∧ r.N ≤ 3000) ∧ (0 ≤ r.S ∧ r.S ≤ r.N) := by
  simp [limB, and_assoc]
theorem checkE_ok {r : RD} (h : r.Ok) : checkE r = 0 := by
  unfold checkE
  have h1 : limB r = true := (limB_iff r).2 ⟨⟨h.e0, h.e1⟩, ⟨h.b0, h.b1⟩, ⟨h.n0, h.n1⟩, h.s0, h.s1⟩
  have h2 : longB r = false := by simp [longB]; exact ⟨h.t1, h.m1⟩
  have h3 := (inB_iff r.B r.T).2 h.tb
  have h4 := (inB_iff r.B r.M).2 h.mb
  rw [h1, h2, h3, h4]; rfl
theorem ok_checkE {r : RD} (h : checkE r = 0) : r.Ok := by
  unfold checkE at h
  by_cases h1 : limB r = false
  · rw [if_pos h1] at h; cases h
  · rw [if_neg h1] at h
    by_cases h2 : longB r = true
    · rw [if_pos h2] at h; cases h
    · rw [if_neg h2] at h
      by_cases h3 : (inB r.B r.T && inB r.B r.M) = false
      · rw [if_pos h3] at h; cases h
      · have q1 := (limB_iff r).1 (by simpa using h1)
        have q2 : longB r = false := by simpa using h2
        simp [longB] at q2
        have q3 : (inB r.B r.T && inB r.B r.M) = true := by simpa using h3
        rw [Bool.and_eq_true] at q3
        exact ⟨q1.1.1, q1.1.2, q1.2.1.1, q1.2.1.2, q1.2.2.1.1, q1.2.2.1.2, q1.2.2.2.1, q1.2.2.2.2, q2.1, q2.2, (inB_iff _ _).1 q3.1, (inB_iff _ _).1 q3.2⟩
def twos (zs : List Int) : List Int := zs.flatMap (fun z => dig z 2)
def frontS (r : RD) : List Int := [114, 111, 111, 116] ++ dig r.E 6 ++ (dig r.B 2 ++ dig r.N 2 ++ dig r.S 2) ++ (dig r.T.length 1 ++ dig r.M.length 1) ++ twos r.T ++ twos r.M
def bodyS (r : RD) : List Int := frontS r ++ List.replicate (246 - (frontS r).length) 0
def putS (r : RD) : List Int := bodyS r ++ dig (more 0 (bodyS r)) 4 ++ dig r.E 6
theorem twos_all (zs : List Int) : AllB (twos zs) := by
  intro z hz
  obtain ⟨y, _, hy⟩ := List.mem_flatMap.1 hz
  exact dig_all 2 y z hy
theorem twos_len (zs : List Int) : (twos zs).length = 2 * zs.length := by
  induction zs with
  | nil => rfl
  | cons z zs ih =>
    show (dig z 2 ++ twos zs).length = _
    rw [List.length_append, dig_length, ih, List.length_cons]
    omega
theorem front_len (r : RD) : (frontS r).length = 18 + 2 * r.T.length + 2 * r.M.length := by
  simp only [frontS, List.length_append, dig_length, twos_len, List.length_cons, List.length_nil]
theorem front_all (r : RD) : AllB (frontS r) := by
  have h4 : AllB [114, 111, 111, 116] := by intro z hz; revert z; decide
  exact ((((h4.append (dig_all _ _)).append (((dig_all _ _).append (dig_all _ _)).append (dig_all _ _))).append ((dig_all _ _).append (dig_all _ _))).append (twos_all _)).append (twos_all _)
theorem zeros_all (n : Nat) : AllB (List.replicate n 0) := by
  intro z hz
  obtain ⟨_, rfl⟩ := List.mem_replicate.1 hz
  decide
theorem body_all (r : RD) : AllB (bodyS r) := (front_all r).append (zeros_all _)
theorem put_all (r : RD) : AllB (putS r) := ((body_all r).append (dig_all _ _)).append (dig_all _ _)
theorem body_len {r : RD} (h : r.Ok) : (bodyS r).length = 246 := by
  have h1 := h.t1; have h2 := h.m1
  have := front_len r
  simp only [bodyS, List.length_append, List.length_replicate]
  omega
theorem put_len {r : RD} (h : r.Ok) : (putS r).length = 256 := by
  simp only [putS, List.length_append, dig_length, body_len h]
end Go.Proofs.YtbklnadlbcndlaaGreat.R
