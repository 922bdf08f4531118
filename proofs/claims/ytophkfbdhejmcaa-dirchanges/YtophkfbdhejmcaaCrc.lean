/- The checksum, bit by bit. -/
import Derived.Test.YtophkfbdhejmcaaMath
namespace Go.Proofs.Ytophkfbdhejmcaa
set_option maxRecDepth 20000
open Go.RowKit
set_option linter.unusedVariables false
def bit1 (r : Nat) : Nat := if r % 2 = 1 then (r / 2) ^^^ 2197175160 else r / 2
def bitN : Nat → Nat → Nat
  | 0, r => r
  | k + 1, r => bit1 (bitN k r)
def stp (r : Nat) : Nat := bitN 8 r
def reg (r : Nat) (zs : List Int) : Nat := zs.foldl (fun r z => stp (r ^^^ z.toNat)) r
def flip (r : Nat) : Nat := r ^^^ 4294967295
/-- The sum of some bytes, and zs behind them, where c is the sum of the former. -/
def more (c : Nat) (zs : List Int) : Nat := flip (reg (flip c) zs)
theorem xor_lt {a b : Nat} (ha : a < 4294967296) (hb : b < 4294967296) : a ^^^ b < 4294967296 := Nat.xor_lt_two_pow (n := 32) ha hb
theorem bit1_lt {r : Nat} (h : r < 4294967296) : bit1 r < 4294967296 := by
  unfold bit1
  split
  · exact xor_lt (by omega) (by decide)
  · omega
theorem bitN_lt : ∀ (k : Nat) {r : Nat}, r < 4294967296 → bitN k r < 4294967296
  | 0, _, h => h
  | k + 1, _, h => bit1_lt (bitN_lt k h)
theorem stp_lt {r : Nat} (h : r < 4294967296) : stp r < 4294967296 := bitN_lt 8 h
theorem flip_lt {r : Nat} (h : r < 4294967296) : flip r < 4294967296 := xor_lt h (by decide)
theorem reg_lt : ∀ (zs : List Int) {r : Nat}, r < 4294967296 → AllB zs → reg r zs < 4294967296
  | [], _, h, _ => h
  | z :: zs, r, h, hz => by
    have hh := hz z (by simp)
    exact reg_lt zs (stp_lt (xor_lt h (by omega))) (fun y hy => hz y (by simp [hy]))
theorem more_lt {c : Nat} {zs : List Int} (h : c < 4294967296) (hz : AllB zs) : more c zs < 4294967296 := flip_lt (reg_lt zs (flip_lt h) hz)
theorem flip_flip (r : Nat) : flip (flip r) = r := by unfold flip; rw [Nat.xor_assoc, Nat.xor_self, Nat.xor_zero]
theorem flip_sub {r : Nat} (h : r < 4294967296) : flip r = 4294967295 - r := by
  unfold flip
  apply Nat.eq_of_testBit_eq
  intro i
  have h1 := Nat.testBit_two_pow_sub_succ (n := 32) (x := r) h i
  have e : 2 ^ 32 - (r + 1) = 4294967295 - r := by omega
  rw [e] at h1
  rw [h1, Nat.testBit_xor]
  have h2 : (4294967295 : Nat).testBit i = decide (i < 32) := Nat.testBit_two_pow_sub_one 32 i
  rw [h2]
  by_cases hi : i < 32
  · simp [hi]
  · have : r.testBit i = false := Nat.testBit_lt_two_pow (Nat.lt_of_lt_of_le h (Nat.pow_le_pow_right (by decide) (by omega) : 2 ^ 32 ≤ 2 ^ i))
    simp [hi, this]
theorem reg_nil (r : Nat) : reg r [] = r := rfl
theorem reg_append (r : Nat) (a b : List Int) : reg r (a ++ b) = reg (reg r a) b := by simp [reg, List.foldl_append]
theorem reg_snoc (r : Nat) (a : List Int) (z : Int) : reg r (a ++ [z]) = stp (reg r a ^^^ z.toNat) := by simp [reg, List.foldl_append]
theorem reg_take (r : Nat) (zs : List Int) (k : Nat) (h : k < zs.length) : reg r (zs.take (k + 1)) = stp (reg r (zs.take k) ^^^ (zs.getD k 0).toNat) := by
  rw [take_snoc zs k h, reg_snoc]
theorem more_nil (c : Nat) : more c [] = c := flip_flip c
theorem more_append (c : Nat) (a b : List Int) : more c (a ++ b) = more (more c a) b := by unfold more; rw [flip_flip, reg_append]
theorem more_take (c : Nat) (zs : List Int) (k : Nat) (h : k < zs.length) : more c (zs.take (k + 1)) = more (more c (zs.take k)) [zs.getD k 0] := by
  rw [take_snoc zs k h, more_append]
theorem xor_mod2 (a b : Nat) : (a ^^^ b) % 2 = (a % 2 + b % 2) % 2 := by
  have := Nat.xor_mod_two_pow (a := a) (b := b) (n := 1)
  simp only [Nat.pow_one] at this
  rw [this]
  rcases Nat.mod_two_eq_zero_or_one a with h | h <;> rcases Nat.mod_two_eq_zero_or_one b with h' | h' <;> rw [h, h'] <;> rfl
theorem xor_div2 (a b : Nat) : (a ^^^ b) / 2 = (a / 2) ^^^ (b / 2) := Nat.xor_div_two
theorem x4 (a b c d : Nat) : (a ^^^ b) ^^^ (c ^^^ d) = (a ^^^ c) ^^^ (b ^^^ d) := by
  rw [Nat.xor_assoc, ← Nat.xor_assoc b, Nat.xor_comm b c, Nat.xor_assoc c, ← Nat.xor_assoc a]
theorem bit1_xor (a b : Nat) : bit1 (a ^^^ b) = bit1 a ^^^ bit1 b := by
  unfold bit1
  rw [xor_mod2, xor_div2]
  rcases Nat.mod_two_eq_zero_or_one a with h | h <;> rcases Nat.mod_two_eq_zero_or_one b with h' | h' <;> rw [h, h']
  · simp
  · simp [Nat.xor_assoc]
  · simp [Nat.xor_assoc, Nat.xor_comm (b / 2)]
  · rw [if_neg (by decide), if_pos rfl, if_pos rfl, x4, Nat.xor_self, Nat.xor_zero]
theorem bitN_xor : ∀ (k a b : Nat), bitN k (a ^^^ b) = bitN k a ^^^ bitN k b
  | 0, _, _ => rfl
  | k + 1, a, b => by rw [bitN, bitN_xor k, bit1_xor]; rfl
theorem stp_xor (a b : Nat) : stp (a ^^^ b) = stp a ^^^ stp b := bitN_xor 8 a b
theorem bit1_zero {r : Nat} (h : r < 4294967296) (h0 : bit1 r = 0) : r = 0 := by
  unfold bit1 at h0
  split at h0
  · exfalso
    have h1 : (r / 2).testBit 31 = false := Nat.testBit_lt_two_pow (show r / 2 < 2 ^ 31 by omega)
    have h2 : ((r / 2) ^^^ 2197175160).testBit 31 = true := by rw [Nat.testBit_xor, h1]; decide
    rw [h0] at h2
    simp at h2
  · omega
theorem xor_zero_eq {a b : Nat} (h : a ^^^ b = 0) : a = b := by
  have : a ^^^ b ^^^ b = b := by rw [h, Nat.zero_xor]
  rwa [Nat.xor_assoc, Nat.xor_self, Nat.xor_zero] at this
theorem bit1_inj {a b : Nat} (ha : a < 4294967296) (hb : b < 4294967296) (h : bit1 a = bit1 b) : a = b := by
  apply xor_zero_eq
  apply bit1_zero (xor_lt ha hb)
  rw [bit1_xor, h, Nat.xor_self]
theorem bitN_inj : ∀ (k : Nat) {a b : Nat}, a < 4294967296 → b < 4294967296 → bitN k a = bitN k b → a = b
  | 0, _, _, _, _, h => h
  | k + 1, _, _, ha, hb, h => bitN_inj k ha hb (bit1_inj (bitN_lt k ha) (bitN_lt k hb) h)
theorem stp_inj {a b : Nat} (ha : a < 4294967296) (hb : b < 4294967296) (h : stp a = stp b) : a = b := bitN_inj 8 ha hb h
theorem xor_right_inj {a b c : Nat} (h : a ^^^ c = b ^^^ c) : a = b := by
  have : a ^^^ c ^^^ c = b ^^^ c ^^^ c := by rw [h]
  rwa [Nat.xor_assoc, Nat.xor_self, Nat.xor_zero, Nat.xor_assoc, Nat.xor_self, Nat.xor_zero] at this
theorem xor_left_inj {a b c : Nat} (h : c ^^^ a = c ^^^ b) : a = b := xor_right_inj (c := c) (by rw [Nat.xor_comm a, Nat.xor_comm b, h])
theorem reg_inj : ∀ (zs : List Int) {a b : Nat}, a < 4294967296 → b < 4294967296 → AllB zs → reg a zs = reg b zs → a = b
  | [], _, _, _, _, _, h => h
  | z :: zs, a, b, ha, hb, hz, h => by
    have hh := hz z (by simp)
    have h1 := reg_inj zs (stp_lt (xor_lt ha (by omega))) (stp_lt (xor_lt hb (by omega))) (fun y hy => hz y (by simp [hy])) h
    exact xor_right_inj (stp_inj (xor_lt ha (by omega)) (xor_lt hb (by omega)) h1)
/-- One byte changed changes the sum. -/
theorem more_set {zs : List Int} (hz : AllB zs) (k : Nat) (hk : k < zs.length) {z : Int} (h0 : 0 ≤ z) (h1 : z ≤ 255) (hne : z ≠ zs.getD k 0) : more 0 (zs.set k z) ≠ more 0 zs := by
  intro h
  have hs : zs.set k z = zs.take k ++ [z] ++ zs.drop (k + 1) := by rw [List.set_eq_take_append_cons_drop, if_pos hk]; simp
  have hd : zs = zs.take k ++ [zs.getD k 0] ++ zs.drop (k + 1) := by rw [← take_snoc zs k hk, List.take_append_drop]
  have hg := hz.getD k
  have hf : flip 0 < 4294967296 := by decide
  have hr := reg_lt (zs.take k) hf (hz.take k)
  unfold more at h
  have h' : reg (flip 0) (zs.set k z) = reg (flip 0) zs := xor_right_inj h
  rw [hs] at h'
  conv at h' => rhs; rw [hd]
  rw [reg_append, reg_append _ (zs.take k ++ [zs.getD k 0]), reg_snoc, reg_snoc] at h'
  have h2 := reg_inj _ (stp_lt (xor_lt hr (by omega))) (stp_lt (xor_lt hr (by omega))) (hz.drop _) h'
  have h3 := xor_left_inj (stp_inj (xor_lt hr (by omega)) (xor_lt hr (by omega)) h2)
  omega
theorem reg_xor : ∀ (n : Nat) (as bs xs : List Int) (r s : Nat), as.length = n → bs.length = n → xs.length = n → (∀ i, i < n → (xs.getD i 0).toNat = (as.getD i 0).toNat ^^^ (bs.getD i 0).toNat) → reg (r ^^^ s) xs = reg r as ^^^ reg s bs
  | 0, as, bs, xs, r, s, ha, hb, hx, _ => by
    rw [List.eq_nil_of_length_eq_zero ha, List.eq_nil_of_length_eq_zero hb, List.eq_nil_of_length_eq_zero hx]; rfl
  | n + 1, a :: as, b :: bs, x :: xs, r, s, ha, hb, hx, h => by
    have h0 := h 0 (by omega)
    simp only [List.getD_cons_zero] at h0
    show reg (stp (r ^^^ s ^^^ x.toNat)) xs = reg (stp (r ^^^ a.toNat)) as ^^^ reg (stp (s ^^^ b.toNat)) bs
    rw [h0, x4, stp_xor]
    refine reg_xor n as bs xs _ _ (by simpa using ha) (by simpa using hb) (by simpa using hx) fun i hi => ?_
    have := h (i + 1) (by omega)
    simpa using this
/-- Of two texts of one length, exclusive-ored byte by byte. -/
theorem more_xor (n : Nat) (as bs xs : List Int) (ha : as.length = n) (hb : bs.length = n) (hx : xs.length = n) (h : ∀ i, i < n → (xs.getD i 0).toNat = (as.getD i 0).toNat ^^^ (bs.getD i 0).toNat) :
    more 0 xs = more 0 as ^^^ more 0 bs ^^^ more 0 (List.replicate n 0) := by
  have e1 : reg (flip 0 ^^^ flip 0) xs = reg (flip 0) as ^^^ reg (flip 0) bs := reg_xor n as bs xs _ _ ha hb hx h
  have e2 : reg ((flip 0 ^^^ flip 0) ^^^ flip 0) xs = reg (flip 0 ^^^ flip 0) xs ^^^ reg (flip 0) (List.replicate n 0) := by
    refine reg_xor n xs (List.replicate n 0) xs _ _ hx (by simp) hx fun i hi => ?_
    have : (List.replicate n (0 : Int)).getD i 0 = 0 := by simp [List.getD_eq_getElem?_getD, List.getElem?_replicate]; split <;> rfl
    rw [this]; simp
  rw [Nat.xor_self, Nat.zero_xor] at e2
  rw [Nat.xor_self] at e1
  unfold more
  rw [e2, e1]
  show (reg (flip 0) as ^^^ reg (flip 0) bs ^^^ reg (flip 0) (List.replicate n 0)) ^^^ 4294967295 = ((reg (flip 0) as ^^^ 4294967295) ^^^ (reg (flip 0) bs ^^^ 4294967295)) ^^^ (reg (flip 0) (List.replicate n 0) ^^^ 4294967295)
  rw [x4 (reg (flip 0) as), Nat.xor_self, Nat.xor_zero, Nat.xor_assoc, Nat.xor_assoc]
end Go.Proofs.Ytophkfbdhejmcaa
