/- Sets of numbers, a bit each, the highest first: no program is named here. -/
import Derived.WalkKit
import Derived.Laws.BitsAllLaws
namespace Go.Proofs.Ytfbmpnhoohfcgaa
open Go.RowKit

def AllB (zs : List Int) : Prop := ∀ z ∈ zs, 0 ≤ z ∧ z ≤ 255
theorem AllB.nil : AllB [] := by intro z hz; cases hz
theorem AllB.append {a b : List Int} (ha : AllB a) (hb : AllB b) : AllB (a ++ b) := by
  intro z hz; rcases List.mem_append.1 hz with h | h
  · exact ha z h
  · exact hb z h
theorem AllB.take {a : List Int} (ha : AllB a) (k : Nat) : AllB (a.take k) := fun z hz => ha z (List.mem_of_mem_take hz)
theorem AllB.drop {a : List Int} (ha : AllB a) (k : Nat) : AllB (a.drop k) := fun z hz => ha z (List.mem_of_mem_drop hz)
theorem AllB.getD {a : List Int} (ha : AllB a) (k : Nat) : 0 ≤ a.getD k 0 ∧ a.getD k 0 ≤ 255 := by
  rw [List.getD_eq_getElem?_getD]
  rcases Nat.lt_or_ge k a.length with h | h
  · rw [List.getElem?_eq_getElem h]; exact ha _ (List.getElem_mem h)
  · rw [List.getElem?_eq_none h]; exact ⟨by decide, by decide⟩
theorem AllB.set {a : List Int} (ha : AllB a) (k : Nat) {z : Int} (h0 : 0 ≤ z) (h1 : z ≤ 255) : AllB (a.set k z) := fun y hy => by
  rcases List.mem_or_eq_of_mem_set hy with h | h
  · exact ha y h
  · subst h; exact ⟨h0, h1⟩
theorem AllB.zeros (n : Nat) : AllB (List.replicate n 0) := fun z hz => by
  obtain ⟨_, rfl⟩ := List.mem_replicate.1 hz; exact ⟨by decide, by decide⟩

/-- The byte of number n. -/
def byt (zs : List Int) (n : Nat) : Nat := (zs.getD (n / 8) 0).toNat
/-- Is n in the set? -/
def hasB (zs : List Int) (n : Nat) : Bool := (byt zs n).testBit (7 - n % 8)
def hasI (zs : List Int) (i : Int) : Bool := decide (0 ≤ i) && hasB zs i.toNat
/-- A byte with a bit, or without it. -/
def bitB (z k : Nat) (on : Bool) : Nat := if on then z ||| 2 ^ k else z &&& (255 - 2 ^ k)
def setB (zs : List Int) (n : Nat) (on : Bool) : List Int := zs.set (n / 8) (bitB (byt zs n) (7 - n % 8) on : Nat)
def withI (zs : List Int) (i : Int) (on : Bool) : List Int := if 0 ≤ i ∧ i.toNat < 8 * zs.length then setB zs i.toNat on else zs
def listS (zs : List Int) : List Nat := (List.range (8 * zs.length)).filter (hasB zs)

theorem byt_lt {zs : List Int} (h : AllB zs) (n : Nat) : byt zs n < 256 := by
  have := h.getD (n / 8); unfold byt; omega
theorem pw_lt (k : Nat) (h : k < 8) : 2 ^ k < 256 := by
  have : 2 ^ k < 2 ^ 8 := Nat.pow_lt_pow_right (by decide) h
  simpa using this
theorem bitB_lt {z k : Nat} (hz : z < 256) (hk : k < 8) (on : Bool) : bitB z k on < 256 := by
  cases on
  · exact Nat.lt_of_le_of_lt Nat.and_le_left hz
  · exact Nat.or_lt_two_pow (n := 8) hz (pw_lt k hk)
theorem not_bit (k j : Nat) (hk : k < 8) (hj : j < 8) : (255 - 2 ^ k).testBit j = !decide (k = j) := by
  have e : 255 - 2 ^ k = 2 ^ 8 - (2 ^ k + 1) := by omega
  rw [e, Nat.testBit_two_pow_sub_succ (pw_lt k hk), Nat.testBit_two_pow]
  simp [hj]
theorem bitB_bit (z k j : Nat) (hk : k < 8) (hj : j < 8) (on : Bool) : (bitB z k on).testBit j = if j = k then on else z.testBit j := by
  cases on
  · show (z &&& (255 - 2 ^ k)).testBit j = _
    rw [Nat.testBit_and, not_bit k j hk hj]
    by_cases e : j = k
    · subst e; simp
    · simp [e, Ne.symm e]
  · show (z ||| 2 ^ k).testBit j = _
    rw [Nat.testBit_or, Nat.testBit_two_pow]
    by_cases e : j = k
    · subst e; simp
    · simp [e, Ne.symm e]
theorem setB_length (zs : List Int) (n : Nat) (on : Bool) : (setB zs n on).length = zs.length := by simp [setB]
theorem setB_all {zs : List Int} (h : AllB zs) (n : Nat) (on : Bool) : AllB (setB zs n on) := by
  have := bitB_lt (byt_lt h n) (k := 7 - n % 8) (by omega) on
  exact h.set _ (by omega) (by omega)
theorem byt_set (zs : List Int) (n m : Nat) (x : Nat) (hn : n / 8 < zs.length) : byt (zs.set (n / 8) (x : Int)) m = if n / 8 = m / 8 then x else byt zs m := by
  unfold byt
  rw [List.getD_eq_getElem?_getD, List.getElem?_set]
  by_cases e : n / 8 = m / 8
  · rw [if_pos e, if_pos e, if_pos hn]; simp
  · rw [if_neg e, if_neg e, List.getD_eq_getElem?_getD]
theorem hasB_setB {zs : List Int} (n m : Nat) (on : Bool) (hn : n / 8 < zs.length) : hasB (setB zs n on) m = if m = n then on else hasB zs m := by
  unfold hasB setB
  rw [byt_set _ _ _ _ hn]
  by_cases e : n / 8 = m / 8
  · rw [if_pos e, bitB_bit _ _ _ (by omega) (by omega)]
    by_cases e2 : m = n
    · subst e2; simp
    · rw [if_neg (by omega), if_neg e2]
      unfold byt; rw [e]
  · rw [if_neg e, if_neg (by rintro rfl; exact e rfl)]
theorem hasB_out {zs : List Int} {n : Nat} (h : 8 * zs.length ≤ n) : hasB zs n = false := by
  unfold hasB byt
  rw [List.getD_eq_getElem?_getD, List.getElem?_eq_none (by omega)]
  simp
theorem byte_ext {x y : Nat} (hx : x < 256) (hy : y < 256) (h : ∀ k, k < 8 → x.testBit k = y.testBit k) : x = y := by
  refine Nat.eq_of_testBit_eq (fun i => ?_)
  by_cases hi : i < 8
  · exact h i hi
  · have p : 2 ^ 8 ≤ 2 ^ i := Nat.pow_le_pow_right (by decide) (by omega)
    rw [Nat.testBit_lt_two_pow (by omega), Nat.testBit_lt_two_pow (by omega)]
theorem set_ext {a b : List Int} (ha : AllB a) (hb : AllB b) (hl : a.length = b.length) (h : ∀ n, n < 8 * a.length → hasB a n = hasB b n) : a = b := by
  refine List.ext_getElem hl (fun i h1 h2 => ?_)
  have ea := ha _ (List.getElem_mem h1)
  have eb := hb _ (List.getElem_mem h2)
  have : a[i].toNat = b[i].toNat := by
    refine byte_ext (by omega) (by omega) (fun k hk => ?_)
    have := h (8 * i + (7 - k)) (by omega)
    unfold hasB byt at this
    have e1 : (8 * i + (7 - k)) / 8 = i := by omega
    have e2 : 7 - (8 * i + (7 - k)) % 8 = k := by omega
    rw [e1, e2, List.getD_eq_getElem?_getD, List.getElem?_eq_getElem h1, List.getD_eq_getElem?_getD, List.getElem?_eq_getElem h2] at this
    exact this
  omega

def upd {α : Type} (f : Nat → α) (n : Nat) (v : α) : Nat → α := fun k => if k = n then v else f k
theorem upd_same {α : Type} (f : Nat → α) (n : Nat) (v : α) : upd f n v n = v := by simp [upd]
theorem upd_other {α : Type} (f : Nat → α) {n k : Nat} (v : α) (h : k ≠ n) : upd f n v k = f k := by simp [upd, h]
theorem filter_upd (L : Nat → Bool) (n : Nat) (hl : L n = false) : ∀ (l : List Nat), l.Nodup → n ∈ l → (l.filter (upd L n true)).length = (l.filter L).length + 1
  | [], _, h => by cases h
  | m :: l, hd, h => by
    have hd2 := List.nodup_cons.1 hd
    by_cases e : m = n
    · subst e
      have e1 : l.filter (upd L m true) = l.filter L := List.filter_congr (fun k hk => upd_other _ _ (fun e => hd2.1 (by rw [← e]; exact hk)))
      rw [List.filter_cons_of_pos (by rw [upd_same]), List.filter_cons_of_neg (by simp [hl]), e1, List.length_cons]
    · have ih := filter_upd L n hl l hd2.2 (by rcases List.mem_cons.1 h with h | h; exact absurd h.symm e; exact h)
      cases hm : L m
      · rw [List.filter_cons_of_neg (by rw [upd_other _ _ e]; simp [hm]), List.filter_cons_of_neg (by simp [hm])]
        exact ih
      · rw [List.filter_cons_of_pos (by rw [upd_other _ _ e]; simp [hm]), List.filter_cons_of_pos (by simp [hm]), List.length_cons, List.length_cons, ih]
theorem count_set {zs : List Int} {n : Nat} (hn : n < 8 * zs.length) (h : hasB zs n = false) : (listS (setB zs n true)).length = (listS zs).length + 1 := by
  unfold listS
  rw [setB_length]
  have e : hasB (setB zs n true) = upd (hasB zs) n true := funext fun m => hasB_setB n m true (by omega)
  rw [e]
  exact filter_upd _ _ h _ List.nodup_range (by simpa using hn)
theorem count_full {zs : List Int} (h : ∀ n, n < 8 * zs.length → hasB zs n = true) : (listS zs).length = 8 * zs.length := by
  unfold listS
  rw [List.filter_eq_self.2 (fun n hn => h n (by simpa using hn)), List.length_range]
theorem count_none {zs : List Int} (h : ∀ n, n < 8 * zs.length → hasB zs n = false) : listS zs = [] := by
  unfold listS
  rw [List.filter_eq_nil_iff]
  intro n hn
  rw [h n (by simpa using hn)]; simp
theorem count_split (p q r : Nat → Bool) (h1 : ∀ n, p n = (q n || r n)) (h2 : ∀ n, (q n && r n) = false) : ∀ l : List Nat, (l.filter p).length = (l.filter q).length + (l.filter r).length
  | [] => rfl
  | n :: l => by
    have ih := count_split p q r h1 h2 l
    have a := h1 n
    have b := h2 n
    simp only [List.filter_cons]
    cases hq : q n <;> cases hr : r n <;> rw [hq, hr] at a b <;> simp_all <;> omega
theorem filter_more (p : Nat → Bool) (n : Nat) (hp : ∀ k, n ≤ k → p k = false) : ∀ d, (List.range (n + d)).filter p = (List.range n).filter p
  | 0 => rfl
  | d + 1 => by
    rw [← Nat.add_assoc, List.range_succ, List.filter_append, filter_more p n hp d]
    simp [hp (n + d) (by omega)]
theorem list_more (zs : List Int) (n : Nat) (h : 8 * zs.length ≤ n) : (List.range n).filter (hasB zs) = listS zs := by
  obtain ⟨d, rfl⟩ := Nat.exists_eq_add_of_le h
  exact filter_more _ _ (fun k hk => hasB_out hk) d
/-- What is in one of both; what is in the one alone. -/
def IsJoin (a b zs : List Int) : Prop := zs.length = max a.length b.length ∧ AllB zs ∧ ∀ n, hasB zs n = (hasB a n || hasB b n)
def IsLess (a b zs : List Int) : Prop := zs.length = max a.length b.length ∧ AllB zs ∧ ∀ n, hasB zs n = (hasB a n && !hasB b n)
theorem IsJoin.one {a b x y : List Int} (h : IsJoin a b x) (k : IsJoin a b y) : x = y :=
  set_ext h.2.1 k.2.1 (h.1.trans k.1.symm) (fun n _ => (h.2.2 n).trans (k.2.2 n).symm)
theorem IsLess.one {a b x y : List Int} (h : IsLess a b x) (k : IsLess a b y) : x = y :=
  set_ext h.2.1 k.2.1 (h.1.trans k.1.symm) (fun n _ => (h.2.2 n).trans (k.2.2 n).symm)
/-- The lowest that is not in, from f on. -/
def IsFirst (zs : List Int) (f i : Nat) (ok : Bool) : Prop :=
  (ok = true ∧ f ≤ i ∧ i < 8 * zs.length ∧ hasB zs i = false ∧ ∀ j, f ≤ j → j < i → hasB zs j = true) ∨ (ok = false ∧ i = 0 ∧ ∀ j, f ≤ j → j < 8 * zs.length → hasB zs j = true)
theorem IsFirst.one {zs : List Int} {f i j : Nat} {a b : Bool} (h : IsFirst zs f i a) (k : IsFirst zs f j b) : i = j ∧ a = b := by
  rcases h with ⟨rfl, h1, h2, h3, h4⟩ | ⟨rfl, rfl, h1⟩ <;> rcases k with ⟨rfl, k1, k2, k3, k4⟩ | ⟨rfl, rfl, k1'⟩
  · refine ⟨?_, rfl⟩
    rcases Nat.lt_trichotomy i j with e | e | e
    · have := k4 i h1 e; rw [h3] at this; cases this
    · exact e
    · have := h4 j k1 e; rw [k3] at this; cases this
  · have := k1' i h1 h2; rw [h3] at this; cases this
  · have := h1 j k1 k2; rw [k3] at this; cases this
  · exact ⟨rfl, rfl⟩
/-! ### as the program spells it -/
theorem and_bit (z k : Nat) (hz : z < 256) (hk : k < 8) : bits .and .u8 (z : Int) ((2 ^ k : Nat) : Int) = if z.testBit k then ((2 ^ k : Nat) : Int) else 0 := by
  rw [u8_and_nat z _ hz (pw_lt k hk)]
  have : ∀ z : Fin 256, ∀ k : Fin 8, z.val &&& 2 ^ k.val = if z.val.testBit k.val then 2 ^ k.val else 0 := by decide +kernel
  have := this ⟨z, hz⟩ ⟨k, hk⟩
  simp only at this
  rw [this]
  split <;> rfl
theorem or_bit (z k : Nat) (hz : z < 256) (hk : k < 8) : bits .or .u8 (z : Int) ((2 ^ k : Nat) : Int) = (bitB z k true : Nat) := u8_or_nat z _ hz (pw_lt k hk)
theorem less_bit (z k : Nat) (hz : z < 256) (hk : k < 8) : bits .andNot .u8 (z : Int) ((2 ^ k : Nat) : Int) = (bitB z k false : Nat) := u8_andNot_nat z _ hz (pw_lt k hk)
theorem or_bytes (x y : Nat) (hx : x < 256) (hy : y < 256) : ∃ z : Nat, z < 256 ∧ bits .or .u8 (x : Int) (y : Int) = z ∧ ∀ k, k < 8 → z.testBit k = (x.testBit k || y.testBit k) :=
  ⟨x ||| y, Nat.or_lt_two_pow (n := 8) hx hy, u8_or_nat x y hx hy, fun _ _ => Nat.testBit_or ..⟩
theorem less_bytes (x y : Nat) (hx : x < 256) (hy : y < 256) : ∃ z : Nat, z < 256 ∧ bits .andNot .u8 (x : Int) (y : Int) = z ∧ ∀ k, k < 8 → z.testBit k = (x.testBit k && !y.testBit k) := by
  refine ⟨x &&& (255 - y), Nat.lt_of_le_of_lt Nat.and_le_left hx, u8_andNot_nat x y hx hy, fun k hk => ?_⟩
  have e : 255 - y = 2 ^ 8 - (y + 1) := by omega
  rw [Nat.testBit_and, e, Nat.testBit_two_pow_sub_succ hy]
  simp [hk]
theorem add_bit (z k : Nat) (hz : z < 256) (hk : k < 8) (h : z.testBit k = false) : z + 2 ^ k = bitB z k true := by
  have : ∀ z : Fin 256, ∀ k : Fin 8, z.val.testBit k.val = false → z.val + 2 ^ k.val = z.val ||| 2 ^ k.val := by decide +kernel
  exact this ⟨z, hz⟩ ⟨k, hk⟩ h
theorem sub_bit (z k : Nat) (hz : z < 256) (hk : k < 8) (h : z.testBit k = true) : z = bitB z k false + 2 ^ k := by
  have : ∀ z : Fin 256, ∀ k : Fin 8, z.val.testBit k.val = true → z.val = (z.val &&& (255 - 2 ^ k.val)) + 2 ^ k.val := by decide +kernel
  exact this ⟨z, hz⟩ ⟨k, hk⟩ h
theorem bitB_self (z k : Nat) (hz : z < 256) (hk : k < 8) : bitB z k (z.testBit k) = z := by
  have : ∀ z : Fin 256, ∀ k : Fin 8, bitB z.val k.val (z.val.testBit k.val) = z.val := by decide +kernel
  exact this ⟨z, hz⟩ ⟨k, hk⟩
theorem setB_self {zs : List Int} (h : AllB zs) (n : Nat) (on : Bool) (hn : n / 8 < zs.length) (hh : hasB zs n = on) : setB zs n on = zs := by
  subst hh
  unfold setB hasB
  rw [bitB_self _ _ (byt_lt h n) (by omega)]
  have e : ((byt zs n : Nat) : Int) = zs[n / 8] := by
    have := h _ (List.getElem_mem hn)
    unfold byt
    rw [List.getD_eq_getElem?_getD, List.getElem?_eq_getElem hn]
    simp; omega
  rw [e, List.set_getElem_self]
end Go.Proofs.Ytfbmpnhoohfcgaa
