/- num.Put at any number and any width: contracts of single calls. -/
import Derived.Test.YtpmhilaochfpaaaDoorGets2
namespace Go.Proofs.YtpmhilaochfpaaaDoor
set_option maxRecDepth 20000
set_option maxRecDepth 20000
open Go.RowKit
theorem Tryd.info5 : (Tryd.prog.info? 5).map (fun i => (i.zero, i.size, i.bytes)) = some (some (.int .u8 0), 1, 1) := by kernel_rfl

theorem two8 (x : Nat) : (2 : Int) ^ (8 * x) = 256 ^ x := by rw [Int.pow_mul]; rfl
theorem lim (x : Nat) (h : x ≤ 6) : wrap64 (2 ^ (8 * x)) = 256 ^ x := by
  rw [two8]
  have := pow_le h
  have p := pow_pos x
  have q : (256 : Int) ^ 6 = 281474976710656 := by decide
  unfold wrap64; omega

/-- The row behind k rounds: the lowest k bytes stand at its end. -/
def rowAt (n : Int) (x k : Nat) : List Value := List.replicate (x - k) (Value.int .u8 0) ++ (dig n k).map (Value.int .u8)
theorem rowAt_zero (n : Int) (x : Nat) : rowAt n x 0 = List.replicate x (Value.int .u8 0) := by simp [rowAt, dig]
theorem rowAt_full (n : Int) (x : Nat) : rowAt n x x = (dig n x).map (Value.int .u8) := by simp [rowAt]
theorem rowAt_set (n : Int) (x k : Nat) (h : k < x) : (rowAt n x k).set (x - 1 - k) (.int .u8 (n / 256 ^ k % 256)) = rowAt n x (k + 1) := by
  unfold rowAt
  obtain ⟨d, rfl⟩ := Nat.exists_eq_add_of_lt h
  have e1 : k + d + 1 - k = d + 1 := by omega
  have e2 : k + d + 1 - 1 - k = d := by omega
  have e3 : k + d + 1 - (k + 1) = d := by omega
  rw [e1, e2, e3, dig_cons, List.replicate_succ', List.append_assoc, List.set_append_right _ _ (by simp)]
  simp

set_option maxHeartbeats 400000 in
theorem put_ok (n : Int) (x : Nat) (w : World) (h1 : 1 ≤ x) (h6 : x ≤ 6) (h0 : 0 ≤ n) (hn : n < 256 ^ x) :
    Calls Tryd.prog 19 #[.int .i64 n, .int .i64 x] w fun e w' => ∃ v, e = .returned (.tuple #[v, .int .i64 0]) ∧ w'.ownsRow w.heap.size 5 1 v x ((dig n x).map (Value.int .u8)) ∧ Below w.heap.size w w' := by
  obtain ⟨i0, hi, hz0, hz1, hz2⟩ := info_parts Tryd.info5
  have hlim : n < wrap64 (2 ^ (8 * x)) := by rw [lim x h6]; exact hn
  have hmx : n < 281474976710656 := by have := pow_le h6; have q : (256 : Int) ^ 6 = 281474976710656 := by decide
                                       omega
  clear hn
  go_enter Tryd.func19, Tryd.ntmps19
  go_wp2_with (first | (go_at_call 33; refine (mayBe_yes _ _ (by omega) (by omega)).mono ?_; rintro e w' ⟨rfl, hw⟩; obtain rfl := hw.symm) | (at_make; refine wpList_make_full _ rfl _ _ 53 rfl w.heap.size 5 i0 (.int .u8 0) 1 Tryd.underlying53 hi hz0 hz1 .i64 .i64 _ _ x rfl rfl rfl rfl ?c2 ?c3 (Nat.le_refl _) ?_))
  case c2 => rw [hz2]; omega
  case c3 => unfold maxLen; omega
  intro w1 hown hg
  have hb1 : Below w.heap.size w w1 := (Below.refl _ _).grown hg (Nat.le_refl _) (by intro k hk; cases hk)
  have hown1 : w1.ownsRow w.heap.size 5 1 (.slice (some ⟨w.heap.size, 0, none⟩) x x) x (rowAt n x 0) := by
    rw [toList_madeCells_one] at hown; rw [rowAt_zero]; exact hown
  clear hown hg hlim
  go_wp2
  go_loopw [23] (fun i wr => ∃ k : Nat, k ≤ x ∧ i = .int .i64 k ∧ wr.ownsRow w.heap.size 5 1 (.slice (some ⟨w.heap.size, 0, none⟩) x x) x (rowAt n x k) ∧ Below w.heap.size w wr) (fun i _ => x - (intOf i).toNat)
  case atStart => exact ⟨0, Nat.zero_le _, rfl, hown1, hb1⟩
  case round =>
    obtain ⟨k, hk, rfl, hown, hb⟩ := hrel
    clear hown1 hb1
    by_cases hlt : k < x
    · have hfz := hown.frozenAt (x - 1 - k)
      obtain ⟨u, hu⟩ : ∃ u, wr.cell? ⟨w.heap.size, x - 1 - k, none⟩ = some u := by
        rw [hown.cellAt (x - 1 - k) (by omega)]
        have : x - 1 - k < (rowAt n x k).length := by rw [hown.1]; omega
        exact ⟨_, List.getElem?_eq_getElem this⟩
      have hst := hown.stored (x - 1 - k) (.int .u8 (n / 2 ^ (8 * k) % 256))
      have HO : Hid ((wr.setCell ⟨w.heap.size, x - 1 - k, none⟩ (.int .u8 (n / 2 ^ (8 * k) % 256))).ownsRow w.heap.size 5 1 (.slice (some ⟨w.heap.size, 0, none⟩) x x) x (rowAt n x (k + 1))) := by
        have h := hst.1
        have e := rowAt_set n x k hlt
        rw [← two8] at e
        rw [e] at h
        exact h
      have HB : Hid (Below w.heap.size w (wr.setCell ⟨w.heap.size, x - 1 - k, none⟩ (.int .u8 (n / 2 ^ (8 * k) % 256)))) := hb.setCell (Nat.le_refl _) _
      clear hst hown hb
      go_wp2
      go_roundw
      case rel => exact ⟨k + 1, by omega, by go_num, HO.out, HB.out⟩
      case measure => simp [intOf]; omega
    · have : k = x := by omega
      subst this
      rw [rowAt_full] at hown
      go_wp2
      go_ret2
      exact ⟨_, rfl, hown, hb⟩
set_option maxHeartbeats 400000 in
theorem put_arg (n x : Int) (w : World) (h : x < 1 ∨ 6 < x) :
    Calls Tryd.prog 19 #[.int .i64 n, .int .i64 x] w fun e w' => e = .returned (.tuple #[.slice none 0 0, .int .i64 2]) ∧ w' = w := by
  go_enter Tryd.func19, Tryd.ntmps19
  go_wp2_with (go_at_call 33; refine (mayBe_no _ _ h).mono ?_; rintro e w' ⟨rfl, rfl⟩)
  go_ret2
  exact ⟨rfl, rfl⟩
set_option maxHeartbeats 400000 in
theorem put_range (n : Int) (x : Nat) (w : World) (h1 : 1 ≤ x) (h6 : x ≤ 6) (hn : n < 0 ∨ 256 ^ x ≤ n) :
    Calls Tryd.prog 19 #[.int .i64 n, .int .i64 x] w fun e w' => e = .returned (.tuple #[.slice none 0 0, .int .i64 12]) ∧ w' = w := by
  rw [← lim x h6] at hn
  by_cases h0 : n < 0
  · go_enter Tryd.func19, Tryd.ntmps19
    go_wp2_with (go_at_call 33; refine (mayBe_yes _ _ (by omega) (by omega)).mono ?_; rintro e w' ⟨rfl, rfl⟩)
    go_ret2
    exact ⟨rfl, rfl⟩
  · have h : wrap64 (2 ^ (8 * x)) ≤ n := by omega
    clear hn
    go_enter Tryd.func19, Tryd.ntmps19
    go_wp2_with (go_at_call 33; refine (mayBe_yes _ _ (by omega) (by omega)).mono ?_; rintro e w' ⟨rfl, rfl⟩)
    go_ret2
    exact ⟨rfl, rfl⟩

def putE (n x : Int) : Int := if x < 1 ∨ 6 < x then 2 else if n < 0 ∨ 256 ^ x.toNat ≤ n then 12 else 0
def putL (n x : Int) : List Int := if x < 1 ∨ 6 < x then [] else if n < 0 ∨ 256 ^ x.toNat ≤ n then [] else dig n x.toNat

/-- v is a slice of the call's own with these bytes. -/
def Own (w : World) (base : Nat) (v : Value) (zs : List Int) : Prop := w.ownsRow base 5 1 v zs.length (zs.map (Value.int .u8))

theorem Own.nil (w : World) (base : Nat) : Own w base (.slice none 0 0) [] := World.ownsRow_nil w base 5 1

theorem putL_all (n x : Int) : AllB (putL n x) := by
  unfold putL
  split
  · exact AllB.nil
  · split
    · exact AllB.nil
    · exact dig_all _ _

theorem put_any (n x : Int) (w : World) :
    Calls Tryd.prog 19 #[.int .i64 n, .int .i64 x] w fun e w' => ∃ v, e = .returned (.tuple #[v, .int .i64 (putE n x)]) ∧ Own w' w.heap.size v (putL n x) ∧ Below w.heap.size w w' := by
  unfold putE putL
  by_cases h : x < 1 ∨ 6 < x
  · rw [if_pos h, if_pos h]
    refine (put_arg n x w h).mono ?_
    rintro e w' ⟨rfl, hw⟩
    obtain rfl := hw.symm
    exact ⟨_, rfl, Own.nil _ _, Below.refl _ _⟩
  · rw [if_neg h, if_neg h]
    obtain ⟨y, rfl⟩ := Int.eq_ofNat_of_zero_le (show 0 ≤ x by omega)
    rw [Int.toNat_natCast]
    by_cases h2 : n < 0 ∨ 256 ^ y ≤ n
    · rw [if_pos h2, if_pos h2]
      refine (put_range n y w (by omega) (by omega) h2).mono ?_
      rintro e w' ⟨rfl, hw⟩
      obtain rfl := hw.symm
      exact ⟨_, rfl, Own.nil _ _, Below.refl _ _⟩
    · rw [if_neg h2, if_neg h2]
      refine (put_ok n y w (by omega) (by omega) (by omega) (by omega)).mono ?_
      rintro e w' ⟨v, rfl, ho, hb⟩
      refine ⟨v, rfl, ?_, hb⟩
      unfold Own
      rw [dig_length]
      exact ho
end Go.Proofs.YtpmhilaochfpaaaDoor
