import Derived.Test.YtpmhilaochfpaaaDoorV5
import Derived.Test.YtpmhilaochfpaaaDoorRows
import Derived.WalkSpells
import Derived.WalkLawsBesides
namespace Go.Proofs.YtpmhilaochfpaaaDoor
set_option maxRecDepth 20000
set_option maxRecDepth 20000
open Go.RowKit
def BV (w : World) (a : Option Addr) (zs : List Int) : Prop :=
  AllB zs ∧ (zs = [] ∨ ∃ b off, a = some ⟨b, off, none⟩ ∧ b < w.heap.size ∧ ∀ i, i < zs.length → w.cell? ⟨b, off + i, none⟩ = some (.int .u8 (zs.getD i 0)))

def getE (zs : List Int) (x : Int) : Int := if x < 1 ∨ 6 < x then 2 else if (zs.length : Int) < x then 3 else 0
def getV (zs : List Int) (x : Int) : Int := if x < 1 ∨ 6 < x then 0 else if (zs.length : Int) < x then 0 else val (zs.take x.toNat)

theorem ret2 {a b c d : Int} (h1 : a = c) (h2 : b = d) : Ending.returned (.tuple #[.int .i64 a, .int .i64 b]) = .returned (.tuple #[.int .i64 c, .int .i64 d]) := by rw [h1, h2]

set_option maxHeartbeats 400000 in
theorem mayBe_yes (x : Int) (w : World) (h1 : 1 ≤ x) (h6 : x ≤ 6) : Calls Tryd.prog 33 #[.int .i64 x] w fun e w' => e = .returned (.bool true) ∧ w' = w := by
  have hd : decide (x ≤ 6) = true := by simpa using h6
  go_enter Tryd.func33, Tryd.ntmps33
  go_wp2
  go_ret
  exact ⟨rfl, rfl⟩
set_option maxHeartbeats 400000 in
theorem mayBe_no (x : Int) (w : World) (h1 : x < 1 ∨ 6 < x) : Calls Tryd.prog 33 #[.int .i64 x] w fun e w' => e = .returned (.bool false) ∧ w' = w := by
  rcases h1 with h1 | h1
  · go_enter Tryd.func33, Tryd.ntmps33
    go_wp2
    go_ret
    exact ⟨rfl, rfl⟩
  · have hd : decide (x ≤ 6) = false := by simp; omega
    go_enter Tryd.func33, Tryd.ntmps33
    go_wp2
    go_ret
    exact ⟨rfl, rfl⟩

set_option maxHeartbeats 400000 in
theorem get_arg (a : Option Addr) (len cap : Nat) (x : Int) (w : World) (h : x < 1 ∨ 6 < x) :
    Calls Tryd.prog 21 #[.slice a len cap, .int .i64 x] w fun e w' => e = .returned (.tuple #[.int .i64 0, .int .i64 2]) ∧ w' = w := by
  go_enter Tryd.func21, Tryd.ntmps21
  go_wp2_with (go_at_call 33; refine (mayBe_no _ _ h).mono ?_; rintro e w' ⟨rfl, rfl⟩)
  go_ret2
  exact ⟨rfl, rfl⟩
set_option maxHeartbeats 400000 in
theorem get_cut (a : Option Addr) (len cap : Nat) (x : Int) (w : World) (h1 : 1 ≤ x) (h6 : x ≤ 6) (hl : (len : Int) < x) :
    Calls Tryd.prog 21 #[.slice a len cap, .int .i64 x] w fun e w' => e = .returned (.tuple #[.int .i64 0, .int .i64 3]) ∧ w' = w := by
  go_enter Tryd.func21, Tryd.ntmps21
  go_wp2_with (go_at_call 33; refine (mayBe_yes _ _ (by omega) (by omega)).mono ?_; rintro e w' ⟨rfl, rfl⟩)
  go_ret2
  exact ⟨rfl, rfl⟩
set_option maxHeartbeats 400000 in
theorem get_ok (b off len cap : Nat) (zs : List Int) (x : Nat) (w : World) (h1 : 1 ≤ x) (h6 : x ≤ 6) (hl : x ≤ len) (hm : len ≤ 9223372036854775807)
   (hz : AllB zs) (hlen : zs.length = len) (hc : ∀ i, i < zs.length → w.cell? ⟨b, off + i, none⟩ = some (.int .u8 (zs.getD i 0))) :
    Calls Tryd.prog 21 #[.slice (some ⟨b, off, none⟩) len cap, .int .i64 x] w fun e w' => e = .returned (.tuple #[.int .i64 (val (zs.take x)), .int .i64 0]) ∧ w' = w := by
  have HL : Hid (zs.length = len) := hlen
  clear hlen
  go_enter Tryd.func21, Tryd.ntmps21
  go_wp2_with (go_at_call 33; refine (mayBe_yes _ _ (by omega) (by omega)).mono ?_; rintro e w' ⟨rfl, rfl⟩)
  go_loop [6, 16] (fun n i => ∃ k : Nat, k ≤ x ∧ i = .int .i64 k ∧ n = .int .i64 (val (zs.take k))) (fun _ i => x - (intOf i).toNat)
  case atStart => exact ⟨0, Nat.zero_le _, rfl, rfl⟩
  case round =>
    obtain ⟨k, hk, rfl, rfl⟩ := hrel
    by_cases hlt : k < x
    · obtain ⟨hv0, hv1⟩ := val_take_bound5 zs k (by omega) hz
      have hck := hc k (by have := HL.out; omega)
      obtain ⟨hz0, hz1⟩ := hz.getD k
      go_wp2
      go_round
      case rel =>
        refine ⟨k + 1, by omega, by go_num, ?_⟩
        rw [val_take zs k (by have := HL.out; omega), ← List.getD_eq_getElem?_getD, or_byte _ _ hv0 hv1 hz0 hz1]
      case measure => simp [intOf]; omega
    · go_wp2
      go_ret2
      exact ⟨ret2 (by rw [show k = x from by omega]) rfl, rfl⟩

theorem get_any (a : Option Addr) (len cap : Nat) (zs : List Int) (x : Int) (w : World) (hb : BV w a zs) (hl : zs.length = len) (hm : len ≤ 9223372036854775807) :
    Calls Tryd.prog 21 #[.slice a len cap, .int .i64 x] w fun e w' => e = .returned (.tuple #[.int .i64 (getV zs x), .int .i64 (getE zs x)]) ∧ w' = w := by
  unfold getV getE
  by_cases h : x < 1 ∨ 6 < x
  · rw [if_pos h, if_pos h]; exact get_arg a len cap x w h
  · rw [if_neg h, if_neg h, hl]
    by_cases h2 : (len : Int) < x
    · rw [if_pos h2, if_pos h2]; exact get_cut a len cap x w (by omega) (by omega) h2
    · rw [if_neg h2, if_neg h2]
      obtain ⟨y, rfl⟩ := Int.eq_ofNat_of_zero_le (show 0 ≤ x by omega)
      rw [Int.toNat_natCast]
      obtain ⟨hz, h3 | ⟨b, off, rfl, _, hc⟩⟩ := hb
      · subst h3; simp at hl; omega
      · exact get_ok b off len cap zs y w (by omega) (by omega) (by omega) hm hz hl hc
end Go.Proofs.YtpmhilaochfpaaaDoor
namespace Go.Proofs.YtpmhilaochfpaaaDoor
set_option maxRecDepth 20000
set_option maxRecDepth 20000
open Go.RowKit
def sgE (zs : List Int) : Int := if zs.length < 6 then 3 else if 2199023255552 < val (zs.take 6) then 12 else 0
def sgV (zs : List Int) : Int := if zs.length < 6 then 0 else if 2199023255552 < val (zs.take 6) then 0 else val (zs.take 6) - 1099511627776

theorem get6_cut (zs : List Int) (h : zs.length < 6) : getV zs 6 = 0 ∧ getE zs 6 = 3 := by
  constructor
  · unfold getV; rw [if_neg (by decide), if_pos (by omega)]
  · unfold getE; rw [if_neg (by decide), if_pos (by omega)]
theorem get6_ok (zs : List Int) (h : ¬ zs.length < 6) : getV zs 6 = val (zs.take 6) ∧ getE zs 6 = 0 := by
  constructor
  · unfold getV; rw [if_neg (by decide), if_neg (by omega)]; rfl
  · unfold getE; rw [if_neg (by decide), if_neg (by omega)]

set_option maxHeartbeats 400000 in
theorem rget_arg (a : Option Addr) (len cap : Nat) (x : Int) (w : World) (h : x < 1 ∨ 6 < x) :
    Calls Tryd.prog 22 #[.slice a len cap, .int .i64 x] w fun e w' => e = .returned (.tuple #[.int .i64 0, .int .i64 2]) ∧ w' = w := by
  by_cases h1 : x < 1
  · go_enter Tryd.func22, Tryd.ntmps22
    go_wp2
    go_ret2
    exact ⟨rfl, rfl⟩
  · have h2 : 6 < x := by omega
    go_enter Tryd.func22, Tryd.ntmps22
    go_wp2
    go_ret2
    exact ⟨rfl, rfl⟩
set_option maxHeartbeats 400000 in
theorem rget_cut (a : Option Addr) (len cap : Nat) (x : Int) (w : World) (h1 : 1 ≤ x) (h6 : x ≤ 6) (hl : (len : Int) < x) :
    Calls Tryd.prog 22 #[.slice a len cap, .int .i64 x] w fun e w' => e = .returned (.tuple #[.int .i64 0, .int .i64 3]) ∧ w' = w := by
  have d1 : decide (6 < x) = false := by simp; omega
  go_enter Tryd.func22, Tryd.ntmps22
  go_wp2
  go_ret2
  exact ⟨rfl, rfl⟩
set_option maxHeartbeats 400000 in
theorem rget_ok (b off len cap : Nat) (zs : List Int) (x : Nat) (w : World) (h1 : 1 ≤ x) (h6 : x ≤ 6) (hl : x ≤ len) (hm : len ≤ 9223372036854775807)
   (hz : AllB zs) (hlen : zs.length = len) (hc : ∀ i, i < zs.length → w.cell? ⟨b, off + i, none⟩ = some (.int .u8 (zs.getD i 0))) :
    Calls Tryd.prog 22 #[.slice (some ⟨b, off, none⟩) len cap, .int .i64 x] w fun e w' => e = .returned (.tuple #[.int .i64 (val (zs.take x)), .int .i64 0]) ∧ w' = w := by
  have HL : Hid (zs.length = len) := hlen
  clear hlen
  have d1 : decide (6 < (x : Int)) = false := by simp; omega
  go_enter Tryd.func22, Tryd.ntmps22
  go_wp2
  go_loop [6, 7] (fun n i => ∃ k : Nat, k ≤ x ∧ i = .int .i64 k ∧ n = .int .i64 (val (zs.take k))) (fun _ i => x - (intOf i).toNat)
  case atStart => exact ⟨0, Nat.zero_le _, rfl, rfl⟩
  case round =>
    obtain ⟨k, hk, rfl, rfl⟩ := hrel
    by_cases hlt : k < x
    · obtain ⟨hv0, hv1⟩ := val_take_bound5 zs k (by omega) hz
      have hck := hc k (by have := HL.out; omega)
      obtain ⟨hz0, hz1⟩ := hz.getD k
      have hvt : Hid (val (zs.take (k + 1)) = 256 * val (zs.take k) + zs[k]?.getD 0) := by
        have := val_take zs k (by have := HL.out; omega)
        rwa [List.getD_eq_getElem?_getD] at this
      rw [List.getD_eq_getElem?_getD] at hz0 hz1
      have hw : wrap64 (zs[k]?.getD 0) = zs[k]?.getD 0 := by unfold wrap64; omega
      go_wp2
      go_round
      case rel =>
        refine ⟨k + 1, by omega, by go_num, ?_⟩
        rw [hvt.out]
      case measure => simp [intOf]; omega
    · go_wp2
      go_ret2
      exact ⟨ret2 (by rw [show k = x from by omega]) rfl, rfl⟩

theorem rget_any (a : Option Addr) (len cap : Nat) (zs : List Int) (x : Int) (w : World) (hb : BV w a zs) (hl : zs.length = len) (hm : len ≤ 9223372036854775807) :
    Calls Tryd.prog 22 #[.slice a len cap, .int .i64 x] w fun e w' => e = .returned (.tuple #[.int .i64 (getV zs x), .int .i64 (getE zs x)]) ∧ w' = w := by
  unfold getV getE
  by_cases h : x < 1 ∨ 6 < x
  · rw [if_pos h, if_pos h]; exact rget_arg a len cap x w h
  · rw [if_neg h, if_neg h, hl]
    by_cases h2 : (len : Int) < x
    · rw [if_pos h2, if_pos h2]; exact rget_cut a len cap x w (by omega) (by omega) h2
    · rw [if_neg h2, if_neg h2]
      obtain ⟨y, rfl⟩ := Int.eq_ofNat_of_zero_le (show 0 ≤ x by omega)
      rw [Int.toNat_natCast]
      obtain ⟨hz, h3 | ⟨b, off, rfl, _, hc⟩⟩ := hb
      · subst h3; simp at hl; omega
      · exact rget_ok b off len cap zs y w (by omega) (by omega) (by omega) hm hz hl hc

set_option maxHeartbeats 400000 in
theorem signed_any (a : Option Addr) (len cap : Nat) (zs : List Int) (w : World) (hb : BV w a zs) (hl : zs.length = len) (hm : len ≤ 9223372036854775807) :
    Calls Tryd.prog 75 #[.slice a len cap] w fun e w' => e = .returned (.tuple #[.int .i64 (sgV zs), .int .i64 (sgE zs)]) ∧ w' = w := by
  have hg := get_any a len cap zs 6 w hb hl hm
  have hbd := val_take_bound zs 6 (by decide) hb.1
  unfold sgV sgE
  by_cases h : zs.length < 6
  · obtain ⟨e1, e2⟩ := get6_cut zs h
    rw [if_pos h, if_pos h]
    rw [e1, e2] at hg
    clear hb hl hm h e1 e2
    have H := hg; clear hg
    go_enter Tryd.func75, Tryd.ntmps75
    go_wp2_with (go_at_call 21; refine H.mono ?_; rintro e w' ⟨rfl, rfl⟩)
    go_ret2
    exact ⟨rfl, rfl⟩
  · obtain ⟨e1, e2⟩ := get6_ok zs h
    rw [if_neg h, if_neg h]
    rw [e1, e2] at hg
    clear hb hl hm h e1 e2
    have H := hg; clear hg
    generalize val (zs.take 6) = v at *
    obtain ⟨h0, h1⟩ := hbd
    by_cases h2 : 2199023255552 < v
    · rw [if_pos h2, if_pos h2]
      go_enter Tryd.func75, Tryd.ntmps75
      go_wp2_with (go_at_call 21; refine H.mono ?_; rintro e w' ⟨rfl, rfl⟩)
      go_ret2
      exact ⟨rfl, rfl⟩
    · rw [if_neg h2, if_neg h2]
      go_enter Tryd.func75, Tryd.ntmps75
      go_wp2_with (go_at_call 21; refine H.mono ?_; rintro e w' ⟨rfl, rfl⟩)
      go_ret2
      exact ⟨rfl, rfl⟩

set_option maxHeartbeats 400000 in
theorem rsigned_any (a : Option Addr) (len cap : Nat) (zs : List Int) (w : World) (hb : BV w a zs) (hl : zs.length = len) (hm : len ≤ 9223372036854775807) :
    Calls Tryd.prog 55 #[.slice a len cap] w fun e w' => e = .returned (.tuple #[.int .i64 (sgV zs), .int .i64 (sgE zs)]) ∧ w' = w := by
  have hg := rget_any a len cap zs 6 w hb hl hm
  have hbd := val_take_bound zs 6 (by decide) hb.1
  unfold sgV sgE
  by_cases h : zs.length < 6
  · obtain ⟨e1, e2⟩ := get6_cut zs h
    rw [if_pos h, if_pos h]
    rw [e1, e2] at hg
    clear hb hl hm h e1 e2
    have H := hg; clear hg
    go_enter Tryd.func55, Tryd.ntmps55
    go_wp2_with (go_at_call 22; refine H.mono ?_; rintro e w' ⟨rfl, rfl⟩)
    go_ret2
    exact ⟨rfl, rfl⟩
  · obtain ⟨e1, e2⟩ := get6_ok zs h
    rw [if_neg h, if_neg h]
    rw [e1, e2] at hg
    clear hb hl hm h e1 e2
    have H := hg; clear hg
    generalize val (zs.take 6) = v at *
    obtain ⟨h0, h1⟩ := hbd
    by_cases h2 : 2199023255552 < v
    · rw [if_pos h2, if_pos h2]
      go_enter Tryd.func55, Tryd.ntmps55
      go_wp2_with (go_at_call 22; refine H.mono ?_; rintro e w' ⟨rfl, rfl⟩)
      go_ret2
      exact ⟨rfl, rfl⟩
    · rw [if_neg h2, if_neg h2]
      go_enter Tryd.func55, Tryd.ntmps55
      go_wp2_with (go_at_call 22; refine H.mono ?_; rintro e w' ⟨rfl, rfl⟩)
      go_ret2
      exact ⟨rfl, rfl⟩
end Go.Proofs.YtpmhilaochfpaaaDoor
namespace Go.Proofs.YtpmhilaochfpaaaDoor
set_option maxRecDepth 20000
set_option maxRecDepth 20000
open Go.RowKit
theorem Tryd.info5 : (Tryd.prog.info? 5).map (fun i => (i.zero, i.size, i.bytes)) = some (some (.int .u8 0), 1, 1) := by kernel_rfl

theorem two8 (x : Nat) : (2 : Int) ^ (8 * x) = 256 ^ x := by rw [Int.pow_mul]; rfl
theorem lim (x : Nat) (h : x ≤ 6) : wrap64 (2 ^ (8 * x)) = 256 ^ x := by
  rw [two8]
  have := pow_le h
  have p := pow_pos x
  have q : (256 : Int) ^ 6 = 281474976710656 := by decide
  unfold wrap64; omega

def rowAt (n : Int) (x k : Nat) : List Value := List.replicate (x - k) (Value.int .u8 0) ++ (dig n k).map (Value.int .u8)
theorem rowAt_zero (n : Int) (x : Nat) : rowAt n x 0 = List.replicate x (Value.int .u8 0) := by simp [rowAt, dig]
theorem rowAt_full (n : Int) (x : Nat) : rowAt n x x = (dig n x).map (Value.int .u8) := by simp [rowAt]
theorem rowAt_set (n : Int) (x k : Nat) (h : k < x) : (rowAt n x k).set (x - 1 - k) (.int .u8 (n / 256 ^ k % 256)) = rowAt n x (k + 1) := by
  unfold rowAt
  obtain ⟨d, rfl⟩ := Nat.exists_eq_add_of_lt h
  have e1 : k + d + 1 - k = d + 1 := by omega
  have e2 : k + d + 1 - 1 - k = d := by omega
  have e3 : k + d + 1 - (k + 1) = d := by omega
  rw [e1, e2, e3, dig_cons, List.replicate_succ', List.append_assoc, List.set_append_right _ _ (by simp)]
  simp

set_option maxHeartbeats 400000 in
theorem put_ok (n : Int) (x : Nat) (w : World) (h1 : 1 ≤ x) (h6 : x ≤ 6) (h0 : 0 ≤ n) (hn : n < 256 ^ x) :
    Calls Tryd.prog 19 #[.int .i64 n, .int .i64 x] w fun e w' => ∃ v, e = .returned (.tuple #[v, .int .i64 0]) ∧ w'.ownsRow w.heap.size 5 1 v x ((dig n x).map (Value.int .u8)) ∧ Below w.heap.size w w' := by
  obtain ⟨i0, hi, hz0, hz1, hz2⟩ := info_parts Tryd.info5
  have hlim : n < wrap64 (2 ^ (8 * x)) := by rw [lim x h6]; exact hn
  have hmx : n < 281474976710656 := by have := pow_le h6; have q : (256 : Int) ^ 6 = 281474976710656 := by decide
                                       omega
  clear hn
  go_enter Tryd.func19, Tryd.ntmps19
  go_wp2_with (first | (go_at_call 33; refine (mayBe_yes _ _ (by omega) (by omega)).mono ?_; rintro e w' ⟨rfl, hw⟩; obtain rfl := hw.symm) | (at_make; refine wpList_make_full _ rfl _ _ 53 rfl w.heap.size 5 i0 (.int .u8 0) 1 Tryd.underlying53 hi hz0 hz1 .i64 .i64 _ _ x rfl rfl rfl rfl ?c2 ?c3 (Nat.le_refl _) ?_))
  case c2 => rw [hz2]; omega
  case c3 => unfold maxLen; omega
  intro w1 hown hg
  have hb1 : Below w.heap.size w w1 := (Below.refl _ _).grown hg (Nat.le_refl _) (by intro k hk; cases hk)
  have hown1 : w1.ownsRow w.heap.size 5 1 (.slice (some ⟨w.heap.size, 0, none⟩) x x) x (rowAt n x 0) := by
    rw [toList_madeCells_one] at hown; rw [rowAt_zero]; exact hown
  clear hown hg hlim
  go_wp2
  go_loopw [23] (fun i wr => ∃ k : Nat, k ≤ x ∧ i = .int .i64 k ∧ wr.ownsRow w.heap.size 5 1 (.slice (some ⟨w.heap.size, 0, none⟩) x x) x (rowAt n x k) ∧ Below w.heap.size w wr) (fun i _ => x - (intOf i).toNat)
  case atStart => exact ⟨0, Nat.zero_le _, rfl, hown1, hb1⟩
  case round =>
    obtain ⟨k, hk, rfl, hown, hb⟩ := hrel
    clear hown1 hb1
    by_cases hlt : k < x
    · have hfz := hown.frozenAt (x - 1 - k)
      obtain ⟨u, hu⟩ : ∃ u, wr.cell? ⟨w.heap.size, x - 1 - k, none⟩ = some u := by
        rw [hown.cellAt (x - 1 - k) (by omega)]
        have : x - 1 - k < (rowAt n x k).length := by rw [hown.1]; omega
        exact ⟨_, List.getElem?_eq_getElem this⟩
      have hst := hown.stored (x - 1 - k) (.int .u8 (n / 2 ^ (8 * k) % 256))
      have HO : Hid ((wr.setCell ⟨w.heap.size, x - 1 - k, none⟩ (.int .u8 (n / 2 ^ (8 * k) % 256))).ownsRow w.heap.size 5 1 (.slice (some ⟨w.heap.size, 0, none⟩) x x) x (rowAt n x (k + 1))) := by
        have h := hst.1
        have e := rowAt_set n x k hlt
        rw [← two8] at e
        rw [e] at h
        exact h
      have HB : Hid (Below w.heap.size w (wr.setCell ⟨w.heap.size, x - 1 - k, none⟩ (.int .u8 (n / 2 ^ (8 * k) % 256)))) := hb.setCell (Nat.le_refl _) _
      clear hst hown hb
      go_wp2
      go_roundw
      case rel => exact ⟨k + 1, by omega, by go_num, HO.out, HB.out⟩
      case measure => simp [intOf]; omega
    · have : k = x := by omega
      subst this
      rw [rowAt_full] at hown
      go_wp2
      go_ret2
      exact ⟨_, rfl, hown, hb⟩
set_option maxHeartbeats 400000 in
theorem put_arg (n x : Int) (w : World) (h : x < 1 ∨ 6 < x) :
    Calls Tryd.prog 19 #[.int .i64 n, .int .i64 x] w fun e w' => e = .returned (.tuple #[.slice none 0 0, .int .i64 2]) ∧ w' = w := by
  go_enter Tryd.func19, Tryd.ntmps19
  go_wp2_with (go_at_call 33; refine (mayBe_no _ _ h).mono ?_; rintro e w' ⟨rfl, rfl⟩)
  go_ret2
  exact ⟨rfl, rfl⟩
set_option maxHeartbeats 400000 in
theorem put_range (n : Int) (x : Nat) (w : World) (h1 : 1 ≤ x) (h6 : x ≤ 6) (hn : n < 0 ∨ 256 ^ x ≤ n) :
    Calls Tryd.prog 19 #[.int .i64 n, .int .i64 x] w fun e w' => e = .returned (.tuple #[.slice none 0 0, .int .i64 12]) ∧ w' = w := by
  rw [← lim x h6] at hn
  by_cases h0 : n < 0
  · go_enter Tryd.func19, Tryd.ntmps19
    go_wp2_with (go_at_call 33; refine (mayBe_yes _ _ (by omega) (by omega)).mono ?_; rintro e w' ⟨rfl, rfl⟩)
    go_ret2
    exact ⟨rfl, rfl⟩
  · have h : wrap64 (2 ^ (8 * x)) ≤ n := by omega
    clear hn
    go_enter Tryd.func19, Tryd.ntmps19
    go_wp2_with (go_at_call 33; refine (mayBe_yes _ _ (by omega) (by omega)).mono ?_; rintro e w' ⟨rfl, rfl⟩)
    go_ret2
    exact ⟨rfl, rfl⟩

def putE (n x : Int) : Int := if x < 1 ∨ 6 < x then 2 else if n < 0 ∨ 256 ^ x.toNat ≤ n then 12 else 0
def putL (n x : Int) : List Int := if x < 1 ∨ 6 < x then [] else if n < 0 ∨ 256 ^ x.toNat ≤ n then [] else dig n x.toNat

def Own (w : World) (base : Nat) (v : Value) (zs : List Int) : Prop := w.ownsRow base 5 1 v zs.length (zs.map (Value.int .u8))

theorem Own.nil (w : World) (base : Nat) : Own w base (.slice none 0 0) [] := World.ownsRow_nil w base 5 1

theorem put_any (n x : Int) (w : World) :
    Calls Tryd.prog 19 #[.int .i64 n, .int .i64 x] w fun e w' => ∃ v, e = .returned (.tuple #[v, .int .i64 (putE n x)]) ∧ Own w' w.heap.size v (putL n x) ∧ Below w.heap.size w w' := by
  unfold putE putL
  by_cases h : x < 1 ∨ 6 < x
  · rw [if_pos h, if_pos h]
    refine (put_arg n x w h).mono ?_
    rintro e w' ⟨rfl, hw⟩
    obtain rfl := hw.symm
    exact ⟨_, rfl, Own.nil _ _, Below.refl _ _⟩
  · rw [if_neg h, if_neg h]
    obtain ⟨y, rfl⟩ := Int.eq_ofNat_of_zero_le (show 0 ≤ x by omega)
    rw [Int.toNat_natCast]
    by_cases h2 : n < 0 ∨ 256 ^ y ≤ n
    · rw [if_pos h2, if_pos h2]
      refine (put_range n y w (by omega) (by omega) h2).mono ?_
      rintro e w' ⟨rfl, hw⟩
      obtain rfl := hw.symm
      exact ⟨_, rfl, Own.nil _ _, Below.refl _ _⟩
    · rw [if_neg h2, if_neg h2]
      refine (put_ok n y w (by omega) (by omega) (by omega) (by omega)).mono ?_
      rintro e w' ⟨v, rfl, ho, hb⟩
      refine ⟨v, rfl, ?_, hb⟩
      unfold Own
      rw [dig_length]
      exact ho
end Go.Proofs.YtpmhilaochfpaaaDoor
