/- The document's Get and Signed, and num.Signed, at any bytes: contracts of single calls. -/
import Derived.Test.YtpmhilaochfpaaaDoorGets
namespace Go.Proofs.YtpmhilaochfpaaaDoor
set_option maxRecDepth 20000
set_option maxRecDepth 20000
open Go.RowKit

def sgE (zs : List Int) : Int := if zs.length < 6 then 3 else if 2199023255552 < val (zs.take 6) then 12 else 0
def sgV (zs : List Int) : Int := if zs.length < 6 then 0 else if 2199023255552 < val (zs.take 6) then 0 else val (zs.take 6) - 1099511627776

theorem get6_cut (zs : List Int) (h : zs.length < 6) : getV zs 6 = 0 ∧ getE zs 6 = 3 := by
  constructor
  · unfold getV; rw [if_neg (by decide), if_pos (by omega)]
  · unfold getE; rw [if_neg (by decide), if_pos (by omega)]
theorem get6_ok (zs : List Int) (h : ¬ zs.length < 6) : getV zs 6 = val (zs.take 6) ∧ getE zs 6 = 0 := by
  constructor
  · unfold getV; rw [if_neg (by decide), if_neg (by omega)]; rfl
  · unfold getE; rw [if_neg (by decide), if_neg (by omega)]

set_option maxHeartbeats 400000 in
theorem rget_arg (a : Option Addr) (len cap : Nat) (x : Int) (w : World) (h : x < 1 ∨ 6 < x) :
    Calls Tryd.prog 22 #[.slice a len cap, .int .i64 x] w fun e w' => e = .returned (.tuple #[.int .i64 0, .int .i64 2]) ∧ w' = w := by
  by_cases h1 : x < 1
  · go_enter Tryd.func22, Tryd.ntmps22
    go_wp2
    go_ret2
    exact ⟨rfl, rfl⟩
  · have h2 : 6 < x := by omega
    go_enter Tryd.func22, Tryd.ntmps22
    go_wp2
    go_ret2
    exact ⟨rfl, rfl⟩
set_option maxHeartbeats 400000 in
theorem rget_cut (a : Option Addr) (len cap : Nat) (x : Int) (w : World) (h1 : 1 ≤ x) (h6 : x ≤ 6) (hl : (len : Int) < x) :
    Calls Tryd.prog 22 #[.slice a len cap, .int .i64 x] w fun e w' => e = .returned (.tuple #[.int .i64 0, .int .i64 3]) ∧ w' = w := by
  have d1 : decide (6 < x) = false := by simp; omega
  go_enter Tryd.func22, Tryd.ntmps22
  go_wp2
  go_ret2
  exact ⟨rfl, rfl⟩
set_option maxHeartbeats 400000 in
theorem rget_ok (b off len cap : Nat) (zs : List Int) (x : Nat) (w : World) (h1 : 1 ≤ x) (h6 : x ≤ 6) (hl : x ≤ len) (hm : len ≤ 9223372036854775807)
   (hz : AllB zs) (hlen : zs.length = len) (hc : ∀ i, i < zs.length → w.cell? ⟨b, off + i, none⟩ = some (.int .u8 (zs.getD i 0))) :
    Calls Tryd.prog 22 #[.slice (some ⟨b, off, none⟩) len cap, .int .i64 x] w fun e w' => e = .returned (.tuple #[.int .i64 (val (zs.take x)), .int .i64 0]) ∧ w' = w := by
  have HL : Hid (zs.length = len) := hlen
  clear hlen
  have d1 : decide (6 < (x : Int)) = false := by simp; omega
  go_enter Tryd.func22, Tryd.ntmps22
  go_wp2
  go_loop [6, 7] (fun n i => ∃ k : Nat, k ≤ x ∧ i = .int .i64 k ∧ n = .int .i64 (val (zs.take k))) (fun _ i => x - (intOf i).toNat)
  case atStart => exact ⟨0, Nat.zero_le _, rfl, rfl⟩
  case round =>
    obtain ⟨k, hk, rfl, rfl⟩ := hrel
    by_cases hlt : k < x
    · obtain ⟨hv0, hv1⟩ := val_take_bound5 zs k (by omega) hz
      have hck := hc k (by have := HL.out; omega)
      obtain ⟨hz0, hz1⟩ := hz.getD k
      have hvt : Hid (val (zs.take (k + 1)) = 256 * val (zs.take k) + zs[k]?.getD 0) := by
        have := val_take zs k (by have := HL.out; omega)
        rwa [List.getD_eq_getElem?_getD] at this
      rw [List.getD_eq_getElem?_getD] at hz0 hz1
      have hw : wrap64 (zs[k]?.getD 0) = zs[k]?.getD 0 := by unfold wrap64; omega
      go_wp2
      go_round
      case rel =>
        refine ⟨k + 1, by omega, by go_num, ?_⟩
        rw [hvt.out]
      case measure => simp [intOf]; omega
    · go_wp2
      go_ret2
      exact ⟨ret2 (by rw [show k = x from by omega]) rfl, rfl⟩

theorem rget_any (a : Option Addr) (len cap : Nat) (zs : List Int) (x : Int) (w : World) (hb : BV w a zs) (hl : zs.length = len) (hm : len ≤ 9223372036854775807) :
    Calls Tryd.prog 22 #[.slice a len cap, .int .i64 x] w fun e w' => e = .returned (.tuple #[.int .i64 (getV zs x), .int .i64 (getE zs x)]) ∧ w' = w := by
  unfold getV getE
  by_cases h : x < 1 ∨ 6 < x
  · rw [if_pos h, if_pos h]; exact rget_arg a len cap x w h
  · rw [if_neg h, if_neg h, hl]
    by_cases h2 : (len : Int) < x
    · rw [if_pos h2, if_pos h2]; exact rget_cut a len cap x w (by omega) (by omega) h2
    · rw [if_neg h2, if_neg h2]
      obtain ⟨y, rfl⟩ := Int.eq_ofNat_of_zero_le (show 0 ≤ x by omega)
      rw [Int.toNat_natCast]
      obtain ⟨hz, h3 | ⟨b, off, rfl, _, hc⟩⟩ := hb
      · subst h3; simp at hl; omega
      · exact rget_ok b off len cap zs y w (by omega) (by omega) (by omega) hm hz hl hc

set_option maxHeartbeats 400000 in
theorem signed_any (a : Option Addr) (len cap : Nat) (zs : List Int) (w : World) (hb : BV w a zs) (hl : zs.length = len) (hm : len ≤ 9223372036854775807) :
    Calls Tryd.prog 75 #[.slice a len cap] w fun e w' => e = .returned (.tuple #[.int .i64 (sgV zs), .int .i64 (sgE zs)]) ∧ w' = w := by
  have hg := get_any a len cap zs 6 w hb hl hm
  have hbd := val_take_bound zs 6 (by decide) hb.1
  unfold sgV sgE
  by_cases h : zs.length < 6
  · obtain ⟨e1, e2⟩ := get6_cut zs h
    rw [if_pos h, if_pos h]
    rw [e1, e2] at hg
    clear hb hl hm h e1 e2
    have H := hg; clear hg
    go_enter Tryd.func75, Tryd.ntmps75
    go_wp2_with (go_at_call 21; refine H.mono ?_; rintro e w' ⟨rfl, rfl⟩)
    go_ret2
    exact ⟨rfl, rfl⟩
  · obtain ⟨e1, e2⟩ := get6_ok zs h
    rw [if_neg h, if_neg h]
    rw [e1, e2] at hg
    clear hb hl hm h e1 e2
    have H := hg; clear hg
    generalize val (zs.take 6) = v at *
    obtain ⟨h0, h1⟩ := hbd
    by_cases h2 : 2199023255552 < v
    · rw [if_pos h2, if_pos h2]
      go_enter Tryd.func75, Tryd.ntmps75
      go_wp2_with (go_at_call 21; refine H.mono ?_; rintro e w' ⟨rfl, rfl⟩)
      go_ret2
      exact ⟨rfl, rfl⟩
    · rw [if_neg h2, if_neg h2]
      go_enter Tryd.func75, Tryd.ntmps75
      go_wp2_with (go_at_call 21; refine H.mono ?_; rintro e w' ⟨rfl, rfl⟩)
      go_ret2
      exact ⟨rfl, rfl⟩

set_option maxHeartbeats 400000 in
theorem rsigned_any (a : Option Addr) (len cap : Nat) (zs : List Int) (w : World) (hb : BV w a zs) (hl : zs.length = len) (hm : len ≤ 9223372036854775807) :
    Calls Tryd.prog 55 #[.slice a len cap] w fun e w' => e = .returned (.tuple #[.int .i64 (sgV zs), .int .i64 (sgE zs)]) ∧ w' = w := by
  have hg := rget_any a len cap zs 6 w hb hl hm
  have hbd := val_take_bound zs 6 (by decide) hb.1
  unfold sgV sgE
  by_cases h : zs.length < 6
  · obtain ⟨e1, e2⟩ := get6_cut zs h
    rw [if_pos h, if_pos h]
    rw [e1, e2] at hg
    clear hb hl hm h e1 e2
    have H := hg; clear hg
    go_enter Tryd.func55, Tryd.ntmps55
    go_wp2_with (go_at_call 22; refine H.mono ?_; rintro e w' ⟨rfl, rfl⟩)
    go_ret2
    exact ⟨rfl, rfl⟩
  · obtain ⟨e1, e2⟩ := get6_ok zs h
    rw [if_neg h, if_neg h]
    rw [e1, e2] at hg
    clear hb hl hm h e1 e2
    have H := hg; clear hg
    generalize val (zs.take 6) = v at *
    obtain ⟨h0, h1⟩ := hbd
    by_cases h2 : 2199023255552 < v
    · rw [if_pos h2, if_pos h2]
      go_enter Tryd.func55, Tryd.ntmps55
      go_wp2_with (go_at_call 22; refine H.mono ?_; rintro e w' ⟨rfl, rfl⟩)
      go_ret2
      exact ⟨rfl, rfl⟩
    · rw [if_neg h2, if_neg h2]
      go_enter Tryd.func55, Tryd.ntmps55
      go_wp2_with (go_at_call 22; refine H.mono ?_; rintro e w' ⟨rfl, rfl⟩)
      go_ret2
      exact ⟨rfl, rfl⟩
end Go.Proofs.YtpmhilaochfpaaaDoor
