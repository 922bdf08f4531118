/- The looks at a set, of the program: contracts of single calls. -/
import Derived.Test.YtfbmpnhoohfcgaaClone
import Derived.Deep.QuietTactic
import Derived.BigQuiet
namespace Go.Proofs.Ytfbmpnhoohfcgaa
open Go.RowKit

set_option maxHeartbeats 400000 in
theorem room_any (a : Option Addr) (n cap : Nat) (w : World) (hn : n ≤ 1000000) :
    Calls Try.prog 25 #[.slice a n cap] w fun e w' => e = .returned (.int .i64 ((n : Int) * 8)) ∧ w' = w := by
  have hw : wrap64 ((n : Int) * 8) = (n : Int) * 8 := by unfold wrap64; omega
  go_enter Try.func25, Try.ntmps25
  go_wp2
  go_ret
  exact ⟨rfl, rfl⟩
set_option maxHeartbeats 400000 in
theorem fits_any (a : Option Addr) (n cap : Nat) (i : Int) (w : World) (hn : n ≤ 1000000) :
    Calls Try.prog 26 #[.slice a n cap, .int .i64 i] w fun e w' => e = .returned (.bool (decide (0 ≤ i ∧ i.toNat < 8 * n))) ∧ w' = w := by
  have HR : Hid (Calls Try.prog 25 #[.slice a n cap] w fun e w' => e = .returned (.int .i64 ((n : Int) * 8)) ∧ w' = w) := room_any a n cap w hn
  by_cases h0 : 0 ≤ i
  · have hd : decide (0 ≤ i) = true := by simpa using h0
    by_cases h1 : i.toNat < 8 * n
    · have hb : decide (i < (n : Int) * 8) = true := by simp; omega
      have he : decide (0 ≤ i ∧ i.toNat < 8 * n) = true := by simp; omega
      rw [he]
      go_enter Try.func26, Try.ntmps26
      go_wp2_with (first | (go_at_call 25; refine HR.out.mono ?_; rintro e w' ⟨rfl, hw⟩; obtain rfl := hw.symm) | fail)
      go_ret
      exact ⟨rfl, rfl⟩
    · have hb : decide (i < (n : Int) * 8) = false := by simp; omega
      have he : decide (0 ≤ i ∧ i.toNat < 8 * n) = false := by simp; omega
      rw [he]
      go_enter Try.func26, Try.ntmps26
      go_wp2_with (first | (go_at_call 25; refine HR.out.mono ?_; rintro e w' ⟨rfl, hw⟩; obtain rfl := hw.symm) | fail)
      go_ret
      exact ⟨rfl, rfl⟩
  · have hd : decide (0 ≤ i) = false := by simpa using h0
    have he : decide (0 ≤ i ∧ i.toNat < 8 * n) = false := by simp; omega
    rw [he]
    go_enter Try.func26, Try.ntmps26
    go_wp2
    go_ret
    exact ⟨rfl, rfl⟩
/-- The bit of number n. -/
def pw (n : Nat) : Nat := 2 ^ (7 - n % 8)
theorem pw_mod (r : Nat) (h : r < 8) : (2 : Int) ^ (7 - r) % 256 = ((2 ^ (7 - r) : Nat) : Int) := by
  have h0 := pw_lt (7 - r) (by omega)
  have e : (2 : Int) ^ (7 - r) = ((2 ^ (7 - r) : Nat) : Int) := by simp
  rw [e]
  generalize 2 ^ (7 - r) = x at *
  omega
set_option maxHeartbeats 400000 in
theorem bit_any (n : Nat) (w : World) :
    Calls Try.prog 27 #[.int .i64 (n : Int)] w fun e w' => e = .returned (.int .u8 (pw n : Nat)) ∧ w' = w := by
  unfold pw
  obtain ⟨r, hr, hr8⟩ : ∃ r, n % 8 = r ∧ r < 8 := ⟨_, rfl, by omega⟩
  have hm : ((n : Int) % 8) = (r : Int) := by omega
  rw [hr]
  have hw : ∀ x : Int, -8 ≤ x → x ≤ 8 → wrap64 x = x := fun x h1 h2 => by unfold wrap64; omega
  go_enter Try.func27, Try.ntmps27
  go_wp2
  go_ret
  exact ⟨congrArg (fun z => Ending.returned (Value.int .u8 z)) (pw_mod r hr8), rfl⟩
theorem BV.at {w : World} {a : Option Addr} {zs : List Int} (h : BV w a zs) (i : Nat) (hi : i < zs.length) : ∃ b off, a = some ⟨b, off, none⟩ ∧ b < w.heap.size ∧ w.cell? ⟨b, off + i, none⟩ = some (.int .u8 (zs.getD i 0)) := by
  obtain ⟨_, h1 | ⟨b, off, rfl, hlt, hc⟩⟩ := h
  · subst h1; simp at hi
  · exact ⟨b, off, rfl, hlt, hc i hi⟩
theorem has_ne (z k : Nat) (hz : z < 256) (hk : k < 8) : (bits .and .u8 (z : Int) ((2 ^ k : Nat) : Int) != 0) = z.testBit k := by
  rw [and_bit z k hz hk]
  have : 0 < 2 ^ k := Nat.two_pow_pos k
  cases z.testBit k
  · rfl
  · simp only [if_true, bne_iff_ne, ne_eq]
    omega
set_option maxHeartbeats 400000 in
theorem has_any (a : Option Addr) (cap : Nat) (zs : List Int) (i : Int) (w : World) (hb : BV w a zs) (hn : zs.length ≤ 1000000) :
    Calls Try.prog 11 #[.slice a zs.length cap, .int .i64 i] w fun e w' => e = .returned (.bool (hasI zs i)) ∧ ∃ m, w' = w.drewN m := by
  have HF : Hid (∀ w, Calls Try.prog 26 #[.slice a zs.length cap, .int .i64 i] w fun e w' => e = .returned (.bool (decide (0 ≤ i ∧ i.toNat < 8 * zs.length))) ∧ w' = w) := fun w => fits_any a zs.length cap i w hn
  by_cases hf : 0 ≤ i ∧ i.toNat < 8 * zs.length
  · have hd : decide (0 ≤ i ∧ i.toNat < 8 * zs.length) = true := by simpa using hf
    rw [hd] at HF
    obtain ⟨n, rfl⟩ : ∃ n : Nat, i = (n : Int) := ⟨i.toNat, by omega⟩
    have hn8 : n < 8 * zs.length := by omega
    have HB := bit_any n
    obtain ⟨b, off, rfl, hlt, hc⟩ := hb.at (n / 8) (by omega)
    have hz := hb.1.getD (n / 8)
    have hne := has_ne (byt zs n) (7 - n % 8) (byt_lt hb.1 n) (by omega)
    have hby : ((byt zs n : Nat) : Int) = zs.getD (n / 8) 0 := by unfold byt; omega
    rw [hby] at hne
    have HN : (bits .and .u8 (zs.getD (n / 8) 0) ((pw n : Nat) : Int) != 0) = hasI zs n := by
      unfold hasI hasB
      simp only [Int.toNat_natCast]
      rw [← hne]
      simp [pw]
    generalize zs.getD (n / 8) 0 = z at *
    have hq2 : ((n : Int) / 8).toNat = n / 8 := by omega
    have hlq : (n : Int) / 8 < (zs.length : Int) := by omega
    have hlq0 : 0 ≤ (n : Int) / 8 := by omega
    clear hne hby
    go_enter Try.func11, Try.ntmps11
    go_wp2
    go_quiet (first | (go_at_call 26; exact Calls.quiet_of_same (HF.out _)) | (go_at_call 27; exact Calls.quiet_of_same (HB _)))
    go_wp2
    go_ret
    exact ⟨by rw [← HN]; rfl, _, rfl⟩
  · have hd : decide (0 ≤ i ∧ i.toNat < 8 * zs.length) = false := by simpa using hf
    rw [hd] at HF
    have hh : hasI zs i = false := by
      unfold hasI
      by_cases h0 : 0 ≤ i
      · rw [hasB_out (by omega)]; simp
      · simp [h0]
    rw [hh]
    go_enter Try.func11, Try.ntmps11
    go_wp2
    go_quiet (first | (go_at_call 26; exact Calls.quiet_of_same (HF.out _)))
    go_wp2
    go_ret
    exact ⟨rfl, _, rfl⟩
theorem BV.drewN {w : World} {a : Option Addr} {zs : List Int} (h : BV w a zs) (m : Nat) : BV (w.drewN m) a zs := h.below (below_drewN (Below.refl _ _) m)
theorem hasI_nat (zs : List Int) (n : Nat) : hasI zs (n : Int) = hasB zs n := by simp [hasI]
set_option maxHeartbeats 800000 in
theorem first_any (a : Option Addr) (cap : Nat) (zs : List Int) (i : Int) (w : World) (hb : BV w a zs) (hn : zs.length ≤ 1000000) (hi : i ≤ 9223372036854775807) :
    Calls Try.prog 9 #[.slice a zs.length cap, .int .i64 i] w fun e w' => ∃ (k : Nat) (ok : Bool), e = .returned (.tuple #[.int .i64 (k : Int), .bool ok]) ∧ IsFirst zs i.toNat k ok ∧ ∃ m, w' = w.drewN m := by
  have HH : Hid (∀ (n m : Nat), Calls Try.prog 11 #[.slice a zs.length cap, .int .i64 (n : Int)] (w.drewN m) fun e w' => e = .returned (.bool (hasB zs n)) ∧ ∃ k, w' = w.drewN k) := fun n m => by
    have := has_any a cap zs (n : Int) (w.drewN m) (hb.drewN m) hn
    rw [hasI_nat] at this
    refine this.mono ?_
    rintro e w' ⟨rfl, k, rfl⟩
    exact ⟨rfl, m + k, by rw [World.drewN_drewN]⟩
  have HR : Hid (∀ w, Calls Try.prog 25 #[.slice a zs.length cap] w fun e w' => e = .returned (.int .i64 ((zs.length : Int) * 8)) ∧ w' = w) := fun w => room_any a zs.length cap w hn
  obtain ⟨f, hf2⟩ : ∃ f, i.toNat = f := ⟨_, rfl⟩
  rw [hf2]
  have hfm : (f : Int) ≤ 9223372036854775807 := by omega
  have Hround : ∀ k : Nat, k < 8 * zs.length - f → decide ((k : Int) < (zs.length : Int) * 8 - f) = true := fun k h => by simp; omega
  have Hstop : ∀ k : Nat, k ≤ 8 * zs.length - f → ¬ k < 8 * zs.length - f → decide ((k : Int) < (zs.length : Int) * 8 - f) = false := fun k h1 h2 => by simp; omega
  have hsum : ∀ k : Nat, k < 8 * zs.length - f → wrap64 ((f : Int) + (k : Int)) = (f : Int) + (k : Int) := fun k h => by unfold wrap64; omega
  have hneg : i < 0 ∧ f = 0 ∨ i = (f : Int) := by omega
  clear hb hi hf2
  rcases hneg with ⟨hneg, rfl⟩ | rfl
  · go_enter Try.func9, Try.ntmps9
    go_wp2_with (first | (go_at_call 25; refine (HR.out _).mono ?_; rintro e w' ⟨rfl, hw⟩; obtain rfl := hw.symm) | fail)
    go_loopw [13] (fun iv wr => ∃ k m : Nat, k ≤ 8 * zs.length ∧ iv = .int .i64 k ∧ wr = w.drewN m ∧ Hid (∀ j, j < k → hasB zs j = true)) (fun iv _ => 8 * zs.length - (intOf iv).toNat)
    case atStart => exact ⟨0, 0, Nat.zero_le _, rfl, rfl, fun j h2 => by omega⟩
    case round =>
      obtain ⟨k, m, hk, rfl, rfl, HJ⟩ := hrel
      by_cases hlt : k < 8 * zs.length
      · have hd : decide ((k : Int) < (zs.length : Int) * 8) = true := by simp; omega
        have HC := HH.out k m
        have hw0 : wrap64 ((k : Int)) = (k : Int) := by unfold wrap64; omega
        cases hh : hasB zs k
        · rw [hh] at HC
          go_wp2_with (first | (go_at_call 11; refine HC.mono ?_; rintro e w' ⟨rfl, m', rfl⟩) | fail)
          exact bodyPost_ret (v := .tuple #[.int .i64 k, .bool true]) (by simp [results, Try.results9, go_sem]) rfl ⟨k, true, rfl, .inl ⟨rfl, by omega, hlt, hh, fun j _ h => HJ.out j h⟩, _, rfl⟩
        · rw [hh] at HC
          go_wp2_with (first | (go_at_call 11; refine HC.mono ?_; rintro e w' ⟨rfl, m', rfl⟩) | fail)
          go_roundw
          case rel => exact ⟨k + 1, m', by omega, by go_num, rfl, fun j hj => by by_cases e : j = k; subst e; exact hh; exact HJ.out j (by omega)⟩
          case measure => simp [intOf]; omega
      · have hd : decide ((k : Int) < (zs.length : Int) * 8) = false := by simp; omega
        go_wp2
        exact bodyPost_ret (v := .tuple #[.int .i64 0, .bool false]) (by simp [results, Try.results9, go_sem]) rfl ⟨0, false, rfl, .inr ⟨rfl, rfl, fun j _ h => HJ.out j (by omega)⟩, _, rfl⟩
  · go_enter Try.func9, Try.ntmps9
    go_wp2_with (first | (go_at_call 25; refine (HR.out _).mono ?_; rintro e w' ⟨rfl, hw⟩; obtain rfl := hw.symm) | fail)
    go_loopw [13] (fun iv wr => ∃ k m : Nat, k ≤ 8 * zs.length - f ∧ iv = .int .i64 k ∧ wr = w.drewN m ∧ Hid (∀ j, f ≤ j → j < f + k → hasB zs j = true)) (fun iv _ => 8 * zs.length - f - (intOf iv).toNat)
    case atStart => exact ⟨0, 0, Nat.zero_le _, rfl, rfl, fun j h1 h2 => by omega⟩
    case round =>
      obtain ⟨k, m, hk, rfl, rfl, HJ⟩ := hrel
      by_cases hlt : k < 8 * zs.length - f
      · have hd := Hround k hlt
        have HC := HH.out (f + k) m
        have hw0 := hsum k hlt
        rw [Int.natCast_add] at HC
        cases hh : hasB zs (f + k)
        · rw [hh] at HC
          go_wp2_with (first | (go_at_call 11; refine HC.mono ?_; rintro e w' ⟨rfl, m', rfl⟩) | fail)
          exact bodyPost_ret (v := .tuple #[.int .i64 ((f : Int) + (k : Int)), .bool true]) (by simp [results, Try.results9, go_sem]) rfl ⟨f + k, true, rfl, .inl ⟨rfl, by omega, by omega, hh, fun j h0 h => HJ.out j h0 h⟩, _, rfl⟩
        · rw [hh] at HC
          go_wp2_with (first | (go_at_call 11; refine HC.mono ?_; rintro e w' ⟨rfl, m', rfl⟩) | fail)
          go_roundw
          case rel => exact ⟨k + 1, m', by omega, by go_num, rfl, fun j h0 hj => by by_cases e : j = f + k; subst e; exact hh; exact HJ.out j h0 (by omega)⟩
          case measure => simp [intOf]; omega
      · have hd := Hstop k hk hlt
        go_wp2
        exact bodyPost_ret (v := .tuple #[.int .i64 0, .bool false]) (by simp [results, Try.results9, go_sem]) rfl ⟨0, false, rfl, .inr ⟨rfl, rfl, fun j h0 h => HJ.out j h0 (by omega)⟩, _, rfl⟩
theorem range_filter (p : Nat → Bool) (k : Nat) : (List.range (k + 1)).filter p = (List.range k).filter p ++ (if p k = true then [k] else []) := by
  rw [List.range_succ, List.filter_append]
  simp [List.filter_cons]
theorem len_filter (p : Nat → Bool) (k : Nat) : ((List.range k).filter p).length ≤ k := by
  have := List.length_filter_le p (List.range k)
  simpa using this
set_option maxHeartbeats 800000 in
theorem count_any (a : Option Addr) (cap : Nat) (zs : List Int) (w : World) (hb : BV w a zs) (hn : zs.length ≤ 1000000) :
    Calls Try.prog 16 #[.slice a zs.length cap] w fun e w' => e = .returned (.int .i64 ((listS zs).length : Nat)) ∧ ∃ m, w' = w.drewN m := by
  have HH : Hid (∀ (n m : Nat), Calls Try.prog 11 #[.slice a zs.length cap, .int .i64 (n : Int)] (w.drewN m) fun e w' => e = .returned (.bool (hasB zs n)) ∧ ∃ k, w' = w.drewN k) := fun n m => by
    have := has_any a cap zs (n : Int) (w.drewN m) (hb.drewN m) hn
    rw [hasI_nat] at this
    refine this.mono ?_
    rintro e w' ⟨rfl, k, rfl⟩
    exact ⟨rfl, m + k, by rw [World.drewN_drewN]⟩
  have HR : Hid (∀ w, Calls Try.prog 25 #[.slice a zs.length cap] w fun e w' => e = .returned (.int .i64 ((zs.length : Int) * 8)) ∧ w' = w) := fun w => room_any a zs.length cap w hn
  clear hb
  unfold listS
  go_enter Try.func16, Try.ntmps16
  go_wp2_with (first | (go_at_call 25; refine (HR.out _).mono ?_; rintro e w' ⟨rfl, hw⟩; obtain rfl := hw.symm) | fail)
  go_loopw [3, 7] (fun cv iv wr => ∃ k m c : Nat, k ≤ 8 * zs.length ∧ iv = .int .i64 k ∧ wr = w.drewN m ∧ cv = .int .i64 c ∧ Hid (((List.range k).filter (hasB zs)).length = c)) (fun _ iv _ => 8 * zs.length - (intOf iv).toNat)
  case atStart => exact ⟨0, 0, 0, Nat.zero_le _, rfl, rfl, rfl, rfl⟩
  case round =>
    obtain ⟨k, m, c, hk, rfl, rfl, rfl, HL⟩ := hrel
    have hc : c ≤ k := by have := len_filter (hasB zs) k; rw [HL.out] at this; exact this
    by_cases hlt : k < 8 * zs.length
    · have hd : decide ((k : Int) < (zs.length : Int) * 8) = true := by simp; omega
      have HC := HH.out k m
      have HN : Hid (((List.range (k + 1)).filter (hasB zs)).length = c + (if hasB zs k = true then 1 else 0)) := by
        have : ((List.range (k + 1)).filter (hasB zs)).length = c + (if hasB zs k = true then 1 else 0) := by
          rw [range_filter, List.length_append, HL.out]
          split <;> simp_all
        exact this
      cases hh : hasB zs k
      · rw [hh] at HC
        rw [hh] at HN
        simp only [Bool.false_eq_true, if_false] at HN
        go_wp2_with (first | (go_at_call 11; refine HC.mono ?_; rintro e w' ⟨rfl, m', rfl⟩) | fail)
        go_roundw
        case rel => exact ⟨k + 1, m', c, by omega, by go_num, rfl, rfl, HN.out⟩
        case measure => simp [intOf]; omega
      · rw [hh] at HC
        rw [hh] at HN
        simp only [if_true] at HN
        go_wp2_with (first | (go_at_call 11; refine HC.mono ?_; rintro e w' ⟨rfl, m', rfl⟩) | fail)
        go_roundw
        case rel => exact ⟨k + 1, m', c + 1, by omega, by go_num, rfl, by go_num, HN.out⟩
        case measure => simp [intOf]; omega
    · have hd : decide ((k : Int) < (zs.length : Int) * 8) = false := by simp; omega
      have HE : Hid (((List.range (8 * zs.length)).filter (hasB zs)).length = c) := by
        have hk8 : 8 * zs.length = k := by omega
        rw [hk8]; exact HL.out
      go_wp2
      go_ret
      exact ⟨by rw [HE.out]; rfl, _, rfl⟩
end Go.Proofs.Ytfbmpnhoohfcgaa
