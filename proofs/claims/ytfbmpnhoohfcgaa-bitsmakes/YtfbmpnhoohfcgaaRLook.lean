/- The document's looks at a set; numbers held against each other; Make. -/
import Derived.Test.YtfbmpnhoohfcgaaList
namespace Go.Proofs.Ytfbmpnhoohfcgaa
open Go.RowKit

theorem rhas_c {a : Option Addr} {cap : Nat} {zs : List Int} (n : Nat) (W : World) (hb : BV W a zs) (hn : zs.length ≤ 1000000) (hi : n ≤ 9000000) :
    Calls Try.prog 12 #[.slice a zs.length cap, .int .i64 (n : Int)] W fun e w' => e = .returned (.bool (hasB zs n)) ∧ Below W.heap.size W w' := by
  have := rhas_any a cap zs (n : Int) W hb hn (by omega)
  rw [hasI_nat] at this
  refine this.mono ?_
  rintro e w' ⟨rfl, k, rfl⟩
  exact ⟨rfl, below_drewN (Below.refl _ _) _⟩
set_option maxHeartbeats 800000 in
theorem rfirst_any (a : Option Addr) (cap : Nat) (zs : List Int) (i : Int) (w : World) (hb : BV w a zs) (hn : zs.length ≤ 1000000) (hi : i ≤ 9223372036854775807) :
    Calls Try.prog 10 #[.slice a zs.length cap, .int .i64 i] w fun e w' => ∃ (k : Nat) (ok : Bool), e = .returned (.tuple #[.int .i64 (k : Int), .bool ok]) ∧ IsFirst zs i.toNat k ok ∧ ∃ m, w' = w.drewN m := by
  have HH : Hid (∀ (n m : Nat), n ≤ 9000000 → Calls Try.prog 12 #[.slice a zs.length cap, .int .i64 (n : Int)] (w.drewN m) fun e w' => e = .returned (.bool (hasB zs n)) ∧ ∃ k, w' = w.drewN k) := fun n m hn9 => by
    have := rhas_any a cap zs (n : Int) (w.drewN m) (hb.drewN m) hn (by omega)
    rw [hasI_nat] at this
    refine this.mono ?_
    rintro e w' ⟨rfl, k, rfl⟩
    exact ⟨rfl, m + k, by rw [World.drewN_drewN]⟩
  obtain ⟨f, hf2⟩ : ∃ f, i.toNat = f := ⟨_, rfl⟩
  rw [hf2]
  have hfm : (f : Int) ≤ 9223372036854775807 := by omega
  have hneg : i ≤ 0 ∧ f = 0 ∨ i = (f : Int) ∧ 0 < f := by omega
  have hm8 : wrap64 (8 * (zs.length : Int)) = 8 * (zs.length : Int) := by unfold wrap64; omega
  clear hb hi hf2
  rcases hneg with ⟨hneg, rfl⟩ | ⟨rfl, hpos⟩
  · go_enter Try.func10, Try.ntmps10
    go_wp2
    go_loopw [6] (fun iv wr => ∃ k m : Nat, k ≤ 8 * zs.length ∧ iv = .int .i64 k ∧ wr = w.drewN m ∧ Hid (∀ j, j < k → hasB zs j = true)) (fun iv _ => 8 * zs.length - (intOf iv).toNat)
    case atStart => exact ⟨0, 0, Nat.zero_le _, rfl, rfl, fun j h2 => by omega⟩
    case round =>
      obtain ⟨k, m, hk, rfl, rfl, HJ⟩ := hrel
      by_cases hlt : k < 8 * zs.length
      · have hd : decide ((k : Int) < 8 * (zs.length : Int)) = true := by simp; omega
        have HC := HH.out k m (by omega)
        cases hh : hasB zs k
        · rw [hh] at HC
          go_wp2_with (first | (go_at_call 12; refine HC.mono ?_; rintro e w' ⟨rfl, m', rfl⟩) | fail)
          exact bodyPost_ret (v := .tuple #[.int .i64 k, .bool true]) (by simp [results, Try.results10, go_sem]) rfl ⟨k, true, rfl, .inl ⟨rfl, by omega, hlt, hh, fun j _ h => HJ.out j h⟩, _, rfl⟩
        · rw [hh] at HC
          go_wp2_with (first | (go_at_call 12; refine HC.mono ?_; rintro e w' ⟨rfl, m', rfl⟩) | fail)
          go_roundw
          case rel => exact ⟨k + 1, m', by omega, by go_num, rfl, fun j hj => by by_cases e : j = k; subst e; exact hh; exact HJ.out j (by omega)⟩
          case measure => simp [intOf]; omega
      · have hd : decide ((k : Int) < 8 * (zs.length : Int)) = false := by simp; omega
        go_wp2
        exact bodyPost_ret (v := .tuple #[.int .i64 0, .bool false]) (by simp [results, Try.results10, go_sem]) rfl ⟨0, false, rfl, .inr ⟨rfl, rfl, fun j _ h => HJ.out j (by omega)⟩, _, rfl⟩
  · go_enter Try.func10, Try.ntmps10
    go_wp2
    go_loopw [6] (fun iv wr => ∃ k m : Nat, f ≤ k ∧ (k : Int) ≤ 9223372036854775807 ∧ (k ≤ 8 * zs.length ∨ k = f) ∧ iv = .int .i64 k ∧ wr = w.drewN m ∧ Hid (∀ j, f ≤ j → j < k → hasB zs j = true)) (fun iv _ => 8 * zs.length - (intOf iv).toNat)
    case atStart => exact ⟨f, 0, Nat.le_refl _, hfm, .inr rfl, rfl, rfl, fun j h1 h2 => by omega⟩
    case round =>
      obtain ⟨k, m, hk, hkm, hk8, rfl, rfl, HJ⟩ := hrel
      by_cases hlt : k < 8 * zs.length
      · have hd : decide ((k : Int) < 8 * (zs.length : Int)) = true := by simp; omega
        have HC := HH.out k m (by omega)
        cases hh : hasB zs k
        · rw [hh] at HC
          go_wp2_with (first | (go_at_call 12; refine HC.mono ?_; rintro e w' ⟨rfl, m', rfl⟩) | fail)
          exact bodyPost_ret (v := .tuple #[.int .i64 k, .bool true]) (by simp [results, Try.results10, go_sem]) rfl ⟨k, true, rfl, .inl ⟨rfl, by omega, hlt, hh, fun j h0 h => HJ.out j h0 h⟩, _, rfl⟩
        · rw [hh] at HC
          go_wp2_with (first | (go_at_call 12; refine HC.mono ?_; rintro e w' ⟨rfl, m', rfl⟩) | fail)
          go_roundw
          case rel => exact ⟨k + 1, m', by omega, by omega, .inl (by omega), by go_num, rfl, fun j h0 hj => by by_cases e : j = k; subst e; exact hh; exact HJ.out j h0 (by omega)⟩
          case measure => simp [intOf]; omega
      · have hd : decide ((k : Int) < 8 * (zs.length : Int)) = false := by simp; omega
        go_wp2
        exact bodyPost_ret (v := .tuple #[.int .i64 0, .bool false]) (by simp [results, Try.results10, go_sem]) rfl ⟨0, false, rfl, .inr ⟨rfl, rfl, fun j h0 h => HJ.out j h0 (by omega)⟩, _, rfl⟩
set_option maxHeartbeats 800000 in
theorem rlist_any (a : Option Addr) (cap : Nat) (zs : List Int) (w : World) (hb : BV w a zs) (hn : zs.length ≤ 1000000) :
    Calls Try.prog 15 #[.slice a zs.length cap] w fun e w' => ∃ v, e = .returned v ∧ OwnN w' w.heap.size v (listS zs) ∧ Below w.heap.size w w' := by
  have HH : Hid (∀ (n : Nat) (W : World), n ≤ 9000000 → Below w.heap.size w W → Calls Try.prog 12 #[.slice a zs.length cap, .int .i64 (n : Int)] W fun e w' => e = .returned (.bool (hasB zs n)) ∧ Below W.heap.size W w') := fun n W h9 hW => rhas_c n W (hb.below hW) hn h9
  have hm8 : wrap64 (8 * (zs.length : Int)) = 8 * (zs.length : Int) := by unfold wrap64; omega
  clear hb
  unfold listS
  go_enter Try.func15, Try.ntmps15
  go_wp2
  go_loopw [3, 4] (fun lv iv wr => ∃ k : Nat, k ≤ 8 * zs.length ∧ iv = .int .i64 k ∧ Hid (OwnN wr w.heap.size lv ((List.range k).filter (hasB zs))) ∧ Hid (Below w.heap.size w wr)) (fun _ iv _ => 8 * zs.length - (intOf iv).toNat)
  case atStart => exact ⟨0, Nat.zero_le _, rfl, World.ownsRow_nil _ _ _ _, Below.refl _ _⟩
  case round =>
    obtain ⟨k, hk, rfl, HO, HB⟩ := hrel
    by_cases hlt : k < 8 * zs.length
    · have hd : decide ((k : Int) < 8 * (zs.length : Int)) = true := by simp; omega
      have HC := HH.out k wr (by omega) HB.out
      have HN : Hid ((List.range (k + 1)).filter (hasB zs) = (List.range k).filter (hasB zs) ++ (if hasB zs k = true then [k] else [])) := range_filter _ k
      have HLE : Hid (((List.range k).filter (hasB zs)).length ≤ 10000000) := by
        have e := len_filter (hasB zs) k
        have : ((List.range k).filter (hasB zs)).length ≤ 10000000 := by omega
        exact this
      cases hh : hasB zs k
      · rw [hh] at HC
        rw [hh] at HN
        simp only [Bool.false_eq_true, if_false, List.append_nil] at HN
        go_wp2_with (first | (go_at_call 12; refine HC.mono ?_; rintro e w1 ⟨rfl, hb1⟩) | fail)
        go_roundw
        case rel => exact ⟨k + 1, by omega, by go_num, by rw [HN.out]; exact HO.out.below hb1, HB.out.trans (hb1.mono HB.out.size)⟩
        case measure => simp [intOf]; omega
      · rw [hh] at HC
        rw [hh] at HN
        simp only [if_true] at HN
        go_wp2_with (first
          | (go_at_call 12; refine HC.mono ?_; rintro e w1 ⟨rfl, hb1⟩)
          | (at_builtin; refine wp_appN rfl _ _ rfl w.heap.size _ ((List.range k).filter (hasB zs)) k rfl (HO.out.below (hb1.alloc (by have := hb1.size; omega) _)) _ rfl (heap_last _ _) HLE.out (by have := hb1.size; have := HB.out.size; simp; omega) ?_; intro lv' w2 hB2 hb2)
          | fail)
        go_roundw
        case rel => exact ⟨k + 1, by omega, by go_num, by rw [HN.out]; exact hB2, (HB.out.trans (hb1.mono HB.out.size)).trans (((Below.refl _ _).alloc (by have := hb1.size; have := HB.out.size; omega) _).trans hb2)⟩
        case measure => simp [intOf]; omega
    · have hd : decide ((k : Int) < 8 * (zs.length : Int)) = false := by simp; omega
      have HE : Hid (OwnN wr w.heap.size u3 ((List.range (8 * zs.length)).filter (hasB zs))) := by
        have hk8 : 8 * zs.length = k := by omega
        rw [hk8]; exact HO.out
      go_wp2
      go_ret
      exact ⟨_, rfl, HE.out, HB.out⟩
/-- The numbers l lie at the address a. -/
def NV (w : World) (a : Option Addr) (l : List Nat) : Prop := l = [] ∨ ∃ b off, a = some ⟨b, off, none⟩ ∧ b < w.heap.size ∧ ∀ i, i < l.length → w.cell? ⟨b, off + i, none⟩ = some (.int .i64 (l.getD i 0 : Nat))
theorem OwnN.view {w : World} {base : Nat} {v : Value} {l : List Nat} (h : OwnN w base v l) : ∃ a cap, v = .slice a l.length cap ∧ NV w a l := by
  have hl := World.ownsRow.lt h
  rcases h.2 with ⟨rfl, hn⟩ | ⟨g, cap, cur, rfl, hb, hg, hnc, hcm, hcs, htake⟩
  · exact ⟨none, 0, by rw [hn], .inl (List.eq_nil_of_length_eq_zero hn)⟩
  · refine ⟨_, cap, rfl, .inr ⟨g, 0, rfl, (hl g rfl).2, ?_⟩⟩
    intro i hi
    have hc := World.ownsRow.cellAt (g := g) h i (by omega)
    rw [Nat.zero_add, hc, List.getElem?_map, List.getElem?_eq_getElem hi, List.getD_eq_getElem?_getD, List.getElem?_eq_getElem hi]
    rfl
set_option maxHeartbeats 800000 in
theorem same_any (a b : Option Addr) (c1 c2 : Nat) (l : List Nat) (w : World) (ha : NV w a l) (hb : NV w b l) (hn : l.length ≤ 10000000) :
    Calls Try.prog 13 #[.slice a l.length c1, .slice b l.length c2] w fun e w' => e = .returned (.bool true) ∧ ∃ m, w' = w.drewN m := by
  have HC : Hid (∀ i, i < l.length → ∃ p q r s, a = some ⟨p, q, none⟩ ∧ b = some ⟨r, s, none⟩ ∧ w.cell? ⟨p, q + i, none⟩ = some (.int .i64 (l.getD i 0 : Nat)) ∧ w.cell? ⟨r, s + i, none⟩ = some (.int .i64 (l.getD i 0 : Nat))) := by
    intro i hi
    rcases ha with rfl | ⟨p, q, h1, _, h2⟩
    · simp at hi
    · rcases hb with rfl | ⟨r, s, h3, _, h4⟩
      · simp at hi
      · exact ⟨p, q, r, s, h1, h3, h2 i hi, h4 i hi⟩
  clear ha hb
  generalize hN : l.length = N at *
  clear hN
  go_enter Try.func13, Try.ntmps13
  go_wp2
  go_loopw [5] (fun iv wr => ∃ k m : Nat, k ≤ N ∧ iv = .int .i64 k ∧ wr = w.drewN m) (fun iv _ => N - (intOf iv).toNat)
  case atStart => exact ⟨0, 0, Nat.zero_le _, rfl, rfl⟩
  case round =>
    obtain ⟨k, m, hk, rfl, rfl⟩ := hrel
    by_cases hlt : k < N
    · obtain ⟨p, q, r, s, rfl, rfl, h1, h2⟩ := HC.out k hlt
      generalize l.getD k 0 = z at *
      go_wp2
      go_quiet (fail)
      go_wp2
      go_roundw
      case rel => exact ⟨k + 1, _, by omega, by go_num, by first | rfl | rw [World.drewN_drewN]⟩
      case measure => simp [intOf]; omega
    · go_wp2
      go_ret
      exact ⟨rfl, _, rfl⟩
end Go.Proofs.Ytfbmpnhoohfcgaa
