/- For any two sets of up to 40 bytes each, what is in one of both, and what is in the one alone, is so bit by bit; what is in the one alone together with the second is as both. -/
import Derived.Test.YtfbmpnhoohfcgaaAwake
import Derived.Deep.RegionHeld3
import Derived.Test.YtfbmpnhoohfcgaaRows
import Derived.WalkKit
import Derived.ProofKit
import Derived.OpenShut
import Derived.ShutString
import Derived.ChangeOld
import Derived.Below
namespace Go.Proofs.Ytfbmpnhoohfcgaa.bitsSets
open Go.ChangeShapes Go.WideShapes Go.ChangeAt Go.RowKit
open Go.ChangeMaps (open_string shut_string)
set_option linter.unusedVariables false

theorem own : ownKnob Try.prog.godebug = none := by kernel_rfl
theorem laidOut : laidOutB Try.prog = true := by kernel_rfl

/-- WHAT THE WALK IS TOLD OF A SLICE OF INTEGERS THAT CAME IN: it is nil; or it leads to a row of 'cap' cells, the numbers 'zs' (the first 'len' are its elements, the rest its spare room), each fitting its kind. -/
def IsRow (k : IntKind) (w : World) (a : Option Addr) (len cap : Nat) (zs : List Int) : Prop :=
  (a = none ∧ len = 0 ∧ cap = 0 ∧ zs = []) ∨
  ∃ x, a = some x ∧ len ≤ cap ∧ cap ≤ maxLen ∧ zs.length = cap ∧ (∀ i, i < zs.length → w.cell? (x.add i) = some (.int k (zs.getD i 0))) ∧ ∀ n ∈ zs, (Lit.int k n).wf = true

theorem row_bytes {w : World} {a : Option Addr} {len cap : Nat} {zs : List Int} (h : IsRow .u8 w a len cap zs) :
    ∃ ys : List Int, ys.length = len ∧ BV w a ys ∧ (a = none → cap = 0) ∧ len ≤ cap ∧ len ≤ 9223372036854775807 := by
  rcases h with ⟨rfl, rfl, rfl, rfl⟩ | ⟨x, rfl, hl, hm, hz, hcell, hwz⟩
  · exact ⟨[], rfl, ⟨AllB.nil, .inl rfl⟩, fun _ => rfl, Nat.le_refl _, by decide⟩
  · refine ⟨zs.take len, by simp; omega, ⟨?_, ?_⟩, (fun h => by cases h), hl, by unfold maxLen at hm; omega⟩
    · intro z hz'
      have := bounds_u8 (hwz z (List.mem_of_mem_take hz'))
      omega
    · by_cases h0 : len = 0
      · left; simp [h0]
      · right
        obtain ⟨b, off, spot⟩ := x
        have hc := hcell 0 (by omega)
        have hspot : spot = none := by simpa [Addr.add] using World.cell?_spot hc
        subst hspot
        refine ⟨b, off, rfl, ?_, ?_⟩
        · have := World.block_lt_of_cell? _ _ hc
          simpa [Addr.add] using this
        · intro i hi
          rw [List.length_take] at hi
          have := hcell i (by omega)
          rw [add_plain] at this
          rw [this, List.getD_eq_getElem?_getD, List.getD_eq_getElem?_getD, List.getElem?_take, if_pos (by omega)]
set_option maxHeartbeats 800000 in
theorem walk_long (a b : Option Addr) (l1 c1 l2 c2 : Nat) (w : World) (h : 40 < l1 ∨ 40 < l2) :
    Calls Try.prog 7 #[.slice a l1 c1, .slice b l2 c2] w fun e w' => e = .returned (.bool true) ∧ Below w.heap.size w w' := by
  have HA := awake_any w
  by_cases h1 : 40 < l1
  · have hd : decide ((40 : Int) < (l1 : Int)) = true := by simp; omega
    go_enter Try.func7, Try.ntmps7
    go_wp2_with (first | (go_at_call 8; refine HA.mono ?_; rintro e w1 ⟨rfl, hb⟩; clear HA) | fail)
    go_ret
    exact ⟨rfl, hb⟩
  · have hd : decide ((40 : Int) < (l1 : Int)) = false := by simp; omega
    have hd2 : decide ((40 : Int) < (l2 : Int)) = true := by simp; omega
    go_enter Try.func7, Try.ntmps7
    go_wp2_with (first | (go_at_call 8; refine HA.mono ?_; rintro e w1 ⟨rfl, hb⟩; clear HA) | fail)
    go_ret
    exact ⟨rfl, hb⟩
set_option maxRecDepth 20000 in
set_option maxHeartbeats 3200000 in
theorem walk_some (a b : Option Addr) (c1 c2 : Nat) (xs ys : List Int) (w : World) (ha : BV w a xs) (hb : BV w b ys) (h1 : xs.length ≤ 40) (h2 : ys.length ≤ 40) :
    Calls Try.prog 7 #[.slice a xs.length c1, .slice b ys.length c2] w fun e w' => e = .returned (.bool true) ∧ Below w.heap.size w w' := by
  obtain ⟨N, hN⟩ : ∃ N, max xs.length ys.length = N := ⟨_, rfl⟩
  have HJ : Hid (∀ W, Below w.heap.size w W → Calls Try.prog 20 #[.slice a xs.length c1, .slice b ys.length c2] W fun e w' => ∃ aj cj js, e = .returned (.slice aj N cj) ∧ BV w' aj js ∧ IsJoin xs ys js ∧ Below W.heap.size W w') := fun W hW => by
    refine (join_any a b c1 c2 xs ys W (ha.below hW) (hb.below hW) (by omega) (by omega)).mono ?_
    rintro e w' ⟨v, zs, rfl, ho, hj, hbb⟩
    obtain ⟨aj, cj, e, h3, h4⟩ := ho.split hj.2.1
    rw [hj.1, hN] at e
    exact ⟨aj, cj, zs, by rw [e], h3, hj, hbb⟩
  have HL : Hid (∀ W, Below w.heap.size w W → Calls Try.prog 21 #[.slice a xs.length c1, .slice b ys.length c2] W fun e w' => ∃ aj cj js, e = .returned (.slice aj N cj) ∧ BV w' aj js ∧ IsLess xs ys js ∧ Below W.heap.size W w') := fun W hW => by
    refine (less_any a b c1 c2 xs ys W (ha.below hW) (hb.below hW) (by omega) (by omega)).mono ?_
    rintro e w' ⟨v, zs, rfl, ho, hj, hbb⟩
    obtain ⟨aj, cj, e, h3, h4⟩ := ho.split hj.2.1
    rw [hj.1, hN] at e
    exact ⟨aj, cj, zs, by rw [e], h3, hj, hbb⟩
  have HX : Hid (∀ (k : Nat) (W : World), Below w.heap.size w W → Calls Try.prog 11 #[.slice a xs.length c1, .int .i64 (k : Int)] W fun e w' => e = .returned (.bool (hasB xs k)) ∧ Below W.heap.size W w') := fun k W hW => has_c k W (ha.below hW) (by omega)
  have HY : Hid (∀ (k : Nat) (W : World), Below w.heap.size w W → Calls Try.prog 11 #[.slice b ys.length c2, .int .i64 (k : Int)] W fun e w' => e = .returned (.bool (hasB ys k)) ∧ Below W.heap.size W w') := fun k W hW => has_c k W (hb.below hW) (by omega)
  have HJH : Hid (∀ (k : Nat) (W W' : World) aj cj js, BV W aj js → IsJoin xs ys js → Below W.heap.size W W' → Calls Try.prog 11 #[.slice aj N cj, .int .i64 (k : Int)] W' fun e w' => e = .returned (.bool (hasB xs k || hasB ys k)) ∧ Below W'.heap.size W' w') := fun k W W' aj cj js hx hj hW => by
    have hl := hj.1.trans hN
    have := has_c (cap := cj) k W' (hx.below hW) (by omega)
    rw [hl, hj.2.2 k] at this
    exact this
  have HLH : Hid (∀ (k : Nat) (W W' : World) aj cj js, BV W aj js → IsLess xs ys js → Below W.heap.size W W' → Calls Try.prog 11 #[.slice aj N cj, .int .i64 (k : Int)] W' fun e w' => e = .returned (.bool (hasB xs k && !hasB ys k)) ∧ Below W'.heap.size W' w') := fun k W W' aj cj js hx hj hW => by
    have hl := hj.1.trans hN
    have := has_c (cap := cj) k W' (hx.below hW) (by omega)
    rw [hl, hj.2.2 k] at this
    exact this
  -- the join of what is in the one alone with the other
  have HJ2 : Hid (∀ W al cl ls js, BV W al ls → IsLess xs ys ls → IsJoin xs ys js → Below w.heap.size w W → Calls Try.prog 20 #[.slice al N cl, .slice b ys.length c2] W fun e w' => ∃ aj cj, e = .returned (.slice aj N cj) ∧ BV w' aj js ∧ Below W.heap.size W w') := fun W al cl ls js hl1 hl2 hj1 hW => by
    have := join_any al b cl c2 ls ys W hl1 (hb.below hW) (by have := hl2.1; omega) (by omega)
    rw [hl2.1.trans hN] at this
    refine this.mono ?_
    rintro e w' ⟨v, zs, rfl, ho, hj, hbb⟩
    obtain ⟨aj, cj, e, h3, h4⟩ := ho.split hj.2.1
    have hz : zs = js := set_ext hj.2.1 hj1.2.1 (by rw [hj.1, hj1.1, hl2.1]; omega) (fun n _ => by rw [hj.2.2 n, hj1.2.2 n, hl2.2.2 n]; cases hasB xs n <;> cases hasB ys n <;> rfl)
    subst hz
    rw [hj1.1, hN] at e
    exact ⟨aj, cj, by rw [e], h3, hbb⟩
  have HCJ : Hid (∀ W aj cj js, BV W aj js → js.length = N → Calls Try.prog 16 #[.slice aj N cj] W fun e w' => e = .returned (.int .i64 ((listS js).length : Nat)) ∧ Below W.heap.size W w') := fun W aj cj js hj hl => by
    have := count_any aj cj js W hj (by omega)
    rw [hl] at this
    refine this.mono ?_
    rintro e w' ⟨rfl, m, rfl⟩
    exact ⟨rfl, below_drewN (Below.refl _ _) _⟩
  have HCB : Hid (∀ W, Below w.heap.size w W → Calls Try.prog 16 #[.slice b ys.length c2] W fun e w' => e = .returned (.int .i64 ((listS ys).length : Nat)) ∧ Below W.heap.size W w') := fun W hW => by
    refine (count_any b c2 ys W (hb.below hW) (by omega)).mono ?_
    rintro e w' ⟨rfl, m, rfl⟩
    exact ⟨rfl, below_drewN (Below.refl _ _) _⟩
  have HSUM : Hid (∀ js ls, IsJoin xs ys js → IsLess xs ys ls → (listS js).length = (listS ls).length + (listS ys).length ∧ (listS ls).length ≤ 320 ∧ (listS ys).length ≤ 320) := fun js ls hj hl => by
    have e1 := list_more js (8 * N) (by have := hj.1; omega)
    have e2 := list_more ls (8 * N) (by have := hl.1; omega)
    have e3 := list_more ys (8 * N) (by omega)
    have b2 := len_filter (hasB ls) (8 * N)
    have b3 := len_filter (hasB ys) (8 * N)
    rw [← e1, ← e2, ← e3]
    refine ⟨count_split _ _ _ (fun n => ?_) (fun n => ?_) _, by omega, by omega⟩
    · rw [hj.2.2 n, hl.2.2 n]; cases hasB xs n <;> cases hasB ys n <;> rfl
    · rw [hl.2.2 n]; cases hasB xs n <;> cases hasB ys n <;> rfl
  have HA : Hid (∀ w, Calls Try.prog 8 #[] w fun e w' => e = .returned (.bool true) ∧ Below w.heap.size w w') := fun w => awake_any w
  have hd1 : decide ((40 : Int) < (xs.length : Int)) = false := by simp; omega
  have hd2 : decide ((40 : Int) < (ys.length : Int)) = false := by simp; omega
  have hm8 : wrap64 (8 * (N : Int)) = 8 * (N : Int) := by unfold wrap64; omega
  have hmx : (xs.length : Int) ≤ N ∧ (ys.length : Int) ≤ N := by omega
  have hmx2 : N = xs.length ∧ ys.length ≤ N ∨ N = ys.length ∧ xs.length < N := by omega
  have hN40 : N ≤ 40 := by omega
  have HLJ : Hid (∀ js, IsJoin xs ys js → js.length = N) := fun js h => h.1.trans hN
  have HLL : Hid (∀ js, IsLess xs ys js → js.length = N) := fun js h => h.1.trans hN
  generalize xs.length = m at *
  generalize ys.length = m2 at *
  clear ha hb hN hmx
  go_enter Try.func7, Try.ntmps7
  go_wp2_with (first
    | (go_at_call 20; refine (HJ.out _ (Below.refl _ _)).mono ?_; rintro e w1 ⟨aj, cj, js, rfl, hj1, hj2, hb1⟩; have HJ1 : Hid (BV w1 aj js ∧ IsJoin xs ys js ∧ Below w.heap.size w w1) := ⟨hj1, hj2, hb1⟩; clear hj1 hj2 hb1 HJ)
    | (go_at_call 21; refine (HL.out _ HJ1.out.2.2).mono ?_; rintro e w2 ⟨al, cl, ls, rfl, hl1, hl2, hb2⟩; have HL1 : Hid (BV w2 al ls ∧ IsLess xs ys ls ∧ BV w2 aj js ∧ IsJoin xs ys js ∧ Below w.heap.size w w2) := ⟨hl1, hl2, HJ1.out.1.below hb2, HJ1.out.2.1, HJ1.out.2.2.trans (hb2.mono HJ1.out.2.2.size)⟩; clear hl1 hl2 hb2 HL HJ1)
    | fail)
  go_loopw [7] (fun iv wr => ∃ k : Nat, k ≤ 8 * N ∧ iv = .int .i64 k ∧ Hid (Below w2.heap.size w2 wr)) (fun iv _ => 8 * N - (intOf iv).toNat)
  case atStart => exact ⟨0, Nat.zero_le _, rfl, Below.refl _ _⟩
  case round =>
    obtain ⟨k, hk, rfl, HB⟩ := hrel
    have HWR : Hid (Below w.heap.size w wr) := HL1.out.2.2.2.2.trans (HB.out.mono HL1.out.2.2.2.2.size)
    by_cases hlt : k < 8 * N
    · have hdk : decide ((k : Int) < 8 * (N : Int)) = true := by simp; omega
      have CX := HX.out k
      have CY := HY.out k
      have CJ := fun W' => HJH.out k w2 W' aj cj js HL1.out.2.2.1 HL1.out.2.2.2.1
      have CL := fun W' => HLH.out k w2 W' al cl ls HL1.out.1 HL1.out.2.1
      cases hxk : hasB xs k <;> cases hyk : hasB ys k <;> rw [hxk] at CX CJ CL <;> rw [hyk] at CY CJ CL <;> simp only [Bool.or_false, Bool.or_true, Bool.and_false, Bool.and_true, Bool.not_false, Bool.not_true] at CJ CL <;> (
        clear HX HY HJH HLH HJ2 HCJ HCB HSUM HLJ HLL HA hxk hyk
        rcases hmx2 with ⟨rfl, h3⟩ | ⟨rfl, h3⟩
        all_goals (
          go_wp2_with (first
            | (go_at_call_of 11 a; refine (CX _ HWR.out).mono ?_; rintro e w3 ⟨rfl, hb3⟩; have HB3 : Hid (Below w.heap.size w w3 ∧ Below w2.heap.size w2 w3) := ⟨HWR.out.trans (hb3.mono HWR.out.size), HB.out.trans (hb3.mono HB.out.size)⟩; clear hb3 CX)
            | (go_at_call_of 11 b; refine (CY _ HB3.out.1).mono ?_; rintro e w4 ⟨rfl, hb4⟩; have HB4 : Hid (Below w.heap.size w w4 ∧ Below w2.heap.size w2 w4) := ⟨HB3.out.1.trans (hb4.mono HB3.out.1.size), HB3.out.2.trans (hb4.mono HB3.out.2.size)⟩; clear hb4 CY)
            | (go_at_call_of 11 aj; refine (CJ _ HB4.out.2).mono ?_; rintro e w5 ⟨rfl, hb5⟩; have HB5 : Hid (Below w2.heap.size w2 w5) := HB4.out.2.trans (hb5.mono HB4.out.2.size); clear hb5 CJ)
            | (go_at_call_of 11 al; refine (CL _ HB5.out).mono ?_; rintro e w6 ⟨rfl, hb6⟩; have HB6 : Hid (Below w2.heap.size w2 w6) := HB5.out.trans (hb6.mono HB5.out.size); clear hb6 CL)
            | fail)
          go_roundw
          case rel => exact ⟨k + 1, by omega, by go_num, HB6.out⟩
          case measure => simp [intOf]; omega))
    · have hdk : decide ((k : Int) < 8 * (N : Int)) = false := by simp; omega
      obtain ⟨hl1, hl2, hj1, hj2, hw2⟩ := HL1.out
      obtain ⟨hsum, hs1, hs2⟩ := HSUM.out js ls hj2 hl2
      have SL : Hid (∀ W, Below wr.heap.size wr W → Below wr.heap.size wr W ∧ (convert 22 9 (.slice aj N cj)).run Try.prog W = .ok (.string (strOfNums js)) W) := fun W hW => ⟨hW, conv_bv ((hj1.below HB.out).below hW) (HLJ.out js hj2)⟩
      have Q3 : Hid (∀ W, Below wr.heap.size wr W → Calls Try.prog 20 #[.slice al N cl, .slice b m2 c2] W fun e w' => ∃ a3 c3, e = .returned (.slice a3 N c3) ∧ (convert 22 9 (.slice a3 N c3)).run Try.prog w' = .ok (.string (strOfNums js)) w' ∧ Below wr.heap.size wr w') := fun W hW => by
        refine (HJ2.out W al cl ls js ((hl1.below HB.out).below hW) hl2 hj2 (HWR.out.trans (hW.mono HWR.out.size))).mono ?_
        rintro e w' ⟨a3, c3, rfl, h3, hbb⟩
        exact ⟨a3, c3, rfl, conv_bv h3 (HLJ.out js hj2), hW.trans (hbb.mono hW.size)⟩
      have Q4 : Hid (∀ W, Below wr.heap.size wr W → Calls Try.prog 16 #[.slice aj N cj] W fun e w' => e = .returned (.int .i64 ((listS ls).length + (listS ys).length : Int)) ∧ Below wr.heap.size wr w') := fun W hW => by
        refine (HCJ.out W aj cj js ((hj1.below HB.out).below hW) (HLJ.out js hj2)).mono ?_
        rintro e w' ⟨rfl, hbb⟩
        rw [hsum, Int.natCast_add]
        exact ⟨rfl, hW.trans (hbb.mono hW.size)⟩
      have Q5 : Hid (∀ W, Below wr.heap.size wr W → Calls Try.prog 16 #[.slice al N cl] W fun e w' => e = .returned (.int .i64 ((listS ls).length : Int)) ∧ Below wr.heap.size wr w') := fun W hW => by
        refine (HCJ.out W al cl ls ((hl1.below HB.out).below hW) (HLL.out ls hl2)).mono ?_
        rintro e w' ⟨rfl, hbb⟩
        exact ⟨rfl, hW.trans (hbb.mono hW.size)⟩
      have Q6 : Hid (∀ W, Below wr.heap.size wr W → Calls Try.prog 16 #[.slice b m2 c2] W fun e w' => e = .returned (.int .i64 ((listS ys).length : Int)) ∧ Below wr.heap.size wr w') := fun W hW => by
        refine (HCB.out W (HWR.out.trans (hW.mono HWR.out.size))).mono ?_
        rintro e w' ⟨rfl, hbb⟩
        exact ⟨rfl, hW.trans (hbb.mono hW.size)⟩
      have Q7 : Hid (∀ W, Below wr.heap.size wr W → Calls Try.prog 8 #[] W fun e w' => e = .returned (.bool true) ∧ Below wr.heap.size wr w') := fun W hW => by
        refine (HA.out W).mono ?_
        rintro e w' ⟨rfl, hbb⟩
        exact ⟨rfl, hW.trans (hbb.mono hW.size)⟩
      have hwn : wrap64 (((listS ls).length : Int) + ((listS ys).length : Int)) = ((listS ls).length : Int) + ((listS ys).length : Int) := by unfold wrap64; omega
      generalize (listS ls).length = n1 at *
      generalize (listS ys).length = n2 at *
      obtain ⟨T, hT⟩ : ∃ T : Int, (n1 : Int) + (n2 : Int) = T := ⟨_, rfl⟩
      rw [hT] at Q4
      have hwn2 : wrap64 ((n1 : Int) + (n2 : Int)) = T := by rw [← hT]; exact hwn
      have hwn3 : IntKind.i64.wrap ((n1 : Int) + (n2 : Int)) = T := by rw [IntKind.wrap_i64]; omega
      have hTT : (T == T) = true := by simp
      clear hwn hT hs1 hs2
      generalize strOfNums js = st at *
      clear HX HY HJH HLH HJ2 HCJ HCB HSUM HLJ HLL HA hl1 hl2 hj1 hj2 hsum HL1 hw2
      rcases hmx2 with ⟨rfl, h3⟩ | ⟨rfl, h3⟩
      all_goals (
        go_wp2_with fail
        go_region_held (fun w' => Below wr.heap.size wr w' ∧ (convert 22 9 (.slice aj N cj)).run Try.prog w' = .ok (.string st) w') (first | exact SL.out _ (Below.refl _ _).drew | exact SL.out _ (by assumption)) (first
          | (go_at_call 20; refine (Q3.out _ (by first | exact (Below.refl _ _).drew | assumption)).mono ?_; rintro e w3 ⟨a3, c3, rfl, s3, hb3⟩; clear Q3)
          | (go_at_call_of 16 aj; refine (Q4.out _ (by assumption)).mono ?_; rintro e w4 ⟨rfl, hb4⟩; clear Q4)
          | (go_at_call_of 16 al; refine (Q5.out _ (by assumption)).mono ?_; rintro e w5 ⟨rfl, hb5⟩; clear Q5)
          | (go_at_call_of 16 b; refine (Q6.out _ (by assumption)).mono ?_; rintro e w6 ⟨rfl, hb6⟩; clear Q6)
          | (go_at_call 8; refine (Q7.out _ (by assumption)).mono ?_; rintro e w7 ⟨rfl, hb7⟩; clear Q7))
        all_goals (go_wp2; go_ret; exact ⟨rfl, HWR.out.trans (hb7.mono HWR.out.size)⟩))
theorem walk (a0 : Option Addr) (len0 cap0 : Nat) (z0 : List Int) (a1 : Option Addr) (len1 cap1 : Nat) (z1 : List Int) (w : World) (w0 : IsRow .u8 w a0 len0 cap0 z0) (w1 : IsRow .u8 w a1 len1 cap1 z1) :
    Calls Try.prog 7 #[.slice a0 len0 cap0, .slice a1 len1 cap1] w fun e w' => e = .returned (.bool true) ∧ Below w.heap.size w w' := by
  obtain ⟨xs, hl, hb, hn, _, _⟩ := row_bytes w0
  obtain ⟨ys, hl2, hb2, hn2, _, _⟩ := row_bytes w1
  by_cases h40 : 40 < len0 ∨ 40 < len1
  · exact walk_long a0 a1 len0 cap0 len1 cap1 w h40
  · subst hl; subst hl2
    exact walk_some a0 a1 cap0 cap1 xs ys w hb hb2 (by omega) (by omega)

set_option maxRecDepth 100000 in
theorem lifted (os : Os) (started : os.Started) (H : Type) (enc : TypeId × Value → H) :
    ReturnsInHanded {} Try.checked os 7 .any (Rows.bitsSetsSpec.pre6 enc Try.prog Try.f7 Rows.bitsSetsRow.domain false) (Rows.bitsSetsSpec.post enc Try.prog Try.f7 false true false false) := by
  refine returnsInHanded_of_change (C := Try.checked) own started (by kernel_rfl) Try.func7
    (ChangeSpec.witness6 (enc := enc) (C := Try.checked) false ⟨#[], #[.slice none 0 0, .slice none 0 0], []⟩ 8 (by kernel_rfl) (by kernel_rfl) (by kernel_rfl) (by kernel_rfl)) ?_
  intro W base args ds gs before hval0 hW hcnd _
  have hval : ∀ (j : Nat) t v, Try.f7.params[j]? = some t → args[j]? = some v → Value.okWide Try.prog W .any base t v := hval0
  have hW' := hW
  obtain ⟨p, q, hA0, hV, rfl, hfz, hnd⟩ := hW
  have hA : DataW.TrodAll enc Try.prog W 0 (fun _ => true) true Try.f7.params.toList args.toList ds p := hA0
  rw [Try.params7] at hA hval
  obtain ⟨v0, vs0, d0, ds0, p0, q0, hargs, rfl, rfl, h0, r0⟩ := trodAll_cons hA
  obtain ⟨v1, vs1, d1, ds1, p1, q1, rfl, rfl, rfl, h1, r1⟩ := trodAll_cons r0
  obtain ⟨rfl, rfl, rfl⟩ := trodAll_nil r1
  obtain rfl : args = #[v0, v1] := by cases args; simp_all
  obtain ⟨rfl, rfl⟩ := trodVars_none hV
  obtain ⟨a0, len0, cap0, rfl⟩ := okWide_slice Try.underlying22 (hval 0 22 v0 rfl rfl)
  have k0 := h0
  have lt0 : ∀ x ∈ p0, x.block < W.heap.size := by obtain ⟨m, hm⟩ := k0; exact DataW.trod_lt m _ _ _ hm
  obtain ⟨z0, w0⟩ : ∃ zs, IsRow .u8 W a0 len0 cap0 zs := by
    obtain ⟨fuel, hf⟩ := h0
    rcases open_ints Try.underlying22 Try.underlying5 (by kernel_rfl) hf with ⟨hcs, _⟩ | ⟨x, l, c, zs, hcs, _, hl, hm, hz, _, hcell, hwz⟩
    · simp [Value.cells] at hcs
      obtain ⟨rfl, rfl, rfl⟩ := hcs
      exact ⟨[], .inl ⟨rfl, rfl, rfl, rfl⟩⟩
    · simp [Value.cells] at hcs
      obtain ⟨rfl, rfl, rfl⟩ := hcs
      exact ⟨zs, .inr ⟨_, rfl, hl, hm, by simpa using hz, hcell, hwz⟩⟩
  obtain ⟨a1, len1, cap1, rfl⟩ := okWide_slice Try.underlying22 (hval 1 22 v1 rfl rfl)
  have k1 := h1
  have lt1 : ∀ x ∈ p1, x.block < W.heap.size := by obtain ⟨m, hm⟩ := k1; exact DataW.trod_lt m _ _ _ hm
  obtain ⟨z1, w1⟩ : ∃ zs, IsRow .u8 W a1 len1 cap1 zs := by
    obtain ⟨fuel, hf⟩ := h1
    rcases open_ints Try.underlying22 Try.underlying5 (by kernel_rfl) hf with ⟨hcs, _⟩ | ⟨x, l, c, zs, hcs, _, hl, hm, hz, _, hcell, hwz⟩
    · simp [Value.cells] at hcs
      obtain ⟨rfl, rfl, rfl⟩ := hcs
      exact ⟨[], .inl ⟨rfl, rfl, rfl, rfl⟩⟩
    · simp [Value.cells] at hcs
      obtain ⟨rfl, rfl, rfl⟩ := hcs
      exact ⟨zs, .inr ⟨_, rfl, hl, hm, by simpa using hz, hcell, hwz⟩⟩
  clear hA0 hval0
  refine (walk a0 len0 cap0 z0 a1 len1 cap1 z1 W w0 w1).mono fun e W' ⟨he, bel⟩ => ?_
  subst he
  exact ⟨_, rfl, _, _, _, [], _, [], hW', trodAll_mk1 (shut_bool Try.underlying4 _), (trodAll_cons_mk (Below.trod laidOut (by kernel_rfl) (of_decide_eq_true (by kernel_rfl)) k0 bel lt0) (trodAll_cons_mk (Below.trod laidOut (by kernel_rfl) (of_decide_eq_true (by kernel_rfl)) k1 bel lt1) trodAll_mk0)), rfl, bel.frame _, fun h => by cases h⟩

theorem over : Rows.bitsSetsRow.holds Try.pinned (OpenSpec.ofChange Rows.bitsSetsSpec) :=
  OpenClaim.holds_of_wide 7 Try.f7 rfl rfl rfl rfl rfl rfl rfl ⟨rfl, rfl, rfl, rfl, rfl⟩ rfl rfl rfl rfl rfl (by kernel_rfl) Try.func7 (by kernel_rfl)
    (of_decide_eq_true (by kernel_rfl)) (by unfold Func.isWrapper; first | (rw [if_pos (by decide +kernel)]; kernel_rfl) | (rw [if_neg (by decide +kernel)]; exact ⟨rfl, rfl⟩))
    (fun os started H enc _ => lifted os started H enc)

end Go.Proofs.Ytfbmpnhoohfcgaa.bitsSets

namespace Go.Proofs.Ytfbmpnhoohfcgaa
theorem bitsSets_holds : Rows.BitsSetsSaid := bitsSets.over
#print axioms bitsSets_holds
end Go.Proofs.Ytfbmpnhoohfcgaa
