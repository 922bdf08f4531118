/- For every set of up to 60 bytes and any numbers, what is in it, the lowest that is not, how many and which, and what is made, are told as the document says. -/
import Derived.Test.YtfbmpnhoohfcgaaAwake
import Derived.Deep.RegionHeld3
import Derived.Test.YtfbmpnhoohfcgaaRows
import Derived.WalkKit
import Derived.ProofKit
import Derived.OpenShut
import Derived.ShutString
import Derived.ChangeOld
import Derived.Below
namespace Go.Proofs.Ytfbmpnhoohfcgaa.bitsLooks
open Go.ChangeShapes Go.WideShapes Go.ChangeAt Go.RowKit
open Go.ChangeMaps (open_string shut_string)
set_option linter.unusedVariables false

theorem own : ownKnob Try.prog.godebug = none := by kernel_rfl
theorem laidOut : laidOutB Try.prog = true := by kernel_rfl

/-- WHAT THE WALK IS TOLD OF A SLICE OF INTEGERS THAT CAME IN: it is nil; or it leads to a row of 'cap' cells, the numbers 'zs' (the first 'len' are its elements, the rest its spare room), each fitting its kind. -/
def IsRow (k : IntKind) (w : World) (a : Option Addr) (len cap : Nat) (zs : List Int) : Prop :=
  (a = none ∧ len = 0 ∧ cap = 0 ∧ zs = []) ∨
  ∃ x, a = some x ∧ len ≤ cap ∧ cap ≤ maxLen ∧ zs.length = cap ∧ (∀ i, i < zs.length → w.cell? (x.add i) = some (.int k (zs.getD i 0))) ∧ ∀ n ∈ zs, (Lit.int k n).wf = true

theorem row_bytes {w : World} {a : Option Addr} {len cap : Nat} {zs : List Int} (h : IsRow .u8 w a len cap zs) :
    ∃ ys : List Int, ys.length = len ∧ BV w a ys ∧ (a = none → cap = 0) ∧ len ≤ cap ∧ len ≤ 9223372036854775807 := by
  rcases h with ⟨rfl, rfl, rfl, rfl⟩ | ⟨x, rfl, hl, hm, hz, hcell, hwz⟩
  · exact ⟨[], rfl, ⟨AllB.nil, .inl rfl⟩, fun _ => rfl, Nat.le_refl _, by decide⟩
  · refine ⟨zs.take len, by simp; omega, ⟨?_, ?_⟩, (fun h => by cases h), hl, by unfold maxLen at hm; omega⟩
    · intro z hz'
      have := bounds_u8 (hwz z (List.mem_of_mem_take hz'))
      omega
    · by_cases h0 : len = 0
      · left; simp [h0]
      · right
        obtain ⟨b, off, spot⟩ := x
        have hc := hcell 0 (by omega)
        have hspot : spot = none := by simpa [Addr.add] using World.cell?_spot hc
        subst hspot
        refine ⟨b, off, rfl, ?_, ?_⟩
        · have := World.block_lt_of_cell? _ _ hc
          simpa [Addr.add] using this
        · intro i hi
          rw [List.length_take] at hi
          have := hcell i (by omega)
          rw [add_plain] at this
          rw [this, List.getD_eq_getElem?_getD, List.getD_eq_getElem?_getD, List.getElem?_take, if_pos (by omega)]
set_option maxHeartbeats 800000 in
theorem walk_long (a : Option Addr) (len cap : Nat) (i n : Int) (w : World) (h : 60 < len) :
    Calls Try.prog 3 #[.slice a len cap, .int .i64 i, .int .i64 n] w fun e w' => e = .returned (.bool true) ∧ Below w.heap.size w w' := by
  have HA := awake_any w
  have hd : decide ((60 : Int) < (len : Int)) = true := by simp; omega
  go_enter Try.func3, Try.ntmps3
  go_wp2_with (first | (go_at_call 8; refine HA.mono ?_; rintro e w1 ⟨rfl, hb⟩; clear HA) | fail)
  go_ret
  exact ⟨rfl, hb⟩
theorem NV.below {w w' : World} {a : Option Addr} {l : List Nat} (h : NV w a l) (hb : Below w.heap.size w w') : NV w' a l := by
  rcases h with rfl | ⟨b, off, rfl, hlt, hc⟩
  · exact .inl rfl
  · exact .inr ⟨b, off, rfl, Nat.lt_of_lt_of_le hlt hb.size, fun i hi => (hb.cell (p := ⟨b, off + i, none⟩) hlt).trans (hc i hi)⟩
set_option maxHeartbeats 6400000 in
theorem walk_some (a : Option Addr) (cap : Nat) (zs : List Int) (i n : Int) (w : World) (hb : BV w a zs) (h60 : zs.length ≤ 60) (hi : i ≤ 9223372036854775807) :
    Calls Try.prog 3 #[.slice a zs.length cap, .int .i64 i, .int .i64 n] w fun e w' => e = .returned (.bool true) ∧ Below w.heap.size w w' := by
  obtain ⟨len, hlen⟩ : ∃ len, zs.length = len := ⟨_, rfl⟩
  have hl1 : (listS zs).length ≤ 10000000 := by
    have := len_filter (hasB zs) (8 * zs.length)
    unfold listS; omega
  have HF : Hid (Calls Try.prog 9 #[.slice a len cap, .int .i64 i] w fun e w' => ∃ (k : Nat) (ok : Bool), e = .returned (.tuple #[.int .i64 (k : Int), .bool ok]) ∧ IsFirst zs i.toNat k ok ∧ Below w.heap.size w w') := by
    have := first_any a cap zs i w hb (by omega) hi
    rw [hlen] at this
    refine this.mono ?_
    rintro e w' ⟨k, ok, rfl, hf, m, rfl⟩
    exact ⟨k, ok, rfl, hf, below_drewN (Below.refl _ _) _⟩
  have HG : Hid (∀ (k0 : Nat) (ok0 : Bool) W, IsFirst zs i.toNat k0 ok0 → Below w.heap.size w W → Calls Try.prog 10 #[.slice a len cap, .int .i64 i] W fun e w' => e = .returned (.tuple #[.int .i64 (k0 : Int), .bool ok0]) ∧ Below w.heap.size w w') := fun k0 ok0 W hf0 hW => by
    have := rfirst_any a cap zs i W (hb.below hW) (by omega) hi
    rw [hlen] at this
    refine this.mono ?_
    rintro e w' ⟨k, ok, rfl, hf, m, rfl⟩
    obtain ⟨rfl, rfl⟩ := hf.one hf0
    exact ⟨rfl, below_drewN hW _⟩
  have H11 : Hid (∀ W, Below w.heap.size w W → Calls Try.prog 11 #[.slice a len cap, .int .i64 i] W fun e w' => e = .returned (.bool (hasI zs i)) ∧ Below w.heap.size w w') := fun W hW => by
    have := has_any a cap zs i W (hb.below hW) (by omega)
    rw [hlen] at this
    refine this.mono ?_
    rintro e w' ⟨rfl, m, rfl⟩
    exact ⟨rfl, below_drewN hW _⟩
  have H12 : Hid (∀ W, Below w.heap.size w W → Calls Try.prog 12 #[.slice a len cap, .int .i64 i] W fun e w' => e = .returned (.bool (hasI zs i)) ∧ Below w.heap.size w w') := fun W hW => by
    have := rhas_any a cap zs i W (hb.below hW) (by omega) hi
    rw [hlen] at this
    refine this.mono ?_
    rintro e w' ⟨rfl, m, rfl⟩
    exact ⟨rfl, below_drewN hW _⟩
  have H14 : Hid (∀ W, Below w.heap.size w W → Calls Try.prog 14 #[.slice a len cap] W fun e w' => ∃ al cl, e = .returned (.slice al (listS zs).length cl) ∧ Hid (NV w' al (listS zs)) ∧ Below W.heap.size W w' ∧ Below w.heap.size w w') := fun W hW => by
    have := list_any a cap zs W (hb.below hW) (by omega)
    rw [hlen] at this
    refine this.mono ?_
    rintro e w' ⟨v, rfl, ho, hbb⟩
    obtain ⟨al, cl, rfl, hv⟩ := ho.view
    exact ⟨al, cl, rfl, hv, hbb, hW.trans (hbb.mono hW.size)⟩
  have H15 : Hid (∀ W, Below w.heap.size w W → Calls Try.prog 15 #[.slice a len cap] W fun e w' => ∃ al cl, e = .returned (.slice al (listS zs).length cl) ∧ Hid (NV w' al (listS zs)) ∧ Below W.heap.size W w' ∧ Below w.heap.size w w') := fun W hW => by
    have := rlist_any a cap zs W (hb.below hW) (by omega)
    rw [hlen] at this
    refine this.mono ?_
    rintro e w' ⟨v, rfl, ho, hbb⟩
    obtain ⟨al, cl, rfl, hv⟩ := ho.view
    exact ⟨al, cl, rfl, hv, hbb, hW.trans (hbb.mono hW.size)⟩
  have H13 : Hid (∀ W a1 c1 a2 c2, NV W a1 (listS zs) → NV W a2 (listS zs) → Below w.heap.size w W → Calls Try.prog 13 #[.slice a1 (listS zs).length c1, .slice a2 (listS zs).length c2] W fun e w' => e = .returned (.bool true) ∧ Below w.heap.size w w') := fun W a1 c1 a2 c2 h1 h2 hW => by
    refine (same_any a1 a2 c1 c2 (listS zs) W h1 h2 hl1).mono ?_
    rintro e w' ⟨rfl, m, rfl⟩
    exact ⟨rfl, below_drewN hW _⟩
  have H16 : Hid (∀ W, Below w.heap.size w W → Calls Try.prog 16 #[.slice a len cap] W fun e w' => e = .returned (.int .i64 ((listS zs).length : Nat)) ∧ Below w.heap.size w w') := fun W hW => by
    have := count_any a cap zs W (hb.below hW) (by omega)
    rw [hlen] at this
    refine this.mono ?_
    rintro e w' ⟨rfl, m, rfl⟩
    exact ⟨rfl, below_drewN hW _⟩
  obtain ⟨st, hst⟩ : ∃ st, strOfNums (List.replicate (makeN n) 0) = st := ⟨_, rfl⟩
  have conv : ∀ w' v base, Own w' base v (List.replicate (makeN n) 0) → (convert 22 9 v).run Try.prog w' = .ok (.string st) w' := fun w' v base h => by rw [← hst]; exact conv_own h (AllB.zeros _)
  have H17 : Hid (∀ W, Below w.heap.size w W → Calls Try.prog 17 #[.int .i64 n] W fun e w' => ∃ v, e = .returned v ∧ Hid (∀ W', Below w'.heap.size w' W' → (convert 22 9 v).run Try.prog W' = .ok (.string st) W') ∧ Below W.heap.size W w' ∧ Below w.heap.size w w') := fun W hW => by
    refine (make_any n W).mono ?_
    rintro e w' ⟨v, rfl, ho, hbb⟩
    exact ⟨v, rfl, fun W' hW' => conv _ _ _ (ho.below hW'), hbb, hW.trans (hbb.mono hW.size)⟩
  have H18 : Hid (∀ W, Below w.heap.size w W → Calls Try.prog 18 #[.int .i64 n] W fun e w' => ∃ v, e = .returned v ∧ Hid (∀ W', Below w'.heap.size w' W' → (convert 22 9 v).run Try.prog W' = .ok (.string st) W') ∧ Below W.heap.size W w' ∧ Below w.heap.size w w') := fun W hW => by
    refine (rmake_any n W).mono ?_
    rintro e w' ⟨v, rfl, ho, hbb⟩
    exact ⟨v, rfl, fun W' hW' => conv _ _ _ (ho.below hW'), hbb, hW.trans (hbb.mono hW.size)⟩
  have H8 : Hid (∀ W, Below w.heap.size w W → Calls Try.prog 8 #[] W fun e w' => e = .returned (.bool true) ∧ Below w.heap.size w w') := fun W hW => by
    refine (awake_any W).mono ?_
    rintro e w' ⟨rfl, hbb⟩
    exact ⟨rfl, hW.trans (hbb.mono hW.size)⟩
  have hd : decide ((60 : Int) < (len : Int)) = false := by simp; omega
  have HNB : Hid (∀ W W' al, NV W al (listS zs) → Below W.heap.size W W' → NV W' al (listS zs)) := fun W W' al h hW => NV.below h hW
  rw [hlen]
  generalize listS zs = ll at *
  obtain ⟨L, hL⟩ : ∃ L, ll.length = L := ⟨_, rfl⟩
  rw [hL] at H14 H15 H13 H16
  generalize hasI zs i = hv at *
  generalize i.toNat = ii at *
  have hbb : (hv == hv) = true := by simp
  have hLL : ((L : Int) == (L : Int)) = true := by simp
  clear hb hlen h60 hi hl1 conv hst hL
  go_enter Try.func3, Try.ntmps3
  go_wp2_with (first
    | (go_at_call 9; refine HF.out.mono ?_; rintro e w1 ⟨k, ok, rfl, hf1, hb1⟩; have HF1 : Hid (IsFirst zs ii k ok ∧ Below w.heap.size w w1) := ⟨hf1, hb1⟩; clear hf1 hb1 HF)
    | (go_at_call 10; refine (HG.out k ok _ HF1.out.1 HF1.out.2).mono ?_; rintro e w2 ⟨rfl, hb2⟩; clear HG HF1)
    | fail)
  have hkk : ((k : Int) == (k : Int)) = true := by simp
  have hoo : (ok == ok) = true := by simp
  go_region_held (fun w' => Below w.heap.size w w') (first | exact hb2.drew | assumption) (first
    | (go_at_call 11; refine (H11.out _ (by first | exact hb2.drew | assumption)).mono ?_; rintro e w3 ⟨rfl, hb3⟩; clear H11)
    | (go_at_call 12; refine (H12.out _ (by first | exact hb2.drew | assumption)).mono ?_; rintro e w4 ⟨rfl, hb4⟩; clear H12)
    | (go_at_call 14; refine (H14.out _ (by assumption)).mono ?_; rintro e w5 ⟨al, cl, rfl, hv5, hs5, hb5⟩; clear H14)
    | (go_at_call 15; refine (H15.out _ (by assumption)).mono ?_; rintro e w6 ⟨am, cm, rfl, hv6, hs6, hb6⟩)
    | (go_at_call 13; (first | refine (H13.out _ _ _ _ _ (HNB.out _ _ _ hv5.out hs6) hv6.out (by assumption)).mono ?_ | refine (H13.out _ _ _ _ _ hv5.out (HNB.out _ _ _ hv6.out hs5) (by assumption)).mono ?_); rintro e w7 ⟨rfl, hb7⟩; clear H13 hv5 hv6 hs5 hs6)
    | (go_at_call 16; refine (H16.out _ (by assumption)).mono ?_; rintro e w8 ⟨rfl, hb8⟩; clear H16)
    | (go_at_call 17; refine (H17.out _ (by assumption)).mono ?_; rintro e w9 ⟨v9, rfl, s9, hs9, hb9⟩; have t9 := s9.out _ (Below.refl _ _); (try have t10' := s10.out _ hs9); clear H17)
    | (go_at_call 18; refine (H18.out _ (by assumption)).mono ?_; rintro e w10 ⟨v10, rfl, s10, hs10, hb10⟩; have t10 := s10.out _ (Below.refl _ _); (try have t9' := s9.out _ hs10); clear H18)
    | (go_at_call 8; refine (H8.out _ (by assumption)).mono ?_; rintro e w11 ⟨rfl, hb11⟩; clear H8))
  all_goals (go_wp2; go_ret; exact ⟨rfl, hb11⟩)
theorem walk (a0 : Option Addr) (len0 cap0 : Nat) (z0 : List Int) (a1 a2 : Int) (w : World) (w0 : IsRow .u8 w a0 len0 cap0 z0) (w1 : (Lit.int .i64 a1).wf = true) (w2 : (Lit.int .i64 a2).wf = true) :
    Calls Try.prog 3 #[.slice a0 len0 cap0, .int .i64 a1, .int .i64 a2] w fun e w' => e = .returned (.bool true) ∧ Below w.heap.size w w' := by
  obtain ⟨ys, rfl, hb, hn, _, _⟩ := row_bytes w0
  have hu := bounds_i64 w1
  by_cases h60 : 60 < ys.length
  · exact walk_long a0 ys.length cap0 a1 a2 w h60
  · exact walk_some a0 cap0 ys a1 a2 w hb (by omega) (by omega)

set_option maxRecDepth 100000 in
theorem lifted (os : Os) (started : os.Started) (H : Type) (enc : TypeId × Value → H) :
    ReturnsInHanded {} Try.checked os 3 .any (Rows.bitsLooksSpec.pre6 enc Try.prog Try.f3 Rows.bitsLooksRow.domain false) (Rows.bitsLooksSpec.post enc Try.prog Try.f3 false true false false) := by
  refine returnsInHanded_of_change (C := Try.checked) own started (by kernel_rfl) Try.func3
    (ChangeSpec.witness6 (enc := enc) (C := Try.checked) false ⟨#[], #[.slice none 0 0, .int .i64 0, .int .i64 0], []⟩ 8 (by kernel_rfl) (by kernel_rfl) (by kernel_rfl) (by kernel_rfl)) ?_
  intro W base args ds gs before hval0 hW hcnd _
  have hval : ∀ (j : Nat) t v, Try.f3.params[j]? = some t → args[j]? = some v → Value.okWide Try.prog W .any base t v := hval0
  have hW' := hW
  obtain ⟨p, q, hA0, hV, rfl, hfz, hnd⟩ := hW
  have hA : DataW.TrodAll enc Try.prog W 0 (fun _ => true) true Try.f3.params.toList args.toList ds p := hA0
  rw [Try.params3] at hA hval
  obtain ⟨v0, vs0, d0, ds0, p0, q0, hargs, rfl, rfl, h0, r0⟩ := trodAll_cons hA
  obtain ⟨v1, vs1, d1, ds1, p1, q1, rfl, rfl, rfl, h1, r1⟩ := trodAll_cons r0
  obtain ⟨v2, vs2, d2, ds2, p2, q2, rfl, rfl, rfl, h2, r2⟩ := trodAll_cons r1
  obtain ⟨rfl, rfl, rfl⟩ := trodAll_nil r2
  obtain rfl : args = #[v0, v1, v2] := by cases args; simp_all
  obtain ⟨rfl, rfl⟩ := trodVars_none hV
  obtain ⟨a0, len0, cap0, rfl⟩ := okWide_slice Try.underlying22 (hval 0 22 v0 rfl rfl)
  have k0 := h0
  have lt0 : ∀ x ∈ p0, x.block < W.heap.size := by obtain ⟨m, hm⟩ := k0; exact DataW.trod_lt m _ _ _ hm
  obtain ⟨z0, w0⟩ : ∃ zs, IsRow .u8 W a0 len0 cap0 zs := by
    obtain ⟨fuel, hf⟩ := h0
    rcases open_ints Try.underlying22 Try.underlying5 (by kernel_rfl) hf with ⟨hcs, _⟩ | ⟨x, l, c, zs, hcs, _, hl, hm, hz, _, hcell, hwz⟩
    · simp [Value.cells] at hcs
      obtain ⟨rfl, rfl, rfl⟩ := hcs
      exact ⟨[], .inl ⟨rfl, rfl, rfl, rfl⟩⟩
    · simp [Value.cells] at hcs
      obtain ⟨rfl, rfl, rfl⟩ := hcs
      exact ⟨zs, .inr ⟨_, rfl, hl, hm, by simpa using hz, hcell, hwz⟩⟩
  obtain ⟨a1, rfl, rfl, rfl, w1⟩ := open_int Try.underlying3 (hval 1 3 v1 rfl rfl) h1
  obtain ⟨a2, rfl, rfl, rfl, w2⟩ := open_int Try.underlying3 (hval 2 3 v2 rfl rfl) h2
  clear hA0 hval0
  refine (walk a0 len0 cap0 z0 a1 a2 W w0 w1 w2).mono fun e W' ⟨he, bel⟩ => ?_
  subst he
  exact ⟨_, rfl, _, _, _, [], _, [], hW', trodAll_mk1 (shut_bool Try.underlying4 _), (trodAll_cons_mk (Below.trod laidOut (by kernel_rfl) (of_decide_eq_true (by kernel_rfl)) k0 bel lt0) (trodAll_cons_mk (shut_int Try.underlying3 w1) (trodAll_cons_mk (shut_int Try.underlying3 w2) trodAll_mk0))), rfl, bel.frame _, fun h => by cases h⟩

theorem over : Rows.bitsLooksRow.holds Try.pinned (OpenSpec.ofChange Rows.bitsLooksSpec) :=
  OpenClaim.holds_of_wide 3 Try.f3 rfl rfl rfl rfl rfl rfl rfl ⟨rfl, rfl, rfl, rfl, rfl⟩ rfl rfl rfl rfl rfl (by kernel_rfl) Try.func3 (by kernel_rfl)
    (of_decide_eq_true (by kernel_rfl)) (by unfold Func.isWrapper; first | (rw [if_pos (by decide +kernel)]; kernel_rfl) | (rw [if_neg (by decide +kernel)]; exact ⟨rfl, rfl⟩))
    (fun os started H enc _ => lifted os started H enc)

end Go.Proofs.Ytfbmpnhoohfcgaa.bitsLooks

namespace Go.Proofs.Ytfbmpnhoohfcgaa
theorem bitsLooks_holds : Rows.BitsLooksSaid := bitsLooks.over
#print axioms bitsLooks_holds
end Go.Proofs.Ytfbmpnhoohfcgaa
