/- For every set of up to 40 bytes, a number that is put in is in, one that is taken away is not, and no other one changes. -/
import Derived.Test.YtfbmpnhoohfcgaaAwake
import Derived.Test.YtfbmpnhoohfcgaaRows
import Derived.WalkKit
import Derived.ProofKit
import Derived.OpenShut
import Derived.ShutString
import Derived.ChangeOld
import Derived.Below
namespace Go.Proofs.Ytfbmpnhoohfcgaa.bitsWith
open Go.ChangeShapes Go.WideShapes Go.ChangeAt Go.RowKit
open Go.ChangeMaps (open_string shut_string)
set_option linter.unusedVariables false

theorem own : ownKnob Try.prog.godebug = none := by kernel_rfl
theorem laidOut : laidOutB Try.prog = true := by kernel_rfl

/-- WHAT THE WALK IS TOLD OF A SLICE OF INTEGERS THAT CAME IN: it is nil; or it leads to a row of 'cap' cells, the numbers 'zs' (the first 'len' are its elements, the rest its spare room), each fitting its kind. -/
def IsRow (k : IntKind) (w : World) (a : Option Addr) (len cap : Nat) (zs : List Int) : Prop :=
  (a = none ∧ len = 0 ∧ cap = 0 ∧ zs = []) ∨
  ∃ x, a = some x ∧ len ≤ cap ∧ cap ≤ maxLen ∧ zs.length = cap ∧ (∀ i, i < zs.length → w.cell? (x.add i) = some (.int k (zs.getD i 0))) ∧ ∀ n ∈ zs, (Lit.int k n).wf = true

theorem row_bytes {w : World} {a : Option Addr} {len cap : Nat} {zs : List Int} (h : IsRow .u8 w a len cap zs) :
    ∃ ys : List Int, ys.length = len ∧ BV w a ys ∧ (a = none → cap = 0) ∧ len ≤ cap ∧ len ≤ 9223372036854775807 := by
  rcases h with ⟨rfl, rfl, rfl, rfl⟩ | ⟨x, rfl, hl, hm, hz, hcell, hwz⟩
  · exact ⟨[], rfl, ⟨AllB.nil, .inl rfl⟩, fun _ => rfl, Nat.le_refl _, by decide⟩
  · refine ⟨zs.take len, by simp; omega, ⟨?_, ?_⟩, (fun h => by cases h), hl, by unfold maxLen at hm; omega⟩
    · intro z hz'
      have := bounds_u8 (hwz z (List.mem_of_mem_take hz'))
      omega
    · by_cases h0 : len = 0
      · left; simp [h0]
      · right
        obtain ⟨b, off, spot⟩ := x
        have hc := hcell 0 (by omega)
        have hspot : spot = none := by simpa [Addr.add] using World.cell?_spot hc
        subst hspot
        refine ⟨b, off, rfl, ?_, ?_⟩
        · have := World.block_lt_of_cell? _ _ hc
          simpa [Addr.add] using this
        · intro i hi
          rw [List.length_take] at hi
          have := hcell i (by omega)
          rw [add_plain] at this
          rw [this, List.getD_eq_getElem?_getD, List.getD_eq_getElem?_getD, List.getElem?_take, if_pos (by omega)]
set_option maxHeartbeats 800000 in
theorem walk_long (a : Option Addr) (len cap : Nat) (a1 : Int) (a2 : Bool) (w : World) (h : 40 < len) :
    Calls Try.prog 5 #[.slice a len cap, .int .u16 a1, .bool a2] w fun e w' => e = .returned (.bool true) ∧ Below w.heap.size w w' := by
  have HA := awake_any w
  have hd : decide ((40 : Int) < (len : Int)) = true := by simp; omega
  go_enter Try.func5, Try.ntmps5
  go_wp2_with (first | (go_at_call 8; refine HA.mono ?_; rintro e w1 ⟨rfl, hb⟩; clear HA) | fail)
  go_ret
  exact ⟨rfl, hb⟩
set_option maxHeartbeats 800000 in
theorem walk_none (a : Option Addr) (cap : Nat) (a1 : Int) (a2 : Bool) (w : World) :
    Calls Try.prog 5 #[.slice a 0 cap, .int .u16 a1, .bool a2] w fun e w' => e = .returned (.bool true) ∧ Below w.heap.size w w' := by
  have HA := awake_any w
  go_enter Try.func5, Try.ntmps5
  go_wp2_with (first | (go_at_call 8; refine HA.mono ?_; rintro e w1 ⟨rfl, hb⟩; clear HA) | fail)
  go_ret
  exact ⟨rfl, hb⟩
set_option maxHeartbeats 1600000 in
theorem walk_some (a : Option Addr) (len cap : Nat) (zs : List Int) (a1 : Int) (on : Bool) (w : World) (hl : zs.length = len) (hb : BV w a zs) (hnil : a = none → cap = 0) (h0 : 0 < len) (h40 : len ≤ 40) (h1 : 0 ≤ a1) (h2 : a1 ≤ 65535) :
    Calls Try.prog 5 #[.slice a len cap, .int .u16 a1, .bool on] w fun e w' => e = .returned (.bool true) ∧ Below w.heap.size w w' := by
  obtain ⟨n, hn⟩ : ∃ n : Nat, a1 % (8 * (len : Int)) = (n : Int) := ⟨(a1 % (8 * (len : Int))).toNat, by have := Int.emod_nonneg a1 (b := 8 * (len : Int)) (by omega); omega⟩
  have hn8 : n < 8 * len := by have := Int.emod_lt_of_pos a1 (b := 8 * (len : Int)) (by omega); omega
  have hnt : a1.tmod (8 * (len : Int)) = (n : Int) := by rw [Int.tmod_eq_emod_of_nonneg h1]; exact hn
  have HW : Hid (Calls Try.prog 19 #[.slice a len cap, .int .i64 (n : Int), .bool on] w fun e w' => ∃ ax capx, e = .returned (.slice ax len capx) ∧ BV w' ax (setB zs n on) ∧ Below w.heap.size w w') := by
    have := with_any a cap zs (n : Int) on w hb (by omega) hnil
    rw [withI_in on (by omega), hl] at this
    refine this.mono ?_
    rintro e w' ⟨v, rfl, ho, hbb⟩
    obtain ⟨ax, capx, e, h1, h2⟩ := ho.split (setB_all hb.1 _ _)
    rw [setB_length, hl] at e
    exact ⟨ax, capx, by rw [e], h1, hbb⟩
  have HM : Hid (∀ (k : Nat) (W : World), Below w.heap.size w W → Calls Try.prog 11 #[.slice a len cap, .int .i64 (k : Int)] W fun e w' => e = .returned (.bool (hasB zs k)) ∧ Below W.heap.size W w') := fun k W hW => by
    have := has_c (cap := cap) k W (hb.below hW) (by omega)
    rw [hl] at this
    exact this
  have HX : Hid (∀ (k : Nat) (W W' : World) ax capx, BV W ax (setB zs n on) → Below W.heap.size W W' → Calls Try.prog 11 #[.slice ax len capx, .int .i64 (k : Int)] W' fun e w' => e = .returned (.bool (if k = n then on else hasB zs k)) ∧ Below W'.heap.size W' w') := fun k W W' ax capx hx hW => by
    have := has_c (cap := capx) k W' (hx.below hW) (by rw [setB_length]; omega)
    rw [setB_length, hl, hasB_setB n k on (by omega)] at this
    exact this
  have HA : Hid (∀ w, Calls Try.prog 8 #[] w fun e w' => e = .returned (.bool true) ∧ Below w.heap.size w w') := fun w => awake_any w
  have hd : decide ((40 : Int) < (len : Int)) = false := by simp; omega
  have he : ((len : Int) == 0) = false := by simp; omega
  have hne : ((8 * (len : Int)) == 0) = false := by simp; omega
  have hm8 : wrap64 (8 * (len : Int)) = 8 * (len : Int) := by unfold wrap64; omega
  have hw1 : wrap64 a1 = a1 := by unfold wrap64; omega
  have hwn : wrap64 (n : Int) = (n : Int) := by unfold wrap64; omega
  clear hb hl hn
  go_enter Try.func5, Try.ntmps5
  go_wp2_with (first | (go_at_call 19; refine HW.out.mono ?_; rintro e w1 ⟨ax, capx, rfl, hx1, hb1⟩; have HX1 : Hid (BV w1 ax (setB zs n on) ∧ Below w.heap.size w w1) := ⟨hx1, hb1⟩; clear hx1 hb1 HW) | fail)
  go_loopw [9] (fun iv wr => ∃ k : Nat, k ≤ 8 * len ∧ iv = .int .i64 k ∧ Hid (Below w1.heap.size w1 wr)) (fun iv _ => 8 * len - (intOf iv).toNat)
  case atStart => exact ⟨0, Nat.zero_le _, rfl, Below.refl _ _⟩
  case round =>
    obtain ⟨k, hk, rfl, HB⟩ := hrel
    by_cases hlt : k < 8 * len
    · have hdk : decide ((k : Int) < 8 * (len : Int)) = true := by simp; omega
      have CX := HX.out k w1 wr ax capx HX1.out.1 HB.out
      by_cases hkn : k = n
      · subst hkn
        rw [if_pos rfl] at CX
        have hq : ((k : Int) == (k : Int)) = true := by simp
        have hq2 : ((k : Int) != (k : Int)) = false := by simp
        clear HX HM
        go_wp2_with (first | (go_at_call 11; refine CX.mono ?_; rintro e w2 ⟨rfl, hb2⟩; clear CX) | fail)
        go_roundw
        case rel => exact ⟨k + 1, by omega, by go_num, HB.out.trans (hb2.mono HB.out.size)⟩
        case measure => simp [intOf]; omega
      · rw [if_neg hkn] at CX
        have hq : ((k : Int) == (n : Int)) = false := by simp; omega
        have hq2 : ((k : Int) != (n : Int)) = true := by simp; omega
        have CM : Hid (∀ W, Below wr.heap.size wr W → Calls Try.prog 11 #[.slice a len cap, .int .i64 (k : Int)] W fun e w' => e = .returned (.bool (hasB zs k)) ∧ Below W.heap.size W w') := fun W hW => HM.out k W ((HX1.out.2.trans (HB.out.mono HX1.out.2.size)).trans (hW.mono (by have := HX1.out.2.size; have := HB.out.size; omega)))
        generalize hasB zs k = hv at *
        clear HX HM
        go_wp2_with (first | (go_at_call_of 11 ax; refine CX.mono ?_; rintro e w2 ⟨rfl, hb2⟩; clear CX) | (go_at_call_of 11 a; refine (CM.out _ hb2).mono ?_; rintro e w3 ⟨rfl, hb3⟩; clear CM) | fail)
        go_roundw
        case rel => exact ⟨k + 1, by omega, by go_num, (HB.out.trans (hb2.mono HB.out.size)).trans (hb3.mono (by have := hb2.size; have := HB.out.size; omega))⟩
        case measure => simp [intOf]; omega
    · have hdk : decide ((k : Int) < 8 * (len : Int)) = false := by simp; omega
      clear HX HM
      go_wp2_with (first | (go_at_call 8; refine (HA.out _).mono ?_; rintro e w3 ⟨rfl, hb3⟩; clear HA) | fail)
      go_ret
      refine ⟨rfl, ?_⟩
      have b1 := HX1.out.2.trans (HB.out.mono HX1.out.2.size)
      exact b1.trans (hb3.mono b1.size)
theorem walk (a0 : Option Addr) (len0 cap0 : Nat) (z0 : List Int) (a1 : Int) (a2 : Bool) (w : World) (w0 : IsRow .u8 w a0 len0 cap0 z0) (w1 : (Lit.int .u16 a1).wf = true) :
    Calls Try.prog 5 #[.slice a0 len0 cap0, .int .u16 a1, .bool a2] w fun e w' => e = .returned (.bool true) ∧ Below w.heap.size w w' := by
  obtain ⟨ys, hl, hb, hn, _, _⟩ := row_bytes w0
  have hu := bounds_u16 w1
  by_cases h40 : 40 < len0
  · exact walk_long a0 len0 cap0 a1 a2 w h40
  · by_cases h0 : len0 = 0
    · subst h0
      exact walk_none a0 cap0 a1 a2 w
    · exact walk_some a0 len0 cap0 ys a1 a2 w hl hb hn (by omega) (by omega) (by omega) (by omega)

set_option maxRecDepth 100000 in
theorem lifted (os : Os) (started : os.Started) (H : Type) (enc : TypeId × Value → H) :
    ReturnsInHanded {} Try.checked os 5 .any (Rows.bitsWithSpec.pre6 enc Try.prog Try.f5 Rows.bitsWithRow.domain false) (Rows.bitsWithSpec.post enc Try.prog Try.f5 false true false false) := by
  refine returnsInHanded_of_change (C := Try.checked) own started (by kernel_rfl) Try.func5
    (ChangeSpec.witness6 (enc := enc) (C := Try.checked) false ⟨#[], #[.slice none 0 0, .int .u16 0, .bool false], []⟩ 8 (by kernel_rfl) (by kernel_rfl) (by kernel_rfl) (by kernel_rfl)) ?_
  intro W base args ds gs before hval0 hW hcnd _
  have hval : ∀ (j : Nat) t v, Try.f5.params[j]? = some t → args[j]? = some v → Value.okWide Try.prog W .any base t v := hval0
  have hW' := hW
  obtain ⟨p, q, hA0, hV, rfl, hfz, hnd⟩ := hW
  have hA : DataW.TrodAll enc Try.prog W 0 (fun _ => true) true Try.f5.params.toList args.toList ds p := hA0
  rw [Try.params5] at hA hval
  obtain ⟨v0, vs0, d0, ds0, p0, q0, hargs, rfl, rfl, h0, r0⟩ := trodAll_cons hA
  obtain ⟨v1, vs1, d1, ds1, p1, q1, rfl, rfl, rfl, h1, r1⟩ := trodAll_cons r0
  obtain ⟨v2, vs2, d2, ds2, p2, q2, rfl, rfl, rfl, h2, r2⟩ := trodAll_cons r1
  obtain ⟨rfl, rfl, rfl⟩ := trodAll_nil r2
  obtain rfl : args = #[v0, v1, v2] := by cases args; simp_all
  obtain ⟨rfl, rfl⟩ := trodVars_none hV
  obtain ⟨a0, len0, cap0, rfl⟩ := okWide_slice Try.underlying22 (hval 0 22 v0 rfl rfl)
  have k0 := h0
  have lt0 : ∀ x ∈ p0, x.block < W.heap.size := by obtain ⟨m, hm⟩ := k0; exact DataW.trod_lt m _ _ _ hm
  obtain ⟨z0, w0⟩ : ∃ zs, IsRow .u8 W a0 len0 cap0 zs := by
    obtain ⟨fuel, hf⟩ := h0
    rcases open_ints Try.underlying22 Try.underlying5 (by kernel_rfl) hf with ⟨hcs, _⟩ | ⟨x, l, c, zs, hcs, _, hl, hm, hz, _, hcell, hwz⟩
    · simp [Value.cells] at hcs
      obtain ⟨rfl, rfl, rfl⟩ := hcs
      exact ⟨[], .inl ⟨rfl, rfl, rfl, rfl⟩⟩
    · simp [Value.cells] at hcs
      obtain ⟨rfl, rfl, rfl⟩ := hcs
      exact ⟨zs, .inr ⟨_, rfl, hl, hm, by simpa using hz, hcell, hwz⟩⟩
  obtain ⟨a1, rfl, rfl, rfl, w1⟩ := open_int Try.underlying36 (hval 1 36 v1 rfl rfl) h1
  obtain ⟨a2, rfl, rfl, rfl⟩ := open_bool Try.underlying4 (hval 2 4 v2 rfl rfl) h2
  clear hA0 hval0
  refine (walk a0 len0 cap0 z0 a1 a2 W w0 w1).mono fun e W' ⟨he, bel⟩ => ?_
  subst he
  exact ⟨_, rfl, _, _, _, [], _, [], hW', trodAll_mk1 (shut_bool Try.underlying4 _), (trodAll_cons_mk (Below.trod laidOut (by kernel_rfl) (of_decide_eq_true (by kernel_rfl)) k0 bel lt0) (trodAll_cons_mk (shut_int Try.underlying36 w1) (trodAll_cons_mk (shut_bool Try.underlying4 _) trodAll_mk0))), rfl, bel.frame _, fun h => by cases h⟩

theorem over : Rows.bitsWithRow.holds Try.pinned (OpenSpec.ofChange Rows.bitsWithSpec) :=
  OpenClaim.holds_of_wide 5 Try.f5 rfl rfl rfl rfl rfl rfl rfl ⟨rfl, rfl, rfl, rfl, rfl⟩ rfl rfl rfl rfl rfl (by kernel_rfl) Try.func5 (by kernel_rfl)
    (of_decide_eq_true (by kernel_rfl)) (by unfold Func.isWrapper; first | (rw [if_pos (by decide +kernel)]; kernel_rfl) | (rw [if_neg (by decide +kernel)]; exact ⟨rfl, rfl⟩))
    (fun os started H enc _ => lifted os started H enc)

end Go.Proofs.Ytfbmpnhoohfcgaa.bitsWith

namespace Go.Proofs.Ytfbmpnhoohfcgaa
theorem bitsWith_holds : Rows.BitsWithSaid := bitsWith.over
#print axioms bitsWith_holds
end Go.Proofs.Ytfbmpnhoohfcgaa
