/- For all bytes the call SumOpens of the statements returns true and its argument reads as it did: no condition. -/
import Derived.Test.YtekhjljlhoeknaaRopen
import Derived.Test.YtekhjljlhoeknaaRows
import Derived.WalkKit
import Derived.ProofKit
import Derived.OpenShut
import Derived.ShutString
import Derived.ChangeOld
import Derived.Below
namespace Go.Proofs.Ytekhjljlhoeknaa.sumOpens
open Go.ChangeShapes Go.WideShapes Go.ChangeAt Go.RowKit
open Go.ChangeMaps (open_string shut_string)
set_option linter.unusedVariables false

theorem own : ownKnob Try.prog.godebug = none := by kernel_rfl
theorem laidOut : laidOutB Try.prog = true := by kernel_rfl

/-- WHAT THE WALK IS TOLD OF A SLICE OF INTEGERS THAT CAME IN: it is nil; or it leads to a row of 'cap' cells, the numbers 'zs' (the first 'len' are its elements, the rest its spare room), each fitting its kind. -/
def IsRow (k : IntKind) (w : World) (a : Option Addr) (len cap : Nat) (zs : List Int) : Prop :=
  (a = none ∧ len = 0 ∧ cap = 0 ∧ zs = []) ∨
  ∃ x, a = some x ∧ len ≤ cap ∧ cap ≤ maxLen ∧ zs.length = cap ∧ (∀ i, i < zs.length → w.cell? (x.add i) = some (.int k (zs.getD i 0))) ∧ ∀ n ∈ zs, (Lit.int k n).wf = true

theorem row_bytes {w : World} {a : Option Addr} {len cap : Nat} {zs : List Int} (h : IsRow .u8 w a len cap zs) :
    ∃ ys : List Int, ys.length = len ∧ BV w a ys ∧ (a = none → cap = 0) ∧ len ≤ cap ∧ len ≤ 9223372036854775807 := by
  rcases h with ⟨rfl, rfl, rfl, rfl⟩ | ⟨x, rfl, hl, hm, hz, hcell, hwz⟩
  · exact ⟨[], rfl, ⟨AllB.nil, .inl rfl⟩, fun _ => rfl, Nat.le_refl _, by decide⟩
  · refine ⟨zs.take len, by simp; omega, ⟨?_, ?_⟩, (fun h => by cases h), hl, by unfold maxLen at hm; omega⟩
    · intro z hz'
      have := bounds_u8 (hwz z (List.mem_of_mem_take hz'))
      omega
    · by_cases h0 : len = 0
      · left; simp [h0]
      · right
        obtain ⟨b, off, spot⟩ := x
        have hc := hcell 0 (by omega)
        have hspot : spot = none := by simpa [Addr.add] using World.cell?_spot hc
        subst hspot
        refine ⟨b, off, rfl, ?_, ?_⟩
        · have := World.block_lt_of_cell? _ _ hc
          simpa [Addr.add] using this
        · intro i hi
          rw [List.length_take] at hi
          have := hcell i (by omega)
          rw [add_plain] at this
          rw [this, List.getD_eq_getElem?_getD, List.getD_eq_getElem?_getD, List.getElem?_take, if_pos (by omega)]

set_option maxHeartbeats 800000 in
theorem walk_long (a : Option Addr) (len cap : Nat) (w : World) (h : 3000 < len) :
    Calls Try.prog 4 #[.slice a len cap] w fun e w' => e = .returned (.bool true) ∧ Below w.heap.size w w' := by
  have HA := awake_any w
  go_enter Try.func4, Try.ntmps4
  go_wp2_with (go_at_call 8; refine HA.mono ?_; rintro e w1 ⟨rfl, hb⟩; clear HA)
  go_ret
  exact ⟨rfl, hb⟩
theorem awk (w wx : World) (hx : Below w.heap.size w wx) : Calls Try.prog 8 #[] wx fun e w' => e = .returned (.bool true) ∧ Below w.heap.size w w' := by
  refine (awake_any wx).mono ?_
  rintro e w' ⟨rfl, hb⟩
  exact ⟨rfl, hx.trans (hb.mono hx.size)⟩
set_option maxHeartbeats 1600000 in
theorem walk_short (a : Option Addr) (cap : Nat) (zs : List Int) (w : World) (h : zs.length ≤ 3000) (hbv : BV w a zs) (hn : a = none → cap = 0) (hlc : zs.length ≤ cap) :
    Calls Try.prog 4 #[.slice a zs.length cap] w fun e w' => e = .returned (.bool true) ∧ Below w.heap.size w w' := by
  have hz := hbv.1
  have ho := openL_all hz
  have H1 := open_any a cap zs w hbv (by omega) hlc
  have H2 : Hid (∀ wx, Below w.heap.size w wx → _) := fun wx hx => ropen_any a cap zs wx (hbv.below hx) (by omega) hlc
  have H3 : Hid (∀ wx, Below w.heap.size w wx → Calls Try.prog 14 #[.slice a zs.length cap] wx fun e w' => ∃ v, e = .returned v ∧ (∀ w2, Below w'.heap.size w' w2 → (convert 22 9 v).run Try.prog w2 = .ok (.string (strOfNums (zs ++ dig (more 0 zs) 4))) w2) ∧ Below wx.heap.size wx w' ∧ Below w.heap.size w w') := by
    intro wx hx
    refine (seal_any a cap zs wx (hbv.below hx) (by omega) hn).mono ?_
    rintro e w' ⟨v, rfl, ho, hb⟩
    exact ⟨v, rfl, fun w2 h2 => conv_own (ho.below h2) (seal_all hz), hb, hx.trans (hb.mono hx.size)⟩
  have H4 : Hid (∀ wx, Below w.heap.size w wx → Calls Try.prog 15 #[.slice a zs.length cap] wx fun e w' => ∃ v, e = .returned v ∧ (convert 22 9 v).run Try.prog w' = .ok (.string (strOfNums (zs ++ dig (more 0 zs) 4))) w' ∧ Below wx.heap.size wx w') := by
    intro wx hx
    refine (rseal_any a cap zs wx (hbv.below hx) (by omega) hn).mono ?_
    rintro e w' ⟨v, rfl, ho, hb⟩
    exact ⟨v, rfl, conv_own ho (seal_all hz), hb⟩
  generalize strOfNums (zs ++ dig (more 0 zs) 4) = st at *
  go_enter Try.func4, Try.ntmps4
  go_wp2_with fail
  refine H1.mono ?_
  rintro e w1 ⟨v1, rfl, ho1, hb1⟩
  clear H1
  go_wp2_with fail
  refine (H2.out w1 hb1).mono ?_
  rintro e w2 ⟨v2, rfl, ho2, hb2⟩
  have SL : Hid (∀ w', Below w2.heap.size w2 w' → Below w2.heap.size w2 w' ∧ (convert 22 9 v1).run Try.prog w' = .ok (.string (strOfNums (openL zs))) w' ∧ (convert 22 9 v2).run Try.prog w' = .ok (.string (strOfNums (openL zs))) w') := by
    intro w' hw'
    exact ⟨hw', conv_own ((ho1.below hb2).below hw') ho, conv_own (ho2.below hw') ho⟩
  have BW : Below w.heap.size w w2 := hb1.trans (hb2.mono hb1.size)
  have Q3 : Hid (Calls Try.prog 14 #[.slice a zs.length cap] w2.drew fun e w' => ∃ v, e = .returned v ∧ (∀ w3, Below w'.heap.size w' w3 → (convert 22 9 v).run Try.prog w3 = .ok (.string st) w3) ∧ Below w2.heap.size w2 w') := by
    refine (H3.out _ BW.drew).mono ?_
    rintro e w' ⟨v, rfl, s, hb, _⟩
    exact ⟨v, rfl, s, (Below.refl _ _).drew.trans hb⟩
  have Q4 : Hid (∀ wx, Below w2.heap.size w2 wx → Calls Try.prog 15 #[.slice a zs.length cap] wx fun e w' => ∃ v, e = .returned v ∧ (convert 22 9 v).run Try.prog w' = .ok (.string st) w' ∧ Below wx.heap.size wx w' ∧ Below w2.heap.size w2 w') := by
    intro wx hx
    refine (H4.out _ (BW.trans (hx.mono BW.size))).mono ?_
    rintro e w' ⟨v, rfl, s, hb⟩
    exact ⟨v, rfl, s, hb, hx.trans (hb.mono hx.size)⟩
  have d0 : (openE zs == openE zs) = true := by simp
  generalize strOfNums (openL zs) = so at *
  generalize openE zs = E at *
  clear H2 H3 H4 ho1 ho2 hb1 hb2 hbv hz ho
  go_wp2_with fail
  go_region_held (fun w' => Below w2.heap.size w2 w' ∧ (convert 22 9 v1).run Try.prog w' = .ok (.string so) w' ∧ (convert 22 9 v2).run Try.prog w' = .ok (.string so) w') (first | exact SL.out _ (Below.refl _ _).drew | exact SL.out _ hb5 | exact SL.out _ hb4 | exact SL.out _ hb3) (first | (go_at_call 14; refine Q3.out.mono ?_; rintro e w3 ⟨v3, rfl, s3, hb3⟩; have s30 := s3 _ (Below.refl _ _)) | (go_at_call 15; refine (Q4.out _ hb3).mono ?_; rintro e w4 ⟨v4, rfl, s4, hb34, hb4⟩; have s31 := s3 _ hb34; clear s3) | (go_at_call 8; refine (awk w2 _ hb4).mono ?_; rintro e w5 ⟨rfl, hb5⟩))
  all_goals (go_wp2; go_ret; exact ⟨rfl, BW.trans (hb5.mono BW.size)⟩)
theorem walk (a0 : Option Addr) (len0 cap0 : Nat) (z0 : List Int) (w : World) (w0 : IsRow .u8 w a0 len0 cap0 z0) :
    Calls Try.prog 4 #[.slice a0 len0 cap0] w fun e w' => e = .returned (.bool true) ∧ Below w.heap.size w w' := by
  obtain ⟨zs, rfl, hv, hn, hlc, hm⟩ := row_bytes w0
  clear w0
  by_cases h : 3000 < zs.length
  · exact walk_long a0 zs.length cap0 w h
  · exact walk_short a0 cap0 zs w (by omega) hv hn hlc

set_option maxRecDepth 100000 in
theorem lifted (os : Os) (started : os.Started) (H : Type) (enc : TypeId × Value → H) :
    ReturnsInHanded {} Try.checked os 4 .any (Rows.sumOpensSpec.pre6 enc Try.prog Try.f4 Rows.sumOpensRow.domain false) (Rows.sumOpensSpec.post enc Try.prog Try.f4 false true false false) := by
  refine returnsInHanded_of_change (C := Try.checked) own started (by kernel_rfl) Try.func4
    (ChangeSpec.witness6 (enc := enc) (C := Try.checked) false ⟨#[], #[.slice none 0 0], []⟩ 8 (by kernel_rfl) (by kernel_rfl) (by kernel_rfl) (by kernel_rfl)) ?_
  intro W base args ds gs before hval0 hW hcnd _
  have hval : ∀ (j : Nat) t v, Try.f4.params[j]? = some t → args[j]? = some v → Value.okWide Try.prog W .any base t v := hval0
  have hW' := hW
  obtain ⟨p, q, hA0, hV, rfl, hfz, hnd⟩ := hW
  have hA : DataW.TrodAll enc Try.prog W 0 (fun _ => true) true Try.f4.params.toList args.toList ds p := hA0
  rw [Try.params4] at hA hval
  obtain ⟨v0, vs0, d0, ds0, p0, q0, hargs, rfl, rfl, h0, r0⟩ := trodAll_cons hA
  obtain ⟨rfl, rfl, rfl⟩ := trodAll_nil r0
  obtain rfl : args = #[v0] := by cases args; simp_all
  obtain ⟨rfl, rfl⟩ := trodVars_none hV
  obtain ⟨a0, len0, cap0, rfl⟩ := okWide_slice Try.underlying22 (hval 0 22 v0 rfl rfl)
  have k0 := h0
  have lt0 : ∀ x ∈ p0, x.block < W.heap.size := by obtain ⟨m, hm⟩ := k0; exact DataW.trod_lt m _ _ _ hm
  obtain ⟨z0, w0⟩ : ∃ zs, IsRow .u8 W a0 len0 cap0 zs := by
    obtain ⟨fuel, hf⟩ := h0
    rcases open_ints Try.underlying22 Try.underlying5 (by kernel_rfl) hf with ⟨hcs, _⟩ | ⟨x, l, c, zs, hcs, _, hl, hm, hz, _, hcell, hwz⟩
    · simp [Value.cells] at hcs
      obtain ⟨rfl, rfl, rfl⟩ := hcs
      exact ⟨[], .inl ⟨rfl, rfl, rfl, rfl⟩⟩
    · simp [Value.cells] at hcs
      obtain ⟨rfl, rfl, rfl⟩ := hcs
      exact ⟨zs, .inr ⟨_, rfl, hl, hm, by simpa using hz, hcell, hwz⟩⟩
  clear hA0 hval0
  refine (walk a0 len0 cap0 z0 W w0).mono fun e W' ⟨he, bel⟩ => ?_
  subst he
  exact ⟨_, rfl, _, _, _, [], _, [], hW', trodAll_mk1 (shut_bool Try.underlying4 _), (trodAll_cons_mk (Below.trod laidOut (by kernel_rfl) (of_decide_eq_true (by kernel_rfl)) k0 bel lt0) trodAll_mk0), rfl, bel.frame _, fun h => by cases h⟩

theorem over : Rows.sumOpensRow.holds Try.pinned (OpenSpec.ofChange Rows.sumOpensSpec) :=
  OpenClaim.holds_of_wide 4 Try.f4 rfl rfl rfl rfl rfl rfl rfl ⟨rfl, rfl, rfl, rfl, rfl⟩ rfl rfl rfl rfl rfl (by kernel_rfl) Try.func4 (by kernel_rfl)
    (of_decide_eq_true (by kernel_rfl)) (by unfold Func.isWrapper; first | (rw [if_pos (by decide +kernel)]; kernel_rfl) | (rw [if_neg (by decide +kernel)]; exact ⟨rfl, rfl⟩))
    (fun os started H enc _ => lifted os started H enc)

end Go.Proofs.Ytekhjljlhoeknaa.sumOpens

namespace Go.Proofs.Ytekhjljlhoeknaa
theorem sumOpens_holds : Rows.SumOpensSaid := sumOpens.over
#print axioms sumOpens_holds
end Go.Proofs.Ytekhjljlhoeknaa
