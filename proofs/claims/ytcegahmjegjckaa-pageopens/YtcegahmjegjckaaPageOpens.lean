/- For all bytes the call PageOpens of the statements returns true and its argument reads as it did: no condition. -/
import Derived.Test.YtcegahmjegjckaaRows
import Derived.Test.YtcegahmjegjckaaArg
import Derived.WalkKit
import Derived.ProofKit
import Derived.OpenShut
import Derived.ShutString
import Derived.ChangeOld
import Derived.Below
namespace Go.Proofs.Ytcegahmjegjckaa.pageOpens
open Go.ChangeShapes Go.WideShapes Go.ChangeAt Go.RowKit
set_option linter.unusedVariables false
set_option linter.unusedSimpArgs false
set_option maxRecDepth 20000

theorem own : ownKnob Try.prog.godebug = none := by kernel_rfl
theorem laidOut : laidOutB Try.prog = true := by kernel_rfl
set_option maxHeartbeats 800000 in
theorem walk_long (a0 : Option Addr) (len0 cap0 : Nat) (y0 : List Int) (w : World) (w0 : y0.length = len0 ∧ BV w a0 y0 ∧ (a0 = none → cap0 = 0) ∧ len0 ≤ cap0 ∧ cap0 ≤ 9223372036854775807) (h : 400 < len0) :
    Calls Try.prog 4 #[.slice a0 len0 cap0] w fun e w' => e = .returned (.bool true) ∧ Below w.heap.size w w' := by
  have HA := awake_any w
  clear w0
  go_enter Try.func4, Try.ntmps4
  go_wp2_with (first | (go_at_call 8; refine HA.mono ?_; rintro e w2 ⟨rfl, hb2⟩; clear HA) | fail)
  go_ret
  exact ⟨rfl, hb2⟩
/-- Bytes of the call's own, so many, wherever they were turned to. -/
def OwnN (w : World) (base : Nat) (v : Value) (n : Nat) : Prop := ∃ zs, AllB zs ∧ zs.length = n ∧ Own w base v zs
theorem OwnN.at {w : World} {base g n c : Nat} (h : OwnN w base (.slice (some ⟨g, 0, none⟩) n c) n) (k : Nat) (hk : k < n) : ∃ z, w.cell? ⟨g, k, none⟩ = some (.int .u8 z) ∧ w.frozen? ⟨g, k, none⟩ = false ∧ 0 ≤ z ∧ z ≤ 255 ∧ ∀ x, 0 ≤ x → x ≤ 255 → OwnN (w.setCell ⟨g, k, none⟩ (.int .u8 x)) base (.slice (some ⟨g, 0, none⟩) n c) n := by
  obtain ⟨zs, hz, rfl, ho⟩ := h
  have hb := byte_at hz k
  refine ⟨zs.getD k 0, ?_, World.ownsRow.frozenAt (g := g) ho k, hb.1, hb.2, fun x h0 h1 => ⟨zs.set k x, ?_, by simp, ?_⟩⟩
  · have hc := World.ownsRow.cellAt (g := g) ho k (by omega)
    rw [hc, List.getElem?_map, List.getElem?_eq_getElem hk, List.getD_eq_getElem?_getD, List.getElem?_eq_getElem hk]
    rfl
  · intro u hu
    rcases List.mem_or_eq_of_mem_set hu with h' | rfl
    · exact hz u h'
    · exact ⟨h0, h1⟩
  · have hs := (World.ownsRow.stored (g := g) ho k (.int .u8 x)).1
    unfold Own
    rw [List.length_set, List.map_set]
    exact hs
set_option maxHeartbeats 1600000 in
theorem walk_short (a0 : Option Addr) (len0 cap0 : Nat) (y0 : List Int) (w : World) (w0 : y0.length = len0 ∧ BV w a0 y0 ∧ (a0 = none → cap0 = 0) ∧ len0 ≤ cap0 ∧ cap0 ≤ 9223372036854775807) (h : ¬ 400 < len0) :
    Calls Try.prog 4 #[.slice a0 len0 cap0] w fun e w' => e = .returned (.bool true) ∧ Below w.heap.size w w' := by
  obtain ⟨rfl, hb, hn, hc, hm⟩ := w0
  have H1 := popen_any a0 cap0 y0 w hb hn (by omega) hc
  have H2 : Hid (∀ W, Below w.heap.size w W → Calls Try.prog 12 #[.slice a0 y0.length cap0] W fun e w' => OpPost W y0 e w') := fun W hW => ropen6_any a0 cap0 y0 W (hb.below hW) hn (by omega) hc hm
  have HBA : Hid (AllB (opB y0)) := opB_all hb.1
  have cw := conv_bv (cap := cap0) hb hn
  have HCW : Hid (∀ W, Below w.heap.size w W → (convert 22 9 (.slice a0 y0.length cap0)).run Try.prog W = .ok (.string (strOfNums y0)) W) := fun W hW => conv_bv (hb.below hW) hn
  have HA := awake_any
  have hl : (y0.length : Int) ≤ 400 := by omega
  have HBL : Hid ((opB y0).length ≤ 400) := by
    show (opB y0).length ≤ 400
    unfold opB
    split
    · unfold rdB; rw [List.length_take, List.length_drop]; omega
    · simp
  unfold OpPost at H1 H2
  generalize opB y0 = ss at *
  generalize opE y0 = se at *
  generalize opK y0 = sk at *
  generalize opI y0 = si at *
  generalize strOfNums y0 = sy at *
  clear hb hn hc hm h
  go_enter Try.func4, Try.ntmps4
  go_wp2_with fail
  refine H1.mono ?_
  rintro e w1 ⟨v1, rfl, o1, b1⟩
  clear H1 cw
  go_wp2_with fail
  refine (H2.out w1 b1).mono ?_
  rintro e w2 ⟨v2, rfl, o2, b2⟩
  clear H2
  have B2 : Hid (Below w.heap.size w w2) := b1.trans (b2.mono b1.size)
  have O1 := o1.below b2
  have c1 := conv_own O1 HBA.out
  have c2 := conv_own o2 HBA.out
  have hss : ∃ a c, v1 = .slice a ss.length c ∧ (a = none → c = 0) := by
    obtain ⟨a, c, e, q1, _, _, _⟩ := O1.slice HBA.out
    exact ⟨a, c, e, q1⟩
  obtain ⟨xa, xc, rfl, xn⟩ := hss
  obtain ⟨n, hn⟩ : ∃ n, n = ss.length := ⟨_, rfl⟩
  have HO1 : Hid (OwnN w2 w.heap.size (.slice xa n xc) n) := by rw [hn]; exact ⟨ss, HBA.out, rfl, O1⟩
  have hn4 : n ≤ 400 := by rw [hn]; exact HBL.out
  rw [← hn] at c1
  rw [← hn]
  clear o1 o2 b1 b2 O1
  generalize strOfNums ss = sx at *
  clear hn HBA HBL
  go_wp2_with fail
  clear c1 c2
  go_loopw [13] (fun iv wr => ∃ k : Nat, k ≤ n ∧ iv = .int .i64 k ∧ Hid (OwnN wr w.heap.size (.slice xa n xc) n) ∧ Hid (Below w.heap.size w wr)) (fun iv _ => n - (intOf iv).toNat)
  case atStart => exact ⟨0, Nat.zero_le _, rfl, HO1.out, B2.out⟩
  case round =>
    obtain ⟨k, hk, rfl, HO, HB⟩ := hrel
    clear HO1 B2
    by_cases hlt : k < n
    · obtain ⟨g, rfl, hgb⟩ : ∃ g, xa = some ⟨g, 0, none⟩ ∧ w.heap.size ≤ g := by
        obtain ⟨zs, hz, hzl, ho⟩ := HO.out
        obtain ⟨g, c, e, _, hg, _⟩ := ho.shape n hzl (by omega)
        obtain ⟨rfl, _, _⟩ := Value.slice.inj e
        exact ⟨g, rfl, hg⟩
      obtain ⟨z, hcz, hfz, z0, z1, HST0⟩ := HO.out.at k hlt
      obtain ⟨x, hx, hx0, hx1⟩ : ∃ x : Int, IntKind.u8.wrap (z + 1) = x ∧ 0 ≤ x ∧ x ≤ 255 := ⟨(z + 1) % 256, rfl, by omega, by omega⟩
      have HST : Hid (OwnN (wr.setCell ⟨g, k, none⟩ (.int .u8 x)) w.heap.size (.slice (some ⟨g, 0, none⟩) n xc) n) := HST0 x hx0 hx1
      have HBN : Hid (Below w.heap.size w (wr.setCell ⟨g, k, none⟩ (.int .u8 x))) := HB.out.setCell (show w.heap.size ≤ (⟨g, k, none⟩ : Addr).block from hgb) _
      have hx' : (z + 1) % 256 = x := hx
      clear HST0 HO HB
      go_wp2_with fail
      go_roundw
      case rel => exact ⟨k + 1, by omega, by go_num, HST.out, HBN.out⟩
      case measure => simp [intOf]; omega
    · have : k = n := by omega
      subst this
      have cw := HCW.out wr HB.out
      have HA2 := HA wr
      clear HCW HO
      go_wp2_with (first | (go_at_call 8; refine HA2.mono ?_; rintro e w3 ⟨rfl, hb3⟩; clear HA2) | fail)
      go_ret
      exact ⟨rfl, HB.out.trans (hb3.mono HB.out.size)⟩
theorem walk (a0 : Option Addr) (len0 cap0 : Nat) (y0 : List Int) (w : World) (w0 : y0.length = len0 ∧ BV w a0 y0 ∧ (a0 = none → cap0 = 0) ∧ len0 ≤ cap0 ∧ cap0 ≤ 9223372036854775807) :
    Calls Try.prog 4 #[.slice a0 len0 cap0] w fun e w' => e = .returned (.bool true) ∧ Below w.heap.size w w' := by
  by_cases h : 400 < len0
  · exact walk_long a0 len0 cap0 y0 w w0 h
  · exact walk_short a0 len0 cap0 y0 w w0 h
set_option maxRecDepth 100000 in
theorem lifted (os : Os) (started : os.Started) (H : Type) (enc : TypeId × Value → H) :
    ReturnsInHanded {} Try.checked os 4 .any (Rows.pageOpensSpec.pre6 enc Try.prog Try.f4 Rows.pageOpensRow.domain false) (Rows.pageOpensSpec.post enc Try.prog Try.f4 false true false false) := by
  refine returnsInHanded_of_change (C := Try.checked) own started (by kernel_rfl) Try.func4
    (ChangeSpec.witness6 (enc := enc) (C := Try.checked) false ⟨#[], #[.slice none 0 0], []⟩ 8 (by kernel_rfl) (by kernel_rfl) (by kernel_rfl) (by kernel_rfl)) ?_
  intro W base args ds gs before hval0 hW hcnd _
  have hval : ∀ (j : Nat) t v, Try.f4.params[j]? = some t → args[j]? = some v → Value.okWide Try.prog W .any base t v := hval0
  have hW' := hW
  obtain ⟨p, q, hA0, hV, rfl, hfz, hnd⟩ := hW
  have hA : DataW.TrodAll enc Try.prog W 0 (fun _ => true) true Try.f4.params.toList args.toList ds p := hA0
  rw [Try.params4] at hA hval
  obtain ⟨v0, vs0, d0, ds0, p0, q0, hargs, rfl, rfl, h0, r0⟩ := trodAll_cons hA
  obtain ⟨rfl, rfl, rfl⟩ := trodAll_nil r0
  obtain rfl : args = #[v0] := by cases args; simp_all
  obtain ⟨rfl, rfl⟩ := trodVars_none hV
  obtain ⟨a0, len0, cap0, rfl⟩ := okWide_slice Try.underlying22 (hval 0 22 v0 rfl rfl)
  have k0 := h0
  have lt0 : ∀ x ∈ p0, x.block < W.heap.size := by obtain ⟨m, hm⟩ := k0; exact DataW.trod_lt m _ _ _ hm
  obtain ⟨y0, w0⟩ : ∃ ys : List Int, ys.length = len0 ∧ BV W a0 ys ∧ (a0 = none → cap0 = 0) ∧ len0 ≤ cap0 ∧ cap0 ≤ 9223372036854775807 := by
    obtain ⟨fuel, hf⟩ := h0
    rcases open_ints Try.underlying22 Try.underlying5 (by kernel_rfl) hf with ⟨hcs, _⟩ | ⟨x, l, c, zs, hcs, _, hl, hm, hz, _, hcell, hwz⟩
    · simp [Value.cells] at hcs
      obtain ⟨rfl, rfl, rfl⟩ := hcs
      exact bytes_of (zs := []) (.inl ⟨rfl, rfl, rfl, rfl⟩)
    · simp [Value.cells] at hcs
      obtain ⟨rfl, rfl, rfl⟩ := hcs
      exact bytes_of (.inr ⟨_, rfl, hl, hm, by simpa using hz, hcell, hwz⟩)
  clear hA0 hval0
  refine (walk a0 len0 cap0 y0 W w0).mono fun e W' ⟨he, bel⟩ => ?_
  subst he
  exact ⟨_, rfl, _, _, _, [], _, [], hW', trodAll_mk1 (shut_bool Try.underlying4 _), (trodAll_cons_mk (Below.trod laidOut (by kernel_rfl) (of_decide_eq_true (by kernel_rfl)) k0 bel lt0) trodAll_mk0), rfl, bel.frame _, fun h => by cases h⟩

theorem over : Rows.pageOpensRow.holds Try.pinned (OpenSpec.ofChange Rows.pageOpensSpec) :=
  OpenClaim.holds_of_wide 4 Try.f4 rfl rfl rfl rfl rfl rfl rfl ⟨rfl, rfl, rfl, rfl, rfl⟩ rfl rfl rfl rfl rfl (by kernel_rfl) Try.func4 (by kernel_rfl)
    (of_decide_eq_true (by kernel_rfl)) (by unfold Func.isWrapper; first | (rw [if_pos (by decide +kernel)]; kernel_rfl) | (rw [if_neg (by decide +kernel)]; exact ⟨rfl, rfl⟩))
    (fun os started H enc _ => lifted os started H enc)
end Go.Proofs.Ytcegahmjegjckaa.pageOpens

namespace Go.Proofs.Ytcegahmjegjckaa
theorem pageOpens_holds : Rows.PageOpensSaid := pageOpens.over
#print axioms pageOpens_holds
end Go.Proofs.Ytcegahmjegjckaa
