/- For all classes, any fact and any text the call FactPuts of the statements returns true and its arguments read as they did: no condition but that the library's listed variables lie as the program's text lays them. -/
import Derived.Test.YtpmhilaochfpaaaDoorV13
import Derived.Test.YtpmhilaochfpaaaDoorV10
import Derived.Test.YtpmhilaochfpaaaDoorV19
import Derived.Test.YtpmhilaochfpaaaDoorV20
import Derived.Test.YtpmhilaochfpaaaDoorV12
import Derived.Test.YtpmhilaochfpaaaDoorRows
import Derived.Test.YtpmhilaochfpaaaDoorCards
import Derived.Test.YtpmhilaochfpaaaDoorTie
import Derived.SevenTiedAt
import Derived.SizedLaws
import Derived.ChangeSame
import Derived.ChangeVars
import Derived.ChangeMaps5
import Derived.JoinedOf
import Derived.JoinedAt
import Derived.RowKit3
import Derived.LaidLaws
import Derived.WalkKit
import Derived.ProofKit
import Derived.OpenShut
import Derived.ShutString
import Derived.ChangeOld
import Derived.Below
namespace Go.Proofs.YtpmhilaochfpaaaDoor.factPuts
open Go.ChangeShapes Go.WideShapes Go.ChangeAt Go.RowKit
set_option linter.unusedVariables false
set_option linter.unusedSimpArgs false
set_option maxRecDepth 20000

set_option maxHeartbeats 16000000 in
theorem core (v : Value) (cls : List ClassD) (f : FactD) (a0 : Option Addr) (c0 : Nat) (s : Str) (w : World) (hV : Vars w) (hc : Row 2 (ReK fun _ _ => True) w (fun _ => True) v cls) (hf : SlW 3 w (fun _ => True) (.slice a0 f.vs.length c0) (f.vs.map clV)) (hfo : f.Ok) (hso : okS s) :
    Calls Tryd.prog 4 #[v, .agg #[.int .i64 f.t, .string (st f.c), .slice a0 f.vs.length c0], .string (st s)] w fun e w' => e = .returned (.bool true) ∧ Below w.heap.size w w' := by
  have hsz := st_size s
  have hkk : (s.length : Int) ≤ 9223372036854775807 := by have : s.length ≤ maxLen := hso; unfold maxLen at this; omega
  have HA : Hid (∀ W, Below w.heap.size w W → Calls Tryd.prog 6 #[] W fun e w' => e = .returned (.bool true) ∧ Below W.heap.size W w') := fun W hb => awake_any W (hV.below hb)
  have C11 : Hid (∀ W, Below w.heap.size w W → Calls Tryd.prog 11 #[v, .agg #[.int .i64 f.t, .string (st f.c), .slice a0 f.vs.length c0], .slice none 0 0] W (SomeL (lightL cls f []) W)) := fun W hb => light_any v _ _ cls f [] W (rowK_keep hc hb) (hf.bl hb) (show SlW 4 W (fun _ => True) (.slice none 0 0) ([].map clB) from ⟨none, 0, rfl, Nat.le_refl _, by decide, .inl rfl⟩)
  have HF : Hid (SlW 3 w (fun _ => True) (.slice a0 f.vs.length c0) (f.vs.map clV)) := hf
  have HC : Hid (Row 2 (ReK fun _ _ => True) w (fun _ => True) v cls) := hc
  have HV : Hid (Vars w) := hV
  have HFO : Hid f.Ok := hfo
  obtain ⟨W0, hW0⟩ : ∃ W0, W0 = w.alloc (.cells #[.int .i64 f.t, .string (st f.c), .slice a0 f.vs.length c0] 36) := ⟨_, rfl⟩
  have HB0 : Hid (Below w.heap.size w W0) := by rw [hW0]; exact bxn _ _
  have SC : Hid (∀ W, Below W0.heap.size W0 W → W.cell? ⟨w.heap.size, 0, none⟩ = some (.int .i64 f.t) ∧ W.cell? ⟨w.heap.size, 1, none⟩ = some (.string (st f.c)) ∧ W.cell? ⟨w.heap.size, 2, none⟩ = some (.slice a0 f.vs.length c0)) := fun W hW => by
    subst hW0
    exact ⟨(hW.cell (p := ⟨w.heap.size, 0, none⟩) (by simp)).trans (by go_simp), (hW.cell (p := ⟨w.heap.size, 1, none⟩) (by simp)).trans (by go_simp), (hW.cell (p := ⟨w.heap.size, 2, none⟩) (by simp)).trans (by go_simp)⟩
  have HLo : Hid (∀ W, Below W0.heap.size W0 W → Below w.heap.size w W) := fun W hW => bt HB0.out hW
  have HBc : Hid (Below W0.heap.size W0 W0) := Below.refl _ _
  obtain ⟨p0, p1, p2⟩ := SC.out W0 HBc.out
  clear hV hc hf hfo hso
  by_cases h300 : 300 < s.length
  · have hl1 : (s.length : Int) > 300 := by omega
    go_enter Tryd.func4, Tryd.ntmps4
    go_wp2_with fail
    rw [← hW0]
    clear hW0
    go_wp2_with (first
      | (go_at_call 11; refine (C11.out _ (HLo.out _ HBc.out)).mono ?_; rintro e wa ⟨z1, rfl, hl1, hb1⟩; have HBc : Hid (Below W0.heap.size W0 wa) := bt HBc.out hb1; clear hl1 hb1)
      | (go_at_call 6; refine (HA.out _ (HLo.out _ HBc.out)).mono ?_; rintro e wz ⟨rfl, bz⟩; have HBz : Hid (Below W0.heap.size W0 wz) := bt HBc.out bz; clear bz))
    all_goals (go_ret; exact ⟨rfl, HLo.out _ HBz.out⟩)
  have hl1 : ¬ (s.length : Int) > 300 := by omega
  go_enter Tryd.func4, Tryd.ntmps4
  go_wp2_with fail
  rw [← hW0]
  clear hW0
  go_wp2_with (first
    | (go_at_call 11; refine (C11.out _ (HLo.out _ HBc.out)).mono ?_; rintro e wa ⟨z1, rfl, hl1, hb1⟩; have HL1 : Hid (z1 = true → lightL cls f []) := hl1; have HBc : Hid (Below W0.heap.size W0 wa) := bt HBc.out hb1; obtain ⟨p0, p1, p2⟩ := SC.out wa HBc.out; clear hl1 hb1)
    | (go_at_call 6; refine (HA.out _ (HLo.out _ HBc.out)).mono ?_; rintro e wz ⟨rfl, bz⟩; have HBz : Hid (Below W0.heap.size W0 wz) := bt HBc.out bz; clear bz))
  all_goals try (go_ret; exact ⟨rfl, HLo.out _ HBz.out⟩)
  all_goals (try obtain rfl : z1 = true := by first | assumption | simp_all)
  all_goals (try simp only [Bool.not_true])
  have HLF : Hid (lightL cls f []) := HL1.out rfl
  have hcN : ∀ y ∈ cls, y.attrs.length ≤ 100 := fun y hy => Nat.le_trans (HLF.out.2.2.2.1 y hy).2.1 (by decide)
  have hcN2 : ∀ y ∈ cls, y.attrs.length ≤ 100000 := fun y hy => Nat.le_trans (hcN y hy) (by decide)
  have hcl : cls.length ≤ 200 := Nat.le_trans HLF.out.1 (by decide)
  have hfl : f.vs.length ≤ 100 := Nat.le_trans HLF.out.2.1.1 (by decide)
  have hfV : ∀ y ∈ f.vs, fV y := fun y hy => fV_of ((HFO.out.2.2 y hy).1) (HLF.out.2.1.2.2 y hy)
  have C12 : Hid (∀ W, Below W0.heap.size W0 W → Calls Tryd.prog 12 #[v, .agg #[.int .i64 f.t, .string (st f.c), .slice a0 f.vs.length c0]] W fun e w' => e = .returned (.tuple #[.string (st (putS cls f)), .int .i64 (putEr cls f)]) ∧ Below W.heap.size W w') := fun W hW => fput_any v _ cls f W (rowK_keep HC.out (HLo.out W hW)) hcN2 hcl (HF.out.bl (HLo.out W hW)) hfl hfV (HV.out.below (HLo.out W hW))
  have C13 : Hid (∀ W, Below W0.heap.size W0 W → Calls Tryd.prog 13 #[v, .agg #[.int .i64 f.t, .string (st f.c), .slice a0 f.vs.length c0]] W fun e w' => e = .returned (.tuple #[.string (st (putS cls f)), .int .i64 (putEr cls f)]) ∧ Below W.heap.size W w') := fun W hW => rfput_any v _ cls f W (rowK_keep HC.out (HLo.out W hW)) hcl (HF.out.bl (HLo.out W hW)) hfl hfV
  obtain ⟨G, E, HG⟩ : ∃ (G : FactD) (E : Int), Hid (∀ W e w', GPf W (getF pvF gvF cls f.t (nb s)) e w' → Below W.heap.size W w' ∧ ∃ xa xc, e = .returned (.tuple #[.agg #[.int .i64 G.t, .string (st G.c), .slice xa G.vs.length xc], .int .i64 E]) ∧ SlW 3 w' (fun _ => True) (.slice xa G.vs.length xc) (G.vs.map clV)) := by
    cases getF pvF gvF cls f.t (nb s) with
    | none => exact ⟨⟨0, [], []⟩, 4, fun W e w' h => ⟨h.1, none, 0, h.2, ⟨none, 0, rfl, Nat.le_refl _, by decide, .inl rfl⟩⟩⟩
    | some g => exact ⟨g, 0, fun W e w' h => by
        obtain ⟨hb, u, rfl, ho⟩ := h
        obtain ⟨ua, uc, rfl⟩ := ho.shape
        have h3 := ho.sl.imp (Q := fun _ => True) fun _ _ _ => trivial
        rw [List.length_map] at h3
        exact ⟨hb, ua, uc, by unfold fB; rw [List.length_map], h3⟩⟩
  have C14 : Hid (∀ W, Below W0.heap.size W0 W → Calls Tryd.prog 14 #[v, .int .i64 f.t, .string (st s)] W fun e w' => Below W.heap.size W w' ∧ ∃ xa xc, e = .returned (.tuple #[.agg #[.int .i64 G.t, .string (st G.c), .slice xa G.vs.length xc], .int .i64 E]) ∧ SlW 3 w' (fun _ => True) (.slice xa G.vs.length xc) (G.vs.map clV)) := fun W hW => (fget_any v cls f.t s W (rowK_keep HC.out (HLo.out W hW)) hcN hcl (HV.out.below (HLo.out W hW)) (by omega)).mono fun e w' h => HG.out W e w' h
  have C15 : Hid (∀ W, Below W0.heap.size W0 W → Calls Tryd.prog 15 #[v, .int .i64 f.t, .string (st s)] W fun e w' => Below W.heap.size W w' ∧ ∃ xa xc, e = .returned (.tuple #[.agg #[.int .i64 G.t, .string (st G.c), .slice xa G.vs.length xc], .int .i64 E]) ∧ SlW 3 w' (fun _ => True) (.slice xa G.vs.length xc) (G.vs.map clV)) := fun W hW => (rfget_any v cls f.t s W (rowK_keep HC.out (HLo.out W hW)) hcN hcl (by omega)).mono fun e w' h => HG.out W e w' h
  clear HG hcN hcN2 hcl hfl hfV HL1 C11
  generalize putS cls f = ps at *
  generalize putEr cls f = pe at *
  go_wp2_with (first
    | (go_at_call 12; refine (C12.out _ HBc.out).mono ?_; rintro e wb ⟨rfl, hbb⟩; have HBc : Hid (Below W0.heap.size W0 wb) := bt HBc.out hbb; obtain ⟨p0, p1, p2⟩ := SC.out wb HBc.out; clear hbb)
    | (go_at_call 13; refine (C13.out _ HBc.out).mono ?_; rintro e wd ⟨rfl, hbb⟩; have HBc : Hid (Below W0.heap.size W0 wd) := bt HBc.out hbb; obtain ⟨p0, p1, p2⟩ := SC.out wd HBc.out; clear hbb)
    | (go_at_call 14; refine (C14.out _ HBc.out).mono ?_; rintro e we ⟨hbb, xa, xc, rfl, hx⟩
       have HBc : Hid (Below W0.heap.size W0 (we.alloc (.cells #[.int .i64 G.t, .string (st G.c), .slice xa G.vs.length xc] 36))) := bt (bt HBc.out hbb) (bxn _ _)
       have HXB : Hid (BoxF3 (we.alloc (.cells #[.int .i64 G.t, .string (st G.c), .slice xa G.vs.length xc] 36)) we.heap.size (.int .i64 G.t) (.string (st G.c)) (.slice xa G.vs.length xc)) := boxf_new we _ _ _ rfl
       have HXS : Hid (SlW 3 (we.alloc (.cells #[.int .i64 G.t, .string (st G.c), .slice xa G.vs.length xc] 36)) (fun _ => True) (.slice xa G.vs.length xc) (G.vs.map clV)) := hx.bl (bxn _ _)
       obtain ⟨p0, p1, p2⟩ := SC.out _ HBc.out; clear hbb hx)
    | (go_at_call 15; refine (C15.out _ HBc.out).mono ?_; rintro e wf ⟨hbb, ya, yc, rfl, hy⟩
       have HBc : Hid (Below W0.heap.size W0 (wf.alloc (.cells #[.int .i64 G.t, .string (st G.c), .slice ya G.vs.length yc] 36))) := bt (bt HBc.out hbb) (bxn _ _)
       have HXB2 := (HXB.out.below hbb HXB.out.cells.2.2).below (bxn wf (.cells #[.int .i64 G.t, .string (st G.c), .slice ya G.vs.length yc] 36)) (Nat.lt_of_lt_of_le HXB.out.cells.2.2 hbb.size)
       obtain ⟨⟨q0, q1, q2⟩, -, hlq⟩ := HXB2.cells
       have HYS : Hid (SlW 3 (wf.alloc (.cells #[.int .i64 G.t, .string (st G.c), .slice ya G.vs.length yc] 36)) (fun _ => True) (.slice ya G.vs.length yc) (G.vs.map clV)) := hy.bl (bxn _ _)
       have HXS2 : Hid (SlW 3 (wf.alloc (.cells #[.int .i64 G.t, .string (st G.c), .slice ya G.vs.length yc] 36)) (fun _ => True) (.slice xa G.vs.length xc) (G.vs.map clV)) := HXS.out.bl (bt hbb (bxn _ _))
       clear hbb hy HXB2)
    | (go_at_call 16; refine (rsame_any G G _ _ _ HXS2.out HYS.out).mono ?_; rintro e wg ⟨rfl, hbb⟩; have HBc : Hid (Below W0.heap.size W0 wg) := bt HBc.out hbb; clear hbb)
    | (go_at_call 6; refine (HA.out _ (HLo.out _ HBc.out)).mono ?_; rintro e wz ⟨rfl, bz⟩; have HBz : Hid (Below W0.heap.size W0 wz) := bt HBc.out bz; clear bz))
  all_goals (go_ret; exact ⟨rfl, HLo.out _ HBz.out⟩)
theorem walk (v0 : Value) (x0 : List ClassD) (cs1 : List Value) (x1 : FactD) (x2 : Str) (w : World) (hV : Vars w) (w0 : Row 2 (ReK fun _ _ => True) w (fun _ => True) v0 x0 ∧ ∀ y ∈ x0, ClassD.Ok y) (w1 : ReF w cs1 x1 ∧ x1.Ok) (w2 : okS x2) : Calls Tryd.prog 4 #[v0, .agg cs1.toArray, .string (st x2)] w fun e w' => e = .returned (.bool true) ∧ Below w.heap.size w w' := by
  obtain ⟨va, e1, h1⟩ := w1.1
  obtain ⟨a0, c0, rfl⟩ := h1.shape
  rw [List.length_map] at *
  subst e1
  exact core v0 x0 x1 a0 c0 x2 w hV w0.1 h1 w1.2 w2
set_option maxRecDepth 100000 in
theorem lifted (os : Os) (started : os.Started) (H : Type) (enc : TypeId × Value → H) :
    ReturnsInHanded {} Tryd.checked os 4 .any (fun w args => (Rows.factPutsSpec.pre enc Tryd.prog Tryd.f4 Rows.factPutsRow.domain false w args ∧ laidMet Tryd.prog laids w) ∧ sizedMet enc Tryd.prog Tryd.f4 (OpenSpec.ofChange Rows.factPutsSpec) false w args)
      (Rows.factPutsSpec.post enc Tryd.prog Tryd.f4 false true false false) := by
  refine returnsInHanded_of_change_and (C := Tryd.checked) (X := fun w _ => laidMet Tryd.prog laids w) (fun _ _ _ hh h => h.of_heap hh) own started (by kernel_rfl) Tryd.func4
    (ChangeSpec.witness_at (enc := enc) (C := Tryd.checked) (os := os) (X := fun w _ => laidMet Tryd.prog laids w) false (laidWorld os) #[.slice none 0 0, .agg #[.int .i64 0, .string ByteArray.empty, .slice none 0 0], .string ByteArray.empty] 8 rfl (by kernel_rfl) (by kernel_rfl) (by kernel_rfl) (by kernel_rfl) (by kernel_rfl) (laidWorld_met os _)) ?_
  intro W base args ds gs before hval0 hW _ hsz0 hL _
  have hval : ∀ (j : Nat) t v, Tryd.f4.params[j]? = some t → args[j]? = some v → Value.okWide Tryd.prog W .any base t v := hval0
  have hW' := hW
  obtain ⟨p, q, hA0, hV, rfl, hfz, hnd⟩ := hW
  have hA : DataW.TrodAll enc Tryd.prog W 0 (fun _ => true) true Tryd.f4.params.toList args.toList ds p := hA0
  rw [Tryd.params4] at hA hval
  have hVars := vars_of hL
  obtain ⟨v0, vs0, d'0, ds0, q0, r'0, hargs, rfl, rfl, h0, r0⟩ := trodAll_cons hA
  obtain ⟨v1, vs1, d'1, ds1, q1, r'1, rfl, rfl, rfl, h1, r1⟩ := trodAll_cons r0
  obtain ⟨v2, vs2, d'2, ds2, q2, r'2, rfl, rfl, rfl, h2, r2⟩ := trodAll_cons r1
  obtain ⟨rfl, rfl, rfl⟩ := trodAll_nil r2
  obtain rfl : args = #[v0, v1, v2] := by cases args; simp_all
  obtain ⟨rfl, rfl⟩ := trodVars_none hV
  have k0' := h0
  have lt0 : ∀ x ∈ q0, x.block < W.heap.size := by obtain ⟨m, hm⟩ := k0'; exact DataW.trod_lt m _ _ _ hm
  obtain ⟨x0, w0⟩ := arg_cls (hval 0 33 v0 rfl rfl) h0
  have k1' := h1
  have lt1 : ∀ x ∈ q1, x.block < W.heap.size := by obtain ⟨m, hm⟩ := k1'; exact DataW.trod_lt m _ _ _ hm
  obtain ⟨cs1, x1, rfl, w1⟩ := arg_fact (hval 1 36 v1 rfl rfl) h1
  obtain ⟨s2, rfl, rfl, rfl, z2⟩ := Go.ChangeMaps.open_string Tryd.underlying9 (hval 2 9 v2 rfl rfl) h2
  obtain ⟨x2, rfl⟩ : ∃ y : Str, s2 = st y := ⟨s2.data.toList, (st_of s2).symm⟩
  have w2 : okS x2 := by unfold okS; rw [← st_size]; exact z2
  clear hA0 hval0
  refine (walk v0 x0 cs1 x1 x2 W hVars w0 w1 w2).mono fun e W' ⟨he, bel⟩ => ?_
  subst he
  exact ⟨_, rfl, _, _, _, [], _, [], hW', trodAll_mk1 (shut_bool Tryd.underlying4 _), (trodAll_cons_mk (Below.trod laidOut (by kernel_rfl) (of_decide_eq_true (by kernel_rfl)) k0' bel lt0) (trodAll_cons_mk (Below.trod laidOut (by kernel_rfl) (of_decide_eq_true (by kernel_rfl)) k1' bel lt1) (trodAll_cons_mk (Go.ChangeMaps.shut_string Tryd.underlying9 z2) trodAll_mk0))), rfl, bel.frame _, fun h => by cases h⟩

theorem over : Rows.factPutsRow.holds Tryd.pinned (OpenSpec.ofChange Rows.factPutsSpec) :=
  OpenClaim.holds_of_wide 4 Tryd.f4 rfl rfl rfl rfl rfl rfl rfl ⟨rfl, rfl, rfl, rfl, rfl⟩ rfl rfl rfl rfl rfl (by kernel_rfl) Tryd.func4 (by kernel_rfl)
    (of_decide_eq_true (by kernel_rfl)) (by unfold Func.isWrapper; first | (rw [if_pos (by decide +kernel)]; kernel_rfl) | (rw [if_neg (by decide +kernel)]; exact ⟨rfl, rfl⟩))
    (fun os started H enc _ => lifted os started H enc)
theorem stand (j : Nat) (t : TypeId) (ht : Tryd.f4.params[j]? = some t) : Tryd.prog.wantsStandIn t = false := by
  rw [Tryd.params4] at ht
  rcases j with _ | j
  · obtain rfl : 33 = t := by simpa using ht
    kernel_rfl
  rcases j with _ | j
  · obtain rfl : 36 = t := by simpa using ht
    kernel_rfl
  rcases j with _ | j
  · obtain rfl : 9 = t := by simpa using ht
    kernel_rfl
  simp at ht
end Go.Proofs.YtpmhilaochfpaaaDoor.factPuts

namespace Go.Proofs.YtpmhilaochfpaaaDoor
theorem factPuts_holds : Rows.FactPutsCardSaid :=
  Claim7.holds_tied_plain_at .later [] [.data, .pinned] true (true, "577d7b892059d4355981c2189e22092bb02f9b333ae6065a85ab26dae50afba3") false
    factPuts.over (fun _ h => by cases h) (by kernel_rfl) (fun _ h => by cases h) factPuts_row_tie rfl ⟨rfl, rfl⟩ (by kernel_rfl) rfl
    (fun f fn hf hfn => by
      obtain rfl : f = 4 := Option.some.inj ((show Tryd.prog.funcNamed Rows.factPutsRow.func = some 4 by kernel_rfl).symm.trans hf) |>.symm
      obtain rfl : fn = Tryd.f4 := (Option.some.inj (Tryd.func4.symm.trans hfn)).symm
      exact ⟨by kernel_rfl, factPuts.stand⟩)
    (by kernel_rfl)
#print axioms factPuts_holds
end Go.Proofs.YtpmhilaochfpaaaDoor
