/- For every token the call LexTexts of the statements returns true and its argument reads as it did: no condition but that the library's listed variables lie as the program's text lays them. -/
import Derived.Test.YtglimefhiggdeaaDoorRows
import Derived.Test.YtglimefhiggdeaaDoorCards
import Derived.Test.YtglimefhiggdeaaDoorTie
import Derived.Test.YtglimefhiggdeaaDoorArg
import Derived.Test.YtglimefhiggdeaaDoorRn
import Derived.Test.YtglimefhiggdeaaDoorAw
import Derived.SevenTiedAt
import Derived.SizedLaws
import Derived.ChangeSame
import Derived.ChangeVars
import Derived.ChangeMaps5
import Derived.JoinedOf
import Derived.JoinedAt
import Derived.RowKit3
import Derived.LaidLaws
import Derived.WalkKit
import Derived.ProofKit
import Derived.OpenShut
import Derived.ShutString
import Derived.ChangeOld
import Derived.Below
namespace Go.Proofs.YtglimefhiggdeaaDoor.lexTexts
open Go.ChangeShapes Go.WideShapes Go.ChangeAt Go.RowKit
set_option linter.unusedVariables false
set_option linter.unusedSimpArgs false
set_option maxRecDepth 20000

set_option maxHeartbeats 1600000 in
theorem walk_a (k0 : Int) (nm0 : ByteArray) (p0 vk0 vn0 : Int) (vs0 : ByteArray) (a0 : Int) (w : World) (hV : Vars w) (w0 : WfT k0 nm0 p0 vk0 vn0 vs0 a0) (h : 1000 < nm0.size) : Calls Tryd.prog 4 #[tq k0 nm0 p0 vk0 vn0 vs0 a0] w fun e w' => e = .returned (.bool true) ∧ Below w.heap.size w w' := by
  have HA := awake_any
  obtain ⟨⟨hk0, hk1⟩, hnm, ⟨hp0, hp1⟩, ⟨hvk0, hvk1⟩, hvs⟩ := w0
  unfold maxLen at hnm hvs
  have h3 : decide ((1000 : Int) < (nm0.size : Int)) = true := by simp; omega
  unfold tq
  go_enter Tryd.func4, Tryd.ntmps4
  go_wp2_with (first | (go_at_call 8; refine (HA _ (hV.below (bxn _ _))).mono ?_; rintro e wz ⟨rfl, bz⟩; clear HA))
  go_ret
  exact ⟨rfl, bt (bxn _ _) bz⟩
set_option maxHeartbeats 1600000 in
theorem walk_b (k0 : Int) (nm0 : ByteArray) (p0 vk0 vn0 : Int) (vs0 : ByteArray) (a0 : Int) (w : World) (hV : Vars w) (w0 : WfT k0 nm0 p0 vk0 vn0 vs0 a0) (h : ¬ 1000 < nm0.size) (h2 : 1000 < vs0.size) : Calls Tryd.prog 4 #[tq k0 nm0 p0 vk0 vn0 vs0 a0] w fun e w' => e = .returned (.bool true) ∧ Below w.heap.size w w' := by
  have HA := awake_any
  obtain ⟨⟨hk0, hk1⟩, hnm, ⟨hp0, hp1⟩, ⟨hvk0, hvk1⟩, hvs⟩ := w0
  unfold maxLen at hnm hvs
  have h3 : decide ((1000 : Int) < (nm0.size : Int)) = false := by simp; omega
  have h4 : decide ((1000 : Int) < (vs0.size : Int)) = true := by simp; omega
  unfold tq
  go_enter Tryd.func4, Tryd.ntmps4
  go_wp2_with (first | (go_at_call 8; refine (HA _ (hV.below (bxn _ _))).mono ?_; rintro e wz ⟨rfl, bz⟩; clear HA))
  go_ret
  exact ⟨rfl, bt (bxn _ _) bz⟩
set_option maxHeartbeats 8000000 in
theorem walk_d (k0 : Int) (nm0 : ByteArray) (p0 vk0 vn0 : Int) (vs0 : ByteArray) (a0 : Int) (w : World) (hV : Vars w) (w0 : WfT k0 nm0 p0 vk0 vn0 vs0 a0) (h : ¬ 1000 < nm0.size) (h2 : ¬ 1000 < vs0.size) : Calls Tryd.prog 4 #[tq k0 nm0 p0 vk0 vn0 vs0 a0] w fun e w' => e = .returned (.bool true) ∧ Below w.heap.size w w' := by
  have HA := awake_any
  obtain ⟨⟨hk0, hk1⟩, hnm, ⟨hp0, hp1⟩, ⟨hvk0, hvk1⟩, hvs⟩ := w0
  unfold maxLen at hnm hvs
  have h3 : decide ((1000 : Int) < (nm0.size : Int)) = false := by simp; omega
  have h4 : decide ((1000 : Int) < (vs0.size : Int)) = false := by simp; omega
  have CT : ∀ W, Vars W → Calls Tryd.prog 11 #[.agg #[.int .u8 k0, .string nm0, .int .u8 p0, .int .u8 vk0, .int .i64 vn0, .string vs0, .int .i64 a0]] W fun e w' => e = .returned (.string (ttS k0 nm0 p0 vk0 vn0 vs0)) ∧ Below W.heap.size W w' := fun W hv => ltext_any k0 nm0 p0 vk0 vn0 vs0 a0 W hk0 hk1 (by omega) hvk0 hvk1 (by omega) hv
  have CU : ∀ W, Calls Tryd.prog 12 #[.agg #[.int .u8 k0, .string nm0, .int .u8 p0, .int .u8 vk0, .int .i64 vn0, .string vs0, .int .i64 a0]] W fun e w' => e = .returned (.string (ttS k0 nm0 p0 vk0 vn0 vs0)) ∧ Below W.heap.size W w' := fun W => rltext_any k0 nm0 p0 vk0 vn0 vs0 a0 W hk0 hk1 (by omega) hvk0 hvk1 (by omega)
  generalize ttS k0 nm0 p0 vk0 vn0 vs0 = tx at *
  unfold tq
  go_enter Tryd.func4, Tryd.ntmps4
  go_wp2_with fail
  obtain ⟨W0, hW0⟩ : ∃ W0, W0 = w.alloc (.cells #[.int .u8 k0, .string nm0, .int .u8 p0, .int .u8 vk0, .int .i64 vn0, .string vs0, .int .i64 a0] 33) := ⟨_, rfl⟩
  have HB0 : Hid (Below w.heap.size w W0) := by rw [hW0]; exact bxn _ _
  have SL : Hid (∀ W, Below W0.heap.size W0 W → W.cell? ⟨w.heap.size, 0, none⟩ = some (.int .u8 k0) ∧ W.cell? ⟨w.heap.size, 1, none⟩ = some (.string nm0) ∧ W.cell? ⟨w.heap.size, 2, none⟩ = some (.int .u8 p0) ∧ W.cell? ⟨w.heap.size, 3, none⟩ = some (.int .u8 vk0) ∧ W.cell? ⟨w.heap.size, 4, none⟩ = some (.int .i64 vn0) ∧ W.cell? ⟨w.heap.size, 5, none⟩ = some (.string vs0) ∧ W.cell? ⟨w.heap.size, 6, none⟩ = some (.int .i64 a0)) := fun W hW => by
    have hlt : w.heap.size < W0.heap.size := by rw [hW0]; simp
    refine ⟨?_, ?_, ?_, ?_, ?_, ?_, ?_⟩
    all_goals (rw [hW.cell hlt, hW0]; go_simp)
  have HV : Hid (∀ W, Below W0.heap.size W0 W → Vars W) := fun W hW => (hV.below HB0.out).below hW
  rw [← hW0]
  clear hW0 hV
  refine wp_region_noPanic ?_
  refine name_ops ?_
  intro O QQ HO HQ
  refine wp_region_held_drew (S := fun W => Below W0.heap.size W0 W) (by kernel_rfl) (Below.refl _ _).drew (fun hS => ?_)
  rw [show O.size = 9 by rw [HO.out]; rfl]
  refine wpAnyH_take (i := 0) (v := .agg #[.int .u8 k0, .string nm0, .int .u8 p0, .int .u8 vk0, .int .i64 vn0, .string vs0, .int .i64 a0]) (by rw [HO.out]; simp only [List.getElem?_toArray, List.getElem?_cons_succ, List.getElem?_cons_zero]; rfl) (by rw [HO.out]; kernel_rfl) (by rw [HO.out]; kernel_rfl) (by rw [HO.out]; kernel_rfl) (by rw [HQ.out]; exact fun _ _ _ h => h) (Or.inl ⟨by first | rfl | (rw [HO.out]; kernel_rfl), ?_⟩) hS ?_
  · intro w' hSw
    obtain ⟨q0, q1, q2, q3, q4, q5, q6⟩ := SL.out _ hSw
    go_simp
  try simp only [Act.put, List.setIfInBounds_toArray, List.set_cons_zero, List.set_cons_succ]
  refine wpAnyH_take (i := 2) (v := .agg #[.int .u8 k0, .string nm0, .int .u8 p0, .int .u8 vk0, .int .i64 vn0, .string vs0, .int .i64 a0]) (by rw [HO.out]; simp only [List.getElem?_toArray, List.getElem?_cons_succ, List.getElem?_cons_zero]; rfl) (by rw [HO.out]; kernel_rfl) (by rw [HO.out]; kernel_rfl) (by rw [HO.out]; kernel_rfl) (by rw [HQ.out]; exact fun _ _ _ h => h) (Or.inl ⟨by first | rfl | (rw [HO.out]; kernel_rfl), ?_⟩) hS ?_
  · intro w' hSw
    obtain ⟨q0, q1, q2, q3, q4, q5, q6⟩ := SL.out _ hSw
    go_simp
  try simp only [Act.put, List.setIfInBounds_toArray, List.set_cons_zero, List.set_cons_succ]
  refine wpAnyH_one (i := 1) (x := 16) (R := fun v _ => v = .string tx) (by rw [HO.out]; simp only [List.getElem?_toArray, List.getElem?_cons_succ, List.getElem?_cons_zero]; rfl) (by rw [HO.out]; kernel_rfl) hS ?_ ?_
  · intro K hK
    simp only [Act.put, List.setIfInBounds_toArray, List.set_cons_zero, List.set_cons_succ] at hK
    unfold Steps
    rw [if_pos (by rw [HO.out]; kernel_rfl)]
    go_simp
    refine (CT _ (HV.out _ hS)).mono ?_
    rintro e w9 ⟨rfl, hb9⟩
    exact hK _ _ rfl hb9
  rintro v9 w9 hv9 hb9 hS9
  obtain rfl := hv9
  clear hb9
  replace hS := hS9
  clear hS9
  try simp only [Act.put, List.setIfInBounds_toArray, List.set_cons_zero, List.set_cons_succ]
  refine wpAnyH_one (i := 3) (x := 18) (R := fun v _ => v = .string tx) (by rw [HO.out]; simp only [List.getElem?_toArray, List.getElem?_cons_succ, List.getElem?_cons_zero]; rfl) (by rw [HO.out]; kernel_rfl) hS ?_ ?_
  · intro K hK
    simp only [Act.put, List.setIfInBounds_toArray, List.set_cons_zero, List.set_cons_succ] at hK
    unfold Steps
    rw [if_pos (by rw [HO.out]; kernel_rfl)]
    go_simp
    refine (CU _).mono ?_
    rintro e w9 ⟨rfl, hb9⟩
    exact hK _ _ rfl hb9
  rintro v9 w9 hv9 hb9 hS9
  obtain rfl := hv9
  clear hb9
  replace hS := hS9
  clear hS9
  try simp only [Act.put, List.setIfInBounds_toArray, List.set_cons_zero, List.set_cons_succ]
  refine wpAnyH_take (i := 4) (v := .bool true) (by rw [HO.out]; simp only [List.getElem?_toArray, List.getElem?_cons_succ, List.getElem?_cons_zero]; rfl) (by rw [HO.out]; kernel_rfl) (by rw [HO.out]; kernel_rfl) (by rw [HO.out]; kernel_rfl) (by rw [HQ.out]; exact fun _ _ _ h => h) (Or.inl ⟨by first | rfl | (rw [HO.out]; kernel_rfl), ?_⟩) hS ?_
  · intro w' hSw
    go_simp
  try simp only [Act.put, List.setIfInBounds_toArray, List.set_cons_zero, List.set_cons_succ]
  refine wpAnyH_take (i := 5) (v := .bool true) (by rw [HO.out]; simp only [List.getElem?_toArray, List.getElem?_cons_succ, List.getElem?_cons_zero]; rfl) (by rw [HO.out]; kernel_rfl) (by rw [HO.out]; kernel_rfl) (by rw [HO.out]; kernel_rfl) (by rw [HQ.out]; exact fun _ _ _ h => h) (Or.inl ⟨by first | rfl | (rw [HO.out]; kernel_rfl), ?_⟩) hS ?_
  · intro w' hSw
    go_simp
  try simp only [Act.put, List.setIfInBounds_toArray, List.set_cons_zero, List.set_cons_succ]
  refine wpAnyH_one (i := 6) (x := 21) (R := fun v _ => v = .bool true) (by rw [HO.out]; simp only [List.getElem?_toArray, List.getElem?_cons_succ, List.getElem?_cons_zero]; rfl) (by rw [HO.out]; kernel_rfl) hS ?_ ?_
  · intro K hK
    simp only [Act.put, List.setIfInBounds_toArray, List.set_cons_zero, List.set_cons_succ] at hK
    unfold Steps
    rw [if_pos (by rw [HO.out]; kernel_rfl)]
    go_simp
    refine (HA _ (HV.out _ hS)).mono ?_
    rintro e w9 ⟨rfl, hb9⟩
    exact hK _ _ rfl hb9
  rintro v9 w9 hv9 hb9 hS9
  obtain rfl := hv9
  clear hb9
  replace hS := hS9
  clear hS9
  try simp only [Act.put, List.setIfInBounds_toArray, List.set_cons_zero, List.set_cons_succ]
  refine wpAnyH_take (i := 7) (v := .bool true) (by rw [HO.out]; simp only [List.getElem?_toArray, List.getElem?_cons_succ, List.getElem?_cons_zero]; rfl) (by rw [HO.out]; kernel_rfl) (by rw [HO.out]; kernel_rfl) (by rw [HO.out]; kernel_rfl) (by rw [HQ.out]; exact fun _ _ _ h => h) (Or.inl ⟨by first | rfl | (rw [HO.out]; kernel_rfl), ?_⟩) hS ?_
  · intro w' hSw
    go_simp
  try simp only [Act.put, List.setIfInBounds_toArray, List.set_cons_zero, List.set_cons_succ]
  refine wpAnyH_take (i := 8) (v := .bool true) (by rw [HO.out]; simp only [List.getElem?_toArray, List.getElem?_cons_succ, List.getElem?_cons_zero]; rfl) (by rw [HO.out]; kernel_rfl) (by rw [HO.out]; kernel_rfl) (by rw [HO.out]; kernel_rfl) (by rw [HQ.out]; exact fun _ _ _ h => h) (Or.inl ⟨by first | rfl | (rw [HO.out]; kernel_rfl), ?_⟩) hS ?_
  · intro w' hSw
    go_simp
  try simp only [Act.put, List.setIfInBounds_toArray, List.set_cons_zero, List.set_cons_succ]
  refine wpAnyH_done (by rw [HO.out]; kernel_rfl) ?_ _
  rw [HQ.out]
  refine NoPanic.normal ?_
  go_wp2
  go_ret
  exact ⟨rfl, bt HB0.out hS⟩
theorem walk (k0 : Int) (nm0 : ByteArray) (p0 vk0 vn0 : Int) (vs0 : ByteArray) (a0 : Int) (w : World) (hV : Vars w) (w0 : WfT k0 nm0 p0 vk0 vn0 vs0 a0) : Calls Tryd.prog 4 #[tq k0 nm0 p0 vk0 vn0 vs0 a0] w fun e w' => e = .returned (.bool true) ∧ Below w.heap.size w w' := by
  by_cases h : 1000 < nm0.size
  · exact walk_a k0 nm0 p0 vk0 vn0 vs0 a0 w hV w0 h
  · by_cases h2 : 1000 < vs0.size
    · exact walk_b k0 nm0 p0 vk0 vn0 vs0 a0 w hV w0 h h2
    · exact walk_d k0 nm0 p0 vk0 vn0 vs0 a0 w hV w0 h h2
set_option maxRecDepth 100000 in
theorem lifted (os : Os) (started : os.Started) (H : Type) (enc : TypeId × Value → H) :
    ReturnsInHanded {} Tryd.checked os 4 .any (fun w args => (Rows.lexTextsSpec.pre enc Tryd.prog Tryd.f4 Rows.lexTextsRow.domain false w args ∧ laidMet Tryd.prog laids w) ∧ sizedMet enc Tryd.prog Tryd.f4 (OpenSpec.ofChange Rows.lexTextsSpec) false w args)
      (Rows.lexTextsSpec.post enc Tryd.prog Tryd.f4 false true false false) := by
  refine returnsInHanded_of_change_and (C := Tryd.checked) (X := fun w _ => laidMet Tryd.prog laids w) (fun _ _ _ hh h => h.of_heap hh) own started (by kernel_rfl) Tryd.func4
    (ChangeSpec.witness_at (enc := enc) (C := Tryd.checked) (os := os) (X := fun w _ => laidMet Tryd.prog laids w) false (laidWorld os) #[.agg #[.int .u8 0, .string ByteArray.empty, .int .u8 0, .int .u8 0, .int .i64 0, .string ByteArray.empty, .int .i64 0]] 8 rfl (by kernel_rfl) (by kernel_rfl) (by kernel_rfl) (by kernel_rfl) (by kernel_rfl) (laidWorld_met os _)) ?_
  intro W base args ds gs before hval0 hW _ hsz0 hL _
  have hval : ∀ (j : Nat) t v, Tryd.f4.params[j]? = some t → args[j]? = some v → Value.okWide Tryd.prog W .any base t v := hval0
  have hW' := hW
  obtain ⟨p, q, hA0, hV, rfl, hfz, hnd⟩ := hW
  have hA : DataW.TrodAll enc Tryd.prog W 0 (fun _ => true) true Tryd.f4.params.toList args.toList ds p := hA0
  rw [Tryd.params4] at hA hval
  have hVars := vars_of hL
  obtain ⟨v0, vs0, d'0, ds0, q0, r'0, hargs, rfl, rfl, h0, r0⟩ := trodAll_cons hA
  obtain ⟨rfl, rfl, rfl⟩ := trodAll_nil r0
  obtain rfl : args = #[v0] := by cases args; simp_all
  obtain ⟨rfl, rfl⟩ := trodVars_none hV
  have k0' := h0
  have lt0 : ∀ x ∈ q0, x.block < W.heap.size := by obtain ⟨m, hm⟩ := k0'; exact DataW.trod_lt m _ _ _ hm
  obtain ⟨k0, nm0, p0, vk0, vn0, vs0, a0, rfl, w0⟩ := open_t (hval 0 33 v0 rfl rfl) h0
  clear hA0 hval0
  refine (walk k0 nm0 p0 vk0 vn0 vs0 a0 W hVars w0).mono fun e W' ⟨he, bel⟩ => ?_
  subst he
  exact ⟨_, rfl, _, _, _, [], _, [], hW', trodAll_mk1 (shut_bool Tryd.underlying4 _), (trodAll_cons_mk (Below.trod laidOut (by kernel_rfl) (of_decide_eq_true (by kernel_rfl)) k0' bel lt0) trodAll_mk0), rfl, bel.frame _, fun h => by cases h⟩

theorem over : Rows.lexTextsRow.holds Tryd.pinned (OpenSpec.ofChange Rows.lexTextsSpec) :=
  OpenClaim.holds_of_wide 4 Tryd.f4 rfl rfl rfl rfl rfl rfl rfl ⟨rfl, rfl, rfl, rfl, rfl⟩ rfl rfl rfl rfl rfl (by kernel_rfl) Tryd.func4 (by kernel_rfl)
    (of_decide_eq_true (by kernel_rfl)) (by unfold Func.isWrapper; first | (rw [if_pos (by decide +kernel)]; kernel_rfl) | (rw [if_neg (by decide +kernel)]; exact ⟨rfl, rfl⟩))
    (fun os started H enc _ => lifted os started H enc)
theorem stand (j : Nat) (t : TypeId) (ht : Tryd.f4.params[j]? = some t) : Tryd.prog.wantsStandIn t = false := by
  rw [Tryd.params4] at ht
  rcases j with _ | j
  · obtain rfl : 33 = t := by simpa using ht
    kernel_rfl
  simp at ht
end Go.Proofs.YtglimefhiggdeaaDoor.lexTexts

namespace Go.Proofs.YtglimefhiggdeaaDoor
theorem lexTexts_holds : Rows.LexTextsCardSaid :=
  Claim7.holds_tied_plain_at .later [] [.data, .data, .data, .data, .sentinel, .sentinel, .pinned] true (true, "62c4cb96e34a2f4dadd50a21420b8e5883497955c56b2fe545650bb9173c7b78") true
    lexTexts.over (fun _ h => by cases h) (by kernel_rfl) (fun _ h => by cases h) lexTexts_row_tie rfl ⟨rfl, rfl⟩ (by kernel_rfl) rfl
    (fun f fn hf hfn => by
      obtain rfl : f = 4 := Option.some.inj ((show Tryd.prog.funcNamed Rows.lexTextsRow.func = some 4 by kernel_rfl).symm.trans hf) |>.symm
      obtain rfl : fn = Tryd.f4 := (Option.some.inj (Tryd.func4.symm.trans hfn)).symm
      exact ⟨by kernel_rfl, lexTexts.stand⟩)
    (by kernel_rfl)
#print axioms lexTexts_holds
end Go.Proofs.YtglimefhiggdeaaDoor
