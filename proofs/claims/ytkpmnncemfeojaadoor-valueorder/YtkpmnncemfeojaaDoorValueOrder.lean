/- For every two values the call ValueOrder of the statements returns true and its arguments read as they did: no condition but that the library's listed variables lie as the program's text lays them. -/
import Derived.Test.YtkpmnncemfeojaaDoorRows
import Derived.Test.YtkpmnncemfeojaaDoorCards
import Derived.Test.YtkpmnncemfeojaaDoorTie
import Derived.Test.YtkpmnncemfeojaaDoorArg
import Derived.Test.YtkpmnncemfeojaaDoorRn
import Derived.Test.YtkpmnncemfeojaaDoorAw
import Derived.SevenTiedAt
import Derived.SizedLaws
import Derived.ChangeSame
import Derived.ChangeVars
import Derived.ChangeMaps5
import Derived.JoinedOf
import Derived.JoinedAt
import Derived.RowKit3
import Derived.LaidLaws
import Derived.WalkKit
import Derived.ProofKit
import Derived.OpenShut
import Derived.ShutString
import Derived.ChangeOld
import Derived.Below
namespace Go.Proofs.YtkpmnncemfeojaaDoor.valueOrder
open Go.ChangeShapes Go.WideShapes Go.ChangeAt Go.RowKit
set_option linter.unusedVariables false
set_option linter.unusedSimpArgs false
set_option maxRecDepth 20000

set_option maxHeartbeats 8000000 in
theorem ca_true (k0 n0 k1 n1 : Int) (s0 s1 : ByteArray) (w : World) (hV : Vars w) (hk : k0 ≠ 1) (C0 : ∀ W, Calls Tryd.prog 18 #[.int .u8 0, .agg #[.int .u8 k0, .int .i64 n0, .string s0], .agg #[.int .u8 k1, .int .i64 n1, .string s1]] W fun e w' => e = .returned (.bool true) ∧ Below W.heap.size W w') (C1 : ∀ W, Calls Tryd.prog 18 #[.int .u8 1, .agg #[.int .u8 k0, .int .i64 n0, .string s0], .agg #[.int .u8 k1, .int .i64 n1, .string s1]] W fun e w' => e = .returned (.bool false) ∧ Below W.heap.size W w') (C2 : ∀ W, Calls Tryd.prog 18 #[.int .u8 2, .agg #[.int .u8 k0, .int .i64 n0, .string s0], .agg #[.int .u8 k1, .int .i64 n1, .string s1]] W fun e w' => e = .returned (.bool false) ∧ Below W.heap.size W w') (C3 : ∀ W, Calls Tryd.prog 18 #[.int .u8 3, .agg #[.int .u8 k0, .int .i64 n0, .string s0], .agg #[.int .u8 k1, .int .i64 n1, .string s1]] W fun e w' => e = .returned (.bool false) ∧ Below W.heap.size W w') (C4 : ∀ W, Calls Tryd.prog 18 #[.int .u8 4, .agg #[.int .u8 k0, .int .i64 n0, .string s0], .agg #[.int .u8 k1, .int .i64 n1, .string s1]] W fun e w' => e = .returned (.bool false) ∧ Below W.heap.size W w') (C5 : ∀ W, Calls Tryd.prog 18 #[.int .u8 5, .agg #[.int .u8 k0, .int .i64 n0, .string s0], .agg #[.int .u8 k1, .int .i64 n1, .string s1]] W fun e w' => e = .returned (.bool false) ∧ Below W.heap.size W w') (CS : ∀ W, Calls Tryd.prog 18 #[.int .u8 4, .agg #[.int .u8 k1, .int .i64 n1, .string s1], .agg #[.int .u8 k0, .int .i64 n0, .string s0]] W fun e w' => e = .returned (.bool false) ∧ Below W.heap.size W w') : Calls Tryd.prog 7 #[.agg #[.int .u8 k0, .int .i64 n0, .string s0], .agg #[.int .u8 k1, .int .i64 n1, .string s1]] w fun e w' => e = .returned (.bool true) ∧ Below w.heap.size w w' := by
  have HA := awake_any
  have e1 : (k0 != 1) = true := by rw [bne_iff_ne]; exact hk
  clear hk
  obtain ⟨W0, hW0⟩ : ∃ W0, W0 = (w.alloc (.cells #[.int .u8 k0, .int .i64 n0, .string s0] 23)).alloc (.cells #[.int .u8 k1, .int .i64 n1, .string s1] 23) := ⟨_, rfl⟩
  have HB0 : Hid (Below w.heap.size w W0) := by rw [hW0]; exact two_new _ _ _
  have SL : Hid (∀ W, Below W0.heap.size W0 W → (W.cell? ⟨w.heap.size, 0, none⟩ = some (.int .u8 k0) ∧ W.cell? ⟨w.heap.size, 1, none⟩ = some (.int .i64 n0) ∧ W.cell? ⟨w.heap.size, 2, none⟩ = some (.string s0)) ∧ (W.cell? ⟨w.heap.size + 1, 0, none⟩ = some (.int .u8 k1) ∧ W.cell? ⟨w.heap.size + 1, 1, none⟩ = some (.int .i64 n1) ∧ W.cell? ⟨w.heap.size + 1, 2, none⟩ = some (.string s1))) := fun W hW => by
    rw [hW0] at hW
    have b1 := ((Bk.new w k0 n0 s0).below (box1 _ _)).below hW
    have b2 := (Bk.new (w.alloc (.cells #[.int .u8 k0, .int .i64 n0, .string s0] 23)) k1 n1 s1).below hW
    have c2 := b2.cells
    simp at c2
    exact ⟨b1.cells, c2⟩
  have HV : Hid (∀ W, Below W0.heap.size W0 W → Vars W) := fun W hW => (hV.below HB0.out).below hW
  go_enter Tryd.func7, Tryd.ntmps7
  go_wp2_with fail
  rw [← hW0]
  clear hW0 hV
  refine wp_region_noPanic ?_
  refine name_ops ?_
  intro O QQ HO HQ
  refine wp_region_held_drew (S := fun W => Below W0.heap.size W0 W) (by kernel_rfl) (Below.refl _ _).drew (fun hS => ?_)
  rw [show O.size = 12 by rw [HO.out]; rfl]
  refine wpAnyH_take (i := 0) (v := .agg #[.int .u8 k0, .int .i64 n0, .string s0]) (by rw [HO.out]; simp only [List.getElem?_toArray, List.getElem?_cons_succ, List.getElem?_cons_zero]; rfl) (by rw [HO.out]; kernel_rfl) (by rw [HO.out]; kernel_rfl) (by rw [HO.out]; kernel_rfl) (by rw [HQ.out]; exact fun _ _ _ h => h) (Or.inl ⟨by first | rfl | (rw [HO.out]; kernel_rfl), ?_⟩) hS ?_
  · intro w' hSw
    obtain ⟨⟨q1, q2, q3⟩, ⟨q4, q5, q6⟩⟩ := SL.out _ hSw
    go_simp
  try simp only [Act.put, List.setIfInBounds_toArray, List.set_cons_zero, List.set_cons_succ]
  refine wpAnyH_take (i := 1) (v := .agg #[.int .u8 k1, .int .i64 n1, .string s1]) (by rw [HO.out]; simp only [List.getElem?_toArray, List.getElem?_cons_succ, List.getElem?_cons_zero]; rfl) (by rw [HO.out]; kernel_rfl) (by rw [HO.out]; kernel_rfl) (by rw [HO.out]; kernel_rfl) (by rw [HQ.out]; exact fun _ _ _ h => h) (Or.inl ⟨by first | rfl | (rw [HO.out]; kernel_rfl), ?_⟩) hS ?_
  · intro w' hSw
    obtain ⟨⟨q1, q2, q3⟩, ⟨q4, q5, q6⟩⟩ := SL.out _ hSw
    go_simp
  try simp only [Act.put, List.setIfInBounds_toArray, List.set_cons_zero, List.set_cons_succ]
  refine wpAnyH_take (i := 3) (v := .agg #[.int .u8 k0, .int .i64 n0, .string s0]) (by rw [HO.out]; simp only [List.getElem?_toArray, List.getElem?_cons_succ, List.getElem?_cons_zero]; rfl) (by rw [HO.out]; kernel_rfl) (by rw [HO.out]; kernel_rfl) (by rw [HO.out]; kernel_rfl) (by rw [HQ.out]; exact fun _ _ _ h => h) (Or.inl ⟨by first | rfl | (rw [HO.out]; kernel_rfl), ?_⟩) hS ?_
  · intro w' hSw
    obtain ⟨⟨q1, q2, q3⟩, ⟨q4, q5, q6⟩⟩ := SL.out _ hSw
    go_simp
  try simp only [Act.put, List.setIfInBounds_toArray, List.set_cons_zero, List.set_cons_succ]
  refine wpAnyH_take (i := 4) (v := .agg #[.int .u8 k1, .int .i64 n1, .string s1]) (by rw [HO.out]; simp only [List.getElem?_toArray, List.getElem?_cons_succ, List.getElem?_cons_zero]; rfl) (by rw [HO.out]; kernel_rfl) (by rw [HO.out]; kernel_rfl) (by rw [HO.out]; kernel_rfl) (by rw [HQ.out]; exact fun _ _ _ h => h) (Or.inl ⟨by first | rfl | (rw [HO.out]; kernel_rfl), ?_⟩) hS ?_
  · intro w' hSw
    obtain ⟨⟨q1, q2, q3⟩, ⟨q4, q5, q6⟩⟩ := SL.out _ hSw
    go_simp
  try simp only [Act.put, List.setIfInBounds_toArray, List.set_cons_zero, List.set_cons_succ]
  refine wpAnyH_take (i := 6) (v := .agg #[.int .u8 k0, .int .i64 n0, .string s0]) (by rw [HO.out]; simp only [List.getElem?_toArray, List.getElem?_cons_succ, List.getElem?_cons_zero]; rfl) (by rw [HO.out]; kernel_rfl) (by rw [HO.out]; kernel_rfl) (by rw [HO.out]; kernel_rfl) (by rw [HQ.out]; exact fun _ _ _ h => h) (Or.inl ⟨by first | rfl | (rw [HO.out]; kernel_rfl), ?_⟩) hS ?_
  · intro w' hSw
    obtain ⟨⟨q1, q2, q3⟩, ⟨q4, q5, q6⟩⟩ := SL.out _ hSw
    go_simp
  try simp only [Act.put, List.setIfInBounds_toArray, List.set_cons_zero, List.set_cons_succ]
  refine wpAnyH_take (i := 7) (v := .agg #[.int .u8 k1, .int .i64 n1, .string s1]) (by rw [HO.out]; simp only [List.getElem?_toArray, List.getElem?_cons_succ, List.getElem?_cons_zero]; rfl) (by rw [HO.out]; kernel_rfl) (by rw [HO.out]; kernel_rfl) (by rw [HO.out]; kernel_rfl) (by rw [HQ.out]; exact fun _ _ _ h => h) (Or.inl ⟨by first | rfl | (rw [HO.out]; kernel_rfl), ?_⟩) hS ?_
  · intro w' hSw
    obtain ⟨⟨q1, q2, q3⟩, ⟨q4, q5, q6⟩⟩ := SL.out _ hSw
    go_simp
  try simp only [Act.put, List.setIfInBounds_toArray, List.set_cons_zero, List.set_cons_succ]
  refine wpAnyH_one (i := 2) (x := 13) (R := fun v _ => v = .bool true) (by rw [HO.out]; simp only [List.getElem?_toArray, List.getElem?_cons_succ, List.getElem?_cons_zero]; rfl) (by rw [HO.out]; kernel_rfl) hS ?_ ?_
  · intro K hK
    simp only [Act.put, List.setIfInBounds_toArray, List.set_cons_zero, List.set_cons_succ] at hK
    unfold Steps
    rw [if_pos (by rw [HO.out]; kernel_rfl)]
    go_simp
    refine (C0 _).mono ?_
    rintro e w9 ⟨rfl, hb9⟩
    exact hK _ _ rfl hb9
  rintro v9 w9 hv9 hb9 hS9
  obtain rfl := hv9
  clear hb9
  replace hS := hS9
  clear hS9
  try simp only [Act.put, List.setIfInBounds_toArray, List.set_cons_zero, List.set_cons_succ]
  refine wpAnyH_one (i := 5) (x := 16) (R := fun v _ => v = .bool false) (by rw [HO.out]; simp only [List.getElem?_toArray, List.getElem?_cons_succ, List.getElem?_cons_zero]; rfl) (by rw [HO.out]; kernel_rfl) hS ?_ ?_
  · intro K hK
    simp only [Act.put, List.setIfInBounds_toArray, List.set_cons_zero, List.set_cons_succ] at hK
    unfold Steps
    rw [if_pos (by rw [HO.out]; kernel_rfl)]
    go_simp
    refine (C2 _).mono ?_
    rintro e w9 ⟨rfl, hb9⟩
    exact hK _ _ rfl hb9
  rintro v9 w9 hv9 hb9 hS9
  obtain rfl := hv9
  clear hb9
  replace hS := hS9
  clear hS9
  try simp only [Act.put, List.setIfInBounds_toArray, List.set_cons_zero, List.set_cons_succ]
  refine wpAnyH_one (i := 8) (x := 19) (R := fun v _ => v = .bool false) (by rw [HO.out]; simp only [List.getElem?_toArray, List.getElem?_cons_succ, List.getElem?_cons_zero]; rfl) (by rw [HO.out]; kernel_rfl) hS ?_ ?_
  · intro K hK
    simp only [Act.put, List.setIfInBounds_toArray, List.set_cons_zero, List.set_cons_succ] at hK
    unfold Steps
    rw [if_pos (by rw [HO.out]; kernel_rfl)]
    go_simp
    refine (C4 _).mono ?_
    rintro e w9 ⟨rfl, hb9⟩
    exact hK _ _ rfl hb9
  rintro v9 w9 hv9 hb9 hS9
  obtain rfl := hv9
  clear hb9
  replace hS := hS9
  clear hS9
  try simp only [Act.put, List.setIfInBounds_toArray, List.set_cons_zero, List.set_cons_succ]
  refine wpAnyH_take (i := 9) (v := .bool true) (by rw [HO.out]; simp only [List.getElem?_toArray, List.getElem?_cons_succ, List.getElem?_cons_zero]; rfl) (by rw [HO.out]; kernel_rfl) (by rw [HO.out]; kernel_rfl) (by rw [HO.out]; kernel_rfl) (by rw [HQ.out]; exact fun _ _ _ h => h) (Or.inl ⟨by first | rfl | (rw [HO.out]; kernel_rfl), ?_⟩) hS ?_
  · intro w' hSw
    go_simp
  try simp only [Act.put, List.setIfInBounds_toArray, List.set_cons_zero, List.set_cons_succ]
  refine wpAnyH_take (i := 10) (v := .bool false) (by rw [HO.out]; simp only [List.getElem?_toArray, List.getElem?_cons_succ, List.getElem?_cons_zero]; rfl) (by rw [HO.out]; kernel_rfl) (by rw [HO.out]; kernel_rfl) (by rw [HO.out]; kernel_rfl) (by rw [HQ.out]; exact fun _ _ _ h => h) (Or.inl ⟨by first | rfl | (rw [HO.out]; kernel_rfl), ?_⟩) hS ?_
  · intro w' hSw
    go_simp
  try simp only [Act.put, List.setIfInBounds_toArray, List.set_cons_zero, List.set_cons_succ]
  refine wpAnyH_take (i := 11) (v := .bool false) (by rw [HO.out]; simp only [List.getElem?_toArray, List.getElem?_cons_succ, List.getElem?_cons_zero]; rfl) (by rw [HO.out]; kernel_rfl) (by rw [HO.out]; kernel_rfl) (by rw [HO.out]; kernel_rfl) (by rw [HQ.out]; exact fun _ _ _ h => h) (Or.inl ⟨by first | rfl | (rw [HO.out]; kernel_rfl), ?_⟩) hS ?_
  · intro w' hSw
    go_simp
  try simp only [Act.put, List.setIfInBounds_toArray, List.set_cons_zero, List.set_cons_succ]
  refine wpAnyH_done (by rw [HO.out]; kernel_rfl) ?_ _
  rw [HQ.out]
  refine NoPanic.normal ?_
  go_wp2_with fail
  refine wp_region_noPanic ?_
  refine name_ops ?_
  intro O2 QQ2 HO2 HQ2
  refine wp_region_held_drew (S := fun W => Below W0.heap.size W0 W) (by kernel_rfl) (hS.trans (Below.refl _ _).drew) (fun hS => ?_)
  rw [show O2.size = 8 by rw [HO2.out]; rfl]
  refine wpAnyH_take (i := 0) (v := .agg #[.int .u8 k0, .int .i64 n0, .string s0]) (by rw [HO2.out]; simp only [List.getElem?_toArray, List.getElem?_cons_succ, List.getElem?_cons_zero]; rfl) (by rw [HO2.out]; kernel_rfl) (by rw [HO2.out]; kernel_rfl) (by rw [HO2.out]; kernel_rfl) (by rw [HQ2.out]; exact fun _ _ _ h => h) (Or.inl ⟨by first | rfl | (rw [HO2.out]; kernel_rfl), ?_⟩) hS ?_
  · intro w' hSw
    obtain ⟨⟨q1, q2, q3⟩, ⟨q4, q5, q6⟩⟩ := SL.out _ hSw
    go_simp
  try simp only [Act.put, List.setIfInBounds_toArray, List.set_cons_zero, List.set_cons_succ]
  refine wpAnyH_take (i := 1) (v := .agg #[.int .u8 k1, .int .i64 n1, .string s1]) (by rw [HO2.out]; simp only [List.getElem?_toArray, List.getElem?_cons_succ, List.getElem?_cons_zero]; rfl) (by rw [HO2.out]; kernel_rfl) (by rw [HO2.out]; kernel_rfl) (by rw [HO2.out]; kernel_rfl) (by rw [HQ2.out]; exact fun _ _ _ h => h) (Or.inl ⟨by first | rfl | (rw [HO2.out]; kernel_rfl), ?_⟩) hS ?_
  · intro w' hSw
    obtain ⟨⟨q1, q2, q3⟩, ⟨q4, q5, q6⟩⟩ := SL.out _ hSw
    go_simp
  try simp only [Act.put, List.setIfInBounds_toArray, List.set_cons_zero, List.set_cons_succ]
  refine wpAnyH_take (i := 3) (v := .agg #[.int .u8 k0, .int .i64 n0, .string s0]) (by rw [HO2.out]; simp only [List.getElem?_toArray, List.getElem?_cons_succ, List.getElem?_cons_zero]; rfl) (by rw [HO2.out]; kernel_rfl) (by rw [HO2.out]; kernel_rfl) (by rw [HO2.out]; kernel_rfl) (by rw [HQ2.out]; exact fun _ _ _ h => h) (Or.inl ⟨by first | rfl | (rw [HO2.out]; kernel_rfl), ?_⟩) hS ?_
  · intro w' hSw
    obtain ⟨⟨q1, q2, q3⟩, ⟨q4, q5, q6⟩⟩ := SL.out _ hSw
    go_simp
  try simp only [Act.put, List.setIfInBounds_toArray, List.set_cons_zero, List.set_cons_succ]
  refine wpAnyH_take (i := 4) (v := .agg #[.int .u8 k1, .int .i64 n1, .string s1]) (by rw [HO2.out]; simp only [List.getElem?_toArray, List.getElem?_cons_succ, List.getElem?_cons_zero]; rfl) (by rw [HO2.out]; kernel_rfl) (by rw [HO2.out]; kernel_rfl) (by rw [HO2.out]; kernel_rfl) (by rw [HQ2.out]; exact fun _ _ _ h => h) (Or.inl ⟨by first | rfl | (rw [HO2.out]; kernel_rfl), ?_⟩) hS ?_
  · intro w' hSw
    obtain ⟨⟨q1, q2, q3⟩, ⟨q4, q5, q6⟩⟩ := SL.out _ hSw
    go_simp
  try simp only [Act.put, List.setIfInBounds_toArray, List.set_cons_zero, List.set_cons_succ]
  refine wpAnyH_one (i := 2) (x := 22) (R := fun v _ => v = .bool false) (by rw [HO2.out]; simp only [List.getElem?_toArray, List.getElem?_cons_succ, List.getElem?_cons_zero]; rfl) (by rw [HO2.out]; kernel_rfl) hS ?_ ?_
  · intro K hK
    simp only [Act.put, List.setIfInBounds_toArray, List.set_cons_zero, List.set_cons_succ] at hK
    unfold Steps
    rw [if_pos (by rw [HO2.out]; kernel_rfl)]
    go_simp
    refine (C3 _).mono ?_
    rintro e w9 ⟨rfl, hb9⟩
    exact hK _ _ rfl hb9
  rintro v9 w9 hv9 hb9 hS9
  obtain rfl := hv9
  clear hb9
  replace hS := hS9
  clear hS9
  try simp only [Act.put, List.setIfInBounds_toArray, List.set_cons_zero, List.set_cons_succ]
  refine wpAnyH_one (i := 5) (x := 25) (R := fun v _ => v = .bool false) (by rw [HO2.out]; simp only [List.getElem?_toArray, List.getElem?_cons_succ, List.getElem?_cons_zero]; rfl) (by rw [HO2.out]; kernel_rfl) hS ?_ ?_
  · intro K hK
    simp only [Act.put, List.setIfInBounds_toArray, List.set_cons_zero, List.set_cons_succ] at hK
    unfold Steps
    rw [if_pos (by rw [HO2.out]; kernel_rfl)]
    go_simp
    refine (C5 _).mono ?_
    rintro e w9 ⟨rfl, hb9⟩
    exact hK _ _ rfl hb9
  rintro v9 w9 hv9 hb9 hS9
  obtain rfl := hv9
  clear hb9
  replace hS := hS9
  clear hS9
  try simp only [Act.put, List.setIfInBounds_toArray, List.set_cons_zero, List.set_cons_succ]
  refine wpAnyH_take (i := 6) (v := .bool false) (by rw [HO2.out]; simp only [List.getElem?_toArray, List.getElem?_cons_succ, List.getElem?_cons_zero]; rfl) (by rw [HO2.out]; kernel_rfl) (by rw [HO2.out]; kernel_rfl) (by rw [HO2.out]; kernel_rfl) (by rw [HQ2.out]; exact fun _ _ _ h => h) (Or.inl ⟨by first | rfl | (rw [HO2.out]; kernel_rfl), ?_⟩) hS ?_
  · intro w' hSw
    go_simp
  try simp only [Act.put, List.setIfInBounds_toArray, List.set_cons_zero, List.set_cons_succ]
  refine wpAnyH_take (i := 7) (v := .bool false) (by rw [HO2.out]; simp only [List.getElem?_toArray, List.getElem?_cons_succ, List.getElem?_cons_zero]; rfl) (by rw [HO2.out]; kernel_rfl) (by rw [HO2.out]; kernel_rfl) (by rw [HO2.out]; kernel_rfl) (by rw [HQ2.out]; exact fun _ _ _ h => h) (Or.inl ⟨by first | rfl | (rw [HO2.out]; kernel_rfl), ?_⟩) hS ?_
  · intro w' hSw
    go_simp
  try simp only [Act.put, List.setIfInBounds_toArray, List.set_cons_zero, List.set_cons_succ]
  refine wpAnyH_done (by rw [HO2.out]; kernel_rfl) ?_ _
  rw [HQ2.out]
  refine NoPanic.normal ?_
  obtain ⟨⟨q1, q2, q3⟩, ⟨q4, q5, q6⟩⟩ := SL.out _ hS
  go_wp2_with (first | (go_at_call 18; refine (C1 _).mono ?_; rintro e wa ⟨rfl, ha⟩; clear C1; have hS1 := bt hS ha; obtain ⟨⟨a1, a2, a3⟩, ⟨a4, a5, a6⟩⟩ := SL.out _ hS1) | (go_at_call 18; refine (CS _).mono ?_; rintro e wb ⟨rfl, hb⟩; clear CS; have hS2 := bt hS1 hb; obtain ⟨⟨b1, b2, b3⟩, ⟨b4, b5, b6⟩⟩ := SL.out _ hS2) | (go_at_call 9; refine (HA _ (HV.out _ hS2)).mono ?_; rintro e wz ⟨rfl, bz⟩; clear HA))
  go_ret
  exact ⟨rfl, bt (bt HB0.out hS2) bz⟩
set_option maxHeartbeats 8000000 in
theorem ca_false (k0 n0 k1 n1 : Int) (s0 s1 : ByteArray) (w : World) (hV : Vars w) (hk : k0 ≠ 1) (C0 : ∀ W, Calls Tryd.prog 18 #[.int .u8 0, .agg #[.int .u8 k0, .int .i64 n0, .string s0], .agg #[.int .u8 k1, .int .i64 n1, .string s1]] W fun e w' => e = .returned (.bool false) ∧ Below W.heap.size W w') (C1 : ∀ W, Calls Tryd.prog 18 #[.int .u8 1, .agg #[.int .u8 k0, .int .i64 n0, .string s0], .agg #[.int .u8 k1, .int .i64 n1, .string s1]] W fun e w' => e = .returned (.bool true) ∧ Below W.heap.size W w') (C2 : ∀ W, Calls Tryd.prog 18 #[.int .u8 2, .agg #[.int .u8 k0, .int .i64 n0, .string s0], .agg #[.int .u8 k1, .int .i64 n1, .string s1]] W fun e w' => e = .returned (.bool false) ∧ Below W.heap.size W w') (C3 : ∀ W, Calls Tryd.prog 18 #[.int .u8 3, .agg #[.int .u8 k0, .int .i64 n0, .string s0], .agg #[.int .u8 k1, .int .i64 n1, .string s1]] W fun e w' => e = .returned (.bool false) ∧ Below W.heap.size W w') (C4 : ∀ W, Calls Tryd.prog 18 #[.int .u8 4, .agg #[.int .u8 k0, .int .i64 n0, .string s0], .agg #[.int .u8 k1, .int .i64 n1, .string s1]] W fun e w' => e = .returned (.bool false) ∧ Below W.heap.size W w') (C5 : ∀ W, Calls Tryd.prog 18 #[.int .u8 5, .agg #[.int .u8 k0, .int .i64 n0, .string s0], .agg #[.int .u8 k1, .int .i64 n1, .string s1]] W fun e w' => e = .returned (.bool false) ∧ Below W.heap.size W w') (CS : ∀ W, Calls Tryd.prog 18 #[.int .u8 4, .agg #[.int .u8 k1, .int .i64 n1, .string s1], .agg #[.int .u8 k0, .int .i64 n0, .string s0]] W fun e w' => e = .returned (.bool false) ∧ Below W.heap.size W w') : Calls Tryd.prog 7 #[.agg #[.int .u8 k0, .int .i64 n0, .string s0], .agg #[.int .u8 k1, .int .i64 n1, .string s1]] w fun e w' => e = .returned (.bool true) ∧ Below w.heap.size w w' := by
  have HA := awake_any
  have e1 : (k0 != 1) = true := by rw [bne_iff_ne]; exact hk
  clear hk
  obtain ⟨W0, hW0⟩ : ∃ W0, W0 = (w.alloc (.cells #[.int .u8 k0, .int .i64 n0, .string s0] 23)).alloc (.cells #[.int .u8 k1, .int .i64 n1, .string s1] 23) := ⟨_, rfl⟩
  have HB0 : Hid (Below w.heap.size w W0) := by rw [hW0]; exact two_new _ _ _
  have SL : Hid (∀ W, Below W0.heap.size W0 W → (W.cell? ⟨w.heap.size, 0, none⟩ = some (.int .u8 k0) ∧ W.cell? ⟨w.heap.size, 1, none⟩ = some (.int .i64 n0) ∧ W.cell? ⟨w.heap.size, 2, none⟩ = some (.string s0)) ∧ (W.cell? ⟨w.heap.size + 1, 0, none⟩ = some (.int .u8 k1) ∧ W.cell? ⟨w.heap.size + 1, 1, none⟩ = some (.int .i64 n1) ∧ W.cell? ⟨w.heap.size + 1, 2, none⟩ = some (.string s1))) := fun W hW => by
    rw [hW0] at hW
    have b1 := ((Bk.new w k0 n0 s0).below (box1 _ _)).below hW
    have b2 := (Bk.new (w.alloc (.cells #[.int .u8 k0, .int .i64 n0, .string s0] 23)) k1 n1 s1).below hW
    have c2 := b2.cells
    simp at c2
    exact ⟨b1.cells, c2⟩
  have HV : Hid (∀ W, Below W0.heap.size W0 W → Vars W) := fun W hW => (hV.below HB0.out).below hW
  go_enter Tryd.func7, Tryd.ntmps7
  go_wp2_with fail
  rw [← hW0]
  clear hW0 hV
  refine wp_region_noPanic ?_
  refine name_ops ?_
  intro O QQ HO HQ
  refine wp_region_held_drew (S := fun W => Below W0.heap.size W0 W) (by kernel_rfl) (Below.refl _ _).drew (fun hS => ?_)
  rw [show O.size = 12 by rw [HO.out]; rfl]
  refine wpAnyH_take (i := 0) (v := .agg #[.int .u8 k0, .int .i64 n0, .string s0]) (by rw [HO.out]; simp only [List.getElem?_toArray, List.getElem?_cons_succ, List.getElem?_cons_zero]; rfl) (by rw [HO.out]; kernel_rfl) (by rw [HO.out]; kernel_rfl) (by rw [HO.out]; kernel_rfl) (by rw [HQ.out]; exact fun _ _ _ h => h) (Or.inl ⟨by first | rfl | (rw [HO.out]; kernel_rfl), ?_⟩) hS ?_
  · intro w' hSw
    obtain ⟨⟨q1, q2, q3⟩, ⟨q4, q5, q6⟩⟩ := SL.out _ hSw
    go_simp
  try simp only [Act.put, List.setIfInBounds_toArray, List.set_cons_zero, List.set_cons_succ]
  refine wpAnyH_take (i := 1) (v := .agg #[.int .u8 k1, .int .i64 n1, .string s1]) (by rw [HO.out]; simp only [List.getElem?_toArray, List.getElem?_cons_succ, List.getElem?_cons_zero]; rfl) (by rw [HO.out]; kernel_rfl) (by rw [HO.out]; kernel_rfl) (by rw [HO.out]; kernel_rfl) (by rw [HQ.out]; exact fun _ _ _ h => h) (Or.inl ⟨by first | rfl | (rw [HO.out]; kernel_rfl), ?_⟩) hS ?_
  · intro w' hSw
    obtain ⟨⟨q1, q2, q3⟩, ⟨q4, q5, q6⟩⟩ := SL.out _ hSw
    go_simp
  try simp only [Act.put, List.setIfInBounds_toArray, List.set_cons_zero, List.set_cons_succ]
  refine wpAnyH_take (i := 3) (v := .agg #[.int .u8 k0, .int .i64 n0, .string s0]) (by rw [HO.out]; simp only [List.getElem?_toArray, List.getElem?_cons_succ, List.getElem?_cons_zero]; rfl) (by rw [HO.out]; kernel_rfl) (by rw [HO.out]; kernel_rfl) (by rw [HO.out]; kernel_rfl) (by rw [HQ.out]; exact fun _ _ _ h => h) (Or.inl ⟨by first | rfl | (rw [HO.out]; kernel_rfl), ?_⟩) hS ?_
  · intro w' hSw
    obtain ⟨⟨q1, q2, q3⟩, ⟨q4, q5, q6⟩⟩ := SL.out _ hSw
    go_simp
  try simp only [Act.put, List.setIfInBounds_toArray, List.set_cons_zero, List.set_cons_succ]
  refine wpAnyH_take (i := 4) (v := .agg #[.int .u8 k1, .int .i64 n1, .string s1]) (by rw [HO.out]; simp only [List.getElem?_toArray, List.getElem?_cons_succ, List.getElem?_cons_zero]; rfl) (by rw [HO.out]; kernel_rfl) (by rw [HO.out]; kernel_rfl) (by rw [HO.out]; kernel_rfl) (by rw [HQ.out]; exact fun _ _ _ h => h) (Or.inl ⟨by first | rfl | (rw [HO.out]; kernel_rfl), ?_⟩) hS ?_
  · intro w' hSw
    obtain ⟨⟨q1, q2, q3⟩, ⟨q4, q5, q6⟩⟩ := SL.out _ hSw
    go_simp
  try simp only [Act.put, List.setIfInBounds_toArray, List.set_cons_zero, List.set_cons_succ]
  refine wpAnyH_take (i := 6) (v := .agg #[.int .u8 k0, .int .i64 n0, .string s0]) (by rw [HO.out]; simp only [List.getElem?_toArray, List.getElem?_cons_succ, List.getElem?_cons_zero]; rfl) (by rw [HO.out]; kernel_rfl) (by rw [HO.out]; kernel_rfl) (by rw [HO.out]; kernel_rfl) (by rw [HQ.out]; exact fun _ _ _ h => h) (Or.inl ⟨by first | rfl | (rw [HO.out]; kernel_rfl), ?_⟩) hS ?_
  · intro w' hSw
    obtain ⟨⟨q1, q2, q3⟩, ⟨q4, q5, q6⟩⟩ := SL.out _ hSw
    go_simp
  try simp only [Act.put, List.setIfInBounds_toArray, List.set_cons_zero, List.set_cons_succ]
  refine wpAnyH_take (i := 7) (v := .agg #[.int .u8 k1, .int .i64 n1, .string s1]) (by rw [HO.out]; simp only [List.getElem?_toArray, List.getElem?_cons_succ, List.getElem?_cons_zero]; rfl) (by rw [HO.out]; kernel_rfl) (by rw [HO.out]; kernel_rfl) (by rw [HO.out]; kernel_rfl) (by rw [HQ.out]; exact fun _ _ _ h => h) (Or.inl ⟨by first | rfl | (rw [HO.out]; kernel_rfl), ?_⟩) hS ?_
  · intro w' hSw
    obtain ⟨⟨q1, q2, q3⟩, ⟨q4, q5, q6⟩⟩ := SL.out _ hSw
    go_simp
  try simp only [Act.put, List.setIfInBounds_toArray, List.set_cons_zero, List.set_cons_succ]
  refine wpAnyH_one (i := 2) (x := 13) (R := fun v _ => v = .bool false) (by rw [HO.out]; simp only [List.getElem?_toArray, List.getElem?_cons_succ, List.getElem?_cons_zero]; rfl) (by rw [HO.out]; kernel_rfl) hS ?_ ?_
  · intro K hK
    simp only [Act.put, List.setIfInBounds_toArray, List.set_cons_zero, List.set_cons_succ] at hK
    unfold Steps
    rw [if_pos (by rw [HO.out]; kernel_rfl)]
    go_simp
    refine (C0 _).mono ?_
    rintro e w9 ⟨rfl, hb9⟩
    exact hK _ _ rfl hb9
  rintro v9 w9 hv9 hb9 hS9
  obtain rfl := hv9
  clear hb9
  replace hS := hS9
  clear hS9
  try simp only [Act.put, List.setIfInBounds_toArray, List.set_cons_zero, List.set_cons_succ]
  refine wpAnyH_one (i := 5) (x := 16) (R := fun v _ => v = .bool false) (by rw [HO.out]; simp only [List.getElem?_toArray, List.getElem?_cons_succ, List.getElem?_cons_zero]; rfl) (by rw [HO.out]; kernel_rfl) hS ?_ ?_
  · intro K hK
    simp only [Act.put, List.setIfInBounds_toArray, List.set_cons_zero, List.set_cons_succ] at hK
    unfold Steps
    rw [if_pos (by rw [HO.out]; kernel_rfl)]
    go_simp
    refine (C2 _).mono ?_
    rintro e w9 ⟨rfl, hb9⟩
    exact hK _ _ rfl hb9
  rintro v9 w9 hv9 hb9 hS9
  obtain rfl := hv9
  clear hb9
  replace hS := hS9
  clear hS9
  try simp only [Act.put, List.setIfInBounds_toArray, List.set_cons_zero, List.set_cons_succ]
  refine wpAnyH_one (i := 8) (x := 19) (R := fun v _ => v = .bool false) (by rw [HO.out]; simp only [List.getElem?_toArray, List.getElem?_cons_succ, List.getElem?_cons_zero]; rfl) (by rw [HO.out]; kernel_rfl) hS ?_ ?_
  · intro K hK
    simp only [Act.put, List.setIfInBounds_toArray, List.set_cons_zero, List.set_cons_succ] at hK
    unfold Steps
    rw [if_pos (by rw [HO.out]; kernel_rfl)]
    go_simp
    refine (C4 _).mono ?_
    rintro e w9 ⟨rfl, hb9⟩
    exact hK _ _ rfl hb9
  rintro v9 w9 hv9 hb9 hS9
  obtain rfl := hv9
  clear hb9
  replace hS := hS9
  clear hS9
  try simp only [Act.put, List.setIfInBounds_toArray, List.set_cons_zero, List.set_cons_succ]
  refine wpAnyH_take (i := 9) (v := .bool false) (by rw [HO.out]; simp only [List.getElem?_toArray, List.getElem?_cons_succ, List.getElem?_cons_zero]; rfl) (by rw [HO.out]; kernel_rfl) (by rw [HO.out]; kernel_rfl) (by rw [HO.out]; kernel_rfl) (by rw [HQ.out]; exact fun _ _ _ h => h) (Or.inl ⟨by first | rfl | (rw [HO.out]; kernel_rfl), ?_⟩) hS ?_
  · intro w' hSw
    go_simp
  try simp only [Act.put, List.setIfInBounds_toArray, List.set_cons_zero, List.set_cons_succ]
  refine wpAnyH_take (i := 10) (v := .bool false) (by rw [HO.out]; simp only [List.getElem?_toArray, List.getElem?_cons_succ, List.getElem?_cons_zero]; rfl) (by rw [HO.out]; kernel_rfl) (by rw [HO.out]; kernel_rfl) (by rw [HO.out]; kernel_rfl) (by rw [HQ.out]; exact fun _ _ _ h => h) (Or.inl ⟨by first | rfl | (rw [HO.out]; kernel_rfl), ?_⟩) hS ?_
  · intro w' hSw
    go_simp
  try simp only [Act.put, List.setIfInBounds_toArray, List.set_cons_zero, List.set_cons_succ]
  refine wpAnyH_take (i := 11) (v := .bool false) (by rw [HO.out]; simp only [List.getElem?_toArray, List.getElem?_cons_succ, List.getElem?_cons_zero]; rfl) (by rw [HO.out]; kernel_rfl) (by rw [HO.out]; kernel_rfl) (by rw [HO.out]; kernel_rfl) (by rw [HQ.out]; exact fun _ _ _ h => h) (Or.inl ⟨by first | rfl | (rw [HO.out]; kernel_rfl), ?_⟩) hS ?_
  · intro w' hSw
    go_simp
  try simp only [Act.put, List.setIfInBounds_toArray, List.set_cons_zero, List.set_cons_succ]
  refine wpAnyH_done (by rw [HO.out]; kernel_rfl) ?_ _
  rw [HQ.out]
  refine NoPanic.normal ?_
  go_wp2_with fail
  refine wp_region_noPanic ?_
  refine name_ops ?_
  intro O2 QQ2 HO2 HQ2
  refine wp_region_held_drew (S := fun W => Below W0.heap.size W0 W) (by kernel_rfl) (hS.trans (Below.refl _ _).drew) (fun hS => ?_)
  rw [show O2.size = 8 by rw [HO2.out]; rfl]
  refine wpAnyH_take (i := 0) (v := .agg #[.int .u8 k0, .int .i64 n0, .string s0]) (by rw [HO2.out]; simp only [List.getElem?_toArray, List.getElem?_cons_succ, List.getElem?_cons_zero]; rfl) (by rw [HO2.out]; kernel_rfl) (by rw [HO2.out]; kernel_rfl) (by rw [HO2.out]; kernel_rfl) (by rw [HQ2.out]; exact fun _ _ _ h => h) (Or.inl ⟨by first | rfl | (rw [HO2.out]; kernel_rfl), ?_⟩) hS ?_
  · intro w' hSw
    obtain ⟨⟨q1, q2, q3⟩, ⟨q4, q5, q6⟩⟩ := SL.out _ hSw
    go_simp
  try simp only [Act.put, List.setIfInBounds_toArray, List.set_cons_zero, List.set_cons_succ]
  refine wpAnyH_take (i := 1) (v := .agg #[.int .u8 k1, .int .i64 n1, .string s1]) (by rw [HO2.out]; simp only [List.getElem?_toArray, List.getElem?_cons_succ, List.getElem?_cons_zero]; rfl) (by rw [HO2.out]; kernel_rfl) (by rw [HO2.out]; kernel_rfl) (by rw [HO2.out]; kernel_rfl) (by rw [HQ2.out]; exact fun _ _ _ h => h) (Or.inl ⟨by first | rfl | (rw [HO2.out]; kernel_rfl), ?_⟩) hS ?_
  · intro w' hSw
    obtain ⟨⟨q1, q2, q3⟩, ⟨q4, q5, q6⟩⟩ := SL.out _ hSw
    go_simp
  try simp only [Act.put, List.setIfInBounds_toArray, List.set_cons_zero, List.set_cons_succ]
  refine wpAnyH_take (i := 3) (v := .agg #[.int .u8 k0, .int .i64 n0, .string s0]) (by rw [HO2.out]; simp only [List.getElem?_toArray, List.getElem?_cons_succ, List.getElem?_cons_zero]; rfl) (by rw [HO2.out]; kernel_rfl) (by rw [HO2.out]; kernel_rfl) (by rw [HO2.out]; kernel_rfl) (by rw [HQ2.out]; exact fun _ _ _ h => h) (Or.inl ⟨by first | rfl | (rw [HO2.out]; kernel_rfl), ?_⟩) hS ?_
  · intro w' hSw
    obtain ⟨⟨q1, q2, q3⟩, ⟨q4, q5, q6⟩⟩ := SL.out _ hSw
    go_simp
  try simp only [Act.put, List.setIfInBounds_toArray, List.set_cons_zero, List.set_cons_succ]
  refine wpAnyH_take (i := 4) (v := .agg #[.int .u8 k1, .int .i64 n1, .string s1]) (by rw [HO2.out]; simp only [List.getElem?_toArray, List.getElem?_cons_succ, List.getElem?_cons_zero]; rfl) (by rw [HO2.out]; kernel_rfl) (by rw [HO2.out]; kernel_rfl) (by rw [HO2.out]; kernel_rfl) (by rw [HQ2.out]; exact fun _ _ _ h => h) (Or.inl ⟨by first | rfl | (rw [HO2.out]; kernel_rfl), ?_⟩) hS ?_
  · intro w' hSw
    obtain ⟨⟨q1, q2, q3⟩, ⟨q4, q5, q6⟩⟩ := SL.out _ hSw
    go_simp
  try simp only [Act.put, List.setIfInBounds_toArray, List.set_cons_zero, List.set_cons_succ]
  refine wpAnyH_one (i := 2) (x := 22) (R := fun v _ => v = .bool false) (by rw [HO2.out]; simp only [List.getElem?_toArray, List.getElem?_cons_succ, List.getElem?_cons_zero]; rfl) (by rw [HO2.out]; kernel_rfl) hS ?_ ?_
  · intro K hK
    simp only [Act.put, List.setIfInBounds_toArray, List.set_cons_zero, List.set_cons_succ] at hK
    unfold Steps
    rw [if_pos (by rw [HO2.out]; kernel_rfl)]
    go_simp
    refine (C3 _).mono ?_
    rintro e w9 ⟨rfl, hb9⟩
    exact hK _ _ rfl hb9
  rintro v9 w9 hv9 hb9 hS9
  obtain rfl := hv9
  clear hb9
  replace hS := hS9
  clear hS9
  try simp only [Act.put, List.setIfInBounds_toArray, List.set_cons_zero, List.set_cons_succ]
  refine wpAnyH_one (i := 5) (x := 25) (R := fun v _ => v = .bool false) (by rw [HO2.out]; simp only [List.getElem?_toArray, List.getElem?_cons_succ, List.getElem?_cons_zero]; rfl) (by rw [HO2.out]; kernel_rfl) hS ?_ ?_
  · intro K hK
    simp only [Act.put, List.setIfInBounds_toArray, List.set_cons_zero, List.set_cons_succ] at hK
    unfold Steps
    rw [if_pos (by rw [HO2.out]; kernel_rfl)]
    go_simp
    refine (C5 _).mono ?_
    rintro e w9 ⟨rfl, hb9⟩
    exact hK _ _ rfl hb9
  rintro v9 w9 hv9 hb9 hS9
  obtain rfl := hv9
  clear hb9
  replace hS := hS9
  clear hS9
  try simp only [Act.put, List.setIfInBounds_toArray, List.set_cons_zero, List.set_cons_succ]
  refine wpAnyH_take (i := 6) (v := .bool false) (by rw [HO2.out]; simp only [List.getElem?_toArray, List.getElem?_cons_succ, List.getElem?_cons_zero]; rfl) (by rw [HO2.out]; kernel_rfl) (by rw [HO2.out]; kernel_rfl) (by rw [HO2.out]; kernel_rfl) (by rw [HQ2.out]; exact fun _ _ _ h => h) (Or.inl ⟨by first | rfl | (rw [HO2.out]; kernel_rfl), ?_⟩) hS ?_
  · intro w' hSw
    go_simp
  try simp only [Act.put, List.setIfInBounds_toArray, List.set_cons_zero, List.set_cons_succ]
  refine wpAnyH_take (i := 7) (v := .bool false) (by rw [HO2.out]; simp only [List.getElem?_toArray, List.getElem?_cons_succ, List.getElem?_cons_zero]; rfl) (by rw [HO2.out]; kernel_rfl) (by rw [HO2.out]; kernel_rfl) (by rw [HO2.out]; kernel_rfl) (by rw [HQ2.out]; exact fun _ _ _ h => h) (Or.inl ⟨by first | rfl | (rw [HO2.out]; kernel_rfl), ?_⟩) hS ?_
  · intro w' hSw
    go_simp
  try simp only [Act.put, List.setIfInBounds_toArray, List.set_cons_zero, List.set_cons_succ]
  refine wpAnyH_done (by rw [HO2.out]; kernel_rfl) ?_ _
  rw [HQ2.out]
  refine NoPanic.normal ?_
  obtain ⟨⟨q1, q2, q3⟩, ⟨q4, q5, q6⟩⟩ := SL.out _ hS
  go_wp2_with (first | (go_at_call 18; refine (C1 _).mono ?_; rintro e wa ⟨rfl, ha⟩; clear C1; have hS1 := bt hS ha; obtain ⟨⟨a1, a2, a3⟩, ⟨a4, a5, a6⟩⟩ := SL.out _ hS1) | (go_at_call 18; refine (CS _).mono ?_; rintro e wb ⟨rfl, hb⟩; clear CS; have hS2 := bt hS1 hb; obtain ⟨⟨b1, b2, b3⟩, ⟨b4, b5, b6⟩⟩ := SL.out _ hS2) | (go_at_call 9; refine (HA _ (HV.out _ hS2)).mono ?_; rintro e wz ⟨rfl, bz⟩; clear HA))
  go_ret
  exact ⟨rfl, bt (bt HB0.out hS2) bz⟩
set_option maxHeartbeats 8000000 in
theorem cb_true (n0 k1 n1 : Int) (s0 s1 : ByteArray) (w : World) (hV : Vars w) (hk : k1 ≠ 1) (C0 : ∀ W, Calls Tryd.prog 18 #[.int .u8 0, .agg #[.int .u8 1, .int .i64 n0, .string s0], .agg #[.int .u8 k1, .int .i64 n1, .string s1]] W fun e w' => e = .returned (.bool true) ∧ Below W.heap.size W w') (C1 : ∀ W, Calls Tryd.prog 18 #[.int .u8 1, .agg #[.int .u8 1, .int .i64 n0, .string s0], .agg #[.int .u8 k1, .int .i64 n1, .string s1]] W fun e w' => e = .returned (.bool false) ∧ Below W.heap.size W w') (C2 : ∀ W, Calls Tryd.prog 18 #[.int .u8 2, .agg #[.int .u8 1, .int .i64 n0, .string s0], .agg #[.int .u8 k1, .int .i64 n1, .string s1]] W fun e w' => e = .returned (.bool false) ∧ Below W.heap.size W w') (C3 : ∀ W, Calls Tryd.prog 18 #[.int .u8 3, .agg #[.int .u8 1, .int .i64 n0, .string s0], .agg #[.int .u8 k1, .int .i64 n1, .string s1]] W fun e w' => e = .returned (.bool false) ∧ Below W.heap.size W w') (C4 : ∀ W, Calls Tryd.prog 18 #[.int .u8 4, .agg #[.int .u8 1, .int .i64 n0, .string s0], .agg #[.int .u8 k1, .int .i64 n1, .string s1]] W fun e w' => e = .returned (.bool false) ∧ Below W.heap.size W w') (C5 : ∀ W, Calls Tryd.prog 18 #[.int .u8 5, .agg #[.int .u8 1, .int .i64 n0, .string s0], .agg #[.int .u8 k1, .int .i64 n1, .string s1]] W fun e w' => e = .returned (.bool false) ∧ Below W.heap.size W w') (CS : ∀ W, Calls Tryd.prog 18 #[.int .u8 4, .agg #[.int .u8 k1, .int .i64 n1, .string s1], .agg #[.int .u8 1, .int .i64 n0, .string s0]] W fun e w' => e = .returned (.bool false) ∧ Below W.heap.size W w') : Calls Tryd.prog 7 #[.agg #[.int .u8 1, .int .i64 n0, .string s0], .agg #[.int .u8 k1, .int .i64 n1, .string s1]] w fun e w' => e = .returned (.bool true) ∧ Below w.heap.size w w' := by
  have HA := awake_any
  have e1 : (k1 != 1) = true := by rw [bne_iff_ne]; exact hk
  clear hk
  obtain ⟨W0, hW0⟩ : ∃ W0, W0 = (w.alloc (.cells #[.int .u8 1, .int .i64 n0, .string s0] 23)).alloc (.cells #[.int .u8 k1, .int .i64 n1, .string s1] 23) := ⟨_, rfl⟩
  have HB0 : Hid (Below w.heap.size w W0) := by rw [hW0]; exact two_new _ _ _
  have SL : Hid (∀ W, Below W0.heap.size W0 W → (W.cell? ⟨w.heap.size, 0, none⟩ = some (.int .u8 1) ∧ W.cell? ⟨w.heap.size, 1, none⟩ = some (.int .i64 n0) ∧ W.cell? ⟨w.heap.size, 2, none⟩ = some (.string s0)) ∧ (W.cell? ⟨w.heap.size + 1, 0, none⟩ = some (.int .u8 k1) ∧ W.cell? ⟨w.heap.size + 1, 1, none⟩ = some (.int .i64 n1) ∧ W.cell? ⟨w.heap.size + 1, 2, none⟩ = some (.string s1))) := fun W hW => by
    rw [hW0] at hW
    have b1 := ((Bk.new w 1 n0 s0).below (box1 _ _)).below hW
    have b2 := (Bk.new (w.alloc (.cells #[.int .u8 1, .int .i64 n0, .string s0] 23)) k1 n1 s1).below hW
    have c2 := b2.cells
    simp at c2
    exact ⟨b1.cells, c2⟩
  have HV : Hid (∀ W, Below W0.heap.size W0 W → Vars W) := fun W hW => (hV.below HB0.out).below hW
  go_enter Tryd.func7, Tryd.ntmps7
  go_wp2_with fail
  rw [← hW0]
  clear hW0 hV
  refine wp_region_noPanic ?_
  refine name_ops ?_
  intro O QQ HO HQ
  refine wp_region_held_drew (S := fun W => Below W0.heap.size W0 W) (by kernel_rfl) (Below.refl _ _).drew (fun hS => ?_)
  rw [show O.size = 12 by rw [HO.out]; rfl]
  refine wpAnyH_take (i := 0) (v := .agg #[.int .u8 1, .int .i64 n0, .string s0]) (by rw [HO.out]; simp only [List.getElem?_toArray, List.getElem?_cons_succ, List.getElem?_cons_zero]; rfl) (by rw [HO.out]; kernel_rfl) (by rw [HO.out]; kernel_rfl) (by rw [HO.out]; kernel_rfl) (by rw [HQ.out]; exact fun _ _ _ h => h) (Or.inl ⟨by first | rfl | (rw [HO.out]; kernel_rfl), ?_⟩) hS ?_
  · intro w' hSw
    obtain ⟨⟨q1, q2, q3⟩, ⟨q4, q5, q6⟩⟩ := SL.out _ hSw
    go_simp
  try simp only [Act.put, List.setIfInBounds_toArray, List.set_cons_zero, List.set_cons_succ]
  refine wpAnyH_take (i := 1) (v := .agg #[.int .u8 k1, .int .i64 n1, .string s1]) (by rw [HO.out]; simp only [List.getElem?_toArray, List.getElem?_cons_succ, List.getElem?_cons_zero]; rfl) (by rw [HO.out]; kernel_rfl) (by rw [HO.out]; kernel_rfl) (by rw [HO.out]; kernel_rfl) (by rw [HQ.out]; exact fun _ _ _ h => h) (Or.inl ⟨by first | rfl | (rw [HO.out]; kernel_rfl), ?_⟩) hS ?_
  · intro w' hSw
    obtain ⟨⟨q1, q2, q3⟩, ⟨q4, q5, q6⟩⟩ := SL.out _ hSw
    go_simp
  try simp only [Act.put, List.setIfInBounds_toArray, List.set_cons_zero, List.set_cons_succ]
  refine wpAnyH_take (i := 3) (v := .agg #[.int .u8 1, .int .i64 n0, .string s0]) (by rw [HO.out]; simp only [List.getElem?_toArray, List.getElem?_cons_succ, List.getElem?_cons_zero]; rfl) (by rw [HO.out]; kernel_rfl) (by rw [HO.out]; kernel_rfl) (by rw [HO.out]; kernel_rfl) (by rw [HQ.out]; exact fun _ _ _ h => h) (Or.inl ⟨by first | rfl | (rw [HO.out]; kernel_rfl), ?_⟩) hS ?_
  · intro w' hSw
    obtain ⟨⟨q1, q2, q3⟩, ⟨q4, q5, q6⟩⟩ := SL.out _ hSw
    go_simp
  try simp only [Act.put, List.setIfInBounds_toArray, List.set_cons_zero, List.set_cons_succ]
  refine wpAnyH_take (i := 4) (v := .agg #[.int .u8 k1, .int .i64 n1, .string s1]) (by rw [HO.out]; simp only [List.getElem?_toArray, List.getElem?_cons_succ, List.getElem?_cons_zero]; rfl) (by rw [HO.out]; kernel_rfl) (by rw [HO.out]; kernel_rfl) (by rw [HO.out]; kernel_rfl) (by rw [HQ.out]; exact fun _ _ _ h => h) (Or.inl ⟨by first | rfl | (rw [HO.out]; kernel_rfl), ?_⟩) hS ?_
  · intro w' hSw
    obtain ⟨⟨q1, q2, q3⟩, ⟨q4, q5, q6⟩⟩ := SL.out _ hSw
    go_simp
  try simp only [Act.put, List.setIfInBounds_toArray, List.set_cons_zero, List.set_cons_succ]
  refine wpAnyH_take (i := 6) (v := .agg #[.int .u8 1, .int .i64 n0, .string s0]) (by rw [HO.out]; simp only [List.getElem?_toArray, List.getElem?_cons_succ, List.getElem?_cons_zero]; rfl) (by rw [HO.out]; kernel_rfl) (by rw [HO.out]; kernel_rfl) (by rw [HO.out]; kernel_rfl) (by rw [HQ.out]; exact fun _ _ _ h => h) (Or.inl ⟨by first | rfl | (rw [HO.out]; kernel_rfl), ?_⟩) hS ?_
  · intro w' hSw
    obtain ⟨⟨q1, q2, q3⟩, ⟨q4, q5, q6⟩⟩ := SL.out _ hSw
    go_simp
  try simp only [Act.put, List.setIfInBounds_toArray, List.set_cons_zero, List.set_cons_succ]
  refine wpAnyH_take (i := 7) (v := .agg #[.int .u8 k1, .int .i64 n1, .string s1]) (by rw [HO.out]; simp only [List.getElem?_toArray, List.getElem?_cons_succ, List.getElem?_cons_zero]; rfl) (by rw [HO.out]; kernel_rfl) (by rw [HO.out]; kernel_rfl) (by rw [HO.out]; kernel_rfl) (by rw [HQ.out]; exact fun _ _ _ h => h) (Or.inl ⟨by first | rfl | (rw [HO.out]; kernel_rfl), ?_⟩) hS ?_
  · intro w' hSw
    obtain ⟨⟨q1, q2, q3⟩, ⟨q4, q5, q6⟩⟩ := SL.out _ hSw
    go_simp
  try simp only [Act.put, List.setIfInBounds_toArray, List.set_cons_zero, List.set_cons_succ]
  refine wpAnyH_one (i := 2) (x := 13) (R := fun v _ => v = .bool true) (by rw [HO.out]; simp only [List.getElem?_toArray, List.getElem?_cons_succ, List.getElem?_cons_zero]; rfl) (by rw [HO.out]; kernel_rfl) hS ?_ ?_
  · intro K hK
    simp only [Act.put, List.setIfInBounds_toArray, List.set_cons_zero, List.set_cons_succ] at hK
    unfold Steps
    rw [if_pos (by rw [HO.out]; kernel_rfl)]
    go_simp
    refine (C0 _).mono ?_
    rintro e w9 ⟨rfl, hb9⟩
    exact hK _ _ rfl hb9
  rintro v9 w9 hv9 hb9 hS9
  obtain rfl := hv9
  clear hb9
  replace hS := hS9
  clear hS9
  try simp only [Act.put, List.setIfInBounds_toArray, List.set_cons_zero, List.set_cons_succ]
  refine wpAnyH_one (i := 5) (x := 16) (R := fun v _ => v = .bool false) (by rw [HO.out]; simp only [List.getElem?_toArray, List.getElem?_cons_succ, List.getElem?_cons_zero]; rfl) (by rw [HO.out]; kernel_rfl) hS ?_ ?_
  · intro K hK
    simp only [Act.put, List.setIfInBounds_toArray, List.set_cons_zero, List.set_cons_succ] at hK
    unfold Steps
    rw [if_pos (by rw [HO.out]; kernel_rfl)]
    go_simp
    refine (C2 _).mono ?_
    rintro e w9 ⟨rfl, hb9⟩
    exact hK _ _ rfl hb9
  rintro v9 w9 hv9 hb9 hS9
  obtain rfl := hv9
  clear hb9
  replace hS := hS9
  clear hS9
  try simp only [Act.put, List.setIfInBounds_toArray, List.set_cons_zero, List.set_cons_succ]
  refine wpAnyH_one (i := 8) (x := 19) (R := fun v _ => v = .bool false) (by rw [HO.out]; simp only [List.getElem?_toArray, List.getElem?_cons_succ, List.getElem?_cons_zero]; rfl) (by rw [HO.out]; kernel_rfl) hS ?_ ?_
  · intro K hK
    simp only [Act.put, List.setIfInBounds_toArray, List.set_cons_zero, List.set_cons_succ] at hK
    unfold Steps
    rw [if_pos (by rw [HO.out]; kernel_rfl)]
    go_simp
    refine (C4 _).mono ?_
    rintro e w9 ⟨rfl, hb9⟩
    exact hK _ _ rfl hb9
  rintro v9 w9 hv9 hb9 hS9
  obtain rfl := hv9
  clear hb9
  replace hS := hS9
  clear hS9
  try simp only [Act.put, List.setIfInBounds_toArray, List.set_cons_zero, List.set_cons_succ]
  refine wpAnyH_take (i := 9) (v := .bool true) (by rw [HO.out]; simp only [List.getElem?_toArray, List.getElem?_cons_succ, List.getElem?_cons_zero]; rfl) (by rw [HO.out]; kernel_rfl) (by rw [HO.out]; kernel_rfl) (by rw [HO.out]; kernel_rfl) (by rw [HQ.out]; exact fun _ _ _ h => h) (Or.inl ⟨by first | rfl | (rw [HO.out]; kernel_rfl), ?_⟩) hS ?_
  · intro w' hSw
    go_simp
  try simp only [Act.put, List.setIfInBounds_toArray, List.set_cons_zero, List.set_cons_succ]
  refine wpAnyH_take (i := 10) (v := .bool false) (by rw [HO.out]; simp only [List.getElem?_toArray, List.getElem?_cons_succ, List.getElem?_cons_zero]; rfl) (by rw [HO.out]; kernel_rfl) (by rw [HO.out]; kernel_rfl) (by rw [HO.out]; kernel_rfl) (by rw [HQ.out]; exact fun _ _ _ h => h) (Or.inl ⟨by first | rfl | (rw [HO.out]; kernel_rfl), ?_⟩) hS ?_
  · intro w' hSw
    go_simp
  try simp only [Act.put, List.setIfInBounds_toArray, List.set_cons_zero, List.set_cons_succ]
  refine wpAnyH_take (i := 11) (v := .bool false) (by rw [HO.out]; simp only [List.getElem?_toArray, List.getElem?_cons_succ, List.getElem?_cons_zero]; rfl) (by rw [HO.out]; kernel_rfl) (by rw [HO.out]; kernel_rfl) (by rw [HO.out]; kernel_rfl) (by rw [HQ.out]; exact fun _ _ _ h => h) (Or.inl ⟨by first | rfl | (rw [HO.out]; kernel_rfl), ?_⟩) hS ?_
  · intro w' hSw
    go_simp
  try simp only [Act.put, List.setIfInBounds_toArray, List.set_cons_zero, List.set_cons_succ]
  refine wpAnyH_done (by rw [HO.out]; kernel_rfl) ?_ _
  rw [HQ.out]
  refine NoPanic.normal ?_
  go_wp2_with fail
  refine wp_region_noPanic ?_
  refine name_ops ?_
  intro O2 QQ2 HO2 HQ2
  refine wp_region_held_drew (S := fun W => Below W0.heap.size W0 W) (by kernel_rfl) (hS.trans (Below.refl _ _).drew) (fun hS => ?_)
  rw [show O2.size = 8 by rw [HO2.out]; rfl]
  refine wpAnyH_take (i := 0) (v := .agg #[.int .u8 1, .int .i64 n0, .string s0]) (by rw [HO2.out]; simp only [List.getElem?_toArray, List.getElem?_cons_succ, List.getElem?_cons_zero]; rfl) (by rw [HO2.out]; kernel_rfl) (by rw [HO2.out]; kernel_rfl) (by rw [HO2.out]; kernel_rfl) (by rw [HQ2.out]; exact fun _ _ _ h => h) (Or.inl ⟨by first | rfl | (rw [HO2.out]; kernel_rfl), ?_⟩) hS ?_
  · intro w' hSw
    obtain ⟨⟨q1, q2, q3⟩, ⟨q4, q5, q6⟩⟩ := SL.out _ hSw
    go_simp
  try simp only [Act.put, List.setIfInBounds_toArray, List.set_cons_zero, List.set_cons_succ]
  refine wpAnyH_take (i := 1) (v := .agg #[.int .u8 k1, .int .i64 n1, .string s1]) (by rw [HO2.out]; simp only [List.getElem?_toArray, List.getElem?_cons_succ, List.getElem?_cons_zero]; rfl) (by rw [HO2.out]; kernel_rfl) (by rw [HO2.out]; kernel_rfl) (by rw [HO2.out]; kernel_rfl) (by rw [HQ2.out]; exact fun _ _ _ h => h) (Or.inl ⟨by first | rfl | (rw [HO2.out]; kernel_rfl), ?_⟩) hS ?_
  · intro w' hSw
    obtain ⟨⟨q1, q2, q3⟩, ⟨q4, q5, q6⟩⟩ := SL.out _ hSw
    go_simp
  try simp only [Act.put, List.setIfInBounds_toArray, List.set_cons_zero, List.set_cons_succ]
  refine wpAnyH_take (i := 3) (v := .agg #[.int .u8 1, .int .i64 n0, .string s0]) (by rw [HO2.out]; simp only [List.getElem?_toArray, List.getElem?_cons_succ, List.getElem?_cons_zero]; rfl) (by rw [HO2.out]; kernel_rfl) (by rw [HO2.out]; kernel_rfl) (by rw [HO2.out]; kernel_rfl) (by rw [HQ2.out]; exact fun _ _ _ h => h) (Or.inl ⟨by first | rfl | (rw [HO2.out]; kernel_rfl), ?_⟩) hS ?_
  · intro w' hSw
    obtain ⟨⟨q1, q2, q3⟩, ⟨q4, q5, q6⟩⟩ := SL.out _ hSw
    go_simp
  try simp only [Act.put, List.setIfInBounds_toArray, List.set_cons_zero, List.set_cons_succ]
  refine wpAnyH_take (i := 4) (v := .agg #[.int .u8 k1, .int .i64 n1, .string s1]) (by rw [HO2.out]; simp only [List.getElem?_toArray, List.getElem?_cons_succ, List.getElem?_cons_zero]; rfl) (by rw [HO2.out]; kernel_rfl) (by rw [HO2.out]; kernel_rfl) (by rw [HO2.out]; kernel_rfl) (by rw [HQ2.out]; exact fun _ _ _ h => h) (Or.inl ⟨by first | rfl | (rw [HO2.out]; kernel_rfl), ?_⟩) hS ?_
  · intro w' hSw
    obtain ⟨⟨q1, q2, q3⟩, ⟨q4, q5, q6⟩⟩ := SL.out _ hSw
    go_simp
  try simp only [Act.put, List.setIfInBounds_toArray, List.set_cons_zero, List.set_cons_succ]
  refine wpAnyH_one (i := 2) (x := 22) (R := fun v _ => v = .bool false) (by rw [HO2.out]; simp only [List.getElem?_toArray, List.getElem?_cons_succ, List.getElem?_cons_zero]; rfl) (by rw [HO2.out]; kernel_rfl) hS ?_ ?_
  · intro K hK
    simp only [Act.put, List.setIfInBounds_toArray, List.set_cons_zero, List.set_cons_succ] at hK
    unfold Steps
    rw [if_pos (by rw [HO2.out]; kernel_rfl)]
    go_simp
    refine (C3 _).mono ?_
    rintro e w9 ⟨rfl, hb9⟩
    exact hK _ _ rfl hb9
  rintro v9 w9 hv9 hb9 hS9
  obtain rfl := hv9
  clear hb9
  replace hS := hS9
  clear hS9
  try simp only [Act.put, List.setIfInBounds_toArray, List.set_cons_zero, List.set_cons_succ]
  refine wpAnyH_one (i := 5) (x := 25) (R := fun v _ => v = .bool false) (by rw [HO2.out]; simp only [List.getElem?_toArray, List.getElem?_cons_succ, List.getElem?_cons_zero]; rfl) (by rw [HO2.out]; kernel_rfl) hS ?_ ?_
  · intro K hK
    simp only [Act.put, List.setIfInBounds_toArray, List.set_cons_zero, List.set_cons_succ] at hK
    unfold Steps
    rw [if_pos (by rw [HO2.out]; kernel_rfl)]
    go_simp
    refine (C5 _).mono ?_
    rintro e w9 ⟨rfl, hb9⟩
    exact hK _ _ rfl hb9
  rintro v9 w9 hv9 hb9 hS9
  obtain rfl := hv9
  clear hb9
  replace hS := hS9
  clear hS9
  try simp only [Act.put, List.setIfInBounds_toArray, List.set_cons_zero, List.set_cons_succ]
  refine wpAnyH_take (i := 6) (v := .bool false) (by rw [HO2.out]; simp only [List.getElem?_toArray, List.getElem?_cons_succ, List.getElem?_cons_zero]; rfl) (by rw [HO2.out]; kernel_rfl) (by rw [HO2.out]; kernel_rfl) (by rw [HO2.out]; kernel_rfl) (by rw [HQ2.out]; exact fun _ _ _ h => h) (Or.inl ⟨by first | rfl | (rw [HO2.out]; kernel_rfl), ?_⟩) hS ?_
  · intro w' hSw
    go_simp
  try simp only [Act.put, List.setIfInBounds_toArray, List.set_cons_zero, List.set_cons_succ]
  refine wpAnyH_take (i := 7) (v := .bool false) (by rw [HO2.out]; simp only [List.getElem?_toArray, List.getElem?_cons_succ, List.getElem?_cons_zero]; rfl) (by rw [HO2.out]; kernel_rfl) (by rw [HO2.out]; kernel_rfl) (by rw [HO2.out]; kernel_rfl) (by rw [HQ2.out]; exact fun _ _ _ h => h) (Or.inl ⟨by first | rfl | (rw [HO2.out]; kernel_rfl), ?_⟩) hS ?_
  · intro w' hSw
    go_simp
  try simp only [Act.put, List.setIfInBounds_toArray, List.set_cons_zero, List.set_cons_succ]
  refine wpAnyH_done (by rw [HO2.out]; kernel_rfl) ?_ _
  rw [HQ2.out]
  refine NoPanic.normal ?_
  obtain ⟨⟨q1, q2, q3⟩, ⟨q4, q5, q6⟩⟩ := SL.out _ hS
  go_wp2_with (first | (go_at_call 18; refine (C1 _).mono ?_; rintro e wa ⟨rfl, ha⟩; clear C1; have hS1 := bt hS ha; obtain ⟨⟨a1, a2, a3⟩, ⟨a4, a5, a6⟩⟩ := SL.out _ hS1) | (go_at_call 18; refine (CS _).mono ?_; rintro e wb ⟨rfl, hb⟩; clear CS; have hS2 := bt hS1 hb; obtain ⟨⟨b1, b2, b3⟩, ⟨b4, b5, b6⟩⟩ := SL.out _ hS2) | (go_at_call 9; refine (HA _ (HV.out _ hS2)).mono ?_; rintro e wz ⟨rfl, bz⟩; clear HA))
  go_ret
  exact ⟨rfl, bt (bt HB0.out hS2) bz⟩
set_option maxHeartbeats 8000000 in
theorem cb_false (n0 k1 n1 : Int) (s0 s1 : ByteArray) (w : World) (hV : Vars w) (hk : k1 ≠ 1) (C0 : ∀ W, Calls Tryd.prog 18 #[.int .u8 0, .agg #[.int .u8 1, .int .i64 n0, .string s0], .agg #[.int .u8 k1, .int .i64 n1, .string s1]] W fun e w' => e = .returned (.bool false) ∧ Below W.heap.size W w') (C1 : ∀ W, Calls Tryd.prog 18 #[.int .u8 1, .agg #[.int .u8 1, .int .i64 n0, .string s0], .agg #[.int .u8 k1, .int .i64 n1, .string s1]] W fun e w' => e = .returned (.bool true) ∧ Below W.heap.size W w') (C2 : ∀ W, Calls Tryd.prog 18 #[.int .u8 2, .agg #[.int .u8 1, .int .i64 n0, .string s0], .agg #[.int .u8 k1, .int .i64 n1, .string s1]] W fun e w' => e = .returned (.bool false) ∧ Below W.heap.size W w') (C3 : ∀ W, Calls Tryd.prog 18 #[.int .u8 3, .agg #[.int .u8 1, .int .i64 n0, .string s0], .agg #[.int .u8 k1, .int .i64 n1, .string s1]] W fun e w' => e = .returned (.bool false) ∧ Below W.heap.size W w') (C4 : ∀ W, Calls Tryd.prog 18 #[.int .u8 4, .agg #[.int .u8 1, .int .i64 n0, .string s0], .agg #[.int .u8 k1, .int .i64 n1, .string s1]] W fun e w' => e = .returned (.bool false) ∧ Below W.heap.size W w') (C5 : ∀ W, Calls Tryd.prog 18 #[.int .u8 5, .agg #[.int .u8 1, .int .i64 n0, .string s0], .agg #[.int .u8 k1, .int .i64 n1, .string s1]] W fun e w' => e = .returned (.bool false) ∧ Below W.heap.size W w') (CS : ∀ W, Calls Tryd.prog 18 #[.int .u8 4, .agg #[.int .u8 k1, .int .i64 n1, .string s1], .agg #[.int .u8 1, .int .i64 n0, .string s0]] W fun e w' => e = .returned (.bool false) ∧ Below W.heap.size W w') : Calls Tryd.prog 7 #[.agg #[.int .u8 1, .int .i64 n0, .string s0], .agg #[.int .u8 k1, .int .i64 n1, .string s1]] w fun e w' => e = .returned (.bool true) ∧ Below w.heap.size w w' := by
  have HA := awake_any
  have e1 : (k1 != 1) = true := by rw [bne_iff_ne]; exact hk
  clear hk
  obtain ⟨W0, hW0⟩ : ∃ W0, W0 = (w.alloc (.cells #[.int .u8 1, .int .i64 n0, .string s0] 23)).alloc (.cells #[.int .u8 k1, .int .i64 n1, .string s1] 23) := ⟨_, rfl⟩
  have HB0 : Hid (Below w.heap.size w W0) := by rw [hW0]; exact two_new _ _ _
  have SL : Hid (∀ W, Below W0.heap.size W0 W → (W.cell? ⟨w.heap.size, 0, none⟩ = some (.int .u8 1) ∧ W.cell? ⟨w.heap.size, 1, none⟩ = some (.int .i64 n0) ∧ W.cell? ⟨w.heap.size, 2, none⟩ = some (.string s0)) ∧ (W.cell? ⟨w.heap.size + 1, 0, none⟩ = some (.int .u8 k1) ∧ W.cell? ⟨w.heap.size + 1, 1, none⟩ = some (.int .i64 n1) ∧ W.cell? ⟨w.heap.size + 1, 2, none⟩ = some (.string s1))) := fun W hW => by
    rw [hW0] at hW
    have b1 := ((Bk.new w 1 n0 s0).below (box1 _ _)).below hW
    have b2 := (Bk.new (w.alloc (.cells #[.int .u8 1, .int .i64 n0, .string s0] 23)) k1 n1 s1).below hW
    have c2 := b2.cells
    simp at c2
    exact ⟨b1.cells, c2⟩
  have HV : Hid (∀ W, Below W0.heap.size W0 W → Vars W) := fun W hW => (hV.below HB0.out).below hW
  go_enter Tryd.func7, Tryd.ntmps7
  go_wp2_with fail
  rw [← hW0]
  clear hW0 hV
  refine wp_region_noPanic ?_
  refine name_ops ?_
  intro O QQ HO HQ
  refine wp_region_held_drew (S := fun W => Below W0.heap.size W0 W) (by kernel_rfl) (Below.refl _ _).drew (fun hS => ?_)
  rw [show O.size = 12 by rw [HO.out]; rfl]
  refine wpAnyH_take (i := 0) (v := .agg #[.int .u8 1, .int .i64 n0, .string s0]) (by rw [HO.out]; simp only [List.getElem?_toArray, List.getElem?_cons_succ, List.getElem?_cons_zero]; rfl) (by rw [HO.out]; kernel_rfl) (by rw [HO.out]; kernel_rfl) (by rw [HO.out]; kernel_rfl) (by rw [HQ.out]; exact fun _ _ _ h => h) (Or.inl ⟨by first | rfl | (rw [HO.out]; kernel_rfl), ?_⟩) hS ?_
  · intro w' hSw
    obtain ⟨⟨q1, q2, q3⟩, ⟨q4, q5, q6⟩⟩ := SL.out _ hSw
    go_simp
  try simp only [Act.put, List.setIfInBounds_toArray, List.set_cons_zero, List.set_cons_succ]
  refine wpAnyH_take (i := 1) (v := .agg #[.int .u8 k1, .int .i64 n1, .string s1]) (by rw [HO.out]; simp only [List.getElem?_toArray, List.getElem?_cons_succ, List.getElem?_cons_zero]; rfl) (by rw [HO.out]; kernel_rfl) (by rw [HO.out]; kernel_rfl) (by rw [HO.out]; kernel_rfl) (by rw [HQ.out]; exact fun _ _ _ h => h) (Or.inl ⟨by first | rfl | (rw [HO.out]; kernel_rfl), ?_⟩) hS ?_
  · intro w' hSw
    obtain ⟨⟨q1, q2, q3⟩, ⟨q4, q5, q6⟩⟩ := SL.out _ hSw
    go_simp
  try simp only [Act.put, List.setIfInBounds_toArray, List.set_cons_zero, List.set_cons_succ]
  refine wpAnyH_take (i := 3) (v := .agg #[.int .u8 1, .int .i64 n0, .string s0]) (by rw [HO.out]; simp only [List.getElem?_toArray, List.getElem?_cons_succ, List.getElem?_cons_zero]; rfl) (by rw [HO.out]; kernel_rfl) (by rw [HO.out]; kernel_rfl) (by rw [HO.out]; kernel_rfl) (by rw [HQ.out]; exact fun _ _ _ h => h) (Or.inl ⟨by first | rfl | (rw [HO.out]; kernel_rfl), ?_⟩) hS ?_
  · intro w' hSw
    obtain ⟨⟨q1, q2, q3⟩, ⟨q4, q5, q6⟩⟩ := SL.out _ hSw
    go_simp
  try simp only [Act.put, List.setIfInBounds_toArray, List.set_cons_zero, List.set_cons_succ]
  refine wpAnyH_take (i := 4) (v := .agg #[.int .u8 k1, .int .i64 n1, .string s1]) (by rw [HO.out]; simp only [List.getElem?_toArray, List.getElem?_cons_succ, List.getElem?_cons_zero]; rfl) (by rw [HO.out]; kernel_rfl) (by rw [HO.out]; kernel_rfl) (by rw [HO.out]; kernel_rfl) (by rw [HQ.out]; exact fun _ _ _ h => h) (Or.inl ⟨by first | rfl | (rw [HO.out]; kernel_rfl), ?_⟩) hS ?_
  · intro w' hSw
    obtain ⟨⟨q1, q2, q3⟩, ⟨q4, q5, q6⟩⟩ := SL.out _ hSw
    go_simp
  try simp only [Act.put, List.setIfInBounds_toArray, List.set_cons_zero, List.set_cons_succ]
  refine wpAnyH_take (i := 6) (v := .agg #[.int .u8 1, .int .i64 n0, .string s0]) (by rw [HO.out]; simp only [List.getElem?_toArray, List.getElem?_cons_succ, List.getElem?_cons_zero]; rfl) (by rw [HO.out]; kernel_rfl) (by rw [HO.out]; kernel_rfl) (by rw [HO.out]; kernel_rfl) (by rw [HQ.out]; exact fun _ _ _ h => h) (Or.inl ⟨by first | rfl | (rw [HO.out]; kernel_rfl), ?_⟩) hS ?_
  · intro w' hSw
    obtain ⟨⟨q1, q2, q3⟩, ⟨q4, q5, q6⟩⟩ := SL.out _ hSw
    go_simp
  try simp only [Act.put, List.setIfInBounds_toArray, List.set_cons_zero, List.set_cons_succ]
  refine wpAnyH_take (i := 7) (v := .agg #[.int .u8 k1, .int .i64 n1, .string s1]) (by rw [HO.out]; simp only [List.getElem?_toArray, List.getElem?_cons_succ, List.getElem?_cons_zero]; rfl) (by rw [HO.out]; kernel_rfl) (by rw [HO.out]; kernel_rfl) (by rw [HO.out]; kernel_rfl) (by rw [HQ.out]; exact fun _ _ _ h => h) (Or.inl ⟨by first | rfl | (rw [HO.out]; kernel_rfl), ?_⟩) hS ?_
  · intro w' hSw
    obtain ⟨⟨q1, q2, q3⟩, ⟨q4, q5, q6⟩⟩ := SL.out _ hSw
    go_simp
  try simp only [Act.put, List.setIfInBounds_toArray, List.set_cons_zero, List.set_cons_succ]
  refine wpAnyH_one (i := 2) (x := 13) (R := fun v _ => v = .bool false) (by rw [HO.out]; simp only [List.getElem?_toArray, List.getElem?_cons_succ, List.getElem?_cons_zero]; rfl) (by rw [HO.out]; kernel_rfl) hS ?_ ?_
  · intro K hK
    simp only [Act.put, List.setIfInBounds_toArray, List.set_cons_zero, List.set_cons_succ] at hK
    unfold Steps
    rw [if_pos (by rw [HO.out]; kernel_rfl)]
    go_simp
    refine (C0 _).mono ?_
    rintro e w9 ⟨rfl, hb9⟩
    exact hK _ _ rfl hb9
  rintro v9 w9 hv9 hb9 hS9
  obtain rfl := hv9
  clear hb9
  replace hS := hS9
  clear hS9
  try simp only [Act.put, List.setIfInBounds_toArray, List.set_cons_zero, List.set_cons_succ]
  refine wpAnyH_one (i := 5) (x := 16) (R := fun v _ => v = .bool false) (by rw [HO.out]; simp only [List.getElem?_toArray, List.getElem?_cons_succ, List.getElem?_cons_zero]; rfl) (by rw [HO.out]; kernel_rfl) hS ?_ ?_
  · intro K hK
    simp only [Act.put, List.setIfInBounds_toArray, List.set_cons_zero, List.set_cons_succ] at hK
    unfold Steps
    rw [if_pos (by rw [HO.out]; kernel_rfl)]
    go_simp
    refine (C2 _).mono ?_
    rintro e w9 ⟨rfl, hb9⟩
    exact hK _ _ rfl hb9
  rintro v9 w9 hv9 hb9 hS9
  obtain rfl := hv9
  clear hb9
  replace hS := hS9
  clear hS9
  try simp only [Act.put, List.setIfInBounds_toArray, List.set_cons_zero, List.set_cons_succ]
  refine wpAnyH_one (i := 8) (x := 19) (R := fun v _ => v = .bool false) (by rw [HO.out]; simp only [List.getElem?_toArray, List.getElem?_cons_succ, List.getElem?_cons_zero]; rfl) (by rw [HO.out]; kernel_rfl) hS ?_ ?_
  · intro K hK
    simp only [Act.put, List.setIfInBounds_toArray, List.set_cons_zero, List.set_cons_succ] at hK
    unfold Steps
    rw [if_pos (by rw [HO.out]; kernel_rfl)]
    go_simp
    refine (C4 _).mono ?_
    rintro e w9 ⟨rfl, hb9⟩
    exact hK _ _ rfl hb9
  rintro v9 w9 hv9 hb9 hS9
  obtain rfl := hv9
  clear hb9
  replace hS := hS9
  clear hS9
  try simp only [Act.put, List.setIfInBounds_toArray, List.set_cons_zero, List.set_cons_succ]
  refine wpAnyH_take (i := 9) (v := .bool false) (by rw [HO.out]; simp only [List.getElem?_toArray, List.getElem?_cons_succ, List.getElem?_cons_zero]; rfl) (by rw [HO.out]; kernel_rfl) (by rw [HO.out]; kernel_rfl) (by rw [HO.out]; kernel_rfl) (by rw [HQ.out]; exact fun _ _ _ h => h) (Or.inl ⟨by first | rfl | (rw [HO.out]; kernel_rfl), ?_⟩) hS ?_
  · intro w' hSw
    go_simp
  try simp only [Act.put, List.setIfInBounds_toArray, List.set_cons_zero, List.set_cons_succ]
  refine wpAnyH_take (i := 10) (v := .bool false) (by rw [HO.out]; simp only [List.getElem?_toArray, List.getElem?_cons_succ, List.getElem?_cons_zero]; rfl) (by rw [HO.out]; kernel_rfl) (by rw [HO.out]; kernel_rfl) (by rw [HO.out]; kernel_rfl) (by rw [HQ.out]; exact fun _ _ _ h => h) (Or.inl ⟨by first | rfl | (rw [HO.out]; kernel_rfl), ?_⟩) hS ?_
  · intro w' hSw
    go_simp
  try simp only [Act.put, List.setIfInBounds_toArray, List.set_cons_zero, List.set_cons_succ]
  refine wpAnyH_take (i := 11) (v := .bool false) (by rw [HO.out]; simp only [List.getElem?_toArray, List.getElem?_cons_succ, List.getElem?_cons_zero]; rfl) (by rw [HO.out]; kernel_rfl) (by rw [HO.out]; kernel_rfl) (by rw [HO.out]; kernel_rfl) (by rw [HQ.out]; exact fun _ _ _ h => h) (Or.inl ⟨by first | rfl | (rw [HO.out]; kernel_rfl), ?_⟩) hS ?_
  · intro w' hSw
    go_simp
  try simp only [Act.put, List.setIfInBounds_toArray, List.set_cons_zero, List.set_cons_succ]
  refine wpAnyH_done (by rw [HO.out]; kernel_rfl) ?_ _
  rw [HQ.out]
  refine NoPanic.normal ?_
  go_wp2_with fail
  refine wp_region_noPanic ?_
  refine name_ops ?_
  intro O2 QQ2 HO2 HQ2
  refine wp_region_held_drew (S := fun W => Below W0.heap.size W0 W) (by kernel_rfl) (hS.trans (Below.refl _ _).drew) (fun hS => ?_)
  rw [show O2.size = 8 by rw [HO2.out]; rfl]
  refine wpAnyH_take (i := 0) (v := .agg #[.int .u8 1, .int .i64 n0, .string s0]) (by rw [HO2.out]; simp only [List.getElem?_toArray, List.getElem?_cons_succ, List.getElem?_cons_zero]; rfl) (by rw [HO2.out]; kernel_rfl) (by rw [HO2.out]; kernel_rfl) (by rw [HO2.out]; kernel_rfl) (by rw [HQ2.out]; exact fun _ _ _ h => h) (Or.inl ⟨by first | rfl | (rw [HO2.out]; kernel_rfl), ?_⟩) hS ?_
  · intro w' hSw
    obtain ⟨⟨q1, q2, q3⟩, ⟨q4, q5, q6⟩⟩ := SL.out _ hSw
    go_simp
  try simp only [Act.put, List.setIfInBounds_toArray, List.set_cons_zero, List.set_cons_succ]
  refine wpAnyH_take (i := 1) (v := .agg #[.int .u8 k1, .int .i64 n1, .string s1]) (by rw [HO2.out]; simp only [List.getElem?_toArray, List.getElem?_cons_succ, List.getElem?_cons_zero]; rfl) (by rw [HO2.out]; kernel_rfl) (by rw [HO2.out]; kernel_rfl) (by rw [HO2.out]; kernel_rfl) (by rw [HQ2.out]; exact fun _ _ _ h => h) (Or.inl ⟨by first | rfl | (rw [HO2.out]; kernel_rfl), ?_⟩) hS ?_
  · intro w' hSw
    obtain ⟨⟨q1, q2, q3⟩, ⟨q4, q5, q6⟩⟩ := SL.out _ hSw
    go_simp
  try simp only [Act.put, List.setIfInBounds_toArray, List.set_cons_zero, List.set_cons_succ]
  refine wpAnyH_take (i := 3) (v := .agg #[.int .u8 1, .int .i64 n0, .string s0]) (by rw [HO2.out]; simp only [List.getElem?_toArray, List.getElem?_cons_succ, List.getElem?_cons_zero]; rfl) (by rw [HO2.out]; kernel_rfl) (by rw [HO2.out]; kernel_rfl) (by rw [HO2.out]; kernel_rfl) (by rw [HQ2.out]; exact fun _ _ _ h => h) (Or.inl ⟨by first | rfl | (rw [HO2.out]; kernel_rfl), ?_⟩) hS ?_
  · intro w' hSw
    obtain ⟨⟨q1, q2, q3⟩, ⟨q4, q5, q6⟩⟩ := SL.out _ hSw
    go_simp
  try simp only [Act.put, List.setIfInBounds_toArray, List.set_cons_zero, List.set_cons_succ]
  refine wpAnyH_take (i := 4) (v := .agg #[.int .u8 k1, .int .i64 n1, .string s1]) (by rw [HO2.out]; simp only [List.getElem?_toArray, List.getElem?_cons_succ, List.getElem?_cons_zero]; rfl) (by rw [HO2.out]; kernel_rfl) (by rw [HO2.out]; kernel_rfl) (by rw [HO2.out]; kernel_rfl) (by rw [HQ2.out]; exact fun _ _ _ h => h) (Or.inl ⟨by first | rfl | (rw [HO2.out]; kernel_rfl), ?_⟩) hS ?_
  · intro w' hSw
    obtain ⟨⟨q1, q2, q3⟩, ⟨q4, q5, q6⟩⟩ := SL.out _ hSw
    go_simp
  try simp only [Act.put, List.setIfInBounds_toArray, List.set_cons_zero, List.set_cons_succ]
  refine wpAnyH_one (i := 2) (x := 22) (R := fun v _ => v = .bool false) (by rw [HO2.out]; simp only [List.getElem?_toArray, List.getElem?_cons_succ, List.getElem?_cons_zero]; rfl) (by rw [HO2.out]; kernel_rfl) hS ?_ ?_
  · intro K hK
    simp only [Act.put, List.setIfInBounds_toArray, List.set_cons_zero, List.set_cons_succ] at hK
    unfold Steps
    rw [if_pos (by rw [HO2.out]; kernel_rfl)]
    go_simp
    refine (C3 _).mono ?_
    rintro e w9 ⟨rfl, hb9⟩
    exact hK _ _ rfl hb9
  rintro v9 w9 hv9 hb9 hS9
  obtain rfl := hv9
  clear hb9
  replace hS := hS9
  clear hS9
  try simp only [Act.put, List.setIfInBounds_toArray, List.set_cons_zero, List.set_cons_succ]
  refine wpAnyH_one (i := 5) (x := 25) (R := fun v _ => v = .bool false) (by rw [HO2.out]; simp only [List.getElem?_toArray, List.getElem?_cons_succ, List.getElem?_cons_zero]; rfl) (by rw [HO2.out]; kernel_rfl) hS ?_ ?_
  · intro K hK
    simp only [Act.put, List.setIfInBounds_toArray, List.set_cons_zero, List.set_cons_succ] at hK
    unfold Steps
    rw [if_pos (by rw [HO2.out]; kernel_rfl)]
    go_simp
    refine (C5 _).mono ?_
    rintro e w9 ⟨rfl, hb9⟩
    exact hK _ _ rfl hb9
  rintro v9 w9 hv9 hb9 hS9
  obtain rfl := hv9
  clear hb9
  replace hS := hS9
  clear hS9
  try simp only [Act.put, List.setIfInBounds_toArray, List.set_cons_zero, List.set_cons_succ]
  refine wpAnyH_take (i := 6) (v := .bool false) (by rw [HO2.out]; simp only [List.getElem?_toArray, List.getElem?_cons_succ, List.getElem?_cons_zero]; rfl) (by rw [HO2.out]; kernel_rfl) (by rw [HO2.out]; kernel_rfl) (by rw [HO2.out]; kernel_rfl) (by rw [HQ2.out]; exact fun _ _ _ h => h) (Or.inl ⟨by first | rfl | (rw [HO2.out]; kernel_rfl), ?_⟩) hS ?_
  · intro w' hSw
    go_simp
  try simp only [Act.put, List.setIfInBounds_toArray, List.set_cons_zero, List.set_cons_succ]
  refine wpAnyH_take (i := 7) (v := .bool false) (by rw [HO2.out]; simp only [List.getElem?_toArray, List.getElem?_cons_succ, List.getElem?_cons_zero]; rfl) (by rw [HO2.out]; kernel_rfl) (by rw [HO2.out]; kernel_rfl) (by rw [HO2.out]; kernel_rfl) (by rw [HQ2.out]; exact fun _ _ _ h => h) (Or.inl ⟨by first | rfl | (rw [HO2.out]; kernel_rfl), ?_⟩) hS ?_
  · intro w' hSw
    go_simp
  try simp only [Act.put, List.setIfInBounds_toArray, List.set_cons_zero, List.set_cons_succ]
  refine wpAnyH_done (by rw [HO2.out]; kernel_rfl) ?_ _
  rw [HQ2.out]
  refine NoPanic.normal ?_
  obtain ⟨⟨q1, q2, q3⟩, ⟨q4, q5, q6⟩⟩ := SL.out _ hS
  go_wp2_with (first | (go_at_call 18; refine (C1 _).mono ?_; rintro e wa ⟨rfl, ha⟩; clear C1; have hS1 := bt hS ha; obtain ⟨⟨a1, a2, a3⟩, ⟨a4, a5, a6⟩⟩ := SL.out _ hS1) | (go_at_call 18; refine (CS _).mono ?_; rintro e wb ⟨rfl, hb⟩; clear CS; have hS2 := bt hS1 hb; obtain ⟨⟨b1, b2, b3⟩, ⟨b4, b5, b6⟩⟩ := SL.out _ hS2) | (go_at_call 9; refine (HA _ (HV.out _ hS2)).mono ?_; rintro e wz ⟨rfl, bz⟩; clear HA))
  go_ret
  exact ⟨rfl, bt (bt HB0.out hS2) bz⟩
set_option maxHeartbeats 8000000 in
theorem cc_true (n0 n1 : Int) (s0 s1 : ByteArray) (w : World) (hV : Vars w) (hn : n0 < n1) (C0 : ∀ W, Calls Tryd.prog 18 #[.int .u8 0, .agg #[.int .u8 1, .int .i64 n0, .string s0], .agg #[.int .u8 1, .int .i64 n1, .string s1]] W fun e w' => e = .returned (.bool true) ∧ Below W.heap.size W w') (C1 : ∀ W, Calls Tryd.prog 18 #[.int .u8 1, .agg #[.int .u8 1, .int .i64 n0, .string s0], .agg #[.int .u8 1, .int .i64 n1, .string s1]] W fun e w' => e = .returned (.bool false) ∧ Below W.heap.size W w') (C2 : ∀ W, Calls Tryd.prog 18 #[.int .u8 2, .agg #[.int .u8 1, .int .i64 n0, .string s0], .agg #[.int .u8 1, .int .i64 n1, .string s1]] W fun e w' => e = .returned (.bool true) ∧ Below W.heap.size W w') (C3 : ∀ W, Calls Tryd.prog 18 #[.int .u8 3, .agg #[.int .u8 1, .int .i64 n0, .string s0], .agg #[.int .u8 1, .int .i64 n1, .string s1]] W fun e w' => e = .returned (.bool true) ∧ Below W.heap.size W w') (C4 : ∀ W, Calls Tryd.prog 18 #[.int .u8 4, .agg #[.int .u8 1, .int .i64 n0, .string s0], .agg #[.int .u8 1, .int .i64 n1, .string s1]] W fun e w' => e = .returned (.bool false) ∧ Below W.heap.size W w') (C5 : ∀ W, Calls Tryd.prog 18 #[.int .u8 5, .agg #[.int .u8 1, .int .i64 n0, .string s0], .agg #[.int .u8 1, .int .i64 n1, .string s1]] W fun e w' => e = .returned (.bool false) ∧ Below W.heap.size W w') (CS : ∀ W, Calls Tryd.prog 18 #[.int .u8 4, .agg #[.int .u8 1, .int .i64 n1, .string s1], .agg #[.int .u8 1, .int .i64 n0, .string s0]] W fun e w' => e = .returned (.bool true) ∧ Below W.heap.size W w') : Calls Tryd.prog 7 #[.agg #[.int .u8 1, .int .i64 n0, .string s0], .agg #[.int .u8 1, .int .i64 n1, .string s1]] w fun e w' => e = .returned (.bool true) ∧ Below w.heap.size w w' := by
  have HA := awake_any
  have e1 : (n0 == n1) = false := by rw [beq_eq_false_iff_ne]; omega
  obtain ⟨W0, hW0⟩ : ∃ W0, W0 = (w.alloc (.cells #[.int .u8 1, .int .i64 n0, .string s0] 23)).alloc (.cells #[.int .u8 1, .int .i64 n1, .string s1] 23) := ⟨_, rfl⟩
  have HB0 : Hid (Below w.heap.size w W0) := by rw [hW0]; exact two_new _ _ _
  have SL : Hid (∀ W, Below W0.heap.size W0 W → (W.cell? ⟨w.heap.size, 0, none⟩ = some (.int .u8 1) ∧ W.cell? ⟨w.heap.size, 1, none⟩ = some (.int .i64 n0) ∧ W.cell? ⟨w.heap.size, 2, none⟩ = some (.string s0)) ∧ (W.cell? ⟨w.heap.size + 1, 0, none⟩ = some (.int .u8 1) ∧ W.cell? ⟨w.heap.size + 1, 1, none⟩ = some (.int .i64 n1) ∧ W.cell? ⟨w.heap.size + 1, 2, none⟩ = some (.string s1))) := fun W hW => by
    rw [hW0] at hW
    have b1 := ((Bk.new w 1 n0 s0).below (box1 _ _)).below hW
    have b2 := (Bk.new (w.alloc (.cells #[.int .u8 1, .int .i64 n0, .string s0] 23)) 1 n1 s1).below hW
    have c2 := b2.cells
    simp at c2
    exact ⟨b1.cells, c2⟩
  have HV : Hid (∀ W, Below W0.heap.size W0 W → Vars W) := fun W hW => (hV.below HB0.out).below hW
  go_enter Tryd.func7, Tryd.ntmps7
  go_wp2_with fail
  rw [← hW0]
  clear hW0 hV
  refine wp_region_noPanic ?_
  refine name_ops ?_
  intro O QQ HO HQ
  refine wp_region_held_drew (S := fun W => Below W0.heap.size W0 W) (by kernel_rfl) (Below.refl _ _).drew (fun hS => ?_)
  rw [show O.size = 12 by rw [HO.out]; rfl]
  refine wpAnyH_take (i := 0) (v := .agg #[.int .u8 1, .int .i64 n0, .string s0]) (by rw [HO.out]; simp only [List.getElem?_toArray, List.getElem?_cons_succ, List.getElem?_cons_zero]; rfl) (by rw [HO.out]; kernel_rfl) (by rw [HO.out]; kernel_rfl) (by rw [HO.out]; kernel_rfl) (by rw [HQ.out]; exact fun _ _ _ h => h) (Or.inl ⟨by first | rfl | (rw [HO.out]; kernel_rfl), ?_⟩) hS ?_
  · intro w' hSw
    obtain ⟨⟨q1, q2, q3⟩, ⟨q4, q5, q6⟩⟩ := SL.out _ hSw
    go_simp
  try simp only [Act.put, List.setIfInBounds_toArray, List.set_cons_zero, List.set_cons_succ]
  refine wpAnyH_take (i := 1) (v := .agg #[.int .u8 1, .int .i64 n1, .string s1]) (by rw [HO.out]; simp only [List.getElem?_toArray, List.getElem?_cons_succ, List.getElem?_cons_zero]; rfl) (by rw [HO.out]; kernel_rfl) (by rw [HO.out]; kernel_rfl) (by rw [HO.out]; kernel_rfl) (by rw [HQ.out]; exact fun _ _ _ h => h) (Or.inl ⟨by first | rfl | (rw [HO.out]; kernel_rfl), ?_⟩) hS ?_
  · intro w' hSw
    obtain ⟨⟨q1, q2, q3⟩, ⟨q4, q5, q6⟩⟩ := SL.out _ hSw
    go_simp
  try simp only [Act.put, List.setIfInBounds_toArray, List.set_cons_zero, List.set_cons_succ]
  refine wpAnyH_take (i := 3) (v := .agg #[.int .u8 1, .int .i64 n0, .string s0]) (by rw [HO.out]; simp only [List.getElem?_toArray, List.getElem?_cons_succ, List.getElem?_cons_zero]; rfl) (by rw [HO.out]; kernel_rfl) (by rw [HO.out]; kernel_rfl) (by rw [HO.out]; kernel_rfl) (by rw [HQ.out]; exact fun _ _ _ h => h) (Or.inl ⟨by first | rfl | (rw [HO.out]; kernel_rfl), ?_⟩) hS ?_
  · intro w' hSw
    obtain ⟨⟨q1, q2, q3⟩, ⟨q4, q5, q6⟩⟩ := SL.out _ hSw
    go_simp
  try simp only [Act.put, List.setIfInBounds_toArray, List.set_cons_zero, List.set_cons_succ]
  refine wpAnyH_take (i := 4) (v := .agg #[.int .u8 1, .int .i64 n1, .string s1]) (by rw [HO.out]; simp only [List.getElem?_toArray, List.getElem?_cons_succ, List.getElem?_cons_zero]; rfl) (by rw [HO.out]; kernel_rfl) (by rw [HO.out]; kernel_rfl) (by rw [HO.out]; kernel_rfl) (by rw [HQ.out]; exact fun _ _ _ h => h) (Or.inl ⟨by first | rfl | (rw [HO.out]; kernel_rfl), ?_⟩) hS ?_
  · intro w' hSw
    obtain ⟨⟨q1, q2, q3⟩, ⟨q4, q5, q6⟩⟩ := SL.out _ hSw
    go_simp
  try simp only [Act.put, List.setIfInBounds_toArray, List.set_cons_zero, List.set_cons_succ]
  refine wpAnyH_take (i := 6) (v := .agg #[.int .u8 1, .int .i64 n0, .string s0]) (by rw [HO.out]; simp only [List.getElem?_toArray, List.getElem?_cons_succ, List.getElem?_cons_zero]; rfl) (by rw [HO.out]; kernel_rfl) (by rw [HO.out]; kernel_rfl) (by rw [HO.out]; kernel_rfl) (by rw [HQ.out]; exact fun _ _ _ h => h) (Or.inl ⟨by first | rfl | (rw [HO.out]; kernel_rfl), ?_⟩) hS ?_
  · intro w' hSw
    obtain ⟨⟨q1, q2, q3⟩, ⟨q4, q5, q6⟩⟩ := SL.out _ hSw
    go_simp
  try simp only [Act.put, List.setIfInBounds_toArray, List.set_cons_zero, List.set_cons_succ]
  refine wpAnyH_take (i := 7) (v := .agg #[.int .u8 1, .int .i64 n1, .string s1]) (by rw [HO.out]; simp only [List.getElem?_toArray, List.getElem?_cons_succ, List.getElem?_cons_zero]; rfl) (by rw [HO.out]; kernel_rfl) (by rw [HO.out]; kernel_rfl) (by rw [HO.out]; kernel_rfl) (by rw [HQ.out]; exact fun _ _ _ h => h) (Or.inl ⟨by first | rfl | (rw [HO.out]; kernel_rfl), ?_⟩) hS ?_
  · intro w' hSw
    obtain ⟨⟨q1, q2, q3⟩, ⟨q4, q5, q6⟩⟩ := SL.out _ hSw
    go_simp
  try simp only [Act.put, List.setIfInBounds_toArray, List.set_cons_zero, List.set_cons_succ]
  refine wpAnyH_one (i := 2) (x := 13) (R := fun v _ => v = .bool true) (by rw [HO.out]; simp only [List.getElem?_toArray, List.getElem?_cons_succ, List.getElem?_cons_zero]; rfl) (by rw [HO.out]; kernel_rfl) hS ?_ ?_
  · intro K hK
    simp only [Act.put, List.setIfInBounds_toArray, List.set_cons_zero, List.set_cons_succ] at hK
    unfold Steps
    rw [if_pos (by rw [HO.out]; kernel_rfl)]
    go_simp
    refine (C0 _).mono ?_
    rintro e w9 ⟨rfl, hb9⟩
    exact hK _ _ rfl hb9
  rintro v9 w9 hv9 hb9 hS9
  obtain rfl := hv9
  clear hb9
  replace hS := hS9
  clear hS9
  try simp only [Act.put, List.setIfInBounds_toArray, List.set_cons_zero, List.set_cons_succ]
  refine wpAnyH_one (i := 5) (x := 16) (R := fun v _ => v = .bool true) (by rw [HO.out]; simp only [List.getElem?_toArray, List.getElem?_cons_succ, List.getElem?_cons_zero]; rfl) (by rw [HO.out]; kernel_rfl) hS ?_ ?_
  · intro K hK
    simp only [Act.put, List.setIfInBounds_toArray, List.set_cons_zero, List.set_cons_succ] at hK
    unfold Steps
    rw [if_pos (by rw [HO.out]; kernel_rfl)]
    go_simp
    refine (C2 _).mono ?_
    rintro e w9 ⟨rfl, hb9⟩
    exact hK _ _ rfl hb9
  rintro v9 w9 hv9 hb9 hS9
  obtain rfl := hv9
  clear hb9
  replace hS := hS9
  clear hS9
  try simp only [Act.put, List.setIfInBounds_toArray, List.set_cons_zero, List.set_cons_succ]
  refine wpAnyH_one (i := 8) (x := 19) (R := fun v _ => v = .bool false) (by rw [HO.out]; simp only [List.getElem?_toArray, List.getElem?_cons_succ, List.getElem?_cons_zero]; rfl) (by rw [HO.out]; kernel_rfl) hS ?_ ?_
  · intro K hK
    simp only [Act.put, List.setIfInBounds_toArray, List.set_cons_zero, List.set_cons_succ] at hK
    unfold Steps
    rw [if_pos (by rw [HO.out]; kernel_rfl)]
    go_simp
    refine (C4 _).mono ?_
    rintro e w9 ⟨rfl, hb9⟩
    exact hK _ _ rfl hb9
  rintro v9 w9 hv9 hb9 hS9
  obtain rfl := hv9
  clear hb9
  replace hS := hS9
  clear hS9
  try simp only [Act.put, List.setIfInBounds_toArray, List.set_cons_zero, List.set_cons_succ]
  refine wpAnyH_take (i := 9) (v := .bool true) (by rw [HO.out]; simp only [List.getElem?_toArray, List.getElem?_cons_succ, List.getElem?_cons_zero]; rfl) (by rw [HO.out]; kernel_rfl) (by rw [HO.out]; kernel_rfl) (by rw [HO.out]; kernel_rfl) (by rw [HQ.out]; exact fun _ _ _ h => h) (Or.inl ⟨by first | rfl | (rw [HO.out]; kernel_rfl), ?_⟩) hS ?_
  · intro w' hSw
    go_simp
  try simp only [Act.put, List.setIfInBounds_toArray, List.set_cons_zero, List.set_cons_succ]
  refine wpAnyH_take (i := 10) (v := .bool true) (by rw [HO.out]; simp only [List.getElem?_toArray, List.getElem?_cons_succ, List.getElem?_cons_zero]; rfl) (by rw [HO.out]; kernel_rfl) (by rw [HO.out]; kernel_rfl) (by rw [HO.out]; kernel_rfl) (by rw [HQ.out]; exact fun _ _ _ h => h) (Or.inl ⟨by first | rfl | (rw [HO.out]; kernel_rfl), ?_⟩) hS ?_
  · intro w' hSw
    go_simp
  try simp only [Act.put, List.setIfInBounds_toArray, List.set_cons_zero, List.set_cons_succ]
  refine wpAnyH_take (i := 11) (v := .bool false) (by rw [HO.out]; simp only [List.getElem?_toArray, List.getElem?_cons_succ, List.getElem?_cons_zero]; rfl) (by rw [HO.out]; kernel_rfl) (by rw [HO.out]; kernel_rfl) (by rw [HO.out]; kernel_rfl) (by rw [HQ.out]; exact fun _ _ _ h => h) (Or.inl ⟨by first | rfl | (rw [HO.out]; kernel_rfl), ?_⟩) hS ?_
  · intro w' hSw
    go_simp
  try simp only [Act.put, List.setIfInBounds_toArray, List.set_cons_zero, List.set_cons_succ]
  refine wpAnyH_done (by rw [HO.out]; kernel_rfl) ?_ _
  rw [HQ.out]
  refine NoPanic.normal ?_
  go_wp2_with fail
  refine wp_region_noPanic ?_
  refine name_ops ?_
  intro O2 QQ2 HO2 HQ2
  refine wp_region_held_drew (S := fun W => Below W0.heap.size W0 W) (by kernel_rfl) (hS.trans (Below.refl _ _).drew) (fun hS => ?_)
  rw [show O2.size = 8 by rw [HO2.out]; rfl]
  refine wpAnyH_take (i := 0) (v := .agg #[.int .u8 1, .int .i64 n0, .string s0]) (by rw [HO2.out]; simp only [List.getElem?_toArray, List.getElem?_cons_succ, List.getElem?_cons_zero]; rfl) (by rw [HO2.out]; kernel_rfl) (by rw [HO2.out]; kernel_rfl) (by rw [HO2.out]; kernel_rfl) (by rw [HQ2.out]; exact fun _ _ _ h => h) (Or.inl ⟨by first | rfl | (rw [HO2.out]; kernel_rfl), ?_⟩) hS ?_
  · intro w' hSw
    obtain ⟨⟨q1, q2, q3⟩, ⟨q4, q5, q6⟩⟩ := SL.out _ hSw
    go_simp
  try simp only [Act.put, List.setIfInBounds_toArray, List.set_cons_zero, List.set_cons_succ]
  refine wpAnyH_take (i := 1) (v := .agg #[.int .u8 1, .int .i64 n1, .string s1]) (by rw [HO2.out]; simp only [List.getElem?_toArray, List.getElem?_cons_succ, List.getElem?_cons_zero]; rfl) (by rw [HO2.out]; kernel_rfl) (by rw [HO2.out]; kernel_rfl) (by rw [HO2.out]; kernel_rfl) (by rw [HQ2.out]; exact fun _ _ _ h => h) (Or.inl ⟨by first | rfl | (rw [HO2.out]; kernel_rfl), ?_⟩) hS ?_
  · intro w' hSw
    obtain ⟨⟨q1, q2, q3⟩, ⟨q4, q5, q6⟩⟩ := SL.out _ hSw
    go_simp
  try simp only [Act.put, List.setIfInBounds_toArray, List.set_cons_zero, List.set_cons_succ]
  refine wpAnyH_take (i := 3) (v := .agg #[.int .u8 1, .int .i64 n0, .string s0]) (by rw [HO2.out]; simp only [List.getElem?_toArray, List.getElem?_cons_succ, List.getElem?_cons_zero]; rfl) (by rw [HO2.out]; kernel_rfl) (by rw [HO2.out]; kernel_rfl) (by rw [HO2.out]; kernel_rfl) (by rw [HQ2.out]; exact fun _ _ _ h => h) (Or.inl ⟨by first | rfl | (rw [HO2.out]; kernel_rfl), ?_⟩) hS ?_
  · intro w' hSw
    obtain ⟨⟨q1, q2, q3⟩, ⟨q4, q5, q6⟩⟩ := SL.out _ hSw
    go_simp
  try simp only [Act.put, List.setIfInBounds_toArray, List.set_cons_zero, List.set_cons_succ]
  refine wpAnyH_take (i := 4) (v := .agg #[.int .u8 1, .int .i64 n1, .string s1]) (by rw [HO2.out]; simp only [List.getElem?_toArray, List.getElem?_cons_succ, List.getElem?_cons_zero]; rfl) (by rw [HO2.out]; kernel_rfl) (by rw [HO2.out]; kernel_rfl) (by rw [HO2.out]; kernel_rfl) (by rw [HQ2.out]; exact fun _ _ _ h => h) (Or.inl ⟨by first | rfl | (rw [HO2.out]; kernel_rfl), ?_⟩) hS ?_
  · intro w' hSw
    obtain ⟨⟨q1, q2, q3⟩, ⟨q4, q5, q6⟩⟩ := SL.out _ hSw
    go_simp
  try simp only [Act.put, List.setIfInBounds_toArray, List.set_cons_zero, List.set_cons_succ]
  refine wpAnyH_one (i := 2) (x := 22) (R := fun v _ => v = .bool true) (by rw [HO2.out]; simp only [List.getElem?_toArray, List.getElem?_cons_succ, List.getElem?_cons_zero]; rfl) (by rw [HO2.out]; kernel_rfl) hS ?_ ?_
  · intro K hK
    simp only [Act.put, List.setIfInBounds_toArray, List.set_cons_zero, List.set_cons_succ] at hK
    unfold Steps
    rw [if_pos (by rw [HO2.out]; kernel_rfl)]
    go_simp
    refine (C3 _).mono ?_
    rintro e w9 ⟨rfl, hb9⟩
    exact hK _ _ rfl hb9
  rintro v9 w9 hv9 hb9 hS9
  obtain rfl := hv9
  clear hb9
  replace hS := hS9
  clear hS9
  try simp only [Act.put, List.setIfInBounds_toArray, List.set_cons_zero, List.set_cons_succ]
  refine wpAnyH_one (i := 5) (x := 25) (R := fun v _ => v = .bool false) (by rw [HO2.out]; simp only [List.getElem?_toArray, List.getElem?_cons_succ, List.getElem?_cons_zero]; rfl) (by rw [HO2.out]; kernel_rfl) hS ?_ ?_
  · intro K hK
    simp only [Act.put, List.setIfInBounds_toArray, List.set_cons_zero, List.set_cons_succ] at hK
    unfold Steps
    rw [if_pos (by rw [HO2.out]; kernel_rfl)]
    go_simp
    refine (C5 _).mono ?_
    rintro e w9 ⟨rfl, hb9⟩
    exact hK _ _ rfl hb9
  rintro v9 w9 hv9 hb9 hS9
  obtain rfl := hv9
  clear hb9
  replace hS := hS9
  clear hS9
  try simp only [Act.put, List.setIfInBounds_toArray, List.set_cons_zero, List.set_cons_succ]
  refine wpAnyH_take (i := 6) (v := .bool true) (by rw [HO2.out]; simp only [List.getElem?_toArray, List.getElem?_cons_succ, List.getElem?_cons_zero]; rfl) (by rw [HO2.out]; kernel_rfl) (by rw [HO2.out]; kernel_rfl) (by rw [HO2.out]; kernel_rfl) (by rw [HQ2.out]; exact fun _ _ _ h => h) (Or.inl ⟨by first | rfl | (rw [HO2.out]; kernel_rfl), ?_⟩) hS ?_
  · intro w' hSw
    go_simp
  try simp only [Act.put, List.setIfInBounds_toArray, List.set_cons_zero, List.set_cons_succ]
  refine wpAnyH_take (i := 7) (v := .bool false) (by rw [HO2.out]; simp only [List.getElem?_toArray, List.getElem?_cons_succ, List.getElem?_cons_zero]; rfl) (by rw [HO2.out]; kernel_rfl) (by rw [HO2.out]; kernel_rfl) (by rw [HO2.out]; kernel_rfl) (by rw [HQ2.out]; exact fun _ _ _ h => h) (Or.inl ⟨by first | rfl | (rw [HO2.out]; kernel_rfl), ?_⟩) hS ?_
  · intro w' hSw
    go_simp
  try simp only [Act.put, List.setIfInBounds_toArray, List.set_cons_zero, List.set_cons_succ]
  refine wpAnyH_done (by rw [HO2.out]; kernel_rfl) ?_ _
  rw [HQ2.out]
  refine NoPanic.normal ?_
  obtain ⟨⟨q1, q2, q3⟩, ⟨q4, q5, q6⟩⟩ := SL.out _ hS
  go_wp2_with (first | (go_at_call 18; refine (C1 _).mono ?_; rintro e wa ⟨rfl, ha⟩; clear C1; have hS1 := bt hS ha; obtain ⟨⟨a1, a2, a3⟩, ⟨a4, a5, a6⟩⟩ := SL.out _ hS1) | (go_at_call 18; refine (CS _).mono ?_; rintro e wb ⟨rfl, hb⟩; clear CS; have hS2 := bt hS1 hb; obtain ⟨⟨b1, b2, b3⟩, ⟨b4, b5, b6⟩⟩ := SL.out _ hS2) | (go_at_call 9; refine (HA _ (HV.out _ hS2)).mono ?_; rintro e wz ⟨rfl, bz⟩; clear HA))
  go_ret
  exact ⟨rfl, bt (bt HB0.out hS2) bz⟩
set_option maxHeartbeats 8000000 in
theorem cc_false (n0 n1 : Int) (s0 s1 : ByteArray) (w : World) (hV : Vars w) (hn : n0 < n1) (C0 : ∀ W, Calls Tryd.prog 18 #[.int .u8 0, .agg #[.int .u8 1, .int .i64 n0, .string s0], .agg #[.int .u8 1, .int .i64 n1, .string s1]] W fun e w' => e = .returned (.bool false) ∧ Below W.heap.size W w') (C1 : ∀ W, Calls Tryd.prog 18 #[.int .u8 1, .agg #[.int .u8 1, .int .i64 n0, .string s0], .agg #[.int .u8 1, .int .i64 n1, .string s1]] W fun e w' => e = .returned (.bool true) ∧ Below W.heap.size W w') (C2 : ∀ W, Calls Tryd.prog 18 #[.int .u8 2, .agg #[.int .u8 1, .int .i64 n0, .string s0], .agg #[.int .u8 1, .int .i64 n1, .string s1]] W fun e w' => e = .returned (.bool true) ∧ Below W.heap.size W w') (C3 : ∀ W, Calls Tryd.prog 18 #[.int .u8 3, .agg #[.int .u8 1, .int .i64 n0, .string s0], .agg #[.int .u8 1, .int .i64 n1, .string s1]] W fun e w' => e = .returned (.bool true) ∧ Below W.heap.size W w') (C4 : ∀ W, Calls Tryd.prog 18 #[.int .u8 4, .agg #[.int .u8 1, .int .i64 n0, .string s0], .agg #[.int .u8 1, .int .i64 n1, .string s1]] W fun e w' => e = .returned (.bool false) ∧ Below W.heap.size W w') (C5 : ∀ W, Calls Tryd.prog 18 #[.int .u8 5, .agg #[.int .u8 1, .int .i64 n0, .string s0], .agg #[.int .u8 1, .int .i64 n1, .string s1]] W fun e w' => e = .returned (.bool false) ∧ Below W.heap.size W w') (CS : ∀ W, Calls Tryd.prog 18 #[.int .u8 4, .agg #[.int .u8 1, .int .i64 n1, .string s1], .agg #[.int .u8 1, .int .i64 n0, .string s0]] W fun e w' => e = .returned (.bool true) ∧ Below W.heap.size W w') : Calls Tryd.prog 7 #[.agg #[.int .u8 1, .int .i64 n0, .string s0], .agg #[.int .u8 1, .int .i64 n1, .string s1]] w fun e w' => e = .returned (.bool true) ∧ Below w.heap.size w w' := by
  have HA := awake_any
  have e1 : (n0 == n1) = false := by rw [beq_eq_false_iff_ne]; omega
  obtain ⟨W0, hW0⟩ : ∃ W0, W0 = (w.alloc (.cells #[.int .u8 1, .int .i64 n0, .string s0] 23)).alloc (.cells #[.int .u8 1, .int .i64 n1, .string s1] 23) := ⟨_, rfl⟩
  have HB0 : Hid (Below w.heap.size w W0) := by rw [hW0]; exact two_new _ _ _
  have SL : Hid (∀ W, Below W0.heap.size W0 W → (W.cell? ⟨w.heap.size, 0, none⟩ = some (.int .u8 1) ∧ W.cell? ⟨w.heap.size, 1, none⟩ = some (.int .i64 n0) ∧ W.cell? ⟨w.heap.size, 2, none⟩ = some (.string s0)) ∧ (W.cell? ⟨w.heap.size + 1, 0, none⟩ = some (.int .u8 1) ∧ W.cell? ⟨w.heap.size + 1, 1, none⟩ = some (.int .i64 n1) ∧ W.cell? ⟨w.heap.size + 1, 2, none⟩ = some (.string s1))) := fun W hW => by
    rw [hW0] at hW
    have b1 := ((Bk.new w 1 n0 s0).below (box1 _ _)).below hW
    have b2 := (Bk.new (w.alloc (.cells #[.int .u8 1, .int .i64 n0, .string s0] 23)) 1 n1 s1).below hW
    have c2 := b2.cells
    simp at c2
    exact ⟨b1.cells, c2⟩
  have HV : Hid (∀ W, Below W0.heap.size W0 W → Vars W) := fun W hW => (hV.below HB0.out).below hW
  go_enter Tryd.func7, Tryd.ntmps7
  go_wp2_with fail
  rw [← hW0]
  clear hW0 hV
  refine wp_region_noPanic ?_
  refine name_ops ?_
  intro O QQ HO HQ
  refine wp_region_held_drew (S := fun W => Below W0.heap.size W0 W) (by kernel_rfl) (Below.refl _ _).drew (fun hS => ?_)
  rw [show O.size = 12 by rw [HO.out]; rfl]
  refine wpAnyH_take (i := 0) (v := .agg #[.int .u8 1, .int .i64 n0, .string s0]) (by rw [HO.out]; simp only [List.getElem?_toArray, List.getElem?_cons_succ, List.getElem?_cons_zero]; rfl) (by rw [HO.out]; kernel_rfl) (by rw [HO.out]; kernel_rfl) (by rw [HO.out]; kernel_rfl) (by rw [HQ.out]; exact fun _ _ _ h => h) (Or.inl ⟨by first | rfl | (rw [HO.out]; kernel_rfl), ?_⟩) hS ?_
  · intro w' hSw
    obtain ⟨⟨q1, q2, q3⟩, ⟨q4, q5, q6⟩⟩ := SL.out _ hSw
    go_simp
  try simp only [Act.put, List.setIfInBounds_toArray, List.set_cons_zero, List.set_cons_succ]
  refine wpAnyH_take (i := 1) (v := .agg #[.int .u8 1, .int .i64 n1, .string s1]) (by rw [HO.out]; simp only [List.getElem?_toArray, List.getElem?_cons_succ, List.getElem?_cons_zero]; rfl) (by rw [HO.out]; kernel_rfl) (by rw [HO.out]; kernel_rfl) (by rw [HO.out]; kernel_rfl) (by rw [HQ.out]; exact fun _ _ _ h => h) (Or.inl ⟨by first | rfl | (rw [HO.out]; kernel_rfl), ?_⟩) hS ?_
  · intro w' hSw
    obtain ⟨⟨q1, q2, q3⟩, ⟨q4, q5, q6⟩⟩ := SL.out _ hSw
    go_simp
  try simp only [Act.put, List.setIfInBounds_toArray, List.set_cons_zero, List.set_cons_succ]
  refine wpAnyH_take (i := 3) (v := .agg #[.int .u8 1, .int .i64 n0, .string s0]) (by rw [HO.out]; simp only [List.getElem?_toArray, List.getElem?_cons_succ, List.getElem?_cons_zero]; rfl) (by rw [HO.out]; kernel_rfl) (by rw [HO.out]; kernel_rfl) (by rw [HO.out]; kernel_rfl) (by rw [HQ.out]; exact fun _ _ _ h => h) (Or.inl ⟨by first | rfl | (rw [HO.out]; kernel_rfl), ?_⟩) hS ?_
  · intro w' hSw
    obtain ⟨⟨q1, q2, q3⟩, ⟨q4, q5, q6⟩⟩ := SL.out _ hSw
    go_simp
  try simp only [Act.put, List.setIfInBounds_toArray, List.set_cons_zero, List.set_cons_succ]
  refine wpAnyH_take (i := 4) (v := .agg #[.int .u8 1, .int .i64 n1, .string s1]) (by rw [HO.out]; simp only [List.getElem?_toArray, List.getElem?_cons_succ, List.getElem?_cons_zero]; rfl) (by rw [HO.out]; kernel_rfl) (by rw [HO.out]; kernel_rfl) (by rw [HO.out]; kernel_rfl) (by rw [HQ.out]; exact fun _ _ _ h => h) (Or.inl ⟨by first | rfl | (rw [HO.out]; kernel_rfl), ?_⟩) hS ?_
  · intro w' hSw
    obtain ⟨⟨q1, q2, q3⟩, ⟨q4, q5, q6⟩⟩ := SL.out _ hSw
    go_simp
  try simp only [Act.put, List.setIfInBounds_toArray, List.set_cons_zero, List.set_cons_succ]
  refine wpAnyH_take (i := 6) (v := .agg #[.int .u8 1, .int .i64 n0, .string s0]) (by rw [HO.out]; simp only [List.getElem?_toArray, List.getElem?_cons_succ, List.getElem?_cons_zero]; rfl) (by rw [HO.out]; kernel_rfl) (by rw [HO.out]; kernel_rfl) (by rw [HO.out]; kernel_rfl) (by rw [HQ.out]; exact fun _ _ _ h => h) (Or.inl ⟨by first | rfl | (rw [HO.out]; kernel_rfl), ?_⟩) hS ?_
  · intro w' hSw
    obtain ⟨⟨q1, q2, q3⟩, ⟨q4, q5, q6⟩⟩ := SL.out _ hSw
    go_simp
  try simp only [Act.put, List.setIfInBounds_toArray, List.set_cons_zero, List.set_cons_succ]
  refine wpAnyH_take (i := 7) (v := .agg #[.int .u8 1, .int .i64 n1, .string s1]) (by rw [HO.out]; simp only [List.getElem?_toArray, List.getElem?_cons_succ, List.getElem?_cons_zero]; rfl) (by rw [HO.out]; kernel_rfl) (by rw [HO.out]; kernel_rfl) (by rw [HO.out]; kernel_rfl) (by rw [HQ.out]; exact fun _ _ _ h => h) (Or.inl ⟨by first | rfl | (rw [HO.out]; kernel_rfl), ?_⟩) hS ?_
  · intro w' hSw
    obtain ⟨⟨q1, q2, q3⟩, ⟨q4, q5, q6⟩⟩ := SL.out _ hSw
    go_simp
  try simp only [Act.put, List.setIfInBounds_toArray, List.set_cons_zero, List.set_cons_succ]
  refine wpAnyH_one (i := 2) (x := 13) (R := fun v _ => v = .bool false) (by rw [HO.out]; simp only [List.getElem?_toArray, List.getElem?_cons_succ, List.getElem?_cons_zero]; rfl) (by rw [HO.out]; kernel_rfl) hS ?_ ?_
  · intro K hK
    simp only [Act.put, List.setIfInBounds_toArray, List.set_cons_zero, List.set_cons_succ] at hK
    unfold Steps
    rw [if_pos (by rw [HO.out]; kernel_rfl)]
    go_simp
    refine (C0 _).mono ?_
    rintro e w9 ⟨rfl, hb9⟩
    exact hK _ _ rfl hb9
  rintro v9 w9 hv9 hb9 hS9
  obtain rfl := hv9
  clear hb9
  replace hS := hS9
  clear hS9
  try simp only [Act.put, List.setIfInBounds_toArray, List.set_cons_zero, List.set_cons_succ]
  refine wpAnyH_one (i := 5) (x := 16) (R := fun v _ => v = .bool true) (by rw [HO.out]; simp only [List.getElem?_toArray, List.getElem?_cons_succ, List.getElem?_cons_zero]; rfl) (by rw [HO.out]; kernel_rfl) hS ?_ ?_
  · intro K hK
    simp only [Act.put, List.setIfInBounds_toArray, List.set_cons_zero, List.set_cons_succ] at hK
    unfold Steps
    rw [if_pos (by rw [HO.out]; kernel_rfl)]
    go_simp
    refine (C2 _).mono ?_
    rintro e w9 ⟨rfl, hb9⟩
    exact hK _ _ rfl hb9
  rintro v9 w9 hv9 hb9 hS9
  obtain rfl := hv9
  clear hb9
  replace hS := hS9
  clear hS9
  try simp only [Act.put, List.setIfInBounds_toArray, List.set_cons_zero, List.set_cons_succ]
  refine wpAnyH_one (i := 8) (x := 19) (R := fun v _ => v = .bool false) (by rw [HO.out]; simp only [List.getElem?_toArray, List.getElem?_cons_succ, List.getElem?_cons_zero]; rfl) (by rw [HO.out]; kernel_rfl) hS ?_ ?_
  · intro K hK
    simp only [Act.put, List.setIfInBounds_toArray, List.set_cons_zero, List.set_cons_succ] at hK
    unfold Steps
    rw [if_pos (by rw [HO.out]; kernel_rfl)]
    go_simp
    refine (C4 _).mono ?_
    rintro e w9 ⟨rfl, hb9⟩
    exact hK _ _ rfl hb9
  rintro v9 w9 hv9 hb9 hS9
  obtain rfl := hv9
  clear hb9
  replace hS := hS9
  clear hS9
  try simp only [Act.put, List.setIfInBounds_toArray, List.set_cons_zero, List.set_cons_succ]
  refine wpAnyH_take (i := 9) (v := .bool false) (by rw [HO.out]; simp only [List.getElem?_toArray, List.getElem?_cons_succ, List.getElem?_cons_zero]; rfl) (by rw [HO.out]; kernel_rfl) (by rw [HO.out]; kernel_rfl) (by rw [HO.out]; kernel_rfl) (by rw [HQ.out]; exact fun _ _ _ h => h) (Or.inl ⟨by first | rfl | (rw [HO.out]; kernel_rfl), ?_⟩) hS ?_
  · intro w' hSw
    go_simp
  try simp only [Act.put, List.setIfInBounds_toArray, List.set_cons_zero, List.set_cons_succ]
  refine wpAnyH_take (i := 10) (v := .bool true) (by rw [HO.out]; simp only [List.getElem?_toArray, List.getElem?_cons_succ, List.getElem?_cons_zero]; rfl) (by rw [HO.out]; kernel_rfl) (by rw [HO.out]; kernel_rfl) (by rw [HO.out]; kernel_rfl) (by rw [HQ.out]; exact fun _ _ _ h => h) (Or.inl ⟨by first | rfl | (rw [HO.out]; kernel_rfl), ?_⟩) hS ?_
  · intro w' hSw
    go_simp
  try simp only [Act.put, List.setIfInBounds_toArray, List.set_cons_zero, List.set_cons_succ]
  refine wpAnyH_take (i := 11) (v := .bool false) (by rw [HO.out]; simp only [List.getElem?_toArray, List.getElem?_cons_succ, List.getElem?_cons_zero]; rfl) (by rw [HO.out]; kernel_rfl) (by rw [HO.out]; kernel_rfl) (by rw [HO.out]; kernel_rfl) (by rw [HQ.out]; exact fun _ _ _ h => h) (Or.inl ⟨by first | rfl | (rw [HO.out]; kernel_rfl), ?_⟩) hS ?_
  · intro w' hSw
    go_simp
  try simp only [Act.put, List.setIfInBounds_toArray, List.set_cons_zero, List.set_cons_succ]
  refine wpAnyH_done (by rw [HO.out]; kernel_rfl) ?_ _
  rw [HQ.out]
  refine NoPanic.normal ?_
  go_wp2_with fail
  refine wp_region_noPanic ?_
  refine name_ops ?_
  intro O2 QQ2 HO2 HQ2
  refine wp_region_held_drew (S := fun W => Below W0.heap.size W0 W) (by kernel_rfl) (hS.trans (Below.refl _ _).drew) (fun hS => ?_)
  rw [show O2.size = 8 by rw [HO2.out]; rfl]
  refine wpAnyH_take (i := 0) (v := .agg #[.int .u8 1, .int .i64 n0, .string s0]) (by rw [HO2.out]; simp only [List.getElem?_toArray, List.getElem?_cons_succ, List.getElem?_cons_zero]; rfl) (by rw [HO2.out]; kernel_rfl) (by rw [HO2.out]; kernel_rfl) (by rw [HO2.out]; kernel_rfl) (by rw [HQ2.out]; exact fun _ _ _ h => h) (Or.inl ⟨by first | rfl | (rw [HO2.out]; kernel_rfl), ?_⟩) hS ?_
  · intro w' hSw
    obtain ⟨⟨q1, q2, q3⟩, ⟨q4, q5, q6⟩⟩ := SL.out _ hSw
    go_simp
  try simp only [Act.put, List.setIfInBounds_toArray, List.set_cons_zero, List.set_cons_succ]
  refine wpAnyH_take (i := 1) (v := .agg #[.int .u8 1, .int .i64 n1, .string s1]) (by rw [HO2.out]; simp only [List.getElem?_toArray, List.getElem?_cons_succ, List.getElem?_cons_zero]; rfl) (by rw [HO2.out]; kernel_rfl) (by rw [HO2.out]; kernel_rfl) (by rw [HO2.out]; kernel_rfl) (by rw [HQ2.out]; exact fun _ _ _ h => h) (Or.inl ⟨by first | rfl | (rw [HO2.out]; kernel_rfl), ?_⟩) hS ?_
  · intro w' hSw
    obtain ⟨⟨q1, q2, q3⟩, ⟨q4, q5, q6⟩⟩ := SL.out _ hSw
    go_simp
  try simp only [Act.put, List.setIfInBounds_toArray, List.set_cons_zero, List.set_cons_succ]
  refine wpAnyH_take (i := 3) (v := .agg #[.int .u8 1, .int .i64 n0, .string s0]) (by rw [HO2.out]; simp only [List.getElem?_toArray, List.getElem?_cons_succ, List.getElem?_cons_zero]; rfl) (by rw [HO2.out]; kernel_rfl) (by rw [HO2.out]; kernel_rfl) (by rw [HO2.out]; kernel_rfl) (by rw [HQ2.out]; exact fun _ _ _ h => h) (Or.inl ⟨by first | rfl | (rw [HO2.out]; kernel_rfl), ?_⟩) hS ?_
  · intro w' hSw
    obtain ⟨⟨q1, q2, q3⟩, ⟨q4, q5, q6⟩⟩ := SL.out _ hSw
    go_simp
  try simp only [Act.put, List.setIfInBounds_toArray, List.set_cons_zero, List.set_cons_succ]
  refine wpAnyH_take (i := 4) (v := .agg #[.int .u8 1, .int .i64 n1, .string s1]) (by rw [HO2.out]; simp only [List.getElem?_toArray, List.getElem?_cons_succ, List.getElem?_cons_zero]; rfl) (by rw [HO2.out]; kernel_rfl) (by rw [HO2.out]; kernel_rfl) (by rw [HO2.out]; kernel_rfl) (by rw [HQ2.out]; exact fun _ _ _ h => h) (Or.inl ⟨by first | rfl | (rw [HO2.out]; kernel_rfl), ?_⟩) hS ?_
  · intro w' hSw
    obtain ⟨⟨q1, q2, q3⟩, ⟨q4, q5, q6⟩⟩ := SL.out _ hSw
    go_simp
  try simp only [Act.put, List.setIfInBounds_toArray, List.set_cons_zero, List.set_cons_succ]
  refine wpAnyH_one (i := 2) (x := 22) (R := fun v _ => v = .bool true) (by rw [HO2.out]; simp only [List.getElem?_toArray, List.getElem?_cons_succ, List.getElem?_cons_zero]; rfl) (by rw [HO2.out]; kernel_rfl) hS ?_ ?_
  · intro K hK
    simp only [Act.put, List.setIfInBounds_toArray, List.set_cons_zero, List.set_cons_succ] at hK
    unfold Steps
    rw [if_pos (by rw [HO2.out]; kernel_rfl)]
    go_simp
    refine (C3 _).mono ?_
    rintro e w9 ⟨rfl, hb9⟩
    exact hK _ _ rfl hb9
  rintro v9 w9 hv9 hb9 hS9
  obtain rfl := hv9
  clear hb9
  replace hS := hS9
  clear hS9
  try simp only [Act.put, List.setIfInBounds_toArray, List.set_cons_zero, List.set_cons_succ]
  refine wpAnyH_one (i := 5) (x := 25) (R := fun v _ => v = .bool false) (by rw [HO2.out]; simp only [List.getElem?_toArray, List.getElem?_cons_succ, List.getElem?_cons_zero]; rfl) (by rw [HO2.out]; kernel_rfl) hS ?_ ?_
  · intro K hK
    simp only [Act.put, List.setIfInBounds_toArray, List.set_cons_zero, List.set_cons_succ] at hK
    unfold Steps
    rw [if_pos (by rw [HO2.out]; kernel_rfl)]
    go_simp
    refine (C5 _).mono ?_
    rintro e w9 ⟨rfl, hb9⟩
    exact hK _ _ rfl hb9
  rintro v9 w9 hv9 hb9 hS9
  obtain rfl := hv9
  clear hb9
  replace hS := hS9
  clear hS9
  try simp only [Act.put, List.setIfInBounds_toArray, List.set_cons_zero, List.set_cons_succ]
  refine wpAnyH_take (i := 6) (v := .bool true) (by rw [HO2.out]; simp only [List.getElem?_toArray, List.getElem?_cons_succ, List.getElem?_cons_zero]; rfl) (by rw [HO2.out]; kernel_rfl) (by rw [HO2.out]; kernel_rfl) (by rw [HO2.out]; kernel_rfl) (by rw [HQ2.out]; exact fun _ _ _ h => h) (Or.inl ⟨by first | rfl | (rw [HO2.out]; kernel_rfl), ?_⟩) hS ?_
  · intro w' hSw
    go_simp
  try simp only [Act.put, List.setIfInBounds_toArray, List.set_cons_zero, List.set_cons_succ]
  refine wpAnyH_take (i := 7) (v := .bool false) (by rw [HO2.out]; simp only [List.getElem?_toArray, List.getElem?_cons_succ, List.getElem?_cons_zero]; rfl) (by rw [HO2.out]; kernel_rfl) (by rw [HO2.out]; kernel_rfl) (by rw [HO2.out]; kernel_rfl) (by rw [HQ2.out]; exact fun _ _ _ h => h) (Or.inl ⟨by first | rfl | (rw [HO2.out]; kernel_rfl), ?_⟩) hS ?_
  · intro w' hSw
    go_simp
  try simp only [Act.put, List.setIfInBounds_toArray, List.set_cons_zero, List.set_cons_succ]
  refine wpAnyH_done (by rw [HO2.out]; kernel_rfl) ?_ _
  rw [HQ2.out]
  refine NoPanic.normal ?_
  obtain ⟨⟨q1, q2, q3⟩, ⟨q4, q5, q6⟩⟩ := SL.out _ hS
  go_wp2_with (first | (go_at_call 18; refine (C1 _).mono ?_; rintro e wa ⟨rfl, ha⟩; clear C1; have hS1 := bt hS ha; obtain ⟨⟨a1, a2, a3⟩, ⟨a4, a5, a6⟩⟩ := SL.out _ hS1) | (go_at_call 18; refine (CS _).mono ?_; rintro e wb ⟨rfl, hb⟩; clear CS; have hS2 := bt hS1 hb; obtain ⟨⟨b1, b2, b3⟩, ⟨b4, b5, b6⟩⟩ := SL.out _ hS2) | (go_at_call 9; refine (HA _ (HV.out _ hS2)).mono ?_; rintro e wz ⟨rfl, bz⟩; clear HA))
  go_ret
  exact ⟨rfl, bt (bt HB0.out hS2) bz⟩
set_option maxHeartbeats 8000000 in
theorem cd_true (n0 : Int) (s0 s1 : ByteArray) (w : World) (hV : Vars w) (C0 : ∀ W, Calls Tryd.prog 18 #[.int .u8 0, .agg #[.int .u8 1, .int .i64 n0, .string s0], .agg #[.int .u8 1, .int .i64 n0, .string s1]] W fun e w' => e = .returned (.bool true) ∧ Below W.heap.size W w') (C1 : ∀ W, Calls Tryd.prog 18 #[.int .u8 1, .agg #[.int .u8 1, .int .i64 n0, .string s0], .agg #[.int .u8 1, .int .i64 n0, .string s1]] W fun e w' => e = .returned (.bool false) ∧ Below W.heap.size W w') (C2 : ∀ W, Calls Tryd.prog 18 #[.int .u8 2, .agg #[.int .u8 1, .int .i64 n0, .string s0], .agg #[.int .u8 1, .int .i64 n0, .string s1]] W fun e w' => e = .returned (.bool false) ∧ Below W.heap.size W w') (C3 : ∀ W, Calls Tryd.prog 18 #[.int .u8 3, .agg #[.int .u8 1, .int .i64 n0, .string s0], .agg #[.int .u8 1, .int .i64 n0, .string s1]] W fun e w' => e = .returned (.bool true) ∧ Below W.heap.size W w') (C4 : ∀ W, Calls Tryd.prog 18 #[.int .u8 4, .agg #[.int .u8 1, .int .i64 n0, .string s0], .agg #[.int .u8 1, .int .i64 n0, .string s1]] W fun e w' => e = .returned (.bool false) ∧ Below W.heap.size W w') (C5 : ∀ W, Calls Tryd.prog 18 #[.int .u8 5, .agg #[.int .u8 1, .int .i64 n0, .string s0], .agg #[.int .u8 1, .int .i64 n0, .string s1]] W fun e w' => e = .returned (.bool true) ∧ Below W.heap.size W w') (CS : ∀ W, Calls Tryd.prog 18 #[.int .u8 4, .agg #[.int .u8 1, .int .i64 n0, .string s1], .agg #[.int .u8 1, .int .i64 n0, .string s0]] W fun e w' => e = .returned (.bool false) ∧ Below W.heap.size W w') : Calls Tryd.prog 7 #[.agg #[.int .u8 1, .int .i64 n0, .string s0], .agg #[.int .u8 1, .int .i64 n0, .string s1]] w fun e w' => e = .returned (.bool true) ∧ Below w.heap.size w w' := by
  have HA := awake_any
  obtain ⟨W0, hW0⟩ : ∃ W0, W0 = (w.alloc (.cells #[.int .u8 1, .int .i64 n0, .string s0] 23)).alloc (.cells #[.int .u8 1, .int .i64 n0, .string s1] 23) := ⟨_, rfl⟩
  have HB0 : Hid (Below w.heap.size w W0) := by rw [hW0]; exact two_new _ _ _
  have SL : Hid (∀ W, Below W0.heap.size W0 W → (W.cell? ⟨w.heap.size, 0, none⟩ = some (.int .u8 1) ∧ W.cell? ⟨w.heap.size, 1, none⟩ = some (.int .i64 n0) ∧ W.cell? ⟨w.heap.size, 2, none⟩ = some (.string s0)) ∧ (W.cell? ⟨w.heap.size + 1, 0, none⟩ = some (.int .u8 1) ∧ W.cell? ⟨w.heap.size + 1, 1, none⟩ = some (.int .i64 n0) ∧ W.cell? ⟨w.heap.size + 1, 2, none⟩ = some (.string s1))) := fun W hW => by
    rw [hW0] at hW
    have b1 := ((Bk.new w 1 n0 s0).below (box1 _ _)).below hW
    have b2 := (Bk.new (w.alloc (.cells #[.int .u8 1, .int .i64 n0, .string s0] 23)) 1 n0 s1).below hW
    have c2 := b2.cells
    simp at c2
    exact ⟨b1.cells, c2⟩
  have HV : Hid (∀ W, Below W0.heap.size W0 W → Vars W) := fun W hW => (hV.below HB0.out).below hW
  go_enter Tryd.func7, Tryd.ntmps7
  go_wp2_with fail
  rw [← hW0]
  clear hW0 hV
  refine wp_region_noPanic ?_
  refine name_ops ?_
  intro O QQ HO HQ
  refine wp_region_held_drew (S := fun W => Below W0.heap.size W0 W) (by kernel_rfl) (Below.refl _ _).drew (fun hS => ?_)
  rw [show O.size = 12 by rw [HO.out]; rfl]
  refine wpAnyH_take (i := 0) (v := .agg #[.int .u8 1, .int .i64 n0, .string s0]) (by rw [HO.out]; simp only [List.getElem?_toArray, List.getElem?_cons_succ, List.getElem?_cons_zero]; rfl) (by rw [HO.out]; kernel_rfl) (by rw [HO.out]; kernel_rfl) (by rw [HO.out]; kernel_rfl) (by rw [HQ.out]; exact fun _ _ _ h => h) (Or.inl ⟨by first | rfl | (rw [HO.out]; kernel_rfl), ?_⟩) hS ?_
  · intro w' hSw
    obtain ⟨⟨q1, q2, q3⟩, ⟨q4, q5, q6⟩⟩ := SL.out _ hSw
    go_simp
  try simp only [Act.put, List.setIfInBounds_toArray, List.set_cons_zero, List.set_cons_succ]
  refine wpAnyH_take (i := 1) (v := .agg #[.int .u8 1, .int .i64 n0, .string s1]) (by rw [HO.out]; simp only [List.getElem?_toArray, List.getElem?_cons_succ, List.getElem?_cons_zero]; rfl) (by rw [HO.out]; kernel_rfl) (by rw [HO.out]; kernel_rfl) (by rw [HO.out]; kernel_rfl) (by rw [HQ.out]; exact fun _ _ _ h => h) (Or.inl ⟨by first | rfl | (rw [HO.out]; kernel_rfl), ?_⟩) hS ?_
  · intro w' hSw
    obtain ⟨⟨q1, q2, q3⟩, ⟨q4, q5, q6⟩⟩ := SL.out _ hSw
    go_simp
  try simp only [Act.put, List.setIfInBounds_toArray, List.set_cons_zero, List.set_cons_succ]
  refine wpAnyH_take (i := 3) (v := .agg #[.int .u8 1, .int .i64 n0, .string s0]) (by rw [HO.out]; simp only [List.getElem?_toArray, List.getElem?_cons_succ, List.getElem?_cons_zero]; rfl) (by rw [HO.out]; kernel_rfl) (by rw [HO.out]; kernel_rfl) (by rw [HO.out]; kernel_rfl) (by rw [HQ.out]; exact fun _ _ _ h => h) (Or.inl ⟨by first | rfl | (rw [HO.out]; kernel_rfl), ?_⟩) hS ?_
  · intro w' hSw
    obtain ⟨⟨q1, q2, q3⟩, ⟨q4, q5, q6⟩⟩ := SL.out _ hSw
    go_simp
  try simp only [Act.put, List.setIfInBounds_toArray, List.set_cons_zero, List.set_cons_succ]
  refine wpAnyH_take (i := 4) (v := .agg #[.int .u8 1, .int .i64 n0, .string s1]) (by rw [HO.out]; simp only [List.getElem?_toArray, List.getElem?_cons_succ, List.getElem?_cons_zero]; rfl) (by rw [HO.out]; kernel_rfl) (by rw [HO.out]; kernel_rfl) (by rw [HO.out]; kernel_rfl) (by rw [HQ.out]; exact fun _ _ _ h => h) (Or.inl ⟨by first | rfl | (rw [HO.out]; kernel_rfl), ?_⟩) hS ?_
  · intro w' hSw
    obtain ⟨⟨q1, q2, q3⟩, ⟨q4, q5, q6⟩⟩ := SL.out _ hSw
    go_simp
  try simp only [Act.put, List.setIfInBounds_toArray, List.set_cons_zero, List.set_cons_succ]
  refine wpAnyH_take (i := 6) (v := .agg #[.int .u8 1, .int .i64 n0, .string s0]) (by rw [HO.out]; simp only [List.getElem?_toArray, List.getElem?_cons_succ, List.getElem?_cons_zero]; rfl) (by rw [HO.out]; kernel_rfl) (by rw [HO.out]; kernel_rfl) (by rw [HO.out]; kernel_rfl) (by rw [HQ.out]; exact fun _ _ _ h => h) (Or.inl ⟨by first | rfl | (rw [HO.out]; kernel_rfl), ?_⟩) hS ?_
  · intro w' hSw
    obtain ⟨⟨q1, q2, q3⟩, ⟨q4, q5, q6⟩⟩ := SL.out _ hSw
    go_simp
  try simp only [Act.put, List.setIfInBounds_toArray, List.set_cons_zero, List.set_cons_succ]
  refine wpAnyH_take (i := 7) (v := .agg #[.int .u8 1, .int .i64 n0, .string s1]) (by rw [HO.out]; simp only [List.getElem?_toArray, List.getElem?_cons_succ, List.getElem?_cons_zero]; rfl) (by rw [HO.out]; kernel_rfl) (by rw [HO.out]; kernel_rfl) (by rw [HO.out]; kernel_rfl) (by rw [HQ.out]; exact fun _ _ _ h => h) (Or.inl ⟨by first | rfl | (rw [HO.out]; kernel_rfl), ?_⟩) hS ?_
  · intro w' hSw
    obtain ⟨⟨q1, q2, q3⟩, ⟨q4, q5, q6⟩⟩ := SL.out _ hSw
    go_simp
  try simp only [Act.put, List.setIfInBounds_toArray, List.set_cons_zero, List.set_cons_succ]
  refine wpAnyH_one (i := 2) (x := 13) (R := fun v _ => v = .bool true) (by rw [HO.out]; simp only [List.getElem?_toArray, List.getElem?_cons_succ, List.getElem?_cons_zero]; rfl) (by rw [HO.out]; kernel_rfl) hS ?_ ?_
  · intro K hK
    simp only [Act.put, List.setIfInBounds_toArray, List.set_cons_zero, List.set_cons_succ] at hK
    unfold Steps
    rw [if_pos (by rw [HO.out]; kernel_rfl)]
    go_simp
    refine (C0 _).mono ?_
    rintro e w9 ⟨rfl, hb9⟩
    exact hK _ _ rfl hb9
  rintro v9 w9 hv9 hb9 hS9
  obtain rfl := hv9
  clear hb9
  replace hS := hS9
  clear hS9
  try simp only [Act.put, List.setIfInBounds_toArray, List.set_cons_zero, List.set_cons_succ]
  refine wpAnyH_one (i := 5) (x := 16) (R := fun v _ => v = .bool false) (by rw [HO.out]; simp only [List.getElem?_toArray, List.getElem?_cons_succ, List.getElem?_cons_zero]; rfl) (by rw [HO.out]; kernel_rfl) hS ?_ ?_
  · intro K hK
    simp only [Act.put, List.setIfInBounds_toArray, List.set_cons_zero, List.set_cons_succ] at hK
    unfold Steps
    rw [if_pos (by rw [HO.out]; kernel_rfl)]
    go_simp
    refine (C2 _).mono ?_
    rintro e w9 ⟨rfl, hb9⟩
    exact hK _ _ rfl hb9
  rintro v9 w9 hv9 hb9 hS9
  obtain rfl := hv9
  clear hb9
  replace hS := hS9
  clear hS9
  try simp only [Act.put, List.setIfInBounds_toArray, List.set_cons_zero, List.set_cons_succ]
  refine wpAnyH_one (i := 8) (x := 19) (R := fun v _ => v = .bool false) (by rw [HO.out]; simp only [List.getElem?_toArray, List.getElem?_cons_succ, List.getElem?_cons_zero]; rfl) (by rw [HO.out]; kernel_rfl) hS ?_ ?_
  · intro K hK
    simp only [Act.put, List.setIfInBounds_toArray, List.set_cons_zero, List.set_cons_succ] at hK
    unfold Steps
    rw [if_pos (by rw [HO.out]; kernel_rfl)]
    go_simp
    refine (C4 _).mono ?_
    rintro e w9 ⟨rfl, hb9⟩
    exact hK _ _ rfl hb9
  rintro v9 w9 hv9 hb9 hS9
  obtain rfl := hv9
  clear hb9
  replace hS := hS9
  clear hS9
  try simp only [Act.put, List.setIfInBounds_toArray, List.set_cons_zero, List.set_cons_succ]
  refine wpAnyH_take (i := 9) (v := .bool true) (by rw [HO.out]; simp only [List.getElem?_toArray, List.getElem?_cons_succ, List.getElem?_cons_zero]; rfl) (by rw [HO.out]; kernel_rfl) (by rw [HO.out]; kernel_rfl) (by rw [HO.out]; kernel_rfl) (by rw [HQ.out]; exact fun _ _ _ h => h) (Or.inl ⟨by first | rfl | (rw [HO.out]; kernel_rfl), ?_⟩) hS ?_
  · intro w' hSw
    go_simp
  try simp only [Act.put, List.setIfInBounds_toArray, List.set_cons_zero, List.set_cons_succ]
  refine wpAnyH_take (i := 10) (v := .bool false) (by rw [HO.out]; simp only [List.getElem?_toArray, List.getElem?_cons_succ, List.getElem?_cons_zero]; rfl) (by rw [HO.out]; kernel_rfl) (by rw [HO.out]; kernel_rfl) (by rw [HO.out]; kernel_rfl) (by rw [HQ.out]; exact fun _ _ _ h => h) (Or.inl ⟨by first | rfl | (rw [HO.out]; kernel_rfl), ?_⟩) hS ?_
  · intro w' hSw
    go_simp
  try simp only [Act.put, List.setIfInBounds_toArray, List.set_cons_zero, List.set_cons_succ]
  refine wpAnyH_take (i := 11) (v := .bool false) (by rw [HO.out]; simp only [List.getElem?_toArray, List.getElem?_cons_succ, List.getElem?_cons_zero]; rfl) (by rw [HO.out]; kernel_rfl) (by rw [HO.out]; kernel_rfl) (by rw [HO.out]; kernel_rfl) (by rw [HQ.out]; exact fun _ _ _ h => h) (Or.inl ⟨by first | rfl | (rw [HO.out]; kernel_rfl), ?_⟩) hS ?_
  · intro w' hSw
    go_simp
  try simp only [Act.put, List.setIfInBounds_toArray, List.set_cons_zero, List.set_cons_succ]
  refine wpAnyH_done (by rw [HO.out]; kernel_rfl) ?_ _
  rw [HQ.out]
  refine NoPanic.normal ?_
  go_wp2_with fail
  refine wp_region_noPanic ?_
  refine name_ops ?_
  intro O2 QQ2 HO2 HQ2
  refine wp_region_held_drew (S := fun W => Below W0.heap.size W0 W) (by kernel_rfl) (hS.trans (Below.refl _ _).drew) (fun hS => ?_)
  rw [show O2.size = 8 by rw [HO2.out]; rfl]
  refine wpAnyH_take (i := 0) (v := .agg #[.int .u8 1, .int .i64 n0, .string s0]) (by rw [HO2.out]; simp only [List.getElem?_toArray, List.getElem?_cons_succ, List.getElem?_cons_zero]; rfl) (by rw [HO2.out]; kernel_rfl) (by rw [HO2.out]; kernel_rfl) (by rw [HO2.out]; kernel_rfl) (by rw [HQ2.out]; exact fun _ _ _ h => h) (Or.inl ⟨by first | rfl | (rw [HO2.out]; kernel_rfl), ?_⟩) hS ?_
  · intro w' hSw
    obtain ⟨⟨q1, q2, q3⟩, ⟨q4, q5, q6⟩⟩ := SL.out _ hSw
    go_simp
  try simp only [Act.put, List.setIfInBounds_toArray, List.set_cons_zero, List.set_cons_succ]
  refine wpAnyH_take (i := 1) (v := .agg #[.int .u8 1, .int .i64 n0, .string s1]) (by rw [HO2.out]; simp only [List.getElem?_toArray, List.getElem?_cons_succ, List.getElem?_cons_zero]; rfl) (by rw [HO2.out]; kernel_rfl) (by rw [HO2.out]; kernel_rfl) (by rw [HO2.out]; kernel_rfl) (by rw [HQ2.out]; exact fun _ _ _ h => h) (Or.inl ⟨by first | rfl | (rw [HO2.out]; kernel_rfl), ?_⟩) hS ?_
  · intro w' hSw
    obtain ⟨⟨q1, q2, q3⟩, ⟨q4, q5, q6⟩⟩ := SL.out _ hSw
    go_simp
  try simp only [Act.put, List.setIfInBounds_toArray, List.set_cons_zero, List.set_cons_succ]
  refine wpAnyH_take (i := 3) (v := .agg #[.int .u8 1, .int .i64 n0, .string s0]) (by rw [HO2.out]; simp only [List.getElem?_toArray, List.getElem?_cons_succ, List.getElem?_cons_zero]; rfl) (by rw [HO2.out]; kernel_rfl) (by rw [HO2.out]; kernel_rfl) (by rw [HO2.out]; kernel_rfl) (by rw [HQ2.out]; exact fun _ _ _ h => h) (Or.inl ⟨by first | rfl | (rw [HO2.out]; kernel_rfl), ?_⟩) hS ?_
  · intro w' hSw
    obtain ⟨⟨q1, q2, q3⟩, ⟨q4, q5, q6⟩⟩ := SL.out _ hSw
    go_simp
  try simp only [Act.put, List.setIfInBounds_toArray, List.set_cons_zero, List.set_cons_succ]
  refine wpAnyH_take (i := 4) (v := .agg #[.int .u8 1, .int .i64 n0, .string s1]) (by rw [HO2.out]; simp only [List.getElem?_toArray, List.getElem?_cons_succ, List.getElem?_cons_zero]; rfl) (by rw [HO2.out]; kernel_rfl) (by rw [HO2.out]; kernel_rfl) (by rw [HO2.out]; kernel_rfl) (by rw [HQ2.out]; exact fun _ _ _ h => h) (Or.inl ⟨by first | rfl | (rw [HO2.out]; kernel_rfl), ?_⟩) hS ?_
  · intro w' hSw
    obtain ⟨⟨q1, q2, q3⟩, ⟨q4, q5, q6⟩⟩ := SL.out _ hSw
    go_simp
  try simp only [Act.put, List.setIfInBounds_toArray, List.set_cons_zero, List.set_cons_succ]
  refine wpAnyH_one (i := 2) (x := 22) (R := fun v _ => v = .bool true) (by rw [HO2.out]; simp only [List.getElem?_toArray, List.getElem?_cons_succ, List.getElem?_cons_zero]; rfl) (by rw [HO2.out]; kernel_rfl) hS ?_ ?_
  · intro K hK
    simp only [Act.put, List.setIfInBounds_toArray, List.set_cons_zero, List.set_cons_succ] at hK
    unfold Steps
    rw [if_pos (by rw [HO2.out]; kernel_rfl)]
    go_simp
    refine (C3 _).mono ?_
    rintro e w9 ⟨rfl, hb9⟩
    exact hK _ _ rfl hb9
  rintro v9 w9 hv9 hb9 hS9
  obtain rfl := hv9
  clear hb9
  replace hS := hS9
  clear hS9
  try simp only [Act.put, List.setIfInBounds_toArray, List.set_cons_zero, List.set_cons_succ]
  refine wpAnyH_one (i := 5) (x := 25) (R := fun v _ => v = .bool true) (by rw [HO2.out]; simp only [List.getElem?_toArray, List.getElem?_cons_succ, List.getElem?_cons_zero]; rfl) (by rw [HO2.out]; kernel_rfl) hS ?_ ?_
  · intro K hK
    simp only [Act.put, List.setIfInBounds_toArray, List.set_cons_zero, List.set_cons_succ] at hK
    unfold Steps
    rw [if_pos (by rw [HO2.out]; kernel_rfl)]
    go_simp
    refine (C5 _).mono ?_
    rintro e w9 ⟨rfl, hb9⟩
    exact hK _ _ rfl hb9
  rintro v9 w9 hv9 hb9 hS9
  obtain rfl := hv9
  clear hb9
  replace hS := hS9
  clear hS9
  try simp only [Act.put, List.setIfInBounds_toArray, List.set_cons_zero, List.set_cons_succ]
  refine wpAnyH_take (i := 6) (v := .bool true) (by rw [HO2.out]; simp only [List.getElem?_toArray, List.getElem?_cons_succ, List.getElem?_cons_zero]; rfl) (by rw [HO2.out]; kernel_rfl) (by rw [HO2.out]; kernel_rfl) (by rw [HO2.out]; kernel_rfl) (by rw [HQ2.out]; exact fun _ _ _ h => h) (Or.inl ⟨by first | rfl | (rw [HO2.out]; kernel_rfl), ?_⟩) hS ?_
  · intro w' hSw
    go_simp
  try simp only [Act.put, List.setIfInBounds_toArray, List.set_cons_zero, List.set_cons_succ]
  refine wpAnyH_take (i := 7) (v := .bool true) (by rw [HO2.out]; simp only [List.getElem?_toArray, List.getElem?_cons_succ, List.getElem?_cons_zero]; rfl) (by rw [HO2.out]; kernel_rfl) (by rw [HO2.out]; kernel_rfl) (by rw [HO2.out]; kernel_rfl) (by rw [HQ2.out]; exact fun _ _ _ h => h) (Or.inl ⟨by first | rfl | (rw [HO2.out]; kernel_rfl), ?_⟩) hS ?_
  · intro w' hSw
    go_simp
  try simp only [Act.put, List.setIfInBounds_toArray, List.set_cons_zero, List.set_cons_succ]
  refine wpAnyH_done (by rw [HO2.out]; kernel_rfl) ?_ _
  rw [HQ2.out]
  refine NoPanic.normal ?_
  obtain ⟨⟨q1, q2, q3⟩, ⟨q4, q5, q6⟩⟩ := SL.out _ hS
  go_wp2_with (first | (go_at_call 18; refine (C1 _).mono ?_; rintro e wa ⟨rfl, ha⟩; clear C1; have hS1 := bt hS ha; obtain ⟨⟨a1, a2, a3⟩, ⟨a4, a5, a6⟩⟩ := SL.out _ hS1) | (go_at_call 18; refine (CS _).mono ?_; rintro e wb ⟨rfl, hb⟩; clear CS; have hS2 := bt hS1 hb; obtain ⟨⟨b1, b2, b3⟩, ⟨b4, b5, b6⟩⟩ := SL.out _ hS2) | (go_at_call 9; refine (HA _ (HV.out _ hS2)).mono ?_; rintro e wz ⟨rfl, bz⟩; clear HA))
  go_ret
  exact ⟨rfl, bt (bt HB0.out hS2) bz⟩
set_option maxHeartbeats 8000000 in
theorem cd_false (n0 : Int) (s0 s1 : ByteArray) (w : World) (hV : Vars w) (C0 : ∀ W, Calls Tryd.prog 18 #[.int .u8 0, .agg #[.int .u8 1, .int .i64 n0, .string s0], .agg #[.int .u8 1, .int .i64 n0, .string s1]] W fun e w' => e = .returned (.bool false) ∧ Below W.heap.size W w') (C1 : ∀ W, Calls Tryd.prog 18 #[.int .u8 1, .agg #[.int .u8 1, .int .i64 n0, .string s0], .agg #[.int .u8 1, .int .i64 n0, .string s1]] W fun e w' => e = .returned (.bool true) ∧ Below W.heap.size W w') (C2 : ∀ W, Calls Tryd.prog 18 #[.int .u8 2, .agg #[.int .u8 1, .int .i64 n0, .string s0], .agg #[.int .u8 1, .int .i64 n0, .string s1]] W fun e w' => e = .returned (.bool false) ∧ Below W.heap.size W w') (C3 : ∀ W, Calls Tryd.prog 18 #[.int .u8 3, .agg #[.int .u8 1, .int .i64 n0, .string s0], .agg #[.int .u8 1, .int .i64 n0, .string s1]] W fun e w' => e = .returned (.bool true) ∧ Below W.heap.size W w') (C4 : ∀ W, Calls Tryd.prog 18 #[.int .u8 4, .agg #[.int .u8 1, .int .i64 n0, .string s0], .agg #[.int .u8 1, .int .i64 n0, .string s1]] W fun e w' => e = .returned (.bool false) ∧ Below W.heap.size W w') (C5 : ∀ W, Calls Tryd.prog 18 #[.int .u8 5, .agg #[.int .u8 1, .int .i64 n0, .string s0], .agg #[.int .u8 1, .int .i64 n0, .string s1]] W fun e w' => e = .returned (.bool true) ∧ Below W.heap.size W w') (CS : ∀ W, Calls Tryd.prog 18 #[.int .u8 4, .agg #[.int .u8 1, .int .i64 n0, .string s1], .agg #[.int .u8 1, .int .i64 n0, .string s0]] W fun e w' => e = .returned (.bool false) ∧ Below W.heap.size W w') : Calls Tryd.prog 7 #[.agg #[.int .u8 1, .int .i64 n0, .string s0], .agg #[.int .u8 1, .int .i64 n0, .string s1]] w fun e w' => e = .returned (.bool true) ∧ Below w.heap.size w w' := by
  have HA := awake_any
  obtain ⟨W0, hW0⟩ : ∃ W0, W0 = (w.alloc (.cells #[.int .u8 1, .int .i64 n0, .string s0] 23)).alloc (.cells #[.int .u8 1, .int .i64 n0, .string s1] 23) := ⟨_, rfl⟩
  have HB0 : Hid (Below w.heap.size w W0) := by rw [hW0]; exact two_new _ _ _
  have SL : Hid (∀ W, Below W0.heap.size W0 W → (W.cell? ⟨w.heap.size, 0, none⟩ = some (.int .u8 1) ∧ W.cell? ⟨w.heap.size, 1, none⟩ = some (.int .i64 n0) ∧ W.cell? ⟨w.heap.size, 2, none⟩ = some (.string s0)) ∧ (W.cell? ⟨w.heap.size + 1, 0, none⟩ = some (.int .u8 1) ∧ W.cell? ⟨w.heap.size + 1, 1, none⟩ = some (.int .i64 n0) ∧ W.cell? ⟨w.heap.size + 1, 2, none⟩ = some (.string s1))) := fun W hW => by
    rw [hW0] at hW
    have b1 := ((Bk.new w 1 n0 s0).below (box1 _ _)).below hW
    have b2 := (Bk.new (w.alloc (.cells #[.int .u8 1, .int .i64 n0, .string s0] 23)) 1 n0 s1).below hW
    have c2 := b2.cells
    simp at c2
    exact ⟨b1.cells, c2⟩
  have HV : Hid (∀ W, Below W0.heap.size W0 W → Vars W) := fun W hW => (hV.below HB0.out).below hW
  go_enter Tryd.func7, Tryd.ntmps7
  go_wp2_with fail
  rw [← hW0]
  clear hW0 hV
  refine wp_region_noPanic ?_
  refine name_ops ?_
  intro O QQ HO HQ
  refine wp_region_held_drew (S := fun W => Below W0.heap.size W0 W) (by kernel_rfl) (Below.refl _ _).drew (fun hS => ?_)
  rw [show O.size = 12 by rw [HO.out]; rfl]
  refine wpAnyH_take (i := 0) (v := .agg #[.int .u8 1, .int .i64 n0, .string s0]) (by rw [HO.out]; simp only [List.getElem?_toArray, List.getElem?_cons_succ, List.getElem?_cons_zero]; rfl) (by rw [HO.out]; kernel_rfl) (by rw [HO.out]; kernel_rfl) (by rw [HO.out]; kernel_rfl) (by rw [HQ.out]; exact fun _ _ _ h => h) (Or.inl ⟨by first | rfl | (rw [HO.out]; kernel_rfl), ?_⟩) hS ?_
  · intro w' hSw
    obtain ⟨⟨q1, q2, q3⟩, ⟨q4, q5, q6⟩⟩ := SL.out _ hSw
    go_simp
  try simp only [Act.put, List.setIfInBounds_toArray, List.set_cons_zero, List.set_cons_succ]
  refine wpAnyH_take (i := 1) (v := .agg #[.int .u8 1, .int .i64 n0, .string s1]) (by rw [HO.out]; simp only [List.getElem?_toArray, List.getElem?_cons_succ, List.getElem?_cons_zero]; rfl) (by rw [HO.out]; kernel_rfl) (by rw [HO.out]; kernel_rfl) (by rw [HO.out]; kernel_rfl) (by rw [HQ.out]; exact fun _ _ _ h => h) (Or.inl ⟨by first | rfl | (rw [HO.out]; kernel_rfl), ?_⟩) hS ?_
  · intro w' hSw
    obtain ⟨⟨q1, q2, q3⟩, ⟨q4, q5, q6⟩⟩ := SL.out _ hSw
    go_simp
  try simp only [Act.put, List.setIfInBounds_toArray, List.set_cons_zero, List.set_cons_succ]
  refine wpAnyH_take (i := 3) (v := .agg #[.int .u8 1, .int .i64 n0, .string s0]) (by rw [HO.out]; simp only [List.getElem?_toArray, List.getElem?_cons_succ, List.getElem?_cons_zero]; rfl) (by rw [HO.out]; kernel_rfl) (by rw [HO.out]; kernel_rfl) (by rw [HO.out]; kernel_rfl) (by rw [HQ.out]; exact fun _ _ _ h => h) (Or.inl ⟨by first | rfl | (rw [HO.out]; kernel_rfl), ?_⟩) hS ?_
  · intro w' hSw
    obtain ⟨⟨q1, q2, q3⟩, ⟨q4, q5, q6⟩⟩ := SL.out _ hSw
    go_simp
  try simp only [Act.put, List.setIfInBounds_toArray, List.set_cons_zero, List.set_cons_succ]
  refine wpAnyH_take (i := 4) (v := .agg #[.int .u8 1, .int .i64 n0, .string s1]) (by rw [HO.out]; simp only [List.getElem?_toArray, List.getElem?_cons_succ, List.getElem?_cons_zero]; rfl) (by rw [HO.out]; kernel_rfl) (by rw [HO.out]; kernel_rfl) (by rw [HO.out]; kernel_rfl) (by rw [HQ.out]; exact fun _ _ _ h => h) (Or.inl ⟨by first | rfl | (rw [HO.out]; kernel_rfl), ?_⟩) hS ?_
  · intro w' hSw
    obtain ⟨⟨q1, q2, q3⟩, ⟨q4, q5, q6⟩⟩ := SL.out _ hSw
    go_simp
  try simp only [Act.put, List.setIfInBounds_toArray, List.set_cons_zero, List.set_cons_succ]
  refine wpAnyH_take (i := 6) (v := .agg #[.int .u8 1, .int .i64 n0, .string s0]) (by rw [HO.out]; simp only [List.getElem?_toArray, List.getElem?_cons_succ, List.getElem?_cons_zero]; rfl) (by rw [HO.out]; kernel_rfl) (by rw [HO.out]; kernel_rfl) (by rw [HO.out]; kernel_rfl) (by rw [HQ.out]; exact fun _ _ _ h => h) (Or.inl ⟨by first | rfl | (rw [HO.out]; kernel_rfl), ?_⟩) hS ?_
  · intro w' hSw
    obtain ⟨⟨q1, q2, q3⟩, ⟨q4, q5, q6⟩⟩ := SL.out _ hSw
    go_simp
  try simp only [Act.put, List.setIfInBounds_toArray, List.set_cons_zero, List.set_cons_succ]
  refine wpAnyH_take (i := 7) (v := .agg #[.int .u8 1, .int .i64 n0, .string s1]) (by rw [HO.out]; simp only [List.getElem?_toArray, List.getElem?_cons_succ, List.getElem?_cons_zero]; rfl) (by rw [HO.out]; kernel_rfl) (by rw [HO.out]; kernel_rfl) (by rw [HO.out]; kernel_rfl) (by rw [HQ.out]; exact fun _ _ _ h => h) (Or.inl ⟨by first | rfl | (rw [HO.out]; kernel_rfl), ?_⟩) hS ?_
  · intro w' hSw
    obtain ⟨⟨q1, q2, q3⟩, ⟨q4, q5, q6⟩⟩ := SL.out _ hSw
    go_simp
  try simp only [Act.put, List.setIfInBounds_toArray, List.set_cons_zero, List.set_cons_succ]
  refine wpAnyH_one (i := 2) (x := 13) (R := fun v _ => v = .bool false) (by rw [HO.out]; simp only [List.getElem?_toArray, List.getElem?_cons_succ, List.getElem?_cons_zero]; rfl) (by rw [HO.out]; kernel_rfl) hS ?_ ?_
  · intro K hK
    simp only [Act.put, List.setIfInBounds_toArray, List.set_cons_zero, List.set_cons_succ] at hK
    unfold Steps
    rw [if_pos (by rw [HO.out]; kernel_rfl)]
    go_simp
    refine (C0 _).mono ?_
    rintro e w9 ⟨rfl, hb9⟩
    exact hK _ _ rfl hb9
  rintro v9 w9 hv9 hb9 hS9
  obtain rfl := hv9
  clear hb9
  replace hS := hS9
  clear hS9
  try simp only [Act.put, List.setIfInBounds_toArray, List.set_cons_zero, List.set_cons_succ]
  refine wpAnyH_one (i := 5) (x := 16) (R := fun v _ => v = .bool false) (by rw [HO.out]; simp only [List.getElem?_toArray, List.getElem?_cons_succ, List.getElem?_cons_zero]; rfl) (by rw [HO.out]; kernel_rfl) hS ?_ ?_
  · intro K hK
    simp only [Act.put, List.setIfInBounds_toArray, List.set_cons_zero, List.set_cons_succ] at hK
    unfold Steps
    rw [if_pos (by rw [HO.out]; kernel_rfl)]
    go_simp
    refine (C2 _).mono ?_
    rintro e w9 ⟨rfl, hb9⟩
    exact hK _ _ rfl hb9
  rintro v9 w9 hv9 hb9 hS9
  obtain rfl := hv9
  clear hb9
  replace hS := hS9
  clear hS9
  try simp only [Act.put, List.setIfInBounds_toArray, List.set_cons_zero, List.set_cons_succ]
  refine wpAnyH_one (i := 8) (x := 19) (R := fun v _ => v = .bool false) (by rw [HO.out]; simp only [List.getElem?_toArray, List.getElem?_cons_succ, List.getElem?_cons_zero]; rfl) (by rw [HO.out]; kernel_rfl) hS ?_ ?_
  · intro K hK
    simp only [Act.put, List.setIfInBounds_toArray, List.set_cons_zero, List.set_cons_succ] at hK
    unfold Steps
    rw [if_pos (by rw [HO.out]; kernel_rfl)]
    go_simp
    refine (C4 _).mono ?_
    rintro e w9 ⟨rfl, hb9⟩
    exact hK _ _ rfl hb9
  rintro v9 w9 hv9 hb9 hS9
  obtain rfl := hv9
  clear hb9
  replace hS := hS9
  clear hS9
  try simp only [Act.put, List.setIfInBounds_toArray, List.set_cons_zero, List.set_cons_succ]
  refine wpAnyH_take (i := 9) (v := .bool false) (by rw [HO.out]; simp only [List.getElem?_toArray, List.getElem?_cons_succ, List.getElem?_cons_zero]; rfl) (by rw [HO.out]; kernel_rfl) (by rw [HO.out]; kernel_rfl) (by rw [HO.out]; kernel_rfl) (by rw [HQ.out]; exact fun _ _ _ h => h) (Or.inl ⟨by first | rfl | (rw [HO.out]; kernel_rfl), ?_⟩) hS ?_
  · intro w' hSw
    go_simp
  try simp only [Act.put, List.setIfInBounds_toArray, List.set_cons_zero, List.set_cons_succ]
  refine wpAnyH_take (i := 10) (v := .bool false) (by rw [HO.out]; simp only [List.getElem?_toArray, List.getElem?_cons_succ, List.getElem?_cons_zero]; rfl) (by rw [HO.out]; kernel_rfl) (by rw [HO.out]; kernel_rfl) (by rw [HO.out]; kernel_rfl) (by rw [HQ.out]; exact fun _ _ _ h => h) (Or.inl ⟨by first | rfl | (rw [HO.out]; kernel_rfl), ?_⟩) hS ?_
  · intro w' hSw
    go_simp
  try simp only [Act.put, List.setIfInBounds_toArray, List.set_cons_zero, List.set_cons_succ]
  refine wpAnyH_take (i := 11) (v := .bool false) (by rw [HO.out]; simp only [List.getElem?_toArray, List.getElem?_cons_succ, List.getElem?_cons_zero]; rfl) (by rw [HO.out]; kernel_rfl) (by rw [HO.out]; kernel_rfl) (by rw [HO.out]; kernel_rfl) (by rw [HQ.out]; exact fun _ _ _ h => h) (Or.inl ⟨by first | rfl | (rw [HO.out]; kernel_rfl), ?_⟩) hS ?_
  · intro w' hSw
    go_simp
  try simp only [Act.put, List.setIfInBounds_toArray, List.set_cons_zero, List.set_cons_succ]
  refine wpAnyH_done (by rw [HO.out]; kernel_rfl) ?_ _
  rw [HQ.out]
  refine NoPanic.normal ?_
  go_wp2_with fail
  refine wp_region_noPanic ?_
  refine name_ops ?_
  intro O2 QQ2 HO2 HQ2
  refine wp_region_held_drew (S := fun W => Below W0.heap.size W0 W) (by kernel_rfl) (hS.trans (Below.refl _ _).drew) (fun hS => ?_)
  rw [show O2.size = 8 by rw [HO2.out]; rfl]
  refine wpAnyH_take (i := 0) (v := .agg #[.int .u8 1, .int .i64 n0, .string s0]) (by rw [HO2.out]; simp only [List.getElem?_toArray, List.getElem?_cons_succ, List.getElem?_cons_zero]; rfl) (by rw [HO2.out]; kernel_rfl) (by rw [HO2.out]; kernel_rfl) (by rw [HO2.out]; kernel_rfl) (by rw [HQ2.out]; exact fun _ _ _ h => h) (Or.inl ⟨by first | rfl | (rw [HO2.out]; kernel_rfl), ?_⟩) hS ?_
  · intro w' hSw
    obtain ⟨⟨q1, q2, q3⟩, ⟨q4, q5, q6⟩⟩ := SL.out _ hSw
    go_simp
  try simp only [Act.put, List.setIfInBounds_toArray, List.set_cons_zero, List.set_cons_succ]
  refine wpAnyH_take (i := 1) (v := .agg #[.int .u8 1, .int .i64 n0, .string s1]) (by rw [HO2.out]; simp only [List.getElem?_toArray, List.getElem?_cons_succ, List.getElem?_cons_zero]; rfl) (by rw [HO2.out]; kernel_rfl) (by rw [HO2.out]; kernel_rfl) (by rw [HO2.out]; kernel_rfl) (by rw [HQ2.out]; exact fun _ _ _ h => h) (Or.inl ⟨by first | rfl | (rw [HO2.out]; kernel_rfl), ?_⟩) hS ?_
  · intro w' hSw
    obtain ⟨⟨q1, q2, q3⟩, ⟨q4, q5, q6⟩⟩ := SL.out _ hSw
    go_simp
  try simp only [Act.put, List.setIfInBounds_toArray, List.set_cons_zero, List.set_cons_succ]
  refine wpAnyH_take (i := 3) (v := .agg #[.int .u8 1, .int .i64 n0, .string s0]) (by rw [HO2.out]; simp only [List.getElem?_toArray, List.getElem?_cons_succ, List.getElem?_cons_zero]; rfl) (by rw [HO2.out]; kernel_rfl) (by rw [HO2.out]; kernel_rfl) (by rw [HO2.out]; kernel_rfl) (by rw [HQ2.out]; exact fun _ _ _ h => h) (Or.inl ⟨by first | rfl | (rw [HO2.out]; kernel_rfl), ?_⟩) hS ?_
  · intro w' hSw
    obtain ⟨⟨q1, q2, q3⟩, ⟨q4, q5, q6⟩⟩ := SL.out _ hSw
    go_simp
  try simp only [Act.put, List.setIfInBounds_toArray, List.set_cons_zero, List.set_cons_succ]
  refine wpAnyH_take (i := 4) (v := .agg #[.int .u8 1, .int .i64 n0, .string s1]) (by rw [HO2.out]; simp only [List.getElem?_toArray, List.getElem?_cons_succ, List.getElem?_cons_zero]; rfl) (by rw [HO2.out]; kernel_rfl) (by rw [HO2.out]; kernel_rfl) (by rw [HO2.out]; kernel_rfl) (by rw [HQ2.out]; exact fun _ _ _ h => h) (Or.inl ⟨by first | rfl | (rw [HO2.out]; kernel_rfl), ?_⟩) hS ?_
  · intro w' hSw
    obtain ⟨⟨q1, q2, q3⟩, ⟨q4, q5, q6⟩⟩ := SL.out _ hSw
    go_simp
  try simp only [Act.put, List.setIfInBounds_toArray, List.set_cons_zero, List.set_cons_succ]
  refine wpAnyH_one (i := 2) (x := 22) (R := fun v _ => v = .bool true) (by rw [HO2.out]; simp only [List.getElem?_toArray, List.getElem?_cons_succ, List.getElem?_cons_zero]; rfl) (by rw [HO2.out]; kernel_rfl) hS ?_ ?_
  · intro K hK
    simp only [Act.put, List.setIfInBounds_toArray, List.set_cons_zero, List.set_cons_succ] at hK
    unfold Steps
    rw [if_pos (by rw [HO2.out]; kernel_rfl)]
    go_simp
    refine (C3 _).mono ?_
    rintro e w9 ⟨rfl, hb9⟩
    exact hK _ _ rfl hb9
  rintro v9 w9 hv9 hb9 hS9
  obtain rfl := hv9
  clear hb9
  replace hS := hS9
  clear hS9
  try simp only [Act.put, List.setIfInBounds_toArray, List.set_cons_zero, List.set_cons_succ]
  refine wpAnyH_one (i := 5) (x := 25) (R := fun v _ => v = .bool true) (by rw [HO2.out]; simp only [List.getElem?_toArray, List.getElem?_cons_succ, List.getElem?_cons_zero]; rfl) (by rw [HO2.out]; kernel_rfl) hS ?_ ?_
  · intro K hK
    simp only [Act.put, List.setIfInBounds_toArray, List.set_cons_zero, List.set_cons_succ] at hK
    unfold Steps
    rw [if_pos (by rw [HO2.out]; kernel_rfl)]
    go_simp
    refine (C5 _).mono ?_
    rintro e w9 ⟨rfl, hb9⟩
    exact hK _ _ rfl hb9
  rintro v9 w9 hv9 hb9 hS9
  obtain rfl := hv9
  clear hb9
  replace hS := hS9
  clear hS9
  try simp only [Act.put, List.setIfInBounds_toArray, List.set_cons_zero, List.set_cons_succ]
  refine wpAnyH_take (i := 6) (v := .bool true) (by rw [HO2.out]; simp only [List.getElem?_toArray, List.getElem?_cons_succ, List.getElem?_cons_zero]; rfl) (by rw [HO2.out]; kernel_rfl) (by rw [HO2.out]; kernel_rfl) (by rw [HO2.out]; kernel_rfl) (by rw [HQ2.out]; exact fun _ _ _ h => h) (Or.inl ⟨by first | rfl | (rw [HO2.out]; kernel_rfl), ?_⟩) hS ?_
  · intro w' hSw
    go_simp
  try simp only [Act.put, List.setIfInBounds_toArray, List.set_cons_zero, List.set_cons_succ]
  refine wpAnyH_take (i := 7) (v := .bool true) (by rw [HO2.out]; simp only [List.getElem?_toArray, List.getElem?_cons_succ, List.getElem?_cons_zero]; rfl) (by rw [HO2.out]; kernel_rfl) (by rw [HO2.out]; kernel_rfl) (by rw [HO2.out]; kernel_rfl) (by rw [HQ2.out]; exact fun _ _ _ h => h) (Or.inl ⟨by first | rfl | (rw [HO2.out]; kernel_rfl), ?_⟩) hS ?_
  · intro w' hSw
    go_simp
  try simp only [Act.put, List.setIfInBounds_toArray, List.set_cons_zero, List.set_cons_succ]
  refine wpAnyH_done (by rw [HO2.out]; kernel_rfl) ?_ _
  rw [HQ2.out]
  refine NoPanic.normal ?_
  obtain ⟨⟨q1, q2, q3⟩, ⟨q4, q5, q6⟩⟩ := SL.out _ hS
  go_wp2_with (first | (go_at_call 18; refine (C1 _).mono ?_; rintro e wa ⟨rfl, ha⟩; clear C1; have hS1 := bt hS ha; obtain ⟨⟨a1, a2, a3⟩, ⟨a4, a5, a6⟩⟩ := SL.out _ hS1) | (go_at_call 18; refine (CS _).mono ?_; rintro e wb ⟨rfl, hb⟩; clear CS; have hS2 := bt hS1 hb; obtain ⟨⟨b1, b2, b3⟩, ⟨b4, b5, b6⟩⟩ := SL.out _ hS2) | (go_at_call 9; refine (HA _ (HV.out _ hS2)).mono ?_; rintro e wz ⟨rfl, bz⟩; clear HA))
  go_ret
  exact ⟨rfl, bt (bt HB0.out hS2) bz⟩
set_option maxHeartbeats 8000000 in
theorem ce_true (n0 n1 : Int) (s0 s1 : ByteArray) (w : World) (hV : Vars w) (hn : n1 < n0) (C0 : ∀ W, Calls Tryd.prog 18 #[.int .u8 0, .agg #[.int .u8 1, .int .i64 n0, .string s0], .agg #[.int .u8 1, .int .i64 n1, .string s1]] W fun e w' => e = .returned (.bool true) ∧ Below W.heap.size W w') (C1 : ∀ W, Calls Tryd.prog 18 #[.int .u8 1, .agg #[.int .u8 1, .int .i64 n0, .string s0], .agg #[.int .u8 1, .int .i64 n1, .string s1]] W fun e w' => e = .returned (.bool false) ∧ Below W.heap.size W w') (C2 : ∀ W, Calls Tryd.prog 18 #[.int .u8 2, .agg #[.int .u8 1, .int .i64 n0, .string s0], .agg #[.int .u8 1, .int .i64 n1, .string s1]] W fun e w' => e = .returned (.bool false) ∧ Below W.heap.size W w') (C3 : ∀ W, Calls Tryd.prog 18 #[.int .u8 3, .agg #[.int .u8 1, .int .i64 n0, .string s0], .agg #[.int .u8 1, .int .i64 n1, .string s1]] W fun e w' => e = .returned (.bool false) ∧ Below W.heap.size W w') (C4 : ∀ W, Calls Tryd.prog 18 #[.int .u8 4, .agg #[.int .u8 1, .int .i64 n0, .string s0], .agg #[.int .u8 1, .int .i64 n1, .string s1]] W fun e w' => e = .returned (.bool true) ∧ Below W.heap.size W w') (C5 : ∀ W, Calls Tryd.prog 18 #[.int .u8 5, .agg #[.int .u8 1, .int .i64 n0, .string s0], .agg #[.int .u8 1, .int .i64 n1, .string s1]] W fun e w' => e = .returned (.bool true) ∧ Below W.heap.size W w') (CS : ∀ W, Calls Tryd.prog 18 #[.int .u8 4, .agg #[.int .u8 1, .int .i64 n1, .string s1], .agg #[.int .u8 1, .int .i64 n0, .string s0]] W fun e w' => e = .returned (.bool false) ∧ Below W.heap.size W w') : Calls Tryd.prog 7 #[.agg #[.int .u8 1, .int .i64 n0, .string s0], .agg #[.int .u8 1, .int .i64 n1, .string s1]] w fun e w' => e = .returned (.bool true) ∧ Below w.heap.size w w' := by
  have HA := awake_any
  have e1 : (n0 == n1) = false := by rw [beq_eq_false_iff_ne]; omega
  obtain ⟨W0, hW0⟩ : ∃ W0, W0 = (w.alloc (.cells #[.int .u8 1, .int .i64 n0, .string s0] 23)).alloc (.cells #[.int .u8 1, .int .i64 n1, .string s1] 23) := ⟨_, rfl⟩
  have HB0 : Hid (Below w.heap.size w W0) := by rw [hW0]; exact two_new _ _ _
  have SL : Hid (∀ W, Below W0.heap.size W0 W → (W.cell? ⟨w.heap.size, 0, none⟩ = some (.int .u8 1) ∧ W.cell? ⟨w.heap.size, 1, none⟩ = some (.int .i64 n0) ∧ W.cell? ⟨w.heap.size, 2, none⟩ = some (.string s0)) ∧ (W.cell? ⟨w.heap.size + 1, 0, none⟩ = some (.int .u8 1) ∧ W.cell? ⟨w.heap.size + 1, 1, none⟩ = some (.int .i64 n1) ∧ W.cell? ⟨w.heap.size + 1, 2, none⟩ = some (.string s1))) := fun W hW => by
    rw [hW0] at hW
    have b1 := ((Bk.new w 1 n0 s0).below (box1 _ _)).below hW
    have b2 := (Bk.new (w.alloc (.cells #[.int .u8 1, .int .i64 n0, .string s0] 23)) 1 n1 s1).below hW
    have c2 := b2.cells
    simp at c2
    exact ⟨b1.cells, c2⟩
  have HV : Hid (∀ W, Below W0.heap.size W0 W → Vars W) := fun W hW => (hV.below HB0.out).below hW
  go_enter Tryd.func7, Tryd.ntmps7
  go_wp2_with fail
  rw [← hW0]
  clear hW0 hV
  refine wp_region_noPanic ?_
  refine name_ops ?_
  intro O QQ HO HQ
  refine wp_region_held_drew (S := fun W => Below W0.heap.size W0 W) (by kernel_rfl) (Below.refl _ _).drew (fun hS => ?_)
  rw [show O.size = 12 by rw [HO.out]; rfl]
  refine wpAnyH_take (i := 0) (v := .agg #[.int .u8 1, .int .i64 n0, .string s0]) (by rw [HO.out]; simp only [List.getElem?_toArray, List.getElem?_cons_succ, List.getElem?_cons_zero]; rfl) (by rw [HO.out]; kernel_rfl) (by rw [HO.out]; kernel_rfl) (by rw [HO.out]; kernel_rfl) (by rw [HQ.out]; exact fun _ _ _ h => h) (Or.inl ⟨by first | rfl | (rw [HO.out]; kernel_rfl), ?_⟩) hS ?_
  · intro w' hSw
    obtain ⟨⟨q1, q2, q3⟩, ⟨q4, q5, q6⟩⟩ := SL.out _ hSw
    go_simp
  try simp only [Act.put, List.setIfInBounds_toArray, List.set_cons_zero, List.set_cons_succ]
  refine wpAnyH_take (i := 1) (v := .agg #[.int .u8 1, .int .i64 n1, .string s1]) (by rw [HO.out]; simp only [List.getElem?_toArray, List.getElem?_cons_succ, List.getElem?_cons_zero]; rfl) (by rw [HO.out]; kernel_rfl) (by rw [HO.out]; kernel_rfl) (by rw [HO.out]; kernel_rfl) (by rw [HQ.out]; exact fun _ _ _ h => h) (Or.inl ⟨by first | rfl | (rw [HO.out]; kernel_rfl), ?_⟩) hS ?_
  · intro w' hSw
    obtain ⟨⟨q1, q2, q3⟩, ⟨q4, q5, q6⟩⟩ := SL.out _ hSw
    go_simp
  try simp only [Act.put, List.setIfInBounds_toArray, List.set_cons_zero, List.set_cons_succ]
  refine wpAnyH_take (i := 3) (v := .agg #[.int .u8 1, .int .i64 n0, .string s0]) (by rw [HO.out]; simp only [List.getElem?_toArray, List.getElem?_cons_succ, List.getElem?_cons_zero]; rfl) (by rw [HO.out]; kernel_rfl) (by rw [HO.out]; kernel_rfl) (by rw [HO.out]; kernel_rfl) (by rw [HQ.out]; exact fun _ _ _ h => h) (Or.inl ⟨by first | rfl | (rw [HO.out]; kernel_rfl), ?_⟩) hS ?_
  · intro w' hSw
    obtain ⟨⟨q1, q2, q3⟩, ⟨q4, q5, q6⟩⟩ := SL.out _ hSw
    go_simp
  try simp only [Act.put, List.setIfInBounds_toArray, List.set_cons_zero, List.set_cons_succ]
  refine wpAnyH_take (i := 4) (v := .agg #[.int .u8 1, .int .i64 n1, .string s1]) (by rw [HO.out]; simp only [List.getElem?_toArray, List.getElem?_cons_succ, List.getElem?_cons_zero]; rfl) (by rw [HO.out]; kernel_rfl) (by rw [HO.out]; kernel_rfl) (by rw [HO.out]; kernel_rfl) (by rw [HQ.out]; exact fun _ _ _ h => h) (Or.inl ⟨by first | rfl | (rw [HO.out]; kernel_rfl), ?_⟩) hS ?_
  · intro w' hSw
    obtain ⟨⟨q1, q2, q3⟩, ⟨q4, q5, q6⟩⟩ := SL.out _ hSw
    go_simp
  try simp only [Act.put, List.setIfInBounds_toArray, List.set_cons_zero, List.set_cons_succ]
  refine wpAnyH_take (i := 6) (v := .agg #[.int .u8 1, .int .i64 n0, .string s0]) (by rw [HO.out]; simp only [List.getElem?_toArray, List.getElem?_cons_succ, List.getElem?_cons_zero]; rfl) (by rw [HO.out]; kernel_rfl) (by rw [HO.out]; kernel_rfl) (by rw [HO.out]; kernel_rfl) (by rw [HQ.out]; exact fun _ _ _ h => h) (Or.inl ⟨by first | rfl | (rw [HO.out]; kernel_rfl), ?_⟩) hS ?_
  · intro w' hSw
    obtain ⟨⟨q1, q2, q3⟩, ⟨q4, q5, q6⟩⟩ := SL.out _ hSw
    go_simp
  try simp only [Act.put, List.setIfInBounds_toArray, List.set_cons_zero, List.set_cons_succ]
  refine wpAnyH_take (i := 7) (v := .agg #[.int .u8 1, .int .i64 n1, .string s1]) (by rw [HO.out]; simp only [List.getElem?_toArray, List.getElem?_cons_succ, List.getElem?_cons_zero]; rfl) (by rw [HO.out]; kernel_rfl) (by rw [HO.out]; kernel_rfl) (by rw [HO.out]; kernel_rfl) (by rw [HQ.out]; exact fun _ _ _ h => h) (Or.inl ⟨by first | rfl | (rw [HO.out]; kernel_rfl), ?_⟩) hS ?_
  · intro w' hSw
    obtain ⟨⟨q1, q2, q3⟩, ⟨q4, q5, q6⟩⟩ := SL.out _ hSw
    go_simp
  try simp only [Act.put, List.setIfInBounds_toArray, List.set_cons_zero, List.set_cons_succ]
  refine wpAnyH_one (i := 2) (x := 13) (R := fun v _ => v = .bool true) (by rw [HO.out]; simp only [List.getElem?_toArray, List.getElem?_cons_succ, List.getElem?_cons_zero]; rfl) (by rw [HO.out]; kernel_rfl) hS ?_ ?_
  · intro K hK
    simp only [Act.put, List.setIfInBounds_toArray, List.set_cons_zero, List.set_cons_succ] at hK
    unfold Steps
    rw [if_pos (by rw [HO.out]; kernel_rfl)]
    go_simp
    refine (C0 _).mono ?_
    rintro e w9 ⟨rfl, hb9⟩
    exact hK _ _ rfl hb9
  rintro v9 w9 hv9 hb9 hS9
  obtain rfl := hv9
  clear hb9
  replace hS := hS9
  clear hS9
  try simp only [Act.put, List.setIfInBounds_toArray, List.set_cons_zero, List.set_cons_succ]
  refine wpAnyH_one (i := 5) (x := 16) (R := fun v _ => v = .bool false) (by rw [HO.out]; simp only [List.getElem?_toArray, List.getElem?_cons_succ, List.getElem?_cons_zero]; rfl) (by rw [HO.out]; kernel_rfl) hS ?_ ?_
  · intro K hK
    simp only [Act.put, List.setIfInBounds_toArray, List.set_cons_zero, List.set_cons_succ] at hK
    unfold Steps
    rw [if_pos (by rw [HO.out]; kernel_rfl)]
    go_simp
    refine (C2 _).mono ?_
    rintro e w9 ⟨rfl, hb9⟩
    exact hK _ _ rfl hb9
  rintro v9 w9 hv9 hb9 hS9
  obtain rfl := hv9
  clear hb9
  replace hS := hS9
  clear hS9
  try simp only [Act.put, List.setIfInBounds_toArray, List.set_cons_zero, List.set_cons_succ]
  refine wpAnyH_one (i := 8) (x := 19) (R := fun v _ => v = .bool true) (by rw [HO.out]; simp only [List.getElem?_toArray, List.getElem?_cons_succ, List.getElem?_cons_zero]; rfl) (by rw [HO.out]; kernel_rfl) hS ?_ ?_
  · intro K hK
    simp only [Act.put, List.setIfInBounds_toArray, List.set_cons_zero, List.set_cons_succ] at hK
    unfold Steps
    rw [if_pos (by rw [HO.out]; kernel_rfl)]
    go_simp
    refine (C4 _).mono ?_
    rintro e w9 ⟨rfl, hb9⟩
    exact hK _ _ rfl hb9
  rintro v9 w9 hv9 hb9 hS9
  obtain rfl := hv9
  clear hb9
  replace hS := hS9
  clear hS9
  try simp only [Act.put, List.setIfInBounds_toArray, List.set_cons_zero, List.set_cons_succ]
  refine wpAnyH_take (i := 9) (v := .bool true) (by rw [HO.out]; simp only [List.getElem?_toArray, List.getElem?_cons_succ, List.getElem?_cons_zero]; rfl) (by rw [HO.out]; kernel_rfl) (by rw [HO.out]; kernel_rfl) (by rw [HO.out]; kernel_rfl) (by rw [HQ.out]; exact fun _ _ _ h => h) (Or.inl ⟨by first | rfl | (rw [HO.out]; kernel_rfl), ?_⟩) hS ?_
  · intro w' hSw
    go_simp
  try simp only [Act.put, List.setIfInBounds_toArray, List.set_cons_zero, List.set_cons_succ]
  refine wpAnyH_take (i := 10) (v := .bool false) (by rw [HO.out]; simp only [List.getElem?_toArray, List.getElem?_cons_succ, List.getElem?_cons_zero]; rfl) (by rw [HO.out]; kernel_rfl) (by rw [HO.out]; kernel_rfl) (by rw [HO.out]; kernel_rfl) (by rw [HQ.out]; exact fun _ _ _ h => h) (Or.inl ⟨by first | rfl | (rw [HO.out]; kernel_rfl), ?_⟩) hS ?_
  · intro w' hSw
    go_simp
  try simp only [Act.put, List.setIfInBounds_toArray, List.set_cons_zero, List.set_cons_succ]
  refine wpAnyH_take (i := 11) (v := .bool true) (by rw [HO.out]; simp only [List.getElem?_toArray, List.getElem?_cons_succ, List.getElem?_cons_zero]; rfl) (by rw [HO.out]; kernel_rfl) (by rw [HO.out]; kernel_rfl) (by rw [HO.out]; kernel_rfl) (by rw [HQ.out]; exact fun _ _ _ h => h) (Or.inl ⟨by first | rfl | (rw [HO.out]; kernel_rfl), ?_⟩) hS ?_
  · intro w' hSw
    go_simp
  try simp only [Act.put, List.setIfInBounds_toArray, List.set_cons_zero, List.set_cons_succ]
  refine wpAnyH_done (by rw [HO.out]; kernel_rfl) ?_ _
  rw [HQ.out]
  refine NoPanic.normal ?_
  go_wp2_with fail
  refine wp_region_noPanic ?_
  refine name_ops ?_
  intro O2 QQ2 HO2 HQ2
  refine wp_region_held_drew (S := fun W => Below W0.heap.size W0 W) (by kernel_rfl) (hS.trans (Below.refl _ _).drew) (fun hS => ?_)
  rw [show O2.size = 8 by rw [HO2.out]; rfl]
  refine wpAnyH_take (i := 0) (v := .agg #[.int .u8 1, .int .i64 n0, .string s0]) (by rw [HO2.out]; simp only [List.getElem?_toArray, List.getElem?_cons_succ, List.getElem?_cons_zero]; rfl) (by rw [HO2.out]; kernel_rfl) (by rw [HO2.out]; kernel_rfl) (by rw [HO2.out]; kernel_rfl) (by rw [HQ2.out]; exact fun _ _ _ h => h) (Or.inl ⟨by first | rfl | (rw [HO2.out]; kernel_rfl), ?_⟩) hS ?_
  · intro w' hSw
    obtain ⟨⟨q1, q2, q3⟩, ⟨q4, q5, q6⟩⟩ := SL.out _ hSw
    go_simp
  try simp only [Act.put, List.setIfInBounds_toArray, List.set_cons_zero, List.set_cons_succ]
  refine wpAnyH_take (i := 1) (v := .agg #[.int .u8 1, .int .i64 n1, .string s1]) (by rw [HO2.out]; simp only [List.getElem?_toArray, List.getElem?_cons_succ, List.getElem?_cons_zero]; rfl) (by rw [HO2.out]; kernel_rfl) (by rw [HO2.out]; kernel_rfl) (by rw [HO2.out]; kernel_rfl) (by rw [HQ2.out]; exact fun _ _ _ h => h) (Or.inl ⟨by first | rfl | (rw [HO2.out]; kernel_rfl), ?_⟩) hS ?_
  · intro w' hSw
    obtain ⟨⟨q1, q2, q3⟩, ⟨q4, q5, q6⟩⟩ := SL.out _ hSw
    go_simp
  try simp only [Act.put, List.setIfInBounds_toArray, List.set_cons_zero, List.set_cons_succ]
  refine wpAnyH_take (i := 3) (v := .agg #[.int .u8 1, .int .i64 n0, .string s0]) (by rw [HO2.out]; simp only [List.getElem?_toArray, List.getElem?_cons_succ, List.getElem?_cons_zero]; rfl) (by rw [HO2.out]; kernel_rfl) (by rw [HO2.out]; kernel_rfl) (by rw [HO2.out]; kernel_rfl) (by rw [HQ2.out]; exact fun _ _ _ h => h) (Or.inl ⟨by first | rfl | (rw [HO2.out]; kernel_rfl), ?_⟩) hS ?_
  · intro w' hSw
    obtain ⟨⟨q1, q2, q3⟩, ⟨q4, q5, q6⟩⟩ := SL.out _ hSw
    go_simp
  try simp only [Act.put, List.setIfInBounds_toArray, List.set_cons_zero, List.set_cons_succ]
  refine wpAnyH_take (i := 4) (v := .agg #[.int .u8 1, .int .i64 n1, .string s1]) (by rw [HO2.out]; simp only [List.getElem?_toArray, List.getElem?_cons_succ, List.getElem?_cons_zero]; rfl) (by rw [HO2.out]; kernel_rfl) (by rw [HO2.out]; kernel_rfl) (by rw [HO2.out]; kernel_rfl) (by rw [HQ2.out]; exact fun _ _ _ h => h) (Or.inl ⟨by first | rfl | (rw [HO2.out]; kernel_rfl), ?_⟩) hS ?_
  · intro w' hSw
    obtain ⟨⟨q1, q2, q3⟩, ⟨q4, q5, q6⟩⟩ := SL.out _ hSw
    go_simp
  try simp only [Act.put, List.setIfInBounds_toArray, List.set_cons_zero, List.set_cons_succ]
  refine wpAnyH_one (i := 2) (x := 22) (R := fun v _ => v = .bool false) (by rw [HO2.out]; simp only [List.getElem?_toArray, List.getElem?_cons_succ, List.getElem?_cons_zero]; rfl) (by rw [HO2.out]; kernel_rfl) hS ?_ ?_
  · intro K hK
    simp only [Act.put, List.setIfInBounds_toArray, List.set_cons_zero, List.set_cons_succ] at hK
    unfold Steps
    rw [if_pos (by rw [HO2.out]; kernel_rfl)]
    go_simp
    refine (C3 _).mono ?_
    rintro e w9 ⟨rfl, hb9⟩
    exact hK _ _ rfl hb9
  rintro v9 w9 hv9 hb9 hS9
  obtain rfl := hv9
  clear hb9
  replace hS := hS9
  clear hS9
  try simp only [Act.put, List.setIfInBounds_toArray, List.set_cons_zero, List.set_cons_succ]
  refine wpAnyH_one (i := 5) (x := 25) (R := fun v _ => v = .bool true) (by rw [HO2.out]; simp only [List.getElem?_toArray, List.getElem?_cons_succ, List.getElem?_cons_zero]; rfl) (by rw [HO2.out]; kernel_rfl) hS ?_ ?_
  · intro K hK
    simp only [Act.put, List.setIfInBounds_toArray, List.set_cons_zero, List.set_cons_succ] at hK
    unfold Steps
    rw [if_pos (by rw [HO2.out]; kernel_rfl)]
    go_simp
    refine (C5 _).mono ?_
    rintro e w9 ⟨rfl, hb9⟩
    exact hK _ _ rfl hb9
  rintro v9 w9 hv9 hb9 hS9
  obtain rfl := hv9
  clear hb9
  replace hS := hS9
  clear hS9
  try simp only [Act.put, List.setIfInBounds_toArray, List.set_cons_zero, List.set_cons_succ]
  refine wpAnyH_take (i := 6) (v := .bool false) (by rw [HO2.out]; simp only [List.getElem?_toArray, List.getElem?_cons_succ, List.getElem?_cons_zero]; rfl) (by rw [HO2.out]; kernel_rfl) (by rw [HO2.out]; kernel_rfl) (by rw [HO2.out]; kernel_rfl) (by rw [HQ2.out]; exact fun _ _ _ h => h) (Or.inl ⟨by first | rfl | (rw [HO2.out]; kernel_rfl), ?_⟩) hS ?_
  · intro w' hSw
    go_simp
  try simp only [Act.put, List.setIfInBounds_toArray, List.set_cons_zero, List.set_cons_succ]
  refine wpAnyH_take (i := 7) (v := .bool true) (by rw [HO2.out]; simp only [List.getElem?_toArray, List.getElem?_cons_succ, List.getElem?_cons_zero]; rfl) (by rw [HO2.out]; kernel_rfl) (by rw [HO2.out]; kernel_rfl) (by rw [HO2.out]; kernel_rfl) (by rw [HQ2.out]; exact fun _ _ _ h => h) (Or.inl ⟨by first | rfl | (rw [HO2.out]; kernel_rfl), ?_⟩) hS ?_
  · intro w' hSw
    go_simp
  try simp only [Act.put, List.setIfInBounds_toArray, List.set_cons_zero, List.set_cons_succ]
  refine wpAnyH_done (by rw [HO2.out]; kernel_rfl) ?_ _
  rw [HQ2.out]
  refine NoPanic.normal ?_
  obtain ⟨⟨q1, q2, q3⟩, ⟨q4, q5, q6⟩⟩ := SL.out _ hS
  go_wp2_with (first | (go_at_call 18; refine (C1 _).mono ?_; rintro e wa ⟨rfl, ha⟩; clear C1; have hS1 := bt hS ha; obtain ⟨⟨a1, a2, a3⟩, ⟨a4, a5, a6⟩⟩ := SL.out _ hS1) | (go_at_call 18; refine (CS _).mono ?_; rintro e wb ⟨rfl, hb⟩; clear CS; have hS2 := bt hS1 hb; obtain ⟨⟨b1, b2, b3⟩, ⟨b4, b5, b6⟩⟩ := SL.out _ hS2) | (go_at_call 9; refine (HA _ (HV.out _ hS2)).mono ?_; rintro e wz ⟨rfl, bz⟩; clear HA))
  go_ret
  exact ⟨rfl, bt (bt HB0.out hS2) bz⟩
set_option maxHeartbeats 8000000 in
theorem ce_false (n0 n1 : Int) (s0 s1 : ByteArray) (w : World) (hV : Vars w) (hn : n1 < n0) (C0 : ∀ W, Calls Tryd.prog 18 #[.int .u8 0, .agg #[.int .u8 1, .int .i64 n0, .string s0], .agg #[.int .u8 1, .int .i64 n1, .string s1]] W fun e w' => e = .returned (.bool false) ∧ Below W.heap.size W w') (C1 : ∀ W, Calls Tryd.prog 18 #[.int .u8 1, .agg #[.int .u8 1, .int .i64 n0, .string s0], .agg #[.int .u8 1, .int .i64 n1, .string s1]] W fun e w' => e = .returned (.bool true) ∧ Below W.heap.size W w') (C2 : ∀ W, Calls Tryd.prog 18 #[.int .u8 2, .agg #[.int .u8 1, .int .i64 n0, .string s0], .agg #[.int .u8 1, .int .i64 n1, .string s1]] W fun e w' => e = .returned (.bool false) ∧ Below W.heap.size W w') (C3 : ∀ W, Calls Tryd.prog 18 #[.int .u8 3, .agg #[.int .u8 1, .int .i64 n0, .string s0], .agg #[.int .u8 1, .int .i64 n1, .string s1]] W fun e w' => e = .returned (.bool false) ∧ Below W.heap.size W w') (C4 : ∀ W, Calls Tryd.prog 18 #[.int .u8 4, .agg #[.int .u8 1, .int .i64 n0, .string s0], .agg #[.int .u8 1, .int .i64 n1, .string s1]] W fun e w' => e = .returned (.bool true) ∧ Below W.heap.size W w') (C5 : ∀ W, Calls Tryd.prog 18 #[.int .u8 5, .agg #[.int .u8 1, .int .i64 n0, .string s0], .agg #[.int .u8 1, .int .i64 n1, .string s1]] W fun e w' => e = .returned (.bool true) ∧ Below W.heap.size W w') (CS : ∀ W, Calls Tryd.prog 18 #[.int .u8 4, .agg #[.int .u8 1, .int .i64 n1, .string s1], .agg #[.int .u8 1, .int .i64 n0, .string s0]] W fun e w' => e = .returned (.bool false) ∧ Below W.heap.size W w') : Calls Tryd.prog 7 #[.agg #[.int .u8 1, .int .i64 n0, .string s0], .agg #[.int .u8 1, .int .i64 n1, .string s1]] w fun e w' => e = .returned (.bool true) ∧ Below w.heap.size w w' := by
  have HA := awake_any
  have e1 : (n0 == n1) = false := by rw [beq_eq_false_iff_ne]; omega
  obtain ⟨W0, hW0⟩ : ∃ W0, W0 = (w.alloc (.cells #[.int .u8 1, .int .i64 n0, .string s0] 23)).alloc (.cells #[.int .u8 1, .int .i64 n1, .string s1] 23) := ⟨_, rfl⟩
  have HB0 : Hid (Below w.heap.size w W0) := by rw [hW0]; exact two_new _ _ _
  have SL : Hid (∀ W, Below W0.heap.size W0 W → (W.cell? ⟨w.heap.size, 0, none⟩ = some (.int .u8 1) ∧ W.cell? ⟨w.heap.size, 1, none⟩ = some (.int .i64 n0) ∧ W.cell? ⟨w.heap.size, 2, none⟩ = some (.string s0)) ∧ (W.cell? ⟨w.heap.size + 1, 0, none⟩ = some (.int .u8 1) ∧ W.cell? ⟨w.heap.size + 1, 1, none⟩ = some (.int .i64 n1) ∧ W.cell? ⟨w.heap.size + 1, 2, none⟩ = some (.string s1))) := fun W hW => by
    rw [hW0] at hW
    have b1 := ((Bk.new w 1 n0 s0).below (box1 _ _)).below hW
    have b2 := (Bk.new (w.alloc (.cells #[.int .u8 1, .int .i64 n0, .string s0] 23)) 1 n1 s1).below hW
    have c2 := b2.cells
    simp at c2
    exact ⟨b1.cells, c2⟩
  have HV : Hid (∀ W, Below W0.heap.size W0 W → Vars W) := fun W hW => (hV.below HB0.out).below hW
  go_enter Tryd.func7, Tryd.ntmps7
  go_wp2_with fail
  rw [← hW0]
  clear hW0 hV
  refine wp_region_noPanic ?_
  refine name_ops ?_
  intro O QQ HO HQ
  refine wp_region_held_drew (S := fun W => Below W0.heap.size W0 W) (by kernel_rfl) (Below.refl _ _).drew (fun hS => ?_)
  rw [show O.size = 12 by rw [HO.out]; rfl]
  refine wpAnyH_take (i := 0) (v := .agg #[.int .u8 1, .int .i64 n0, .string s0]) (by rw [HO.out]; simp only [List.getElem?_toArray, List.getElem?_cons_succ, List.getElem?_cons_zero]; rfl) (by rw [HO.out]; kernel_rfl) (by rw [HO.out]; kernel_rfl) (by rw [HO.out]; kernel_rfl) (by rw [HQ.out]; exact fun _ _ _ h => h) (Or.inl ⟨by first | rfl | (rw [HO.out]; kernel_rfl), ?_⟩) hS ?_
  · intro w' hSw
    obtain ⟨⟨q1, q2, q3⟩, ⟨q4, q5, q6⟩⟩ := SL.out _ hSw
    go_simp
  try simp only [Act.put, List.setIfInBounds_toArray, List.set_cons_zero, List.set_cons_succ]
  refine wpAnyH_take (i := 1) (v := .agg #[.int .u8 1, .int .i64 n1, .string s1]) (by rw [HO.out]; simp only [List.getElem?_toArray, List.getElem?_cons_succ, List.getElem?_cons_zero]; rfl) (by rw [HO.out]; kernel_rfl) (by rw [HO.out]; kernel_rfl) (by rw [HO.out]; kernel_rfl) (by rw [HQ.out]; exact fun _ _ _ h => h) (Or.inl ⟨by first | rfl | (rw [HO.out]; kernel_rfl), ?_⟩) hS ?_
  · intro w' hSw
    obtain ⟨⟨q1, q2, q3⟩, ⟨q4, q5, q6⟩⟩ := SL.out _ hSw
    go_simp
  try simp only [Act.put, List.setIfInBounds_toArray, List.set_cons_zero, List.set_cons_succ]
  refine wpAnyH_take (i := 3) (v := .agg #[.int .u8 1, .int .i64 n0, .string s0]) (by rw [HO.out]; simp only [List.getElem?_toArray, List.getElem?_cons_succ, List.getElem?_cons_zero]; rfl) (by rw [HO.out]; kernel_rfl) (by rw [HO.out]; kernel_rfl) (by rw [HO.out]; kernel_rfl) (by rw [HQ.out]; exact fun _ _ _ h => h) (Or.inl ⟨by first | rfl | (rw [HO.out]; kernel_rfl), ?_⟩) hS ?_
  · intro w' hSw
    obtain ⟨⟨q1, q2, q3⟩, ⟨q4, q5, q6⟩⟩ := SL.out _ hSw
    go_simp
  try simp only [Act.put, List.setIfInBounds_toArray, List.set_cons_zero, List.set_cons_succ]
  refine wpAnyH_take (i := 4) (v := .agg #[.int .u8 1, .int .i64 n1, .string s1]) (by rw [HO.out]; simp only [List.getElem?_toArray, List.getElem?_cons_succ, List.getElem?_cons_zero]; rfl) (by rw [HO.out]; kernel_rfl) (by rw [HO.out]; kernel_rfl) (by rw [HO.out]; kernel_rfl) (by rw [HQ.out]; exact fun _ _ _ h => h) (Or.inl ⟨by first | rfl | (rw [HO.out]; kernel_rfl), ?_⟩) hS ?_
  · intro w' hSw
    obtain ⟨⟨q1, q2, q3⟩, ⟨q4, q5, q6⟩⟩ := SL.out _ hSw
    go_simp
  try simp only [Act.put, List.setIfInBounds_toArray, List.set_cons_zero, List.set_cons_succ]
  refine wpAnyH_take (i := 6) (v := .agg #[.int .u8 1, .int .i64 n0, .string s0]) (by rw [HO.out]; simp only [List.getElem?_toArray, List.getElem?_cons_succ, List.getElem?_cons_zero]; rfl) (by rw [HO.out]; kernel_rfl) (by rw [HO.out]; kernel_rfl) (by rw [HO.out]; kernel_rfl) (by rw [HQ.out]; exact fun _ _ _ h => h) (Or.inl ⟨by first | rfl | (rw [HO.out]; kernel_rfl), ?_⟩) hS ?_
  · intro w' hSw
    obtain ⟨⟨q1, q2, q3⟩, ⟨q4, q5, q6⟩⟩ := SL.out _ hSw
    go_simp
  try simp only [Act.put, List.setIfInBounds_toArray, List.set_cons_zero, List.set_cons_succ]
  refine wpAnyH_take (i := 7) (v := .agg #[.int .u8 1, .int .i64 n1, .string s1]) (by rw [HO.out]; simp only [List.getElem?_toArray, List.getElem?_cons_succ, List.getElem?_cons_zero]; rfl) (by rw [HO.out]; kernel_rfl) (by rw [HO.out]; kernel_rfl) (by rw [HO.out]; kernel_rfl) (by rw [HQ.out]; exact fun _ _ _ h => h) (Or.inl ⟨by first | rfl | (rw [HO.out]; kernel_rfl), ?_⟩) hS ?_
  · intro w' hSw
    obtain ⟨⟨q1, q2, q3⟩, ⟨q4, q5, q6⟩⟩ := SL.out _ hSw
    go_simp
  try simp only [Act.put, List.setIfInBounds_toArray, List.set_cons_zero, List.set_cons_succ]
  refine wpAnyH_one (i := 2) (x := 13) (R := fun v _ => v = .bool false) (by rw [HO.out]; simp only [List.getElem?_toArray, List.getElem?_cons_succ, List.getElem?_cons_zero]; rfl) (by rw [HO.out]; kernel_rfl) hS ?_ ?_
  · intro K hK
    simp only [Act.put, List.setIfInBounds_toArray, List.set_cons_zero, List.set_cons_succ] at hK
    unfold Steps
    rw [if_pos (by rw [HO.out]; kernel_rfl)]
    go_simp
    refine (C0 _).mono ?_
    rintro e w9 ⟨rfl, hb9⟩
    exact hK _ _ rfl hb9
  rintro v9 w9 hv9 hb9 hS9
  obtain rfl := hv9
  clear hb9
  replace hS := hS9
  clear hS9
  try simp only [Act.put, List.setIfInBounds_toArray, List.set_cons_zero, List.set_cons_succ]
  refine wpAnyH_one (i := 5) (x := 16) (R := fun v _ => v = .bool false) (by rw [HO.out]; simp only [List.getElem?_toArray, List.getElem?_cons_succ, List.getElem?_cons_zero]; rfl) (by rw [HO.out]; kernel_rfl) hS ?_ ?_
  · intro K hK
    simp only [Act.put, List.setIfInBounds_toArray, List.set_cons_zero, List.set_cons_succ] at hK
    unfold Steps
    rw [if_pos (by rw [HO.out]; kernel_rfl)]
    go_simp
    refine (C2 _).mono ?_
    rintro e w9 ⟨rfl, hb9⟩
    exact hK _ _ rfl hb9
  rintro v9 w9 hv9 hb9 hS9
  obtain rfl := hv9
  clear hb9
  replace hS := hS9
  clear hS9
  try simp only [Act.put, List.setIfInBounds_toArray, List.set_cons_zero, List.set_cons_succ]
  refine wpAnyH_one (i := 8) (x := 19) (R := fun v _ => v = .bool true) (by rw [HO.out]; simp only [List.getElem?_toArray, List.getElem?_cons_succ, List.getElem?_cons_zero]; rfl) (by rw [HO.out]; kernel_rfl) hS ?_ ?_
  · intro K hK
    simp only [Act.put, List.setIfInBounds_toArray, List.set_cons_zero, List.set_cons_succ] at hK
    unfold Steps
    rw [if_pos (by rw [HO.out]; kernel_rfl)]
    go_simp
    refine (C4 _).mono ?_
    rintro e w9 ⟨rfl, hb9⟩
    exact hK _ _ rfl hb9
  rintro v9 w9 hv9 hb9 hS9
  obtain rfl := hv9
  clear hb9
  replace hS := hS9
  clear hS9
  try simp only [Act.put, List.setIfInBounds_toArray, List.set_cons_zero, List.set_cons_succ]
  refine wpAnyH_take (i := 9) (v := .bool false) (by rw [HO.out]; simp only [List.getElem?_toArray, List.getElem?_cons_succ, List.getElem?_cons_zero]; rfl) (by rw [HO.out]; kernel_rfl) (by rw [HO.out]; kernel_rfl) (by rw [HO.out]; kernel_rfl) (by rw [HQ.out]; exact fun _ _ _ h => h) (Or.inl ⟨by first | rfl | (rw [HO.out]; kernel_rfl), ?_⟩) hS ?_
  · intro w' hSw
    go_simp
  try simp only [Act.put, List.setIfInBounds_toArray, List.set_cons_zero, List.set_cons_succ]
  refine wpAnyH_take (i := 10) (v := .bool false) (by rw [HO.out]; simp only [List.getElem?_toArray, List.getElem?_cons_succ, List.getElem?_cons_zero]; rfl) (by rw [HO.out]; kernel_rfl) (by rw [HO.out]; kernel_rfl) (by rw [HO.out]; kernel_rfl) (by rw [HQ.out]; exact fun _ _ _ h => h) (Or.inl ⟨by first | rfl | (rw [HO.out]; kernel_rfl), ?_⟩) hS ?_
  · intro w' hSw
    go_simp
  try simp only [Act.put, List.setIfInBounds_toArray, List.set_cons_zero, List.set_cons_succ]
  refine wpAnyH_take (i := 11) (v := .bool true) (by rw [HO.out]; simp only [List.getElem?_toArray, List.getElem?_cons_succ, List.getElem?_cons_zero]; rfl) (by rw [HO.out]; kernel_rfl) (by rw [HO.out]; kernel_rfl) (by rw [HO.out]; kernel_rfl) (by rw [HQ.out]; exact fun _ _ _ h => h) (Or.inl ⟨by first | rfl | (rw [HO.out]; kernel_rfl), ?_⟩) hS ?_
  · intro w' hSw
    go_simp
  try simp only [Act.put, List.setIfInBounds_toArray, List.set_cons_zero, List.set_cons_succ]
  refine wpAnyH_done (by rw [HO.out]; kernel_rfl) ?_ _
  rw [HQ.out]
  refine NoPanic.normal ?_
  go_wp2_with fail
  refine wp_region_noPanic ?_
  refine name_ops ?_
  intro O2 QQ2 HO2 HQ2
  refine wp_region_held_drew (S := fun W => Below W0.heap.size W0 W) (by kernel_rfl) (hS.trans (Below.refl _ _).drew) (fun hS => ?_)
  rw [show O2.size = 8 by rw [HO2.out]; rfl]
  refine wpAnyH_take (i := 0) (v := .agg #[.int .u8 1, .int .i64 n0, .string s0]) (by rw [HO2.out]; simp only [List.getElem?_toArray, List.getElem?_cons_succ, List.getElem?_cons_zero]; rfl) (by rw [HO2.out]; kernel_rfl) (by rw [HO2.out]; kernel_rfl) (by rw [HO2.out]; kernel_rfl) (by rw [HQ2.out]; exact fun _ _ _ h => h) (Or.inl ⟨by first | rfl | (rw [HO2.out]; kernel_rfl), ?_⟩) hS ?_
  · intro w' hSw
    obtain ⟨⟨q1, q2, q3⟩, ⟨q4, q5, q6⟩⟩ := SL.out _ hSw
    go_simp
  try simp only [Act.put, List.setIfInBounds_toArray, List.set_cons_zero, List.set_cons_succ]
  refine wpAnyH_take (i := 1) (v := .agg #[.int .u8 1, .int .i64 n1, .string s1]) (by rw [HO2.out]; simp only [List.getElem?_toArray, List.getElem?_cons_succ, List.getElem?_cons_zero]; rfl) (by rw [HO2.out]; kernel_rfl) (by rw [HO2.out]; kernel_rfl) (by rw [HO2.out]; kernel_rfl) (by rw [HQ2.out]; exact fun _ _ _ h => h) (Or.inl ⟨by first | rfl | (rw [HO2.out]; kernel_rfl), ?_⟩) hS ?_
  · intro w' hSw
    obtain ⟨⟨q1, q2, q3⟩, ⟨q4, q5, q6⟩⟩ := SL.out _ hSw
    go_simp
  try simp only [Act.put, List.setIfInBounds_toArray, List.set_cons_zero, List.set_cons_succ]
  refine wpAnyH_take (i := 3) (v := .agg #[.int .u8 1, .int .i64 n0, .string s0]) (by rw [HO2.out]; simp only [List.getElem?_toArray, List.getElem?_cons_succ, List.getElem?_cons_zero]; rfl) (by rw [HO2.out]; kernel_rfl) (by rw [HO2.out]; kernel_rfl) (by rw [HO2.out]; kernel_rfl) (by rw [HQ2.out]; exact fun _ _ _ h => h) (Or.inl ⟨by first | rfl | (rw [HO2.out]; kernel_rfl), ?_⟩) hS ?_
  · intro w' hSw
    obtain ⟨⟨q1, q2, q3⟩, ⟨q4, q5, q6⟩⟩ := SL.out _ hSw
    go_simp
  try simp only [Act.put, List.setIfInBounds_toArray, List.set_cons_zero, List.set_cons_succ]
  refine wpAnyH_take (i := 4) (v := .agg #[.int .u8 1, .int .i64 n1, .string s1]) (by rw [HO2.out]; simp only [List.getElem?_toArray, List.getElem?_cons_succ, List.getElem?_cons_zero]; rfl) (by rw [HO2.out]; kernel_rfl) (by rw [HO2.out]; kernel_rfl) (by rw [HO2.out]; kernel_rfl) (by rw [HQ2.out]; exact fun _ _ _ h => h) (Or.inl ⟨by first | rfl | (rw [HO2.out]; kernel_rfl), ?_⟩) hS ?_
  · intro w' hSw
    obtain ⟨⟨q1, q2, q3⟩, ⟨q4, q5, q6⟩⟩ := SL.out _ hSw
    go_simp
  try simp only [Act.put, List.setIfInBounds_toArray, List.set_cons_zero, List.set_cons_succ]
  refine wpAnyH_one (i := 2) (x := 22) (R := fun v _ => v = .bool false) (by rw [HO2.out]; simp only [List.getElem?_toArray, List.getElem?_cons_succ, List.getElem?_cons_zero]; rfl) (by rw [HO2.out]; kernel_rfl) hS ?_ ?_
  · intro K hK
    simp only [Act.put, List.setIfInBounds_toArray, List.set_cons_zero, List.set_cons_succ] at hK
    unfold Steps
    rw [if_pos (by rw [HO2.out]; kernel_rfl)]
    go_simp
    refine (C3 _).mono ?_
    rintro e w9 ⟨rfl, hb9⟩
    exact hK _ _ rfl hb9
  rintro v9 w9 hv9 hb9 hS9
  obtain rfl := hv9
  clear hb9
  replace hS := hS9
  clear hS9
  try simp only [Act.put, List.setIfInBounds_toArray, List.set_cons_zero, List.set_cons_succ]
  refine wpAnyH_one (i := 5) (x := 25) (R := fun v _ => v = .bool true) (by rw [HO2.out]; simp only [List.getElem?_toArray, List.getElem?_cons_succ, List.getElem?_cons_zero]; rfl) (by rw [HO2.out]; kernel_rfl) hS ?_ ?_
  · intro K hK
    simp only [Act.put, List.setIfInBounds_toArray, List.set_cons_zero, List.set_cons_succ] at hK
    unfold Steps
    rw [if_pos (by rw [HO2.out]; kernel_rfl)]
    go_simp
    refine (C5 _).mono ?_
    rintro e w9 ⟨rfl, hb9⟩
    exact hK _ _ rfl hb9
  rintro v9 w9 hv9 hb9 hS9
  obtain rfl := hv9
  clear hb9
  replace hS := hS9
  clear hS9
  try simp only [Act.put, List.setIfInBounds_toArray, List.set_cons_zero, List.set_cons_succ]
  refine wpAnyH_take (i := 6) (v := .bool false) (by rw [HO2.out]; simp only [List.getElem?_toArray, List.getElem?_cons_succ, List.getElem?_cons_zero]; rfl) (by rw [HO2.out]; kernel_rfl) (by rw [HO2.out]; kernel_rfl) (by rw [HO2.out]; kernel_rfl) (by rw [HQ2.out]; exact fun _ _ _ h => h) (Or.inl ⟨by first | rfl | (rw [HO2.out]; kernel_rfl), ?_⟩) hS ?_
  · intro w' hSw
    go_simp
  try simp only [Act.put, List.setIfInBounds_toArray, List.set_cons_zero, List.set_cons_succ]
  refine wpAnyH_take (i := 7) (v := .bool true) (by rw [HO2.out]; simp only [List.getElem?_toArray, List.getElem?_cons_succ, List.getElem?_cons_zero]; rfl) (by rw [HO2.out]; kernel_rfl) (by rw [HO2.out]; kernel_rfl) (by rw [HO2.out]; kernel_rfl) (by rw [HQ2.out]; exact fun _ _ _ h => h) (Or.inl ⟨by first | rfl | (rw [HO2.out]; kernel_rfl), ?_⟩) hS ?_
  · intro w' hSw
    go_simp
  try simp only [Act.put, List.setIfInBounds_toArray, List.set_cons_zero, List.set_cons_succ]
  refine wpAnyH_done (by rw [HO2.out]; kernel_rfl) ?_ _
  rw [HQ2.out]
  refine NoPanic.normal ?_
  obtain ⟨⟨q1, q2, q3⟩, ⟨q4, q5, q6⟩⟩ := SL.out _ hS
  go_wp2_with (first | (go_at_call 18; refine (C1 _).mono ?_; rintro e wa ⟨rfl, ha⟩; clear C1; have hS1 := bt hS ha; obtain ⟨⟨a1, a2, a3⟩, ⟨a4, a5, a6⟩⟩ := SL.out _ hS1) | (go_at_call 18; refine (CS _).mono ?_; rintro e wb ⟨rfl, hb⟩; clear CS; have hS2 := bt hS1 hb; obtain ⟨⟨b1, b2, b3⟩, ⟨b4, b5, b6⟩⟩ := SL.out _ hS2) | (go_at_call 9; refine (HA _ (HV.out _ hS2)).mono ?_; rintro e wz ⟨rfl, bz⟩; clear HA))
  go_ret
  exact ⟨rfl, bt (bt HB0.out hS2) bz⟩
theorem hc (p : Int) (b : Bool) {k0 n0 k1 n1 : Int} {s0 s1 : ByteArray} (h : hldB p k0 n0 s0 k1 n1 s1 = b) : ∀ W, Calls Tryd.prog 18 #[.int .u8 p, .agg #[.int .u8 k0, .int .i64 n0, .string s0], .agg #[.int .u8 k1, .int .i64 n1, .string s1]] W fun e w' => e = .returned (.bool b) ∧ Below W.heap.size W w' := fun W => by
  have := holds_any p k0 n0 s0 k1 n1 s1 W
  rw [h] at this; exact this
theorem h01 (k0 n0 k1 n1 : Int) (s0 s1 : ByteArray) (b : Bool) (h : hldB 0 k0 n0 s0 k1 n1 s1 = b) : hldB 1 k0 n0 s0 k1 n1 s1 = !b := by rw [← h]; rfl
theorem hno (p k0 n0 k1 n1 : Int) (s0 s1 : ByteArray) (hp : 2 ≤ p) (hk : k0 ≠ 1 ∨ k1 ≠ 1) : hldB p k0 n0 s0 k1 n1 s1 = false := by
  unfold hldB
  rw [if_neg (by omega), if_neg (by omega)]
  have : (k0 == 1 && k1 == 1) = false := by
    rcases hk with h | h
    · rw [beq_eq_false_iff_ne.2 h]; rfl
    · rw [beq_eq_false_iff_ne.2 h, Bool.and_false]
  rw [this]; rfl
theorem h2 (n0 n1 : Int) (s0 s1 : ByteArray) (b : Bool) (h : decide (n0 < n1) = b) : hldB 2 1 n0 s0 1 n1 s1 = b := by rw [← h]; rfl
theorem h3 (n0 n1 : Int) (s0 s1 : ByteArray) (b : Bool) (h : decide (n0 ≤ n1) = b) : hldB 3 1 n0 s0 1 n1 s1 = b := by rw [← h]; rfl
theorem h4 (n0 n1 : Int) (s0 s1 : ByteArray) (b : Bool) (h : decide (n1 < n0) = b) : hldB 4 1 n0 s0 1 n1 s1 = b := by rw [← h]; rfl
theorem h5 (n0 n1 : Int) (s0 s1 : ByteArray) (b : Bool) (h : decide (n1 ≤ n0) = b) : hldB 5 1 n0 s0 1 n1 s1 = b := by rw [← h]; rfl
theorem walk (k0 n0 : Int) (s0 : ByteArray) (k1 n1 : Int) (s1 : ByteArray) (w : World) (hV : Vars w) (w0 : WfV k0 n0 s0) (w1 : WfV k1 n1 s1) : Calls Tryd.prog 7 #[vv k0 n0 s0, vv k1 n1 s1] w fun e w' => e = .returned (.bool true) ∧ Below w.heap.size w w' := by
  unfold vv
  by_cases ha : k0 = 1
  · subst ha
    by_cases hb : k1 = 1
    · subst hb
      by_cases hlt : n0 < n1
      · cases h0 : hldB 0 1 n0 s0 1 n1 s1 with
        | true => exact cc_true n0 n1 s0 s1 w hV hlt (hc 0 _ h0) (hc 1 _ (h01 _ _ _ _ _ _ _ h0)) (hc 2 _ (h2 _ _ _ _ _ (by simp; omega))) (hc 3 _ (h3 _ _ _ _ _ (by simp; omega))) (hc 4 _ (h4 _ _ _ _ _ (by simp; omega))) (hc 5 _ (h5 _ _ _ _ _ (by simp; omega))) (hc 4 _ (h4 _ _ _ _ _ (by simp; omega)))
        | false => exact cc_false n0 n1 s0 s1 w hV hlt (hc 0 _ h0) (hc 1 _ (h01 _ _ _ _ _ _ _ h0)) (hc 2 _ (h2 _ _ _ _ _ (by simp; omega))) (hc 3 _ (h3 _ _ _ _ _ (by simp; omega))) (hc 4 _ (h4 _ _ _ _ _ (by simp; omega))) (hc 5 _ (h5 _ _ _ _ _ (by simp; omega))) (hc 4 _ (h4 _ _ _ _ _ (by simp; omega)))
      · by_cases hgt : n1 < n0
        · cases h0 : hldB 0 1 n0 s0 1 n1 s1 with
          | true => exact ce_true n0 n1 s0 s1 w hV hgt (hc 0 _ h0) (hc 1 _ (h01 _ _ _ _ _ _ _ h0)) (hc 2 _ (h2 _ _ _ _ _ (by simp; omega))) (hc 3 _ (h3 _ _ _ _ _ (by simp; omega))) (hc 4 _ (h4 _ _ _ _ _ (by simp; omega))) (hc 5 _ (h5 _ _ _ _ _ (by simp; omega))) (hc 4 _ (h4 _ _ _ _ _ (by simp; omega)))
          | false => exact ce_false n0 n1 s0 s1 w hV hgt (hc 0 _ h0) (hc 1 _ (h01 _ _ _ _ _ _ _ h0)) (hc 2 _ (h2 _ _ _ _ _ (by simp; omega))) (hc 3 _ (h3 _ _ _ _ _ (by simp; omega))) (hc 4 _ (h4 _ _ _ _ _ (by simp; omega))) (hc 5 _ (h5 _ _ _ _ _ (by simp; omega))) (hc 4 _ (h4 _ _ _ _ _ (by simp; omega)))
        · obtain rfl : n0 = n1 := by omega
          cases h0 : hldB 0 1 n0 s0 1 n0 s1 with
          | true => exact cd_true n0 s0 s1 w hV (hc 0 _ h0) (hc 1 _ (h01 _ _ _ _ _ _ _ h0)) (hc 2 _ (h2 _ _ _ _ _ (by simp))) (hc 3 _ (h3 _ _ _ _ _ (by simp))) (hc 4 _ (h4 _ _ _ _ _ (by simp))) (hc 5 _ (h5 _ _ _ _ _ (by simp))) (hc 4 _ (h4 _ _ _ _ _ (by simp)))
          | false => exact cd_false n0 s0 s1 w hV (hc 0 _ h0) (hc 1 _ (h01 _ _ _ _ _ _ _ h0)) (hc 2 _ (h2 _ _ _ _ _ (by simp))) (hc 3 _ (h3 _ _ _ _ _ (by simp))) (hc 4 _ (h4 _ _ _ _ _ (by simp))) (hc 5 _ (h5 _ _ _ _ _ (by simp))) (hc 4 _ (h4 _ _ _ _ _ (by simp)))
    · cases h0 : hldB 0 1 n0 s0 k1 n1 s1 with
      | true => exact cb_true n0 k1 n1 s0 s1 w hV hb (hc 0 _ h0) (hc 1 _ (h01 _ _ _ _ _ _ _ h0)) (hc 2 _ (hno _ _ _ _ _ _ _ (by decide) (.inr hb))) (hc 3 _ (hno _ _ _ _ _ _ _ (by decide) (.inr hb))) (hc 4 _ (hno _ _ _ _ _ _ _ (by decide) (.inr hb))) (hc 5 _ (hno _ _ _ _ _ _ _ (by decide) (.inr hb))) (hc 4 _ (hno _ _ _ _ _ _ _ (by decide) (.inl hb)))
      | false => exact cb_false n0 k1 n1 s0 s1 w hV hb (hc 0 _ h0) (hc 1 _ (h01 _ _ _ _ _ _ _ h0)) (hc 2 _ (hno _ _ _ _ _ _ _ (by decide) (.inr hb))) (hc 3 _ (hno _ _ _ _ _ _ _ (by decide) (.inr hb))) (hc 4 _ (hno _ _ _ _ _ _ _ (by decide) (.inr hb))) (hc 5 _ (hno _ _ _ _ _ _ _ (by decide) (.inr hb))) (hc 4 _ (hno _ _ _ _ _ _ _ (by decide) (.inl hb)))
  · cases h0 : hldB 0 k0 n0 s0 k1 n1 s1 with
    | true => exact ca_true k0 n0 k1 n1 s0 s1 w hV ha (hc 0 _ h0) (hc 1 _ (h01 _ _ _ _ _ _ _ h0)) (hc 2 _ (hno _ _ _ _ _ _ _ (by decide) (.inl ha))) (hc 3 _ (hno _ _ _ _ _ _ _ (by decide) (.inl ha))) (hc 4 _ (hno _ _ _ _ _ _ _ (by decide) (.inl ha))) (hc 5 _ (hno _ _ _ _ _ _ _ (by decide) (.inl ha))) (hc 4 _ (hno _ _ _ _ _ _ _ (by decide) (.inr ha)))
    | false => exact ca_false k0 n0 k1 n1 s0 s1 w hV ha (hc 0 _ h0) (hc 1 _ (h01 _ _ _ _ _ _ _ h0)) (hc 2 _ (hno _ _ _ _ _ _ _ (by decide) (.inl ha))) (hc 3 _ (hno _ _ _ _ _ _ _ (by decide) (.inl ha))) (hc 4 _ (hno _ _ _ _ _ _ _ (by decide) (.inl ha))) (hc 5 _ (hno _ _ _ _ _ _ _ (by decide) (.inl ha))) (hc 4 _ (hno _ _ _ _ _ _ _ (by decide) (.inr ha)))
set_option maxRecDepth 100000 in
theorem lifted (os : Os) (started : os.Started) (H : Type) (enc : TypeId × Value → H) :
    ReturnsInHanded {} Tryd.checked os 7 .any (fun w args => (Rows.valueOrderSpec.pre enc Tryd.prog Tryd.f7 Rows.valueOrderRow.domain false w args ∧ laidMet Tryd.prog laids w) ∧ sizedMet enc Tryd.prog Tryd.f7 (OpenSpec.ofChange Rows.valueOrderSpec) false w args)
      (Rows.valueOrderSpec.post enc Tryd.prog Tryd.f7 false true false false) := by
  refine returnsInHanded_of_change_and (C := Tryd.checked) (X := fun w _ => laidMet Tryd.prog laids w) (fun _ _ _ hh h => h.of_heap hh) own started (by kernel_rfl) Tryd.func7
    (ChangeSpec.witness_at (enc := enc) (C := Tryd.checked) (os := os) (X := fun w _ => laidMet Tryd.prog laids w) false (laidWorld os) #[.agg #[.int .u8 0, .int .i64 0, .string ByteArray.empty], .agg #[.int .u8 0, .int .i64 0, .string ByteArray.empty]] 8 rfl (by kernel_rfl) (by kernel_rfl) (by kernel_rfl) (by kernel_rfl) (by kernel_rfl) (laidWorld_met os _)) ?_
  intro W base args ds gs before hval0 hW _ hsz0 hL _
  have hval : ∀ (j : Nat) t v, Tryd.f7.params[j]? = some t → args[j]? = some v → Value.okWide Tryd.prog W .any base t v := hval0
  have hW' := hW
  obtain ⟨p, q, hA0, hV, rfl, hfz, hnd⟩ := hW
  have hA : DataW.TrodAll enc Tryd.prog W 0 (fun _ => true) true Tryd.f7.params.toList args.toList ds p := hA0
  rw [Tryd.params7] at hA hval
  have hVars := vars_of hL
  obtain ⟨v0, vs0, d'0, ds0, q0, r'0, hargs, rfl, rfl, h0, r0⟩ := trodAll_cons hA
  obtain ⟨v1, vs1, d'1, ds1, q1, r'1, rfl, rfl, rfl, h1, r1⟩ := trodAll_cons r0
  obtain ⟨rfl, rfl, rfl⟩ := trodAll_nil r1
  obtain rfl : args = #[v0, v1] := by cases args; simp_all
  obtain ⟨rfl, rfl⟩ := trodVars_none hV
  have k0' := h0
  have lt0 : ∀ x ∈ q0, x.block < W.heap.size := by obtain ⟨m, hm⟩ := k0'; exact DataW.trod_lt m _ _ _ hm
  obtain ⟨k0, n0, s0, rfl, w0⟩ := open_v (hval 0 23 v0 rfl rfl) h0
  have k1' := h1
  have lt1 : ∀ x ∈ q1, x.block < W.heap.size := by obtain ⟨m, hm⟩ := k1'; exact DataW.trod_lt m _ _ _ hm
  obtain ⟨k1, n1, s1, rfl, w1⟩ := open_v (hval 1 23 v1 rfl rfl) h1
  clear hA0 hval0
  refine (walk k0 n0 s0 k1 n1 s1 W hVars w0 w1).mono fun e W' ⟨he, bel⟩ => ?_
  subst he
  exact ⟨_, rfl, _, _, _, [], _, [], hW', trodAll_mk1 (shut_bool Tryd.underlying4 _), (trodAll_cons_mk (Below.trod laidOut (by kernel_rfl) (of_decide_eq_true (by kernel_rfl)) k0' bel lt0) (trodAll_cons_mk (Below.trod laidOut (by kernel_rfl) (of_decide_eq_true (by kernel_rfl)) k1' bel lt1) trodAll_mk0)), rfl, bel.frame _, fun h => by cases h⟩

theorem over : Rows.valueOrderRow.holds Tryd.pinned (OpenSpec.ofChange Rows.valueOrderSpec) :=
  OpenClaim.holds_of_wide 7 Tryd.f7 rfl rfl rfl rfl rfl rfl rfl ⟨rfl, rfl, rfl, rfl, rfl⟩ rfl rfl rfl rfl rfl (by kernel_rfl) Tryd.func7 (by kernel_rfl)
    (of_decide_eq_true (by kernel_rfl)) (by unfold Func.isWrapper; first | (rw [if_pos (by decide +kernel)]; kernel_rfl) | (rw [if_neg (by decide +kernel)]; exact ⟨rfl, rfl⟩))
    (fun os started H enc _ => lifted os started H enc)
theorem stand (j : Nat) (t : TypeId) (ht : Tryd.f7.params[j]? = some t) : Tryd.prog.wantsStandIn t = false := by
  rw [Tryd.params7] at ht
  rcases j with _ | j
  · obtain rfl : 23 = t := by simpa using ht
    kernel_rfl
  rcases j with _ | j
  · obtain rfl : 23 = t := by simpa using ht
    kernel_rfl
  simp at ht
end Go.Proofs.YtkpmnncemfeojaaDoor.valueOrder

namespace Go.Proofs.YtkpmnncemfeojaaDoor
theorem valueOrder_holds : Rows.ValueOrderCardSaid :=
  Claim7.holds_tied_plain_at .later [] [.data, .data, .data, .data, .sentinel, .sentinel, .pinned] true (true, "e4d62b0632140ea89e0acb3428217e710b04108508a205674bbccda6bfe6ec4f") true
    valueOrder.over (fun _ h => by cases h) (by kernel_rfl) (fun _ h => by cases h) valueOrder_row_tie rfl ⟨rfl, rfl⟩ (by kernel_rfl) rfl
    (fun f fn hf hfn => by
      obtain rfl : f = 7 := Option.some.inj ((show Tryd.prog.funcNamed Rows.valueOrderRow.func = some 7 by kernel_rfl).symm.trans hf) |>.symm
      obtain rfl : fn = Tryd.f7 := (Option.some.inj (Tryd.func7.symm.trans hfn)).symm
      exact ⟨by kernel_rfl, valueOrder.stand⟩)
    (by kernel_rfl)
#print axioms valueOrder_holds
end Go.Proofs.YtkpmnncemfeojaaDoor
