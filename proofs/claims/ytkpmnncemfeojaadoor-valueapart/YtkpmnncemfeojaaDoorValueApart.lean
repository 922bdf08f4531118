/- For every two values the call ValueApart of the statements returns true and its arguments read as they did: no condition but that the library's listed variables lie as the program's text lays them. -/
import Derived.Test.YtkpmnncemfeojaaDoorRows
import Derived.Test.YtkpmnncemfeojaaDoorCards
import Derived.Test.YtkpmnncemfeojaaDoorTie
import Derived.Test.YtkpmnncemfeojaaDoorArg
import Derived.Test.YtkpmnncemfeojaaDoorRn
import Derived.Test.YtkpmnncemfeojaaDoorAw
import Derived.SevenTiedAt
import Derived.SizedLaws
import Derived.ChangeSame
import Derived.ChangeVars
import Derived.ChangeMaps5
import Derived.JoinedOf
import Derived.JoinedAt
import Derived.RowKit3
import Derived.LaidLaws
import Derived.WalkKit
import Derived.ProofKit
import Derived.OpenShut
import Derived.ShutString
import Derived.ChangeOld
import Derived.Below
import Derived.Test.YtkpmnncemfeojaaDoorVb
namespace Go.Proofs.YtkpmnncemfeojaaDoor.valueApart
open Go.ChangeShapes Go.WideShapes Go.ChangeAt Go.RowKit
set_option linter.unusedVariables false
set_option linter.unusedSimpArgs false
set_option maxRecDepth 20000

theorem conv_bv {w : World} {a : Option Addr} {cap : Nat} {zs : List Int} (hb : BV w a zs) (hn : a = none → cap = 0) : (convert 39 9 (.slice a zs.length cap)).run Tryd.prog w = .ok (.string (strOfNums zs)) w := by
  obtain ⟨hz, rfl | ⟨b, off, rfl, _, hc⟩⟩ := hb
  · cases a with
    | none => exact run_convert_bytes_nil (P := Tryd.prog) w 39 5 Tryd.underlying39 Tryd.underlying5 0 cap 9 Tryd.underlying9
    | some x =>
      show (convert 39 9 (.slice (some x) 0 cap)).run Tryd.prog w = _
      rw [run_convert_bytes_string w 39 9 5 _ 0 cap Tryd.underlying39 Tryd.underlying5 Tryd.underlying9, run_bytesToString w x 0 cap [] (by simp [loadCells, loadCellsFrom])]
      rfl
  · exact run_convert_bytes_arg (P := Tryd.prog) w 39 5 Tryd.underlying39 Tryd.underlying5 b off zs.length cap zs rfl hc 9 Tryd.underlying9
theorem str_inj {a b : List Int} (ha : AllB a) (hb : AllB b) (h : strOfNums a = strOfNums b) : a = b := by
  have e := congrArg (fun s : ByteArray => s.data.toList.map (fun u => (u.toNat : Int))) h
  have back : ∀ l : List Int, AllB l → (strOfNums l).data.toList.map (fun u => (u.toNat : Int)) = l := fun l hl => by
    rw [strOfNums_data, List.map_map]
    conv => rhs; rw [← List.map_id l]
    apply List.map_congr_left
    intro z hz
    have h := hl z hz
    simp [Function.comp]
    omega
  rw [← back a ha, ← back b hb]; exact e
theorem str_ne {a b : List Int} (ha : AllB a) (hb : AllB b) (h : a ≠ b) : ((strOfNums a).toList == (strOfNums b).toList) = false := by
  rw [beq_eq_false_iff_ne]
  intro e
  rw [Go.ByteArray.toList_eq, Go.ByteArray.toList_eq] at e
  exact h (str_inj ha hb (by
    have : ∀ x y : ByteArray, x.data.toList = y.data.toList → x = y := fun x y h => by cases x; cases y; simp at h; subst h; rfl
    exact this _ _ e))
set_option maxHeartbeats 1600000 in
theorem walk_a (k0 n0 : Int) (s0 : ByteArray) (k1 n1 : Int) (s1 : ByteArray) (w : World) (hV : Vars w) (w0 : WfV k0 n0 s0) (w1 : WfV k1 n1 s1) (h : 200 < s0.size) : Calls Tryd.prog 8 #[vv k0 n0 s0, vv k1 n1 s1] w fun e w' => e = .returned (.bool true) ∧ Below w.heap.size w w' := by
  have HA := awake_any
  obtain ⟨hk0, hk0', hn0, hn0', hs0⟩ := w0
  obtain ⟨hk1, hk1', hn1, hn1', hs1⟩ := w1
  unfold maxLen at hs0 hs1
  unfold vv
  have h3 : decide ((200 : Int) < (s0.size : Int)) = true := by simp; omega
  go_enter Tryd.func8, Tryd.ntmps8
  go_wp2_with (first | (go_at_call 9; refine (HA _ (hV.below (two_new _ _ _))).mono ?_; rintro e wz ⟨rfl, bz⟩; clear HA))
  go_ret
  exact ⟨rfl, bt (two_new _ _ _) bz⟩
set_option maxHeartbeats 1600000 in
theorem walk_b (k0 n0 : Int) (s0 : ByteArray) (k1 n1 : Int) (s1 : ByteArray) (w : World) (hV : Vars w) (w0 : WfV k0 n0 s0) (w1 : WfV k1 n1 s1) (h : ¬ 200 < s0.size) (h2 : 200 < s1.size) : Calls Tryd.prog 8 #[vv k0 n0 s0, vv k1 n1 s1] w fun e w' => e = .returned (.bool true) ∧ Below w.heap.size w w' := by
  have HA := awake_any
  obtain ⟨hk0, hk0', hn0, hn0', hs0⟩ := w0
  obtain ⟨hk1, hk1', hn1, hn1', hs1⟩ := w1
  unfold maxLen at hs0 hs1
  unfold vv
  have h3 : decide ((200 : Int) < (s0.size : Int)) = false := by simp; omega
  have h4 : decide ((200 : Int) < (s1.size : Int)) = true := by simp; omega
  go_enter Tryd.func8, Tryd.ntmps8
  go_wp2_with (first | (go_at_call 9; refine (HA _ (hV.below (two_new _ _ _))).mono ?_; rintro e wz ⟨rfl, bz⟩; clear HA))
  go_ret
  exact ⟨rfl, bt (two_new _ _ _) bz⟩
set_option maxHeartbeats 4000000 in
theorem walk_c (k0 n0 : Int) (s0 : ByteArray) (k1 n1 : Int) (s1 : ByteArray) (w : World) (hV : Vars w) (w0 : WfV k0 n0 s0) (w1 : WfV k1 n1 s1) (h : ¬ 200 < s0.size) (h2 : ¬ 200 < s1.size) (hc : chkE k0 n0 s0.data.toList ≠ 0) : Calls Tryd.prog 8 #[vv k0 n0 s0, vv k1 n1 s1] w fun e w' => e = .returned (.bool true) ∧ Below w.heap.size w w' := by
  have HA := awake_any
  obtain ⟨hk0, hk0', hn0, hn0', hs0⟩ := w0
  obtain ⟨hk1, hk1', hn1, hn1', hs1⟩ := w1
  unfold maxLen at hs0 hs1
  unfold vv
  have h3 : decide ((200 : Int) < (s0.size : Int)) = false := by simp; omega
  have h4 : decide ((200 : Int) < (s1.size : Int)) = false := by simp; omega
  have C0 : ∀ W, Vars W → Calls Tryd.prog 14 #[.agg #[.int .u8 k0, .int .i64 n0, .string s0]] W fun e w' => e = .returned (.int .i64 (chkE k0 n0 s0.data.toList)) ∧ Below W.heap.size W w' := fun W hv => chk_any k0 n0 s0 W (by omega) (by omega) (by omega) hv
  have hne : ((chkE k0 n0 s0.data.toList : Int) != 0) = true := by rw [bne_iff_ne]; exact hc
  generalize chkE k0 n0 s0.data.toList = ce at *
  clear hc
  obtain ⟨W0, hW0⟩ : ∃ W0, W0 = (w.alloc (.cells #[.int .u8 k0, .int .i64 n0, .string s0] 23)).alloc (.cells #[.int .u8 k1, .int .i64 n1, .string s1] 23) := ⟨_, rfl⟩
  have HB0 : Hid (Below w.heap.size w W0) := by rw [hW0]; exact two_new _ _ _
  have SL : Hid (∀ W, Below W0.heap.size W0 W → (W.cell? ⟨w.heap.size, 0, none⟩ = some (.int .u8 k0) ∧ W.cell? ⟨w.heap.size, 1, none⟩ = some (.int .i64 n0) ∧ W.cell? ⟨w.heap.size, 2, none⟩ = some (.string s0)) ∧ (W.cell? ⟨w.heap.size + 1, 0, none⟩ = some (.int .u8 k1) ∧ W.cell? ⟨w.heap.size + 1, 1, none⟩ = some (.int .i64 n1) ∧ W.cell? ⟨w.heap.size + 1, 2, none⟩ = some (.string s1))) := fun W hW => by
    rw [hW0] at hW
    have b1 := ((Bk.new w k0 n0 s0).below (box1 _ _)).below hW
    have b2 := (Bk.new (w.alloc (.cells #[.int .u8 k0, .int .i64 n0, .string s0] 23)) k1 n1 s1).below hW
    have c2 := b2.cells
    simp at c2
    exact ⟨b1.cells, c2⟩
  have HV : Hid (∀ W, Below W0.heap.size W0 W → Vars W) := fun W hW => (hV.below HB0.out).below hW
  go_enter Tryd.func8, Tryd.ntmps8
  go_wp2_with (first | (go_at_call 14; rw [← hW0]; refine (C0 _ (HV.out _ (Below.refl _ _))).mono ?_; rintro e w1 ⟨rfl, hb1⟩; clear C0 hW0; obtain ⟨⟨x1, x2, x3⟩, ⟨x4, x5, x6⟩⟩ := SL.out _ hb1) | (go_at_call 9; refine (HA _ (HV.out _ hb1)).mono ?_; rintro e wz ⟨rfl, bz⟩; clear HA))
  go_ret
  exact ⟨rfl, bt (bt HB0.out hb1) bz⟩
set_option maxHeartbeats 4000000 in
theorem walk_d (k0 n0 : Int) (s0 : ByteArray) (k1 n1 : Int) (s1 : ByteArray) (w : World) (hV : Vars w) (w0 : WfV k0 n0 s0) (w1 : WfV k1 n1 s1) (h : ¬ 200 < s0.size) (h2 : ¬ 200 < s1.size) (hc0 : chkE k0 n0 s0.data.toList = 0) (hc : chkE k1 n1 s1.data.toList ≠ 0) : Calls Tryd.prog 8 #[vv k0 n0 s0, vv k1 n1 s1] w fun e w' => e = .returned (.bool true) ∧ Below w.heap.size w w' := by
  have HA := awake_any
  obtain ⟨hk0, hk0', hn0, hn0', hs0⟩ := w0
  obtain ⟨hk1, hk1', hn1, hn1', hs1⟩ := w1
  unfold maxLen at hs0 hs1
  unfold vv
  have h3 : decide ((200 : Int) < (s0.size : Int)) = false := by simp; omega
  have h4 : decide ((200 : Int) < (s1.size : Int)) = false := by simp; omega
  have C0 : ∀ W, Vars W → Calls Tryd.prog 14 #[.agg #[.int .u8 k0, .int .i64 n0, .string s0]] W fun e w' => e = .returned (.int .i64 (chkE k0 n0 s0.data.toList)) ∧ Below W.heap.size W w' := fun W hv => chk_any k0 n0 s0 W (by omega) (by omega) (by omega) hv
  have C1 : ∀ W, Vars W → Calls Tryd.prog 14 #[.agg #[.int .u8 k1, .int .i64 n1, .string s1]] W fun e w' => e = .returned (.int .i64 (chkE k1 n1 s1.data.toList)) ∧ Below W.heap.size W w' := fun W hv => chk_any k1 n1 s1 W (by omega) (by omega) (by omega) hv
  rw [hc0] at C0
  have hne : ((chkE k1 n1 s1.data.toList : Int) != 0) = true := by rw [bne_iff_ne]; exact hc
  generalize chkE k1 n1 s1.data.toList = ce at *
  clear hc hc0
  obtain ⟨W0, hW0⟩ : ∃ W0, W0 = (w.alloc (.cells #[.int .u8 k0, .int .i64 n0, .string s0] 23)).alloc (.cells #[.int .u8 k1, .int .i64 n1, .string s1] 23) := ⟨_, rfl⟩
  have HB0 : Hid (Below w.heap.size w W0) := by rw [hW0]; exact two_new _ _ _
  have SL : Hid (∀ W, Below W0.heap.size W0 W → (W.cell? ⟨w.heap.size, 0, none⟩ = some (.int .u8 k0) ∧ W.cell? ⟨w.heap.size, 1, none⟩ = some (.int .i64 n0) ∧ W.cell? ⟨w.heap.size, 2, none⟩ = some (.string s0)) ∧ (W.cell? ⟨w.heap.size + 1, 0, none⟩ = some (.int .u8 k1) ∧ W.cell? ⟨w.heap.size + 1, 1, none⟩ = some (.int .i64 n1) ∧ W.cell? ⟨w.heap.size + 1, 2, none⟩ = some (.string s1))) := fun W hW => by
    rw [hW0] at hW
    have b1 := ((Bk.new w k0 n0 s0).below (box1 _ _)).below hW
    have b2 := (Bk.new (w.alloc (.cells #[.int .u8 k0, .int .i64 n0, .string s0] 23)) k1 n1 s1).below hW
    have c2 := b2.cells
    simp at c2
    exact ⟨b1.cells, c2⟩
  have HV : Hid (∀ W, Below W0.heap.size W0 W → Vars W) := fun W hW => (hV.below HB0.out).below hW
  go_enter Tryd.func8, Tryd.ntmps8
  go_wp2_with (first | (go_at_call 14; rw [← hW0]; refine (C0 _ (HV.out _ (Below.refl _ _))).mono ?_; rintro e w1 ⟨rfl, hb1⟩; clear C0 hW0; obtain ⟨⟨x1, x2, x3⟩, ⟨x4, x5, x6⟩⟩ := SL.out _ hb1) | (go_at_call 14; refine (C1 _ (HV.out _ hb1)).mono ?_; rintro e w2 ⟨rfl, hb2⟩; clear C1; have H2 := bt hb1 hb2; obtain ⟨⟨y1, y2, y3⟩, ⟨y4, y5, y6⟩⟩ := SL.out _ H2) | (go_at_call 9; refine (HA _ (HV.out _ H2)).mono ?_; rintro e wz ⟨rfl, bz⟩; clear HA))
  go_ret
  exact ⟨rfl, bt (bt HB0.out H2) bz⟩
set_option maxHeartbeats 16000000 in
theorem m_same (k0 n0 : Int) (s0 : ByteArray) (w : World) (hV : Vars w) (pl0 : List Int) (tx0 : ByteArray) (xn : Nat) (h0 : s0.size ≤ 200) (C0 : ∀ W, Vars W → Calls Tryd.prog 14 #[.agg #[.int .u8 k0, .int .i64 n0, .string s0]] W fun e w' => e = .returned (.int .i64 0) ∧ Below W.heap.size W w') (P0 : ∀ W, Vars W → Calls Tryd.prog 24 #[.agg #[.int .u8 k0, .int .i64 n0, .string s0]] W fun e w' => ∃ v, e = .returned (.tuple #[v, .int .i64 0]) ∧ Own w' W.heap.size v pl0 ∧ Below W.heap.size W w') (T0 : ∀ W, Vars W → Calls Tryd.prog 16 #[.agg #[.int .u8 k0, .int .i64 n0, .string s0]] W fun e w' => e = .returned (.string tx0) ∧ Below W.heap.size W w') (C1 : ∀ W, Vars W → Calls Tryd.prog 14 #[.agg #[.int .u8 k0, .int .i64 n0, .string s0]] W fun e w' => e = .returned (.int .i64 0) ∧ Below W.heap.size W w') (P1 : ∀ W, Vars W → Calls Tryd.prog 24 #[.agg #[.int .u8 k0, .int .i64 n0, .string s0]] W fun e w' => ∃ v, e = .returned (.tuple #[v, .int .i64 0]) ∧ Own w' W.heap.size v pl0 ∧ Below W.heap.size W w') (T1 : ∀ W, Vars W → Calls Tryd.prog 16 #[.agg #[.int .u8 k0, .int .i64 n0, .string s0]] W fun e w' => e = .returned (.string tx0) ∧ Below W.heap.size W w') (L0 : Hid (pl0.length = xn)) (A0 : Hid (AllB pl0)) (hx1 : 1 ≤ xn) (hx2 : xn ≤ 30) : Calls Tryd.prog 8 #[.agg #[.int .u8 k0, .int .i64 n0, .string s0], .agg #[.int .u8 k0, .int .i64 n0, .string s0]] w fun e w' => e = .returned (.bool true) ∧ Below w.heap.size w w' := by
  have HA := awake_any
  have h3 : decide ((200 : Int) < (s0.size : Int)) = false := by simp; omega
  obtain ⟨W0, hW0⟩ : ∃ W0, W0 = (w.alloc (.cells #[.int .u8 k0, .int .i64 n0, .string s0] 23)).alloc (.cells #[.int .u8 k0, .int .i64 n0, .string s0] 23) := ⟨_, rfl⟩
  have HB0 : Hid (Below w.heap.size w W0) := by rw [hW0]; exact two_new _ _ _
  have SL : Hid (∀ W, Below W0.heap.size W0 W → (W.cell? ⟨w.heap.size, 0, none⟩ = some (.int .u8 k0) ∧ W.cell? ⟨w.heap.size, 1, none⟩ = some (.int .i64 n0) ∧ W.cell? ⟨w.heap.size, 2, none⟩ = some (.string s0)) ∧ (W.cell? ⟨w.heap.size + 1, 0, none⟩ = some (.int .u8 k0) ∧ W.cell? ⟨w.heap.size + 1, 1, none⟩ = some (.int .i64 n0) ∧ W.cell? ⟨w.heap.size + 1, 2, none⟩ = some (.string s0))) := fun W hW => by
    rw [hW0] at hW
    have b1 := ((Bk.new w k0 n0 s0).below (box1 _ _)).below hW
    have b2 := (Bk.new (w.alloc (.cells #[.int .u8 k0, .int .i64 n0, .string s0] 23)) k0 n0 s0).below hW
    have c2 := b2.cells
    simp at c2
    exact ⟨b1.cells, c2⟩
  have HV : Hid (∀ W, Below W0.heap.size W0 W → Vars W) := fun W hW => (hV.below HB0.out).below hW
  go_enter Tryd.func8, Tryd.ntmps8
  go_wp2_with (first | (go_at_call 14; rw [← hW0]; refine (C0 _ (HV.out _ (Below.refl _ _))).mono ?_; rintro e w1 ⟨rfl, hb1⟩; clear C0 hW0; obtain ⟨⟨x1, x2, x3⟩, ⟨x4, x5, x6⟩⟩ := SL.out _ hb1) | (go_at_call 14; refine (C1 _ (HV.out _ hb1)).mono ?_; rintro e w2 ⟨rfl, hb2⟩; clear C1; have H2 := bt hb1 hb2; obtain ⟨⟨y1, y2, y3⟩, ⟨y4, y5, y6⟩⟩ := SL.out _ H2) | (go_at_call 24; refine (P0 _ (HV.out _ H2)).mono ?_; rintro e w3 ⟨v3, rfl, o3, hb3⟩; clear P0; obtain ⟨g3, c3, rfl, hg3, _, _⟩ := o3.shape xn L0.out hx1; have H3 := bt H2 hb3; obtain ⟨⟨z1, z2, z3⟩, ⟨z4, z5, z6⟩⟩ := SL.out _ H3) | (go_at_call 24; refine (P1 _ (HV.out _ H3)).mono ?_; rintro e w4 ⟨v4, rfl, o4, hb4⟩; clear P1; obtain ⟨g4, c4, rfl, hg4, _, _⟩ := o4.shape xn L0.out hx1; have H4 := bt H3 hb4; obtain ⟨⟨u1, u2, u3⟩, ⟨u4, u5, u6⟩⟩ := SL.out _ H4))
  have V3 : Hid (∀ W, Below w4.heap.size w4 W → (convert 39 9 (.slice (some ⟨g3, 0, none⟩) xn c3)).run Tryd.prog W = .ok (.string (strOfNums pl0)) W) := fun W hW => conv_own ((o3.below hb4).below hW) A0.out
  have V4 : Hid (∀ W, Below w4.heap.size w4 W → (convert 39 9 (.slice (some ⟨g4, 0, none⟩) xn c4)).run Tryd.prog W = .ok (.string (strOfNums pl0)) W) := fun W hW => conv_own (o4.below hW) A0.out
  have SM : Hid (∀ W, Below w4.heap.size w4 W → (W.cell? ⟨w.heap.size, 0, none⟩ = some (.int .u8 k0) ∧ W.cell? ⟨w.heap.size, 1, none⟩ = some (.int .i64 n0) ∧ W.cell? ⟨w.heap.size, 2, none⟩ = some (.string s0)) ∧ (W.cell? ⟨w.heap.size + 1, 0, none⟩ = some (.int .u8 k0) ∧ W.cell? ⟨w.heap.size + 1, 1, none⟩ = some (.int .i64 n0) ∧ W.cell? ⟨w.heap.size + 1, 2, none⟩ = some (.string s0))) := fun W hW => SL.out _ (bt H4 hW)
  have HVW : Hid (∀ W, Below w4.heap.size w4 W → Vars W) := fun W hW => HV.out _ (bt H4 hW)
  have HBW : Hid (∀ W, Below w4.heap.size w4 W → Below w.heap.size w W) := fun W hW => bt (bt HB0.out H4) hW
  have m1 : (1 : Int) ≤ xn := by omega
  have m2 : (xn : Int) ≤ 30 := by omega
  have m3 : (xn : Int) ≤ c3 := by omega
  have m4 : (xn : Int) ≤ c4 := by omega
  have m5 : min (xn : Int) xn = xn := by omega
  have m6 : decide ((xn : Int) ≤ xn) = true := by simp
  clear x1 x2 x3 x4 x5 x6 y1 y2 y3 y4 y5 y6 z1 z2 z3 z4 z5 z6 u1 u2 u3 u4 u5 u6 hb1 hb2 hb3 hb4 H2 H3 H4 o3 o4 SL HV HB0 hV
  generalize hsx : strOfNums pl0 = sx at *
  clear hsx
  refine wp_region_noPanic ?_
  refine name_ops ?_
  intro O QQ HO HQ
  refine wp_region_held_drew (S := fun W => Below w4.heap.size w4 W) (by kernel_rfl) (Below.refl _ _).drew (fun hS => ?_)
  rw [show O.size = 19 by rw [HO.out]; rfl]
  refine wpAnyH_take (i := 0) (v := .slice (some ⟨g3, 0, none⟩) xn c3) (by rw [HO.out]; simp only [List.getElem?_toArray, List.getElem?_cons_succ, List.getElem?_cons_zero]; rfl) (by rw [HO.out]; kernel_rfl) (by rw [HO.out]; kernel_rfl) (by rw [HO.out]; kernel_rfl) (by rw [HQ.out]; exact fun _ _ _ h => h) (Or.inl ⟨by first | rfl | (rw [HO.out]; kernel_rfl), ?_⟩) hS ?_
  · intro w' hSw
    go_simp
  try simp only [Act.put, List.setIfInBounds_toArray, List.set_cons_zero, List.set_cons_succ]
  refine wpAnyH_take (i := 1) (v := .int .i64 xn) (by rw [HO.out]; simp only [List.getElem?_toArray, List.getElem?_cons_succ, List.getElem?_cons_zero]; rfl) (by rw [HO.out]; kernel_rfl) (by rw [HO.out]; kernel_rfl) (by rw [HO.out]; kernel_rfl) (by rw [HQ.out]; exact fun _ _ _ h => h) (Or.inl ⟨by first | rfl | (rw [HO.out]; kernel_rfl), ?_⟩) hS ?_
  · intro w' hSw
    go_simp
  try simp only [Act.put, List.setIfInBounds_toArray, List.set_cons_zero, List.set_cons_succ]
  refine wpAnyH_take (i := 2) (v := .slice (some ⟨g4, 0, none⟩) xn c4) (by rw [HO.out]; simp only [List.getElem?_toArray, List.getElem?_cons_succ, List.getElem?_cons_zero]; rfl) (by rw [HO.out]; kernel_rfl) (by rw [HO.out]; kernel_rfl) (by rw [HO.out]; kernel_rfl) (by rw [HQ.out]; exact fun _ _ _ h => h) (Or.inl ⟨by first | rfl | (rw [HO.out]; kernel_rfl), ?_⟩) hS ?_
  · intro w' hSw
    go_simp
  try simp only [Act.put, List.setIfInBounds_toArray, List.set_cons_zero, List.set_cons_succ]
  refine wpAnyH_take (i := 3) (v := .int .i64 xn) (by rw [HO.out]; simp only [List.getElem?_toArray, List.getElem?_cons_succ, List.getElem?_cons_zero]; rfl) (by rw [HO.out]; kernel_rfl) (by rw [HO.out]; kernel_rfl) (by rw [HO.out]; kernel_rfl) (by rw [HQ.out]; exact fun _ _ _ h => h) (Or.inl ⟨by first | rfl | (rw [HO.out]; kernel_rfl), ?_⟩) hS ?_
  · intro w' hSw
    go_simp
  try simp only [Act.put, List.setIfInBounds_toArray, List.set_cons_zero, List.set_cons_succ]
  refine wpAnyH_take (i := 4) (v := .bool true) (by rw [HO.out]; simp only [List.getElem?_toArray, List.getElem?_cons_succ, List.getElem?_cons_zero]; rfl) (by rw [HO.out]; kernel_rfl) (by rw [HO.out]; kernel_rfl) (by rw [HO.out]; kernel_rfl) (by rw [HQ.out]; exact fun _ _ _ h => h) (Or.inl ⟨by first | rfl | (rw [HO.out]; kernel_rfl), ?_⟩) hS ?_
  · intro w' hSw
    go_simp
  try simp only [Act.put, List.setIfInBounds_toArray, List.set_cons_zero, List.set_cons_succ]
  refine wpAnyH_take (i := 5) (v := .bool true) (by rw [HO.out]; simp only [List.getElem?_toArray, List.getElem?_cons_succ, List.getElem?_cons_zero]; rfl) (by rw [HO.out]; kernel_rfl) (by rw [HO.out]; kernel_rfl) (by rw [HO.out]; kernel_rfl) (by rw [HQ.out]; exact fun _ _ _ h => h) (Or.inl ⟨by first | rfl | (rw [HO.out]; kernel_rfl), ?_⟩) hS ?_
  · intro w' hSw
    go_simp
  try simp only [Act.put, List.setIfInBounds_toArray, List.set_cons_zero, List.set_cons_succ]
  refine wpAnyH_take (i := 6) (v := .slice (some ⟨g4, 0, none⟩) xn c4) (by rw [HO.out]; simp only [List.getElem?_toArray, List.getElem?_cons_succ, List.getElem?_cons_zero]; rfl) (by rw [HO.out]; kernel_rfl) (by rw [HO.out]; kernel_rfl) (by rw [HO.out]; kernel_rfl) (by rw [HQ.out]; exact fun _ _ _ h => h) (Or.inl ⟨by first | rfl | (rw [HO.out]; kernel_rfl), ?_⟩) hS ?_
  · intro w' hSw
    go_simp
  try simp only [Act.put, List.setIfInBounds_toArray, List.set_cons_zero, List.set_cons_succ]
  refine wpAnyH_take (i := 7) (v := .slice (some ⟨g3, 0, none⟩) xn c3) (by rw [HO.out]; simp only [List.getElem?_toArray, List.getElem?_cons_succ, List.getElem?_cons_zero]; rfl) (by rw [HO.out]; kernel_rfl) (by rw [HO.out]; kernel_rfl) (by rw [HO.out]; kernel_rfl) (by rw [HQ.out]; exact fun _ _ _ h => h) (Or.inl ⟨by first | rfl | (rw [HO.out]; kernel_rfl), ?_⟩) hS ?_
  · intro w' hSw
    go_simp
  try simp only [Act.put, List.setIfInBounds_toArray, List.set_cons_zero, List.set_cons_succ]
  refine wpAnyH_take (i := 8) (v := .int .i64 xn) (by rw [HO.out]; simp only [List.getElem?_toArray, List.getElem?_cons_succ, List.getElem?_cons_zero]; rfl) (by rw [HO.out]; kernel_rfl) (by rw [HO.out]; kernel_rfl) (by rw [HO.out]; kernel_rfl) (by rw [HQ.out]; exact fun _ _ _ h => h) (Or.inl ⟨by first | rfl | (rw [HO.out]; kernel_rfl), ?_⟩) hS ?_
  · intro w' hSw
    go_simp
  try simp only [Act.put, List.setIfInBounds_toArray, List.set_cons_zero, List.set_cons_succ]
  refine wpAnyH_take (i := 9) (v := .slice (some ⟨g4, 0, none⟩) xn c4) (by rw [HO.out]; simp only [List.getElem?_toArray, List.getElem?_cons_succ, List.getElem?_cons_zero]; rfl) (by rw [HO.out]; kernel_rfl) (by rw [HO.out]; kernel_rfl) (by rw [HO.out]; kernel_rfl) (by rw [HQ.out]; exact fun _ _ _ h => h) (Or.inl ⟨by first | rfl | (rw [HO.out]; kernel_rfl), ?_⟩) hS ?_
  · intro w' hSw
    go_simp
  try simp only [Act.put, List.setIfInBounds_toArray, List.set_cons_zero, List.set_cons_succ]
  refine wpAnyH_take (i := 10) (v := .int .i64 xn) (by rw [HO.out]; simp only [List.getElem?_toArray, List.getElem?_cons_succ, List.getElem?_cons_zero]; rfl) (by rw [HO.out]; kernel_rfl) (by rw [HO.out]; kernel_rfl) (by rw [HO.out]; kernel_rfl) (by rw [HQ.out]; exact fun _ _ _ h => h) (Or.inl ⟨by first | rfl | (rw [HO.out]; kernel_rfl), ?_⟩) hS ?_
  · intro w' hSw
    go_simp
  try simp only [Act.put, List.setIfInBounds_toArray, List.set_cons_zero, List.set_cons_succ]
  refine wpAnyH_take (i := 11) (v := .int .i64 xn) (by rw [HO.out]; simp only [List.getElem?_toArray, List.getElem?_cons_succ, List.getElem?_cons_zero]; rfl) (by rw [HO.out]; kernel_rfl) (by rw [HO.out]; kernel_rfl) (by rw [HO.out]; kernel_rfl) (by rw [HQ.out]; exact fun _ _ _ h => h) (Or.inl ⟨by first | rfl | (rw [HO.out]; kernel_rfl), ?_⟩) hS ?_
  · intro w' hSw
    go_simp
  try simp only [Act.put, List.setIfInBounds_toArray, List.set_cons_zero, List.set_cons_succ]
  refine wpAnyH_take (i := 12) (v := .slice (some ⟨g4, 0, none⟩) xn c4) (by rw [HO.out]; simp only [List.getElem?_toArray, List.getElem?_cons_succ, List.getElem?_cons_zero]; rfl) (by rw [HO.out]; kernel_rfl) (by rw [HO.out]; kernel_rfl) (by rw [HO.out]; kernel_rfl) (by rw [HQ.out]; exact fun _ _ _ h => h) (Or.inl ⟨by first | rfl | (rw [HO.out]; kernel_rfl), ?_⟩) hS ?_
  · intro w' hSw
    go_simp
  try simp only [Act.put, List.setIfInBounds_toArray, List.set_cons_zero, List.set_cons_succ]
  refine wpAnyH_take (i := 13) (v := .string sx) (by rw [HO.out]; simp only [List.getElem?_toArray, List.getElem?_cons_succ, List.getElem?_cons_zero]; rfl) (by rw [HO.out]; kernel_rfl) (by rw [HO.out]; kernel_rfl) (by rw [HO.out]; kernel_rfl) (by rw [HQ.out]; exact fun _ _ _ h => h) (Or.inl ⟨by first | rfl | (rw [HO.out]; kernel_rfl), ?_⟩) hS ?_
  · intro w' hSw
    have q := V4.out _ hSw
    go_simp
  try simp only [Act.put, List.setIfInBounds_toArray, List.set_cons_zero, List.set_cons_succ]
  refine wpAnyH_take (i := 14) (v := .slice (some ⟨g3, 0, none⟩) xn c3) (by rw [HO.out]; simp only [List.getElem?_toArray, List.getElem?_cons_succ, List.getElem?_cons_zero]; rfl) (by rw [HO.out]; kernel_rfl) (by rw [HO.out]; kernel_rfl) (by rw [HO.out]; kernel_rfl) (by rw [HQ.out]; exact fun _ _ _ h => h) (Or.inl ⟨by first | rfl | (rw [HO.out]; kernel_rfl), ?_⟩) hS ?_
  · intro w' hSw
    go_simp
  try simp only [Act.put, List.setIfInBounds_toArray, List.set_cons_zero, List.set_cons_succ]
  refine wpAnyH_take (i := 15) (v := .string sx) (by rw [HO.out]; simp only [List.getElem?_toArray, List.getElem?_cons_succ, List.getElem?_cons_zero]; rfl) (by rw [HO.out]; kernel_rfl) (by rw [HO.out]; kernel_rfl) (by rw [HO.out]; kernel_rfl) (by rw [HQ.out]; exact fun _ _ _ h => h) (Or.inl ⟨by first | rfl | (rw [HO.out]; kernel_rfl), ?_⟩) hS ?_
  · intro w' hSw
    have q := V3.out _ hSw
    go_simp
  try simp only [Act.put, List.setIfInBounds_toArray, List.set_cons_zero, List.set_cons_succ]
  refine wpAnyH_take (i := 16) (v := .bool true) (by rw [HO.out]; simp only [List.getElem?_toArray, List.getElem?_cons_succ, List.getElem?_cons_zero]; rfl) (by rw [HO.out]; kernel_rfl) (by rw [HO.out]; kernel_rfl) (by rw [HO.out]; kernel_rfl) (by rw [HQ.out]; exact fun _ _ _ h => h) (Or.inl ⟨by first | rfl | (rw [HO.out]; kernel_rfl), ?_⟩) hS ?_
  · intro w' hSw
    go_simp
  try simp only [Act.put, List.setIfInBounds_toArray, List.set_cons_zero, List.set_cons_succ]
  refine wpAnyH_take (i := 17) (v := .bool true) (by rw [HO.out]; simp only [List.getElem?_toArray, List.getElem?_cons_succ, List.getElem?_cons_zero]; rfl) (by rw [HO.out]; kernel_rfl) (by rw [HO.out]; kernel_rfl) (by rw [HO.out]; kernel_rfl) (by rw [HQ.out]; exact fun _ _ _ h => h) (Or.inl ⟨by first | rfl | (rw [HO.out]; kernel_rfl), ?_⟩) hS ?_
  · intro w' hSw
    go_simp
  try simp only [Act.put, List.setIfInBounds_toArray, List.set_cons_zero, List.set_cons_succ]
  refine wpAnyH_take (i := 18) (v := .bool true) (by rw [HO.out]; simp only [List.getElem?_toArray, List.getElem?_cons_succ, List.getElem?_cons_zero]; rfl) (by rw [HO.out]; kernel_rfl) (by rw [HO.out]; kernel_rfl) (by rw [HO.out]; kernel_rfl) (by rw [HQ.out]; exact fun _ _ _ h => h) (Or.inl ⟨by first | rfl | (rw [HO.out]; kernel_rfl), ?_⟩) hS ?_
  · intro w' hSw
    go_simp
  try simp only [Act.put, List.setIfInBounds_toArray, List.set_cons_zero, List.set_cons_succ]
  refine wpAnyH_done (by rw [HO.out]; kernel_rfl) ?_ _
  rw [HQ.out]
  refine NoPanic.normal ?_
  go_wp2_with fail
  refine wp_region_noPanic ?_
  refine name_ops ?_
  intro O2 QQ2 HO2 HQ2
  refine wp_region_held_drew (S := fun W => Below w4.heap.size w4 W) (by kernel_rfl) (hS.trans (Below.refl _ _).drew) (fun hS => ?_)
  rw [show O2.size = 25 by rw [HO2.out]; rfl]
  refine wpAnyH_take (i := 0) (v := .agg #[.int .u8 k0, .int .i64 n0, .string s0]) (by rw [HO2.out]; simp only [List.getElem?_toArray, List.getElem?_cons_succ, List.getElem?_cons_zero]; rfl) (by rw [HO2.out]; kernel_rfl) (by rw [HO2.out]; kernel_rfl) (by rw [HO2.out]; kernel_rfl) (by rw [HQ2.out]; exact fun _ _ _ h => h) (Or.inl ⟨by first | rfl | (rw [HO2.out]; kernel_rfl), ?_⟩) hS ?_
  · intro w' hSw
    obtain ⟨⟨q1, q2, q3⟩, ⟨q4, q5, q6⟩⟩ := SM.out _ hSw
    go_simp
  try simp only [Act.put, List.setIfInBounds_toArray, List.set_cons_zero, List.set_cons_succ]
  refine wpAnyH_take (i := 2) (v := .agg #[.int .u8 k0, .int .i64 n0, .string s0]) (by rw [HO2.out]; simp only [List.getElem?_toArray, List.getElem?_cons_succ, List.getElem?_cons_zero]; rfl) (by rw [HO2.out]; kernel_rfl) (by rw [HO2.out]; kernel_rfl) (by rw [HO2.out]; kernel_rfl) (by rw [HQ2.out]; exact fun _ _ _ h => h) (Or.inl ⟨by first | rfl | (rw [HO2.out]; kernel_rfl), ?_⟩) hS ?_
  · intro w' hSw
    obtain ⟨⟨q1, q2, q3⟩, ⟨q4, q5, q6⟩⟩ := SM.out _ hSw
    go_simp
  try simp only [Act.put, List.setIfInBounds_toArray, List.set_cons_zero, List.set_cons_succ]
  refine wpAnyH_take (i := 5) (v := .bool true) (by rw [HO2.out]; simp only [List.getElem?_toArray, List.getElem?_cons_succ, List.getElem?_cons_zero]; rfl) (by rw [HO2.out]; kernel_rfl) (by rw [HO2.out]; kernel_rfl) (by rw [HO2.out]; kernel_rfl) (by rw [HQ2.out]; exact fun _ _ _ h => h) (Or.inl ⟨by first | rfl | (rw [HO2.out]; kernel_rfl), ?_⟩) hS ?_
  · intro w' hSw
    go_simp
  try simp only [Act.put, List.setIfInBounds_toArray, List.set_cons_zero, List.set_cons_succ]
  refine wpAnyH_one (i := 1) (x := 70) (R := fun v _ => v = .string tx0) (by rw [HO2.out]; simp only [List.getElem?_toArray, List.getElem?_cons_succ, List.getElem?_cons_zero]; rfl) (by rw [HO2.out]; kernel_rfl) hS ?_ ?_
  · intro K hK
    simp only [Act.put, List.setIfInBounds_toArray, List.set_cons_zero, List.set_cons_succ] at hK
    unfold Steps
    rw [if_pos (by rw [HO2.out]; kernel_rfl)]
    go_simp
    refine (T0 _ (HVW.out _ hS)).mono ?_
    rintro e w9 ⟨rfl, hb9⟩
    exact hK _ _ rfl hb9
  rintro v9 w9 hv9 hb9 hS9
  obtain rfl := hv9
  clear hb9
  replace hS := hS9
  clear hS9
  try simp only [Act.put, List.setIfInBounds_toArray, List.set_cons_zero, List.set_cons_succ]
  refine wpAnyH_one (i := 3) (x := 72) (R := fun v _ => v = .string tx0) (by rw [HO2.out]; simp only [List.getElem?_toArray, List.getElem?_cons_succ, List.getElem?_cons_zero]; rfl) (by rw [HO2.out]; kernel_rfl) hS ?_ ?_
  · intro K hK
    simp only [Act.put, List.setIfInBounds_toArray, List.set_cons_zero, List.set_cons_succ] at hK
    unfold Steps
    rw [if_pos (by rw [HO2.out]; kernel_rfl)]
    go_simp
    refine (T1 _ (HVW.out _ hS)).mono ?_
    rintro e w9 ⟨rfl, hb9⟩
    exact hK _ _ rfl hb9
  rintro v9 w9 hv9 hb9 hS9
  obtain rfl := hv9
  clear hb9
  replace hS := hS9
  clear hS9
  try simp only [Act.put, List.setIfInBounds_toArray, List.set_cons_zero, List.set_cons_succ]
  refine wpAnyH_take (i := 4) (v := .bool true) (by rw [HO2.out]; simp only [List.getElem?_toArray, List.getElem?_cons_succ, List.getElem?_cons_zero]; rfl) (by rw [HO2.out]; kernel_rfl) (by rw [HO2.out]; kernel_rfl) (by rw [HO2.out]; kernel_rfl) (by rw [HQ2.out]; exact fun _ _ _ h => h) (Or.inl ⟨by first | rfl | (rw [HO2.out]; kernel_rfl), ?_⟩) hS ?_
  · intro w' hSw
    go_simp
  try simp only [Act.put, List.setIfInBounds_toArray, List.set_cons_zero, List.set_cons_succ]
  refine wpAnyH_take (i := 6) (v := .bool true) (by rw [HO2.out]; simp only [List.getElem?_toArray, List.getElem?_cons_succ, List.getElem?_cons_zero]; rfl) (by rw [HO2.out]; kernel_rfl) (by rw [HO2.out]; kernel_rfl) (by rw [HO2.out]; kernel_rfl) (by rw [HQ2.out]; exact fun _ _ _ h => h) (Or.inl ⟨by first | rfl | (rw [HO2.out]; kernel_rfl), ?_⟩) hS ?_
  · intro w' hSw
    go_simp
  try simp only [Act.put, List.setIfInBounds_toArray, List.set_cons_zero, List.set_cons_succ]
  refine wpAnyH_take (i := 7) (v := .bool true) (by rw [HO2.out]; simp only [List.getElem?_toArray, List.getElem?_cons_succ, List.getElem?_cons_zero]; rfl) (by rw [HO2.out]; kernel_rfl) (by rw [HO2.out]; kernel_rfl) (by rw [HO2.out]; kernel_rfl) (by rw [HQ2.out]; exact fun _ _ _ h => h) (Or.inl ⟨by first | rfl | (rw [HO2.out]; kernel_rfl), ?_⟩) hS ?_
  · intro w' hSw
    go_simp
  try simp only [Act.put, List.setIfInBounds_toArray, List.set_cons_zero, List.set_cons_succ]
  refine wpAnyH_take (i := 8) (v := .slice (some ⟨g3, 0, none⟩) xn c3) (by rw [HO2.out]; simp only [List.getElem?_toArray, List.getElem?_cons_succ, List.getElem?_cons_zero]; rfl) (by rw [HO2.out]; kernel_rfl) (by rw [HO2.out]; kernel_rfl) (by rw [HO2.out]; kernel_rfl) (by rw [HQ2.out]; exact fun _ _ _ h => h) (Or.inl ⟨by first | rfl | (rw [HO2.out]; kernel_rfl), ?_⟩) hS ?_
  · intro w' hSw
    go_simp
  try simp only [Act.put, List.setIfInBounds_toArray, List.set_cons_zero, List.set_cons_succ]
  refine wpAnyH_take (i := 9) (v := .string sx) (by rw [HO2.out]; simp only [List.getElem?_toArray, List.getElem?_cons_succ, List.getElem?_cons_zero]; rfl) (by rw [HO2.out]; kernel_rfl) (by rw [HO2.out]; kernel_rfl) (by rw [HO2.out]; kernel_rfl) (by rw [HQ2.out]; exact fun _ _ _ h => h) (Or.inl ⟨by first | rfl | (rw [HO2.out]; kernel_rfl), ?_⟩) hS ?_
  · intro w' hSw
    have q := V3.out _ hSw
    go_simp
  try simp only [Act.put, List.setIfInBounds_toArray, List.set_cons_zero, List.set_cons_succ]
  refine wpAnyH_take (i := 10) (v := .slice (some ⟨g4, 0, none⟩) xn c4) (by rw [HO2.out]; simp only [List.getElem?_toArray, List.getElem?_cons_succ, List.getElem?_cons_zero]; rfl) (by rw [HO2.out]; kernel_rfl) (by rw [HO2.out]; kernel_rfl) (by rw [HO2.out]; kernel_rfl) (by rw [HQ2.out]; exact fun _ _ _ h => h) (Or.inl ⟨by first | rfl | (rw [HO2.out]; kernel_rfl), ?_⟩) hS ?_
  · intro w' hSw
    go_simp
  try simp only [Act.put, List.setIfInBounds_toArray, List.set_cons_zero, List.set_cons_succ]
  refine wpAnyH_take (i := 11) (v := .string sx) (by rw [HO2.out]; simp only [List.getElem?_toArray, List.getElem?_cons_succ, List.getElem?_cons_zero]; rfl) (by rw [HO2.out]; kernel_rfl) (by rw [HO2.out]; kernel_rfl) (by rw [HO2.out]; kernel_rfl) (by rw [HQ2.out]; exact fun _ _ _ h => h) (Or.inl ⟨by first | rfl | (rw [HO2.out]; kernel_rfl), ?_⟩) hS ?_
  · intro w' hSw
    have q := V4.out _ hSw
    go_simp
  try simp only [Act.put, List.setIfInBounds_toArray, List.set_cons_zero, List.set_cons_succ]
  refine wpAnyH_take (i := 12) (v := .bool true) (by rw [HO2.out]; simp only [List.getElem?_toArray, List.getElem?_cons_succ, List.getElem?_cons_zero]; rfl) (by rw [HO2.out]; kernel_rfl) (by rw [HO2.out]; kernel_rfl) (by rw [HO2.out]; kernel_rfl) (by rw [HQ2.out]; exact fun _ _ _ h => h) (Or.inl ⟨by first | rfl | (rw [HO2.out]; kernel_rfl), ?_⟩) hS ?_
  · intro w' hSw
    go_simp
  try simp only [Act.put, List.setIfInBounds_toArray, List.set_cons_zero, List.set_cons_succ]
  refine wpAnyH_take (i := 13) (v := .bool true) (by rw [HO2.out]; simp only [List.getElem?_toArray, List.getElem?_cons_succ, List.getElem?_cons_zero]; rfl) (by rw [HO2.out]; kernel_rfl) (by rw [HO2.out]; kernel_rfl) (by rw [HO2.out]; kernel_rfl) (by rw [HQ2.out]; exact fun _ _ _ h => h) (Or.inl ⟨by first | rfl | (rw [HO2.out]; kernel_rfl), ?_⟩) hS ?_
  · intro w' hSw
    go_simp
  try simp only [Act.put, List.setIfInBounds_toArray, List.set_cons_zero, List.set_cons_succ]
  refine wpAnyH_take (i := 14) (v := .bool true) (by rw [HO2.out]; simp only [List.getElem?_toArray, List.getElem?_cons_succ, List.getElem?_cons_zero]; rfl) (by rw [HO2.out]; kernel_rfl) (by rw [HO2.out]; kernel_rfl) (by rw [HO2.out]; kernel_rfl) (by rw [HQ2.out]; exact fun _ _ _ h => h) (Or.inl ⟨by first | rfl | (rw [HO2.out]; kernel_rfl), ?_⟩) hS ?_
  · intro w' hSw
    go_simp
  try simp only [Act.put, List.setIfInBounds_toArray, List.set_cons_zero, List.set_cons_succ]
  refine wpAnyH_take (i := 15) (v := .bool true) (by rw [HO2.out]; simp only [List.getElem?_toArray, List.getElem?_cons_succ, List.getElem?_cons_zero]; rfl) (by rw [HO2.out]; kernel_rfl) (by rw [HO2.out]; kernel_rfl) (by rw [HO2.out]; kernel_rfl) (by rw [HQ2.out]; exact fun _ _ _ h => h) (Or.inl ⟨by first | rfl | (rw [HO2.out]; kernel_rfl), ?_⟩) hS ?_
  · intro w' hSw
    go_simp
  try simp only [Act.put, List.setIfInBounds_toArray, List.set_cons_zero, List.set_cons_succ]
  refine wpAnyH_take (i := 16) (v := .bool true) (by rw [HO2.out]; simp only [List.getElem?_toArray, List.getElem?_cons_succ, List.getElem?_cons_zero]; rfl) (by rw [HO2.out]; kernel_rfl) (by rw [HO2.out]; kernel_rfl) (by rw [HO2.out]; kernel_rfl) (by rw [HQ2.out]; exact fun _ _ _ h => h) (Or.inl ⟨by first | rfl | (rw [HO2.out]; kernel_rfl), ?_⟩) hS ?_
  · intro w' hSw
    go_simp
  try simp only [Act.put, List.setIfInBounds_toArray, List.set_cons_zero, List.set_cons_succ]
  refine wpAnyH_take (i := 17) (v := .bool true) (by rw [HO2.out]; simp only [List.getElem?_toArray, List.getElem?_cons_succ, List.getElem?_cons_zero]; rfl) (by rw [HO2.out]; kernel_rfl) (by rw [HO2.out]; kernel_rfl) (by rw [HO2.out]; kernel_rfl) (by rw [HQ2.out]; exact fun _ _ _ h => h) (Or.inl ⟨by first | rfl | (rw [HO2.out]; kernel_rfl), ?_⟩) hS ?_
  · intro w' hSw
    go_simp
  try simp only [Act.put, List.setIfInBounds_toArray, List.set_cons_zero, List.set_cons_succ]
  refine wpAnyH_take (i := 18) (v := .bool true) (by rw [HO2.out]; simp only [List.getElem?_toArray, List.getElem?_cons_succ, List.getElem?_cons_zero]; rfl) (by rw [HO2.out]; kernel_rfl) (by rw [HO2.out]; kernel_rfl) (by rw [HO2.out]; kernel_rfl) (by rw [HQ2.out]; exact fun _ _ _ h => h) (Or.inl ⟨by first | rfl | (rw [HO2.out]; kernel_rfl), ?_⟩) hS ?_
  · intro w' hSw
    go_simp
  try simp only [Act.put, List.setIfInBounds_toArray, List.set_cons_zero, List.set_cons_succ]
  refine wpAnyH_take (i := 19) (v := .bool true) (by rw [HO2.out]; simp only [List.getElem?_toArray, List.getElem?_cons_succ, List.getElem?_cons_zero]; rfl) (by rw [HO2.out]; kernel_rfl) (by rw [HO2.out]; kernel_rfl) (by rw [HO2.out]; kernel_rfl) (by rw [HQ2.out]; exact fun _ _ _ h => h) (Or.inl ⟨by first | rfl | (rw [HO2.out]; kernel_rfl), ?_⟩) hS ?_
  · intro w' hSw
    go_simp
  try simp only [Act.put, List.setIfInBounds_toArray, List.set_cons_zero, List.set_cons_succ]
  refine wpAnyH_take (i := 20) (v := .bool true) (by rw [HO2.out]; simp only [List.getElem?_toArray, List.getElem?_cons_succ, List.getElem?_cons_zero]; rfl) (by rw [HO2.out]; kernel_rfl) (by rw [HO2.out]; kernel_rfl) (by rw [HO2.out]; kernel_rfl) (by rw [HQ2.out]; exact fun _ _ _ h => h) (Or.inl ⟨by first | rfl | (rw [HO2.out]; kernel_rfl), ?_⟩) hS ?_
  · intro w' hSw
    go_simp
  try simp only [Act.put, List.setIfInBounds_toArray, List.set_cons_zero, List.set_cons_succ]
  refine wpAnyH_take (i := 21) (v := .bool true) (by rw [HO2.out]; simp only [List.getElem?_toArray, List.getElem?_cons_succ, List.getElem?_cons_zero]; rfl) (by rw [HO2.out]; kernel_rfl) (by rw [HO2.out]; kernel_rfl) (by rw [HO2.out]; kernel_rfl) (by rw [HQ2.out]; exact fun _ _ _ h => h) (Or.inl ⟨by first | rfl | (rw [HO2.out]; kernel_rfl), ?_⟩) hS ?_
  · intro w' hSw
    go_simp
  try simp only [Act.put, List.setIfInBounds_toArray, List.set_cons_zero, List.set_cons_succ]
  refine wpAnyH_one (i := 22) (x := 91) (R := fun v _ => v = .bool true) (by rw [HO2.out]; simp only [List.getElem?_toArray, List.getElem?_cons_succ, List.getElem?_cons_zero]; rfl) (by rw [HO2.out]; kernel_rfl) hS ?_ ?_
  · intro K hK
    simp only [Act.put, List.setIfInBounds_toArray, List.set_cons_zero, List.set_cons_succ] at hK
    unfold Steps
    rw [if_pos (by rw [HO2.out]; kernel_rfl)]
    go_simp
    refine (HA _ (HVW.out _ hS)).mono ?_
    rintro e w9 ⟨rfl, hb9⟩
    exact hK _ _ rfl hb9
  rintro v9 w9 hv9 hb9 hS9
  obtain rfl := hv9
  clear hb9
  replace hS := hS9
  clear hS9
  try simp only [Act.put, List.setIfInBounds_toArray, List.set_cons_zero, List.set_cons_succ]
  refine wpAnyH_take (i := 23) (v := .bool true) (by rw [HO2.out]; simp only [List.getElem?_toArray, List.getElem?_cons_succ, List.getElem?_cons_zero]; rfl) (by rw [HO2.out]; kernel_rfl) (by rw [HO2.out]; kernel_rfl) (by rw [HO2.out]; kernel_rfl) (by rw [HQ2.out]; exact fun _ _ _ h => h) (Or.inl ⟨by first | rfl | (rw [HO2.out]; kernel_rfl), ?_⟩) hS ?_
  · intro w' hSw
    go_simp
  try simp only [Act.put, List.setIfInBounds_toArray, List.set_cons_zero, List.set_cons_succ]
  refine wpAnyH_take (i := 24) (v := .bool true) (by rw [HO2.out]; simp only [List.getElem?_toArray, List.getElem?_cons_succ, List.getElem?_cons_zero]; rfl) (by rw [HO2.out]; kernel_rfl) (by rw [HO2.out]; kernel_rfl) (by rw [HO2.out]; kernel_rfl) (by rw [HQ2.out]; exact fun _ _ _ h => h) (Or.inl ⟨by first | rfl | (rw [HO2.out]; kernel_rfl), ?_⟩) hS ?_
  · intro w' hSw
    go_simp
  try simp only [Act.put, List.setIfInBounds_toArray, List.set_cons_zero, List.set_cons_succ]
  refine wpAnyH_done (by rw [HO2.out]; kernel_rfl) ?_ _
  rw [HQ2.out]
  refine NoPanic.normal ?_
  go_wp2
  go_ret
  exact ⟨rfl, HBW.out _ hS⟩
set_option maxHeartbeats 16000000 in
theorem m_ka (k0 n0 k1 n1 : Int) (s0 s1 : ByteArray) (w : World) (hV : Vars w) (pl0 pl1 : List Int) (tx0 tx1 : ByteArray) (xn yn : Nat) (hd : k0 ≠ k1) (h0 : s0.size ≤ 200) (h0' : s1.size ≤ 200) (C0 : ∀ W, Vars W → Calls Tryd.prog 14 #[.agg #[.int .u8 k0, .int .i64 n0, .string s0]] W fun e w' => e = .returned (.int .i64 0) ∧ Below W.heap.size W w') (P0 : ∀ W, Vars W → Calls Tryd.prog 24 #[.agg #[.int .u8 k0, .int .i64 n0, .string s0]] W fun e w' => ∃ v, e = .returned (.tuple #[v, .int .i64 0]) ∧ Own w' W.heap.size v pl0 ∧ Below W.heap.size W w') (T0 : ∀ W, Vars W → Calls Tryd.prog 16 #[.agg #[.int .u8 k0, .int .i64 n0, .string s0]] W fun e w' => e = .returned (.string tx0) ∧ Below W.heap.size W w') (C1 : ∀ W, Vars W → Calls Tryd.prog 14 #[.agg #[.int .u8 k1, .int .i64 n1, .string s1]] W fun e w' => e = .returned (.int .i64 0) ∧ Below W.heap.size W w') (P1 : ∀ W, Vars W → Calls Tryd.prog 24 #[.agg #[.int .u8 k1, .int .i64 n1, .string s1]] W fun e w' => ∃ v, e = .returned (.tuple #[v, .int .i64 0]) ∧ Own w' W.heap.size v pl1 ∧ Below W.heap.size W w') (T1 : ∀ W, Vars W → Calls Tryd.prog 16 #[.agg #[.int .u8 k1, .int .i64 n1, .string s1]] W fun e w' => e = .returned (.string tx1) ∧ Below W.heap.size W w') (L0 : Hid (pl0.length = xn)) (A0 : Hid (AllB pl0)) (hx1 : 1 ≤ xn) (hx2 : xn ≤ 30) (L1 : Hid (pl1.length = yn)) (A1 : Hid (AllB pl1)) (hy1 : 1 ≤ yn) (hy2 : yn ≤ 30) (hle : xn ≤ yn) (HT : (tx0.toList == tx1.toList) = false) (HS : ((strOfNums pl0).toList == (strOfNums pl1).toList) = false) (HG : ((strOfNums (pl1.take xn)).toList == (strOfNums pl0).toList) = false) : Calls Tryd.prog 8 #[.agg #[.int .u8 k0, .int .i64 n0, .string s0], .agg #[.int .u8 k1, .int .i64 n1, .string s1]] w fun e w' => e = .returned (.bool true) ∧ Below w.heap.size w w' := by
  have HA := awake_any
  have h3 : decide ((200 : Int) < (s0.size : Int)) = false := by simp; omega
  have h4 : decide ((200 : Int) < (s1.size : Int)) = false := by simp; omega
  obtain ⟨W0, hW0⟩ : ∃ W0, W0 = (w.alloc (.cells #[.int .u8 k0, .int .i64 n0, .string s0] 23)).alloc (.cells #[.int .u8 k1, .int .i64 n1, .string s1] 23) := ⟨_, rfl⟩
  have HB0 : Hid (Below w.heap.size w W0) := by rw [hW0]; exact two_new _ _ _
  have SL : Hid (∀ W, Below W0.heap.size W0 W → (W.cell? ⟨w.heap.size, 0, none⟩ = some (.int .u8 k0) ∧ W.cell? ⟨w.heap.size, 1, none⟩ = some (.int .i64 n0) ∧ W.cell? ⟨w.heap.size, 2, none⟩ = some (.string s0)) ∧ (W.cell? ⟨w.heap.size + 1, 0, none⟩ = some (.int .u8 k1) ∧ W.cell? ⟨w.heap.size + 1, 1, none⟩ = some (.int .i64 n1) ∧ W.cell? ⟨w.heap.size + 1, 2, none⟩ = some (.string s1))) := fun W hW => by
    rw [hW0] at hW
    have b1 := ((Bk.new w k0 n0 s0).below (box1 _ _)).below hW
    have b2 := (Bk.new (w.alloc (.cells #[.int .u8 k0, .int .i64 n0, .string s0] 23)) k1 n1 s1).below hW
    have c2 := b2.cells
    simp at c2
    exact ⟨b1.cells, c2⟩
  have HV : Hid (∀ W, Below W0.heap.size W0 W → Vars W) := fun W hW => (hV.below HB0.out).below hW
  go_enter Tryd.func8, Tryd.ntmps8
  go_wp2_with (first | (go_at_call 14; rw [← hW0]; refine (C0 _ (HV.out _ (Below.refl _ _))).mono ?_; rintro e w1 ⟨rfl, hb1⟩; clear C0 hW0; obtain ⟨⟨x1, x2, x3⟩, ⟨x4, x5, x6⟩⟩ := SL.out _ hb1) | (go_at_call 14; refine (C1 _ (HV.out _ hb1)).mono ?_; rintro e w2 ⟨rfl, hb2⟩; clear C1; have H2 := bt hb1 hb2; obtain ⟨⟨y1, y2, y3⟩, ⟨y4, y5, y6⟩⟩ := SL.out _ H2) | (go_at_call 24; refine (P0 _ (HV.out _ H2)).mono ?_; rintro e w3 ⟨v3, rfl, o3, hb3⟩; clear P0; obtain ⟨g3, c3, rfl, hg3, _, _⟩ := o3.shape xn L0.out hx1; have H3 := bt H2 hb3; obtain ⟨⟨z1, z2, z3⟩, ⟨z4, z5, z6⟩⟩ := SL.out _ H3) | (go_at_call 24; refine (P1 _ (HV.out _ H3)).mono ?_; rintro e w4 ⟨v4, rfl, o4, hb4⟩; clear P1; obtain ⟨g4, c4, rfl, hg4, _, _⟩ := o4.shape yn L1.out hy1; have H4 := bt H3 hb4; obtain ⟨⟨u1, u2, u3⟩, ⟨u4, u5, u6⟩⟩ := SL.out _ H4))
  have V3 : Hid (∀ W, Below w4.heap.size w4 W → (convert 39 9 (.slice (some ⟨g3, 0, none⟩) xn c3)).run Tryd.prog W = .ok (.string (strOfNums pl0)) W) := fun W hW => conv_own ((o3.below hb4).below hW) A0.out
  have V4 : Hid (∀ W, Below w4.heap.size w4 W → (convert 39 9 (.slice (some ⟨g4, 0, none⟩) yn c4)).run Tryd.prog W = .ok (.string (strOfNums pl1)) W) := fun W hW => conv_own (o4.below hW) A1.out
  have VT : Hid (∀ W, Below w4.heap.size w4 W → (convert 39 9 (.slice (some ⟨g4, 0, none⟩) xn c4)).run Tryd.prog W = .ok (.string (strOfNums (pl1.take xn))) W) := fun W hW => by
    have hbv := (((o4.below hW).bv A1.out).take xn)
    have := conv_bv (cap := c4) hbv (by intro h; cases h)
    rw [show (pl1.take xn).length = xn by rw [List.length_take, L1.out]; omega] at this
    exact this
  have SM : Hid (∀ W, Below w4.heap.size w4 W → (W.cell? ⟨w.heap.size, 0, none⟩ = some (.int .u8 k0) ∧ W.cell? ⟨w.heap.size, 1, none⟩ = some (.int .i64 n0) ∧ W.cell? ⟨w.heap.size, 2, none⟩ = some (.string s0)) ∧ (W.cell? ⟨w.heap.size + 1, 0, none⟩ = some (.int .u8 k1) ∧ W.cell? ⟨w.heap.size + 1, 1, none⟩ = some (.int .i64 n1) ∧ W.cell? ⟨w.heap.size + 1, 2, none⟩ = some (.string s1))) := fun W hW => SL.out _ (bt H4 hW)
  have HVW : Hid (∀ W, Below w4.heap.size w4 W → Vars W) := fun W hW => HV.out _ (bt H4 hW)
  have HBW : Hid (∀ W, Below w4.heap.size w4 W → Below w.heap.size w W) := fun W hW => bt (bt HB0.out H4) hW
  have m1 : (1 : Int) ≤ xn := by omega
  have m2 : (xn : Int) ≤ 30 := by omega
  have m3 : (xn : Int) ≤ c3 := by omega
  have m4 : (yn : Int) ≤ c4 := by omega
  have m7 : (1 : Int) ≤ yn := by omega
  have m8 : (yn : Int) ≤ 30 := by omega
  have m5 : min (xn : Int) yn = xn := by omega
  have m6 : decide ((xn : Int) ≤ yn) = true := by simp; omega
  have m9 : (xn : Int) ≤ c4 := by omega
  have m10 : (xn : Int) ≤ yn := by omega
  clear x1 x2 x3 x4 x5 x6 y1 y2 y3 y4 y5 y6 z1 z2 z3 z4 z5 z6 u1 u2 u3 u4 u5 u6 hb1 hb2 hb3 hb4 H2 H3 H4 o3 o4 SL HV HB0 hV
  generalize hsx : strOfNums pl0 = sx at *
  generalize hsy : strOfNums pl1 = sy at *
  generalize hst : strOfNums (pl1.take xn) = st at *
  clear hst
  clear hsy
  clear hsx
  refine wp_region_noPanic ?_
  refine name_ops ?_
  intro O QQ HO HQ
  refine wp_region_held_drew (S := fun W => Below w4.heap.size w4 W) (by kernel_rfl) (Below.refl _ _).drew (fun hS => ?_)
  rw [show O.size = 19 by rw [HO.out]; rfl]
  refine wpAnyH_take (i := 0) (v := .slice (some ⟨g3, 0, none⟩) xn c3) (by rw [HO.out]; simp only [List.getElem?_toArray, List.getElem?_cons_succ, List.getElem?_cons_zero]; rfl) (by rw [HO.out]; kernel_rfl) (by rw [HO.out]; kernel_rfl) (by rw [HO.out]; kernel_rfl) (by rw [HQ.out]; exact fun _ _ _ h => h) (Or.inl ⟨by first | rfl | (rw [HO.out]; kernel_rfl), ?_⟩) hS ?_
  · intro w' hSw
    go_simp
  try simp only [Act.put, List.setIfInBounds_toArray, List.set_cons_zero, List.set_cons_succ]
  refine wpAnyH_take (i := 1) (v := .int .i64 xn) (by rw [HO.out]; simp only [List.getElem?_toArray, List.getElem?_cons_succ, List.getElem?_cons_zero]; rfl) (by rw [HO.out]; kernel_rfl) (by rw [HO.out]; kernel_rfl) (by rw [HO.out]; kernel_rfl) (by rw [HQ.out]; exact fun _ _ _ h => h) (Or.inl ⟨by first | rfl | (rw [HO.out]; kernel_rfl), ?_⟩) hS ?_
  · intro w' hSw
    go_simp
  try simp only [Act.put, List.setIfInBounds_toArray, List.set_cons_zero, List.set_cons_succ]
  refine wpAnyH_take (i := 2) (v := .slice (some ⟨g4, 0, none⟩) yn c4) (by rw [HO.out]; simp only [List.getElem?_toArray, List.getElem?_cons_succ, List.getElem?_cons_zero]; rfl) (by rw [HO.out]; kernel_rfl) (by rw [HO.out]; kernel_rfl) (by rw [HO.out]; kernel_rfl) (by rw [HQ.out]; exact fun _ _ _ h => h) (Or.inl ⟨by first | rfl | (rw [HO.out]; kernel_rfl), ?_⟩) hS ?_
  · intro w' hSw
    go_simp
  try simp only [Act.put, List.setIfInBounds_toArray, List.set_cons_zero, List.set_cons_succ]
  refine wpAnyH_take (i := 3) (v := .int .i64 yn) (by rw [HO.out]; simp only [List.getElem?_toArray, List.getElem?_cons_succ, List.getElem?_cons_zero]; rfl) (by rw [HO.out]; kernel_rfl) (by rw [HO.out]; kernel_rfl) (by rw [HO.out]; kernel_rfl) (by rw [HQ.out]; exact fun _ _ _ h => h) (Or.inl ⟨by first | rfl | (rw [HO.out]; kernel_rfl), ?_⟩) hS ?_
  · intro w' hSw
    go_simp
  try simp only [Act.put, List.setIfInBounds_toArray, List.set_cons_zero, List.set_cons_succ]
  refine wpAnyH_take (i := 4) (v := .bool true) (by rw [HO.out]; simp only [List.getElem?_toArray, List.getElem?_cons_succ, List.getElem?_cons_zero]; rfl) (by rw [HO.out]; kernel_rfl) (by rw [HO.out]; kernel_rfl) (by rw [HO.out]; kernel_rfl) (by rw [HQ.out]; exact fun _ _ _ h => h) (Or.inl ⟨by first | rfl | (rw [HO.out]; kernel_rfl), ?_⟩) hS ?_
  · intro w' hSw
    go_simp
  try simp only [Act.put, List.setIfInBounds_toArray, List.set_cons_zero, List.set_cons_succ]
  refine wpAnyH_take (i := 5) (v := .bool true) (by rw [HO.out]; simp only [List.getElem?_toArray, List.getElem?_cons_succ, List.getElem?_cons_zero]; rfl) (by rw [HO.out]; kernel_rfl) (by rw [HO.out]; kernel_rfl) (by rw [HO.out]; kernel_rfl) (by rw [HQ.out]; exact fun _ _ _ h => h) (Or.inl ⟨by first | rfl | (rw [HO.out]; kernel_rfl), ?_⟩) hS ?_
  · intro w' hSw
    go_simp
  try simp only [Act.put, List.setIfInBounds_toArray, List.set_cons_zero, List.set_cons_succ]
  refine wpAnyH_take (i := 6) (v := .slice (some ⟨g4, 0, none⟩) yn c4) (by rw [HO.out]; simp only [List.getElem?_toArray, List.getElem?_cons_succ, List.getElem?_cons_zero]; rfl) (by rw [HO.out]; kernel_rfl) (by rw [HO.out]; kernel_rfl) (by rw [HO.out]; kernel_rfl) (by rw [HQ.out]; exact fun _ _ _ h => h) (Or.inl ⟨by first | rfl | (rw [HO.out]; kernel_rfl), ?_⟩) hS ?_
  · intro w' hSw
    go_simp
  try simp only [Act.put, List.setIfInBounds_toArray, List.set_cons_zero, List.set_cons_succ]
  refine wpAnyH_take (i := 7) (v := .slice (some ⟨g3, 0, none⟩) xn c3) (by rw [HO.out]; simp only [List.getElem?_toArray, List.getElem?_cons_succ, List.getElem?_cons_zero]; rfl) (by rw [HO.out]; kernel_rfl) (by rw [HO.out]; kernel_rfl) (by rw [HO.out]; kernel_rfl) (by rw [HQ.out]; exact fun _ _ _ h => h) (Or.inl ⟨by first | rfl | (rw [HO.out]; kernel_rfl), ?_⟩) hS ?_
  · intro w' hSw
    go_simp
  try simp only [Act.put, List.setIfInBounds_toArray, List.set_cons_zero, List.set_cons_succ]
  refine wpAnyH_take (i := 8) (v := .int .i64 xn) (by rw [HO.out]; simp only [List.getElem?_toArray, List.getElem?_cons_succ, List.getElem?_cons_zero]; rfl) (by rw [HO.out]; kernel_rfl) (by rw [HO.out]; kernel_rfl) (by rw [HO.out]; kernel_rfl) (by rw [HQ.out]; exact fun _ _ _ h => h) (Or.inl ⟨by first | rfl | (rw [HO.out]; kernel_rfl), ?_⟩) hS ?_
  · intro w' hSw
    go_simp
  try simp only [Act.put, List.setIfInBounds_toArray, List.set_cons_zero, List.set_cons_succ]
  refine wpAnyH_take (i := 9) (v := .slice (some ⟨g4, 0, none⟩) yn c4) (by rw [HO.out]; simp only [List.getElem?_toArray, List.getElem?_cons_succ, List.getElem?_cons_zero]; rfl) (by rw [HO.out]; kernel_rfl) (by rw [HO.out]; kernel_rfl) (by rw [HO.out]; kernel_rfl) (by rw [HQ.out]; exact fun _ _ _ h => h) (Or.inl ⟨by first | rfl | (rw [HO.out]; kernel_rfl), ?_⟩) hS ?_
  · intro w' hSw
    go_simp
  try simp only [Act.put, List.setIfInBounds_toArray, List.set_cons_zero, List.set_cons_succ]
  refine wpAnyH_take (i := 10) (v := .int .i64 yn) (by rw [HO.out]; simp only [List.getElem?_toArray, List.getElem?_cons_succ, List.getElem?_cons_zero]; rfl) (by rw [HO.out]; kernel_rfl) (by rw [HO.out]; kernel_rfl) (by rw [HO.out]; kernel_rfl) (by rw [HQ.out]; exact fun _ _ _ h => h) (Or.inl ⟨by first | rfl | (rw [HO.out]; kernel_rfl), ?_⟩) hS ?_
  · intro w' hSw
    go_simp
  try simp only [Act.put, List.setIfInBounds_toArray, List.set_cons_zero, List.set_cons_succ]
  refine wpAnyH_take (i := 11) (v := .int .i64 xn) (by rw [HO.out]; simp only [List.getElem?_toArray, List.getElem?_cons_succ, List.getElem?_cons_zero]; rfl) (by rw [HO.out]; kernel_rfl) (by rw [HO.out]; kernel_rfl) (by rw [HO.out]; kernel_rfl) (by rw [HQ.out]; exact fun _ _ _ h => h) (Or.inl ⟨by first | rfl | (rw [HO.out]; kernel_rfl), ?_⟩) hS ?_
  · intro w' hSw
    go_simp
  try simp only [Act.put, List.setIfInBounds_toArray, List.set_cons_zero, List.set_cons_succ]
  refine wpAnyH_take (i := 12) (v := .slice (some ⟨g4, 0, none⟩) xn c4) (by rw [HO.out]; simp only [List.getElem?_toArray, List.getElem?_cons_succ, List.getElem?_cons_zero]; rfl) (by rw [HO.out]; kernel_rfl) (by rw [HO.out]; kernel_rfl) (by rw [HO.out]; kernel_rfl) (by rw [HQ.out]; exact fun _ _ _ h => h) (Or.inl ⟨by first | rfl | (rw [HO.out]; kernel_rfl), ?_⟩) hS ?_
  · intro w' hSw
    go_simp
  try simp only [Act.put, List.setIfInBounds_toArray, List.set_cons_zero, List.set_cons_succ]
  refine wpAnyH_take (i := 13) (v := .string st) (by rw [HO.out]; simp only [List.getElem?_toArray, List.getElem?_cons_succ, List.getElem?_cons_zero]; rfl) (by rw [HO.out]; kernel_rfl) (by rw [HO.out]; kernel_rfl) (by rw [HO.out]; kernel_rfl) (by rw [HQ.out]; exact fun _ _ _ h => h) (Or.inl ⟨by first | rfl | (rw [HO.out]; kernel_rfl), ?_⟩) hS ?_
  · intro w' hSw
    have q := VT.out _ hSw
    go_simp
  try simp only [Act.put, List.setIfInBounds_toArray, List.set_cons_zero, List.set_cons_succ]
  refine wpAnyH_take (i := 14) (v := .slice (some ⟨g3, 0, none⟩) xn c3) (by rw [HO.out]; simp only [List.getElem?_toArray, List.getElem?_cons_succ, List.getElem?_cons_zero]; rfl) (by rw [HO.out]; kernel_rfl) (by rw [HO.out]; kernel_rfl) (by rw [HO.out]; kernel_rfl) (by rw [HQ.out]; exact fun _ _ _ h => h) (Or.inl ⟨by first | rfl | (rw [HO.out]; kernel_rfl), ?_⟩) hS ?_
  · intro w' hSw
    go_simp
  try simp only [Act.put, List.setIfInBounds_toArray, List.set_cons_zero, List.set_cons_succ]
  refine wpAnyH_take (i := 15) (v := .string sx) (by rw [HO.out]; simp only [List.getElem?_toArray, List.getElem?_cons_succ, List.getElem?_cons_zero]; rfl) (by rw [HO.out]; kernel_rfl) (by rw [HO.out]; kernel_rfl) (by rw [HO.out]; kernel_rfl) (by rw [HQ.out]; exact fun _ _ _ h => h) (Or.inl ⟨by first | rfl | (rw [HO.out]; kernel_rfl), ?_⟩) hS ?_
  · intro w' hSw
    have q := V3.out _ hSw
    go_simp
  try simp only [Act.put, List.setIfInBounds_toArray, List.set_cons_zero, List.set_cons_succ]
  refine wpAnyH_take (i := 16) (v := .bool false) (by rw [HO.out]; simp only [List.getElem?_toArray, List.getElem?_cons_succ, List.getElem?_cons_zero]; rfl) (by rw [HO.out]; kernel_rfl) (by rw [HO.out]; kernel_rfl) (by rw [HO.out]; kernel_rfl) (by rw [HQ.out]; exact fun _ _ _ h => h) (Or.inl ⟨by first | rfl | (rw [HO.out]; kernel_rfl), ?_⟩) hS ?_
  · intro w' hSw
    go_simp
  try simp only [Act.put, List.setIfInBounds_toArray, List.set_cons_zero, List.set_cons_succ]
  refine wpAnyH_take (i := 17) (v := .bool false) (by rw [HO.out]; simp only [List.getElem?_toArray, List.getElem?_cons_succ, List.getElem?_cons_zero]; rfl) (by rw [HO.out]; kernel_rfl) (by rw [HO.out]; kernel_rfl) (by rw [HO.out]; kernel_rfl) (by rw [HQ.out]; exact fun _ _ _ h => h) (Or.inl ⟨by first | rfl | (rw [HO.out]; kernel_rfl), ?_⟩) hS ?_
  · intro w' hSw
    go_simp
  try simp only [Act.put, List.setIfInBounds_toArray, List.set_cons_zero, List.set_cons_succ]
  refine wpAnyH_take (i := 18) (v := .bool false) (by rw [HO.out]; simp only [List.getElem?_toArray, List.getElem?_cons_succ, List.getElem?_cons_zero]; rfl) (by rw [HO.out]; kernel_rfl) (by rw [HO.out]; kernel_rfl) (by rw [HO.out]; kernel_rfl) (by rw [HQ.out]; exact fun _ _ _ h => h) (Or.inl ⟨by first | rfl | (rw [HO.out]; kernel_rfl), ?_⟩) hS ?_
  · intro w' hSw
    go_simp
  try simp only [Act.put, List.setIfInBounds_toArray, List.set_cons_zero, List.set_cons_succ]
  refine wpAnyH_done (by rw [HO.out]; kernel_rfl) ?_ _
  rw [HQ.out]
  refine NoPanic.normal ?_
  go_wp2_with fail
  refine wp_region_noPanic ?_
  refine name_ops ?_
  intro O2 QQ2 HO2 HQ2
  refine wp_region_held_drew (S := fun W => Below w4.heap.size w4 W) (by kernel_rfl) (hS.trans (Below.refl _ _).drew) (fun hS => ?_)
  rw [show O2.size = 25 by rw [HO2.out]; rfl]
  refine wpAnyH_take (i := 0) (v := .agg #[.int .u8 k0, .int .i64 n0, .string s0]) (by rw [HO2.out]; simp only [List.getElem?_toArray, List.getElem?_cons_succ, List.getElem?_cons_zero]; rfl) (by rw [HO2.out]; kernel_rfl) (by rw [HO2.out]; kernel_rfl) (by rw [HO2.out]; kernel_rfl) (by rw [HQ2.out]; exact fun _ _ _ h => h) (Or.inl ⟨by first | rfl | (rw [HO2.out]; kernel_rfl), ?_⟩) hS ?_
  · intro w' hSw
    obtain ⟨⟨q1, q2, q3⟩, ⟨q4, q5, q6⟩⟩ := SM.out _ hSw
    go_simp
  try simp only [Act.put, List.setIfInBounds_toArray, List.set_cons_zero, List.set_cons_succ]
  refine wpAnyH_take (i := 2) (v := .agg #[.int .u8 k1, .int .i64 n1, .string s1]) (by rw [HO2.out]; simp only [List.getElem?_toArray, List.getElem?_cons_succ, List.getElem?_cons_zero]; rfl) (by rw [HO2.out]; kernel_rfl) (by rw [HO2.out]; kernel_rfl) (by rw [HO2.out]; kernel_rfl) (by rw [HQ2.out]; exact fun _ _ _ h => h) (Or.inl ⟨by first | rfl | (rw [HO2.out]; kernel_rfl), ?_⟩) hS ?_
  · intro w' hSw
    obtain ⟨⟨q1, q2, q3⟩, ⟨q4, q5, q6⟩⟩ := SM.out _ hSw
    go_simp
  try simp only [Act.put, List.setIfInBounds_toArray, List.set_cons_zero, List.set_cons_succ]
  refine wpAnyH_take (i := 5) (v := .bool false) (by rw [HO2.out]; simp only [List.getElem?_toArray, List.getElem?_cons_succ, List.getElem?_cons_zero]; rfl) (by rw [HO2.out]; kernel_rfl) (by rw [HO2.out]; kernel_rfl) (by rw [HO2.out]; kernel_rfl) (by rw [HQ2.out]; exact fun _ _ _ h => h) (Or.inl ⟨by first | rfl | (rw [HO2.out]; kernel_rfl), ?_⟩) hS ?_
  · intro w' hSw
    go_simp
  try simp only [Act.put, List.setIfInBounds_toArray, List.set_cons_zero, List.set_cons_succ]
  refine wpAnyH_one (i := 1) (x := 70) (R := fun v _ => v = .string tx0) (by rw [HO2.out]; simp only [List.getElem?_toArray, List.getElem?_cons_succ, List.getElem?_cons_zero]; rfl) (by rw [HO2.out]; kernel_rfl) hS ?_ ?_
  · intro K hK
    simp only [Act.put, List.setIfInBounds_toArray, List.set_cons_zero, List.set_cons_succ] at hK
    unfold Steps
    rw [if_pos (by rw [HO2.out]; kernel_rfl)]
    go_simp
    refine (T0 _ (HVW.out _ hS)).mono ?_
    rintro e w9 ⟨rfl, hb9⟩
    exact hK _ _ rfl hb9
  rintro v9 w9 hv9 hb9 hS9
  obtain rfl := hv9
  clear hb9
  replace hS := hS9
  clear hS9
  try simp only [Act.put, List.setIfInBounds_toArray, List.set_cons_zero, List.set_cons_succ]
  refine wpAnyH_one (i := 3) (x := 72) (R := fun v _ => v = .string tx1) (by rw [HO2.out]; simp only [List.getElem?_toArray, List.getElem?_cons_succ, List.getElem?_cons_zero]; rfl) (by rw [HO2.out]; kernel_rfl) hS ?_ ?_
  · intro K hK
    simp only [Act.put, List.setIfInBounds_toArray, List.set_cons_zero, List.set_cons_succ] at hK
    unfold Steps
    rw [if_pos (by rw [HO2.out]; kernel_rfl)]
    go_simp
    refine (T1 _ (HVW.out _ hS)).mono ?_
    rintro e w9 ⟨rfl, hb9⟩
    exact hK _ _ rfl hb9
  rintro v9 w9 hv9 hb9 hS9
  obtain rfl := hv9
  clear hb9
  replace hS := hS9
  clear hS9
  try simp only [Act.put, List.setIfInBounds_toArray, List.set_cons_zero, List.set_cons_succ]
  refine wpAnyH_take (i := 4) (v := .bool false) (by rw [HO2.out]; simp only [List.getElem?_toArray, List.getElem?_cons_succ, List.getElem?_cons_zero]; rfl) (by rw [HO2.out]; kernel_rfl) (by rw [HO2.out]; kernel_rfl) (by rw [HO2.out]; kernel_rfl) (by rw [HQ2.out]; exact fun _ _ _ h => h) (Or.inl ⟨by first | rfl | (rw [HO2.out]; kernel_rfl), ?_⟩) hS ?_
  · intro w' hSw
    go_simp
  try simp only [Act.put, List.setIfInBounds_toArray, List.set_cons_zero, List.set_cons_succ]
  refine wpAnyH_take (i := 6) (v := .bool true) (by rw [HO2.out]; simp only [List.getElem?_toArray, List.getElem?_cons_succ, List.getElem?_cons_zero]; rfl) (by rw [HO2.out]; kernel_rfl) (by rw [HO2.out]; kernel_rfl) (by rw [HO2.out]; kernel_rfl) (by rw [HQ2.out]; exact fun _ _ _ h => h) (Or.inl ⟨by first | rfl | (rw [HO2.out]; kernel_rfl), ?_⟩) hS ?_
  · intro w' hSw
    go_simp
  try simp only [Act.put, List.setIfInBounds_toArray, List.set_cons_zero, List.set_cons_succ]
  refine wpAnyH_take (i := 7) (v := .bool true) (by rw [HO2.out]; simp only [List.getElem?_toArray, List.getElem?_cons_succ, List.getElem?_cons_zero]; rfl) (by rw [HO2.out]; kernel_rfl) (by rw [HO2.out]; kernel_rfl) (by rw [HO2.out]; kernel_rfl) (by rw [HQ2.out]; exact fun _ _ _ h => h) (Or.inl ⟨by first | rfl | (rw [HO2.out]; kernel_rfl), ?_⟩) hS ?_
  · intro w' hSw
    go_simp
  try simp only [Act.put, List.setIfInBounds_toArray, List.set_cons_zero, List.set_cons_succ]
  refine wpAnyH_take (i := 8) (v := .slice (some ⟨g3, 0, none⟩) xn c3) (by rw [HO2.out]; simp only [List.getElem?_toArray, List.getElem?_cons_succ, List.getElem?_cons_zero]; rfl) (by rw [HO2.out]; kernel_rfl) (by rw [HO2.out]; kernel_rfl) (by rw [HO2.out]; kernel_rfl) (by rw [HQ2.out]; exact fun _ _ _ h => h) (Or.inl ⟨by first | rfl | (rw [HO2.out]; kernel_rfl), ?_⟩) hS ?_
  · intro w' hSw
    go_simp
  try simp only [Act.put, List.setIfInBounds_toArray, List.set_cons_zero, List.set_cons_succ]
  refine wpAnyH_take (i := 9) (v := .string sx) (by rw [HO2.out]; simp only [List.getElem?_toArray, List.getElem?_cons_succ, List.getElem?_cons_zero]; rfl) (by rw [HO2.out]; kernel_rfl) (by rw [HO2.out]; kernel_rfl) (by rw [HO2.out]; kernel_rfl) (by rw [HQ2.out]; exact fun _ _ _ h => h) (Or.inl ⟨by first | rfl | (rw [HO2.out]; kernel_rfl), ?_⟩) hS ?_
  · intro w' hSw
    have q := V3.out _ hSw
    go_simp
  try simp only [Act.put, List.setIfInBounds_toArray, List.set_cons_zero, List.set_cons_succ]
  refine wpAnyH_take (i := 10) (v := .slice (some ⟨g4, 0, none⟩) yn c4) (by rw [HO2.out]; simp only [List.getElem?_toArray, List.getElem?_cons_succ, List.getElem?_cons_zero]; rfl) (by rw [HO2.out]; kernel_rfl) (by rw [HO2.out]; kernel_rfl) (by rw [HO2.out]; kernel_rfl) (by rw [HQ2.out]; exact fun _ _ _ h => h) (Or.inl ⟨by first | rfl | (rw [HO2.out]; kernel_rfl), ?_⟩) hS ?_
  · intro w' hSw
    go_simp
  try simp only [Act.put, List.setIfInBounds_toArray, List.set_cons_zero, List.set_cons_succ]
  refine wpAnyH_take (i := 11) (v := .string sy) (by rw [HO2.out]; simp only [List.getElem?_toArray, List.getElem?_cons_succ, List.getElem?_cons_zero]; rfl) (by rw [HO2.out]; kernel_rfl) (by rw [HO2.out]; kernel_rfl) (by rw [HO2.out]; kernel_rfl) (by rw [HQ2.out]; exact fun _ _ _ h => h) (Or.inl ⟨by first | rfl | (rw [HO2.out]; kernel_rfl), ?_⟩) hS ?_
  · intro w' hSw
    have q := V4.out _ hSw
    go_simp
  try simp only [Act.put, List.setIfInBounds_toArray, List.set_cons_zero, List.set_cons_succ]
  refine wpAnyH_take (i := 12) (v := .bool false) (by rw [HO2.out]; simp only [List.getElem?_toArray, List.getElem?_cons_succ, List.getElem?_cons_zero]; rfl) (by rw [HO2.out]; kernel_rfl) (by rw [HO2.out]; kernel_rfl) (by rw [HO2.out]; kernel_rfl) (by rw [HQ2.out]; exact fun _ _ _ h => h) (Or.inl ⟨by first | rfl | (rw [HO2.out]; kernel_rfl), ?_⟩) hS ?_
  · intro w' hSw
    go_simp
  try simp only [Act.put, List.setIfInBounds_toArray, List.set_cons_zero, List.set_cons_succ]
  refine wpAnyH_take (i := 13) (v := .bool false) (by rw [HO2.out]; simp only [List.getElem?_toArray, List.getElem?_cons_succ, List.getElem?_cons_zero]; rfl) (by rw [HO2.out]; kernel_rfl) (by rw [HO2.out]; kernel_rfl) (by rw [HO2.out]; kernel_rfl) (by rw [HQ2.out]; exact fun _ _ _ h => h) (Or.inl ⟨by first | rfl | (rw [HO2.out]; kernel_rfl), ?_⟩) hS ?_
  · intro w' hSw
    go_simp
  try simp only [Act.put, List.setIfInBounds_toArray, List.set_cons_zero, List.set_cons_succ]
  refine wpAnyH_take (i := 14) (v := .bool true) (by rw [HO2.out]; simp only [List.getElem?_toArray, List.getElem?_cons_succ, List.getElem?_cons_zero]; rfl) (by rw [HO2.out]; kernel_rfl) (by rw [HO2.out]; kernel_rfl) (by rw [HO2.out]; kernel_rfl) (by rw [HQ2.out]; exact fun _ _ _ h => h) (Or.inl ⟨by first | rfl | (rw [HO2.out]; kernel_rfl), ?_⟩) hS ?_
  · intro w' hSw
    go_simp
  try simp only [Act.put, List.setIfInBounds_toArray, List.set_cons_zero, List.set_cons_succ]
  refine wpAnyH_take (i := 15) (v := .bool true) (by rw [HO2.out]; simp only [List.getElem?_toArray, List.getElem?_cons_succ, List.getElem?_cons_zero]; rfl) (by rw [HO2.out]; kernel_rfl) (by rw [HO2.out]; kernel_rfl) (by rw [HO2.out]; kernel_rfl) (by rw [HQ2.out]; exact fun _ _ _ h => h) (Or.inl ⟨by first | rfl | (rw [HO2.out]; kernel_rfl), ?_⟩) hS ?_
  · intro w' hSw
    go_simp
  try simp only [Act.put, List.setIfInBounds_toArray, List.set_cons_zero, List.set_cons_succ]
  refine wpAnyH_take (i := 16) (v := .bool true) (by rw [HO2.out]; simp only [List.getElem?_toArray, List.getElem?_cons_succ, List.getElem?_cons_zero]; rfl) (by rw [HO2.out]; kernel_rfl) (by rw [HO2.out]; kernel_rfl) (by rw [HO2.out]; kernel_rfl) (by rw [HQ2.out]; exact fun _ _ _ h => h) (Or.inl ⟨by first | rfl | (rw [HO2.out]; kernel_rfl), ?_⟩) hS ?_
  · intro w' hSw
    go_simp
  try simp only [Act.put, List.setIfInBounds_toArray, List.set_cons_zero, List.set_cons_succ]
  refine wpAnyH_take (i := 17) (v := .bool false) (by rw [HO2.out]; simp only [List.getElem?_toArray, List.getElem?_cons_succ, List.getElem?_cons_zero]; rfl) (by rw [HO2.out]; kernel_rfl) (by rw [HO2.out]; kernel_rfl) (by rw [HO2.out]; kernel_rfl) (by rw [HQ2.out]; exact fun _ _ _ h => h) (Or.inl ⟨by first | rfl | (rw [HO2.out]; kernel_rfl), ?_⟩) hS ?_
  · intro w' hSw
    go_simp
  try simp only [Act.put, List.setIfInBounds_toArray, List.set_cons_zero, List.set_cons_succ]
  refine wpAnyH_take (i := 18) (v := .bool false) (by rw [HO2.out]; simp only [List.getElem?_toArray, List.getElem?_cons_succ, List.getElem?_cons_zero]; rfl) (by rw [HO2.out]; kernel_rfl) (by rw [HO2.out]; kernel_rfl) (by rw [HO2.out]; kernel_rfl) (by rw [HQ2.out]; exact fun _ _ _ h => h) (Or.inl ⟨by first | rfl | (rw [HO2.out]; kernel_rfl), ?_⟩) hS ?_
  · intro w' hSw
    go_simp
  try simp only [Act.put, List.setIfInBounds_toArray, List.set_cons_zero, List.set_cons_succ]
  refine wpAnyH_take (i := 19) (v := .bool true) (by rw [HO2.out]; simp only [List.getElem?_toArray, List.getElem?_cons_succ, List.getElem?_cons_zero]; rfl) (by rw [HO2.out]; kernel_rfl) (by rw [HO2.out]; kernel_rfl) (by rw [HO2.out]; kernel_rfl) (by rw [HQ2.out]; exact fun _ _ _ h => h) (Or.inl ⟨by first | rfl | (rw [HO2.out]; kernel_rfl), ?_⟩) hS ?_
  · intro w' hSw
    go_simp
  try simp only [Act.put, List.setIfInBounds_toArray, List.set_cons_zero, List.set_cons_succ]
  refine wpAnyH_take (i := 20) (v := .bool true) (by rw [HO2.out]; simp only [List.getElem?_toArray, List.getElem?_cons_succ, List.getElem?_cons_zero]; rfl) (by rw [HO2.out]; kernel_rfl) (by rw [HO2.out]; kernel_rfl) (by rw [HO2.out]; kernel_rfl) (by rw [HQ2.out]; exact fun _ _ _ h => h) (Or.inl ⟨by first | rfl | (rw [HO2.out]; kernel_rfl), ?_⟩) hS ?_
  · intro w' hSw
    go_simp
  try simp only [Act.put, List.setIfInBounds_toArray, List.set_cons_zero, List.set_cons_succ]
  refine wpAnyH_take (i := 21) (v := .bool true) (by rw [HO2.out]; simp only [List.getElem?_toArray, List.getElem?_cons_succ, List.getElem?_cons_zero]; rfl) (by rw [HO2.out]; kernel_rfl) (by rw [HO2.out]; kernel_rfl) (by rw [HO2.out]; kernel_rfl) (by rw [HQ2.out]; exact fun _ _ _ h => h) (Or.inl ⟨by first | rfl | (rw [HO2.out]; kernel_rfl), ?_⟩) hS ?_
  · intro w' hSw
    go_simp
  try simp only [Act.put, List.setIfInBounds_toArray, List.set_cons_zero, List.set_cons_succ]
  refine wpAnyH_one (i := 22) (x := 91) (R := fun v _ => v = .bool true) (by rw [HO2.out]; simp only [List.getElem?_toArray, List.getElem?_cons_succ, List.getElem?_cons_zero]; rfl) (by rw [HO2.out]; kernel_rfl) hS ?_ ?_
  · intro K hK
    simp only [Act.put, List.setIfInBounds_toArray, List.set_cons_zero, List.set_cons_succ] at hK
    unfold Steps
    rw [if_pos (by rw [HO2.out]; kernel_rfl)]
    go_simp
    refine (HA _ (HVW.out _ hS)).mono ?_
    rintro e w9 ⟨rfl, hb9⟩
    exact hK _ _ rfl hb9
  rintro v9 w9 hv9 hb9 hS9
  obtain rfl := hv9
  clear hb9
  replace hS := hS9
  clear hS9
  try simp only [Act.put, List.setIfInBounds_toArray, List.set_cons_zero, List.set_cons_succ]
  refine wpAnyH_take (i := 23) (v := .bool true) (by rw [HO2.out]; simp only [List.getElem?_toArray, List.getElem?_cons_succ, List.getElem?_cons_zero]; rfl) (by rw [HO2.out]; kernel_rfl) (by rw [HO2.out]; kernel_rfl) (by rw [HO2.out]; kernel_rfl) (by rw [HQ2.out]; exact fun _ _ _ h => h) (Or.inl ⟨by first | rfl | (rw [HO2.out]; kernel_rfl), ?_⟩) hS ?_
  · intro w' hSw
    go_simp
  try simp only [Act.put, List.setIfInBounds_toArray, List.set_cons_zero, List.set_cons_succ]
  refine wpAnyH_take (i := 24) (v := .bool true) (by rw [HO2.out]; simp only [List.getElem?_toArray, List.getElem?_cons_succ, List.getElem?_cons_zero]; rfl) (by rw [HO2.out]; kernel_rfl) (by rw [HO2.out]; kernel_rfl) (by rw [HO2.out]; kernel_rfl) (by rw [HQ2.out]; exact fun _ _ _ h => h) (Or.inl ⟨by first | rfl | (rw [HO2.out]; kernel_rfl), ?_⟩) hS ?_
  · intro w' hSw
    go_simp
  try simp only [Act.put, List.setIfInBounds_toArray, List.set_cons_zero, List.set_cons_succ]
  refine wpAnyH_done (by rw [HO2.out]; kernel_rfl) ?_ _
  rw [HQ2.out]
  refine NoPanic.normal ?_
  go_wp2
  go_ret
  exact ⟨rfl, HBW.out _ hS⟩
set_option maxHeartbeats 16000000 in
theorem m_na (k0 n0 n1 : Int) (s0 s1 : ByteArray) (w : World) (hV : Vars w) (pl0 pl1 : List Int) (tx0 tx1 : ByteArray) (xn yn : Nat) (hd : n0 ≠ n1) (h0 : s0.size ≤ 200) (h0' : s1.size ≤ 200) (C0 : ∀ W, Vars W → Calls Tryd.prog 14 #[.agg #[.int .u8 k0, .int .i64 n0, .string s0]] W fun e w' => e = .returned (.int .i64 0) ∧ Below W.heap.size W w') (P0 : ∀ W, Vars W → Calls Tryd.prog 24 #[.agg #[.int .u8 k0, .int .i64 n0, .string s0]] W fun e w' => ∃ v, e = .returned (.tuple #[v, .int .i64 0]) ∧ Own w' W.heap.size v pl0 ∧ Below W.heap.size W w') (T0 : ∀ W, Vars W → Calls Tryd.prog 16 #[.agg #[.int .u8 k0, .int .i64 n0, .string s0]] W fun e w' => e = .returned (.string tx0) ∧ Below W.heap.size W w') (C1 : ∀ W, Vars W → Calls Tryd.prog 14 #[.agg #[.int .u8 k0, .int .i64 n1, .string s1]] W fun e w' => e = .returned (.int .i64 0) ∧ Below W.heap.size W w') (P1 : ∀ W, Vars W → Calls Tryd.prog 24 #[.agg #[.int .u8 k0, .int .i64 n1, .string s1]] W fun e w' => ∃ v, e = .returned (.tuple #[v, .int .i64 0]) ∧ Own w' W.heap.size v pl1 ∧ Below W.heap.size W w') (T1 : ∀ W, Vars W → Calls Tryd.prog 16 #[.agg #[.int .u8 k0, .int .i64 n1, .string s1]] W fun e w' => e = .returned (.string tx1) ∧ Below W.heap.size W w') (L0 : Hid (pl0.length = xn)) (A0 : Hid (AllB pl0)) (hx1 : 1 ≤ xn) (hx2 : xn ≤ 30) (L1 : Hid (pl1.length = yn)) (A1 : Hid (AllB pl1)) (hy1 : 1 ≤ yn) (hy2 : yn ≤ 30) (hle : xn ≤ yn) (HT : (tx0.toList == tx1.toList) = false) (HS : ((strOfNums pl0).toList == (strOfNums pl1).toList) = false) (HG : ((strOfNums (pl1.take xn)).toList == (strOfNums pl0).toList) = false) : Calls Tryd.prog 8 #[.agg #[.int .u8 k0, .int .i64 n0, .string s0], .agg #[.int .u8 k0, .int .i64 n1, .string s1]] w fun e w' => e = .returned (.bool true) ∧ Below w.heap.size w w' := by
  have HA := awake_any
  have h3 : decide ((200 : Int) < (s0.size : Int)) = false := by simp; omega
  have h4 : decide ((200 : Int) < (s1.size : Int)) = false := by simp; omega
  obtain ⟨W0, hW0⟩ : ∃ W0, W0 = (w.alloc (.cells #[.int .u8 k0, .int .i64 n0, .string s0] 23)).alloc (.cells #[.int .u8 k0, .int .i64 n1, .string s1] 23) := ⟨_, rfl⟩
  have HB0 : Hid (Below w.heap.size w W0) := by rw [hW0]; exact two_new _ _ _
  have SL : Hid (∀ W, Below W0.heap.size W0 W → (W.cell? ⟨w.heap.size, 0, none⟩ = some (.int .u8 k0) ∧ W.cell? ⟨w.heap.size, 1, none⟩ = some (.int .i64 n0) ∧ W.cell? ⟨w.heap.size, 2, none⟩ = some (.string s0)) ∧ (W.cell? ⟨w.heap.size + 1, 0, none⟩ = some (.int .u8 k0) ∧ W.cell? ⟨w.heap.size + 1, 1, none⟩ = some (.int .i64 n1) ∧ W.cell? ⟨w.heap.size + 1, 2, none⟩ = some (.string s1))) := fun W hW => by
    rw [hW0] at hW
    have b1 := ((Bk.new w k0 n0 s0).below (box1 _ _)).below hW
    have b2 := (Bk.new (w.alloc (.cells #[.int .u8 k0, .int .i64 n0, .string s0] 23)) k0 n1 s1).below hW
    have c2 := b2.cells
    simp at c2
    exact ⟨b1.cells, c2⟩
  have HV : Hid (∀ W, Below W0.heap.size W0 W → Vars W) := fun W hW => (hV.below HB0.out).below hW
  go_enter Tryd.func8, Tryd.ntmps8
  go_wp2_with (first | (go_at_call 14; rw [← hW0]; refine (C0 _ (HV.out _ (Below.refl _ _))).mono ?_; rintro e w1 ⟨rfl, hb1⟩; clear C0 hW0; obtain ⟨⟨x1, x2, x3⟩, ⟨x4, x5, x6⟩⟩ := SL.out _ hb1) | (go_at_call 14; refine (C1 _ (HV.out _ hb1)).mono ?_; rintro e w2 ⟨rfl, hb2⟩; clear C1; have H2 := bt hb1 hb2; obtain ⟨⟨y1, y2, y3⟩, ⟨y4, y5, y6⟩⟩ := SL.out _ H2) | (go_at_call 24; refine (P0 _ (HV.out _ H2)).mono ?_; rintro e w3 ⟨v3, rfl, o3, hb3⟩; clear P0; obtain ⟨g3, c3, rfl, hg3, _, _⟩ := o3.shape xn L0.out hx1; have H3 := bt H2 hb3; obtain ⟨⟨z1, z2, z3⟩, ⟨z4, z5, z6⟩⟩ := SL.out _ H3) | (go_at_call 24; refine (P1 _ (HV.out _ H3)).mono ?_; rintro e w4 ⟨v4, rfl, o4, hb4⟩; clear P1; obtain ⟨g4, c4, rfl, hg4, _, _⟩ := o4.shape yn L1.out hy1; have H4 := bt H3 hb4; obtain ⟨⟨u1, u2, u3⟩, ⟨u4, u5, u6⟩⟩ := SL.out _ H4))
  have V3 : Hid (∀ W, Below w4.heap.size w4 W → (convert 39 9 (.slice (some ⟨g3, 0, none⟩) xn c3)).run Tryd.prog W = .ok (.string (strOfNums pl0)) W) := fun W hW => conv_own ((o3.below hb4).below hW) A0.out
  have V4 : Hid (∀ W, Below w4.heap.size w4 W → (convert 39 9 (.slice (some ⟨g4, 0, none⟩) yn c4)).run Tryd.prog W = .ok (.string (strOfNums pl1)) W) := fun W hW => conv_own (o4.below hW) A1.out
  have VT : Hid (∀ W, Below w4.heap.size w4 W → (convert 39 9 (.slice (some ⟨g4, 0, none⟩) xn c4)).run Tryd.prog W = .ok (.string (strOfNums (pl1.take xn))) W) := fun W hW => by
    have hbv := (((o4.below hW).bv A1.out).take xn)
    have := conv_bv (cap := c4) hbv (by intro h; cases h)
    rw [show (pl1.take xn).length = xn by rw [List.length_take, L1.out]; omega] at this
    exact this
  have SM : Hid (∀ W, Below w4.heap.size w4 W → (W.cell? ⟨w.heap.size, 0, none⟩ = some (.int .u8 k0) ∧ W.cell? ⟨w.heap.size, 1, none⟩ = some (.int .i64 n0) ∧ W.cell? ⟨w.heap.size, 2, none⟩ = some (.string s0)) ∧ (W.cell? ⟨w.heap.size + 1, 0, none⟩ = some (.int .u8 k0) ∧ W.cell? ⟨w.heap.size + 1, 1, none⟩ = some (.int .i64 n1) ∧ W.cell? ⟨w.heap.size + 1, 2, none⟩ = some (.string s1))) := fun W hW => SL.out _ (bt H4 hW)
  have HVW : Hid (∀ W, Below w4.heap.size w4 W → Vars W) := fun W hW => HV.out _ (bt H4 hW)
  have HBW : Hid (∀ W, Below w4.heap.size w4 W → Below w.heap.size w W) := fun W hW => bt (bt HB0.out H4) hW
  have m1 : (1 : Int) ≤ xn := by omega
  have m2 : (xn : Int) ≤ 30 := by omega
  have m3 : (xn : Int) ≤ c3 := by omega
  have m4 : (yn : Int) ≤ c4 := by omega
  have m7 : (1 : Int) ≤ yn := by omega
  have m8 : (yn : Int) ≤ 30 := by omega
  have m5 : min (xn : Int) yn = xn := by omega
  have m6 : decide ((xn : Int) ≤ yn) = true := by simp; omega
  have m9 : (xn : Int) ≤ c4 := by omega
  have m10 : (xn : Int) ≤ yn := by omega
  clear x1 x2 x3 x4 x5 x6 y1 y2 y3 y4 y5 y6 z1 z2 z3 z4 z5 z6 u1 u2 u3 u4 u5 u6 hb1 hb2 hb3 hb4 H2 H3 H4 o3 o4 SL HV HB0 hV
  generalize hsx : strOfNums pl0 = sx at *
  generalize hsy : strOfNums pl1 = sy at *
  generalize hst : strOfNums (pl1.take xn) = st at *
  clear hst
  clear hsy
  clear hsx
  refine wp_region_noPanic ?_
  refine name_ops ?_
  intro O QQ HO HQ
  refine wp_region_held_drew (S := fun W => Below w4.heap.size w4 W) (by kernel_rfl) (Below.refl _ _).drew (fun hS => ?_)
  rw [show O.size = 19 by rw [HO.out]; rfl]
  refine wpAnyH_take (i := 0) (v := .slice (some ⟨g3, 0, none⟩) xn c3) (by rw [HO.out]; simp only [List.getElem?_toArray, List.getElem?_cons_succ, List.getElem?_cons_zero]; rfl) (by rw [HO.out]; kernel_rfl) (by rw [HO.out]; kernel_rfl) (by rw [HO.out]; kernel_rfl) (by rw [HQ.out]; exact fun _ _ _ h => h) (Or.inl ⟨by first | rfl | (rw [HO.out]; kernel_rfl), ?_⟩) hS ?_
  · intro w' hSw
    go_simp
  try simp only [Act.put, List.setIfInBounds_toArray, List.set_cons_zero, List.set_cons_succ]
  refine wpAnyH_take (i := 1) (v := .int .i64 xn) (by rw [HO.out]; simp only [List.getElem?_toArray, List.getElem?_cons_succ, List.getElem?_cons_zero]; rfl) (by rw [HO.out]; kernel_rfl) (by rw [HO.out]; kernel_rfl) (by rw [HO.out]; kernel_rfl) (by rw [HQ.out]; exact fun _ _ _ h => h) (Or.inl ⟨by first | rfl | (rw [HO.out]; kernel_rfl), ?_⟩) hS ?_
  · intro w' hSw
    go_simp
  try simp only [Act.put, List.setIfInBounds_toArray, List.set_cons_zero, List.set_cons_succ]
  refine wpAnyH_take (i := 2) (v := .slice (some ⟨g4, 0, none⟩) yn c4) (by rw [HO.out]; simp only [List.getElem?_toArray, List.getElem?_cons_succ, List.getElem?_cons_zero]; rfl) (by rw [HO.out]; kernel_rfl) (by rw [HO.out]; kernel_rfl) (by rw [HO.out]; kernel_rfl) (by rw [HQ.out]; exact fun _ _ _ h => h) (Or.inl ⟨by first | rfl | (rw [HO.out]; kernel_rfl), ?_⟩) hS ?_
  · intro w' hSw
    go_simp
  try simp only [Act.put, List.setIfInBounds_toArray, List.set_cons_zero, List.set_cons_succ]
  refine wpAnyH_take (i := 3) (v := .int .i64 yn) (by rw [HO.out]; simp only [List.getElem?_toArray, List.getElem?_cons_succ, List.getElem?_cons_zero]; rfl) (by rw [HO.out]; kernel_rfl) (by rw [HO.out]; kernel_rfl) (by rw [HO.out]; kernel_rfl) (by rw [HQ.out]; exact fun _ _ _ h => h) (Or.inl ⟨by first | rfl | (rw [HO.out]; kernel_rfl), ?_⟩) hS ?_
  · intro w' hSw
    go_simp
  try simp only [Act.put, List.setIfInBounds_toArray, List.set_cons_zero, List.set_cons_succ]
  refine wpAnyH_take (i := 4) (v := .bool true) (by rw [HO.out]; simp only [List.getElem?_toArray, List.getElem?_cons_succ, List.getElem?_cons_zero]; rfl) (by rw [HO.out]; kernel_rfl) (by rw [HO.out]; kernel_rfl) (by rw [HO.out]; kernel_rfl) (by rw [HQ.out]; exact fun _ _ _ h => h) (Or.inl ⟨by first | rfl | (rw [HO.out]; kernel_rfl), ?_⟩) hS ?_
  · intro w' hSw
    go_simp
  try simp only [Act.put, List.setIfInBounds_toArray, List.set_cons_zero, List.set_cons_succ]
  refine wpAnyH_take (i := 5) (v := .bool true) (by rw [HO.out]; simp only [List.getElem?_toArray, List.getElem?_cons_succ, List.getElem?_cons_zero]; rfl) (by rw [HO.out]; kernel_rfl) (by rw [HO.out]; kernel_rfl) (by rw [HO.out]; kernel_rfl) (by rw [HQ.out]; exact fun _ _ _ h => h) (Or.inl ⟨by first | rfl | (rw [HO.out]; kernel_rfl), ?_⟩) hS ?_
  · intro w' hSw
    go_simp
  try simp only [Act.put, List.setIfInBounds_toArray, List.set_cons_zero, List.set_cons_succ]
  refine wpAnyH_take (i := 6) (v := .slice (some ⟨g4, 0, none⟩) yn c4) (by rw [HO.out]; simp only [List.getElem?_toArray, List.getElem?_cons_succ, List.getElem?_cons_zero]; rfl) (by rw [HO.out]; kernel_rfl) (by rw [HO.out]; kernel_rfl) (by rw [HO.out]; kernel_rfl) (by rw [HQ.out]; exact fun _ _ _ h => h) (Or.inl ⟨by first | rfl | (rw [HO.out]; kernel_rfl), ?_⟩) hS ?_
  · intro w' hSw
    go_simp
  try simp only [Act.put, List.setIfInBounds_toArray, List.set_cons_zero, List.set_cons_succ]
  refine wpAnyH_take (i := 7) (v := .slice (some ⟨g3, 0, none⟩) xn c3) (by rw [HO.out]; simp only [List.getElem?_toArray, List.getElem?_cons_succ, List.getElem?_cons_zero]; rfl) (by rw [HO.out]; kernel_rfl) (by rw [HO.out]; kernel_rfl) (by rw [HO.out]; kernel_rfl) (by rw [HQ.out]; exact fun _ _ _ h => h) (Or.inl ⟨by first | rfl | (rw [HO.out]; kernel_rfl), ?_⟩) hS ?_
  · intro w' hSw
    go_simp
  try simp only [Act.put, List.setIfInBounds_toArray, List.set_cons_zero, List.set_cons_succ]
  refine wpAnyH_take (i := 8) (v := .int .i64 xn) (by rw [HO.out]; simp only [List.getElem?_toArray, List.getElem?_cons_succ, List.getElem?_cons_zero]; rfl) (by rw [HO.out]; kernel_rfl) (by rw [HO.out]; kernel_rfl) (by rw [HO.out]; kernel_rfl) (by rw [HQ.out]; exact fun _ _ _ h => h) (Or.inl ⟨by first | rfl | (rw [HO.out]; kernel_rfl), ?_⟩) hS ?_
  · intro w' hSw
    go_simp
  try simp only [Act.put, List.setIfInBounds_toArray, List.set_cons_zero, List.set_cons_succ]
  refine wpAnyH_take (i := 9) (v := .slice (some ⟨g4, 0, none⟩) yn c4) (by rw [HO.out]; simp only [List.getElem?_toArray, List.getElem?_cons_succ, List.getElem?_cons_zero]; rfl) (by rw [HO.out]; kernel_rfl) (by rw [HO.out]; kernel_rfl) (by rw [HO.out]; kernel_rfl) (by rw [HQ.out]; exact fun _ _ _ h => h) (Or.inl ⟨by first | rfl | (rw [HO.out]; kernel_rfl), ?_⟩) hS ?_
  · intro w' hSw
    go_simp
  try simp only [Act.put, List.setIfInBounds_toArray, List.set_cons_zero, List.set_cons_succ]
  refine wpAnyH_take (i := 10) (v := .int .i64 yn) (by rw [HO.out]; simp only [List.getElem?_toArray, List.getElem?_cons_succ, List.getElem?_cons_zero]; rfl) (by rw [HO.out]; kernel_rfl) (by rw [HO.out]; kernel_rfl) (by rw [HO.out]; kernel_rfl) (by rw [HQ.out]; exact fun _ _ _ h => h) (Or.inl ⟨by first | rfl | (rw [HO.out]; kernel_rfl), ?_⟩) hS ?_
  · intro w' hSw
    go_simp
  try simp only [Act.put, List.setIfInBounds_toArray, List.set_cons_zero, List.set_cons_succ]
  refine wpAnyH_take (i := 11) (v := .int .i64 xn) (by rw [HO.out]; simp only [List.getElem?_toArray, List.getElem?_cons_succ, List.getElem?_cons_zero]; rfl) (by rw [HO.out]; kernel_rfl) (by rw [HO.out]; kernel_rfl) (by rw [HO.out]; kernel_rfl) (by rw [HQ.out]; exact fun _ _ _ h => h) (Or.inl ⟨by first | rfl | (rw [HO.out]; kernel_rfl), ?_⟩) hS ?_
  · intro w' hSw
    go_simp
  try simp only [Act.put, List.setIfInBounds_toArray, List.set_cons_zero, List.set_cons_succ]
  refine wpAnyH_take (i := 12) (v := .slice (some ⟨g4, 0, none⟩) xn c4) (by rw [HO.out]; simp only [List.getElem?_toArray, List.getElem?_cons_succ, List.getElem?_cons_zero]; rfl) (by rw [HO.out]; kernel_rfl) (by rw [HO.out]; kernel_rfl) (by rw [HO.out]; kernel_rfl) (by rw [HQ.out]; exact fun _ _ _ h => h) (Or.inl ⟨by first | rfl | (rw [HO.out]; kernel_rfl), ?_⟩) hS ?_
  · intro w' hSw
    go_simp
  try simp only [Act.put, List.setIfInBounds_toArray, List.set_cons_zero, List.set_cons_succ]
  refine wpAnyH_take (i := 13) (v := .string st) (by rw [HO.out]; simp only [List.getElem?_toArray, List.getElem?_cons_succ, List.getElem?_cons_zero]; rfl) (by rw [HO.out]; kernel_rfl) (by rw [HO.out]; kernel_rfl) (by rw [HO.out]; kernel_rfl) (by rw [HQ.out]; exact fun _ _ _ h => h) (Or.inl ⟨by first | rfl | (rw [HO.out]; kernel_rfl), ?_⟩) hS ?_
  · intro w' hSw
    have q := VT.out _ hSw
    go_simp
  try simp only [Act.put, List.setIfInBounds_toArray, List.set_cons_zero, List.set_cons_succ]
  refine wpAnyH_take (i := 14) (v := .slice (some ⟨g3, 0, none⟩) xn c3) (by rw [HO.out]; simp only [List.getElem?_toArray, List.getElem?_cons_succ, List.getElem?_cons_zero]; rfl) (by rw [HO.out]; kernel_rfl) (by rw [HO.out]; kernel_rfl) (by rw [HO.out]; kernel_rfl) (by rw [HQ.out]; exact fun _ _ _ h => h) (Or.inl ⟨by first | rfl | (rw [HO.out]; kernel_rfl), ?_⟩) hS ?_
  · intro w' hSw
    go_simp
  try simp only [Act.put, List.setIfInBounds_toArray, List.set_cons_zero, List.set_cons_succ]
  refine wpAnyH_take (i := 15) (v := .string sx) (by rw [HO.out]; simp only [List.getElem?_toArray, List.getElem?_cons_succ, List.getElem?_cons_zero]; rfl) (by rw [HO.out]; kernel_rfl) (by rw [HO.out]; kernel_rfl) (by rw [HO.out]; kernel_rfl) (by rw [HQ.out]; exact fun _ _ _ h => h) (Or.inl ⟨by first | rfl | (rw [HO.out]; kernel_rfl), ?_⟩) hS ?_
  · intro w' hSw
    have q := V3.out _ hSw
    go_simp
  try simp only [Act.put, List.setIfInBounds_toArray, List.set_cons_zero, List.set_cons_succ]
  refine wpAnyH_take (i := 16) (v := .bool false) (by rw [HO.out]; simp only [List.getElem?_toArray, List.getElem?_cons_succ, List.getElem?_cons_zero]; rfl) (by rw [HO.out]; kernel_rfl) (by rw [HO.out]; kernel_rfl) (by rw [HO.out]; kernel_rfl) (by rw [HQ.out]; exact fun _ _ _ h => h) (Or.inl ⟨by first | rfl | (rw [HO.out]; kernel_rfl), ?_⟩) hS ?_
  · intro w' hSw
    go_simp
  try simp only [Act.put, List.setIfInBounds_toArray, List.set_cons_zero, List.set_cons_succ]
  refine wpAnyH_take (i := 17) (v := .bool false) (by rw [HO.out]; simp only [List.getElem?_toArray, List.getElem?_cons_succ, List.getElem?_cons_zero]; rfl) (by rw [HO.out]; kernel_rfl) (by rw [HO.out]; kernel_rfl) (by rw [HO.out]; kernel_rfl) (by rw [HQ.out]; exact fun _ _ _ h => h) (Or.inl ⟨by first | rfl | (rw [HO.out]; kernel_rfl), ?_⟩) hS ?_
  · intro w' hSw
    go_simp
  try simp only [Act.put, List.setIfInBounds_toArray, List.set_cons_zero, List.set_cons_succ]
  refine wpAnyH_take (i := 18) (v := .bool false) (by rw [HO.out]; simp only [List.getElem?_toArray, List.getElem?_cons_succ, List.getElem?_cons_zero]; rfl) (by rw [HO.out]; kernel_rfl) (by rw [HO.out]; kernel_rfl) (by rw [HO.out]; kernel_rfl) (by rw [HQ.out]; exact fun _ _ _ h => h) (Or.inl ⟨by first | rfl | (rw [HO.out]; kernel_rfl), ?_⟩) hS ?_
  · intro w' hSw
    go_simp
  try simp only [Act.put, List.setIfInBounds_toArray, List.set_cons_zero, List.set_cons_succ]
  refine wpAnyH_done (by rw [HO.out]; kernel_rfl) ?_ _
  rw [HQ.out]
  refine NoPanic.normal ?_
  go_wp2_with fail
  refine wp_region_noPanic ?_
  refine name_ops ?_
  intro O2 QQ2 HO2 HQ2
  refine wp_region_held_drew (S := fun W => Below w4.heap.size w4 W) (by kernel_rfl) (hS.trans (Below.refl _ _).drew) (fun hS => ?_)
  rw [show O2.size = 25 by rw [HO2.out]; rfl]
  refine wpAnyH_take (i := 0) (v := .agg #[.int .u8 k0, .int .i64 n0, .string s0]) (by rw [HO2.out]; simp only [List.getElem?_toArray, List.getElem?_cons_succ, List.getElem?_cons_zero]; rfl) (by rw [HO2.out]; kernel_rfl) (by rw [HO2.out]; kernel_rfl) (by rw [HO2.out]; kernel_rfl) (by rw [HQ2.out]; exact fun _ _ _ h => h) (Or.inl ⟨by first | rfl | (rw [HO2.out]; kernel_rfl), ?_⟩) hS ?_
  · intro w' hSw
    obtain ⟨⟨q1, q2, q3⟩, ⟨q4, q5, q6⟩⟩ := SM.out _ hSw
    go_simp
  try simp only [Act.put, List.setIfInBounds_toArray, List.set_cons_zero, List.set_cons_succ]
  refine wpAnyH_take (i := 2) (v := .agg #[.int .u8 k0, .int .i64 n1, .string s1]) (by rw [HO2.out]; simp only [List.getElem?_toArray, List.getElem?_cons_succ, List.getElem?_cons_zero]; rfl) (by rw [HO2.out]; kernel_rfl) (by rw [HO2.out]; kernel_rfl) (by rw [HO2.out]; kernel_rfl) (by rw [HQ2.out]; exact fun _ _ _ h => h) (Or.inl ⟨by first | rfl | (rw [HO2.out]; kernel_rfl), ?_⟩) hS ?_
  · intro w' hSw
    obtain ⟨⟨q1, q2, q3⟩, ⟨q4, q5, q6⟩⟩ := SM.out _ hSw
    go_simp
  try simp only [Act.put, List.setIfInBounds_toArray, List.set_cons_zero, List.set_cons_succ]
  refine wpAnyH_take (i := 5) (v := .bool false) (by rw [HO2.out]; simp only [List.getElem?_toArray, List.getElem?_cons_succ, List.getElem?_cons_zero]; rfl) (by rw [HO2.out]; kernel_rfl) (by rw [HO2.out]; kernel_rfl) (by rw [HO2.out]; kernel_rfl) (by rw [HQ2.out]; exact fun _ _ _ h => h) (Or.inl ⟨by first | rfl | (rw [HO2.out]; kernel_rfl), ?_⟩) hS ?_
  · intro w' hSw
    go_simp
  try simp only [Act.put, List.setIfInBounds_toArray, List.set_cons_zero, List.set_cons_succ]
  refine wpAnyH_one (i := 1) (x := 70) (R := fun v _ => v = .string tx0) (by rw [HO2.out]; simp only [List.getElem?_toArray, List.getElem?_cons_succ, List.getElem?_cons_zero]; rfl) (by rw [HO2.out]; kernel_rfl) hS ?_ ?_
  · intro K hK
    simp only [Act.put, List.setIfInBounds_toArray, List.set_cons_zero, List.set_cons_succ] at hK
    unfold Steps
    rw [if_pos (by rw [HO2.out]; kernel_rfl)]
    go_simp
    refine (T0 _ (HVW.out _ hS)).mono ?_
    rintro e w9 ⟨rfl, hb9⟩
    exact hK _ _ rfl hb9
  rintro v9 w9 hv9 hb9 hS9
  obtain rfl := hv9
  clear hb9
  replace hS := hS9
  clear hS9
  try simp only [Act.put, List.setIfInBounds_toArray, List.set_cons_zero, List.set_cons_succ]
  refine wpAnyH_one (i := 3) (x := 72) (R := fun v _ => v = .string tx1) (by rw [HO2.out]; simp only [List.getElem?_toArray, List.getElem?_cons_succ, List.getElem?_cons_zero]; rfl) (by rw [HO2.out]; kernel_rfl) hS ?_ ?_
  · intro K hK
    simp only [Act.put, List.setIfInBounds_toArray, List.set_cons_zero, List.set_cons_succ] at hK
    unfold Steps
    rw [if_pos (by rw [HO2.out]; kernel_rfl)]
    go_simp
    refine (T1 _ (HVW.out _ hS)).mono ?_
    rintro e w9 ⟨rfl, hb9⟩
    exact hK _ _ rfl hb9
  rintro v9 w9 hv9 hb9 hS9
  obtain rfl := hv9
  clear hb9
  replace hS := hS9
  clear hS9
  try simp only [Act.put, List.setIfInBounds_toArray, List.set_cons_zero, List.set_cons_succ]
  refine wpAnyH_take (i := 4) (v := .bool false) (by rw [HO2.out]; simp only [List.getElem?_toArray, List.getElem?_cons_succ, List.getElem?_cons_zero]; rfl) (by rw [HO2.out]; kernel_rfl) (by rw [HO2.out]; kernel_rfl) (by rw [HO2.out]; kernel_rfl) (by rw [HQ2.out]; exact fun _ _ _ h => h) (Or.inl ⟨by first | rfl | (rw [HO2.out]; kernel_rfl), ?_⟩) hS ?_
  · intro w' hSw
    go_simp
  try simp only [Act.put, List.setIfInBounds_toArray, List.set_cons_zero, List.set_cons_succ]
  refine wpAnyH_take (i := 6) (v := .bool true) (by rw [HO2.out]; simp only [List.getElem?_toArray, List.getElem?_cons_succ, List.getElem?_cons_zero]; rfl) (by rw [HO2.out]; kernel_rfl) (by rw [HO2.out]; kernel_rfl) (by rw [HO2.out]; kernel_rfl) (by rw [HQ2.out]; exact fun _ _ _ h => h) (Or.inl ⟨by first | rfl | (rw [HO2.out]; kernel_rfl), ?_⟩) hS ?_
  · intro w' hSw
    go_simp
  try simp only [Act.put, List.setIfInBounds_toArray, List.set_cons_zero, List.set_cons_succ]
  refine wpAnyH_take (i := 7) (v := .bool true) (by rw [HO2.out]; simp only [List.getElem?_toArray, List.getElem?_cons_succ, List.getElem?_cons_zero]; rfl) (by rw [HO2.out]; kernel_rfl) (by rw [HO2.out]; kernel_rfl) (by rw [HO2.out]; kernel_rfl) (by rw [HQ2.out]; exact fun _ _ _ h => h) (Or.inl ⟨by first | rfl | (rw [HO2.out]; kernel_rfl), ?_⟩) hS ?_
  · intro w' hSw
    go_simp
  try simp only [Act.put, List.setIfInBounds_toArray, List.set_cons_zero, List.set_cons_succ]
  refine wpAnyH_take (i := 8) (v := .slice (some ⟨g3, 0, none⟩) xn c3) (by rw [HO2.out]; simp only [List.getElem?_toArray, List.getElem?_cons_succ, List.getElem?_cons_zero]; rfl) (by rw [HO2.out]; kernel_rfl) (by rw [HO2.out]; kernel_rfl) (by rw [HO2.out]; kernel_rfl) (by rw [HQ2.out]; exact fun _ _ _ h => h) (Or.inl ⟨by first | rfl | (rw [HO2.out]; kernel_rfl), ?_⟩) hS ?_
  · intro w' hSw
    go_simp
  try simp only [Act.put, List.setIfInBounds_toArray, List.set_cons_zero, List.set_cons_succ]
  refine wpAnyH_take (i := 9) (v := .string sx) (by rw [HO2.out]; simp only [List.getElem?_toArray, List.getElem?_cons_succ, List.getElem?_cons_zero]; rfl) (by rw [HO2.out]; kernel_rfl) (by rw [HO2.out]; kernel_rfl) (by rw [HO2.out]; kernel_rfl) (by rw [HQ2.out]; exact fun _ _ _ h => h) (Or.inl ⟨by first | rfl | (rw [HO2.out]; kernel_rfl), ?_⟩) hS ?_
  · intro w' hSw
    have q := V3.out _ hSw
    go_simp
  try simp only [Act.put, List.setIfInBounds_toArray, List.set_cons_zero, List.set_cons_succ]
  refine wpAnyH_take (i := 10) (v := .slice (some ⟨g4, 0, none⟩) yn c4) (by rw [HO2.out]; simp only [List.getElem?_toArray, List.getElem?_cons_succ, List.getElem?_cons_zero]; rfl) (by rw [HO2.out]; kernel_rfl) (by rw [HO2.out]; kernel_rfl) (by rw [HO2.out]; kernel_rfl) (by rw [HQ2.out]; exact fun _ _ _ h => h) (Or.inl ⟨by first | rfl | (rw [HO2.out]; kernel_rfl), ?_⟩) hS ?_
  · intro w' hSw
    go_simp
  try simp only [Act.put, List.setIfInBounds_toArray, List.set_cons_zero, List.set_cons_succ]
  refine wpAnyH_take (i := 11) (v := .string sy) (by rw [HO2.out]; simp only [List.getElem?_toArray, List.getElem?_cons_succ, List.getElem?_cons_zero]; rfl) (by rw [HO2.out]; kernel_rfl) (by rw [HO2.out]; kernel_rfl) (by rw [HO2.out]; kernel_rfl) (by rw [HQ2.out]; exact fun _ _ _ h => h) (Or.inl ⟨by first | rfl | (rw [HO2.out]; kernel_rfl), ?_⟩) hS ?_
  · intro w' hSw
    have q := V4.out _ hSw
    go_simp
  try simp only [Act.put, List.setIfInBounds_toArray, List.set_cons_zero, List.set_cons_succ]
  refine wpAnyH_take (i := 12) (v := .bool false) (by rw [HO2.out]; simp only [List.getElem?_toArray, List.getElem?_cons_succ, List.getElem?_cons_zero]; rfl) (by rw [HO2.out]; kernel_rfl) (by rw [HO2.out]; kernel_rfl) (by rw [HO2.out]; kernel_rfl) (by rw [HQ2.out]; exact fun _ _ _ h => h) (Or.inl ⟨by first | rfl | (rw [HO2.out]; kernel_rfl), ?_⟩) hS ?_
  · intro w' hSw
    go_simp
  try simp only [Act.put, List.setIfInBounds_toArray, List.set_cons_zero, List.set_cons_succ]
  refine wpAnyH_take (i := 13) (v := .bool false) (by rw [HO2.out]; simp only [List.getElem?_toArray, List.getElem?_cons_succ, List.getElem?_cons_zero]; rfl) (by rw [HO2.out]; kernel_rfl) (by rw [HO2.out]; kernel_rfl) (by rw [HO2.out]; kernel_rfl) (by rw [HQ2.out]; exact fun _ _ _ h => h) (Or.inl ⟨by first | rfl | (rw [HO2.out]; kernel_rfl), ?_⟩) hS ?_
  · intro w' hSw
    go_simp
  try simp only [Act.put, List.setIfInBounds_toArray, List.set_cons_zero, List.set_cons_succ]
  refine wpAnyH_take (i := 14) (v := .bool true) (by rw [HO2.out]; simp only [List.getElem?_toArray, List.getElem?_cons_succ, List.getElem?_cons_zero]; rfl) (by rw [HO2.out]; kernel_rfl) (by rw [HO2.out]; kernel_rfl) (by rw [HO2.out]; kernel_rfl) (by rw [HQ2.out]; exact fun _ _ _ h => h) (Or.inl ⟨by first | rfl | (rw [HO2.out]; kernel_rfl), ?_⟩) hS ?_
  · intro w' hSw
    go_simp
  try simp only [Act.put, List.setIfInBounds_toArray, List.set_cons_zero, List.set_cons_succ]
  refine wpAnyH_take (i := 15) (v := .bool true) (by rw [HO2.out]; simp only [List.getElem?_toArray, List.getElem?_cons_succ, List.getElem?_cons_zero]; rfl) (by rw [HO2.out]; kernel_rfl) (by rw [HO2.out]; kernel_rfl) (by rw [HO2.out]; kernel_rfl) (by rw [HQ2.out]; exact fun _ _ _ h => h) (Or.inl ⟨by first | rfl | (rw [HO2.out]; kernel_rfl), ?_⟩) hS ?_
  · intro w' hSw
    go_simp
  try simp only [Act.put, List.setIfInBounds_toArray, List.set_cons_zero, List.set_cons_succ]
  refine wpAnyH_take (i := 16) (v := .bool true) (by rw [HO2.out]; simp only [List.getElem?_toArray, List.getElem?_cons_succ, List.getElem?_cons_zero]; rfl) (by rw [HO2.out]; kernel_rfl) (by rw [HO2.out]; kernel_rfl) (by rw [HO2.out]; kernel_rfl) (by rw [HQ2.out]; exact fun _ _ _ h => h) (Or.inl ⟨by first | rfl | (rw [HO2.out]; kernel_rfl), ?_⟩) hS ?_
  · intro w' hSw
    go_simp
  try simp only [Act.put, List.setIfInBounds_toArray, List.set_cons_zero, List.set_cons_succ]
  refine wpAnyH_take (i := 17) (v := .bool false) (by rw [HO2.out]; simp only [List.getElem?_toArray, List.getElem?_cons_succ, List.getElem?_cons_zero]; rfl) (by rw [HO2.out]; kernel_rfl) (by rw [HO2.out]; kernel_rfl) (by rw [HO2.out]; kernel_rfl) (by rw [HQ2.out]; exact fun _ _ _ h => h) (Or.inl ⟨by first | rfl | (rw [HO2.out]; kernel_rfl), ?_⟩) hS ?_
  · intro w' hSw
    go_simp
  try simp only [Act.put, List.setIfInBounds_toArray, List.set_cons_zero, List.set_cons_succ]
  refine wpAnyH_take (i := 18) (v := .bool false) (by rw [HO2.out]; simp only [List.getElem?_toArray, List.getElem?_cons_succ, List.getElem?_cons_zero]; rfl) (by rw [HO2.out]; kernel_rfl) (by rw [HO2.out]; kernel_rfl) (by rw [HO2.out]; kernel_rfl) (by rw [HQ2.out]; exact fun _ _ _ h => h) (Or.inl ⟨by first | rfl | (rw [HO2.out]; kernel_rfl), ?_⟩) hS ?_
  · intro w' hSw
    go_simp
  try simp only [Act.put, List.setIfInBounds_toArray, List.set_cons_zero, List.set_cons_succ]
  refine wpAnyH_take (i := 19) (v := .bool true) (by rw [HO2.out]; simp only [List.getElem?_toArray, List.getElem?_cons_succ, List.getElem?_cons_zero]; rfl) (by rw [HO2.out]; kernel_rfl) (by rw [HO2.out]; kernel_rfl) (by rw [HO2.out]; kernel_rfl) (by rw [HQ2.out]; exact fun _ _ _ h => h) (Or.inl ⟨by first | rfl | (rw [HO2.out]; kernel_rfl), ?_⟩) hS ?_
  · intro w' hSw
    go_simp
  try simp only [Act.put, List.setIfInBounds_toArray, List.set_cons_zero, List.set_cons_succ]
  refine wpAnyH_take (i := 20) (v := .bool true) (by rw [HO2.out]; simp only [List.getElem?_toArray, List.getElem?_cons_succ, List.getElem?_cons_zero]; rfl) (by rw [HO2.out]; kernel_rfl) (by rw [HO2.out]; kernel_rfl) (by rw [HO2.out]; kernel_rfl) (by rw [HQ2.out]; exact fun _ _ _ h => h) (Or.inl ⟨by first | rfl | (rw [HO2.out]; kernel_rfl), ?_⟩) hS ?_
  · intro w' hSw
    go_simp
  try simp only [Act.put, List.setIfInBounds_toArray, List.set_cons_zero, List.set_cons_succ]
  refine wpAnyH_take (i := 21) (v := .bool true) (by rw [HO2.out]; simp only [List.getElem?_toArray, List.getElem?_cons_succ, List.getElem?_cons_zero]; rfl) (by rw [HO2.out]; kernel_rfl) (by rw [HO2.out]; kernel_rfl) (by rw [HO2.out]; kernel_rfl) (by rw [HQ2.out]; exact fun _ _ _ h => h) (Or.inl ⟨by first | rfl | (rw [HO2.out]; kernel_rfl), ?_⟩) hS ?_
  · intro w' hSw
    go_simp
  try simp only [Act.put, List.setIfInBounds_toArray, List.set_cons_zero, List.set_cons_succ]
  refine wpAnyH_one (i := 22) (x := 91) (R := fun v _ => v = .bool true) (by rw [HO2.out]; simp only [List.getElem?_toArray, List.getElem?_cons_succ, List.getElem?_cons_zero]; rfl) (by rw [HO2.out]; kernel_rfl) hS ?_ ?_
  · intro K hK
    simp only [Act.put, List.setIfInBounds_toArray, List.set_cons_zero, List.set_cons_succ] at hK
    unfold Steps
    rw [if_pos (by rw [HO2.out]; kernel_rfl)]
    go_simp
    refine (HA _ (HVW.out _ hS)).mono ?_
    rintro e w9 ⟨rfl, hb9⟩
    exact hK _ _ rfl hb9
  rintro v9 w9 hv9 hb9 hS9
  obtain rfl := hv9
  clear hb9
  replace hS := hS9
  clear hS9
  try simp only [Act.put, List.setIfInBounds_toArray, List.set_cons_zero, List.set_cons_succ]
  refine wpAnyH_take (i := 23) (v := .bool true) (by rw [HO2.out]; simp only [List.getElem?_toArray, List.getElem?_cons_succ, List.getElem?_cons_zero]; rfl) (by rw [HO2.out]; kernel_rfl) (by rw [HO2.out]; kernel_rfl) (by rw [HO2.out]; kernel_rfl) (by rw [HQ2.out]; exact fun _ _ _ h => h) (Or.inl ⟨by first | rfl | (rw [HO2.out]; kernel_rfl), ?_⟩) hS ?_
  · intro w' hSw
    go_simp
  try simp only [Act.put, List.setIfInBounds_toArray, List.set_cons_zero, List.set_cons_succ]
  refine wpAnyH_take (i := 24) (v := .bool true) (by rw [HO2.out]; simp only [List.getElem?_toArray, List.getElem?_cons_succ, List.getElem?_cons_zero]; rfl) (by rw [HO2.out]; kernel_rfl) (by rw [HO2.out]; kernel_rfl) (by rw [HO2.out]; kernel_rfl) (by rw [HQ2.out]; exact fun _ _ _ h => h) (Or.inl ⟨by first | rfl | (rw [HO2.out]; kernel_rfl), ?_⟩) hS ?_
  · intro w' hSw
    go_simp
  try simp only [Act.put, List.setIfInBounds_toArray, List.set_cons_zero, List.set_cons_succ]
  refine wpAnyH_done (by rw [HO2.out]; kernel_rfl) ?_ _
  rw [HQ2.out]
  refine NoPanic.normal ?_
  go_wp2
  go_ret
  exact ⟨rfl, HBW.out _ hS⟩
set_option maxHeartbeats 16000000 in
theorem m_sa (k0 n0 : Int) (s0 s1 : ByteArray) (w : World) (hV : Vars w) (pl0 pl1 : List Int) (tx0 tx1 : ByteArray) (xn yn : Nat) (hd : s0.toList ≠ s1.toList) (h0 : s0.size ≤ 200) (h0' : s1.size ≤ 200) (C0 : ∀ W, Vars W → Calls Tryd.prog 14 #[.agg #[.int .u8 k0, .int .i64 n0, .string s0]] W fun e w' => e = .returned (.int .i64 0) ∧ Below W.heap.size W w') (P0 : ∀ W, Vars W → Calls Tryd.prog 24 #[.agg #[.int .u8 k0, .int .i64 n0, .string s0]] W fun e w' => ∃ v, e = .returned (.tuple #[v, .int .i64 0]) ∧ Own w' W.heap.size v pl0 ∧ Below W.heap.size W w') (T0 : ∀ W, Vars W → Calls Tryd.prog 16 #[.agg #[.int .u8 k0, .int .i64 n0, .string s0]] W fun e w' => e = .returned (.string tx0) ∧ Below W.heap.size W w') (C1 : ∀ W, Vars W → Calls Tryd.prog 14 #[.agg #[.int .u8 k0, .int .i64 n0, .string s1]] W fun e w' => e = .returned (.int .i64 0) ∧ Below W.heap.size W w') (P1 : ∀ W, Vars W → Calls Tryd.prog 24 #[.agg #[.int .u8 k0, .int .i64 n0, .string s1]] W fun e w' => ∃ v, e = .returned (.tuple #[v, .int .i64 0]) ∧ Own w' W.heap.size v pl1 ∧ Below W.heap.size W w') (T1 : ∀ W, Vars W → Calls Tryd.prog 16 #[.agg #[.int .u8 k0, .int .i64 n0, .string s1]] W fun e w' => e = .returned (.string tx1) ∧ Below W.heap.size W w') (L0 : Hid (pl0.length = xn)) (A0 : Hid (AllB pl0)) (hx1 : 1 ≤ xn) (hx2 : xn ≤ 30) (L1 : Hid (pl1.length = yn)) (A1 : Hid (AllB pl1)) (hy1 : 1 ≤ yn) (hy2 : yn ≤ 30) (hle : xn ≤ yn) (HT : (tx0.toList == tx1.toList) = false) (HS : ((strOfNums pl0).toList == (strOfNums pl1).toList) = false) (HG : ((strOfNums (pl1.take xn)).toList == (strOfNums pl0).toList) = false) : Calls Tryd.prog 8 #[.agg #[.int .u8 k0, .int .i64 n0, .string s0], .agg #[.int .u8 k0, .int .i64 n0, .string s1]] w fun e w' => e = .returned (.bool true) ∧ Below w.heap.size w w' := by
  have HA := awake_any
  have h3 : decide ((200 : Int) < (s0.size : Int)) = false := by simp; omega
  have h4 : decide ((200 : Int) < (s1.size : Int)) = false := by simp; omega
  obtain ⟨W0, hW0⟩ : ∃ W0, W0 = (w.alloc (.cells #[.int .u8 k0, .int .i64 n0, .string s0] 23)).alloc (.cells #[.int .u8 k0, .int .i64 n0, .string s1] 23) := ⟨_, rfl⟩
  have HB0 : Hid (Below w.heap.size w W0) := by rw [hW0]; exact two_new _ _ _
  have SL : Hid (∀ W, Below W0.heap.size W0 W → (W.cell? ⟨w.heap.size, 0, none⟩ = some (.int .u8 k0) ∧ W.cell? ⟨w.heap.size, 1, none⟩ = some (.int .i64 n0) ∧ W.cell? ⟨w.heap.size, 2, none⟩ = some (.string s0)) ∧ (W.cell? ⟨w.heap.size + 1, 0, none⟩ = some (.int .u8 k0) ∧ W.cell? ⟨w.heap.size + 1, 1, none⟩ = some (.int .i64 n0) ∧ W.cell? ⟨w.heap.size + 1, 2, none⟩ = some (.string s1))) := fun W hW => by
    rw [hW0] at hW
    have b1 := ((Bk.new w k0 n0 s0).below (box1 _ _)).below hW
    have b2 := (Bk.new (w.alloc (.cells #[.int .u8 k0, .int .i64 n0, .string s0] 23)) k0 n0 s1).below hW
    have c2 := b2.cells
    simp at c2
    exact ⟨b1.cells, c2⟩
  have HV : Hid (∀ W, Below W0.heap.size W0 W → Vars W) := fun W hW => (hV.below HB0.out).below hW
  go_enter Tryd.func8, Tryd.ntmps8
  go_wp2_with (first | (go_at_call 14; rw [← hW0]; refine (C0 _ (HV.out _ (Below.refl _ _))).mono ?_; rintro e w1 ⟨rfl, hb1⟩; clear C0 hW0; obtain ⟨⟨x1, x2, x3⟩, ⟨x4, x5, x6⟩⟩ := SL.out _ hb1) | (go_at_call 14; refine (C1 _ (HV.out _ hb1)).mono ?_; rintro e w2 ⟨rfl, hb2⟩; clear C1; have H2 := bt hb1 hb2; obtain ⟨⟨y1, y2, y3⟩, ⟨y4, y5, y6⟩⟩ := SL.out _ H2) | (go_at_call 24; refine (P0 _ (HV.out _ H2)).mono ?_; rintro e w3 ⟨v3, rfl, o3, hb3⟩; clear P0; obtain ⟨g3, c3, rfl, hg3, _, _⟩ := o3.shape xn L0.out hx1; have H3 := bt H2 hb3; obtain ⟨⟨z1, z2, z3⟩, ⟨z4, z5, z6⟩⟩ := SL.out _ H3) | (go_at_call 24; refine (P1 _ (HV.out _ H3)).mono ?_; rintro e w4 ⟨v4, rfl, o4, hb4⟩; clear P1; obtain ⟨g4, c4, rfl, hg4, _, _⟩ := o4.shape yn L1.out hy1; have H4 := bt H3 hb4; obtain ⟨⟨u1, u2, u3⟩, ⟨u4, u5, u6⟩⟩ := SL.out _ H4))
  have V3 : Hid (∀ W, Below w4.heap.size w4 W → (convert 39 9 (.slice (some ⟨g3, 0, none⟩) xn c3)).run Tryd.prog W = .ok (.string (strOfNums pl0)) W) := fun W hW => conv_own ((o3.below hb4).below hW) A0.out
  have V4 : Hid (∀ W, Below w4.heap.size w4 W → (convert 39 9 (.slice (some ⟨g4, 0, none⟩) yn c4)).run Tryd.prog W = .ok (.string (strOfNums pl1)) W) := fun W hW => conv_own (o4.below hW) A1.out
  have VT : Hid (∀ W, Below w4.heap.size w4 W → (convert 39 9 (.slice (some ⟨g4, 0, none⟩) xn c4)).run Tryd.prog W = .ok (.string (strOfNums (pl1.take xn))) W) := fun W hW => by
    have hbv := (((o4.below hW).bv A1.out).take xn)
    have := conv_bv (cap := c4) hbv (by intro h; cases h)
    rw [show (pl1.take xn).length = xn by rw [List.length_take, L1.out]; omega] at this
    exact this
  have SM : Hid (∀ W, Below w4.heap.size w4 W → (W.cell? ⟨w.heap.size, 0, none⟩ = some (.int .u8 k0) ∧ W.cell? ⟨w.heap.size, 1, none⟩ = some (.int .i64 n0) ∧ W.cell? ⟨w.heap.size, 2, none⟩ = some (.string s0)) ∧ (W.cell? ⟨w.heap.size + 1, 0, none⟩ = some (.int .u8 k0) ∧ W.cell? ⟨w.heap.size + 1, 1, none⟩ = some (.int .i64 n0) ∧ W.cell? ⟨w.heap.size + 1, 2, none⟩ = some (.string s1))) := fun W hW => SL.out _ (bt H4 hW)
  have HVW : Hid (∀ W, Below w4.heap.size w4 W → Vars W) := fun W hW => HV.out _ (bt H4 hW)
  have HBW : Hid (∀ W, Below w4.heap.size w4 W → Below w.heap.size w W) := fun W hW => bt (bt HB0.out H4) hW
  have m1 : (1 : Int) ≤ xn := by omega
  have m2 : (xn : Int) ≤ 30 := by omega
  have m3 : (xn : Int) ≤ c3 := by omega
  have m4 : (yn : Int) ≤ c4 := by omega
  have m7 : (1 : Int) ≤ yn := by omega
  have m8 : (yn : Int) ≤ 30 := by omega
  have m5 : min (xn : Int) yn = xn := by omega
  have m6 : decide ((xn : Int) ≤ yn) = true := by simp; omega
  have m9 : (xn : Int) ≤ c4 := by omega
  have m10 : (xn : Int) ≤ yn := by omega
  clear x1 x2 x3 x4 x5 x6 y1 y2 y3 y4 y5 y6 z1 z2 z3 z4 z5 z6 u1 u2 u3 u4 u5 u6 hb1 hb2 hb3 hb4 H2 H3 H4 o3 o4 SL HV HB0 hV
  generalize hsx : strOfNums pl0 = sx at *
  generalize hsy : strOfNums pl1 = sy at *
  generalize hst : strOfNums (pl1.take xn) = st at *
  clear hst
  clear hsy
  clear hsx
  refine wp_region_noPanic ?_
  refine name_ops ?_
  intro O QQ HO HQ
  refine wp_region_held_drew (S := fun W => Below w4.heap.size w4 W) (by kernel_rfl) (Below.refl _ _).drew (fun hS => ?_)
  rw [show O.size = 19 by rw [HO.out]; rfl]
  refine wpAnyH_take (i := 0) (v := .slice (some ⟨g3, 0, none⟩) xn c3) (by rw [HO.out]; simp only [List.getElem?_toArray, List.getElem?_cons_succ, List.getElem?_cons_zero]; rfl) (by rw [HO.out]; kernel_rfl) (by rw [HO.out]; kernel_rfl) (by rw [HO.out]; kernel_rfl) (by rw [HQ.out]; exact fun _ _ _ h => h) (Or.inl ⟨by first | rfl | (rw [HO.out]; kernel_rfl), ?_⟩) hS ?_
  · intro w' hSw
    go_simp
  try simp only [Act.put, List.setIfInBounds_toArray, List.set_cons_zero, List.set_cons_succ]
  refine wpAnyH_take (i := 1) (v := .int .i64 xn) (by rw [HO.out]; simp only [List.getElem?_toArray, List.getElem?_cons_succ, List.getElem?_cons_zero]; rfl) (by rw [HO.out]; kernel_rfl) (by rw [HO.out]; kernel_rfl) (by rw [HO.out]; kernel_rfl) (by rw [HQ.out]; exact fun _ _ _ h => h) (Or.inl ⟨by first | rfl | (rw [HO.out]; kernel_rfl), ?_⟩) hS ?_
  · intro w' hSw
    go_simp
  try simp only [Act.put, List.setIfInBounds_toArray, List.set_cons_zero, List.set_cons_succ]
  refine wpAnyH_take (i := 2) (v := .slice (some ⟨g4, 0, none⟩) yn c4) (by rw [HO.out]; simp only [List.getElem?_toArray, List.getElem?_cons_succ, List.getElem?_cons_zero]; rfl) (by rw [HO.out]; kernel_rfl) (by rw [HO.out]; kernel_rfl) (by rw [HO.out]; kernel_rfl) (by rw [HQ.out]; exact fun _ _ _ h => h) (Or.inl ⟨by first | rfl | (rw [HO.out]; kernel_rfl), ?_⟩) hS ?_
  · intro w' hSw
    go_simp
  try simp only [Act.put, List.setIfInBounds_toArray, List.set_cons_zero, List.set_cons_succ]
  refine wpAnyH_take (i := 3) (v := .int .i64 yn) (by rw [HO.out]; simp only [List.getElem?_toArray, List.getElem?_cons_succ, List.getElem?_cons_zero]; rfl) (by rw [HO.out]; kernel_rfl) (by rw [HO.out]; kernel_rfl) (by rw [HO.out]; kernel_rfl) (by rw [HQ.out]; exact fun _ _ _ h => h) (Or.inl ⟨by first | rfl | (rw [HO.out]; kernel_rfl), ?_⟩) hS ?_
  · intro w' hSw
    go_simp
  try simp only [Act.put, List.setIfInBounds_toArray, List.set_cons_zero, List.set_cons_succ]
  refine wpAnyH_take (i := 4) (v := .bool true) (by rw [HO.out]; simp only [List.getElem?_toArray, List.getElem?_cons_succ, List.getElem?_cons_zero]; rfl) (by rw [HO.out]; kernel_rfl) (by rw [HO.out]; kernel_rfl) (by rw [HO.out]; kernel_rfl) (by rw [HQ.out]; exact fun _ _ _ h => h) (Or.inl ⟨by first | rfl | (rw [HO.out]; kernel_rfl), ?_⟩) hS ?_
  · intro w' hSw
    go_simp
  try simp only [Act.put, List.setIfInBounds_toArray, List.set_cons_zero, List.set_cons_succ]
  refine wpAnyH_take (i := 5) (v := .bool true) (by rw [HO.out]; simp only [List.getElem?_toArray, List.getElem?_cons_succ, List.getElem?_cons_zero]; rfl) (by rw [HO.out]; kernel_rfl) (by rw [HO.out]; kernel_rfl) (by rw [HO.out]; kernel_rfl) (by rw [HQ.out]; exact fun _ _ _ h => h) (Or.inl ⟨by first | rfl | (rw [HO.out]; kernel_rfl), ?_⟩) hS ?_
  · intro w' hSw
    go_simp
  try simp only [Act.put, List.setIfInBounds_toArray, List.set_cons_zero, List.set_cons_succ]
  refine wpAnyH_take (i := 6) (v := .slice (some ⟨g4, 0, none⟩) yn c4) (by rw [HO.out]; simp only [List.getElem?_toArray, List.getElem?_cons_succ, List.getElem?_cons_zero]; rfl) (by rw [HO.out]; kernel_rfl) (by rw [HO.out]; kernel_rfl) (by rw [HO.out]; kernel_rfl) (by rw [HQ.out]; exact fun _ _ _ h => h) (Or.inl ⟨by first | rfl | (rw [HO.out]; kernel_rfl), ?_⟩) hS ?_
  · intro w' hSw
    go_simp
  try simp only [Act.put, List.setIfInBounds_toArray, List.set_cons_zero, List.set_cons_succ]
  refine wpAnyH_take (i := 7) (v := .slice (some ⟨g3, 0, none⟩) xn c3) (by rw [HO.out]; simp only [List.getElem?_toArray, List.getElem?_cons_succ, List.getElem?_cons_zero]; rfl) (by rw [HO.out]; kernel_rfl) (by rw [HO.out]; kernel_rfl) (by rw [HO.out]; kernel_rfl) (by rw [HQ.out]; exact fun _ _ _ h => h) (Or.inl ⟨by first | rfl | (rw [HO.out]; kernel_rfl), ?_⟩) hS ?_
  · intro w' hSw
    go_simp
  try simp only [Act.put, List.setIfInBounds_toArray, List.set_cons_zero, List.set_cons_succ]
  refine wpAnyH_take (i := 8) (v := .int .i64 xn) (by rw [HO.out]; simp only [List.getElem?_toArray, List.getElem?_cons_succ, List.getElem?_cons_zero]; rfl) (by rw [HO.out]; kernel_rfl) (by rw [HO.out]; kernel_rfl) (by rw [HO.out]; kernel_rfl) (by rw [HQ.out]; exact fun _ _ _ h => h) (Or.inl ⟨by first | rfl | (rw [HO.out]; kernel_rfl), ?_⟩) hS ?_
  · intro w' hSw
    go_simp
  try simp only [Act.put, List.setIfInBounds_toArray, List.set_cons_zero, List.set_cons_succ]
  refine wpAnyH_take (i := 9) (v := .slice (some ⟨g4, 0, none⟩) yn c4) (by rw [HO.out]; simp only [List.getElem?_toArray, List.getElem?_cons_succ, List.getElem?_cons_zero]; rfl) (by rw [HO.out]; kernel_rfl) (by rw [HO.out]; kernel_rfl) (by rw [HO.out]; kernel_rfl) (by rw [HQ.out]; exact fun _ _ _ h => h) (Or.inl ⟨by first | rfl | (rw [HO.out]; kernel_rfl), ?_⟩) hS ?_
  · intro w' hSw
    go_simp
  try simp only [Act.put, List.setIfInBounds_toArray, List.set_cons_zero, List.set_cons_succ]
  refine wpAnyH_take (i := 10) (v := .int .i64 yn) (by rw [HO.out]; simp only [List.getElem?_toArray, List.getElem?_cons_succ, List.getElem?_cons_zero]; rfl) (by rw [HO.out]; kernel_rfl) (by rw [HO.out]; kernel_rfl) (by rw [HO.out]; kernel_rfl) (by rw [HQ.out]; exact fun _ _ _ h => h) (Or.inl ⟨by first | rfl | (rw [HO.out]; kernel_rfl), ?_⟩) hS ?_
  · intro w' hSw
    go_simp
  try simp only [Act.put, List.setIfInBounds_toArray, List.set_cons_zero, List.set_cons_succ]
  refine wpAnyH_take (i := 11) (v := .int .i64 xn) (by rw [HO.out]; simp only [List.getElem?_toArray, List.getElem?_cons_succ, List.getElem?_cons_zero]; rfl) (by rw [HO.out]; kernel_rfl) (by rw [HO.out]; kernel_rfl) (by rw [HO.out]; kernel_rfl) (by rw [HQ.out]; exact fun _ _ _ h => h) (Or.inl ⟨by first | rfl | (rw [HO.out]; kernel_rfl), ?_⟩) hS ?_
  · intro w' hSw
    go_simp
  try simp only [Act.put, List.setIfInBounds_toArray, List.set_cons_zero, List.set_cons_succ]
  refine wpAnyH_take (i := 12) (v := .slice (some ⟨g4, 0, none⟩) xn c4) (by rw [HO.out]; simp only [List.getElem?_toArray, List.getElem?_cons_succ, List.getElem?_cons_zero]; rfl) (by rw [HO.out]; kernel_rfl) (by rw [HO.out]; kernel_rfl) (by rw [HO.out]; kernel_rfl) (by rw [HQ.out]; exact fun _ _ _ h => h) (Or.inl ⟨by first | rfl | (rw [HO.out]; kernel_rfl), ?_⟩) hS ?_
  · intro w' hSw
    go_simp
  try simp only [Act.put, List.setIfInBounds_toArray, List.set_cons_zero, List.set_cons_succ]
  refine wpAnyH_take (i := 13) (v := .string st) (by rw [HO.out]; simp only [List.getElem?_toArray, List.getElem?_cons_succ, List.getElem?_cons_zero]; rfl) (by rw [HO.out]; kernel_rfl) (by rw [HO.out]; kernel_rfl) (by rw [HO.out]; kernel_rfl) (by rw [HQ.out]; exact fun _ _ _ h => h) (Or.inl ⟨by first | rfl | (rw [HO.out]; kernel_rfl), ?_⟩) hS ?_
  · intro w' hSw
    have q := VT.out _ hSw
    go_simp
  try simp only [Act.put, List.setIfInBounds_toArray, List.set_cons_zero, List.set_cons_succ]
  refine wpAnyH_take (i := 14) (v := .slice (some ⟨g3, 0, none⟩) xn c3) (by rw [HO.out]; simp only [List.getElem?_toArray, List.getElem?_cons_succ, List.getElem?_cons_zero]; rfl) (by rw [HO.out]; kernel_rfl) (by rw [HO.out]; kernel_rfl) (by rw [HO.out]; kernel_rfl) (by rw [HQ.out]; exact fun _ _ _ h => h) (Or.inl ⟨by first | rfl | (rw [HO.out]; kernel_rfl), ?_⟩) hS ?_
  · intro w' hSw
    go_simp
  try simp only [Act.put, List.setIfInBounds_toArray, List.set_cons_zero, List.set_cons_succ]
  refine wpAnyH_take (i := 15) (v := .string sx) (by rw [HO.out]; simp only [List.getElem?_toArray, List.getElem?_cons_succ, List.getElem?_cons_zero]; rfl) (by rw [HO.out]; kernel_rfl) (by rw [HO.out]; kernel_rfl) (by rw [HO.out]; kernel_rfl) (by rw [HQ.out]; exact fun _ _ _ h => h) (Or.inl ⟨by first | rfl | (rw [HO.out]; kernel_rfl), ?_⟩) hS ?_
  · intro w' hSw
    have q := V3.out _ hSw
    go_simp
  try simp only [Act.put, List.setIfInBounds_toArray, List.set_cons_zero, List.set_cons_succ]
  refine wpAnyH_take (i := 16) (v := .bool false) (by rw [HO.out]; simp only [List.getElem?_toArray, List.getElem?_cons_succ, List.getElem?_cons_zero]; rfl) (by rw [HO.out]; kernel_rfl) (by rw [HO.out]; kernel_rfl) (by rw [HO.out]; kernel_rfl) (by rw [HQ.out]; exact fun _ _ _ h => h) (Or.inl ⟨by first | rfl | (rw [HO.out]; kernel_rfl), ?_⟩) hS ?_
  · intro w' hSw
    go_simp
  try simp only [Act.put, List.setIfInBounds_toArray, List.set_cons_zero, List.set_cons_succ]
  refine wpAnyH_take (i := 17) (v := .bool false) (by rw [HO.out]; simp only [List.getElem?_toArray, List.getElem?_cons_succ, List.getElem?_cons_zero]; rfl) (by rw [HO.out]; kernel_rfl) (by rw [HO.out]; kernel_rfl) (by rw [HO.out]; kernel_rfl) (by rw [HQ.out]; exact fun _ _ _ h => h) (Or.inl ⟨by first | rfl | (rw [HO.out]; kernel_rfl), ?_⟩) hS ?_
  · intro w' hSw
    go_simp
  try simp only [Act.put, List.setIfInBounds_toArray, List.set_cons_zero, List.set_cons_succ]
  refine wpAnyH_take (i := 18) (v := .bool false) (by rw [HO.out]; simp only [List.getElem?_toArray, List.getElem?_cons_succ, List.getElem?_cons_zero]; rfl) (by rw [HO.out]; kernel_rfl) (by rw [HO.out]; kernel_rfl) (by rw [HO.out]; kernel_rfl) (by rw [HQ.out]; exact fun _ _ _ h => h) (Or.inl ⟨by first | rfl | (rw [HO.out]; kernel_rfl), ?_⟩) hS ?_
  · intro w' hSw
    go_simp
  try simp only [Act.put, List.setIfInBounds_toArray, List.set_cons_zero, List.set_cons_succ]
  refine wpAnyH_done (by rw [HO.out]; kernel_rfl) ?_ _
  rw [HQ.out]
  refine NoPanic.normal ?_
  go_wp2_with fail
  refine wp_region_noPanic ?_
  refine name_ops ?_
  intro O2 QQ2 HO2 HQ2
  refine wp_region_held_drew (S := fun W => Below w4.heap.size w4 W) (by kernel_rfl) (hS.trans (Below.refl _ _).drew) (fun hS => ?_)
  rw [show O2.size = 25 by rw [HO2.out]; rfl]
  refine wpAnyH_take (i := 0) (v := .agg #[.int .u8 k0, .int .i64 n0, .string s0]) (by rw [HO2.out]; simp only [List.getElem?_toArray, List.getElem?_cons_succ, List.getElem?_cons_zero]; rfl) (by rw [HO2.out]; kernel_rfl) (by rw [HO2.out]; kernel_rfl) (by rw [HO2.out]; kernel_rfl) (by rw [HQ2.out]; exact fun _ _ _ h => h) (Or.inl ⟨by first | rfl | (rw [HO2.out]; kernel_rfl), ?_⟩) hS ?_
  · intro w' hSw
    obtain ⟨⟨q1, q2, q3⟩, ⟨q4, q5, q6⟩⟩ := SM.out _ hSw
    go_simp
  try simp only [Act.put, List.setIfInBounds_toArray, List.set_cons_zero, List.set_cons_succ]
  refine wpAnyH_take (i := 2) (v := .agg #[.int .u8 k0, .int .i64 n0, .string s1]) (by rw [HO2.out]; simp only [List.getElem?_toArray, List.getElem?_cons_succ, List.getElem?_cons_zero]; rfl) (by rw [HO2.out]; kernel_rfl) (by rw [HO2.out]; kernel_rfl) (by rw [HO2.out]; kernel_rfl) (by rw [HQ2.out]; exact fun _ _ _ h => h) (Or.inl ⟨by first | rfl | (rw [HO2.out]; kernel_rfl), ?_⟩) hS ?_
  · intro w' hSw
    obtain ⟨⟨q1, q2, q3⟩, ⟨q4, q5, q6⟩⟩ := SM.out _ hSw
    go_simp
  try simp only [Act.put, List.setIfInBounds_toArray, List.set_cons_zero, List.set_cons_succ]
  refine wpAnyH_take (i := 5) (v := .bool false) (by rw [HO2.out]; simp only [List.getElem?_toArray, List.getElem?_cons_succ, List.getElem?_cons_zero]; rfl) (by rw [HO2.out]; kernel_rfl) (by rw [HO2.out]; kernel_rfl) (by rw [HO2.out]; kernel_rfl) (by rw [HQ2.out]; exact fun _ _ _ h => h) (Or.inl ⟨by first | rfl | (rw [HO2.out]; kernel_rfl), ?_⟩) hS ?_
  · intro w' hSw
    go_simp
  try simp only [Act.put, List.setIfInBounds_toArray, List.set_cons_zero, List.set_cons_succ]
  refine wpAnyH_one (i := 1) (x := 70) (R := fun v _ => v = .string tx0) (by rw [HO2.out]; simp only [List.getElem?_toArray, List.getElem?_cons_succ, List.getElem?_cons_zero]; rfl) (by rw [HO2.out]; kernel_rfl) hS ?_ ?_
  · intro K hK
    simp only [Act.put, List.setIfInBounds_toArray, List.set_cons_zero, List.set_cons_succ] at hK
    unfold Steps
    rw [if_pos (by rw [HO2.out]; kernel_rfl)]
    go_simp
    refine (T0 _ (HVW.out _ hS)).mono ?_
    rintro e w9 ⟨rfl, hb9⟩
    exact hK _ _ rfl hb9
  rintro v9 w9 hv9 hb9 hS9
  obtain rfl := hv9
  clear hb9
  replace hS := hS9
  clear hS9
  try simp only [Act.put, List.setIfInBounds_toArray, List.set_cons_zero, List.set_cons_succ]
  refine wpAnyH_one (i := 3) (x := 72) (R := fun v _ => v = .string tx1) (by rw [HO2.out]; simp only [List.getElem?_toArray, List.getElem?_cons_succ, List.getElem?_cons_zero]; rfl) (by rw [HO2.out]; kernel_rfl) hS ?_ ?_
  · intro K hK
    simp only [Act.put, List.setIfInBounds_toArray, List.set_cons_zero, List.set_cons_succ] at hK
    unfold Steps
    rw [if_pos (by rw [HO2.out]; kernel_rfl)]
    go_simp
    refine (T1 _ (HVW.out _ hS)).mono ?_
    rintro e w9 ⟨rfl, hb9⟩
    exact hK _ _ rfl hb9
  rintro v9 w9 hv9 hb9 hS9
  obtain rfl := hv9
  clear hb9
  replace hS := hS9
  clear hS9
  try simp only [Act.put, List.setIfInBounds_toArray, List.set_cons_zero, List.set_cons_succ]
  refine wpAnyH_take (i := 4) (v := .bool false) (by rw [HO2.out]; simp only [List.getElem?_toArray, List.getElem?_cons_succ, List.getElem?_cons_zero]; rfl) (by rw [HO2.out]; kernel_rfl) (by rw [HO2.out]; kernel_rfl) (by rw [HO2.out]; kernel_rfl) (by rw [HQ2.out]; exact fun _ _ _ h => h) (Or.inl ⟨by first | rfl | (rw [HO2.out]; kernel_rfl), ?_⟩) hS ?_
  · intro w' hSw
    go_simp
  try simp only [Act.put, List.setIfInBounds_toArray, List.set_cons_zero, List.set_cons_succ]
  refine wpAnyH_take (i := 6) (v := .bool true) (by rw [HO2.out]; simp only [List.getElem?_toArray, List.getElem?_cons_succ, List.getElem?_cons_zero]; rfl) (by rw [HO2.out]; kernel_rfl) (by rw [HO2.out]; kernel_rfl) (by rw [HO2.out]; kernel_rfl) (by rw [HQ2.out]; exact fun _ _ _ h => h) (Or.inl ⟨by first | rfl | (rw [HO2.out]; kernel_rfl), ?_⟩) hS ?_
  · intro w' hSw
    go_simp
  try simp only [Act.put, List.setIfInBounds_toArray, List.set_cons_zero, List.set_cons_succ]
  refine wpAnyH_take (i := 7) (v := .bool true) (by rw [HO2.out]; simp only [List.getElem?_toArray, List.getElem?_cons_succ, List.getElem?_cons_zero]; rfl) (by rw [HO2.out]; kernel_rfl) (by rw [HO2.out]; kernel_rfl) (by rw [HO2.out]; kernel_rfl) (by rw [HQ2.out]; exact fun _ _ _ h => h) (Or.inl ⟨by first | rfl | (rw [HO2.out]; kernel_rfl), ?_⟩) hS ?_
  · intro w' hSw
    go_simp
  try simp only [Act.put, List.setIfInBounds_toArray, List.set_cons_zero, List.set_cons_succ]
  refine wpAnyH_take (i := 8) (v := .slice (some ⟨g3, 0, none⟩) xn c3) (by rw [HO2.out]; simp only [List.getElem?_toArray, List.getElem?_cons_succ, List.getElem?_cons_zero]; rfl) (by rw [HO2.out]; kernel_rfl) (by rw [HO2.out]; kernel_rfl) (by rw [HO2.out]; kernel_rfl) (by rw [HQ2.out]; exact fun _ _ _ h => h) (Or.inl ⟨by first | rfl | (rw [HO2.out]; kernel_rfl), ?_⟩) hS ?_
  · intro w' hSw
    go_simp
  try simp only [Act.put, List.setIfInBounds_toArray, List.set_cons_zero, List.set_cons_succ]
  refine wpAnyH_take (i := 9) (v := .string sx) (by rw [HO2.out]; simp only [List.getElem?_toArray, List.getElem?_cons_succ, List.getElem?_cons_zero]; rfl) (by rw [HO2.out]; kernel_rfl) (by rw [HO2.out]; kernel_rfl) (by rw [HO2.out]; kernel_rfl) (by rw [HQ2.out]; exact fun _ _ _ h => h) (Or.inl ⟨by first | rfl | (rw [HO2.out]; kernel_rfl), ?_⟩) hS ?_
  · intro w' hSw
    have q := V3.out _ hSw
    go_simp
  try simp only [Act.put, List.setIfInBounds_toArray, List.set_cons_zero, List.set_cons_succ]
  refine wpAnyH_take (i := 10) (v := .slice (some ⟨g4, 0, none⟩) yn c4) (by rw [HO2.out]; simp only [List.getElem?_toArray, List.getElem?_cons_succ, List.getElem?_cons_zero]; rfl) (by rw [HO2.out]; kernel_rfl) (by rw [HO2.out]; kernel_rfl) (by rw [HO2.out]; kernel_rfl) (by rw [HQ2.out]; exact fun _ _ _ h => h) (Or.inl ⟨by first | rfl | (rw [HO2.out]; kernel_rfl), ?_⟩) hS ?_
  · intro w' hSw
    go_simp
  try simp only [Act.put, List.setIfInBounds_toArray, List.set_cons_zero, List.set_cons_succ]
  refine wpAnyH_take (i := 11) (v := .string sy) (by rw [HO2.out]; simp only [List.getElem?_toArray, List.getElem?_cons_succ, List.getElem?_cons_zero]; rfl) (by rw [HO2.out]; kernel_rfl) (by rw [HO2.out]; kernel_rfl) (by rw [HO2.out]; kernel_rfl) (by rw [HQ2.out]; exact fun _ _ _ h => h) (Or.inl ⟨by first | rfl | (rw [HO2.out]; kernel_rfl), ?_⟩) hS ?_
  · intro w' hSw
    have q := V4.out _ hSw
    go_simp
  try simp only [Act.put, List.setIfInBounds_toArray, List.set_cons_zero, List.set_cons_succ]
  refine wpAnyH_take (i := 12) (v := .bool false) (by rw [HO2.out]; simp only [List.getElem?_toArray, List.getElem?_cons_succ, List.getElem?_cons_zero]; rfl) (by rw [HO2.out]; kernel_rfl) (by rw [HO2.out]; kernel_rfl) (by rw [HO2.out]; kernel_rfl) (by rw [HQ2.out]; exact fun _ _ _ h => h) (Or.inl ⟨by first | rfl | (rw [HO2.out]; kernel_rfl), ?_⟩) hS ?_
  · intro w' hSw
    go_simp
  try simp only [Act.put, List.setIfInBounds_toArray, List.set_cons_zero, List.set_cons_succ]
  refine wpAnyH_take (i := 13) (v := .bool false) (by rw [HO2.out]; simp only [List.getElem?_toArray, List.getElem?_cons_succ, List.getElem?_cons_zero]; rfl) (by rw [HO2.out]; kernel_rfl) (by rw [HO2.out]; kernel_rfl) (by rw [HO2.out]; kernel_rfl) (by rw [HQ2.out]; exact fun _ _ _ h => h) (Or.inl ⟨by first | rfl | (rw [HO2.out]; kernel_rfl), ?_⟩) hS ?_
  · intro w' hSw
    go_simp
  try simp only [Act.put, List.setIfInBounds_toArray, List.set_cons_zero, List.set_cons_succ]
  refine wpAnyH_take (i := 14) (v := .bool true) (by rw [HO2.out]; simp only [List.getElem?_toArray, List.getElem?_cons_succ, List.getElem?_cons_zero]; rfl) (by rw [HO2.out]; kernel_rfl) (by rw [HO2.out]; kernel_rfl) (by rw [HO2.out]; kernel_rfl) (by rw [HQ2.out]; exact fun _ _ _ h => h) (Or.inl ⟨by first | rfl | (rw [HO2.out]; kernel_rfl), ?_⟩) hS ?_
  · intro w' hSw
    go_simp
  try simp only [Act.put, List.setIfInBounds_toArray, List.set_cons_zero, List.set_cons_succ]
  refine wpAnyH_take (i := 15) (v := .bool true) (by rw [HO2.out]; simp only [List.getElem?_toArray, List.getElem?_cons_succ, List.getElem?_cons_zero]; rfl) (by rw [HO2.out]; kernel_rfl) (by rw [HO2.out]; kernel_rfl) (by rw [HO2.out]; kernel_rfl) (by rw [HQ2.out]; exact fun _ _ _ h => h) (Or.inl ⟨by first | rfl | (rw [HO2.out]; kernel_rfl), ?_⟩) hS ?_
  · intro w' hSw
    go_simp
  try simp only [Act.put, List.setIfInBounds_toArray, List.set_cons_zero, List.set_cons_succ]
  refine wpAnyH_take (i := 16) (v := .bool true) (by rw [HO2.out]; simp only [List.getElem?_toArray, List.getElem?_cons_succ, List.getElem?_cons_zero]; rfl) (by rw [HO2.out]; kernel_rfl) (by rw [HO2.out]; kernel_rfl) (by rw [HO2.out]; kernel_rfl) (by rw [HQ2.out]; exact fun _ _ _ h => h) (Or.inl ⟨by first | rfl | (rw [HO2.out]; kernel_rfl), ?_⟩) hS ?_
  · intro w' hSw
    go_simp
  try simp only [Act.put, List.setIfInBounds_toArray, List.set_cons_zero, List.set_cons_succ]
  refine wpAnyH_take (i := 17) (v := .bool false) (by rw [HO2.out]; simp only [List.getElem?_toArray, List.getElem?_cons_succ, List.getElem?_cons_zero]; rfl) (by rw [HO2.out]; kernel_rfl) (by rw [HO2.out]; kernel_rfl) (by rw [HO2.out]; kernel_rfl) (by rw [HQ2.out]; exact fun _ _ _ h => h) (Or.inl ⟨by first | rfl | (rw [HO2.out]; kernel_rfl), ?_⟩) hS ?_
  · intro w' hSw
    go_simp
  try simp only [Act.put, List.setIfInBounds_toArray, List.set_cons_zero, List.set_cons_succ]
  refine wpAnyH_take (i := 18) (v := .bool false) (by rw [HO2.out]; simp only [List.getElem?_toArray, List.getElem?_cons_succ, List.getElem?_cons_zero]; rfl) (by rw [HO2.out]; kernel_rfl) (by rw [HO2.out]; kernel_rfl) (by rw [HO2.out]; kernel_rfl) (by rw [HQ2.out]; exact fun _ _ _ h => h) (Or.inl ⟨by first | rfl | (rw [HO2.out]; kernel_rfl), ?_⟩) hS ?_
  · intro w' hSw
    go_simp
  try simp only [Act.put, List.setIfInBounds_toArray, List.set_cons_zero, List.set_cons_succ]
  refine wpAnyH_take (i := 19) (v := .bool true) (by rw [HO2.out]; simp only [List.getElem?_toArray, List.getElem?_cons_succ, List.getElem?_cons_zero]; rfl) (by rw [HO2.out]; kernel_rfl) (by rw [HO2.out]; kernel_rfl) (by rw [HO2.out]; kernel_rfl) (by rw [HQ2.out]; exact fun _ _ _ h => h) (Or.inl ⟨by first | rfl | (rw [HO2.out]; kernel_rfl), ?_⟩) hS ?_
  · intro w' hSw
    go_simp
  try simp only [Act.put, List.setIfInBounds_toArray, List.set_cons_zero, List.set_cons_succ]
  refine wpAnyH_take (i := 20) (v := .bool true) (by rw [HO2.out]; simp only [List.getElem?_toArray, List.getElem?_cons_succ, List.getElem?_cons_zero]; rfl) (by rw [HO2.out]; kernel_rfl) (by rw [HO2.out]; kernel_rfl) (by rw [HO2.out]; kernel_rfl) (by rw [HQ2.out]; exact fun _ _ _ h => h) (Or.inl ⟨by first | rfl | (rw [HO2.out]; kernel_rfl), ?_⟩) hS ?_
  · intro w' hSw
    go_simp
  try simp only [Act.put, List.setIfInBounds_toArray, List.set_cons_zero, List.set_cons_succ]
  refine wpAnyH_take (i := 21) (v := .bool true) (by rw [HO2.out]; simp only [List.getElem?_toArray, List.getElem?_cons_succ, List.getElem?_cons_zero]; rfl) (by rw [HO2.out]; kernel_rfl) (by rw [HO2.out]; kernel_rfl) (by rw [HO2.out]; kernel_rfl) (by rw [HQ2.out]; exact fun _ _ _ h => h) (Or.inl ⟨by first | rfl | (rw [HO2.out]; kernel_rfl), ?_⟩) hS ?_
  · intro w' hSw
    go_simp
  try simp only [Act.put, List.setIfInBounds_toArray, List.set_cons_zero, List.set_cons_succ]
  refine wpAnyH_one (i := 22) (x := 91) (R := fun v _ => v = .bool true) (by rw [HO2.out]; simp only [List.getElem?_toArray, List.getElem?_cons_succ, List.getElem?_cons_zero]; rfl) (by rw [HO2.out]; kernel_rfl) hS ?_ ?_
  · intro K hK
    simp only [Act.put, List.setIfInBounds_toArray, List.set_cons_zero, List.set_cons_succ] at hK
    unfold Steps
    rw [if_pos (by rw [HO2.out]; kernel_rfl)]
    go_simp
    refine (HA _ (HVW.out _ hS)).mono ?_
    rintro e w9 ⟨rfl, hb9⟩
    exact hK _ _ rfl hb9
  rintro v9 w9 hv9 hb9 hS9
  obtain rfl := hv9
  clear hb9
  replace hS := hS9
  clear hS9
  try simp only [Act.put, List.setIfInBounds_toArray, List.set_cons_zero, List.set_cons_succ]
  refine wpAnyH_take (i := 23) (v := .bool true) (by rw [HO2.out]; simp only [List.getElem?_toArray, List.getElem?_cons_succ, List.getElem?_cons_zero]; rfl) (by rw [HO2.out]; kernel_rfl) (by rw [HO2.out]; kernel_rfl) (by rw [HO2.out]; kernel_rfl) (by rw [HQ2.out]; exact fun _ _ _ h => h) (Or.inl ⟨by first | rfl | (rw [HO2.out]; kernel_rfl), ?_⟩) hS ?_
  · intro w' hSw
    go_simp
  try simp only [Act.put, List.setIfInBounds_toArray, List.set_cons_zero, List.set_cons_succ]
  refine wpAnyH_take (i := 24) (v := .bool true) (by rw [HO2.out]; simp only [List.getElem?_toArray, List.getElem?_cons_succ, List.getElem?_cons_zero]; rfl) (by rw [HO2.out]; kernel_rfl) (by rw [HO2.out]; kernel_rfl) (by rw [HO2.out]; kernel_rfl) (by rw [HQ2.out]; exact fun _ _ _ h => h) (Or.inl ⟨by first | rfl | (rw [HO2.out]; kernel_rfl), ?_⟩) hS ?_
  · intro w' hSw
    go_simp
  try simp only [Act.put, List.setIfInBounds_toArray, List.set_cons_zero, List.set_cons_succ]
  refine wpAnyH_done (by rw [HO2.out]; kernel_rfl) ?_ _
  rw [HQ2.out]
  refine NoPanic.normal ?_
  go_wp2
  go_ret
  exact ⟨rfl, HBW.out _ hS⟩
set_option maxHeartbeats 16000000 in
theorem m_kb (k0 n0 k1 n1 : Int) (s0 s1 : ByteArray) (w : World) (hV : Vars w) (pl0 pl1 : List Int) (tx0 tx1 : ByteArray) (xn yn : Nat) (hd : k0 ≠ k1) (h0 : s0.size ≤ 200) (h0' : s1.size ≤ 200) (C0 : ∀ W, Vars W → Calls Tryd.prog 14 #[.agg #[.int .u8 k0, .int .i64 n0, .string s0]] W fun e w' => e = .returned (.int .i64 0) ∧ Below W.heap.size W w') (P0 : ∀ W, Vars W → Calls Tryd.prog 24 #[.agg #[.int .u8 k0, .int .i64 n0, .string s0]] W fun e w' => ∃ v, e = .returned (.tuple #[v, .int .i64 0]) ∧ Own w' W.heap.size v pl0 ∧ Below W.heap.size W w') (T0 : ∀ W, Vars W → Calls Tryd.prog 16 #[.agg #[.int .u8 k0, .int .i64 n0, .string s0]] W fun e w' => e = .returned (.string tx0) ∧ Below W.heap.size W w') (C1 : ∀ W, Vars W → Calls Tryd.prog 14 #[.agg #[.int .u8 k1, .int .i64 n1, .string s1]] W fun e w' => e = .returned (.int .i64 0) ∧ Below W.heap.size W w') (P1 : ∀ W, Vars W → Calls Tryd.prog 24 #[.agg #[.int .u8 k1, .int .i64 n1, .string s1]] W fun e w' => ∃ v, e = .returned (.tuple #[v, .int .i64 0]) ∧ Own w' W.heap.size v pl1 ∧ Below W.heap.size W w') (T1 : ∀ W, Vars W → Calls Tryd.prog 16 #[.agg #[.int .u8 k1, .int .i64 n1, .string s1]] W fun e w' => e = .returned (.string tx1) ∧ Below W.heap.size W w') (L0 : Hid (pl0.length = xn)) (A0 : Hid (AllB pl0)) (hx1 : 1 ≤ xn) (hx2 : xn ≤ 30) (L1 : Hid (pl1.length = yn)) (A1 : Hid (AllB pl1)) (hy1 : 1 ≤ yn) (hy2 : yn ≤ 30) (hle : yn < xn) (HT : (tx0.toList == tx1.toList) = false) (HS : ((strOfNums pl0).toList == (strOfNums pl1).toList) = false) : Calls Tryd.prog 8 #[.agg #[.int .u8 k0, .int .i64 n0, .string s0], .agg #[.int .u8 k1, .int .i64 n1, .string s1]] w fun e w' => e = .returned (.bool true) ∧ Below w.heap.size w w' := by
  have HA := awake_any
  have h3 : decide ((200 : Int) < (s0.size : Int)) = false := by simp; omega
  have h4 : decide ((200 : Int) < (s1.size : Int)) = false := by simp; omega
  obtain ⟨W0, hW0⟩ : ∃ W0, W0 = (w.alloc (.cells #[.int .u8 k0, .int .i64 n0, .string s0] 23)).alloc (.cells #[.int .u8 k1, .int .i64 n1, .string s1] 23) := ⟨_, rfl⟩
  have HB0 : Hid (Below w.heap.size w W0) := by rw [hW0]; exact two_new _ _ _
  have SL : Hid (∀ W, Below W0.heap.size W0 W → (W.cell? ⟨w.heap.size, 0, none⟩ = some (.int .u8 k0) ∧ W.cell? ⟨w.heap.size, 1, none⟩ = some (.int .i64 n0) ∧ W.cell? ⟨w.heap.size, 2, none⟩ = some (.string s0)) ∧ (W.cell? ⟨w.heap.size + 1, 0, none⟩ = some (.int .u8 k1) ∧ W.cell? ⟨w.heap.size + 1, 1, none⟩ = some (.int .i64 n1) ∧ W.cell? ⟨w.heap.size + 1, 2, none⟩ = some (.string s1))) := fun W hW => by
    rw [hW0] at hW
    have b1 := ((Bk.new w k0 n0 s0).below (box1 _ _)).below hW
    have b2 := (Bk.new (w.alloc (.cells #[.int .u8 k0, .int .i64 n0, .string s0] 23)) k1 n1 s1).below hW
    have c2 := b2.cells
    simp at c2
    exact ⟨b1.cells, c2⟩
  have HV : Hid (∀ W, Below W0.heap.size W0 W → Vars W) := fun W hW => (hV.below HB0.out).below hW
  go_enter Tryd.func8, Tryd.ntmps8
  go_wp2_with (first | (go_at_call 14; rw [← hW0]; refine (C0 _ (HV.out _ (Below.refl _ _))).mono ?_; rintro e w1 ⟨rfl, hb1⟩; clear C0 hW0; obtain ⟨⟨x1, x2, x3⟩, ⟨x4, x5, x6⟩⟩ := SL.out _ hb1) | (go_at_call 14; refine (C1 _ (HV.out _ hb1)).mono ?_; rintro e w2 ⟨rfl, hb2⟩; clear C1; have H2 := bt hb1 hb2; obtain ⟨⟨y1, y2, y3⟩, ⟨y4, y5, y6⟩⟩ := SL.out _ H2) | (go_at_call 24; refine (P0 _ (HV.out _ H2)).mono ?_; rintro e w3 ⟨v3, rfl, o3, hb3⟩; clear P0; obtain ⟨g3, c3, rfl, hg3, _, _⟩ := o3.shape xn L0.out hx1; have H3 := bt H2 hb3; obtain ⟨⟨z1, z2, z3⟩, ⟨z4, z5, z6⟩⟩ := SL.out _ H3) | (go_at_call 24; refine (P1 _ (HV.out _ H3)).mono ?_; rintro e w4 ⟨v4, rfl, o4, hb4⟩; clear P1; obtain ⟨g4, c4, rfl, hg4, _, _⟩ := o4.shape yn L1.out hy1; have H4 := bt H3 hb4; obtain ⟨⟨u1, u2, u3⟩, ⟨u4, u5, u6⟩⟩ := SL.out _ H4))
  have V3 : Hid (∀ W, Below w4.heap.size w4 W → (convert 39 9 (.slice (some ⟨g3, 0, none⟩) xn c3)).run Tryd.prog W = .ok (.string (strOfNums pl0)) W) := fun W hW => conv_own ((o3.below hb4).below hW) A0.out
  have V4 : Hid (∀ W, Below w4.heap.size w4 W → (convert 39 9 (.slice (some ⟨g4, 0, none⟩) yn c4)).run Tryd.prog W = .ok (.string (strOfNums pl1)) W) := fun W hW => conv_own (o4.below hW) A1.out
  have SM : Hid (∀ W, Below w4.heap.size w4 W → (W.cell? ⟨w.heap.size, 0, none⟩ = some (.int .u8 k0) ∧ W.cell? ⟨w.heap.size, 1, none⟩ = some (.int .i64 n0) ∧ W.cell? ⟨w.heap.size, 2, none⟩ = some (.string s0)) ∧ (W.cell? ⟨w.heap.size + 1, 0, none⟩ = some (.int .u8 k1) ∧ W.cell? ⟨w.heap.size + 1, 1, none⟩ = some (.int .i64 n1) ∧ W.cell? ⟨w.heap.size + 1, 2, none⟩ = some (.string s1))) := fun W hW => SL.out _ (bt H4 hW)
  have HVW : Hid (∀ W, Below w4.heap.size w4 W → Vars W) := fun W hW => HV.out _ (bt H4 hW)
  have HBW : Hid (∀ W, Below w4.heap.size w4 W → Below w.heap.size w W) := fun W hW => bt (bt HB0.out H4) hW
  have m1 : (1 : Int) ≤ xn := by omega
  have m2 : (xn : Int) ≤ 30 := by omega
  have m3 : (xn : Int) ≤ c3 := by omega
  have m4 : (yn : Int) ≤ c4 := by omega
  have m7 : (1 : Int) ≤ yn := by omega
  have m8 : (yn : Int) ≤ 30 := by omega
  have m6 : decide ((xn : Int) ≤ yn) = false := by simp; omega
  have m10 : (yn : Int) < xn := by omega
  clear x1 x2 x3 x4 x5 x6 y1 y2 y3 y4 y5 y6 z1 z2 z3 z4 z5 z6 u1 u2 u3 u4 u5 u6 hb1 hb2 hb3 hb4 H2 H3 H4 o3 o4 SL HV HB0 hV
  generalize hsx : strOfNums pl0 = sx at *
  generalize hsy : strOfNums pl1 = sy at *
  clear hsy
  clear hsx
  refine wp_region_noPanic ?_
  refine name_ops ?_
  intro O QQ HO HQ
  refine wp_region_held_drew (S := fun W => Below w4.heap.size w4 W) (by kernel_rfl) (Below.refl _ _).drew (fun hS => ?_)
  rw [show O.size = 19 by rw [HO.out]; rfl]
  refine wpAnyH_take (i := 0) (v := .slice (some ⟨g3, 0, none⟩) xn c3) (by rw [HO.out]; simp only [List.getElem?_toArray, List.getElem?_cons_succ, List.getElem?_cons_zero]; rfl) (by rw [HO.out]; kernel_rfl) (by rw [HO.out]; kernel_rfl) (by rw [HO.out]; kernel_rfl) (by rw [HQ.out]; exact fun _ _ _ h => h) (Or.inl ⟨by first | rfl | (rw [HO.out]; kernel_rfl), ?_⟩) hS ?_
  · intro w' hSw
    go_simp
  try simp only [Act.put, List.setIfInBounds_toArray, List.set_cons_zero, List.set_cons_succ]
  refine wpAnyH_take (i := 1) (v := .int .i64 xn) (by rw [HO.out]; simp only [List.getElem?_toArray, List.getElem?_cons_succ, List.getElem?_cons_zero]; rfl) (by rw [HO.out]; kernel_rfl) (by rw [HO.out]; kernel_rfl) (by rw [HO.out]; kernel_rfl) (by rw [HQ.out]; exact fun _ _ _ h => h) (Or.inl ⟨by first | rfl | (rw [HO.out]; kernel_rfl), ?_⟩) hS ?_
  · intro w' hSw
    go_simp
  try simp only [Act.put, List.setIfInBounds_toArray, List.set_cons_zero, List.set_cons_succ]
  refine wpAnyH_take (i := 2) (v := .slice (some ⟨g4, 0, none⟩) yn c4) (by rw [HO.out]; simp only [List.getElem?_toArray, List.getElem?_cons_succ, List.getElem?_cons_zero]; rfl) (by rw [HO.out]; kernel_rfl) (by rw [HO.out]; kernel_rfl) (by rw [HO.out]; kernel_rfl) (by rw [HQ.out]; exact fun _ _ _ h => h) (Or.inl ⟨by first | rfl | (rw [HO.out]; kernel_rfl), ?_⟩) hS ?_
  · intro w' hSw
    go_simp
  try simp only [Act.put, List.setIfInBounds_toArray, List.set_cons_zero, List.set_cons_succ]
  refine wpAnyH_take (i := 3) (v := .int .i64 yn) (by rw [HO.out]; simp only [List.getElem?_toArray, List.getElem?_cons_succ, List.getElem?_cons_zero]; rfl) (by rw [HO.out]; kernel_rfl) (by rw [HO.out]; kernel_rfl) (by rw [HO.out]; kernel_rfl) (by rw [HQ.out]; exact fun _ _ _ h => h) (Or.inl ⟨by first | rfl | (rw [HO.out]; kernel_rfl), ?_⟩) hS ?_
  · intro w' hSw
    go_simp
  try simp only [Act.put, List.setIfInBounds_toArray, List.set_cons_zero, List.set_cons_succ]
  refine wpAnyH_take (i := 4) (v := .bool false) (by rw [HO.out]; simp only [List.getElem?_toArray, List.getElem?_cons_succ, List.getElem?_cons_zero]; rfl) (by rw [HO.out]; kernel_rfl) (by rw [HO.out]; kernel_rfl) (by rw [HO.out]; kernel_rfl) (by rw [HQ.out]; exact fun _ _ _ h => h) (Or.inl ⟨by first | rfl | (rw [HO.out]; kernel_rfl), ?_⟩) hS ?_
  · intro w' hSw
    go_simp
  try simp only [Act.put, List.setIfInBounds_toArray, List.set_cons_zero, List.set_cons_succ]
  refine wpAnyH_take (i := 5) (v := .bool false) (by rw [HO.out]; simp only [List.getElem?_toArray, List.getElem?_cons_succ, List.getElem?_cons_zero]; rfl) (by rw [HO.out]; kernel_rfl) (by rw [HO.out]; kernel_rfl) (by rw [HO.out]; kernel_rfl) (by rw [HQ.out]; exact fun _ _ _ h => h) (Or.inl ⟨by first | rfl | (rw [HO.out]; kernel_rfl), ?_⟩) hS ?_
  · intro w' hSw
    go_simp
  try simp only [Act.put, List.setIfInBounds_toArray, List.set_cons_zero, List.set_cons_succ]
  refine wpAnyH_take (i := 6) (v := undef) (by rw [HO.out]; simp only [List.getElem?_toArray, List.getElem?_cons_succ, List.getElem?_cons_zero]; rfl) (by rw [HO.out]; kernel_rfl) (by rw [HO.out]; kernel_rfl) (by rw [HO.out]; kernel_rfl) (by rw [HQ.out]; exact fun _ _ _ h => h) (Or.inr ⟨by first | rfl | (rw [HO.out]; kernel_rfl), rfl⟩) hS ?_
  try simp only [Act.put, List.setIfInBounds_toArray, List.set_cons_zero, List.set_cons_succ]
  refine wpAnyH_take (i := 7) (v := undef) (by rw [HO.out]; simp only [List.getElem?_toArray, List.getElem?_cons_succ, List.getElem?_cons_zero]; rfl) (by rw [HO.out]; kernel_rfl) (by rw [HO.out]; kernel_rfl) (by rw [HO.out]; kernel_rfl) (by rw [HQ.out]; exact fun _ _ _ h => h) (Or.inr ⟨by first | rfl | (rw [HO.out]; kernel_rfl), rfl⟩) hS ?_
  try simp only [Act.put, List.setIfInBounds_toArray, List.set_cons_zero, List.set_cons_succ]
  refine wpAnyH_take (i := 8) (v := undef) (by rw [HO.out]; simp only [List.getElem?_toArray, List.getElem?_cons_succ, List.getElem?_cons_zero]; rfl) (by rw [HO.out]; kernel_rfl) (by rw [HO.out]; kernel_rfl) (by rw [HO.out]; kernel_rfl) (by rw [HQ.out]; exact fun _ _ _ h => h) (Or.inr ⟨by first | rfl | (rw [HO.out]; kernel_rfl), rfl⟩) hS ?_
  try simp only [Act.put, List.setIfInBounds_toArray, List.set_cons_zero, List.set_cons_succ]
  refine wpAnyH_take (i := 9) (v := undef) (by rw [HO.out]; simp only [List.getElem?_toArray, List.getElem?_cons_succ, List.getElem?_cons_zero]; rfl) (by rw [HO.out]; kernel_rfl) (by rw [HO.out]; kernel_rfl) (by rw [HO.out]; kernel_rfl) (by rw [HQ.out]; exact fun _ _ _ h => h) (Or.inr ⟨by first | rfl | (rw [HO.out]; kernel_rfl), rfl⟩) hS ?_
  try simp only [Act.put, List.setIfInBounds_toArray, List.set_cons_zero, List.set_cons_succ]
  refine wpAnyH_take (i := 10) (v := undef) (by rw [HO.out]; simp only [List.getElem?_toArray, List.getElem?_cons_succ, List.getElem?_cons_zero]; rfl) (by rw [HO.out]; kernel_rfl) (by rw [HO.out]; kernel_rfl) (by rw [HO.out]; kernel_rfl) (by rw [HQ.out]; exact fun _ _ _ h => h) (Or.inr ⟨by first | rfl | (rw [HO.out]; kernel_rfl), rfl⟩) hS ?_
  try simp only [Act.put, List.setIfInBounds_toArray, List.set_cons_zero, List.set_cons_succ]
  refine wpAnyH_take (i := 11) (v := undef) (by rw [HO.out]; simp only [List.getElem?_toArray, List.getElem?_cons_succ, List.getElem?_cons_zero]; rfl) (by rw [HO.out]; kernel_rfl) (by rw [HO.out]; kernel_rfl) (by rw [HO.out]; kernel_rfl) (by rw [HQ.out]; exact fun _ _ _ h => h) (Or.inr ⟨by first | rfl | (rw [HO.out]; kernel_rfl), rfl⟩) hS ?_
  try simp only [Act.put, List.setIfInBounds_toArray, List.set_cons_zero, List.set_cons_succ]
  refine wpAnyH_take (i := 12) (v := undef) (by rw [HO.out]; simp only [List.getElem?_toArray, List.getElem?_cons_succ, List.getElem?_cons_zero]; rfl) (by rw [HO.out]; kernel_rfl) (by rw [HO.out]; kernel_rfl) (by rw [HO.out]; kernel_rfl) (by rw [HQ.out]; exact fun _ _ _ h => h) (Or.inr ⟨by first | rfl | (rw [HO.out]; kernel_rfl), rfl⟩) hS ?_
  try simp only [Act.put, List.setIfInBounds_toArray, List.set_cons_zero, List.set_cons_succ]
  refine wpAnyH_take (i := 13) (v := undef) (by rw [HO.out]; simp only [List.getElem?_toArray, List.getElem?_cons_succ, List.getElem?_cons_zero]; rfl) (by rw [HO.out]; kernel_rfl) (by rw [HO.out]; kernel_rfl) (by rw [HO.out]; kernel_rfl) (by rw [HQ.out]; exact fun _ _ _ h => h) (Or.inr ⟨by first | rfl | (rw [HO.out]; kernel_rfl), rfl⟩) hS ?_
  try simp only [Act.put, List.setIfInBounds_toArray, List.set_cons_zero, List.set_cons_succ]
  refine wpAnyH_take (i := 14) (v := undef) (by rw [HO.out]; simp only [List.getElem?_toArray, List.getElem?_cons_succ, List.getElem?_cons_zero]; rfl) (by rw [HO.out]; kernel_rfl) (by rw [HO.out]; kernel_rfl) (by rw [HO.out]; kernel_rfl) (by rw [HQ.out]; exact fun _ _ _ h => h) (Or.inr ⟨by first | rfl | (rw [HO.out]; kernel_rfl), rfl⟩) hS ?_
  try simp only [Act.put, List.setIfInBounds_toArray, List.set_cons_zero, List.set_cons_succ]
  refine wpAnyH_take (i := 15) (v := undef) (by rw [HO.out]; simp only [List.getElem?_toArray, List.getElem?_cons_succ, List.getElem?_cons_zero]; rfl) (by rw [HO.out]; kernel_rfl) (by rw [HO.out]; kernel_rfl) (by rw [HO.out]; kernel_rfl) (by rw [HQ.out]; exact fun _ _ _ h => h) (Or.inr ⟨by first | rfl | (rw [HO.out]; kernel_rfl), rfl⟩) hS ?_
  try simp only [Act.put, List.setIfInBounds_toArray, List.set_cons_zero, List.set_cons_succ]
  refine wpAnyH_take (i := 16) (v := undef) (by rw [HO.out]; simp only [List.getElem?_toArray, List.getElem?_cons_succ, List.getElem?_cons_zero]; rfl) (by rw [HO.out]; kernel_rfl) (by rw [HO.out]; kernel_rfl) (by rw [HO.out]; kernel_rfl) (by rw [HQ.out]; exact fun _ _ _ h => h) (Or.inr ⟨by first | rfl | (rw [HO.out]; kernel_rfl), rfl⟩) hS ?_
  try simp only [Act.put, List.setIfInBounds_toArray, List.set_cons_zero, List.set_cons_succ]
  refine wpAnyH_take (i := 17) (v := .bool false) (by rw [HO.out]; simp only [List.getElem?_toArray, List.getElem?_cons_succ, List.getElem?_cons_zero]; rfl) (by rw [HO.out]; kernel_rfl) (by rw [HO.out]; kernel_rfl) (by rw [HO.out]; kernel_rfl) (by rw [HQ.out]; exact fun _ _ _ h => h) (Or.inl ⟨by first | rfl | (rw [HO.out]; kernel_rfl), ?_⟩) hS ?_
  · intro w' hSw
    go_simp
  try simp only [Act.put, List.setIfInBounds_toArray, List.set_cons_zero, List.set_cons_succ]
  refine wpAnyH_take (i := 18) (v := .bool false) (by rw [HO.out]; simp only [List.getElem?_toArray, List.getElem?_cons_succ, List.getElem?_cons_zero]; rfl) (by rw [HO.out]; kernel_rfl) (by rw [HO.out]; kernel_rfl) (by rw [HO.out]; kernel_rfl) (by rw [HQ.out]; exact fun _ _ _ h => h) (Or.inl ⟨by first | rfl | (rw [HO.out]; kernel_rfl), ?_⟩) hS ?_
  · intro w' hSw
    go_simp
  try simp only [Act.put, List.setIfInBounds_toArray, List.set_cons_zero, List.set_cons_succ]
  refine wpAnyH_done (by rw [HO.out]; kernel_rfl) ?_ _
  rw [HQ.out]
  refine NoPanic.normal ?_
  go_wp2_with fail
  refine wp_region_noPanic ?_
  refine name_ops ?_
  intro O2 QQ2 HO2 HQ2
  refine wp_region_held_drew (S := fun W => Below w4.heap.size w4 W) (by kernel_rfl) (hS.trans (Below.refl _ _).drew) (fun hS => ?_)
  rw [show O2.size = 25 by rw [HO2.out]; rfl]
  refine wpAnyH_take (i := 0) (v := .agg #[.int .u8 k0, .int .i64 n0, .string s0]) (by rw [HO2.out]; simp only [List.getElem?_toArray, List.getElem?_cons_succ, List.getElem?_cons_zero]; rfl) (by rw [HO2.out]; kernel_rfl) (by rw [HO2.out]; kernel_rfl) (by rw [HO2.out]; kernel_rfl) (by rw [HQ2.out]; exact fun _ _ _ h => h) (Or.inl ⟨by first | rfl | (rw [HO2.out]; kernel_rfl), ?_⟩) hS ?_
  · intro w' hSw
    obtain ⟨⟨q1, q2, q3⟩, ⟨q4, q5, q6⟩⟩ := SM.out _ hSw
    go_simp
  try simp only [Act.put, List.setIfInBounds_toArray, List.set_cons_zero, List.set_cons_succ]
  refine wpAnyH_take (i := 2) (v := .agg #[.int .u8 k1, .int .i64 n1, .string s1]) (by rw [HO2.out]; simp only [List.getElem?_toArray, List.getElem?_cons_succ, List.getElem?_cons_zero]; rfl) (by rw [HO2.out]; kernel_rfl) (by rw [HO2.out]; kernel_rfl) (by rw [HO2.out]; kernel_rfl) (by rw [HQ2.out]; exact fun _ _ _ h => h) (Or.inl ⟨by first | rfl | (rw [HO2.out]; kernel_rfl), ?_⟩) hS ?_
  · intro w' hSw
    obtain ⟨⟨q1, q2, q3⟩, ⟨q4, q5, q6⟩⟩ := SM.out _ hSw
    go_simp
  try simp only [Act.put, List.setIfInBounds_toArray, List.set_cons_zero, List.set_cons_succ]
  refine wpAnyH_take (i := 5) (v := .bool false) (by rw [HO2.out]; simp only [List.getElem?_toArray, List.getElem?_cons_succ, List.getElem?_cons_zero]; rfl) (by rw [HO2.out]; kernel_rfl) (by rw [HO2.out]; kernel_rfl) (by rw [HO2.out]; kernel_rfl) (by rw [HQ2.out]; exact fun _ _ _ h => h) (Or.inl ⟨by first | rfl | (rw [HO2.out]; kernel_rfl), ?_⟩) hS ?_
  · intro w' hSw
    go_simp
  try simp only [Act.put, List.setIfInBounds_toArray, List.set_cons_zero, List.set_cons_succ]
  refine wpAnyH_one (i := 1) (x := 70) (R := fun v _ => v = .string tx0) (by rw [HO2.out]; simp only [List.getElem?_toArray, List.getElem?_cons_succ, List.getElem?_cons_zero]; rfl) (by rw [HO2.out]; kernel_rfl) hS ?_ ?_
  · intro K hK
    simp only [Act.put, List.setIfInBounds_toArray, List.set_cons_zero, List.set_cons_succ] at hK
    unfold Steps
    rw [if_pos (by rw [HO2.out]; kernel_rfl)]
    go_simp
    refine (T0 _ (HVW.out _ hS)).mono ?_
    rintro e w9 ⟨rfl, hb9⟩
    exact hK _ _ rfl hb9
  rintro v9 w9 hv9 hb9 hS9
  obtain rfl := hv9
  clear hb9
  replace hS := hS9
  clear hS9
  try simp only [Act.put, List.setIfInBounds_toArray, List.set_cons_zero, List.set_cons_succ]
  refine wpAnyH_one (i := 3) (x := 72) (R := fun v _ => v = .string tx1) (by rw [HO2.out]; simp only [List.getElem?_toArray, List.getElem?_cons_succ, List.getElem?_cons_zero]; rfl) (by rw [HO2.out]; kernel_rfl) hS ?_ ?_
  · intro K hK
    simp only [Act.put, List.setIfInBounds_toArray, List.set_cons_zero, List.set_cons_succ] at hK
    unfold Steps
    rw [if_pos (by rw [HO2.out]; kernel_rfl)]
    go_simp
    refine (T1 _ (HVW.out _ hS)).mono ?_
    rintro e w9 ⟨rfl, hb9⟩
    exact hK _ _ rfl hb9
  rintro v9 w9 hv9 hb9 hS9
  obtain rfl := hv9
  clear hb9
  replace hS := hS9
  clear hS9
  try simp only [Act.put, List.setIfInBounds_toArray, List.set_cons_zero, List.set_cons_succ]
  refine wpAnyH_take (i := 4) (v := .bool false) (by rw [HO2.out]; simp only [List.getElem?_toArray, List.getElem?_cons_succ, List.getElem?_cons_zero]; rfl) (by rw [HO2.out]; kernel_rfl) (by rw [HO2.out]; kernel_rfl) (by rw [HO2.out]; kernel_rfl) (by rw [HQ2.out]; exact fun _ _ _ h => h) (Or.inl ⟨by first | rfl | (rw [HO2.out]; kernel_rfl), ?_⟩) hS ?_
  · intro w' hSw
    go_simp
  try simp only [Act.put, List.setIfInBounds_toArray, List.set_cons_zero, List.set_cons_succ]
  refine wpAnyH_take (i := 6) (v := .bool true) (by rw [HO2.out]; simp only [List.getElem?_toArray, List.getElem?_cons_succ, List.getElem?_cons_zero]; rfl) (by rw [HO2.out]; kernel_rfl) (by rw [HO2.out]; kernel_rfl) (by rw [HO2.out]; kernel_rfl) (by rw [HQ2.out]; exact fun _ _ _ h => h) (Or.inl ⟨by first | rfl | (rw [HO2.out]; kernel_rfl), ?_⟩) hS ?_
  · intro w' hSw
    go_simp
  try simp only [Act.put, List.setIfInBounds_toArray, List.set_cons_zero, List.set_cons_succ]
  refine wpAnyH_take (i := 7) (v := .bool true) (by rw [HO2.out]; simp only [List.getElem?_toArray, List.getElem?_cons_succ, List.getElem?_cons_zero]; rfl) (by rw [HO2.out]; kernel_rfl) (by rw [HO2.out]; kernel_rfl) (by rw [HO2.out]; kernel_rfl) (by rw [HQ2.out]; exact fun _ _ _ h => h) (Or.inl ⟨by first | rfl | (rw [HO2.out]; kernel_rfl), ?_⟩) hS ?_
  · intro w' hSw
    go_simp
  try simp only [Act.put, List.setIfInBounds_toArray, List.set_cons_zero, List.set_cons_succ]
  refine wpAnyH_take (i := 8) (v := .slice (some ⟨g3, 0, none⟩) xn c3) (by rw [HO2.out]; simp only [List.getElem?_toArray, List.getElem?_cons_succ, List.getElem?_cons_zero]; rfl) (by rw [HO2.out]; kernel_rfl) (by rw [HO2.out]; kernel_rfl) (by rw [HO2.out]; kernel_rfl) (by rw [HQ2.out]; exact fun _ _ _ h => h) (Or.inl ⟨by first | rfl | (rw [HO2.out]; kernel_rfl), ?_⟩) hS ?_
  · intro w' hSw
    go_simp
  try simp only [Act.put, List.setIfInBounds_toArray, List.set_cons_zero, List.set_cons_succ]
  refine wpAnyH_take (i := 9) (v := .string sx) (by rw [HO2.out]; simp only [List.getElem?_toArray, List.getElem?_cons_succ, List.getElem?_cons_zero]; rfl) (by rw [HO2.out]; kernel_rfl) (by rw [HO2.out]; kernel_rfl) (by rw [HO2.out]; kernel_rfl) (by rw [HQ2.out]; exact fun _ _ _ h => h) (Or.inl ⟨by first | rfl | (rw [HO2.out]; kernel_rfl), ?_⟩) hS ?_
  · intro w' hSw
    have q := V3.out _ hSw
    go_simp
  try simp only [Act.put, List.setIfInBounds_toArray, List.set_cons_zero, List.set_cons_succ]
  refine wpAnyH_take (i := 10) (v := .slice (some ⟨g4, 0, none⟩) yn c4) (by rw [HO2.out]; simp only [List.getElem?_toArray, List.getElem?_cons_succ, List.getElem?_cons_zero]; rfl) (by rw [HO2.out]; kernel_rfl) (by rw [HO2.out]; kernel_rfl) (by rw [HO2.out]; kernel_rfl) (by rw [HQ2.out]; exact fun _ _ _ h => h) (Or.inl ⟨by first | rfl | (rw [HO2.out]; kernel_rfl), ?_⟩) hS ?_
  · intro w' hSw
    go_simp
  try simp only [Act.put, List.setIfInBounds_toArray, List.set_cons_zero, List.set_cons_succ]
  refine wpAnyH_take (i := 11) (v := .string sy) (by rw [HO2.out]; simp only [List.getElem?_toArray, List.getElem?_cons_succ, List.getElem?_cons_zero]; rfl) (by rw [HO2.out]; kernel_rfl) (by rw [HO2.out]; kernel_rfl) (by rw [HO2.out]; kernel_rfl) (by rw [HQ2.out]; exact fun _ _ _ h => h) (Or.inl ⟨by first | rfl | (rw [HO2.out]; kernel_rfl), ?_⟩) hS ?_
  · intro w' hSw
    have q := V4.out _ hSw
    go_simp
  try simp only [Act.put, List.setIfInBounds_toArray, List.set_cons_zero, List.set_cons_succ]
  refine wpAnyH_take (i := 12) (v := .bool false) (by rw [HO2.out]; simp only [List.getElem?_toArray, List.getElem?_cons_succ, List.getElem?_cons_zero]; rfl) (by rw [HO2.out]; kernel_rfl) (by rw [HO2.out]; kernel_rfl) (by rw [HO2.out]; kernel_rfl) (by rw [HQ2.out]; exact fun _ _ _ h => h) (Or.inl ⟨by first | rfl | (rw [HO2.out]; kernel_rfl), ?_⟩) hS ?_
  · intro w' hSw
    go_simp
  try simp only [Act.put, List.setIfInBounds_toArray, List.set_cons_zero, List.set_cons_succ]
  refine wpAnyH_take (i := 13) (v := .bool false) (by rw [HO2.out]; simp only [List.getElem?_toArray, List.getElem?_cons_succ, List.getElem?_cons_zero]; rfl) (by rw [HO2.out]; kernel_rfl) (by rw [HO2.out]; kernel_rfl) (by rw [HO2.out]; kernel_rfl) (by rw [HQ2.out]; exact fun _ _ _ h => h) (Or.inl ⟨by first | rfl | (rw [HO2.out]; kernel_rfl), ?_⟩) hS ?_
  · intro w' hSw
    go_simp
  try simp only [Act.put, List.setIfInBounds_toArray, List.set_cons_zero, List.set_cons_succ]
  refine wpAnyH_take (i := 14) (v := .bool true) (by rw [HO2.out]; simp only [List.getElem?_toArray, List.getElem?_cons_succ, List.getElem?_cons_zero]; rfl) (by rw [HO2.out]; kernel_rfl) (by rw [HO2.out]; kernel_rfl) (by rw [HO2.out]; kernel_rfl) (by rw [HQ2.out]; exact fun _ _ _ h => h) (Or.inl ⟨by first | rfl | (rw [HO2.out]; kernel_rfl), ?_⟩) hS ?_
  · intro w' hSw
    go_simp
  try simp only [Act.put, List.setIfInBounds_toArray, List.set_cons_zero, List.set_cons_succ]
  refine wpAnyH_take (i := 15) (v := .bool true) (by rw [HO2.out]; simp only [List.getElem?_toArray, List.getElem?_cons_succ, List.getElem?_cons_zero]; rfl) (by rw [HO2.out]; kernel_rfl) (by rw [HO2.out]; kernel_rfl) (by rw [HO2.out]; kernel_rfl) (by rw [HQ2.out]; exact fun _ _ _ h => h) (Or.inl ⟨by first | rfl | (rw [HO2.out]; kernel_rfl), ?_⟩) hS ?_
  · intro w' hSw
    go_simp
  try simp only [Act.put, List.setIfInBounds_toArray, List.set_cons_zero, List.set_cons_succ]
  refine wpAnyH_take (i := 16) (v := .bool true) (by rw [HO2.out]; simp only [List.getElem?_toArray, List.getElem?_cons_succ, List.getElem?_cons_zero]; rfl) (by rw [HO2.out]; kernel_rfl) (by rw [HO2.out]; kernel_rfl) (by rw [HO2.out]; kernel_rfl) (by rw [HQ2.out]; exact fun _ _ _ h => h) (Or.inl ⟨by first | rfl | (rw [HO2.out]; kernel_rfl), ?_⟩) hS ?_
  · intro w' hSw
    go_simp
  try simp only [Act.put, List.setIfInBounds_toArray, List.set_cons_zero, List.set_cons_succ]
  refine wpAnyH_take (i := 17) (v := .bool false) (by rw [HO2.out]; simp only [List.getElem?_toArray, List.getElem?_cons_succ, List.getElem?_cons_zero]; rfl) (by rw [HO2.out]; kernel_rfl) (by rw [HO2.out]; kernel_rfl) (by rw [HO2.out]; kernel_rfl) (by rw [HQ2.out]; exact fun _ _ _ h => h) (Or.inl ⟨by first | rfl | (rw [HO2.out]; kernel_rfl), ?_⟩) hS ?_
  · intro w' hSw
    go_simp
  try simp only [Act.put, List.setIfInBounds_toArray, List.set_cons_zero, List.set_cons_succ]
  refine wpAnyH_take (i := 18) (v := .bool false) (by rw [HO2.out]; simp only [List.getElem?_toArray, List.getElem?_cons_succ, List.getElem?_cons_zero]; rfl) (by rw [HO2.out]; kernel_rfl) (by rw [HO2.out]; kernel_rfl) (by rw [HO2.out]; kernel_rfl) (by rw [HQ2.out]; exact fun _ _ _ h => h) (Or.inl ⟨by first | rfl | (rw [HO2.out]; kernel_rfl), ?_⟩) hS ?_
  · intro w' hSw
    go_simp
  try simp only [Act.put, List.setIfInBounds_toArray, List.set_cons_zero, List.set_cons_succ]
  refine wpAnyH_take (i := 19) (v := .bool true) (by rw [HO2.out]; simp only [List.getElem?_toArray, List.getElem?_cons_succ, List.getElem?_cons_zero]; rfl) (by rw [HO2.out]; kernel_rfl) (by rw [HO2.out]; kernel_rfl) (by rw [HO2.out]; kernel_rfl) (by rw [HQ2.out]; exact fun _ _ _ h => h) (Or.inl ⟨by first | rfl | (rw [HO2.out]; kernel_rfl), ?_⟩) hS ?_
  · intro w' hSw
    go_simp
  try simp only [Act.put, List.setIfInBounds_toArray, List.set_cons_zero, List.set_cons_succ]
  refine wpAnyH_take (i := 20) (v := .bool true) (by rw [HO2.out]; simp only [List.getElem?_toArray, List.getElem?_cons_succ, List.getElem?_cons_zero]; rfl) (by rw [HO2.out]; kernel_rfl) (by rw [HO2.out]; kernel_rfl) (by rw [HO2.out]; kernel_rfl) (by rw [HQ2.out]; exact fun _ _ _ h => h) (Or.inl ⟨by first | rfl | (rw [HO2.out]; kernel_rfl), ?_⟩) hS ?_
  · intro w' hSw
    go_simp
  try simp only [Act.put, List.setIfInBounds_toArray, List.set_cons_zero, List.set_cons_succ]
  refine wpAnyH_take (i := 21) (v := .bool true) (by rw [HO2.out]; simp only [List.getElem?_toArray, List.getElem?_cons_succ, List.getElem?_cons_zero]; rfl) (by rw [HO2.out]; kernel_rfl) (by rw [HO2.out]; kernel_rfl) (by rw [HO2.out]; kernel_rfl) (by rw [HQ2.out]; exact fun _ _ _ h => h) (Or.inl ⟨by first | rfl | (rw [HO2.out]; kernel_rfl), ?_⟩) hS ?_
  · intro w' hSw
    go_simp
  try simp only [Act.put, List.setIfInBounds_toArray, List.set_cons_zero, List.set_cons_succ]
  refine wpAnyH_one (i := 22) (x := 91) (R := fun v _ => v = .bool true) (by rw [HO2.out]; simp only [List.getElem?_toArray, List.getElem?_cons_succ, List.getElem?_cons_zero]; rfl) (by rw [HO2.out]; kernel_rfl) hS ?_ ?_
  · intro K hK
    simp only [Act.put, List.setIfInBounds_toArray, List.set_cons_zero, List.set_cons_succ] at hK
    unfold Steps
    rw [if_pos (by rw [HO2.out]; kernel_rfl)]
    go_simp
    refine (HA _ (HVW.out _ hS)).mono ?_
    rintro e w9 ⟨rfl, hb9⟩
    exact hK _ _ rfl hb9
  rintro v9 w9 hv9 hb9 hS9
  obtain rfl := hv9
  clear hb9
  replace hS := hS9
  clear hS9
  try simp only [Act.put, List.setIfInBounds_toArray, List.set_cons_zero, List.set_cons_succ]
  refine wpAnyH_take (i := 23) (v := .bool true) (by rw [HO2.out]; simp only [List.getElem?_toArray, List.getElem?_cons_succ, List.getElem?_cons_zero]; rfl) (by rw [HO2.out]; kernel_rfl) (by rw [HO2.out]; kernel_rfl) (by rw [HO2.out]; kernel_rfl) (by rw [HQ2.out]; exact fun _ _ _ h => h) (Or.inl ⟨by first | rfl | (rw [HO2.out]; kernel_rfl), ?_⟩) hS ?_
  · intro w' hSw
    go_simp
  try simp only [Act.put, List.setIfInBounds_toArray, List.set_cons_zero, List.set_cons_succ]
  refine wpAnyH_take (i := 24) (v := .bool true) (by rw [HO2.out]; simp only [List.getElem?_toArray, List.getElem?_cons_succ, List.getElem?_cons_zero]; rfl) (by rw [HO2.out]; kernel_rfl) (by rw [HO2.out]; kernel_rfl) (by rw [HO2.out]; kernel_rfl) (by rw [HQ2.out]; exact fun _ _ _ h => h) (Or.inl ⟨by first | rfl | (rw [HO2.out]; kernel_rfl), ?_⟩) hS ?_
  · intro w' hSw
    go_simp
  try simp only [Act.put, List.setIfInBounds_toArray, List.set_cons_zero, List.set_cons_succ]
  refine wpAnyH_done (by rw [HO2.out]; kernel_rfl) ?_ _
  rw [HQ2.out]
  refine NoPanic.normal ?_
  go_wp2
  go_ret
  exact ⟨rfl, HBW.out _ hS⟩
set_option maxHeartbeats 16000000 in
theorem m_nb (k0 n0 n1 : Int) (s0 s1 : ByteArray) (w : World) (hV : Vars w) (pl0 pl1 : List Int) (tx0 tx1 : ByteArray) (xn yn : Nat) (hd : n0 ≠ n1) (h0 : s0.size ≤ 200) (h0' : s1.size ≤ 200) (C0 : ∀ W, Vars W → Calls Tryd.prog 14 #[.agg #[.int .u8 k0, .int .i64 n0, .string s0]] W fun e w' => e = .returned (.int .i64 0) ∧ Below W.heap.size W w') (P0 : ∀ W, Vars W → Calls Tryd.prog 24 #[.agg #[.int .u8 k0, .int .i64 n0, .string s0]] W fun e w' => ∃ v, e = .returned (.tuple #[v, .int .i64 0]) ∧ Own w' W.heap.size v pl0 ∧ Below W.heap.size W w') (T0 : ∀ W, Vars W → Calls Tryd.prog 16 #[.agg #[.int .u8 k0, .int .i64 n0, .string s0]] W fun e w' => e = .returned (.string tx0) ∧ Below W.heap.size W w') (C1 : ∀ W, Vars W → Calls Tryd.prog 14 #[.agg #[.int .u8 k0, .int .i64 n1, .string s1]] W fun e w' => e = .returned (.int .i64 0) ∧ Below W.heap.size W w') (P1 : ∀ W, Vars W → Calls Tryd.prog 24 #[.agg #[.int .u8 k0, .int .i64 n1, .string s1]] W fun e w' => ∃ v, e = .returned (.tuple #[v, .int .i64 0]) ∧ Own w' W.heap.size v pl1 ∧ Below W.heap.size W w') (T1 : ∀ W, Vars W → Calls Tryd.prog 16 #[.agg #[.int .u8 k0, .int .i64 n1, .string s1]] W fun e w' => e = .returned (.string tx1) ∧ Below W.heap.size W w') (L0 : Hid (pl0.length = xn)) (A0 : Hid (AllB pl0)) (hx1 : 1 ≤ xn) (hx2 : xn ≤ 30) (L1 : Hid (pl1.length = yn)) (A1 : Hid (AllB pl1)) (hy1 : 1 ≤ yn) (hy2 : yn ≤ 30) (hle : yn < xn) (HT : (tx0.toList == tx1.toList) = false) (HS : ((strOfNums pl0).toList == (strOfNums pl1).toList) = false) : Calls Tryd.prog 8 #[.agg #[.int .u8 k0, .int .i64 n0, .string s0], .agg #[.int .u8 k0, .int .i64 n1, .string s1]] w fun e w' => e = .returned (.bool true) ∧ Below w.heap.size w w' := by
  have HA := awake_any
  have h3 : decide ((200 : Int) < (s0.size : Int)) = false := by simp; omega
  have h4 : decide ((200 : Int) < (s1.size : Int)) = false := by simp; omega
  obtain ⟨W0, hW0⟩ : ∃ W0, W0 = (w.alloc (.cells #[.int .u8 k0, .int .i64 n0, .string s0] 23)).alloc (.cells #[.int .u8 k0, .int .i64 n1, .string s1] 23) := ⟨_, rfl⟩
  have HB0 : Hid (Below w.heap.size w W0) := by rw [hW0]; exact two_new _ _ _
  have SL : Hid (∀ W, Below W0.heap.size W0 W → (W.cell? ⟨w.heap.size, 0, none⟩ = some (.int .u8 k0) ∧ W.cell? ⟨w.heap.size, 1, none⟩ = some (.int .i64 n0) ∧ W.cell? ⟨w.heap.size, 2, none⟩ = some (.string s0)) ∧ (W.cell? ⟨w.heap.size + 1, 0, none⟩ = some (.int .u8 k0) ∧ W.cell? ⟨w.heap.size + 1, 1, none⟩ = some (.int .i64 n1) ∧ W.cell? ⟨w.heap.size + 1, 2, none⟩ = some (.string s1))) := fun W hW => by
    rw [hW0] at hW
    have b1 := ((Bk.new w k0 n0 s0).below (box1 _ _)).below hW
    have b2 := (Bk.new (w.alloc (.cells #[.int .u8 k0, .int .i64 n0, .string s0] 23)) k0 n1 s1).below hW
    have c2 := b2.cells
    simp at c2
    exact ⟨b1.cells, c2⟩
  have HV : Hid (∀ W, Below W0.heap.size W0 W → Vars W) := fun W hW => (hV.below HB0.out).below hW
  go_enter Tryd.func8, Tryd.ntmps8
  go_wp2_with (first | (go_at_call 14; rw [← hW0]; refine (C0 _ (HV.out _ (Below.refl _ _))).mono ?_; rintro e w1 ⟨rfl, hb1⟩; clear C0 hW0; obtain ⟨⟨x1, x2, x3⟩, ⟨x4, x5, x6⟩⟩ := SL.out _ hb1) | (go_at_call 14; refine (C1 _ (HV.out _ hb1)).mono ?_; rintro e w2 ⟨rfl, hb2⟩; clear C1; have H2 := bt hb1 hb2; obtain ⟨⟨y1, y2, y3⟩, ⟨y4, y5, y6⟩⟩ := SL.out _ H2) | (go_at_call 24; refine (P0 _ (HV.out _ H2)).mono ?_; rintro e w3 ⟨v3, rfl, o3, hb3⟩; clear P0; obtain ⟨g3, c3, rfl, hg3, _, _⟩ := o3.shape xn L0.out hx1; have H3 := bt H2 hb3; obtain ⟨⟨z1, z2, z3⟩, ⟨z4, z5, z6⟩⟩ := SL.out _ H3) | (go_at_call 24; refine (P1 _ (HV.out _ H3)).mono ?_; rintro e w4 ⟨v4, rfl, o4, hb4⟩; clear P1; obtain ⟨g4, c4, rfl, hg4, _, _⟩ := o4.shape yn L1.out hy1; have H4 := bt H3 hb4; obtain ⟨⟨u1, u2, u3⟩, ⟨u4, u5, u6⟩⟩ := SL.out _ H4))
  have V3 : Hid (∀ W, Below w4.heap.size w4 W → (convert 39 9 (.slice (some ⟨g3, 0, none⟩) xn c3)).run Tryd.prog W = .ok (.string (strOfNums pl0)) W) := fun W hW => conv_own ((o3.below hb4).below hW) A0.out
  have V4 : Hid (∀ W, Below w4.heap.size w4 W → (convert 39 9 (.slice (some ⟨g4, 0, none⟩) yn c4)).run Tryd.prog W = .ok (.string (strOfNums pl1)) W) := fun W hW => conv_own (o4.below hW) A1.out
  have SM : Hid (∀ W, Below w4.heap.size w4 W → (W.cell? ⟨w.heap.size, 0, none⟩ = some (.int .u8 k0) ∧ W.cell? ⟨w.heap.size, 1, none⟩ = some (.int .i64 n0) ∧ W.cell? ⟨w.heap.size, 2, none⟩ = some (.string s0)) ∧ (W.cell? ⟨w.heap.size + 1, 0, none⟩ = some (.int .u8 k0) ∧ W.cell? ⟨w.heap.size + 1, 1, none⟩ = some (.int .i64 n1) ∧ W.cell? ⟨w.heap.size + 1, 2, none⟩ = some (.string s1))) := fun W hW => SL.out _ (bt H4 hW)
  have HVW : Hid (∀ W, Below w4.heap.size w4 W → Vars W) := fun W hW => HV.out _ (bt H4 hW)
  have HBW : Hid (∀ W, Below w4.heap.size w4 W → Below w.heap.size w W) := fun W hW => bt (bt HB0.out H4) hW
  have m1 : (1 : Int) ≤ xn := by omega
  have m2 : (xn : Int) ≤ 30 := by omega
  have m3 : (xn : Int) ≤ c3 := by omega
  have m4 : (yn : Int) ≤ c4 := by omega
  have m7 : (1 : Int) ≤ yn := by omega
  have m8 : (yn : Int) ≤ 30 := by omega
  have m6 : decide ((xn : Int) ≤ yn) = false := by simp; omega
  have m10 : (yn : Int) < xn := by omega
  clear x1 x2 x3 x4 x5 x6 y1 y2 y3 y4 y5 y6 z1 z2 z3 z4 z5 z6 u1 u2 u3 u4 u5 u6 hb1 hb2 hb3 hb4 H2 H3 H4 o3 o4 SL HV HB0 hV
  generalize hsx : strOfNums pl0 = sx at *
  generalize hsy : strOfNums pl1 = sy at *
  clear hsy
  clear hsx
  refine wp_region_noPanic ?_
  refine name_ops ?_
  intro O QQ HO HQ
  refine wp_region_held_drew (S := fun W => Below w4.heap.size w4 W) (by kernel_rfl) (Below.refl _ _).drew (fun hS => ?_)
  rw [show O.size = 19 by rw [HO.out]; rfl]
  refine wpAnyH_take (i := 0) (v := .slice (some ⟨g3, 0, none⟩) xn c3) (by rw [HO.out]; simp only [List.getElem?_toArray, List.getElem?_cons_succ, List.getElem?_cons_zero]; rfl) (by rw [HO.out]; kernel_rfl) (by rw [HO.out]; kernel_rfl) (by rw [HO.out]; kernel_rfl) (by rw [HQ.out]; exact fun _ _ _ h => h) (Or.inl ⟨by first | rfl | (rw [HO.out]; kernel_rfl), ?_⟩) hS ?_
  · intro w' hSw
    go_simp
  try simp only [Act.put, List.setIfInBounds_toArray, List.set_cons_zero, List.set_cons_succ]
  refine wpAnyH_take (i := 1) (v := .int .i64 xn) (by rw [HO.out]; simp only [List.getElem?_toArray, List.getElem?_cons_succ, List.getElem?_cons_zero]; rfl) (by rw [HO.out]; kernel_rfl) (by rw [HO.out]; kernel_rfl) (by rw [HO.out]; kernel_rfl) (by rw [HQ.out]; exact fun _ _ _ h => h) (Or.inl ⟨by first | rfl | (rw [HO.out]; kernel_rfl), ?_⟩) hS ?_
  · intro w' hSw
    go_simp
  try simp only [Act.put, List.setIfInBounds_toArray, List.set_cons_zero, List.set_cons_succ]
  refine wpAnyH_take (i := 2) (v := .slice (some ⟨g4, 0, none⟩) yn c4) (by rw [HO.out]; simp only [List.getElem?_toArray, List.getElem?_cons_succ, List.getElem?_cons_zero]; rfl) (by rw [HO.out]; kernel_rfl) (by rw [HO.out]; kernel_rfl) (by rw [HO.out]; kernel_rfl) (by rw [HQ.out]; exact fun _ _ _ h => h) (Or.inl ⟨by first | rfl | (rw [HO.out]; kernel_rfl), ?_⟩) hS ?_
  · intro w' hSw
    go_simp
  try simp only [Act.put, List.setIfInBounds_toArray, List.set_cons_zero, List.set_cons_succ]
  refine wpAnyH_take (i := 3) (v := .int .i64 yn) (by rw [HO.out]; simp only [List.getElem?_toArray, List.getElem?_cons_succ, List.getElem?_cons_zero]; rfl) (by rw [HO.out]; kernel_rfl) (by rw [HO.out]; kernel_rfl) (by rw [HO.out]; kernel_rfl) (by rw [HQ.out]; exact fun _ _ _ h => h) (Or.inl ⟨by first | rfl | (rw [HO.out]; kernel_rfl), ?_⟩) hS ?_
  · intro w' hSw
    go_simp
  try simp only [Act.put, List.setIfInBounds_toArray, List.set_cons_zero, List.set_cons_succ]
  refine wpAnyH_take (i := 4) (v := .bool false) (by rw [HO.out]; simp only [List.getElem?_toArray, List.getElem?_cons_succ, List.getElem?_cons_zero]; rfl) (by rw [HO.out]; kernel_rfl) (by rw [HO.out]; kernel_rfl) (by rw [HO.out]; kernel_rfl) (by rw [HQ.out]; exact fun _ _ _ h => h) (Or.inl ⟨by first | rfl | (rw [HO.out]; kernel_rfl), ?_⟩) hS ?_
  · intro w' hSw
    go_simp
  try simp only [Act.put, List.setIfInBounds_toArray, List.set_cons_zero, List.set_cons_succ]
  refine wpAnyH_take (i := 5) (v := .bool false) (by rw [HO.out]; simp only [List.getElem?_toArray, List.getElem?_cons_succ, List.getElem?_cons_zero]; rfl) (by rw [HO.out]; kernel_rfl) (by rw [HO.out]; kernel_rfl) (by rw [HO.out]; kernel_rfl) (by rw [HQ.out]; exact fun _ _ _ h => h) (Or.inl ⟨by first | rfl | (rw [HO.out]; kernel_rfl), ?_⟩) hS ?_
  · intro w' hSw
    go_simp
  try simp only [Act.put, List.setIfInBounds_toArray, List.set_cons_zero, List.set_cons_succ]
  refine wpAnyH_take (i := 6) (v := undef) (by rw [HO.out]; simp only [List.getElem?_toArray, List.getElem?_cons_succ, List.getElem?_cons_zero]; rfl) (by rw [HO.out]; kernel_rfl) (by rw [HO.out]; kernel_rfl) (by rw [HO.out]; kernel_rfl) (by rw [HQ.out]; exact fun _ _ _ h => h) (Or.inr ⟨by first | rfl | (rw [HO.out]; kernel_rfl), rfl⟩) hS ?_
  try simp only [Act.put, List.setIfInBounds_toArray, List.set_cons_zero, List.set_cons_succ]
  refine wpAnyH_take (i := 7) (v := undef) (by rw [HO.out]; simp only [List.getElem?_toArray, List.getElem?_cons_succ, List.getElem?_cons_zero]; rfl) (by rw [HO.out]; kernel_rfl) (by rw [HO.out]; kernel_rfl) (by rw [HO.out]; kernel_rfl) (by rw [HQ.out]; exact fun _ _ _ h => h) (Or.inr ⟨by first | rfl | (rw [HO.out]; kernel_rfl), rfl⟩) hS ?_
  try simp only [Act.put, List.setIfInBounds_toArray, List.set_cons_zero, List.set_cons_succ]
  refine wpAnyH_take (i := 8) (v := undef) (by rw [HO.out]; simp only [List.getElem?_toArray, List.getElem?_cons_succ, List.getElem?_cons_zero]; rfl) (by rw [HO.out]; kernel_rfl) (by rw [HO.out]; kernel_rfl) (by rw [HO.out]; kernel_rfl) (by rw [HQ.out]; exact fun _ _ _ h => h) (Or.inr ⟨by first | rfl | (rw [HO.out]; kernel_rfl), rfl⟩) hS ?_
  try simp only [Act.put, List.setIfInBounds_toArray, List.set_cons_zero, List.set_cons_succ]
  refine wpAnyH_take (i := 9) (v := undef) (by rw [HO.out]; simp only [List.getElem?_toArray, List.getElem?_cons_succ, List.getElem?_cons_zero]; rfl) (by rw [HO.out]; kernel_rfl) (by rw [HO.out]; kernel_rfl) (by rw [HO.out]; kernel_rfl) (by rw [HQ.out]; exact fun _ _ _ h => h) (Or.inr ⟨by first | rfl | (rw [HO.out]; kernel_rfl), rfl⟩) hS ?_
  try simp only [Act.put, List.setIfInBounds_toArray, List.set_cons_zero, List.set_cons_succ]
  refine wpAnyH_take (i := 10) (v := undef) (by rw [HO.out]; simp only [List.getElem?_toArray, List.getElem?_cons_succ, List.getElem?_cons_zero]; rfl) (by rw [HO.out]; kernel_rfl) (by rw [HO.out]; kernel_rfl) (by rw [HO.out]; kernel_rfl) (by rw [HQ.out]; exact fun _ _ _ h => h) (Or.inr ⟨by first | rfl | (rw [HO.out]; kernel_rfl), rfl⟩) hS ?_
  try simp only [Act.put, List.setIfInBounds_toArray, List.set_cons_zero, List.set_cons_succ]
  refine wpAnyH_take (i := 11) (v := undef) (by rw [HO.out]; simp only [List.getElem?_toArray, List.getElem?_cons_succ, List.getElem?_cons_zero]; rfl) (by rw [HO.out]; kernel_rfl) (by rw [HO.out]; kernel_rfl) (by rw [HO.out]; kernel_rfl) (by rw [HQ.out]; exact fun _ _ _ h => h) (Or.inr ⟨by first | rfl | (rw [HO.out]; kernel_rfl), rfl⟩) hS ?_
  try simp only [Act.put, List.setIfInBounds_toArray, List.set_cons_zero, List.set_cons_succ]
  refine wpAnyH_take (i := 12) (v := undef) (by rw [HO.out]; simp only [List.getElem?_toArray, List.getElem?_cons_succ, List.getElem?_cons_zero]; rfl) (by rw [HO.out]; kernel_rfl) (by rw [HO.out]; kernel_rfl) (by rw [HO.out]; kernel_rfl) (by rw [HQ.out]; exact fun _ _ _ h => h) (Or.inr ⟨by first | rfl | (rw [HO.out]; kernel_rfl), rfl⟩) hS ?_
  try simp only [Act.put, List.setIfInBounds_toArray, List.set_cons_zero, List.set_cons_succ]
  refine wpAnyH_take (i := 13) (v := undef) (by rw [HO.out]; simp only [List.getElem?_toArray, List.getElem?_cons_succ, List.getElem?_cons_zero]; rfl) (by rw [HO.out]; kernel_rfl) (by rw [HO.out]; kernel_rfl) (by rw [HO.out]; kernel_rfl) (by rw [HQ.out]; exact fun _ _ _ h => h) (Or.inr ⟨by first | rfl | (rw [HO.out]; kernel_rfl), rfl⟩) hS ?_
  try simp only [Act.put, List.setIfInBounds_toArray, List.set_cons_zero, List.set_cons_succ]
  refine wpAnyH_take (i := 14) (v := undef) (by rw [HO.out]; simp only [List.getElem?_toArray, List.getElem?_cons_succ, List.getElem?_cons_zero]; rfl) (by rw [HO.out]; kernel_rfl) (by rw [HO.out]; kernel_rfl) (by rw [HO.out]; kernel_rfl) (by rw [HQ.out]; exact fun _ _ _ h => h) (Or.inr ⟨by first | rfl | (rw [HO.out]; kernel_rfl), rfl⟩) hS ?_
  try simp only [Act.put, List.setIfInBounds_toArray, List.set_cons_zero, List.set_cons_succ]
  refine wpAnyH_take (i := 15) (v := undef) (by rw [HO.out]; simp only [List.getElem?_toArray, List.getElem?_cons_succ, List.getElem?_cons_zero]; rfl) (by rw [HO.out]; kernel_rfl) (by rw [HO.out]; kernel_rfl) (by rw [HO.out]; kernel_rfl) (by rw [HQ.out]; exact fun _ _ _ h => h) (Or.inr ⟨by first | rfl | (rw [HO.out]; kernel_rfl), rfl⟩) hS ?_
  try simp only [Act.put, List.setIfInBounds_toArray, List.set_cons_zero, List.set_cons_succ]
  refine wpAnyH_take (i := 16) (v := undef) (by rw [HO.out]; simp only [List.getElem?_toArray, List.getElem?_cons_succ, List.getElem?_cons_zero]; rfl) (by rw [HO.out]; kernel_rfl) (by rw [HO.out]; kernel_rfl) (by rw [HO.out]; kernel_rfl) (by rw [HQ.out]; exact fun _ _ _ h => h) (Or.inr ⟨by first | rfl | (rw [HO.out]; kernel_rfl), rfl⟩) hS ?_
  try simp only [Act.put, List.setIfInBounds_toArray, List.set_cons_zero, List.set_cons_succ]
  refine wpAnyH_take (i := 17) (v := .bool false) (by rw [HO.out]; simp only [List.getElem?_toArray, List.getElem?_cons_succ, List.getElem?_cons_zero]; rfl) (by rw [HO.out]; kernel_rfl) (by rw [HO.out]; kernel_rfl) (by rw [HO.out]; kernel_rfl) (by rw [HQ.out]; exact fun _ _ _ h => h) (Or.inl ⟨by first | rfl | (rw [HO.out]; kernel_rfl), ?_⟩) hS ?_
  · intro w' hSw
    go_simp
  try simp only [Act.put, List.setIfInBounds_toArray, List.set_cons_zero, List.set_cons_succ]
  refine wpAnyH_take (i := 18) (v := .bool false) (by rw [HO.out]; simp only [List.getElem?_toArray, List.getElem?_cons_succ, List.getElem?_cons_zero]; rfl) (by rw [HO.out]; kernel_rfl) (by rw [HO.out]; kernel_rfl) (by rw [HO.out]; kernel_rfl) (by rw [HQ.out]; exact fun _ _ _ h => h) (Or.inl ⟨by first | rfl | (rw [HO.out]; kernel_rfl), ?_⟩) hS ?_
  · intro w' hSw
    go_simp
  try simp only [Act.put, List.setIfInBounds_toArray, List.set_cons_zero, List.set_cons_succ]
  refine wpAnyH_done (by rw [HO.out]; kernel_rfl) ?_ _
  rw [HQ.out]
  refine NoPanic.normal ?_
  go_wp2_with fail
  refine wp_region_noPanic ?_
  refine name_ops ?_
  intro O2 QQ2 HO2 HQ2
  refine wp_region_held_drew (S := fun W => Below w4.heap.size w4 W) (by kernel_rfl) (hS.trans (Below.refl _ _).drew) (fun hS => ?_)
  rw [show O2.size = 25 by rw [HO2.out]; rfl]
  refine wpAnyH_take (i := 0) (v := .agg #[.int .u8 k0, .int .i64 n0, .string s0]) (by rw [HO2.out]; simp only [List.getElem?_toArray, List.getElem?_cons_succ, List.getElem?_cons_zero]; rfl) (by rw [HO2.out]; kernel_rfl) (by rw [HO2.out]; kernel_rfl) (by rw [HO2.out]; kernel_rfl) (by rw [HQ2.out]; exact fun _ _ _ h => h) (Or.inl ⟨by first | rfl | (rw [HO2.out]; kernel_rfl), ?_⟩) hS ?_
  · intro w' hSw
    obtain ⟨⟨q1, q2, q3⟩, ⟨q4, q5, q6⟩⟩ := SM.out _ hSw
    go_simp
  try simp only [Act.put, List.setIfInBounds_toArray, List.set_cons_zero, List.set_cons_succ]
  refine wpAnyH_take (i := 2) (v := .agg #[.int .u8 k0, .int .i64 n1, .string s1]) (by rw [HO2.out]; simp only [List.getElem?_toArray, List.getElem?_cons_succ, List.getElem?_cons_zero]; rfl) (by rw [HO2.out]; kernel_rfl) (by rw [HO2.out]; kernel_rfl) (by rw [HO2.out]; kernel_rfl) (by rw [HQ2.out]; exact fun _ _ _ h => h) (Or.inl ⟨by first | rfl | (rw [HO2.out]; kernel_rfl), ?_⟩) hS ?_
  · intro w' hSw
    obtain ⟨⟨q1, q2, q3⟩, ⟨q4, q5, q6⟩⟩ := SM.out _ hSw
    go_simp
  try simp only [Act.put, List.setIfInBounds_toArray, List.set_cons_zero, List.set_cons_succ]
  refine wpAnyH_take (i := 5) (v := .bool false) (by rw [HO2.out]; simp only [List.getElem?_toArray, List.getElem?_cons_succ, List.getElem?_cons_zero]; rfl) (by rw [HO2.out]; kernel_rfl) (by rw [HO2.out]; kernel_rfl) (by rw [HO2.out]; kernel_rfl) (by rw [HQ2.out]; exact fun _ _ _ h => h) (Or.inl ⟨by first | rfl | (rw [HO2.out]; kernel_rfl), ?_⟩) hS ?_
  · intro w' hSw
    go_simp
  try simp only [Act.put, List.setIfInBounds_toArray, List.set_cons_zero, List.set_cons_succ]
  refine wpAnyH_one (i := 1) (x := 70) (R := fun v _ => v = .string tx0) (by rw [HO2.out]; simp only [List.getElem?_toArray, List.getElem?_cons_succ, List.getElem?_cons_zero]; rfl) (by rw [HO2.out]; kernel_rfl) hS ?_ ?_
  · intro K hK
    simp only [Act.put, List.setIfInBounds_toArray, List.set_cons_zero, List.set_cons_succ] at hK
    unfold Steps
    rw [if_pos (by rw [HO2.out]; kernel_rfl)]
    go_simp
    refine (T0 _ (HVW.out _ hS)).mono ?_
    rintro e w9 ⟨rfl, hb9⟩
    exact hK _ _ rfl hb9
  rintro v9 w9 hv9 hb9 hS9
  obtain rfl := hv9
  clear hb9
  replace hS := hS9
  clear hS9
  try simp only [Act.put, List.setIfInBounds_toArray, List.set_cons_zero, List.set_cons_succ]
  refine wpAnyH_one (i := 3) (x := 72) (R := fun v _ => v = .string tx1) (by rw [HO2.out]; simp only [List.getElem?_toArray, List.getElem?_cons_succ, List.getElem?_cons_zero]; rfl) (by rw [HO2.out]; kernel_rfl) hS ?_ ?_
  · intro K hK
    simp only [Act.put, List.setIfInBounds_toArray, List.set_cons_zero, List.set_cons_succ] at hK
    unfold Steps
    rw [if_pos (by rw [HO2.out]; kernel_rfl)]
    go_simp
    refine (T1 _ (HVW.out _ hS)).mono ?_
    rintro e w9 ⟨rfl, hb9⟩
    exact hK _ _ rfl hb9
  rintro v9 w9 hv9 hb9 hS9
  obtain rfl := hv9
  clear hb9
  replace hS := hS9
  clear hS9
  try simp only [Act.put, List.setIfInBounds_toArray, List.set_cons_zero, List.set_cons_succ]
  refine wpAnyH_take (i := 4) (v := .bool false) (by rw [HO2.out]; simp only [List.getElem?_toArray, List.getElem?_cons_succ, List.getElem?_cons_zero]; rfl) (by rw [HO2.out]; kernel_rfl) (by rw [HO2.out]; kernel_rfl) (by rw [HO2.out]; kernel_rfl) (by rw [HQ2.out]; exact fun _ _ _ h => h) (Or.inl ⟨by first | rfl | (rw [HO2.out]; kernel_rfl), ?_⟩) hS ?_
  · intro w' hSw
    go_simp
  try simp only [Act.put, List.setIfInBounds_toArray, List.set_cons_zero, List.set_cons_succ]
  refine wpAnyH_take (i := 6) (v := .bool true) (by rw [HO2.out]; simp only [List.getElem?_toArray, List.getElem?_cons_succ, List.getElem?_cons_zero]; rfl) (by rw [HO2.out]; kernel_rfl) (by rw [HO2.out]; kernel_rfl) (by rw [HO2.out]; kernel_rfl) (by rw [HQ2.out]; exact fun _ _ _ h => h) (Or.inl ⟨by first | rfl | (rw [HO2.out]; kernel_rfl), ?_⟩) hS ?_
  · intro w' hSw
    go_simp
  try simp only [Act.put, List.setIfInBounds_toArray, List.set_cons_zero, List.set_cons_succ]
  refine wpAnyH_take (i := 7) (v := .bool true) (by rw [HO2.out]; simp only [List.getElem?_toArray, List.getElem?_cons_succ, List.getElem?_cons_zero]; rfl) (by rw [HO2.out]; kernel_rfl) (by rw [HO2.out]; kernel_rfl) (by rw [HO2.out]; kernel_rfl) (by rw [HQ2.out]; exact fun _ _ _ h => h) (Or.inl ⟨by first | rfl | (rw [HO2.out]; kernel_rfl), ?_⟩) hS ?_
  · intro w' hSw
    go_simp
  try simp only [Act.put, List.setIfInBounds_toArray, List.set_cons_zero, List.set_cons_succ]
  refine wpAnyH_take (i := 8) (v := .slice (some ⟨g3, 0, none⟩) xn c3) (by rw [HO2.out]; simp only [List.getElem?_toArray, List.getElem?_cons_succ, List.getElem?_cons_zero]; rfl) (by rw [HO2.out]; kernel_rfl) (by rw [HO2.out]; kernel_rfl) (by rw [HO2.out]; kernel_rfl) (by rw [HQ2.out]; exact fun _ _ _ h => h) (Or.inl ⟨by first | rfl | (rw [HO2.out]; kernel_rfl), ?_⟩) hS ?_
  · intro w' hSw
    go_simp
  try simp only [Act.put, List.setIfInBounds_toArray, List.set_cons_zero, List.set_cons_succ]
  refine wpAnyH_take (i := 9) (v := .string sx) (by rw [HO2.out]; simp only [List.getElem?_toArray, List.getElem?_cons_succ, List.getElem?_cons_zero]; rfl) (by rw [HO2.out]; kernel_rfl) (by rw [HO2.out]; kernel_rfl) (by rw [HO2.out]; kernel_rfl) (by rw [HQ2.out]; exact fun _ _ _ h => h) (Or.inl ⟨by first | rfl | (rw [HO2.out]; kernel_rfl), ?_⟩) hS ?_
  · intro w' hSw
    have q := V3.out _ hSw
    go_simp
  try simp only [Act.put, List.setIfInBounds_toArray, List.set_cons_zero, List.set_cons_succ]
  refine wpAnyH_take (i := 10) (v := .slice (some ⟨g4, 0, none⟩) yn c4) (by rw [HO2.out]; simp only [List.getElem?_toArray, List.getElem?_cons_succ, List.getElem?_cons_zero]; rfl) (by rw [HO2.out]; kernel_rfl) (by rw [HO2.out]; kernel_rfl) (by rw [HO2.out]; kernel_rfl) (by rw [HQ2.out]; exact fun _ _ _ h => h) (Or.inl ⟨by first | rfl | (rw [HO2.out]; kernel_rfl), ?_⟩) hS ?_
  · intro w' hSw
    go_simp
  try simp only [Act.put, List.setIfInBounds_toArray, List.set_cons_zero, List.set_cons_succ]
  refine wpAnyH_take (i := 11) (v := .string sy) (by rw [HO2.out]; simp only [List.getElem?_toArray, List.getElem?_cons_succ, List.getElem?_cons_zero]; rfl) (by rw [HO2.out]; kernel_rfl) (by rw [HO2.out]; kernel_rfl) (by rw [HO2.out]; kernel_rfl) (by rw [HQ2.out]; exact fun _ _ _ h => h) (Or.inl ⟨by first | rfl | (rw [HO2.out]; kernel_rfl), ?_⟩) hS ?_
  · intro w' hSw
    have q := V4.out _ hSw
    go_simp
  try simp only [Act.put, List.setIfInBounds_toArray, List.set_cons_zero, List.set_cons_succ]
  refine wpAnyH_take (i := 12) (v := .bool false) (by rw [HO2.out]; simp only [List.getElem?_toArray, List.getElem?_cons_succ, List.getElem?_cons_zero]; rfl) (by rw [HO2.out]; kernel_rfl) (by rw [HO2.out]; kernel_rfl) (by rw [HO2.out]; kernel_rfl) (by rw [HQ2.out]; exact fun _ _ _ h => h) (Or.inl ⟨by first | rfl | (rw [HO2.out]; kernel_rfl), ?_⟩) hS ?_
  · intro w' hSw
    go_simp
  try simp only [Act.put, List.setIfInBounds_toArray, List.set_cons_zero, List.set_cons_succ]
  refine wpAnyH_take (i := 13) (v := .bool false) (by rw [HO2.out]; simp only [List.getElem?_toArray, List.getElem?_cons_succ, List.getElem?_cons_zero]; rfl) (by rw [HO2.out]; kernel_rfl) (by rw [HO2.out]; kernel_rfl) (by rw [HO2.out]; kernel_rfl) (by rw [HQ2.out]; exact fun _ _ _ h => h) (Or.inl ⟨by first | rfl | (rw [HO2.out]; kernel_rfl), ?_⟩) hS ?_
  · intro w' hSw
    go_simp
  try simp only [Act.put, List.setIfInBounds_toArray, List.set_cons_zero, List.set_cons_succ]
  refine wpAnyH_take (i := 14) (v := .bool true) (by rw [HO2.out]; simp only [List.getElem?_toArray, List.getElem?_cons_succ, List.getElem?_cons_zero]; rfl) (by rw [HO2.out]; kernel_rfl) (by rw [HO2.out]; kernel_rfl) (by rw [HO2.out]; kernel_rfl) (by rw [HQ2.out]; exact fun _ _ _ h => h) (Or.inl ⟨by first | rfl | (rw [HO2.out]; kernel_rfl), ?_⟩) hS ?_
  · intro w' hSw
    go_simp
  try simp only [Act.put, List.setIfInBounds_toArray, List.set_cons_zero, List.set_cons_succ]
  refine wpAnyH_take (i := 15) (v := .bool true) (by rw [HO2.out]; simp only [List.getElem?_toArray, List.getElem?_cons_succ, List.getElem?_cons_zero]; rfl) (by rw [HO2.out]; kernel_rfl) (by rw [HO2.out]; kernel_rfl) (by rw [HO2.out]; kernel_rfl) (by rw [HQ2.out]; exact fun _ _ _ h => h) (Or.inl ⟨by first | rfl | (rw [HO2.out]; kernel_rfl), ?_⟩) hS ?_
  · intro w' hSw
    go_simp
  try simp only [Act.put, List.setIfInBounds_toArray, List.set_cons_zero, List.set_cons_succ]
  refine wpAnyH_take (i := 16) (v := .bool true) (by rw [HO2.out]; simp only [List.getElem?_toArray, List.getElem?_cons_succ, List.getElem?_cons_zero]; rfl) (by rw [HO2.out]; kernel_rfl) (by rw [HO2.out]; kernel_rfl) (by rw [HO2.out]; kernel_rfl) (by rw [HQ2.out]; exact fun _ _ _ h => h) (Or.inl ⟨by first | rfl | (rw [HO2.out]; kernel_rfl), ?_⟩) hS ?_
  · intro w' hSw
    go_simp
  try simp only [Act.put, List.setIfInBounds_toArray, List.set_cons_zero, List.set_cons_succ]
  refine wpAnyH_take (i := 17) (v := .bool false) (by rw [HO2.out]; simp only [List.getElem?_toArray, List.getElem?_cons_succ, List.getElem?_cons_zero]; rfl) (by rw [HO2.out]; kernel_rfl) (by rw [HO2.out]; kernel_rfl) (by rw [HO2.out]; kernel_rfl) (by rw [HQ2.out]; exact fun _ _ _ h => h) (Or.inl ⟨by first | rfl | (rw [HO2.out]; kernel_rfl), ?_⟩) hS ?_
  · intro w' hSw
    go_simp
  try simp only [Act.put, List.setIfInBounds_toArray, List.set_cons_zero, List.set_cons_succ]
  refine wpAnyH_take (i := 18) (v := .bool false) (by rw [HO2.out]; simp only [List.getElem?_toArray, List.getElem?_cons_succ, List.getElem?_cons_zero]; rfl) (by rw [HO2.out]; kernel_rfl) (by rw [HO2.out]; kernel_rfl) (by rw [HO2.out]; kernel_rfl) (by rw [HQ2.out]; exact fun _ _ _ h => h) (Or.inl ⟨by first | rfl | (rw [HO2.out]; kernel_rfl), ?_⟩) hS ?_
  · intro w' hSw
    go_simp
  try simp only [Act.put, List.setIfInBounds_toArray, List.set_cons_zero, List.set_cons_succ]
  refine wpAnyH_take (i := 19) (v := .bool true) (by rw [HO2.out]; simp only [List.getElem?_toArray, List.getElem?_cons_succ, List.getElem?_cons_zero]; rfl) (by rw [HO2.out]; kernel_rfl) (by rw [HO2.out]; kernel_rfl) (by rw [HO2.out]; kernel_rfl) (by rw [HQ2.out]; exact fun _ _ _ h => h) (Or.inl ⟨by first | rfl | (rw [HO2.out]; kernel_rfl), ?_⟩) hS ?_
  · intro w' hSw
    go_simp
  try simp only [Act.put, List.setIfInBounds_toArray, List.set_cons_zero, List.set_cons_succ]
  refine wpAnyH_take (i := 20) (v := .bool true) (by rw [HO2.out]; simp only [List.getElem?_toArray, List.getElem?_cons_succ, List.getElem?_cons_zero]; rfl) (by rw [HO2.out]; kernel_rfl) (by rw [HO2.out]; kernel_rfl) (by rw [HO2.out]; kernel_rfl) (by rw [HQ2.out]; exact fun _ _ _ h => h) (Or.inl ⟨by first | rfl | (rw [HO2.out]; kernel_rfl), ?_⟩) hS ?_
  · intro w' hSw
    go_simp
  try simp only [Act.put, List.setIfInBounds_toArray, List.set_cons_zero, List.set_cons_succ]
  refine wpAnyH_take (i := 21) (v := .bool true) (by rw [HO2.out]; simp only [List.getElem?_toArray, List.getElem?_cons_succ, List.getElem?_cons_zero]; rfl) (by rw [HO2.out]; kernel_rfl) (by rw [HO2.out]; kernel_rfl) (by rw [HO2.out]; kernel_rfl) (by rw [HQ2.out]; exact fun _ _ _ h => h) (Or.inl ⟨by first | rfl | (rw [HO2.out]; kernel_rfl), ?_⟩) hS ?_
  · intro w' hSw
    go_simp
  try simp only [Act.put, List.setIfInBounds_toArray, List.set_cons_zero, List.set_cons_succ]
  refine wpAnyH_one (i := 22) (x := 91) (R := fun v _ => v = .bool true) (by rw [HO2.out]; simp only [List.getElem?_toArray, List.getElem?_cons_succ, List.getElem?_cons_zero]; rfl) (by rw [HO2.out]; kernel_rfl) hS ?_ ?_
  · intro K hK
    simp only [Act.put, List.setIfInBounds_toArray, List.set_cons_zero, List.set_cons_succ] at hK
    unfold Steps
    rw [if_pos (by rw [HO2.out]; kernel_rfl)]
    go_simp
    refine (HA _ (HVW.out _ hS)).mono ?_
    rintro e w9 ⟨rfl, hb9⟩
    exact hK _ _ rfl hb9
  rintro v9 w9 hv9 hb9 hS9
  obtain rfl := hv9
  clear hb9
  replace hS := hS9
  clear hS9
  try simp only [Act.put, List.setIfInBounds_toArray, List.set_cons_zero, List.set_cons_succ]
  refine wpAnyH_take (i := 23) (v := .bool true) (by rw [HO2.out]; simp only [List.getElem?_toArray, List.getElem?_cons_succ, List.getElem?_cons_zero]; rfl) (by rw [HO2.out]; kernel_rfl) (by rw [HO2.out]; kernel_rfl) (by rw [HO2.out]; kernel_rfl) (by rw [HQ2.out]; exact fun _ _ _ h => h) (Or.inl ⟨by first | rfl | (rw [HO2.out]; kernel_rfl), ?_⟩) hS ?_
  · intro w' hSw
    go_simp
  try simp only [Act.put, List.setIfInBounds_toArray, List.set_cons_zero, List.set_cons_succ]
  refine wpAnyH_take (i := 24) (v := .bool true) (by rw [HO2.out]; simp only [List.getElem?_toArray, List.getElem?_cons_succ, List.getElem?_cons_zero]; rfl) (by rw [HO2.out]; kernel_rfl) (by rw [HO2.out]; kernel_rfl) (by rw [HO2.out]; kernel_rfl) (by rw [HQ2.out]; exact fun _ _ _ h => h) (Or.inl ⟨by first | rfl | (rw [HO2.out]; kernel_rfl), ?_⟩) hS ?_
  · intro w' hSw
    go_simp
  try simp only [Act.put, List.setIfInBounds_toArray, List.set_cons_zero, List.set_cons_succ]
  refine wpAnyH_done (by rw [HO2.out]; kernel_rfl) ?_ _
  rw [HQ2.out]
  refine NoPanic.normal ?_
  go_wp2
  go_ret
  exact ⟨rfl, HBW.out _ hS⟩
set_option maxHeartbeats 16000000 in
theorem m_sb (k0 n0 : Int) (s0 s1 : ByteArray) (w : World) (hV : Vars w) (pl0 pl1 : List Int) (tx0 tx1 : ByteArray) (xn yn : Nat) (hd : s0.toList ≠ s1.toList) (h0 : s0.size ≤ 200) (h0' : s1.size ≤ 200) (C0 : ∀ W, Vars W → Calls Tryd.prog 14 #[.agg #[.int .u8 k0, .int .i64 n0, .string s0]] W fun e w' => e = .returned (.int .i64 0) ∧ Below W.heap.size W w') (P0 : ∀ W, Vars W → Calls Tryd.prog 24 #[.agg #[.int .u8 k0, .int .i64 n0, .string s0]] W fun e w' => ∃ v, e = .returned (.tuple #[v, .int .i64 0]) ∧ Own w' W.heap.size v pl0 ∧ Below W.heap.size W w') (T0 : ∀ W, Vars W → Calls Tryd.prog 16 #[.agg #[.int .u8 k0, .int .i64 n0, .string s0]] W fun e w' => e = .returned (.string tx0) ∧ Below W.heap.size W w') (C1 : ∀ W, Vars W → Calls Tryd.prog 14 #[.agg #[.int .u8 k0, .int .i64 n0, .string s1]] W fun e w' => e = .returned (.int .i64 0) ∧ Below W.heap.size W w') (P1 : ∀ W, Vars W → Calls Tryd.prog 24 #[.agg #[.int .u8 k0, .int .i64 n0, .string s1]] W fun e w' => ∃ v, e = .returned (.tuple #[v, .int .i64 0]) ∧ Own w' W.heap.size v pl1 ∧ Below W.heap.size W w') (T1 : ∀ W, Vars W → Calls Tryd.prog 16 #[.agg #[.int .u8 k0, .int .i64 n0, .string s1]] W fun e w' => e = .returned (.string tx1) ∧ Below W.heap.size W w') (L0 : Hid (pl0.length = xn)) (A0 : Hid (AllB pl0)) (hx1 : 1 ≤ xn) (hx2 : xn ≤ 30) (L1 : Hid (pl1.length = yn)) (A1 : Hid (AllB pl1)) (hy1 : 1 ≤ yn) (hy2 : yn ≤ 30) (hle : yn < xn) (HT : (tx0.toList == tx1.toList) = false) (HS : ((strOfNums pl0).toList == (strOfNums pl1).toList) = false) : Calls Tryd.prog 8 #[.agg #[.int .u8 k0, .int .i64 n0, .string s0], .agg #[.int .u8 k0, .int .i64 n0, .string s1]] w fun e w' => e = .returned (.bool true) ∧ Below w.heap.size w w' := by
  have HA := awake_any
  have h3 : decide ((200 : Int) < (s0.size : Int)) = false := by simp; omega
  have h4 : decide ((200 : Int) < (s1.size : Int)) = false := by simp; omega
  obtain ⟨W0, hW0⟩ : ∃ W0, W0 = (w.alloc (.cells #[.int .u8 k0, .int .i64 n0, .string s0] 23)).alloc (.cells #[.int .u8 k0, .int .i64 n0, .string s1] 23) := ⟨_, rfl⟩
  have HB0 : Hid (Below w.heap.size w W0) := by rw [hW0]; exact two_new _ _ _
  have SL : Hid (∀ W, Below W0.heap.size W0 W → (W.cell? ⟨w.heap.size, 0, none⟩ = some (.int .u8 k0) ∧ W.cell? ⟨w.heap.size, 1, none⟩ = some (.int .i64 n0) ∧ W.cell? ⟨w.heap.size, 2, none⟩ = some (.string s0)) ∧ (W.cell? ⟨w.heap.size + 1, 0, none⟩ = some (.int .u8 k0) ∧ W.cell? ⟨w.heap.size + 1, 1, none⟩ = some (.int .i64 n0) ∧ W.cell? ⟨w.heap.size + 1, 2, none⟩ = some (.string s1))) := fun W hW => by
    rw [hW0] at hW
    have b1 := ((Bk.new w k0 n0 s0).below (box1 _ _)).below hW
    have b2 := (Bk.new (w.alloc (.cells #[.int .u8 k0, .int .i64 n0, .string s0] 23)) k0 n0 s1).below hW
    have c2 := b2.cells
    simp at c2
    exact ⟨b1.cells, c2⟩
  have HV : Hid (∀ W, Below W0.heap.size W0 W → Vars W) := fun W hW => (hV.below HB0.out).below hW
  go_enter Tryd.func8, Tryd.ntmps8
  go_wp2_with (first | (go_at_call 14; rw [← hW0]; refine (C0 _ (HV.out _ (Below.refl _ _))).mono ?_; rintro e w1 ⟨rfl, hb1⟩; clear C0 hW0; obtain ⟨⟨x1, x2, x3⟩, ⟨x4, x5, x6⟩⟩ := SL.out _ hb1) | (go_at_call 14; refine (C1 _ (HV.out _ hb1)).mono ?_; rintro e w2 ⟨rfl, hb2⟩; clear C1; have H2 := bt hb1 hb2; obtain ⟨⟨y1, y2, y3⟩, ⟨y4, y5, y6⟩⟩ := SL.out _ H2) | (go_at_call 24; refine (P0 _ (HV.out _ H2)).mono ?_; rintro e w3 ⟨v3, rfl, o3, hb3⟩; clear P0; obtain ⟨g3, c3, rfl, hg3, _, _⟩ := o3.shape xn L0.out hx1; have H3 := bt H2 hb3; obtain ⟨⟨z1, z2, z3⟩, ⟨z4, z5, z6⟩⟩ := SL.out _ H3) | (go_at_call 24; refine (P1 _ (HV.out _ H3)).mono ?_; rintro e w4 ⟨v4, rfl, o4, hb4⟩; clear P1; obtain ⟨g4, c4, rfl, hg4, _, _⟩ := o4.shape yn L1.out hy1; have H4 := bt H3 hb4; obtain ⟨⟨u1, u2, u3⟩, ⟨u4, u5, u6⟩⟩ := SL.out _ H4))
  have V3 : Hid (∀ W, Below w4.heap.size w4 W → (convert 39 9 (.slice (some ⟨g3, 0, none⟩) xn c3)).run Tryd.prog W = .ok (.string (strOfNums pl0)) W) := fun W hW => conv_own ((o3.below hb4).below hW) A0.out
  have V4 : Hid (∀ W, Below w4.heap.size w4 W → (convert 39 9 (.slice (some ⟨g4, 0, none⟩) yn c4)).run Tryd.prog W = .ok (.string (strOfNums pl1)) W) := fun W hW => conv_own (o4.below hW) A1.out
  have SM : Hid (∀ W, Below w4.heap.size w4 W → (W.cell? ⟨w.heap.size, 0, none⟩ = some (.int .u8 k0) ∧ W.cell? ⟨w.heap.size, 1, none⟩ = some (.int .i64 n0) ∧ W.cell? ⟨w.heap.size, 2, none⟩ = some (.string s0)) ∧ (W.cell? ⟨w.heap.size + 1, 0, none⟩ = some (.int .u8 k0) ∧ W.cell? ⟨w.heap.size + 1, 1, none⟩ = some (.int .i64 n0) ∧ W.cell? ⟨w.heap.size + 1, 2, none⟩ = some (.string s1))) := fun W hW => SL.out _ (bt H4 hW)
  have HVW : Hid (∀ W, Below w4.heap.size w4 W → Vars W) := fun W hW => HV.out _ (bt H4 hW)
  have HBW : Hid (∀ W, Below w4.heap.size w4 W → Below w.heap.size w W) := fun W hW => bt (bt HB0.out H4) hW
  have m1 : (1 : Int) ≤ xn := by omega
  have m2 : (xn : Int) ≤ 30 := by omega
  have m3 : (xn : Int) ≤ c3 := by omega
  have m4 : (yn : Int) ≤ c4 := by omega
  have m7 : (1 : Int) ≤ yn := by omega
  have m8 : (yn : Int) ≤ 30 := by omega
  have m6 : decide ((xn : Int) ≤ yn) = false := by simp; omega
  have m10 : (yn : Int) < xn := by omega
  clear x1 x2 x3 x4 x5 x6 y1 y2 y3 y4 y5 y6 z1 z2 z3 z4 z5 z6 u1 u2 u3 u4 u5 u6 hb1 hb2 hb3 hb4 H2 H3 H4 o3 o4 SL HV HB0 hV
  generalize hsx : strOfNums pl0 = sx at *
  generalize hsy : strOfNums pl1 = sy at *
  clear hsy
  clear hsx
  refine wp_region_noPanic ?_
  refine name_ops ?_
  intro O QQ HO HQ
  refine wp_region_held_drew (S := fun W => Below w4.heap.size w4 W) (by kernel_rfl) (Below.refl _ _).drew (fun hS => ?_)
  rw [show O.size = 19 by rw [HO.out]; rfl]
  refine wpAnyH_take (i := 0) (v := .slice (some ⟨g3, 0, none⟩) xn c3) (by rw [HO.out]; simp only [List.getElem?_toArray, List.getElem?_cons_succ, List.getElem?_cons_zero]; rfl) (by rw [HO.out]; kernel_rfl) (by rw [HO.out]; kernel_rfl) (by rw [HO.out]; kernel_rfl) (by rw [HQ.out]; exact fun _ _ _ h => h) (Or.inl ⟨by first | rfl | (rw [HO.out]; kernel_rfl), ?_⟩) hS ?_
  · intro w' hSw
    go_simp
  try simp only [Act.put, List.setIfInBounds_toArray, List.set_cons_zero, List.set_cons_succ]
  refine wpAnyH_take (i := 1) (v := .int .i64 xn) (by rw [HO.out]; simp only [List.getElem?_toArray, List.getElem?_cons_succ, List.getElem?_cons_zero]; rfl) (by rw [HO.out]; kernel_rfl) (by rw [HO.out]; kernel_rfl) (by rw [HO.out]; kernel_rfl) (by rw [HQ.out]; exact fun _ _ _ h => h) (Or.inl ⟨by first | rfl | (rw [HO.out]; kernel_rfl), ?_⟩) hS ?_
  · intro w' hSw
    go_simp
  try simp only [Act.put, List.setIfInBounds_toArray, List.set_cons_zero, List.set_cons_succ]
  refine wpAnyH_take (i := 2) (v := .slice (some ⟨g4, 0, none⟩) yn c4) (by rw [HO.out]; simp only [List.getElem?_toArray, List.getElem?_cons_succ, List.getElem?_cons_zero]; rfl) (by rw [HO.out]; kernel_rfl) (by rw [HO.out]; kernel_rfl) (by rw [HO.out]; kernel_rfl) (by rw [HQ.out]; exact fun _ _ _ h => h) (Or.inl ⟨by first | rfl | (rw [HO.out]; kernel_rfl), ?_⟩) hS ?_
  · intro w' hSw
    go_simp
  try simp only [Act.put, List.setIfInBounds_toArray, List.set_cons_zero, List.set_cons_succ]
  refine wpAnyH_take (i := 3) (v := .int .i64 yn) (by rw [HO.out]; simp only [List.getElem?_toArray, List.getElem?_cons_succ, List.getElem?_cons_zero]; rfl) (by rw [HO.out]; kernel_rfl) (by rw [HO.out]; kernel_rfl) (by rw [HO.out]; kernel_rfl) (by rw [HQ.out]; exact fun _ _ _ h => h) (Or.inl ⟨by first | rfl | (rw [HO.out]; kernel_rfl), ?_⟩) hS ?_
  · intro w' hSw
    go_simp
  try simp only [Act.put, List.setIfInBounds_toArray, List.set_cons_zero, List.set_cons_succ]
  refine wpAnyH_take (i := 4) (v := .bool false) (by rw [HO.out]; simp only [List.getElem?_toArray, List.getElem?_cons_succ, List.getElem?_cons_zero]; rfl) (by rw [HO.out]; kernel_rfl) (by rw [HO.out]; kernel_rfl) (by rw [HO.out]; kernel_rfl) (by rw [HQ.out]; exact fun _ _ _ h => h) (Or.inl ⟨by first | rfl | (rw [HO.out]; kernel_rfl), ?_⟩) hS ?_
  · intro w' hSw
    go_simp
  try simp only [Act.put, List.setIfInBounds_toArray, List.set_cons_zero, List.set_cons_succ]
  refine wpAnyH_take (i := 5) (v := .bool false) (by rw [HO.out]; simp only [List.getElem?_toArray, List.getElem?_cons_succ, List.getElem?_cons_zero]; rfl) (by rw [HO.out]; kernel_rfl) (by rw [HO.out]; kernel_rfl) (by rw [HO.out]; kernel_rfl) (by rw [HQ.out]; exact fun _ _ _ h => h) (Or.inl ⟨by first | rfl | (rw [HO.out]; kernel_rfl), ?_⟩) hS ?_
  · intro w' hSw
    go_simp
  try simp only [Act.put, List.setIfInBounds_toArray, List.set_cons_zero, List.set_cons_succ]
  refine wpAnyH_take (i := 6) (v := undef) (by rw [HO.out]; simp only [List.getElem?_toArray, List.getElem?_cons_succ, List.getElem?_cons_zero]; rfl) (by rw [HO.out]; kernel_rfl) (by rw [HO.out]; kernel_rfl) (by rw [HO.out]; kernel_rfl) (by rw [HQ.out]; exact fun _ _ _ h => h) (Or.inr ⟨by first | rfl | (rw [HO.out]; kernel_rfl), rfl⟩) hS ?_
  try simp only [Act.put, List.setIfInBounds_toArray, List.set_cons_zero, List.set_cons_succ]
  refine wpAnyH_take (i := 7) (v := undef) (by rw [HO.out]; simp only [List.getElem?_toArray, List.getElem?_cons_succ, List.getElem?_cons_zero]; rfl) (by rw [HO.out]; kernel_rfl) (by rw [HO.out]; kernel_rfl) (by rw [HO.out]; kernel_rfl) (by rw [HQ.out]; exact fun _ _ _ h => h) (Or.inr ⟨by first | rfl | (rw [HO.out]; kernel_rfl), rfl⟩) hS ?_
  try simp only [Act.put, List.setIfInBounds_toArray, List.set_cons_zero, List.set_cons_succ]
  refine wpAnyH_take (i := 8) (v := undef) (by rw [HO.out]; simp only [List.getElem?_toArray, List.getElem?_cons_succ, List.getElem?_cons_zero]; rfl) (by rw [HO.out]; kernel_rfl) (by rw [HO.out]; kernel_rfl) (by rw [HO.out]; kernel_rfl) (by rw [HQ.out]; exact fun _ _ _ h => h) (Or.inr ⟨by first | rfl | (rw [HO.out]; kernel_rfl), rfl⟩) hS ?_
  try simp only [Act.put, List.setIfInBounds_toArray, List.set_cons_zero, List.set_cons_succ]
  refine wpAnyH_take (i := 9) (v := undef) (by rw [HO.out]; simp only [List.getElem?_toArray, List.getElem?_cons_succ, List.getElem?_cons_zero]; rfl) (by rw [HO.out]; kernel_rfl) (by rw [HO.out]; kernel_rfl) (by rw [HO.out]; kernel_rfl) (by rw [HQ.out]; exact fun _ _ _ h => h) (Or.inr ⟨by first | rfl | (rw [HO.out]; kernel_rfl), rfl⟩) hS ?_
  try simp only [Act.put, List.setIfInBounds_toArray, List.set_cons_zero, List.set_cons_succ]
  refine wpAnyH_take (i := 10) (v := undef) (by rw [HO.out]; simp only [List.getElem?_toArray, List.getElem?_cons_succ, List.getElem?_cons_zero]; rfl) (by rw [HO.out]; kernel_rfl) (by rw [HO.out]; kernel_rfl) (by rw [HO.out]; kernel_rfl) (by rw [HQ.out]; exact fun _ _ _ h => h) (Or.inr ⟨by first | rfl | (rw [HO.out]; kernel_rfl), rfl⟩) hS ?_
  try simp only [Act.put, List.setIfInBounds_toArray, List.set_cons_zero, List.set_cons_succ]
  refine wpAnyH_take (i := 11) (v := undef) (by rw [HO.out]; simp only [List.getElem?_toArray, List.getElem?_cons_succ, List.getElem?_cons_zero]; rfl) (by rw [HO.out]; kernel_rfl) (by rw [HO.out]; kernel_rfl) (by rw [HO.out]; kernel_rfl) (by rw [HQ.out]; exact fun _ _ _ h => h) (Or.inr ⟨by first | rfl | (rw [HO.out]; kernel_rfl), rfl⟩) hS ?_
  try simp only [Act.put, List.setIfInBounds_toArray, List.set_cons_zero, List.set_cons_succ]
  refine wpAnyH_take (i := 12) (v := undef) (by rw [HO.out]; simp only [List.getElem?_toArray, List.getElem?_cons_succ, List.getElem?_cons_zero]; rfl) (by rw [HO.out]; kernel_rfl) (by rw [HO.out]; kernel_rfl) (by rw [HO.out]; kernel_rfl) (by rw [HQ.out]; exact fun _ _ _ h => h) (Or.inr ⟨by first | rfl | (rw [HO.out]; kernel_rfl), rfl⟩) hS ?_
  try simp only [Act.put, List.setIfInBounds_toArray, List.set_cons_zero, List.set_cons_succ]
  refine wpAnyH_take (i := 13) (v := undef) (by rw [HO.out]; simp only [List.getElem?_toArray, List.getElem?_cons_succ, List.getElem?_cons_zero]; rfl) (by rw [HO.out]; kernel_rfl) (by rw [HO.out]; kernel_rfl) (by rw [HO.out]; kernel_rfl) (by rw [HQ.out]; exact fun _ _ _ h => h) (Or.inr ⟨by first | rfl | (rw [HO.out]; kernel_rfl), rfl⟩) hS ?_
  try simp only [Act.put, List.setIfInBounds_toArray, List.set_cons_zero, List.set_cons_succ]
  refine wpAnyH_take (i := 14) (v := undef) (by rw [HO.out]; simp only [List.getElem?_toArray, List.getElem?_cons_succ, List.getElem?_cons_zero]; rfl) (by rw [HO.out]; kernel_rfl) (by rw [HO.out]; kernel_rfl) (by rw [HO.out]; kernel_rfl) (by rw [HQ.out]; exact fun _ _ _ h => h) (Or.inr ⟨by first | rfl | (rw [HO.out]; kernel_rfl), rfl⟩) hS ?_
  try simp only [Act.put, List.setIfInBounds_toArray, List.set_cons_zero, List.set_cons_succ]
  refine wpAnyH_take (i := 15) (v := undef) (by rw [HO.out]; simp only [List.getElem?_toArray, List.getElem?_cons_succ, List.getElem?_cons_zero]; rfl) (by rw [HO.out]; kernel_rfl) (by rw [HO.out]; kernel_rfl) (by rw [HO.out]; kernel_rfl) (by rw [HQ.out]; exact fun _ _ _ h => h) (Or.inr ⟨by first | rfl | (rw [HO.out]; kernel_rfl), rfl⟩) hS ?_
  try simp only [Act.put, List.setIfInBounds_toArray, List.set_cons_zero, List.set_cons_succ]
  refine wpAnyH_take (i := 16) (v := undef) (by rw [HO.out]; simp only [List.getElem?_toArray, List.getElem?_cons_succ, List.getElem?_cons_zero]; rfl) (by rw [HO.out]; kernel_rfl) (by rw [HO.out]; kernel_rfl) (by rw [HO.out]; kernel_rfl) (by rw [HQ.out]; exact fun _ _ _ h => h) (Or.inr ⟨by first | rfl | (rw [HO.out]; kernel_rfl), rfl⟩) hS ?_
  try simp only [Act.put, List.setIfInBounds_toArray, List.set_cons_zero, List.set_cons_succ]
  refine wpAnyH_take (i := 17) (v := .bool false) (by rw [HO.out]; simp only [List.getElem?_toArray, List.getElem?_cons_succ, List.getElem?_cons_zero]; rfl) (by rw [HO.out]; kernel_rfl) (by rw [HO.out]; kernel_rfl) (by rw [HO.out]; kernel_rfl) (by rw [HQ.out]; exact fun _ _ _ h => h) (Or.inl ⟨by first | rfl | (rw [HO.out]; kernel_rfl), ?_⟩) hS ?_
  · intro w' hSw
    go_simp
  try simp only [Act.put, List.setIfInBounds_toArray, List.set_cons_zero, List.set_cons_succ]
  refine wpAnyH_take (i := 18) (v := .bool false) (by rw [HO.out]; simp only [List.getElem?_toArray, List.getElem?_cons_succ, List.getElem?_cons_zero]; rfl) (by rw [HO.out]; kernel_rfl) (by rw [HO.out]; kernel_rfl) (by rw [HO.out]; kernel_rfl) (by rw [HQ.out]; exact fun _ _ _ h => h) (Or.inl ⟨by first | rfl | (rw [HO.out]; kernel_rfl), ?_⟩) hS ?_
  · intro w' hSw
    go_simp
  try simp only [Act.put, List.setIfInBounds_toArray, List.set_cons_zero, List.set_cons_succ]
  refine wpAnyH_done (by rw [HO.out]; kernel_rfl) ?_ _
  rw [HQ.out]
  refine NoPanic.normal ?_
  go_wp2_with fail
  refine wp_region_noPanic ?_
  refine name_ops ?_
  intro O2 QQ2 HO2 HQ2
  refine wp_region_held_drew (S := fun W => Below w4.heap.size w4 W) (by kernel_rfl) (hS.trans (Below.refl _ _).drew) (fun hS => ?_)
  rw [show O2.size = 25 by rw [HO2.out]; rfl]
  refine wpAnyH_take (i := 0) (v := .agg #[.int .u8 k0, .int .i64 n0, .string s0]) (by rw [HO2.out]; simp only [List.getElem?_toArray, List.getElem?_cons_succ, List.getElem?_cons_zero]; rfl) (by rw [HO2.out]; kernel_rfl) (by rw [HO2.out]; kernel_rfl) (by rw [HO2.out]; kernel_rfl) (by rw [HQ2.out]; exact fun _ _ _ h => h) (Or.inl ⟨by first | rfl | (rw [HO2.out]; kernel_rfl), ?_⟩) hS ?_
  · intro w' hSw
    obtain ⟨⟨q1, q2, q3⟩, ⟨q4, q5, q6⟩⟩ := SM.out _ hSw
    go_simp
  try simp only [Act.put, List.setIfInBounds_toArray, List.set_cons_zero, List.set_cons_succ]
  refine wpAnyH_take (i := 2) (v := .agg #[.int .u8 k0, .int .i64 n0, .string s1]) (by rw [HO2.out]; simp only [List.getElem?_toArray, List.getElem?_cons_succ, List.getElem?_cons_zero]; rfl) (by rw [HO2.out]; kernel_rfl) (by rw [HO2.out]; kernel_rfl) (by rw [HO2.out]; kernel_rfl) (by rw [HQ2.out]; exact fun _ _ _ h => h) (Or.inl ⟨by first | rfl | (rw [HO2.out]; kernel_rfl), ?_⟩) hS ?_
  · intro w' hSw
    obtain ⟨⟨q1, q2, q3⟩, ⟨q4, q5, q6⟩⟩ := SM.out _ hSw
    go_simp
  try simp only [Act.put, List.setIfInBounds_toArray, List.set_cons_zero, List.set_cons_succ]
  refine wpAnyH_take (i := 5) (v := .bool false) (by rw [HO2.out]; simp only [List.getElem?_toArray, List.getElem?_cons_succ, List.getElem?_cons_zero]; rfl) (by rw [HO2.out]; kernel_rfl) (by rw [HO2.out]; kernel_rfl) (by rw [HO2.out]; kernel_rfl) (by rw [HQ2.out]; exact fun _ _ _ h => h) (Or.inl ⟨by first | rfl | (rw [HO2.out]; kernel_rfl), ?_⟩) hS ?_
  · intro w' hSw
    go_simp
  try simp only [Act.put, List.setIfInBounds_toArray, List.set_cons_zero, List.set_cons_succ]
  refine wpAnyH_one (i := 1) (x := 70) (R := fun v _ => v = .string tx0) (by rw [HO2.out]; simp only [List.getElem?_toArray, List.getElem?_cons_succ, List.getElem?_cons_zero]; rfl) (by rw [HO2.out]; kernel_rfl) hS ?_ ?_
  · intro K hK
    simp only [Act.put, List.setIfInBounds_toArray, List.set_cons_zero, List.set_cons_succ] at hK
    unfold Steps
    rw [if_pos (by rw [HO2.out]; kernel_rfl)]
    go_simp
    refine (T0 _ (HVW.out _ hS)).mono ?_
    rintro e w9 ⟨rfl, hb9⟩
    exact hK _ _ rfl hb9
  rintro v9 w9 hv9 hb9 hS9
  obtain rfl := hv9
  clear hb9
  replace hS := hS9
  clear hS9
  try simp only [Act.put, List.setIfInBounds_toArray, List.set_cons_zero, List.set_cons_succ]
  refine wpAnyH_one (i := 3) (x := 72) (R := fun v _ => v = .string tx1) (by rw [HO2.out]; simp only [List.getElem?_toArray, List.getElem?_cons_succ, List.getElem?_cons_zero]; rfl) (by rw [HO2.out]; kernel_rfl) hS ?_ ?_
  · intro K hK
    simp only [Act.put, List.setIfInBounds_toArray, List.set_cons_zero, List.set_cons_succ] at hK
    unfold Steps
    rw [if_pos (by rw [HO2.out]; kernel_rfl)]
    go_simp
    refine (T1 _ (HVW.out _ hS)).mono ?_
    rintro e w9 ⟨rfl, hb9⟩
    exact hK _ _ rfl hb9
  rintro v9 w9 hv9 hb9 hS9
  obtain rfl := hv9
  clear hb9
  replace hS := hS9
  clear hS9
  try simp only [Act.put, List.setIfInBounds_toArray, List.set_cons_zero, List.set_cons_succ]
  refine wpAnyH_take (i := 4) (v := .bool false) (by rw [HO2.out]; simp only [List.getElem?_toArray, List.getElem?_cons_succ, List.getElem?_cons_zero]; rfl) (by rw [HO2.out]; kernel_rfl) (by rw [HO2.out]; kernel_rfl) (by rw [HO2.out]; kernel_rfl) (by rw [HQ2.out]; exact fun _ _ _ h => h) (Or.inl ⟨by first | rfl | (rw [HO2.out]; kernel_rfl), ?_⟩) hS ?_
  · intro w' hSw
    go_simp
  try simp only [Act.put, List.setIfInBounds_toArray, List.set_cons_zero, List.set_cons_succ]
  refine wpAnyH_take (i := 6) (v := .bool true) (by rw [HO2.out]; simp only [List.getElem?_toArray, List.getElem?_cons_succ, List.getElem?_cons_zero]; rfl) (by rw [HO2.out]; kernel_rfl) (by rw [HO2.out]; kernel_rfl) (by rw [HO2.out]; kernel_rfl) (by rw [HQ2.out]; exact fun _ _ _ h => h) (Or.inl ⟨by first | rfl | (rw [HO2.out]; kernel_rfl), ?_⟩) hS ?_
  · intro w' hSw
    go_simp
  try simp only [Act.put, List.setIfInBounds_toArray, List.set_cons_zero, List.set_cons_succ]
  refine wpAnyH_take (i := 7) (v := .bool true) (by rw [HO2.out]; simp only [List.getElem?_toArray, List.getElem?_cons_succ, List.getElem?_cons_zero]; rfl) (by rw [HO2.out]; kernel_rfl) (by rw [HO2.out]; kernel_rfl) (by rw [HO2.out]; kernel_rfl) (by rw [HQ2.out]; exact fun _ _ _ h => h) (Or.inl ⟨by first | rfl | (rw [HO2.out]; kernel_rfl), ?_⟩) hS ?_
  · intro w' hSw
    go_simp
  try simp only [Act.put, List.setIfInBounds_toArray, List.set_cons_zero, List.set_cons_succ]
  refine wpAnyH_take (i := 8) (v := .slice (some ⟨g3, 0, none⟩) xn c3) (by rw [HO2.out]; simp only [List.getElem?_toArray, List.getElem?_cons_succ, List.getElem?_cons_zero]; rfl) (by rw [HO2.out]; kernel_rfl) (by rw [HO2.out]; kernel_rfl) (by rw [HO2.out]; kernel_rfl) (by rw [HQ2.out]; exact fun _ _ _ h => h) (Or.inl ⟨by first | rfl | (rw [HO2.out]; kernel_rfl), ?_⟩) hS ?_
  · intro w' hSw
    go_simp
  try simp only [Act.put, List.setIfInBounds_toArray, List.set_cons_zero, List.set_cons_succ]
  refine wpAnyH_take (i := 9) (v := .string sx) (by rw [HO2.out]; simp only [List.getElem?_toArray, List.getElem?_cons_succ, List.getElem?_cons_zero]; rfl) (by rw [HO2.out]; kernel_rfl) (by rw [HO2.out]; kernel_rfl) (by rw [HO2.out]; kernel_rfl) (by rw [HQ2.out]; exact fun _ _ _ h => h) (Or.inl ⟨by first | rfl | (rw [HO2.out]; kernel_rfl), ?_⟩) hS ?_
  · intro w' hSw
    have q := V3.out _ hSw
    go_simp
  try simp only [Act.put, List.setIfInBounds_toArray, List.set_cons_zero, List.set_cons_succ]
  refine wpAnyH_take (i := 10) (v := .slice (some ⟨g4, 0, none⟩) yn c4) (by rw [HO2.out]; simp only [List.getElem?_toArray, List.getElem?_cons_succ, List.getElem?_cons_zero]; rfl) (by rw [HO2.out]; kernel_rfl) (by rw [HO2.out]; kernel_rfl) (by rw [HO2.out]; kernel_rfl) (by rw [HQ2.out]; exact fun _ _ _ h => h) (Or.inl ⟨by first | rfl | (rw [HO2.out]; kernel_rfl), ?_⟩) hS ?_
  · intro w' hSw
    go_simp
  try simp only [Act.put, List.setIfInBounds_toArray, List.set_cons_zero, List.set_cons_succ]
  refine wpAnyH_take (i := 11) (v := .string sy) (by rw [HO2.out]; simp only [List.getElem?_toArray, List.getElem?_cons_succ, List.getElem?_cons_zero]; rfl) (by rw [HO2.out]; kernel_rfl) (by rw [HO2.out]; kernel_rfl) (by rw [HO2.out]; kernel_rfl) (by rw [HQ2.out]; exact fun _ _ _ h => h) (Or.inl ⟨by first | rfl | (rw [HO2.out]; kernel_rfl), ?_⟩) hS ?_
  · intro w' hSw
    have q := V4.out _ hSw
    go_simp
  try simp only [Act.put, List.setIfInBounds_toArray, List.set_cons_zero, List.set_cons_succ]
  refine wpAnyH_take (i := 12) (v := .bool false) (by rw [HO2.out]; simp only [List.getElem?_toArray, List.getElem?_cons_succ, List.getElem?_cons_zero]; rfl) (by rw [HO2.out]; kernel_rfl) (by rw [HO2.out]; kernel_rfl) (by rw [HO2.out]; kernel_rfl) (by rw [HQ2.out]; exact fun _ _ _ h => h) (Or.inl ⟨by first | rfl | (rw [HO2.out]; kernel_rfl), ?_⟩) hS ?_
  · intro w' hSw
    go_simp
  try simp only [Act.put, List.setIfInBounds_toArray, List.set_cons_zero, List.set_cons_succ]
  refine wpAnyH_take (i := 13) (v := .bool false) (by rw [HO2.out]; simp only [List.getElem?_toArray, List.getElem?_cons_succ, List.getElem?_cons_zero]; rfl) (by rw [HO2.out]; kernel_rfl) (by rw [HO2.out]; kernel_rfl) (by rw [HO2.out]; kernel_rfl) (by rw [HQ2.out]; exact fun _ _ _ h => h) (Or.inl ⟨by first | rfl | (rw [HO2.out]; kernel_rfl), ?_⟩) hS ?_
  · intro w' hSw
    go_simp
  try simp only [Act.put, List.setIfInBounds_toArray, List.set_cons_zero, List.set_cons_succ]
  refine wpAnyH_take (i := 14) (v := .bool true) (by rw [HO2.out]; simp only [List.getElem?_toArray, List.getElem?_cons_succ, List.getElem?_cons_zero]; rfl) (by rw [HO2.out]; kernel_rfl) (by rw [HO2.out]; kernel_rfl) (by rw [HO2.out]; kernel_rfl) (by rw [HQ2.out]; exact fun _ _ _ h => h) (Or.inl ⟨by first | rfl | (rw [HO2.out]; kernel_rfl), ?_⟩) hS ?_
  · intro w' hSw
    go_simp
  try simp only [Act.put, List.setIfInBounds_toArray, List.set_cons_zero, List.set_cons_succ]
  refine wpAnyH_take (i := 15) (v := .bool true) (by rw [HO2.out]; simp only [List.getElem?_toArray, List.getElem?_cons_succ, List.getElem?_cons_zero]; rfl) (by rw [HO2.out]; kernel_rfl) (by rw [HO2.out]; kernel_rfl) (by rw [HO2.out]; kernel_rfl) (by rw [HQ2.out]; exact fun _ _ _ h => h) (Or.inl ⟨by first | rfl | (rw [HO2.out]; kernel_rfl), ?_⟩) hS ?_
  · intro w' hSw
    go_simp
  try simp only [Act.put, List.setIfInBounds_toArray, List.set_cons_zero, List.set_cons_succ]
  refine wpAnyH_take (i := 16) (v := .bool true) (by rw [HO2.out]; simp only [List.getElem?_toArray, List.getElem?_cons_succ, List.getElem?_cons_zero]; rfl) (by rw [HO2.out]; kernel_rfl) (by rw [HO2.out]; kernel_rfl) (by rw [HO2.out]; kernel_rfl) (by rw [HQ2.out]; exact fun _ _ _ h => h) (Or.inl ⟨by first | rfl | (rw [HO2.out]; kernel_rfl), ?_⟩) hS ?_
  · intro w' hSw
    go_simp
  try simp only [Act.put, List.setIfInBounds_toArray, List.set_cons_zero, List.set_cons_succ]
  refine wpAnyH_take (i := 17) (v := .bool false) (by rw [HO2.out]; simp only [List.getElem?_toArray, List.getElem?_cons_succ, List.getElem?_cons_zero]; rfl) (by rw [HO2.out]; kernel_rfl) (by rw [HO2.out]; kernel_rfl) (by rw [HO2.out]; kernel_rfl) (by rw [HQ2.out]; exact fun _ _ _ h => h) (Or.inl ⟨by first | rfl | (rw [HO2.out]; kernel_rfl), ?_⟩) hS ?_
  · intro w' hSw
    go_simp
  try simp only [Act.put, List.setIfInBounds_toArray, List.set_cons_zero, List.set_cons_succ]
  refine wpAnyH_take (i := 18) (v := .bool false) (by rw [HO2.out]; simp only [List.getElem?_toArray, List.getElem?_cons_succ, List.getElem?_cons_zero]; rfl) (by rw [HO2.out]; kernel_rfl) (by rw [HO2.out]; kernel_rfl) (by rw [HO2.out]; kernel_rfl) (by rw [HQ2.out]; exact fun _ _ _ h => h) (Or.inl ⟨by first | rfl | (rw [HO2.out]; kernel_rfl), ?_⟩) hS ?_
  · intro w' hSw
    go_simp
  try simp only [Act.put, List.setIfInBounds_toArray, List.set_cons_zero, List.set_cons_succ]
  refine wpAnyH_take (i := 19) (v := .bool true) (by rw [HO2.out]; simp only [List.getElem?_toArray, List.getElem?_cons_succ, List.getElem?_cons_zero]; rfl) (by rw [HO2.out]; kernel_rfl) (by rw [HO2.out]; kernel_rfl) (by rw [HO2.out]; kernel_rfl) (by rw [HQ2.out]; exact fun _ _ _ h => h) (Or.inl ⟨by first | rfl | (rw [HO2.out]; kernel_rfl), ?_⟩) hS ?_
  · intro w' hSw
    go_simp
  try simp only [Act.put, List.setIfInBounds_toArray, List.set_cons_zero, List.set_cons_succ]
  refine wpAnyH_take (i := 20) (v := .bool true) (by rw [HO2.out]; simp only [List.getElem?_toArray, List.getElem?_cons_succ, List.getElem?_cons_zero]; rfl) (by rw [HO2.out]; kernel_rfl) (by rw [HO2.out]; kernel_rfl) (by rw [HO2.out]; kernel_rfl) (by rw [HQ2.out]; exact fun _ _ _ h => h) (Or.inl ⟨by first | rfl | (rw [HO2.out]; kernel_rfl), ?_⟩) hS ?_
  · intro w' hSw
    go_simp
  try simp only [Act.put, List.setIfInBounds_toArray, List.set_cons_zero, List.set_cons_succ]
  refine wpAnyH_take (i := 21) (v := .bool true) (by rw [HO2.out]; simp only [List.getElem?_toArray, List.getElem?_cons_succ, List.getElem?_cons_zero]; rfl) (by rw [HO2.out]; kernel_rfl) (by rw [HO2.out]; kernel_rfl) (by rw [HO2.out]; kernel_rfl) (by rw [HQ2.out]; exact fun _ _ _ h => h) (Or.inl ⟨by first | rfl | (rw [HO2.out]; kernel_rfl), ?_⟩) hS ?_
  · intro w' hSw
    go_simp
  try simp only [Act.put, List.setIfInBounds_toArray, List.set_cons_zero, List.set_cons_succ]
  refine wpAnyH_one (i := 22) (x := 91) (R := fun v _ => v = .bool true) (by rw [HO2.out]; simp only [List.getElem?_toArray, List.getElem?_cons_succ, List.getElem?_cons_zero]; rfl) (by rw [HO2.out]; kernel_rfl) hS ?_ ?_
  · intro K hK
    simp only [Act.put, List.setIfInBounds_toArray, List.set_cons_zero, List.set_cons_succ] at hK
    unfold Steps
    rw [if_pos (by rw [HO2.out]; kernel_rfl)]
    go_simp
    refine (HA _ (HVW.out _ hS)).mono ?_
    rintro e w9 ⟨rfl, hb9⟩
    exact hK _ _ rfl hb9
  rintro v9 w9 hv9 hb9 hS9
  obtain rfl := hv9
  clear hb9
  replace hS := hS9
  clear hS9
  try simp only [Act.put, List.setIfInBounds_toArray, List.set_cons_zero, List.set_cons_succ]
  refine wpAnyH_take (i := 23) (v := .bool true) (by rw [HO2.out]; simp only [List.getElem?_toArray, List.getElem?_cons_succ, List.getElem?_cons_zero]; rfl) (by rw [HO2.out]; kernel_rfl) (by rw [HO2.out]; kernel_rfl) (by rw [HO2.out]; kernel_rfl) (by rw [HQ2.out]; exact fun _ _ _ h => h) (Or.inl ⟨by first | rfl | (rw [HO2.out]; kernel_rfl), ?_⟩) hS ?_
  · intro w' hSw
    go_simp
  try simp only [Act.put, List.setIfInBounds_toArray, List.set_cons_zero, List.set_cons_succ]
  refine wpAnyH_take (i := 24) (v := .bool true) (by rw [HO2.out]; simp only [List.getElem?_toArray, List.getElem?_cons_succ, List.getElem?_cons_zero]; rfl) (by rw [HO2.out]; kernel_rfl) (by rw [HO2.out]; kernel_rfl) (by rw [HO2.out]; kernel_rfl) (by rw [HQ2.out]; exact fun _ _ _ h => h) (Or.inl ⟨by first | rfl | (rw [HO2.out]; kernel_rfl), ?_⟩) hS ?_
  · intro w' hSw
    go_simp
  try simp only [Act.put, List.setIfInBounds_toArray, List.set_cons_zero, List.set_cons_succ]
  refine wpAnyH_done (by rw [HO2.out]; kernel_rfl) ?_ _
  rw [HQ2.out]
  refine NoPanic.normal ?_
  go_wp2
  go_ret
  exact ⟨rfl, HBW.out _ hS⟩
theorem ba_eq {x y : ByteArray} (h : x.data.toList = y.data.toList) : x = y := by cases x; cases y; simp at h; subst h; rfl
theorem vv_inj {k n k' n' : Int} {s s' : ByteArray} (h : vv k n s = vv k' n' s') : k = k' ∧ n = n' ∧ s = s' := by
  unfold vv at h; simp at h; exact h
theorem apart_text {k n k' n' : Int} {s s' : ByteArray} (h0 : 0 ≤ k) (h0' : 0 ≤ k') (hc : chkE k n s.data.toList = 0) (hc' : chkE k' n' s'.data.toList = 0) (hd : ¬ (k = k' ∧ n = n' ∧ s = s')) : ((txtS k n s).toList == (txtS k' n' s').toList) = false := by
  rw [beq_eq_false_iff_ne]
  intro e
  rw [Go.ByteArray.toList_eq, Go.ByteArray.toList_eq] at e
  have e' : txtS k n s = txtS k' n' s' := (by
    have : ∀ x y : ByteArray, x.data.toList = y.data.toList → x = y := fun x y h => by cases x; cases y; simp at h; subst h; rfl
    exact this _ _ e)
  have a := parse_text h0 hc
  rw [e', parse_text h0' hc'] at a
  simp at a
  obtain ⟨r1, r2, r3⟩ := vv_inj a
  exact hd ⟨r1.symm, r2.symm, r3.symm⟩
theorem apart_take {k n k' n' : Int} {s s' : ByteArray} (h0 : 0 ≤ k) (h0' : 0 ≤ k') (hc : chkE k n s.data.toList = 0) (hc' : chkE k' n' s'.data.toList = 0) (hd : ¬ (k = k' ∧ n = n' ∧ s = s')) (m : Nat) : (putL13 k' n' s').take m ≠ putL13 k n s := by
  intro e
  have a := get_put13 h0 hc ((putL13 k' n' s').drop m)
  have b := get_put13 h0' hc' []
  rw [← e, List.take_append_drop] at a
  rw [List.append_nil, a] at b
  simp at b
  obtain ⟨r1, r2, r3⟩ := vv_inj b.1
  exact hd ⟨r1, r2, r3⟩
theorem walk (k0 n0 : Int) (s0 : ByteArray) (k1 n1 : Int) (s1 : ByteArray) (w : World) (hV : Vars w) (w0 : WfV k0 n0 s0) (w1 : WfV k1 n1 s1) : Calls Tryd.prog 8 #[vv k0 n0 s0, vv k1 n1 s1] w fun e w' => e = .returned (.bool true) ∧ Below w.heap.size w w' := by
  by_cases g0 : 200 < s0.size
  · exact walk_a k0 n0 s0 k1 n1 s1 w hV w0 w1 g0
  by_cases g1 : 200 < s1.size
  · exact walk_b k0 n0 s0 k1 n1 s1 w hV w0 w1 g0 g1
  by_cases c0 : chkE k0 n0 s0.data.toList = 0
  · by_cases c1 : chkE k1 n1 s1.data.toList = 0
    · obtain ⟨hk0, hk0', hn0, hn0', hs0⟩ := w0
      obtain ⟨hk1, hk1', hn1, hn1', hs1⟩ := w1
      unfold maxLen at hs0 hs1
      have C0 : ∀ W, Vars W → Calls Tryd.prog 14 #[.agg #[.int .u8 k0, .int .i64 n0, .string s0]] W fun e w' => e = .returned (.int .i64 0) ∧ Below W.heap.size W w' := fun W hv => by
        have := chk_any k0 n0 s0 W (by omega) (by omega) (by omega) hv
        rw [c0] at this; exact this
      have P0 : ∀ W, Vars W → Calls Tryd.prog 24 #[.agg #[.int .u8 k0, .int .i64 n0, .string s0]] W fun e w' => ∃ v, e = .returned (.tuple #[v, .int .i64 0]) ∧ Own w' W.heap.size v (putL13 k0 n0 s0) ∧ Below W.heap.size W w' := fun W hv => by
        have := put_any13 k0 n0 s0 W (by omega) (by omega) (by omega) hv
        unfold PutPost at this
        rw [c0] at this; exact this
      have T0 : ∀ W, Vars W → Calls Tryd.prog 16 #[.agg #[.int .u8 k0, .int .i64 n0, .string s0]] W fun e w' => e = .returned (.string (txtS k0 n0 s0)) ∧ Below W.heap.size W w' := fun W hv => text_any13 k0 n0 s0 W (by omega) (by omega) (by omega) hv
      have A0 : Hid (AllB (putL13 k0 n0 s0)) := put_all13 (by omega) (by omega)
      obtain ⟨p0, p0'⟩ := put_pos (n := n0) (s := s0) hk0 c0
      have C1 : ∀ W, Vars W → Calls Tryd.prog 14 #[.agg #[.int .u8 k1, .int .i64 n1, .string s1]] W fun e w' => e = .returned (.int .i64 0) ∧ Below W.heap.size W w' := fun W hv => by
        have := chk_any k1 n1 s1 W (by omega) (by omega) (by omega) hv
        rw [c1] at this; exact this
      have P1 : ∀ W, Vars W → Calls Tryd.prog 24 #[.agg #[.int .u8 k1, .int .i64 n1, .string s1]] W fun e w' => ∃ v, e = .returned (.tuple #[v, .int .i64 0]) ∧ Own w' W.heap.size v (putL13 k1 n1 s1) ∧ Below W.heap.size W w' := fun W hv => by
        have := put_any13 k1 n1 s1 W (by omega) (by omega) (by omega) hv
        unfold PutPost at this
        rw [c1] at this; exact this
      have T1 : ∀ W, Vars W → Calls Tryd.prog 16 #[.agg #[.int .u8 k1, .int .i64 n1, .string s1]] W fun e w' => e = .returned (.string (txtS k1 n1 s1)) ∧ Below W.heap.size W w' := fun W hv => text_any13 k1 n1 s1 W (by omega) (by omega) (by omega) hv
      have A1 : Hid (AllB (putL13 k1 n1 s1)) := put_all13 (by omega) (by omega)
      obtain ⟨p1, p1'⟩ := put_pos (n := n1) (s := s1) hk1 c1
      by_cases hd : k0 = k1 ∧ n0 = n1 ∧ s0 = s1
      · obtain ⟨rfl, rfl, rfl⟩ := hd
        exact m_same k0 n0 s0 w hV _ _ _ (by omega) C0 P0 T0 C0 P0 T0 rfl A0 p0 p0'
      · have HT := apart_text hk0 hk1 c0 c1 hd
        have HG := fun m => str_ne (A1.out.take m) A0.out (apart_take hk0 hk1 c0 c1 hd m)
        have HS := str_ne A0.out A1.out (fun e => apart_take hk0 hk1 c0 c1 hd (putL13 k1 n1 s1).length (by rw [List.take_length]; exact e.symm))
        rcases Nat.lt_or_ge (putL13 k1 n1 s1).length (putL13 k0 n0 s0).length with hle | hle
        · by_cases e1 : k0 = k1
          · subst e1
            by_cases e2 : n0 = n1
            · subst e2
              exact m_sb k0 n0 s0 s1 w hV _ _ _ _ _ _ (fun e => hd ⟨rfl, rfl, by rw [Go.ByteArray.toList_eq, Go.ByteArray.toList_eq] at e; exact ba_eq e⟩) (by omega) (by omega) C0 P0 T0 C1 P1 T1 rfl A0 p0 p0' rfl A1 p1 p1' hle HT HS
            · exact m_nb k0 n0 n1 s0 s1 w hV _ _ _ _ _ _ e2 (by omega) (by omega) C0 P0 T0 C1 P1 T1 rfl A0 p0 p0' rfl A1 p1 p1' hle HT HS
          · exact m_kb k0 n0 k1 n1 s0 s1 w hV _ _ _ _ _ _ e1 (by omega) (by omega) C0 P0 T0 C1 P1 T1 rfl A0 p0 p0' rfl A1 p1 p1' hle HT HS
        · by_cases e1 : k0 = k1
          · subst e1
            by_cases e2 : n0 = n1
            · subst e2
              exact m_sa k0 n0 s0 s1 w hV _ _ _ _ _ _ (fun e => hd ⟨rfl, rfl, by rw [Go.ByteArray.toList_eq, Go.ByteArray.toList_eq] at e; exact ba_eq e⟩) (by omega) (by omega) C0 P0 T0 C1 P1 T1 rfl A0 p0 p0' rfl A1 p1 p1' hle HT HS (HG _)
            · exact m_na k0 n0 n1 s0 s1 w hV _ _ _ _ _ _ e2 (by omega) (by omega) C0 P0 T0 C1 P1 T1 rfl A0 p0 p0' rfl A1 p1 p1' hle HT HS (HG _)
          · exact m_ka k0 n0 k1 n1 s0 s1 w hV _ _ _ _ _ _ e1 (by omega) (by omega) C0 P0 T0 C1 P1 T1 rfl A0 p0 p0' rfl A1 p1 p1' hle HT HS (HG _)
    · exact walk_d k0 n0 s0 k1 n1 s1 w hV w0 w1 g0 g1 c0 c1
  · exact walk_c k0 n0 s0 k1 n1 s1 w hV w0 w1 g0 g1 c0
set_option maxRecDepth 100000 in
theorem lifted (os : Os) (started : os.Started) (H : Type) (enc : TypeId × Value → H) :
    ReturnsInHanded {} Tryd.checked os 8 .any (fun w args => (Rows.valueApartSpec.pre enc Tryd.prog Tryd.f8 Rows.valueApartRow.domain false w args ∧ laidMet Tryd.prog laids w) ∧ sizedMet enc Tryd.prog Tryd.f8 (OpenSpec.ofChange Rows.valueApartSpec) false w args)
      (Rows.valueApartSpec.post enc Tryd.prog Tryd.f8 false true false false) := by
  refine returnsInHanded_of_change_and (C := Tryd.checked) (X := fun w _ => laidMet Tryd.prog laids w) (fun _ _ _ hh h => h.of_heap hh) own started (by kernel_rfl) Tryd.func8
    (ChangeSpec.witness_at (enc := enc) (C := Tryd.checked) (os := os) (X := fun w _ => laidMet Tryd.prog laids w) false (laidWorld os) #[.agg #[.int .u8 0, .int .i64 0, .string ByteArray.empty], .agg #[.int .u8 0, .int .i64 0, .string ByteArray.empty]] 8 rfl (by kernel_rfl) (by kernel_rfl) (by kernel_rfl) (by kernel_rfl) (by kernel_rfl) (laidWorld_met os _)) ?_
  intro W base args ds gs before hval0 hW _ hsz0 hL _
  have hval : ∀ (j : Nat) t v, Tryd.f8.params[j]? = some t → args[j]? = some v → Value.okWide Tryd.prog W .any base t v := hval0
  have hW' := hW
  obtain ⟨p, q, hA0, hV, rfl, hfz, hnd⟩ := hW
  have hA : DataW.TrodAll enc Tryd.prog W 0 (fun _ => true) true Tryd.f8.params.toList args.toList ds p := hA0
  rw [Tryd.params8] at hA hval
  have hVars := vars_of hL
  obtain ⟨v0, vs0, d'0, ds0, q0, r'0, hargs, rfl, rfl, h0, r0⟩ := trodAll_cons hA
  obtain ⟨v1, vs1, d'1, ds1, q1, r'1, rfl, rfl, rfl, h1, r1⟩ := trodAll_cons r0
  obtain ⟨rfl, rfl, rfl⟩ := trodAll_nil r1
  obtain rfl : args = #[v0, v1] := by cases args; simp_all
  obtain ⟨rfl, rfl⟩ := trodVars_none hV
  have k0' := h0
  have lt0 : ∀ x ∈ q0, x.block < W.heap.size := by obtain ⟨m, hm⟩ := k0'; exact DataW.trod_lt m _ _ _ hm
  obtain ⟨k0, n0, s0, rfl, w0⟩ := open_v (hval 0 23 v0 rfl rfl) h0
  have k1' := h1
  have lt1 : ∀ x ∈ q1, x.block < W.heap.size := by obtain ⟨m, hm⟩ := k1'; exact DataW.trod_lt m _ _ _ hm
  obtain ⟨k1, n1, s1, rfl, w1⟩ := open_v (hval 1 23 v1 rfl rfl) h1
  clear hA0 hval0
  refine (walk k0 n0 s0 k1 n1 s1 W hVars w0 w1).mono fun e W' ⟨he, bel⟩ => ?_
  subst he
  exact ⟨_, rfl, _, _, _, [], _, [], hW', trodAll_mk1 (shut_bool Tryd.underlying4 _), (trodAll_cons_mk (Below.trod laidOut (by kernel_rfl) (of_decide_eq_true (by kernel_rfl)) k0' bel lt0) (trodAll_cons_mk (Below.trod laidOut (by kernel_rfl) (of_decide_eq_true (by kernel_rfl)) k1' bel lt1) trodAll_mk0)), rfl, bel.frame _, fun h => by cases h⟩

theorem over : Rows.valueApartRow.holds Tryd.pinned (OpenSpec.ofChange Rows.valueApartSpec) :=
  OpenClaim.holds_of_wide 8 Tryd.f8 rfl rfl rfl rfl rfl rfl rfl ⟨rfl, rfl, rfl, rfl, rfl⟩ rfl rfl rfl rfl rfl (by kernel_rfl) Tryd.func8 (by kernel_rfl)
    (of_decide_eq_true (by kernel_rfl)) (by unfold Func.isWrapper; first | (rw [if_pos (by decide +kernel)]; kernel_rfl) | (rw [if_neg (by decide +kernel)]; exact ⟨rfl, rfl⟩))
    (fun os started H enc _ => lifted os started H enc)
theorem stand (j : Nat) (t : TypeId) (ht : Tryd.f8.params[j]? = some t) : Tryd.prog.wantsStandIn t = false := by
  rw [Tryd.params8] at ht
  rcases j with _ | j
  · obtain rfl : 23 = t := by simpa using ht
    kernel_rfl
  rcases j with _ | j
  · obtain rfl : 23 = t := by simpa using ht
    kernel_rfl
  simp at ht
end Go.Proofs.YtkpmnncemfeojaaDoor.valueApart

namespace Go.Proofs.YtkpmnncemfeojaaDoor
theorem valueApart_holds : Rows.ValueApartCardSaid :=
  Claim7.holds_tied_plain_at .later [] [.data, .data, .data, .data, .sentinel, .sentinel, .pinned] true (true, "e4d62b0632140ea89e0acb3428217e710b04108508a205674bbccda6bfe6ec4f") true
    valueApart.over (fun _ h => by cases h) (by kernel_rfl) (fun _ h => by cases h) valueApart_row_tie rfl ⟨rfl, rfl⟩ (by kernel_rfl) rfl
    (fun f fn hf hfn => by
      obtain rfl : f = 8 := Option.some.inj ((show Tryd.prog.funcNamed Rows.valueApartRow.func = some 8 by kernel_rfl).symm.trans hf) |>.symm
      obtain rfl : fn = Tryd.f8 := (Option.some.inj (Tryd.func8.symm.trans hfn)).symm
      exact ⟨by kernel_rfl, valueApart.stand⟩)
    (by kernel_rfl)
#print axioms valueApart_holds
end Go.Proofs.YtkpmnncemfeojaaDoor
