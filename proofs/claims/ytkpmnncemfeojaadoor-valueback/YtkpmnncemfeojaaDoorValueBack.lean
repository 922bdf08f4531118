/- For every value and every bytes the call ValueBack of the statements returns true and its arguments read as they did: no condition but that the library's listed variables lie as the program's text lays them. -/
import Derived.Test.YtkpmnncemfeojaaDoorRows
import Derived.Test.YtkpmnncemfeojaaDoorCards
import Derived.Test.YtkpmnncemfeojaaDoorTie
import Derived.Test.YtkpmnncemfeojaaDoorArg
import Derived.Test.YtkpmnncemfeojaaDoorRn
import Derived.Test.YtkpmnncemfeojaaDoorAw
import Derived.SevenTiedAt
import Derived.SizedLaws
import Derived.ChangeSame
import Derived.ChangeVars
import Derived.ChangeMaps5
import Derived.JoinedOf
import Derived.JoinedAt
import Derived.RowKit3
import Derived.LaidLaws
import Derived.WalkKit
import Derived.ProofKit
import Derived.OpenShut
import Derived.ShutString
import Derived.ChangeOld
import Derived.Below
import Derived.Test.YtkpmnncemfeojaaDoorVb
namespace Go.Proofs.YtkpmnncemfeojaaDoor.valueBack
open Go.ChangeShapes Go.WideShapes Go.ChangeAt Go.RowKit
set_option linter.unusedVariables false
set_option linter.unusedSimpArgs false
set_option maxRecDepth 20000

set_option maxHeartbeats 1600000 in
theorem walk_a (k0 n0 : Int) (s0 : ByteArray) (a1 : Option Addr) (len1 cap1 : Nat) (y1 : List Int) (w : World) (hV : Vars w) (w0 : WfV k0 n0 s0) (w1 : y1.length = len1 ∧ BV w a1 y1 ∧ (a1 = none → cap1 = 0) ∧ len1 ≤ cap1 ∧ cap1 ≤ 9223372036854775807) (h : 200 < s0.size) : Calls Tryd.prog 6 #[vv k0 n0 s0, .slice a1 len1 cap1] w fun e w' => e = .returned (.bool true) ∧ Below w.heap.size w w' := by
  have HA := awake_any
  obtain ⟨hk0, hk1, hn0, hn1, hs1⟩ := w0
  obtain ⟨hyl, hbv, hnn, hlc, hcm⟩ := w1
  unfold maxLen at hs1
  unfold vv
  have h3 : decide ((200 : Int) < (s0.size : Int)) = true := by simp; omega
  go_enter Tryd.func6, Tryd.ntmps6
  go_wp2_with (first | (go_at_call 9; refine (HA _ (hV.below (box1 _ _))).mono ?_; rintro e wz ⟨rfl, bz⟩; clear HA))
  go_ret
  exact ⟨rfl, bt (box1 _ _) bz⟩
set_option maxHeartbeats 1600000 in
theorem walk_b (k0 n0 : Int) (s0 : ByteArray) (a1 : Option Addr) (len1 cap1 : Nat) (y1 : List Int) (w : World) (hV : Vars w) (w0 : WfV k0 n0 s0) (w1 : y1.length = len1 ∧ BV w a1 y1 ∧ (a1 = none → cap1 = 0) ∧ len1 ≤ cap1 ∧ cap1 ≤ 9223372036854775807) (h : ¬ 200 < s0.size) (h2 : 200 < len1) : Calls Tryd.prog 6 #[vv k0 n0 s0, .slice a1 len1 cap1] w fun e w' => e = .returned (.bool true) ∧ Below w.heap.size w w' := by
  have HA := awake_any
  obtain ⟨hk0, hk1, hn0, hn1, hs1⟩ := w0
  obtain ⟨hyl, hbv, hnn, hlc, hcm⟩ := w1
  unfold maxLen at hs1
  unfold vv
  have h3 : decide ((200 : Int) < (s0.size : Int)) = false := by simp; omega
  have h4 : decide ((200 : Int) < (len1 : Int)) = true := by simp; omega
  go_enter Tryd.func6, Tryd.ntmps6
  go_wp2_with (first | (go_at_call 9; refine (HA _ (hV.below (box1 _ _))).mono ?_; rintro e wz ⟨rfl, bz⟩; clear HA))
  go_ret
  exact ⟨rfl, bt (box1 _ _) bz⟩
theorem nil_own {w : World} {b : Nat} {v : Value} (h : Own w b v []) : ∃ a c, v = .slice a 0 c := by
  obtain ⟨a, c, e, _⟩ := h.view AllB.nil
  exact ⟨a, c, e⟩
set_option maxHeartbeats 4000000 in
theorem walk_c (k0 n0 : Int) (s0 : ByteArray) (a1 : Option Addr) (len1 cap1 : Nat) (y1 : List Int) (w : World) (hV : Vars w) (w0 : WfV k0 n0 s0) (w1 : y1.length = len1 ∧ BV w a1 y1 ∧ (a1 = none → cap1 = 0) ∧ len1 ≤ cap1 ∧ cap1 ≤ 9223372036854775807) (h : ¬ 200 < s0.size) (h2 : ¬ 200 < len1) (hc : chkE k0 n0 s0.data.toList ≠ 0) : Calls Tryd.prog 6 #[vv k0 n0 s0, .slice a1 len1 cap1] w fun e w' => e = .returned (.bool true) ∧ Below w.heap.size w w' := by
  have HA := awake_any
  obtain ⟨hk0, hk1, hn0, hn1, hs1⟩ := w0
  obtain ⟨hyl, hbv, hnn, hlc, hcm⟩ := w1
  unfold maxLen at hs1
  unfold vv
  have h3 : decide ((200 : Int) < (s0.size : Int)) = false := by simp; omega
  have h4 : decide ((200 : Int) < (len1 : Int)) = false := by simp; omega
  have CP : ∀ W, Vars W → Calls Tryd.prog 24 #[.agg #[.int .u8 k0, .int .i64 n0, .string s0]] W fun e w' => ∃ v, e = .returned (.tuple #[v, .int .i64 (chkE k0 n0 s0.data.toList)]) ∧ Own w' W.heap.size v (putL13 k0 n0 s0) ∧ Below W.heap.size W w' := fun W hv => put_any13 k0 n0 s0 W hk0 hk1 (by omega) hv
  have CC : ∀ W, Vars W → Calls Tryd.prog 14 #[.agg #[.int .u8 k0, .int .i64 n0, .string s0]] W fun e w' => e = .returned (.int .i64 (chkE k0 n0 s0.data.toList)) ∧ Below W.heap.size W w' := fun W hv => chk_any k0 n0 s0 W hk0 hk1 (by omega) hv
  have CC2 := CC
  have hpl : putL13 k0 n0 s0 = [] := by unfold putL13; rw [if_pos hc]
  rw [hpl] at CP
  have hne : ((chkE k0 n0 s0.data.toList : Int) != 0) = true := by rw [bne_iff_ne]; exact hc
  generalize chkE k0 n0 s0.data.toList = ce at *
  clear hpl hc hbv hyl hnn hlc
  have K0 := Bk.new w k0 n0 s0
  go_enter Tryd.func6, Tryd.ntmps6
  go_wp2_with (first | (go_at_call 14; refine (CC _ (hV.below (box1 _ _))).mono ?_; rintro e w1 ⟨rfl, hb1⟩; clear CC; have B1 : Hid (Below w.heap.size w w1) := up1 hb1; have K1 : Hid (Bk w1 w.heap.size k0 n0 s0) := K0.below hb1; obtain ⟨x1, x2, x3⟩ := K1.out.cells) | (go_at_call 24; refine (CP _ (hV.below B1.out)).mono ?_; rintro e w2 ⟨v2, rfl, o2, hb2⟩; clear CP; obtain ⟨a2, c2, rfl⟩ := nil_own o2; have B2 : Hid (Below w.heap.size w w2) := bt B1.out hb2; obtain ⟨y1', y2', y3'⟩ := (K1.out.below hb2).cells) | (go_at_call 14; refine (CC2 _ (hV.below B2.out)).mono ?_; rintro e w3 ⟨rfl, hb3⟩; clear CC2; have B3 : Hid (Below w.heap.size w w3) := bt B2.out hb3) | (go_at_call 9; refine (HA _ (hV.below B3.out)).mono ?_; rintro e wz ⟨rfl, bz⟩; clear HA))
  go_ret
  exact ⟨rfl, bt B3.out bz⟩
theorem wp_app_bv {ops : Array Oper} {rest : List Oper} {o : Oper} {a : Act} {Q : Exit → Act → World → Prop} {w : World} (hgd : o.guard = none) (s x : Operand)
    (ho : o.op = .call { callee := .builtin .append, args := #[s, x], argTypes := #[39, 39] }) (base : Nat) (v : Value) (zs ys : List Int) (hs : a.eval s = v) (hown : Own w base v zs)
    (ad : Option Addr) (m cap : Nat) (hx : a.eval x = .slice ad m cap) (hm : ys.length = m) (hv : BV w ad ys) (hn : ad = none → cap = 0) (hlen : zs.length + ys.length ≤ 1000000) (hbase : base ≤ w.heap.size)
    (h : ∀ v' w', Own w' base v' (zs ++ ys) → Below base w w' → wpList Tryd.prog ops Q rest (a.put o.dst v') w') : wpList Tryd.prog ops Q (o :: rest) a w := by
  obtain ⟨i0, hi, hz0, hz1, hz2⟩ := info_parts Tryd.info5
  subst hm
  cases ad with
  | none =>
    obtain rfl := hn rfl
    obtain rfl : ys = [] := slice_some_len hv rfl
    refine wpList_append_own_none hgd s x 39 ho base 5 i0 1 Tryd.underlying39 hi v zs.length (zs.map (Value.int .u8)) hs hown hx ?_
    exact h v w (by simpa using hown) (Below.refl _ _)
  | some ad =>
    refine wpList_append_own w hgd s x 39 ho base 5 i0 (.int .u8 0) 1 1 Tryd.underlying39 hi hz0 hz1 hz2 rfl (by decide) v zs.length (zs.map (Value.int .u8)) hs hown ad ys.length cap (ys.map (Value.int .u8)) hx (by simp) ?_ (u8row _) (by unfold maxLen; omega) (by omega) hbase ?_
    · intro j u hu
      rw [List.getElem?_map] at hu
      obtain ⟨z, hz, rfl⟩ := Option.map_eq_some_iff.1 hu
      have hj := (List.getElem?_eq_some_iff.1 hz).1
      obtain ⟨_, h1 | ⟨b, off, hx, hlt, hc⟩⟩ := hv
      · subst h1; simp at hj
      · obtain rfl := Option.some.inj hx
        rw [add_plain]
        have := hc j hj
        rw [this, List.getD_eq_getElem?_getD, hz]; rfl
    · intro v' w' h1 h2 _
      have ho' : Own w' base v' (zs ++ ys) := by
        unfold Own
        rw [List.length_append, List.map_append]
        exact h1
      exact h v' w' ho' ((Below.refl base w).grown h2 hbase (fun k hk => (World.ownsRow.lt hown k hk).1))
theorem lit0 (w : World) : Own (w.alloc (.cells #[] 5)) w.heap.size (.slice (some ⟨w.heap.size, 0, none⟩) 0 0) [] := World.ownsRow_lit w #[] 0 (Nat.le_refl _) (by decide) rfl
set_option maxHeartbeats 8000000 in
theorem walk_d (k0 n0 : Int) (s0 : ByteArray) (a1 : Option Addr) (len1 cap1 : Nat) (y1 : List Int) (w : World) (hV : Vars w) (w0 : WfV k0 n0 s0) (w1 : y1.length = len1 ∧ BV w a1 y1 ∧ (a1 = none → cap1 = 0) ∧ len1 ≤ cap1 ∧ cap1 ≤ 9223372036854775807) (h : ¬ 200 < s0.size) (h2 : ¬ 200 < len1) (hc : chkE k0 n0 s0.data.toList = 0) : Calls Tryd.prog 6 #[vv k0 n0 s0, .slice a1 len1 cap1] w fun e w' => e = .returned (.bool true) ∧ Below w.heap.size w w' := by
  have HA := awake_any
  obtain ⟨hk0, hk1, hn0, hn1, hs1⟩ := w0
  obtain ⟨hyl, hbv, hnn, hlc, hcm⟩ := w1
  unfold maxLen at hs1
  unfold vv
  have h3 : decide ((200 : Int) < (s0.size : Int)) = false := by simp; omega
  have h4 : decide ((200 : Int) < (len1 : Int)) = false := by simp; omega
  have CP : ∀ W, Vars W → Calls Tryd.prog 24 #[.agg #[.int .u8 k0, .int .i64 n0, .string s0]] W fun e w' => ∃ v, e = .returned (.tuple #[v, .int .i64 (chkE k0 n0 s0.data.toList)]) ∧ Own w' W.heap.size v (putL13 k0 n0 s0) ∧ Below W.heap.size W w' := fun W hv => put_any13 k0 n0 s0 W hk0 hk1 (by omega) hv
  have CC : ∀ W, Vars W → Calls Tryd.prog 14 #[.agg #[.int .u8 k0, .int .i64 n0, .string s0]] W fun e w' => e = .returned (.int .i64 (chkE k0 n0 s0.data.toList)) ∧ Below W.heap.size W w' := fun W hv => chk_any k0 n0 s0 W hk0 hk1 (by omega) hv
  have CT : ∀ W, Vars W → Calls Tryd.prog 16 #[.agg #[.int .u8 k0, .int .i64 n0, .string s0]] W fun e w' => e = .returned (.string (txtS k0 n0 s0)) ∧ Below W.heap.size W w' := fun W hv => text_any13 k0 n0 s0 W hk0 hk1 (by omega) hv
  have htl : (txtS k0 n0 s0).size ≤ 1000000 := by
    unfold txtS
    split
    · decide
    · split
      · obtain ⟨_, q1, q2, _⟩ := chk0 hc
        have := (itoa_len n0 q1 q2).2
        rw [← lenL, data_mk]; omega
      · split
        · omega
        · decide
  have CR : ∀ W, Vars W → Calls Tryd.prog 10 #[.string (txtS k0 n0 s0)] W fun e w' => e = .returned (.tuple #[.agg #[.int .u8 k0, .int .i64 n0, .string s0], .int .i64 0]) ∧ Below W.heap.size W w' := fun W hv => by
    have := parse_any (txtS k0 n0 s0) W htl hv
    rw [parse_text hk0 hc] at this; exact this
  obtain ⟨hp1, hp2⟩ := put_pos hk0 hc
  have HG : Hid (gtA (putL13 k0 n0 s0 ++ y1) = .tuple #[.agg #[.int .u8 k0, .int .i64 n0, .string s0], .int .i64 (putL13 k0 n0 s0).length, .int .i64 0]) := get_put13 hk0 hc y1
  have HU : Hid (gtA ((putL13 k0 n0 s0).take ((putL13 k0 n0 s0).length - 1)) = .tuple #[.agg #[.int .u8 0, .int .i64 0, .string ⟨#[]⟩], .int .i64 0, .int .i64 3]) := get_cut13 hk0 hc
  have HAL : Hid (AllB (putL13 k0 n0 s0)) := put_all13 hk0 hk1
  rw [hc] at CP CC
  generalize txtS k0 n0 s0 = tx at *
  generalize putL13 k0 n0 s0 = pl at *
  clear hc htl
  obtain ⟨pn, hpn⟩ : ∃ pn, pl.length = pn := ⟨_, rfl⟩
  have HPN : Hid (pl.length = pn) := hpn
  rw [hpn] at hp1 hp2 HG HU
  clear hpn
  have HBV : Hid (∀ W, Below w.heap.size w W → BV W a1 y1) := fun W hW => hbv.below hW
  have HYL : Hid (y1.length = len1) := hyl
  clear hbv hyl
  obtain ⟨m, rfl⟩ : ∃ m, pn = m + 1 := ⟨pn - 1, by omega⟩
  have hm1 : m + 1 - 1 = m := by omega
  rw [hm1] at HU
  clear hm1
  have p1 : (0 : Int) ≤ m := by omega
  have p2 : (m : Int) ≤ 29 := by omega
  have p3 : (((m : Int) + 1) == 0) = false := by rw [beq_eq_false_iff_ne]; omega
  have CG : ∀ W B (g c : Nat), Own W B (.slice (some ⟨g, 0, none⟩) (m + 1 + len1) c) (pl ++ y1) → m + 1 + len1 ≤ c → Below w.heap.size w W → Calls Tryd.prog 26 #[.slice (some ⟨g, 0, none⟩) (m + 1 + len1) c] W fun e w' => e = .returned (.tuple #[.agg #[.int .u8 k0, .int .i64 n0, .string s0], .int .i64 ((m : Int) + 1), .int .i64 0]) ∧ Below W.heap.size W w' := fun W B g c ho hgc hW => by
    have hal : AllB (pl ++ y1) := HAL.out.append (HBV.out W hW).1
    obtain ⟨a', c', e, _, hcm', _, _⟩ := ho.view hal
    obtain ⟨rfl, _, rfl⟩ := Value.slice.inj e
    have := get_any13 (some ⟨g, 0, none⟩) (m + 1 + len1) c (pl ++ y1) W (ho.bv hal) (by rw [List.length_append, HPN.out, HYL.out]) (by omega) hgc (by unfold maxLen at hcm'; omega) (by intro h; cases h) (hV.below hW)
    rw [HG.out] at this; exact this
  have CE : ∀ W B (g c : Nat), Own W B (.slice (some ⟨g, 0, none⟩) (m + 1) c) pl → m + 1 ≤ c → Below w.heap.size w W → Calls Tryd.prog 26 #[.slice (some ⟨g, 0, none⟩) m c] W fun e w' => e = .returned (.tuple #[.agg #[.int .u8 0, .int .i64 0, .string ⟨#[]⟩], .int .i64 0, .int .i64 3]) ∧ Below W.heap.size W w' := fun W B g c ho hgc hW => by
    obtain ⟨a', c', e, _, hcm', _, _⟩ := ho.view HAL.out
    obtain ⟨rfl, _, rfl⟩ := Value.slice.inj e
    have := get_any13 (some ⟨g, 0, none⟩) m c (pl.take m) W ((ho.bv HAL.out).take m) (by rw [List.length_take, HPN.out]; omega) (by omega) (by omega) (by unfold maxLen at hcm'; omega) (by intro h; cases h) (hV.below hW)
    rw [HU.out] at this; exact this
  have K0 := Bk.new w k0 n0 s0
  go_enter Tryd.func6, Tryd.ntmps6
  go_wp2_with (first | (go_at_call 14; refine (CC _ (hV.below (box1 _ _))).mono ?_; rintro e w1 ⟨rfl, hb1⟩; clear CC; have B1 : Hid (Below w.heap.size w w1) := up1 hb1; have K1 : Hid (Bk w1 w.heap.size k0 n0 s0) := K0.below hb1; obtain ⟨x1, x2, x3⟩ := K1.out.cells) | (go_at_call 16; refine (CT _ (hV.below B1.out)).mono ?_; rintro e w2 ⟨rfl, hb2⟩; clear CT; have B2 : Hid (Below w.heap.size w w2) := bt B1.out hb2; have K2 : Hid (Bk w2 w.heap.size k0 n0 s0) := K1.out.below hb2) | (go_at_call 10; refine (CR _ (hV.below B2.out)).mono ?_; rintro e w3 ⟨rfl, hb3⟩; clear CR; have B3 : Hid (Below w.heap.size w (w3.alloc (.cells #[.int .u8 k0, .int .i64 n0, .string s0] 23))) := bt (bt B2.out hb3) (box1 _ _); have K3 : Hid (Bk (w3.alloc (.cells #[.int .u8 k0, .int .i64 n0, .string s0] 23)) w.heap.size k0 n0 s0) := (K2.out.below hb3).below (box1 _ _); have J3 : Hid (Bk (w3.alloc (.cells #[.int .u8 k0, .int .i64 n0, .string s0] 23)) w3.heap.size k0 n0 s0) := Bk.new w3 k0 n0 s0; obtain ⟨q1, q2, q3⟩ := K3.out.cells) | (go_at_call 24; refine (CP _ (hV.below B3.out)).mono ?_; rintro e w4 ⟨v4, rfl, o4, hb4⟩; clear CP; obtain ⟨g4, c4, rfl, hg4, _, _⟩ := o4.shape (m + 1) HPN.out (by omega); have B4 : Hid (Below w.heap.size w w4) := bt B3.out hb4; have K4 : Hid (Bk w4 w.heap.size k0 n0 s0) := K3.out.below hb4; have J4 : Hid (Bk w4 w3.heap.size k0 n0 s0) := J3.out.below hb4; obtain ⟨r1, r2, r3⟩ := K4.out.cells; obtain ⟨u1, u2, u3⟩ := J4.out.cells) | (at_builtin; refine wp_app rfl _ _ rfl w4.heap.size _ _ [] pl rfl (lit0 w4) g4 (m + 1) c4 rfl HPN.out (o4.below (box1 w4 _)) (m + 1) (by simp [HPN.out]) (by omega) (by omega) (by simp) ?_; intro g5 c5 w5 o5 hb5; have B5 : Hid (Below w.heap.size w w5) := bt B4.out ((box1 w4 _).trans hb5); have L5 : Hid (Below w4.heap.size w4 w5) := (box1 w4 _).trans hb5; have O5 : Hid (Own w5 w4.heap.size (.slice (some ⟨g5, 0, none⟩) (m + 1) c5) pl) := o5; clear o5) | (at_builtin; refine wp_app_bv rfl _ _ rfl w4.heap.size _ pl y1 rfl O5.out a1 len1 cap1 rfl HYL.out (HBV.out _ B5.out) hnn (by rw [HPN.out, HYL.out]; omega) L5.out.size ?_; intro v6 w6 o6 hb6; obtain ⟨g6, c6, rfl, hg6, _, _⟩ := o6.shape (m + 1 + len1) (by rw [List.length_append, HPN.out, HYL.out]) (by omega); have L6 : Hid (Below w4.heap.size w4 w6) := L5.out.trans hb6; have B6 : Hid (Below w.heap.size w w6) := bt B4.out L6.out) | (go_at_call 26; refine (CG _ _ _ _ o6 hg6 B6.out).mono ?_; rintro e w7 ⟨rfl, hb7⟩; clear CG; have L7 : Hid (Below w4.heap.size w4 (w7.alloc (.cells #[.int .u8 k0, .int .i64 n0, .string s0] 23))) := L6.out.trans ((hb7.mono L6.out.size).alloc (Nat.le_trans L6.out.size hb7.size) _); have B7 : Hid (Below w.heap.size w (w7.alloc (.cells #[.int .u8 k0, .int .i64 n0, .string s0] 23))) := bt B4.out L7.out; have M7 : Hid (Bk (w7.alloc (.cells #[.int .u8 k0, .int .i64 n0, .string s0] 23)) w7.heap.size k0 n0 s0) := Bk.new w7 k0 n0 s0) | (go_at_call 26; refine (CE _ _ _ _ (o4.below L7.out) hg4 B7.out).mono ?_; rintro e w8 ⟨rfl, hb8⟩; clear CE; have L8 : Hid (Below w4.heap.size w4 (w8.alloc (.cells #[.int .u8 0, .int .i64 0, .string ⟨#[]⟩] 23))) := bt (bt L7.out hb8) (box1 _ _); have B8 : Hid (Below w.heap.size w (w8.alloc (.cells #[.int .u8 0, .int .i64 0, .string ⟨#[]⟩] 23))) := bt B4.out L8.out; obtain ⟨d1, d2, d3⟩ := (K4.out.below L8.out).cells; obtain ⟨f1, f2, f3⟩ := ((M7.out.below hb8).below (box1 w8 (.cells #[.int .u8 0, .int .i64 0, .string ⟨#[]⟩] 23))).cells) | (go_at_call 9; refine (HA _ (hV.below B8.out)).mono ?_; rintro e wz ⟨rfl, bz⟩; clear HA))
  go_ret
  exact ⟨rfl, bt B8.out bz⟩
theorem walk (k0 n0 : Int) (s0 : ByteArray) (a1 : Option Addr) (len1 cap1 : Nat) (y1 : List Int) (w : World) (hV : Vars w) (w0 : WfV k0 n0 s0) (w1 : y1.length = len1 ∧ BV w a1 y1 ∧ (a1 = none → cap1 = 0) ∧ len1 ≤ cap1 ∧ cap1 ≤ 9223372036854775807) : Calls Tryd.prog 6 #[vv k0 n0 s0, .slice a1 len1 cap1] w fun e w' => e = .returned (.bool true) ∧ Below w.heap.size w w' := by
  by_cases h : 200 < s0.size
  · exact walk_a k0 n0 s0 a1 len1 cap1 y1 w hV w0 w1 h
  · by_cases h2 : 200 < len1
    · exact walk_b k0 n0 s0 a1 len1 cap1 y1 w hV w0 w1 h h2
    · by_cases hc : chkE k0 n0 s0.data.toList = 0
      · exact walk_d k0 n0 s0 a1 len1 cap1 y1 w hV w0 w1 h h2 hc
      · exact walk_c k0 n0 s0 a1 len1 cap1 y1 w hV w0 w1 h h2 hc
set_option maxRecDepth 100000 in
theorem lifted (os : Os) (started : os.Started) (H : Type) (enc : TypeId × Value → H) :
    ReturnsInHanded {} Tryd.checked os 6 .any (fun w args => (Rows.valueBackSpec.pre enc Tryd.prog Tryd.f6 Rows.valueBackRow.domain false w args ∧ laidMet Tryd.prog laids w) ∧ sizedMet enc Tryd.prog Tryd.f6 (OpenSpec.ofChange Rows.valueBackSpec) false w args)
      (Rows.valueBackSpec.post enc Tryd.prog Tryd.f6 false true false false) := by
  refine returnsInHanded_of_change_and (C := Tryd.checked) (X := fun w _ => laidMet Tryd.prog laids w) (fun _ _ _ hh h => h.of_heap hh) own started (by kernel_rfl) Tryd.func6
    (ChangeSpec.witness_at (enc := enc) (C := Tryd.checked) (os := os) (X := fun w _ => laidMet Tryd.prog laids w) false (laidWorld os) #[.agg #[.int .u8 0, .int .i64 0, .string ByteArray.empty], .slice none 0 0] 8 rfl (by kernel_rfl) (by kernel_rfl) (by kernel_rfl) (by kernel_rfl) (by kernel_rfl) (laidWorld_met os _)) ?_
  intro W base args ds gs before hval0 hW _ hsz0 hL _
  have hval : ∀ (j : Nat) t v, Tryd.f6.params[j]? = some t → args[j]? = some v → Value.okWide Tryd.prog W .any base t v := hval0
  have hW' := hW
  obtain ⟨p, q, hA0, hV, rfl, hfz, hnd⟩ := hW
  have hA : DataW.TrodAll enc Tryd.prog W 0 (fun _ => true) true Tryd.f6.params.toList args.toList ds p := hA0
  rw [Tryd.params6] at hA hval
  have hVars := vars_of hL
  obtain ⟨v0, vs0, d'0, ds0, q0, r'0, hargs, rfl, rfl, h0, r0⟩ := trodAll_cons hA
  obtain ⟨v1, vs1, d'1, ds1, q1, r'1, rfl, rfl, rfl, h1, r1⟩ := trodAll_cons r0
  obtain ⟨rfl, rfl, rfl⟩ := trodAll_nil r1
  obtain rfl : args = #[v0, v1] := by cases args; simp_all
  obtain ⟨rfl, rfl⟩ := trodVars_none hV
  have k0' := h0
  have lt0 : ∀ x ∈ q0, x.block < W.heap.size := by obtain ⟨m, hm⟩ := k0'; exact DataW.trod_lt m _ _ _ hm
  obtain ⟨k0, n0, s0, rfl, w0⟩ := open_v (hval 0 23 v0 rfl rfl) h0
  obtain ⟨a1, len1, cap1, rfl⟩ := okWide_slice Tryd.underlying39 (hval 1 39 v1 rfl rfl)
  have k1' := h1
  have lt1 : ∀ x ∈ q1, x.block < W.heap.size := by obtain ⟨m, hm⟩ := k1'; exact DataW.trod_lt m _ _ _ hm
  obtain ⟨y1, w1⟩ : ∃ ys : List Int, ys.length = len1 ∧ BV W a1 ys ∧ (a1 = none → cap1 = 0) ∧ len1 ≤ cap1 ∧ cap1 ≤ 9223372036854775807 := by
    obtain ⟨fuel, hf⟩ := h1
    rcases open_ints Tryd.underlying39 Tryd.underlying5 (by kernel_rfl) hf with ⟨hcs, _⟩ | ⟨x, l, c, zs, hcs, _, hl, hm, hz, _, hcell, hwz⟩
    · simp [Value.cells] at hcs
      obtain ⟨rfl, rfl, rfl⟩ := hcs
      exact bytes_of (zs := []) (.inl ⟨rfl, rfl, rfl, rfl⟩)
    · simp [Value.cells] at hcs
      obtain ⟨rfl, rfl, rfl⟩ := hcs
      exact bytes_of (.inr ⟨_, rfl, hl, hm, by simpa using hz, hcell, hwz⟩)
  clear hA0 hval0
  refine (walk k0 n0 s0 a1 len1 cap1 y1 W hVars w0 w1).mono fun e W' ⟨he, bel⟩ => ?_
  subst he
  exact ⟨_, rfl, _, _, _, [], _, [], hW', trodAll_mk1 (shut_bool Tryd.underlying4 _), (trodAll_cons_mk (Below.trod laidOut (by kernel_rfl) (of_decide_eq_true (by kernel_rfl)) k0' bel lt0) (trodAll_cons_mk (Below.trod laidOut (by kernel_rfl) (of_decide_eq_true (by kernel_rfl)) k1' bel lt1) trodAll_mk0)), rfl, bel.frame _, fun h => by cases h⟩

theorem over : Rows.valueBackRow.holds Tryd.pinned (OpenSpec.ofChange Rows.valueBackSpec) :=
  OpenClaim.holds_of_wide 6 Tryd.f6 rfl rfl rfl rfl rfl rfl rfl ⟨rfl, rfl, rfl, rfl, rfl⟩ rfl rfl rfl rfl rfl (by kernel_rfl) Tryd.func6 (by kernel_rfl)
    (of_decide_eq_true (by kernel_rfl)) (by unfold Func.isWrapper; first | (rw [if_pos (by decide +kernel)]; kernel_rfl) | (rw [if_neg (by decide +kernel)]; exact ⟨rfl, rfl⟩))
    (fun os started H enc _ => lifted os started H enc)
theorem stand (j : Nat) (t : TypeId) (ht : Tryd.f6.params[j]? = some t) : Tryd.prog.wantsStandIn t = false := by
  rw [Tryd.params6] at ht
  rcases j with _ | j
  · obtain rfl : 23 = t := by simpa using ht
    kernel_rfl
  rcases j with _ | j
  · obtain rfl : 39 = t := by simpa using ht
    kernel_rfl
  simp at ht
end Go.Proofs.YtkpmnncemfeojaaDoor.valueBack

namespace Go.Proofs.YtkpmnncemfeojaaDoor
theorem valueBack_holds : Rows.ValueBackCardSaid :=
  Claim7.holds_tied_plain_at .later [] [.data, .data, .data, .data, .sentinel, .sentinel, .pinned] true (true, "e4d62b0632140ea89e0acb3428217e710b04108508a205674bbccda6bfe6ec4f") true
    valueBack.over (fun _ h => by cases h) (by kernel_rfl) (fun _ h => by cases h) valueBack_row_tie rfl ⟨rfl, rfl⟩ (by kernel_rfl) rfl
    (fun f fn hf hfn => by
      obtain rfl : f = 6 := Option.some.inj ((show Tryd.prog.funcNamed Rows.valueBackRow.func = some 6 by kernel_rfl).symm.trans hf) |>.symm
      obtain rfl : fn = Tryd.f6 := (Option.some.inj (Tryd.func6.symm.trans hfn)).symm
      exact ⟨by kernel_rfl, valueBack.stand⟩)
    (by kernel_rfl)
#print axioms valueBack_holds
end Go.Proofs.YtkpmnncemfeojaaDoor
