/- For every text the call ParseCut of the statements returns true and its argument reads as it did: no condition but that the library's listed variables lie as the program's text lays them. -/
import Derived.Test.YtdcpfnffckkfcaaGreatDoorM8
import Derived.Test.YtdcpfnffckkfcaaGreatDoorM9
import Derived.Test.YtdcpfnffckkfcaaGreatDoorM17
import Derived.Test.YtdcpfnffckkfcaaGreatDoorRows
import Derived.Test.YtdcpfnffckkfcaaGreatDoorCards
import Derived.Test.YtdcpfnffckkfcaaGreatDoorTie
import Derived.SevenTiedAt
import Derived.SizedLaws
import Derived.ChangeSame
import Derived.ChangeVars
import Derived.ChangeMaps5
import Derived.JoinedOf
import Derived.JoinedAt
import Derived.RowKit3
import Derived.LaidLaws
import Derived.WalkKit
import Derived.ProofKit
import Derived.OpenShut
import Derived.ShutString
import Derived.ChangeOld
import Derived.Below
namespace Go.Proofs.YtdcpfnffckkfcaaGreatDoor.parseCut
open Go.ChangeShapes Go.WideShapes Go.ChangeAt Go.RowKit
set_option linter.unusedVariables false
set_option linter.unusedSimpArgs false
set_option maxRecDepth 20000

theorem prog_lens {w : World} {b0 : Nat} {a1 : Option Addr} {n1 c1 : Nat} {a2 : Option Addr} {n2 c2 : Nat} {p : ProgD} (h : RProg w b0 [.slice a1 n1 c1, .slice a2 n2 c2] p) : n1 = p.cs.length ∧ n2 = p.rs.length := by
  obtain ⟨u1, u2, hu, hc, hr⟩ := h
  obtain ⟨rfl, hu2⟩ := List.cons.inj hu
  obtain ⟨rfl, _⟩ := List.cons.inj hu2
  exact ⟨row_len hc, row_len hr⟩
theorem parP_few {l : List UInt8} (h : (parP l).2 = 0) : (parP l).1.cs.length ≤ 16 ∧ (parP l).1.rs.length ≤ 16 := by
  obtain ⟨-, h2, h3⟩ := parP_ok h
  obtain ⟨ts, -, ht, he⟩ := parT_ok h2
  rw [h3, he]
  unfold tooB at ht
  rw [Bool.or_eq_false_iff, decide_eq_false_iff_not] at ht
  have := ht.2
  dsimp only
  omega
theorem rowAt {w : World} {a : Option Addr} {ts : List TA} (h : TV w a ts) {i : Nat} (hi : i < ts.length) : ∃ g o, a = some ⟨g, o, none⟩ ∧ g < w.heap.size ∧ ∀ j, j < 7 → w.cell? ⟨g, o + (i * 7 + j), none⟩ = (cl7 (ts.getD i ta0))[j]? := by
  rcases h with rfl | ⟨b, off, rfl, hlt, hc⟩
  · simp at hi
  · exact ⟨b, off, rfl, hlt, fun j hj => hc i j hi hj⟩
theorem scA : scanL [41] = ([(tok0 1, 0)], 0, 0) := by decide +kernel
theorem scB : scanL [120] = ([(⟨11, [], 0, 2, 0, [120]⟩, 0)], 0, 0) := by decide +kernel
theorem app_list (s : ByteArray) (l : List UInt8) : (s ++ ⟨l.toArray⟩).data.toList = s.data.toList ++ l := by simp [ByteArray.data_append]
set_option maxHeartbeats 1600000 in
theorem walk_a (s0 : ByteArray) (w : World) (hV : Vars w) (w0 : s0.size ≤ maxLen) (h : 1500 < s0.size) : Calls Tryz.prog 6 #[.string s0] w fun e w' => e = .returned (.bool true) ∧ Below w.heap.size w w' := by
  have HA := awake_any
  have hz : (1500 : Int) < s0.size := by omega
  go_enter Tryz.func6, Tryz.ntmps6
  go_wp2_with (first | (go_at_call 8; refine (HA _ hV).mono ?_; rintro e wz ⟨rfl, bz⟩; clear HA))
  go_ret
  exact ⟨rfl, bz⟩
set_option maxHeartbeats 1600000 in
theorem walk_b (s0 : ByteArray) (w : World) (hV : Vars w) (w0 : s0.size ≤ maxLen) (h : ¬ 1500 < s0.size) (hn : (parP s0.data.toList).2 ≠ 0) : Calls Tryz.prog 6 #[.string s0] w fun e w' => e = .returned (.bool true) ∧ Below w.heap.size w w' := by
  have HA := awake_any
  have hz : ¬ (1500 : Int) < s0.size := by omega
  have C1 := pparse_any s0 w (by omega) hV
  have hnz : ¬ ((parP s0.data.toList).2 : Int) = 0 := by omega
  generalize parP s0.data.toList = G at *
  clear hn
  go_enter Tryz.func6, Tryz.ntmps6
  go_wp2_with (first | (go_at_call 9; refine C1.mono ?_; rintro e w1 ⟨a1, n1, c1, b1, m1, d1, rfl, hR1, hb1⟩; clear C1 hR1) | (go_at_call 8; refine (HA _ ((hV.below hb1).below (bxn _ _))).mono ?_; rintro e wz ⟨rfl, bz⟩; clear HA))
  all_goals first
    | (go_ret; exact ⟨rfl, bt (bt hb1 (bxn _ _)) bz⟩)
    | (exfalso; simp_all; done)
set_option maxHeartbeats 1600000 in
theorem walk_c (s0 : ByteArray) (w : World) (hV : Vars w) (w0 : s0.size ≤ maxLen) (h : ¬ 1500 < s0.size) (hn : (parP s0.data.toList).2 = 0) (hk : (parP s0.data.toList).1.cs.length + (parP s0.data.toList).1.rs.length = 0) : Calls Tryz.prog 6 #[.string s0] w fun e w' => e = .returned (.bool true) ∧ Below w.heap.size w w' := by
  have HA := awake_any
  have hz : ¬ (1500 : Int) < s0.size := by omega
  have C1 := pparse_any s0 w (by omega) hV
  have k1 : (parP s0.data.toList).1.cs.length = 0 := by omega
  have k2 : (parP s0.data.toList).1.rs.length = 0 := by omega
  generalize parP s0.data.toList = G at *
  obtain ⟨G, N⟩ := G
  dsimp only at hn k1 k2
  subst hn
  have HK1 : Hid (G.cs.length = 0) := k1
  have HK2 : Hid (G.rs.length = 0) := k2
  clear hk k1 k2
  go_enter Tryz.func6, Tryz.ntmps6
  go_wp2_with (first | (go_at_call 9; refine C1.mono ?_; rintro e w1 ⟨a1, n1, c1, b1, m1, d1, rfl, hR1, hb1⟩; clear C1; obtain ⟨e1, e2⟩ := prog_lens hR1; have e3 := e1.trans HK1.out; have e4 := e2.trans HK2.out; clear e1 e2; subst e3; subst e4; clear hR1) | (go_at_call 8; refine (HA _ ((hV.below hb1).below (bxn _ _))).mono ?_; rintro e wz ⟨rfl, bz⟩; clear HA))
  go_ret
  exact ⟨rfl, bt (bt hb1 (bxn _ _)) bz⟩
set_option maxHeartbeats 8000000 in
theorem walk_d (s0 : ByteArray) (w : World) (hV : Vars w) (w0 : s0.size ≤ maxLen) (h : ¬ 1500 < s0.size) (hn : (parP s0.data.toList).2 = 0) (hk : 0 < (parP s0.data.toList).1.cs.length + (parP s0.data.toList).1.rs.length) : Calls Tryz.prog 6 #[.string s0] w fun e w' => e = .returned (.bool true) ∧ Below w.heap.size w w' := by
  have HA := awake_any
  have hz : ¬ (1500 : Int) < s0.size := by omega
  have C1 := pparse_any s0 w (by omega) hV
  have C2 := fun W hv => scan_any s0 W (by omega) hv
  obtain ⟨ts, p, hts, hp, hpt⟩ := par_fewer hn hk
  have hse := (parP_ok hn).1
  have hfw := parP_few hn
  have hsl := scan_len s0.data.toList
  rw [hts, lenL] at hsl
  have hxl : (s0.extract 0 p).data.toList = s0.data.toList.take p := by rw [Lib.extract_data]; simp
  rw [lenL] at hp
  have C3 : ∀ W, Vars W → Calls Tryz.prog 9 #[.string (s0.extract 0 p)] W (PaPost W (p0, 17)) := fun W hv => by
    have h := pparse_any (s0.extract 0 p) W (by rw [← lenL, hxl, List.length_take, lenL]; omega) hv
    rw [hxl, hpt] at h; exact h
  have C4 : ∀ W, Vars W → Calls Tryz.prog 9 #[.string (s0 ++ ⟨#[10, 41]⟩)] W (PaPost W (p0, 17)) := fun W hv => by
    have h := pparse_any (s0 ++ ⟨#[10, 41]⟩) W (by rw [ByteArray.size_append]; show s0.size + 2 ≤ _; omega) hv
    rw [app_list s0 [10, 41], par_more hn scA] at h; exact h
  have C5 : ∀ W, Vars W → Calls Tryz.prog 9 #[.string (s0 ++ ⟨#[10, 120]⟩)] W (PaPost W (p0, 17)) := fun W hv => by
    have h := pparse_any (s0 ++ ⟨#[10, 120]⟩) W (by rw [ByteArray.size_append]; show s0.size + 2 ≤ _; omega) hv
    rw [app_list s0 [10, 120], par_more hn scB] at h; exact h
  generalize parP s0.data.toList = G at *
  generalize scanL s0.data.toList = S at *
  obtain ⟨G, N⟩ := G
  obtain ⟨tt, pl, er⟩ := S
  dsimp only at hn hk hts hse hfw
  have HFW : Hid (G.cs.length ≤ 16 ∧ G.rs.length ≤ 16) := hfw
  have hsl2 : ts.length + 1 ≤ s0.size := by simpa using hsl
  have hgt : (ts ++ [(tok0 1, p)]).getD ts.length ta0 = (tok0 1, p) := by simp
  subst hn hts hse
  have hlen : (ts ++ [(tok0 1, p)]).length = ts.length + 1 := by simp
  have HK : Hid (0 < G.cs.length + G.rs.length) := hk
  clear hpt hxl hk hfw hsl
  have tk1 : Hid True := trivial
  have tk3 : Hid True := trivial
  have tk4 : Hid True := trivial
  have tk5 : Hid True := trivial
  go_enter Tryz.func6, Tryz.ntmps6
  go_wp2_with (first | (go_at_call 9; have tku := tk1; clear tku tk1; refine C1.mono ?_; rintro e w1 ⟨a1, n1, c1, b1, m1, d1, rfl, hR1, hb1⟩; clear C1; obtain ⟨e1, e2⟩ := prog_lens hR1; have e3 : n1 = G.cs.length := e1; have e4 : m1 = G.rs.length := e2; have hkz : ¬ ((n1 : Int) + m1 = 0) := (by have := HK.out; omega); have hn16 : n1 ≤ 16 := (by have := HFW.out; omega); have hm16 : m1 ≤ 16 := (by have := HFW.out; omega); clear e1 e2 e3 e4 hR1) | (go_at_call 14; refine (C2 _ ((hV.below hb1).below (bxn _ _))).mono ?_; rintro e w2 ⟨v2, rfl, ho2, hb2⟩; clear C2; obtain ⟨a2, c2, rfl, -, t2, l2, l3, -⟩ := ho2.view; obtain ⟨g2, o2, rfl, hg2, hq2⟩ := rowAt t2 (i := ts.length) (by simp); rw [hgt] at hq2; have q26 : w2.cell? ⟨g2, o2 + ts.length * 7 + 6, none⟩ = some (.int .i64 p) := hq2 6 (by decide); clear hq2; have L2 : Hid ((ts ++ [(tok0 1, p)]).length ≤ c2 ∧ c2 ≤ 9223372036854775807) := ⟨l2, l3⟩; clear ho2 t2 l2 l3) | (go_at_call 9; have tku := tk3; clear tku tk3; refine (C3 _ (((hV.below hb1).below (bxn _ _)).below hb2)).mono ?_; rintro e w3 ⟨a3, n3, c3, b3, m3, d3, rfl, hR3, hb3⟩; clear C3 hR3; have B3 : Hid (Below w.heap.size w w3) := bt (bt (bt hb1 (bxn _ _)) hb2) hb3) | (go_at_call 9; have tku := tk4; clear tku tk4; refine (C4 _ ((hV.below B3.out).below (bxn _ _))).mono ?_; rintro e w4 ⟨a4, n4, c4, b4, m4, d4, rfl, hR4, hb4⟩; clear C4 hR4; have B4 : Hid (Below w.heap.size w w4) := bt (bt B3.out (bxn _ _)) hb4) | (go_at_call 9; have tku := tk5; clear tku tk5; refine (C5 _ ((hV.below B4.out).below (bxn _ _))).mono ?_; rintro e w5 ⟨a5, n5, c5, b5, m5, d5, rfl, hR5, hb5⟩; clear C5 hR5; have B5 : Hid (Below w.heap.size w w5) := bt (bt B4.out (bxn _ _)) hb5) | (go_at_call 8; refine (HA _ ((hV.below B5.out).below (bxn _ _))).mono ?_; rintro e wz ⟨rfl, bz⟩; clear HA))
  go_ret
  exact ⟨rfl, bt (bt B5.out (bxn _ _)) bz⟩
theorem walk (s0 : ByteArray) (w : World) (hV : Vars w) (w0 : s0.size ≤ maxLen) : Calls Tryz.prog 6 #[.string s0] w fun e w' => e = .returned (.bool true) ∧ Below w.heap.size w w' := by
  by_cases h : 1500 < s0.size
  · exact walk_a s0 w hV w0 h
  · by_cases hn : (parP s0.data.toList).2 = 0
    · by_cases hk : (parP s0.data.toList).1.cs.length + (parP s0.data.toList).1.rs.length = 0
      · exact walk_c s0 w hV w0 h hn hk
      · exact walk_d s0 w hV w0 h hn (by omega)
    · exact walk_b s0 w hV w0 h hn
set_option maxRecDepth 100000 in
theorem lifted (os : Os) (started : os.Started) (H : Type) (enc : TypeId × Value → H) :
    ReturnsInHanded {} Tryz.checked os 6 .any (fun w args => (Rows.parseCutSpec.pre enc Tryz.prog Tryz.f6 Rows.parseCutRow.domain false w args ∧ laidMet Tryz.prog laids w) ∧ sizedMet enc Tryz.prog Tryz.f6 (OpenSpec.ofChange Rows.parseCutSpec) false w args)
      (Rows.parseCutSpec.post enc Tryz.prog Tryz.f6 false true false false) := by
  refine returnsInHanded_of_change_and (C := Tryz.checked) (X := fun w _ => laidMet Tryz.prog laids w) (fun _ _ _ hh h => h.of_heap hh) own started (by kernel_rfl) Tryz.func6
    (ChangeSpec.witness_at (enc := enc) (C := Tryz.checked) (os := os) (X := fun w _ => laidMet Tryz.prog laids w) false (laidWorld os) #[.string ByteArray.empty] 8 rfl (by kernel_rfl) (by kernel_rfl) (by kernel_rfl) (by kernel_rfl) (by kernel_rfl) (laidWorld_met os _)) ?_
  intro W base args ds gs before hval0 hW _ hsz0 hL _
  have hval : ∀ (j : Nat) t v, Tryz.f6.params[j]? = some t → args[j]? = some v → Value.okWide Tryz.prog W .any base t v := hval0
  have hW' := hW
  obtain ⟨p, q, hA0, hV, rfl, hfz, hnd⟩ := hW
  have hA : DataW.TrodAll enc Tryz.prog W 0 (fun _ => true) true Tryz.f6.params.toList args.toList ds p := hA0
  rw [Tryz.params6] at hA hval
  have hVars := vars_of hL
  obtain ⟨v0, vs0, d'0, ds0, q0, r'0, hargs, rfl, rfl, h0, r0⟩ := trodAll_cons hA
  obtain ⟨rfl, rfl, rfl⟩ := trodAll_nil r0
  obtain rfl : args = #[v0] := by cases args; simp_all
  obtain ⟨rfl, rfl⟩ := trodVars_none hV
  obtain ⟨s0, rfl, rfl, rfl, w0⟩ := Go.ChangeMaps.open_string Tryz.underlying9 (hval 0 9 v0 rfl rfl) h0
  clear hA0 hval0
  refine (walk s0 W hVars w0).mono fun e W' ⟨he, bel⟩ => ?_
  subst he
  exact ⟨_, rfl, _, _, _, [], _, [], hW', trodAll_mk1 (shut_bool Tryz.underlying4 _), (trodAll_cons_mk (Go.ChangeMaps.shut_string Tryz.underlying9 w0) trodAll_mk0), rfl, bel.frame _, fun h => by cases h⟩

theorem over : Rows.parseCutRow.holds Tryz.pinned (OpenSpec.ofChange Rows.parseCutSpec) :=
  OpenClaim.holds_of_wide 6 Tryz.f6 rfl rfl rfl rfl rfl rfl rfl ⟨rfl, rfl, rfl, rfl, rfl⟩ rfl rfl rfl rfl rfl (by kernel_rfl) Tryz.func6 (by kernel_rfl)
    (of_decide_eq_true (by kernel_rfl)) (by unfold Func.isWrapper; first | (rw [if_pos (by decide +kernel)]; kernel_rfl) | (rw [if_neg (by decide +kernel)]; exact ⟨rfl, rfl⟩))
    (fun os started H enc _ => lifted os started H enc)
theorem stand (j : Nat) (t : TypeId) (ht : Tryz.f6.params[j]? = some t) : Tryz.prog.wantsStandIn t = false := by
  rw [Tryz.params6] at ht
  rcases j with _ | j
  · obtain rfl : 9 = t := by simpa using ht
    kernel_rfl
  simp at ht
end Go.Proofs.YtdcpfnffckkfcaaGreatDoor.parseCut

namespace Go.Proofs.YtdcpfnffckkfcaaGreatDoor
theorem parseCut_holds : Rows.ParseCutCardSaid :=
  Claim7.holds_tied_plain_at .later [] [.data, .data, .data, .data, .sentinel, .sentinel, .pinned] true (true, "eac5dfe871dd8c8697ebc408eddb0b9f7814784c1ba684075d0b799b768a7caf") true
    parseCut.over (fun _ h => by cases h) (by kernel_rfl) (fun _ h => by cases h) parseCut_row_tie rfl ⟨rfl, rfl⟩ (by kernel_rfl) rfl
    (fun f fn hf hfn => by
      obtain rfl : f = 6 := Option.some.inj ((show Tryz.prog.funcNamed Rows.parseCutRow.func = some 6 by kernel_rfl).symm.trans hf) |>.symm
      obtain rfl : fn = Tryz.f6 := (Option.some.inj (Tryz.func6.symm.trans hfn)).symm
      exact ⟨by kernel_rfl, parseCut.stand⟩)
    (by kernel_rfl)
#print axioms parseCut_holds
end Go.Proofs.YtdcpfnffckkfcaaGreatDoor
