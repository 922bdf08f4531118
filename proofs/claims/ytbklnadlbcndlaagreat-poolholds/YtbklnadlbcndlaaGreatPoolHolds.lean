/- For every number of frames and every pages got the call PoolHolds of the statements returns true and its arguments read as they did: no condition. -/
import Derived.Test.YtbklnadlbcndlaaGreatM23
import Derived.Test.YtbklnadlbcndlaaGreatM24
import Derived.Test.YtbklnadlbcndlaaGreatRows
import Derived.WalkKit
import Derived.ProofKit
import Derived.OpenShut
import Derived.ShutString
import Derived.ChangeOld
import Derived.Below
namespace Go.Proofs.YtbklnadlbcndlaaGreat.poolHolds
open Go.ChangeShapes Go.WideShapes Go.ChangeAt Go.RowKit
set_option linter.unusedVariables false
set_option linter.unusedSimpArgs false
set_option maxRecDepth 20000

theorem own : ownKnob Tryz.prog.godebug = none := by kernel_rfl
theorem laidOut : laidOutB Tryz.prog = true := by kernel_rfl
theorem u8_of {a : Int} (h : (Lit.int .u8 a).wf = true) : 0 ≤ a ∧ a ≤ 255 := by
  simp [Lit.wf] at h
  exact ⟨h.1, h.2⟩
theorem tmod_nat {a : Int} (k : Nat) (hk : 0 < k) (h : 0 ≤ a) : ∃ r : Nat, r < k ∧ Int.tmod a k = r := by
  obtain ⟨n, rfl⟩ := Int.eq_ofNat_of_zero_le h
  exact ⟨n % k, Nat.mod_lt _ hk, by rw [← Int.ofNat_tmod]⟩
set_option maxHeartbeats 800000 in
theorem walk_long (a0 : Int) (a1 : Option Addr) (len1 cap1 : Nat) (y1 : List Int) (w : World) (w0 : (Lit.int .u8 a0).wf = true) (w1 : y1.length = len1 ∧ BV w a1 y1 ∧ (a1 = none → cap1 = 0) ∧ len1 ≤ cap1 ∧ cap1 ≤ 9223372036854775807) (h : 30 < len1) :
    Calls Tryz.prog 6 #[.int .u8 a0, .slice a1 len1 cap1] w fun e w' => e = .returned (.bool true) ∧ Below w.heap.size w w' := by
  have HA := awake_any w
  have hu : 0 ≤ a0 ∧ a0 ≤ 255 := u8_of w0
  have hu1 := hu.1
  have hu2 := hu.2
  clear w0 w1 hu
  have h' : (30 : Int) < len1 := by omega
  go_enter Tryz.func6, Tryz.ntmps6
  go_wp2_with (first | (go_at_call 8; refine HA.mono ?_; rintro e w2 ⟨rfl, hb2⟩; clear HA) | fail)
  go_ret
  exact ⟨rfl, hb2⟩
set_option maxHeartbeats 3200000 in
theorem core (a0 : Int) (a1 : Option Addr) (cap1 len1 : Nat) (w : World) (m : Nat) (hm5 : m < 5) (hnv : Int.tmod a0 5 = m) (hu1 : 0 ≤ a0) (hu2 : a0 ≤ 255) (hle : (len1 : Int) ≤ 30) (hlc : len1 ≤ cap1) (hcc : cap1 ≤ 9223372036854775807)
    (HY : Hid (∀ i, i < len1 → ∃ g off z, a1 = some ⟨g, off, none⟩ ∧ (∃ r : Nat, Int.tmod z 10 = r ∧ r < 10) ∧ 0 ≤ z ∧ z ≤ 255 ∧ ∀ W, Below w.heap.size w W → W.cell? ⟨g, off + i, none⟩ = some (.int .u8 z)))
    (K0 : World → Nat → Nat → Nat → Prop) (K1 : World → Nat → Prop) (KA KB : Nat → Nat → World → Prop) (KC KE KG : Nat → World → Prop)
    (H13 : Hid (Calls Tryz.prog 13 #[.int .i64 100] w fun e w' => ∃ dp nb mb, e = .returned (.pointer (some ⟨dp, 0, none⟩)) ∧ K0 w' dp nb mb))
    (H12 : Hid (∀ w1 dp nb mb, K0 w1 dp nb mb → Calls Tryz.prog 12 #[.pointer (some ⟨dp, 0, none⟩)] w1 fun e w' => ∃ p : Nat, e = .returned (.tuple #[.pointer (some ⟨p, 0, none⟩), .int .i64 0]) ∧ K1 w' p))
    (H14 : Hid (∀ w1 p, K1 w1 p → Calls Tryz.prog 14 #[.pointer (some ⟨p, 0, none⟩), .int .i64 (1 + (m : Int))] w1 fun e w' => ∃ q, e = .returned (.tuple #[.pointer (some ⟨q, 0, none⟩), .int .i64 0]) ∧ KA q 0 w'))
    (H16 : Hid (∀ W q i, KA q i W → i < 10 → Calls Tryz.prog 16 #[.pointer (some ⟨q, 0, none⟩), .int .i64 5, .slice (some ⟨W.heap.size, 0, none⟩) 1 1] (W.alloc (.cells #[.int .u8 (i : Int)] 5)) fun e w' => e = .returned (.tuple #[.int .i64 ((i : Int) + 1), .int .i64 0]) ∧ KA q (i + 1) w'))
    (HAB : Hid (∀ W q, KA q 10 W → KB q 0 W))
    (H19 : Hid (∀ W q j, KB q j W → j < m → Calls Tryz.prog 19 #[.pointer (some ⟨q, 0, none⟩), .int .i64 ((j : Int) + 1)] W fun e w' => e = .returned (.int .i64 0) ∧ KB q (j + 1) w'))
    (HBC : Hid (∀ W q, KB q m W → KC q W))
    (HCE : Hid (∀ W q, KC q W → Below w.heap.size w W))
    (H15 : Hid (∀ W q (r : Nat), KC q W → r < 10 → Calls Tryz.prog 15 #[.pointer (some ⟨q, 0, none⟩), .int .i64 (1 + (r : Int))] W fun e w' => ∃ kd a l c, e = .returned (.tuple #[.int .i64 kd, .slice a l c, .int .i64 0]) ∧ KC q w'))
    (H24 : Hid (∀ W q, KC q W → Calls Tryz.prog 24 #[.pointer (some ⟨q, 0, none⟩)] W fun e w' => ∃ a l c, e = .returned (.slice a l c) ∧ m ≤ l ∧ l ≤ m + 1 ∧ l ≤ c ∧ Hid (∀ W, Below w'.heap.size w' W → ∀ j, j < m → ∃ g off, a = some ⟨g, off, none⟩ ∧ W.cell? ⟨g, off + j, none⟩ = some (.int .i64 ((j : Int) + 1))) ∧ KC q w'))
    (H19b : Hid (∀ W q, KC q W → Calls Tryz.prog 19 #[.pointer (some ⟨q, 0, none⟩), .int .i64 (1 + (m : Int))] W fun e w' => e = .returned (.int .i64 0) ∧ KE q w'))
    (H15b : Hid (∀ W q, KE q W → Calls Tryz.prog 15 #[.pointer (some ⟨q, 0, none⟩), .int .i64 (1 + (m : Int) + 1)] W fun e w' => ∃ kd a l c, e = .returned (.tuple #[.int .i64 kd, .slice a l c, .int .i64 14]) ∧ KE q w'))
    (H16b : Hid (∀ W q, KE q W → Calls Tryz.prog 16 #[.pointer (some ⟨q, 0, none⟩), .int .i64 5, .slice none 0 0] W fun e w' => e = .returned (.tuple #[.int .i64 0, .int .i64 14]) ∧ KE q w'))
    (H20 : Hid (∀ W q, KE q W → Calls Tryz.prog 20 #[.pointer (some ⟨q, 0, none⟩), .int .i64 (1 + (m : Int))] W fun e w' => e = .returned (.int .i64 0) ∧ KG q w'))
    (H20b : Hid (∀ W q, KG q W → Calls Tryz.prog 20 #[.pointer (some ⟨q, 0, none⟩), .int .i64 (1 + (m : Int))] W fun e w' => e = .returned (.int .i64 15) ∧ KG q w'))
    (H18 : Hid (∀ W q, KG q W → Calls Tryz.prog 18 #[.pointer (some ⟨q, 0, none⟩), .int .i64 (1 + (m : Int))] W fun e w' => e = .returned (.int .i64 0) ∧ Below w.heap.size w w')) :
    Calls Tryz.prog 6 #[.int .u8 a0, .slice a1 len1 cap1] w fun e w' => e = .returned (.bool true) ∧ Below w.heap.size w w' := by
  have HA := awake_any
  have HM5 : Hid (m < 5) := hm5
  have hm5' : (m : Int) < 5 := by omega
  clear hm5
  go_enter Tryz.func6, Tryz.ntmps6
  go_wp2_with (first
    | (go_at_call 13; refine H13.out.mono ?_; rintro e w1 ⟨dp, nb, mb, rfl, h1⟩; have M1 : Hid (K0 w1 dp nb mb) := h1; clear h1 H13)
    | (go_at_call 12; refine (H12.out _ _ _ _ M1.out).mono ?_; rintro e w2 ⟨p2, rfl, h2⟩; have M2 : Hid (K1 w2 p2) := h2; clear h2 H12 M1)
    | (go_at_call 14; refine (H14.out _ _ M2.out).mono ?_; rintro e w3 ⟨q, rfl, h3⟩; have M3 : Hid (KA q 0 w3) := h3; clear h3 H14 M2)
    | fail)
  go_loopw [10] (fun iv wr => ∃ i : Nat, i ≤ 10 ∧ iv = .int .i64 i ∧ Hid (KA q i wr)) (fun iv _ => 10 - (iOf iv).toNat)
  case atStart => exact ⟨0, Nat.zero_le _, rfl, M3⟩
  case round =>
    clear M3
    obtain ⟨i, hi, rfl, HS⟩ := hrel
    by_cases hlt : i < 10
    · have hlt' : (i : Int) < 10 := by omega
      go_wp2_with (first
        | (go_at_call 16; refine (H16.out _ _ i HS.out hlt).mono ?_; rintro e w4 ⟨rfl, h4⟩; have M4 : Hid (KA q (i + 1) w4) := h4; clear h4)
        | fail)
      go_roundw
      case rel => exact ⟨i + 1, by omega, by go_num, M4⟩
      case measure => simp [iOf]; omega
    · have hi10 : i = 10 := by omega
      have HX0 : Hid (KB q 0 wr) := HAB.out _ _ (by have := HS.out; rw [hi10] at this; exact this)
      have hge : ¬ ((i : Int) < 10) := by omega
      clear HS H16 hi10 hlt
      go_wp2_with fail
      have hl1 : ∀ j : Nat, j ≤ m → (j : Int) < 6 := fun j hj => by omega
      go_loopw [13] (fun iv wr => ∃ j : Nat, j ≤ m ∧ iv = .int .i64 ((j : Int) + 1) ∧ Hid (KB q j wr)) (fun iv _ => 10 - (iOf iv).toNat)
      case atStart => exact ⟨0, Nat.zero_le _, rfl, HX0⟩
      case round =>
        clear HX0
        obtain ⟨j, hj, rfl, HJ⟩ := hrel
        by_cases hlt : j < m
        · have hlt' : (j : Int) + 1 < 1 + (m : Int) := by omega
          have hj6 : (j : Int) < 6 := by omega
          go_wp2_with (first
            | (go_at_call 19; refine (H19.out _ _ j HJ.out hlt).mono ?_; rintro e w5 ⟨rfl, h5⟩; have M5 : Hid (KB q (j + 1) w5) := h5; clear h5)
            | fail)
          go_roundw
          case rel => exact ⟨j + 1, by omega, by go_num, M5⟩
          case measure => simp [iOf]; omega
        · have hjm : j = m := by omega
          have HC0 : Hid (∀ W, W = wr → KC q W) := fun W hW => by
            have := HJ.out
            rw [hjm] at this
            subst hW
            exact HBC.out _ _ this
          have hge2 : ¬ ((j : Int) + 1 < 1 + (m : Int)) := by omega
          have hj6 : (j : Int) < 6 := by omega
          have HC1 : Hid (KC q wr) := HC0.out _ rfl
          clear HJ H19 hjm hlt HC0
          go_wp2_with fail
          go_loopw [14] (fun iv wr => ∃ i : Nat, i ≤ len1 ∧ iv = .int .i64 (i : Int) ∧ Hid (KC q wr)) (fun iv _ => 40 - (iOf iv).toNat)
          case atStart => exact ⟨0, Nat.zero_le _, rfl, HC1⟩
          case round =>
            clear HC1
            obtain ⟨i2, hi2, rfl, HI2⟩ := hrel
            by_cases hlt2 : i2 < len1
            · obtain ⟨g, off, z, rfl, ⟨r, hr, hr10⟩, hz0, hz1, hcell⟩ := HY.out i2 hlt2
              have cg := hcell _ (HCE.out _ _ HI2.out)
              have hlt2' : (i2 : Int) < len1 := by omega
              have hr10' : (r : Int) < 10 := by omega
              go_wp2_with (first
                | (go_at_call 15; refine (H15.out _ _ r HI2.out hr10).mono ?_; rintro e w6 ⟨kd6, a6, l6, c6, rfl, h6⟩; have M6 : Hid (KC q w6) := h6; clear h6)
                | (go_at_call 24; refine (H24.out _ _ M6.out).mono ?_; rintro e w7 ⟨a7, l7, c7, rfl, hl7, hl7', hc7, HC7, h7⟩; have M7 : Hid (KC q w7) := h7; clear h7)
                | fail)
              clear M6
              obtain ⟨wo, hwo⟩ : ∃ wo, wo = wr := ⟨_, rfl⟩
              subst hwo
              have hlo : (m : Int) ≤ l7 := by omega
              have hhi : ¬ (1 + (m : Int) < l7) := by omega
              go_wp2_with fail
              go_loopw [19] (fun kv wr => ∃ j2 : Nat, j2 ≤ m ∧ kv = .int .i64 ((j2 : Int) + 1) ∧ Hid (KC q wr) ∧ Hid (Below w7.heap.size w7 wr)) (fun kv _ => 10 - (iOf kv).toNat)
              case atStart => exact ⟨0, Nat.zero_le _, rfl, M7, Below.refl _ _⟩
              case round =>
                clear M7
                obtain ⟨j2, hj2, rfl, HJ2, HB2⟩ := hrel
                by_cases hlt3 : j2 < m
                · obtain ⟨g7, off7, rfl, cj⟩ := HC7.out wr HB2.out j2 hlt3
                  have hlt3' : (j2 : Int) + 1 < 1 + (m : Int) := by omega
                  have hj7 : (j2 : Int) < l7 := by omega
                  have hj6b : (j2 : Int) < 6 := by omega
                  have hj8 : ¬ ((l7 : Int) < (j2 : Int) + 1) := by omega
                  go_wp2_with fail
                  go_roundw
                  case rel => exact ⟨j2 + 1, by omega, by go_num, HJ2, HB2⟩
                  case measure => simp [iOf]; omega
                · have hge3 : ¬ ((j2 : Int) + 1 < 1 + (m : Int)) := by omega
                  have hj6b : (j2 : Int) < 6 := by omega
                  go_wp2_with fail
                  go_roundw
                  case rel => exact ⟨i2 + 1, by omega, by go_num, HJ2⟩
                  case measure => simp [iOf]; omega
            · have hge4 : ¬ ((i2 : Int) < len1) := by omega
              clear HY H15 H24
              go_wp2_with (first
                | (go_at_call 19; refine (H19b.out _ _ HI2.out).mono ?_; rintro e w8 ⟨rfl, h8⟩; have M8 : Hid (KE q w8) := h8; clear h8 H19b)
                | (go_at_call 15; refine (H15b.out _ _ M8.out).mono ?_; rintro e w9 ⟨kd9, a9, l9, c9, rfl, h9⟩; have M9 : Hid (KE q w9) := h9; clear h9 H15b M8)
                | (go_at_call 16; refine (H16b.out _ _ M9.out).mono ?_; rintro e w10 ⟨rfl, h10⟩; have M10 : Hid (KE q w10) := h10; clear h10 H16b M9)
                | (go_at_call 20; refine (H20.out _ _ M10.out).mono ?_; rintro e w11 ⟨rfl, h11⟩; have M11 : Hid (KG q w11) := h11; clear h11 H20 M10)
                | (go_at_call 20; refine (H20b.out _ _ M11.out).mono ?_; rintro e w12 ⟨rfl, h12⟩; have M12 : Hid (KG q w12) := h12; clear h12 H20b M11)
                | (go_at_call 18; refine (H18.out _ _ M12.out).mono ?_; rintro e w13 ⟨rfl, h13⟩; have M13 : Hid (Below w.heap.size w w13) := h13; clear h13 H18 M12)
                | (go_at_call 8; refine (HA _).mono ?_; rintro e w14 ⟨rfl, h14⟩; have M14 : Hid (Below w.heap.size w w14) := M13.out.trans (h14.mono M13.out.size); clear h14 HA)
                | fail)
              go_ret
              exact ⟨rfl, M14.out⟩
theorem walk (a0 : Int) (a1 : Option Addr) (len1 cap1 : Nat) (y1 : List Int) (w : World) (w0 : (Lit.int .u8 a0).wf = true) (w1 : y1.length = len1 ∧ BV w a1 y1 ∧ (a1 = none → cap1 = 0) ∧ len1 ≤ cap1 ∧ cap1 ≤ 9223372036854775807) :
    Calls Tryz.prog 6 #[.int .u8 a0, .slice a1 len1 cap1] w fun e w' => e = .returned (.bool true) ∧ Below w.heap.size w w' := by
  by_cases h : 30 < len1
  · exact walk_long a0 a1 len1 cap1 y1 w w0 w1 h
  · have hu : 0 ≤ a0 ∧ a0 ≤ 255 := u8_of w0
    obtain ⟨h1, h2, h3, h4, h5⟩ := w1
    obtain ⟨m, hm, hv⟩ := tmod_nat 5 (by decide) hu.1
    refine core a0 a1 cap1 len1 w m hm hv hu.1 hu.2 (by omega) h4 h5 (fun i hi => ?_) (fun w' dp nb mb => D.Dk w' dp nb mb (D.newS 100) ∧ w.heap.size ≤ dp ∧ w.heap.size ≤ nb ∧ w.heap.size ≤ mb ∧ Below w.heap.size w w') (fun w' p => ∃ k : Pl, k.p = p ∧ Mi w w' k (fmtS (D.newS 100)).2.1 (fmtS (D.newS 100)).2.2 ∧ k.z = []) (fun q i W => SA w q (m + 1) i W) (fun q j W => HX w q (m + 1) (fun fs => fs = sF (m + 1) j) W) (fun q W => HX w q (m + 1) (fun fs => ∃ o, HI m o fs) W) (fun q W => HX w q (m + 1) (AllP (m + 1)) W) (fun q W => HX w q (m + 1) (HI m (some (m + 1))) W)
      (D.new_any 100 w) (fun w1 dp nb mb h => ?_) (fun w1 p h => ?_) (fun W q i h hi => sa_alloc h (by omega) (by omega) hi (0, 0)) (fun W q h => hx_start h (by omega)) (fun W q j h hj => hx_pin h (by omega) (by omega)) (fun W q h => hx_pinned h (by omega)) (fun W q h => h.be)
      (fun W q r h hr => by rw [show (1 : Int) + r = ((r + 1 : Nat) : Int) by omega]; exact hx_get h (r + 1) (by omega) (by omega)) (fun W q h => hx_held h) (fun W q h => by rw [show (1 : Int) + m = (m : Int) + 1 by omega]; exact hx_last h (by omega)) (fun W q h => by rw [show (1 : Int) + m + 1 = (m : Int) + 2 by omega]; exact hx_full_get h (by omega)) (fun W q h => hx_full_alloc h) (fun W q h => by rw [show (1 : Int) + m = (m : Int) + 1 by omega]; exact hx_unpin h) (fun W q h => by rw [show (1 : Int) + m = (m : Int) + 1 by omega]; exact hx_unpin2 h) (fun W q h => by rw [show (1 : Int) + m = (m : Int) + 1 by omega]; exact hx_free h hm)
    · rcases h2 with ⟨hall, h0 | ⟨g, off, rfl, hlt, hc⟩⟩
      · subst h0; simp at h1; omega
      · have hz := hall (y1.getD i 0) (by rw [List.getD_eq_getElem?_getD, List.getElem?_eq_getElem (by omega)]; exact List.getElem_mem _)
        obtain ⟨r, hr1, hr2⟩ := tmod_nat 10 (by decide) hz.1
        refine ⟨g, off, y1.getD i 0, rfl, ⟨r, hr2, hr1⟩, hz.1, hz.2, fun W hW => ?_⟩
        have := hc i (by omega)
        simp only [World.cell?, hW.block g hlt] at this ⊢
        exact this
    · refine (v_format 100 (by decide) ph_0 dp nb mb h).mono ?_
      rintro e w' ⟨k, rfl, hk⟩
      exact ⟨k.p, rfl, k, rfl, hk.out⟩
    · obtain ⟨k, rfl, hk⟩ := h
      rw [show (1 : Int) + m = (m : Int) + 1 by omega]
      refine (v_new ((m : Int) + 1) (by omega) (by omega) hk).mono ?_
      rintro e w' ⟨q, rfl, hp⟩
      exact ⟨q, rfl, sa_zero hp⟩

set_option maxRecDepth 100000 in
theorem lifted (os : Os) (started : os.Started) (H : Type) (enc : TypeId × Value → H) :
    ReturnsInHanded {} Tryz.checked os 6 .any (Rows.poolHoldsSpec.pre6 enc Tryz.prog Tryz.f6 Rows.poolHoldsRow.domain false) (Rows.poolHoldsSpec.post enc Tryz.prog Tryz.f6 false true false false) := by
  refine returnsInHanded_of_change (C := Tryz.checked) own started (by kernel_rfl) Tryz.func6
    (ChangeSpec.witness6 (enc := enc) (C := Tryz.checked) false ⟨#[], #[.int .u8 0, .slice none 0 0], []⟩ 8 (by kernel_rfl) (by kernel_rfl) (by kernel_rfl) (by kernel_rfl)) ?_
  intro W base args ds gs before hval0 hW hcnd _
  have hval : ∀ (j : Nat) t v, Tryz.f6.params[j]? = some t → args[j]? = some v → Value.okWide Tryz.prog W .any base t v := hval0
  have hW' := hW
  obtain ⟨p, q, hA0, hV, rfl, hfz, hnd⟩ := hW
  have hA : DataW.TrodAll enc Tryz.prog W 0 (fun _ => true) true Tryz.f6.params.toList args.toList ds p := hA0
  rw [Tryz.params6] at hA hval
  obtain ⟨v0, vs0, d0, ds0, p0, q0, hargs, rfl, rfl, h0, r0⟩ := trodAll_cons hA
  obtain ⟨v1, vs1, d1, ds1, p1, q1, rfl, rfl, rfl, h1, r1⟩ := trodAll_cons r0
  obtain ⟨rfl, rfl, rfl⟩ := trodAll_nil r1
  obtain rfl : args = #[v0, v1] := by cases args; simp_all
  obtain ⟨rfl, rfl⟩ := trodVars_none hV
  obtain ⟨a0, rfl, rfl, rfl, w0⟩ := open_int Tryz.underlying5 (hval 0 5 v0 rfl rfl) h0
  obtain ⟨a1, len1, cap1, rfl⟩ := okWide_slice Tryz.underlying29 (hval 1 29 v1 rfl rfl)
  have k1 := h1
  have lt1 : ∀ x ∈ p1, x.block < W.heap.size := by obtain ⟨m, hm⟩ := k1; exact DataW.trod_lt m _ _ _ hm
  obtain ⟨y1, w1⟩ : ∃ ys : List Int, ys.length = len1 ∧ BV W a1 ys ∧ (a1 = none → cap1 = 0) ∧ len1 ≤ cap1 ∧ cap1 ≤ 9223372036854775807 := by
    obtain ⟨fuel, hf⟩ := h1
    rcases open_ints Tryz.underlying29 Tryz.underlying5 (by kernel_rfl) hf with ⟨hcs, _⟩ | ⟨x, l, c, zs, hcs, _, hl, hm, hz, _, hcell, hwz⟩
    · simp [Value.cells] at hcs
      obtain ⟨rfl, rfl, rfl⟩ := hcs
      exact D.bytes_in (zs := []) (.inl ⟨rfl, rfl, rfl, rfl⟩)
    · simp [Value.cells] at hcs
      obtain ⟨rfl, rfl, rfl⟩ := hcs
      exact D.bytes_in (.inr ⟨_, rfl, hl, hm, by simpa using hz, hcell, hwz⟩)
  clear hA0 hval0
  refine (walk a0 a1 len1 cap1 y1 W w0 w1).mono fun e W' ⟨he, bel⟩ => ?_
  subst he
  exact ⟨_, rfl, _, _, _, [], _, [], hW', trodAll_mk1 (shut_bool Tryz.underlying4 _), (trodAll_cons_mk (shut_int Tryz.underlying5 w0) (trodAll_cons_mk (Below.trod laidOut (by kernel_rfl) (of_decide_eq_true (by kernel_rfl)) k1 bel lt1) trodAll_mk0)), rfl, bel.frame _, fun h => by cases h⟩

theorem over : Rows.poolHoldsRow.holds Tryz.pinned (OpenSpec.ofChange Rows.poolHoldsSpec) :=
  OpenClaim.holds_of_wide 6 Tryz.f6 rfl rfl rfl rfl rfl rfl rfl ⟨rfl, rfl, rfl, rfl, rfl⟩ rfl rfl rfl rfl rfl (by kernel_rfl) Tryz.func6 (by kernel_rfl)
    (of_decide_eq_true (by kernel_rfl)) (by unfold Func.isWrapper; first | (rw [if_pos (by decide +kernel)]; kernel_rfl) | (rw [if_neg (by decide +kernel)]; exact ⟨rfl, rfl⟩))
    (fun os started H enc _ => lifted os started H enc)
end Go.Proofs.YtbklnadlbcndlaaGreat.poolHolds

namespace Go.Proofs.YtbklnadlbcndlaaGreat
theorem poolHolds_holds : Rows.PoolHoldsSaid := poolHolds.over
#print axioms poolHolds_holds
end Go.Proofs.YtbklnadlbcndlaaGreat
