/- For every program the call ShowParts of the statements returns true and its argument reads as it did: no condition but that the library's listed variables lie as the program's text lays them. -/
import Derived.Test.YtemacdimdpnkeaaDoorP13
import Derived.Test.YtemacdimdpnkeaaDoorP8
import Derived.Test.YtemacdimdpnkeaaDoorP17
import Derived.Test.YtemacdimdpnkeaaDoorP18
import Derived.Test.YtemacdimdpnkeaaDoorP19
import Derived.Test.YtemacdimdpnkeaaDoorP9
import Derived.Test.YtemacdimdpnkeaaDoorRows
import Derived.Test.YtemacdimdpnkeaaDoorCards
import Derived.Test.YtemacdimdpnkeaaDoorTie
import Derived.SevenTiedAt
import Derived.SizedLaws
import Derived.ChangeSame
import Derived.ChangeVars
import Derived.ChangeMaps5
import Derived.JoinedOf
import Derived.JoinedAt
import Derived.RowKit3
import Derived.LaidLaws
import Derived.WalkKit
import Derived.ProofKit
import Derived.OpenShut
import Derived.ShutString
import Derived.ChangeOld
import Derived.Below
namespace Go.Proofs.YtemacdimdpnkeaaDoor.showParts
open Go.ChangeShapes Go.WideShapes Go.ChangeAt Go.RowKit
set_option linter.unusedVariables false
set_option linter.unusedSimpArgs false
set_option maxRecDepth 20000

theorem st_app (a b : Str) : st a ++ st b = st (a ++ b) := by
  rw [← st_of (st a ++ st b)]; congr 1
def clT1 (c : ClassD) : Str := shClass c ++ [10]
def ruT1 (r : RuleD) : Str := shRule svd r ++ [10]
theorem text1 (c : ClassD) : shText svd ⟨[c], []⟩ = clT1 c := by simp [shText, clT1]
theorem text2 (r : RuleD) : shText svd ⟨[], [r]⟩ = ruT1 r := by simp [shText, ruT1]
theorem sub_cs {w : World} {k off i c : Nat} {css : List (List Value)} {y : ClassD} (hS : ReK (fun _ _ => True) w (css.getD i []) y) (hk : k < w.heap.size) (hc : ∀ j, j < 2 → w.cell? ⟨k, off + (i * 2 + j), none⟩ = (css.getD i [])[j]?) (hlt : i < css.length) (hl : css.length ≤ c) (hm : c ≤ 9223372036854775807) :
    ReP (fun _ _ => True) w [.slice (some ⟨k, off + i * 2, none⟩) 1 (c - i), .slice none 0 0] ⟨[y], []⟩ := by
  refine ⟨_, _, rfl, ⟨[css.getD i []], ⟨_, c - i, rfl, by show 1 ≤ c - i; omega, by omega, .inr ⟨k, off + i * 2, rfl, hk, trivial, fun a j ha hj => ?_⟩⟩, ⟨hS, trivial⟩⟩, ⟨[], nil_low, trivial⟩⟩
  obtain rfl : a = 0 := by simp at ha; exact ha
  have h9 := hc j hj
  show _ = (css.getD i [])[j]?
  rw [← h9]
  congr 2
  omega
theorem sub_rs {w : World} {k off i c : Nat} {css : List (List Value)} {y : RuleD} (hS : ReR (fun _ _ => True) w (css.getD i []) y) (hk : k < w.heap.size) (hc : ∀ j, j < 3 → w.cell? ⟨k, off + (i * 3 + j), none⟩ = (css.getD i [])[j]?) (hlt : i < css.length) (hl : css.length ≤ c) (hm : c ≤ 9223372036854775807) :
    ReP (fun _ _ => True) w [.slice none 0 0, .slice (some ⟨k, off + i * 3, none⟩) 1 (c - i)] ⟨[], [y]⟩ := by
  refine ⟨_, _, rfl, ⟨[], nil_low, trivial⟩, ⟨[css.getD i []], ⟨_, c - i, rfl, by show 1 ≤ c - i; omega, by omega, .inr ⟨k, off + i * 3, rfl, hk, trivial, fun a j ha hj => ?_⟩⟩, ⟨hS, trivial⟩⟩⟩
  obtain rfl : a = 0 := by simp at ha; exact ha
  have h9 := hc j hj
  show _ = (css.getD i [])[j]?
  rw [← h9]
  congr 2
  omega
set_option maxHeartbeats 8000000 in
theorem core (a0 b0 : Option Addr) (n0 c0 m0 d0 : Nat) (p : ProgD) (w : World) (hV : Vars w) (h5 : 5 ≤ w.heap.size) (hR : ReP (fun _ _ => True) w [.slice a0 n0 c0, .slice b0 m0 d0] p) (hOk : p.Ok) :
    Calls Tryd.prog 5 #[.agg #[.slice a0 n0 c0, .slice b0 m0 d0]] w fun e w' => e = .returned (.bool true) ∧ Below w.heap.size w w' := by
  have HA : Hid (∀ W, Below w.heap.size w W → Calls Tryd.prog 6 #[] W fun e w' => e = .returned (.bool true) ∧ Below W.heap.size W w') := fun W hb => awake_any W (hV.below hb) (Nat.le_trans h5 hb.size)
  have CL : Hid (∀ W, Below w.heap.size w W → Calls Tryd.prog 9 #[.agg #[.slice a0 n0 c0, .slice b0 m0 d0]] W (SomeL (progL p) W)) := fun W hb => lightB_any _ p W (hR.keep (Stays.below hb))
  have CN : Hid (∀ W, Below w.heap.size w W → Calls Tryd.prog 10 #[.agg #[.slice a0 n0 c0, .slice b0 m0 d0]] W (SomeL (actsN p) W)) := fun W hb => plain_any _ p W (hR.keep (Stays.below hb))
  have HX : Hid (∀ W, Below (w.alloc (.cells #[.slice a0 n0 c0, .slice b0 m0 d0] 34)).heap.size (w.alloc (.cells #[.slice a0 n0 c0, .slice b0 m0 d0] 34)) W → W.cell? ⟨w.heap.size, 0, none⟩ = some (.slice a0 n0 c0) ∧ W.cell? ⟨w.heap.size, 1, none⟩ = some (.slice b0 m0 d0) ∧ w.heap.size < W.heap.size) := fun W hW =>
    ⟨by rw [hW.cell (p := ⟨w.heap.size, 0, none⟩) (by simp)]; simp, by rw [hW.cell (p := ⟨w.heap.size, 1, none⟩) (by simp)]; simp, by have := hW.size; simp at this; omega⟩
  have HR : Hid (ReP (fun _ _ => True) w [.slice a0 n0 c0, .slice b0 m0 d0] p) := hR
  have HOK : Hid p.Ok := hOk
  have HV : Hid (Vars w) := hV
  clear hR hV hOk
  go_enter Tryd.func5, Tryd.ntmps5
  go_wp2_with (first | (go_at_call 9; refine (CL.out _ (bxn _ _)).mono ?_; rintro e w1 ⟨z1, rfl, hl1, hb1⟩; have HL1 : Hid (z1 = true → progL p) := hl1; have B1 : Hid (Below (w.alloc (.cells #[.slice a0 n0 c0, .slice b0 m0 d0] 34)).heap.size (w.alloc (.cells #[.slice a0 n0 c0, .slice b0 m0 d0] 34)) w1) := hb1; obtain ⟨x10, x11, x12⟩ := HX.out _ hb1; clear hl1 hb1) | (go_at_call 10; refine (CN.out _ (bt (bxn _ _) B1.out)).mono ?_; rintro e w2 ⟨z2, rfl, hl2, hb2⟩; have HL2 : Hid (z2 = true → actsN p) := hl2; have B2 : Hid (Below (w.alloc (.cells #[.slice a0 n0 c0, .slice b0 m0 d0] 34)).heap.size (w.alloc (.cells #[.slice a0 n0 c0, .slice b0 m0 d0] 34)) w2) := bt B1.out hb2; obtain ⟨x20, x21, x22⟩ := HX.out _ B2.out; clear hl2 hb2) | (go_at_call 6; refine (HA.out _ (bt (bxn _ _) (by first | exact B2.out | exact B1.out))).mono ?_; rintro e wz ⟨rfl, bz⟩))
  all_goals try (go_ret; exact ⟨rfl, bt (bt (bxn _ _) B2.out) bz⟩)
  all_goals try (go_ret; exact ⟨rfl, bt (bt (bxn _ _) B1.out) bz⟩)
  obtain rfl : z1 = true := by first | assumption | simp_all
  obtain rfl : z2 = true := by first | assumption | simp_all
  simp only [Bool.not_true]
  have HPL : Hid (progL p) := HL1.out rfl
  have HAN : Hid (actsN p) := HL2.out rfl
  have HGP : Hid (gP p) := gP_of HOK.out HPL.out HAN.out
  have HTL : Hid ((shText svd p).length ≤ 20000000) := text_len HPL.out HAN.out
  have HW2 : Hid (Below w.heap.size w w2) := bt (bxn _ _) B2.out
  have HX2 : Hid (∀ W, Below w2.heap.size w2 W → W.cell? ⟨w.heap.size, 0, none⟩ = some (.slice a0 n0 c0) ∧ W.cell? ⟨w.heap.size, 1, none⟩ = some (.slice b0 m0 d0) ∧ w.heap.size < W.heap.size) := fun W hW => HX.out _ (bt B2.out hW)
  obtain ⟨v1, v2, e0, ⟨css1, s1, r1⟩, ⟨css2, s2, r2⟩⟩ := HR.out
  obtain ⟨e1, e2⟩ : v1 = .slice a0 n0 c0 ∧ v2 = .slice b0 m0 d0 := by simpa [eq_comm] using e0
  subst e1; subst e2
  obtain ⟨rfl, l1, m1, q1⟩ := s1.row
  obtain ⟨rfl, l2, m2, q2⟩ := s2.row
  have HLN1 : Hid (css1.length = p.cs.length) := r1.len
  have HLN2 : Hid (css2.length = p.rs.length) := r2.len
  have R1 : Hid (∀ i, i < css1.length → ∃ k off, a0 = some ⟨k, off, none⟩ ∧ k < w.heap.size ∧ ∀ j, j < 2 → w.cell? ⟨k, off + (i * 2 + j), none⟩ = (css1.getD i [])[j]?) := q1
  have R2 : Hid (∀ i, i < css2.length → ∃ k off, b0 = some ⟨k, off, none⟩ ∧ k < w.heap.size ∧ ∀ j, j < 3 → w.cell? ⟨k, off + (i * 3 + j), none⟩ = (css2.getD i [])[j]?) := q2
  have S1 : Hid (∀ i, i < css1.length → ReK (fun _ _ => True) w (css1.getD i []) (p.cs.getD i ⟨[], []⟩)) := fun i hi => r1.at i [] _ (by have := HLN1.out; omega)
  have S2 : Hid (∀ i, i < css2.length → ReR (fun _ _ => True) w (css2.getD i []) (p.rs.getD i ⟨[], [], []⟩)) := fun i hi => r2.at i [] _ (by have := HLN2.out; omega)
  have hcl : css1.length ≤ 20 := by have := HPL.out.1; have := HLN1.out; omega
  have hrl : css2.length ≤ 6 := by have := HPL.out.2.1; have := HLN2.out; omega
  clear q1 q2 r1 r2 s1 s2 e0 HX x10 x11 x12 HL1 HL2 CL CN
  go_loopw [3, 4] (fun v3 v4 wr => ∃ i : Nat, v4 = .int .i64 i ∧ i ≤ css1.length ∧ v3 = .string (st (flI clT1 p.cs i)) ∧ Below w2.heap.size w2 wr) (fun _ v4 _ => (css1.length - intOf v4).toNat)
  case atStart => exact ⟨0, rfl, Nat.zero_le _, by rw [flI_zero]; rfl, Below.refl _ _⟩
  case round =>
    obtain ⟨i, rfl, hi, rfl, hbr⟩ := hrel
    have HBR : Hid (Below w2.heap.size w2 wr) := hbr
    obtain ⟨x0, x1, x2⟩ := HX2.out _ hbr
    have hwr : w.heap.size < wr.heap.size := x2
    clear hbr
    by_cases hlt : i < css1.length
    · have hiz : (i : Int) < css1.length := by omega
      obtain ⟨k, off, rfl, hk, hc⟩ := R1.out i hlt
      obtain ⟨y, hy⟩ : ∃ y, y = p.cs.getD i ⟨[], []⟩ := ⟨_, rfl⟩
      have hS := S1.out i hlt
      rw [← hy] at hS
      have hmem : y ∈ p.cs := by rw [hy]; exact getD_mem _ _ _ (by have := HLN1.out; omega)
      have HNX : Hid (flI clT1 p.cs i ++ clT1 y = flI clT1 p.cs (i + 1)) := by
        show _ = _
        rw [flI_succ clT1 p.cs ⟨[], []⟩ (by have := HLN1.out; omega), ← hy]
      have HLE : Hid ((flI clT1 p.cs i).length + (clT1 y).length ≤ 20000000) := by
        have h1 := flI_le clT1 p.cs (i + 1)
        rw [← HNX.out, List.length_append] at h1
        have h2 := HTL.out
        unfold shText at h2
        rw [List.length_append] at h2
        have h3 : (p.cs.map clT1).flatten = (p.cs.map fun c => shClass c ++ [10]).flatten := rfl
        show _ ≤ 20000000
        rw [h3] at h1
        omega
      have CT := text_any (P := fun _ _ => True) [.slice (some ⟨k, off + i * 2, none⟩) 1 (c0 - i), .slice none 0 0] ⟨[y], []⟩ wr (ReP.keep (Stays.below (HW2.out.trans (HBR.out.mono HW2.out.size))) (sub_cs hS hk hc hlt l1 m1)) (by rw [text1]; have := HLE.out; omega) (fun r hr => by cases hr) (HV.out.below (HW2.out.trans (HBR.out.mono HW2.out.size))) (by omega)
      rw [text1] at CT
      have n1 : (i : Int) + 1 - i = 1 := by omega
      have n2 : ((c0 : Int) - i).toNat = c0 - i := by omega
      have hc1 : (i : Int) + 1 ≤ c0 := by omega
      have hsz1 : ¬ 9223372036854775807 < (st (flI clT1 p.cs i)).size + (st (clT1 y)).size := by rw [st_size, st_size]; have := HLE.out; omega
      have HA1 := st_app (flI clT1 p.cs i) (clT1 y)
      rw [HNX.out] at HA1
      have HA1' : Hid (st (flI clT1 p.cs i) ++ st (clT1 y) = st (flI clT1 p.cs (i + 1))) := HA1
      generalize st (flI clT1 p.cs i) = sa at *
      clear hy hS hc hmem HNX HLE HA1
      go_wp2_with (go_at_call 19; refine CT.mono ?_; rintro e w3 ⟨rfl, hb3⟩; have B3 : Hid (Below w2.heap.size w2 w3) := HBR.out.trans (hb3.mono HBR.out.size); clear hb3 CT)
      go_roundw
      case rel => exact ⟨i + 1, by simp, by omega, congrArg Value.string HA1'.out, B3.out⟩
      case measure => simp [intOf]; omega
    · have hiz : ¬ (i : Int) < css1.length := by omega
      obtain rfl : i = css1.length := by omega
      have eF : flI clT1 p.cs css1.length = (p.cs.map clT1).flatten := by rw [HLN1.out, flI_all]
      rw [eF]
      clear eF
      obtain ⟨wo, hwo⟩ : ∃ wo, wo = wr := ⟨_, rfl⟩
      subst hwo
      go_wp2
      go_loopw [3, 5] (fun v3 v4 wr => ∃ i : Nat, v4 = .int .i64 i ∧ i ≤ css2.length ∧ v3 = .string (st ((p.cs.map clT1).flatten ++ flI ruT1 p.rs i)) ∧ Below w2.heap.size w2 wr) (fun _ v4 _ => (css2.length - intOf v4).toNat)
      case atStart => exact ⟨0, rfl, Nat.zero_le _, by rw [flI_zero, List.append_nil], HBR.out⟩
      case round =>
        obtain ⟨i, rfl, hi2, rfl, hbr⟩ := hrel
        have HBR2 : Hid (Below w2.heap.size w2 wr) := hbr
        obtain ⟨y0, y1, y2⟩ := HX2.out _ hbr
        clear hbr
        by_cases hlt2 : i < css2.length
        · have hiz2 : (i : Int) < css2.length := by omega
          obtain ⟨k, off, rfl, hk, hc⟩ := R2.out i hlt2
          obtain ⟨y, hy⟩ : ∃ y, y = p.rs.getD i ⟨[], [], []⟩ := ⟨_, rfl⟩
          have hS := S2.out i hlt2
          rw [← hy] at hS
          have hmem : y ∈ p.rs := by rw [hy]; exact getD_mem _ _ _ (by have := HLN2.out; omega)
          have HNX : Hid (((p.cs.map clT1).flatten ++ flI ruT1 p.rs i) ++ ruT1 y = (p.cs.map clT1).flatten ++ flI ruT1 p.rs (i + 1)) := by
            show _ = _
            rw [flI_succ ruT1 p.rs ⟨[], [], []⟩ (by have := HLN2.out; omega), ← hy, List.append_assoc]
          have HLE : Hid (((p.cs.map clT1).flatten ++ flI ruT1 p.rs i).length + (ruT1 y).length ≤ 20000000) := by
            have h1 := flI_le ruT1 p.rs (i + 1)
            have h2 : ((p.cs.map clT1).flatten ++ (p.rs.map ruT1).flatten).length ≤ 20000000 := HTL.out
            have h5 := congrArg List.length HNX.out
            simp only [List.length_append] at h5 h2
            show ((p.cs.map clT1).flatten ++ flI ruT1 p.rs i).length + (ruT1 y).length ≤ 20000000
            simp only [List.length_append]
            omega
          have CT := text_any (P := fun _ _ => True) [.slice none 0 0, .slice (some ⟨k, off + i * 3, none⟩) 1 (d0 - i)] ⟨[], [y]⟩ wr (ReP.keep (Stays.below (HW2.out.trans (HBR2.out.mono HW2.out.size))) (sub_rs hS hk hc hlt2 l2 m2)) (by rw [text2]; have := HLE.out; omega) (fun r hr => by rw [List.mem_singleton.1 hr]; exact HGP.out y hmem) (HV.out.below (HW2.out.trans (HBR2.out.mono HW2.out.size))) (by omega)
          rw [text2] at CT
          have n1 : (i : Int) + 1 - i = 1 := by omega
          have n2 : ((d0 : Int) - i).toNat = d0 - i := by omega
          have hc1 : (i : Int) + 1 ≤ d0 := by omega
          have hsz1 : ¬ 9223372036854775807 < (st ((p.cs.map clT1).flatten ++ flI ruT1 p.rs i)).size + (st (ruT1 y)).size := by rw [st_size, st_size]; have := HLE.out; omega
          have HA1 := st_app ((p.cs.map clT1).flatten ++ flI ruT1 p.rs i) (ruT1 y)
          rw [HNX.out] at HA1
          have HA1' : Hid (st ((p.cs.map clT1).flatten ++ flI ruT1 p.rs i) ++ st (ruT1 y) = st ((p.cs.map clT1).flatten ++ flI ruT1 p.rs (i + 1))) := HA1
          generalize st ((p.cs.map clT1).flatten ++ flI ruT1 p.rs i) = sa at *
          clear hy hS hc hmem HNX HLE HA1
          go_wp2_with (go_at_call 19; refine CT.mono ?_; rintro e w3 ⟨rfl, hb3⟩; have B3 : Hid (Below w2.heap.size w2 w3) := HBR2.out.trans (hb3.mono HBR2.out.size); clear hb3 CT)
          go_roundw
          case rel => exact ⟨i + 1, by simp, by omega, congrArg Value.string HA1'.out, B3.out⟩
          case measure => simp [intOf]; omega
        · have hiz2 : ¬ (i : Int) < css2.length := by omega
          obtain rfl : i = css2.length := by omega
          have eF : (p.cs.map clT1).flatten ++ flI ruT1 p.rs css2.length = shText svd p := by rw [HLN2.out, flI_all]; rfl
          rw [eF]
          clear eF
          have CF := text_any (P := fun _ _ => True) [.slice a0 css1.length c0, .slice b0 css2.length d0] p wr (ReP.keep (Stays.below (HW2.out.trans (HBR2.out.mono HW2.out.size))) HR.out) (by have := HTL.out; omega) HGP.out (HV.out.below (HW2.out.trans (HBR2.out.mono HW2.out.size))) (by omega)
          generalize shText svd p = sx at *
          go_wp2_with (first | (go_at_call 19; refine CF.mono ?_; rintro e w3 ⟨rfl, hb3⟩; have B3 : Hid (Below w2.heap.size w2 w3) := HBR2.out.trans (hb3.mono HBR2.out.size); clear hb3 CF) | (go_at_call 6; refine (HA.out _ (HW2.out.trans (B3.out.mono HW2.out.size))).mono ?_; rintro e wz ⟨rfl, bz⟩))
          go_ret
          exact ⟨rfl, bt (HW2.out.trans (B3.out.mono HW2.out.size)) bz⟩
theorem walk (cs0 : List Value) (x0 : ProgD) (w : World) (hV : Vars w) (h5 : 5 ≤ w.heap.size) (w0 : ReP (fun _ _ => True) w cs0 x0 ∧ x0.Ok) : Calls Tryd.prog 5 #[.agg cs0.toArray] w fun e w' => e = .returned (.bool true) ∧ Below w.heap.size w w' := by
  obtain ⟨w0, hok⟩ := w0
  obtain ⟨v0, v0', rfl, r0, r0'⟩ := id w0
  obtain ⟨a0, n0, c0, rfl⟩ := r0.isSl
  obtain ⟨b0, m0, d0, rfl⟩ := r0'.isSl
  exact core _ _ _ _ _ _ x0 w hV h5 w0 hok
set_option maxRecDepth 100000 in
theorem lifted (os : Os) (started : os.Started) (H : Type) (enc : TypeId × Value → H) :
    ReturnsInHanded {} Tryd.checked os 5 .any (fun w args => (Rows.showPartsSpec.pre enc Tryd.prog Tryd.f5 Rows.showPartsRow.domain false w args ∧ laidMet Tryd.prog laids w) ∧ sizedMet enc Tryd.prog Tryd.f5 (OpenSpec.ofChange Rows.showPartsSpec) false w args)
      (Rows.showPartsSpec.post enc Tryd.prog Tryd.f5 false true false false) := by
  refine returnsInHanded_of_change_and (C := Tryd.checked) (X := fun w _ => laidMet Tryd.prog laids w) (fun _ _ _ hh h => h.of_heap hh) own started (by kernel_rfl) Tryd.func5
    (ChangeSpec.witness_at (enc := enc) (C := Tryd.checked) (os := os) (X := fun w _ => laidMet Tryd.prog laids w) false (laidWorld os) #[.agg #[.slice none 0 0, .slice none 0 0]] 8 rfl (by kernel_rfl) (by kernel_rfl) (by kernel_rfl) (by kernel_rfl) (by kernel_rfl) (laidWorld_met os _)) ?_
  intro W base args ds gs before hval0 hW _ hsz0 hL _
  have hval : ∀ (j : Nat) t v, Tryd.f5.params[j]? = some t → args[j]? = some v → Value.okWide Tryd.prog W .any base t v := hval0
  have hW' := hW
  obtain ⟨p, q, hA0, hV, rfl, hfz, hnd⟩ := hW
  have hA : DataW.TrodAll enc Tryd.prog W 0 (fun _ => true) true Tryd.f5.params.toList args.toList ds p := hA0
  rw [Tryd.params5] at hA hval
  have hVars := vars_of hL
  have hFive := five_of hL
  obtain ⟨v0, vs0, d'0, ds0, q0, r'0, hargs, rfl, rfl, h0, r0⟩ := trodAll_cons hA
  obtain ⟨rfl, rfl, rfl⟩ := trodAll_nil r0
  obtain rfl : args = #[v0] := by cases args; simp_all
  obtain ⟨rfl, rfl⟩ := trodVars_none hV
  have k0' := h0
  have lt0 : ∀ x ∈ q0, x.block < W.heap.size := by obtain ⟨m, hm⟩ := k0'; exact DataW.trod_lt m _ _ _ hm
  obtain ⟨cs0, x0, rfl, w0⟩ := arg_prog (hval 0 34 v0 rfl rfl) h0
  clear hA0 hval0
  refine (walk cs0 x0 W hVars hFive w0).mono fun e W' ⟨he, bel⟩ => ?_
  subst he
  exact ⟨_, rfl, _, _, _, [], _, [], hW', trodAll_mk1 (shut_bool Tryd.underlying4 _), (trodAll_cons_mk (Below.trod laidOut (by kernel_rfl) (of_decide_eq_true (by kernel_rfl)) k0' bel lt0) trodAll_mk0), rfl, bel.frame _, fun h => by cases h⟩

theorem over : Rows.showPartsRow.holds Tryd.pinned (OpenSpec.ofChange Rows.showPartsSpec) :=
  OpenClaim.holds_of_wide 5 Tryd.f5 rfl rfl rfl rfl rfl rfl rfl ⟨rfl, rfl, rfl, rfl, rfl⟩ rfl rfl rfl rfl rfl (by kernel_rfl) Tryd.func5 (by kernel_rfl)
    (of_decide_eq_true (by kernel_rfl)) (by unfold Func.isWrapper; first | (rw [if_pos (by decide +kernel)]; kernel_rfl) | (rw [if_neg (by decide +kernel)]; exact ⟨rfl, rfl⟩))
    (fun os started H enc _ => lifted os started H enc)
theorem stand (j : Nat) (t : TypeId) (ht : Tryd.f5.params[j]? = some t) : Tryd.prog.wantsStandIn t = false := by
  rw [Tryd.params5] at ht
  rcases j with _ | j
  · obtain rfl : 34 = t := by simpa using ht
    kernel_rfl
  simp at ht
end Go.Proofs.YtemacdimdpnkeaaDoor.showParts

namespace Go.Proofs.YtemacdimdpnkeaaDoor
theorem showParts_holds : Rows.ShowPartsCardSaid :=
  Claim7.holds_tied_plain_at .later [] [.data, .data, .data, .data, .pinned] true (true, "3b92d108b1ddcc1272640af032ccb9ef2ee98019ba8daa6ce8a69391fe05a110") false
    showParts.over (fun _ h => by cases h) (by kernel_rfl) (fun _ h => by cases h) showParts_row_tie rfl ⟨rfl, rfl⟩ (by kernel_rfl) rfl
    (fun f fn hf hfn => by
      obtain rfl : f = 5 := Option.some.inj ((show Tryd.prog.funcNamed Rows.showPartsRow.func = some 5 by kernel_rfl).symm.trans hf) |>.symm
      obtain rfl : fn = Tryd.f5 := (Option.some.inj (Tryd.func5.symm.trans hfn)).symm
      exact ⟨by kernel_rfl, showParts.stand⟩)
    (by kernel_rfl)
#print axioms showParts_holds
end Go.Proofs.YtemacdimdpnkeaaDoor
