/- For every program the call ShowTexts of the statements returns true and its argument reads as it did: no condition but that the library's listed variables lie as the program's text lays them. -/
import Derived.Test.YtemacdimdpnkeaaDoorT13
import Derived.Test.YtemacdimdpnkeaaDoorT8
import Derived.Test.YtemacdimdpnkeaaDoorT17
import Derived.Test.YtemacdimdpnkeaaDoorT18
import Derived.Test.YtemacdimdpnkeaaDoorT19
import Derived.Test.YtemacdimdpnkeaaDoorT9
import Derived.Test.YtemacdimdpnkeaaDoorRows
import Derived.Test.YtemacdimdpnkeaaDoorCards
import Derived.Test.YtemacdimdpnkeaaDoorTie
import Derived.SevenTiedAt
import Derived.SizedLaws
import Derived.ChangeSame
import Derived.ChangeVars
import Derived.ChangeMaps5
import Derived.JoinedOf
import Derived.JoinedAt
import Derived.RowKit3
import Derived.LaidLaws
import Derived.WalkKit
import Derived.ProofKit
import Derived.OpenShut
import Derived.ShutString
import Derived.ChangeOld
import Derived.Below
import Derived.Deep.RegionHeld3
namespace Go.Proofs.YtemacdimdpnkeaaDoor.showTexts
open Go.ChangeShapes Go.WideShapes Go.ChangeAt Go.RowKit
set_option linter.unusedVariables false
set_option linter.unusedSimpArgs false
set_option maxRecDepth 20000

theorem region_join {P : Program} {c : Code} {Q : Exit → Act → World → Prop} {a : Act} {w : World} (R : World → Prop) (h : ∃ A0 : Act, c.wp P (fun e a w => e = .normal ∧ a = A0 ∧ R w) a w ∧ ∀ w, R w → Q .normal A0 w) : c.wp P Q a w := by
  obtain ⟨A0, h1, h2⟩ := h
  refine Code.wp_mono ?_ h1
  rintro e a w ⟨rfl, rfl, h⟩
  exact h2 w h
set_option maxHeartbeats 8000000 in
theorem core (a0 b0 : Option Addr) (n0 c0 m0 d0 : Nat) (p : ProgD) (w : World) (hV : Vars w) (h5 : 5 ≤ w.heap.size) (hR : ReP (fun _ _ => True) w [.slice a0 n0 c0, .slice b0 m0 d0] p) (hOk : p.Ok) :
    Calls Tryd.prog 4 #[.agg #[.slice a0 n0 c0, .slice b0 m0 d0]] w fun e w' => e = .returned (.bool true) ∧ Below w.heap.size w w' := by
  have HA : Hid (∀ W, Below w.heap.size w W → Calls Tryd.prog 6 #[] W fun e w' => e = .returned (.bool true) ∧ Below W.heap.size W w') := fun W hb => awake_any W (hV.below hb) (Nat.le_trans h5 hb.size)
  have CL : Hid (∀ W, Below w.heap.size w W → Calls Tryd.prog 9 #[.agg #[.slice a0 n0 c0, .slice b0 m0 d0]] W (SomeL (progL p) W)) := fun W hb => lightB_any _ p W (hR.keep (Stays.below hb))
  have CN : Hid (∀ W, Below w.heap.size w W → Calls Tryd.prog 10 #[.agg #[.slice a0 n0 c0, .slice b0 m0 d0]] W (SomeL (actsN p) W)) := fun W hb => plain_any _ p W (hR.keep (Stays.below hb))
  have HX : Hid (∀ W, Below (w.alloc (.cells #[.slice a0 n0 c0, .slice b0 m0 d0] 34)).heap.size (w.alloc (.cells #[.slice a0 n0 c0, .slice b0 m0 d0] 34)) W → W.cell? ⟨w.heap.size, 0, none⟩ = some (.slice a0 n0 c0) ∧ W.cell? ⟨w.heap.size, 1, none⟩ = some (.slice b0 m0 d0) ∧ w.heap.size < W.heap.size) := fun W hW =>
    ⟨by rw [hW.cell (p := ⟨w.heap.size, 0, none⟩) (by simp)]; simp, by rw [hW.cell (p := ⟨w.heap.size, 1, none⟩) (by simp)]; simp, by have := hW.size; simp at this; omega⟩
  have HR : Hid (ReP (fun _ _ => True) w [.slice a0 n0 c0, .slice b0 m0 d0] p) := hR
  have HOK : Hid p.Ok := hOk
  have HV : Hid (Vars w) := hV
  clear hR hV hOk
  go_enter Tryd.func4, Tryd.ntmps4
  go_wp2_with (first | (go_at_call 9; refine (CL.out _ (bxn _ _)).mono ?_; rintro e w1 ⟨z1, rfl, hl1, hb1⟩; have HL1 : Hid (z1 = true → progL p) := hl1; have B1 : Hid (Below (w.alloc (.cells #[.slice a0 n0 c0, .slice b0 m0 d0] 34)).heap.size (w.alloc (.cells #[.slice a0 n0 c0, .slice b0 m0 d0] 34)) w1) := hb1; obtain ⟨x10, x11, x12⟩ := HX.out _ hb1; clear hl1 hb1) | (go_at_call 10; refine (CN.out _ (bt (bxn _ _) B1.out)).mono ?_; rintro e w2 ⟨z2, rfl, hl2, hb2⟩; have HL2 : Hid (z2 = true → actsN p) := hl2; have B2 : Hid (Below (w.alloc (.cells #[.slice a0 n0 c0, .slice b0 m0 d0] 34)).heap.size (w.alloc (.cells #[.slice a0 n0 c0, .slice b0 m0 d0] 34)) w2) := bt B1.out hb2; obtain ⟨x20, x21, x22⟩ := HX.out _ B2.out; clear hl2 hb2) | (go_at_call 6; refine (HA.out _ (bt (bxn _ _) (by first | exact B2.out | exact B1.out))).mono ?_; rintro e wz ⟨rfl, bz⟩))
  all_goals try (go_ret; exact ⟨rfl, bt (bt (bxn _ _) B2.out) bz⟩)
  all_goals try (go_ret; exact ⟨rfl, bt (bt (bxn _ _) B1.out) bz⟩)
  obtain rfl : z1 = true := by first | assumption | simp_all
  obtain rfl : z2 = true := by first | assumption | simp_all
  simp only [Bool.not_true]
  have HPL : Hid (progL p) := HL1.out rfl
  have HAN : Hid (actsN p) := HL2.out rfl
  have HGP : Hid (gP p) := gP_of HOK.out HPL.out HAN.out
  have HTL : Hid ((shText svd p).length ≤ 20000000) := text_len HPL.out HAN.out
  have HW2 : Hid (Below w.heap.size w w2) := bt (bxn _ _) B2.out
  have HX2 : Hid (∀ W, Below w2.heap.size w2 W → W.cell? ⟨w.heap.size, 0, none⟩ = some (.slice a0 n0 c0) ∧ W.cell? ⟨w.heap.size, 1, none⟩ = some (.slice b0 m0 d0) ∧ w.heap.size < W.heap.size) := fun W hW => HX.out _ (bt B2.out hW)
  obtain ⟨v1, v2, e0, ⟨css1, s1, r1⟩, ⟨css2, s2, r2⟩⟩ := HR.out
  obtain ⟨e1, e2⟩ : v1 = .slice a0 n0 c0 ∧ v2 = .slice b0 m0 d0 := by simpa [eq_comm] using e0
  subst e1; subst e2
  obtain ⟨rfl, l1, m1, q1⟩ := s1.row
  obtain ⟨rfl, l2, m2, q2⟩ := s2.row
  have HLN2 : Hid (css2.length = p.rs.length) := r2.len
  have R2 : Hid (∀ i, i < css2.length → ∃ k off, b0 = some ⟨k, off, none⟩ ∧ k < w.heap.size ∧ ∀ j, j < 3 → w.cell? ⟨k, off + (i * 3 + j), none⟩ = (css2.getD i [])[j]?) := q2
  have S2 : Hid (∀ i, i < css2.length → ReR (fun _ _ => True) w (css2.getD i []) (p.rs.getD i ⟨[], [], []⟩)) := fun i hi => r2.at i [] _ (by have := HLN2.out; omega)
  have hrl : css2.length ≤ 6 := by have := HPL.out.2.1; have := HLN2.out; omega
  clear q1 q2 r1 r2 s1 s2 e0 HX x10 x11 x12 HL1 HL2 CL CN
  go_loopw [3, 4, 5, 6, 7] (fun v3 _ _ _ _ wr => ∃ i : Nat, v3 = .int .i64 i ∧ i ≤ css2.length ∧ Below w2.heap.size w2 wr) (fun v3 _ _ _ _ _ => (css2.length - intOf v3).toNat)
  case atStart => exact ⟨0, rfl, Nat.zero_le _, Below.refl _ _⟩
  case round =>
    obtain ⟨i, rfl, hi, hbr⟩ := hrel
    have HBR : Hid (Below w2.heap.size w2 wr) := hbr
    obtain ⟨x0, x1, x2⟩ := HX2.out _ hbr
    have hwr : w.heap.size < wr.heap.size := x2
    clear hbr
    by_cases hlt : i < css2.length
    · have hiz : (i : Int) < css2.length := by omega
      obtain ⟨k, off, rfl, hk, hc⟩ := R2.out i hlt
      obtain ⟨y, hy⟩ : ∃ y, y = p.rs.getD i ⟨[], [], []⟩ := ⟨_, rfl⟩
      have hS := S2.out i hlt
      rw [← hy] at hS
      obtain ⟨cc, hcc⟩ : ∃ cc, cc = css2.getD i [] := ⟨_, rfl⟩
      rw [← hcc] at hS hc
      clear hcc
      have hm : y ∈ p.rs := by rw [hy]; exact getD_mem _ _ _ (by have := HLN2.out; omega)
      have HRL : Hid (ruleL y) := HPL.out.2.2.2 y hm
      have HRN : Hid (∀ a ∈ y.acts, -1099511627776 ≤ a.n ∧ a.n ≤ 1099511627776) := HAN.out y hm
      have HGR : Hid (gR y) := HGP.out y hm
      have HSR : Hid (ReR (fun _ _ => True) w cc y) := hS
      obtain ⟨e1, e2, rfl, ⟨cs1, s1, r1⟩, ⟨cs2, s2, r2⟩⟩ := hS
      obtain ⟨a1, c1, rfl⟩ := s1.shape
      obtain ⟨a2, c2, rfl⟩ := s2.shape
      obtain ⟨-, l3, m3, q3⟩ := s1.row
      obtain ⟨-, l4, m4, q4⟩ := s2.row
      have HLC : Hid (cs1.length = y.conds.length) := r1.len
      have HLA : Hid (cs2.length = y.acts.length) := r2.len
      have R3 : Hid (∀ i, i < cs1.length → ∃ b off, a1 = some ⟨b, off, none⟩ ∧ b < w.heap.size ∧ ∀ j, j < 3 → w.cell? ⟨b, off + (i * 3 + j), none⟩ = (cs1.getD i [])[j]?) := q3
      have R4 : Hid (∀ i, i < cs2.length → ∃ b off, a2 = some ⟨b, off, none⟩ ∧ b < w.heap.size ∧ ∀ j, j < 6 → w.cell? ⟨b, off + (i * 6 + j), none⟩ = (cs2.getD i [])[j]?) := q4
      have S3 : Hid (∀ i, i < cs1.length → ReC (fun _ _ => True) w (cs1.getD i []) (y.conds.getD i c0')) := fun i hi => r1.at i [] _ (by have := HLC.out; omega)
      have S4 : Hid (∀ i, i < cs2.length → ReT (fun _ _ => True) w (cs2.getD i []) (y.acts.getD i t0')) := fun i hi => r2.at i [] _ (by have := HLA.out; omega)
      have hcl : cs1.length ≤ 8 := by have := HRL.out.2.1; have := HLC.out; omega
      have hal : cs2.length ≤ 12 := by have := HRL.out.2.2.1; have := HLA.out; omega
      have HWR : Hid (Below w.heap.size w wr) := bt HW2.out HBR.out
      have p0 : wr.cell? ⟨k, off + i * 3, none⟩ = some (.string (st y.nm)) := (HWR.out.cell (p := ⟨k, off + i * 3, none⟩) hk).trans (hc 0 (by decide))
      have p1 : wr.cell? ⟨k, off + i * 3 + 1, none⟩ = some (.slice a1 cs1.length c1) := (HWR.out.cell (p := ⟨k, off + i * 3 + 1, none⟩) hk).trans (hc 1 (by decide))
      have p2 : wr.cell? ⟨k, off + i * 3 + 2, none⟩ = some (.slice a2 cs2.length c2) := (HWR.out.cell (p := ⟨k, off + i * 3 + 2, none⟩) hk).trans (hc 2 (by decide))
      clear hy hm hc q3 q4 r1 r2 s1 s2
      go_wp2
      have BA : Hid (Below w2.heap.size w2 (wr.alloc (.cells #[.string (st y.nm), .slice a1 cs1.length c1, .slice a2 cs2.length c2] 39))) := bt HBR.out (bxn _ _)
      have HX3 : Hid (∀ W, Below (wr.alloc (.cells #[.string (st y.nm), .slice a1 cs1.length c1, .slice a2 cs2.length c2] 39)).heap.size (wr.alloc (.cells #[.string (st y.nm), .slice a1 cs1.length c1, .slice a2 cs2.length c2] 39)) W → W.cell? ⟨wr.heap.size, 0, none⟩ = some (.string (st y.nm)) ∧ W.cell? ⟨wr.heap.size, 1, none⟩ = some (.slice a1 cs1.length c1) ∧ W.cell? ⟨wr.heap.size, 2, none⟩ = some (.slice a2 cs2.length c2)) := fun W hW =>
        ⟨by rw [hW.cell (p := ⟨wr.heap.size, 0, none⟩) (by simp)]; simp, by rw [hW.cell (p := ⟨wr.heap.size, 1, none⟩) (by simp)]; simp, by rw [hW.cell (p := ⟨wr.heap.size, 2, none⟩) (by simp)]; simp⟩
      generalize wr.alloc (.cells #[.string (st y.nm), .slice a1 cs1.length c1, .slice a2 cs2.length c2] 39) = wA at *
      obtain ⟨rr, hrr⟩ : ∃ rr, rr = wr.heap.size := ⟨_, rfl⟩
      rw [← hrr] at HX3 ⊢
      clear hrr p0 p1 p2 HBR x0 x1 HWR
      have HWA : Hid (Below w.heap.size w wA) := bt HW2.out BA.out
      have W5 : ∀ W, Below wA.heap.size wA W → 5 ≤ W.heap.size := fun W hW => by have := hW.size; have := HWA.out.size; omega
      have SK : ∀ W, Below wA.heap.size wA W → W.cell? ⟨rr, 0, none⟩ = some (.string (st y.nm)) ∧ W.cell? ⟨rr, 1, none⟩ = some (.slice a1 cs1.length c1) ∧ W.cell? ⟨rr, 2, none⟩ = some (.slice a2 cs2.length c2) ∧ Below wA.heap.size wA W := fun W hW => ⟨(HX3.out W hW).1, (HX3.out W hW).2.1, (HX3.out W hW).2.2, hW⟩
      have C11 := fun W (hW : Below wA.heap.size wA W) => rule_any (P := fun _ _ => True) _ y W (ReR.keep (Stays.below (bt HWA.out hW)) HSR.out) (by have := rule_len HRL.out HRN.out; omega) HGR.out (HV.out.below (bt HWA.out hW)) (W5 W hW)
      have C12 := fun W (hW : Below wA.heap.size wA W) => rrule_any (P := fun _ _ => True) _ y W (ReR.keep (Stays.below (bt HWA.out hW)) HSR.out) HRL.out HGR.out
      generalize shRule svd y = sR at *
      refine region_join (fun W => Below wA.heap.size wA W) ?_
      apply Exists.intro
      refine And.intro ?reg1 ?rest1
      case reg1 =>
        go_region_held3 (fun W => W.cell? ⟨rr, 0, none⟩ = some (.string (st y.nm)) ∧ W.cell? ⟨rr, 1, none⟩ = some (.slice a1 cs1.length c1) ∧ W.cell? ⟨rr, 2, none⟩ = some (.slice a2 cs2.length c2) ∧ Below wA.heap.size wA W) (first | (refine SK _ ?_; first | assumption | exact (Below.refl _ _).drew) | go_keep) (first | (go_at_call 11; refine (C11 _ (And.right (And.right (And.right (by assumption))))).mono ?_; rintro e w3 ⟨rfl, hb3⟩; have B3 : Below wA.heap.size wA w3 := bt (And.right (And.right (And.right (by assumption)))) hb3) | (go_at_call 12; refine (C12 _ (And.right (And.right (And.right (by assumption))))).mono ?_; rintro e w3 ⟨rfl, hb3⟩; have B3 : Below wA.heap.size wA w3 := bt (And.right (And.right (And.right (by assumption)))) hb3))
        all_goals exact ⟨rfl, rfl, by assumption⟩
      intro wb HBB
      have HBW : Hid (Below wA.heap.size wA wb) := HBB
      obtain ⟨z0, z1, z2⟩ := HX3.out _ HBB
      clear HBB C11 C12 SK
      go_wp2
      go_loopw [5, 6] (fun v5 _ wr => ∃ j : Nat, v5 = .int .i64 j ∧ j ≤ cs1.length ∧ Below wA.heap.size wA wr) (fun v5 _ _ => (cs1.length - intOf v5).toNat)
      case atStart => exact ⟨0, rfl, Nat.zero_le _, HBW.out⟩
      case round =>
        obtain ⟨j, rfl, hj, hbj⟩ := hrel
        have HBW : Hid (Below wA.heap.size wA wr) := hbj
        obtain ⟨z0, z1, z2⟩ := HX3.out _ hbj
        clear hbj
        by_cases hjt : j < cs1.length
        · have hjz : (j : Int) < cs1.length := by omega
          obtain ⟨b1, o1, rfl, hb1, u1⟩ := R3.out j hjt
          obtain ⟨yc, hyc⟩ : ∃ yc, yc = y.conds.getD j c0' := ⟨_, rfl⟩
          have hSyc := S3.out j hjt
          rw [← hyc] at hSyc
          obtain ⟨ccyc, hcc⟩ : ∃ cc, cc = cs1.getD j [] := ⟨_, rfl⟩
          rw [← hcc] at hSyc u1
          clear hcc
          have hmyc : yc ∈ y.conds := by rw [hyc]; exact getD_mem _ _ _ (by have := HLC.out; omega)
          clear hyc
          have HSyc : Hid (ReC (fun _ _ => True) w ccyc yc) := hSyc
          have HCL : Hid (condL yc) := HRL.out.2.2.2.1 yc hmyc
          have HCF : Hid (fC yc) := HGR.out.1 yc hmyc
          clear hmyc
          obtain ⟨e3, rfl, ⟨cs3, s3, r3⟩⟩ := hSyc
          obtain ⟨a3, c3, rfl⟩ := s3.shape
          obtain ⟨-, l5, m5, q5⟩ := s3.row
          have HLT : Hid (cs3.length = yc.attrs.length) := r3.len
          have R5 : Hid (∀ i, i < cs3.length → ∃ b off, a3 = some ⟨b, off, none⟩ ∧ b < w.heap.size ∧ ∀ j, j < 3 → w.cell? ⟨b, off + (i * 3 + j), none⟩ = (cs3.getD i [])[j]?) := q5
          have S5 : Hid (∀ i, i < cs3.length → ReA (fun _ _ => True) w (cs3.getD i []) (yc.attrs.getD i Go.Proofs.YtemacdimdpnkeaaDoor.a0)) := fun i hi => r3.at i [] _ (by have := HLT.out; omega)
          have htl : cs3.length ≤ 10 := by have := HCL.out.2.1; have := HLT.out; omega
          clear q5 r3 s3
          have SKc : ∀ W, Below wA.heap.size wA W → W.cell? ⟨rr, 0, none⟩ = some (.string (st y.nm)) ∧ W.cell? ⟨rr, 1, none⟩ = some (.slice (some ⟨b1, o1, none⟩) cs1.length c1) ∧ W.cell? ⟨rr, 2, none⟩ = some (.slice a2 cs2.length c2) ∧ W.cell? ⟨b1, o1 + j * 3, none⟩ = some (.bool yc.neg) ∧ W.cell? ⟨b1, o1 + j * 3 + 1, none⟩ = some (.string (st yc.c)) ∧ W.cell? ⟨b1, o1 + j * 3 + 2, none⟩ = some (.slice a3 cs3.length c3) ∧ Below wA.heap.size wA W := fun W hW => ⟨(HX3.out W hW).1, (HX3.out W hW).2.1, (HX3.out W hW).2.2, (((bt HWA.out hW).cell (p := ⟨b1, o1 + j * 3, none⟩) hb1).trans (u1 0 (by decide))), (((bt HWA.out hW).cell (p := ⟨b1, o1 + j * 3 + 1, none⟩) hb1).trans (u1 1 (by decide))), (((bt HWA.out hW).cell (p := ⟨b1, o1 + j * 3 + 2, none⟩) hb1).trans (u1 2 (by decide))), hW⟩
          have HSK : Hid (∀ W, Below wA.heap.size wA W → W.cell? ⟨b1, o1 + j * 3, none⟩ = some (.bool yc.neg) ∧ W.cell? ⟨b1, o1 + j * 3 + 1, none⟩ = some (.string (st yc.c)) ∧ W.cell? ⟨b1, o1 + j * 3 + 2, none⟩ = some (.slice a3 cs3.length c3)) := fun W hW => ⟨(SKc W hW).2.2.2.1, (SKc W hW).2.2.2.2.1, (SKc W hW).2.2.2.2.2.1⟩
          have C13 := fun W (hW : Below wA.heap.size wA W) => cnd_any (P := fun _ _ => True) _ yc W (ReC.keep (Stays.below (bt HWA.out hW)) HSyc.out) (by have := cond_len HCL.out; omega) HCF.out (HV.out.below (bt HWA.out hW)) (W5 W hW)
          have C14 := fun W (hW : Below wA.heap.size wA W) => rcond_any (P := fun _ _ => True) _ yc W (ReC.keep (Stays.below (bt HWA.out hW)) HSyc.out) HCL.out HCF.out
          generalize shCond svd yc = sC at *
          obtain ⟨p0, p1, p2⟩ := HSK.out _ HBW.out
          clear u1
          go_wp2
          refine region_join (fun W => Below wA.heap.size wA W) ?_
          apply Exists.intro
          refine And.intro ?reg2 ?rest2
          case reg2 =>
            go_region_held3 (fun W => W.cell? ⟨rr, 0, none⟩ = some (.string (st y.nm)) ∧ W.cell? ⟨rr, 1, none⟩ = some (.slice (some ⟨b1, o1, none⟩) cs1.length c1) ∧ W.cell? ⟨rr, 2, none⟩ = some (.slice a2 cs2.length c2) ∧ W.cell? ⟨b1, o1 + j * 3, none⟩ = some (.bool yc.neg) ∧ W.cell? ⟨b1, o1 + j * 3 + 1, none⟩ = some (.string (st yc.c)) ∧ W.cell? ⟨b1, o1 + j * 3 + 2, none⟩ = some (.slice a3 cs3.length c3) ∧ Below wA.heap.size wA W) (first | (refine SKc _ ?_; first | assumption | exact HBW.out.drew) | go_keep) (first | (go_at_call 13; refine (C13 _ (And.right (And.right (And.right (And.right (And.right (And.right (by assumption)))))))).mono ?_; rintro e w3 ⟨rfl, hb3⟩; have B3 : Below wA.heap.size wA w3 := bt (And.right (And.right (And.right (And.right (And.right (And.right (by assumption))))))) hb3) | (go_at_call 14; refine (C14 _ (And.right (And.right (And.right (And.right (And.right (And.right (by assumption)))))))).mono ?_; rintro e w3 ⟨rfl, hb3⟩; have B3 : Below wA.heap.size wA w3 := bt (And.right (And.right (And.right (And.right (And.right (And.right (by assumption))))))) hb3))
            all_goals exact ⟨rfl, rfl, by assumption⟩
          intro wb HBB
          have HBX : Hid (Below wA.heap.size wA wb) := HBB
          obtain ⟨z0, z1, z2⟩ := HX3.out _ HBB
          obtain ⟨p0, p1, p2⟩ := HSK.out _ HBB
          clear HBB C13 C14 SKc
          go_wp2
          go_loopw [6] (fun v6 wr => ∃ l : Nat, v6 = .int .i64 l ∧ l ≤ cs3.length ∧ Below wA.heap.size wA wr) (fun v6 _ => (cs3.length - intOf v6).toNat)
          case atStart => exact ⟨0, rfl, Nat.zero_le _, HBX.out⟩
          case round =>
            obtain ⟨l, rfl, hl, hbl⟩ := hrel
            have HBW : Hid (Below wA.heap.size wA wr) := hbl
            obtain ⟨z0, z1, z2⟩ := HX3.out _ hbl
            obtain ⟨p0, p1, p2⟩ := HSK.out _ hbl
            clear hbl
            by_cases hlt3 : l < cs3.length
            · have hlz : (l : Int) < cs3.length := by omega
              obtain ⟨b3, o3, rfl, hb3, u3⟩ := R5.out l hlt3
              obtain ⟨ya, hya⟩ : ∃ ya, ya = yc.attrs.getD l Go.Proofs.YtemacdimdpnkeaaDoor.a0 := ⟨_, rfl⟩
              have hSya := S5.out l hlt3
              rw [← hya] at hSya
              obtain ⟨ccya, hcc⟩ : ∃ cc, cc = cs3.getD l [] := ⟨_, rfl⟩
              rw [← hcc] at hSya u3
              clear hcc
              have hmya : ya ∈ yc.attrs := by rw [hya]; exact getD_mem _ _ _ (by have := HLT.out; omega)
              clear hya
              have HSya : Hid (ReA (fun _ _ => True) w ccya ya) := hSya
              have HAL : Hid (attrL ya) := HCL.out.2.2 ya hmya
              have HAF : Hid (fA ya) := HCF.out ya hmya
              clear hmya
              obtain ⟨f1, f2, rfl, -, -⟩ := hSya
              have SKa : ∀ W, Below wA.heap.size wA W → W.cell? ⟨rr, 0, none⟩ = some (.string (st y.nm)) ∧ W.cell? ⟨rr, 1, none⟩ = some (.slice (some ⟨b1, o1, none⟩) cs1.length c1) ∧ W.cell? ⟨rr, 2, none⟩ = some (.slice a2 cs2.length c2) ∧ W.cell? ⟨b1, o1 + j * 3, none⟩ = some (.bool yc.neg) ∧ W.cell? ⟨b1, o1 + j * 3 + 1, none⟩ = some (.string (st yc.c)) ∧ W.cell? ⟨b1, o1 + j * 3 + 2, none⟩ = some (.slice (some ⟨b3, o3, none⟩) cs3.length c3) ∧ W.cell? ⟨b3, o3 + l * 3, none⟩ = some (.string (st ya.a)) ∧ W.cell? ⟨b3, o3 + l * 3 + 1, none⟩ = some (f1) ∧ W.cell? ⟨b3, o3 + l * 3 + 2, none⟩ = some (f2) ∧ Below wA.heap.size wA W := fun W hW => ⟨(HX3.out W hW).1, (HX3.out W hW).2.1, (HX3.out W hW).2.2, (HSK.out W hW).1, (HSK.out W hW).2.1, (HSK.out W hW).2.2, (((bt HWA.out hW).cell (p := ⟨b3, o3 + l * 3, none⟩) hb3).trans (u3 0 (by decide))), (((bt HWA.out hW).cell (p := ⟨b3, o3 + l * 3 + 1, none⟩) hb3).trans (u3 1 (by decide))), (((bt HWA.out hW).cell (p := ⟨b3, o3 + l * 3 + 2, none⟩) hb3).trans (u3 2 (by decide))), hW⟩
              have C15 := fun W (hW : Below wA.heap.size wA W) => tst_any (P := fun _ _ => True) _ ya W (ReA.keep (Stays.below (bt HWA.out hW)) HSya.out) (by have := test_len HAL.out; omega) HAF.out (HV.out.below (bt HWA.out hW)) (W5 W hW)
              have C16 := fun W (hW : Below wA.heap.size wA W) => rtest_any (P := fun _ _ => True) _ ya W (ReA.keep (Stays.below (bt HWA.out hW)) HSya.out) HAL.out HAF.out
              generalize shTest svd ya = sT at *
              obtain ⟨-, -, -, -, -, -, g0, g1, g2, -⟩ := SKa _ HBW.out
              clear u3
              go_wp2
              refine region_join (fun W => Below wA.heap.size wA W) ?_
              apply Exists.intro
              refine And.intro ?reg3 ?rest3
              case reg3 =>
                go_region_held3 (fun W => W.cell? ⟨rr, 0, none⟩ = some (.string (st y.nm)) ∧ W.cell? ⟨rr, 1, none⟩ = some (.slice (some ⟨b1, o1, none⟩) cs1.length c1) ∧ W.cell? ⟨rr, 2, none⟩ = some (.slice a2 cs2.length c2) ∧ W.cell? ⟨b1, o1 + j * 3, none⟩ = some (.bool yc.neg) ∧ W.cell? ⟨b1, o1 + j * 3 + 1, none⟩ = some (.string (st yc.c)) ∧ W.cell? ⟨b1, o1 + j * 3 + 2, none⟩ = some (.slice (some ⟨b3, o3, none⟩) cs3.length c3) ∧ W.cell? ⟨b3, o3 + l * 3, none⟩ = some (.string (st ya.a)) ∧ W.cell? ⟨b3, o3 + l * 3 + 1, none⟩ = some (f1) ∧ W.cell? ⟨b3, o3 + l * 3 + 2, none⟩ = some (f2) ∧ Below wA.heap.size wA W) (first | (refine SKa _ ?_; first | assumption | exact HBW.out.drew) | go_keep) (first | (go_at_call 15; refine (C15 _ (And.right (And.right (And.right (And.right (And.right (And.right (And.right (And.right (And.right (by assumption))))))))))).mono ?_; rintro e w3 ⟨rfl, hb3⟩; have B3 : Below wA.heap.size wA w3 := bt (And.right (And.right (And.right (And.right (And.right (And.right (And.right (And.right (And.right (by assumption)))))))))) hb3) | (go_at_call 16; refine (C16 _ (And.right (And.right (And.right (And.right (And.right (And.right (And.right (And.right (And.right (by assumption))))))))))).mono ?_; rintro e w3 ⟨rfl, hb3⟩; have B3 : Below wA.heap.size wA w3 := bt (And.right (And.right (And.right (And.right (And.right (And.right (And.right (And.right (And.right (by assumption)))))))))) hb3))
                all_goals exact ⟨rfl, rfl, by assumption⟩
              intro wb HBB
              have HBX2 : Hid (Below wA.heap.size wA wb) := HBB
              clear HBB C15 C16 SKa
              go_wp2
              go_roundw
              case rel => exact ⟨l + 1, by simp, by omega, HBX2.out⟩
              case measure => simp [intOf]; omega
            · have hlz : ¬ (l : Int) < cs3.length := by omega
              go_wp2
              go_roundw
              case rel => exact ⟨j + 1, by simp, by omega, HBW.out⟩
              case measure => simp [intOf]; omega
        · have hjz : ¬ (j : Int) < cs1.length := by omega
          obtain ⟨wo, hwo⟩ : ∃ wo, wo = wr := ⟨_, rfl⟩
          subst hwo
          go_wp2
          go_loopw [7] (fun v7 wr => ∃ j : Nat, v7 = .int .i64 j ∧ j ≤ cs2.length ∧ Below wA.heap.size wA wr) (fun v7 _ => (cs2.length - intOf v7).toNat)
          case atStart => exact ⟨0, rfl, Nat.zero_le _, HBW.out⟩
          case round =>
            obtain ⟨j, rfl, hj4, hbj⟩ := hrel
            have HBW : Hid (Below wA.heap.size wA wr) := hbj
            obtain ⟨z0, z1, z2⟩ := HX3.out _ hbj
            clear hbj
            by_cases hjt4 : j < cs2.length
            · have hjz4 : (j : Int) < cs2.length := by omega
              obtain ⟨b2, o2, rfl, hb2, u2⟩ := R4.out j hjt4
              obtain ⟨yt, hyt⟩ : ∃ yt, yt = y.acts.getD j t0' := ⟨_, rfl⟩
              have hSyt := S4.out j hjt4
              rw [← hyt] at hSyt
              obtain ⟨ccyt, hcc⟩ : ∃ cc, cc = cs2.getD j [] := ⟨_, rfl⟩
              rw [← hcc] at hSyt u2
              clear hcc
              have hmyt : yt ∈ y.acts := by rw [hyt]; exact getD_mem _ _ _ (by have := HLA.out; omega)
              clear hyt
              have HSyt : Hid (ReT (fun _ _ => True) w ccyt yt) := hSyt
              have HTL4 : Hid (actL yt) := HRL.out.2.2.2.2 yt hmyt
              have HTF : Hid (gAct yt) := HGR.out.2 yt hmyt
              have HTN := HRN.out yt hmyt
              clear hmyt
              obtain ⟨f1, f2, rfl, -, -⟩ := hSyt
              have SKt : ∀ W, Below wA.heap.size wA W → W.cell? ⟨rr, 0, none⟩ = some (.string (st y.nm)) ∧ W.cell? ⟨rr, 1, none⟩ = some (.slice a1 cs1.length c1) ∧ W.cell? ⟨rr, 2, none⟩ = some (.slice (some ⟨b2, o2, none⟩) cs2.length c2) ∧ W.cell? ⟨b2, o2 + j * 6, none⟩ = some (.int .u8 yt.k) ∧ W.cell? ⟨b2, o2 + j * 6 + 1, none⟩ = some (.string (st yt.c)) ∧ W.cell? ⟨b2, o2 + j * 6 + 2, none⟩ = some (.int .i64 yt.n) ∧ W.cell? ⟨b2, o2 + j * 6 + 3, none⟩ = some (.string (st yt.v)) ∧ W.cell? ⟨b2, o2 + j * 6 + 4, none⟩ = some (f1) ∧ W.cell? ⟨b2, o2 + j * 6 + 5, none⟩ = some (f2) ∧ Below wA.heap.size wA W := fun W hW => ⟨(HX3.out W hW).1, (HX3.out W hW).2.1, (HX3.out W hW).2.2, (((bt HWA.out hW).cell (p := ⟨b2, o2 + j * 6, none⟩) hb2).trans (u2 0 (by decide))), (((bt HWA.out hW).cell (p := ⟨b2, o2 + j * 6 + 1, none⟩) hb2).trans (u2 1 (by decide))), (((bt HWA.out hW).cell (p := ⟨b2, o2 + j * 6 + 2, none⟩) hb2).trans (u2 2 (by decide))), (((bt HWA.out hW).cell (p := ⟨b2, o2 + j * 6 + 3, none⟩) hb2).trans (u2 3 (by decide))), (((bt HWA.out hW).cell (p := ⟨b2, o2 + j * 6 + 4, none⟩) hb2).trans (u2 4 (by decide))), (((bt HWA.out hW).cell (p := ⟨b2, o2 + j * 6 + 5, none⟩) hb2).trans (u2 5 (by decide))), hW⟩
              have C17 := fun W (hW : Below wA.heap.size wA W) => act_any (P := fun _ _ => True) _ yt W (ReT.keep (Stays.below (bt HWA.out hW)) HSyt.out) (by have := act_len HTL4.out HTN.1 HTN.2; omega) HTF.out (HV.out.below (bt HWA.out hW)) (W5 W hW)
              have C18 := fun W (hW : Below wA.heap.size wA W) => ract_any (P := fun _ _ => True) _ yt W (ReT.keep (Stays.below (bt HWA.out hW)) HSyt.out) HTL4.out HTF.out
              generalize shAct svd yt = sT at *
              obtain ⟨-, -, -, g0, g1, g2, g3, g4, g5, -⟩ := SKt _ HBW.out
              clear u2 HTN
              go_wp2
              refine region_join (fun W => Below wA.heap.size wA W) ?_
              apply Exists.intro
              refine And.intro ?reg4 ?rest4
              case reg4 =>
                go_region_held3 (fun W => W.cell? ⟨rr, 0, none⟩ = some (.string (st y.nm)) ∧ W.cell? ⟨rr, 1, none⟩ = some (.slice a1 cs1.length c1) ∧ W.cell? ⟨rr, 2, none⟩ = some (.slice (some ⟨b2, o2, none⟩) cs2.length c2) ∧ W.cell? ⟨b2, o2 + j * 6, none⟩ = some (.int .u8 yt.k) ∧ W.cell? ⟨b2, o2 + j * 6 + 1, none⟩ = some (.string (st yt.c)) ∧ W.cell? ⟨b2, o2 + j * 6 + 2, none⟩ = some (.int .i64 yt.n) ∧ W.cell? ⟨b2, o2 + j * 6 + 3, none⟩ = some (.string (st yt.v)) ∧ W.cell? ⟨b2, o2 + j * 6 + 4, none⟩ = some (f1) ∧ W.cell? ⟨b2, o2 + j * 6 + 5, none⟩ = some (f2) ∧ Below wA.heap.size wA W) (first | (refine SKt _ ?_; first | assumption | exact HBW.out.drew) | go_keep) (first | (go_at_call 17; refine (C17 _ (And.right (And.right (And.right (And.right (And.right (And.right (And.right (And.right (And.right (by assumption))))))))))).mono ?_; rintro e w3 ⟨rfl, hb3⟩; have B3 : Below wA.heap.size wA w3 := bt (And.right (And.right (And.right (And.right (And.right (And.right (And.right (And.right (And.right (by assumption)))))))))) hb3) | (go_at_call 18; refine (C18 _ (And.right (And.right (And.right (And.right (And.right (And.right (And.right (And.right (And.right (by assumption))))))))))).mono ?_; rintro e w3 ⟨rfl, hb3⟩; have B3 : Below wA.heap.size wA w3 := bt (And.right (And.right (And.right (And.right (And.right (And.right (And.right (And.right (And.right (by assumption)))))))))) hb3))
                all_goals exact ⟨rfl, rfl, by assumption⟩
              intro wb HBB
              have HBX2 : Hid (Below wA.heap.size wA wb) := HBB
              clear HBB C17 C18 SKt
              go_wp2
              go_roundw
              case rel => exact ⟨j + 1, by simp, by omega, HBX2.out⟩
              case measure => simp [intOf]; omega
            · have hjz4 : ¬ (j : Int) < cs2.length := by omega
              go_wp2
              go_roundw
              case rel => exact ⟨i + 1, by simp, by omega, bt BA.out HBW.out⟩
              case measure => simp [intOf]; omega
    · have hiz : ¬ (i : Int) < css2.length := by omega
      have CF := fun W (hW : Below w2.heap.size w2 W) => text_any (P := fun _ _ => True) [.slice a0 css1.length c0, .slice b0 css2.length d0] p W (ReP.keep (Stays.below (HW2.out.trans (hW.mono HW2.out.size))) HR.out) (by have := HTL.out; omega) HGP.out (HV.out.below (HW2.out.trans (hW.mono HW2.out.size))) (by have := hW.size; have := HW2.out.size; omega)
      have CG := fun W (hW : Below w2.heap.size w2 W) => rtext_prog (P := fun _ _ => True) [.slice a0 css1.length c0, .slice b0 css2.length d0] p W (ReP.keep (Stays.below (HW2.out.trans (hW.mono HW2.out.size))) HR.out) HPL.out HAN.out HGP.out
      have SK : ∀ W, Below w2.heap.size w2 W → W.cell? ⟨w.heap.size, 0, none⟩ = some (.slice a0 css1.length c0) ∧ W.cell? ⟨w.heap.size, 1, none⟩ = some (.slice b0 css2.length d0) ∧ Below w2.heap.size w2 W := fun W hW => ⟨(HX2.out W hW).1, (HX2.out W hW).2.1, hW⟩
      generalize shText svd p = sx at *
      go_wp2
      go_region_held3 (fun W => W.cell? ⟨w.heap.size, 0, none⟩ = some (.slice a0 css1.length c0) ∧ W.cell? ⟨w.heap.size, 1, none⟩ = some (.slice b0 css2.length d0) ∧ Below w2.heap.size w2 W) (first | (refine SK _ ?_; first | assumption | exact HBR.out | exact (HBR.out).drew) | go_keep) (first | (go_at_call 19; refine (CF _ (And.right (And.right (by assumption)))).mono ?_; rintro e w3 ⟨rfl, hb3⟩; have B3 : Below w2.heap.size w2 w3 := bt (And.right (And.right (by assumption))) hb3) | (go_at_call 20; refine (CG _ (And.right (And.right (by assumption)))).mono ?_; rintro e w3 ⟨rfl, hb3⟩; have B3 : Below w2.heap.size w2 w3 := bt (And.right (And.right (by assumption))) hb3) | (go_at_call 6; refine (HA.out _ (bt HW2.out (And.right (And.right (by assumption))))).mono ?_; rintro e wz ⟨rfl, bz⟩; have B3 : Below w2.heap.size w2 wz := bt (And.right (And.right (by assumption))) bz))
      all_goals (go_wp2; go_ret; exact ⟨rfl, bt HW2.out (by assumption)⟩)
theorem walk (cs0 : List Value) (x0 : ProgD) (w : World) (hV : Vars w) (h5 : 5 ≤ w.heap.size) (w0 : ReP (fun _ _ => True) w cs0 x0 ∧ x0.Ok) : Calls Tryd.prog 4 #[.agg cs0.toArray] w fun e w' => e = .returned (.bool true) ∧ Below w.heap.size w w' := by
  obtain ⟨w0, hok⟩ := w0
  obtain ⟨v0, v0', rfl, r0, r0'⟩ := id w0
  obtain ⟨a0, n0, c0, rfl⟩ := r0.isSl
  obtain ⟨b0, m0, d0, rfl⟩ := r0'.isSl
  exact core _ _ _ _ _ _ x0 w hV h5 w0 hok
set_option maxRecDepth 100000 in
theorem lifted (os : Os) (started : os.Started) (H : Type) (enc : TypeId × Value → H) :
    ReturnsInHanded {} Tryd.checked os 4 .any (fun w args => (Rows.showTextsSpec.pre enc Tryd.prog Tryd.f4 Rows.showTextsRow.domain false w args ∧ laidMet Tryd.prog laids w) ∧ sizedMet enc Tryd.prog Tryd.f4 (OpenSpec.ofChange Rows.showTextsSpec) false w args)
      (Rows.showTextsSpec.post enc Tryd.prog Tryd.f4 false true false false) := by
  refine returnsInHanded_of_change_and (C := Tryd.checked) (X := fun w _ => laidMet Tryd.prog laids w) (fun _ _ _ hh h => h.of_heap hh) own started (by kernel_rfl) Tryd.func4
    (ChangeSpec.witness_at (enc := enc) (C := Tryd.checked) (os := os) (X := fun w _ => laidMet Tryd.prog laids w) false (laidWorld os) #[.agg #[.slice none 0 0, .slice none 0 0]] 8 rfl (by kernel_rfl) (by kernel_rfl) (by kernel_rfl) (by kernel_rfl) (by kernel_rfl) (laidWorld_met os _)) ?_
  intro W base args ds gs before hval0 hW _ hsz0 hL _
  have hval : ∀ (j : Nat) t v, Tryd.f4.params[j]? = some t → args[j]? = some v → Value.okWide Tryd.prog W .any base t v := hval0
  have hW' := hW
  obtain ⟨p, q, hA0, hV, rfl, hfz, hnd⟩ := hW
  have hA : DataW.TrodAll enc Tryd.prog W 0 (fun _ => true) true Tryd.f4.params.toList args.toList ds p := hA0
  rw [Tryd.params4] at hA hval
  have hVars := vars_of hL
  have hFive := five_of hL
  obtain ⟨v0, vs0, d'0, ds0, q0, r'0, hargs, rfl, rfl, h0, r0⟩ := trodAll_cons hA
  obtain ⟨rfl, rfl, rfl⟩ := trodAll_nil r0
  obtain rfl : args = #[v0] := by cases args; simp_all
  obtain ⟨rfl, rfl⟩ := trodVars_none hV
  have k0' := h0
  have lt0 : ∀ x ∈ q0, x.block < W.heap.size := by obtain ⟨m, hm⟩ := k0'; exact DataW.trod_lt m _ _ _ hm
  obtain ⟨cs0, x0, rfl, w0⟩ := arg_prog (hval 0 34 v0 rfl rfl) h0
  clear hA0 hval0
  refine (walk cs0 x0 W hVars hFive w0).mono fun e W' ⟨he, bel⟩ => ?_
  subst he
  exact ⟨_, rfl, _, _, _, [], _, [], hW', trodAll_mk1 (shut_bool Tryd.underlying4 _), (trodAll_cons_mk (Below.trod laidOut (by kernel_rfl) (of_decide_eq_true (by kernel_rfl)) k0' bel lt0) trodAll_mk0), rfl, bel.frame _, fun h => by cases h⟩

theorem over : Rows.showTextsRow.holds Tryd.pinned (OpenSpec.ofChange Rows.showTextsSpec) :=
  OpenClaim.holds_of_wide 4 Tryd.f4 rfl rfl rfl rfl rfl rfl rfl ⟨rfl, rfl, rfl, rfl, rfl⟩ rfl rfl rfl rfl rfl (by kernel_rfl) Tryd.func4 (by kernel_rfl)
    (of_decide_eq_true (by kernel_rfl)) (by unfold Func.isWrapper; first | (rw [if_pos (by decide +kernel)]; kernel_rfl) | (rw [if_neg (by decide +kernel)]; exact ⟨rfl, rfl⟩))
    (fun os started H enc _ => lifted os started H enc)
theorem stand (j : Nat) (t : TypeId) (ht : Tryd.f4.params[j]? = some t) : Tryd.prog.wantsStandIn t = false := by
  rw [Tryd.params4] at ht
  rcases j with _ | j
  · obtain rfl : 34 = t := by simpa using ht
    kernel_rfl
  simp at ht
end Go.Proofs.YtemacdimdpnkeaaDoor.showTexts

namespace Go.Proofs.YtemacdimdpnkeaaDoor
theorem showTexts_holds : Rows.ShowTextsCardSaid :=
  Claim7.holds_tied_plain_at .later [] [.data, .data, .data, .data, .pinned] true (true, "3b92d108b1ddcc1272640af032ccb9ef2ee98019ba8daa6ce8a69391fe05a110") false
    showTexts.over (fun _ h => by cases h) (by kernel_rfl) (fun _ h => by cases h) showTexts_row_tie rfl ⟨rfl, rfl⟩ (by kernel_rfl) rfl
    (fun f fn hf hfn => by
      obtain rfl : f = 4 := Option.some.inj ((show Tryd.prog.funcNamed Rows.showTextsRow.func = some 4 by kernel_rfl).symm.trans hf) |>.symm
      obtain rfl : fn = Tryd.f4 := (Option.some.inj (Tryd.func4.symm.trans hfn)).symm
      exact ⟨by kernel_rfl, showTexts.stand⟩)
    (by kernel_rfl)
#print axioms showTexts_holds
end Go.Proofs.YtemacdimdpnkeaaDoor
