/- Whether rules are small enough for a statement: whatever is told, it is told: contract of a single call. -/
import Derived.Test.YtakibdkmgjpbhaaLia
namespace Go.Proofs.Ytakibdkmgjpbhaa
set_option maxRecDepth 20000
set_option maxRecDepth 20000
set_option maxRecDepth 20000
open Go.RowKit
set_option linter.unusedVariables false
set_option linter.unusedSimpArgs false
set_option maxRecDepth 20000

set_option maxHeartbeats 8000000 in
theorem lightRuleB {P : Nat → Nat → Prop} (cs : List Value) (x : RuleD) (w : World) (h : ReR P w cs x) :
    Calls Try.prog 26 #[.agg cs.toArray] w (SomeL (ruleL x) w) := by
  obtain ⟨v1, v2, rfl, ⟨css1, h1, hh1⟩, ⟨css2, h2, hh2⟩⟩ := h
  have le1 := hh1.len
  have le2 := hh2.len
  obtain ⟨a1, c1, rfl⟩ := h1.shape
  obtain ⟨a2, c2, rfl⟩ := h2.shape
  obtain ⟨-, l1, m1, r1⟩ := h1.row
  obtain ⟨-, l2, m2, r2⟩ := h2.row
  rw [le1] at l1 r1 ⊢
  rw [le2] at l2 r2 ⊢
  have R1 : Hid (∀ i, i < x.conds.length → ∃ b off, a1 = some ⟨b, off, none⟩ ∧ b < w.heap.size ∧ ∀ j, j < 3 → w.cell? ⟨b, off + (i * 3 + j), none⟩ = (css1.getD i [])[j]?) := r1
  have R2 : Hid (∀ i, i < x.acts.length → ∃ b off, a2 = some ⟨b, off, none⟩ ∧ b < w.heap.size ∧ ∀ j, j < 6 → w.cell? ⟨b, off + (i * 6 + j), none⟩ = (css2.getD i [])[j]?) := r2
  have G1 : Hid (All2 (ReC P w) css1 x.conds) := hh1
  have G2 : Hid (All2 (ReT P w) css2 x.acts) := hh2
  clear r1 h1 r2 h2 hh1 hh2 le1 le2
  have hnn : (x.conds.length : Int) ≤ 9223372036854775807 := by omega
  have hnn2 : (x.acts.length : Int) ≤ 9223372036854775807 := by omega
  go_enter Try.func26, Try.ntmps26
  go_wp2
  all_goals first | (go_ret; exact ⟨_, rfl, (fun h => by cases h), bxn _ _⟩) | skip
  have HL : Hid (x.nm.length ≤ 60 ∧ x.conds.length ≤ 8 ∧ x.acts.length ≤ 12) := ⟨by have := st_size x.nm; omega, by omega, by omega⟩
  go_loopw [3] (fun v wr => ∃ i : Nat, v = .int .i64 i ∧ i ≤ x.conds.length ∧ Below (w.alloc (.cells #[.string (st x.nm), .slice a1 x.conds.length c1, .slice a2 x.acts.length c2] 33)).heap.size (w.alloc (.cells #[.string (st x.nm), .slice a1 x.conds.length c1, .slice a2 x.acts.length c2] 33)) wr ∧ (∀ j, j < i → condL (x.conds.getD j ⟨false, [], []⟩))) (fun v _ => (x.conds.length - intOf v).toNat)
  case atStart => exact ⟨0, rfl, Nat.zero_le _, Below.refl _ _, fun j hj => absurd hj (Nat.not_lt_zero _)⟩
  case round =>
    obtain ⟨i, rfl, hi, hbr, hno⟩ := hrel
    have NO : Hid (∀ j, j < i → condL (x.conds.getD j ⟨false, [], []⟩)) := hno
    clear hno
    obtain ⟨wo, hwo⟩ : ∃ wo, wo = wr := ⟨_, rfl⟩
    subst hwo
    have HW : Hid (Below w.heap.size w wo) := bt (bxn _ _) hbr
    have p0 : wo.cell? ⟨w.heap.size, 0, none⟩ = some (.string (st x.nm)) := by rw [hbr.cell (p := ⟨w.heap.size, 0, none⟩) (by simp)]; go_simp
    have p1 : wo.cell? ⟨w.heap.size, 1, none⟩ = some (.slice a1 x.conds.length c1) := by rw [hbr.cell (p := ⟨w.heap.size, 1, none⟩) (by simp)]; go_simp
    have p2 : wo.cell? ⟨w.heap.size, 2, none⟩ = some (.slice a2 x.acts.length c2) := by rw [hbr.cell (p := ⟨w.heap.size, 2, none⟩) (by simp)]; go_simp
    by_cases hlt : i < x.conds.length
    · have hiz : (i : Int) < x.conds.length := by omega
      obtain ⟨b1, o1, rfl, hb1, q1⟩ := R1.out i hlt
      have e1 := G1.out.at i [] ⟨false, [], []⟩ hlt
      have NX : Hid (condL (x.conds.getD i ⟨false, [], []⟩) → ∀ j, j < i + 1 → condL (x.conds.getD j ⟨false, [], []⟩)) := fun hx => idx_next NO.out hx
      generalize x.conds.getD i ⟨false, [], []⟩ = c at q1 e1 NX
      obtain ⟨u, ec, ⟨cssu, hu, hhu⟩⟩ := e1
      have leu := hhu.len
      obtain ⟨au, cu, rfl⟩ := hu.shape
      obtain ⟨-, lu, mu, ru⟩ := hu.row
      rw [leu] at lu ru ec
      have RU : Hid (∀ i, i < c.attrs.length → ∃ b off, au = some ⟨b, off, none⟩ ∧ b < w.heap.size ∧ ∀ j, j < 3 → w.cell? ⟨b, off + (i * 3 + j), none⟩ = (cssu.getD i [])[j]?) := ru
      have GU : Hid (All2 (ReA P w) cssu c.attrs) := hhu
      rw [ec] at q1
      have d1 : wo.cell? ⟨b1, o1 + i * 3 + 1, none⟩ = some (.string (st c.c)) := (HW.out.cell (p := ⟨b1, o1 + i * 3 + 1, none⟩) hb1).trans (q1 1 (by decide))
      have d2 : wo.cell? ⟨b1, o1 + i * 3 + 2, none⟩ = some (.slice au c.attrs.length cu) := (HW.out.cell (p := ⟨b1, o1 + i * 3 + 2, none⟩) hb1).trans (q1 2 (by decide))
      have hnu : (c.attrs.length : Int) ≤ 9223372036854775807 := by omega
      clear q1 ec ru hu hhu leu
      go_wp2
      all_goals first | (go_ret; exact ⟨_, rfl, (fun h => by cases h), HW.out⟩) | skip
      have HC : Hid (c.c.length ≤ 60 ∧ c.attrs.length ≤ 10) := ⟨by have := st_size c.c; omega, by omega⟩
      go_loopw [5] (fun v wr => ∃ k : Nat, v = .int .i64 k ∧ k ≤ c.attrs.length ∧ Below wo.heap.size wo wr ∧ (∀ j, j < k → attrL (c.attrs.getD j ⟨[], [], []⟩))) (fun v _ => (c.attrs.length - intOf v).toNat)
      case atStart => exact ⟨0, rfl, Nat.zero_le _, Below.refl _ _, fun j hj => absurd hj (Nat.not_lt_zero _)⟩
      case round =>
        obtain ⟨k, rfl, hk, hbk, hno⟩ := hrel
        have NP : Hid (∀ j, j < k → attrL (c.attrs.getD j ⟨[], [], []⟩)) := hno
        clear hno
        have HK : Hid (Below w.heap.size w wr) := bt HW.out hbk
        by_cases hlk : k < c.attrs.length
        · have hkz : (k : Int) < c.attrs.length := by omega
          obtain ⟨b2, o2, rfl, hb2, q2⟩ := RU.out k hlk
          have e2 := GU.out.at k [] ⟨[], [], []⟩ hlk
          have NY : Hid (attrL (c.attrs.getD k ⟨[], [], []⟩) → ∀ j, j < k + 1 → attrL (c.attrs.getD j ⟨[], [], []⟩)) := fun hx => idx_next NP.out hx
          generalize c.attrs.getD k ⟨[], [], []⟩ = y at q2 e2 NY
          have CL := fun W (hW : Below w.heap.size w W) => lightTestsB _ y W (ReA.keep (Stays.below hW) e2)
          obtain ⟨t1, t2, ec, k1, k2⟩ := e2
          obtain ⟨s1, d3, rfl⟩ := k1.shape
          obtain ⟨s2, d4, rfl⟩ := k2.shape
          obtain ⟨-, ly1, my1, -⟩ := k1.row
          obtain ⟨-, ly2, my2, -⟩ := k2.row
          rw [ec] at q2 CL
          simp only [List.length_map] at q2 CL ly1 ly2
          have f0 : wr.cell? ⟨b2, o2 + k * 3, none⟩ = some (.string (st y.a)) := (HK.out.cell (p := ⟨b2, o2 + k * 3, none⟩) hb2).trans (q2 0 (by decide))
          have f1 : wr.cell? ⟨b2, o2 + k * 3 + 1, none⟩ = some (.slice s1 y.ones.length d3) := (HK.out.cell (p := ⟨b2, o2 + k * 3 + 1, none⟩) hb2).trans (q2 1 (by decide))
          have f2 : wr.cell? ⟨b2, o2 + k * 3 + 2, none⟩ = some (.slice s2 y.tests.length d4) := (HK.out.cell (p := ⟨b2, o2 + k * 3 + 2, none⟩) hb2).trans (q2 2 (by decide))
          have CL1 := CL wr HK.out
          have hy1 : (y.ones.length : Int) ≤ 9223372036854775807 := by omega
          have hy2 : (y.tests.length : Int) ≤ 9223372036854775807 := by omega
          clear q2 ec k1 k2 CL
          go_wp2_with (go_at_call 40; refine CL1.mono ?_; rintro e w2 ⟨bb, rfl, hLL, hb2'⟩; have HLL := hLL; clear hLL; have HL2 : Hid (bb = true → _) := HLL; clear HLL CL1)
          all_goals first
            | (go_ret; exact ⟨_, rfl, (fun h => by cases h), HK.out⟩)
            | (go_ret; exact ⟨_, rfl, (fun h => by cases h), bt HK.out hb2'⟩)
            | (refine ⟨⟨k + 1, by simp, by omega, bt hbk hb2', NY.out ⟨by have := st_size y.a; omega, by omega, by omega, HL2.out (by first | assumption | exact nbf (And.right ‹_ ∧ (!bb) = false›) | exact nbf ‹(!bb) = false›)⟩⟩, ?_⟩; simp [intOf]; omega)
            | (go_roundw; case rel => exact ⟨k + 1, by simp, by omega, bt hbk hb2', NY.out ⟨by have := st_size y.a; omega, by omega, by omega, HL2.out (by first | assumption | exact nbf (And.right ‹_ ∧ (!bb) = false›) | exact nbf ‹(!bb) = false›)⟩⟩; case measure => simp [intOf]; omega)
        · have hkz : ¬ (k : Int) < c.attrs.length := by omega
          go_wp2
          go_roundw
          case rel => exact ⟨i + 1, by simp, by omega, bt hbr hbk, NX.out ⟨HC.out.1, HC.out.2, all_idx ⟨[], [], []⟩ fun j hj => NP.out j (by omega)⟩⟩
          case measure => simp [intOf]; omega
    · have hiz : ¬ (i : Int) < x.conds.length := by omega
      go_wp2
      go_loopw [6] (fun v wr => ∃ i : Nat, v = .int .i64 i ∧ i ≤ x.acts.length ∧ Below (w.alloc (.cells #[.string (st x.nm), .slice a1 x.conds.length c1, .slice a2 x.acts.length c2] 33)).heap.size (w.alloc (.cells #[.string (st x.nm), .slice a1 x.conds.length c1, .slice a2 x.acts.length c2] 33)) wr ∧ (∀ j, j < i → actL (x.acts.getD j ⟨0, [], 0, [], [], []⟩))) (fun v _ => (x.acts.length - intOf v).toNat)
      case atStart => exact ⟨0, rfl, Nat.zero_le _, hbr, fun j hj => absurd hj (Nat.not_lt_zero _)⟩
      case round =>
        obtain ⟨n, rfl, hn, hbn, hno⟩ := hrel
        have NQ : Hid (∀ j, j < n → actL (x.acts.getD j ⟨0, [], 0, [], [], []⟩)) := hno
        clear hno
        clear p0 p1 p2
        obtain ⟨wq, hwq⟩ : ∃ wq, wq = wr := ⟨_, rfl⟩
        subst hwq
        have HQ : Hid (Below w.heap.size w wq) := bt (bxn _ _) hbn
        have p0 : wq.cell? ⟨w.heap.size, 0, none⟩ = some (.string (st x.nm)) := by rw [hbn.cell (p := ⟨w.heap.size, 0, none⟩) (by simp)]; go_simp
        have p1 : wq.cell? ⟨w.heap.size, 1, none⟩ = some (.slice a1 x.conds.length c1) := by rw [hbn.cell (p := ⟨w.heap.size, 1, none⟩) (by simp)]; go_simp
        have p2 : wq.cell? ⟨w.heap.size, 2, none⟩ = some (.slice a2 x.acts.length c2) := by rw [hbn.cell (p := ⟨w.heap.size, 2, none⟩) (by simp)]; go_simp
        by_cases hltn : n < x.acts.length
        · have hnz : (n : Int) < x.acts.length := by omega
          obtain ⟨b1, o1, rfl, hb1, q1⟩ := R2.out n hltn
          have e1 := G2.out.at n [] ⟨0, [], 0, [], [], []⟩ hltn
          have NX : Hid (actL (x.acts.getD n ⟨0, [], 0, [], [], []⟩) → ∀ j, j < n + 1 → actL (x.acts.getD j ⟨0, [], 0, [], [], []⟩)) := fun hx => idx_next NQ.out hx
          generalize x.acts.getD n ⟨0, [], 0, [], [], []⟩ = c at q1 e1 NX
          obtain ⟨u, u', ec, ⟨cssu, hu, hhu⟩, ⟨cssv, hv, hhv⟩⟩ := e1
          have leu := hhu.len
          have lev := hhv.len
          obtain ⟨au, cu, rfl⟩ := hu.shape
          obtain ⟨av, cv, rfl⟩ := hv.shape
          obtain ⟨-, lu, mu, ru⟩ := hu.row
          obtain ⟨-, lv, mv, rv⟩ := hv.row
          rw [leu] at lu ru ec
          rw [lev] at lv rv ec
          have RU : Hid (∀ i, i < c.sets.length → ∃ b off, au = some ⟨b, off, none⟩ ∧ b < w.heap.size ∧ ∀ j, j < 2 → w.cell? ⟨b, off + (i * 2 + j), none⟩ = (cssu.getD i [])[j]?) := ru
          have GU : Hid (All2 (ReS P w) cssu c.sets) := hhu
          have RV : Hid (∀ i, i < c.exprs.length → ∃ b off, av = some ⟨b, off, none⟩ ∧ b < w.heap.size ∧ ∀ j, j < 1 → w.cell? ⟨b, off + (i * 1 + j), none⟩ = (cssv.getD i [])[j]?) := rv
          have GV : Hid (All2 (ReE P w) cssv c.exprs) := hhv
          rw [ec] at q1
          have d0 : wq.cell? ⟨b1, o1 + n * 6, none⟩ = some (.int .u8 c.k) := (HQ.out.cell (p := ⟨b1, o1 + n * 6, none⟩) hb1).trans (q1 0 (by decide))
          have d1 : wq.cell? ⟨b1, o1 + n * 6 + 1, none⟩ = some (.string (st c.c)) := (HQ.out.cell (p := ⟨b1, o1 + n * 6 + 1, none⟩) hb1).trans (q1 1 (by decide))
          have d2 : wq.cell? ⟨b1, o1 + n * 6 + 2, none⟩ = some (.int .i64 c.n) := (HQ.out.cell (p := ⟨b1, o1 + n * 6 + 2, none⟩) hb1).trans (q1 2 (by decide))
          have d3 : wq.cell? ⟨b1, o1 + n * 6 + 3, none⟩ = some (.string (st c.v)) := (HQ.out.cell (p := ⟨b1, o1 + n * 6 + 3, none⟩) hb1).trans (q1 3 (by decide))
          have d4 : wq.cell? ⟨b1, o1 + n * 6 + 4, none⟩ = some (.slice au c.sets.length cu) := (HQ.out.cell (p := ⟨b1, o1 + n * 6 + 4, none⟩) hb1).trans (q1 4 (by decide))
          have d5 : wq.cell? ⟨b1, o1 + n * 6 + 5, none⟩ = some (.slice av c.exprs.length cv) := (HQ.out.cell (p := ⟨b1, o1 + n * 6 + 5, none⟩) hb1).trans (q1 5 (by decide))
          have hnu : (c.sets.length : Int) ≤ 9223372036854775807 := by omega
          have hnv : (c.exprs.length : Int) ≤ 9223372036854775807 := by omega
          clear q1 ec ru hu hhu leu rv hv hhv lev
          have HA : Hid (Below w.heap.size w (wq.alloc (.cells #[.int .u8 c.k, .string (st c.c), .int .i64 c.n, .string (st c.v), .slice au c.sets.length cu, .slice av c.exprs.length cv] 70))) := bt HQ.out (bxn _ _)
          go_wp2
          all_goals first | (go_ret; exact ⟨_, rfl, (fun h => by cases h), HA.out⟩) | skip
          have HC : Hid (c.c.length ≤ 60 ∧ c.v.length ≤ 60 ∧ c.sets.length ≤ 10 ∧ c.exprs.length ≤ 12) := ⟨by have := st_size c.c; omega, by have := st_size c.v; omega, by omega, by omega⟩
          go_loopw [8] (fun v wr => ∃ k : Nat, v = .int .i64 k ∧ k ≤ c.sets.length ∧ Below (wq.alloc (.cells #[.int .u8 c.k, .string (st c.c), .int .i64 c.n, .string (st c.v), .slice au c.sets.length cu, .slice av c.exprs.length cv] 70)).heap.size (wq.alloc (.cells #[.int .u8 c.k, .string (st c.c), .int .i64 c.n, .string (st c.v), .slice au c.sets.length cu, .slice av c.exprs.length cv] 70)) wr ∧ (∀ j, j < k → setL (c.sets.getD j ⟨[], []⟩))) (fun v _ => (c.sets.length - intOf v).toNat)
          case atStart => exact ⟨0, rfl, Nat.zero_le _, Below.refl _ _, fun j hj => absurd hj (Nat.not_lt_zero _)⟩
          case round =>
            obtain ⟨k, rfl, hk, hbk, hno⟩ := hrel
            have NS : Hid (∀ j, j < k → setL (c.sets.getD j ⟨[], []⟩)) := hno
            clear hno
            obtain ⟨wp, hwp⟩ : ∃ wp, wp = wr := ⟨_, rfl⟩
            subst hwp
            have HK : Hid (Below w.heap.size w wp) := bt HA.out hbk
            have r0 : wp.cell? ⟨wq.heap.size, 0, none⟩ = some (.int .u8 c.k) := by rw [hbk.cell (p := ⟨wq.heap.size, 0, none⟩) (by simp)]; go_simp
            have r1 : wp.cell? ⟨wq.heap.size, 1, none⟩ = some (.string (st c.c)) := by rw [hbk.cell (p := ⟨wq.heap.size, 1, none⟩) (by simp)]; go_simp
            have r2 : wp.cell? ⟨wq.heap.size, 2, none⟩ = some (.int .i64 c.n) := by rw [hbk.cell (p := ⟨wq.heap.size, 2, none⟩) (by simp)]; go_simp
            have r3 : wp.cell? ⟨wq.heap.size, 3, none⟩ = some (.string (st c.v)) := by rw [hbk.cell (p := ⟨wq.heap.size, 3, none⟩) (by simp)]; go_simp
            have r4 : wp.cell? ⟨wq.heap.size, 4, none⟩ = some (.slice au c.sets.length cu) := by rw [hbk.cell (p := ⟨wq.heap.size, 4, none⟩) (by simp)]; go_simp
            have r5 : wp.cell? ⟨wq.heap.size, 5, none⟩ = some (.slice av c.exprs.length cv) := by rw [hbk.cell (p := ⟨wq.heap.size, 5, none⟩) (by simp)]; go_simp
            by_cases hlk : k < c.sets.length
            · have hkz : (k : Int) < c.sets.length := by omega
              obtain ⟨b2, o2, rfl, hb2, q2⟩ := RU.out k hlk
              have e2 := GU.out.at k [] ⟨[], []⟩ hlk
              have NY : Hid (setL (c.sets.getD k ⟨[], []⟩) → ∀ j, j < k + 1 → setL (c.sets.getD j ⟨[], []⟩)) := fun hx => idx_next NS.out hx
              generalize c.sets.getD k ⟨[], []⟩ = y at q2 e2 NY
              obtain ⟨t1, ec, k1⟩ := e2
              have CL1 := lightItemsB t1 y.e wp (k1.keep (Stays.below HK.out))
              rw [ec] at q2
              obtain ⟨s1, d8, rfl⟩ := k1.shape
              have f0 : wp.cell? ⟨b2, o2 + k * 2, none⟩ = some (.string (st y.a)) := (HK.out.cell (p := ⟨b2, o2 + k * 2, none⟩) hb2).trans (q2 0 (by decide))
              have f1 : wp.cell? ⟨b2, o2 + k * 2 + 1, none⟩ = some (.slice s1 (y.e.map clI).length d8) := (HK.out.cell (p := ⟨b2, o2 + k * 2 + 1, none⟩) hb2).trans (q2 1 (by decide))
              clear q2 ec k1
              generalize (y.e.map clI).length = ne at *
              go_wp2_with (go_at_call 41; refine CL1.mono ?_; rintro e w2 ⟨bb, rfl, hLL, hb2'⟩; have HLL := hLL; clear hLL; have HL2 : Hid (bb = true → _) := HLL; clear HLL CL1)
              all_goals first
                | (go_ret; exact ⟨_, rfl, (fun h => by cases h), HK.out⟩)
                | (go_ret; exact ⟨_, rfl, (fun h => by cases h), bt HK.out hb2'⟩)
                | (refine ⟨⟨k + 1, by simp, by omega, bt hbk hb2', NY.out ⟨by have := st_size y.a; omega, HL2.out (by first | assumption | exact nbf (And.right ‹_ ∧ (!bb) = false›) | exact nbf ‹(!bb) = false›)⟩⟩, ?_⟩; simp [intOf]; omega)
                | (go_roundw; case rel => exact ⟨k + 1, by simp, by omega, bt hbk hb2', NY.out ⟨by have := st_size y.a; omega, HL2.out (by first | assumption | exact nbf (And.right ‹_ ∧ (!bb) = false›) | exact nbf ‹(!bb) = false›)⟩⟩; case measure => simp [intOf]; omega)
            · have hkz : ¬ (k : Int) < c.sets.length := by omega
              go_wp2
              go_loopw [9] (fun v wr => ∃ k : Nat, v = .int .i64 k ∧ k ≤ c.exprs.length ∧ Below (wq.alloc (.cells #[.int .u8 c.k, .string (st c.c), .int .i64 c.n, .string (st c.v), .slice au c.sets.length cu, .slice av c.exprs.length cv] 70)).heap.size (wq.alloc (.cells #[.int .u8 c.k, .string (st c.c), .int .i64 c.n, .string (st c.v), .slice au c.sets.length cu, .slice av c.exprs.length cv] 70)) wr ∧ (∀ j, j < k → itemsL (c.exprs.getD j []))) (fun v _ => (c.exprs.length - intOf v).toNat)
              case atStart => exact ⟨0, rfl, Nat.zero_le _, hbk, fun j hj => absurd hj (Nat.not_lt_zero _)⟩
              case round =>
                obtain ⟨m, rfl, hm, hbm, hno⟩ := hrel
                have NE : Hid (∀ j, j < m → itemsL (c.exprs.getD j [])) := hno
                clear hno
                clear r0 r1 r2 r3 r4 r5
                have HM : Hid (Below w.heap.size w wr) := bt HA.out hbm
                have r0 : wr.cell? ⟨wq.heap.size, 0, none⟩ = some (.int .u8 c.k) := by rw [hbm.cell (p := ⟨wq.heap.size, 0, none⟩) (by simp)]; go_simp
                have r1 : wr.cell? ⟨wq.heap.size, 1, none⟩ = some (.string (st c.c)) := by rw [hbm.cell (p := ⟨wq.heap.size, 1, none⟩) (by simp)]; go_simp
                have r2 : wr.cell? ⟨wq.heap.size, 2, none⟩ = some (.int .i64 c.n) := by rw [hbm.cell (p := ⟨wq.heap.size, 2, none⟩) (by simp)]; go_simp
                have r3 : wr.cell? ⟨wq.heap.size, 3, none⟩ = some (.string (st c.v)) := by rw [hbm.cell (p := ⟨wq.heap.size, 3, none⟩) (by simp)]; go_simp
                have r4 : wr.cell? ⟨wq.heap.size, 4, none⟩ = some (.slice au c.sets.length cu) := by rw [hbm.cell (p := ⟨wq.heap.size, 4, none⟩) (by simp)]; go_simp
                have r5 : wr.cell? ⟨wq.heap.size, 5, none⟩ = some (.slice av c.exprs.length cv) := by rw [hbm.cell (p := ⟨wq.heap.size, 5, none⟩) (by simp)]; go_simp
                by_cases hlm : m < c.exprs.length
                · have hmz : (m : Int) < c.exprs.length := by omega
                  obtain ⟨b2, o2, rfl, hb2, q2⟩ := RV.out m hlm
                  have e2 := GV.out.at m [] [] hlm
                  have NY : Hid (itemsL (c.exprs.getD m []) → ∀ j, j < m + 1 → itemsL (c.exprs.getD j [])) := fun hx => idx_next NE.out hx
                  generalize c.exprs.getD m [] = y at q2 e2 NY
                  obtain ⟨t1, ec, k1⟩ := e2
                  have CL1 := lightItemsB t1 y wr (k1.keep (Stays.below HM.out))
                  rw [ec] at q2
                  obtain ⟨s1, d8, rfl⟩ := k1.shape
                  have f0 : wr.cell? ⟨b2, o2 + m, none⟩ = some (.slice s1 (y.map clI).length d8) := (HM.out.cell (p := ⟨b2, o2 + m, none⟩) hb2).trans (by have := q2 0 (by decide); rw [Nat.mul_one, Nat.add_zero] at this; exact this)
                  clear q2 ec k1
                  generalize (y.map clI).length = ne at *
                  go_wp2_with (go_at_call 41; refine CL1.mono ?_; rintro e w2 ⟨bb, rfl, hLL, hb2'⟩; have HLL := hLL; clear hLL; have HL2 : Hid (bb = true → _) := HLL; clear HLL CL1)
                  all_goals first
                    | (go_ret; exact ⟨_, rfl, (fun h => by cases h), bt HM.out hb2'⟩)
                    | (refine ⟨⟨m + 1, by simp, by omega, bt hbm hb2', NY.out (HL2.out (by first | assumption | exact nbf (And.right ‹_ ∧ (!bb) = false›) | exact nbf ‹(!bb) = false›))⟩, ?_⟩; simp [intOf]; omega)
                    | (go_roundw; case rel => exact ⟨m + 1, by simp, by omega, bt hbm hb2', NY.out (HL2.out (by first | assumption | exact nbf (And.right ‹_ ∧ (!bb) = false›) | exact nbf ‹(!bb) = false›))⟩; case measure => simp [intOf]; omega)
                · have hmz : ¬ (m : Int) < c.exprs.length := by omega
                  go_wp2
                  go_roundw
                  case rel => exact ⟨n + 1, by simp, by omega, bt (bt hbn (bxn _ _)) hbm, NX.out ⟨HC.out.1, HC.out.2.1, HC.out.2.2.1, HC.out.2.2.2, all_idx ⟨[], []⟩ fun j hj => NS.out j (by omega), all_idx [] fun j hj => NE.out j (by omega)⟩⟩
                  case measure => simp [intOf]; omega
        · have hnz : ¬ (n : Int) < x.acts.length := by omega
          go_wp2
          go_ret
          exact ⟨_, rfl, (fun _ => ⟨HL.out.1, HL.out.2.1, HL.out.2.2, all_idx ⟨false, [], []⟩ fun j hj => NO.out j (by omega), all_idx ⟨0, [], 0, [], [], []⟩ fun j hj => NQ.out j (by omega)⟩), HQ.out⟩
end Go.Proofs.Ytakibdkmgjpbhaa
