/- Whether a program is small enough for a statement: whatever is told, it is told: contract of a single call. -/
import Derived.Test.YtakibdkmgjpbhaaLra
namespace Go.Proofs.Ytakibdkmgjpbhaa
set_option maxRecDepth 20000
set_option maxRecDepth 20000
set_option maxRecDepth 20000
open Go.RowKit
set_option linter.unusedVariables false
set_option linter.unusedSimpArgs false
set_option maxRecDepth 20000

set_option maxHeartbeats 8000000 in
theorem lightB_any {P : Nat → Nat → Prop} (cs : List Value) (x : ProgD) (w : World) (h : ReP P w cs x) :
    Calls Try.prog 8 #[.agg cs.toArray] w (SomeL (progL x) w) := by
  obtain ⟨v1, v2, rfl, ⟨css1, h1, hh1⟩, ⟨css2, h2, hh2⟩⟩ := h
  have le1 := hh1.len
  have le2 := hh2.len
  obtain ⟨a1, c1, rfl⟩ := h1.shape
  obtain ⟨a2, c2, rfl⟩ := h2.shape
  obtain ⟨-, l1, m1, r1⟩ := h1.row
  obtain ⟨-, l2, m2, r2⟩ := h2.row
  rw [le1] at l1 r1 ⊢
  rw [le2] at l2 r2 ⊢
  have R1 : Hid (∀ i, i < x.cs.length → ∃ b off, a1 = some ⟨b, off, none⟩ ∧ b < w.heap.size ∧ ∀ j, j < 2 → w.cell? ⟨b, off + (i * 2 + j), none⟩ = (css1.getD i [])[j]?) := r1
  have R2 : Hid (∀ i, i < x.rs.length → ∃ b off, a2 = some ⟨b, off, none⟩ ∧ b < w.heap.size ∧ ∀ j, j < 3 → w.cell? ⟨b, off + (i * 3 + j), none⟩ = (css2.getD i [])[j]?) := r2
  have G1 : Hid (All2 (ReK P w) css1 x.cs) := hh1
  have G2 : Hid (All2 (ReR P w) css2 x.rs) := hh2
  clear r1 h1 r2 h2 hh1 hh2 le1 le2
  have hnn : (x.cs.length : Int) ≤ 9223372036854775807 := by omega
  have hnn2 : (x.rs.length : Int) ≤ 9223372036854775807 := by omega
  go_enter Try.func8, Try.ntmps8
  go_wp2
  all_goals first | (go_ret; exact ⟨_, rfl, (fun h => by cases h), bxn _ _⟩) | skip
  have HL : Hid (x.cs.length ≤ 20 ∧ x.rs.length ≤ 6) := ⟨by omega, by omega⟩
  go_loopw [3] (fun v wr => ∃ i : Nat, v = .int .i64 i ∧ i ≤ x.cs.length ∧ Below (w.alloc (.cells #[.slice a1 x.cs.length c1, .slice a2 x.rs.length c2] 25)).heap.size (w.alloc (.cells #[.slice a1 x.cs.length c1, .slice a2 x.rs.length c2] 25)) wr ∧ (∀ j, j < i → classL (x.cs.getD j ⟨[], []⟩))) (fun v _ => (x.cs.length - intOf v).toNat)
  case atStart => exact ⟨0, rfl, Nat.zero_le _, Below.refl _ _, fun j hj => absurd hj (Nat.not_lt_zero _)⟩
  case round =>
    obtain ⟨i, rfl, hi, hbr, hno⟩ := hrel
    have NO : Hid (∀ j, j < i → classL (x.cs.getD j ⟨[], []⟩)) := hno
    clear hno
    obtain ⟨wo, hwo⟩ : ∃ wo, wo = wr := ⟨_, rfl⟩
    subst hwo
    have HW : Hid (Below w.heap.size w wo) := bt (bxn _ _) hbr
    have p0 : wo.cell? ⟨w.heap.size, 0, none⟩ = some (.slice a1 x.cs.length c1) := by rw [hbr.cell (p := ⟨w.heap.size, 0, none⟩) (by simp)]; go_simp
    have p1 : wo.cell? ⟨w.heap.size, 1, none⟩ = some (.slice a2 x.rs.length c2) := by rw [hbr.cell (p := ⟨w.heap.size, 1, none⟩) (by simp)]; go_simp
    by_cases hlt : i < x.cs.length
    · have hiz : (i : Int) < x.cs.length := by omega
      obtain ⟨b1, o1, rfl, hb1, q1⟩ := R1.out i hlt
      have e1 := G1.out.at i [] ⟨[], []⟩ hlt
      have NX : Hid (classL (x.cs.getD i ⟨[], []⟩) → ∀ j, j < i + 1 → classL (x.cs.getD j ⟨[], []⟩)) := fun hx => idx_next NO.out hx
      generalize x.cs.getD i ⟨[], []⟩ = c at q1 e1 NX
      obtain ⟨u, ec, hu⟩ := e1
      obtain ⟨au, cu, rfl⟩ := hu.shape
      obtain ⟨-, lu, mu, ru⟩ := hu.row
      simp only [List.length_map] at lu ru ec
      have RU : Hid (∀ i, i < c.attrs.length → ∃ b off, au = some ⟨b, off, none⟩ ∧ b < w.heap.size ∧ ∀ j, j < 1 → w.cell? ⟨b, off + (i * 1 + j), none⟩ = ((c.attrs.map clS).getD i [])[j]?) := ru
      rw [ec] at q1
      have d0 : wo.cell? ⟨b1, o1 + i * 2, none⟩ = some (.string (st c.nm)) := (HW.out.cell (p := ⟨b1, o1 + i * 2, none⟩) hb1).trans (q1 0 (by decide))
      have d1 : wo.cell? ⟨b1, o1 + i * 2 + 1, none⟩ = some (.slice au c.attrs.length cu) := (HW.out.cell (p := ⟨b1, o1 + i * 2 + 1, none⟩) hb1).trans (q1 1 (by decide))
      have hnu : (c.attrs.length : Int) ≤ 9223372036854775807 := by omega
      clear q1 ec ru hu
      have HA : Hid (Below w.heap.size w (wo.alloc (.cells #[.string (st c.nm), .slice au c.attrs.length cu] 41))) := bt HW.out (bxn _ _)
      go_wp2
      all_goals first | (go_ret; exact ⟨_, rfl, (fun h => by cases h), HA.out⟩) | skip
      have HC : Hid (c.nm.length ≤ 60 ∧ c.attrs.length ≤ 10) := ⟨by have := st_size c.nm; omega, by omega⟩
      go_loopw [5] (fun v wr => ∃ k : Nat, v = .int .i64 k ∧ k ≤ c.attrs.length ∧ Below (wo.alloc (.cells #[.string (st c.nm), .slice au c.attrs.length cu] 41)).heap.size (wo.alloc (.cells #[.string (st c.nm), .slice au c.attrs.length cu] 41)) wr ∧ (∀ j, j < k → (c.attrs.getD j []).length ≤ 60)) (fun v _ => (c.attrs.length - intOf v).toNat)
      case atStart => exact ⟨0, rfl, Nat.zero_le _, Below.refl _ _, fun j hj => absurd hj (Nat.not_lt_zero _)⟩
      case round =>
        obtain ⟨k, rfl, hk, hbk, hno⟩ := hrel
        have NP : Hid (∀ j, j < k → (c.attrs.getD j []).length ≤ 60) := hno
        clear hno
        have HK : Hid (Below w.heap.size w wr) := bt HA.out hbk
        have r0 : wr.cell? ⟨wo.heap.size, 0, none⟩ = some (.string (st c.nm)) := by rw [hbk.cell (p := ⟨wo.heap.size, 0, none⟩) (by simp)]; go_simp
        have r1 : wr.cell? ⟨wo.heap.size, 1, none⟩ = some (.slice au c.attrs.length cu) := by rw [hbk.cell (p := ⟨wo.heap.size, 1, none⟩) (by simp)]; go_simp
        by_cases hlk : k < c.attrs.length
        · have hkz : (k : Int) < c.attrs.length := by omega
          obtain ⟨b2, o2, rfl, hb2, q2⟩ := RU.out k hlk
          have f0 : wr.cell? ⟨b2, o2 + k, none⟩ = some (.string (st (c.attrs.getD k []))) := (HK.out.cell (p := ⟨b2, o2 + k, none⟩) hb2).trans (by have := q2 0 (by decide); rw [Nat.mul_one, Nat.add_zero] at this; rw [this]; simp [List.getD, hlk, clS])
          clear q2
          have NY : Hid ((c.attrs.getD k []).length ≤ 60 → ∀ j, j < k + 1 → (c.attrs.getD j []).length ≤ 60) := fun hx => idx_next (p := fun y : Str => y.length ≤ 60) NP.out hx
          generalize c.attrs.getD k [] = y at f0 NY
          go_wp2
          all_goals first
            | (go_ret; exact ⟨_, rfl, (fun h => by cases h), HK.out⟩)
            | (refine ⟨⟨k + 1, by simp, by omega, hbk, NY.out (by have := st_size y; omega)⟩, ?_⟩; simp [intOf]; omega)
            | (go_roundw; case rel => exact ⟨k + 1, by simp, by omega, hbk, NY.out (by have := st_size y; omega)⟩; case measure => simp [intOf]; omega)
        · have hkz : ¬ (k : Int) < c.attrs.length := by omega
          go_wp2
          go_roundw
          case rel => exact ⟨i + 1, by simp, by omega, bt (bt hbr (bxn _ _)) hbk, NX.out ⟨HC.out.1, HC.out.2, all_idx (p := fun y : Str => y.length ≤ 60) [] fun j hj => NP.out j (by omega)⟩⟩
          case measure => simp [intOf]; omega
    · have hiz : ¬ (i : Int) < x.cs.length := by omega
      go_wp2
      go_loopw [6] (fun v wr => ∃ i : Nat, v = .int .i64 i ∧ i ≤ x.rs.length ∧ Below (w.alloc (.cells #[.slice a1 x.cs.length c1, .slice a2 x.rs.length c2] 25)).heap.size (w.alloc (.cells #[.slice a1 x.cs.length c1, .slice a2 x.rs.length c2] 25)) wr ∧ (∀ j, j < i → ruleL (x.rs.getD j ⟨[], [], []⟩))) (fun v _ => (x.rs.length - intOf v).toNat)
      case atStart => exact ⟨0, rfl, Nat.zero_le _, hbr, fun j hj => absurd hj (Nat.not_lt_zero _)⟩
      case round =>
        obtain ⟨n, rfl, hn, hbn, hno⟩ := hrel
        have NQ : Hid (∀ j, j < n → ruleL (x.rs.getD j ⟨[], [], []⟩)) := hno
        clear hno
        clear p0 p1
        obtain ⟨wq, hwq⟩ : ∃ wq, wq = wr := ⟨_, rfl⟩
        subst hwq
        have HQ : Hid (Below w.heap.size w wq) := bt (bxn _ _) hbn
        have p0 : wq.cell? ⟨w.heap.size, 0, none⟩ = some (.slice a1 x.cs.length c1) := by rw [hbn.cell (p := ⟨w.heap.size, 0, none⟩) (by simp)]; go_simp
        have p1 : wq.cell? ⟨w.heap.size, 1, none⟩ = some (.slice a2 x.rs.length c2) := by rw [hbn.cell (p := ⟨w.heap.size, 1, none⟩) (by simp)]; go_simp
        by_cases hltn : n < x.rs.length
        · have hnz : (n : Int) < x.rs.length := by omega
          obtain ⟨b1, o1, rfl, hb1, q1⟩ := R2.out n hltn
          have e1 := G2.out.at n [] ⟨[], [], []⟩ hltn
          have NX : Hid (ruleL (x.rs.getD n ⟨[], [], []⟩) → ∀ j, j < n + 1 → ruleL (x.rs.getD j ⟨[], [], []⟩)) := fun hx => idx_next NQ.out hx
          generalize x.rs.getD n ⟨[], [], []⟩ = c at q1 e1 NX
          have CL1 := lightRuleB _ c wq (ReR.keep (Stays.below HQ.out) e1)
          obtain ⟨u, u', ec, ⟨cssu, hu, -⟩, ⟨cssv, hv, -⟩⟩ := e1
          obtain ⟨au, cu, rfl⟩ := hu.shape
          obtain ⟨av, cv, rfl⟩ := hv.shape
          rw [ec] at q1 CL1
          have d0 : wq.cell? ⟨b1, o1 + n * 3, none⟩ = some (.string (st c.nm)) := (HQ.out.cell (p := ⟨b1, o1 + n * 3, none⟩) hb1).trans (q1 0 (by decide))
          have d1 : wq.cell? ⟨b1, o1 + n * 3 + 1, none⟩ = some (.slice au cssu.length cu) := (HQ.out.cell (p := ⟨b1, o1 + n * 3 + 1, none⟩) hb1).trans (q1 1 (by decide))
          have d2 : wq.cell? ⟨b1, o1 + n * 3 + 2, none⟩ = some (.slice av cssv.length cv) := (HQ.out.cell (p := ⟨b1, o1 + n * 3 + 2, none⟩) hb1).trans (q1 2 (by decide))
          clear q1 ec hu hv
          generalize cssu.length = nu at *
          generalize cssv.length = nv at *
          go_wp2_with (go_at_call 26; refine CL1.mono ?_; rintro e w2 ⟨bb, rfl, hLL, hb2'⟩; have HL2 : Hid (bb = true → _) := hLL; clear hLL CL1)
          all_goals first
            | (go_ret; exact ⟨_, rfl, (fun h => by cases h), bt HQ.out hb2'⟩)
            | (refine ⟨⟨n + 1, by simp, by omega, bt hbn hb2', NX.out (HL2.out (by first | assumption | exact nbf (And.right ‹_ ∧ (!bb) = false›) | exact nbf ‹(!bb) = false›))⟩, ?_⟩; simp [intOf]; omega)
            | (go_roundw; case rel => exact ⟨n + 1, by simp, by omega, bt hbn hb2', NX.out (HL2.out (by first | assumption | exact nbf (And.right ‹_ ∧ (!bb) = false›) | exact nbf ‹(!bb) = false›))⟩; case measure => simp [intOf]; omega)
        · have hnz : ¬ (n : Int) < x.rs.length := by omega
          go_wp2
          go_ret
          exact ⟨_, rfl, (fun _ => ⟨HL.out.1, HL.out.2, all_idx ⟨[], []⟩ fun j hj => NO.out j (by omega), all_idx ⟨[], [], []⟩ fun j hj => NQ.out j (by omega)⟩), HQ.out⟩
end Go.Proofs.Ytakibdkmgjpbhaa
