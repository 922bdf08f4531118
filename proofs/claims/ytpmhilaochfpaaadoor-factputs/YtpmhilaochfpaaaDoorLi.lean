/- Whether classes, a fact and sets are small enough for a statement. -/
import Derived.Test.YtpmhilaochfpaaaDoorLf
namespace Go.Proofs.YtpmhilaochfpaaaDoor
set_option maxRecDepth 20000
set_option maxRecDepth 20000
open Go.RowKit
set_option linter.unusedVariables false
set_option linter.unusedSimpArgs false

set_option maxHeartbeats 8000000 in
theorem light_any {P : Nat → Nat → Prop} {Q Q2 Q3 : Nat → Prop} (v u s : Value) (cs : List ClassD) (f : FactD) (bs : List BoundD) (w : World) (h : Row 2 (ReK P) w Q v cs)
    (hf : SlW 3 w Q2 u (f.vs.map clV)) (hs : SlW 4 w Q3 s (bs.map clB)) :
    Calls Tryd.prog 11 #[v, .agg #[.int .i64 f.t, .string (st f.c), u], s] w (SomeL (lightL cs f bs) w) := by
  obtain ⟨css1, h1, hh1⟩ := h
  have le1 := hh1.len
  obtain ⟨a1, c1, rfl⟩ := h1.shape
  obtain ⟨-, l1, m1, r1⟩ := h1.row
  rw [le1] at l1 r1 ⊢
  obtain ⟨a2, c2, rfl⟩ := hf.shape
  obtain ⟨-, l2, m2, r2⟩ := hf.at v00
  obtain ⟨a3, c3, rfl⟩ := hs.shape
  obtain ⟨-, l3, m3, r3⟩ := hs.at ⟨[], v00⟩
  simp only [List.length_map] at *
  have R1 : Hid (∀ i, i < cs.length → ∃ b off, a1 = some ⟨b, off, none⟩ ∧ b < w.heap.size ∧ ∀ j, j < 2 → w.cell? ⟨b, off + (i * 2 + j), none⟩ = (css1.getD i [])[j]?) := r1
  have R2 : Hid (∀ i, i < f.vs.length → ∃ b off, a2 = some ⟨b, off, none⟩ ∧ b < w.heap.size ∧ ∀ j, j < 3 → w.cell? ⟨b, off + (i * 3 + j), none⟩ = (clV (f.vs.getD i v00))[j]?) := r2
  have R3 : Hid (∀ i, i < bs.length → ∃ b off, a3 = some ⟨b, off, none⟩ ∧ b < w.heap.size ∧ ∀ j, j < 4 → w.cell? ⟨b, off + (i * 4 + j), none⟩ = (clB (bs.getD i ⟨[], v00⟩))[j]?) := r3
  have G1 : Hid (All2 (ReK P w) css1 cs) := hh1
  clear r1 h1 hh1 le1 r2 hf r3 hs
  have hnn : (cs.length : Int) ≤ 9223372036854775807 := by omega
  have hnn2 : (f.vs.length : Int) ≤ 9223372036854775807 := by omega
  have hnn3 : (bs.length : Int) ≤ 9223372036854775807 := by omega
  obtain ⟨wf, hwf⟩ : ∃ wf, wf = w.alloc (.cells #[.int .i64 f.t, .string (st f.c), .slice a2 f.vs.length c2] 36) := ⟨_, rfl⟩
  have HF : Hid (Below w.heap.size w wf ∧ w.heap.size < wf.heap.size ∧ wf.cell? ⟨w.heap.size, 1, none⟩ = some (.string (st f.c)) ∧ wf.cell? ⟨w.heap.size, 2, none⟩ = some (.slice a2 f.vs.length c2)) := by
    subst hwf; exact ⟨bxn _ _, by simp, by go_simp, by go_simp⟩
  go_enter Tryd.func11, Tryd.ntmps11
  go_wp2
  all_goals first | (go_ret; exact ⟨_, rfl, (fun h => by cases h), bxn _ _⟩) | skip
  have HL : Hid (cs.length ≤ 20 ∧ f.vs.length ≤ 20 ∧ f.c.length ≤ 60 ∧ bs.length ≤ 20) := ⟨by omega, by omega, by have := st_size f.c; omega, by omega⟩
  rw [← hwf]
  clear hwf
  go_loopw [7] (fun v wr => ∃ i : Nat, v = .int .i64 i ∧ i ≤ cs.length ∧ Hid (Below wf.heap.size wf wr) ∧ Hid (∀ j, j < i → classL (cs.getD j ⟨[], []⟩))) (fun v _ => (cs.length - intOf v).toNat)
  case atStart => exact ⟨0, rfl, Nat.zero_le _, Below.refl _ _, fun j hj => absurd hj (Nat.not_lt_zero _)⟩
  case round =>
    obtain ⟨i, rfl, hi, hbr, NO⟩ := hrel
    obtain ⟨wo, hwo⟩ : ∃ wo, wo = wr := ⟨_, rfl⟩
    subst hwo
    have HW : Hid (Below w.heap.size w wo) := HF.out.1.trans (hbr.out.mono (Nat.le_of_lt HF.out.2.1))
    by_cases hlt : i < cs.length
    · have hiz : (i : Int) < cs.length := by omega
      obtain ⟨b1, o1, rfl, hb1, q1⟩ := R1.out i hlt
      have e1 := G1.out.at i [] ⟨[], []⟩ hlt
      have NX : Hid (classL (cs.getD i ⟨[], []⟩) → ∀ j, j < i + 1 → classL (cs.getD j ⟨[], []⟩)) := fun hx => idx_next NO.out hx
      generalize cs.getD i ⟨[], []⟩ = c at q1 e1 NX
      obtain ⟨u, ec, hu⟩ := e1
      obtain ⟨au, cu, rfl⟩ := hu.shape
      obtain ⟨-, lu, mu, ru⟩ := hu.at []
      simp only [List.length_map] at ec
      have RU : Hid (∀ i, i < c.attrs.length → ∃ b off, au = some ⟨b, off, none⟩ ∧ b < w.heap.size ∧ ∀ j, j < 1 → w.cell? ⟨b, off + (i * 1 + j), none⟩ = (clS (c.attrs.getD i []))[j]?) := ru
      rw [ec] at q1
      have d0 : wo.cell? ⟨b1, o1 + i * 2, none⟩ = some (.string (st c.nm)) := (HW.out.cell (p := ⟨b1, o1 + i * 2, none⟩) hb1).trans (q1 0 (by decide))
      have d1 : wo.cell? ⟨b1, o1 + i * 2 + 1, none⟩ = some (.slice au c.attrs.length cu) := (HW.out.cell (p := ⟨b1, o1 + i * 2 + 1, none⟩) hb1).trans (q1 1 (by decide))
      have hnu : (c.attrs.length : Int) ≤ 9223372036854775807 := by omega
      have HB1 : Hid (b1 < w.heap.size ∧ w.cell? ⟨b1, o1 + i * 2 + 1, none⟩ = some (.slice au c.attrs.length cu)) := ⟨hb1, q1 1 (by decide)⟩
      clear q1 ec ru hu
      go_wp2
      all_goals first | (go_ret; exact ⟨_, rfl, (fun h => by cases h), HW.out⟩) | skip
      have HC : Hid (c.nm.length ≤ 60 ∧ c.attrs.length ≤ 20) := ⟨by have := st_size c.nm; omega, by omega⟩
      go_loopw [8] (fun v wr => ∃ k : Nat, v = .int .i64 k ∧ k ≤ c.attrs.length ∧ Hid (Below wo.heap.size wo wr) ∧ Hid (∀ j, j < k → (c.attrs.getD j []).length ≤ 60)) (fun v _ => (c.attrs.length - intOf v).toNat)
      case atStart => exact ⟨0, rfl, Nat.zero_le _, Below.refl _ _, fun j hj => absurd hj (Nat.not_lt_zero _)⟩
      case round =>
        clear d0 d1
        obtain ⟨k, rfl, hk, hbk, NP⟩ := hrel
        have HK : Hid (Below w.heap.size w wr) := bt HW.out hbk.out
        have d1 : wr.cell? ⟨b1, o1 + i * 2 + 1, none⟩ = some (.slice au c.attrs.length cu) := (HK.out.cell (p := ⟨b1, o1 + i * 2 + 1, none⟩) hb1).trans HB1.out.2
        by_cases hlk : k < c.attrs.length
        · have hkz : (k : Int) < c.attrs.length := by omega
          obtain ⟨b2, o2, rfl, hb2, q2⟩ := RU.out k hlk
          have f0 : wr.cell? ⟨b2, o2 + k, none⟩ = some (.string (st (c.attrs.getD k []))) := (HK.out.cell (p := ⟨b2, o2 + k, none⟩) hb2).trans (by have := q2 0 (by decide); rw [Nat.mul_one, Nat.add_zero] at this; rw [this]; rfl)
          clear q2
          have NY : Hid ((c.attrs.getD k []).length ≤ 60 → ∀ j, j < k + 1 → (c.attrs.getD j []).length ≤ 60) := fun hx => idx_next (p := fun y : Str => y.length ≤ 60) NP.out hx
          generalize c.attrs.getD k [] = y at f0 NY
          go_wp2
          all_goals first
            | (go_ret; exact ⟨_, rfl, (fun h => by cases h), HK.out⟩)
            | (refine ⟨⟨k + 1, by simp, by omega, hbk, NY.out (by have := st_size y; omega)⟩, ?_⟩; simp [intOf]; omega)
            | (go_roundw; case rel => exact ⟨k + 1, by simp, by omega, hbk, NY.out (by have := st_size y; omega)⟩; case measure => simp [intOf]; omega)
        · have hkz : ¬ (k : Int) < c.attrs.length := by omega
          go_wp2
          go_roundw
          case rel => exact ⟨i + 1, by simp, by omega, bt hbr.out hbk.out, NX.out ⟨HC.out.1, HC.out.2, all_idx (p := fun y : Str => y.length ≤ 60) [] fun j hj => NP.out j (by omega)⟩⟩
          case measure => simp [intOf]; omega
    · have hiz : ¬ (i : Int) < cs.length := by omega
      have HCS : Hid (∀ c ∈ cs, classL c) := all_idx ⟨[], []⟩ fun j hj => NO.out j (by omega)
      go_wp2
      go_loopw [9] (fun v wr => ∃ i : Nat, v = .int .i64 i ∧ i ≤ f.vs.length ∧ Hid (Below wo.heap.size wo wr) ∧ Hid (∀ j, j < i → valL (f.vs.getD j v00))) (fun v _ => (f.vs.length - intOf v).toNat)
      case atStart => exact ⟨0, rfl, Nat.zero_le _, Below.refl _ _, fun j hj => absurd hj (Nat.not_lt_zero _)⟩
      case round =>
        obtain ⟨k, rfl, hk, hbk, NP⟩ := hrel
        have HK : Hid (Below w.heap.size w wr) := bt HW.out hbk.out
        have p2 : wr.cell? ⟨w.heap.size, 2, none⟩ = some (.slice a2 f.vs.length c2) := ((bt hbr.out hbk.out).cell (p := ⟨w.heap.size, 2, none⟩) HF.out.2.1).trans HF.out.2.2.2
        by_cases hlk : k < f.vs.length
        · have hkz : (k : Int) < f.vs.length := by omega
          obtain ⟨b2, o2, rfl, hb2, q2⟩ := R2.out k hlk
          have f0 : wr.cell? ⟨b2, o2 + k * 3 + 2, none⟩ = some (.string (st (f.vs.getD k v00).s)) := (HK.out.cell (p := ⟨b2, o2 + k * 3 + 2, none⟩) hb2).trans (q2 2 (by decide))
          clear q2
          have NY : Hid (valL (f.vs.getD k v00) → ∀ j, j < k + 1 → valL (f.vs.getD j v00)) := fun hx => idx_next NP.out hx
          generalize f.vs.getD k v00 = y at f0 NY
          go_wp2
          all_goals first
            | (go_ret; exact ⟨_, rfl, (fun h => by cases h), HK.out⟩)
            | (refine ⟨⟨k + 1, by simp, by omega, hbk, NY.out (by have := st_size y.s; unfold valL; omega)⟩, ?_⟩; simp [intOf]; omega)
            | (go_roundw; case rel => exact ⟨k + 1, by simp, by omega, hbk, NY.out (by have := st_size y.s; unfold valL; omega)⟩; case measure => simp [intOf]; omega)
        · have hkz : ¬ (k : Int) < f.vs.length := by omega
          have HVS : Hid (∀ c ∈ f.vs, valL c) := all_idx v00 fun j hj => NP.out j (by omega)
          obtain ⟨wp, hwp⟩ : ∃ wp, wp = wr := ⟨_, rfl⟩
          subst hwp
          go_wp2
          go_loopw [10] (fun v wr => ∃ i : Nat, v = .int .i64 i ∧ i ≤ bs.length ∧ Hid (Below wp.heap.size wp wr) ∧ Hid (∀ j, j < i → boundL (bs.getD j ⟨[], v00⟩))) (fun v _ => (bs.length - intOf v).toNat)
          case atStart => exact ⟨0, rfl, Nat.zero_le _, Below.refl _ _, fun j hj => absurd hj (Nat.not_lt_zero _)⟩
          case round =>
            obtain ⟨n, rfl, hn, hbn, NQ⟩ := hrel
            have HN : Hid (Below w.heap.size w wr) := bt HK.out hbn.out
            by_cases hln : n < bs.length
            · have hkz : (n : Int) < bs.length := by omega
              obtain ⟨b2, o2, rfl, hb2, q2⟩ := R3.out n hln
              have f0 : wr.cell? ⟨b2, o2 + n * 4, none⟩ = some (.string (st (bs.getD n ⟨[], v00⟩).nm)) := (HN.out.cell (p := ⟨b2, o2 + n * 4, none⟩) hb2).trans (q2 0 (by decide))
              have f3 : wr.cell? ⟨b2, o2 + n * 4 + 1 + 2, none⟩ = some (.string (st (bs.getD n ⟨[], v00⟩).x.s)) := (HN.out.cell (p := ⟨b2, o2 + n * 4 + 1 + 2, none⟩) hb2).trans (q2 3 (by decide))
              clear q2
              have NY : Hid (boundL (bs.getD n ⟨[], v00⟩) → ∀ j, j < n + 1 → boundL (bs.getD j ⟨[], v00⟩)) := fun hx => idx_next NQ.out hx
              generalize bs.getD n ⟨[], v00⟩ = y at f0 f3 NY
              go_wp2
              all_goals first
                | (go_ret; exact ⟨_, rfl, (fun h => by cases h), HN.out⟩)
                | (refine ⟨⟨n + 1, by simp, by omega, hbn, NY.out ⟨by have := st_size y.nm; omega, by have := st_size y.x.s; omega⟩⟩, ?_⟩; simp [intOf]; omega)
                | (go_roundw; case rel => exact ⟨n + 1, by simp, by omega, hbn, NY.out ⟨by have := st_size y.nm; omega, by have := st_size y.x.s; omega⟩⟩; case measure => simp [intOf]; omega)
            · have hkz : ¬ (n : Int) < bs.length := by omega
              go_wp2
              go_ret
              exact ⟨_, rfl, (fun _ => ⟨HL.out.1, ⟨HL.out.2.1, HL.out.2.2.1, HVS.out⟩, HL.out.2.2.2, HCS.out, all_idx ⟨[], v00⟩ fun j hj => NQ.out j (by omega)⟩), HN.out⟩
end Go.Proofs.YtpmhilaochfpaaaDoor
