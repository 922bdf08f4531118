/- read. -/
import Derived.Test.YtnnndkpmlpbpcaaRr
import Derived.Test.YtnnndkpmlpbpcaaCh
import Derived.Deep.AppendLies
import Derived.Deep.RegionLaw
namespace Go.Proofs.Ytnnndkpmlpbpcaa
open Go.RowKit
set_option linter.unusedVariables false
set_option maxRecDepth 20000

theorem rq_text {B : Nat} {w : World} {rb : Nat} {p : RS} (h : RQ B w rb p) : Calls Try.prog 62 #[.pointer (some ⟨rb, 0, none⟩)] w fun e w' => e = .returned (.string (tval p)) ∧ RQ B w' rb (tstep p) ∧ w.grownBy w' (some rb) := by
  refine (Rq.rtx_any rb p.1 p.2 w h.1).mono ?_
  rintro e w' ⟨rfl, h1, h2⟩
  exact ⟨rfl, ⟨h1, h.2.1, Nat.le_trans h.2.2 h2.size⟩, h2⟩
/-- A bucket's block that is being filled. -/
def Blk (w : World) (T : Nat) (d n : Int) (v : Value) : Prop := w.heap[T]? = some (.cells #[.int .i64 d, .int .i64 n, v] 28 (0, 0))
theorem Blk.cells {w : World} {T : Nat} {d n : Int} {v : Value} (h : Blk w T d n v) : w.cell? ⟨T, 0, none⟩ = some (.int .i64 d) ∧ w.cell? ⟨T, 1, none⟩ = some (.int .i64 n) ∧ w.cell? ⟨T, 2, none⟩ = some v ∧ w.frozen? ⟨T, 0, none⟩ = false ∧ w.frozen? ⟨T, 1, none⟩ = false ∧ w.frozen? ⟨T, 2, none⟩ = false := by
  unfold Blk at h
  exact ⟨by simp [World.cell?, h], by simp [World.cell?, h], by simp [World.cell?, h], by simp [World.frozen?, h], by simp [World.frozen?, h], by simp [World.frozen?, h]⟩
structure RdI (w wr : World) (T rb B : Nat) (d n : Int) (v : Value) (ps : List PR) (p : RS) : Prop where
  rq : RQ B wr rb p
  hR : Blk wr w.heap.size 0 0 (.slice none 0 0)
  hT : Blk wr T d n v
  own : OwnQ wr (T + 1) v ps
  rb0 : w.heap.size < rb
  rbT : B ≤ T
  bl : Below w.heap.size w wr
theorem Blk.lt {w : World} {T : Nat} {d n : Int} {v : Value} (h : Blk w T d n v) : T < w.heap.size := (Array.getElem?_eq_some_iff.1 h).1
theorem Blk.of_below {w w' : World} {T : Nat} {d n : Int} {v : Value} (h : Blk w T d n v) (hb : Below (T + 1) w w') : Blk w' T d n v := (hb.block T (by omega)).trans h
theorem RdI.text {w wr w' : World} {T rb B : Nat} {d n : Int} {v : Value} {ps : List PR} {p q : RS} (h : RdI w wr T rb B d n v ps p) (hq : RQ B w' rb q) (hg : wr.grownBy w' (some rb)) : RdI w w' T rb B d n v ps q := by
  have h1 := h.rq.2.1
  have h2 := h.rb0
  have h3 := h.rbT
  refine ⟨hq, (hg.block _ h.hR.lt (by simp; omega)).trans h.hR, (hg.block _ h.hT.lt (by simp; omega)).trans h.hT, ?_, h.rb0, h.rbT, h.bl.grown hg h.bl.size (by intro k hk; cases hk; omega)⟩
  refine World.ownsRow.kept h.own hg ?_
  cases e : v.ownBlock with
  | none => exact .inl rfl
  | some k =>
    have := (World.ownsRow.lt h.own k e).1
    exact .inr (by simp; omega)
theorem RdI.drew {w wr : World} {T rb B : Nat} {d n : Int} {v : Value} {ps : List PR} {p : RS} (h : RdI w wr T rb B d n v ps p) : RdI w wr.drew T rb B d n v ps p :=
  ⟨h.rq.keep (Below.refl _ _).drew, h.hR, h.hT, h.own, h.rb0, h.rbT, h.bl.drew⟩
theorem RdI.alloc {w wr : World} {T rb B : Nat} {d n : Int} {v : Value} {ps : List PR} {p : RS} (h : RdI w wr T rb B d n v ps p) (o : Obj) : RdI w (wr.alloc o) T rb B d n v ps p :=
  ⟨h.rq.keep ((one_block _ _).mono h.rq.2.2), (Below.heap_alloc _ _ _ h.hR.lt).trans h.hR, (Below.heap_alloc _ _ _ h.hT.lt).trans h.hT, h.own.below (one_block _ _), h.rb0, h.rbT, bt h.bl (one_block _ _)⟩
theorem RdI.app {w wr w' : World} {T rb B : Nat} {d n : Int} {v v' : Value} {ps qs : List PR} {p : RS} (h : RdI w wr T rb B d n v ps p) (ho : OwnQ w' (T + 1) v' qs) (hb : Below (T + 1) wr w') : RdI w (w'.setCell ⟨T, 2, none⟩ v') T rb B d n v' qs p := by
  have h1 := h.rq.2.1
  have h2 := h.rb0
  have h3 := h.rbT
  have hT' : w'.heap[T]? = some (.cells #[.int .i64 d, .int .i64 n, v] 28 (0, 0)) := (hb.block T (by omega)).trans h.hT
  refine ⟨h.rq.keep ((hb.mono (by omega)).setCell (by simp; omega) _), ?_, ?_, ?_, h.rb0, h.rbT, (h.bl.trans (hb.mono (by omega))).setCell (by simp; omega) _⟩
  · exact (Below.heap_setCell _ _ _ _ (by simp; omega)).trans ((hb.block _ (by omega)).trans h.hR)
  · unfold Blk
    unfold World.setCell
    simp [Array.getElem?_modify, hT']
  · exact ho.keep (fun k hk _ => Below.heap_setCell _ _ _ _ (by simp; omega))
theorem step_appQ {ops : Array Oper} {o : Oper} {a : Act} {K : Act → World → Prop} {Q : Exit → Act → World → Prop} {E : Prop} {w : World} (hgd : o.guard = none) (s x : Operand)
    (ho : o.op = .call { callee := .builtin .append, args := #[s, x], argTypes := #[22, 22] }) (base : Nat) (v : Value) (zs : List PR) (p : PR) (hs : a.eval s = v) (hown : OwnQ w base v zs)
    (g0 : Nat) (hx : a.eval x = .slice (some ⟨g0, 0, none⟩) 1 1) (hv : PV w (some ⟨g0, 0, none⟩) [p]) (hlen : zs.length + 1 ≤ 1000000) (hbase : base ≤ w.heap.size)
    (h : ∀ g cap w', OwnQ w' base (.slice (some ⟨g, 0, none⟩) (zs.length + 1) cap) (zs ++ [p]) → Below base w w' → K (a.put o.dst (.slice (some ⟨g, 0, none⟩) (zs.length + 1) cap)) w') :
    if Region.wanted o (yielded ops a.tmps) = true then Oper.wp Try.prog o a w K Q else E := by
  obtain ⟨i0, hi, hz0, hz1, hz2⟩ := info_parts Try.info45
  refine step_append_lies w hgd s x 22 ho base 45 i0 (.agg #[.string ByteArray.empty, .string ByteArray.empty]) 2 32 Try.underlying22 hi hz0 hz1 hz2 rfl (by decide) v zs.length (flatP zs) hs hown ⟨g0, 0, none⟩ 1 1 (flatP [p]) hx rfl hv.cells (flatP_one [p]) (by decide) (by unfold maxLen; omega) (by omega) hbase w.heap.size rfl ?_
  intro g cap w' h1 h2 _ _
  refine h g cap w' ?_ ((Below.refl base w).grown h2 hbase (fun k hk => (World.ownsRow.lt hown k hk).1))
  unfold OwnQ
  rw [List.length_append, flatP_append]
  exact h1
set_option maxHeartbeats 4000000 in
theorem read_any (a : Option Addr) (cap : Nat) (zs : List Int) (w : World) (hb : BV w a zs) (hm : zs.length ≤ 1000000) (hn : a = none → cap = 0) :
    Calls Try.prog 37 #[.slice a zs.length cap] w fun e w' => ∃ v, e = .returned (.agg #[.int .i64 (readD zs), .int .i64 (readN zs), v]) ∧ OwnQ w' w.heap.size v (readP zs) ∧ Below w.heap.size w w' := by
  have NW : Hid (Calls Try.prog 60 #[.slice a zs.length cap] (w.alloc (.cells #[.int .i64 0, .int .i64 0, .slice none 0 0] 28)) fun e w' => ∃ rb, e = .returned (.pointer (some ⟨rb, 0, none⟩)) ∧ Hid ((w.alloc (.cells #[.int .i64 0, .int .i64 0, .slice none 0 0] 28)).heap.size ≤ rb ∧ RQ w'.heap.size w' rb (zs, 0) ∧ Below (w.alloc (.cells #[.int .i64 0, .int .i64 0, .slice none 0 0] 28)).heap.size (w.alloc (.cells #[.int .i64 0, .int .i64 0, .slice none 0 0] 28)) w')) := rq_new a cap zs _ (hb.below (one_block _ _)) hm hn
  have HM : Hid (0 ≤ readM zs ∧ readM zs ≤ 255) := nval1_bound (p2 zs) (nstep_all 2 (nstep_all 1 hb.1))
  clear hb
  go_enter Try.func37, Try.ntmps37
  go_wp2_with (first | (go_at_call 60; refine NW.out.mono ?_; rintro e w1 ⟨rb, rfl, H1⟩; obtain ⟨hr1, hq1, hb1⟩ := H1.out; clear NW) | (go_at_call 61; refine (rq_num 1 hq1).mono ?_; rintro e w2 ⟨rfl, hq2, hg2⟩; clear hq1) | (go_at_call 61; refine (rq_num 2 hq2).mono ?_; rintro e w3 ⟨rfl, hq3, hg3⟩; clear hq2) | (go_at_call 61; refine (rq_num 1 (hq3.keep ((one_block _ _).mono hq3.2.2))).mono ?_; rintro e w4 ⟨rfl, hq4, hg4⟩))
  have I0 : RdI w w3 w3.heap.size rb w1.heap.size (readD zs) (readN zs) (.slice none 0 0) [] (p2 zs) → True := fun _ => trivial
  clear I0
  have hR3 : Blk w3 w.heap.size 0 0 (.slice none 0 0) := by
    have hr : w.heap.size + 1 ≤ rb := by simpa using hr1
    have q1 : Blk w1 w.heap.size 0 0 (.slice none 0 0) := (hb1.block w.heap.size (by simp)).trans (heap_alloc_new w _)
    have q2 : Blk w2 w.heap.size 0 0 (.slice none 0 0) := (hg2.block _ q1.lt (by simp; omega)).trans q1
    exact (hg3.block _ q2.lt (by simp; omega)).trans q2
  have HB3 : Below w.heap.size w w3 := ((bt (one_block _ _) hb1).grown hg2 (bt (one_block _ _) hb1).size (by intro k hk; cases hk; have := hr1; simp at this; omega)).grown hg3 (Nat.le_trans (bt (one_block _ _) hb1).size hg2.size) (by intro k hk; cases hk; have := hr1; simp at this; omega)
  have I3 : Hid (RdI w w4 w3.heap.size rb w1.heap.size (readD zs) (readN zs) (.slice none 0 0) [] (p3 zs)) := by
    have I2 : RdI w (w3.alloc (.cells #[.int .i64 (readD zs), .int .i64 (readN zs), .slice none 0 0] 28)) w3.heap.size rb w1.heap.size (readD zs) (readN zs) (.slice none 0 0) [] (p2 zs) :=
      ⟨hq3.keep ((one_block _ _).mono hq3.2.2), (Below.heap_alloc _ _ _ hR3.lt).trans hR3, heap_alloc_new w3 _, OwnQ.nil _ _, by have := hr1; simp at this; omega, hq3.2.2, bt HB3 (one_block _ _)⟩
    exact I2.text hq4 hg4
  have HT : Hid (w.heap.size ≤ w3.heap.size) := HB3.size
  clear hq3 hg4 hq4 hR3 HB3 hg3 hg2 H1 hr1 hb1
  show _
  generalize hm0 : nval 1 (nstep 2 (nstep 1 (zs, 0))) = m at *
  have HM2 : Hid (readM zs = m) := hm0
  rw [show readM zs = m from hm0] at HM
  clear hm0
  obtain ⟨hm1, hm2⟩ := HM.out
  obtain ⟨M, rfl⟩ := Int.eq_ofNat_of_zero_le hm1
  generalize w3.heap.size = T at *
  generalize w1.heap.size = B at *
  go_loopw [15] (fun i wr => ∃ (j : Nat) (v : Value), j ≤ M ∧ i = .int .i64 j ∧ Hid (RdI w wr T rb B (readD zs) (readN zs) v (pairsR j (p3 zs)) (itT j (p3 zs)))) (fun i _ => M - (intOf i).toNat)
  case atStart => exact ⟨0, _, Nat.zero_le _, rfl, I3.out⟩
  case round =>
    obtain ⟨j, v, hj, rfl, HI⟩ := hrel
    by_cases hlt : j < M
    · have hlt2 : (j : Int) < (M : Int) := by omega
      have hP1 : Hid (itT (j + 1) (p3 zs) = tstep (tstep (itT j (p3 zs)))) := rfl
      have hP2 : Hid (pairsR (j + 1) (p3 zs) = pairsR j (p3 zs) ++ [(tval (itT j (p3 zs)), tval (tstep (itT j (p3 zs))))]) := pairsR_succ j _
      have hlen : Hid ((pairsR j (p3 zs)).length = j) := pairsR_len j (p3 zs)
      generalize itT j (p3 zs) = p at *
      generalize pairsR j (p3 zs) = qs at *
      obtain ⟨a8, c8, rfl, _⟩ := HI.out.own.view
      have T1 := rq_text HI.out.rq
      go_wp2_with (first | (go_at_call 62; refine T1.mono ?_; rintro e w5 ⟨rfl, hq5, hg5⟩; clear T1))
      have I5 : Hid (RdI w w5 T rb B (readD zs) (readN zs) (.slice a8 qs.length c8) qs (tstep p)) := HI.out.text hq5 hg5
      obtain ⟨c0, c1, c2, f0, f1, f2⟩ := I5.out.hT.cells
      clear hq5 hg5
      go_region_law (first | (go_simp; go_at_call 62; refine (rq_text I5.out.drew.rq).mono ?_; rintro e w6 ⟨rfl, hq6, hg6⟩; obtain ⟨d0, d1, d2, k0, k1, k2⟩ := (I5.out.drew.text hq6 hg6).hT.cells; have d3 := ((I5.out.drew.text hq6 hg6).alloc (.cells #[.string (tval p), .string (tval (tstep p))] 45)).hT.cells.2.2.1) | (refine step_appQ (by rfl) _ _ (by rfl) (T + 1) (.slice a8 qs.length c8) qs (tval p, tval (tstep p)) (by rfl) ((I5.out.drew.text hq6 hg6).alloc _).own _ (by rfl) (pv_lit w6 (tval p, tval (tstep p))) (by have := hlen.out; omega) (by have := (I5.out.drew.text hq6 hg6).hT.lt; simp; omega) ?_; intro g7 c7 w7 ho7 hb7; obtain ⟨l0, l1, l2, m0, m1, m2⟩ := (((I5.out.drew.text hq6 hg6).alloc (.cells #[.string (tval p), .string (tval (tstep p))] 45)).hT.of_below hb7).cells))
      all_goals have I7 : Hid (RdI w (w7.setCell ⟨T, 2, none⟩ (.slice (some ⟨g7, 0, none⟩) (qs.length + 1) c7)) T rb B (readD zs) (readN zs) (.slice (some ⟨g7, 0, none⟩) (qs.length + 1) c7) (qs ++ [(tval p, tval (tstep p))]) (tstep (tstep p))) := ((I5.out.drew.text hq6 hg6).alloc (.cells #[.string (tval p), .string (tval (tstep p))] 45)).app ho7 hb7
      all_goals clear c0 c1 c2 d0 d1 d2 d3 l0 l1 l2 f0 f1 f2 k0 k1 k2 m0 m1 m2 hq6 hg6 ho7 hb7
      all_goals go_wp2
      all_goals refine ⟨⟨j + 1, _, by omega, by go_num, by rw [hP1.out, hP2.out]; exact I7.out⟩, by simp [intOf]; omega⟩
    · have e1 : j = M := by omega
      subst e1
      have hxx : ¬ ((j : Int) < (j : Int)) := by omega
      obtain ⟨a8, c8, rfl, _⟩ := HI.out.own.view
      obtain ⟨c0, c1, c2, f0, f1, f2⟩ := HI.out.hT.cells
      obtain ⟨r0, r1, r2, g0, g1, g2⟩ := HI.out.hR.cells
      have hq0 := HI.out.rb0
      have hq1 := HI.out.rbT
      have hq2 := HI.out.rq.2.1
      have HP : Hid (readP zs = pairsR j (p3 zs)) := by
        show readP zs = _
        unfold readP
        rw [HM2.out, Int.toNat_natCast]
      generalize pairsR j (p3 zs) = qs at *
      go_wp2
      refine bodyPost_ret (v := .agg #[.int .i64 (readD zs), .int .i64 (readN zs), .slice a8 qs.length c8]) (by simp [results, Try.results37, go_sem, r0, r1, r2]) rfl ⟨_, rfl, ?_, ?_⟩
      · rw [HP.out]
        exact own_set3 HI.out.own (by omega) (by omega)
      · exact ((HI.out.bl.setCell (by simp) _).setCell (by simp) _).setCell (by simp) _
theorem tval_le {p : RS} (h : AllB p.1) : (tval p).size ≤ 255 := by
  unfold tval rtxS
  split
  · unfold txS
    split
    · simp
    · rw [strOfNums_size]
      unfold txL
      have := (h.getD 0).2
      simp only [List.length_take]
      omega
  · simp
theorem tstep_all {p : RS} (h : AllB p.1) : AllB (tstep p).1 := by
  show AllB (rtxZ p.1 p.2)
  unfold rtxZ
  split
  · exact h.drop _
  · exact h
theorem itT_all {p : RS} (h : AllB p.1) (k : Nat) : AllB (itT k p).1 := by
  induction k with
  | zero => exact h
  | succ k ih => exact tstep_all (tstep_all ih)
theorem pairsR_lp {p : RS} (h : AllB p.1) (k : Nat) : ∀ q ∈ pairsR k p, Lp q := by
  intro q hq
  obtain ⟨j, _, rfl⟩ := List.mem_map.1 hq
  have h1 := tval_le (itT_all h j)
  have h2 := tval_le (tstep_all (itT_all h j))
  unfold Lp
  simp only
  omega
theorem p3_all {zs : List Int} (h : AllB zs) : AllB (p3 zs).1 := nstep_all 1 (nstep_all 2 (nstep_all 1 (p := (zs, 0)) h))
theorem readM_bound {zs : List Int} (h : AllB zs) : 0 ≤ readM zs ∧ readM zs ≤ 255 := nval1_bound (p2 zs) (nstep_all 2 (nstep_all 1 (p := (zs, 0)) h))
theorem readP_lp {zs : List Int} (h : AllB zs) : ∀ q ∈ readP zs, Lp q := pairsR_lp (p3_all h) _
theorem readP_len {zs : List Int} (h : AllB zs) : (readP zs).length ≤ 255 := by
  have := readM_bound h
  unfold readP
  rw [pairsR_len]
  omega
end Go.Proofs.Ytnnndkpmlpbpcaa
