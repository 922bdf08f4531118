/- The crash: what becomes of the loose blocks. -/
import Derived.Test.YtmapjikbplindaaFate
namespace Go.Proofs.Ytmapjikbplindaa
open Go.RowKit Go.Maps
set_option maxRecDepth 20000

theorem OwnN.view {w : World} {base : Nat} {v : Value} {l : List Nat} (h : OwnN w base v l) : ∃ a cap, v = .slice a l.length cap ∧ (∀ i, i < l.length → ∃ g, a = some ⟨g, 0, none⟩ ∧ base ≤ g ∧ g < w.heap.size ∧ w.cell? ⟨g, i, none⟩ = some (.int .i64 (l.getD i 0 : Nat))) := by
  have hl := World.ownsRow.lt h
  rcases h.2 with ⟨rfl, hn⟩ | ⟨g, cap, cur, rfl, hb, hg, hnc, hcm, hcs, htake⟩
  · refine ⟨none, 0, by rw [hn], fun i hi => by omega⟩
  · refine ⟨_, cap, rfl, fun i hi => ⟨g, rfl, hb, (hl g rfl).2, ?_⟩⟩
    have hc := World.ownsRow.cellAt (g := g) h i (by omega)
    rw [hc, List.getElem?_map, List.getElem?_eq_getElem hi, List.getD_eq_getElem?_getD, List.getElem?_eq_getElem hi]
    rfl
theorem OwnN.off {w w' : World} {base : Nat} {v : Value} {l : List Nat} {X : List Nat} (h : OwnN w base v l) (ho : Off X w w') (hx : ∀ x ∈ X, x < base) : OwnN w' base v l := by
  have hl := World.ownsRow.lt h
  refine ⟨h.1, ?_⟩
  rcases h.2 with hn | ⟨g, cap, cur, rfl, hb, hg, rest⟩
  · exact .inl hn
  · exact .inr ⟨g, cap, cur, rfl, hb, (ho.block g (hl g rfl).2 (fun hm => by have := hx g hm; omega)).trans hg, rest⟩

theorem wp_store71_at {ops : Array Oper} {rest : List Oper} {o : Oper} {a : Act} {w : World} {Q : Exit → Act → World → Prop} (hgd : o.guard = none) (x y : Operand) (ho : o.op = .store 71 x y)
    (g off : Nat) (zs : List Int) (hz : zs.length = 256) (hx : a.eval x = .pointer (some ⟨g, off, none⟩)) (hy : a.eval y = .agg (blkA zs)) (flat : Array Value) (t : TypeId) (hg : w.heap[g]? = some (.cells flat t (0, 0))) (hfit : off + 256 ≤ flat.size)
    (h : ∀ w', w'.heap[g]? = some (.cells (lay flat off zs) t (0, 0)) → Off [g] w w' → wpList Try.prog ops Q rest (a.put o.dst undef) w') : wpList Try.prog ops Q (o :: rest) a w := by
  have hst := run_storeCells_at Try.prog g off t (zs.map (Value.int .u8)) 0 flat w hg (by simpa [hz] using hfit) (u8row zs)
  refine wpList_plain hgd fun K hK => ?_
  unfold Oper.wp
  have hsz : (Value.agg (blkA zs)).cells.size = 256 := size_blkA hz
  have hl : (Value.agg (blkA zs)).cells.toList = zs.map (Value.int .u8) := by simp [Value.cells, blkA]
  simp only [execOp, ho, hx, hy, Instr.storeAt, Instr.sureAddr, Sem.run_bind, Sem.run_pure, Result.andThen_ok, storeVar, Try.sizeOf71, hsz, hl]
  simp only [ne_eq, not_true_eq_false, if_false, hst, Result.andThen_ok]
  refine hK _ _ (h _ ?_ ?_)
  · have := setRow_heap w g flat (List.take (off + 0) flat.toList ++ zs.map (Value.int .u8) ++ List.drop (off + 0 + (zs.map (Value.int .u8)).length) flat.toList).toArray t (0, 0) hg
    rw [this]
    simp [lay]
  · exact (Off.refl _ _).setRow (by simp) _
theorem wp_copy_some {ops : Array Oper} {rest : List Oper} {o : Oper} {a : Act} {w : World} {Q : Exit → Act → World → Prop} (hgd : o.guard = none) (d s : Operand)
    (ho : o.op = .call { callee := .builtin .copy, args := #[d, s], argTypes := #[32, 32] }) (g off m dcap scap : Nat) (ad : Option Addr) (k : Nat) (hd : a.eval d = .slice (some ⟨g, off, none⟩) m dcap) (hs : a.eval s = .slice ad k scap)
    (zs : List Int) (hz : zs.length = Nat.min k m) (hbv : BV w ad zs) (flat : Array Value) (t : TypeId) (hg : w.heap[g]? = some (.cells flat t (0, 0))) (hfit : off + zs.length ≤ flat.size)
    (h : ∀ w', w'.heap[g]? = some (.cells (lay flat off zs) t (0, 0)) → Off [g] w w' → wpList Try.prog ops Q rest (a.put o.dst (goInt zs.length)) w') : wpList Try.prog ops Q (o :: rest) a w := by
  by_cases h0 : 0 < zs.length
  · exact wp_copy_blk hgd d s ho g off m dcap scap ad k hd hs zs hz hbv h0 flat t hg hfit h
  · obtain rfl : zs = [] := List.eq_nil_of_length_eq_zero (by omega)
    refine wpList_copy_nothing hgd d s 32 32 ho 5 Try.underlying32 (by kernel_rfl) _ ad m dcap k scap hd hs (by simpa using hz.symm) ?_
    exact h w (by rw [lay_nil]; exact hg) (Off.refl _ _)
theorem BV.take {w : World} {a : Option Addr} {zs : List Int} (h : BV w a zs) (n : Nat) : BV w a (zs.take n) := by
  obtain ⟨hz, h1⟩ := h
  refine ⟨fun z hm => hz z (List.mem_of_mem_take hm), ?_⟩
  rcases h1 with rfl | ⟨b, off, rfl, hlt, hc⟩
  · exact .inl (by simp)
  · refine .inr ⟨b, off, rfl, hlt, fun i hi => ?_⟩
    have hi' : i < zs.length := by simp at hi; omega
    have hin : i < n := by simp at hi; omega
    rw [hc i hi']
    simp [List.getD_eq_getElem?_getD, List.getElem?_take_of_lt hin]
/-- A disk whose block n has become something else. -/
theorem Dk.laid {w w' : World} {p nb mb : Nat} {s : DS} (h : Dk w p nb mb s) {n : Nat} (hn : n < s.room) (hl : s.L n = true) {zs : List Int} (hz : IsB zs)
    (hw : ∀ flat, w.heap[nb]? = some (.cells flat 71 (0, 0)) → w'.heap[nb]? = some (.cells (lay flat (n * 256) zs) 71 (0, 0))) (ho : Off [nb] w w') : Dk w' p nb mb { s with B := upd s.B n zs } := by
  have hne := h.ne
  obtain ⟨ok, cap, set, after, done, flat, d1, d2, d3, d4, d5, d6⟩ := h
  refine ⟨⟨ok.room, fun k hk => ?_, ok.isS, fun k hk hlk => ?_, ok.lo, ok.hi⟩, cap, set, after, done, _, (ho.block p hne.2.2.2.1 (by simp; exact hne.1)).trans d1, hw flat d2, d3, d4.lay hn hz.1, d5.off ho (by simp; exact fun e => hne.2.2.1 e.symm), d6⟩
  · show IsB (upd s.B n zs k)
    by_cases e : k = n
    · subst e; rw [upd_same]; exact hz
    · rw [upd_other _ _ e]; exact ok.isB k hk
  · show s.S k = upd s.B n zs k
    by_cases e : k = n
    · subst e; rw [hl] at hlk; cases hlk
    · rw [upd_other _ _ e]; exact ok.same k hk hlk
theorem Dk.risen {w : World} {p nb mb : Nat} {s : DS} (h : Dk w p nb mb s) :
    Dk ((((w.setCell ⟨p, 2, none⟩ (.bool false)).setCell ⟨p, 3, none⟩ (.bool false)).setCell ⟨p, 4, none⟩ (.int .i64 0)).setCell ⟨p, 5, none⟩ (.bool false)) p nb mb { s with down := false, fails := -1, done := false } ∧
      Off [p, nb, mb] w ((((w.setCell ⟨p, 2, none⟩ (.bool false)).setCell ⟨p, 3, none⟩ (.bool false)).setCell ⟨p, 4, none⟩ (.int .i64 0)).setCell ⟨p, 5, none⟩ (.bool false)) := by
  have hne := h.ne
  obtain ⟨ok, cap, set, after, done, flat, d1, d2, d3, d4, d5, d6⟩ := h
  have ho : Off [p] w ((((w.setCell ⟨p, 2, none⟩ (.bool false)).setCell ⟨p, 3, none⟩ (.bool false)).setCell ⟨p, 4, none⟩ (.int .i64 0)).setCell ⟨p, 5, none⟩ (.bool false)) := ((((Off.refl _ _).setCell (by simp) _).setCell (by simp) _).setCell (by simp) _).setCell (by simp) _
  obtain ⟨k1, k2⟩ := keep_set ho hne.1 hne.2.1 d2 d5
  have e := (((((d1.set (.bool false)).1.set (.bool false)).2.1).set (.int .i64 0)).2.2.1.set (.bool false)).2.2.2.1
  exact ⟨⟨⟨ok.room, ok.isB, ok.isS, ok.same, by show (-1 : Int) ≤ -1; decide, by show (-1 : Int) ≤ 9223372036854775807; decide⟩, cap, false, 0, false, flat, e, k1, d3, d4, k2, .inl ⟨rfl, rfl⟩⟩, off_p ho⟩
theorem Dk.look {w : World} {p nb mb : Nat} {s : DS} (h : Dk w p nb mb s) {n : Nat} (hn : n < s.room) (hl : s.L n = true) : (Instr.lookup 56 (.map (some mb)) (.int .i64 (n : Int)) false).run Try.prog w = .ok (.agg (blkA (s.S n))) w := by
  obtain ⟨ok, cap, set, after, done, flat, d1, d2, d3, d4, d5, d6⟩ := h
  exact d5.look hn ok.room hl
theorem Dk.rows {w : World} {p nb mb : Nat} {s : DS} (h : Dk w p nb mb s) : ∃ flat, w.heap[nb]? = some (.cells flat 71 (0, 0)) ∧ s.room * 256 ≤ flat.size := by
  obtain ⟨ok, cap, set, after, done, flat, d1, d2, d3, d4, d5, d6⟩ := h
  exact ⟨flat, d2, d4.1⟩
theorem lay_mix {b s : List Int} (hb : b.length = 256) (n : Nat) (hn : n ≤ 256) : lay (blkA s) 0 (b.take n) = blkA (mix b s n) := by
  rw [lay_over]
  have : (b.take n).length = n := by simp; omega
  rw [this]
  rfl

theorem crash_step {ns : List Nat} {k : Nat} (hk : k < ns.length) (f : List Int) (B S : Nat → List Int) : crashB (ns.drop k) f B S = crashB (ns.drop (k + 1)) (stay f).2 (upd B (ns.getD k 0) (mix (B (ns.getD k 0)) (S (ns.getD k 0)) (stay f).1)) S := by
  rw [List.drop_eq_getElem_cons hk]
  have : ns.getD k 0 = ns[k] := by simp [List.getD_eq_getElem?_getD, hk]
  rw [this]
  rfl
theorem loose_getD (s : DS) {k : Nat} (hk : k < (loose s).length) : (loose s).getD k 0 < s.room ∧ s.L ((loose s).getD k 0) = true := by
  have h : (loose s).getD k 0 ∈ loose s := by
    rw [List.getD_eq_getElem?_getD, List.getElem?_eq_getElem hk]
    exact List.getElem_mem hk
  exact ⟨loose_lt s _ h, (List.mem_filter.1 h).2⟩
set_option maxHeartbeats 1600000 in
theorem crash_any (p nb mb : Nat) (s : DS) (v : Value) (fs : List Int) (w : World) (h : Dk w p nb mb s) (hf : FV w [p, nb, mb] v fs) :
    Calls Try.prog 14 #[.pointer (some ⟨p, 0, none⟩), v] w fun e w' => e = .returned (.tuple #[]) ∧ Dk w' p nb mb (crashS s fs) ∧ Off [p, nb, mb] w w' := by
  obtain ⟨hn1, hn2, hn3, hp, hnb, hmb⟩ := h.ne
  have hX : ∀ x ∈ [p, nb, mb], x < w.heap.size := by simp; omega
  have hL : Hid (Calls Try.prog 23 #[.pointer (some ⟨p, 0, none⟩)] w fun e w' => ∃ v, e = .returned v ∧ OwnN w' w.heap.size v (loose s) ∧ Below w.heap.size w w') := loose_any p nb mb s w h
  have HG : Hid (∀ k, k < (loose s).length → (loose s).getD k 0 < s.room ∧ s.L ((loose s).getD k 0) = true) := fun k hk => loose_getD s hk
  have HC : Hid (crashS s fs = safeS { s with B := crashB (loose s) fs s.B s.S, down := false, fails := -1, done := false }) := rfl
  have HS : Hid (∀ n, n < s.room → IsB (s.S n)) := h.1.isS
  have HFL : Hid ((loose s).length ≤ 4096) := by
    have h1 := h.1.room
    have h2 : (loose s).length ≤ s.room := Nat.le_trans (List.length_filter_le _ _) (by simp)
    have : (loose s).length ≤ 4096 := by omega
    exact this
  generalize crashS s fs = sc at *
  generalize loose s = ns at *
  generalize hlen : ns.length = N at *
  have HLEN : Hid (ns.length = N) := hlen
  clear hlen
  have hNN : N ≤ 9223372036854775807 := by have := HFL.out; omega
  have H0 : Hid (Dk w p nb mb s ∧ FV w [p, nb, mb] v fs) := ⟨h, hf⟩
  clear h hf
  go_enter Try.func14, Try.ntmps14
  go_wp2_with (first | (go_at_call 23; refine hL.out.mono ?_; rintro e w1 ⟨v1, rfl, hO, hb1⟩; obtain ⟨a1, cap1, rfl, hq⟩ := hO.view; clear hq; rw [HLEN.out] at hO ⊢) | fail)
  have A0 : Hid (FV w1 [p, nb, mb] v fs ∧ Dk w1 p nb mb { s with B := s.B } ∧ Off [p, nb, mb] w w1 ∧ OwnN w1 w.heap.size (.slice a1 N cap1) ns) := ⟨H0.out.2.below hb1, H0.out.1.below hb1, Off.of_below hb1, hO⟩
  clear hO
  go_loopw [1, 13] (fun fv iv wr => ∃ (k : Nat) (f : List Int) (B' : Nat → List Int), k ≤ N ∧ iv = .int .i64 k ∧ Hid (crashB (ns.drop k) f B' s.S = crashB ns fs s.B s.S) ∧ Hid (FV wr [p, nb, mb] fv f ∧ Dk wr p nb mb { s with B := B' } ∧ Off [p, nb, mb] w wr ∧ OwnN wr w.heap.size (.slice a1 N cap1) ns)) (fun _ iv _ => N - (intOf iv).toNat)
  case atStart => exact ⟨0, fs, s.B, Nat.zero_le _, rfl, rfl, A0.out⟩
  case round =>
    obtain ⟨k, f, B', hk, rfl, HE, HW⟩ := hrel
    by_cases hlt : k < N
    · obtain ⟨hfv, hd, ho, hown⟩ := HW.out
      have hcx := hown.view
      obtain ⟨a2, cap2, e2, hcell⟩ := hcx
      obtain ⟨rfl, hN', rfl⟩ := Value.slice.inj e2
      obtain ⟨g, rfl, hgb, hgs, hck⟩ := hcell k (by omega)
      obtain ⟨hnr, hnl⟩ := HG.out k (by omega)
      have HX : Hid (crashB (ns.drop k) f B' s.S = crashB (ns.drop (k + 1)) (stay f).2 (upd B' (ns.getD k 0) (mix (B' (ns.getD k 0)) (s.S (ns.getD k 0)) (stay f).1)) s.S) := crash_step (by omega) f B' s.S
      clear hN'
      have hall : AllB f := by obtain ⟨_, _, _, _, _, hb, _⟩ := hfv; exact hb.1
      have hst := stay_le hall
      have HY : Hid (Calls Try.prog 34 #[_] wr fun e w' => ∃ v', e = .returned (.tuple #[.int .i64 (stay f).1, v']) ∧ FV w' [p, nb, mb] v' (stay f).2 ∧ Below wr.heap.size wr w') := staying_any [p, nb, mb] _ f wr hfv
      generalize ns.getD k 0 = n at *
      generalize (stay f).2 = f2 at *
      generalize (stay f).1 = st at *
      have HST : Hid (st ≤ 256) := hst.1
      have hsI : (st : Int) ≤ 256 := by have := hst.1; omega
      have hnI : (n : Int) < s.room := by omega
      have hB' : Hid ((B' n).length = 256) := (hd.1.isB n hnr).1
      have hBB : Hid (IsB (B' n) ∧ IsB (s.S n)) := ⟨hd.1.isB n hnr, HS.out n hnr⟩
      have HD : Hid (Dk wr p nb mb { s with B := B' } ∧ Off [p, nb, mb] w wr ∧ OwnN wr w.heap.size (.slice (some ⟨g, 0, none⟩) N cap1) ns) := ⟨hd, ho, hown⟩
      have hws : Hid (w.heap.size ≤ wr.heap.size) := ho.size
      clear hfv hd ho hown hcell e2 HW hall hst
      go_wp2_with (first
        | (go_at_call 34; refine HY.out.mono ?_; rintro e w2 ⟨v2, rfl, hf2, hb2⟩; have hd2 := HD.out.1.below hb2; have hlk := hd2.look hnr hnl; obtain ⟨cp2, st2, af2, dn2, hC2, _⟩ := hd2.cells; have k0 := hC2.c0; have k1 := hC2.c1; clear hC2; have HF2 : Hid (FV w2 [p, nb, mb] v2 f2) := hf2; have H2 : Hid (Dk w2 p nb mb { s with B := B' } ∧ FV w2 [p, nb, mb] v2 f2) := ⟨hd2, hf2⟩; clear hd2 hf2)
        | (refine wp_alloc71 rfl rfl ?_)
        | (refine wp_store71_new rfl _ _ rfl zs256 (s.S n) len_zs256 hBB.out.2.1 rfl rfl ?_; intro w3 hs3 hk3 hb3; have hd3 := H2.out.1.below hb3; obtain ⟨cp3, st3, af3, dn3, hC3, _⟩ := hd3.cells; have m0 := hC3.c0; clear hC3; have H3 : Hid (Dk w3 p nb mb { s with B := B' } ∧ FV w3 [p, nb, mb] v2 f2) := ⟨hd3, H2.out.2.below hb3⟩; clear hd3 H2)
        | fail)
      clear hlk k0 k1 hck HY
      have HK3 : Hid (w3.heap[w2.heap.size]? = some (.cells (blkA (s.S n)) 71 (0, 0))) := hk3
      have HB3 : Hid (Below wr.heap.size wr w2 ∧ Below w2.heap.size w2 w3 ∧ w3.heap.size = w2.heap.size + 1 ∧ w.heap.size ≤ w2.heap.size) := ⟨hb2, hb3, hs3, Nat.le_trans hws.out hb2.size⟩
      clear hk3 hb2 hb3 hs3
      refine wp_region_still_tail 9 (by kernel_rfl) (by kernel_rfl) ?_
      simp only [List.take_succ_cons, List.take_zero, List.drop_succ_cons, List.drop_zero]
      iterate 9 still_step
      refine wpStill_nil ?_
      change wpList _ _ _ _ _ w3.drew
      have hN4 := HB3.out.2.2.2
      go_wp2_with (first
        | (refine wp_copy_some rfl _ _ rfl w2.heap.size 0 st 256 256 (some ⟨nb, n * 256, none⟩) 256 rfl rfl ((B' n).take st) (by have e1 := HST.out; have e2 := hB'.out; rw [List.length_take, e2]; show min st 256 = min 256 st; omega) ((Dk.bv (H3.out.1.below (w' := w3.drew) (Below.refl _ _).drew) hnr).take st) (blkA (s.S n)) 71 HK3.out (by have e2 := hB'.out; rw [size_blkA hBB.out.2.1, List.length_take, e2]; omega) ?_; intro w4 hk4 ho4)
        | fail)
      rw [lay_mix hB'.out st HST.out] at hk4
      have hmx := mix_isB hBB.out.1 hBB.out.2 st HST.out
      have hpn : p ∉ [w2.heap.size] ∧ nb ∉ [w2.heap.size] ∧ mb ∉ [w2.heap.size] := by simp; omega
      have hd4 := (H3.out.1.below (w' := w3.drew) (Below.refl _ _).drew).off ho4 hpn.1 hpn.2.1 hpn.2.2
      have hf4 : FV w4 [p, nb, mb] v2 f2 := HF2.out.off (((Off.of_below (X := []) HB3.out.2.1).drew).then_new ho4 (Nat.le_refl _)) (by simp)
      have hl4 : (Instr.loadAt 71 (.pointer (some ⟨w2.heap.size, 0, none⟩))).run Try.prog w4.drew = .ok (.agg (blkA (mix (B' n) (s.S n) st))) w4.drew :=
        run_loadAt71 (w := w4.drew) hk4 hmx.1 (fun i hi => by rw [Nat.zero_add]; exact blkA_get _ _ (by rw [hmx.1]; exact hi))
      obtain ⟨cp4, st4, af4, dn4, hC4, _⟩ := hd4.cells
      have m4 := hC4.c0
      obtain ⟨flat4, hr4, hfit4⟩ := (hd4.below (w' := w4.drew) (Below.refl _ _).drew).rows
      have H4 : Hid (IsB (mix (B' n) (s.S n) st) ∧ Dk w4 p nb mb { s with B := B' } ∧ FV w4 [p, nb, mb] v2 f2 ∧ (Instr.loadAt 71 (.pointer (some ⟨w2.heap.size, 0, none⟩))).run Try.prog w4.drew = .ok (.agg (blkA (mix (B' n) (s.S n) st))) w4.drew ∧ w4.drew.heap[nb]? = some (.cells flat4 71 (0, 0)) ∧ s.room * 256 ≤ flat4.size ∧ Off [p, nb, mb] wr w4 ∧ w.heap.size ≤ w4.heap.size) :=
        ⟨hmx, hd4, hf4, hl4, hr4, hfit4, ((Off.of_below HB3.out.1).trans (Off.of_below HB3.out.2.1)).drew.then_new ho4 HB3.out.1.size, by have e1 := ho4.size; have e2 := HB3.out.2.2.1; have e3 : w3.drew.heap.size = w3.heap.size := rfl; omega⟩
      clear hk4 hmx hd4 hf4 hl4 hC4 hr4 hfit4 ho4 m0 HK3 H3
      refine wp_region_still_tail 7 (by kernel_rfl) (by kernel_rfl) ?_
      simp only [List.take_succ_cons, List.take_zero, List.drop_succ_cons, List.drop_zero]
      iterate 5 still_step
      refine still_load71 rfl _ rfl w2.heap.size 0 rfl (mix (B' n) (s.S n) st) H4.out.2.2.2.1 ?_
      simp only [Act.put, List.setIfInBounds_toArray, List.set_cons_zero, List.set_cons_succ]
      iterate 1 still_step
      refine wpStill_nil ?_
      change wpList _ _ _ _ _ w4.drew
      go_wp2_with (first
        | (refine wp_store71_at rfl _ _ rfl nb (n * 256) (mix (B' n) (s.S n) st) H4.out.1.1 rfl rfl flat4 71 H4.out.2.2.2.2.1 (by have e1 := H4.out.2.2.2.2.2.1; omega) ?_; intro w5 hk5 ho5)
        | fail)
      have hd5 : Dk w5 p nb mb { s with B := upd B' n (mix (B' n) (s.S n) st) } := Dk.laid (s := { s with B := B' }) (H4.out.2.1.below (w' := w4.drew) (Below.refl _ _).drew) hnr hnl H4.out.1 (fun fl hfl => by
        have := H4.out.2.2.2.2.1.symm.trans hfl
        simp only [Option.some.injEq, Obj.cells.injEq] at this
        rw [← this.1]; exact hk5) ho5
      have hoo : Off [p, nb, mb] wr w5 := (H4.out.2.2.2.2.2.2.1.drew).trans (ho5.mono (by simp))
      have hf5 : FV w5 [p, nb, mb] v2 f2 := (H4.out.2.2.1.below (w' := w4.drew) (Below.refl _ _).drew).off ho5 (by simp)
      go_roundw
      case rel => exact ⟨k + 1, f2, _, by omega, by go_num, HX.out.symm.trans HE.out, hf5, hd5, HD.out.2.1.trans hoo, HD.out.2.2.off hoo hX⟩
      case measure => simp [intOf]; omega
    · have e : k = N := by omega
      subst e
      obtain ⟨hfv, hd, ho, hown⟩ := HW.out
      have hE := HE.out
      rw [List.drop_of_length_le (by rw [HLEN.out]; exact Nat.le_refl _)] at hE
      have hE' : B' = crashB ns fs s.B s.S := hE
      have H9 : Hid (Calls Try.prog 35 #[.pointer (some ⟨p, 0, none⟩)] wr fun e w' => e = .returned (.tuple #[]) ∧ Dk w' p nb mb (safeS { s with B := crashB ns fs s.B s.S }) ∧ Off [p, nb, mb] wr w') := by
        rw [← hE']
        exact settle_any p nb mb _ wr hd
      have HO : Hid (Off [p, nb, mb] w wr) := ho
      clear hfv hd ho hown hE hE' HE HW
      go_wp2_with (first
        | (go_at_call 35; refine H9.out.mono ?_; rintro e w6 ⟨rfl, hd6, ho6⟩; obtain ⟨cp6, st6, af6, dn6, ⟨r0, r1, r2, r3, r4, r5, r6, r7, g0, g1, g2, g3, g4, g5, g6, g7⟩, _⟩ := hd6.cells; obtain ⟨hd7, ho7⟩ := hd6.risen; have H7 : Hid (Dk _ p nb mb _ ∧ Off [p, nb, mb] w6 _) := ⟨hd7, ho7⟩; clear hd7 ho7)
        | fail)
      refine bodyPost_end (v := .tuple #[]) (results_none rfl _ _ _) rfl ⟨rfl, ?_, (HO.out.trans ho6).trans H7.out.2⟩
      rw [HC.out]
      exact H7.out.1
end Go.Proofs.Ytmapjikbplindaa
