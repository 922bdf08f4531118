import Derived.Test.YtbklnadlbcndlaaGreatM15
import Derived.Test.YtbklnadlbcndlaaGreatM12
import Derived.Test.YtbklnadlbcndlaaGreatM18
namespace Go.Proofs.YtbklnadlbcndlaaGreat
set_option maxRecDepth 20000
open Go.RowKit
set_option linter.unusedVariables false
set_option linter.unusedSimpArgs false
theorem splitF_count : ∀ (f : Nat) (zs : List Int), zs.length ≤ f → (splitF 246 f zs).length = nPages zs.length
  | 0, zs, h => by
    have : zs = [] := List.eq_nil_of_length_eq_zero (by omega)
    subst this; rfl
  | f + 1, zs, h => by
    by_cases hz : zs = []
    · subst hz; rw [splitF_nil]; rfl
    · rw [splitF_step 246 f hz, List.length_cons, splitF_count f (zs.drop 246) (by rw [List.length_drop]; omega), List.length_drop]
      have : 0 < zs.length := List.length_pos_iff.2 hz
      unfold nPages
      omega
theorem split_count (zs : List Int) : (splitS zs 246).length = nPages zs.length := splitF_count _ _ (Nat.le_refl _)
theorem words_tb {bl : Nat} {tb : List Int} (h : TbOk bl tb) (hb : bl ≤ 4096) : wordsE tb = 0 ∧ wordsL tb = wordsS tb := by
  have hw : wordsB tb = true := by
    unfold wordsB
    rw [List.all_eq_true]
    intro z hz
    have := h.ins z hz
    unfold wordB
    simp
    omega
  exact ⟨by unfold wordsE; rw [hw]; rfl, by unfold wordsL; rw [hw]; rfl⟩
theorem words_fi (v : Value) (tb : List Int) (bl : Nat) (X : List Nat) (w : World) (h : FI w X v tb) (hb : TbOk bl tb) (hbl : bl ≤ 4096) (hX : ∀ x ∈ X, x < w.heap.size) :
    Calls Tryz.prog 105 #[v] w fun e w' => ∃ v', e = .returned (.tuple #[v', .int .i64 0]) ∧ FB w' X v' (wordsS tb) ∧ Below w.heap.size w w' := by
  obtain ⟨a, cap, rfl, h0, h1, h2, h3, h4⟩ := h
  have := words_any a cap tb w h3 (by have := hb.len; omega)
  rw [(words_tb hb hbl).1, (words_tb hb hbl).2] at this
  refine this.mono ?_
  rintro e w' ⟨v, rfl, ho, hb'⟩
  exact ⟨v, rfl, fb_own ho (wordsS_all tb) hX, hb'⟩
def tcN (s : SS) : Nat := nPages (2 * s.c.tb.length)
def cntN (s : SS) : Nat := tcN s + nPages s.us.length
def ints (l : List Nat) : List Int := l.map Int.ofNat
def tabL (s : SS) : List Int := ints ((freeL s).take (tcN s))
def mapL (s : SS) : List Int := ints (((freeL s).take (cntN s)).drop (tcN s))
def rootD (s : SS) (ep : Int) : R.RD := ⟨ep, s.bl, s.c.tb.length, s.c.st, tabL s, mapL s⟩
def stepF (s : SS) (ep : Int) (us2 : List Int) : Nat → D.DS → Int × D.DS
  | 0, d => wpR 1 0 (splitS (wordsS s.c.tb) 246) (tabL s) d
  | 1, d => wpR 2 0 (splitS us2 246) (mapL s) d
  | 3, d => (D.writeE d (Int.tmod ep 2) (R.putS (rootD s ep)), D.writeS d (Int.tmod ep 2) (R.putS (rootD s ep)))
  | _, d => (D.syncE d, D.syncS d)
def settleR (s : SS) (d : D.DS) (ep : Int) (us2 : List Int) : Int × SS × D.DS :=
  if (freeL s).length < cntN s then (10, s, d) else if R.checkE (rootD s ep) ≠ 0 then (R.checkE (rootD s ep), s, d)
  else if (tlR (stepF s ep us2) 5 0 d).1 ≠ 0 then ((tlR (stepF s ep us2) 5 0 d).1, s.note (tlR (stepF s ep us2) 5 0 d).1, (tlR (stepF s ep us2) 5 0 d).2)
  else (0, s.hold ep s.c.st s.c.tb us2, (tlR (stepF s ep us2) 5 0 d).2)
set_option maxHeartbeats 1600000 in
theorem settle_full {k : Pl} {s : SS} {d : D.DS} {t f t' f' u : Value} {sb db nx : Nat} (ep : Int) (us2 : List Int) (w : World) (h : Sx w k s d t f t' f' u sb db nx) (ok : s.Ok) (hf : (freeL s).length < cntN s) :
    Calls Tryz.prog 50 #[.pointer (some ⟨k.p, 0, none⟩), .int .i64 ep] w fun e w' => Done k w (settleR s d ep us2) e w' := by
  have eR : settleR s d ep us2 = (10, s, d) := by unfold settleR; rw [if_pos hf]
  rw [eR]
  have hbl := ok.bl
  have htl := ok.c.tb.len
  have hmk := makeN_le s.bl
  have HUL : Hid (s.us.length = B.makeN s.bl) := ok.usl
  have HX : Hid (Sx w k s d t f t' f' u sb db nx) := h
  have HXB : Hid (∀ W, Below w.heap.size w W → Sx W k s d t f t' f' u sb db nx) := fun W hW => h.below hW
  have HCC : Hid (∀ W, Below w.heap.size w W → W.cell? ⟨k.p, 0, none⟩ = some t ∧ W.cell? ⟨k.p, 9, none⟩ = some u) := fun W hW => ⟨(h.below hW).m.v.cells.c0, (h.below hW).m.v.cells.c9⟩
  obtain ⟨hc0, hc9⟩ := HCC.out _ (Below.refl _ _)
  have hplt := h.m.v.lt
  have hpne : k.p ≠ w.heap.size := by omega
  have hpne1 : k.p ≠ w.heap.size + 1 := by omega
  have HWd : Hid (∀ W, Below w.heap.size w W → Calls Tryz.prog 105 #[t] W fun e w' => ∃ v', e = .returned (.tuple #[v', .int .i64 0]) ∧ FB w' k.X v' (wordsS s.c.tb) ∧ Below W.heap.size W w') := fun W hW => words_fi t s.c.tb s.bl k.X W (h.below hW).m.ht ok.c.tb hbl (h.below hW).lt
  have hwl6 : (wordsS s.c.tb).length ≤ 6000 := by rw [wordsS_len]; omega
  have hn1 : nPages (wordsS s.c.tb).length ≤ 100 := by rw [wordsS_len]; unfold nPages; omega
  have hn2 : nPages s.us.length ≤ 10 := by rw [ok.usl]; unfold nPages; omega
  have hcn : cntN s ≤ 1000 := by unfold cntN tcN; rw [← wordsS_len]; omega
  have hce : ((cntN s : Nat) : Int) = ((tcN s : Nat) : Int) + ((nPages s.us.length : Nat) : Int) := by unfold cntN; omega
  have hn1t : nPages (wordsS s.c.tb).length = tcN s := by unfold tcN; rw [wordsS_len]
  have HPg : Hid (∀ W a cap, Calls Tryz.prog 49 #[.slice a (wordsS s.c.tb).length cap] W fun e w' => e = .returned (.int .i64 (nPages (wordsS s.c.tb).length : Nat)) ∧ w' = W) := fun W a cap => pages_any a _ cap W (by rw [wordsS_len]; omega)
  have HPu : Hid (∀ W a cap, Calls Tryz.prog 49 #[.slice a s.us.length cap] W fun e w' => e = .returned (.int .i64 (nPages s.us.length : Nat)) ∧ w' = W) := fun W a cap => pages_any a _ cap W (by rw [ok.usl]; omega)
  have HFr : Hid (∀ W, Below w.heap.size w W → Calls Tryz.prog 106 #[.pointer (some ⟨k.p, 0, none⟩), .int .i64 (cntN s : Nat)] W fun e w' => ∃ v, e = .returned v ∧ B.OwnN w' W.heap.size v ((freeL s).take (cntN s)) ∧ Below W.heap.size W w') := fun W hW => free_s (cntN s) W (h.below hW) ok (by omega)

  obtain ⟨ua, uc, rfl, hur⟩ := h.m.hu
  obtain ⟨w0, hw0⟩ : ∃ w0, w0 = (w.alloc (.cells #[.pointer (some ⟨k.p, 0, none⟩)] 36)).alloc (.cells #[.int .i64 ep] 3) := ⟨_, rfl⟩
  have HW0 : Hid (w0 = _) := hw0
  have hs0 : w0.heap.size = w.heap.size + 2 := by rw [hw0]; simp
  have HB0 : Hid (Below w.heap.size w w0) := by rw [hw0]; exact ((Below.refl _ _).alloc (Nat.le_refl _) _).alloc (by simp) _
  have HBX : Hid (∀ W, Below w0.heap.size w0 W → W.cell? ⟨w.heap.size, 0, none⟩ = some (.pointer (some ⟨k.p, 0, none⟩)) ∧ W.cell? ⟨w.heap.size + 1, 0, none⟩ = some (.int .i64 ep) ∧ w.heap.size + 2 ≤ W.heap.size ∧ k.p ≠ W.heap.size) := by
    intro W hW
    have hsz := hW.size
    refine ⟨(hW.cell (p := ⟨w.heap.size, 0, none⟩) (by simp; omega)).trans ?_, (hW.cell (p := ⟨w.heap.size + 1, 0, none⟩) (by simp; omega)).trans ?_, by omega, by omega⟩
    · rw [hw0]; go_simp
    · rw [hw0]; go_simp
  have HLn : Hid (∀ w' v, B.OwnN w' 0 v ((freeL s).take (cntN s)) → ∃ a c n, v = .slice a n c ∧ decide ((n : Int) < ((tcN s : Nat) : Int) + ((nPages s.us.length : Nat) : Int)) = true) := by
    intro w' v hv
    obtain ⟨a, e⟩ := ownN_slice hv
    exact ⟨a, _, _, e, by rw [← hce]; simp [List.length_take]; omega⟩
  clear h ok hw0 hur eR hf
  rw [hn1t] at HPg hn1
  rw [hce] at HFr
  clear hn1t
  have HWL : Hid (∀ zs, zs = wordsS s.c.tb → zs.length = 2 * s.c.tb.length) := fun zs e => by rw [e, wordsS_len]
  generalize wordsS s.c.tb = ws at *
  generalize tcN s = n1 at *
  generalize nPages s.us.length = n2 at *
  clear hce
  generalize cntN s = C at *
  unfold Done
  go_enter Tryz.func50, Tryz.ntmps50
  go_wp2_with (first
    | (go_at_call 105; rw [← HW0.out]; refine (HWd.out _ HB0.out).mono ?_; rintro e w1 ⟨wv, rfl, hwv, hb1⟩; have HB1 : Hid (Below w.heap.size w w1) := HB0.out.trans (hb1.mono HB0.out.size); have HWV : Hid (FB w1 k.X wv ws) := hwv; obtain ⟨wa, wc, rfl, _⟩ := hwv; obtain ⟨hcsx, hceb, hs1, hn1⟩ := HBX.out _ hb1; have hq1 : w.heap.size < w1.heap.size := (by omega); have hq2 : w.heap.size + 1 < w1.heap.size := (by omega); have hq3 : k.p < w1.heap.size := (by omega); have hc91 := (HCC.out _ HB1.out).2; clear hb1)
    | (go_at_call_of 49 wa; refine (HPg.out _ _ _).mono ?_; rintro e w' ⟨rfl, hw⟩; obtain rfl := hw.symm)
    | (go_at_call_of 49 ua; refine (HPu.out _ _ _).mono ?_; rintro e w' ⟨rfl, hw⟩; obtain rfl := hw.symm)
    | (go_at_call 106; refine (HFr.out _ (HB1.out.alloc (by have := HB1.out.size; omega) _)).mono ?_; rintro e w2 ⟨fv, rfl, hfv, hb2⟩; have HB2 : Hid (Below w.heap.size w w2) := (HB1.out.alloc (by have := HB1.out.size; omega) _).trans (hb2.mono (by have := HB1.out.size; simp; omega)); obtain ⟨fa, fc, fn, rfl, hfd⟩ := HLn.out _ _ (ownN_base hfv (Nat.zero_le _)); clear hb2 hfv)
    | fail)
  go_ret
  exact ⟨rfl, ⟨_, _, _, _, _, _, _, _, HXB.out _ HB2.out⟩, off_below HB2.out⟩
theorem cell_grow {w w' : World} (hb : Below w.heap.size w w') {b i : Nat} {v : Value} (h : w.cell? ⟨b, i, none⟩ = some v) : w'.cell? ⟨b, i, none⟩ = some v := (hb.cell (p := ⟨b, i, none⟩) (cell_lt h)).trans h
theorem row6 {w : World} {b : Nat} {c0 c1 c2 c3 c4 c5 : Value} {ty : TypeId} (h : w.heap[b]? = some (.cells #[c0, c1, c2, c3, c4, c5] ty (0, 0))) : w.cell? ⟨b, 0, none⟩ = some c0 ∧ w.cell? ⟨b, 1, none⟩ = some c1 ∧ w.cell? ⟨b, 2, none⟩ = some c2 ∧ w.cell? ⟨b, 3, none⟩ = some c3 ∧ w.cell? ⟨b, 4, none⟩ = some c4 ∧ w.cell? ⟨b, 5, none⟩ = some c5 := by
  refine ⟨?_, ?_, ?_, ?_, ?_, ?_⟩ <;> (rw [cell_of_row _ _ _ _ _ _ h]; rfl)
theorem used3 (bl : Nat) (hbl : bl ≤ 4096) (h : Nat) (a b c : Option Addr) (ca cb cc : Nat) (A E C us2 : List Int) (X : List Nat) (w : World) (hX : ∀ x ∈ X, x < w.heap.size) (h0 : w.cell? ⟨h, 0, none⟩ = some (.slice a A.length ca)) (h1 : w.cell? ⟨h, 1, none⟩ = some (.slice b E.length cb)) (h2 : w.cell? ⟨h, 2, none⟩ = some (.slice c C.length cc))
    (ha : IV w a A) (hb : IV w b E) (hc : IV w c C) (na : a = none → ca = 0) (nb : b = none → cb = 0) (nc : c = none → cc = 0) (la : A.length ≤ 5000) (lb : E.length ≤ 5000) (lc : C.length ≤ 5000) (hu : onceR bl (rootsS bl) (A ++ E ++ C) = some us2) :
    Calls Tryz.prog 104 #[.int .i64 bl, .slice (some ⟨h, 0, none⟩) 3 3] w fun e w' => ∃ v, e = .returned (.tuple #[v, .bool true]) ∧ FB w' X v us2 ∧ Below w.heap.size w w' := by
  have hp : PartsI w h 0 [A, E, C] := by
    intro i hi
    have : i = 0 ∨ i = 1 ∨ i = 2 := by simp at hi; omega
    rcases this with rfl | rfl | rfl
    · exact ⟨a, ca, h0, na, ha, by show A.length ≤ _; omega⟩
    · exact ⟨b, cb, h1, nb, hb, by show E.length ≤ _; omega⟩
    · exact ⟨c, cc, h2, nc, hc, by show C.length ≤ _; omega⟩
  have hfl : [A, E, C].flatten = A ++ E ++ C := by simp
  have := used_any bl hbl (.slice (some ⟨h, 0, none⟩) 3 3) (A ++ E ++ C) X w hX (by simp; omega) (fun W hW => by
    have hcc := concatI_any h 0 3 3 [A, E, C] W rfl (by omega) (hp.below (cell_lt h0) hW) (Nat.lt_of_lt_of_le (cell_lt h0) hW.size) (by rw [hfl]; simp; omega)
    rw [hfl] at hcc
    refine hcc.mono ?_
    rintro e w' ⟨v, rfl, ho, hb'⟩
    exact ⟨v, rfl, fi_own ho (by simp), hb'⟩)
  refine this.mono ?_
  rintro e w' ⟨v, rfl, hv, hb'⟩
  rw [hu] at hv ⊢
  exact ⟨v, rfl, hv, hb'⟩
theorem fb_fresh {w : World} {X : List Nat} {v : Value} {zs : List Int} (h : FB w X v zs) (n : Nat) (hn : w.heap.size ≤ n) : FB w (n :: X) v zs := by
  obtain ⟨a, cap, e, h0, h1, h2, h3, h4⟩ := h
  refine ⟨a, cap, e, h0, h1, h2, h3, fun hz b off e2 hm => ?_⟩
  rcases h3.2 with h | ⟨b', off', e3, hlt, _⟩
  · exact hz h
  · rw [e2] at e3
    simp at e3
    rcases List.mem_cons.1 hm with rfl | hm
    · omega
    · exact h4 hz b off e2 hm
theorem fb_set {w : World} {X : List Nat} {v : Value} {zs : List Int} {n : Nat} (h : FB w (n :: X) v zs) (i : Nat) (y : Value) : FB (w.setCell ⟨n, i, none⟩ y) X v zs :=
  (h.off ((D.Off.refl [n] w).setCell (p := ⟨n, i, none⟩) (by simp) y) (by intro z hz; simp at hz; subst hz; simp)).sub (fun z hz => List.mem_cons_of_mem _ hz)
theorem row_lt {w : World} {b : Nat} {o : Obj} (h : w.heap[b]? = some o) : b < w.heap.size := (Array.getElem?_eq_some_iff.1 h).1
theorem row_grow {w w' : World} (hb : Below w.heap.size w w') {b : Nat} {o : Obj} (h : w.heap[b]? = some o) : w'.heap[b]? = some o := (hb.block b (row_lt h)).trans h
theorem own_ints {w : World} {base : Nat} {v : Value} {l : List Nat} (h : B.OwnN w base v l) : OwnI w base v (ints l) := by
  unfold OwnI ints
  rw [List.length_map, List.map_map]
  exact h
theorem ownN_some {w : World} {base : Nat} {v : Value} {l : List Nat} (h : B.OwnN w base v l) (hl : 1 ≤ l.length) : ∃ g cap, v = .slice (some ⟨g, 0, none⟩) l.length cap ∧ base ≤ g ∧ g < w.heap.size ∧ l.length ≤ cap ∧ cap ≤ 9223372036854775807 ∧ IV w (some ⟨g, 0, none⟩) (ints l) := by
  have ho := own_ints h
  have hlt := World.ownsRow.lt h
  obtain ⟨a, cap, e, _, hiv, h1, h2⟩ := ho.view
  rcases h.2 with ⟨rfl, h0⟩ | ⟨g, cap', cur, rfl, hb, hg, _⟩
  · omega
  · have hl' : (ints l).length = l.length := by simp [ints]
    simp at e
    obtain ⟨rfl, _, rfl⟩ := e
    exact ⟨g, cap', rfl, hb, (hlt g rfl).2, by rw [← hl']; exact h1, h2, hiv.iv⟩
theorem iv_take {w : World} {g : Nat} {l : List Int} (h : IV w (some ⟨g, 0, none⟩) l) (n : Nat) : IV w (some ⟨g, 0, none⟩) (l.take n) := by
  rcases h with rfl | ⟨b, off, e, hlt, hc⟩
  · exact .inl (by simp)
  · refine .inr ⟨b, off, e, hlt, fun i hi => ?_⟩
    rw [List.length_take] at hi
    rw [hc i (by omega), List.getD_eq_getElem?_getD, List.getD_eq_getElem?_getD, List.getElem?_take, if_pos (by omega)]
theorem iv_drop {w : World} {g : Nat} {l : List Int} (h : IV w (some ⟨g, 0, none⟩) l) (n : Nat) : IV w (some ⟨g, n, none⟩) (l.drop n) := by
  rcases h with rfl | ⟨b, off, e, hlt, hc⟩
  · exact .inl (by simp)
  · simp at e
    obtain ⟨rfl, rfl⟩ := e
    refine .inr ⟨g, n, rfl, hlt, fun i hi => ?_⟩
    rw [List.length_drop] at hi
    have := hc (n + i) (by omega)
    rw [Nat.zero_add] at this
    rw [this, List.getD_eq_getElem?_getD, List.getD_eq_getElem?_getD, List.getElem?_drop]
set_option maxHeartbeats 3200000 in
theorem settle_main {k : Pl} {s : SS} {d : D.DS} {t f t' f' u : Value} {sb db nx : Nat} (ep : Int) (us2 : List Int) (w : World) (h : Sx w k s d t f t' f' u sb db nx) (ok : s.Ok) (hep0 : 0 ≤ ep) (hep1 : ep ≤ 9223372036854775807) (hb1 : 1 ≤ s.bl) (hf : cntN s ≤ (freeL s).length) (hus2 : onceR s.bl (rootsS s.bl) (s.c.tb ++ tabL s ++ mapL s) = some us2) :
    Calls Tryz.prog 50 #[.pointer (some ⟨k.p, 0, none⟩), .int .i64 ep] w fun e w' => Done k w (settleR s d ep us2) e w' := by
  have hbl := ok.bl
  have htl := ok.c.tb.len
  have hmk := makeN_le s.bl
  have HUL : Hid (s.us.length = B.makeN s.bl) := ok.usl
  have HX : Hid (Sx w k s d t f t' f' u sb db nx) := h
  have HXB : Hid (∀ W, Below w.heap.size w W → Sx W k s d t f t' f' u sb db nx) := fun W hW => h.below hW
  have HCC : Hid (∀ W, Below w.heap.size w W → W.cell? ⟨k.p, 0, none⟩ = some t ∧ W.cell? ⟨k.p, 9, none⟩ = some u) := fun W hW => ⟨(h.below hW).m.v.cells.c0, (h.below hW).m.v.cells.c9⟩
  obtain ⟨hc0, hc9⟩ := HCC.out _ (Below.refl _ _)
  have hplt := h.m.v.lt
  have hpne : k.p ≠ w.heap.size := by omega
  have hpne1 : k.p ≠ w.heap.size + 1 := by omega
  have HWd : Hid (∀ W, Below w.heap.size w W → Calls Tryz.prog 105 #[t] W fun e w' => ∃ v', e = .returned (.tuple #[v', .int .i64 0]) ∧ FB w' k.X v' (wordsS s.c.tb) ∧ Below W.heap.size W w') := fun W hW => words_fi t s.c.tb s.bl k.X W (h.below hW).m.ht ok.c.tb hbl (h.below hW).lt
  have hwl6 : (wordsS s.c.tb).length ≤ 6000 := by rw [wordsS_len]; omega
  have hn1 : nPages (wordsS s.c.tb).length ≤ 100 := by rw [wordsS_len]; unfold nPages; omega
  have hn2 : nPages s.us.length ≤ 10 := by rw [ok.usl]; unfold nPages; omega
  have hcn : cntN s ≤ 1000 := by unfold cntN tcN; rw [← wordsS_len]; omega
  have hce : ((cntN s : Nat) : Int) = ((tcN s : Nat) : Int) + ((nPages s.us.length : Nat) : Int) := by unfold cntN; omega
  have hn1t : nPages (wordsS s.c.tb).length = tcN s := by unfold tcN; rw [wordsS_len]
  have HPg : Hid (∀ W a cap, Calls Tryz.prog 49 #[.slice a (wordsS s.c.tb).length cap] W fun e w' => e = .returned (.int .i64 (nPages (wordsS s.c.tb).length : Nat)) ∧ w' = W) := fun W a cap => pages_any a _ cap W (by rw [wordsS_len]; omega)
  have HPu : Hid (∀ W a cap, Calls Tryz.prog 49 #[.slice a s.us.length cap] W fun e w' => e = .returned (.int .i64 (nPages s.us.length : Nat)) ∧ w' = W) := fun W a cap => pages_any a _ cap W (by rw [ok.usl]; omega)
  have HFr : Hid (∀ W, Below w.heap.size w W → Calls Tryz.prog 106 #[.pointer (some ⟨k.p, 0, none⟩), .int .i64 (cntN s : Nat)] W fun e w' => ∃ v, e = .returned v ∧ B.OwnN w' W.heap.size v ((freeL s).take (cntN s)) ∧ Below W.heap.size W w') := fun W hW => free_s (cntN s) W (h.below hW) ok (by omega)

  have hn2' : 1 ≤ nPages s.us.length := by rw [ok.usl]; unfold nPages B.makeN; omega
  obtain ⟨ua, uc, rfl, hur⟩ := h.m.hu
  obtain ⟨xa, xc, rfl, hxr⟩ := h.m.ht
  obtain ⟨w0, hw0⟩ : ∃ w0, w0 = (w.alloc (.cells #[.pointer (some ⟨k.p, 0, none⟩)] 36)).alloc (.cells #[.int .i64 ep] 3) := ⟨_, rfl⟩
  have HW0 : Hid (w0 = _) := hw0
  have hs0 : w0.heap.size = w.heap.size + 2 := by rw [hw0]; simp
  have HB0 : Hid (Below w.heap.size w w0) := by rw [hw0]; exact ((Below.refl _ _).alloc (Nat.le_refl _) _).alloc (by simp) _
  have HBX : Hid (∀ W, Below w0.heap.size w0 W → W.cell? ⟨w.heap.size, 0, none⟩ = some (.pointer (some ⟨k.p, 0, none⟩)) ∧ W.cell? ⟨w.heap.size + 1, 0, none⟩ = some (.int .i64 ep) ∧ w.heap.size + 2 ≤ W.heap.size ∧ k.p ≠ W.heap.size) := by
    intro W hW
    have hsz := hW.size
    refine ⟨(hW.cell (p := ⟨w.heap.size, 0, none⟩) (by simp; omega)).trans ?_, (hW.cell (p := ⟨w.heap.size + 1, 0, none⟩) (by simp; omega)).trans ?_, by omega, by omega⟩
    · rw [hw0]; go_simp
    · rw [hw0]; go_simp
  have HLn : Hid (∀ w' b v, B.OwnN w' b v ((freeL s).take (cntN s)) → ∃ g cap, v = .slice (some ⟨g, 0, none⟩) (tcN s + nPages s.us.length) cap ∧ b ≤ g ∧ g < w'.heap.size ∧ tcN s + nPages s.us.length ≤ cap ∧ cap ≤ 9223372036854775807 ∧ IV w' (some ⟨g, 0, none⟩) (ints ((freeL s).take (cntN s)))) := by
    intro w' b v hv
    have hl : ((freeL s).take (cntN s)).length = tcN s + nPages s.us.length := by rw [List.length_take]; unfold cntN at hf ⊢; omega
    have := ownN_some hv (by omega)
    rw [hl] at this
    exact this
  clear h ok hw0 hur hxr
  rw [hn1t] at HPg hn1
  rw [hce] at HFr
  clear hn1t
  have HTC : Hid (∀ zs, zs = wordsS s.c.tb → nPages zs.length = tcN s ∧ zs.length ≤ 6000) := fun zs e => by subst e; exact ⟨by unfold tcN; rw [wordsS_len], hwl6⟩
  obtain ⟨ws, hws⟩ : ∃ ws, ws = wordsS s.c.tb := ⟨_, rfl⟩
  obtain ⟨n1, hn1e⟩ : ∃ n1, n1 = tcN s := ⟨_, rfl⟩
  obtain ⟨n2, hn2e⟩ : ∃ n2, n2 = nPages s.us.length := ⟨_, rfl⟩
  have HWS : Hid (ws = wordsS s.c.tb) := hws
  have HN1 : Hid (n1 = tcN s) := hn1e
  have HN2 : Hid (n2 = nPages s.us.length) := hn2e
  rw [← hws] at HWd HPg hwl6
  rw [← hn1e] at HPg HFr HLn hn1
  rw [← hn2e] at HPu HFr HLn hn2 hn2'
  clear hce hws hn1e hn2e
  obtain ⟨RR, hRR⟩ : ∃ RR, RR = settleR s d ep us2 := ⟨_, rfl⟩
  rw [← hRR]
  have HRR : Hid (RR = settleR s d ep us2) := hRR
  clear hRR
  unfold Done
  go_enter Tryz.func50, Tryz.ntmps50
  go_wp2_with (first
    | (go_at_call 105; rw [← HW0.out]; refine (HWd.out _ HB0.out).mono ?_; rintro e w1 ⟨wv, rfl, hwv, hb1⟩; have HB1 : Hid (Below w.heap.size w w1) := HB0.out.trans (hb1.mono HB0.out.size); have HWV : Hid (FB w1 k.X wv ws) := hwv; obtain ⟨wa, wc, rfl, _⟩ := hwv; obtain ⟨hcsx, hceb, hs1, hn1⟩ := HBX.out _ hb1; have hq1 : w.heap.size < w1.heap.size := (by omega); have hq2 : w.heap.size + 1 < w1.heap.size := (by omega); have hq3 : k.p < w1.heap.size := (by omega); have hc91 := (HCC.out _ HB1.out).2; clear hb1)
    | (go_at_call_of 49 wa; refine (HPg.out _ _ _).mono ?_; rintro e w' ⟨rfl, hw⟩; obtain rfl := hw.symm)
    | (go_at_call_of 49 ua; refine (HPu.out _ _ _).mono ?_; rintro e w' ⟨rfl, hw⟩; obtain rfl := hw.symm)
    | (go_at_call 106; refine (HFr.out _ (HB1.out.alloc (by have := HB1.out.size; omega) _)).mono ?_; rintro e w2 ⟨fv, rfl, hfv, hb2⟩; have HB12 : Hid (Below w1.heap.size w1 w2) := ((Below.refl _ _).alloc (Nat.le_refl _) _).trans (hb2.mono (by simp)); have hcw2 : w2.cell? ⟨w1.heap.size, 0, none⟩ = some (.slice wa ws.length wc) := (hb2.cell (p := ⟨w1.heap.size, 0, none⟩) (by simp)).trans (by go_simp); obtain ⟨g, cap, rfl, hg0, hg1, hg2, hg3, hgi⟩ := HLn.out _ _ _ hfv; have HGI : Hid (IV w2 (some ⟨g, 0, none⟩) (ints ((freeL s).take (cntN s)))) := hgi; clear hb2 hfv hgi)
    | fail)
  have HB2 : Hid (Below w.heap.size w w2) := HB1.out.trans (HB12.out.mono HB1.out.size)
  have hcsx2 := (HB12.out.cell (p := ⟨w.heap.size, 0, none⟩) hq1).trans hcsx
  have hceb2 := (HB12.out.cell (p := ⟨w.heap.size + 1, 0, none⟩) hq2).trans hceb
  have hx2 := HXB.out _ HB2.out
  have cc0 := hx2.m.v.cells.c0
  have cc1 := hx2.m.v.cells.c1
  have cc10 := hx2.m.v.cells.c10
  have hp2 := hx2.m.v.lt
  have hs2 : w1.heap.size < w2.heap.size := cell_lt hcw2
  have hgw : w1.heap.size < g := by simp at hg0; omega
  clear hx2 HWd HPg HPu HFr HLn HTC HBX hcsx hceb hc91 hc0 hc9 hg0 HB0 HW0
  obtain ⟨w3, hw3⟩ : ∃ w3, w3 = (w2.alloc (.cells #[.int .i64 ep, .int .i64 (s.bl : Int), .int .i64 (s.c.tb.length : Int), .int .i64 s.c.st, .slice (some ⟨g, 0, none⟩) n1 cap, .slice (some ⟨g, n1, none⟩) n2 (cap - n1)] 151)).drew := ⟨_, rfl⟩
  have HW3 : Hid (w3 = _) := hw3
  have HB23 : Hid (Below w2.heap.size w2 w3) := by rw [hw3]; exact ((Below.refl _ _).alloc (Nat.le_refl _) _).drew
  have HRow : Hid (w3.heap[w2.heap.size]? = some (.cells #[.int .i64 ep, .int .i64 (s.bl : Int), .int .i64 (s.c.tb.length : Int), .int .i64 s.c.st, .slice (some ⟨g, 0, none⟩) n1 cap, .slice (some ⟨g, n1, none⟩) n2 (cap - n1)] 151 (0, 0))) := by rw [hw3]; exact heap_alloc_last _ _
  clear hw3
  refine wp_region_noPanic ?_
  refine name_ops ?_
  intro O QQ HO HQ
  refine wp_region_held_drew (S := (fun W => W.cell? ⟨w.heap.size + 1, 0, none⟩ = some (.int .i64 ep) ∧ W.cell? ⟨w.heap.size, 0, none⟩ = some (.pointer (some ⟨k.p, 0, none⟩)) ∧ W.cell? ⟨k.p, 10, none⟩ = some (.int .i64 (s.bl : Int)) ∧ W.cell? ⟨k.p, 0, none⟩ = some (.slice xa s.c.tb.length xc) ∧ W.cell? ⟨k.p, 1, none⟩ = some (.int .i64 s.c.st))) (by kernel_rfl) ⟨hceb2, hcsx2, cc10, cc0, cc1⟩ (fun hS => ?_)
  rw [show O.size = 25 by rw [HO.out]; rfl]
  refine wpAnyH_take (i := 0) (v := .int .i64 ep) (by rw [HO.out]; simp only [List.getElem?_toArray, List.getElem?_cons_succ, List.getElem?_cons_zero]; rfl) (by rw [HO.out]; kernel_rfl) (by rw [HO.out]; kernel_rfl) (by rw [HO.out]; kernel_rfl) (by rw [HQ.out]; exact fun _ _ _ h => h) (Or.inl ⟨by rfl, ?_⟩) hS ?_
  · intro w' hSw
    obtain ⟨q1, q2, q3, q4, q5⟩ := hSw
    go_simp
  try simp only [Act.put, List.setIfInBounds_toArray, List.set_cons_zero, List.set_cons_succ]
  refine wpAnyH_take (i := 1) (v := .pointer (some ⟨k.p, 0, none⟩)) (by rw [HO.out]; simp only [List.getElem?_toArray, List.getElem?_cons_succ, List.getElem?_cons_zero]; rfl) (by rw [HO.out]; kernel_rfl) (by rw [HO.out]; kernel_rfl) (by rw [HO.out]; kernel_rfl) (by rw [HQ.out]; exact fun _ _ _ h => h) (Or.inl ⟨by rfl, ?_⟩) hS ?_
  · intro w' hSw
    obtain ⟨q1, q2, q3, q4, q5⟩ := hSw
    go_simp
  try simp only [Act.put, List.setIfInBounds_toArray, List.set_cons_zero, List.set_cons_succ]
  refine wpAnyH_take (i := 2) (v := .pointer (some ⟨k.p, 0, none⟩)) (by rw [HO.out]; simp only [List.getElem?_toArray, List.getElem?_cons_succ, List.getElem?_cons_zero]; rfl) (by rw [HO.out]; kernel_rfl) (by rw [HO.out]; kernel_rfl) (by rw [HO.out]; kernel_rfl) (by rw [HQ.out]; exact fun _ _ _ h => h) (Or.inl ⟨by rfl, ?_⟩) hS ?_
  · intro w' hSw
    go_simp
  try simp only [Act.put, List.setIfInBounds_toArray, List.set_cons_zero, List.set_cons_succ]
  refine wpAnyH_take (i := 3) (v := .pointer (some ⟨k.p, 10, none⟩)) (by rw [HO.out]; simp only [List.getElem?_toArray, List.getElem?_cons_succ, List.getElem?_cons_zero]; rfl) (by rw [HO.out]; kernel_rfl) (by rw [HO.out]; kernel_rfl) (by rw [HO.out]; kernel_rfl) (by rw [HQ.out]; exact fun _ _ _ h => h) (Or.inl ⟨by rfl, ?_⟩) hS ?_
  · intro w' hSw
    go_simp
  try simp only [Act.put, List.setIfInBounds_toArray, List.set_cons_zero, List.set_cons_succ]
  refine wpAnyH_take (i := 4) (v := .int .i64 (s.bl : Int)) (by rw [HO.out]; simp only [List.getElem?_toArray, List.getElem?_cons_succ, List.getElem?_cons_zero]; rfl) (by rw [HO.out]; kernel_rfl) (by rw [HO.out]; kernel_rfl) (by rw [HO.out]; kernel_rfl) (by rw [HQ.out]; exact fun _ _ _ h => h) (Or.inl ⟨by rfl, ?_⟩) hS ?_
  · intro w' hSw
    obtain ⟨q1, q2, q3, q4, q5⟩ := hSw
    go_simp
  try simp only [Act.put, List.setIfInBounds_toArray, List.set_cons_zero, List.set_cons_succ]
  refine wpAnyH_take (i := 5) (v := .pointer (some ⟨k.p, 0, none⟩)) (by rw [HO.out]; simp only [List.getElem?_toArray, List.getElem?_cons_succ, List.getElem?_cons_zero]; rfl) (by rw [HO.out]; kernel_rfl) (by rw [HO.out]; kernel_rfl) (by rw [HO.out]; kernel_rfl) (by rw [HQ.out]; exact fun _ _ _ h => h) (Or.inl ⟨by rfl, ?_⟩) hS ?_
  · intro w' hSw
    obtain ⟨q1, q2, q3, q4, q5⟩ := hSw
    go_simp
  try simp only [Act.put, List.setIfInBounds_toArray, List.set_cons_zero, List.set_cons_succ]
  refine wpAnyH_take (i := 6) (v := .pointer (some ⟨k.p, 0, none⟩)) (by rw [HO.out]; simp only [List.getElem?_toArray, List.getElem?_cons_succ, List.getElem?_cons_zero]; rfl) (by rw [HO.out]; kernel_rfl) (by rw [HO.out]; kernel_rfl) (by rw [HO.out]; kernel_rfl) (by rw [HQ.out]; exact fun _ _ _ h => h) (Or.inl ⟨by rfl, ?_⟩) hS ?_
  · intro w' hSw
    go_simp
  try simp only [Act.put, List.setIfInBounds_toArray, List.set_cons_zero, List.set_cons_succ]
  refine wpAnyH_take (i := 7) (v := .pointer (some ⟨k.p, 0, none⟩)) (by rw [HO.out]; simp only [List.getElem?_toArray, List.getElem?_cons_succ, List.getElem?_cons_zero]; rfl) (by rw [HO.out]; kernel_rfl) (by rw [HO.out]; kernel_rfl) (by rw [HO.out]; kernel_rfl) (by rw [HQ.out]; exact fun _ _ _ h => h) (Or.inl ⟨by rfl, ?_⟩) hS ?_
  · intro w' hSw
    go_simp
  try simp only [Act.put, List.setIfInBounds_toArray, List.set_cons_zero, List.set_cons_succ]
  refine wpAnyH_take (i := 8) (v := .pointer (some ⟨k.p, 0, none⟩)) (by rw [HO.out]; simp only [List.getElem?_toArray, List.getElem?_cons_succ, List.getElem?_cons_zero]; rfl) (by rw [HO.out]; kernel_rfl) (by rw [HO.out]; kernel_rfl) (by rw [HO.out]; kernel_rfl) (by rw [HQ.out]; exact fun _ _ _ h => h) (Or.inl ⟨by rfl, ?_⟩) hS ?_
  · intro w' hSw
    go_simp
  try simp only [Act.put, List.setIfInBounds_toArray, List.set_cons_zero, List.set_cons_succ]
  refine wpAnyH_take (i := 9) (v := .slice xa s.c.tb.length xc) (by rw [HO.out]; simp only [List.getElem?_toArray, List.getElem?_cons_succ, List.getElem?_cons_zero]; rfl) (by rw [HO.out]; kernel_rfl) (by rw [HO.out]; kernel_rfl) (by rw [HO.out]; kernel_rfl) (by rw [HQ.out]; exact fun _ _ _ h => h) (Or.inl ⟨by rfl, ?_⟩) hS ?_
  · intro w' hSw
    obtain ⟨q1, q2, q3, q4, q5⟩ := hSw
    go_simp
  try simp only [Act.put, List.setIfInBounds_toArray, List.set_cons_zero, List.set_cons_succ]
  refine wpAnyH_take (i := 10) (v := .int .i64 (s.c.tb.length : Int)) (by rw [HO.out]; simp only [List.getElem?_toArray, List.getElem?_cons_succ, List.getElem?_cons_zero]; rfl) (by rw [HO.out]; kernel_rfl) (by rw [HO.out]; kernel_rfl) (by rw [HO.out]; kernel_rfl) (by rw [HQ.out]; exact fun _ _ _ h => h) (Or.inl ⟨by rfl, ?_⟩) hS ?_
  · intro w' hSw
    go_simp
  try simp only [Act.put, List.setIfInBounds_toArray, List.set_cons_zero, List.set_cons_succ]
  refine wpAnyH_take (i := 11) (v := .pointer (some ⟨k.p, 0, none⟩)) (by rw [HO.out]; simp only [List.getElem?_toArray, List.getElem?_cons_succ, List.getElem?_cons_zero]; rfl) (by rw [HO.out]; kernel_rfl) (by rw [HO.out]; kernel_rfl) (by rw [HO.out]; kernel_rfl) (by rw [HQ.out]; exact fun _ _ _ h => h) (Or.inl ⟨by rfl, ?_⟩) hS ?_
  · intro w' hSw
    obtain ⟨q1, q2, q3, q4, q5⟩ := hSw
    go_simp
  try simp only [Act.put, List.setIfInBounds_toArray, List.set_cons_zero, List.set_cons_succ]
  refine wpAnyH_take (i := 12) (v := .pointer (some ⟨k.p, 0, none⟩)) (by rw [HO.out]; simp only [List.getElem?_toArray, List.getElem?_cons_succ, List.getElem?_cons_zero]; rfl) (by rw [HO.out]; kernel_rfl) (by rw [HO.out]; kernel_rfl) (by rw [HO.out]; kernel_rfl) (by rw [HQ.out]; exact fun _ _ _ h => h) (Or.inl ⟨by rfl, ?_⟩) hS ?_
  · intro w' hSw
    go_simp
  try simp only [Act.put, List.setIfInBounds_toArray, List.set_cons_zero, List.set_cons_succ]
  refine wpAnyH_take (i := 13) (v := .pointer (some ⟨k.p, 0, none⟩)) (by rw [HO.out]; simp only [List.getElem?_toArray, List.getElem?_cons_succ, List.getElem?_cons_zero]; rfl) (by rw [HO.out]; kernel_rfl) (by rw [HO.out]; kernel_rfl) (by rw [HO.out]; kernel_rfl) (by rw [HQ.out]; exact fun _ _ _ h => h) (Or.inl ⟨by rfl, ?_⟩) hS ?_
  · intro w' hSw
    go_simp
  try simp only [Act.put, List.setIfInBounds_toArray, List.set_cons_zero, List.set_cons_succ]
  refine wpAnyH_take (i := 14) (v := .pointer (some ⟨k.p, 1, none⟩)) (by rw [HO.out]; simp only [List.getElem?_toArray, List.getElem?_cons_succ, List.getElem?_cons_zero]; rfl) (by rw [HO.out]; kernel_rfl) (by rw [HO.out]; kernel_rfl) (by rw [HO.out]; kernel_rfl) (by rw [HQ.out]; exact fun _ _ _ h => h) (Or.inl ⟨by rfl, ?_⟩) hS ?_
  · intro w' hSw
    go_simp
  try simp only [Act.put, List.setIfInBounds_toArray, List.set_cons_zero, List.set_cons_succ]
  refine wpAnyH_take (i := 15) (v := .int .i64 s.c.st) (by rw [HO.out]; simp only [List.getElem?_toArray, List.getElem?_cons_succ, List.getElem?_cons_zero]; rfl) (by rw [HO.out]; kernel_rfl) (by rw [HO.out]; kernel_rfl) (by rw [HO.out]; kernel_rfl) (by rw [HQ.out]; exact fun _ _ _ h => h) (Or.inl ⟨by rfl, ?_⟩) hS ?_
  · intro w' hSw
    obtain ⟨q1, q2, q3, q4, q5⟩ := hSw
    go_simp
  try simp only [Act.put, List.setIfInBounds_toArray, List.set_cons_zero, List.set_cons_succ]
  refine wpAnyH_take (i := 16) (v := .slice (some ⟨g, 0, none⟩) (n1 + n2) cap) (by rw [HO.out]; simp only [List.getElem?_toArray, List.getElem?_cons_succ, List.getElem?_cons_zero]; rfl) (by rw [HO.out]; kernel_rfl) (by rw [HO.out]; kernel_rfl) (by rw [HO.out]; kernel_rfl) (by rw [HQ.out]; exact fun _ _ _ h => h) (Or.inl ⟨by rfl, ?_⟩) hS ?_
  · intro w' hSw
    go_simp
  try simp only [Act.put, List.setIfInBounds_toArray, List.set_cons_zero, List.set_cons_succ]
  refine wpAnyH_take (i := 17) (v := .int .i64 (n1 : Int)) (by rw [HO.out]; simp only [List.getElem?_toArray, List.getElem?_cons_succ, List.getElem?_cons_zero]; rfl) (by rw [HO.out]; kernel_rfl) (by rw [HO.out]; kernel_rfl) (by rw [HO.out]; kernel_rfl) (by rw [HQ.out]; exact fun _ _ _ h => h) (Or.inl ⟨by rfl, ?_⟩) hS ?_
  · intro w' hSw
    go_simp
  try simp only [Act.put, List.setIfInBounds_toArray, List.set_cons_zero, List.set_cons_succ]
  refine wpAnyH_take (i := 18) (v := .slice (some ⟨g, 0, none⟩) n1 cap) (by rw [HO.out]; simp only [List.getElem?_toArray, List.getElem?_cons_succ, List.getElem?_cons_zero]; rfl) (by rw [HO.out]; kernel_rfl) (by rw [HO.out]; kernel_rfl) (by rw [HO.out]; kernel_rfl) (by rw [HQ.out]; exact fun _ _ _ h => h) (Or.inl ⟨by rfl, ?_⟩) hS ?_
  · intro w' hSw
    have a1 : n1 ≤ cap := by omega
    go_simp
  try simp only [Act.put, List.setIfInBounds_toArray, List.set_cons_zero, List.set_cons_succ]
  refine wpAnyH_take (i := 19) (v := .slice (some ⟨g, 0, none⟩) (n1 + n2) cap) (by rw [HO.out]; simp only [List.getElem?_toArray, List.getElem?_cons_succ, List.getElem?_cons_zero]; rfl) (by rw [HO.out]; kernel_rfl) (by rw [HO.out]; kernel_rfl) (by rw [HO.out]; kernel_rfl) (by rw [HQ.out]; exact fun _ _ _ h => h) (Or.inl ⟨by rfl, ?_⟩) hS ?_
  · intro w' hSw
    go_simp
  try simp only [Act.put, List.setIfInBounds_toArray, List.set_cons_zero, List.set_cons_succ]
  refine wpAnyH_take (i := 20) (v := .int .i64 (n1 : Int)) (by rw [HO.out]; simp only [List.getElem?_toArray, List.getElem?_cons_succ, List.getElem?_cons_zero]; rfl) (by rw [HO.out]; kernel_rfl) (by rw [HO.out]; kernel_rfl) (by rw [HO.out]; kernel_rfl) (by rw [HQ.out]; exact fun _ _ _ h => h) (Or.inl ⟨by rfl, ?_⟩) hS ?_
  · intro w' hSw
    go_simp
  try simp only [Act.put, List.setIfInBounds_toArray, List.set_cons_zero, List.set_cons_succ]
  refine wpAnyH_take (i := 21) (v := .slice (some ⟨g, n1, none⟩) n2 (cap - n1)) (by rw [HO.out]; simp only [List.getElem?_toArray, List.getElem?_cons_succ, List.getElem?_cons_zero]; rfl) (by rw [HO.out]; kernel_rfl) (by rw [HO.out]; kernel_rfl) (by rw [HO.out]; kernel_rfl) (by rw [HQ.out]; exact fun _ _ _ h => h) (Or.inl ⟨by rfl, ?_⟩) hS ?_
  · intro w' hSw
    have a1 : (n1 : Int) ≤ (n1 : Int) + (n2 : Int) := by omega
    have a2 : ¬ cap = n1 := by omega
    go_simp
  try simp only [Act.put, List.setIfInBounds_toArray, List.set_cons_zero, List.set_cons_succ]
  refine wpAnyH_take (i := 22) (v := .agg #[.int .i64 ep, .int .i64 (s.bl : Int), .int .i64 (s.c.tb.length : Int), .int .i64 s.c.st, .slice (some ⟨g, 0, none⟩) n1 cap, .slice (some ⟨g, n1, none⟩) n2 (cap - n1)]) (by rw [HO.out]; simp only [List.getElem?_toArray, List.getElem?_cons_succ, List.getElem?_cons_zero]; rfl) (by rw [HO.out]; kernel_rfl) (by rw [HO.out]; kernel_rfl) (by rw [HO.out]; kernel_rfl) (by rw [HQ.out]; exact fun _ _ _ h => h) (Or.inl ⟨by rfl, ?_⟩) hS ?_
  · intro w' hSw
    go_simp
  try simp only [Act.put, List.setIfInBounds_toArray, List.set_cons_zero, List.set_cons_succ]
  refine wpAnyH_ready (rs := [23]) (by rw [HO.out]; kernel_rfl) (by simp) ?_
  refine AllReadyH.cons (o := _) (by rw [HO.out]; simp only [List.getElem?_toArray, List.getElem?_cons_succ, List.getElem?_cons_zero]; rfl) (fun K23 hK23 => ?_) AllReadyH.nil
  go_simp
  have hbA : Below w2.heap.size w2 (w2.drew.alloc (.cells #[.int .i64 0, .int .i64 0, .int .i64 0, .int .i64 0, .slice none 0 0, .slice none 0 0] 151)) := (Below.refl _ _).drew.alloc (Nat.le_refl _) _
  refine hK23.out _ _ ⟨cell_grow hbA hceb2, cell_grow hbA hcsx2, cell_grow hbA cc10, cell_grow hbA cc0, cell_grow hbA cc1⟩ (fun hS1 => ?_)
  try simp only [Act.put, List.setIfInBounds_toArray, List.set_cons_zero, List.set_cons_succ]
  refine wpAnyH_ready (rs := [24]) (by rw [HO.out]; kernel_rfl) (by simp) ?_
  refine AllReadyH.cons (o := _) (by rw [HO.out]; simp only [List.getElem?_toArray, List.getElem?_cons_succ, List.getElem?_cons_zero]; rfl) (fun K24 hK24 => ?_) AllReadyH.nil
  go_simp
  rw [← HW3.out]
  refine hK24.out _ _ ⟨cell_grow HB23.out hceb2, cell_grow HB23.out hcsx2, cell_grow HB23.out cc10, cell_grow HB23.out cc0, cell_grow HB23.out cc1⟩ (fun hS2 => ?_)
  clear hbA hS1 HW3
  refine wpAnyH_done (by rw [HO.out]; kernel_rfl) ?_ _
  rw [HQ.out]
  refine NoPanic.normal ?_
  have HB3 : Hid (Below w.heap.size w w3) := HB2.out.trans (HB23.out.mono HB2.out.size)
  obtain ⟨r0, r1, r2, r3, r4, r5⟩ := row6 HRow.out
  have HLT : Hid ((tabL s).length = n1 ∧ (mapL s).length = n2) := ⟨by rw [HN1.out]; unfold tabL ints; rw [List.length_map, List.length_take]; unfold cntN at hf; omega, by rw [HN2.out]; unfold mapL ints; rw [List.length_map, List.length_drop, List.length_take]; unfold cntN at hf ⊢; omega⟩
  have HGI3 : Hid (IV w3 (some ⟨g, 0, none⟩) (tabL s) ∧ IV w3 (some ⟨g, n1, none⟩) (mapL s)) := by
    have := HGI.out.below HB23.out
    refine ⟨?_, ?_⟩
    · have h1 := iv_take this (tcN s)
      unfold tabL ints at *
      rw [← List.map_take, List.take_take] at h1
      rw [show min (tcN s) (cntN s) = tcN s by unfold cntN; omega] at h1
      exact h1
    · have h1 := iv_drop this n1
      unfold mapL ints at *
      rw [← List.map_drop, HN1.out] at h1
      rw [HN1.out]
      exact h1
  have HRt : Hid (R.Rt w3 (rootD s ep) (some ⟨g, 0, none⟩) cap (some ⟨g, n1, none⟩) (cap - n1)) := ⟨HGI3.out.1, HGI3.out.2, by simp, by simp, by show (tabL s).length ≤ cap; rw [HLT.out.1]; omega, by show (mapL s).length ≤ cap - n1; rw [HLT.out.2]; omega, hg3, by omega⟩
  by_cases hck : R.checkE (rootD s ep) = 0
  · skip
    have HP : Hid (Calls Tryz.prog 107 #[.agg #[.int .i64 ep, .int .i64 (s.bl : Int), .int .i64 (s.c.tb.length : Int), .int .i64 s.c.st, .slice (some ⟨g, 0, none⟩) n1 cap, .slice (some ⟨g, n1, none⟩) n2 (cap - n1)]] w3 fun e w' => ∃ gb cb, e = .returned (.tuple #[.slice (some ⟨gb, 0, none⟩) 256 cb, .int .i64 0]) ∧ FB w' k.X (.slice (some ⟨gb, 0, none⟩) 256 cb) (R.putS (rootD s ep)) ∧ Below w3.heap.size w3 w') := by
      have := R.put_good (rootD s ep) _ _ _ _ w3 HRt.out (R.ok_checkE hck)
      unfold R.rootV at this
      rw [show (rootD s ep).T.length = n1 from HLT.out.1, show (rootD s ep).M.length = n2 from HLT.out.2] at this
      refine this.mono ?_
      rintro e w' ⟨v, rfl, ho, hb⟩
      have hl := R.put_len (R.ok_checkE hck)
      obtain ⟨gb, cb, rfl, hgb, _⟩ := own_shape ho (R.put_all _) hl
      exact ⟨gb, cb, rfl, fb_own ho (R.put_all _) (HXB.out _ HB3.out).lt, hb⟩
    have HPL : Hid ((R.putS (rootD s ep)).length = 256) := R.put_len (R.ok_checkE hck)
    clear HRow HX HCC hs0
    go_wp2_with (first | (go_at_call 107; refine HP.out.mono ?_; rintro e w4 ⟨gb, cb, rfl, hfb4, hb4⟩; have HB34 : Hid (Below w3.heap.size w3 w4) := hb4; have HFB4 : Hid (FB w4 k.X (.slice (some ⟨gb, 0, none⟩) 256 cb) (R.putS (rootD s ep))) := hfb4; clear hb4 hfb4 HP) | fail)
    obtain ⟨w5, hw5⟩ : ∃ w5, w5 = w4.alloc (.cells #[.slice (some ⟨gb, 0, none⟩) 256 cb] 29) := ⟨_, rfl⟩
    rw [← hw5]
    have HB45 : Hid (Below w4.heap.size w4 w5) := by rw [hw5]; exact (Below.refl _ _).alloc (Nat.le_refl _) _
    have hcb5 : w5.cell? ⟨w4.heap.size, 0, none⟩ = some (.slice (some ⟨gb, 0, none⟩) 256 cb) := by rw [hw5]; go_simp
    clear hw5
    have HB35 : Hid (Below w3.heap.size w3 w5) := HB34.out.trans (HB45.out.mono HB34.out.size)
    have HB5 : Hid (Below w.heap.size w w5) := HB3.out.trans (HB35.out.mono HB3.out.size)
    have HB25 : Hid (Below w2.heap.size w2 w5) := HB23.out.trans (HB35.out.mono HB23.out.size)
    have csx5 := cell_grow HB25.out hcsx2
    have ceb5 := cell_grow HB25.out hceb2
    have cwb5 := cell_grow HB25.out hcw2
    have c05 := cell_grow HB25.out cc0
    have c105 := cell_grow HB25.out cc10
    have d0 := cell_grow HB35.out r0
    have d1 := cell_grow HB35.out r1
    have d2 := cell_grow HB35.out r2
    have d3 := cell_grow HB35.out r3
    have d4 := cell_grow HB35.out r4
    have d5 := cell_grow HB35.out r5
    clear r0 r1 r2 r3 r4 r5 hcsx2 hceb2 hcw2 cc0 cc1 cc10
    have HU : Hid (∀ V hb X', (∀ x ∈ X', x < V.heap.size) → Below w5.heap.size w5 V → V.cell? ⟨hb, 0, none⟩ = some (.slice xa s.c.tb.length xc) → V.cell? ⟨hb, 1, none⟩ = some (.slice (some ⟨g, 0, none⟩) n1 cap) → V.cell? ⟨hb, 2, none⟩ = some (.slice (some ⟨g, n1, none⟩) n2 (cap - n1)) → Calls Tryz.prog 104 #[.int .i64 (s.bl : Int), .slice (some ⟨hb, 0, none⟩) 3 3] V fun e w' => ∃ v, e = .returned (.tuple #[v, .bool true]) ∧ FB w' X' v us2 ∧ Below V.heap.size V w') := by
      intro V hb X' hX' hV k0 k1 k2
      have hx6 := HXB.out _ (HB5.out.trans (hV.mono HB5.out.size))
      obtain ⟨ya, yc, ye, yn, _, _, yiv, _⟩ := hx6.m.ht
      simp at ye
      obtain ⟨rfl, rfl⟩ := ye
      have hb36 : Below w3.heap.size w3 V := HB35.out.trans (hV.mono HB35.out.size)
      have := used3 s.bl hbl hb xa (some ⟨g, 0, none⟩) (some ⟨g, n1, none⟩) xc cap (cap - n1) s.c.tb (tabL s) (mapL s) us2 X' V hX' k0 (by rw [HLT.out.1]; exact k1) (by rw [HLT.out.2]; exact k2) yiv (HGI3.out.1.below hb36) (HGI3.out.2.below hb36) yn (by simp) (by simp) (by omega) (by rw [HLT.out.1]; omega) (by rw [HLT.out.2]; omega) hus2
      exact this
    have HS13 : Hid (∀ V, Below w5.heap.size w5 V → V.cell? ⟨w.heap.size, 0, none⟩ = some (.pointer (some ⟨k.p, 0, none⟩)) ∧ V.cell? ⟨k.p, 10, none⟩ = some (.int .i64 (s.bl : Int)) ∧ V.cell? ⟨k.p, 0, none⟩ = some (.slice xa s.c.tb.length xc) ∧ V.cell? ⟨w2.heap.size, 4, none⟩ = some (.slice (some ⟨g, 0, none⟩) n1 cap) ∧ V.cell? ⟨w2.heap.size, 5, none⟩ = some (.slice (some ⟨g, n1, none⟩) n2 (cap - n1))) := fun V hV => ⟨cell_grow hV csx5, cell_grow hV c105, cell_grow hV c05, cell_grow hV d4, cell_grow hV d5⟩
    refine wp_region_noPanic ?_
    refine name_ops ?_
    intro O QQ HO HQ
    refine wp_region_held_drew (S := (fun W => W.cell? ⟨w.heap.size, 0, none⟩ = some (.pointer (some ⟨k.p, 0, none⟩)) ∧ W.cell? ⟨k.p, 10, none⟩ = some (.int .i64 (s.bl : Int)) ∧ W.cell? ⟨k.p, 0, none⟩ = some (.slice xa s.c.tb.length xc) ∧ W.cell? ⟨w2.heap.size, 4, none⟩ = some (.slice (some ⟨g, 0, none⟩) n1 cap) ∧ W.cell? ⟨w2.heap.size, 5, none⟩ = some (.slice (some ⟨g, n1, none⟩) n2 (cap - n1)))) (by kernel_rfl) (HS13.out _ (Below.refl _ _).drew) (fun hS => ?_)
    rw [show O.size = 21 by rw [HO.out]; rfl]
    have HBv0 : Hid (Below w5.heap.size w5 w5.drew) := (Below.refl _ _).drew
    generalize w5.drew = v0 at *
    have REST : ∀ (v : World) (hb ub : Nat) (va : Option Addr) (vc : Nat), Below w5.heap.size w5 v → v.cell? ⟨ub, 0, none⟩ = some (.slice va us2.length vc) → ub ∉ k.X → FB v k.X (.slice va us2.length vc) us2 → QQ .normal { tmps := #[Value.pointer (some { block := k.p, off := 0 }), Value.int IntKind.i64 ep, Value.pointer (some { block := w.heap.size, off := 0 }), Value.pointer (some { block := w.heap.size + 1, off := 0 }), Value.int IntKind.i64 0, Value.pointer (some { block := w1.heap.size, off := 0 }), Value.int IntKind.i64 0, Value.int IntKind.i64 ↑n1, Value.int IntKind.i64 (↑n1 + ↑n2), Value.slice (some { block := g, off := 0 }) (n1 + n2) cap, Value.pointer (some { block := w2.heap.size, off := 0 }), Value.pointer (some { block := w4.heap.size, off := 0 }), Value.pointer (some { block := ub, off := 0 }), Value.bool true, Value.tuple #[Value.slice wa ws.length wc, Value.int IntKind.i64 0], Value.pointer (some { block := k.p, off := 0 }), Value.pointer (some { block := k.p, off := 0 }), Value.pointer (some { block := k.p, off := 0 }), Value.pointer (some { block := k.p, off := 0 }), Value.slice xa s.c.tb.length xc, Value.tuple #[Value.slice wa ws.length wc, Value.int IntKind.i64 0], Value.slice wa ws.length wc, Value.int IntKind.i64 0, Value.int IntKind.i64 0, Value.bool false, undef, Value.slice wa ws.length wc, Value.int IntKind.i64 ↑n1, Value.int IntKind.i64 ↑n1, Value.pointer (some { block := k.p, off := 0 }), Value.pointer (some { block := k.p, off := 0 }), Value.pointer (some { block := k.p, off := 9 }), Value.slice ua s.us.length uc, Value.int IntKind.i64 ↑n2, Value.int IntKind.i64 (↑n1 + ↑n2), Value.pointer (some { block := k.p, off := 0 }), Value.int IntKind.i64 (↑n1 + ↑n2), Value.slice (some { block := g, off := 0 }) (n1 + n2) cap, Value.slice (some { block := g, off := 0 }) (n1 + n2) cap, Value.int IntKind.i64 (↑n1 + ↑n2), Value.int IntKind.i64 (↑n1 + ↑n2), Value.bool false, Value.int IntKind.i64 ep, Value.pointer (some { block := k.p, off := 0 }), Value.pointer (some { block := k.p, off := 0 }), Value.pointer (some { block := k.p, off := 10 }), Value.int IntKind.i64 ↑s.bl, Value.pointer (some { block := k.p, off := 0 }), Value.pointer (some { block := k.p, off := 0 }), Value.pointer (some { block := k.p, off := 0 }), Value.pointer (some { block := k.p, off := 0 }), Value.slice xa s.c.tb.length xc, Value.int IntKind.i64 ↑s.c.tb.length, Value.pointer (some { block := k.p, off := 0 }), Value.pointer (some { block := k.p, off := 0 }), Value.pointer (some { block := k.p, off := 0 }), Value.pointer (some { block := k.p, off := 1 }), Value.int IntKind.i64 s.c.st, Value.slice (some { block := g, off := 0 }) (n1 + n2) cap, Value.int IntKind.i64 ↑n1, Value.slice (some { block := g, off := 0 }) n1 cap, Value.slice (some { block := g, off := 0 }) (n1 + n2) cap, Value.int IntKind.i64 ↑n1, Value.slice (some { block := g, off := n1 }) n2 (cap - n1), Value.agg #[Value.int IntKind.i64 ep, Value.int IntKind.i64 ↑s.bl, Value.int IntKind.i64 ↑s.c.tb.length, Value.int IntKind.i64 s.c.st, Value.slice (some { block := g, off := 0 }) n1 cap, Value.slice (some { block := g, off := n1 }) n2 (cap - n1)], Value.tuple #[Value.slice (some { block := gb, off := 0 }) 256 cb, Value.int IntKind.i64 0], Value.agg #[Value.int IntKind.i64 ep, Value.int IntKind.i64 ↑s.bl, Value.int IntKind.i64 ↑s.c.tb.length, Value.int IntKind.i64 s.c.st, Value.slice (some { block := g, off := 0 }) n1 cap, Value.slice (some { block := g, off := n1 }) n2 (cap - n1)], Value.tuple #[Value.slice (some { block := gb, off := 0 }) 256 cb, Value.int IntKind.i64 0], Value.slice (some { block := gb, off := 0 }) 256 cb, Value.int IntKind.i64 0, Value.int IntKind.i64 0, Value.bool false, undef, Value.tuple #[Value.slice va us2.length vc, Value.bool true], Value.pointer (some { block := k.p, off := 0 }), Value.pointer (some { block := k.p, off := 0 }), Value.pointer (some { block := k.p, off := 10 }), Value.int IntKind.i64 ↑s.bl, Value.pointer (some { block := k.p, off := 0 }), Value.pointer (some { block := k.p, off := 0 }), Value.pointer (some { block := k.p, off := 0 }), Value.pointer (some { block := k.p, off := 0 }), Value.slice xa s.c.tb.length xc, Value.pointer (some { block := w2.heap.size, off := 4 }), Value.slice (some { block := g, off := 0 }) n1 cap, Value.pointer (some { block := w2.heap.size, off := 5 }), Value.slice (some { block := g, off := n1 }) n2 (cap - n1), Value.slice (some { block := hb, off := 0 }) 3 3, Value.tuple #[Value.slice va us2.length vc, Value.bool true], Value.slice va us2.length vc, Value.bool true, undef, undef, undef, undef, undef, undef, undef, undef, undef, undef, undef, undef, undef, undef, undef, undef, undef, undef, undef, undef, undef, undef, undef, undef, undef], defers := [] } v := by
      intro v hb ub va vc hbv hub hubX hfu
      rw [HQ.out]
      refine NoPanic.normal ?_
      clear HO HQ hS HU HS13 HBv0 v0
      have HBvw : Hid (Below w.heap.size w v) := HB5.out.trans (hbv.mono HB5.out.size)
      have hxv := HXB.out _ HBvw.out
      have csx := cell_grow hbv csx5
      have ceb := cell_grow hbv ceb5
      have cwb := cell_grow hbv cwb5
      have cbb := cell_grow hbv hcb5
      have e0 := cell_grow hbv d0
      have e1 := cell_grow hbv d1
      have e2 := cell_grow hbv d2
      have e3 := cell_grow hbv d3
      have e4 := cell_grow hbv d4
      have e5 := cell_grow hbv d5
      have c14 := hxv.m.v.cells.c14
      have hb3v : Below w3.heap.size w3 v := HB35.out.trans (hbv.mono HB35.out.size)
      have hXw : ∀ x ∈ k.X, x < w.heap.size := (HXB.out _ (Below.refl _ _)).lt
      have hgX : g ∉ k.X := fun hm => by have := hXw g hm; omega
      have hs3 := HB23.out.size
      have hs34 := HB34.out.size
      have HEV : Hid (Ev v k w.heap.size (w.heap.size + 1) w2.heap.size w1.heap.size ub w4.heap.size (.slice (some ⟨g, 0, none⟩) n1 cap) (.slice (some ⟨g, n1, none⟩) n2 (cap - n1)) (.slice wa ws.length wc) (.slice va us2.length vc) (.slice (some ⟨gb, 0, none⟩) 256 cb) (tabL s) (mapL s) ws us2 (R.putS (rootD s ep)) ep) := by
        refine ⟨csx, ceb, e4, e5, cwb, hub, cbb, ⟨_, cap, by rw [HLT.out.1], by simp, by rw [HLT.out.1]; omega, hg3, HGI3.out.1.below hb3v, fun _ b off e => by simp at e; rw [← e.1]; exact hgX⟩, ⟨_, cap - n1, by rw [HLT.out.2], by simp, by rw [HLT.out.2]; omega, by omega, HGI3.out.2.below hb3v, fun _ b off e => by simp at e; rw [← e.1]; exact hgX⟩, ?_, hfu, ?_, ?_⟩
        · exact HWV.out.below ((HB12.out.trans (HB23.out.mono HB12.out.size)).trans (hb3v.mono (Nat.le_trans HB12.out.size HB23.out.size)))
        · exact HFB4.out.below (HB45.out.trans (hbv.mono HB45.out.size))
        · intro b hb hm
          have := hXw b hm
          simp at hb
          rcases hb with rfl | rfl | rfl | rfl | rfl | rfl
          · omega
          · omega
          · omega
          · omega
          · exact hubX hm
          · omega
      have HXV : Hid (Sx v k s d (.slice xa s.c.tb.length xc) f t' f' (.slice ua s.us.length uc) sb db nx) := hxv
      have hul : us2.length = s.us.length := by rw [onceR_len hus2]; unfold rootsS; rw [rootsK_len, HUL.out]
      have hul6 : us2.length ≤ 600 := by rw [hul, HUL.out]; omega
      have HST : Hid (∀ W, D.Off k.K v W → Ev W k w.heap.size (w.heap.size + 1) w2.heap.size w1.heap.size ub w4.heap.size (.slice (some ⟨g, 0, none⟩) n1 cap) (.slice (some ⟨g, n1, none⟩) n2 (cap - n1)) (.slice wa ws.length wc) (.slice va us2.length vc) (.slice (some ⟨gb, 0, none⟩) 256 cb) (tabL s) (mapL s) ws us2 (R.putS (rootD s ep)) ep) := fun W hW => HEV.out.off hW
      obtain ⟨v6, hv6⟩ : ∃ v6, v6 = (v.alloc (.cells #[.func (.func 109) #[] #[.pointer (some ⟨w.heap.size, 0, none⟩), .pointer (some ⟨w2.heap.size, 0, none⟩), .pointer (some ⟨w1.heap.size, 0, none⟩)], .func (.func 111) #[] #[.pointer (some ⟨w.heap.size, 0, none⟩), .pointer (some ⟨w2.heap.size, 0, none⟩), .pointer (some ⟨ub, 0, none⟩)], .func (.func 167) #[] #[.pointer (some ⟨nx, 0, none⟩), .pointer (some ⟨db, 0, none⟩)], .func (.func 112) #[] #[.pointer (some ⟨w.heap.size, 0, none⟩), .pointer (some ⟨(w.heap.size + 1), 0, none⟩), .pointer (some ⟨w4.heap.size, 0, none⟩)], .func (.func 167) #[] #[.pointer (some ⟨nx, 0, none⟩), .pointer (some ⟨db, 0, none⟩)]] 51)).drew := ⟨_, rfl⟩
      have HV6 : Hid (v6 = _) := hv6
      have hb6 : Below v.heap.size v v6 := by rw [hv6]; exact ((Below.refl _ _).alloc (Nat.le_refl _) _).drew
      have hrow6 : v6.heap[v.heap.size]? = some (.cells #[.func (.func 109) #[] #[.pointer (some ⟨w.heap.size, 0, none⟩), .pointer (some ⟨w2.heap.size, 0, none⟩), .pointer (some ⟨w1.heap.size, 0, none⟩)], .func (.func 111) #[] #[.pointer (some ⟨w.heap.size, 0, none⟩), .pointer (some ⟨w2.heap.size, 0, none⟩), .pointer (some ⟨ub, 0, none⟩)], .func (.func 167) #[] #[.pointer (some ⟨nx, 0, none⟩), .pointer (some ⟨db, 0, none⟩)], .func (.func 112) #[] #[.pointer (some ⟨w.heap.size, 0, none⟩), .pointer (some ⟨(w.heap.size + 1), 0, none⟩), .pointer (some ⟨w4.heap.size, 0, none⟩)], .func (.func 167) #[] #[.pointer (some ⟨nx, 0, none⟩), .pointer (some ⟨db, 0, none⟩)]] 51 (0, 0)) := by rw [hv6]; exact heap_alloc_last _ _
      have hvX : v.heap.size ∉ k.X := fun hm => by have := hXw _ hm; have := HBvw.out.size; omega
      have HT : Hid (Calls Tryz.prog 108 #[.slice (some ⟨v.heap.size, 0, none⟩) 5 5] v6 fun e w' => DoneW k s v6 (tlR (stepF s ep us2) 5 0 d) (.slice xa s.c.tb.length xc) f t' f' (.slice ua s.us.length uc) sb db nx e w') := by
        have hx6 := hxv.below hb6
        have ev6 := HEV.out.off (off_below hb6)
        refine turn_s (stepF s ep us2) v.heap.size v6 hx6 ev6 hvX (by rw [cell_of_row _ _ _ _ _ _ hrow6]; rfl) (by rw [cell_of_row _ _ _ _ _ _ hrow6]; rfl) (by rw [cell_of_row _ _ _ _ _ _ hrow6]; rfl) (by rw [cell_of_row _ _ _ _ _ _ hrow6]; rfl) (by rw [cell_of_row _ _ _ _ _ _ hrow6]; rfl) ?_ ?_ ?_ (fun _ => rfl) (fun _ => rfl)
        · intro W di hx ho
          have := tables_s W hx (ev6.off ho) (by omega) (by rw [split_count, HWS.out, HLT.out.1, HN1.out]; unfold tcN; rw [wordsS_len]; exact Nat.le_refl _) (by rw [HLT.out.1]; omega)
          rw [HWS.out] at this
          exact this
        · intro W di hx ho
          exact maps_s W hx (ev6.off ho) (by omega) (by rw [split_count, HLT.out.2, HN2.out, hul]; exact Nat.le_refl _) (by rw [HLT.out.2]; omega)
        · intro W di hx ho
          exact root_s W hx (ev6.off ho) HPL.out hep0 hep1
      have hmf : ∀ (fn : Fn) (first cap : Array Value) (w : World), (Instr.makeFunc fn first cap).run Tryz.prog w = .ok (.func fn first cap) w := fun _ _ _ _ => rfl
      have HF : Hid (∀ W, D.Off k.K v W → W.cell? ⟨w.heap.size, 0, none⟩ = some (.pointer (some ⟨k.p, 0, none⟩)) ∧ W.cell? ⟨w2.heap.size, 0, none⟩ = some (.int .i64 ep) ∧ W.cell? ⟨w2.heap.size, 1, none⟩ = some (.int .i64 (s.bl : Int)) ∧ W.cell? ⟨w2.heap.size, 2, none⟩ = some (.int .i64 (s.c.tb.length : Int)) ∧ W.cell? ⟨w2.heap.size, 3, none⟩ = some (.int .i64 s.c.st) ∧ W.cell? ⟨w2.heap.size, 4, none⟩ = some (.slice (some ⟨g, 0, none⟩) n1 cap) ∧ W.cell? ⟨w2.heap.size, 5, none⟩ = some (.slice (some ⟨g, n1, none⟩) n2 (cap - n1)) ∧ W.cell? ⟨ub, 0, none⟩ = some (.slice va us2.length vc)) := by
        intro W hW
        have n2x := HEV.out.nx w2.heap.size (by simp)
        have nwx := HEV.out.nx w.heap.size (by simp)
        exact ⟨(off_cellK hW (cell_lt csx) nwx 0).trans csx, (off_cellK hW (cell_lt e0) n2x 0).trans e0, (off_cellK hW (cell_lt e0) n2x 1).trans e1, (off_cellK hW (cell_lt e0) n2x 2).trans e2, (off_cellK hW (cell_lt e0) n2x 3).trans e3, (off_cellK hW (cell_lt e0) n2x 4).trans e4, (off_cellK hW (cell_lt e0) n2x 5).trans e5, (off_cellK hW (cell_lt hub) hubX 0).trans hub⟩
      have HOv6 : Hid (D.Off k.K w v6) := (off_below HBvw.out).trans (off_below hb6)
      have HOvv6 : Hid (D.Off k.K v v6) := off_below hb6
      have csx6 := cell_grow hb6 csx
      have c146 := cell_grow hb6 c14
      have HFU : Hid (FB v k.X (.slice va us2.length vc) us2) := hfu
      have HRS : Hid (settleR s d ep us2 = if (tlR (stepF s ep us2) 5 0 d).1 ≠ 0 then ((tlR (stepF s ep us2) 5 0 d).1, s.note (tlR (stepF s ep us2) 5 0 d).1, (tlR (stepF s ep us2) 5 0 d).2) else (0, s.hold ep s.c.st s.c.tb us2, (tlR (stepF s ep us2) 5 0 d).2)) := by unfold settleR; rw [if_neg (by omega), if_neg (by simpa using hck)]; exact rfl
      clear hrow6 hv6 hxv csx5 ceb5 cwb5 hcb5 d0 d1 d2 d3 d4 d5 e0 e1 e2 e3 e4 e5 ceb cwb cbb hfu hb6 hb3v hbv HST HEV HWV HGI HGI3 HFB4 HXB
      rw [HRS.out] at HRR
      generalize tlR (stepF s ep us2) 5 0 d = TL at *
      obtain ⟨er, d9⟩ := TL
      unfold DoneW at HT
      clear HRS hus2 hck HLT HPL hul hul6
      simp only [syF] at c14 c146
      go_wp2_with fail
      refine wp_region_noPanic ?_
      refine name_ops ?_
      intro O QQ HO HQ
      refine wp_region_held_drew (S := (fun W => W.cell? ⟨w.heap.size, 0, none⟩ = some (.pointer (some ⟨k.p, 0, none⟩)) ∧ W.cell? ⟨k.p, 14, none⟩ = some (.func (.func 167) #[] #[.pointer (some ⟨nx, 0, none⟩), .pointer (some ⟨db, 0, none⟩)]))) (by kernel_rfl) ⟨csx, c14⟩ (fun hS => ?_)
      rw [show O.size = 14 by rw [HO.out]; rfl]
      refine wpAnyH_take (i := 0) (v := .func (.func 109) #[] #[.pointer (some ⟨w.heap.size, 0, none⟩), .pointer (some ⟨w2.heap.size, 0, none⟩), .pointer (some ⟨w1.heap.size, 0, none⟩)]) (by rw [HO.out]; simp only [List.getElem?_toArray, List.getElem?_cons_succ, List.getElem?_cons_zero]; rfl) (by rw [HO.out]; kernel_rfl) (by rw [HO.out]; kernel_rfl) (by rw [HO.out]; kernel_rfl) (by rw [HQ.out]; exact fun _ _ _ h => h) (Or.inl ⟨by rfl, ?_⟩) hS ?_
      · intro w' hSw
        go_simp
      try simp only [Act.put, List.setIfInBounds_toArray, List.set_cons_zero, List.set_cons_succ]
      refine wpAnyH_take (i := 1) (v := .func (.func 111) #[] #[.pointer (some ⟨w.heap.size, 0, none⟩), .pointer (some ⟨w2.heap.size, 0, none⟩), .pointer (some ⟨ub, 0, none⟩)]) (by rw [HO.out]; simp only [List.getElem?_toArray, List.getElem?_cons_succ, List.getElem?_cons_zero]; rfl) (by rw [HO.out]; kernel_rfl) (by rw [HO.out]; kernel_rfl) (by rw [HO.out]; kernel_rfl) (by rw [HQ.out]; exact fun _ _ _ h => h) (Or.inl ⟨by rfl, ?_⟩) hS ?_
      · intro w' hSw
        go_simp
      try simp only [Act.put, List.setIfInBounds_toArray, List.set_cons_zero, List.set_cons_succ]
      refine wpAnyH_take (i := 2) (v := .pointer (some ⟨k.p, 0, none⟩)) (by rw [HO.out]; simp only [List.getElem?_toArray, List.getElem?_cons_succ, List.getElem?_cons_zero]; rfl) (by rw [HO.out]; kernel_rfl) (by rw [HO.out]; kernel_rfl) (by rw [HO.out]; kernel_rfl) (by rw [HQ.out]; exact fun _ _ _ h => h) (Or.inl ⟨by rfl, ?_⟩) hS ?_
      · intro w' hSw
        obtain ⟨q1, q2⟩ := hSw
        go_simp
      try simp only [Act.put, List.setIfInBounds_toArray, List.set_cons_zero, List.set_cons_succ]
      refine wpAnyH_take (i := 3) (v := .pointer (some ⟨k.p, 0, none⟩)) (by rw [HO.out]; simp only [List.getElem?_toArray, List.getElem?_cons_succ, List.getElem?_cons_zero]; rfl) (by rw [HO.out]; kernel_rfl) (by rw [HO.out]; kernel_rfl) (by rw [HO.out]; kernel_rfl) (by rw [HQ.out]; exact fun _ _ _ h => h) (Or.inl ⟨by rfl, ?_⟩) hS ?_
      · intro w' hSw
        go_simp
      try simp only [Act.put, List.setIfInBounds_toArray, List.set_cons_zero, List.set_cons_succ]
      refine wpAnyH_take (i := 4) (v := .pointer (some ⟨k.p, 14, none⟩)) (by rw [HO.out]; simp only [List.getElem?_toArray, List.getElem?_cons_succ, List.getElem?_cons_zero]; rfl) (by rw [HO.out]; kernel_rfl) (by rw [HO.out]; kernel_rfl) (by rw [HO.out]; kernel_rfl) (by rw [HQ.out]; exact fun _ _ _ h => h) (Or.inl ⟨by rfl, ?_⟩) hS ?_
      · intro w' hSw
        go_simp
      try simp only [Act.put, List.setIfInBounds_toArray, List.set_cons_zero, List.set_cons_succ]
      refine wpAnyH_take (i := 5) (v := .func (.func 167) #[] #[.pointer (some ⟨nx, 0, none⟩), .pointer (some ⟨db, 0, none⟩)]) (by rw [HO.out]; simp only [List.getElem?_toArray, List.getElem?_cons_succ, List.getElem?_cons_zero]; rfl) (by rw [HO.out]; kernel_rfl) (by rw [HO.out]; kernel_rfl) (by rw [HO.out]; kernel_rfl) (by rw [HQ.out]; exact fun _ _ _ h => h) (Or.inl ⟨by rfl, ?_⟩) hS ?_
      · intro w' hSw
        obtain ⟨q1, q2⟩ := hSw
        go_simp
      try simp only [Act.put, List.setIfInBounds_toArray, List.set_cons_zero, List.set_cons_succ]
      refine wpAnyH_take (i := 6) (v := .func (.func 112) #[] #[.pointer (some ⟨w.heap.size, 0, none⟩), .pointer (some ⟨(w.heap.size + 1), 0, none⟩), .pointer (some ⟨w4.heap.size, 0, none⟩)]) (by rw [HO.out]; simp only [List.getElem?_toArray, List.getElem?_cons_succ, List.getElem?_cons_zero]; rfl) (by rw [HO.out]; kernel_rfl) (by rw [HO.out]; kernel_rfl) (by rw [HO.out]; kernel_rfl) (by rw [HQ.out]; exact fun _ _ _ h => h) (Or.inl ⟨by rfl, ?_⟩) hS ?_
      · intro w' hSw
        go_simp
      try simp only [Act.put, List.setIfInBounds_toArray, List.set_cons_zero, List.set_cons_succ]
      refine wpAnyH_take (i := 7) (v := .pointer (some ⟨k.p, 0, none⟩)) (by rw [HO.out]; simp only [List.getElem?_toArray, List.getElem?_cons_succ, List.getElem?_cons_zero]; rfl) (by rw [HO.out]; kernel_rfl) (by rw [HO.out]; kernel_rfl) (by rw [HO.out]; kernel_rfl) (by rw [HQ.out]; exact fun _ _ _ h => h) (Or.inl ⟨by rfl, ?_⟩) hS ?_
      · intro w' hSw
        obtain ⟨q1, q2⟩ := hSw
        go_simp
      try simp only [Act.put, List.setIfInBounds_toArray, List.set_cons_zero, List.set_cons_succ]
      refine wpAnyH_take (i := 8) (v := .pointer (some ⟨k.p, 0, none⟩)) (by rw [HO.out]; simp only [List.getElem?_toArray, List.getElem?_cons_succ, List.getElem?_cons_zero]; rfl) (by rw [HO.out]; kernel_rfl) (by rw [HO.out]; kernel_rfl) (by rw [HO.out]; kernel_rfl) (by rw [HQ.out]; exact fun _ _ _ h => h) (Or.inl ⟨by rfl, ?_⟩) hS ?_
      · intro w' hSw
        go_simp
      try simp only [Act.put, List.setIfInBounds_toArray, List.set_cons_zero, List.set_cons_succ]
      refine wpAnyH_take (i := 9) (v := .pointer (some ⟨k.p, 14, none⟩)) (by rw [HO.out]; simp only [List.getElem?_toArray, List.getElem?_cons_succ, List.getElem?_cons_zero]; rfl) (by rw [HO.out]; kernel_rfl) (by rw [HO.out]; kernel_rfl) (by rw [HO.out]; kernel_rfl) (by rw [HQ.out]; exact fun _ _ _ h => h) (Or.inl ⟨by rfl, ?_⟩) hS ?_
      · intro w' hSw
        go_simp
      try simp only [Act.put, List.setIfInBounds_toArray, List.set_cons_zero, List.set_cons_succ]
      refine wpAnyH_take (i := 10) (v := .func (.func 167) #[] #[.pointer (some ⟨nx, 0, none⟩), .pointer (some ⟨db, 0, none⟩)]) (by rw [HO.out]; simp only [List.getElem?_toArray, List.getElem?_cons_succ, List.getElem?_cons_zero]; rfl) (by rw [HO.out]; kernel_rfl) (by rw [HO.out]; kernel_rfl) (by rw [HO.out]; kernel_rfl) (by rw [HQ.out]; exact fun _ _ _ h => h) (Or.inl ⟨by rfl, ?_⟩) hS ?_
      · intro w' hSw
        obtain ⟨q1, q2⟩ := hSw
        go_simp
      try simp only [Act.put, List.setIfInBounds_toArray, List.set_cons_zero, List.set_cons_succ]
      refine wpAnyH_ready (rs := [11]) (by rw [HO.out]; kernel_rfl) (by simp) ?_
      refine AllReadyH.cons (o := _) (by rw [HO.out]; simp only [List.getElem?_toArray, List.getElem?_cons_succ, List.getElem?_cons_zero]; rfl) (fun K11 hK11 => ?_) AllReadyH.nil
      go_simp
      rw [← HV6.out]
      refine hK11.out _ _ ⟨csx6, c146⟩ (fun hS1 => ?_)
      clear HV6
      try simp only [Act.put, List.setIfInBounds_toArray, List.set_cons_zero, List.set_cons_succ]
      refine wpAnyH_ready (rs := [12]) (by rw [HO.out]; kernel_rfl) (by simp) ?_
      refine AllReadyH.cons (o := _) (by rw [HO.out]; simp only [List.getElem?_toArray, List.getElem?_cons_succ, List.getElem?_cons_zero]; rfl) (fun K12 hK12 => ?_) AllReadyH.nil
      go_simp
      refine HT.out.mono ?_
      rintro e w9 ⟨rfl, hx9, ho9⟩
      have HO9 : Hid (D.Off k.K w w9) := HOv6.out.trans ho9
      have HOv9 : Hid (D.Off k.K v w9) := HOvv6.out.trans ho9
      have HX9 : Hid (Sx w9 k _ d9 (.slice xa s.c.tb.length xc) f t' f' (.slice ua s.us.length uc) sb db nx) := hx9
      obtain ⟨s1, _⟩ := HF.out _ HOv9.out
      have c149 := hx9.m.v.cells.c14
      simp only [syF] at c149
      refine hK12.out _ _ ⟨s1, c149⟩ (fun hS2 => ?_)
      clear HT hx9 ho9
      refine wpAnyH_take (i := 13) (v := .int .i64 er) (by rw [HO.out]; simp only [List.getElem?_toArray, List.getElem?_cons_succ, List.getElem?_cons_zero]; rfl) (by rw [HO.out]; kernel_rfl) (by rw [HO.out]; kernel_rfl) (by rw [HO.out]; kernel_rfl) (by rw [HQ.out]; exact fun _ _ _ h => h) (Or.inl ⟨by rfl, ?_⟩) hS2 ?_
      · intro w' hSw
        go_simp
      try simp only [Act.put, List.setIfInBounds_toArray, List.set_cons_zero, List.set_cons_succ]
      refine wpAnyH_done (by rw [HO.out]; kernel_rfl) ?_ _
      rw [HQ.out]
      refine NoPanic.normal ?_
      by_cases her : er = 0
      · subst her
        simp only [ne_eq, not_true_eq_false, if_false] at HRR
        rw [note_zero] at HX9
        go_wp2_with fail
        have c09 := HX9.out.m.v.cells.c0
        have HH : Hid (Calls Tryz.prog 113 #[.pointer (some ⟨k.p, 0, none⟩), .agg #[.int .i64 ep, .int .i64 (s.bl : Int), .int .i64 (s.c.tb.length : Int), .int .i64 s.c.st, .slice (some ⟨g, 0, none⟩) n1 cap, .slice (some ⟨g, n1, none⟩) n2 (cap - n1)], .slice xa s.c.tb.length xc, .slice va us2.length vc] w9.drew fun e w' => e = .returned (.tuple #[]) ∧ Sy w' k (s.hold ep s.c.st s.c.tb us2) d9 ∧ D.Off k.K w9.drew w') := by
          have := hold_s ⟨ep, s.bl, s.c.tb.length, s.c.st, List.replicate n1 0, List.replicate n2 0⟩ (some ⟨g, 0, none⟩) (some ⟨g, n1, none⟩) cap (cap - n1) (.slice xa s.c.tb.length xc) (.slice va us2.length vc) s.c.tb us2 w9.drew (HX9.out.below (Below.refl _ _).drew) (HX9.out.m.ht.below (Below.refl _ _).drew) ((HFU.out.off HOv9.out k.kx).below (Below.refl _ _).drew)
          unfold R.rootV at this
          simp only [List.length_replicate] at this
          exact this
        have HS9 := HF.out _ HOv9.out
        refine wp_region_noPanic ?_
        refine name_ops ?_
        intro O QQ HO HQ
        refine wp_region_held_drew (S := (fun W => W.cell? ⟨w.heap.size, 0, none⟩ = some (.pointer (some ⟨k.p, 0, none⟩)) ∧ W.cell? ⟨w2.heap.size, 0, none⟩ = some (.int .i64 ep) ∧ W.cell? ⟨w2.heap.size, 1, none⟩ = some (.int .i64 (s.bl : Int)) ∧ W.cell? ⟨w2.heap.size, 2, none⟩ = some (.int .i64 (s.c.tb.length : Int)) ∧ W.cell? ⟨w2.heap.size, 3, none⟩ = some (.int .i64 s.c.st) ∧ W.cell? ⟨w2.heap.size, 4, none⟩ = some (.slice (some ⟨g, 0, none⟩) n1 cap) ∧ W.cell? ⟨w2.heap.size, 5, none⟩ = some (.slice (some ⟨g, n1, none⟩) n2 (cap - n1)) ∧ W.cell? ⟨ub, 0, none⟩ = some (.slice va us2.length vc))) (by kernel_rfl) HS9 (fun hS => ?_)
        rw [show O.size = 9 by rw [HO.out]; rfl]
        refine wpAnyH_take (i := 0) (v := .pointer (some ⟨k.p, 0, none⟩)) (by rw [HO.out]; simp only [List.getElem?_toArray, List.getElem?_cons_succ, List.getElem?_cons_zero]; rfl) (by rw [HO.out]; kernel_rfl) (by rw [HO.out]; kernel_rfl) (by rw [HO.out]; kernel_rfl) (by rw [HQ.out]; exact fun _ _ _ h => h) (Or.inl ⟨by rfl, ?_⟩) hS ?_
        · intro w' hSw
          obtain ⟨q1, q2, q3, q4, q5, q6, q7, q8⟩ := hSw
          go_simp
        try simp only [Act.put, List.setIfInBounds_toArray, List.set_cons_zero, List.set_cons_succ]
        refine wpAnyH_take (i := 1) (v := .agg #[.int .i64 ep, .int .i64 (s.bl : Int), .int .i64 (s.c.tb.length : Int), .int .i64 s.c.st, .slice (some ⟨g, 0, none⟩) n1 cap, .slice (some ⟨g, n1, none⟩) n2 (cap - n1)]) (by rw [HO.out]; simp only [List.getElem?_toArray, List.getElem?_cons_succ, List.getElem?_cons_zero]; rfl) (by rw [HO.out]; kernel_rfl) (by rw [HO.out]; kernel_rfl) (by rw [HO.out]; kernel_rfl) (by rw [HQ.out]; exact fun _ _ _ h => h) (Or.inl ⟨by rfl, ?_⟩) hS ?_
        · intro w' hSw
          obtain ⟨q1, q2, q3, q4, q5, q6, q7, q8⟩ := hSw
          go_simp
        try simp only [Act.put, List.setIfInBounds_toArray, List.set_cons_zero, List.set_cons_succ]
        refine wpAnyH_take (i := 2) (v := .pointer (some ⟨k.p, 0, none⟩)) (by rw [HO.out]; simp only [List.getElem?_toArray, List.getElem?_cons_succ, List.getElem?_cons_zero]; rfl) (by rw [HO.out]; kernel_rfl) (by rw [HO.out]; kernel_rfl) (by rw [HO.out]; kernel_rfl) (by rw [HQ.out]; exact fun _ _ _ h => h) (Or.inl ⟨by rfl, ?_⟩) hS ?_
        · intro w' hSw
          obtain ⟨q1, q2, q3, q4, q5, q6, q7, q8⟩ := hSw
          go_simp
        try simp only [Act.put, List.setIfInBounds_toArray, List.set_cons_zero, List.set_cons_succ]
        refine wpAnyH_take (i := 3) (v := .pointer (some ⟨k.p, 0, none⟩)) (by rw [HO.out]; simp only [List.getElem?_toArray, List.getElem?_cons_succ, List.getElem?_cons_zero]; rfl) (by rw [HO.out]; kernel_rfl) (by rw [HO.out]; kernel_rfl) (by rw [HO.out]; kernel_rfl) (by rw [HQ.out]; exact fun _ _ _ h => h) (Or.inl ⟨by rfl, ?_⟩) hS ?_
        · intro w' hSw
          go_simp
        try simp only [Act.put, List.setIfInBounds_toArray, List.set_cons_zero, List.set_cons_succ]
        refine wpAnyH_take (i := 4) (v := .pointer (some ⟨k.p, 0, none⟩)) (by rw [HO.out]; simp only [List.getElem?_toArray, List.getElem?_cons_succ, List.getElem?_cons_zero]; rfl) (by rw [HO.out]; kernel_rfl) (by rw [HO.out]; kernel_rfl) (by rw [HO.out]; kernel_rfl) (by rw [HQ.out]; exact fun _ _ _ h => h) (Or.inl ⟨by rfl, ?_⟩) hS ?_
        · intro w' hSw
          go_simp
        try simp only [Act.put, List.setIfInBounds_toArray, List.set_cons_zero, List.set_cons_succ]
        refine wpAnyH_take (i := 5) (v := .pointer (some ⟨k.p, 0, none⟩)) (by rw [HO.out]; simp only [List.getElem?_toArray, List.getElem?_cons_succ, List.getElem?_cons_zero]; rfl) (by rw [HO.out]; kernel_rfl) (by rw [HO.out]; kernel_rfl) (by rw [HO.out]; kernel_rfl) (by rw [HQ.out]; exact fun _ _ _ h => h) (Or.inl ⟨by rfl, ?_⟩) hS ?_
        · intro w' hSw
          go_simp
        try simp only [Act.put, List.setIfInBounds_toArray, List.set_cons_zero, List.set_cons_succ]
        refine wpAnyH_take (i := 7) (v := .slice va us2.length vc) (by rw [HO.out]; simp only [List.getElem?_toArray, List.getElem?_cons_succ, List.getElem?_cons_zero]; rfl) (by rw [HO.out]; kernel_rfl) (by rw [HO.out]; kernel_rfl) (by rw [HO.out]; kernel_rfl) (by rw [HQ.out]; exact fun _ _ _ h => h) (Or.inl ⟨by rfl, ?_⟩) hS ?_
        · intro w' hSw
          obtain ⟨q1, q2, q3, q4, q5, q6, q7, q8⟩ := hSw
          go_simp
        try simp only [Act.put, List.setIfInBounds_toArray, List.set_cons_zero, List.set_cons_succ]
        refine wpAnyH_ready (rs := [6]) (by rw [HO.out]; kernel_rfl) (by simp) ?_
        refine AllReadyH.cons (o := _) (by rw [HO.out]; simp only [List.getElem?_toArray, List.getElem?_cons_succ, List.getElem?_cons_zero]; rfl) (fun K6 hK6 => ?_) AllReadyH.nil
        go_simp
        refine hK6.out _ _ hS (fun hS1 => ?_)
        try simp only [Act.put, List.setIfInBounds_toArray, List.set_cons_zero, List.set_cons_succ]
        refine wpAnyH_ready (rs := [8]) (by rw [HO.out]; kernel_rfl) (by simp) ?_
        refine AllReadyH.cons (o := _) (by rw [HO.out]; simp only [List.getElem?_toArray, List.getElem?_cons_succ, List.getElem?_cons_zero]; rfl) (fun K8 hK8 => ?_) AllReadyH.nil
        go_simp
        refine HH.out.mono ?_
        rintro e w10 ⟨rfl, hy10, ho10⟩
        have HO10 : Hid (D.Off k.K w w10) := (HO9.out.trans (off_below (Below.refl _ _).drew)).trans ho10
        have HY10 : Hid (Sy w10 k _ d9) := hy10
        refine hK8.out _ _ (HF.out _ ((HOv9.out.trans (off_below (Below.refl _ _).drew)).trans ho10)) (fun hS2 => ?_)
        clear HH hy10 ho10
        refine wpAnyH_done (by rw [HO.out]; kernel_rfl) ?_ _
        rw [HQ.out]
        refine NoPanic.normal ?_
        go_wp2_with fail
        go_ret
        rw [HRR.out]
        exact ⟨rfl, HY10.out, HO10.out⟩
      · have her' : (er == 0) = false := by simpa using her
        simp only [ne_eq, her, not_false_eq_true, if_true] at HRR
        go_wp2_with fail
        go_ret
        rw [HRR.out]
        exact ⟨rfl, ⟨_, _, _, _, _, _, _, _, HX9.out⟩, HO9.out⟩
    refine wpAnyH_take (i := 0) (v := .pointer (some ⟨k.p, 0, none⟩)) (by rw [HO.out]; simp only [List.getElem?_toArray, List.getElem?_cons_succ, List.getElem?_cons_zero]; rfl) (by rw [HO.out]; kernel_rfl) (by rw [HO.out]; kernel_rfl) (by rw [HO.out]; kernel_rfl) (by rw [HQ.out]; exact fun _ _ _ h => h) (Or.inl ⟨by rfl, ?_⟩) hS ?_
    · intro w' hSw
      obtain ⟨q1, q2, q3, q4, q5⟩ := hSw
      go_simp
    try simp only [Act.put, List.setIfInBounds_toArray, List.set_cons_zero, List.set_cons_succ]
    refine wpAnyH_take (i := 1) (v := .pointer (some ⟨k.p, 0, none⟩)) (by rw [HO.out]; simp only [List.getElem?_toArray, List.getElem?_cons_succ, List.getElem?_cons_zero]; rfl) (by rw [HO.out]; kernel_rfl) (by rw [HO.out]; kernel_rfl) (by rw [HO.out]; kernel_rfl) (by rw [HQ.out]; exact fun _ _ _ h => h) (Or.inl ⟨by rfl, ?_⟩) hS ?_
    · intro w' hSw
      go_simp
    try simp only [Act.put, List.setIfInBounds_toArray, List.set_cons_zero, List.set_cons_succ]
    refine wpAnyH_take (i := 2) (v := .pointer (some ⟨k.p, 10, none⟩)) (by rw [HO.out]; simp only [List.getElem?_toArray, List.getElem?_cons_succ, List.getElem?_cons_zero]; rfl) (by rw [HO.out]; kernel_rfl) (by rw [HO.out]; kernel_rfl) (by rw [HO.out]; kernel_rfl) (by rw [HQ.out]; exact fun _ _ _ h => h) (Or.inl ⟨by rfl, ?_⟩) hS ?_
    · intro w' hSw
      go_simp
    try simp only [Act.put, List.setIfInBounds_toArray, List.set_cons_zero, List.set_cons_succ]
    refine wpAnyH_take (i := 3) (v := .int .i64 (s.bl : Int)) (by rw [HO.out]; simp only [List.getElem?_toArray, List.getElem?_cons_succ, List.getElem?_cons_zero]; rfl) (by rw [HO.out]; kernel_rfl) (by rw [HO.out]; kernel_rfl) (by rw [HO.out]; kernel_rfl) (by rw [HQ.out]; exact fun _ _ _ h => h) (Or.inl ⟨by rfl, ?_⟩) hS ?_
    · intro w' hSw
      obtain ⟨q1, q2, q3, q4, q5⟩ := hSw
      go_simp
    try simp only [Act.put, List.setIfInBounds_toArray, List.set_cons_zero, List.set_cons_succ]
    refine wpAnyH_take (i := 4) (v := .pointer (some ⟨k.p, 0, none⟩)) (by rw [HO.out]; simp only [List.getElem?_toArray, List.getElem?_cons_succ, List.getElem?_cons_zero]; rfl) (by rw [HO.out]; kernel_rfl) (by rw [HO.out]; kernel_rfl) (by rw [HO.out]; kernel_rfl) (by rw [HQ.out]; exact fun _ _ _ h => h) (Or.inl ⟨by rfl, ?_⟩) hS ?_
    · intro w' hSw
      obtain ⟨q1, q2, q3, q4, q5⟩ := hSw
      go_simp
    try simp only [Act.put, List.setIfInBounds_toArray, List.set_cons_zero, List.set_cons_succ]
    refine wpAnyH_take (i := 5) (v := .pointer (some ⟨k.p, 0, none⟩)) (by rw [HO.out]; simp only [List.getElem?_toArray, List.getElem?_cons_succ, List.getElem?_cons_zero]; rfl) (by rw [HO.out]; kernel_rfl) (by rw [HO.out]; kernel_rfl) (by rw [HO.out]; kernel_rfl) (by rw [HQ.out]; exact fun _ _ _ h => h) (Or.inl ⟨by rfl, ?_⟩) hS ?_
    · intro w' hSw
      go_simp
    try simp only [Act.put, List.setIfInBounds_toArray, List.set_cons_zero, List.set_cons_succ]
    refine wpAnyH_take (i := 6) (v := .pointer (some ⟨k.p, 0, none⟩)) (by rw [HO.out]; simp only [List.getElem?_toArray, List.getElem?_cons_succ, List.getElem?_cons_zero]; rfl) (by rw [HO.out]; kernel_rfl) (by rw [HO.out]; kernel_rfl) (by rw [HO.out]; kernel_rfl) (by rw [HQ.out]; exact fun _ _ _ h => h) (Or.inl ⟨by rfl, ?_⟩) hS ?_
    · intro w' hSw
      go_simp
    try simp only [Act.put, List.setIfInBounds_toArray, List.set_cons_zero, List.set_cons_succ]
    refine wpAnyH_take (i := 7) (v := .pointer (some ⟨k.p, 0, none⟩)) (by rw [HO.out]; simp only [List.getElem?_toArray, List.getElem?_cons_succ, List.getElem?_cons_zero]; rfl) (by rw [HO.out]; kernel_rfl) (by rw [HO.out]; kernel_rfl) (by rw [HO.out]; kernel_rfl) (by rw [HQ.out]; exact fun _ _ _ h => h) (Or.inl ⟨by rfl, ?_⟩) hS ?_
    · intro w' hSw
      go_simp
    try simp only [Act.put, List.setIfInBounds_toArray, List.set_cons_zero, List.set_cons_succ]
    refine wpAnyH_take (i := 8) (v := .slice xa s.c.tb.length xc) (by rw [HO.out]; simp only [List.getElem?_toArray, List.getElem?_cons_succ, List.getElem?_cons_zero]; rfl) (by rw [HO.out]; kernel_rfl) (by rw [HO.out]; kernel_rfl) (by rw [HO.out]; kernel_rfl) (by rw [HQ.out]; exact fun _ _ _ h => h) (Or.inl ⟨by rfl, ?_⟩) hS ?_
    · intro w' hSw
      obtain ⟨q1, q2, q3, q4, q5⟩ := hSw
      go_simp
    try simp only [Act.put, List.setIfInBounds_toArray, List.set_cons_zero, List.set_cons_succ]
    refine wpAnyH_take (i := 9) (v := .pointer (some ⟨w2.heap.size, 4, none⟩)) (by rw [HO.out]; simp only [List.getElem?_toArray, List.getElem?_cons_succ, List.getElem?_cons_zero]; rfl) (by rw [HO.out]; kernel_rfl) (by rw [HO.out]; kernel_rfl) (by rw [HO.out]; kernel_rfl) (by rw [HQ.out]; exact fun _ _ _ h => h) (Or.inl ⟨by rfl, ?_⟩) hS ?_
    · intro w' hSw
      go_simp
    try simp only [Act.put, List.setIfInBounds_toArray, List.set_cons_zero, List.set_cons_succ]
    refine wpAnyH_take (i := 10) (v := .slice (some ⟨g, 0, none⟩) n1 cap) (by rw [HO.out]; simp only [List.getElem?_toArray, List.getElem?_cons_succ, List.getElem?_cons_zero]; rfl) (by rw [HO.out]; kernel_rfl) (by rw [HO.out]; kernel_rfl) (by rw [HO.out]; kernel_rfl) (by rw [HQ.out]; exact fun _ _ _ h => h) (Or.inl ⟨by rfl, ?_⟩) hS ?_
    · intro w' hSw
      obtain ⟨q1, q2, q3, q4, q5⟩ := hSw
      go_simp
    try simp only [Act.put, List.setIfInBounds_toArray, List.set_cons_zero, List.set_cons_succ]
    refine wpAnyH_take (i := 11) (v := .pointer (some ⟨w2.heap.size, 5, none⟩)) (by rw [HO.out]; simp only [List.getElem?_toArray, List.getElem?_cons_succ, List.getElem?_cons_zero]; rfl) (by rw [HO.out]; kernel_rfl) (by rw [HO.out]; kernel_rfl) (by rw [HO.out]; kernel_rfl) (by rw [HQ.out]; exact fun _ _ _ h => h) (Or.inl ⟨by rfl, ?_⟩) hS ?_
    · intro w' hSw
      go_simp
    try simp only [Act.put, List.setIfInBounds_toArray, List.set_cons_zero, List.set_cons_succ]
    refine wpAnyH_take (i := 12) (v := .slice (some ⟨g, n1, none⟩) n2 (cap - n1)) (by rw [HO.out]; simp only [List.getElem?_toArray, List.getElem?_cons_succ, List.getElem?_cons_zero]; rfl) (by rw [HO.out]; kernel_rfl) (by rw [HO.out]; kernel_rfl) (by rw [HO.out]; kernel_rfl) (by rw [HQ.out]; exact fun _ _ _ h => h) (Or.inl ⟨by rfl, ?_⟩) hS ?_
    · intro w' hSw
      obtain ⟨q1, q2, q3, q4, q5⟩ := hSw
      go_simp
    try simp only [Act.put, List.setIfInBounds_toArray, List.set_cons_zero, List.set_cons_succ]
    refine wpAnyH_ready (rs := [13, 18]) (by rw [HO.out]; kernel_rfl) (by simp) ?_
    refine AllReadyH.cons (o := _) (by rw [HO.out]; simp only [List.getElem?_toArray, List.getElem?_cons_succ, List.getElem?_cons_zero]; rfl) (fun K13 hK13 => ?_) (AllReadyH.cons (o := _) (by rw [HO.out]; simp only [List.getElem?_toArray, List.getElem?_cons_succ, List.getElem?_cons_zero]; rfl) (fun K18 hK18 => ?_) AllReadyH.nil)
    · go_simp
      obtain ⟨v1, hnv1⟩ : ∃ v1, v1 = v0.alloc (.cells #[.slice xa s.c.tb.length xc, .slice (some ⟨g, 0, none⟩) n1 cap, .slice (some ⟨g, n1, none⟩) n2 (cap - n1)] 52) := ⟨_, rfl⟩
      rw [← hnv1]
      have hbv1 : Below v0.heap.size v0 v1 := by rw [hnv1]; exact (Below.refl _ _).alloc (Nat.le_refl _) _
      have HBv1 : Hid (Below w5.heap.size w5 v1) := HBv0.out.trans (hbv1.mono HBv0.out.size)
      have HCv1 : Hid (v1.cell? ⟨v0.heap.size, 0, none⟩ = some (.slice xa s.c.tb.length xc) ∧ v1.cell? ⟨v0.heap.size, 1, none⟩ = some (.slice (some ⟨g, 0, none⟩) n1 cap) ∧ v1.cell? ⟨v0.heap.size, 2, none⟩ = some (.slice (some ⟨g, n1, none⟩) n2 (cap - n1))) := by rw [hnv1]; exact ⟨by go_simp, by go_simp, by go_simp⟩
      refine hK13.out _ _ (HS13.out _ HBv1.out) (fun hSv1 => ?_)
      clear hnv1
      try simp only [Act.put, List.setIfInBounds_toArray, List.set_cons_zero, List.set_cons_succ]
      refine wpAnyH_ready (rs := [14, 18]) (by rw [HO.out]; kernel_rfl) (by simp) ?_
      refine AllReadyH.cons (o := _) (by rw [HO.out]; simp only [List.getElem?_toArray, List.getElem?_cons_succ, List.getElem?_cons_zero]; rfl) (fun K14 hK14 => ?_) (AllReadyH.cons (o := _) (by rw [HO.out]; simp only [List.getElem?_toArray, List.getElem?_cons_succ, List.getElem?_cons_zero]; rfl) (fun K18 hK18 => ?_) AllReadyH.nil)
      · go_simp
        refine (HU.out _ _ k.X (HXB.out _ (HB5.out.trans (HBv1.out.mono HB5.out.size))).lt HBv1.out HCv1.out.1 HCv1.out.2.1 HCv1.out.2.2).mono ?_
        rintro e v2 ⟨uvv2, rfl, huvv2, hbv2⟩
        have HFv2 : Hid (FB v2 k.X uvv2 us2) := huvv2
        obtain ⟨va, vc, rfl, _⟩ := huvv2
        have HBv2 : Hid (Below w5.heap.size w5 v2) := HBv1.out.trans (hbv2.mono HBv1.out.size)
        refine hK14.out _ _ (HS13.out _ HBv2.out) (fun hSv2 => ?_)
        try simp only [Act.put, List.setIfInBounds_toArray, List.set_cons_zero, List.set_cons_succ]
        refine wpAnyH_take (i := 15) (v := .tuple #[.slice va us2.length vc, .bool true]) (by rw [HO.out]; simp only [List.getElem?_toArray, List.getElem?_cons_succ, List.getElem?_cons_zero]; rfl) (by rw [HO.out]; kernel_rfl) (by rw [HO.out]; kernel_rfl) (by rw [HO.out]; kernel_rfl) (by rw [HQ.out]; exact fun _ _ _ h => h) (Or.inl ⟨by rfl, ?_⟩) hSv2 ?_
        · intro w' hSw
          go_simp
        try simp only [Act.put, List.setIfInBounds_toArray, List.set_cons_zero, List.set_cons_succ]
        refine wpAnyH_take (i := 16) (v := .slice va us2.length vc) (by rw [HO.out]; simp only [List.getElem?_toArray, List.getElem?_cons_succ, List.getElem?_cons_zero]; rfl) (by rw [HO.out]; kernel_rfl) (by rw [HO.out]; kernel_rfl) (by rw [HO.out]; kernel_rfl) (by rw [HQ.out]; exact fun _ _ _ h => h) (Or.inl ⟨by rfl, ?_⟩) hSv2 ?_
        · intro w' hSw
          go_simp
        try simp only [Act.put, List.setIfInBounds_toArray, List.set_cons_zero, List.set_cons_succ]
        refine wpAnyH_take (i := 17) (v := .bool true) (by rw [HO.out]; simp only [List.getElem?_toArray, List.getElem?_cons_succ, List.getElem?_cons_zero]; rfl) (by rw [HO.out]; kernel_rfl) (by rw [HO.out]; kernel_rfl) (by rw [HO.out]; kernel_rfl) (by rw [HQ.out]; exact fun _ _ _ h => h) (Or.inl ⟨by rfl, ?_⟩) hSv2 ?_
        · intro w' hSw
          go_simp
        try simp only [Act.put, List.setIfInBounds_toArray, List.set_cons_zero, List.set_cons_succ]
        refine wpAnyH_ready (rs := [18]) (by rw [HO.out]; kernel_rfl) (by simp) ?_
        refine AllReadyH.cons (o := _) (by rw [HO.out]; simp only [List.getElem?_toArray, List.getElem?_cons_succ, List.getElem?_cons_zero]; rfl) (fun K18 hK18 => ?_) AllReadyH.nil
        go_simp
        obtain ⟨v3, hnv3⟩ : ∃ v3, v3 = v2.alloc (.cells #[.slice none 0 0] 29) := ⟨_, rfl⟩
        rw [← hnv3]
        have hbv3 : Below v2.heap.size v2 v3 := by rw [hnv3]; exact (Below.refl _ _).alloc (Nat.le_refl _) _
        have HBv3 : Hid (Below w5.heap.size w5 v3) := HBv2.out.trans (hbv3.mono HBv2.out.size)
        have HAv3 : Hid (v3.heap[v2.heap.size]? = some (.cells #[.slice none 0 0] 29 (0, 0))) := by rw [hnv3]; exact heap_alloc_last _ _
        refine hK18.out _ _ (HS13.out _ HBv3.out) (fun hSv3 => ?_)
        clear hnv3
        try simp only [Act.put, List.setIfInBounds_toArray, List.set_cons_zero, List.set_cons_succ]
        refine wpAnyH_ready (rs := [19]) (by rw [HO.out]; kernel_rfl) (by simp) ?_
        refine AllReadyH.cons (o := _) (by rw [HO.out]; simp only [List.getElem?_toArray, List.getElem?_cons_succ, List.getElem?_cons_zero]; rfl) (fun K19 hK19 => ?_) AllReadyH.nil
        have hrw := HAv3.out
        have zc : v3.cell? ⟨v2.heap.size, 0, none⟩ = some (.slice none 0 0) := by rw [cell_of_row _ _ _ _ _ _ hrw]; rfl
        have zf : v3.frozen? ⟨v2.heap.size, 0, none⟩ = false := frozen_of_row _ _ _ _ _ hrw
        go_simp
        obtain ⟨vE, hE⟩ : ∃ vE, vE = v3.setCell ⟨v2.heap.size, 0, none⟩ (.slice va us2.length vc) := ⟨_, rfl⟩
        rw [← hE]
        have hubw : w5.heap.size ≤ v2.heap.size := by have := HBv0.out.size; first | omega | (have := HBv1.out.size; omega) | (have := HBv1.out.size; have := HBv2.out.size; omega)
        have HBE : Hid (Below w5.heap.size w5 vE) := by rw [hE]; exact HBv3.out.setCell hubw _
        have hcE : vE.cell? ⟨v2.heap.size, 0, none⟩ = some (.slice va us2.length vc) := by rw [hE]; have := heap_setCell_same v3 v2.heap.size 0 _ 29 (.slice va us2.length vc) hrw; rw [cell_of_row _ _ _ _ _ _ this]; rfl
        have hubX : v2.heap.size ∉ k.X := fun hm => by have := (HXB.out _ HB5.out).lt _ hm; omega
        have HFE : Hid (FB vE k.X (.slice va us2.length vc) us2) := by rw [hE]; exact fb_set ((fb_fresh HFv2.out v2.heap.size (Nat.le_refl _)).below hbv3) 0 _
        refine hK19.out _ _ (HS13.out _ HBE.out) (fun hSE => ?_)
        refine wpAnyH_take (i := 20) (v := .bool true) (by rw [HO.out]; simp only [List.getElem?_toArray, List.getElem?_cons_succ, List.getElem?_cons_zero]; rfl) (by rw [HO.out]; kernel_rfl) (by rw [HO.out]; kernel_rfl) (by rw [HO.out]; kernel_rfl) (by rw [HQ.out]; exact fun _ _ _ h => h) (Or.inl ⟨by rfl, ?_⟩) hSE ?_
        · intro w' hSw
          go_simp
        try simp only [Act.put, List.setIfInBounds_toArray, List.set_cons_zero, List.set_cons_succ]
        refine wpAnyH_done (by rw [HO.out]; kernel_rfl) ?_ _
        exact REST _ _ _ _ _ HBE.out hcE hubX HFE.out
      · go_simp
        obtain ⟨v2, hnv2⟩ : ∃ v2, v2 = v1.alloc (.cells #[.slice none 0 0] 29) := ⟨_, rfl⟩
        rw [← hnv2]
        have hbv2 : Below v1.heap.size v1 v2 := by rw [hnv2]; exact (Below.refl _ _).alloc (Nat.le_refl _) _
        have HBv2 : Hid (Below w5.heap.size w5 v2) := HBv1.out.trans (hbv2.mono HBv1.out.size)
        have HAv2 : Hid (v2.heap[v1.heap.size]? = some (.cells #[.slice none 0 0] 29 (0, 0))) := by rw [hnv2]; exact heap_alloc_last _ _
        refine hK18.out _ _ (HS13.out _ HBv2.out) (fun hSv2 => ?_)
        clear hnv2
        try simp only [Act.put, List.setIfInBounds_toArray, List.set_cons_zero, List.set_cons_succ]
        refine wpAnyH_ready (rs := [14]) (by rw [HO.out]; kernel_rfl) (by simp) ?_
        refine AllReadyH.cons (o := _) (by rw [HO.out]; simp only [List.getElem?_toArray, List.getElem?_cons_succ, List.getElem?_cons_zero]; rfl) (fun K14 hK14 => ?_) AllReadyH.nil
        go_simp
        refine (HU.out _ _ (v1.heap.size :: k.X) (by intro x hx; rcases List.mem_cons.1 hx with rfl | hx; exact row_lt HAv2.out; exact (HXB.out _ (HB5.out.trans (HBv2.out.mono HB5.out.size))).lt x hx) HBv2.out (cell_grow hbv2 HCv1.out.1) (cell_grow hbv2 HCv1.out.2.1) (cell_grow hbv2 HCv1.out.2.2)).mono ?_
        rintro e v3 ⟨uvv3, rfl, huvv3, hbv3⟩
        have HFv3 : Hid (FB v3 (v1.heap.size :: k.X) uvv3 us2) := huvv3
        obtain ⟨va, vc, rfl, _⟩ := huvv3
        have HBv3 : Hid (Below w5.heap.size w5 v3) := HBv2.out.trans (hbv3.mono HBv2.out.size)
        refine hK14.out _ _ (HS13.out _ HBv3.out) (fun hSv3 => ?_)
        try simp only [Act.put, List.setIfInBounds_toArray, List.set_cons_zero, List.set_cons_succ]
        refine wpAnyH_take (i := 15) (v := .tuple #[.slice va us2.length vc, .bool true]) (by rw [HO.out]; simp only [List.getElem?_toArray, List.getElem?_cons_succ, List.getElem?_cons_zero]; rfl) (by rw [HO.out]; kernel_rfl) (by rw [HO.out]; kernel_rfl) (by rw [HO.out]; kernel_rfl) (by rw [HQ.out]; exact fun _ _ _ h => h) (Or.inl ⟨by rfl, ?_⟩) hSv3 ?_
        · intro w' hSw
          go_simp
        try simp only [Act.put, List.setIfInBounds_toArray, List.set_cons_zero, List.set_cons_succ]
        refine wpAnyH_take (i := 16) (v := .slice va us2.length vc) (by rw [HO.out]; simp only [List.getElem?_toArray, List.getElem?_cons_succ, List.getElem?_cons_zero]; rfl) (by rw [HO.out]; kernel_rfl) (by rw [HO.out]; kernel_rfl) (by rw [HO.out]; kernel_rfl) (by rw [HQ.out]; exact fun _ _ _ h => h) (Or.inl ⟨by rfl, ?_⟩) hSv3 ?_
        · intro w' hSw
          go_simp
        try simp only [Act.put, List.setIfInBounds_toArray, List.set_cons_zero, List.set_cons_succ]
        refine wpAnyH_take (i := 17) (v := .bool true) (by rw [HO.out]; simp only [List.getElem?_toArray, List.getElem?_cons_succ, List.getElem?_cons_zero]; rfl) (by rw [HO.out]; kernel_rfl) (by rw [HO.out]; kernel_rfl) (by rw [HO.out]; kernel_rfl) (by rw [HQ.out]; exact fun _ _ _ h => h) (Or.inl ⟨by rfl, ?_⟩) hSv3 ?_
        · intro w' hSw
          go_simp
        try simp only [Act.put, List.setIfInBounds_toArray, List.set_cons_zero, List.set_cons_succ]
        refine wpAnyH_ready (rs := [19]) (by rw [HO.out]; kernel_rfl) (by simp) ?_
        refine AllReadyH.cons (o := _) (by rw [HO.out]; simp only [List.getElem?_toArray, List.getElem?_cons_succ, List.getElem?_cons_zero]; rfl) (fun K19 hK19 => ?_) AllReadyH.nil
        have hrw := row_grow hbv3 HAv2.out
        have zc : v3.cell? ⟨v1.heap.size, 0, none⟩ = some (.slice none 0 0) := by rw [cell_of_row _ _ _ _ _ _ hrw]; rfl
        have zf : v3.frozen? ⟨v1.heap.size, 0, none⟩ = false := frozen_of_row _ _ _ _ _ hrw
        go_simp
        obtain ⟨vE, hE⟩ : ∃ vE, vE = v3.setCell ⟨v1.heap.size, 0, none⟩ (.slice va us2.length vc) := ⟨_, rfl⟩
        rw [← hE]
        have hubw : w5.heap.size ≤ v1.heap.size := by have := HBv0.out.size; first | omega | (have := HBv1.out.size; omega) | (have := HBv1.out.size; have := HBv2.out.size; omega)
        have HBE : Hid (Below w5.heap.size w5 vE) := by rw [hE]; exact HBv3.out.setCell hubw _
        have hcE : vE.cell? ⟨v1.heap.size, 0, none⟩ = some (.slice va us2.length vc) := by rw [hE]; have := heap_setCell_same v3 v1.heap.size 0 _ 29 (.slice va us2.length vc) hrw; rw [cell_of_row _ _ _ _ _ _ this]; rfl
        have hubX : v1.heap.size ∉ k.X := fun hm => by have := (HXB.out _ HB5.out).lt _ hm; omega
        have HFE : Hid (FB vE k.X (.slice va us2.length vc) us2) := by rw [hE]; exact fb_set HFv3.out 0 _
        refine hK19.out _ _ (HS13.out _ HBE.out) (fun hSE => ?_)
        refine wpAnyH_take (i := 20) (v := .bool true) (by rw [HO.out]; simp only [List.getElem?_toArray, List.getElem?_cons_succ, List.getElem?_cons_zero]; rfl) (by rw [HO.out]; kernel_rfl) (by rw [HO.out]; kernel_rfl) (by rw [HO.out]; kernel_rfl) (by rw [HQ.out]; exact fun _ _ _ h => h) (Or.inl ⟨by rfl, ?_⟩) hSE ?_
        · intro w' hSw
          go_simp
        try simp only [Act.put, List.setIfInBounds_toArray, List.set_cons_zero, List.set_cons_succ]
        refine wpAnyH_done (by rw [HO.out]; kernel_rfl) ?_ _
        exact REST _ _ _ _ _ HBE.out hcE hubX HFE.out
    · go_simp
      obtain ⟨v1, hnv1⟩ : ∃ v1, v1 = v0.alloc (.cells #[.slice none 0 0] 29) := ⟨_, rfl⟩
      rw [← hnv1]
      have hbv1 : Below v0.heap.size v0 v1 := by rw [hnv1]; exact (Below.refl _ _).alloc (Nat.le_refl _) _
      have HBv1 : Hid (Below w5.heap.size w5 v1) := HBv0.out.trans (hbv1.mono HBv0.out.size)
      have HAv1 : Hid (v1.heap[v0.heap.size]? = some (.cells #[.slice none 0 0] 29 (0, 0))) := by rw [hnv1]; exact heap_alloc_last _ _
      refine hK18.out _ _ (HS13.out _ HBv1.out) (fun hSv1 => ?_)
      clear hnv1
      try simp only [Act.put, List.setIfInBounds_toArray, List.set_cons_zero, List.set_cons_succ]
      refine wpAnyH_ready (rs := [13]) (by rw [HO.out]; kernel_rfl) (by simp) ?_
      refine AllReadyH.cons (o := _) (by rw [HO.out]; simp only [List.getElem?_toArray, List.getElem?_cons_succ, List.getElem?_cons_zero]; rfl) (fun K13 hK13 => ?_) AllReadyH.nil
      go_simp
      obtain ⟨v2, hnv2⟩ : ∃ v2, v2 = v1.alloc (.cells #[.slice xa s.c.tb.length xc, .slice (some ⟨g, 0, none⟩) n1 cap, .slice (some ⟨g, n1, none⟩) n2 (cap - n1)] 52) := ⟨_, rfl⟩
      rw [← hnv2]
      have hbv2 : Below v1.heap.size v1 v2 := by rw [hnv2]; exact (Below.refl _ _).alloc (Nat.le_refl _) _
      have HBv2 : Hid (Below w5.heap.size w5 v2) := HBv1.out.trans (hbv2.mono HBv1.out.size)
      have HCv2 : Hid (v2.cell? ⟨v1.heap.size, 0, none⟩ = some (.slice xa s.c.tb.length xc) ∧ v2.cell? ⟨v1.heap.size, 1, none⟩ = some (.slice (some ⟨g, 0, none⟩) n1 cap) ∧ v2.cell? ⟨v1.heap.size, 2, none⟩ = some (.slice (some ⟨g, n1, none⟩) n2 (cap - n1))) := by rw [hnv2]; exact ⟨by go_simp, by go_simp, by go_simp⟩
      refine hK13.out _ _ (HS13.out _ HBv2.out) (fun hSv2 => ?_)
      clear hnv2
      try simp only [Act.put, List.setIfInBounds_toArray, List.set_cons_zero, List.set_cons_succ]
      refine wpAnyH_ready (rs := [14]) (by rw [HO.out]; kernel_rfl) (by simp) ?_
      refine AllReadyH.cons (o := _) (by rw [HO.out]; simp only [List.getElem?_toArray, List.getElem?_cons_succ, List.getElem?_cons_zero]; rfl) (fun K14 hK14 => ?_) AllReadyH.nil
      go_simp
      refine (HU.out _ _ (v0.heap.size :: k.X) (by intro x hx; rcases List.mem_cons.1 hx with rfl | hx; exact row_lt (row_grow hbv2 HAv1.out); exact (HXB.out _ (HB5.out.trans (HBv2.out.mono HB5.out.size))).lt x hx) HBv2.out HCv2.out.1 HCv2.out.2.1 HCv2.out.2.2).mono ?_
      rintro e v3 ⟨uvv3, rfl, huvv3, hbv3⟩
      have HFv3 : Hid (FB v3 (v0.heap.size :: k.X) uvv3 us2) := huvv3
      obtain ⟨va, vc, rfl, _⟩ := huvv3
      have HBv3 : Hid (Below w5.heap.size w5 v3) := HBv2.out.trans (hbv3.mono HBv2.out.size)
      refine hK14.out _ _ (HS13.out _ HBv3.out) (fun hSv3 => ?_)
      try simp only [Act.put, List.setIfInBounds_toArray, List.set_cons_zero, List.set_cons_succ]
      refine wpAnyH_take (i := 15) (v := .tuple #[.slice va us2.length vc, .bool true]) (by rw [HO.out]; simp only [List.getElem?_toArray, List.getElem?_cons_succ, List.getElem?_cons_zero]; rfl) (by rw [HO.out]; kernel_rfl) (by rw [HO.out]; kernel_rfl) (by rw [HO.out]; kernel_rfl) (by rw [HQ.out]; exact fun _ _ _ h => h) (Or.inl ⟨by rfl, ?_⟩) hSv3 ?_
      · intro w' hSw
        go_simp
      try simp only [Act.put, List.setIfInBounds_toArray, List.set_cons_zero, List.set_cons_succ]
      refine wpAnyH_take (i := 16) (v := .slice va us2.length vc) (by rw [HO.out]; simp only [List.getElem?_toArray, List.getElem?_cons_succ, List.getElem?_cons_zero]; rfl) (by rw [HO.out]; kernel_rfl) (by rw [HO.out]; kernel_rfl) (by rw [HO.out]; kernel_rfl) (by rw [HQ.out]; exact fun _ _ _ h => h) (Or.inl ⟨by rfl, ?_⟩) hSv3 ?_
      · intro w' hSw
        go_simp
      try simp only [Act.put, List.setIfInBounds_toArray, List.set_cons_zero, List.set_cons_succ]
      refine wpAnyH_take (i := 17) (v := .bool true) (by rw [HO.out]; simp only [List.getElem?_toArray, List.getElem?_cons_succ, List.getElem?_cons_zero]; rfl) (by rw [HO.out]; kernel_rfl) (by rw [HO.out]; kernel_rfl) (by rw [HO.out]; kernel_rfl) (by rw [HQ.out]; exact fun _ _ _ h => h) (Or.inl ⟨by rfl, ?_⟩) hSv3 ?_
      · intro w' hSw
        go_simp
      try simp only [Act.put, List.setIfInBounds_toArray, List.set_cons_zero, List.set_cons_succ]
      refine wpAnyH_ready (rs := [19]) (by rw [HO.out]; kernel_rfl) (by simp) ?_
      refine AllReadyH.cons (o := _) (by rw [HO.out]; simp only [List.getElem?_toArray, List.getElem?_cons_succ, List.getElem?_cons_zero]; rfl) (fun K19 hK19 => ?_) AllReadyH.nil
      have hrw := row_grow hbv3 (row_grow hbv2 HAv1.out)
      have zc : v3.cell? ⟨v0.heap.size, 0, none⟩ = some (.slice none 0 0) := by rw [cell_of_row _ _ _ _ _ _ hrw]; rfl
      have zf : v3.frozen? ⟨v0.heap.size, 0, none⟩ = false := frozen_of_row _ _ _ _ _ hrw
      go_simp
      obtain ⟨vE, hE⟩ : ∃ vE, vE = v3.setCell ⟨v0.heap.size, 0, none⟩ (.slice va us2.length vc) := ⟨_, rfl⟩
      rw [← hE]
      have hubw : w5.heap.size ≤ v0.heap.size := by have := HBv0.out.size; first | omega | (have := HBv1.out.size; omega) | (have := HBv1.out.size; have := HBv2.out.size; omega)
      have HBE : Hid (Below w5.heap.size w5 vE) := by rw [hE]; exact HBv3.out.setCell hubw _
      have hcE : vE.cell? ⟨v0.heap.size, 0, none⟩ = some (.slice va us2.length vc) := by rw [hE]; have := heap_setCell_same v3 v0.heap.size 0 _ 29 (.slice va us2.length vc) hrw; rw [cell_of_row _ _ _ _ _ _ this]; rfl
      have hubX : v0.heap.size ∉ k.X := fun hm => by have := (HXB.out _ HB5.out).lt _ hm; omega
      have HFE : Hid (FB vE k.X (.slice va us2.length vc) us2) := by rw [hE]; exact fb_set HFv3.out 0 _
      refine hK19.out _ _ (HS13.out _ HBE.out) (fun hSE => ?_)
      refine wpAnyH_take (i := 20) (v := .bool true) (by rw [HO.out]; simp only [List.getElem?_toArray, List.getElem?_cons_succ, List.getElem?_cons_zero]; rfl) (by rw [HO.out]; kernel_rfl) (by rw [HO.out]; kernel_rfl) (by rw [HO.out]; kernel_rfl) (by rw [HQ.out]; exact fun _ _ _ h => h) (Or.inl ⟨by rfl, ?_⟩) hSE ?_
      · intro w' hSw
        go_simp
      try simp only [Act.put, List.setIfInBounds_toArray, List.set_cons_zero, List.set_cons_succ]
      refine wpAnyH_done (by rw [HO.out]; kernel_rfl) ?_ _
      exact REST _ _ _ _ _ HBE.out hcE hubX HFE.out
  · have eR : settleR s d ep us2 = (R.checkE (rootD s ep), s, d) := by unfold settleR; rw [if_neg (by omega), if_pos hck]
    have HER : Hid (RR = (R.checkE (rootD s ep), s, d)) := HRR.out.trans eR
    clear eR HRR
    have HP : Hid (Calls Tryz.prog 107 #[.agg #[.int .i64 ep, .int .i64 (s.bl : Int), .int .i64 (s.c.tb.length : Int), .int .i64 s.c.st, .slice (some ⟨g, 0, none⟩) n1 cap, .slice (some ⟨g, n1, none⟩) n2 (cap - n1)]] w3 fun e w' => e = .returned (.tuple #[.slice none 0 0, .int .i64 (R.checkE (rootD s ep))]) ∧ Below w3.heap.size w3 w') := by
      have := R.put_bad (rootD s ep) _ _ _ _ w3 HRt.out hck
      unfold R.rootV at this
      rw [show (rootD s ep).T.length = n1 from HLT.out.1, show (rootD s ep).M.length = n2 from HLT.out.2] at this
      exact this
    have hck' : (R.checkE (rootD s ep) == 0) = false := by simpa using hck
    generalize R.checkE (rootD s ep) = ce at *
    clear hck HRt HGI3 HLT HGI HRow HB12 HWV HX HCC
    go_wp2_with (first | (go_at_call 107; refine HP.out.mono ?_; rintro e w4 ⟨rfl, hb4⟩; have HB4 : Hid (Below w.heap.size w w4) := HB3.out.trans (hb4.mono HB3.out.size); clear hb4 HP) | fail)
    go_ret
    rw [HER.out]
    exact ⟨rfl, ⟨_, _, _, _, _, _, _, _, HXB.out _ (HB4.out.alloc HB4.out.size _)⟩, off_below (HB4.out.alloc HB4.out.size _)⟩
end Go.Proofs.YtbklnadlbcndlaaGreat
