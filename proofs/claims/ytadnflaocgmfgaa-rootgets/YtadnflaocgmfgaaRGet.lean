/- The document's Get. -/
import Derived.Test.YtadnflaocgmfgaaRg
import Derived.Test.YtadnflaocgmfgaaRPut
import Derived.Test.YtadnflaocgmfgaaGets2
namespace Go.Proofs.Ytadnflaocgmfgaa
open Go.RowKit
set_option linter.unusedVariables false
set_option linter.unusedSimpArgs false
set_option maxHeartbeats 400000 in
theorem rget_arg1 (a : Option Addr) (n cap : Nat) (w : World) (h : n ≠ 256) : Calls Try.prog 15 #[.slice a n cap] w fun e w' => GetPost w (zero, 2) e w' := by
  have hd : ((n : Int) == 256) = false := by simp; omega
  have B0 : Below w.heap.size w (w.alloc (.cells #[.int .i64 0, .int .i64 0, .int .i64 0, .int .i64 0, .slice none 0 0, .slice none 0 0] 24)) := (Below.refl _ _).alloc (Nat.le_refl _) _
  go_enter Try.func15, Try.ntmps15
  go_wp2
  exact bodyPost_ret (v := .tuple #[.agg #[.int .i64 0, .int .i64 0, .int .i64 0, .int .i64 0, .slice none 0 0, .slice none 0 0], .int .i64 2]) (by simp [results, Try.results15, go_sem]) rfl (post_zero 2 B0)
/-- The two boxes of Get: what it answers, and the root that it reads. -/
structure GB (w W : World) (rx : Nat) (c0 c1 c2 c3 c4 c5 : Value) : Prop where
  o : W.heap[w.heap.size]? = some (.cells #[.int .i64 0, .int .i64 0, .int .i64 0, .int .i64 0, .slice none 0 0, .slice none 0 0] 24 (0, 0))
  x : W.heap[rx]? = some (.cells #[c0, c1, c2, c3, c4, c5] 24 (0, 0))
  lt : w.heap.size < rx
  bl : Below w.heap.size w W
theorem GB.size {w W : World} {rx : Nat} {c0 c1 c2 c3 c4 c5 : Value} (h : GB w W rx c0 c1 c2 c3 c4 c5) : rx < W.heap.size := (Array.getElem?_eq_some_iff.1 h.x).1
theorem GB.below {w W W' : World} {rx : Nat} {c0 c1 c2 c3 c4 c5 : Value} (h : GB w W rx c0 c1 c2 c3 c4 c5) (hb : Below W.heap.size W W') : GB w W' rx c0 c1 c2 c3 c4 c5 :=
  ⟨(hb.block _ (Nat.lt_trans h.lt h.size)).trans h.o, (hb.block _ h.size).trans h.x, h.lt, h.bl.trans (hb.mono h.bl.size)⟩
theorem GB.set {w W : World} {rx : Nat} {c0 c1 c2 c3 c4 c5 : Value} (h : GB w W rx c0 c1 c2 c3 c4 c5) (i : Nat) (v d0 d1 d2 d3 d4 d5 : Value) (hd : (#[c0, c1, c2, c3, c4, c5] : Array Value).setIfInBounds i v = #[d0, d1, d2, d3, d4, d5]) : GB w (W.setCell ⟨rx, i, none⟩ v) rx d0 d1 d2 d3 d4 d5 := by
  have hb : Below rx W (W.setCell ⟨rx, i, none⟩ v) := (Below.refl rx W).setCell (show rx ≤ (⟨rx, i, none⟩ : Addr).block from Nat.le_refl _) _
  refine ⟨(hb.block _ h.lt).trans h.o, ?_, h.lt, h.bl.trans (hb.mono (Nat.le_of_lt h.lt))⟩
  have := heap_setCell_same W rx i _ 24 v h.x
  rw [hd] at this
  exact this
theorem keep3 {W : World} {lg lo rx : Nat} {x y z : Value} (hne : lg ≠ rx) (i : Nat) (v : Value) (h : W.cell? ⟨lg, lo, none⟩ = some x ∧ W.cell? ⟨lg, lo + 1, none⟩ = some y ∧ W.cell? ⟨lg, lo + 2, none⟩ = some z) :
    (W.setCell ⟨rx, i, none⟩ v).cell? ⟨lg, lo, none⟩ = some x ∧ (W.setCell ⟨rx, i, none⟩ v).cell? ⟨lg, lo + 1, none⟩ = some y ∧ (W.setCell ⟨rx, i, none⟩ v).cell? ⟨lg, lo + 2, none⟩ = some z := by
  have e : ∀ j, (W.setCell ⟨rx, i, none⟩ v).cell? ⟨lg, j, none⟩ = W.cell? ⟨lg, j, none⟩ := fun j => World.cell?_of_block (a := ⟨lg, j, none⟩) (heap_setCell_other W ⟨rx, i, none⟩ lg v (by show lg ≠ rx; exact hne))
  rw [e, e, e]
  exact h
theorem meet {P : Program} {md : Region.Mode} {O : Array Oper} {Q : Exit → Act → World → Prop} {S : World → Prop} {fuel : Nat} {listed : Array Bool} {a : Act} {w : World} {F : World → Prop} (h1 : (∀ W', F W' → Q .normal a W') → wpAnyH P md O Q S fuel listed a w) (h2 : ∀ W', F W' → Q .normal a W') : wpAnyH P md O Q S fuel listed a w := h1 h2
set_option maxHeartbeats 1000000 in
theorem rget_all (b off cap : Nat) (zs : List Int) (w : World) (hb : BV w (some ⟨b, off, none⟩) zs) (hl : zs.length = 256) (hc : 256 ≤ cap) (hcm : cap ≤ 9223372036854775807) : Calls Try.prog 15 #[.slice (some ⟨b, off, none⟩) 256 cap] w fun e w' => GetPost w (getS zs) e w' := by
  obtain ⟨gs, hgs⟩ : ∃ gs, gs = getS zs := ⟨_, rfl⟩
  rw [← hgs]
  have HGZ : Hid (gs = getS zs) := hgs
  clear hgs
  obtain ⟨s1, hs1⟩ : ∃ s, s = strOfNums ((zs.drop 4).take 6) := ⟨_, rfl⟩
  obtain ⟨s2, hs2⟩ : ∃ s, s = strOfNums (zs.drop 250) := ⟨_, rfl⟩
  obtain ⟨s0, hs0⟩ : ∃ s, s = strOfNums zs := ⟨_, rfl⟩
  have HCV : Hid (∀ W, Below w.heap.size w W → (convert 27 9 (.slice (some ⟨b, off + 4, none⟩) 6 (cap - 4))).run Try.prog W = .ok (.string s1) W ∧ (convert 27 9 (.slice (some ⟨b, off + 250, none⟩) 6 (cap - 250))).run Try.prog W = .ok (.string s2) W ∧ (convert 27 9 (.slice (some ⟨b, off, none⟩) 256 cap)).run Try.prog W = .ok (.string s0) W) := fun W hW => by
    have h1 := conv_bv (cap := cap - 4) (((hb.below hW).drop 4).take 6) (by intro h; cases h)
    have h2 := conv_bv (cap := cap - 250) ((hb.below hW).drop 250) (by intro h; cases h)
    have h3 := conv_bv (cap := cap) (hb.below hW) (by intro h; cases h)
    rw [List.length_take, List.length_drop, hl] at h1
    rw [List.length_drop, hl] at h2
    rw [hl] at h3
    rw [hs1, hs2, hs0]
    exact ⟨h1, h2, h3⟩
  have HOP : Hid (∀ W, Below w.heap.size w W → Calls Try.prog 31 #[.slice (some ⟨b, off, none⟩) 250 cap] W fun e w' => ∃ v, e = .returned (.tuple #[v, .int .i64 (if Good (zs.take 250) then 0 else 13)]) ∧ Below W.heap.size W w') := fun W hW => by
    have h := ropen_any (some ⟨b, off, none⟩) cap (zs.take 250) W ((hb.below hW).take 250) (by rw [List.length_take]; omega) (by rw [List.length_take]; omega)
    rw [List.length_take, hl, (good250 hl).1] at h
    refine h.mono ?_
    rintro e w' ⟨v, rfl, _, h2⟩
    exact ⟨v, rfl, h2⟩
  have HGE : Hid (∀ W, Below w.heap.size w W → Calls Try.prog 32 #[.slice (some ⟨b, off + 4, none⟩) 252 (cap - 4), .int .i64 6] W fun e w' => e = .returned (.tuple #[.int .i64 (rgS zs).E, .int .i64 0]) ∧ w' = W) := fun W hW => by
    have h := rget_any (some ⟨b, off + 4, none⟩) 252 (cap - 4) (zs.drop 4) 6 W ((hb.below hW).drop 4) (by rw [List.length_drop, hl]) (by decide)
    have e1 : getV (zs.drop 4) 6 = (rgS zs).E := by
      unfold getV
      rw [if_neg (by decide), if_neg (by rw [List.length_drop, hl]; decide)]
      rfl
    have e2 : getE (zs.drop 4) 6 = 0 := by
      unfold getE
      rw [if_neg (by decide), if_neg (by rw [List.length_drop, hl]; decide)]
    rw [e1, e2] at h
    exact h
  have HNM : Hid (∀ W t n, Below w.heap.size w W → t + 2 * n ≤ 256 → Calls Try.prog 33 #[.slice (some ⟨b, off, none⟩) 256 cap, .int .i64 (t : Nat), .int .i64 (n : Nat)] W fun e w' => ∃ a c, e = .returned (.slice a n c) ∧ Hid ((a = none → c = 0) ∧ IVh W.heap.size w' a (numS zs t n) ∧ n ≤ c ∧ c ≤ 9223372036854775807 ∧ Below W.heap.size W w')) := fun W t n hW ht => by
    refine (nums_any b off t n cap zs W (hb.below hW) (by omega) (by omega) 256 hl).mono ?_
    rintro e w' ⟨v, rfl, ho, h2⟩
    obtain ⟨a, c, rfl, q1, q2, q3, q4⟩ := ho.view
    rw [numS_len] at q3 ⊢
    exact ⟨a, c, rfl, q1, q2, q3, q4, h2⟩
  have HST : Hid ((zs.drop 250 = (zs.drop 4).take 6 → (s1.toList == s2.toList) = true) ∧ (zs.drop 250 ≠ (zs.drop 4).take 6 → (s1.toList == s2.toList) = false)) := by
    refine ⟨fun h => ?_, fun h => ?_⟩
    · rw [hs1, hs2, h]; simp
    · rw [hs1, hs2]; exact str_ne ((hb.1.drop 4).take 6) (hb.1.drop 250) (fun e => h e.symm)
  have HBY : Hid ((0 ≤ zs.getD 16 0 ∧ zs.getD 16 0 ≤ 255) ∧ (0 ≤ zs.getD 17 0 ∧ zs.getD 17 0 ≤ 255)) := ⟨byte_at hb.1 16, byte_at hb.1 17⟩
  have HLZ : Hid (zs.length = 256) := hl
  have HBV : Hid (BV w (some ⟨b, off, none⟩) zs) := hb
  have HS0 : Hid (s0 = strOfNums zs) := hs0
  obtain ⟨W0, hW0⟩ : ∃ W, W = w.alloc (.cells #[.int .i64 0, .int .i64 0, .int .i64 0, .int .i64 0, .slice none 0 0, .slice none 0 0] 24) := ⟨_, rfl⟩
  have hB0 : Below w.heap.size w W0 := by rw [hW0]; exact (Below.refl _ _).alloc (Nat.le_refl _) _
  have HX0 : Hid (W0.drew.heap[w.heap.size]? = some (.cells #[.int .i64 0, .int .i64 0, .int .i64 0, .int .i64 0, .slice none 0 0, .slice none 0 0] 24 (0, 0))) := by
    have : W0.heap[w.heap.size]? = some (.cells #[.int .i64 0, .int .i64 0, .int .i64 0, .int .i64 0, .slice none 0 0, .slice none 0 0] 24 (0, 0)) := by rw [hW0]; exact heap_alloc_last _ _
    exact this
  have hWs : w.heap.size < W0.drew.heap.size := (Array.getElem?_eq_some_iff.1 HX0.out).1
  have hc10 : (10 : Int) ≤ (cap : Int) := by omega
  have hc4 : ¬ cap = 4 := by omega
  have hc250 : ¬ cap = 250 := by omega
  clear hb hl hs1 hs2 hs0
  obtain ⟨q, hq⟩ : ∃ q, (s1.toList == s2.toList) = q := ⟨_, rfl⟩
  have HQQ : Hid ((s1.toList == s2.toList) = q) := hq
  clear hq
  go_enter Try.func15, Try.ntmps15
  go_wp2_with fail
  rw [← hW0]
  clear hW0
  refine wp_region_noPanic ?_
  refine name_ops ?_
  intro O QQ HO HQ
  refine wp_region_held_drew (S := fun W' => Below w.heap.size w W') (by kernel_rfl) hB0.drew (fun hS => ?_)
  rw [show O.size = 8 by rw [HO.out]; rfl]
  refine wpAnyH_take (i := 0) (v := .slice (some ⟨b, off, none⟩) 256 cap) (by rw [HO.out]; simp only [List.getElem?_toArray, List.getElem?_cons_succ, List.getElem?_cons_zero]; rfl) (by rw [HO.out]; kernel_rfl) (by rw [HO.out]; kernel_rfl) (by rw [HO.out]; kernel_rfl) (by rw [HQ.out]; exact fun _ _ _ h => h) (Or.inl ⟨by rfl, ?_⟩) hS ?_
  · intro w' hSw
    go_simp
  try simp only [Act.put, List.setIfInBounds_toArray, List.set_cons_zero, List.set_cons_succ]
  refine wpAnyH_take (i := 1) (v := .slice (some ⟨b, off + 4, none⟩) 6 (cap - 4)) (by rw [HO.out]; simp only [List.getElem?_toArray, List.getElem?_cons_succ, List.getElem?_cons_zero]; rfl) (by rw [HO.out]; kernel_rfl) (by rw [HO.out]; kernel_rfl) (by rw [HO.out]; kernel_rfl) (by rw [HQ.out]; exact fun _ _ _ h => h) (Or.inl ⟨by rfl, ?_⟩) hS ?_
  · intro w' hSw
    go_simp
  try simp only [Act.put, List.setIfInBounds_toArray, List.set_cons_zero, List.set_cons_succ]
  refine wpAnyH_take (i := 2) (v := .string s1) (by rw [HO.out]; simp only [List.getElem?_toArray, List.getElem?_cons_succ, List.getElem?_cons_zero]; rfl) (by rw [HO.out]; kernel_rfl) (by rw [HO.out]; kernel_rfl) (by rw [HO.out]; kernel_rfl) (by rw [HQ.out]; exact fun _ _ _ h => h) (Or.inl ⟨by rfl, ?_⟩) hS ?_
  · intro w' hSw
    have hcv := HCV.out w' hSw
    obtain ⟨v1, v2, _⟩ := hcv
    go_simp
  try simp only [Act.put, List.setIfInBounds_toArray, List.set_cons_zero, List.set_cons_succ]
  refine wpAnyH_take (i := 3) (v := .slice (some ⟨b, off, none⟩) 256 cap) (by rw [HO.out]; simp only [List.getElem?_toArray, List.getElem?_cons_succ, List.getElem?_cons_zero]; rfl) (by rw [HO.out]; kernel_rfl) (by rw [HO.out]; kernel_rfl) (by rw [HO.out]; kernel_rfl) (by rw [HQ.out]; exact fun _ _ _ h => h) (Or.inl ⟨by rfl, ?_⟩) hS ?_
  · intro w' hSw
    go_simp
  try simp only [Act.put, List.setIfInBounds_toArray, List.set_cons_zero, List.set_cons_succ]
  refine wpAnyH_take (i := 4) (v := .slice (some ⟨b, off + 250, none⟩) 6 (cap - 250)) (by rw [HO.out]; simp only [List.getElem?_toArray, List.getElem?_cons_succ, List.getElem?_cons_zero]; rfl) (by rw [HO.out]; kernel_rfl) (by rw [HO.out]; kernel_rfl) (by rw [HO.out]; kernel_rfl) (by rw [HQ.out]; exact fun _ _ _ h => h) (Or.inl ⟨by rfl, ?_⟩) hS ?_
  · intro w' hSw
    go_simp
  try simp only [Act.put, List.setIfInBounds_toArray, List.set_cons_zero, List.set_cons_succ]
  refine wpAnyH_take (i := 5) (v := .string s2) (by rw [HO.out]; simp only [List.getElem?_toArray, List.getElem?_cons_succ, List.getElem?_cons_zero]; rfl) (by rw [HO.out]; kernel_rfl) (by rw [HO.out]; kernel_rfl) (by rw [HO.out]; kernel_rfl) (by rw [HQ.out]; exact fun _ _ _ h => h) (Or.inl ⟨by rfl, ?_⟩) hS ?_
  · intro w' hSw
    have hcv := HCV.out w' hSw
    obtain ⟨v1, v2, _⟩ := hcv
    go_simp
  try simp only [Act.put, List.setIfInBounds_toArray, List.set_cons_zero, List.set_cons_succ]
  refine wpAnyH_take (i := 6) (v := .bool (!q)) (by rw [HO.out]; simp only [List.getElem?_toArray, List.getElem?_cons_succ, List.getElem?_cons_zero]; rfl) (by rw [HO.out]; kernel_rfl) (by rw [HO.out]; kernel_rfl) (by rw [HO.out]; kernel_rfl) (by rw [HQ.out]; exact fun _ _ _ h => h) (Or.inl ⟨by rfl, ?_⟩) hS ?_
  · intro w' hSw
    have hqq := HQQ.out
    go_simp
  try simp only [Act.put, List.setIfInBounds_toArray, List.set_cons_zero, List.set_cons_succ]
  refine wpAnyH_ready (rs := [7]) (by rw [HO.out]; kernel_rfl) (by simp) ?_
  refine AllReadyH.cons (o := _) (by rw [HO.out]; simp only [List.getElem?_toArray, List.getElem?_cons_succ, List.getElem?_cons_zero]; rfl) (fun K7 hK7 => ?_) AllReadyH.nil
  go_simp
  refine hK7.out _ _ hS (fun _ => ?_)
  try simp only [Act.put, List.setIfInBounds_toArray, List.set_cons_zero, List.set_cons_succ]
  refine wpAnyH_done (by rw [HO.out]; kernel_rfl) ?_ _
  rw [HQ.out]
  refine NoPanic.normal ?_
  have HB1 : Hid (Below w.heap.size w W0.drew) := hS
  clear hS hB0
  generalize W0.drew = W1 at HB1 HX0 hWs ⊢
  cases q
  · have HG : Hid (gs = (zero, 3)) := by
      have hne : zs.drop 250 ≠ (zs.drop 4).take 6 := fun e => by have h1 := HST.out.1 e; rw [HQQ.out] at h1; cases h1
      rw [HGZ.out]
      show _ = _
      unfold getS
      rw [if_neg (by rw [HLZ.out]; simp), if_pos hne]
    obtain ⟨z0, z1, z2, z3, z4, z5, v0, v1, v2, v3, v4, v5⟩ := RX.of' HX0.out
    go_wp2_with fail
    exact bodyPost_ret (v := .tuple #[.agg #[.int .i64 0, .int .i64 0, .int .i64 0, .int .i64 0, .slice none 0 0, .slice none 0 0], .int .i64 3]) (by simp [results, Try.results15, go_sem, *]) rfl (by rw [HG.out]; exact post_zero 3 (set6_below HB1.out _ _ _ _ _ _))
  · have HQT : Hid (zs.drop 250 = (zs.drop 4).take 6) := by
      by_cases e : zs.drop 250 = (zs.drop 4).take 6
      · exact e
      · have h1 := HST.out.2 e; rw [HQQ.out] at h1; cases h1
    clear HQQ HST
    go_wp2_with fail
    refine (HOP.out _ HB1.out).mono ?_
    rintro e w2 ⟨v, rfl, hb2⟩
    have HB2 : Hid (Below w.heap.size w w2) := HB1.out.trans (hb2.mono HB1.out.size)
    have HX2 : Hid (w2.heap[w.heap.size]? = some (.cells #[.int .i64 0, .int .i64 0, .int .i64 0, .int .i64 0, .slice none 0 0, .slice none 0 0] 24 (0, 0))) := (hb2.block w.heap.size hWs).trans HX0.out
    clear hb2 HX0 HB1 HOP hWs
    by_cases hg : Good (zs.take 250)
    · rw [if_pos hg]
      have HG : Hid (Good (zs.take 250)) := hg
      clear hg
      obtain ⟨rx, hrx⟩ : ∃ rx, rx = w2.heap.size := ⟨_, rfl⟩
      obtain ⟨W3, hW3⟩ : ∃ W, W = w2.alloc (.cells #[.int .i64 0, .int .i64 0, .int .i64 0, .int .i64 0, .slice none 0 0, .slice none 0 0] 24) := ⟨_, rfl⟩
      have G3 : Hid (GB w W3 rx (.int .i64 0) (.int .i64 0) (.int .i64 0) (.int .i64 0) (.slice none 0 0) (.slice none 0 0)) := by
        have hb : Below w2.heap.size w2 W3 := by rw [hW3]; exact (Below.refl _ _).alloc (Nat.le_refl _) _
        have hlt : w.heap.size < w2.heap.size := (Array.getElem?_eq_some_iff.1 HX2.out).1
        exact ⟨(hb.block _ hlt).trans HX2.out, by rw [hrx, hW3]; exact heap_alloc_last _ _, by rw [hrx]; exact hlt, HB2.out.trans (hb.mono (Nat.le_of_lt hlt))⟩
      have HN3 : Hid (∀ W, Below w.heap.size w W → Calls Try.prog 33 #[.slice (some ⟨b, off, none⟩) 256 cap, .int .i64 10, .int .i64 3] W fun e w' => ∃ a c, e = .returned (.slice a 3 c) ∧ Hid ((a = none → c = 0) ∧ IVh W.heap.size w' a (numS zs 10 3) ∧ 3 ≤ c ∧ c ≤ 9223372036854775807 ∧ Below W.heap.size W w')) := fun W hW => HNM.out W 10 3 hW (by decide)
      go_wp2_with fail
      rw [← hW3, ← hrx]
      clear hW3 hrx
      refine (HGE.out _ G3.out.bl).mono ?_
      rintro e w4 ⟨rfl, rfl⟩
      obtain ⟨z0, z1, z2, z3, z4, z5, v0, v1, v2, v3, v4, v5⟩ := RX.of' G3.out.x
      go_wp2_with fail
      clear z0 z1 z2 z3 z4 z5 v0 v1 v2 v3 v4 v5
      have G4 : Hid (GB w (w4.setCell ⟨rx, 0, none⟩ (.int .i64 (rgS zs).E)) rx (.int .i64 (rgS zs).E) (.int .i64 0) (.int .i64 0) (.int .i64 0) (.slice none 0 0) (.slice none 0 0)) := G3.out.set 0 _ _ _ _ _ _ _ rfl
      clear G3 HX2 HB2
      generalize w4.setCell ⟨rx, 0, none⟩ (.int .i64 (rgS zs).E) = W4 at G4 ⊢
      refine (HN3.out _ G4.out.bl).mono ?_
      rintro e w5 ⟨la, lc, rfl, H5⟩
      have G5 : Hid (GB w w5 rx (.int .i64 (rgS zs).E) (.int .i64 0) (.int .i64 0) (.int .i64 0) (.slice none 0 0) (.slice none 0 0)) := G4.out.below H5.out.2.2.2.2
      obtain ⟨lg, lo, hla, k1, k2, k3⟩ : ∃ lg lo, la = some ⟨lg, lo, none⟩ ∧ W4.heap.size ≤ lg ∧ lg < w5.heap.size ∧ ∀ i, i < (numS zs 10 3).length → w5.cell? ⟨lg, lo + i, none⟩ = some (.int .i64 ((numS zs 10 3).getD i 0)) := by
        rcases H5.out.2.1 with h | h
        · have := numS_len zs 10 3; rw [h] at this; cases this
        · exact h
      subst hla
      have l0 : w5.cell? ⟨lg, lo, none⟩ = some (.int .i64 (rgS zs).B) := k3 0 (by rw [numS_len]; decide)
      have l1 : w5.cell? ⟨lg, lo + 1, none⟩ = some (.int .i64 (rgS zs).N) := k3 1 (by rw [numS_len]; decide)
      have l2 : w5.cell? ⟨lg, lo + 2, none⟩ = some (.int .i64 (rgS zs).S) := k3 2 (by rw [numS_len]; decide)
      have hne : lg ≠ rx := by have := G4.out.size; omega
      have hlc : 3 ≤ lc := H5.out.2.2.1
      clear k3 H5 HN3 G4 HGE
      go_wp2_with fail
      refine wp_region_noPanic ?_
      refine name_ops ?_
      intro O QQ HO HQ
      refine wp_region_held_drew (S := fun W' => W'.cell? ⟨lg, lo, none⟩ = some (.int .i64 (rgS zs).B) ∧ W'.cell? ⟨lg, lo + 1, none⟩ = some (.int .i64 (rgS zs).N) ∧ W'.cell? ⟨lg, lo + 2, none⟩ = some (.int .i64 (rgS zs).S)) (by kernel_rfl) ⟨l0, l1, l2⟩ (fun hS => ?_)
      rw [show O.size = 15 by rw [HO.out]; rfl]
      refine wpAnyH_take (i := 0) (v := .slice (some ⟨lg, lo, none⟩) 3 lc) (by rw [HO.out]; simp only [List.getElem?_toArray, List.getElem?_cons_succ, List.getElem?_cons_zero]; rfl) (by rw [HO.out]; kernel_rfl) (by rw [HO.out]; kernel_rfl) (by rw [HO.out]; kernel_rfl) (by rw [HQ.out]; exact fun _ _ _ h => h) (Or.inl ⟨by rfl, ?_⟩) hS ?_
      · intro w' hSw
        go_simp
      try simp only [Act.put, List.setIfInBounds_toArray, List.set_cons_zero, List.set_cons_succ]
      refine wpAnyH_take (i := 1) (v := .pointer (some ⟨lg, lo, none⟩)) (by rw [HO.out]; simp only [List.getElem?_toArray, List.getElem?_cons_succ, List.getElem?_cons_zero]; rfl) (by rw [HO.out]; kernel_rfl) (by rw [HO.out]; kernel_rfl) (by rw [HO.out]; kernel_rfl) (by rw [HQ.out]; exact fun _ _ _ h => h) (Or.inl ⟨by rfl, ?_⟩) hS ?_
      · intro w' hSw
        go_simp
      try simp only [Act.put, List.setIfInBounds_toArray, List.set_cons_zero, List.set_cons_succ]
      refine wpAnyH_take (i := 2) (v := .int .i64 (rgS zs).B) (by rw [HO.out]; simp only [List.getElem?_toArray, List.getElem?_cons_succ, List.getElem?_cons_zero]; rfl) (by rw [HO.out]; kernel_rfl) (by rw [HO.out]; kernel_rfl) (by rw [HO.out]; kernel_rfl) (by rw [HQ.out]; exact fun _ _ _ h => h) (Or.inl ⟨by rfl, ?_⟩) hS ?_
      · intro w' hSw
        obtain ⟨y0, y1, y2⟩ := hSw
        go_simp
      try simp only [Act.put, List.setIfInBounds_toArray, List.set_cons_zero, List.set_cons_succ]
      refine wpAnyH_take (i := 3) (v := .slice (some ⟨lg, lo, none⟩) 3 lc) (by rw [HO.out]; simp only [List.getElem?_toArray, List.getElem?_cons_succ, List.getElem?_cons_zero]; rfl) (by rw [HO.out]; kernel_rfl) (by rw [HO.out]; kernel_rfl) (by rw [HO.out]; kernel_rfl) (by rw [HQ.out]; exact fun _ _ _ h => h) (Or.inl ⟨by rfl, ?_⟩) hS ?_
      · intro w' hSw
        go_simp
      try simp only [Act.put, List.setIfInBounds_toArray, List.set_cons_zero, List.set_cons_succ]
      refine wpAnyH_take (i := 4) (v := .pointer (some ⟨lg, lo + 1, none⟩)) (by rw [HO.out]; simp only [List.getElem?_toArray, List.getElem?_cons_succ, List.getElem?_cons_zero]; rfl) (by rw [HO.out]; kernel_rfl) (by rw [HO.out]; kernel_rfl) (by rw [HO.out]; kernel_rfl) (by rw [HQ.out]; exact fun _ _ _ h => h) (Or.inl ⟨by rfl, ?_⟩) hS ?_
      · intro w' hSw
        go_simp
      try simp only [Act.put, List.setIfInBounds_toArray, List.set_cons_zero, List.set_cons_succ]
      refine wpAnyH_take (i := 5) (v := .int .i64 (rgS zs).N) (by rw [HO.out]; simp only [List.getElem?_toArray, List.getElem?_cons_succ, List.getElem?_cons_zero]; rfl) (by rw [HO.out]; kernel_rfl) (by rw [HO.out]; kernel_rfl) (by rw [HO.out]; kernel_rfl) (by rw [HQ.out]; exact fun _ _ _ h => h) (Or.inl ⟨by rfl, ?_⟩) hS ?_
      · intro w' hSw
        obtain ⟨y0, y1, y2⟩ := hSw
        go_simp
      try simp only [Act.put, List.setIfInBounds_toArray, List.set_cons_zero, List.set_cons_succ]
      refine wpAnyH_take (i := 6) (v := .slice (some ⟨lg, lo, none⟩) 3 lc) (by rw [HO.out]; simp only [List.getElem?_toArray, List.getElem?_cons_succ, List.getElem?_cons_zero]; rfl) (by rw [HO.out]; kernel_rfl) (by rw [HO.out]; kernel_rfl) (by rw [HO.out]; kernel_rfl) (by rw [HQ.out]; exact fun _ _ _ h => h) (Or.inl ⟨by rfl, ?_⟩) hS ?_
      · intro w' hSw
        go_simp
      try simp only [Act.put, List.setIfInBounds_toArray, List.set_cons_zero, List.set_cons_succ]
      refine wpAnyH_take (i := 7) (v := .pointer (some ⟨lg, lo + 2, none⟩)) (by rw [HO.out]; simp only [List.getElem?_toArray, List.getElem?_cons_succ, List.getElem?_cons_zero]; rfl) (by rw [HO.out]; kernel_rfl) (by rw [HO.out]; kernel_rfl) (by rw [HO.out]; kernel_rfl) (by rw [HQ.out]; exact fun _ _ _ h => h) (Or.inl ⟨by rfl, ?_⟩) hS ?_
      · intro w' hSw
        go_simp
      try simp only [Act.put, List.setIfInBounds_toArray, List.set_cons_zero, List.set_cons_succ]
      refine wpAnyH_take (i := 8) (v := .int .i64 (rgS zs).S) (by rw [HO.out]; simp only [List.getElem?_toArray, List.getElem?_cons_succ, List.getElem?_cons_zero]; rfl) (by rw [HO.out]; kernel_rfl) (by rw [HO.out]; kernel_rfl) (by rw [HO.out]; kernel_rfl) (by rw [HQ.out]; exact fun _ _ _ h => h) (Or.inl ⟨by rfl, ?_⟩) hS ?_
      · intro w' hSw
        obtain ⟨y0, y1, y2⟩ := hSw
        go_simp
      try simp only [Act.put, List.setIfInBounds_toArray, List.set_cons_zero, List.set_cons_succ]
      have G6 : Hid (GB w w5.drew rx (.int .i64 (rgS zs).E) (.int .i64 0) (.int .i64 0) (.int .i64 0) (.slice none 0 0) (.slice none 0 0)) := G5.out.below (Below.refl _ _).drew
      clear G5 l0 l1 l2
      generalize w5.drew = w6 at G6 hS ⊢
      refine wpAnyH_take (i := 9) (v := .pointer (some ⟨rx, 1, none⟩)) (by rw [HO.out]; simp only [List.getElem?_toArray, List.getElem?_cons_succ, List.getElem?_cons_zero]; rfl) (by rw [HO.out]; kernel_rfl) (by rw [HO.out]; kernel_rfl) (by rw [HO.out]; kernel_rfl) (by rw [HQ.out]; exact fun _ _ _ h => h) (Or.inl ⟨by rfl, ?_⟩) hS ?_
      · intro w' hSw
        go_simp
      try simp only [Act.put, List.setIfInBounds_toArray, List.set_cons_zero, List.set_cons_succ]
      obtain ⟨z0, z1, z2, z3, z4, z5, v0, v1, v2, v3, v4, v5⟩ := RX.of' G6.out.x
      refine wpAnyH_ready (rs := [10]) (by rw [HO.out]; kernel_rfl) (by simp) ?_
      refine AllReadyH.cons (o := _) (by rw [HO.out]; simp only [List.getElem?_toArray, List.getElem?_cons_succ, List.getElem?_cons_zero]; rfl) (fun K10 hK10 => ?_) AllReadyH.nil
      go_simp
      have G61 : Hid (GB w (w6.setCell ⟨rx, 1, none⟩ (.int .i64 (rgS zs).B)) rx (.int .i64 (rgS zs).E) (.int .i64 (rgS zs).B) (.int .i64 0) (.int .i64 0) (.slice none 0 0) (.slice none 0 0)) := G6.out.set 1 _ _ _ _ _ _ _ rfl
      have SG61 : (fun W' => W'.cell? ⟨lg, lo, none⟩ = some (.int .i64 (rgS zs).B) ∧ W'.cell? ⟨lg, lo + 1, none⟩ = some (.int .i64 (rgS zs).N) ∧ W'.cell? ⟨lg, lo + 2, none⟩ = some (.int .i64 (rgS zs).S)) (w6.setCell ⟨rx, 1, none⟩ (.int .i64 (rgS zs).B)) := keep3 hne 1 _ hS
      refine hK10.out _ _ SG61 (fun _ => ?_)
      clear z0 z1 z2 z3 z4 z5 v0 v1 v2 v3 v4 v5 G6 hS
      try simp only [Act.put, List.setIfInBounds_toArray, List.set_cons_zero, List.set_cons_succ]
      generalize (w6.setCell ⟨rx, 1, none⟩ (.int .i64 (rgS zs).B)) = w61 at G61 SG61 ⊢
      refine wpAnyH_take (i := 11) (v := .pointer (some ⟨rx, 2, none⟩)) (by rw [HO.out]; simp only [List.getElem?_toArray, List.getElem?_cons_succ, List.getElem?_cons_zero]; rfl) (by rw [HO.out]; kernel_rfl) (by rw [HO.out]; kernel_rfl) (by rw [HO.out]; kernel_rfl) (by rw [HQ.out]; exact fun _ _ _ h => h) (Or.inl ⟨by rfl, ?_⟩) SG61 ?_
      · intro w' hSw
        go_simp
      try simp only [Act.put, List.setIfInBounds_toArray, List.set_cons_zero, List.set_cons_succ]
      obtain ⟨z0, z1, z2, z3, z4, z5, v0, v1, v2, v3, v4, v5⟩ := RX.of' G61.out.x
      refine wpAnyH_ready (rs := [12]) (by rw [HO.out]; kernel_rfl) (by simp) ?_
      refine AllReadyH.cons (o := _) (by rw [HO.out]; simp only [List.getElem?_toArray, List.getElem?_cons_succ, List.getElem?_cons_zero]; rfl) (fun K12 hK12 => ?_) AllReadyH.nil
      go_simp
      have G62 : Hid (GB w (w61.setCell ⟨rx, 2, none⟩ (.int .i64 (rgS zs).N)) rx (.int .i64 (rgS zs).E) (.int .i64 (rgS zs).B) (.int .i64 (rgS zs).N) (.int .i64 0) (.slice none 0 0) (.slice none 0 0)) := G61.out.set 2 _ _ _ _ _ _ _ rfl
      have SG62 : (fun W' => W'.cell? ⟨lg, lo, none⟩ = some (.int .i64 (rgS zs).B) ∧ W'.cell? ⟨lg, lo + 1, none⟩ = some (.int .i64 (rgS zs).N) ∧ W'.cell? ⟨lg, lo + 2, none⟩ = some (.int .i64 (rgS zs).S)) (w61.setCell ⟨rx, 2, none⟩ (.int .i64 (rgS zs).N)) := keep3 hne 2 _ SG61
      refine hK12.out _ _ SG62 (fun _ => ?_)
      clear z0 z1 z2 z3 z4 z5 v0 v1 v2 v3 v4 v5 G61 SG61
      try simp only [Act.put, List.setIfInBounds_toArray, List.set_cons_zero, List.set_cons_succ]
      generalize (w61.setCell ⟨rx, 2, none⟩ (.int .i64 (rgS zs).N)) = w62 at G62 SG62 ⊢
      refine wpAnyH_take (i := 13) (v := .pointer (some ⟨rx, 3, none⟩)) (by rw [HO.out]; simp only [List.getElem?_toArray, List.getElem?_cons_succ, List.getElem?_cons_zero]; rfl) (by rw [HO.out]; kernel_rfl) (by rw [HO.out]; kernel_rfl) (by rw [HO.out]; kernel_rfl) (by rw [HQ.out]; exact fun _ _ _ h => h) (Or.inl ⟨by rfl, ?_⟩) SG62 ?_
      · intro w' hSw
        go_simp
      try simp only [Act.put, List.setIfInBounds_toArray, List.set_cons_zero, List.set_cons_succ]
      obtain ⟨z0, z1, z2, z3, z4, z5, v0, v1, v2, v3, v4, v5⟩ := RX.of' G62.out.x
      refine wpAnyH_ready (rs := [14]) (by rw [HO.out]; kernel_rfl) (by simp) ?_
      refine AllReadyH.cons (o := _) (by rw [HO.out]; simp only [List.getElem?_toArray, List.getElem?_cons_succ, List.getElem?_cons_zero]; rfl) (fun K14 hK14 => ?_) AllReadyH.nil
      go_simp
      have G63 : Hid (GB w (w62.setCell ⟨rx, 3, none⟩ (.int .i64 (rgS zs).S)) rx (.int .i64 (rgS zs).E) (.int .i64 (rgS zs).B) (.int .i64 (rgS zs).N) (.int .i64 (rgS zs).S) (.slice none 0 0) (.slice none 0 0)) := G62.out.set 3 _ _ _ _ _ _ _ rfl
      have SG63 : (fun W' => W'.cell? ⟨lg, lo, none⟩ = some (.int .i64 (rgS zs).B) ∧ W'.cell? ⟨lg, lo + 1, none⟩ = some (.int .i64 (rgS zs).N) ∧ W'.cell? ⟨lg, lo + 2, none⟩ = some (.int .i64 (rgS zs).S)) (w62.setCell ⟨rx, 3, none⟩ (.int .i64 (rgS zs).S)) := keep3 hne 3 _ SG62
      refine hK14.out _ _ SG63 (fun _ => ?_)
      clear z0 z1 z2 z3 z4 z5 v0 v1 v2 v3 v4 v5 G62 SG62
      try simp only [Act.put, List.setIfInBounds_toArray, List.set_cons_zero, List.set_cons_succ]
      generalize (w62.setCell ⟨rx, 3, none⟩ (.int .i64 (rgS zs).S)) = w63 at G63 SG63 ⊢
      refine wpAnyH_done (by rw [HO.out]; kernel_rfl) ?_ _
      have G7 : Hid (GB w w63 rx (.int .i64 (rgS zs).E) (.int .i64 (rgS zs).B) (.int .i64 (rgS zs).N) (.int .i64 (rgS zs).S) (.slice none 0 0) (.slice none 0 0)) := G63.out
      clear G63 SG63 k1 k2 hne hlc
      rw [HQ.out]
      refine NoPanic.normal ?_
      clear HO HQ
      obtain ⟨x, hx⟩ : ∃ x, x = zs.getD 16 0 := ⟨_, rfl⟩
      obtain ⟨y, hy⟩ : ∃ y, y = zs.getD 17 0 := ⟨_, rfl⟩
      obtain ⟨nn, hnn⟩ : ∃ n, n = rgN zs := ⟨_, rfl⟩
      obtain ⟨mm, hmm⟩ : ∃ n, n = rgM zs := ⟨_, rfl⟩
      have HNN : Hid (nn = rgN zs ∧ mm = rgM zs ∧ nn ≤ 26 ∧ mm ≤ 3) := by
        refine ⟨hnn, hmm, ?_, ?_⟩
        · rw [hnn]; unfold rgN; omega
        · rw [hmm]; unfold rgM; omega
      have m1 : (if (26 : Int) < x then (26 : Int) else x) = (nn : Int) := by
        have := HBY.out.1; rw [hnn]; unfold rgN; rw [hx]; split <;> omega
      have m2 : (if (3 : Int) < y then (3 : Int) else y) = (mm : Int) := by
        have := HBY.out.2; rw [hmm]; unfold rgM; rw [hy]; split <;> omega
      have wx : IntKind.i64.wrap x = x := by have := HBY.out.1; rw [← hx] at this; exact wrap_sm (by omega) (by omega)
      have wy : IntKind.i64.wrap y = y := by have := HBY.out.2; rw [← hy] at this; exact wrap_sm (by omega) (by omega)
      have HCL : Hid (∀ W', Below w.heap.size w W' → W'.cell? ⟨b, off + 16, none⟩ = some (.int .u8 x) ∧ W'.cell? ⟨b, off + 17, none⟩ = some (.int .u8 y)) := fun W' hW => by
        rcases (HBV.out.below hW).2 with h | ⟨b', off', e, h1, h2⟩
        · have := HLZ.out; rw [h] at this; cases this
        · obtain ⟨rfl, rfl⟩ : b = b' ∧ off = off' := by simpa using e
          rw [hx, hy]
          exact ⟨h2 16 (by rw [HLZ.out]; decide), h2 17 (by rw [HLZ.out]; decide)⟩
      clear hx hy hnn hmm HBY
      go_wp2_with fail
      refine wp_region_noPanic ?_
      refine name_ops ?_
      intro O QQ HO HQ
      refine wp_region_held_drew (S := fun W' => Below w.heap.size w W') (by kernel_rfl) G7.out.bl.drew (fun hS => ?_)
      rw [show O.size = 12 by rw [HO.out]; rfl]
      refine wpAnyH_take (i := 0) (v := .slice (some ⟨b, off, none⟩) 256 cap) (by rw [HO.out]; simp only [List.getElem?_toArray, List.getElem?_cons_succ, List.getElem?_cons_zero]; rfl) (by rw [HO.out]; kernel_rfl) (by rw [HO.out]; kernel_rfl) (by rw [HO.out]; kernel_rfl) (by rw [HQ.out]; exact fun _ _ _ h => h) (Or.inl ⟨by rfl, ?_⟩) hS ?_
      · intro w' hSw
        go_simp
      try simp only [Act.put, List.setIfInBounds_toArray, List.set_cons_zero, List.set_cons_succ]
      refine wpAnyH_take (i := 1) (v := .pointer (some ⟨b, off + 16, none⟩)) (by rw [HO.out]; simp only [List.getElem?_toArray, List.getElem?_cons_succ, List.getElem?_cons_zero]; rfl) (by rw [HO.out]; kernel_rfl) (by rw [HO.out]; kernel_rfl) (by rw [HO.out]; kernel_rfl) (by rw [HQ.out]; exact fun _ _ _ h => h) (Or.inl ⟨by rfl, ?_⟩) hS ?_
      · intro w' hSw
        go_simp
      try simp only [Act.put, List.setIfInBounds_toArray, List.set_cons_zero, List.set_cons_succ]
      refine wpAnyH_take (i := 2) (v := .int .u8 x) (by rw [HO.out]; simp only [List.getElem?_toArray, List.getElem?_cons_succ, List.getElem?_cons_zero]; rfl) (by rw [HO.out]; kernel_rfl) (by rw [HO.out]; kernel_rfl) (by rw [HO.out]; kernel_rfl) (by rw [HQ.out]; exact fun _ _ _ h => h) (Or.inl ⟨by rfl, ?_⟩) hS ?_
      · intro w' hSw
        obtain ⟨y0, y1⟩ := HCL.out w' hSw
        go_simp
      try simp only [Act.put, List.setIfInBounds_toArray, List.set_cons_zero, List.set_cons_succ]
      refine wpAnyH_take (i := 3) (v := .int .i64 x) (by rw [HO.out]; simp only [List.getElem?_toArray, List.getElem?_cons_succ, List.getElem?_cons_zero]; rfl) (by rw [HO.out]; kernel_rfl) (by rw [HO.out]; kernel_rfl) (by rw [HO.out]; kernel_rfl) (by rw [HQ.out]; exact fun _ _ _ h => h) (Or.inl ⟨by rfl, ?_⟩) hS ?_
      · intro w' hSw
        go_simp
      try simp only [Act.put, List.setIfInBounds_toArray, List.set_cons_zero, List.set_cons_succ]
      refine wpAnyH_take (i := 4) (v := .int .i64 nn) (by rw [HO.out]; simp only [List.getElem?_toArray, List.getElem?_cons_succ, List.getElem?_cons_zero]; rfl) (by rw [HO.out]; kernel_rfl) (by rw [HO.out]; kernel_rfl) (by rw [HO.out]; kernel_rfl) (by rw [HQ.out]; exact fun _ _ _ h => h) (Or.inl ⟨by rfl, ?_⟩) hS ?_
      · intro w' hSw
        go_simp
      try simp only [Act.put, List.setIfInBounds_toArray, List.set_cons_zero, List.set_cons_succ]
      refine wpAnyH_take (i := 5) (v := .slice (some ⟨b, off, none⟩) 256 cap) (by rw [HO.out]; simp only [List.getElem?_toArray, List.getElem?_cons_succ, List.getElem?_cons_zero]; rfl) (by rw [HO.out]; kernel_rfl) (by rw [HO.out]; kernel_rfl) (by rw [HO.out]; kernel_rfl) (by rw [HQ.out]; exact fun _ _ _ h => h) (Or.inl ⟨by rfl, ?_⟩) hS ?_
      · intro w' hSw
        go_simp
      try simp only [Act.put, List.setIfInBounds_toArray, List.set_cons_zero, List.set_cons_succ]
      refine wpAnyH_take (i := 6) (v := .pointer (some ⟨b, off + 17, none⟩)) (by rw [HO.out]; simp only [List.getElem?_toArray, List.getElem?_cons_succ, List.getElem?_cons_zero]; rfl) (by rw [HO.out]; kernel_rfl) (by rw [HO.out]; kernel_rfl) (by rw [HO.out]; kernel_rfl) (by rw [HQ.out]; exact fun _ _ _ h => h) (Or.inl ⟨by rfl, ?_⟩) hS ?_
      · intro w' hSw
        go_simp
      try simp only [Act.put, List.setIfInBounds_toArray, List.set_cons_zero, List.set_cons_succ]
      refine wpAnyH_take (i := 7) (v := .int .u8 y) (by rw [HO.out]; simp only [List.getElem?_toArray, List.getElem?_cons_succ, List.getElem?_cons_zero]; rfl) (by rw [HO.out]; kernel_rfl) (by rw [HO.out]; kernel_rfl) (by rw [HO.out]; kernel_rfl) (by rw [HQ.out]; exact fun _ _ _ h => h) (Or.inl ⟨by rfl, ?_⟩) hS ?_
      · intro w' hSw
        obtain ⟨y0, y1⟩ := HCL.out w' hSw
        go_simp
      try simp only [Act.put, List.setIfInBounds_toArray, List.set_cons_zero, List.set_cons_succ]
      refine wpAnyH_take (i := 8) (v := .int .i64 y) (by rw [HO.out]; simp only [List.getElem?_toArray, List.getElem?_cons_succ, List.getElem?_cons_zero]; rfl) (by rw [HO.out]; kernel_rfl) (by rw [HO.out]; kernel_rfl) (by rw [HO.out]; kernel_rfl) (by rw [HQ.out]; exact fun _ _ _ h => h) (Or.inl ⟨by rfl, ?_⟩) hS ?_
      · intro w' hSw
        go_simp
      try simp only [Act.put, List.setIfInBounds_toArray, List.set_cons_zero, List.set_cons_succ]
      refine wpAnyH_take (i := 9) (v := .int .i64 mm) (by rw [HO.out]; simp only [List.getElem?_toArray, List.getElem?_cons_succ, List.getElem?_cons_zero]; rfl) (by rw [HO.out]; kernel_rfl) (by rw [HO.out]; kernel_rfl) (by rw [HO.out]; kernel_rfl) (by rw [HQ.out]; exact fun _ _ _ h => h) (Or.inl ⟨by rfl, ?_⟩) hS ?_
      · intro w' hSw
        go_simp
      try simp only [Act.put, List.setIfInBounds_toArray, List.set_cons_zero, List.set_cons_succ]
      refine wpAnyH_ready (rs := [10]) (by rw [HO.out]; kernel_rfl) (by simp) ?_
      refine AllReadyH.cons (o := _) (by rw [HO.out]; simp only [List.getElem?_toArray, List.getElem?_cons_succ, List.getElem?_cons_zero]; rfl) (fun K10 hK10 => ?_) AllReadyH.nil
      go_simp
      refine hK10.out _ _ hS (fun _ => ?_)
      try simp only [Act.put, List.setIfInBounds_toArray, List.set_cons_zero, List.set_cons_succ]
      refine wpAnyH_ready (rs := [11]) (by rw [HO.out]; kernel_rfl) (by simp) ?_
      refine AllReadyH.cons (o := _) (by rw [HO.out]; simp only [List.getElem?_toArray, List.getElem?_cons_succ, List.getElem?_cons_zero]; rfl) (fun K11 hK11 => ?_) AllReadyH.nil
      go_simp
      refine hK11.out _ _ hS (fun _ => ?_)
      try simp only [Act.put, List.setIfInBounds_toArray, List.set_cons_zero, List.set_cons_succ]
      refine wpAnyH_done (by rw [HO.out]; kernel_rfl) ?_ _
      rw [HQ.out]
      refine NoPanic.normal ?_
      have G8 : Hid (GB w w63.drew rx (.int .i64 (rgS zs).E) (.int .i64 (rgS zs).B) (.int .i64 (rgS zs).N) (.int .i64 (rgS zs).S) (.slice none 0 0) (.slice none 0 0)) := G7.out.below (Below.refl _ _).drew
      clear G7 hS HO HQ m1 m2 wx wy HCL
      generalize w63.drew = w8 at G8 ⊢
      have HN1 : Hid (∀ W, Below w.heap.size w W → Calls Try.prog 33 #[.slice (some ⟨b, off, none⟩) 256 cap, .int .i64 18, .int .i64 nn] W fun e w' => ∃ a c, e = .returned (.slice a nn c) ∧ Hid ((a = none → c = 0) ∧ IVh W.heap.size w' a (numS zs 18 nn) ∧ nn ≤ c ∧ c ≤ 9223372036854775807 ∧ Below W.heap.size W w')) := fun W hW => HNM.out W 18 nn hW (by have := HNN.out; omega)
      have HN2 : Hid (∀ W, Below w.heap.size w W → Calls Try.prog 33 #[.slice (some ⟨b, off, none⟩) 256 cap, .int .i64 (18 + 2 * (nn : Int)), .int .i64 mm] W fun e w' => ∃ a c, e = .returned (.slice a mm c) ∧ Hid ((a = none → c = 0) ∧ IVh W.heap.size w' a (numS zs (18 + 2 * nn) mm) ∧ mm ≤ c ∧ c ≤ 9223372036854775807 ∧ Below W.heap.size W w')) := fun W hW => by
        have h := HNM.out W (18 + 2 * nn) mm hW (by have := HNN.out; omega)
        rw [show ((18 + 2 * nn : Nat) : Int) = 18 + 2 * (nn : Int) by omega] at h
        exact h
      have e1 : IntKind.i64.wrap (2 * (nn : Int)) = 2 * nn := by have := HNN.out; exact wrap_sm (by omega) (by omega)
      have e2 : IntKind.i64.wrap (18 + 2 * (nn : Int)) = 18 + 2 * nn := by have := HNN.out; exact wrap_sm (by omega) (by omega)
      clear HNM
      go_wp2_with fail
      refine (HN1.out _ G8.out.bl).mono ?_
      rintro e w9 ⟨ta, tc, rfl, H9⟩
      have G9 : Hid (GB w w9 rx (.int .i64 (rgS zs).E) (.int .i64 (rgS zs).B) (.int .i64 (rgS zs).N) (.int .i64 (rgS zs).S) (.slice none 0 0) (.slice none 0 0)) := G8.out.below H9.out.2.2.2.2
      have K9 : Hid (rx < w8.heap.size) := G8.out.size
      clear G8 HN1
      go_wp2_with fail
      refine (HN2.out _ G9.out.bl).mono ?_
      rintro e wa ⟨ma, mc, rfl, H10⟩
      have G10 : Hid (GB w wa rx (.int .i64 (rgS zs).E) (.int .i64 (rgS zs).B) (.int .i64 (rgS zs).N) (.int .i64 (rgS zs).S) (.slice none 0 0) (.slice none 0 0)) := G9.out.below H10.out.2.2.2.2
      have K10 : Hid (rx < w9.heap.size) := G9.out.size
      clear G9 HN2 e1 e2
      have G12 : Hid (GB w ((wa.setCell ⟨rx, 4, none⟩ (.slice ta nn tc)).setCell ⟨rx, 5, none⟩ (.slice ma mm mc)) rx (.int .i64 (rgS zs).E) (.int .i64 (rgS zs).B) (.int .i64 (rgS zs).N) (.int .i64 (rgS zs).S) (.slice ta nn tc) (.slice ma mm mc)) := (G10.out.set 4 _ _ _ _ _ _ _ rfl).set 5 _ _ _ _ _ _ _ rfl
      have I1 : Hid (IVh (rx + 1) ((wa.setCell ⟨rx, 4, none⟩ (.slice ta nn tc)).setCell ⟨rx, 5, none⟩ (.slice ma mm mc)) ta (rgS zs).T) := by
        have h := ((H9.out.2.1.below H10.out.2.2.2.2).mono (Nat.succ_le_of_lt K9.out))
        rw [HNN.out.1] at h
        exact (h.set (i := 4) _ (Nat.lt_succ_self _)).set (i := 5) _ (Nat.lt_succ_self _)
      have I2 : Hid (IVh (rx + 1) ((wa.setCell ⟨rx, 4, none⟩ (.slice ta nn tc)).setCell ⟨rx, 5, none⟩ (.slice ma mm mc)) ma (rgS zs).M) := by
        have h := (H10.out.2.1.mono (Nat.succ_le_of_lt K10.out))
        rw [HNN.out.1, HNN.out.2.1] at h
        exact (h.set (i := 4) _ (Nat.lt_succ_self _)).set (i := 5) _ (Nat.lt_succ_self _)
      have LT : Hid ((rgS zs).T.length = nn ∧ (rgS zs).M.length = mm) := by
        rw [HNN.out.1, HNN.out.2.1]
        exact ⟨numS_len _ _ _, numS_len _ _ _⟩
      have RT : Hid (∀ W, IVh (rx + 1) W ta (rgS zs).T → IVh (rx + 1) W ma (rgS zs).M → Rt W (rgS zs) ta tc ma mc) := fun W h1 h2 =>
        ⟨h1.iv, h2.iv, H9.out.1, H10.out.1, by rw [LT.out.1]; exact H9.out.2.2.1, by rw [LT.out.2]; exact H10.out.2.2.1, H9.out.2.2.2.1, H10.out.2.2.2.1⟩
      obtain ⟨z0, z1, z2, z3, z4, z5, v0, v1, v2, v3, v4, v5⟩ := RX.of' G10.out.x
      clear H9 H10 K9 K10
      go_wp2_with fail
      clear z0 z1 z2 z3 z4 z5 v0 v1 v2 v3 v4 v5 G10
      generalize (wa.setCell ⟨rx, 4, none⟩ (.slice ta nn tc)).setCell ⟨rx, 5, none⟩ (.slice ma mm mc) = wb at G12 I1 I2 ⊢
      have HR : Hid (rootV (rgS zs) ta tc ma mc = .agg #[.int .i64 (rgS zs).E, .int .i64 (rgS zs).B, .int .i64 (rgS zs).N, .int .i64 (rgS zs).S, .slice ta nn tc, .slice ma mm mc]) := by show rootV _ _ _ _ _ = _; unfold rootV; rw [LT.out.1, LT.out.2]
      have HPB : Hid (checkE (rgS zs) ≠ 0 → Calls Try.prog 10 #[.agg #[.int .i64 (rgS zs).E, .int .i64 (rgS zs).B, .int .i64 (rgS zs).N, .int .i64 (rgS zs).S, .slice ta nn tc, .slice ma mm mc]] wb fun e w' => e = .returned (.tuple #[.slice none 0 0, .int .i64 (checkE (rgS zs))]) ∧ Below wb.heap.size wb w') := fun h => by
        have q := refput_bad (rgS zs) ta ma tc mc wb (RT.out _ I1.out I2.out) h
        rw [HR.out] at q
        exact q
      have HPG : Hid ((rgS zs).Ok → Calls Try.prog 10 #[.agg #[.int .i64 (rgS zs).E, .int .i64 (rgS zs).B, .int .i64 (rgS zs).N, .int .i64 (rgS zs).S, .slice ta nn tc, .slice ma mm mc]] wb fun e w' => ∃ pa pc, e = .returned (.tuple #[.slice pa 256 pc, .int .i64 0]) ∧ (convert 27 9 (.slice pa 256 pc)).run Try.prog w' = .ok (.string (strOfNums (putS (rgS zs)))) w' ∧ Below wb.heap.size wb w') := fun h => by
        have q := refput_good (rgS zs) ta ma tc mc wb (RT.out _ I1.out I2.out) h
        rw [HR.out] at q
        refine q.mono ?_
        rintro e w' ⟨pv, rfl, ho, hb⟩
        obtain ⟨pa, pc, rfl, pn, pb, _⟩ := ho.slice (put_all _)
        have hcv := conv_bv (cap := pc) pb pn
        rw [put_len h] at hcv ⊢
        exact ⟨pa, pc, rfl, hcv, hb⟩
      by_cases hce : checkE (rgS zs) = 0
      · refine (HPG.out (ok_checkE hce)).mono ?_
        rintro e wc ⟨pa, pc, rfl, hcp, hbc⟩
        have G13 : Hid (GB w wc rx (.int .i64 (rgS zs).E) (.int .i64 (rgS zs).B) (.int .i64 (rgS zs).N) (.int .i64 (rgS zs).S) (.slice ta nn tc) (.slice ma mm mc)) := G12.out.below hbc
        have hcz := (HCV.out wc G13.out.bl).2.2
        have J1 : Hid (IVh (w.heap.size + 1) wc ta (rgS zs).T) := (I1.out.below hbc).mono (by have := G13.out.lt; omega)
        have J2 : Hid (IVh (w.heap.size + 1) wc ma (rgS zs).M) := (I2.out.below hbc).mono (by have := G13.out.lt; omega)
        have RC : Hid (Rt wc (rgS zs) ta tc ma mc) := RT.out _ (I1.out.below hbc) (I2.out.below hbc)
        have HCE : Hid (checkE (rgS zs) = 0) := hce
        obtain ⟨z0, z1, z2, z3, z4, z5, v0, v1, v2, v3, v4, v5⟩ := RX.of' G13.out.x
        obtain ⟨y0, y1, y2, y3, y4, y5, u0, u1, u2, u3, u4, u5⟩ := RX.of' G13.out.o
        clear HPG HPB RT I1 I2 hce hbc HCV
        by_cases he : putS (rgS zs) = zs
        · have HG2 : Hid (gs = (rgS zs, 0)) := by rw [HGZ.out]; exact (gets_rg HLZ.out HQT.out HG.out).1 ⟨HCE.out, he⟩
          have hst : ((strOfNums (putS (rgS zs))).toList == s0.toList) = true := by rw [HS0.out, he]; simp
          generalize strOfNums (putS (rgS zs)) = sp at hcp hst
          clear he
          go_wp2_with fail
          exact bodyPost_ret (v := .tuple #[.agg #[.int .i64 (rgS zs).E, .int .i64 (rgS zs).B, .int .i64 (rgS zs).N, .int .i64 (rgS zs).S, .slice ta nn tc, .slice ma mm mc], .int .i64 0]) (by simp [results, Try.results15, go_sem, *]) rfl (by
            rw [HG2.out]
            exact ⟨ta, tc, ma, mc, by rw [HR.out], rt_set6 RC.out J1.out J2.out _ _ _ _ _ _, set6_below G13.out.bl _ _ _ _ _ _, (J1.out.set6 _ _ _ _ _ _).mono (Nat.le_succ _), (J2.out.set6 _ _ _ _ _ _).mono (Nat.le_succ _)⟩)
        · have HG2 : Hid (gs = (zero, 4)) := by rw [HGZ.out]; exact (gets_rg HLZ.out HQT.out HG.out).2 (fun h => he h.2)
          have hst : ((strOfNums (putS (rgS zs))).toList == s0.toList) = false := by rw [HS0.out]; exact str_ne (put_all _) HBV.out.1 he
          generalize strOfNums (putS (rgS zs)) = sp at hcp hst
          clear he
          go_wp2_with fail
          exact bodyPost_ret (v := .tuple #[.agg #[.int .i64 0, .int .i64 0, .int .i64 0, .int .i64 0, .slice none 0 0, .slice none 0 0], .int .i64 4]) (by simp [results, Try.results15, go_sem, *]) rfl (by rw [HG2.out]; exact post_zero 4 (set6_below G13.out.bl _ _ _ _ _ _))
      · refine (HPB.out hce).mono ?_
        rintro e wc ⟨rfl, hbc⟩
        have G13 : Hid (GB w wc rx (.int .i64 (rgS zs).E) (.int .i64 (rgS zs).B) (.int .i64 (rgS zs).N) (.int .i64 (rgS zs).S) (.slice ta nn tc) (.slice ma mm mc)) := G12.out.below hbc
        have HG2 : Hid (gs = (zero, 4)) := by rw [HGZ.out]; exact (gets_rg HLZ.out HQT.out HG.out).2 (fun h => hce h.1)
        obtain ⟨ce, hc1⟩ : ∃ c, c = checkE (rgS zs) := ⟨_, rfl⟩
        rw [← hc1] at hce ⊢
        have hcb : (ce == 0) = false := by simpa using hce
        have hcb2 : (ce != 0) = true := by simpa using hce
        clear hc1
        obtain ⟨y0, y1, y2, y3, y4, y5, u0, u1, u2, u3, u4, u5⟩ := RX.of' G13.out.o
        clear HPG HPB RT I1 I2 hce hbc HCV
        go_wp2_with fail
        exact bodyPost_ret (v := .tuple #[.agg #[.int .i64 0, .int .i64 0, .int .i64 0, .int .i64 0, .slice none 0 0, .slice none 0 0], .int .i64 4]) (by simp [results, Try.results15, go_sem, *]) rfl (by rw [HG2.out]; exact post_zero 4 (set6_below G13.out.bl _ _ _ _ _ _))
    · rw [if_neg hg]
      have HG : Hid (gs = (zero, 13)) := by
        rw [HGZ.out]
        show _ = _
        unfold getS
        rw [if_neg (by rw [HLZ.out]; simp), if_neg (by rw [HQT.out]; simp), if_pos hg]
      obtain ⟨z0, z1, z2, z3, z4, z5, _⟩ := RX.of' HX2.out
      clear hg
      go_wp2_with fail
      exact bodyPost_ret (v := .tuple #[.agg #[.int .i64 0, .int .i64 0, .int .i64 0, .int .i64 0, .slice none 0 0, .slice none 0 0], .int .i64 13]) (by simp [results, Try.results15, go_sem, *]) rfl (by rw [HG.out]; exact post_zero 13 (set6_below HB2.out _ _ _ _ _ _))
theorem rgroot_any (a : Option Addr) (cap : Nat) (zs : List Int) (w : World) (hb : BV w a zs) (hc : zs.length ≤ cap) (hcm : cap ≤ 9223372036854775807) : Calls Try.prog 15 #[.slice a zs.length cap] w fun e w' => GetPost w (getS zs) e w' := by
  by_cases h : zs.length = 256
  · rw [h]
    have hb0 := hb
    obtain ⟨_, rfl | ⟨b, off, rfl, _, _⟩⟩ := hb
    · simp at h
    · exact rget_all b off cap zs w hb0 h (by omega) hcm
  · have e : getS zs = (zero, 2) := by
      unfold getS
      rw [if_pos h]
    rw [e]
    exact rget_arg1 a zs.length cap w h
end Go.Proofs.Ytadnflaocgmfgaa
