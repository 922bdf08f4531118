import Derived.Test.YtemacdimdpnkeaaGreatDoorB16
import Derived.Test.YtemacdimdpnkeaaGreatDoorB14
import Derived.Test.YtemacdimdpnkeaaGreatDoorB10
import Derived.Test.YtemacdimdpnkeaaGreatDoorB2
import Derived.Shelf.RegionOpen
namespace Go.Proofs.YtemacdimdpnkeaaGreatDoor
set_option maxRecDepth 20000
open Go.RowKit Go.Shelf
set_option linter.unusedVariables false
set_option linter.unusedSimpArgs false
attribute [local go_sem] Oper.semAt_some
theorem HdPost.no' {w : World} {L : List ItemD} {e : Ending} {w' : World} (h : HdPost w L e w') (hx : shExpr svd L = none) : Below w.heap.size w w' ∧ ∃ v, e = .returned (.tuple #[v, .bool false]) := by
  obtain ⟨h1, h2⟩ := h
  refine ⟨h1, ?_⟩
  have h3 := heads_expr (sv := svd) L
  cases hq : headsE L 0 (List.replicate L.length []) [] with
  | none => rw [hq] at h2; exact h2
  | some r =>
    obtain ⟨A, P⟩ := r
    rw [hq] at h2 h3
    match P, h2, h3 with
    | [], h2, _ => exact h2
    | [s], _, h3 => have h4 : shExpr svd L = some (laidS svd A L 0) := h3; rw [hx] at h4; cases h4
    | _ :: _ :: _, h2, _ => exact h2
theorem HdPost.yes' {w : World} {L : List ItemD} {e : Ending} {w' : World} {s : Str} (h : HdPost w L e w') (hx : shExpr svd L = some s) : Below w.heap.size w w' ∧ ∃ k vals A, e = .returned (.tuple #[.slice (some ⟨k, 0, none⟩) L.length L.length, .bool true]) ∧ Ahd w' w.heap.size k L.length vals A ∧ s = laidS svd A L 0 := by
  obtain ⟨h1, h2⟩ := h
  refine ⟨h1, ?_⟩
  have h3 := heads_expr (sv := svd) L
  cases hq : headsE L 0 (List.replicate L.length []) [] with
  | none => rw [hq] at h3; have h4 : shExpr svd L = none := h3; rw [hx] at h4; cases h4
  | some r =>
    obtain ⟨A, P⟩ := r
    rw [hq] at h2 h3
    match P, h2, h3 with
    | [], _, h3 => have h4 : shExpr svd L = none := h3; rw [hx] at h4; cases h4
    | [s0], h2, h3 =>
      have h4 : shExpr svd L = some (laidS svd A L 0) := h3
      obtain ⟨k, vals, e1, e2⟩ := h2
      exact ⟨k, vals, A, e1, e2, Option.some.inj (hx.symm.trans h4)⟩
    | _ :: _ :: _, _, h3 => have h4 : shExpr svd L = none := h3; rw [hx] at h4; cases h4
set_option maxHeartbeats 4000000 in
theorem expr_no {B K b : Nat} (hK : PutC K) (zs : Str) (v : Value) (L : List ItemD) (w : World) (h1 : SlW 5 w (fun k => k < B) v (L.map clI)) (hb : Bd w B b zs) (hl : L.length ≤ 100000) (hx : shExpr svd L = none) :
    Calls Tryz.prog 18 #[pv K b, v] w (Lays1 B b w zs) := by
  obtain ⟨a1, c1, rfl⟩ := h1.shape
  rw [List.length_map] at *
  refine (callsIn_wide (n := 3)).1 ?_
  have HS := h1.keep (P := fun _ k => k < B) (k := 4) (stays_below ((At.refl hb).alloc (.cells #[pv K b] 90)).bel)
  have CH := heads_any _ L (w.alloc (.cells #[pv K b] 90)) HS hl
  have HA : Hid (At w B b (w.alloc (.cells #[pv K b] 90)) zs) := (At.refl hb).alloc _
  have HX : Hid (shExpr svd L = none) := hx
  clear hx h1 HS hb
  unfold pv at *
  refine callsIn_of_wp_marks Tryz.func18 rfl trivial ?_ rfl
  simp only [Tryz.ntmps18, List.size_toArray, List.length_cons, List.length_nil, Nat.reduceAdd, Nat.reduceSub, Array.replicate_succ, Array.replicate_zero, List.push_toArray, List.append_toArray, List.nil_append, List.cons_append]
  gi_wp2_with (refine ⟨trivial, ?_⟩; gi_at_call 34; refine (callsIn_wide.2 CH).mono ?_; intro e w2 hh; obtain ⟨hb2, v2, rfl⟩ := hh.no' HX.out; have H2 : Hid (At w B b w2 zs) := HA.out.below hb2; clear hh hb2)
  exact ⟨.tuple #[], results_none rfl _ _ _, rfl, H2.out⟩
theorem Bd.other {w : World} {B b k : Nat} {z : Str} (h : Bd w B b z) {o : Obj} (hk : w.heap[k]? = some o) (hc : o.isCells = false) : Apart w b k := by
  obtain ⟨p, v, h1, h2, h3, h4⟩ := h.get
  refine ⟨fun e => ?_, fun p' v' T fz e e2 => ?_⟩
  · subst e
    rw [h2] at hk
    cases hk
    cases hc
  · rw [h2] at e
    obtain ⟨e3, -⟩ := Obj.cells.inj (Option.some.inj e)
    obtain ⟨-, e4⟩ : p = p' ∧ v = v' := by simpa using e3
    subst e4
    rcases h3.2 with ⟨rfl, _⟩ | ⟨g, cap, cur, fz', rfl, _, hg, _⟩
    · simp [Value.ownBlock] at e2
    · have : g = k := by simpa [Value.ownBlock] using e2
      subst this
      rw [hg] at hk
      cases hk
      cases hc
theorem lt_of_some {w : World} {k : Nat} {o : Obj} (h : w.heap[k]? = some o) : k < w.heap.size := by
  rcases Nat.lt_or_ge k w.heap.size with h' | h'
  · exact h'
  · simp [Array.getElem?_eq_none h'] at h
theorem Marks.at {H B b : Nat} {w W : World} {z z' : Str} {ds : List Deferred} (ha : At w B b W z') (hb : Bd w B b z) (hm : Marks H w ds) : Marks H W ds :=
  hm.kept fun D o _ ho hc => .inl (((ha.fb.2 D (lt_of_some ho) (hb.other ho hc)).1).trans ho)
theorem Marks.lt {H : Nat} {w : World} : ∀ {ds : List Deferred}, Marks H w ds → ∀ d ∈ ds, ∀ D, d.target = .collected D → D < w.heap.size
  | [], _, d, hd, _, _ => by cases hd
  | d0 :: ds, ⟨⟨D0, h1, h2, h3, h4⟩, h5⟩, d, hd, D, e => by
    rcases List.mem_cons.1 hd with rfl | hd
    · rw [h1] at e
      cases e
      exact lt_of_some h3
    · exact h5.lt d hd D e
theorem Marks.cons {H D : Nat} {w W : World} {ds : List Deferred} (hm : Marks H W ds) (hw : Marks H w ds) (hH : H ≤ D) (hD : W.heap[D]? = some (.deferred (some []))) (hlt : w.heap.size ≤ D) : Marks H W ({ target := .collected D, args := #[] } :: ds) :=
  ⟨⟨D, rfl, hH, hD, fun d hd e => by have := hw.lt d hd D e; omega⟩, hm⟩
theorem laid_take {L : List ItemD} {i : Nat} (A : List (List Int)) (h : i < L.length) : laidS svd A (L.take (i + 1)) 0 = laidS svd A (L.take i) 0 ++ placeS svd i (L.getD i i0) (A.getD i []) := by
  rw [List.take_succ_eq_append_getElem h, laid_app, List.length_take, Nat.min_eq_left (by omega), List.getD_eq_getElem?_getD, List.getElem?_eq_getElem h]
  simp [laidS]
theorem laid_le (L : List ItemD) (A : List (List Int)) (i : Nat) : (laidS svd A (L.take i) 0).length ≤ (laidS svd A L 0).length := by
  conv => rhs; rw [← List.take_append_drop i L, laid_app, List.length_append]
  omega
theorem ops_len : ∀ l : List Int, ((l.map opS).flatten).length ≤ 3 * l.length ∧ 2 * l.length ≤ ((l.map opS).flatten).length
  | [] => by simp
  | k :: l => by
    obtain ⟨h1, h2⟩ := ops_len l
    have h3 : (opS k).length ≤ 3 ∧ 2 ≤ (opS k).length := by
      unfold opS sgS
      repeat' split
      all_goals simp
    simp only [List.map_cons, List.flatten_cons, List.length_append, List.length_cons]
    omega
theorem ownF_apart {w w2 : World} {B b k : Nat} {z : Str} (h : Bd w B b z) (hb : Below w.heap.size w w2) (hk : w.heap.size ≤ k) : Apart w2 b k := by
  have h1 := h.new hk
  exact ⟨h1.1, fun p v T fz e => h1.2 p v T fz (by rw [← hb.block b h.lt]; exact e)⟩
theorem keeps_of {W W' : World} {B b : Nat} {z z' : Str} (h : At W B b W' z') (hb : Bd W B b z) (H : Nat) : KeepsFrom H W W' := ⟨h.fb.1, fun k o _ hk hc => (h.fb.2 k (lt_of_some hk) (hb.other hk hc)).1.trans hk⟩
set_option maxHeartbeats 4000000 in
theorem expr_yes {B K b : Nat} (hK : PutC K) (zs : Str) (v : Value) (L : List ItemD) (w : World) (h1 : SlW 5 w (fun k => k < B) v (L.map clI)) (hb : Bd w B b zs) (hl : L.length ≤ 100000) {s : Str} (hx : shExpr svd L = some s) (hlen : zs.length + s.length ≤ 1000000000) (hf : fE L) (hB : 5 ≤ B) (hV : Vars w) :
    Calls Tryz.prog 18 #[pv K b, v] w (Lays1 B b w (zs ++ s)) := by
  obtain ⟨a1, c1, rfl⟩ := h1.shape
  rw [List.length_map] at *
  refine (callsIn_wide (n := 3)).1 ?_
  have HS := h1.keep (P := fun _ k => k < B) (k := 4) (stays_below ((At.refl hb).alloc (.cells #[pv K b] 90)).bel)
  have CH := heads_any _ L (w.alloc (.cells #[pv K b] 90)) HS hl
  have HA : Hid (At w B b (w.alloc (.cells #[pv K b] 90)) zs) := (At.refl hb).alloc _
  have HX : Hid (shExpr svd L = some s) := hx
  obtain ⟨-, -, m1, -⟩ := h1.row
  have R1 : Hid (∀ i, i < L.length → ∃ b1 o1, a1 = some ⟨b1, o1, none⟩ ∧ b1 < B ∧ ∀ j, j < 5 → w.cell? ⟨b1, o1 + (i * 5 + j), none⟩ = ((L.map clI).getD i [])[j]?) := by
    intro i hi
    obtain ⟨a', cap', e1, e2, e3, e4⟩ := h1
    obtain ⟨rfl, -, -⟩ := Value.slice.inj e1
    rcases e4 with e4 | ⟨b1, o1, e, hk, hp, hc⟩
    · simp at e4; subst e4; simp at hi
    · exact ⟨b1, o1, e, hp, fun j hj => hc i j (by simpa using hi) hj⟩
  have HLN : Hid (zs.length + s.length ≤ 1000000000) := hlen
  have HF : Hid (fE L) := hf
  have HV : Hid (Vars w) := hV
  have HBD : Hid (Bd (w.alloc (.cells #[pv K b] 90)) B b zs) := hb.alloc _
  have hbw : b < w.heap.size := hb.lt
  have hBw : B ≤ w.heap.size := by have := hb.le; omega
  have HPX : Hid (Apart w b w.heap.size) := hb.new (Nat.le_refl _)
  have hnn : (L.length : Int) ≤ 9223372036854775807 := by omega
  clear hx HS hlen hf hV hb h1
  unfold pv at *
  refine callsIn_of_wp_marks Tryz.func18 rfl trivial ?_ rfl
  simp only [Tryz.ntmps18, List.size_toArray, List.length_cons, List.length_nil, Nat.reduceAdd, Nat.reduceSub, Array.replicate_succ, Array.replicate_zero, List.push_toArray, List.append_toArray, List.nil_append, List.cons_append]
  gi_wp2_with (refine ⟨trivial, ?_⟩; gi_at_call 34; refine (callsIn_wide.2 CH).mono ?_; intro e w2 hh; obtain ⟨hb2, k, vals, A, rfl, hah, hsx⟩ := hh.yes' HX.out; have H2 : Hid (At w B b w2 zs) := HA.out.below hb2; clear hh)
  have HB2 : Hid (Below (w.alloc (.cells #[.func (.func K) #[] #[.pointer (some ⟨b, 0, none⟩)]] 90)).heap.size (w.alloc (.cells #[.func (.func K) #[] #[.pointer (some ⟨b, 0, none⟩)]] 90)) w2) := hb2
  have HAH : Hid (Ahd w2 (w.alloc (.cells #[.func (.func K) #[] #[.pointer (some ⟨b, 0, none⟩)]] 90)).heap.size k L.length vals A) := hah
  have HSX : Hid (s = laidS svd A L 0) := hsx
  have HBW2 : Hid (B ≤ w2.heap.size) := by have h := hb2.size; simp at h; show B ≤ w2.heap.size; omega
  have hxw2 : w.heap.size < w2.heap.size := by have h := hb2.size; simp at h; omega
  -- what lies behind the entry, and stays
  have HPUT : Hid (∀ W z, At w2 B b W z → W.cell? ⟨w.heap.size, 0, none⟩ = some (.func (.func K) #[] #[.pointer (some ⟨b, 0, none⟩)])) := by
    intro W z hW
    have h1 : w2.cell? ⟨w.heap.size, 0, none⟩ = some (.func (.func K) #[] #[.pointer (some ⟨b, 0, none⟩)]) := by
      rw [HB2.out.cell (p := ⟨w.heap.size, 0, none⟩) (by simp)]; go_simp
    refine hW.fb.cell hxw2 ?_ h1
    have h2 := HPX.out.alloc hbw (.cells #[.func (.func K) #[] #[.pointer (some ⟨b, 0, none⟩)]] 90)
    exact ⟨h2.1, fun p v T fz e => h2.2 p v T fz (by rw [← HB2.out.block b (by simp; omega)]; exact e)⟩
  have HROW : Hid (∀ i, i < L.length → ∃ ai ni ci g, vals.getD i nilS0 = .slice ai ni ci ∧ ∀ W z, At w2 B b W z → W.cell? ⟨k, i, none⟩ = some (.slice ai ni ci) ∧ RowK W (.slice ai ni ci) (A.getD i []) g ∧ k < W.heap.size ∧ Apart W b g) := by
    intro i hi
    have hr := HAH.out.rows i hi
    obtain ⟨hc, -, hkl⟩ := HAH.out.cell hi
    have hka : Apart w2 b k := by
      refine ownF_apart HBD.out HB2.out ?_
      rcases HAH.out.own.2 with ⟨e, _⟩ | ⟨g, cap, cur, e, hbg, _⟩
      · cases e
      · have : k = g := by simpa using (Value.slice.inj e).1
        omega
    rcases hr.2 with ⟨e, h0⟩ | ⟨g, cap, cur, e, hbg, hg, hnc, hcm, hcs, ht⟩
    · refine ⟨none, 0, 0, 0, e, fun W z hW => ⟨?_, .inl ⟨rfl, List.length_eq_zero_iff.1 h0⟩, Nat.lt_of_lt_of_le hkl hW.fb.1, hW.bd.apart (by omega)⟩⟩
      rw [← e]; exact hW.fb.cell hkl hka hc
    · refine ⟨some ⟨g, 0, none⟩, (A.getD i []).length, cap, g, e, fun W z hW => ?_⟩
      have hga : Apart w2 b g := ownF_apart HBD.out HB2.out hbg
      have hgl := lt_of_some hg
      refine ⟨by rw [← e]; exact hW.fb.cell hkl hka hc, .inr ⟨cap, cur, (0, 0), rfl, ((hW.fb.2 g hgl hga).1).trans hg, fun j hj => ?_⟩, Nat.lt_of_lt_of_le hkl hW.fb.1, (hW.fb.2 g hgl hga).2⟩
      have h2 : (cur.toList.take ((A.getD i []).length * 1))[j]? = some (.int .u8 ((A.getD i []).getD j 0)) := by
        rw [ht, List.getElem?_map, List.getD_eq_getElem?_getD (l := A.getD i []), List.getElem?_eq_getElem hj]; rfl
      rw [List.getElem?_take_of_lt (by omega)] at h2
      simpa using h2
  clear hb2 hah hsx CH HAH HPX HA
  have eK : ∀ (args : Array Value) (w : World), (callFunc K args).run Tryz.prog w = .ok (.enter K args) w := hK.1
  refine wpIn_loop (fun a' W => ∃ (ds : List Deferred) (u6 u7 u9 u19 u20 u21 u22 u23 u24 u25 u26 u27 u28 u29 u30 u31 u32 u33 u34 u35 u36 u37 u38 u39 u40 u41 u42 u43 u44 u45 u46 u47 u48 u49 u50 u51 : Value), (∃ i : Nat, i ≤ L.length ∧ At w2 B b W (zs ++ laidS svd A (L.take i) 0) ∧ Marks w2.heap.size W ds ∧ u19 = .int .i64 i) ∧ a' = { tmps := #[.func (.func K) #[] #[.pointer (some ⟨b, 0, none⟩)], .slice a1 L.length c1, .pointer (some ⟨w.heap.size, 0, none⟩), undef, .slice (some ⟨k, 0, none⟩) L.length L.length, .bool true, u6, u7, undef, u9, .tuple #[.slice (some ⟨k, 0, none⟩) L.length L.length, .bool true], .slice a1 L.length c1, .tuple #[.slice (some ⟨k, 0, none⟩) L.length L.length, .bool true], .slice (some ⟨k, 0, none⟩) L.length L.length, .bool true, .bool true, .bool false, .slice a1 L.length c1, .int .i64 L.length, u19, u20, u21, u22, u23, u24, u25, u26, u27, u28, u29, u30, u31, u32, u33, u34, u35, u36, u37, u38, u39, u40, u41, u42, u43, u44, u45, u46, u47, u48, u49, u50, u51], defers := ds }) (fun a' _ => (L.length - intOf (a'.tmps.getD 19 undef)).toNat) ?_ ?_
  · repeat apply Exists.intro
    refine ⟨⟨0, Nat.zero_le _, ?_, ?_, rfl⟩, rfl⟩
    · exact At.refl (by rw [List.take_zero]; have := H2.out.bd; simpa [laidS] using this)
    · trivial
  · intro a' wr hinv
    obtain ⟨ds, u6, u7, u9, u19, u20, u21, u22, u23, u24, u25, u26, u27, u28, u29, u30, u31, u32, u33, u34, u35, u36, u37, u38, u39, u40, u41, u42, u43, u44, u45, u46, u47, u48, u49, u50, u51, ⟨i, hi, hat, hmk, rfl⟩, rfl⟩ := hinv
    try dsimp only
    have HM : Hid (Marks w2.heap.size wr ds) := hmk
    have HZ0 : Hid (At w2 B b wr (zs ++ laidS svd A (L.take i) 0)) := hat
    clear hmk
    by_cases hlt : i < L.length
    · have hiz : (i : Int) < L.length := by omega
      obtain ⟨b1, o1, rfl, hb1, q1⟩ := R1.out i hlt
      rw [getD_map clI L i i0 hlt] at q1
      obtain ⟨x, hx⟩ : ∃ x, x = L.getD i i0 := ⟨_, rfl⟩
      rw [← hx] at q1
      have hfx : fV x.x := HF.out x (by rw [hx]; exact getD_mem L i i0 hlt)
      have HX2 : Hid (x = L.getD i i0) := hx
      have hbel := (H2.out.trans hat).bel
      have p0 : wr.cell? ⟨b1, o1 + i * 5, none⟩ = some (.int .u8 x.k) := (hbel.cell (p := ⟨b1, o1 + i * 5, none⟩) hb1).trans (q1 0 (by decide))
      have p1 : wr.cell? ⟨b1, o1 + i * 5 + 1, none⟩ = some (.int .u8 x.x.k) := (hbel.cell (p := ⟨b1, o1 + i * 5 + 1, none⟩) hb1).trans (q1 1 (by decide))
      have p2 : wr.cell? ⟨b1, o1 + i * 5 + 2, none⟩ = some (.int .i64 x.x.n) := (hbel.cell (p := ⟨b1, o1 + i * 5 + 2, none⟩) hb1).trans (q1 2 (by decide))
      have p3 : wr.cell? ⟨b1, o1 + i * 5 + 3, none⟩ = some (.string (st x.x.s)) := (hbel.cell (p := ⟨b1, o1 + i * 5 + 3, none⟩) hb1).trans (q1 3 (by decide))
      have p4 : wr.cell? ⟨b1, o1 + i * 5 + 4, none⟩ = some (.string (st x.v)) := (hbel.cell (p := ⟨b1, o1 + i * 5 + 4, none⟩) hb1).trans (q1 4 (by decide))
      clear q1 hx hbel
      have hxr : w.heap.size < wr.heap.size := Nat.lt_of_lt_of_le hxw2 hat.fb.1
      have hbr : b < wr.heap.size := hat.bd.lt
      have HNX : Hid (Apart wr b wr.heap.size) := hat.bd.new (Nat.le_refl _)
      obtain ⟨z, hz⟩ : ∃ z, z = zs ++ laidS svd A (L.take i) 0 := ⟨_, rfl⟩
      rw [← hz] at hat
      have HZ : Hid (At w2 B b wr z) := hat
      have HZQ : Hid (z = zs ++ laidS svd A (L.take i) 0) := hz
      have HPL : Hid (z.length + (placeS svd i x (A.getD i [])).length ≤ 1000000000) := by
        have h1 := laid_le L A (i + 1)
        rw [laid_take A hlt, ← HX2.out, List.length_append] at h1
        have h2 := HLN.out
        rw [HSX.out] at h2
        show z.length + _ ≤ 1000000000
        rw [hz, List.length_append]
        omega
      have HNEXT : Hid (z ++ placeS svd i x (A.getD i []) = zs ++ laidS svd A (L.take (i + 1)) 0) := by
        show z ++ _ = _
        rw [laid_take A hlt, ← HX2.out, hz, List.append_assoc]
      have pp := HPUT.out _ _ hat
      clear hat hz HZ0
      have CSG := fun W => sgn_any x.k W
      by_cases hsg : sgS x.k = []
      · have HPS : Hid (placeS svd i x (A.getD i []) = (if i > 0 then [32] else []) ++ (((A.getD i []).reverse.map opS).flatten ++ itemS svd x)) := if_neg (by simp [hsg])
        have hs1 : (st (sgS x.k)).toList.isEmpty = true := by rw [st_emp, hsg]; rfl
        generalize sgS x.k = sg at *
        clear hsg
        obtain ⟨ai, ni, ci, g, hvi, hrow⟩ := HROW.out i hlt
        have HRW : Hid (∀ W z, At w2 B b W z → W.cell? ⟨k, i, none⟩ = some (.slice ai ni ci) ∧ RowK W (.slice ai ni ci) (A.getD i []) g ∧ k < W.heap.size ∧ Apart W b g) := hrow
        clear hvi hrow
        have AI : Hid (At w2 B b (wr.alloc (.cells #[.int .u8 x.k, .int .u8 x.x.k, .int .i64 x.x.n, .string (st x.x.s), .string (st x.v)] 38)) z) := HZ.out.alloc _
        have pk0 := (HRW.out _ _ AI.out).1
        have pkl := (HRW.out _ _ HZ.out).2.2.1
        have ppi := HPUT.out _ _ AI.out
        by_cases hi0 : (0 : Int) < i
        · have hip : i > 0 := by omega
          gi_wp2_with (first | (refine ⟨trivial, ?_⟩; gi_at_call 35; refine (callsIn_wide.2 (CSG _)).mono ?_; rintro e w' ⟨rfl, hw'⟩; obtain rfl := hw'.symm; clear CSG) | (refine ⟨trivial, ?_⟩; gi_at_call 36; refine (back_in Fence.wide _ trivial rfl _ _ _ _).mono ?_; rintro e w4 ⟨rfl, hw4⟩; obtain rfl := hw4.symm) | (refine ⟨trivial, ?_⟩; refine (callsIn_wide.2 (put1 hK AI.out.bd [32] (by have h1 := HPL.out; have h2 := HPS.out; rw [h2] at h1; simp only [List.length_append, List.length_cons, List.length_nil] at h1 ⊢; omega) (by simp))).mono ?_; rintro e w3 ⟨rfl, hh⟩; have H3 : Hid (At w2 B b w3 (z ++ [32])) := AI.out.trans hh; have H3i : Hid (At (wr.alloc (.cells #[.int .u8 x.k, .int .u8 x.x.k, .int .i64 x.x.n, .string (st x.x.s), .string (st x.v)] 38)) B b w3 (z ++ [32])) := hh; clear hh; have pk3 := (HRW.out _ _ H3.out).1; have pkl3 := (HRW.out _ _ H3.out).2.2.1))
          have H4 : Hid (At w2 B b (w3.alloc (.cells #[.slice ai ni ci] 81)) (z ++ [32])) := H3.out.alloc _
          have H4i : Hid (At (wr.alloc (.cells #[.int .u8 x.k, .int .u8 x.x.k, .int .i64 x.x.n, .string (st x.x.s), .string (st x.v)] 38)) B b (w3.alloc (.cells #[.slice ai ni ci] 81)) (z ++ [32])) := H3i.out.alloc _
          have HNL : Hid ((A.getD i []).length ≤ 500000000) := by
            have h1 := HPL.out
            have h2 := HPS.out
            have h3 := (ops_len (A.getD i []).reverse).2
            rw [h2, List.length_append, List.length_append] at h1
            rw [List.length_reverse] at h3
            show (A.getD i []).length ≤ 500000000
            omega
          have HZN : Hid (z.length + 2 * (A.getD i []).length ≤ 1000000000) := by
            have h1 := HPL.out
            have h2 := HPS.out
            have h3 := (ops_len (A.getD i []).reverse).2
            rw [h2, List.length_append, List.length_append] at h1
            rw [List.length_reverse] at h3
            show z.length + 2 * (A.getD i []).length ≤ 1000000000
            omega
          have HN0 : Hid (Apart (w3.alloc (.cells #[.slice ai ni ci] 81)) b w3.heap.size) := (H3.out.bd.new (by simp)).alloc H3.out.bd.lt _
          have hn4 : w3.heap.size < (w3.alloc (.cells #[.slice ai ni ci] 81)).heap.size := by simp
          have hB4 : B ≤ (w3.alloc (.cells #[.slice ai ni ci] 81)).heap.size := by have h1 := H4.out.bd.le; have h2 := H4.out.bd.lt; omega
          refine wpIn_rangeFunc_ownG rfl (by decide) (gf := 69) (lb := #[.pointer (some ⟨w3.heap.size, 0, none⟩)]) rfl trivial (enters_of Tryz.func69 (by kernel_rfl) rfl)
            (back_stops Fence.wide (3 - 1) trivial rfl (by decide) w3.heap.size g (.slice ai ni ci) (A.getD i []) (by have := HNL.out; omega) (w3.alloc (.cells #[.slice ai ni ci] 81)) 81 (0, 0) (new_at (by simp)) (HRW.out _ _ H4.out).2.1) (fun h k => KpQ.trans h k) (fun W l o o' _ h h2 _ => KpQ.putObj W l o o' h h2) (Below.refl _ _) (fun _ => rfl)
            (fun pre W => At (w3.alloc (.cells #[.slice ai ni ci] 81)) B b W ((z ++ [32]) ++ ((pre.map Prod.snd).map opS).flatten)) (fun _ _ _ => False) (At.ownFrom (fun pre => (z ++ [32]) ++ ((pre.map Prod.snd).map opS).flatten) hB4) (fun _ _ _ _ _ hs _ _ => hs)
            (by have := At.refl H4.out.bd; simpa using this)
            (fun x9 => { tmps := #[.func (.func K) #[] #[.pointer (some ⟨b, 0, none⟩)], .slice (some ⟨b1, o1, none⟩) L.length c1, .pointer (some ⟨w.heap.size, 0, none⟩), undef, .slice (some ⟨k, 0, none⟩) L.length L.length, .bool true, .int .i64 i, .pointer (some ⟨wr.heap.size, 0, none⟩), undef, .int .u8 x9.2, .tuple #[.slice (some ⟨k, 0, none⟩) L.length L.length, .bool true], .slice (some ⟨b1, o1, none⟩) L.length c1, .tuple #[.slice (some ⟨k, 0, none⟩) L.length L.length, .bool true], .slice (some ⟨k, 0, none⟩) L.length L.length, .bool true, .bool true, .bool false, .slice (some ⟨b1, o1, none⟩) L.length c1, .int .i64 L.length, .int .i64 i, .bool true, .int .i64 i, .pointer (some ⟨b1, o1 + i * 5, none⟩), .agg #[.int .u8 x.k, .int .u8 x.x.k, .int .i64 x.x.n, .string (st x.x.s), .string (st x.v)], .pointer (some ⟨wr.heap.size, 0, none⟩), .int .u8 x.k, .string (st sg), .bool false, u28, u29, u30, .int .i64 i, .bool true, .func (.func K) #[] #[.pointer (some ⟨b, 0, none⟩)], .slice (some ⟨wr.heap.size + 1, 0, none⟩) 1 1, .tuple #[], .slice (some ⟨k, 0, none⟩) L.length L.length, .int .i64 i, .pointer (some ⟨k, i, none⟩), .slice ai ni ci, .func (.func 69) #[] #[.pointer (some ⟨w3.heap.size, 0, none⟩)], .int .i64 (x9.1 : Int), .int .u8 x9.2, u43, u44, u45, u46, u47, u48, u49, u50, u51], defers := [] }) ?assign ?body ?done ?stop
          case assign =>
            intro l x9 W K9 hK9
            gi_wp2
            exact hK9
          case body =>
            rintro l pre x9 W hI hpl
            have pp9 := HPUT.out W _ (H4.out.trans hI)
            have HI : Hid (At (w3.alloc (.cells #[.slice ai ni ci] 81)) B b W ((z ++ [32]) ++ ((pre.map Prod.snd).map opS).flatten)) := hI
            have hlen9 : ((z ++ [32]) ++ ((pre.map Prod.snd).map opS).flatten).length + 3 ≤ 2000000000 := by
              have h1 := HPL.out
              have h2 := (ops_len (pre.map Prod.snd)).1
              have h3 := HNL.out
              have h4 := hpl
              have h5 := HZN.out
              rw [List.length_map] at h2
              simp only [List.length_append, List.length_cons, List.length_nil] at h1 ⊢
              omega
            have hmx : Tryz.prog.follows .mixedOrders = true := by kernel_rfl
            have hd9 : (1 : Nat) ≤ 3 - 1 - 1 := by omega
            have hbW : b < W.heap.size := hI.bd.lt
            have hxW : w.heap.size < W.heap.size := Nat.lt_of_lt_of_le hxw2 (H4.out.trans hI).fb.1
            have HID : Hid (At (w3.alloc (.cells #[.slice ai ni ci] 81)) B b W.drew ((z ++ [32]) ++ ((pre.map Prod.snd).map opS).flatten)) := hI.drew
            have HWD : Hid (At W B b W.drew ((z ++ [32]) ++ ((pre.map Prod.snd).map opS).flatten)) := (At.refl hI.bd).drew
            have HSG : Hid ((sgS x9.2).length ≤ 1) := by show (sgS x9.2).length ≤ 1; unfold sgS; (repeat' split) <;> simp
            have HL9 : Hid (((z ++ [32]) ++ ((pre.map Prod.snd).map opS).flatten).length + 3 ≤ 2000000000) := hlen9
            clear hlen9 hI
            gi_wp2
            gi_region_with_o (first | (refine ⟨trivial, ?_⟩; gi_at_call 35; refine (CallsIn.inRound l (callsIn_wide.2 (sgn_any x9.2 _))).mono ?_; rintro e w' ⟨rfl, hw'⟩; obtain rfl := hw'.symm) | (refine ⟨trivial, ?_⟩; refine (CallsIn.inRound l (callsIn_wide.2 (put3 hK HID.out.bd [40] (sgS x9.2) [32] (by have h1 := HL9.out; have h2 := HSG.out; simp only [List.length_append, List.length_cons, List.length_nil] at h1 ⊢; omega) (by simp)))).mono ?_; rintro e w5 ⟨rfl, hh⟩; have H5 : Hid (At W B b w5 _) := HWD.out.trans hh; clear hh))
            all_goals gi_wp2
            all_goals
              have H5' := H5.out
              refine ⟨keeps_of H5' HI.out.bd _, ?_, ?_⟩
              · intro k9 cs9 T9 fz9 hq hk
                have ha : Apart W b k9 := by
                  rcases hq with rfl | rfl
                  · exact (HI.out.fb.2 _ hn4 HN0.out).2
                  · exact (HRW.out _ _ (H4.out.trans HI.out)).2.2.2
                exact ((H5'.fb.2 k9 (lt_of_some hk) ha).1).trans hk
              · have h9 := HI.out.trans H5'
                have e9 : (z ++ [32]) ++ (((pre ++ [x9]).map Prod.snd).map opS).flatten = ((z ++ [32]) ++ ((pre.map Prod.snd).map opS).flatten) ++ ([40] ++ (sgS x9.2 ++ [32])) := by simp [opS]
                rw [← e9] at h9
                first | exact h9 | simpa using h9
          case done =>
            rintro D xs W hD rfl hI hK9
            have hitem := (H4i.out.trans hI)
            have hall := H4.out.trans hI
            have HW : Hid (At w2 B b W ((z ++ [32]) ++ (((A.getD i []).reverse).map opS).flatten)) := by have := hall; rw [uptoB_all] at this; exact this
            have HWi : Hid (At (wr.alloc (.cells #[.int .u8 x.k, .int .u8 x.x.k, .int .i64 x.x.n, .string (st x.x.s), .string (st x.v)] 38)) B b W ((z ++ [32]) ++ (((A.getD i []).reverse).map opS).flatten)) := by have := hitem; rw [uptoB_all] at this; exact this
            have f0 := hitem.fb.cell (k := wr.heap.size) (off := 0) (v := .int .u8 x.k) (by simp) (HNX.out.alloc hbr _) (by simp)
            have f1 := hitem.fb.cell (k := wr.heap.size) (off := 1) (v := .int .u8 x.x.k) (by simp) (HNX.out.alloc hbr _) (by simp)
            have f2 := hitem.fb.cell (k := wr.heap.size) (off := 2) (v := .int .i64 x.x.n) (by simp) (HNX.out.alloc hbr _) (by simp)
            have f3 := hitem.fb.cell (k := wr.heap.size) (off := 3) (v := .string (st x.x.s)) (by simp) (HNX.out.alloc hbr _) (by simp)
            have f4 := hitem.fb.cell (k := wr.heap.size) (off := 4) (v := .string (st x.v)) (by simp) (HNX.out.alloc hbr _) (by simp)
            have pp9 := HPUT.out W _ hall
            have hbel9 := (H2.out.trans hall).bel
            have HK9 : Hid (W.heap[D]? = some (.deferred (some []))) := hK9
            have HD : Hid ((w3.alloc (.cells #[.slice ai ni ci] 81)).heap.size ≤ D) := hD
            have hxW : w.heap.size < W.heap.size := Nat.lt_of_lt_of_le hxw2 hall.fb.1
            have hrW : wr.heap.size < W.heap.size := by have h := hitem.fb.1; simp at h; omega
            have HV9 : Hid (Vars W) := HV.out.at hB hbel9
            clear hitem hall hI hK9 hbel9 hD
            gi_wp2_with (refine ⟨trivial, ?_⟩; gi_at_call 37; refine (callsIn_wide.2 (item_lay hK _ x _ HW.out.bd (by have h1 := HPL.out; rw [HPS.out, if_pos hip] at h1; simp only [List.length_append, List.length_cons, List.length_nil, List.nil_append] at h1 ⊢; omega) hfx hB HV9.out)).mono ?_; rintro e w6 ⟨rfl, hh⟩; have H6 : Hid (At W B b w6 _) := hh; clear hh)
            have H6' := H6.out
            have HR6 : Hid (At wr B b w6 _) := (((At.refl HZ.out.bd).alloc (.cells #[.int .u8 x.k, .int .u8 x.x.k, .int .i64 x.x.n, .string (st x.x.s), .string (st x.v)] 38)).trans (HWi.out.trans H6'))
            refine ⟨⟨{ target := .collected D, args := #[] } :: ds, _, _, _, _, _, _, _, _, _, _, _, _, _, _, _, _, _, _, _, _, _, _, _, _, _, _, _, _, _, _, _, _, _, _, _, _, ⟨i + 1, ?_, ?_, ?_, ?_⟩, rfl⟩, ?_⟩
            · omega
            · rw [← HNEXT.out, HPS.out, if_pos hip]
              have := HW.out.trans H6'
              simpa only [List.append_assoc, List.nil_append] using this
            · refine (HM.out.at HR6.out HZ.out.bd).cons HM.out ?_ ?_ ?_
              · have h1 := HD.out; have h2 := H4.out.fb.1; omega
              · exact ((H6'.fb.2 D (lt_of_some HK9.out) (HW.out.bd.other HK9.out rfl)).1).trans HK9.out
              · have h1 := HD.out; have h2 := H4i.out.fb.1; simp at h2; omega
            · simp
            · simp [intOf]; omega
          case stop =>
            rintro D c pre W _ _ h _
            exact h.elim
        · have hip : ¬ i > 0 := by omega
          gi_wp2_with (first | (refine ⟨trivial, ?_⟩; gi_at_call 35; refine (callsIn_wide.2 (CSG _)).mono ?_; rintro e w' ⟨rfl, hw'⟩; obtain rfl := hw'.symm; clear CSG) | (refine ⟨trivial, ?_⟩; gi_at_call 36; refine (back_in Fence.wide _ trivial rfl _ _ _ _).mono ?_; rintro e w4 ⟨rfl, hw4⟩; obtain rfl := hw4.symm))
          have H3 : Hid (At w2 B b (wr.alloc (.cells #[.int .u8 x.k, .int .u8 x.x.k, .int .i64 x.x.n, .string (st x.x.s), .string (st x.v)] 38)) z) := AI.out
          have H3i : Hid (At (wr.alloc (.cells #[.int .u8 x.k, .int .u8 x.x.k, .int .i64 x.x.n, .string (st x.x.s), .string (st x.v)] 38)) B b (wr.alloc (.cells #[.int .u8 x.k, .int .u8 x.x.k, .int .i64 x.x.n, .string (st x.x.s), .string (st x.v)] 38)) z) := At.refl AI.out.bd
          have H4 : Hid (At w2 B b ((wr.alloc (.cells #[.int .u8 x.k, .int .u8 x.x.k, .int .i64 x.x.n, .string (st x.x.s), .string (st x.v)] 38)).alloc (.cells #[.slice ai ni ci] 81)) z) := H3.out.alloc _
          have H4i : Hid (At (wr.alloc (.cells #[.int .u8 x.k, .int .u8 x.x.k, .int .i64 x.x.n, .string (st x.x.s), .string (st x.v)] 38)) B b ((wr.alloc (.cells #[.int .u8 x.k, .int .u8 x.x.k, .int .i64 x.x.n, .string (st x.x.s), .string (st x.v)] 38)).alloc (.cells #[.slice ai ni ci] 81)) z) := H3i.out.alloc _
          have HNL : Hid ((A.getD i []).length ≤ 500000000) := by
            have h1 := HPL.out
            have h2 := HPS.out
            have h3 := (ops_len (A.getD i []).reverse).2
            rw [h2, List.length_append, List.length_append] at h1
            rw [List.length_reverse] at h3
            show (A.getD i []).length ≤ 500000000
            omega
          have HZN : Hid (z.length + 2 * (A.getD i []).length ≤ 1000000000) := by
            have h1 := HPL.out
            have h2 := HPS.out
            have h3 := (ops_len (A.getD i []).reverse).2
            rw [h2, List.length_append, List.length_append] at h1
            rw [List.length_reverse] at h3
            show z.length + 2 * (A.getD i []).length ≤ 1000000000
            omega
          have HN0 : Hid (Apart ((wr.alloc (.cells #[.int .u8 x.k, .int .u8 x.x.k, .int .i64 x.x.n, .string (st x.x.s), .string (st x.v)] 38)).alloc (.cells #[.slice ai ni ci] 81)) b (wr.heap.size + 1)) := (H3.out.bd.new (by simp)).alloc H3.out.bd.lt _
          have hn4 : (wr.heap.size + 1) < ((wr.alloc (.cells #[.int .u8 x.k, .int .u8 x.x.k, .int .i64 x.x.n, .string (st x.x.s), .string (st x.v)] 38)).alloc (.cells #[.slice ai ni ci] 81)).heap.size := by simp
          have hB4 : B ≤ ((wr.alloc (.cells #[.int .u8 x.k, .int .u8 x.x.k, .int .i64 x.x.n, .string (st x.x.s), .string (st x.v)] 38)).alloc (.cells #[.slice ai ni ci] 81)).heap.size := by have h1 := H4.out.bd.le; have h2 := H4.out.bd.lt; omega
          refine wpIn_rangeFunc_ownG rfl (by decide) (gf := 69) (lb := #[.pointer (some ⟨(wr.heap.size + 1), 0, none⟩)]) rfl trivial (enters_of Tryz.func69 (by kernel_rfl) rfl)
            (back_stops Fence.wide (3 - 1) trivial rfl (by decide) (wr.heap.size + 1) g (.slice ai ni ci) (A.getD i []) (by have := HNL.out; omega) ((wr.alloc (.cells #[.int .u8 x.k, .int .u8 x.x.k, .int .i64 x.x.n, .string (st x.x.s), .string (st x.v)] 38)).alloc (.cells #[.slice ai ni ci] 81)) 81 (0, 0) (new_at (by simp)) (HRW.out _ _ H4.out).2.1) (fun h k => KpQ.trans h k) (fun W l o o' _ h h2 _ => KpQ.putObj W l o o' h h2) (Below.refl _ _) (fun _ => rfl)
            (fun pre W => At ((wr.alloc (.cells #[.int .u8 x.k, .int .u8 x.x.k, .int .i64 x.x.n, .string (st x.x.s), .string (st x.v)] 38)).alloc (.cells #[.slice ai ni ci] 81)) B b W (z ++ ((pre.map Prod.snd).map opS).flatten)) (fun _ _ _ => False) (At.ownFrom (fun pre => z ++ ((pre.map Prod.snd).map opS).flatten) hB4) (fun _ _ _ _ _ hs _ _ => hs)
            (by have := At.refl H4.out.bd; simpa using this)
            (fun x9 => { tmps := #[.func (.func K) #[] #[.pointer (some ⟨b, 0, none⟩)], .slice (some ⟨b1, o1, none⟩) L.length c1, .pointer (some ⟨w.heap.size, 0, none⟩), undef, .slice (some ⟨k, 0, none⟩) L.length L.length, .bool true, .int .i64 i, .pointer (some ⟨wr.heap.size, 0, none⟩), undef, .int .u8 x9.2, .tuple #[.slice (some ⟨k, 0, none⟩) L.length L.length, .bool true], .slice (some ⟨b1, o1, none⟩) L.length c1, .tuple #[.slice (some ⟨k, 0, none⟩) L.length L.length, .bool true], .slice (some ⟨k, 0, none⟩) L.length L.length, .bool true, .bool true, .bool false, .slice (some ⟨b1, o1, none⟩) L.length c1, .int .i64 L.length, .int .i64 i, .bool true, .int .i64 i, .pointer (some ⟨b1, o1 + i * 5, none⟩), .agg #[.int .u8 x.k, .int .u8 x.x.k, .int .i64 x.x.n, .string (st x.x.s), .string (st x.v)], .pointer (some ⟨wr.heap.size, 0, none⟩), .int .u8 x.k, .string (st sg), .bool false, u28, u29, u30, .int .i64 i, .bool false, u33, u34, u35, .slice (some ⟨k, 0, none⟩) L.length L.length, .int .i64 i, .pointer (some ⟨k, i, none⟩), .slice ai ni ci, .func (.func 69) #[] #[.pointer (some ⟨wr.heap.size + 1, 0, none⟩)], .int .i64 (x9.1 : Int), .int .u8 x9.2, u43, u44, u45, u46, u47, u48, u49, u50, u51], defers := [] }) ?assign ?body ?done ?stop
          case assign =>
            intro l x9 W K9 hK9
            gi_wp2
            exact hK9
          case body =>
            rintro l pre x9 W hI hpl
            have pp9 := HPUT.out W _ (H4.out.trans hI)
            have HI : Hid (At ((wr.alloc (.cells #[.int .u8 x.k, .int .u8 x.x.k, .int .i64 x.x.n, .string (st x.x.s), .string (st x.v)] 38)).alloc (.cells #[.slice ai ni ci] 81)) B b W (z ++ ((pre.map Prod.snd).map opS).flatten)) := hI
            have hlen9 : (z ++ ((pre.map Prod.snd).map opS).flatten).length + 3 ≤ 2000000000 := by
              have h1 := HPL.out
              have h2 := (ops_len (pre.map Prod.snd)).1
              have h3 := HNL.out
              have h4 := hpl
              have h5 := HZN.out
              rw [List.length_map] at h2
              simp only [List.length_append, List.length_cons, List.length_nil] at h1 ⊢
              omega
            have hmx : Tryz.prog.follows .mixedOrders = true := by kernel_rfl
            have hd9 : (1 : Nat) ≤ 3 - 1 - 1 := by omega
            have hbW : b < W.heap.size := hI.bd.lt
            have hxW : w.heap.size < W.heap.size := Nat.lt_of_lt_of_le hxw2 (H4.out.trans hI).fb.1
            have HID : Hid (At ((wr.alloc (.cells #[.int .u8 x.k, .int .u8 x.x.k, .int .i64 x.x.n, .string (st x.x.s), .string (st x.v)] 38)).alloc (.cells #[.slice ai ni ci] 81)) B b W.drew (z ++ ((pre.map Prod.snd).map opS).flatten)) := hI.drew
            have HWD : Hid (At W B b W.drew (z ++ ((pre.map Prod.snd).map opS).flatten)) := (At.refl hI.bd).drew
            have HSG : Hid ((sgS x9.2).length ≤ 1) := by show (sgS x9.2).length ≤ 1; unfold sgS; (repeat' split) <;> simp
            have HL9 : Hid ((z ++ ((pre.map Prod.snd).map opS).flatten).length + 3 ≤ 2000000000) := hlen9
            clear hlen9 hI
            gi_wp2
            gi_region_with_o (first | (refine ⟨trivial, ?_⟩; gi_at_call 35; refine (CallsIn.inRound l (callsIn_wide.2 (sgn_any x9.2 _))).mono ?_; rintro e w' ⟨rfl, hw'⟩; obtain rfl := hw'.symm) | (refine ⟨trivial, ?_⟩; refine (CallsIn.inRound l (callsIn_wide.2 (put3 hK HID.out.bd [40] (sgS x9.2) [32] (by have h1 := HL9.out; have h2 := HSG.out; simp only [List.length_append, List.length_cons, List.length_nil] at h1 ⊢; omega) (by simp)))).mono ?_; rintro e w5 ⟨rfl, hh⟩; have H5 : Hid (At W B b w5 _) := HWD.out.trans hh; clear hh))
            all_goals gi_wp2
            all_goals
              have H5' := H5.out
              refine ⟨keeps_of H5' HI.out.bd _, ?_, ?_⟩
              · intro k9 cs9 T9 fz9 hq hk
                have ha : Apart W b k9 := by
                  rcases hq with rfl | rfl
                  · exact (HI.out.fb.2 _ hn4 HN0.out).2
                  · exact (HRW.out _ _ (H4.out.trans HI.out)).2.2.2
                exact ((H5'.fb.2 k9 (lt_of_some hk) ha).1).trans hk
              · have h9 := HI.out.trans H5'
                have e9 : z ++ (((pre ++ [x9]).map Prod.snd).map opS).flatten = (z ++ ((pre.map Prod.snd).map opS).flatten) ++ ([40] ++ (sgS x9.2 ++ [32])) := by simp [opS]
                rw [← e9] at h9
                first | exact h9 | simpa using h9
          case done =>
            rintro D xs W hD rfl hI hK9
            have hitem := (H4i.out.trans hI)
            have hall := H4.out.trans hI
            have HW : Hid (At w2 B b W (z ++ (((A.getD i []).reverse).map opS).flatten)) := by have := hall; rw [uptoB_all] at this; exact this
            have HWi : Hid (At (wr.alloc (.cells #[.int .u8 x.k, .int .u8 x.x.k, .int .i64 x.x.n, .string (st x.x.s), .string (st x.v)] 38)) B b W (z ++ (((A.getD i []).reverse).map opS).flatten)) := by have := hitem; rw [uptoB_all] at this; exact this
            have f0 := hitem.fb.cell (k := wr.heap.size) (off := 0) (v := .int .u8 x.k) (by simp) (HNX.out.alloc hbr _) (by simp)
            have f1 := hitem.fb.cell (k := wr.heap.size) (off := 1) (v := .int .u8 x.x.k) (by simp) (HNX.out.alloc hbr _) (by simp)
            have f2 := hitem.fb.cell (k := wr.heap.size) (off := 2) (v := .int .i64 x.x.n) (by simp) (HNX.out.alloc hbr _) (by simp)
            have f3 := hitem.fb.cell (k := wr.heap.size) (off := 3) (v := .string (st x.x.s)) (by simp) (HNX.out.alloc hbr _) (by simp)
            have f4 := hitem.fb.cell (k := wr.heap.size) (off := 4) (v := .string (st x.v)) (by simp) (HNX.out.alloc hbr _) (by simp)
            have pp9 := HPUT.out W _ hall
            have hbel9 := (H2.out.trans hall).bel
            have HK9 : Hid (W.heap[D]? = some (.deferred (some []))) := hK9
            have HD : Hid (((wr.alloc (.cells #[.int .u8 x.k, .int .u8 x.x.k, .int .i64 x.x.n, .string (st x.x.s), .string (st x.v)] 38)).alloc (.cells #[.slice ai ni ci] 81)).heap.size ≤ D) := hD
            have hxW : w.heap.size < W.heap.size := Nat.lt_of_lt_of_le hxw2 hall.fb.1
            have hrW : wr.heap.size < W.heap.size := by have h := hitem.fb.1; simp at h; omega
            have HV9 : Hid (Vars W) := HV.out.at hB hbel9
            clear hitem hall hI hK9 hbel9 hD
            gi_wp2_with (refine ⟨trivial, ?_⟩; gi_at_call 37; refine (callsIn_wide.2 (item_lay hK _ x _ HW.out.bd (by have h1 := HPL.out; rw [HPS.out, if_neg hip] at h1; simp only [List.length_append, List.length_cons, List.length_nil, List.nil_append] at h1 ⊢; omega) hfx hB HV9.out)).mono ?_; rintro e w6 ⟨rfl, hh⟩; have H6 : Hid (At W B b w6 _) := hh; clear hh)
            have H6' := H6.out
            have HR6 : Hid (At wr B b w6 _) := (((At.refl HZ.out.bd).alloc (.cells #[.int .u8 x.k, .int .u8 x.x.k, .int .i64 x.x.n, .string (st x.x.s), .string (st x.v)] 38)).trans (HWi.out.trans H6'))
            refine ⟨⟨{ target := .collected D, args := #[] } :: ds, _, _, _, _, _, _, _, _, _, _, _, _, _, _, _, _, _, _, _, _, _, _, _, _, _, _, _, _, _, _, _, _, _, _, _, _, ⟨i + 1, ?_, ?_, ?_, ?_⟩, rfl⟩, ?_⟩
            · omega
            · rw [← HNEXT.out, HPS.out, if_neg hip]
              have := HW.out.trans H6'
              simpa only [List.append_assoc, List.nil_append] using this
            · refine (HM.out.at HR6.out HZ.out.bd).cons HM.out ?_ ?_ ?_
              · have h1 := HD.out; have h2 := H4.out.fb.1; omega
              · exact ((H6'.fb.2 D (lt_of_some HK9.out) (HW.out.bd.other HK9.out rfl)).1).trans HK9.out
              · have h1 := HD.out; have h2 := H4i.out.fb.1; simp at h2; omega
            · simp
            · simp [intOf]; omega
          case stop =>
            rintro D c pre W _ _ h _
            exact h.elim
      · have HPS : Hid (placeS svd i x (A.getD i []) = [41]) := if_pos hsg
        have hs1 : (st (sgS x.k)).toList.isEmpty = false := by rw [st_emp]; cases h : sgS x.k with | nil => exact absurd h hsg | cons _ _ => rfl
        generalize sgS x.k = sg at *
        clear hsg
        gi_wp2_with (first | (refine ⟨trivial, ?_⟩; gi_at_call 35; refine (callsIn_wide.2 (CSG _)).mono ?_; rintro e w' ⟨rfl, hw'⟩; obtain rfl := hw'.symm; clear CSG; have ppi := HPUT.out _ _ (HZ.out.alloc (.cells #[.int .u8 x.k, .int .u8 x.x.k, .int .i64 x.x.n, .string (st x.x.s), .string (st x.v)] 38))) | (refine ⟨trivial, ?_⟩; refine (callsIn_wide.2 (put1 hK (HZ.out.alloc (.cells #[.int .u8 x.k, .int .u8 x.x.k, .int .i64 x.x.n, .string (st x.x.s), .string (st x.v)] 38)).bd [41] (by have h1 := HPL.out; have h2 := HPS.out; rw [h2] at h1; omega) (by simp))).mono ?_; rintro e w3 ⟨rfl, hh⟩; have H3 : Hid (At w2 B b w3 (z ++ [41])) := (HZ.out.alloc (.cells #[.int .u8 x.k, .int .u8 x.x.k, .int .i64 x.x.n, .string (st x.x.s), .string (st x.v)] 38)).trans hh; have H3r : Hid (At wr B b w3 (z ++ [41])) := ((At.refl HZ.out.bd).alloc (.cells #[.int .u8 x.k, .int .u8 x.x.k, .int .i64 x.x.n, .string (st x.x.s), .string (st x.v)] 38)).trans hh; clear hh))
        refine ⟨⟨ds, _, _, _, _, _, _, _, _, _, _, _, _, _, _, _, _, _, _, _, _, _, _, _, _, _, _, _, _, _, _, _, _, _, _, _, _, ⟨i + 1, ?_, ?_, ?_, ?_⟩, rfl⟩, ?_⟩
        · omega
        · rw [← HNEXT.out, HPS.out]; exact H3.out
        · exact HM.out.at H3r.out HZ.out.bd
        · simp
        · simp [intOf]; omega
    · have hiz : ¬ (i : Int) < L.length := by omega
      obtain rfl : i = L.length := by omega
      gi_wp2
      exact leaves_marks (w := w2) (z := zs ++ laidS svd A (L.take L.length) 0) HBW2.out (fun W => results_none rfl _ _ _) (fun W hW => ⟨rfl, by have h9 := H2.out.trans hW; rw [List.take_length, ← HSX.out] at h9; exact h9⟩) ds wr HZ0.out HM.out
end Go.Proofs.YtemacdimdpnkeaaGreatDoor
namespace Go.Proofs.YtemacdimdpnkeaaGreatDoor
set_option maxRecDepth 20000
open Go.RowKit
set_option linter.unusedVariables false
set_option linter.unusedSimpArgs false
theorem expr_lay {B K b : Nat} (hK : PutC K) (zs : Str) (v : Value) (L : List ItemD) (w : World) (h1 : SlW 5 w (fun k => k < B) v (L.map clI)) (hb : Bd w B b zs) (hl : L.length ≤ 100000) (hlen : zs.length + (shE svd L).length ≤ 1000000000) (hf : fE L) (hB : 5 ≤ B) (hV : Vars w) :
    Calls Tryz.prog 18 #[pv K b, v] w (Lays1 B b w (zs ++ shE svd L)) := by
  unfold shE at hlen ⊢
  cases hx : shExpr svd L with
  | none => rw [Option.getD_none, List.append_nil]; exact expr_no hK zs v L w h1 hb hl hx
  | some s => rw [hx] at hlen; exact expr_yes hK zs v L w h1 hb hl hx hlen hf hB hV
def gE (l : List ItemD) : Prop := fE l ∧ l.length ≤ 100000
def gS (x : SetD) : Prop := gE x.e
def gAct (a : ActD) : Prop := -1099511627776 ≤ a.n ∧ a.n ≤ 1099511627776 ∧ (∀ x ∈ a.sets, gS x) ∧ ∀ x ∈ a.exprs, gE x
def gR (r : RuleD) : Prop := (∀ x ∈ r.conds, fC x) ∧ ∀ x ∈ r.acts, gAct x
def gP (p : ProgD) : Prop := ∀ x ∈ p.rs, gR x
theorem exprs_lay {B K b : Nat} (hK : PutC K) (zs : Str) (v : Value) (xs : List (List ItemD)) (w : World) (hR : Row 1 (ReE (fun _ k => k < B)) w (fun k => k < B) v xs) (hb : Bd w B b zs) (hlen : zs.length + (spJ (xs.map (shE svd))).length ≤ 1000000000) (hf : ∀ x ∈ xs, gE x) (hB : 5 ≤ B) (hV : Vars w) :
    Calls Tryz.prog 77 #[pv K b, v, .func (.func 18) #[] #[]] w (Lays1 B b w (zs ++ spJ (xs.map (shE svd)))) := by
  obtain ⟨css, h1, h2⟩ := hR
  have hl := h2.len
  refine each64 hK (enters_of Tryz.func18 (by kernel_rfl) rfl) zs v css (xs.map (shE svd)) w h1 (fun i hi => ?_) (by rw [List.length_map]; exact hl) hb hlen fun i hi W z hW hz => ?_
  · have hr := h2.at i [] ([] : List ItemD) (by omega)
    obtain ⟨v1, e, q1⟩ := hr
    obtain ⟨a1, c1, rfl⟩ := q1.shape
    exact ⟨_, _, _, e⟩
  · have hi' : i < xs.length := by omega
    rw [getD_mapS (shE svd) xs i ([] : List ItemD) hi'] at hz ⊢
    have hm := getD_mem xs i ([] : List ItemD) hi'
    have hr := (h2.at i [] ([] : List ItemD) hi').keep (stays_below hW.bel)
    obtain ⟨v1, e, q1⟩ := hr
    rw [e]
    exact expr_lay hK z v1 _ W q1 hW.bd (hf _ hm).2 hz (hf _ hm).1 hB (hV.at hB hW.bel)
set_option maxHeartbeats 4000000 in
theorem set_lay_a {B K b : Nat} (hK : PutC K) (zs : Str) (x : SetD) (a : Option Addr) (n c : Nat) (w : World) (hb : Bd w B b zs) (hlen : zs.length + (([94] ++ (x.a ++ [32])) ++ shE svd x.e).length ≤ 1000000000) (h1 : SlW 5 w (fun k => k < B) (.slice a n c) (x.e.map clI)) (hf : gS x) (hB : 5 ≤ B) (hV : Vars w) :
    Calls Tryz.prog 75 #[pv K b, .agg #[.string (st x.a), .slice a n c]] w (Lays1 B b w (zs ++ (([94] ++ (x.a ++ [32])) ++ shE svd x.e))) := by
  have eK : ∀ (args : Array Value) (w : World), (callFunc K args).run Tryz.prog w = .ok (.enter K args) w := hK.1
  have HL : Hid (zs.length + (([94] ++ (x.a ++ [32])) ++ shE svd x.e).length ≤ 1000000000) := hlen
  have HB : Hid (Bd w B b zs) := hb
  have H0 : Hid (At (w.alloc (.cells #[.string (st x.a), .slice a n c] 130)) B b (w.alloc (.cells #[.string (st x.a), .slice a n c] 130)) zs) := At.refl (HB.out.alloc _)
  have HZ : Hid (At w B b (w.alloc (.cells #[.string (st x.a), .slice a n c] 130)) zs) := (At.refl HB.out).alloc _
  have HX : Hid (∀ W z, At (w.alloc (.cells #[.string (st x.a), .slice a n c] 130)) B b W z → W.cell? ⟨w.heap.size, 0, none⟩ = some (.string (st x.a)) ∧ W.cell? ⟨w.heap.size, 1, none⟩ = some (.slice a n c)) := by
    intro W z hW
    have hq := hW.fb
    have hlt : w.heap.size < (w.alloc (.cells #[.string (st x.a), .slice a n c] 130)).heap.size := by simp
    have hap : Apart (w.alloc (.cells #[.string (st x.a), .slice a n c] 130)) b w.heap.size := (HB.out.new (Nat.le_refl _)).alloc HB.out.lt _
    exact ⟨hq.cell hlt hap (by simp), hq.cell hlt hap (by simp)⟩
  have HV : Hid (Vars w) := hV
  clear hV
  have hb1 := hb.lt
  clear hlen hb
  have H1s : Hid (SlW 5 w (fun k => k < B) (.slice a n c) (x.e.map clI)) := h1
  clear h1
  have tok1 : Hid True := trivial
  have tok2 : Hid True := trivial
  unfold pv at *
  go_enter Tryz.func75, Tryz.ntmps75
  go_wp2_with (first | (go_at_fn K; have tku := tok1; clear tku tok1; refine (put3 hK H0.out.bd ([94]) (x.a) ([32]) (by have := HL.out; (try simp only [List.length_append, List.length_cons, List.length_nil] at this ⊢); omega) (by simp)).mono ?_; rintro e w1 ⟨rfl, hh⟩; have hh1 : At (w.alloc (.cells #[.string (st x.a), .slice a n c] 130)) B b w1 (zs ++ ([94] ++ (x.a ++ ([32])))) := H0.out.trans hh; clear hh; obtain ⟨p0, p1⟩ := HX.out _ _ hh1; have H1 : Hid (At (w.alloc (.cells #[.string (st x.a), .slice a n c] 130)) B b w1 (zs ++ ([94] ++ (x.a ++ ([32]))))) := hh1; have hs1 := hh1.bel.size; clear hh1) | (go_at_call 18; have tku := tok2; clear tku tok2; refine (expr_lay hK _ _ x.e _ (H1s.out.keep (P := fun _ k => k < B) (k := 4) (stays_below (HZ.out.trans H1.out).bel)) H1.out.bd hf.2 (by have := HL.out; (try simp only [List.length_append, List.length_cons, List.length_nil] at this ⊢); omega) hf.1 hB (HV.out.at hB (HZ.out.trans H1.out).bel)).mono ?_; rintro e w2 ⟨rfl, hh⟩; have hh2 : At (w.alloc (.cells #[.string (st x.a), .slice a n c] 130)) B b w2 ((zs ++ ([94] ++ (x.a ++ ([32])))) ++ (shE svd x.e)) := H1.out.trans hh; clear hh; obtain ⟨p0, p1⟩ := HX.out _ _ hh2; have H2 : Hid (At (w.alloc (.cells #[.string (st x.a), .slice a n c] 130)) B b w2 ((zs ++ ([94] ++ (x.a ++ ([32])))) ++ (shE svd x.e))) := hh2; have hs2 := hh2.bel.size; clear hh2))
  go_end0
  exact ⟨rfl, by have := HZ.out.trans H2.out; first | exact this | simpa only [List.append_assoc, List.cons_append, List.nil_append, List.append_nil] using this⟩
theorem set_lay {B K b : Nat} (hK : PutC K) (zs : Str) (cs : List Value) (x : SetD) (w : World) (hR : ReS (fun _ k => k < B) w cs x) (hb : Bd w B b zs) (hlen : zs.length + (shSet svd x).length ≤ 1000000000) (hf : gS x) (hB : 5 ≤ B) (hV : Vars w) :
    Calls Tryz.prog 75 #[pv K b, .agg cs.toArray] w (Lays1 B b w (zs ++ shSet svd x)) := by
  obtain ⟨v, rfl, h1⟩ := hR
  obtain ⟨a, c, rfl⟩ := h1.shape
  have e2 : shSet svd x = ([94] ++ (x.a ++ [32])) ++ shE svd x.e := by unfold shSet; simp
  rw [e2] at hlen ⊢
  exact set_lay_a hK zs x a _ c w hb hlen h1 hf hB hV
theorem sets_lay {B K b : Nat} (hK : PutC K) (zs : Str) (v : Value) (xs : List SetD) (w : World) (hR : Row 2 (ReS (fun _ k => k < B)) w (fun k => k < B) v xs) (hb : Bd w B b zs) (hlen : zs.length + (spJ (xs.map (shSet svd))).length ≤ 1000000000) (hf : ∀ x ∈ xs, gS x) (hB : 5 ≤ B) (hV : Vars w) :
    Calls Tryz.prog 74 #[pv K b, v, .func (.func 75) #[] #[]] w (Lays1 B b w (zs ++ spJ (xs.map (shSet svd)))) := by
  obtain ⟨css, h1, h2⟩ := hR
  have hl := h2.len
  refine each60 hK (enters_of Tryz.func75 (by kernel_rfl) rfl) zs v css (xs.map (shSet svd)) w h1 (fun i hi => ?_) (by rw [List.length_map]; exact hl) hb hlen fun i hi W z hW hz => ?_
  · have hr := h2.at i [] (⟨[], []⟩ : SetD) (by omega)
    obtain ⟨v1, e, q1⟩ := hr
    obtain ⟨a1, c1, rfl⟩ := q1.shape
    exact ⟨_, _, _, _, e⟩
  · have hi' : i < xs.length := by omega
    rw [getD_mapS (shSet svd) xs i (⟨[], []⟩ : SetD) hi'] at hz ⊢
    have hm := getD_mem xs i (⟨[], []⟩ : SetD) hi'
    have hr := (h2.at i [] (⟨[], []⟩ : SetD) hi').keep (stays_below hW.bel)
    exact set_lay hK z _ _ W hr hW.bd hz (hf _ hm) hB (hV.at hB hW.bel)
set_option maxHeartbeats 4000000 in
theorem act_lay_0 {B K b : Nat} (hK : PutC K) (zs : Str) (x : ActD) (a1 a2 : Option Addr) (n1 c1 n2 c2 : Nat) (w : World) (hb : Bd w B b zs) (hlen : zs.length + (([40, 109, 97, 107, 101, 32] ++ x.c) ++ (spJ (x.sets.map (shSet svd)) ++ [41])).length ≤ 1000000000) (h1 : Row 2 (ReS (fun _ k => k < B)) w (fun k => k < B) (.slice a1 n1 c1) x.sets) (h2 : Row 1 (ReE (fun _ k => k < B)) w (fun k => k < B) (.slice a2 n2 c2) x.exprs) (hf : gAct x) (hB : 5 ≤ B) (hV : Vars w) :
    Calls Tryz.prog 47 #[pv K b, .agg #[.int .u8 0, .string (st x.c), .int .i64 x.n, .string (st x.v), .slice a1 n1 c1, .slice a2 n2 c2]] w (Lays1 B b w (zs ++ (([40, 109, 97, 107, 101, 32] ++ x.c) ++ (spJ (x.sets.map (shSet svd)) ++ [41])))) := by
  have eK : ∀ (args : Array Value) (w : World), (callFunc K args).run Tryz.prog w = .ok (.enter K args) w := hK.1
  have HL : Hid (zs.length + (([40, 109, 97, 107, 101, 32] ++ x.c) ++ (spJ (x.sets.map (shSet svd)) ++ [41])).length ≤ 1000000000) := hlen
  have HB : Hid (Bd w B b zs) := hb
  have H0 : Hid (At (w.alloc (.cells #[.int .u8 0, .string (st x.c), .int .i64 x.n, .string (st x.v), .slice a1 n1 c1, .slice a2 n2 c2] 100)) B b (w.alloc (.cells #[.int .u8 0, .string (st x.c), .int .i64 x.n, .string (st x.v), .slice a1 n1 c1, .slice a2 n2 c2] 100)) zs) := At.refl (HB.out.alloc _)
  have HZ : Hid (At w B b (w.alloc (.cells #[.int .u8 0, .string (st x.c), .int .i64 x.n, .string (st x.v), .slice a1 n1 c1, .slice a2 n2 c2] 100)) zs) := (At.refl HB.out).alloc _
  have HX : Hid (∀ W z, At (w.alloc (.cells #[.int .u8 0, .string (st x.c), .int .i64 x.n, .string (st x.v), .slice a1 n1 c1, .slice a2 n2 c2] 100)) B b W z → W.cell? ⟨w.heap.size, 0, none⟩ = some (.int .u8 0) ∧ W.cell? ⟨w.heap.size, 1, none⟩ = some (.string (st x.c)) ∧ W.cell? ⟨w.heap.size, 2, none⟩ = some (.int .i64 x.n) ∧ W.cell? ⟨w.heap.size, 3, none⟩ = some (.string (st x.v)) ∧ W.cell? ⟨w.heap.size, 4, none⟩ = some (.slice a1 n1 c1) ∧ W.cell? ⟨w.heap.size, 5, none⟩ = some (.slice a2 n2 c2)) := by
    intro W z hW
    have hq := hW.fb
    have hlt : w.heap.size < (w.alloc (.cells #[.int .u8 0, .string (st x.c), .int .i64 x.n, .string (st x.v), .slice a1 n1 c1, .slice a2 n2 c2] 100)).heap.size := by simp
    have hap : Apart (w.alloc (.cells #[.int .u8 0, .string (st x.c), .int .i64 x.n, .string (st x.v), .slice a1 n1 c1, .slice a2 n2 c2] 100)) b w.heap.size := (HB.out.new (Nat.le_refl _)).alloc HB.out.lt _
    exact ⟨hq.cell hlt hap (by simp), hq.cell hlt hap (by simp), hq.cell hlt hap (by simp), hq.cell hlt hap (by simp), hq.cell hlt hap (by simp), hq.cell hlt hap (by simp)⟩
  have HV : Hid (Vars w) := hV
  clear hV
  have hb1 := hb.lt
  clear hlen hb
  have H1s : Hid (Row 2 (ReS (fun _ k => k < B)) w (fun k => k < B) (.slice a1 n1 c1) x.sets) := h1
  have H2s : Hid (Row 1 (ReE (fun _ k => k < B)) w (fun k => k < B) (.slice a2 n2 c2) x.exprs) := h2
  have HF : Hid (gAct x) := hf
  clear h1 h2 hf
  have tok1 : Hid True := trivial
  have tok2 : Hid True := trivial
  have tok3 : Hid True := trivial
  unfold pv at *
  go_enter Tryz.func47, Tryz.ntmps47
  go_wp2_with (first | (go_at_fn K; have tku := tok1; clear tku tok1; refine (put2 hK H0.out.bd ([40, 109, 97, 107, 101, 32]) (x.c) (by have := HL.out; (try simp only [List.length_append, List.length_cons, List.length_nil] at this ⊢); omega) (by simp)).mono ?_; rintro e w1 ⟨rfl, hh⟩; have hh1 : At (w.alloc (.cells #[.int .u8 0, .string (st x.c), .int .i64 x.n, .string (st x.v), .slice a1 n1 c1, .slice a2 n2 c2] 100)) B b w1 (zs ++ ([40, 109, 97, 107, 101, 32] ++ (x.c))) := H0.out.trans hh; clear hh; obtain ⟨p0, p1, p2, p3, p4, p5⟩ := HX.out _ _ hh1; have H1 : Hid (At (w.alloc (.cells #[.int .u8 0, .string (st x.c), .int .i64 x.n, .string (st x.v), .slice a1 n1 c1, .slice a2 n2 c2] 100)) B b w1 (zs ++ ([40, 109, 97, 107, 101, 32] ++ (x.c)))) := hh1; have hs1 := hh1.bel.size; clear hh1) | (go_at_call 74; have tku := tok2; clear tku tok2; refine (sets_lay hK _ _ x.sets _ (Row.keep (P := fun _ k => k < B) (k := 5) (stays_below (HZ.out.trans H1.out).bel) (fun _ _ h => h.keep (stays_below (HZ.out.trans H1.out).bel)) H1s.out) H1.out.bd (by have := HL.out; (try simp only [List.length_append, List.length_cons, List.length_nil] at this ⊢); omega) HF.out.2.2.1 hB (HV.out.at hB (HZ.out.trans H1.out).bel)).mono ?_; rintro e w2 ⟨rfl, hh⟩; have hh2 : At (w.alloc (.cells #[.int .u8 0, .string (st x.c), .int .i64 x.n, .string (st x.v), .slice a1 n1 c1, .slice a2 n2 c2] 100)) B b w2 ((zs ++ ([40, 109, 97, 107, 101, 32] ++ (x.c))) ++ (spJ (x.sets.map (shSet svd)))) := H1.out.trans hh; clear hh; obtain ⟨p0, p1, p2, p3, p4, p5⟩ := HX.out _ _ hh2; have H2 : Hid (At (w.alloc (.cells #[.int .u8 0, .string (st x.c), .int .i64 x.n, .string (st x.v), .slice a1 n1 c1, .slice a2 n2 c2] 100)) B b w2 ((zs ++ ([40, 109, 97, 107, 101, 32] ++ (x.c))) ++ (spJ (x.sets.map (shSet svd))))) := hh2; have hs2 := hh2.bel.size; clear hh2) | (go_at_fn K; have tku := tok3; clear tku tok3; refine (put1 hK H2.out.bd ([41]) (by have := HL.out; (try simp only [List.length_append, List.length_cons, List.length_nil] at this ⊢); omega) (by simp)).mono ?_; rintro e w3 ⟨rfl, hh⟩; have hh3 : At (w.alloc (.cells #[.int .u8 0, .string (st x.c), .int .i64 x.n, .string (st x.v), .slice a1 n1 c1, .slice a2 n2 c2] 100)) B b w3 (((zs ++ ([40, 109, 97, 107, 101, 32] ++ (x.c))) ++ (spJ (x.sets.map (shSet svd)))) ++ ([41])) := H2.out.trans hh; clear hh; obtain ⟨p0, p1, p2, p3, p4, p5⟩ := HX.out _ _ hh3; have H3 : Hid (At (w.alloc (.cells #[.int .u8 0, .string (st x.c), .int .i64 x.n, .string (st x.v), .slice a1 n1 c1, .slice a2 n2 c2] 100)) B b w3 (((zs ++ ([40, 109, 97, 107, 101, 32] ++ (x.c))) ++ (spJ (x.sets.map (shSet svd)))) ++ ([41]))) := hh3; have hs3 := hh3.bel.size; clear hh3))
  go_end0
  exact ⟨rfl, by have := HZ.out.trans H3.out; first | exact this | simpa only [List.append_assoc, List.cons_append, List.nil_append, List.append_nil] using this⟩
set_option maxHeartbeats 4000000 in
theorem act_lay_1 {B K b : Nat} (hK : PutC K) (zs : Str) (x : ActD) (a1 a2 : Option Addr) (n1 c1 n2 c2 : Nat) (w : World) (hb : Bd w B b zs) (hlen : zs.length + (([40, 109, 111, 100, 105, 102, 121, 32] ++ Lib.itoa x.n) ++ (spJ (x.sets.map (shSet svd)) ++ [41])).length ≤ 1000000000) (h1 : Row 2 (ReS (fun _ k => k < B)) w (fun k => k < B) (.slice a1 n1 c1) x.sets) (h2 : Row 1 (ReE (fun _ k => k < B)) w (fun k => k < B) (.slice a2 n2 c2) x.exprs) (hf : gAct x) (hB : 5 ≤ B) (hV : Vars w) :
    Calls Tryz.prog 47 #[pv K b, .agg #[.int .u8 1, .string (st x.c), .int .i64 x.n, .string (st x.v), .slice a1 n1 c1, .slice a2 n2 c2]] w (Lays1 B b w (zs ++ (([40, 109, 111, 100, 105, 102, 121, 32] ++ Lib.itoa x.n) ++ (spJ (x.sets.map (shSet svd)) ++ [41])))) := by
  have eK : ∀ (args : Array Value) (w : World), (callFunc K args).run Tryz.prog w = .ok (.enter K args) w := hK.1
  have HL : Hid (zs.length + (([40, 109, 111, 100, 105, 102, 121, 32] ++ Lib.itoa x.n) ++ (spJ (x.sets.map (shSet svd)) ++ [41])).length ≤ 1000000000) := hlen
  have HB : Hid (Bd w B b zs) := hb
  have H0 : Hid (At (w.alloc (.cells #[.int .u8 1, .string (st x.c), .int .i64 x.n, .string (st x.v), .slice a1 n1 c1, .slice a2 n2 c2] 100)) B b (w.alloc (.cells #[.int .u8 1, .string (st x.c), .int .i64 x.n, .string (st x.v), .slice a1 n1 c1, .slice a2 n2 c2] 100)) zs) := At.refl (HB.out.alloc _)
  have HZ : Hid (At w B b (w.alloc (.cells #[.int .u8 1, .string (st x.c), .int .i64 x.n, .string (st x.v), .slice a1 n1 c1, .slice a2 n2 c2] 100)) zs) := (At.refl HB.out).alloc _
  have HX : Hid (∀ W z, At (w.alloc (.cells #[.int .u8 1, .string (st x.c), .int .i64 x.n, .string (st x.v), .slice a1 n1 c1, .slice a2 n2 c2] 100)) B b W z → W.cell? ⟨w.heap.size, 0, none⟩ = some (.int .u8 1) ∧ W.cell? ⟨w.heap.size, 1, none⟩ = some (.string (st x.c)) ∧ W.cell? ⟨w.heap.size, 2, none⟩ = some (.int .i64 x.n) ∧ W.cell? ⟨w.heap.size, 3, none⟩ = some (.string (st x.v)) ∧ W.cell? ⟨w.heap.size, 4, none⟩ = some (.slice a1 n1 c1) ∧ W.cell? ⟨w.heap.size, 5, none⟩ = some (.slice a2 n2 c2)) := by
    intro W z hW
    have hq := hW.fb
    have hlt : w.heap.size < (w.alloc (.cells #[.int .u8 1, .string (st x.c), .int .i64 x.n, .string (st x.v), .slice a1 n1 c1, .slice a2 n2 c2] 100)).heap.size := by simp
    have hap : Apart (w.alloc (.cells #[.int .u8 1, .string (st x.c), .int .i64 x.n, .string (st x.v), .slice a1 n1 c1, .slice a2 n2 c2] 100)) b w.heap.size := (HB.out.new (Nat.le_refl _)).alloc HB.out.lt _
    exact ⟨hq.cell hlt hap (by simp), hq.cell hlt hap (by simp), hq.cell hlt hap (by simp), hq.cell hlt hap (by simp), hq.cell hlt hap (by simp), hq.cell hlt hap (by simp)⟩
  have HV : Hid (Vars w) := hV
  clear hV
  have hb1 := hb.lt
  clear hlen hb
  have H1s : Hid (Row 2 (ReS (fun _ k => k < B)) w (fun k => k < B) (.slice a1 n1 c1) x.sets) := h1
  have H2s : Hid (Row 1 (ReE (fun _ k => k < B)) w (fun k => k < B) (.slice a2 n2 c2) x.exprs) := h2
  have HF : Hid (gAct x) := hf
  clear h1 h2 hf
  have tok1 : Hid True := trivial
  have tok2 : Hid True := trivial
  have tok3 : Hid True := trivial
  have tok4 : Hid True := trivial
  unfold pv at *
  go_enter Tryz.func47, Tryz.ntmps47
  go_wp2_with (first | (go_at_call 76; have tku := tok1; clear tku tok1; refine (itoa_any x.n _ HF.out.1 HF.out.2.1 (HV.out.at hB (HZ.out.trans H0.out).bel)).mono ?_; rintro e w1 ⟨rfl, hh⟩; have hh1 : At (w.alloc (.cells #[.int .u8 1, .string (st x.c), .int .i64 x.n, .string (st x.v), .slice a1 n1 c1, .slice a2 n2 c2] 100)) B b w1 zs := H0.out.below hh; clear hh; obtain ⟨p0, p1, p2, p3, p4, p5⟩ := HX.out _ _ hh1; have H1 : Hid (At (w.alloc (.cells #[.int .u8 1, .string (st x.c), .int .i64 x.n, .string (st x.v), .slice a1 n1 c1, .slice a2 n2 c2] 100)) B b w1 zs) := hh1; have hs1 := hh1.bel.size; clear hh1) | (go_at_fn K; have tku := tok2; clear tku tok2; refine (put2 hK H1.out.bd ([40, 109, 111, 100, 105, 102, 121, 32]) (Lib.itoa x.n) (by have := HL.out; (try simp only [List.length_append, List.length_cons, List.length_nil] at this ⊢); omega) (by simp)).mono ?_; rintro e w2 ⟨rfl, hh⟩; have hh2 : At (w.alloc (.cells #[.int .u8 1, .string (st x.c), .int .i64 x.n, .string (st x.v), .slice a1 n1 c1, .slice a2 n2 c2] 100)) B b w2 (zs ++ ([40, 109, 111, 100, 105, 102, 121, 32] ++ (Lib.itoa x.n))) := H1.out.trans hh; clear hh; obtain ⟨p0, p1, p2, p3, p4, p5⟩ := HX.out _ _ hh2; have H2 : Hid (At (w.alloc (.cells #[.int .u8 1, .string (st x.c), .int .i64 x.n, .string (st x.v), .slice a1 n1 c1, .slice a2 n2 c2] 100)) B b w2 (zs ++ ([40, 109, 111, 100, 105, 102, 121, 32] ++ (Lib.itoa x.n)))) := hh2; have hs2 := hh2.bel.size; clear hh2) | (go_at_call 74; have tku := tok3; clear tku tok3; refine (sets_lay hK _ _ x.sets _ (Row.keep (P := fun _ k => k < B) (k := 5) (stays_below (HZ.out.trans H2.out).bel) (fun _ _ h => h.keep (stays_below (HZ.out.trans H2.out).bel)) H1s.out) H2.out.bd (by have := HL.out; (try simp only [List.length_append, List.length_cons, List.length_nil] at this ⊢); omega) HF.out.2.2.1 hB (HV.out.at hB (HZ.out.trans H2.out).bel)).mono ?_; rintro e w3 ⟨rfl, hh⟩; have hh3 : At (w.alloc (.cells #[.int .u8 1, .string (st x.c), .int .i64 x.n, .string (st x.v), .slice a1 n1 c1, .slice a2 n2 c2] 100)) B b w3 ((zs ++ ([40, 109, 111, 100, 105, 102, 121, 32] ++ (Lib.itoa x.n))) ++ (spJ (x.sets.map (shSet svd)))) := H2.out.trans hh; clear hh; obtain ⟨p0, p1, p2, p3, p4, p5⟩ := HX.out _ _ hh3; have H3 : Hid (At (w.alloc (.cells #[.int .u8 1, .string (st x.c), .int .i64 x.n, .string (st x.v), .slice a1 n1 c1, .slice a2 n2 c2] 100)) B b w3 ((zs ++ ([40, 109, 111, 100, 105, 102, 121, 32] ++ (Lib.itoa x.n))) ++ (spJ (x.sets.map (shSet svd))))) := hh3; have hs3 := hh3.bel.size; clear hh3) | (go_at_fn K; have tku := tok4; clear tku tok4; refine (put1 hK H3.out.bd ([41]) (by have := HL.out; (try simp only [List.length_append, List.length_cons, List.length_nil] at this ⊢); omega) (by simp)).mono ?_; rintro e w4 ⟨rfl, hh⟩; have hh4 : At (w.alloc (.cells #[.int .u8 1, .string (st x.c), .int .i64 x.n, .string (st x.v), .slice a1 n1 c1, .slice a2 n2 c2] 100)) B b w4 (((zs ++ ([40, 109, 111, 100, 105, 102, 121, 32] ++ (Lib.itoa x.n))) ++ (spJ (x.sets.map (shSet svd)))) ++ ([41])) := H3.out.trans hh; clear hh; obtain ⟨p0, p1, p2, p3, p4, p5⟩ := HX.out _ _ hh4; have H4 : Hid (At (w.alloc (.cells #[.int .u8 1, .string (st x.c), .int .i64 x.n, .string (st x.v), .slice a1 n1 c1, .slice a2 n2 c2] 100)) B b w4 (((zs ++ ([40, 109, 111, 100, 105, 102, 121, 32] ++ (Lib.itoa x.n))) ++ (spJ (x.sets.map (shSet svd)))) ++ ([41]))) := hh4; have hs4 := hh4.bel.size; clear hh4))
  go_end0
  exact ⟨rfl, by have := HZ.out.trans H4.out; first | exact this | simpa only [List.append_assoc, List.cons_append, List.nil_append, List.append_nil] using this⟩
set_option maxHeartbeats 4000000 in
theorem act_lay_2 {B K b : Nat} (hK : PutC K) (zs : Str) (x : ActD) (a1 a2 : Option Addr) (n1 c1 n2 c2 : Nat) (w : World) (hb : Bd w B b zs) (hlen : zs.length + (([40, 114, 101, 109, 111, 118, 101, 32] ++ Lib.itoa x.n) ++ [41]).length ≤ 1000000000) (h1 : Row 2 (ReS (fun _ k => k < B)) w (fun k => k < B) (.slice a1 n1 c1) x.sets) (h2 : Row 1 (ReE (fun _ k => k < B)) w (fun k => k < B) (.slice a2 n2 c2) x.exprs) (hf : gAct x) (hB : 5 ≤ B) (hV : Vars w) :
    Calls Tryz.prog 47 #[pv K b, .agg #[.int .u8 2, .string (st x.c), .int .i64 x.n, .string (st x.v), .slice a1 n1 c1, .slice a2 n2 c2]] w (Lays1 B b w (zs ++ (([40, 114, 101, 109, 111, 118, 101, 32] ++ Lib.itoa x.n) ++ [41]))) := by
  have eK : ∀ (args : Array Value) (w : World), (callFunc K args).run Tryz.prog w = .ok (.enter K args) w := hK.1
  have HL : Hid (zs.length + (([40, 114, 101, 109, 111, 118, 101, 32] ++ Lib.itoa x.n) ++ [41]).length ≤ 1000000000) := hlen
  have HB : Hid (Bd w B b zs) := hb
  have H0 : Hid (At (w.alloc (.cells #[.int .u8 2, .string (st x.c), .int .i64 x.n, .string (st x.v), .slice a1 n1 c1, .slice a2 n2 c2] 100)) B b (w.alloc (.cells #[.int .u8 2, .string (st x.c), .int .i64 x.n, .string (st x.v), .slice a1 n1 c1, .slice a2 n2 c2] 100)) zs) := At.refl (HB.out.alloc _)
  have HZ : Hid (At w B b (w.alloc (.cells #[.int .u8 2, .string (st x.c), .int .i64 x.n, .string (st x.v), .slice a1 n1 c1, .slice a2 n2 c2] 100)) zs) := (At.refl HB.out).alloc _
  have HX : Hid (∀ W z, At (w.alloc (.cells #[.int .u8 2, .string (st x.c), .int .i64 x.n, .string (st x.v), .slice a1 n1 c1, .slice a2 n2 c2] 100)) B b W z → W.cell? ⟨w.heap.size, 0, none⟩ = some (.int .u8 2) ∧ W.cell? ⟨w.heap.size, 1, none⟩ = some (.string (st x.c)) ∧ W.cell? ⟨w.heap.size, 2, none⟩ = some (.int .i64 x.n) ∧ W.cell? ⟨w.heap.size, 3, none⟩ = some (.string (st x.v)) ∧ W.cell? ⟨w.heap.size, 4, none⟩ = some (.slice a1 n1 c1) ∧ W.cell? ⟨w.heap.size, 5, none⟩ = some (.slice a2 n2 c2)) := by
    intro W z hW
    have hq := hW.fb
    have hlt : w.heap.size < (w.alloc (.cells #[.int .u8 2, .string (st x.c), .int .i64 x.n, .string (st x.v), .slice a1 n1 c1, .slice a2 n2 c2] 100)).heap.size := by simp
    have hap : Apart (w.alloc (.cells #[.int .u8 2, .string (st x.c), .int .i64 x.n, .string (st x.v), .slice a1 n1 c1, .slice a2 n2 c2] 100)) b w.heap.size := (HB.out.new (Nat.le_refl _)).alloc HB.out.lt _
    exact ⟨hq.cell hlt hap (by simp), hq.cell hlt hap (by simp), hq.cell hlt hap (by simp), hq.cell hlt hap (by simp), hq.cell hlt hap (by simp), hq.cell hlt hap (by simp)⟩
  have HV : Hid (Vars w) := hV
  clear hV
  have hb1 := hb.lt
  clear hlen hb
  have H1s : Hid (Row 2 (ReS (fun _ k => k < B)) w (fun k => k < B) (.slice a1 n1 c1) x.sets) := h1
  have H2s : Hid (Row 1 (ReE (fun _ k => k < B)) w (fun k => k < B) (.slice a2 n2 c2) x.exprs) := h2
  have HF : Hid (gAct x) := hf
  clear h1 h2 hf
  have tok1 : Hid True := trivial
  have tok2 : Hid True := trivial
  have tok3 : Hid True := trivial
  unfold pv at *
  go_enter Tryz.func47, Tryz.ntmps47
  go_wp2_with (first | (go_at_call 76; have tku := tok1; clear tku tok1; refine (itoa_any x.n _ HF.out.1 HF.out.2.1 (HV.out.at hB (HZ.out.trans H0.out).bel)).mono ?_; rintro e w1 ⟨rfl, hh⟩; have hh1 : At (w.alloc (.cells #[.int .u8 2, .string (st x.c), .int .i64 x.n, .string (st x.v), .slice a1 n1 c1, .slice a2 n2 c2] 100)) B b w1 zs := H0.out.below hh; clear hh; obtain ⟨p0, p1, p2, p3, p4, p5⟩ := HX.out _ _ hh1; have H1 : Hid (At (w.alloc (.cells #[.int .u8 2, .string (st x.c), .int .i64 x.n, .string (st x.v), .slice a1 n1 c1, .slice a2 n2 c2] 100)) B b w1 zs) := hh1; have hs1 := hh1.bel.size; clear hh1) | (go_at_fn K; have tku := tok2; clear tku tok2; refine (put2 hK H1.out.bd ([40, 114, 101, 109, 111, 118, 101, 32]) (Lib.itoa x.n) (by have := HL.out; (try simp only [List.length_append, List.length_cons, List.length_nil] at this ⊢); omega) (by simp)).mono ?_; rintro e w2 ⟨rfl, hh⟩; have hh2 : At (w.alloc (.cells #[.int .u8 2, .string (st x.c), .int .i64 x.n, .string (st x.v), .slice a1 n1 c1, .slice a2 n2 c2] 100)) B b w2 (zs ++ ([40, 114, 101, 109, 111, 118, 101, 32] ++ (Lib.itoa x.n))) := H1.out.trans hh; clear hh; obtain ⟨p0, p1, p2, p3, p4, p5⟩ := HX.out _ _ hh2; have H2 : Hid (At (w.alloc (.cells #[.int .u8 2, .string (st x.c), .int .i64 x.n, .string (st x.v), .slice a1 n1 c1, .slice a2 n2 c2] 100)) B b w2 (zs ++ ([40, 114, 101, 109, 111, 118, 101, 32] ++ (Lib.itoa x.n)))) := hh2; have hs2 := hh2.bel.size; clear hh2) | (go_at_fn K; have tku := tok3; clear tku tok3; refine (put1 hK H2.out.bd ([41]) (by have := HL.out; (try simp only [List.length_append, List.length_cons, List.length_nil] at this ⊢); omega) (by simp)).mono ?_; rintro e w3 ⟨rfl, hh⟩; have hh3 : At (w.alloc (.cells #[.int .u8 2, .string (st x.c), .int .i64 x.n, .string (st x.v), .slice a1 n1 c1, .slice a2 n2 c2] 100)) B b w3 ((zs ++ ([40, 114, 101, 109, 111, 118, 101, 32] ++ (Lib.itoa x.n))) ++ ([41])) := H2.out.trans hh; clear hh; obtain ⟨p0, p1, p2, p3, p4, p5⟩ := HX.out _ _ hh3; have H3 : Hid (At (w.alloc (.cells #[.int .u8 2, .string (st x.c), .int .i64 x.n, .string (st x.v), .slice a1 n1 c1, .slice a2 n2 c2] 100)) B b w3 ((zs ++ ([40, 114, 101, 109, 111, 118, 101, 32] ++ (Lib.itoa x.n))) ++ ([41]))) := hh3; have hs3 := hh3.bel.size; clear hh3))
  go_end0
  exact ⟨rfl, by have := HZ.out.trans H3.out; first | exact this | simpa only [List.append_assoc, List.cons_append, List.nil_append, List.append_nil] using this⟩
set_option maxHeartbeats 4000000 in
theorem act_lay_3 {B K b : Nat} (hK : PutC K) (zs : Str) (x : ActD) (a1 a2 : Option Addr) (n1 c1 n2 c2 : Nat) (w : World) (hb : Bd w B b zs) (hlen : zs.length + ([40, 98, 105, 110, 100, 32] ++ (([60] ++ (x.v ++ [62])) ++ (spJ (x.exprs.map (shE svd)) ++ [41]))).length ≤ 1000000000) (h1 : Row 2 (ReS (fun _ k => k < B)) w (fun k => k < B) (.slice a1 n1 c1) x.sets) (h2 : Row 1 (ReE (fun _ k => k < B)) w (fun k => k < B) (.slice a2 n2 c2) x.exprs) (hf : gAct x) (hB : 5 ≤ B) (hV : Vars w) :
    Calls Tryz.prog 47 #[pv K b, .agg #[.int .u8 3, .string (st x.c), .int .i64 x.n, .string (st x.v), .slice a1 n1 c1, .slice a2 n2 c2]] w (Lays1 B b w (zs ++ ([40, 98, 105, 110, 100, 32] ++ (([60] ++ (x.v ++ [62])) ++ (spJ (x.exprs.map (shE svd)) ++ [41]))))) := by
  have eK : ∀ (args : Array Value) (w : World), (callFunc K args).run Tryz.prog w = .ok (.enter K args) w := hK.1
  have HL : Hid (zs.length + ([40, 98, 105, 110, 100, 32] ++ (([60] ++ (x.v ++ [62])) ++ (spJ (x.exprs.map (shE svd)) ++ [41]))).length ≤ 1000000000) := hlen
  have HB : Hid (Bd w B b zs) := hb
  have H0 : Hid (At (w.alloc (.cells #[.int .u8 3, .string (st x.c), .int .i64 x.n, .string (st x.v), .slice a1 n1 c1, .slice a2 n2 c2] 100)) B b (w.alloc (.cells #[.int .u8 3, .string (st x.c), .int .i64 x.n, .string (st x.v), .slice a1 n1 c1, .slice a2 n2 c2] 100)) zs) := At.refl (HB.out.alloc _)
  have HZ : Hid (At w B b (w.alloc (.cells #[.int .u8 3, .string (st x.c), .int .i64 x.n, .string (st x.v), .slice a1 n1 c1, .slice a2 n2 c2] 100)) zs) := (At.refl HB.out).alloc _
  have HX : Hid (∀ W z, At (w.alloc (.cells #[.int .u8 3, .string (st x.c), .int .i64 x.n, .string (st x.v), .slice a1 n1 c1, .slice a2 n2 c2] 100)) B b W z → W.cell? ⟨w.heap.size, 0, none⟩ = some (.int .u8 3) ∧ W.cell? ⟨w.heap.size, 1, none⟩ = some (.string (st x.c)) ∧ W.cell? ⟨w.heap.size, 2, none⟩ = some (.int .i64 x.n) ∧ W.cell? ⟨w.heap.size, 3, none⟩ = some (.string (st x.v)) ∧ W.cell? ⟨w.heap.size, 4, none⟩ = some (.slice a1 n1 c1) ∧ W.cell? ⟨w.heap.size, 5, none⟩ = some (.slice a2 n2 c2)) := by
    intro W z hW
    have hq := hW.fb
    have hlt : w.heap.size < (w.alloc (.cells #[.int .u8 3, .string (st x.c), .int .i64 x.n, .string (st x.v), .slice a1 n1 c1, .slice a2 n2 c2] 100)).heap.size := by simp
    have hap : Apart (w.alloc (.cells #[.int .u8 3, .string (st x.c), .int .i64 x.n, .string (st x.v), .slice a1 n1 c1, .slice a2 n2 c2] 100)) b w.heap.size := (HB.out.new (Nat.le_refl _)).alloc HB.out.lt _
    exact ⟨hq.cell hlt hap (by simp), hq.cell hlt hap (by simp), hq.cell hlt hap (by simp), hq.cell hlt hap (by simp), hq.cell hlt hap (by simp), hq.cell hlt hap (by simp)⟩
  have HV : Hid (Vars w) := hV
  clear hV
  have hb1 := hb.lt
  clear hlen hb
  have H1s : Hid (Row 2 (ReS (fun _ k => k < B)) w (fun k => k < B) (.slice a1 n1 c1) x.sets) := h1
  have H2s : Hid (Row 1 (ReE (fun _ k => k < B)) w (fun k => k < B) (.slice a2 n2 c2) x.exprs) := h2
  have HF : Hid (gAct x) := hf
  clear h1 h2 hf
  have tok1 : Hid True := trivial
  have tok2 : Hid True := trivial
  have tok3 : Hid True := trivial
  have tok4 : Hid True := trivial
  unfold pv at *
  go_enter Tryz.func47, Tryz.ntmps47
  go_wp2_with (first | (go_at_fn K; have tku := tok1; clear tku tok1; refine (put1 hK H0.out.bd ([40, 98, 105, 110, 100, 32]) (by have := HL.out; (try simp only [List.length_append, List.length_cons, List.length_nil] at this ⊢); omega) (by simp)).mono ?_; rintro e w1 ⟨rfl, hh⟩; have hh1 : At (w.alloc (.cells #[.int .u8 3, .string (st x.c), .int .i64 x.n, .string (st x.v), .slice a1 n1 c1, .slice a2 n2 c2] 100)) B b w1 (zs ++ ([40, 98, 105, 110, 100, 32])) := H0.out.trans hh; clear hh; obtain ⟨p0, p1, p2, p3, p4, p5⟩ := HX.out _ _ hh1; have H1 : Hid (At (w.alloc (.cells #[.int .u8 3, .string (st x.c), .int .i64 x.n, .string (st x.v), .slice a1 n1 c1, .slice a2 n2 c2] 100)) B b w1 (zs ++ ([40, 98, 105, 110, 100, 32]))) := hh1; have hs1 := hh1.bel.size; clear hh1) | (go_at_call 70; have tku := tok2; clear tku tok2; refine (var_lay hK _ x.v _ H1.out.bd (by have := HL.out; (try simp only [List.length_append, List.length_cons, List.length_nil] at this ⊢); omega)).mono ?_; rintro e w2 ⟨rfl, hh⟩; have hh2 : At (w.alloc (.cells #[.int .u8 3, .string (st x.c), .int .i64 x.n, .string (st x.v), .slice a1 n1 c1, .slice a2 n2 c2] 100)) B b w2 ((zs ++ ([40, 98, 105, 110, 100, 32])) ++ ([60] ++ (x.v ++ [62]))) := H1.out.trans hh; clear hh; obtain ⟨p0, p1, p2, p3, p4, p5⟩ := HX.out _ _ hh2; have H2 : Hid (At (w.alloc (.cells #[.int .u8 3, .string (st x.c), .int .i64 x.n, .string (st x.v), .slice a1 n1 c1, .slice a2 n2 c2] 100)) B b w2 ((zs ++ ([40, 98, 105, 110, 100, 32])) ++ ([60] ++ (x.v ++ [62])))) := hh2; have hs2 := hh2.bel.size; clear hh2) | (go_at_call 77; have tku := tok3; clear tku tok3; refine (exprs_lay hK _ _ x.exprs _ (Row.keep (P := fun _ k => k < B) (k := 6) (stays_below (HZ.out.trans H2.out).bel) (fun _ _ h => h.keep (stays_below (HZ.out.trans H2.out).bel)) H2s.out) H2.out.bd (by have := HL.out; (try simp only [List.length_append, List.length_cons, List.length_nil] at this ⊢); omega) HF.out.2.2.2 hB (HV.out.at hB (HZ.out.trans H2.out).bel)).mono ?_; rintro e w3 ⟨rfl, hh⟩; have hh3 : At (w.alloc (.cells #[.int .u8 3, .string (st x.c), .int .i64 x.n, .string (st x.v), .slice a1 n1 c1, .slice a2 n2 c2] 100)) B b w3 (((zs ++ ([40, 98, 105, 110, 100, 32])) ++ ([60] ++ (x.v ++ [62]))) ++ (spJ (x.exprs.map (shE svd)))) := H2.out.trans hh; clear hh; obtain ⟨p0, p1, p2, p3, p4, p5⟩ := HX.out _ _ hh3; have H3 : Hid (At (w.alloc (.cells #[.int .u8 3, .string (st x.c), .int .i64 x.n, .string (st x.v), .slice a1 n1 c1, .slice a2 n2 c2] 100)) B b w3 (((zs ++ ([40, 98, 105, 110, 100, 32])) ++ ([60] ++ (x.v ++ [62]))) ++ (spJ (x.exprs.map (shE svd))))) := hh3; have hs3 := hh3.bel.size; clear hh3) | (go_at_fn K; have tku := tok4; clear tku tok4; refine (put1 hK H3.out.bd ([41]) (by have := HL.out; (try simp only [List.length_append, List.length_cons, List.length_nil] at this ⊢); omega) (by simp)).mono ?_; rintro e w4 ⟨rfl, hh⟩; have hh4 : At (w.alloc (.cells #[.int .u8 3, .string (st x.c), .int .i64 x.n, .string (st x.v), .slice a1 n1 c1, .slice a2 n2 c2] 100)) B b w4 ((((zs ++ ([40, 98, 105, 110, 100, 32])) ++ ([60] ++ (x.v ++ [62]))) ++ (spJ (x.exprs.map (shE svd)))) ++ ([41])) := H3.out.trans hh; clear hh; obtain ⟨p0, p1, p2, p3, p4, p5⟩ := HX.out _ _ hh4; have H4 : Hid (At (w.alloc (.cells #[.int .u8 3, .string (st x.c), .int .i64 x.n, .string (st x.v), .slice a1 n1 c1, .slice a2 n2 c2] 100)) B b w4 ((((zs ++ ([40, 98, 105, 110, 100, 32])) ++ ([60] ++ (x.v ++ [62]))) ++ (spJ (x.exprs.map (shE svd)))) ++ ([41]))) := hh4; have hs4 := hh4.bel.size; clear hh4))
  go_end0
  exact ⟨rfl, by have := HZ.out.trans H4.out; first | exact this | simpa only [List.append_assoc, List.cons_append, List.nil_append, List.append_nil] using this⟩
set_option maxHeartbeats 4000000 in
theorem act_lay_4 {B K b : Nat} (hK : PutC K) (zs : Str) (x : ActD) (a1 a2 : Option Addr) (n1 c1 n2 c2 : Nat) (w : World) (hb : Bd w B b zs) (hlen : zs.length + ([40, 119, 114, 105, 116, 101] ++ (spJ (x.exprs.map (shE svd)) ++ [41])).length ≤ 1000000000) (h1 : Row 2 (ReS (fun _ k => k < B)) w (fun k => k < B) (.slice a1 n1 c1) x.sets) (h2 : Row 1 (ReE (fun _ k => k < B)) w (fun k => k < B) (.slice a2 n2 c2) x.exprs) (hf : gAct x) (hB : 5 ≤ B) (hV : Vars w) :
    Calls Tryz.prog 47 #[pv K b, .agg #[.int .u8 4, .string (st x.c), .int .i64 x.n, .string (st x.v), .slice a1 n1 c1, .slice a2 n2 c2]] w (Lays1 B b w (zs ++ ([40, 119, 114, 105, 116, 101] ++ (spJ (x.exprs.map (shE svd)) ++ [41])))) := by
  have eK : ∀ (args : Array Value) (w : World), (callFunc K args).run Tryz.prog w = .ok (.enter K args) w := hK.1
  have HL : Hid (zs.length + ([40, 119, 114, 105, 116, 101] ++ (spJ (x.exprs.map (shE svd)) ++ [41])).length ≤ 1000000000) := hlen
  have HB : Hid (Bd w B b zs) := hb
  have H0 : Hid (At (w.alloc (.cells #[.int .u8 4, .string (st x.c), .int .i64 x.n, .string (st x.v), .slice a1 n1 c1, .slice a2 n2 c2] 100)) B b (w.alloc (.cells #[.int .u8 4, .string (st x.c), .int .i64 x.n, .string (st x.v), .slice a1 n1 c1, .slice a2 n2 c2] 100)) zs) := At.refl (HB.out.alloc _)
  have HZ : Hid (At w B b (w.alloc (.cells #[.int .u8 4, .string (st x.c), .int .i64 x.n, .string (st x.v), .slice a1 n1 c1, .slice a2 n2 c2] 100)) zs) := (At.refl HB.out).alloc _
  have HX : Hid (∀ W z, At (w.alloc (.cells #[.int .u8 4, .string (st x.c), .int .i64 x.n, .string (st x.v), .slice a1 n1 c1, .slice a2 n2 c2] 100)) B b W z → W.cell? ⟨w.heap.size, 0, none⟩ = some (.int .u8 4) ∧ W.cell? ⟨w.heap.size, 1, none⟩ = some (.string (st x.c)) ∧ W.cell? ⟨w.heap.size, 2, none⟩ = some (.int .i64 x.n) ∧ W.cell? ⟨w.heap.size, 3, none⟩ = some (.string (st x.v)) ∧ W.cell? ⟨w.heap.size, 4, none⟩ = some (.slice a1 n1 c1) ∧ W.cell? ⟨w.heap.size, 5, none⟩ = some (.slice a2 n2 c2)) := by
    intro W z hW
    have hq := hW.fb
    have hlt : w.heap.size < (w.alloc (.cells #[.int .u8 4, .string (st x.c), .int .i64 x.n, .string (st x.v), .slice a1 n1 c1, .slice a2 n2 c2] 100)).heap.size := by simp
    have hap : Apart (w.alloc (.cells #[.int .u8 4, .string (st x.c), .int .i64 x.n, .string (st x.v), .slice a1 n1 c1, .slice a2 n2 c2] 100)) b w.heap.size := (HB.out.new (Nat.le_refl _)).alloc HB.out.lt _
    exact ⟨hq.cell hlt hap (by simp), hq.cell hlt hap (by simp), hq.cell hlt hap (by simp), hq.cell hlt hap (by simp), hq.cell hlt hap (by simp), hq.cell hlt hap (by simp)⟩
  have HV : Hid (Vars w) := hV
  clear hV
  have hb1 := hb.lt
  clear hlen hb
  have H1s : Hid (Row 2 (ReS (fun _ k => k < B)) w (fun k => k < B) (.slice a1 n1 c1) x.sets) := h1
  have H2s : Hid (Row 1 (ReE (fun _ k => k < B)) w (fun k => k < B) (.slice a2 n2 c2) x.exprs) := h2
  have HF : Hid (gAct x) := hf
  clear h1 h2 hf
  have tok1 : Hid True := trivial
  have tok2 : Hid True := trivial
  have tok3 : Hid True := trivial
  unfold pv at *
  go_enter Tryz.func47, Tryz.ntmps47
  go_wp2_with (first | (go_at_fn K; have tku := tok1; clear tku tok1; refine (put1 hK H0.out.bd ([40, 119, 114, 105, 116, 101]) (by have := HL.out; (try simp only [List.length_append, List.length_cons, List.length_nil] at this ⊢); omega) (by simp)).mono ?_; rintro e w1 ⟨rfl, hh⟩; have hh1 : At (w.alloc (.cells #[.int .u8 4, .string (st x.c), .int .i64 x.n, .string (st x.v), .slice a1 n1 c1, .slice a2 n2 c2] 100)) B b w1 (zs ++ ([40, 119, 114, 105, 116, 101])) := H0.out.trans hh; clear hh; obtain ⟨p0, p1, p2, p3, p4, p5⟩ := HX.out _ _ hh1; have H1 : Hid (At (w.alloc (.cells #[.int .u8 4, .string (st x.c), .int .i64 x.n, .string (st x.v), .slice a1 n1 c1, .slice a2 n2 c2] 100)) B b w1 (zs ++ ([40, 119, 114, 105, 116, 101]))) := hh1; have hs1 := hh1.bel.size; clear hh1) | (go_at_call 77; have tku := tok2; clear tku tok2; refine (exprs_lay hK _ _ x.exprs _ (Row.keep (P := fun _ k => k < B) (k := 6) (stays_below (HZ.out.trans H1.out).bel) (fun _ _ h => h.keep (stays_below (HZ.out.trans H1.out).bel)) H2s.out) H1.out.bd (by have := HL.out; (try simp only [List.length_append, List.length_cons, List.length_nil] at this ⊢); omega) HF.out.2.2.2 hB (HV.out.at hB (HZ.out.trans H1.out).bel)).mono ?_; rintro e w2 ⟨rfl, hh⟩; have hh2 : At (w.alloc (.cells #[.int .u8 4, .string (st x.c), .int .i64 x.n, .string (st x.v), .slice a1 n1 c1, .slice a2 n2 c2] 100)) B b w2 ((zs ++ ([40, 119, 114, 105, 116, 101])) ++ (spJ (x.exprs.map (shE svd)))) := H1.out.trans hh; clear hh; obtain ⟨p0, p1, p2, p3, p4, p5⟩ := HX.out _ _ hh2; have H2 : Hid (At (w.alloc (.cells #[.int .u8 4, .string (st x.c), .int .i64 x.n, .string (st x.v), .slice a1 n1 c1, .slice a2 n2 c2] 100)) B b w2 ((zs ++ ([40, 119, 114, 105, 116, 101])) ++ (spJ (x.exprs.map (shE svd))))) := hh2; have hs2 := hh2.bel.size; clear hh2) | (go_at_fn K; have tku := tok3; clear tku tok3; refine (put1 hK H2.out.bd ([41]) (by have := HL.out; (try simp only [List.length_append, List.length_cons, List.length_nil] at this ⊢); omega) (by simp)).mono ?_; rintro e w3 ⟨rfl, hh⟩; have hh3 : At (w.alloc (.cells #[.int .u8 4, .string (st x.c), .int .i64 x.n, .string (st x.v), .slice a1 n1 c1, .slice a2 n2 c2] 100)) B b w3 (((zs ++ ([40, 119, 114, 105, 116, 101])) ++ (spJ (x.exprs.map (shE svd)))) ++ ([41])) := H2.out.trans hh; clear hh; obtain ⟨p0, p1, p2, p3, p4, p5⟩ := HX.out _ _ hh3; have H3 : Hid (At (w.alloc (.cells #[.int .u8 4, .string (st x.c), .int .i64 x.n, .string (st x.v), .slice a1 n1 c1, .slice a2 n2 c2] 100)) B b w3 (((zs ++ ([40, 119, 114, 105, 116, 101])) ++ (spJ (x.exprs.map (shE svd)))) ++ ([41]))) := hh3; have hs3 := hh3.bel.size; clear hh3))
  go_end0
  exact ⟨rfl, by have := HZ.out.trans H3.out; first | exact this | simpa only [List.append_assoc, List.cons_append, List.nil_append, List.append_nil] using this⟩
set_option maxHeartbeats 4000000 in
theorem act_lay_5 {B K b : Nat} (hK : PutC K) (zs : Str) (x : ActD) (a1 a2 : Option Addr) (n1 c1 n2 c2 : Nat) (w : World) (hb : Bd w B b zs) (hlen : zs.length + ([40, 104, 97, 108, 116] ++ [41]).length ≤ 1000000000) (h1 : Row 2 (ReS (fun _ k => k < B)) w (fun k => k < B) (.slice a1 n1 c1) x.sets) (h2 : Row 1 (ReE (fun _ k => k < B)) w (fun k => k < B) (.slice a2 n2 c2) x.exprs) (hf : gAct x) (hB : 5 ≤ B) (hV : Vars w) :
    Calls Tryz.prog 47 #[pv K b, .agg #[.int .u8 5, .string (st x.c), .int .i64 x.n, .string (st x.v), .slice a1 n1 c1, .slice a2 n2 c2]] w (Lays1 B b w (zs ++ ([40, 104, 97, 108, 116] ++ [41]))) := by
  have eK : ∀ (args : Array Value) (w : World), (callFunc K args).run Tryz.prog w = .ok (.enter K args) w := hK.1
  have HL : Hid (zs.length + ([40, 104, 97, 108, 116] ++ [41]).length ≤ 1000000000) := hlen
  have HB : Hid (Bd w B b zs) := hb
  have H0 : Hid (At (w.alloc (.cells #[.int .u8 5, .string (st x.c), .int .i64 x.n, .string (st x.v), .slice a1 n1 c1, .slice a2 n2 c2] 100)) B b (w.alloc (.cells #[.int .u8 5, .string (st x.c), .int .i64 x.n, .string (st x.v), .slice a1 n1 c1, .slice a2 n2 c2] 100)) zs) := At.refl (HB.out.alloc _)
  have HZ : Hid (At w B b (w.alloc (.cells #[.int .u8 5, .string (st x.c), .int .i64 x.n, .string (st x.v), .slice a1 n1 c1, .slice a2 n2 c2] 100)) zs) := (At.refl HB.out).alloc _
  have HX : Hid (∀ W z, At (w.alloc (.cells #[.int .u8 5, .string (st x.c), .int .i64 x.n, .string (st x.v), .slice a1 n1 c1, .slice a2 n2 c2] 100)) B b W z → W.cell? ⟨w.heap.size, 0, none⟩ = some (.int .u8 5) ∧ W.cell? ⟨w.heap.size, 1, none⟩ = some (.string (st x.c)) ∧ W.cell? ⟨w.heap.size, 2, none⟩ = some (.int .i64 x.n) ∧ W.cell? ⟨w.heap.size, 3, none⟩ = some (.string (st x.v)) ∧ W.cell? ⟨w.heap.size, 4, none⟩ = some (.slice a1 n1 c1) ∧ W.cell? ⟨w.heap.size, 5, none⟩ = some (.slice a2 n2 c2)) := by
    intro W z hW
    have hq := hW.fb
    have hlt : w.heap.size < (w.alloc (.cells #[.int .u8 5, .string (st x.c), .int .i64 x.n, .string (st x.v), .slice a1 n1 c1, .slice a2 n2 c2] 100)).heap.size := by simp
    have hap : Apart (w.alloc (.cells #[.int .u8 5, .string (st x.c), .int .i64 x.n, .string (st x.v), .slice a1 n1 c1, .slice a2 n2 c2] 100)) b w.heap.size := (HB.out.new (Nat.le_refl _)).alloc HB.out.lt _
    exact ⟨hq.cell hlt hap (by simp), hq.cell hlt hap (by simp), hq.cell hlt hap (by simp), hq.cell hlt hap (by simp), hq.cell hlt hap (by simp), hq.cell hlt hap (by simp)⟩
  have HV : Hid (Vars w) := hV
  clear hV
  have hb1 := hb.lt
  clear hlen hb
  have H1s : Hid (Row 2 (ReS (fun _ k => k < B)) w (fun k => k < B) (.slice a1 n1 c1) x.sets) := h1
  have H2s : Hid (Row 1 (ReE (fun _ k => k < B)) w (fun k => k < B) (.slice a2 n2 c2) x.exprs) := h2
  have HF : Hid (gAct x) := hf
  clear h1 h2 hf
  have tok1 : Hid True := trivial
  have tok2 : Hid True := trivial
  unfold pv at *
  go_enter Tryz.func47, Tryz.ntmps47
  go_wp2_with (first | (go_at_fn K; have tku := tok1; clear tku tok1; refine (put1 hK H0.out.bd ([40, 104, 97, 108, 116]) (by have := HL.out; (try simp only [List.length_append, List.length_cons, List.length_nil] at this ⊢); omega) (by simp)).mono ?_; rintro e w1 ⟨rfl, hh⟩; have hh1 : At (w.alloc (.cells #[.int .u8 5, .string (st x.c), .int .i64 x.n, .string (st x.v), .slice a1 n1 c1, .slice a2 n2 c2] 100)) B b w1 (zs ++ ([40, 104, 97, 108, 116])) := H0.out.trans hh; clear hh; obtain ⟨p0, p1, p2, p3, p4, p5⟩ := HX.out _ _ hh1; have H1 : Hid (At (w.alloc (.cells #[.int .u8 5, .string (st x.c), .int .i64 x.n, .string (st x.v), .slice a1 n1 c1, .slice a2 n2 c2] 100)) B b w1 (zs ++ ([40, 104, 97, 108, 116]))) := hh1; have hs1 := hh1.bel.size; clear hh1) | (go_at_fn K; have tku := tok2; clear tku tok2; refine (put1 hK H1.out.bd ([41]) (by have := HL.out; (try simp only [List.length_append, List.length_cons, List.length_nil] at this ⊢); omega) (by simp)).mono ?_; rintro e w2 ⟨rfl, hh⟩; have hh2 : At (w.alloc (.cells #[.int .u8 5, .string (st x.c), .int .i64 x.n, .string (st x.v), .slice a1 n1 c1, .slice a2 n2 c2] 100)) B b w2 ((zs ++ ([40, 104, 97, 108, 116])) ++ ([41])) := H1.out.trans hh; clear hh; obtain ⟨p0, p1, p2, p3, p4, p5⟩ := HX.out _ _ hh2; have H2 : Hid (At (w.alloc (.cells #[.int .u8 5, .string (st x.c), .int .i64 x.n, .string (st x.v), .slice a1 n1 c1, .slice a2 n2 c2] 100)) B b w2 ((zs ++ ([40, 104, 97, 108, 116])) ++ ([41]))) := hh2; have hs2 := hh2.bel.size; clear hh2))
  go_end0
  exact ⟨rfl, by have := HZ.out.trans H2.out; first | exact this | simpa only [List.append_assoc, List.cons_append, List.nil_append, List.append_nil] using this⟩
set_option maxHeartbeats 4000000 in
theorem act_lay_6 {B K b : Nat} (hK : PutC K) (zs : Str) (x : ActD) (a1 a2 : Option Addr) (n1 c1 n2 c2 : Nat) (w : World) (hb : Bd w B b zs) (hlen : zs.length + (([] : Str)).length ≤ 1000000000) (h1 : Row 2 (ReS (fun _ k => k < B)) w (fun k => k < B) (.slice a1 n1 c1) x.sets) (h2 : Row 1 (ReE (fun _ k => k < B)) w (fun k => k < B) (.slice a2 n2 c2) x.exprs) (hf : gAct x) (k0 : ¬ x.k = 0) (k1 : ¬ x.k = 1) (k2 : ¬ x.k = 2) (k3 : ¬ x.k = 3) (k4 : ¬ x.k = 4) (k5 : ¬ x.k = 5) (hB : 5 ≤ B) (hV : Vars w) :
    Calls Tryz.prog 47 #[pv K b, .agg #[.int .u8 x.k, .string (st x.c), .int .i64 x.n, .string (st x.v), .slice a1 n1 c1, .slice a2 n2 c2]] w (Lays1 B b w (zs ++ (([] : Str)))) := by
  have eK : ∀ (args : Array Value) (w : World), (callFunc K args).run Tryz.prog w = .ok (.enter K args) w := hK.1
  have HL : Hid (zs.length + (([] : Str)).length ≤ 1000000000) := hlen
  have HB : Hid (Bd w B b zs) := hb
  have H0 : Hid (At (w.alloc (.cells #[.int .u8 x.k, .string (st x.c), .int .i64 x.n, .string (st x.v), .slice a1 n1 c1, .slice a2 n2 c2] 100)) B b (w.alloc (.cells #[.int .u8 x.k, .string (st x.c), .int .i64 x.n, .string (st x.v), .slice a1 n1 c1, .slice a2 n2 c2] 100)) zs) := At.refl (HB.out.alloc _)
  have HZ : Hid (At w B b (w.alloc (.cells #[.int .u8 x.k, .string (st x.c), .int .i64 x.n, .string (st x.v), .slice a1 n1 c1, .slice a2 n2 c2] 100)) zs) := (At.refl HB.out).alloc _
  have HX : Hid (∀ W z, At (w.alloc (.cells #[.int .u8 x.k, .string (st x.c), .int .i64 x.n, .string (st x.v), .slice a1 n1 c1, .slice a2 n2 c2] 100)) B b W z → W.cell? ⟨w.heap.size, 0, none⟩ = some (.int .u8 x.k) ∧ W.cell? ⟨w.heap.size, 1, none⟩ = some (.string (st x.c)) ∧ W.cell? ⟨w.heap.size, 2, none⟩ = some (.int .i64 x.n) ∧ W.cell? ⟨w.heap.size, 3, none⟩ = some (.string (st x.v)) ∧ W.cell? ⟨w.heap.size, 4, none⟩ = some (.slice a1 n1 c1) ∧ W.cell? ⟨w.heap.size, 5, none⟩ = some (.slice a2 n2 c2)) := by
    intro W z hW
    have hq := hW.fb
    have hlt : w.heap.size < (w.alloc (.cells #[.int .u8 x.k, .string (st x.c), .int .i64 x.n, .string (st x.v), .slice a1 n1 c1, .slice a2 n2 c2] 100)).heap.size := by simp
    have hap : Apart (w.alloc (.cells #[.int .u8 x.k, .string (st x.c), .int .i64 x.n, .string (st x.v), .slice a1 n1 c1, .slice a2 n2 c2] 100)) b w.heap.size := (HB.out.new (Nat.le_refl _)).alloc HB.out.lt _
    exact ⟨hq.cell hlt hap (by simp), hq.cell hlt hap (by simp), hq.cell hlt hap (by simp), hq.cell hlt hap (by simp), hq.cell hlt hap (by simp), hq.cell hlt hap (by simp)⟩
  have HV : Hid (Vars w) := hV
  clear hV
  have hb1 := hb.lt
  clear hlen hb
  have H1s : Hid (Row 2 (ReS (fun _ k => k < B)) w (fun k => k < B) (.slice a1 n1 c1) x.sets) := h1
  have H2s : Hid (Row 1 (ReE (fun _ k => k < B)) w (fun k => k < B) (.slice a2 n2 c2) x.exprs) := h2
  have HF : Hid (gAct x) := hf
  clear h1 h2 hf
  unfold pv at *
  go_enter Tryz.func47, Tryz.ntmps47
  go_wp2
  go_end0
  exact ⟨rfl, by have := HZ.out.trans H0.out; first | exact this | simpa only [List.append_assoc, List.cons_append, List.nil_append, List.append_nil] using this⟩
end Go.Proofs.YtemacdimdpnkeaaGreatDoor
namespace Go.Proofs.YtemacdimdpnkeaaGreatDoor
set_option maxRecDepth 20000
open Go.RowKit
set_option linter.unusedVariables false
set_option linter.unusedSimpArgs false
theorem act_lay {B K b : Nat} (hK : PutC K) (zs : Str) (cs : List Value) (x : ActD) (w : World) (hR : ReT (fun _ k => k < B) w cs x) (hb : Bd w B b zs) (hlen : zs.length + (shAct svd x).length ≤ 1000000000) (hf : gAct x) (hB : 5 ≤ B) (hV : Vars w) :
    Calls Tryz.prog 47 #[pv K b, .agg cs.toArray] w (Lays1 B b w (zs ++ shAct svd x)) := by
  obtain ⟨v1, v2, rfl, h1, h2⟩ := hR
  obtain ⟨a1, n1, c1, rfl⟩ : ∃ a n c, v1 = .slice a n c := by
    obtain ⟨css, h3, -⟩ := h1
    obtain ⟨a, c, e⟩ := h3.shape
    exact ⟨a, _, c, e⟩
  obtain ⟨a2, n2, c2, rfl⟩ : ∃ a n c, v2 = .slice a n c := by
    obtain ⟨css, h3, -⟩ := h2
    obtain ⟨a, c, e⟩ := h3.shape
    exact ⟨a, _, c, e⟩
  obtain ⟨k, c, n, v, sets, exprs⟩ := x
  have e0 : shAct svd ⟨k, c, n, v, sets, exprs⟩ = if k = 0 then ([40, 109, 97, 107, 101, 32] ++ c) ++ (spJ (sets.map (shSet svd)) ++ [41]) else if k = 1 then ([40, 109, 111, 100, 105, 102, 121, 32] ++ Lib.itoa n) ++ (spJ (sets.map (shSet svd)) ++ [41]) else if k = 2 then ([40, 114, 101, 109, 111, 118, 101, 32] ++ Lib.itoa n) ++ [41] else if k = 3 then [40, 98, 105, 110, 100, 32] ++ (([60] ++ (v ++ [62])) ++ (spJ (exprs.map (shE svd)) ++ [41])) else if k = 4 then [40, 119, 114, 105, 116, 101] ++ (spJ (exprs.map (shE svd)) ++ [41]) else if k = 5 then [40, 104, 97, 108, 116] ++ [41] else [] := by
    unfold shAct
    simp only [sMake, sModify, sRemove, sBind, sWrite, sHalt, List.cons_append, List.nil_append, List.append_assoc]
  rw [e0] at hlen ⊢
  by_cases k0 : k = 0
  · subst k0
    rw [if_pos rfl] at hlen ⊢
    exact act_lay_0 hK zs ⟨0, c, n, v, sets, exprs⟩ a1 a2 n1 c1 n2 c2 w hb hlen h1 h2 hf hB hV
  by_cases k1 : k = 1
  · subst k1
    rw [if_neg (by decide)] at hlen ⊢
    rw [if_pos rfl] at hlen ⊢
    exact act_lay_1 hK zs ⟨1, c, n, v, sets, exprs⟩ a1 a2 n1 c1 n2 c2 w hb hlen h1 h2 hf hB hV
  by_cases k2 : k = 2
  · subst k2
    rw [if_neg (by decide)] at hlen ⊢
    rw [if_neg (by decide)] at hlen ⊢
    rw [if_pos rfl] at hlen ⊢
    exact act_lay_2 hK zs ⟨2, c, n, v, sets, exprs⟩ a1 a2 n1 c1 n2 c2 w hb hlen h1 h2 hf hB hV
  by_cases k3 : k = 3
  · subst k3
    rw [if_neg (by decide)] at hlen ⊢
    rw [if_neg (by decide)] at hlen ⊢
    rw [if_neg (by decide)] at hlen ⊢
    rw [if_pos rfl] at hlen ⊢
    exact act_lay_3 hK zs ⟨3, c, n, v, sets, exprs⟩ a1 a2 n1 c1 n2 c2 w hb hlen h1 h2 hf hB hV
  by_cases k4 : k = 4
  · subst k4
    rw [if_neg (by decide)] at hlen ⊢
    rw [if_neg (by decide)] at hlen ⊢
    rw [if_neg (by decide)] at hlen ⊢
    rw [if_neg (by decide)] at hlen ⊢
    rw [if_pos rfl] at hlen ⊢
    exact act_lay_4 hK zs ⟨4, c, n, v, sets, exprs⟩ a1 a2 n1 c1 n2 c2 w hb hlen h1 h2 hf hB hV
  by_cases k5 : k = 5
  · subst k5
    rw [if_neg (by decide)] at hlen ⊢
    rw [if_neg (by decide)] at hlen ⊢
    rw [if_neg (by decide)] at hlen ⊢
    rw [if_neg (by decide)] at hlen ⊢
    rw [if_neg (by decide)] at hlen ⊢
    rw [if_pos rfl] at hlen ⊢
    exact act_lay_5 hK zs ⟨5, c, n, v, sets, exprs⟩ a1 a2 n1 c1 n2 c2 w hb hlen h1 h2 hf hB hV
  rw [if_neg k0, if_neg k1, if_neg k2, if_neg k3, if_neg k4, if_neg k5] at hlen ⊢
  exact act_lay_6 hK zs ⟨k, c, n, v, sets, exprs⟩ a1 a2 n1 c1 n2 c2 w hb hlen h1 h2 hf k0 k1 k2 k3 k4 k5 hB hV
theorem acts_lay {B K b : Nat} (hK : PutC K) (zs : Str) (v : Value) (xs : List ActD) (w : World) (hR : Row 6 (ReT (fun _ k => k < B)) w (fun k => k < B) v xs) (hb : Bd w B b zs) (hlen : zs.length + (spJ (xs.map (shAct svd))).length ≤ 1000000000) (hf : ∀ x ∈ xs, gAct x) (hB : 5 ≤ B) (hV : Vars w) :
    Calls Tryz.prog 46 #[pv K b, v, .func (.func 47) #[] #[]] w (Lays1 B b w (zs ++ spJ (xs.map (shAct svd)))) := by
  obtain ⟨css, h1, h2⟩ := hR
  have hl := h2.len
  refine each50 hK (enters_of Tryz.func47 (by kernel_rfl) rfl) zs v css (xs.map (shAct svd)) w h1 (fun i hi => ?_) (by rw [List.length_map]; exact hl) hb hlen fun i hi W z hW hz => ?_
  · have hr := h2.at i [] (⟨0, [], 0, [], [], []⟩ : ActD) (by omega)
    obtain ⟨v1, v2, e, ⟨css1, q1, -⟩, ⟨css2, q2, -⟩⟩ := hr
    obtain ⟨a1, c1, rfl⟩ := q1.shape
    obtain ⟨a2, c2, rfl⟩ := q2.shape
    exact ⟨_, _, _, _, _, _, _, _, _, _, e⟩
  · have hi' : i < xs.length := by omega
    rw [getD_mapS (shAct svd) xs i (⟨0, [], 0, [], [], []⟩ : ActD) hi'] at hz ⊢
    have hm := getD_mem xs i (⟨0, [], 0, [], [], []⟩ : ActD) hi'
    have hr := (h2.at i [] (⟨0, [], 0, [], [], []⟩ : ActD) hi').keep (stays_below hW.bel)
    exact act_lay hK z _ _ W hr hW.bd hz (hf _ hm) hB (hV.at hB hW.bel)
set_option maxHeartbeats 4000000 in
theorem rule_lay_a {B K b : Nat} (hK : PutC K) (zs : Str) (x : RuleD) (a1 a2 : Option Addr) (n1 c1 n2 c2 : Nat) (w : World) (hb : Bd w B b zs) (hlen : zs.length + (([40, 112, 32] ++ x.nm) ++ (spJ (x.conds.map (shCond svd)) ++ ([32, 45, 45, 62] ++ (spJ (x.acts.map (shAct svd)) ++ [41])))).length ≤ 1000000000) (h1 : Row 3 (ReC (fun _ k => k < B)) w (fun k => k < B) (.slice a1 n1 c1) x.conds) (h2 : Row 6 (ReT (fun _ k => k < B)) w (fun k => k < B) (.slice a2 n2 c2) x.acts) (hf : gR x) (hB : 5 ≤ B) (hV : Vars w) :
    Calls Tryz.prog 22 #[pv K b, .agg #[.string (st x.nm), .slice a1 n1 c1, .slice a2 n2 c2]] w (Lays1 B b w (zs ++ (([40, 112, 32] ++ x.nm) ++ (spJ (x.conds.map (shCond svd)) ++ ([32, 45, 45, 62] ++ (spJ (x.acts.map (shAct svd)) ++ [41])))))) := by
  have eK : ∀ (args : Array Value) (w : World), (callFunc K args).run Tryz.prog w = .ok (.enter K args) w := hK.1
  have HL : Hid (zs.length + (([40, 112, 32] ++ x.nm) ++ (spJ (x.conds.map (shCond svd)) ++ ([32, 45, 45, 62] ++ (spJ (x.acts.map (shAct svd)) ++ [41])))).length ≤ 1000000000) := hlen
  have HB : Hid (Bd w B b zs) := hb
  have H0 : Hid (At (w.alloc (.cells #[.string (st x.nm), .slice a1 n1 c1, .slice a2 n2 c2] 51)) B b (w.alloc (.cells #[.string (st x.nm), .slice a1 n1 c1, .slice a2 n2 c2] 51)) zs) := At.refl (HB.out.alloc _)
  have HZ : Hid (At w B b (w.alloc (.cells #[.string (st x.nm), .slice a1 n1 c1, .slice a2 n2 c2] 51)) zs) := (At.refl HB.out).alloc _
  have HX : Hid (∀ W z, At (w.alloc (.cells #[.string (st x.nm), .slice a1 n1 c1, .slice a2 n2 c2] 51)) B b W z → W.cell? ⟨w.heap.size, 0, none⟩ = some (.string (st x.nm)) ∧ W.cell? ⟨w.heap.size, 1, none⟩ = some (.slice a1 n1 c1) ∧ W.cell? ⟨w.heap.size, 2, none⟩ = some (.slice a2 n2 c2)) := by
    intro W z hW
    have hq := hW.fb
    have hlt : w.heap.size < (w.alloc (.cells #[.string (st x.nm), .slice a1 n1 c1, .slice a2 n2 c2] 51)).heap.size := by simp
    have hap : Apart (w.alloc (.cells #[.string (st x.nm), .slice a1 n1 c1, .slice a2 n2 c2] 51)) b w.heap.size := (HB.out.new (Nat.le_refl _)).alloc HB.out.lt _
    exact ⟨hq.cell hlt hap (by simp), hq.cell hlt hap (by simp), hq.cell hlt hap (by simp)⟩
  have HV : Hid (Vars w) := hV
  clear hV
  have hb1 := hb.lt
  clear hlen hb
  have H1s : Hid (Row 3 (ReC (fun _ k => k < B)) w (fun k => k < B) (.slice a1 n1 c1) x.conds) := h1
  have H2s : Hid (Row 6 (ReT (fun _ k => k < B)) w (fun k => k < B) (.slice a2 n2 c2) x.acts) := h2
  have HF : Hid (gR x) := hf
  clear h1 h2 hf
  have tok1 : Hid True := trivial
  have tok2 : Hid True := trivial
  have tok3 : Hid True := trivial
  have tok4 : Hid True := trivial
  have tok5 : Hid True := trivial
  unfold pv at *
  go_enter Tryz.func22, Tryz.ntmps22
  go_wp2_with (first | (go_at_fn K; have tku := tok1; clear tku tok1; refine (put2 hK H0.out.bd ([40, 112, 32]) (x.nm) (by have := HL.out; (try simp only [List.length_append, List.length_cons, List.length_nil] at this ⊢); omega) (by simp)).mono ?_; rintro e w1 ⟨rfl, hh⟩; have hh1 : At (w.alloc (.cells #[.string (st x.nm), .slice a1 n1 c1, .slice a2 n2 c2] 51)) B b w1 (zs ++ ([40, 112, 32] ++ (x.nm))) := H0.out.trans hh; clear hh; obtain ⟨p0, p1, p2⟩ := HX.out _ _ hh1; have H1 : Hid (At (w.alloc (.cells #[.string (st x.nm), .slice a1 n1 c1, .slice a2 n2 c2] 51)) B b w1 (zs ++ ([40, 112, 32] ++ (x.nm)))) := hh1; have hs1 := hh1.bel.size; clear hh1) | (go_at_call 44; have tku := tok2; clear tku tok2; refine (conds_lay hK _ _ x.conds _ (Row.keep (P := fun _ k => k < B) (k := 8) (stays_below (HZ.out.trans H1.out).bel) (fun _ _ h => h.keep (stays_below (HZ.out.trans H1.out).bel)) H1s.out) H1.out.bd (by have := HL.out; (try simp only [List.length_append, List.length_cons, List.length_nil] at this ⊢); omega) HF.out.1 hB (HV.out.at hB (HZ.out.trans H1.out).bel)).mono ?_; rintro e w2 ⟨rfl, hh⟩; have hh2 : At (w.alloc (.cells #[.string (st x.nm), .slice a1 n1 c1, .slice a2 n2 c2] 51)) B b w2 ((zs ++ ([40, 112, 32] ++ (x.nm))) ++ (spJ (x.conds.map (shCond svd)))) := H1.out.trans hh; clear hh; obtain ⟨p0, p1, p2⟩ := HX.out _ _ hh2; have H2 : Hid (At (w.alloc (.cells #[.string (st x.nm), .slice a1 n1 c1, .slice a2 n2 c2] 51)) B b w2 ((zs ++ ([40, 112, 32] ++ (x.nm))) ++ (spJ (x.conds.map (shCond svd))))) := hh2; have hs2 := hh2.bel.size; clear hh2) | (go_at_fn K; have tku := tok3; clear tku tok3; refine (put1 hK H2.out.bd ([32, 45, 45, 62]) (by have := HL.out; (try simp only [List.length_append, List.length_cons, List.length_nil] at this ⊢); omega) (by simp)).mono ?_; rintro e w3 ⟨rfl, hh⟩; have hh3 : At (w.alloc (.cells #[.string (st x.nm), .slice a1 n1 c1, .slice a2 n2 c2] 51)) B b w3 (((zs ++ ([40, 112, 32] ++ (x.nm))) ++ (spJ (x.conds.map (shCond svd)))) ++ ([32, 45, 45, 62])) := H2.out.trans hh; clear hh; obtain ⟨p0, p1, p2⟩ := HX.out _ _ hh3; have H3 : Hid (At (w.alloc (.cells #[.string (st x.nm), .slice a1 n1 c1, .slice a2 n2 c2] 51)) B b w3 (((zs ++ ([40, 112, 32] ++ (x.nm))) ++ (spJ (x.conds.map (shCond svd)))) ++ ([32, 45, 45, 62]))) := hh3; have hs3 := hh3.bel.size; clear hh3) | (go_at_call 46; have tku := tok4; clear tku tok4; refine (acts_lay hK _ _ x.acts _ (Row.keep (P := fun _ k => k < B) (k := 9) (stays_below (HZ.out.trans H3.out).bel) (fun _ _ h => h.keep (stays_below (HZ.out.trans H3.out).bel)) H2s.out) H3.out.bd (by have := HL.out; (try simp only [List.length_append, List.length_cons, List.length_nil] at this ⊢); omega) HF.out.2 hB (HV.out.at hB (HZ.out.trans H3.out).bel)).mono ?_; rintro e w4 ⟨rfl, hh⟩; have hh4 : At (w.alloc (.cells #[.string (st x.nm), .slice a1 n1 c1, .slice a2 n2 c2] 51)) B b w4 ((((zs ++ ([40, 112, 32] ++ (x.nm))) ++ (spJ (x.conds.map (shCond svd)))) ++ ([32, 45, 45, 62])) ++ (spJ (x.acts.map (shAct svd)))) := H3.out.trans hh; clear hh; obtain ⟨p0, p1, p2⟩ := HX.out _ _ hh4; have H4 : Hid (At (w.alloc (.cells #[.string (st x.nm), .slice a1 n1 c1, .slice a2 n2 c2] 51)) B b w4 ((((zs ++ ([40, 112, 32] ++ (x.nm))) ++ (spJ (x.conds.map (shCond svd)))) ++ ([32, 45, 45, 62])) ++ (spJ (x.acts.map (shAct svd))))) := hh4; have hs4 := hh4.bel.size; clear hh4) | (go_at_fn K; have tku := tok5; clear tku tok5; refine (put1 hK H4.out.bd ([41]) (by have := HL.out; (try simp only [List.length_append, List.length_cons, List.length_nil] at this ⊢); omega) (by simp)).mono ?_; rintro e w5 ⟨rfl, hh⟩; have hh5 : At (w.alloc (.cells #[.string (st x.nm), .slice a1 n1 c1, .slice a2 n2 c2] 51)) B b w5 (((((zs ++ ([40, 112, 32] ++ (x.nm))) ++ (spJ (x.conds.map (shCond svd)))) ++ ([32, 45, 45, 62])) ++ (spJ (x.acts.map (shAct svd)))) ++ ([41])) := H4.out.trans hh; clear hh; obtain ⟨p0, p1, p2⟩ := HX.out _ _ hh5; have H5 : Hid (At (w.alloc (.cells #[.string (st x.nm), .slice a1 n1 c1, .slice a2 n2 c2] 51)) B b w5 (((((zs ++ ([40, 112, 32] ++ (x.nm))) ++ (spJ (x.conds.map (shCond svd)))) ++ ([32, 45, 45, 62])) ++ (spJ (x.acts.map (shAct svd)))) ++ ([41]))) := hh5; have hs5 := hh5.bel.size; clear hh5))
  go_end0
  exact ⟨rfl, by have := HZ.out.trans H5.out; first | exact this | simpa only [List.append_assoc, List.cons_append, List.nil_append, List.append_nil] using this⟩
theorem rule_lay {B K b : Nat} (hK : PutC K) (zs : Str) (cs : List Value) (x : RuleD) (w : World) (hR : ReR (fun _ k => k < B) w cs x) (hb : Bd w B b zs) (hlen : zs.length + (shRule svd x).length ≤ 1000000000) (hf : gR x) (hB : 5 ≤ B) (hV : Vars w) :
    Calls Tryz.prog 22 #[pv K b, .agg cs.toArray] w (Lays1 B b w (zs ++ shRule svd x)) := by
  obtain ⟨v1, v2, rfl, h1, h2⟩ := hR
  obtain ⟨a1, n1, c1, rfl⟩ : ∃ a n c, v1 = .slice a n c := by
    obtain ⟨css, h3, -⟩ := h1
    obtain ⟨a, c, e⟩ := h3.shape
    exact ⟨a, _, c, e⟩
  obtain ⟨a2, n2, c2, rfl⟩ : ∃ a n c, v2 = .slice a n c := by
    obtain ⟨css, h3, -⟩ := h2
    obtain ⟨a, c, e⟩ := h3.shape
    exact ⟨a, _, c, e⟩
  have e2 : shRule svd x = ([40, 112, 32] ++ x.nm) ++ (spJ (x.conds.map (shCond svd)) ++ ([32, 45, 45, 62] ++ (spJ (x.acts.map (shAct svd)) ++ [41]))) := by
    unfold shRule
    simp only [sP, List.cons_append, List.nil_append, List.append_assoc]
  rw [e2] at hlen ⊢
  exact rule_lay_a hK zs x a1 a2 n1 c1 n2 c2 w hb hlen h1 h2 hf hB hV
end Go.Proofs.YtemacdimdpnkeaaGreatDoor
namespace Go.Proofs.YtemacdimdpnkeaaGreatDoor
set_option maxRecDepth 20000
open Go.RowKit
set_option linter.unusedVariables false
set_option linter.unusedSimpArgs false
def flI {α : Type} (f : α → Str) (xs : List α) (i : Nat) : Str := ((xs.take i).map f).flatten
theorem flI_zero {α : Type} (f : α → Str) (xs : List α) : flI f xs 0 = [] := by simp [flI]
theorem flI_succ {α : Type} (f : α → Str) (xs : List α) (d : α) {i : Nat} (h : i < xs.length) : flI f xs (i + 1) = flI f xs i ++ f (xs.getD i d) := by
  unfold flI
  rw [List.take_succ_eq_append_getElem h, List.map_append, List.flatten_append, List.getD_eq_getElem?_getD, List.getElem?_eq_getElem h]
  simp
theorem flI_all {α : Type} (f : α → Str) (xs : List α) : flI f xs xs.length = (xs.map f).flatten := by unfold flI; rw [List.take_length]
theorem flI_le {α : Type} (f : α → Str) (xs : List α) (i : Nat) : (flI f xs i).length ≤ ((xs.map f).flatten).length := by
  unfold flI
  conv => rhs; rw [← List.take_append_drop i xs, List.map_append, List.flatten_append, List.length_append]
  omega
set_option maxHeartbeats 4000000 in
theorem prog_lay {B K b : Nat} (hK : PutC K) (zs : Str) (cs : List Value) (p : ProgD) (w : World) (hR : ReP (fun _ k => k < B) w cs p) (hb : Bd w B b zs) (hlen : zs.length + (shText svd p).length ≤ 1000000000) (hf : gP p) (hB : 5 ≤ B) (hV : Vars w) :
    Calls Tryz.prog 14 #[pv K b, .agg cs.toArray] w (Lays1 B b w (zs ++ shText svd p)) := by
  obtain ⟨v1, v2, rfl, ⟨css1, h1, r1⟩, ⟨css2, h2, r2⟩⟩ := hR
  obtain ⟨a1, c1, rfl⟩ := h1.shape
  obtain ⟨a2, c2, rfl⟩ := h2.shape
  obtain ⟨-, m1, m1', -⟩ := h1.row
  obtain ⟨-, m2, m2', -⟩ := h2.row
  have HL1 : Hid (css1.length = p.cs.length) := r1.len
  have HL2 : Hid (css2.length = p.rs.length) := r2.len
  have R1 : Hid (∀ i, i < css1.length → ∃ k off, a1 = some ⟨k, off, none⟩ ∧ k < B ∧ ∀ j, j < 2 → w.cell? ⟨k, off + (i * 2 + j), none⟩ = (css1.getD i [])[j]?) := by
    intro i hi
    obtain ⟨a', cap', e1, e2, e3, e4⟩ := h1
    obtain ⟨rfl, -, -⟩ := Value.slice.inj e1
    rcases e4 with e4 | ⟨k, off, e, hk, hp, hc⟩
    · rw [e4] at hi; simp at hi
    · exact ⟨k, off, e, hp, fun j hj => hc i j hi hj⟩
  have R2 : Hid (∀ i, i < css2.length → ∃ k off, a2 = some ⟨k, off, none⟩ ∧ k < B ∧ ∀ j, j < 3 → w.cell? ⟨k, off + (i * 3 + j), none⟩ = (css2.getD i [])[j]?) := by
    intro i hi
    obtain ⟨a', cap', e1, e2, e3, e4⟩ := h2
    obtain ⟨rfl, -, -⟩ := Value.slice.inj e1
    rcases e4 with e4 | ⟨k, off, e, hk, hp, hc⟩
    · rw [e4] at hi; simp at hi
    · exact ⟨k, off, e, hp, fun j hj => hc i j hi hj⟩
  have S1 : Hid (∀ i, i < css1.length → ReK (fun _ k => k < B) w (css1.getD i []) (p.cs.getD i ⟨[], []⟩)) := fun i hi => r1.at i [] _ (by have := HL1.out; omega)
  have S2 : Hid (∀ i, i < css2.length → ReR (fun _ k => k < B) w (css2.getD i []) (p.rs.getD i ⟨[], [], []⟩)) := fun i hi => r2.at i [] _ (by have := HL2.out; omega)
  have HL : Hid (zs.length + ((p.cs.map fun c => shClass c ++ [10]).flatten.length + (p.rs.map fun r => shRule svd r ++ [10]).flatten.length) ≤ 1000000000) := by
    have h := hlen
    unfold shText at h
    rw [List.length_append] at h
    exact h
  have HB : Hid (Bd w B b zs) := hb
  have HF : Hid (gP p) := hf
  have HV : Hid (Vars w) := hV
  have hb1 := hb.lt
  have eK : ∀ (args : Array Value) (w : World), (callFunc K args).run Tryz.prog w = .ok (.enter K args) w := hK.1
  have HX : Hid (∀ W z, At (w.alloc (.cells #[.slice a1 css1.length c1, .slice a2 css2.length c2] 26)) B b W z → W.cell? ⟨w.heap.size, 1, none⟩ = some (.slice a2 css2.length c2) ∧ w.heap.size < W.heap.size) := by
    intro W z hW
    have hlt : w.heap.size < (w.alloc (.cells #[.slice a1 css1.length c1, .slice a2 css2.length c2] 26)).heap.size := by simp
    exact ⟨hW.fb.cell hlt ((HB.out.new (Nat.le_refl _)).alloc hb1 _) (by simp), Nat.lt_of_lt_of_le hlt hW.fb.1⟩
  have H0 : Hid (At w B b (w.alloc (.cells #[.slice a1 css1.length c1, .slice a2 css2.length c2] 26)) zs) := (At.refl HB.out).alloc _
  have hnn1 : (css1.length : Int) ≤ 9223372036854775807 := by omega
  have hnn2 : (css2.length : Int) ≤ 9223372036854775807 := by omega
  clear r1 r2 h1 h2 hb hlen hf hV
  unfold pv at *
  go_enter Tryz.func14, Tryz.ntmps14
  go_wp2
  go_loopw [11] (fun v wr => ∃ i : Nat, v = .int .i64 i ∧ i ≤ css1.length ∧ At (w.alloc (.cells #[.slice a1 css1.length c1, .slice a2 css2.length c2] 26)) B b wr (zs ++ flI (fun c => shClass c ++ [10]) p.cs i)) (fun v _ => (css1.length - intOf v).toNat)
  case atStart => exact ⟨0, rfl, Nat.zero_le _, by rw [flI_zero, List.append_nil]; exact At.refl (HB.out.alloc _)⟩
  case round =>
    obtain ⟨i, rfl, hi, hat⟩ := hrel
    by_cases hlt : i < css1.length
    · have hiz : (i : Int) < css1.length := by omega
      obtain ⟨k, off, rfl, hk, hc⟩ := R1.out i hlt
      have hS := S1.out i hlt
      obtain ⟨y, hy⟩ : ∃ y, y = p.cs.getD i ⟨[], []⟩ := ⟨_, rfl⟩
      rw [← hy] at hS
      have hmem : y ∈ p.cs := by rw [hy]; exact getD_mem _ _ _ (by have := HL1.out; omega)
      obtain ⟨a5, n5, c5, he⟩ : ∃ a5 n5 c5, css1.getD i [] = [.string (st y.nm), .slice a5 n5 c5] := by
        obtain ⟨v1, e, q1⟩ := hS
        obtain ⟨a1, c1, rfl⟩ := q1.shape
        exact ⟨_, _, _, e⟩
      rw [he] at hc
      have p0 : wr.cell? ⟨k, off + i * 2, none⟩ = some (.string (st y.nm)) := by simpa [Nat.add_assoc] using ((H0.out.trans hat).bel.cell (p := ⟨k, off + (i * 2 + 0), none⟩) hk).trans (hc 0 (by decide))
      have p1 : wr.cell? ⟨k, off + i * 2 + 1, none⟩ = some (.slice a5 n5 c5) := by simpa [Nat.add_assoc] using ((H0.out.trans hat).bel.cell (p := ⟨k, off + (i * 2 + 1), none⟩) hk).trans (hc 1 (by decide))
      obtain ⟨z, hz⟩ : ∃ z, z = zs ++ flI (fun c => shClass c ++ [10]) p.cs i := ⟨_, rfl⟩
      rw [← hz] at hat
      have HNX : Hid (z ++ (shClass y ++ [10]) = zs ++ flI (fun c => shClass c ++ [10]) p.cs (i + 1)) := by
        show z ++ _ = _
        rw [flI_succ (fun c => shClass c ++ [10]) p.cs ⟨[], []⟩ (by have := HL1.out; omega), ← hy, hz, List.append_assoc]
      have HLE : Hid (z.length + ((shClass y).length + 1) ≤ 1000000000) := by
        have h1 := HL.out
        have h2 := flI_le (fun c => shClass c ++ [10]) p.cs (i + 1)
        rw [flI_succ (fun c => shClass c ++ [10]) p.cs ⟨[], []⟩ (by have := HL1.out; omega), ← hy] at h2
        simp only [List.length_append, List.length_cons, List.length_nil] at h2
        show z.length + ((shClass y).length + 1) ≤ 1000000000
        rw [hz]
        simp only [List.length_append]
        omega
      have HA : Hid (At (w.alloc (.cells #[.slice (some ⟨k, off, none⟩) css1.length c1, .slice a2 css2.length c2] 26)) B b wr z) := hat
      have hbel := (H0.out.trans hat).bel
      have HS : Hid (ReK (fun _ k => k < B) wr [.string (st y.nm), .slice a5 n5 c5] y) := by rw [he] at hS; exact hS.keep (stays_below hbel)
      have HVr : Hid (Vars wr) := HV.out.at hB hbel
      have HBD : Hid (Bd (wr.alloc (.cells #[.string (st y.nm), .slice a5 n5 c5] 61)) B b z) := hat.bd.alloc _
      have HBW : Hid (Below wr.heap.size wr (wr.alloc (.cells #[.string (st y.nm), .slice a5 n5 c5] 61))) := bxn _ _
      have hlb := hat.bd.lt
      have hwr : B ≤ wr.heap.size := by have h1 := hat.bd.le; omega
      clear hat hc hz hS he hbel hy
      have tok1 : Hid True := trivial
      have tok2 : Hid True := trivial
      go_wp2_with (first | (go_at_call 30; have tku := tok1; clear tku tok1; refine (class_lay hK z [.string (st y.nm), .slice a5 n5 c5] y _ (HS.out.keep (stays_below (HBW.out.mono hwr))) HBD.out (by have h1 := HLE.out; omega)).mono ?_; rintro e w2 ⟨rfl, hh⟩; have H2 : Hid (At (w.alloc (.cells #[.slice (some ⟨k, off, none⟩) css1.length c1, .slice a2 css2.length c2] 26)) B b w2 (z ++ shClass y)) := (HA.out.alloc _).trans hh; clear hh) | (go_at_fn K; have tku := tok2; clear tku tok2; refine (put1 hK H2.out.bd [10] (by have h1 := HLE.out; simp only [List.length_append, List.length_cons, List.length_nil]; omega) (by simp)).mono ?_; rintro e w3 ⟨rfl, hh⟩; have H3 : Hid (At (w.alloc (.cells #[.slice (some ⟨k, off, none⟩) css1.length c1, .slice a2 css2.length c2] 26)) B b w3 ((z ++ shClass y) ++ [10])) := H2.out.trans hh; clear hh))
      go_roundw
      case rel => exact ⟨i + 1, by simp, by omega, by rw [← HNX.out, ← List.append_assoc]; exact H3.out⟩
      case measure => simp [intOf]; omega
    · have hiz : ¬ (i : Int) < css1.length := by omega
      obtain rfl : i = css1.length := by omega
      obtain ⟨wo, hwo⟩ : ∃ wo, wo = wr := ⟨_, rfl⟩
      subst hwo
      obtain ⟨q1, hxl⟩ := HX.out _ _ hat
      have HA1 : Hid (At (w.alloc (.cells #[.slice a1 css1.length c1, .slice a2 css2.length c2] 26)) B b wo (zs ++ (p.cs.map fun c => shClass c ++ [10]).flatten)) := by
        have e : flI (fun c => shClass c ++ [10]) p.cs css1.length = (p.cs.map fun c => shClass c ++ [10]).flatten := by rw [HL1.out, flI_all]
        rw [e] at hat; exact hat
      clear hat
      go_wp2
      go_loopw [25] (fun v wr => ∃ i : Nat, v = .int .i64 i ∧ i ≤ css2.length ∧ At (w.alloc (.cells #[.slice a1 css1.length c1, .slice a2 css2.length c2] 26)) B b wr ((zs ++ (p.cs.map fun c => shClass c ++ [10]).flatten) ++ flI (fun r => shRule svd r ++ [10]) p.rs i)) (fun v _ => (css2.length - intOf v).toNat)
      case atStart => exact ⟨0, rfl, Nat.zero_le _, by rw [flI_zero, List.append_nil]; exact HA1.out⟩
      case round =>
        obtain ⟨i, rfl, hi2, hat⟩ := hrel
        by_cases hlt : i < css2.length
        · have hiz2 : (i : Int) < css2.length := by omega
          obtain ⟨k, off, rfl, hk, hc⟩ := R2.out i hlt
          have hS := S2.out i hlt
          obtain ⟨y, hy⟩ : ∃ y, y = p.rs.getD i ⟨[], [], []⟩ := ⟨_, rfl⟩
          rw [← hy] at hS
          have hmem : y ∈ p.rs := by rw [hy]; exact getD_mem _ _ _ (by have := HL2.out; omega)
          obtain ⟨a5, n5, c5, a6, n6, c6, he⟩ : ∃ a5 n5 c5 a6 n6 c6, css2.getD i [] = [.string (st y.nm), .slice a5 n5 c5, .slice a6 n6 c6] := by
            obtain ⟨v1, v2, e, ⟨cs1, q1, -⟩, ⟨cs2, q2, -⟩⟩ := hS
            obtain ⟨a1, c1, rfl⟩ := q1.shape
            obtain ⟨a2, c2, rfl⟩ := q2.shape
            exact ⟨_, _, _, _, _, _, e⟩
          rw [he] at hc
          have p0 : wr.cell? ⟨k, off + i * 3, none⟩ = some (.string (st y.nm)) := by simpa [Nat.add_assoc] using ((H0.out.trans hat).bel.cell (p := ⟨k, off + (i * 3 + 0), none⟩) hk).trans (hc 0 (by decide))
          have p1 : wr.cell? ⟨k, off + i * 3 + 1, none⟩ = some (.slice a5 n5 c5) := by simpa [Nat.add_assoc] using ((H0.out.trans hat).bel.cell (p := ⟨k, off + (i * 3 + 1), none⟩) hk).trans (hc 1 (by decide))
          have p2 : wr.cell? ⟨k, off + i * 3 + 2, none⟩ = some (.slice a6 n6 c6) := by simpa [Nat.add_assoc] using ((H0.out.trans hat).bel.cell (p := ⟨k, off + (i * 3 + 2), none⟩) hk).trans (hc 2 (by decide))
          obtain ⟨z, hz⟩ : ∃ z, z = (zs ++ (p.cs.map fun c => shClass c ++ [10]).flatten) ++ flI (fun r => shRule svd r ++ [10]) p.rs i := ⟨_, rfl⟩
          rw [← hz] at hat
          have HNX : Hid (z ++ (shRule svd y ++ [10]) = (zs ++ (p.cs.map fun c => shClass c ++ [10]).flatten) ++ flI (fun r => shRule svd r ++ [10]) p.rs (i + 1)) := by
            show z ++ _ = _
            rw [flI_succ (fun r => shRule svd r ++ [10]) p.rs ⟨[], [], []⟩ (by have := HL2.out; omega), ← hy, hz, List.append_assoc]
          have HLE : Hid (z.length + ((shRule svd y).length + 1) ≤ 1000000000) := by
            have h1 := HL.out
            have h2 := flI_le (fun r => shRule svd r ++ [10]) p.rs (i + 1)
            rw [flI_succ (fun r => shRule svd r ++ [10]) p.rs ⟨[], [], []⟩ (by have := HL2.out; omega), ← hy] at h2
            simp only [List.length_append, List.length_cons, List.length_nil] at h2
            show z.length + ((shRule svd y).length + 1) ≤ 1000000000
            rw [hz]
            simp only [List.length_append]
            omega
          have HA : Hid (At (w.alloc (.cells #[.slice a1 css1.length c1, .slice (some ⟨k, off, none⟩) css2.length c2] 26)) B b wr z) := hat
          have hbel := (H0.out.trans hat).bel
          have HS : Hid (ReR (fun _ k => k < B) wr [.string (st y.nm), .slice a5 n5 c5, .slice a6 n6 c6] y) := by rw [he] at hS; exact hS.keep (stays_below hbel)
          have HVr : Hid (Vars wr) := HV.out.at hB hbel
          have HBD : Hid (Bd (wr.alloc (.cells #[.string (st y.nm), .slice a5 n5 c5, .slice a6 n6 c6] 51)) B b z) := hat.bd.alloc _
          have HBW : Hid (Below wr.heap.size wr (wr.alloc (.cells #[.string (st y.nm), .slice a5 n5 c5, .slice a6 n6 c6] 51))) := bxn _ _
          have hlb := hat.bd.lt
          have hwr : B ≤ wr.heap.size := by have h1 := hat.bd.le; omega
          clear hat hc hz hS he hbel hy
          have tok1 : Hid True := trivial
          have tok2 : Hid True := trivial
          go_wp2_with (first | (go_at_call 22; have tku := tok1; clear tku tok1; refine (rule_lay hK z [.string (st y.nm), .slice a5 n5 c5, .slice a6 n6 c6] y _ (HS.out.keep (stays_below (HBW.out.mono hwr))) HBD.out (by have h1 := HLE.out; omega) (HF.out y hmem) hB (HVr.out.at hB (HBW.out.mono hwr))).mono ?_; rintro e w2 ⟨rfl, hh⟩; have H2 : Hid (At (w.alloc (.cells #[.slice a1 css1.length c1, .slice (some ⟨k, off, none⟩) css2.length c2] 26)) B b w2 (z ++ shRule svd y)) := (HA.out.alloc _).trans hh; clear hh) | (go_at_fn K; have tku := tok2; clear tku tok2; refine (put1 hK H2.out.bd [10] (by have h1 := HLE.out; simp only [List.length_append, List.length_cons, List.length_nil]; omega) (by simp)).mono ?_; rintro e w3 ⟨rfl, hh⟩; have H3 : Hid (At (w.alloc (.cells #[.slice a1 css1.length c1, .slice (some ⟨k, off, none⟩) css2.length c2] 26)) B b w3 ((z ++ shRule svd y) ++ [10])) := H2.out.trans hh; clear hh))
          go_roundw
          case rel => exact ⟨i + 1, by simp, by omega, by rw [← HNX.out, ← List.append_assoc]; exact H3.out⟩
          case measure => simp [intOf]; omega
        · have hiz2 : ¬ (i : Int) < css2.length := by omega
          obtain rfl : i = css2.length := by omega
          have HA2 : Hid (At w B b wr (zs ++ shText svd p)) := by
            have e : flI (fun r => shRule svd r ++ [10]) p.rs css2.length = (p.rs.map fun r => shRule svd r ++ [10]).flatten := by rw [HL2.out, flI_all]
            rw [e, List.append_assoc] at hat
            exact H0.out.trans hat
          clear hat
          go_wp2
          go_end0
          exact ⟨rfl, HA2.out⟩
end Go.Proofs.YtemacdimdpnkeaaGreatDoor
namespace Go.Proofs.YtemacdimdpnkeaaGreatDoor
set_option maxRecDepth 20000
open Go.RowKit
set_option linter.unusedVariables false
set_option linter.unusedSimpArgs false
theorem SlW.low {n : Nat} {w : World} {P : Nat → Prop} {v : Value} {css : List (List Value)} {b : Nat} (h : SlW n w P v css) (hb : w.heap.size ≤ b) : SlW n w (fun k => k < b) v css := by
  obtain ⟨a, cap, h1, h2, h3, h4⟩ := h
  refine ⟨a, cap, h1, h2, h3, ?_⟩
  rcases h4 with h4 | ⟨k, off, e, hk, hp, hc⟩
  · exact .inl h4
  · exact .inr ⟨k, off, e, hk, by omega, hc⟩
variable {P : Nat → Nat → Prop}
theorem Row.low {α : Type} {n : Nat} {R R' : World → List Value → α → Prop} {w : World} {Q : Nat → Prop} {v : Value} {xs : List α} {b : Nat} (h : Row n R w Q v xs) (hb : w.heap.size ≤ b) (hR : ∀ cs x, R w cs x → R' w cs x) : Row n R' w (fun k => k < b) v xs := by
  obtain ⟨css, h1, h2⟩ := h
  exact ⟨css, h1.low hb, h2.map hR⟩
theorem ReA.low {w : World} {cs : List Value} {x : AttrD} {b : Nat} (hb : w.heap.size ≤ b) (h : ReA P w cs x) : ReA (fun _ k => k < b) w cs x := by
  obtain ⟨v1, v2, e, h1, h2⟩ := h
  exact ⟨v1, v2, e, h1.low hb, h2.low hb⟩
theorem ReC.low {w : World} {cs : List Value} {x : CondD} {b : Nat} (hb : w.heap.size ≤ b) (h : ReC P w cs x) : ReC (fun _ k => k < b) w cs x := by
  obtain ⟨v, e, h1⟩ := h
  exact ⟨v, e, h1.low hb fun _ _ => ReA.low hb⟩
theorem ReS.low {w : World} {cs : List Value} {x : SetD} {b : Nat} (hb : w.heap.size ≤ b) (h : ReS P w cs x) : ReS (fun _ k => k < b) w cs x := by
  obtain ⟨v, e, h1⟩ := h
  exact ⟨v, e, h1.low hb⟩
theorem ReE.low {w : World} {cs : List Value} {x : List ItemD} {b : Nat} (hb : w.heap.size ≤ b) (h : ReE P w cs x) : ReE (fun _ k => k < b) w cs x := by
  obtain ⟨v, e, h1⟩ := h
  exact ⟨v, e, h1.low hb⟩
theorem ReT.low {w : World} {cs : List Value} {x : ActD} {b : Nat} (hb : w.heap.size ≤ b) (h : ReT P w cs x) : ReT (fun _ k => k < b) w cs x := by
  obtain ⟨v1, v2, e, h1, h2⟩ := h
  exact ⟨v1, v2, e, h1.low hb (fun _ _ => ReS.low hb), h2.low hb fun _ _ => ReE.low hb⟩
theorem ReR.low {w : World} {cs : List Value} {x : RuleD} {b : Nat} (hb : w.heap.size ≤ b) (h : ReR P w cs x) : ReR (fun _ k => k < b) w cs x := by
  obtain ⟨v1, v2, e, h1, h2⟩ := h
  exact ⟨v1, v2, e, h1.low hb (fun _ _ => ReC.low hb), h2.low hb fun _ _ => ReT.low hb⟩
theorem ReK.low {w : World} {cs : List Value} {x : ClassD} {b : Nat} (hb : w.heap.size ≤ b) (h : ReK P w cs x) : ReK (fun _ k => k < b) w cs x := by
  obtain ⟨v, e, h1⟩ := h
  exact ⟨v, e, h1.low hb⟩
theorem ReP.low {w : World} {cs : List Value} {x : ProgD} {b : Nat} (hb : w.heap.size ≤ b) (h : ReP P w cs x) : ReP (fun _ k => k < b) w cs x := by
  obtain ⟨v1, v2, e, h1, h2⟩ := h
  exact ⟨v1, v2, e, h1.low hb (fun _ _ => ReK.low hb), h2.low hb fun _ _ => ReR.low hb⟩
theorem Row.isSl {α : Type} {n : Nat} {R : World → List Value → α → Prop} {w : World} {Q : Nat → Prop} {v : Value} {xs : List α} (h : Row n R w Q v xs) : ∃ a m c, v = .slice a m c := by
  obtain ⟨css, h1, _⟩ := h
  obtain ⟨a, c, e⟩ := h1.shape
  exact ⟨a, _, c, e⟩
set_option maxHeartbeats 2000000 in
theorem text_any (cs : List Value) (p : ProgD) (w : World) (hR : ReP P w cs p) (hlen : (shText svd p).length ≤ 1000000000) (hf : gP p) (hV : Vars w) (h5 : 5 ≤ w.heap.size) :
    Calls Tryz.prog 6 #[.agg cs.toArray] w (Says w (shText svd p)) := by
  obtain ⟨v1, v2, rfl, h1, h2⟩ := id hR
  obtain ⟨a1, n1, c1, rfl⟩ := h1.isSl
  obtain ⟨a2, n2, c2, rfl⟩ := h2.isSl
  have C := told36 (enters_of Tryz.func14 (by kernel_rfl) rfl) put65 a1 n1 c1 a2 n2 c2 (shText svd p) (w.alloc (.cells #[.slice a1 n1 c1, .slice a2 n2 c2] 26)) (fun W b hW hb hbd => by
    have hW' := bt (bxn w (.cells #[.slice a1 n1 c1, .slice a2 n2 c2] 26)) hW
    have hwb : w.heap.size ≤ b := by have := (bxn w (.cells #[.slice a1 n1 c1, .slice a2 n2 c2] 26)).size; omega
    exact prog_lay put65 [] _ p W ((hR.low hwb).keep (P := fun _ k => k < b) ⟨hW'.size, fun k j hj hl => hW'.block j hl⟩) hbd (by simpa using hlen) hf (by omega) (hV.below hW'))
  clear h1 h2 hR hV
  go_enter Tryz.func6, Tryz.ntmps6
  go_wp2_with (go_at_call 13; refine C.mono ?_; rintro e w2 ⟨rfl, hb2⟩; have H2 : Hid (Below _ _ w2) := hb2; clear hb2)
  go_ret
  exact ⟨rfl, bt (bxn _ _) H2.out⟩
set_option maxHeartbeats 2000000 in
theorem rule_any (cs : List Value) (p : RuleD) (w : World) (hR : ReR P w cs p) (hlen : (shRule svd p).length ≤ 1000000000) (hf : gR p) (hV : Vars w) (h5 : 5 ≤ w.heap.size) :
    Calls Tryz.prog 10 #[.agg cs.toArray] w (Says w (shRule svd p)) := by
  obtain ⟨v1, v2, rfl, h1, h2⟩ := id hR
  obtain ⟨a1, n1, c1, rfl⟩ := h1.isSl
  obtain ⟨a2, n2, c2, rfl⟩ := h2.isSl
  have C := told26 (enters_of Tryz.func22 (by kernel_rfl) rfl) put48 (st p.nm) a1 n1 c1 a2 n2 c2 (shRule svd p) (w.alloc (.cells #[.string (st p.nm), .slice a1 n1 c1, .slice a2 n2 c2] 51)) (fun W b hW hb hbd => by
    have hW' := bt (bxn w (.cells #[.string (st p.nm), .slice a1 n1 c1, .slice a2 n2 c2] 51)) hW
    have hwb : w.heap.size ≤ b := by have := (bxn w (.cells #[.string (st p.nm), .slice a1 n1 c1, .slice a2 n2 c2] 51)).size; omega
    exact rule_lay put48 [] _ p W ((hR.low hwb).keep (P := fun _ k => k < b) ⟨hW'.size, fun k j hj hl => hW'.block j hl⟩) hbd (by simpa using hlen) hf (by omega) (hV.below hW'))
  clear h1 h2 hR hV
  go_enter Tryz.func10, Tryz.ntmps10
  go_wp2_with (go_at_call 21; refine C.mono ?_; rintro e w2 ⟨rfl, hb2⟩; have H2 : Hid (Below _ _ w2) := hb2; clear hb2)
  go_ret
  exact ⟨rfl, bt (bxn _ _) H2.out⟩
set_option maxHeartbeats 2000000 in
theorem tst_any (cs : List Value) (p : AttrD) (w : World) (hR : ReA P w cs p) (hlen : (shTest svd p).length ≤ 1000000000) (hf : fA p) (hV : Vars w) (h5 : 5 ≤ w.heap.size) :
    Calls Tryz.prog 9 #[.agg cs.toArray] w (Says w (shTest svd p)) := by
  obtain ⟨v1, v2, rfl, h1, h2⟩ := id hR
  obtain ⟨a1, c1, rfl⟩ := h1.shape
  obtain ⟨a2, c2, rfl⟩ := h2.shape
  generalize (p.ones.map clV).length = n1 at *
  generalize (p.tests.map clT).length = n2 at *
  have C := told30 (enters_of Tryz.func20 (by kernel_rfl) rfl) put53 (st p.a) a1 n1 c1 a2 n2 c2 (shTest svd p) (w.alloc (.cells #[.string (st p.a), .slice a1 n1 c1, .slice a2 n2 c2] 46)) (fun W b hW hb hbd => by
    have hW' := bt (bxn w (.cells #[.string (st p.a), .slice a1 n1 c1, .slice a2 n2 c2] 46)) hW
    have hwb : w.heap.size ≤ b := by have := (bxn w (.cells #[.string (st p.a), .slice a1 n1 c1, .slice a2 n2 c2] 46)).size; omega
    exact attr_lay put53 [] _ p W ((hR.low hwb).keep (P := fun _ k => k < b) ⟨hW'.size, fun k j hj hl => hW'.block j hl⟩) hbd (by simpa using hlen) hf (by omega) (hV.below hW'))
  clear h1 h2 hR hV
  go_enter Tryz.func9, Tryz.ntmps9
  go_wp2_with (go_at_call 19; refine C.mono ?_; rintro e w2 ⟨rfl, hb2⟩; have H2 : Hid (Below _ _ w2) := hb2; clear hb2)
  go_ret
  exact ⟨rfl, bt (bxn _ _) H2.out⟩
theorem svd_pos (x : VD) : svd x ≠ [] := by
  unfold svd txtS
  split
  · simp [nilS]
  · rename_i h
    split
    · have hc : chkE x.k x.n (st x.s).data.toList = 0 := by simpa using h
      obtain ⟨-, h1, h2, -⟩ := chk0 hc
      have h3 := (itoa_len x.n h1 h2).1
      intro e
      have e2 : Lib.itoa x.n = [] := by simpa using e
      rw [e2] at h3
      simp at h3
    · split
      · rename_i hk
        have hc : chkE x.k x.n (st x.s).data.toList = 0 := by simpa using h
        obtain ⟨-, -, -, -, -, h6⟩ := chk0 hc
        have := h6 hk
        intro e
        rw [e] at this
        exact absurd this (by decide)
      · simp [nilS]
set_option maxHeartbeats 2000000 in
theorem exp_any {Q : Nat → Prop} (v : Value) (L : List ItemD) (w : World) (h1 : SlW 5 w Q v (L.map clI)) (hlen : (shE svd L).length ≤ 1000000000) (hf : gE L) (hV : Vars w) (h5 : 5 ≤ w.heap.size) :
    Calls Tryz.prog 8 #[v] w fun e w' => e = .returned (.tuple #[.string (st (shE svd L)), .bool (shExpr svd L).isSome]) ∧ Below w.heap.size w w' := by
  obtain ⟨a1, c1, rfl⟩ := h1.shape
  generalize hn : (L.map clI).length = n1 at *
  have C := told21 (enters_of Tryz.func18 (by kernel_rfl) rfl) put38 a1 n1 c1 (shE svd L) w (fun W b hW hb hbd => by
    exact expr_lay put38 [] _ L W ((h1.low hb).keep (P := fun _ k => k < b) (k := 4) ⟨hW.size, fun k j hj hl => hW.block j hl⟩) hbd hf.2 (by simpa using hlen) hf.1 (by omega) (hV.below hW))
  have HE : Hid ((shExpr svd L).isSome = !(st (shE svd L)).toList.isEmpty) := by
    show _ = _
    rw [st_emp]
    unfold shE
    cases hx : shExpr svd L with
    | none => rfl
    | some s =>
      have := expr_pos svd_pos hx
      cases s with
      | nil => exact absurd rfl this
      | cons _ _ => rfl
  clear h1 hV hn
  generalize shE svd L = s at *
  cases hs : (st s).toList.isEmpty with
  | true =>
    have HQ : Hid ((shExpr svd L).isSome = false) := by rw [hs] at HE; exact HE.out
    clear HE
    go_enter Tryz.func8, Tryz.ntmps8
    go_wp2_with (go_at_call 17; refine C.mono ?_; rintro e w2 ⟨rfl, hb2⟩; have H2 : Hid (Below _ _ w2) := hb2; clear hb2)
    refine bodyPost_ret (v := .tuple #[.string (st s), .bool false]) (by simp [results, Tryz.results8, go_sem] <;> rfl) rfl ?_
    exact ⟨by rw [HQ.out], H2.out⟩
  | false =>
    have HQ : Hid ((shExpr svd L).isSome = true) := by rw [hs] at HE; exact HE.out
    clear HE
    go_enter Tryz.func8, Tryz.ntmps8
    go_wp2_with (go_at_call 17; refine C.mono ?_; rintro e w2 ⟨rfl, hb2⟩; have H2 : Hid (Below _ _ w2) := hb2; clear hb2)
    refine bodyPost_ret (v := .tuple #[.string (st s), .bool true]) (by simp [results, Tryz.results8, go_sem] <;> rfl) rfl ?_
    exact ⟨by rw [HQ.out], H2.out⟩
end Go.Proofs.YtemacdimdpnkeaaGreatDoor
namespace Go.Proofs.YtemacdimdpnkeaaGreatDoor
set_option maxRecDepth 20000
open Go.RowKit
set_option linter.unusedVariables false
set_option linter.unusedSimpArgs false
def awL : List ItemD := [⟨0, ⟨1, 1, []⟩, []⟩, ⟨1, v0, [120]⟩, ⟨2, v0, []⟩]
def awA : AttrD := ⟨[98], [], [⟨4, [], ⟨1, 3, []⟩⟩]⟩
def awR : RuleD := ⟨[114], [], []⟩
theorem aw_l : shE svd awL = [40, 43, 32, 49, 32, 60, 120, 62, 41] := by decide +kernel
theorem aw_l2 : (shExpr svd awL).isSome = true := by decide +kernel
theorem aw_a : shTest svd awA = [94, 98, 32, 62, 32, 51] := by decide +kernel
theorem aw_r : shRule svd awR = [40, 112, 32, 114, 32, 45, 45, 62, 41] := by decide +kernel
end Go.Proofs.YtemacdimdpnkeaaGreatDoor
namespace Go.Proofs.YtemacdimdpnkeaaGreatDoor
set_option maxRecDepth 20000
open Go.RowKit
set_option linter.unusedVariables false
set_option linter.unusedSimpArgs false
theorem nil_low {n : Nat} {w : World} {P : Nat → Prop} : SlW n w P (.slice none 0 0) [] := ⟨none, 0, rfl, Nat.le_refl _, by decide, .inl rfl⟩
theorem aw_row (w : World) : SlW 5 (w.alloc (.cells #[.int .u8 0, .int .u8 1, .int .i64 1, .string { data := #[] }, .string { data := #[] }, .int .u8 1, .int .u8 0, .int .i64 0, .string { data := #[] }, .string { data := #[120] }, .int .u8 2, .int .u8 0, .int .i64 0, .string { data := #[] }, .string { data := #[] }] 38)) (fun _ => True) (.slice (some ⟨w.heap.size, 0, none⟩) 3 3) (awL.map clI) := by
  refine ⟨_, 3, rfl, by decide, by decide, .inr ⟨w.heap.size, 0, rfl, by simp, trivial, fun i j hi hj => ?_⟩⟩
  have hi' : i < 3 := hi
  obtain rfl | rfl | rfl : i = 0 ∨ i = 1 ∨ i = 2 := by omega
  all_goals
    obtain rfl | rfl | rfl | rfl | rfl : j = 0 ∨ j = 1 ∨ j = 2 ∨ j = 3 ∨ j = 4 := by omega
    all_goals simp [awL, clI, v0, st]
theorem aw_row2 (w : World) : SlW 5 (w.alloc (.cells #[.int .u8 4, .string { data := #[] }, .int .u8 1, .int .i64 3, .string { data := #[] }] 42)) (fun _ => True) (.slice (some ⟨w.heap.size, 0, none⟩) 1 1) (awA.tests.map clT) := by
  refine ⟨_, 1, rfl, by decide, by decide, .inr ⟨w.heap.size, 0, rfl, by simp, trivial, fun i j hi hj => ?_⟩⟩
  have hi' : i < 1 := hi
  obtain rfl : i = 0 := by omega
  obtain rfl | rfl | rfl | rfl | rfl : j = 0 ∨ j = 1 ∨ j = 2 ∨ j = 3 ∨ j = 4 := by omega
  all_goals simp [awA, clT, st]
theorem aw_tst (w : World) : ReA (fun _ _ => True) (w.alloc (.cells #[.int .u8 4, .string { data := #[] }, .int .u8 1, .int .i64 3, .string { data := #[] }] 42)) [.string (st [98]), .slice none 0 0, .slice (some ⟨w.heap.size, 0, none⟩) 1 1] awA :=
  ⟨_, _, rfl, nil_low, aw_row2 w⟩
theorem aw_rul (w : World) : ReR (fun _ _ => True) w [.string (st [114]), .slice none 0 0, .slice none 0 0] awR :=
  ⟨_, _, rfl, ⟨[], nil_low, trivial⟩, ⟨[], nil_low, trivial⟩⟩
theorem lit_eq {s : Str} {l : List UInt8} (h : s = l) : ((st s).toList == l) = true := by
  rw [Go.ByteArray.toList_eq, st_list, h]; simp
set_option maxHeartbeats 4000000 in
theorem awake_any (w : World) (hV : Vars w) (h5 : 5 ≤ w.heap.size) : Calls Tryz.prog 4 #[] w fun e w' => e = .returned (.bool true) ∧ Below w.heap.size w w' := by
  have C1 := fun (W : World) (hW : Below w.heap.size w W) => exp_any (Q := fun _ => True) _ awL _ (aw_row W) (by rw [aw_l]; simp) ⟨by intro x hx; simp [awL, v0] at hx; rcases hx with rfl | rfl | rfl <;> simp [fV], by decide⟩ (hV.below (hW.trans ((bxn W _).mono hW.size))) (by have := hW.size; simp; omega)
  have C2 := fun (W : World) (hW : Below w.heap.size w W) => tst_any _ awA _ (aw_tst W) (by rw [aw_a]; simp) ⟨by simp [awA], by simp [awA, fV]⟩ (hV.below (hW.trans ((bxn W _).mono hW.size))) (by have := hW.size; simp; omega)
  have C3 := fun (W : World) (hW : Below w.heap.size w W) => rule_any _ awR _ (aw_rul W) (by rw [aw_r]; simp) ⟨by simp [awR], by simp [awR]⟩ (hV.below hW) (by have := hW.size; omega)
  have e1 := lit_eq aw_l
  have e2 := lit_eq aw_a
  have e3 := lit_eq aw_r
  rw [aw_l2] at C1
  generalize shE svd awL = s1 at *
  generalize shTest svd awA = s2 at *
  generalize shRule svd awR = s3 at *
  clear hV
  go_enter Tryz.func4, Tryz.ntmps4
  go_wp2_with (first | (go_at_call 8; refine (C1 _ (Below.refl _ _)).mono ?_; rintro e w1 ⟨rfl, hb1⟩; have H1 : Hid (Below w.heap.size w w1) := (bxn _ _).trans (hb1.mono (by simp)); clear hb1 C1) | (go_at_call 9; refine (C2 _ H1.out).mono ?_; rintro e w2 ⟨rfl, hb2⟩; have H2 : Hid (Below w.heap.size w w2) := (H1.out.trans ((bxn _ _).mono H1.out.size)).trans (hb2.mono (by have := H1.out.size; simp; omega)); clear hb2 C2) | (go_at_call 10; refine (C3 _ H2.out).mono ?_; rintro e w3 ⟨rfl, hb3⟩; have H3 : Hid (Below w.heap.size w w3) := H2.out.trans (hb3.mono H2.out.size); clear hb3 C3))
  go_ret
  exact ⟨rfl, H3.out⟩
end Go.Proofs.YtemacdimdpnkeaaGreatDoor
namespace Go.Proofs.YtemacdimdpnkeaaGreatDoor
set_option maxRecDepth 20000
open Go.RowKit
set_option linter.unusedVariables false
set_option linter.unusedSimpArgs false
theorem chk_num {n : Int} (h0 : -1099511627776 ≤ n) (h1 : n ≤ 1099511627776) : chkE 1 n [] = 0 := by
  unfold chkE
  rw [if_neg (by decide), if_neg (by rintro (⟨_, h⟩ | ⟨h, _⟩); exact h rfl; exact h rfl), if_neg (by unfold inB; rw [decide_eq_true ⟨h0, h1⟩]; decide), if_neg (by rintro ⟨h, _⟩; cases h)]
theorem chk_sym {l : List UInt8} (h : symB l = true) : chkE 2 0 l = 0 := by
  unfold chkE
  rw [if_neg (by decide), if_neg (by rintro (⟨h, _⟩ | ⟨_, h⟩); exact h rfl; exact h rfl), if_neg (by rw [in0]; decide), if_neg (by rintro ⟨_, h'⟩; rw [h] at h'; cases h')]
theorem txt_par {w : List UInt8} {t : Tk} (h : parL w = some t) : (txtS t.vk t.vn (st t.vs)).data.toList = valL t.vk t.vn t.vs ∧ (0 ≤ t.vk ∧ t.vk ≤ 2) ∧ t.vs.length ≤ 24 ∧ (-1099511627776 ≤ t.vn ∧ t.vn ≤ 1099511627776) ∧ t.nm = [] ∧ t.p = 0 := by
  have hw := par_word h
  unfold parL at h
  rw [if_neg (by rw [hw]; simp)] at h
  split at h
  · obtain rfl := Option.some.inj h
    refine ⟨?_, ⟨Int.le_refl 0, by show (0 : Int) ≤ 2; decide⟩, by show 0 ≤ 24; decide, ⟨by show -1099511627776 ≤ (0 : Int); decide, by show (0 : Int) ≤ 1099511627776; decide⟩, rfl, rfl⟩
    show (txtS 0 0 (st [])).data.toList = nil3
    unfold txtS
    rfl
  · split at h
    · rename_i hn hb
      split at h
      · cases h
      · rename_i hd
        obtain rfl := Option.some.inj h
        have ha := nb_abs w
        have h0 : -1099511627776 ≤ nbV w := by omega
        have h1 : nbV w ≤ 1099511627776 := by omega
        refine ⟨?_, ⟨by show (0 : Int) ≤ 1; decide, by show (1 : Int) ≤ 2; decide⟩, by show 0 ≤ 24; decide, ⟨h0, h1⟩, rfl, rfl⟩
        show (txtS 1 (nbV w) (st [])).data.toList = Lib.itoa (nbV w)
        unfold txtS
        rw [st_list, chk_num h0 h1, if_neg (by simp), if_pos rfl]
    · rename_i hn hb
      obtain rfl := Option.some.inj h
      refine ⟨?_, ⟨by show (0 : Int) ≤ 2; decide, Int.le_refl 2⟩, (word_ok hw).2.2, ⟨by show -1099511627776 ≤ (0 : Int); decide, by show (0 : Int) ≤ 1099511627776; decide⟩, rfl, rfl⟩
      show (txtS 2 0 (st w)).data.toList = w
      unfold txtS
      have hs : symB w = true := by unfold symB; rw [hw, decide_eq_false hn, show numB w = false by simpa using hb]; rfl
      rw [st_list, chk_sym hs, if_neg (by simp), if_neg (by decide), if_pos rfl, st_list]
theorem sv_tok {t : Tk} (h : IsTok t) (hk : t.k = 11) : svd (vdT t) = txtL t := by
  cases h with
  | fix k hk' => exfalso; simp [tok0] at hk; omega
  | prd p hp => exfalso; simp [tokP] at hk
  | nam k r hk' ho h1 h2 => exfalso; simp [tokN] at hk; omega
  | val w t h =>
    have hk := par_kind h
    show (txtS t.vk t.vn (st t.vs)).data.toList = _
    rw [(txt_par h).1]
    unfold txtL
    rw [hk]; simp
theorem gL_of {l : List ItemD} (h : okL l) : gE l := ⟨fun x hx => h.1 x hx, h.2⟩
theorem gR_of' {r : RuleD} (h : okRu r) : gR r := ⟨fun c hc a ha => ⟨fun x hx => (h.1 c hc a ha).1 x hx, fun x hx => (h.1 c hc a ha).2 x hx⟩, fun a ha => ⟨(h.2 a ha).1, (h.2 a ha).2.1, fun x hx => gL_of ((h.2 a ha).2.2.1 x hx), fun x hx => gL_of ((h.2 a ha).2.2.2 x hx)⟩⟩
theorem gP_par {l : List UInt8} (hl : l.length ≤ 50000) (h : (parP l).2 = 0) : gP (parP l).1 := fun x hx => gR_of' (par_ok hl h x hx)
theorem back_par {l : List UInt8} (h : (parP l).2 = 0) : parP (shText svd (parP l).1) = ((parP l).1, 0) ∧ (shText svd (parP l).1).length ≤ 2 * l.length := show_back (sv := svd) (fun t ht hk => sv_tok ht hk) h
end Go.Proofs.YtemacdimdpnkeaaGreatDoor
