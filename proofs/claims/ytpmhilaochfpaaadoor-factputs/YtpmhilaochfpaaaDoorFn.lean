/- The program's Find. -/
import Derived.Test.YtpmhilaochfpaaaDoorFi
namespace Go.Proofs.YtpmhilaochfpaaaDoor
set_option maxRecDepth 20000
set_option maxRecDepth 20000
open Go.RowKit
set_option linter.unusedVariables false
set_option linter.unusedSimpArgs false
set_option maxRecDepth 20000

theorem idxC_cases (cs : List ClassD) (s : Str) : (idxC cs s = -1 ∧ findC cs s = none) ∨ ∃ k, k < cs.length ∧ idxC cs s = (k : Int) ∧ findC cs s = some (cs.getD k ⟨[], []⟩) ∧ (cs.getD k ⟨[], []⟩).nm = s := by
  have key : ∀ n, n ≤ cs.length → (∀ j, j < n → (cs.getD j ⟨[], []⟩).nm ≠ s) ∨ ∃ k, k < n ∧ (cs.getD k ⟨[], []⟩).nm = s ∧ ∀ j, j < k → (cs.getD j ⟨[], []⟩).nm ≠ s := by
    intro n
    induction n with
    | zero => exact fun _ => .inl (fun j hj => absurd hj (Nat.not_lt_zero _))
    | succ n ih =>
      intro hn
      rcases ih (by omega) with h | ⟨k, hk, h⟩
      · by_cases he : (cs.getD n ⟨[], []⟩).nm = s
        · exact .inr ⟨n, by omega, he, h⟩
        · refine .inl (fun j hj => ?_)
          rcases Nat.lt_or_eq_of_le (Nat.le_of_lt_succ hj) with hj | rfl
          · exact h j hj
          · exact he
      · exact .inr ⟨k, by omega, h⟩
  rcases key cs.length (Nat.le_refl _) with h | ⟨k, hk, he, h⟩
  · exact .inl (idxC_no h)
  · obtain ⟨h1, h2⟩ := idxC_at hk he h
    exact .inr ⟨k, hk, h1, h2, he⟩
/-- What the program's Find tells: attributes in a row of its own. -/
def FO (w : World) (r : Option ClassD) (e : Ending) (w' : World) : Prop := Below w.heap.size w w' ∧ match r with
  | none => e = .returned (.tuple #[.agg #[.string (st []), .slice none 0 0], .bool false])
  | some k => ∃ a c, e = .returned (.tuple #[.agg #[.string (st k.nm), .slice a k.attrs.length c], .bool true]) ∧ SlW 1 w' (fun b => w.heap.size ≤ b) (.slice a k.attrs.length c) (k.attrs.map clS)
set_option maxHeartbeats 8000000 in
theorem find_any {P : Nat → Nat → Prop} {Q : Nat → Prop} (v : Value) (cs : List ClassD) (s : Str) (w : World) (h : Row 2 (ReK P) w Q v cs) (hL : ∀ c ∈ cs, c.attrs.length ≤ 100000) :
    Calls Tryd.prog 47 #[v, .string (st s)] w (FO w (findC cs s)) := by
  generalize hPO : FO w (findC cs s) = PO
  have HPN : Hid (∀ w', findC cs s = none → Below w.heap.size w w' → PO (.returned (.tuple #[.agg #[.string ⟨#[]⟩, .slice none 0 0], .bool false])) w') := fun w' he hf => by rw [← hPO]; exact ⟨hf, by rw [he]; rfl⟩
  have HPS : Hid (∀ k a c w', findC cs s = some k → Below w.heap.size w w' → SlW 1 w' (fun b => w.heap.size ≤ b) (.slice a k.attrs.length c) (k.attrs.map clS) → PO (.returned (.tuple #[.agg #[.string (st k.nm), .slice a k.attrs.length c], .bool true])) w') := fun k a c w' he hf hs => by rw [← hPO]; exact ⟨hf, by rw [he]; exact ⟨a, c, rfl, hs⟩⟩
  clear hPO
  have HW0 : Hid (Below w.heap.size w ((w.alloc (.cells #[.string (st s)] 9)).alloc (.cells #[.string ⟨#[]⟩, .slice none 0 0] 50))) := bt (bxn _ _) (bxn _ _)
  have CI := indexF_any v cs s w.heap.size ((w.alloc (.cells #[.string (st s)] 9)).alloc (.cells #[.string ⟨#[]⟩, .slice none 0 0] 50)) (Row.keep (P := fun _ => Q) (k := 0) (Stays.below HW0.out) (fun _ _ => ReK.keep (Stays.below HW0.out)) h) (by go_simp) (by simp; omega)
  obtain ⟨css1, h1, hh1⟩ := h
  have le1 := hh1.len
  obtain ⟨a1, c1, rfl⟩ := h1.shape
  obtain ⟨-, l1, m1, r1⟩ := h1.row
  rw [le1] at l1 r1 CI ⊢
  have R1 : Hid (∀ i, i < cs.length → ∃ b off, a1 = some ⟨b, off, none⟩ ∧ b < w.heap.size ∧ ∀ j, j < 2 → w.cell? ⟨b, off + (i * 2 + j), none⟩ = (css1.getD i [])[j]?) := r1
  have G1 : Hid (All2 (ReK P w) css1 cs) := hh1
  clear r1 h1 hh1 le1
  have HX : Hid (∀ W, Below ((w.alloc (.cells #[.string (st s)] 9)).alloc (.cells #[.string ⟨#[]⟩, .slice none 0 0] 50)).heap.size ((w.alloc (.cells #[.string (st s)] 9)).alloc (.cells #[.string ⟨#[]⟩, .slice none 0 0] 50)) W → W.cell? ⟨w.heap.size, 0, none⟩ = some (.string (st s)) ∧ W.cell? ⟨w.heap.size + 1, 0, none⟩ = some (.string ⟨#[]⟩) ∧ W.cell? ⟨w.heap.size + 1, 1, none⟩ = some (.slice none 0 0) ∧ W.frozen? ⟨w.heap.size + 1, 0, none⟩ = false ∧ W.frozen? ⟨w.heap.size + 1, 1, none⟩ = false ∧ w.heap.size + 1 < W.heap.size) := fun W hW => by
    have f0 : ((w.alloc (.cells #[.string (st s)] 9)).alloc (.cells #[.string ⟨#[]⟩, .slice none 0 0] 50)).frozen? ⟨w.heap.size + 1, 0, none⟩ = false := by go_simp
    have f1 : ((w.alloc (.cells #[.string (st s)] 9)).alloc (.cells #[.string ⟨#[]⟩, .slice none 0 0] 50)).frozen? ⟨w.heap.size + 1, 1, none⟩ = false := by go_simp
    refine ⟨(hW.cell (p := ⟨w.heap.size, 0, none⟩) (by simp; omega)).trans (by go_simp), (hW.cell (p := ⟨w.heap.size + 1, 0, none⟩) (by simp)).trans (by go_simp), (hW.cell (p := ⟨w.heap.size + 1, 1, none⟩) (by simp)).trans (by go_simp), ?_, ?_, ?_⟩
    · exact (hW.frozen (p := ⟨w.heap.size + 1, 0, none⟩) (by simp)).trans f0
    · exact (hW.frozen (p := ⟨w.heap.size + 1, 1, none⟩) (by simp)).trans f1
    · have := hW.size; simp at this; omega
  rcases idxC_cases cs s with ⟨hi, hf⟩ | ⟨k, hk, hi, hf, hnm⟩
  · have E : Hid (findC cs s = none) := hf
    rw [hi] at CI
    clear hi hf
    go_enter Tryd.func47, Tryd.ntmps47
    go_wp2_with (go_at_call 35; refine CI.mono ?_; rintro e w2 ⟨rfl, hb2⟩; have B2 : Hid (Below w.heap.size w w2) := bt HW0.out hb2; obtain ⟨x0, x1, x2, x3, x4, x5⟩ := HX.out w2 hb2; clear CI hb2)
    have hs1 : w.heap.size + 1 < w2.heap.size := x5
    have HF : Hid (Below w.heap.size w ((w2.setCell ⟨w.heap.size + 1, 0, none⟩ (.string ⟨#[]⟩)).setCell ⟨w.heap.size + 1, 1, none⟩ (.slice none 0 0))) := (B2.out.setCell (by simp) _).setCell (by simp) _
    refine bodyPost_ret (v := .tuple #[.agg #[.string ⟨#[]⟩, .slice none 0 0], .bool false]) (by simp [results, Tryd.results47, go_sem]; go_simp) rfl ?_
    exact HPN.out _ E.out HF.out
  · have E : Hid (findC cs s = some (cs.getD k ⟨[], []⟩)) := hf
    rw [hi] at CI
    obtain ⟨b1, o1, rfl, hb1, q1⟩ := R1.out k hk
    have e1 := G1.out.at k [] ⟨[], []⟩ hk
    have hal : (cs.getD k ⟨[], []⟩).attrs.length ≤ 100000 := hL _ (by rw [List.getD_eq_getElem?_getD, List.getElem?_eq_getElem hk]; exact List.getElem_mem hk)
    clear hi hf
    generalize cs.getD k ⟨[], []⟩ = c at *
    subst hnm
    obtain ⟨u, ec, hu⟩ := e1
    have HU : Hid (SlW 1 w (fun _ => True) u (c.attrs.map clS)) := hu.imp (fun _ _ _ => trivial)
    rw [ec] at q1
    have HC : Hid (∀ W, Below w.heap.size w W → W.cell? ⟨b1, o1 + k * 2 + 1, none⟩ = some u) := fun W hW => (hW.cell (p := ⟨b1, o1 + k * 2 + 1, none⟩) hb1).trans (q1 1 (by decide))
    have CC : Hid (∀ W, Below w.heap.size w W → Calls Tryd.prog 57 #[u] W fun e w' => ∃ v', e = .returned v' ∧ OwnS w' W.heap.size v' c.attrs ∧ Below W.heap.size W w') := fun W hW => clone_any u c.attrs W (HU.out.bl hW) hal
    obtain ⟨au, cu, rfl⟩ := hu.shape
    simp only [List.length_map] at HC CC HU
    clear ec hu q1
    have hk0 : ¬ (k : Int) < 0 := by omega
    go_enter Tryd.func47, Tryd.ntmps47
    go_wp2_with (go_at_call 35; refine CI.mono ?_; rintro e w2 ⟨rfl, hb2⟩; have B2 : Hid (Below w.heap.size w w2) := bt HW0.out hb2; have HB2 : Hid (Below _ _ w2) := hb2; obtain ⟨x0, x1, x2, x3, x4, x5⟩ := HX.out w2 hb2; have x6 := HC.out w2 B2.out; clear CI hb2)
    go_region_with (go_at_call 57; refine (CC.out _ B2.out.drew).mono ?_; rintro e w3 ⟨v', rfl, o3, hb3⟩; obtain ⟨av, cv, rfl⟩ := o3.shape; have B3 : Hid (Below w2.drew.heap.size w2.drew w3) := hb3; obtain ⟨y0, y1, y2, y3, y4, y5⟩ := HX.out w3 (bt HB2.out.drew hb3); have O3 : Hid (OwnS w3 w2.drew.heap.size (.slice av c.attrs.length cv) c.attrs) := o3; have hs3 : w.heap.size + 1 < w3.heap.size := y5; clear o3)
    all_goals (
      have hs2 : w.heap.size + 1 < w2.drew.heap.size := by simpa using x5
      have HF : Hid (Below w.heap.size w ((w3.setCell ⟨w.heap.size + 1, 0, none⟩ (.string (st c.nm))).setCell ⟨w.heap.size + 1, 1, none⟩ (.slice av c.attrs.length cv))) := ((bt B2.out.drew B3.out).setCell (by simp) _).setCell (by simp) _
      have HO : Hid (OwnS ((w3.setCell ⟨w.heap.size + 1, 0, none⟩ (.string (st c.nm))).setCell ⟨w.heap.size + 1, 1, none⟩ (.slice av c.attrs.length cv)) w2.drew.heap.size (.slice av c.attrs.length cv) c.attrs) := O3.out.move fun g h1 h2 => by
        have hne : g ≠ w.heap.size + 1 := by omega
        exact (Below.heap_setCell _ ⟨w.heap.size + 1, 1, none⟩ _ g hne).trans (Below.heap_setCell w3 ⟨w.heap.size + 1, 0, none⟩ _ g hne)
      go_wp2
      refine bodyPost_ret (v := .tuple #[.agg #[.string (st c.nm), .slice av c.attrs.length cv], .bool true]) (by simp [results, Tryd.results47, go_sem]; go_simp) rfl ?_
      exact HPS.out c av cv _ E.out HF.out (HO.out.sl.imp fun k _ hk => by omega))
end Go.Proofs.YtpmhilaochfpaaaDoor
