/- Pairs and buckets that came in; Light. -/
import Derived.Test.YtnnndkpmlpbpcaaAw
import Derived.Deep.Slices
import Derived.ChangeSlices
import Derived.OpenShut
import Derived.ProofKit
namespace Go.Proofs.Ytnnndkpmlpbpcaa
open Go.RowKit Go.ChangeShapes
set_option linter.unusedVariables false
set_option maxRecDepth 20000

/-- A slice of pairs that came in. -/
def Prs (w : World) (a : Option Addr) (len cap : Nat) (ps : List PR) : Prop := ps.length = len ∧ PV w a ps ∧ (a = none → cap = 0) ∧ len ≤ cap ∧ cap ≤ 9223372036854775807 ∧ (∀ ad, a = some ad → 0 < cap → ad.spot = none) ∧ ∀ p ∈ ps, p.1.size ≤ maxLen ∧ p.2.size ≤ maxLen
theorem c9 : Try.prog.cellsOf 9 = 1 := by kernel_rfl
theorem c3 : Try.prog.cellsOf 3 = 1 := by kernel_rfl
theorem c22 : Try.prog.cellsOf 22 = 1 := by kernel_rfl
theorem c45 : Try.prog.cellsOf 45 = 2 := by kernel_rfl
theorem c24 : Try.prog.cellsOf 24 = 3 := by kernel_rfl
theorem open_pair {H : Type} {enc : TypeId × Value → H} {w : World} {n : Nat} {v0 v1 : Value} {x : DataW H × List MemPlace} (h : DataW.trod enc Try.prog w 0 (fun _ => true) true n 45 [v0, v1] = some x) :
    ∃ p : PR, v0 = .string p.1 ∧ v1 = .string p.2 ∧ p.1.size ≤ maxLen ∧ p.2.size ≤ maxLen := by
  obtain ⟨xs, k, hk, hxy, _, hxl, hf⟩ := DataW.trod_struct Try.underlying45 h
  match xs, hxl with
  | [y0, y1], _ =>
    have g0 := hf 0 _ rfl
    have g1 := hf 1 _ rfl
    simp [c9] at g0 g1
    obtain ⟨s0, e0, _, w0⟩ := DataW.trod_string Try.underlying9 g0
    obtain ⟨s1, e1, _, w1⟩ := DataW.trod_string Try.underlying9 g1
    simp at e0 e1
    exact ⟨(s0, s1), e0, e1, w0, w1⟩
theorem open_pairs {H : Type} {enc : TypeId × Value → H} {w : World} {fuel : Nat} {a : Option Addr} {len cap : Nat} {x : DataW H × List MemPlace} (h : DataW.trod enc Try.prog w 0 (fun _ => true) true fuel 22 [.slice a len cap] = some x) : ∃ ps, Prs w a len cap ps := by
  rcases Go.Deep.open_slice Try.underlying22 h with ⟨hcs, _⟩ | ⟨ad, l, c, m, n, D, Pl, hcs, _, hl, hm, hmm, _, hx⟩
  · simp at hcs
    obtain ⟨rfl, rfl, rfl⟩ := hcs
    exact ⟨[], rfl, .inl rfl, fun _ => rfl, Nat.le_refl _, by decide, (fun ad h => by cases h), by simp⟩
  · simp at hcs
    obtain ⟨rfl, rfl, rfl⟩ := hcs
    simp at hmm
    subst hmm
    rw [c45] at hx
    obtain ⟨b, off, spot⟩ := ad
    have hspot : 0 < m → spot = none := by
      intro h0
      obtain ⟨cs', h1, h2⟩ := hx 0 h0
      obtain ⟨_, hlen, hcell⟩ := World.cells?_some h1
      match cs', hlen with
      | [v0, v1], _ =>
        have e0 := hcell 0 (by omega)
        have := World.cell?_spot (e0.trans rfl)
        simpa [Addr.add] using this
    have hmx : m ≤ 9223372036854775807 := by unfold maxLen at hm; omega
    by_cases h0 : len = 0
    · subst h0
      exact ⟨[], rfl, .inl rfl, (fun h => by cases h), hl, hmx, (fun ad h h9 => by cases h; exact hspot h9), by simp⟩
    obtain rfl := hspot (by omega)
    have each : ∀ i, i < len → ∃ y : PR, b < w.heap.size ∧ (w.cell? ⟨b, off + i * 2, none⟩ = some (.string y.1) ∧ w.cell? ⟨b, off + i * 2 + 1, none⟩ = some (.string y.2)) ∧ y.1.size ≤ maxLen ∧ y.2.size ≤ maxLen := by
      intro i hi
      obtain ⟨cs', h1, h2⟩ := hx i (by omega)
      obtain ⟨_, hlen, hcell⟩ := World.cells?_some h1
      match cs', hlen with
      | [v0, v1], _ =>
        obtain ⟨y, rfl, rfl, q1, q2⟩ := open_pair h2
        have e0 := hcell 0 (by omega)
        have hb := World.block_lt_of_cell? _ _ (e0.trans rfl)
        simp only [add_plain] at hcell hb
        refine ⟨y, hb, ⟨?_, ?_⟩, q1, q2⟩
        · have := hcell 0 (by omega); simpa using this
        · have := hcell 1 (by omega); simpa using this
    obtain ⟨f, hf⟩ := Go.Deep.choose_lt each
    have eg : ∀ i, i < len → ((List.range len).map f).getD i default = f i := fun i hi => by
      rw [List.getD_eq_getElem?_getD, List.getElem?_map, List.getElem?_range hi]; rfl
    refine ⟨(List.range len).map f, by simp, .inr ⟨b, off, rfl, (hf 0 (by omega)).1, fun i hi => ?_⟩, (fun h => by cases h), hl, hmx, (fun ad h _ => by cases h; rfl), ?_⟩
    · have hi' : i < len := by simpa using hi
      rw [eg i hi']
      exact (hf i hi').2.1
    · intro p hp
      obtain ⟨i, hi, rfl⟩ := List.mem_map.1 hp
      exact (hf i (List.mem_range.1 hi)).2.2
theorem okWide_three {W : World} {base : Nat} {v : Value} (h : Value.okWide Try.prog W .any base 24 v) : ∃ cs, v = .agg cs ∧ cs.size = 3 := by
  simp only [Value.okWide, Try.underlying24] at h
  obtain ⟨cs, h1, h2, _⟩ := h
  exact ⟨cs, h1, by rw [h2, c24]⟩
theorem okWide_two {W : World} {base : Nat} {v : Value} (h : Value.okWide Try.prog W .any base 45 v) : ∃ cs, v = .agg cs ∧ cs.size = 2 := by
  simp only [Value.okWide, Try.underlying45] at h
  obtain ⟨cs, h1, h2, _⟩ := h
  exact ⟨cs, h1, by rw [h2, c45]⟩
theorem open_p {H : Type} {enc : TypeId × Value → H} {W : World} {base : Nat} {v : Value} {d : DataW H} {ps : List MemPlace} (hv : Value.okWide Try.prog W .any base 45 v) (h : DataW.Trod enc Try.prog W 0 (fun _ => true) true 45 v d ps) : ∃ p : PR, v = pv p ∧ p.1.size ≤ maxLen ∧ p.2.size ≤ maxLen := by
  obtain ⟨cs, rfl, hs⟩ := okWide_two hv
  obtain ⟨fuel, hf⟩ := h
  obtain ⟨v0, v1, rfl⟩ : ∃ v0 v1, cs = #[v0, v1] := by
    obtain ⟨l⟩ := cs
    match l, hs with
    | [v0, v1], _ => exact ⟨v0, v1, rfl⟩
  obtain ⟨p, rfl, rfl, h1, h2⟩ := open_pair hf
  exact ⟨p, rfl, h1, h2⟩
theorem open_b {H : Type} {enc : TypeId × Value → H} {W : World} {base : Nat} {v : Value} {d : DataW H} {ps : List MemPlace} (hv : Value.okWide Try.prog W .any base 24 v) (h : DataW.Trod enc Try.prog W 0 (fun _ => true) true 24 v d ps) : ∃ (x y : Int) (a : Option Addr) (len cap : Nat) (qs : List PR), v = bkv x y a len cap ∧ Prs W a len cap qs := by
  obtain ⟨cs, rfl, hs⟩ := okWide_three hv
  obtain ⟨fuel, hf⟩ := h
  obtain ⟨v0, v1, v2, rfl⟩ : ∃ v0 v1 v2, cs = #[v0, v1, v2] := by
    obtain ⟨l⟩ := cs
    match l, hs with
    | [v0, v1, v2], _ => exact ⟨v0, v1, v2, rfl⟩
  obtain ⟨xs, k, hk, hxy, _, hxl, hx⟩ := DataW.trod_struct Try.underlying24 hf
  match xs, hxl with
  | [y0, y1, y2], _ =>
    have g0 := hx 0 _ rfl
    have g1 := hx 1 _ rfl
    have g2 := hx 2 _ rfl
    simp [c3, c22, Value.cells] at g0 g1 g2
    obtain ⟨z0, e0, _, w0⟩ := DataW.trod_int Try.underlying3 g0
    obtain ⟨z1, e1, _, w1⟩ := DataW.trod_int Try.underlying3 g1
    simp at e0 e1
    have hsl : ∃ a len cap, v2 = .slice a len cap := by
      rcases Go.Deep.open_slice Try.underlying22 g2 with ⟨hcs, _⟩ | ⟨ad, l, c, m, n, D, Pl, hcs, _⟩
      · simp at hcs; exact ⟨_, _, _, hcs⟩
      · simp at hcs; exact ⟨_, _, _, hcs⟩
    obtain ⟨a, len, cap, rfl⟩ := hsl
    obtain ⟨qs, hq⟩ := open_pairs g2
    exact ⟨z0, z1, a, len, cap, qs, by rw [e0, e1]; rfl, hq⟩
def okL (p : PR) : Bool := decide (p.1.size ≤ 300) && decide (p.2.size ≤ 300)
def lightB (ps : List PR) (m : Nat) : Bool := decide (ps.length ≤ m) && ps.all okL
theorem all_false {q : PR → Bool} {ps : List PR} {m : Nat} (hm : m < ps.length) (h : q (ps.getD m default) = false) : ps.all q = false := by
  rw [List.all_eq_false]
  refine ⟨ps.getD m default, ?_, by rw [h]; simp⟩
  rw [List.getD_eq_getElem?_getD, List.getElem?_eq_getElem hm]
  exact List.getElem_mem hm
theorem all_true {q : PR → Bool} {ps : List PR} (h : ∀ m, m < ps.length → q (ps.getD m default) = true) : ps.all q = true := by
  rw [List.all_eq_true]
  intro x hx
  obtain ⟨j, hj, rfl⟩ := List.mem_iff_getElem.1 hx
  have := h j hj
  rw [List.getD_eq_getElem?_getD, List.getElem?_eq_getElem hj] at this
  exact this
theorem light_of {ps : List PR} {m : Nat} (h : lightB ps m = true) : ps.length ≤ m ∧ ∀ p ∈ ps, Lp p := by
  simp only [lightB, Bool.and_eq_true, decide_eq_true_eq, List.all_eq_true, okL] at h
  exact ⟨h.1, fun p hp => ⟨by have := (h.2 p hp).1; omega, by have := (h.2 p hp).2; omega⟩⟩
set_option maxHeartbeats 2000000 in
theorem light_any (a : Option Addr) (cap m : Nat) (ps : List PR) (w : World) (hp : PV w a ps) (hm : m ≤ 1000) :
    Calls Try.prog 8 #[.slice a ps.length cap, .int .i64 m] w fun e w' => e = .returned (.bool (lightB ps m)) ∧ Below w.heap.size w w' := by
  obtain ⟨r, hr⟩ : ∃ r, r = lightB ps m := ⟨_, rfl⟩
  rw [← hr]
  have HR : Hid (r = lightB ps m) := hr
  clear hr
  by_cases hlen : ps.length ≤ m
  · have hx1 : ¬ ((m : Int) < (ps.length : Int)) := by omega
    go_enter Try.func8, Try.ntmps8
    go_wp2
    go_loop [5] (fun i => ∃ k : Nat, k ≤ ps.length ∧ i = .int .i64 k ∧ Hid (∀ j, j < k → okL (ps.getD j default) = true)) (fun i => ps.length - (intOf i).toNat)
    case atStart => exact ⟨0, Nat.zero_le _, rfl, (fun j hj => by omega)⟩
    case round =>
      obtain ⟨k, hk, rfl, HN⟩ := hrel
      by_cases hlt : k < ps.length
      · obtain h0 | ⟨b, off, rfl, hbl, hc⟩ := hp
        · subst h0; simp at hlt
        obtain ⟨c0, c1⟩ := hc k hlt
        have hlt2 : (k : Int) < (ps.length : Int) := by omega
        clear hc
        by_cases hk1 : 300 < (ps.getD k default).1.size
        · have HX : Hid (r = false) := HR.out.trans (by unfold lightB; rw [show ps.all okL = false from all_false hlt (by unfold okL; rw [decide_eq_false (by omega)]; rfl), Bool.and_false])
          generalize (ps.getD k default).1 = sk at *
          generalize (ps.getD k default).2 = sv at *
          have hx : (300 : Int) < (sk.size : Int) := by omega
          clear hk1
          go_wp2
          go_ret
          exact ⟨by rw [HX.out]; rfl, Below.refl _ _⟩
        · by_cases hv1 : 300 < (ps.getD k default).2.size
          · have HX : Hid (r = false) := HR.out.trans (by unfold lightB; rw [show ps.all okL = false from all_false hlt (by unfold okL; rw [decide_eq_false (show ¬ (ps.getD k default).2.size ≤ 300 by omega), Bool.and_false]), Bool.and_false])
            generalize (ps.getD k default).1 = sk at *
            generalize (ps.getD k default).2 = sv at *
            have hx : ¬ (300 : Int) < (sk.size : Int) := by omega
            have hy : (300 : Int) < (sv.size : Int) := by omega
            clear hk1 hv1
            go_wp2
            go_ret
            exact ⟨by rw [HX.out]; rfl, Below.refl _ _⟩
          · have HN1 : Hid (∀ j, j < k + 1 → okL (ps.getD j default) = true) := by
              intro j hj
              by_cases e : j = k
              · subst e
                unfold okL
                rw [decide_eq_true (by omega), decide_eq_true (by omega)]; rfl
              · exact HN.out j (by omega)
            generalize (ps.getD k default).1 = sk at *
            generalize (ps.getD k default).2 = sv at *
            have hx : ¬ (300 : Int) < (sk.size : Int) := by omega
            have hy : ¬ (300 : Int) < (sv.size : Int) := by omega
            clear hk1 hv1
            go_wp2
            go_round
            case rel => exact ⟨k + 1, by omega, by go_num, HN1⟩
            case measure => simp [intOf]; omega
      · have e1 : k = ps.length := by omega
        subst e1
        have HX : Hid (r = true) := HR.out.trans (by unfold lightB; rw [decide_eq_true hlen, all_true HN.out]; rfl)
        have hxx : ¬ ((ps.length : Int) < (ps.length : Int)) := by omega
        go_wp2
        go_ret
        exact ⟨by rw [HX.out]; rfl, Below.refl _ _⟩
  · have HX : Hid (r = false) := HR.out.trans (by unfold lightB; rw [decide_eq_false hlen]; rfl)
    have hx1 : (m : Int) < (ps.length : Int) := by omega
    go_enter Try.func8, Try.ntmps8
    go_wp2
    go_ret
    exact ⟨by rw [HX.out]; rfl, Below.refl _ _⟩
end Go.Proofs.Ytnnndkpmlpbpcaa
