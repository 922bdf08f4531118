/- Put of a fact: the program's. -/
import Derived.Test.YtpmhilaochfpaaaDoorJn
import Derived.Test.YtpmhilaochfpaaaDoorPlc
import Derived.Test.YtpmhilaochfpaaaDoorOn
import Derived.Test.YtpmhilaochfpaaaDoorFk
import Derived.Test.YtpmhilaochfpaaaDoorVb
import Derived.Test.YtpmhilaochfpaaaDoorCd
namespace Go.Proofs.YtpmhilaochfpaaaDoor
open Go.RowKit
set_option linter.unusedVariables false
set_option linter.unusedSimpArgs false
set_option maxRecDepth 20000

/-- A part of one's own stays behind an append onto a row of another type. -/
theorem Own.off {T : TypeId} (hT : T ≠ 5) {n : Nat} {w w' : World} {b b' : Nat} {p v : Value} {zs : List Int} {css : List (List Value)} (ho : Own w b p zs) (hN : OwnN T n w b' v css) (hg : w.grownBy w' v.ownBlock) : Own w' b p zs := by
  unfold Own World.ownsRow at *
  obtain ⟨h1, h2 | ⟨g, cap, cur, rfl, hb, hh, rest⟩⟩ := ho
  · exact ⟨h1, .inl h2⟩
  · refine ⟨h1, .inr ⟨g, cap, cur, rfl, hb, ?_, rest⟩⟩
    rw [hg.block g (Array.getElem?_eq_some_iff.1 hh).1 ?_]
    · exact hh
    · intro e
      rcases hN.2.2 with ⟨rfl, _⟩ | ⟨g', c', cur', rfl, _, hh', _⟩
      · cases e
      · have e : some g = some g' := e
        injection e with e
        subst e
        rw [hh] at hh'
        injection hh' with hh'
        injection hh' with _ h5 _
        exact hT h5.symm
theorem all2_mapL {α β γ : Type} {R : α → β → Prop} {S : γ → β → Prop} (f : α → γ) (h : ∀ a b, R a b → S (f a) b) : ∀ {as_ : List α} {bs : List β}, All2 R as_ bs → All2 S (as_.map f) bs
  | [], [], _ => trivial
  | _ :: _, _ :: _, ⟨h1, h2⟩ => ⟨h _ _ h1, all2_mapL f h h2⟩
/-- A part: bytes of one's own, at least one. -/
def PT (B : Nat) (w : World) (p : Value) (zs : List Int) : Prop := Own w B p zs ∧ zs ≠ [] ∧ AllB zs
theorem PT.by {B : Nat} {w : World} {p : Value} {zs : List Int} (h : PT B w p zs) : RBy w [p] zs := by
  obtain ⟨h1, h2, h3⟩ := h
  obtain ⟨a, cap, rfl, _, _, _, h0 | ⟨b, off, rfl, _, hlt, hc⟩⟩ := h1.view h3
  · exact absurd h0 h2
  · exact ⟨b, off, cap, rfl, h2, ⟨h3, .inr ⟨b, off, rfl, hlt, hc⟩⟩, hlt⟩
theorem parts_row {B B2 : Nat} {w : World} {v : Value} {ps : List Value} {zss : List (List Int)} (h : OwnN 53 1 w B2 v (ps.map fun p => [p])) (hp : All2 (PT B w) ps zss) : Row 1 RBy w (fun b => B2 ≤ b) v zss :=
  ⟨_, h.sl, all2_mapL (fun p => [p]) (fun _ _ h => h.by) hp⟩
theorem parts_below {B : Nat} {w w' : World} {ps : List Value} {zss : List (List Int)} (hb : Below w.heap.size w w') (hp : All2 (PT B w) ps zss) : All2 (PT B w') ps zss := hp.map fun _ _ h => ⟨h.1.below hb, h.2⟩
theorem info53 : (Tryd.prog.info? 53).map (fun i => (i.zero, i.size, i.bytes)) = some (some (.slice none 0 0), 1, 24) := by kernel_rfl
/-- Put's bytes of a value. -/
def pvF (x : VD) : List Int := putL13 x.k x.n (st x.s)
def putS (cs : List ClassD) (f : FactD) : Str := match putF pvF cs f with
  | .ok bs => b8 bs
  | .error _ => []
def putEr (cs : List ClassD) (f : FactD) : Int := match putF pvF cs f with
  | .ok _ => 0
  | .error e => e
theorem pvF_pos {x : VD} (hk : 0 ≤ x.k) (h : chkV x = 0) : 1 ≤ (pvF x).length ∧ (pvF x).length ≤ 30 := put_pos hk (by rw [st_list]; exact h)
theorem put_bad {cs : List ClassD} {f : FactD} (h : factE cs f ≠ 0) : putS cs f = [] ∧ putEr cs f = factE cs f := by
  have e : putF pvF cs f = .error (factE cs f) := by unfold putF; rw [if_pos h]
  exact ⟨by unfold putS; rw [e], by unfold putEr; rw [e]⟩
theorem putVs_flat (pv : VD → List Int) : ∀ vs : List VD, (vs.map pv).flatten = putVs pv vs
  | [] => rfl
  | x :: vs => by rw [List.map_cons, List.flatten_cons, putVs_flat pv vs]; rfl
theorem put_good {cs : List ClassD} {f : FactD} {k : Nat} (h : factE cs f = 0) (hk : idxC cs f.c = (k : Int)) (hk2 : k ≤ 255) : putS cs f = joinS ([(k : Int)] :: f.vs.map pvF) ∧ putEr cs f = joinE ([(k : Int)] :: f.vs.map pvF) := by
  have hl : ([(k : Int)] :: f.vs.map pvF).flatten = (k : Int) :: putVs pvF f.vs := by rw [List.flatten_cons, putVs_flat]; rfl
  by_cases h1 : 160 < 1 + (putVs pvF f.vs).length
  · have e : putF pvF cs f = .error 5 := by unfold putF; rw [if_neg (Classical.not_not.2 h), if_pos (.inr h1)]
    obtain ⟨j1, j2⟩ := join_no (zss := [(k : Int)] :: f.vs.map pvF) (by rw [hl, List.length_cons]; omega)
    exact ⟨by unfold putS; rw [e, j1], by unfold putEr; rw [e, j2]⟩
  · have e : putF pvF cs f = .ok ((k : Int) :: putVs pvF f.vs) := by unfold putF; rw [if_neg (Classical.not_not.2 h), if_neg (by omega), hk]
    obtain ⟨j1, j2⟩ := join_yes (zss := [(k : Int)] :: f.vs.map pvF) (by rw [hl, List.length_cons]; omega)
    exact ⟨by unfold putS; rw [e, j1, hl], by unfold putEr; rw [e, j2]⟩
theorem put1 {k : Nat} (h : k ≤ 255) : putL (k : Int) 1 = [(k : Int)] ∧ putE (k : Int) 1 = 0 := by
  have e : (256 : Int) ^ (1 : Int).toNat = 256 := by decide
  constructor
  · unfold putL; rw [if_neg (by omega), e, if_neg (by omega)]
    show dig (k : Int) 1 = _
    rw [dig_cons]
    show [(k : Int) / 256 ^ 0 % 256] = _
    congr 1; simp; omega
  · unfold putE; rw [if_neg (by omega), e, if_neg (by omega)]
theorem take_map {α β : Type} (g : α → β) (l : List α) (d : α) (i : Nat) (h : i < l.length) : (l.take (i + 1)).map g = (l.take i).map g ++ [g (l.getD i d)] := by
  rw [List.take_add_one, List.map_append, List.getElem?_eq_getElem h, List.getD_eq_getElem?_getD, List.getElem?_eq_getElem h]; rfl
end Go.Proofs.YtpmhilaochfpaaaDoor
