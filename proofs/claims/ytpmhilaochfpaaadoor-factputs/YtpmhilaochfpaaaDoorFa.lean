/- Find, Attr: the program's and the document's; two rows of the same names. -/
import Derived.Test.YtpmhilaochfpaaaDoorFx
import Derived.Test.YtpmhilaochfpaaaDoorRn
import Derived.Deep.QuietTactic
import Derived.BigQuiet
namespace Go.Proofs.YtpmhilaochfpaaaDoor
set_option maxRecDepth 20000
set_option maxRecDepth 20000
open Go.RowKit
set_option linter.unusedVariables false
set_option linter.unusedSimpArgs false
set_option maxRecDepth 20000

theorem drewN_b {B : Nat} (w : World) (n : Nat) : Below B w (w.drewN n) := ⟨rfl, rfl, rfl, Nat.le_refl _, fun _ _ => rfl⟩
/-- What Find tells. -/
def FP (w : World) (r : Option ClassD) (e : Ending) (w' : World) : Prop := Below w.heap.size w w' ∧ match r with
  | none => e = .returned (.tuple #[.agg #[.string (st []), .slice none 0 0], .bool false])
  | some k => ∃ a c, e = .returned (.tuple #[.agg #[.string (st k.nm), .slice a k.attrs.length c], .bool true]) ∧ SlW 1 w' (fun _ => True) (.slice a k.attrs.length c) (k.attrs.map clS)
set_option maxHeartbeats 4000000 in
theorem rfind_any {P : Nat → Nat → Prop} {Q : Nat → Prop} (v : Value) (cs : List ClassD) (s : Str) (w : World) (h : Row 2 (ReK P) w Q v cs) :
    Calls Tryd.prog 39 #[v, .string (st s)] w (FP w (findC cs s)) := by
  generalize hPO : FP w (findC cs s) = PO
  have HPN : Hid (∀ w', findC cs s = none → Below w.heap.size w w' → PO (.returned (.tuple #[.agg #[.string ⟨#[]⟩, .slice none 0 0], .bool false])) w') := fun w' he hf => by rw [← hPO]; exact ⟨hf, by rw [he]; rfl⟩
  have HPS : Hid (∀ k a c w', findC cs s = some k → Below w.heap.size w w' → SlW 1 w' (fun _ => True) (.slice a k.attrs.length c) (k.attrs.map clS) → PO (.returned (.tuple #[.agg #[.string (st k.nm), .slice a k.attrs.length c], .bool true])) w') := fun k a c w' he hf hs => by rw [← hPO]; exact ⟨hf, by rw [he]; exact ⟨a, c, rfl, hs⟩⟩
  clear hPO
  obtain ⟨css1, h1, hh1⟩ := h
  have le1 := hh1.len
  obtain ⟨a1, c1, rfl⟩ := h1.shape
  obtain ⟨-, l1, m1, r1⟩ := h1.row
  rw [le1] at l1 r1 ⊢
  have R1 : Hid (∀ i, i < cs.length → ∃ b off, a1 = some ⟨b, off, none⟩ ∧ b < w.heap.size ∧ ∀ j, j < 2 → w.cell? ⟨b, off + (i * 2 + j), none⟩ = (css1.getD i [])[j]?) := r1
  have G1 : Hid (All2 (ReK P w) css1 cs) := hh1
  clear r1 h1 hh1 le1
  have hnn : (cs.length : Int) ≤ 9223372036854775807 := by omega
  go_enter Tryd.func39, Tryd.ntmps39
  go_wp2
  go_loopw [6] (fun v wr => ∃ i : Nat, v = .int .i64 i ∧ i ≤ cs.length ∧ wr = w.alloc (.cells #[.string ⟨#[]⟩, .slice none 0 0] 50) ∧ Hid (∀ j, j < i → (cs.getD j ⟨[], []⟩).nm ≠ s)) (fun v _ => (cs.length - intOf v).toNat)
  case atStart => exact ⟨0, rfl, Nat.zero_le _, rfl, fun j hj => absurd hj (Nat.not_lt_zero _)⟩
  case round =>
    obtain ⟨i, rfl, hi, rfl, NO⟩ := hrel
    by_cases hlt : i < cs.length
    · have hiz : (i : Int) < cs.length := by omega
      obtain ⟨b1, o1, rfl, hb1, q1⟩ := R1.out i hlt
      have e1 := G1.out.at i [] ⟨[], []⟩ hlt
      have HX : Hid ((cs.getD i ⟨[], []⟩).nm = s → findC cs s = some (cs.getD i ⟨[], []⟩)) := fun he => (idxC_at hlt he NO.out).2
      have NX : Hid ((cs.getD i ⟨[], []⟩).nm ≠ s → ∀ j, j < i + 1 → (cs.getD j ⟨[], []⟩).nm ≠ s) := fun he j hj => by
        rcases Nat.lt_or_eq_of_le (Nat.le_of_lt_succ hj) with hj | rfl
        · exact NO.out j hj
        · exact he
      generalize cs.getD i ⟨[], []⟩ = c at q1 e1 HX NX
      obtain ⟨u, ec, hu⟩ := e1
      have HU : Hid (SlW 1 w (fun _ => True) u (c.attrs.map clS)) := hu.imp (fun _ _ _ => trivial)
      obtain ⟨au, cu, rfl⟩ := hu.shape
      simp only [List.length_map] at ec HU
      rw [ec] at q1
      have d0 : w.cell? ⟨b1, o1 + i * 2, none⟩ = some (.string (st c.nm)) := q1 0 (by decide)
      have d1 : w.cell? ⟨b1, o1 + i * 2 + 1, none⟩ = some (.slice au c.attrs.length cu) := q1 1 (by decide)
      have hne : ¬ b1 = w.heap.size := by omega
      clear q1 ec hu
      have hbe := st_beq c.nm s
      by_cases he : c.nm = s
      · have E : Hid (findC cs s = some c) := HX.out he
        rw [decide_eq_true he] at hbe
        clear he HX NX
        go_wp2
        refine bodyPost_ret (v := .tuple #[.agg #[.string (st c.nm), .slice au c.attrs.length cu], .bool true]) (by simp [results, Tryd.results39, go_sem] <;> rfl) rfl ?_
        exact HPS.out c au cu _ E.out (bxn _ _) (HU.out.bl (bxn _ _))
      · have N2 : Hid (∀ j, j < i + 1 → (cs.getD j ⟨[], []⟩).nm ≠ s) := NX.out he
        rw [decide_eq_false he] at hbe
        clear he HX NX
        go_wp2
        go_roundw
        case rel => exact ⟨i + 1, by simp, by omega, trivial, N2.out⟩
        case measure => simp [intOf]; omega
    · have hiz : ¬ (i : Int) < cs.length := by omega
      have E : Hid (findC cs s = none) := (idxC_no fun j hj => NO.out j (by omega)).2
      go_wp2
      refine bodyPost_ret (v := .tuple #[.agg #[.string ⟨#[]⟩, .slice none 0 0], .bool false]) (by simp [results, Tryd.results39, go_sem] <;> rfl) rfl ?_
      exact HPN.out _ E.out (bxn _ _)
theorem idxS_or (ss : List Str) (s : Str) : idxS ss s = -1 ∨ 0 ≤ idxS ss s := by
  unfold idxS; split
  · exact .inr (Int.natCast_nonneg _)
  · exact .inl rfl
theorem idxS_mem (ss : List Str) (s : Str) : 0 ≤ idxS ss s ↔ s ∈ ss := by
  unfold idxS
  split
  · rename_i i hi
    obtain ⟨hlt, h1, _⟩ := List.findIdx?_eq_some_iff_getElem.1 hi
    exact ⟨fun _ => by have := of_decide_eq_true h1; exact this ▸ List.getElem_mem hlt, fun _ => Int.natCast_nonneg _⟩
  · rename_i hi
    rw [List.findIdx?_eq_none_iff] at hi
    exact ⟨fun h => by omega, fun h => absurd (hi s h) (by simp)⟩
end Go.Proofs.YtpmhilaochfpaaaDoor
