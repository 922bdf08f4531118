/- A fact that is put is got as it was: plain mathematics. -/
import Derived.Test.YtpmhilaochfpaaaDoorGf
namespace Go.Proofs.YtpmhilaochfpaaaDoor
open Go.RowKit
set_option linter.unusedVariables false
set_option linter.unusedSimpArgs false
set_option maxRecDepth 20000

theorem gv_of {zs : List Int} {k n : Int} {s : ByteArray} {m : Int} (h : gtA zs = .tuple #[vv k n s, .int .i64 m, .int .i64 0]) (hm : 0 ≤ m) : gvF zs = some (⟨k, n, s.data.toList⟩, m.toNat) := by
  unfold gtA at h
  by_cases hg : gtE zs = 0
  · rw [if_pos hg] at h
    unfold gvF
    rw [if_pos hg]
    unfold vv at h
    simp only [Value.tuple.injEq, Array.mk.injEq, List.cons.injEq, Value.agg.injEq, Value.int.injEq, Value.string.injEq, true_and, and_true] at h
    obtain ⟨⟨h1, h2, h3⟩, h4⟩ := h
    have hl := tkZ_le zs
    rw [h1, h2, h3]
    have : zs.length - (tkZ zs).length = m.toNat := by omega
    rw [this]
  · rw [if_neg hg] at h
    simp only [Value.tuple.injEq, Array.mk.injEq, List.cons.injEq, Value.int.injEq, true_and, and_true] at h
    exact absurd h.2.2 hg
theorem gv_of_no {zs : List Int} {k n : Int} {s : ByteArray} {m e : Int} (h : gtA zs = .tuple #[vv k n s, .int .i64 m, .int .i64 e]) (he : e ≠ 0) : gvF zs = none := by
  unfold gtA at h
  by_cases hg : gtE zs = 0
  · rw [if_pos hg] at h
    simp only [Value.tuple.injEq, Array.mk.injEq, List.cons.injEq, Value.int.injEq, true_and, and_true] at h
    exact absurd h.2.2.symm he
  · unfold gvF; rw [if_neg hg]
theorem neg_val {x : VD} (hk : x.k < 0) (h : chkV x = 0) : x.n = 0 ∧ x.s = [] ∧ pvF x = [x.k] := by
  have h0 := h
  unfold chkV chkE at h
  rw [if_neg (by omega)] at h
  by_cases h1 : (x.n ≠ 0 ∧ x.k ≠ 1) ∨ (x.s ≠ [] ∧ x.k ≠ 2)
  · rw [if_pos h1] at h; cases h
  · refine ⟨Classical.byContradiction fun hn => h1 (.inl ⟨hn, by omega⟩), Classical.byContradiction fun hn => h1 (.inr ⟨hn, by omega⟩), ?_⟩
    unfold pvF putL13 rstL
    rw [st_list, if_neg (by rw [show chkE x.k x.n x.s = chkV x from rfl, h0]; simp), if_neg (by omega), if_neg (by omega)]
theorem hg_ok : ∀ (x : VD) (ys : List Int), chkV x = 0 → gvF (pvF x ++ ys) = some (x, (pvF x).length) := by
  intro x ys h
  by_cases hk : 0 ≤ x.k
  · have := get_put13 (s := st x.s) hk (by rw [st_list]; exact h) ys
    have h2 := gv_of this (by omega)
    rw [st_list, Int.toNat_natCast] at h2
    exact h2
  · obtain ⟨h1, h2, h3⟩ := neg_val (by omega) h
    obtain ⟨k, n, s⟩ := x
    simp only at h1 h2 hk
    subst h1 h2
    rw [h3]
    have e1 : tkK ([k] ++ ys) = k := rfl
    have e2 : tkE ([k] ++ ys) = 0 := by unfold tkE; rw [e1, if_neg (by simp), if_neg (by omega), if_neg (by omega)]
    have e3 : tkN ([k] ++ ys) = 0 := by unfold tkN; rw [e1, if_neg (by omega)]
    have e4 : tkS ([k] ++ ys) = ByteArray.empty := by unfold tkS; rw [e1, if_neg (by omega)]
    have e5 : tkZ ([k] ++ ys) = ys := by unfold tkZ; rw [e1, if_neg (by simp), if_neg (by omega), if_neg (by omega)]; rfl
    have e6 : gtE ([k] ++ ys) = 0 := by
      unfold gtE
      rw [e2, e1, e3, e4, if_neg (by decide), if_neg]
      rintro (h' | h')
      · exact h' rfl
      · exact h' h
    unfold gvF
    rw [if_pos e6, e1, e3, e4, e5]
    simp
theorem hg_cut : ∀ x : VD, chkV x = 0 → gvF ((pvF x).take ((pvF x).length - 1)) = none := by
  intro x h
  by_cases hk : 0 ≤ x.k
  · exact gv_of_no (get_cut13 (s := st x.s) hk (by rw [st_list]; exact h)) (by decide)
  · obtain ⟨h1, h2, h3⟩ := neg_val (by omega) h
    rw [h3]
    rfl
theorem hg_pos : ∀ x : VD, chkV x = 0 → 1 ≤ (pvF x).length := by
  intro x h
  by_cases hk : 0 ≤ x.k
  · exact (pvF_pos hk h).1
  · obtain ⟨h1, h2, h3⟩ := neg_val (by omega) h
    rw [h3]; simp
/-- What is put, by its text. -/
theorem put_text {cs : List ClassD} {f : FactD} (hcs : cs.length ≤ 200) (hv : ∀ x ∈ f.vs, fV x) (h : putEr cs f = 0) : ∃ bs, putF pvF cs f = .ok bs ∧ nb (putS cs f) = bs ∧ AllB bs ∧ bs ≠ [] := by
  cases hp : putF pvF cs f with
  | error e =>
    obtain ⟨h1, _⟩ := putF_err hp
    have e2 : putEr cs f = e := by unfold putEr; rw [hp]
    rw [e2] at h
    exact absurd h h1
  | ok bs =>
    obtain ⟨h1, h2, h3, _⟩ := putF_ok hp
    have ha : AllB bs := by
      rw [h2]
      obtain ⟨k, hk, hi, _⟩ := place_of h1
      exact AllB.cons (by omega) (by omega) (putVs_all hv)
    have e3 : putS cs f = b8 bs := by unfold putS; rw [hp]
    exact ⟨bs, rfl, by rw [e3, nb_b8 ha], ha, by rw [h2]; simp⟩
/-- FactBack, plainly. -/
theorem back_plain {cs : List ClassD} {f : FactD} (hcs : cs.length ≤ 200) (hv : ∀ x ∈ f.vs, fV x) (h : putEr cs f = 0) :
    putS cs f ≠ [] ∧ (1 ≤ f.t ∧ f.t ≤ 1099511627776) ∧ getF pvF gvF cs f.t (nb (putS cs f)) = some f ∧ getF pvF gvF cs f.t (nb (putS cs f ++ [0])) = none ∧ getF pvF gvF cs f.t (nb ((putS cs f).take ((putS cs f).length - 1))) = none := by
  obtain ⟨bs, hp, hn, ha, hne⟩ := put_text hcs hv h
  have hE := (putF_ok hp).1
  have ht := (factE_fit hE).1
  have ht2 : 1 ≤ f.t ∧ f.t ≤ 1099511627776 := of_decide_eq_true ht
  have hl : (putS cs f).length = bs.length := by rw [← hn]; unfold nb; rw [List.length_map]
  refine ⟨fun e => hne (by rw [← hn, e]; rfl), ht2, ?_, ?_, ?_⟩
  · rw [hn]; exact getF_put hg_ok hp
  · have e : nb (putS cs f ++ [0]) = bs ++ [0] := by
      unfold nb at hn ⊢; rw [List.map_append, hn]; rfl
    rw [e]; exact getF_more hg_ok hp 0
  · have e : nb ((putS cs f).take ((putS cs f).length - 1)) = bs.take (bs.length - 1) := by
      unfold nb at hn ⊢; rw [List.map_take, hn, hl]
    rw [e]; exact getF_less hg_ok hg_cut hg_pos hp
/-- Where nothing is put: why. -/
theorem back_err {cs : List ClassD} {f : FactD} (h : putEr cs f ≠ 0) : putS cs f = [] ∧ (putEr cs f = factE cs f ∨ putEr cs f = 5) := by
  cases hp : putF pvF cs f with
  | error e =>
    obtain ⟨_, h2⟩ := putF_err hp
    have e2 : putEr cs f = e := by unfold putEr; rw [hp]
    exact ⟨by unfold putS; rw [hp], by rw [e2]; exact h2⟩
  | ok bs => exact absurd (by unfold putEr; rw [hp]) h
end Go.Proofs.YtpmhilaochfpaaaDoor
