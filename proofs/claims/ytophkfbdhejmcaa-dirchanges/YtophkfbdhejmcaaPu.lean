/- What is doubled, set, told once: as data. -/
import Derived.Test.YtophkfbdhejmcaaTwo
namespace Go.Proofs.Ytophkfbdhejmcaa
open Go.RowKit
set_option linter.unusedVariables false
set_option maxRecDepth 20000

theorem pwr_succ {d : Int} (h : 0 ≤ d) : pwr (d + 1) = 2 * pwr d := by
  unfold pwr
  rw [show (d + 1).toNat = d.toNat + 1 by omega, Nat.pow_succ]; omega
theorem all_get {zs : List Int} (h : zs.all isP = true) {k : Nat} (hk : k < zs.length) : isP (zs.getD k 0) = true := List.all_eq_true.1 h _ (getD_mem hk)
theorem chk_mk {d : Int} {zs : List Int} (hd : 0 ≤ d ∧ d ≤ 10) (hl : zs.length = pwr d) (ha : ∀ k, k < zs.length → isP (zs.getD k 0) = true) : chkE d zs = 0 := by
  rw [chkE_end hd ha, if_pos hl]
theorem chk_dbl {d : Int} {zs : List Int} (h : chkE d zs = 0) (h1 : ¬ d = 10) : chkE (d + 1) (tabL (dblF zs) (2 * zs.length)) = 0 := by
  obtain ⟨hd, hl, ha⟩ := chkE_ok h
  refine chk_mk (by omega) (by rw [tabL_len, pwr_succ hd.1, hl]) (fun k hk => ?_)
  rw [tabL_len] at hk
  rw [tabL_get _ _ _ hk]
  exact all_get ha (by omega)
theorem topK_succ {d : Int} (s : ByteArray) (hd : 0 ≤ d ∧ d ≤ 9) : topK (d + 1) s / 2 = topK d s := by
  obtain ⟨n, rfl⟩ := Int.eq_ofNat_of_zero_le hd.1
  have ho : M.ofS s < 4294967296 := M.fin_lt _
  unfold topK
  rw [show ((n : Int) + 1) = ((n + 1 : Nat) : Int) by simp, M.topS_nat (M.ofS s) n ho (by omega), M.topS_nat (M.ofS s) (n + 1) ho (by omega), M.top_next _ _ (by omega)]
  have := M.bitN_lt (M.ofS s) n
  omega
theorem at_dbl {d : Int} {zs : List Int} (s : ByteArray) (h : chkE d zs = 0) (h1 : ¬ d = 10) : atS (d + 1) (tabL (dblF zs) (2 * zs.length)) s = atS d zs s := by
  obtain ⟨hd, hl, ha⟩ := chkE_ok h
  unfold atS
  rw [if_pos h, if_pos (chk_dbl h h1), tabL_get _ _ _ (by rw [hl, ← pwr_succ hd.1]; exact topK_lt s (by omega))]
  unfold dblF
  rw [topK_succ s (by omega)]
theorem hlv_dbl {d : Int} {zs : List Int} (h : chkE d zs = 0) (h1 : ¬ d = 10) : hlvB (d + 1) (tabL (dblF zs) (2 * zs.length)) = true ∧ hlvD (d + 1) (tabL (dblF zs) (2 * zs.length)) = d ∧ hlvL (d + 1) (tabL (dblF zs) (2 * zs.length)) = zs := by
  obtain ⟨hd, hl, ha⟩ := chkE_ok h
  have hb : hlvB (d + 1) (tabL (dblF zs) (2 * zs.length)) = true := by
    unfold hlvB
    rw [decide_eq_true (chk_dbl h h1), decide_eq_false (show ¬ d + 1 = 0 by omega), two_true (fun m hm => ?_)]
    · rfl
    · rw [tabL_len] at hm
      rw [tabL_get _ _ _ (by omega), tabL_get _ _ _ (by omega)]
      unfold dblF
      rw [show 2 * m / 2 = m by omega, show (2 * m + 1) / 2 = m by omega]
  refine ⟨hb, ?_, ?_⟩
  · unfold hlvD; rw [if_pos hb]; omega
  · unfold hlvL
    rw [if_pos hb, tabL_len]
    symm
    refine tabL_ext (by omega) (fun i hi => ?_)
    unfold hlvF
    rw [tabL_get _ _ _ (by omega)]
    unfold dblF
    rw [show 2 * i / 2 = i by omega]
theorem setL_len (d : Int) (zs : List Int) (p k id : Int) : (setL d zs p k id).length = zs.length := by
  unfold setL
  split
  · exact tabL_len _ _
  · rfl
theorem chk_set {d : Int} {zs : List Int} {p k id : Int} (h : chkE d zs = 0) : chkE d (setL d zs p k id) = 0 := by
  obtain ⟨hd, hl, ha⟩ := chkE_ok h
  refine chk_mk hd (by rw [setL_len]; exact hl) (fun m hm => ?_)
  rw [setL_len] at hm
  unfold setL
  split
  · rename_i hb
    rw [tabL_get _ _ _ hm]
    unfold setF
    split
    · unfold setB at hb
      simp only [Bool.and_eq_true] at hb
      exact hb.2.2.2
    · exact all_get ha hm
  · exact all_get ha hm
/-- A place's beginning. -/
def preK (d k : Int) (s : ByteArray) : Nat := topK d s / pwr (d - k)
theorem pre_lt {d k : Int} (s : ByteArray) (hd : 0 ≤ d ∧ d ≤ 10) (hk : 0 ≤ k ∧ k ≤ d) : preK d k s < pwr k := by
  unfold preK
  refine Nat.div_lt_of_lt_mul ?_
  have h := topK_lt s hd
  have e : pwr (d - k) * pwr k = pwr d := by
    unfold pwr
    rw [← Nat.pow_add]
    congr 1
    omega
  rw [e]
  exact h
theorem set_hit {d : Int} {zs : List Int} {k id : Int} (s : ByteArray) (h : chkE d zs = 0) (hk : 0 ≤ k ∧ k ≤ d) (hi : isP id = true) : atS d (setL d zs (preK d k s : Nat) k id) s = id := by
  obtain ⟨hd, hl, ha⟩ := chkE_ok h
  have hb : setB d zs (preK d k s : Nat) k id = true := by
    unfold setB
    rw [decide_eq_true h, decide_eq_true hk, hi, decide_eq_true (show 0 ≤ ((preK d k s : Nat) : Int) ∧ ((preK d k s : Nat) : Int) < (pwr k : Nat) by have := pre_lt s hd hk; omega)]
    rfl
  unfold atS
  rw [if_pos (chk_set h)]
  unfold setL
  rw [if_pos hb, tabL_get _ _ _ (by rw [hl]; exact topK_lt s hd)]
  unfold setF
  exact if_pos rfl
theorem set_miss {d : Int} {zs : List Int} {p k id : Int} (s : ByteArray) (h : chkE d zs = 0) (hp : ¬ ((preK d k s : Nat) : Int) = p) : atS d (setL d zs p k id) s = atS d zs s := by
  obtain ⟨hd, hl, ha⟩ := chkE_ok h
  unfold atS
  rw [if_pos (chk_set h), if_pos h]
  unfold setL
  split
  · rw [tabL_get _ _ _ (by rw [hl]; exact topK_lt s hd)]
    unfold setF
    exact if_neg hp
  · rfl
theorem idsK_mem (zs : List Int) : ∀ k, k ≤ zs.length → ∀ z, z ∈ idsK zs k ↔ z ∈ zs.take k
  | 0, _, z => by simp [idsK]
  | k + 1, hk, z => by
    have ih := idsK_mem zs k (by omega)
    rw [mem_take_succ (by omega)]
    by_cases h : zs.getD k 0 ∈ zs.take k
    · rw [idsK_in h, ih z]
      exact ⟨.inl, fun e => e.elim (fun h => h) (fun e => by rw [e]; exact h)⟩
    · rw [idsK_new h, List.mem_append, ih z, List.mem_singleton]
theorem idsK_nodup (zs : List Int) : ∀ k, k ≤ zs.length → (idsK zs k).Nodup
  | 0, _ => List.nodup_nil
  | k + 1, hk => by
    have ih := idsK_nodup zs k (by omega)
    by_cases h : zs.getD k 0 ∈ zs.take k
    · rw [idsK_in h]; exact ih
    · rw [idsK_new h, List.nodup_append]
      refine ⟨ih, by simp, ?_⟩
      intro a ha b hb
      rw [List.mem_singleton] at hb
      subst hb
      intro e
      subst e
      exact h ((idsK_mem zs k (by omega) _).1 ha)
theorem nodup_get {l : List Int} (h : l.Nodup) {i j : Nat} (hij : j < i) (hi : i < l.length) : ¬ l.getD j 0 = l.getD i 0 := by
  rw [List.getD_eq_getElem?_getD, List.getElem?_eq_getElem (by omega), List.getD_eq_getElem?_getD, List.getElem?_eq_getElem hi]
  intro e
  have h2 := List.pairwise_iff_getElem.1 h j i (by omega) hi hij
  exact h2 (by simpa using e)
end Go.Proofs.Ytophkfbdhejmcaa
