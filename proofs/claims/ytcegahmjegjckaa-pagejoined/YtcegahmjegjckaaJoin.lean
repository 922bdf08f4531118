/- Numbers that were laid are read as they were; pieces one behind the other are all. -/
import Derived.Test.YtcegahmjegjckaaArg
namespace Go.Proofs.Ytcegahmjegjckaa
open Go.RowKit
set_option linter.unusedVariables false
set_option linter.unusedSimpArgs false
theorem unS_cons (x y : Int) (zs : List Int) (n : Nat) : unS (x :: y :: zs) (n + 1) = (256 * x + y) :: unS zs n := by
  unfold unS
  rw [List.range_succ_eq_map, List.map_cons, List.map_map]
  congr 1
theorem unS_words : ∀ ns : List Int, (∀ z ∈ ns, 0 ≤ z ∧ z ≤ 65535) → unS (wordsS ns) ns.length = ns
  | [], _ => rfl
  | n :: ns, h => by
    have hn := h n (by simp)
    have e : wordsS (n :: ns) = n / 256 :: n % 256 :: wordsS ns := by
      show dig n 2 ++ wordsS ns = _
      rw [dig2, show n / 256 % 256 = n / 256 by omega]; rfl
    rw [e, List.length_cons, unS_cons, unS_words ns (fun z hz => h z (by simp [hz])), show 256 * (n / 256) + n % 256 = n by omega]
theorem wordsB_in {ns : List Int} (h : ∀ z ∈ ns, 0 ≤ z ∧ z ≤ 65535) : wordsB ns = true := by
  unfold wordsB
  rw [List.all_eq_true]
  intro z hz
  have := h z hz
  unfold wordB
  rw [decide_eq_true this.1, decide_eq_true this.2]; rfl
theorem words_in {ns : List Int} (h : ∀ z ∈ ns, 0 ≤ z ∧ z ≤ 65535) : wordsE ns = 0 ∧ wordsL ns = wordsS ns := by
  unfold wordsE wordsL
  rw [wordsB_in h]
  exact ⟨rfl, rfl⟩
theorem un_words {ns : List Int} (h : ∀ z ∈ ns, 0 ≤ z ∧ z ≤ 65535) : unE (wordsS ns) = 0 ∧ unL (wordsS ns) = ns := by
  have hl := wordsS_len ns
  unfold unE unL
  rw [if_pos (by omega), if_pos (by omega), show (wordsS ns).length / 2 = ns.length by omega]
  exact ⟨rfl, unS_words ns h⟩
theorem split_flat (n : Nat) (hn : 1 ≤ n) : ∀ (f : Nat) (zs : List Int), zs.length ≤ f → (splitF n f zs).flatten = zs
  | 0, zs, h => by
    obtain rfl : zs = [] := List.eq_nil_of_length_eq_zero (by omega)
    rfl
  | f + 1, zs, h => by
    by_cases hz : zs = []
    · subst hz; rw [splitF_nil]; rfl
    · rw [splitF_step n f hz, List.flatten_cons, split_flat n hn f (zs.drop n) (by rw [List.length_drop]; have : 0 < zs.length := List.length_pos_iff.2 hz; omega), List.take_append_drop]
theorem split_sizes (n : Nat) (hn : 1 ≤ n) : ∀ (f : Nat) (zs : List Int), zs.length ≤ f → ∀ k, k < (splitF n f zs).length → ((splitF n f zs).getD k []).length = n ∨ (k + 1 = (splitF n f zs).length ∧ 0 < ((splitF n f zs).getD k []).length ∧ ((splitF n f zs).getD k []).length ≤ n)
  | 0, zs, h, k, hk => by cases hk
  | f + 1, zs, h, k, hk => by
    by_cases hz : zs = []
    · subst hz; rw [splitF_nil] at hk; cases hk
    · have hp : 0 < zs.length := List.length_pos_iff.2 hz
      rw [splitF_step n f hz] at hk ⊢
      cases k with
      | zero =>
        show (zs.take n).length = n ∨ _
        by_cases hl : n ≤ zs.length
        · left; rw [List.length_take]; omega
        · right
          have e : zs.drop n = [] := List.drop_of_length_le (by omega)
          rw [e, splitF_nil]
          refine ⟨rfl, ?_, ?_⟩
          · show 0 < (zs.take n).length
            rw [List.length_take]; omega
          · show (zs.take n).length ≤ n
            rw [List.length_take]; omega
      | succ k =>
        rw [List.length_cons] at hk
        have := split_sizes n hn f (zs.drop n) (by rw [List.length_drop]; omega) k (by omega)
        rw [List.getD_cons_succ, List.length_cons]
        rcases this with h1 | ⟨h1, h2⟩
        · exact .inl h1
        · exact .inr ⟨by omega, h2⟩
theorem flat_step (zss : List (List Int)) (k : Nat) (h : k < zss.length) : (zss.take (k + 1)).flatten = (zss.take k).flatten ++ zss.getD k [] := flat_take zss k h
theorem str_app (xs ys : List Int) : strOfNums xs ++ strOfNums ys = strOfNums (xs ++ ys) := by
  apply ByteArray.ext
  simp [strOfNums]
end Go.Proofs.Ytcegahmjegjckaa
