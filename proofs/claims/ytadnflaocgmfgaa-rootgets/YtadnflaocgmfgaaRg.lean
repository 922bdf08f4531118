/- What the document's Get reads of a block, and that it tells what the program's tells. -/
import Derived.Test.YtadnflaocgmfgaaNums
import Derived.Test.YtadnflaocgmfgaaRTwo
namespace Go.Proofs.Ytadnflaocgmfgaa
open Go.RowKit
set_option linter.unusedVariables false
theorem numS_cons (zs : List Int) (t n : Nat) : numS zs t (n + 1) = (256 * zs.getD t 0 + zs.getD (t + 1) 0) :: numS zs (t + 2) n := by
  unfold numS
  rw [List.range_succ_eq_map, List.map_cons, List.map_map]
  congr 1
  apply List.map_congr_left
  intro i _
  show 256 * zs.getD (t + 2 * (i + 1)) 0 + zs.getD (t + 2 * (i + 1) + 1) 0 = _
  rw [show t + 2 * (i + 1) = t + 2 + 2 * i by omega]
theorem getD_here (A R : List Int) (x : Int) (t : Nat) (h : A.length = t) : (A ++ x :: R).getD t 0 = x := by
  subst h
  simp [List.getD_eq_getElem?_getD]
theorem num_twos : ∀ (zs A R : List Int) (t : Nat), A.length = t → (∀ z ∈ zs, 0 ≤ z ∧ z < 65536) → numS (A ++ (twos zs ++ R)) t zs.length = zs
  | [], A, R, t, ht, h => by simp [numS]
  | z :: zs, A, R, t, ht, h => by
    have hz := h z (by simp)
    have e : A ++ (twos (z :: zs) ++ R) = (A ++ dig z 2) ++ (twos zs ++ R) := by
      show A ++ ((dig z 2 ++ twos zs) ++ R) = _
      simp only [List.append_assoc]
    have i := num_twos zs (A ++ dig z 2) R (t + 2) (by rw [List.length_append, dig_length]; omega) (fun y hy => h y (by simp [hy]))
    rw [← e] at i
    rw [List.length_cons, numS_cons, i]
    have g1 : (A ++ (twos (z :: zs) ++ R)).getD t 0 = z / 256 % 256 := by
      rw [e, dig2]
      simp only [List.append_assoc, List.cons_append, List.nil_append]
      exact getD_here A _ _ t ht
    have g2 : (A ++ (twos (z :: zs) ++ R)).getD (t + 1) 0 = z % 256 := by
      rw [e, dig2, show A ++ [z / 256 % 256, z % 256] ++ (twos zs ++ R) = (A ++ [z / 256 % 256]) ++ z % 256 :: (twos zs ++ R) by simp]
      exact getD_here _ _ _ (t + 1) (by simp; omega)
    rw [g1, g2]
    congr 1
    omega
/-- How many of each the document's Get reads. -/
def rgN (zs : List Int) : Nat := (min (zs.getD 16 0) 26).toNat
def rgM (zs : List Int) : Nat := (min (zs.getD 17 0) 3).toNat
def rgS (zs : List Int) : RD := ⟨val ((zs.drop 4).take 6), (numS zs 10 3).getD 0 0, (numS zs 10 3).getD 1 0, (numS zs 10 3).getD 2 0, numS zs 18 (rgN zs), numS zs (18 + 2 * rgN zs) (rgM zs)⟩
theorem rg_put {r : RD} (h : r.Ok) : rgS (putS r) = r := by
  have e0 := h.e0; have e1 := h.e1; have b0 := h.b0; have b1 := h.b1; have n0 := h.n0; have n1 := h.n1; have s0 := h.s0; have s1 := h.s1; have t1 := h.t1; have m1 := h.m1
  have hT : ∀ z ∈ r.T, 0 ≤ z ∧ z < 65536 := fun z hz => by have := h.tb z hz; omega
  have hM : ∀ z ∈ r.M, 0 ≤ z ∧ z < 65536 := fun z hz => by have := h.mb z hz; omega
  have h3 : ∀ z ∈ [r.B, r.N, r.S], 0 ≤ z ∧ z < 65536 := by
    intro z hz
    simp at hz
    omega
  obtain ⟨Q, hQ⟩ : ∃ Q : List Int, Q = List.replicate (246 - (frontS r).length) 0 ++ (dig (more 0 (bodyS r)) 4 ++ dig r.E 6) := ⟨_, rfl⟩
  have e : putS r = frontS r ++ Q := by
    rw [hQ]
    show (frontS r ++ List.replicate (246 - (frontS r).length) 0) ++ dig (more 0 (bodyS r)) 4 ++ dig r.E 6 = _
    simp only [List.append_assoc]
  have dT := dig1 (r.T.length : Int) (by omega) (by omega)
  have dM := dig1 (r.M.length : Int) (by omega) (by omega)
  have tw : twos [r.B, r.N, r.S] = dig r.B 2 ++ (dig r.N 2 ++ dig r.S 2) := by simp [twos]
  obtain ⟨A, hA⟩ : ∃ A : List Int, A = [114, 111, 111, 116] ++ dig r.E 6 := ⟨_, rfl⟩
  have lA : A.length = 10 := by rw [hA]; simp [dig_length]
  obtain ⟨C, hC⟩ : ∃ C : List Int, C = A ++ twos [r.B, r.N, r.S] := ⟨_, rfl⟩
  have lC : C.length = 16 := by rw [hC, List.length_append, twos_len, lA]; rfl
  have x1 : putS r = A ++ (twos [r.B, r.N, r.S] ++ ((r.T.length : Int) :: (r.M.length : Int) :: (twos r.T ++ (twos r.M ++ Q)))) := by
    rw [e, tw, hA]
    unfold frontS
    rw [dT, dM]
    simp only [List.append_assoc, List.cons_append, List.nil_append]
  have x2 : putS r = C ++ (r.T.length : Int) :: ((r.M.length : Int) :: (twos r.T ++ (twos r.M ++ Q))) := by rw [x1, hC]; simp only [List.append_assoc]
  have x3 : putS r = (C ++ [(r.T.length : Int)]) ++ (r.M.length : Int) :: (twos r.T ++ (twos r.M ++ Q)) := by rw [x2]; simp
  have x4 : putS r = (C ++ [(r.T.length : Int), (r.M.length : Int)]) ++ (twos r.T ++ (twos r.M ++ Q)) := by rw [x2]; simp
  have x5 : putS r = ((C ++ [(r.T.length : Int), (r.M.length : Int)]) ++ twos r.T) ++ (twos r.M ++ Q) := by rw [x4]; simp only [List.append_assoc]
  have vE : val (((putS r).drop 4).take 6) = r.E := by rw [(put_take h).2.2.2]; exact val_dig 6 r.E e0 (show r.E < 281474976710656 by omega)
  have v3 : numS (putS r) 10 3 = [r.B, r.N, r.S] := by rw [x1]; exact num_twos [r.B, r.N, r.S] A _ 10 lA h3
  have g16 : (putS r).getD 16 0 = (r.T.length : Int) := by rw [x2]; exact getD_here C _ _ 16 lC
  have g17 : (putS r).getD 17 0 = (r.M.length : Int) := by rw [x3]; exact getD_here _ _ _ 17 (by simp [lC])
  have kN : rgN (putS r) = r.T.length := by unfold rgN; rw [g16]; omega
  have kM : rgM (putS r) = r.M.length := by unfold rgM; rw [g17]; omega
  have vT : numS (putS r) 18 r.T.length = r.T := by rw [x4]; exact num_twos r.T _ _ 18 (by simp [lC]) hT
  have vM : numS (putS r) (18 + 2 * r.T.length) r.M.length = r.M := by rw [x5]; exact num_twos r.M _ _ _ (by simp [lC, twos_len]; omega) hM
  unfold rgS
  rw [vE, v3, kN, kM, vT, vM]
  rfl
/-- Behind the tests of length, of the two epochs and of the sum. -/
theorem gets_rg {zs : List Int} (h1 : zs.length = 256) (h2 : zs.drop 250 = (zs.drop 4).take 6) (h3 : Good (zs.take 250)) :
    (checkE (rgS zs) = 0 ∧ putS (rgS zs) = zs → getS zs = (rgS zs, 0)) ∧ (¬ (checkE (rgS zs) = 0 ∧ putS (rgS zs) = zs) → getS zs = (zero, 4)) := by
  refine ⟨fun h => ?_, fun h => ?_⟩
  · have := get_put (ok_checkE h.1)
    rw [h.2] at this
    exact this
  · by_cases hz : (getS zs).2 = 0
    · obtain ⟨q1, q2⟩ := gets_ok hz
      have e := rg_put q1
      rw [q2] at e
      refine absurd ⟨?_, ?_⟩ h
      · rw [e]; exact checkE_ok q1
      · rw [e]; exact q2
    · unfold getS at hz ⊢
      rw [if_neg (by simp [h1]), if_neg (by simp [h2]), if_neg (fun hn => hn h3)] at hz ⊢
      split
      · rename_i hq
        rw [if_pos hq] at hz
        exact absurd rfl hz
      · rfl
end Go.Proofs.Ytadnflaocgmfgaa
