/- What was sealed is opened as it was. -/
import Derived.Test.YtcegahmjegjckaaROpen6
namespace Go.Proofs.Ytcegahmjegjckaa
open Go.RowKit
set_option linter.unusedVariables false
set_option linter.unusedSimpArgs false
theorem take_pre {xs ys : List Int} {n : Nat} (h : xs.length = n) : (xs ++ ys).take n = xs := by subst h; simp
theorem drop_pre {xs ys : List Int} {n : Nat} (h : xs.length = n) : (xs ++ ys).drop n = ys := by subst h; simp
theorem seal_shape (k id : Int) (zs : List Int) : ∃ rest, sealS k id zs = dig k 1 ++ (dig id 3 ++ (dig (zs.length : Nat) 2 ++ (zs ++ rest))) :=
  ⟨List.replicate (246 - zs.length) 0 ++ dig (more 0 (frontS k id zs)) 4, by unfold sealS; simp [frontS, headS]⟩
theorem rd_seal {k id : Int} {zs : List Int} (h : sealE k id zs.length = 0) : rdK (sealS k id zs) = k ∧ rdI (sealS k id zs) = id ∧ rdB (sealS k id zs) = zs := by
  obtain ⟨k0, k1, i0, i1, hl⟩ := sealE_zero h
  obtain ⟨rest, e⟩ := seal_shape k id zs
  have d1 : (sealS k id zs).drop 1 = dig id 3 ++ (dig (zs.length : Nat) 2 ++ (zs ++ rest)) := by rw [e]; exact drop_pre (dig_length _ _)
  have d4 : (sealS k id zs).drop 4 = dig (zs.length : Nat) 2 ++ (zs ++ rest) := by
    rw [show (4 : Nat) = 1 + 3 from rfl, ← List.drop_drop, d1]; exact drop_pre (dig_length _ _)
  have d6 : (sealS k id zs).drop 6 = zs ++ rest := by
    rw [show (6 : Nat) = 4 + 2 from rfl, ← List.drop_drop, d4]; exact drop_pre (dig_length _ _)
  have hL : rdL (sealS k id zs) = (zs.length : Nat) := by
    unfold rdL
    rw [d4, take_pre (dig_length _ _)]
    exact val_dig 2 _ (by omega) (by show ((zs.length : Nat) : Int) < 65536; omega)
  have hN : rdN (sealS k id zs) = zs.length := by unfold rdN; rw [hL]; omega
  refine ⟨?_, ?_, ?_⟩
  · unfold rdK
    rw [e, take_pre (dig_length _ _)]
    exact val_dig 1 _ (by omega) (by show k < 256; omega)
  · unfold rdI
    rw [d1, take_pre (dig_length _ _)]
    exact val_dig 3 _ (by omega) (by show id < 16777216; omega)
  · unfold rdB
    rw [d6, hN, take_pre rfl]
theorem good_seal {k id : Int} {zs : List Int} (h : zs.length ≤ 246) : Good (sealS k id zs) := by
  rw [good_split (n := 252) (seal_len h)]
  have e : (sealS k id zs).take 252 = frontS k id zs := by unfold sealS; exact take_pre (front_len h)
  rw [e]; rfl
theorem op_seal {k id : Int} {zs : List Int} (h : sealE k id zs.length = 0) : opE (sealS k id zs) = 0 ∧ opK (sealS k id zs) = k ∧ opI (sealS k id zs) = id ∧ opB (sealS k id zs) = zs := by
  have hl := (sealE_zero h).2.2.2.2
  obtain ⟨r1, r2, r3⟩ := rd_seal h
  have hE : opE (sealS k id zs) = 0 := by
    unfold opE
    rw [if_pos (seal_len hl), if_pos (good_seal hl), r1, r2, r3, if_pos]
    unfold sealL
    rw [if_pos h]
  obtain ⟨o1, o2, o3⟩ := op_good _ hE
  exact ⟨hE, o1.trans r1, o2.trans r2, o3.trans r3⟩
end Go.Proofs.Ytcegahmjegjckaa
