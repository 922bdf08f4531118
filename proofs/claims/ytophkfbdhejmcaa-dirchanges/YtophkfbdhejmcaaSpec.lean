/- A page's block as data. -/
import Derived.Test.YtophkfbdhejmcaaZeros
namespace Go.Proofs.Ytophkfbdhejmcaa
set_option maxRecDepth 20000
open Go.RowKit
set_option linter.unusedVariables false
/-- What stands ahead of a body. -/
def headS (k id : Int) (n : Nat) : List Int := dig k 1 ++ dig id 3 ++ dig n 2
def frontS (k id : Int) (zs : List Int) : List Int := headS k id zs.length ++ zs ++ List.replicate (246 - zs.length) 0
def sealS (k id : Int) (zs : List Int) : List Int := frontS k id zs ++ dig (more 0 (frontS k id zs)) 4
def kindB (k : Int) : Bool := decide (1 ≤ k) && decide (k ≤ 5)
def idB (k : Int) : Bool := decide (0 ≤ k) && decide (k ≤ 3000)
def sealE (k id : Int) (n : Nat) : Int := if kindB k then (if idB id then (if n ≤ 246 then 0 else 5) else 12) else 9
def sealL (k id : Int) (zs : List Int) : List Int := if sealE k id zs.length = 0 then sealS k id zs else []
theorem head_len (k id : Int) (n : Nat) : (headS k id n).length = 6 := by simp [headS, dig_length]
theorem head_all (k id : Int) (n : Nat) : AllB (headS k id n) := ((dig_all _ _).append (dig_all _ _)).append (dig_all _ _)
theorem zeros_all (n : Nat) : AllB (List.replicate n 0) := by
  intro z hz
  obtain ⟨_, rfl⟩ := List.mem_replicate.1 hz
  decide
theorem front_len {k id : Int} {zs : List Int} (h : zs.length ≤ 246) : (frontS k id zs).length = 252 := by
  simp [frontS, head_len]; omega
theorem front_all {k id : Int} {zs : List Int} (h : AllB zs) : AllB (frontS k id zs) := ((head_all _ _ _).append h).append (zeros_all _)
theorem seal_len {k id : Int} {zs : List Int} (h : zs.length ≤ 246) : (sealS k id zs).length = 256 := by
  simp [sealS, front_len h, dig_length]
theorem sealS_all {k id : Int} {zs : List Int} (h : AllB zs) : AllB (sealS k id zs) := (front_all h).append (dig_all _ _)
theorem sealL_all {k id : Int} {zs : List Int} (h : AllB zs) : AllB (sealL k id zs) := by
  unfold sealL; split
  · exact sealS_all h
  · exact AllB.nil
theorem sealE_zero {k id : Int} {n : Nat} (h : sealE k id n = 0) : 1 ≤ k ∧ k ≤ 5 ∧ 0 ≤ id ∧ id ≤ 3000 ∧ n ≤ 246 := by
  unfold sealE at h
  split at h
  · split at h
    · split at h
      · rename_i h1 h2 h3
        simp [kindB] at h1
        simp [idB] at h2
        omega
      · cases h
    · cases h
  · cases h
theorem putL_dig (n : Int) (x : Nat) (h1 : 1 ≤ x) (h6 : x ≤ 6) (h0 : 0 ≤ n) (hn : n < 256 ^ x) : putL n x = dig n x := by
  unfold putL
  rw [if_neg (by omega), Int.toNat_natCast, if_neg (by omega)]
theorem parts3 {w : World} {a b d : Option Addr} {cap cap2 cap3 : Nat} {zs ys xs : List Int} (hb : BV w a zs) (hn : a = none → cap = 0) (hm : zs.length ≤ 9223372036854775807) (hb2 : BV w b ys) (hn2 : b = none → cap2 = 0) (hm2 : ys.length ≤ 9223372036854775807) (hb3 : BV w d xs) (hn3 : d = none → cap3 = 0) (hm3 : xs.length ≤ 9223372036854775807) :
    Parts (w.alloc (.cells #[.slice a zs.length cap, .slice b ys.length cap2, .slice d xs.length cap3] 27)) w.heap.size 0 [zs, ys, xs] := by
  intro i hi
  rcases Nat.lt_or_ge i 1 with h | h
  · obtain rfl : i = 0 := by omega
    exact ⟨a, cap, by go_simp, hn, hb.alloc _, hm⟩
  · rcases Nat.lt_or_ge i 2 with h | h
    · obtain rfl : i = 1 := by omega
      exact ⟨b, cap2, by go_simp, hn2, hb2.alloc _, hm2⟩
    · obtain rfl : i = 2 := by simp at hi; omega
      exact ⟨d, cap3, by go_simp, hn3, hb3.alloc _, hm3⟩
end Go.Proofs.Ytophkfbdhejmcaa
