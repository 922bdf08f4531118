/- A root as plain data: whether it may be, and its block. -/
import Derived.Test.YtadnflaocgmfgaaCrc
namespace Go.Proofs.Ytadnflaocgmfgaa
open Go.RowKit
structure RD where
  E : Int
  B : Int
  N : Int
  S : Int
  T : List Int
  M : List Int
def inB (b : Int) (zs : List Int) : Bool := zs.all (fun z => decide (2 ≤ z) && decide (z < b))
def limB (r : RD) : Bool := (decide (0 ≤ r.E) && decide (r.E ≤ 1099511627776)) && (decide (2 ≤ r.B) && decide (r.B ≤ 4096)) && (decide (0 ≤ r.N) && decide (r.N ≤ 3000)) && (decide (0 ≤ r.S) && decide (r.S ≤ r.N))
def longB (r : RD) : Bool := decide (26 < r.T.length) || decide (3 < r.M.length)
def checkE (r : RD) : Int := if limB r = false then 12 else if longB r = true then 5 else if (inB r.B r.T && inB r.B r.M) = false then 12 else 0
structure RD.Ok (r : RD) : Prop where
  e0 : 0 ≤ r.E
  e1 : r.E ≤ 1099511627776
  b0 : 2 ≤ r.B
  b1 : r.B ≤ 4096
  n0 : 0 ≤ r.N
  n1 : r.N ≤ 3000
  s0 : 0 ≤ r.S
  s1 : r.S ≤ r.N
  t1 : r.T.length ≤ 26
  m1 : r.M.length ≤ 3
  tb : ∀ z ∈ r.T, 2 ≤ z ∧ z < r.B
  mb : ∀ z ∈ r.M, 2 ≤ z ∧ z < r.B
theorem inB_iff (b : Int) (zs : List Int) : inB b zs = true ↔ ∀ z ∈ zs, 2 ≤ z ∧ z < b := by simp [inB]
theorem limB_iff (r : RD) : limB r = true ↔ (0 ≤ r.E ∧ r.E ≤ 1099511627776) ∧ (2 ≤ r.B ∧ r.B ≤ 4096) ∧ (0 ≤ r.N ∧ r.N ≤ 3000) ∧ (0 ≤ r.S ∧ r.S ≤ r.N) := by
  simp [limB, and_assoc]
theorem checkE_ok {r : RD} (h : r.Ok) : checkE r = 0 := by
  unfold checkE
  have h1 : limB r = true := (limB_iff r).2 ⟨⟨h.e0, h.e1⟩, ⟨h.b0, h.b1⟩, ⟨h.n0, h.n1⟩, h.s0, h.s1⟩
  have h2 : longB r = false := by simp [longB]; exact ⟨h.t1, h.m1⟩
  have h3 := (inB_iff r.B r.T).2 h.tb
  have h4 := (inB_iff r.B r.M).2 h.mb
  rw [h1, h2, h3, h4]; rfl
theorem ok_checkE {r : RD} (h : checkE r = 0) : r.Ok := by
  unfold checkE at h
  by_cases h1 : limB r = false
  · rw [if_pos h1] at h; cases h
  · rw [if_neg h1] at h
    by_cases h2 : longB r = true
    · rw [if_pos h2] at h; cases h
    · rw [if_neg h2] at h
      by_cases h3 : (inB r.B r.T && inB r.B r.M) = false
      · rw [if_pos h3] at h; cases h
      · have q1 := (limB_iff r).1 (by simpa using h1)
        have q2 : longB r = false := by simpa using h2
        simp [longB] at q2
        have q3 : (inB r.B r.T && inB r.B r.M) = true := by simpa using h3
        rw [Bool.and_eq_true] at q3
        exact ⟨q1.1.1, q1.1.2, q1.2.1.1, q1.2.1.2, q1.2.2.1.1, q1.2.2.1.2, q1.2.2.2.1, q1.2.2.2.2, q2.1, q2.2, (inB_iff _ _).1 q3.1, (inB_iff _ _).1 q3.2⟩
/-- Two bytes of each. -/
def twos (zs : List Int) : List Int := zs.flatMap (fun z => dig z 2)
/-- What stands ahead of the zeros. -/
def frontS (r : RD) : List Int := [114, 111, 111, 116] ++ dig r.E 6 ++ (dig r.B 2 ++ dig r.N 2 ++ dig r.S 2) ++ (dig r.T.length 1 ++ dig r.M.length 1) ++ twos r.T ++ twos r.M
def bodyS (r : RD) : List Int := frontS r ++ List.replicate (246 - (frontS r).length) 0
def putS (r : RD) : List Int := bodyS r ++ dig (more 0 (bodyS r)) 4 ++ dig r.E 6
theorem twos_all (zs : List Int) : AllB (twos zs) := by
  intro z hz
  obtain ⟨y, _, hy⟩ := List.mem_flatMap.1 hz
  exact dig_all 2 y z hy
theorem twos_len (zs : List Int) : (twos zs).length = 2 * zs.length := by
  induction zs with
  | nil => rfl
  | cons z zs ih =>
    show (dig z 2 ++ twos zs).length = _
    rw [List.length_append, dig_length, ih, List.length_cons]
    omega
theorem front_len (r : RD) : (frontS r).length = 18 + 2 * r.T.length + 2 * r.M.length := by
  simp only [frontS, List.length_append, dig_length, twos_len, List.length_cons, List.length_nil]
theorem front_all (r : RD) : AllB (frontS r) := by
  have h4 : AllB [114, 111, 111, 116] := by intro z hz; revert z; decide
  exact ((((h4.append (dig_all _ _)).append (((dig_all _ _).append (dig_all _ _)).append (dig_all _ _))).append ((dig_all _ _).append (dig_all _ _))).append (twos_all _)).append (twos_all _)
theorem zeros_all (n : Nat) : AllB (List.replicate n 0) := by
  intro z hz
  obtain ⟨_, rfl⟩ := List.mem_replicate.1 hz
  decide
theorem body_all (r : RD) : AllB (bodyS r) := (front_all r).append (zeros_all _)
theorem put_all (r : RD) : AllB (putS r) := ((body_all r).append (dig_all _ _)).append (dig_all _ _)
theorem body_len {r : RD} (h : r.Ok) : (bodyS r).length = 246 := by
  have h1 := h.t1; have h2 := h.m1
  have := front_len r
  simp only [bodyS, List.length_append, List.length_replicate]
  omega
theorem put_len {r : RD} (h : r.Ok) : (putS r).length = 256 := by
  simp only [putS, List.length_append, dig_length, body_len h]
end Go.Proofs.Ytadnflaocgmfgaa
