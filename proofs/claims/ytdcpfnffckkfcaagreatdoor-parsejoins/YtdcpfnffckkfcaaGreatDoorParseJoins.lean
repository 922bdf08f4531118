/- For every two texts the call ParseJoins of the statements returns true and its arguments read as they did: no condition but that the library's listed variables lie as the program's text lays them. -/
import Derived.Test.YtdcpfnffckkfcaaGreatDoorY8
import Derived.Test.YtdcpfnffckkfcaaGreatDoorY9
import Derived.Test.YtdcpfnffckkfcaaGreatDoorY18
import Derived.Test.YtdcpfnffckkfcaaGreatDoorY11
import Derived.Test.YtdcpfnffckkfcaaGreatDoorY15
import Derived.Test.YtdcpfnffckkfcaaGreatDoorRows
import Derived.Test.YtdcpfnffckkfcaaGreatDoorCards
import Derived.Test.YtdcpfnffckkfcaaGreatDoorTie
import Derived.SevenTiedAt
import Derived.SizedLaws
import Derived.ChangeSame
import Derived.ChangeVars
import Derived.ChangeMaps5
import Derived.JoinedOf
import Derived.JoinedAt
import Derived.RowKit3
import Derived.LaidLaws
import Derived.WalkKit
import Derived.ProofKit
import Derived.OpenShut
import Derived.ShutString
import Derived.ChangeOld
import Derived.Below
namespace Go.Proofs.YtdcpfnffckkfcaaGreatDoor.parseJoins
open Go.ChangeShapes Go.WideShapes Go.ChangeAt Go.RowKit
set_option linter.unusedVariables false
set_option linter.unusedSimpArgs false
set_option maxRecDepth 20000

theorem prog_lens {w : World} {b0 : Nat} {a1 : Option Addr} {n1 c1 : Nat} {a2 : Option Addr} {n2 c2 : Nat} {p : ProgD} (h : RProg w b0 [.slice a1 n1 c1, .slice a2 n2 c2] p) : n1 = p.cs.length ∧ n2 = p.rs.length := by
  obtain ⟨u1, u2, hu, hc, hr⟩ := h
  obtain ⟨rfl, hu2⟩ := List.cons.inj hu
  obtain ⟨rfl, _⟩ := List.cons.inj hu2
  exact ⟨row_len hc, row_len hr⟩
theorem parP_few {l : List UInt8} (h : (parP l).2 = 0) : (parP l).1.cs.length ≤ 16 ∧ (parP l).1.rs.length ≤ 16 := by
  obtain ⟨-, h2, h3⟩ := parP_ok h
  obtain ⟨ts, -, ht, he⟩ := parT_ok h2
  rw [h3, he]
  unfold tooB at ht
  rw [Bool.or_eq_false_iff, decide_eq_false_iff_not] at ht
  have := ht.2
  dsimp only
  omega
theorem app_list (a b : ByteArray) : (a ++ ⟨#[10]⟩ ++ b : ByteArray).data.toList = a.data.toList ++ 10 :: b.data.toList := by simp
theorem app_size (a b : ByteArray) : (a ++ ⟨#[10]⟩ ++ b : ByteArray).size = a.size + 1 + b.size := by rw [← lenL, app_list, List.length_append, List.length_cons, lenL, lenL]; omega
set_option maxHeartbeats 1600000 in
theorem walk_a (s0 : ByteArray) (s1 : ByteArray) (w : World) (hV : Vars w) (w0 : s0.size ≤ maxLen) (w1 : s1.size ≤ maxLen) (h : 1000 < s0.size ∨ 1000 < s1.size) : Calls Tryz.prog 7 #[.string s0, .string s1] w fun e w' => e = .returned (.bool true) ∧ Below w.heap.size w w' := by
  have HA : Hid (∀ W, Below w.heap.size w W → Calls Tryz.prog 8 #[] W fun e w' => e = .returned (.bool true) ∧ Below W.heap.size W w') := fun W hb => awake_any W (hV.below hb)
  by_cases h1 : 1000 < s0.size
  · have hz : (1000 : Int) < s0.size := by omega
    clear h
    go_enter Tryz.func7, Tryz.ntmps7
    go_wp2_with (first | (go_at_call 8; refine (HA.out _ (Below.refl _ _)).mono ?_; rintro e wz ⟨rfl, bz⟩; clear HA))
    go_ret
    exact ⟨rfl, bz⟩
  · have hz : ¬ (1000 : Int) < s0.size := by omega
    have hz2 : (1000 : Int) < s1.size := by omega
    clear h
    go_enter Tryz.func7, Tryz.ntmps7
    go_wp2_with (first | (go_at_call 8; refine (HA.out _ (Below.refl _ _)).mono ?_; rintro e wz ⟨rfl, bz⟩; clear HA))
    go_ret
    exact ⟨rfl, bz⟩
set_option maxHeartbeats 4000000 in
theorem walk_b (s0 : ByteArray) (s1 : ByteArray) (w : World) (hV : Vars w) (w0 : s0.size ≤ maxLen) (w1 : s1.size ≤ maxLen) (h : ¬ (1000 < s0.size ∨ 1000 < s1.size)) (hn : (parP s0.data.toList).2 ≠ 0 ∨ (parP s1.data.toList).2 ≠ 0) : Calls Tryz.prog 7 #[.string s0, .string s1] w fun e w' => e = .returned (.bool true) ∧ Below w.heap.size w w' := by
  have HA : Hid (∀ W, Below w.heap.size w W → Calls Tryz.prog 8 #[] W fun e w' => e = .returned (.bool true) ∧ Below W.heap.size W w') := fun W hb => awake_any W (hV.below hb)
  have hz : ¬ (1000 : Int) < s0.size := by omega
  have hz2 : ¬ (1000 : Int) < s1.size := by omega
  have hs1 : ¬ 9223372036854775807 < s0.size + 1 := by omega
  have hs2 : ¬ 9223372036854775807 < s0.size + 1 + s1.size := by omega
  have CA : Hid (∀ W, Below w.heap.size w W → Calls Tryz.prog 9 #[.string s0] W (PaPost W (parP s0.data.toList))) := fun W hb => pparse_any s0 W (by omega) (hV.below hb)
  have CB : Hid (∀ W, Below w.heap.size w W → Calls Tryz.prog 9 #[.string s1] W (PaPost W (parP s1.data.toList))) := fun W hb => pparse_any s1 W (by omega) (hV.below hb)
  have CC : Hid (∀ W, Below w.heap.size w W → Calls Tryz.prog 9 #[.string (s0 ++ ⟨#[10]⟩ ++ s1)] W (PaPost W (parP (s0.data.toList ++ 10 :: s1.data.toList)))) := fun W hb => by
    have := pparse_any (s0 ++ ⟨#[10]⟩ ++ s1) W (by rw [app_size]; omega) (hV.below hb)
    rw [app_list] at this
    exact this
  have tk1 : Hid True := trivial
  have tk2 : Hid True := trivial
  have tk3 : Hid True := trivial
  generalize parP (s0.data.toList ++ 10 :: s1.data.toList) = GC at *
  have hn2 : (parP s0.data.toList).2 ≠ 0 ∨ ((parP s0.data.toList).2 = 0 ∧ (parP s1.data.toList).2 ≠ 0) := by
    by_cases h0 : (parP s0.data.toList).2 = 0
    · exact .inr ⟨h0, hn.resolve_left (fun h => h h0)⟩
    · exact .inl h0
  generalize parP s0.data.toList = GA at *
  generalize parP s1.data.toList = GB at *
  obtain ⟨GA, NA⟩ := GA
  obtain ⟨GB, NB⟩ := GB
  obtain ⟨GC, NC⟩ := GC
  clear hn h
  dsimp only at hn2
  rcases hn2 with hA | ⟨hA, hB⟩
  · have hnz : ¬ (NA : Int) = 0 := by omega
    clear hA
    go_enter Tryz.func7, Tryz.ntmps7
    go_wp2_with (first
    | (go_at_call 9; have tku := tk1; clear tku tk1; refine (CA.out _ (Below.refl _ _)).mono ?_; rintro e w1 ⟨a1, n1, c1, b1, m1, d1, rfl, hR1, hb1⟩; clear CA; have B1 : Hid (Below w.heap.size w w1) := hb1; have R1 : Hid (RProg w1 w.heap.size _ _) := hR1; clear hR1 hb1)
    | (go_at_call 9; have tku := tk2; clear tku tk2; refine (CB.out _ (bt B1.out (bxn _ _))).mono ?_; rintro e w2 ⟨a2, n2, c2, b2, m2, d2, rfl, hR2, hb2⟩; clear CB; have B2 : Hid (Below w.heap.size w w2) := bt (bt B1.out (bxn _ _)) hb2; have R2 : Hid (RProg w2 _ _ _) := hR2; clear hR2)
    | (go_at_call 9; have tku := tk3; clear tku tk3; refine (CC.out _ (bt B2.out (bxn _ _))).mono ?_; rintro e w3 ⟨a3, n3, c3, b3, m3, d3, rfl, hR3, hb3⟩; clear CC; have B3 : Hid (Below w.heap.size w w3) := bt (bt B2.out (bxn _ _)) hb3; have R3 : Hid (RProg w3 _ _ _) := hR3; clear hR3)
    | (go_at_call 8; refine (HA.out _ (bt B3.out (bxn _ _))).mono ?_; rintro e wz ⟨rfl, bz⟩; clear HA))
    go_ret
    exact ⟨rfl, bt (bt B3.out (bxn _ _)) bz⟩
  · subst hA
    have hnz : ¬ (NB : Int) = 0 := by omega
    clear hB
    go_enter Tryz.func7, Tryz.ntmps7
    go_wp2_with (first
    | (go_at_call 9; have tku := tk1; clear tku tk1; refine (CA.out _ (Below.refl _ _)).mono ?_; rintro e w1 ⟨a1, n1, c1, b1, m1, d1, rfl, hR1, hb1⟩; clear CA; have B1 : Hid (Below w.heap.size w w1) := hb1; have R1 : Hid (RProg w1 w.heap.size _ _) := hR1; clear hR1 hb1)
    | (go_at_call 9; have tku := tk2; clear tku tk2; refine (CB.out _ (bt B1.out (bxn _ _))).mono ?_; rintro e w2 ⟨a2, n2, c2, b2, m2, d2, rfl, hR2, hb2⟩; clear CB; have B2 : Hid (Below w.heap.size w w2) := bt (bt B1.out (bxn _ _)) hb2; have R2 : Hid (RProg w2 _ _ _) := hR2; clear hR2)
    | (go_at_call 9; have tku := tk3; clear tku tk3; refine (CC.out _ (bt B2.out (bxn _ _))).mono ?_; rintro e w3 ⟨a3, n3, c3, b3, m3, d3, rfl, hR3, hb3⟩; clear CC; have B3 : Hid (Below w.heap.size w w3) := bt (bt B2.out (bxn _ _)) hb3; have R3 : Hid (RProg w3 _ _ _) := hR3; clear hR3)
    | (go_at_call 8; refine (HA.out _ (bt B3.out (bxn _ _))).mono ?_; rintro e wz ⟨rfl, bz⟩; clear HA))
    go_ret
    exact ⟨rfl, bt (bt B3.out (bxn _ _)) bz⟩
set_option maxHeartbeats 4000000 in
theorem walk_d (s0 : ByteArray) (s1 : ByteArray) (w : World) (hV : Vars w) (w0 : s0.size ≤ maxLen) (w1 : s1.size ≤ maxLen) (h : ¬ (1000 < s0.size ∨ 1000 < s1.size)) (hn : (parP s0.data.toList).2 = 0) (hn2 : (parP s1.data.toList).2 = 0) (hk : 16 < (parP s0.data.toList).1.cs.length + (parP s1.data.toList).1.cs.length ∨ 16 < (parP s0.data.toList).1.rs.length + (parP s1.data.toList).1.rs.length) : Calls Tryz.prog 7 #[.string s0, .string s1] w fun e w' => e = .returned (.bool true) ∧ Below w.heap.size w w' := by
  have HA : Hid (∀ W, Below w.heap.size w W → Calls Tryz.prog 8 #[] W fun e w' => e = .returned (.bool true) ∧ Below W.heap.size W w') := fun W hb => awake_any W (hV.below hb)
  have hz : ¬ (1000 : Int) < s0.size := by omega
  have hz2 : ¬ (1000 : Int) < s1.size := by omega
  have hs1 : ¬ 9223372036854775807 < s0.size + 1 := by omega
  have hs2 : ¬ 9223372036854775807 < s0.size + 1 + s1.size := by omega
  have CA : Hid (∀ W, Below w.heap.size w W → Calls Tryz.prog 9 #[.string s0] W (PaPost W (parP s0.data.toList))) := fun W hb => pparse_any s0 W (by omega) (hV.below hb)
  have CB : Hid (∀ W, Below w.heap.size w W → Calls Tryz.prog 9 #[.string s1] W (PaPost W (parP s1.data.toList))) := fun W hb => pparse_any s1 W (by omega) (hV.below hb)
  have CC : Hid (∀ W, Below w.heap.size w W → Calls Tryz.prog 9 #[.string (s0 ++ ⟨#[10]⟩ ++ s1)] W (PaPost W (parP (s0.data.toList ++ 10 :: s1.data.toList)))) := fun W hb => by
    have := pparse_any (s0 ++ ⟨#[10]⟩ ++ s1) W (by rw [app_size]; omega) (hV.below hb)
    rw [app_list] at this
    exact this
  have tk1 : Hid True := trivial
  have tk2 : Hid True := trivial
  have tk3 : Hid True := trivial
  have hp := par_two hn hn2
  have fA := parP_few hn
  have fB := parP_few hn2
  rw [if_pos hk] at hp
  generalize parP (s0.data.toList ++ 10 :: s1.data.toList) = GC at *
  generalize parP s0.data.toList = GA at *
  generalize parP s1.data.toList = GB at *
  obtain ⟨GA, NA⟩ := GA
  obtain ⟨GB, NB⟩ := GB
  dsimp only at hn hn2 hk hp fA fB
  subst hn hn2 hp
  have FA : Hid (GA.cs.length ≤ 16 ∧ GA.rs.length ≤ 16) := fA
  have FB : Hid (GB.cs.length ≤ 16 ∧ GB.rs.length ≤ 16) := fB
  clear h fA fB
  by_cases hk1 : 16 < GA.cs.length + GB.cs.length
  · have HK : Hid (16 < GA.cs.length + GB.cs.length) := hk1
    clear hk hk1
    go_enter Tryz.func7, Tryz.ntmps7
    go_wp2_with (first
    | (go_at_call 9; have tku := tk1; clear tku tk1; refine (CA.out _ (Below.refl _ _)).mono ?_; rintro e w1 ⟨a1, n1, c1, b1, m1, d1, rfl, hR1, hb1⟩; clear CA; have B1 : Hid (Below w.heap.size w w1) := hb1; have R1 : Hid (RProg w1 w.heap.size _ _) := hR1; clear hR1 hb1; obtain ⟨e1, e2⟩ := prog_lens R1.out; have e3 : n1 = GA.cs.length := e1; have e4 : m1 = GA.rs.length := e2; have E1 : Hid (n1 = GA.cs.length) := e1; have E2 : Hid (m1 = GA.rs.length) := e2; have hn1 : n1 ≤ 16 := (by have := FA.out; omega); have hm1 : m1 ≤ 16 := (by have := FA.out; omega); clear e1 e2 e3 e4)
    | (go_at_call 9; have tku := tk2; clear tku tk2; refine (CB.out _ (bt B1.out (bxn _ _))).mono ?_; rintro e w2 ⟨a2, n2, c2, b2, m2, d2, rfl, hR2, hb2⟩; clear CB; have B2 : Hid (Below w.heap.size w w2) := bt (bt B1.out (bxn _ _)) hb2; have R2 : Hid (RProg w2 _ _ _) := hR2; clear hR2; obtain ⟨e1, e2⟩ := prog_lens R2.out; have e3 : n2 = GB.cs.length := e1; have e4 : m2 = GB.rs.length := e2; have E3 : Hid (n2 = GB.cs.length) := e1; have E4 : Hid (m2 = GB.rs.length) := e2; have hn2 : n2 ≤ 16 := (by have := FB.out; omega); have hm2 : m2 ≤ 16 := (by have := FB.out; omega); clear e1 e2 e3 e4; have hkz : (16 : Int) < (n1 : Int) + n2 := (by have h1 := E1.out; have h2 := E2.out; have h3 := E3.out; have h4 := E4.out; have h5 := HK.out; omega); obtain ⟨hc, hz⟩ := bcell hb2; have p0c : w2.cell? ⟨w1.heap.size, 0, none⟩ = some (.slice a1 n1 c1) := (by rw [hc _ _ (by simp)]; go_simp); have p1c : w2.cell? ⟨w1.heap.size, 1, none⟩ = some (.slice b1 m1 d1) := (by rw [hc _ _ (by simp)]; go_simp); have z12 : w1.heap.size < w2.heap.size := (by have := hb2.size; simp at this; omega); have BB1 : Hid (Below w1.heap.size w1 w2) := bt (bxn _ _) hb2; clear hc hz hb2)
    | (go_at_call 9; have tku := tk3; clear tku tk3; refine (CC.out _ (bt B2.out (bxn _ _))).mono ?_; rintro e w3 ⟨a3, n3, c3, b3, m3, d3, rfl, hR3, hb3⟩; clear CC; have B3 : Hid (Below w.heap.size w w3) := bt (bt B2.out (bxn _ _)) hb3; have R3 : Hid (RProg w3 _ _ _) := hR3; clear hR3; obtain ⟨hc, hz⟩ := bcell hb3; have z23 : w2.heap.size < w3.heap.size := (by have := hb3.size; simp at this; omega); have z13 : w1.heap.size < w3.heap.size := (by omega); have x12 : ¬ w1.heap.size = w2.heap.size := (by omega); have p0d : w3.cell? ⟨w1.heap.size, 0, none⟩ = some (.slice a1 n1 c1) := (by rw [hc _ _ (by simp; omega)]; go_simp); have p1d : w3.cell? ⟨w1.heap.size, 1, none⟩ = some (.slice b1 m1 d1) := (by rw [hc _ _ (by simp; omega)]; go_simp); have q0d : w3.cell? ⟨w2.heap.size, 0, none⟩ = some (.slice a2 n2 c2) := (by rw [hc _ _ (by simp)]; go_simp); have q1d : w3.cell? ⟨w2.heap.size, 1, none⟩ = some (.slice b2 m2 d2) := (by rw [hc _ _ (by simp)]; go_simp); have BB2 : Hid (Below w2.heap.size w2 w3) := bt (bxn _ _) hb3; clear hc hz p0c p1c hb3)
    | (go_at_call 8; refine (HA.out _ (bt B3.out (bxn _ _))).mono ?_; rintro e wz ⟨rfl, bz⟩; clear HA))
    go_ret
    exact ⟨rfl, bt (bt B3.out (bxn _ _)) bz⟩
  · have HK : Hid (¬ 16 < GA.cs.length + GB.cs.length ∧ 16 < GA.rs.length + GB.rs.length) := ⟨hk1, hk.resolve_left hk1⟩
    clear hk hk1
    go_enter Tryz.func7, Tryz.ntmps7
    go_wp2_with (first
    | (go_at_call 9; have tku := tk1; clear tku tk1; refine (CA.out _ (Below.refl _ _)).mono ?_; rintro e w1 ⟨a1, n1, c1, b1, m1, d1, rfl, hR1, hb1⟩; clear CA; have B1 : Hid (Below w.heap.size w w1) := hb1; have R1 : Hid (RProg w1 w.heap.size _ _) := hR1; clear hR1 hb1; obtain ⟨e1, e2⟩ := prog_lens R1.out; have e3 : n1 = GA.cs.length := e1; have e4 : m1 = GA.rs.length := e2; have E1 : Hid (n1 = GA.cs.length) := e1; have E2 : Hid (m1 = GA.rs.length) := e2; have hn1 : n1 ≤ 16 := (by have := FA.out; omega); have hm1 : m1 ≤ 16 := (by have := FA.out; omega); clear e1 e2 e3 e4)
    | (go_at_call 9; have tku := tk2; clear tku tk2; refine (CB.out _ (bt B1.out (bxn _ _))).mono ?_; rintro e w2 ⟨a2, n2, c2, b2, m2, d2, rfl, hR2, hb2⟩; clear CB; have B2 : Hid (Below w.heap.size w w2) := bt (bt B1.out (bxn _ _)) hb2; have R2 : Hid (RProg w2 _ _ _) := hR2; clear hR2; obtain ⟨e1, e2⟩ := prog_lens R2.out; have e3 : n2 = GB.cs.length := e1; have e4 : m2 = GB.rs.length := e2; have E3 : Hid (n2 = GB.cs.length) := e1; have E4 : Hid (m2 = GB.rs.length) := e2; have hn2 : n2 ≤ 16 := (by have := FB.out; omega); have hm2 : m2 ≤ 16 := (by have := FB.out; omega); clear e1 e2 e3 e4; have hkz : ¬ (16 : Int) < (n1 : Int) + n2 := (by have h1 := E1.out; have h2 := E2.out; have h3 := E3.out; have h4 := E4.out; have h5 := HK.out; omega); have hkz2 : (16 : Int) < (m1 : Int) + m2 := (by have h1 := E1.out; have h2 := E2.out; have h3 := E3.out; have h4 := E4.out; have h5 := HK.out; omega); obtain ⟨hc, hz⟩ := bcell hb2; have p0c : w2.cell? ⟨w1.heap.size, 0, none⟩ = some (.slice a1 n1 c1) := (by rw [hc _ _ (by simp)]; go_simp); have p1c : w2.cell? ⟨w1.heap.size, 1, none⟩ = some (.slice b1 m1 d1) := (by rw [hc _ _ (by simp)]; go_simp); have z12 : w1.heap.size < w2.heap.size := (by have := hb2.size; simp at this; omega); have BB1 : Hid (Below w1.heap.size w1 w2) := bt (bxn _ _) hb2; clear hc hz hb2)
    | (go_at_call 9; have tku := tk3; clear tku tk3; refine (CC.out _ (bt B2.out (bxn _ _))).mono ?_; rintro e w3 ⟨a3, n3, c3, b3, m3, d3, rfl, hR3, hb3⟩; clear CC; have B3 : Hid (Below w.heap.size w w3) := bt (bt B2.out (bxn _ _)) hb3; have R3 : Hid (RProg w3 _ _ _) := hR3; clear hR3; obtain ⟨hc, hz⟩ := bcell hb3; have z23 : w2.heap.size < w3.heap.size := (by have := hb3.size; simp at this; omega); have z13 : w1.heap.size < w3.heap.size := (by omega); have x12 : ¬ w1.heap.size = w2.heap.size := (by omega); have p0d : w3.cell? ⟨w1.heap.size, 0, none⟩ = some (.slice a1 n1 c1) := (by rw [hc _ _ (by simp; omega)]; go_simp); have p1d : w3.cell? ⟨w1.heap.size, 1, none⟩ = some (.slice b1 m1 d1) := (by rw [hc _ _ (by simp; omega)]; go_simp); have q0d : w3.cell? ⟨w2.heap.size, 0, none⟩ = some (.slice a2 n2 c2) := (by rw [hc _ _ (by simp)]; go_simp); have q1d : w3.cell? ⟨w2.heap.size, 1, none⟩ = some (.slice b2 m2 d2) := (by rw [hc _ _ (by simp)]; go_simp); have BB2 : Hid (Below w2.heap.size w2 w3) := bt (bxn _ _) hb3; clear hc hz p0c p1c hb3)
    | (go_at_call 8; refine (HA.out _ (bt B3.out (bxn _ _))).mono ?_; rintro e wz ⟨rfl, bz⟩; clear HA))
    go_ret
    exact ⟨rfl, bt (bt B3.out (bxn _ _)) bz⟩
/-- The box of the answer. -/
def BX (ws W : World) (g : Nat) : Prop := ws.heap.size ≤ g ∧ W.heap[g]? = some (.cells #[.slice none 0 0, .slice none 0 0] 26 (0, 0))
theorem BX.below {ws W W' : World} {g : Nat} (h : BX ws W g) (hb : Below W.heap.size W W') : BX ws W' g := ⟨h.1, (hb.block g (Array.getElem?_eq_some_iff.1 h.2).1).trans h.2⟩
theorem BX.grown {K n base : Nat} {ws W W' : World} {g : Nat} {v : Value} {css : List (List Value)} (hK : tyK K ≠ 26) (h : BX ws W g) (ho : OwnG K n W base v css) (hg : W.grownBy W' v.ownBlock) : BX ws W' g := by
  refine ⟨h.1, (hg.block g (Array.getElem?_eq_some_iff.1 h.2).1 ?_).trans h.2⟩
  rcases ho.2.2 with ⟨rfl, _⟩ | ⟨g', cap', cur', rfl, _, hg', _⟩
  · simp [Value.ownBlock]
  · intro e
    have e' : g = g' := by simpa [Value.ownBlock] using e
    subst e'
    have := Obj.cells.inj (Option.some.inj (hg'.symm.trans h.2))
    exact hK this.2.1
theorem heap_set_ne (w : World) (a : Addr) (v : Value) {k : Nat} (h : k ≠ a.block) : (w.setCell a v).heap[k]? = w.heap[k]? := by
  unfold World.setCell
  simp [Array.getElem?_modify, Ne.symm h]
theorem BX.apart {K n base : Nat} {ws W : World} {g : Nat} {v : Value} {css : List (List Value)} {x y : Value} (hK : tyK K ≠ 26) (h : BX ws W g) (ho : OwnG K n W base v css) : OwnG K n ((W.setCell ⟨g, 0, none⟩ x).setCell ⟨g, 1, none⟩ y) base v css := by
  have ho' := ho
  refine ⟨ho.1, ho.2.1, ?_⟩
  rcases ho.2.2 with hn | ⟨g', cap', cur', rfl, hb, hg', rest⟩
  · exact .inl hn
  · refine .inr ⟨g', cap', cur', rfl, hb, ?_, rest⟩
    have hne : g' ≠ g := by
      intro e
      subst e
      have := Obj.cells.inj (Option.some.inj (hg'.symm.trans h.2))
      exact hK this.2.1
    rw [heap_set_ne _ _ _ (by simpa using hne), heap_set_ne _ _ _ (by simpa using hne)]
    exact hg'
theorem All2.append {α β : Type} {R : α → β → Prop} : ∀ {as_ : List α} {bs : List β} {cs : List α} {ds : List β}, All2 R as_ bs → All2 R cs ds → All2 R (as_ ++ cs) (bs ++ ds)
  | [], [], _, _, _, h => h
  | _ :: _, _ :: _, _, _, h, k => ⟨h.1, All2.append h.2 k⟩
  | [], _ :: _, _, _, h, _ => h.elim
  | _ :: _, [], _, _, h, _ => h.elim
theorem all2_mem {α β : Type} {R : α → β → Prop} {p : α → Prop} (hp : ∀ a b, R a b → p a) : ∀ {as_ : List α} {bs : List β}, All2 R as_ bs → ∀ a ∈ as_, p a
  | [], [], _, a, ha => by simp at ha
  | x :: xs, y :: ys, h, a, ha => by
    rcases List.mem_cons.1 ha with rfl | ha
    · exact hp _ _ h.1
    · exact all2_mem hp h.2 a ha
  | [], _ :: _, h, _, _ => h.elim
  | _ :: _, [], h, _, _ => h.elim
theorem k_one {P : Nat → Nat → Prop} {w : World} {c : List Value} {x : ClassD} (h : ReK P w c x) : ∀ u ∈ c, u.oneCell' = true := by
  intro u hu
  obtain ⟨v, rfl, h2⟩ := h
  simp at hu
  rcases hu with rfl | rfl
  · rfl
  · exact slW_one h2
theorem r_one {P : Nat → Nat → Prop} {w : World} {c : List Value} {x : RuleD} (h : ReR P w c x) : ∀ u ∈ c, u.oneCell' = true := by
  intro u hu
  obtain ⟨v1, v2, rfl, h2, h3⟩ := h
  simp at hu
  rcases hu with rfl | rfl | rfl
  · rfl
  · exact row_one h2
  · exact row_one h3
theorem Z10 : (Tryz.prog.info? (tyK 10)).map (fun i => (i.zero, i.size, i.bytes)) = some (some (.agg #[.string ⟨#[]⟩, .slice none 0 0]), 2, 40) := by kernel_rfl
theorem Z11 : (Tryz.prog.info? (tyK 11)).map (fun i => (i.zero, i.size, i.bytes)) = some (some (.agg #[.string ⟨#[]⟩, .slice none 0 0, .slice none 0 0]), 3, 64) := by kernel_rfl
set_option maxHeartbeats 16000000 in
theorem walk_f (s0 : ByteArray) (s1 : ByteArray) (w : World) (hV : Vars w) (w0 : s0.size ≤ maxLen) (w1 : s1.size ≤ maxLen) (h : ¬ (1000 < s0.size ∨ 1000 < s1.size)) (hn : (parP s0.data.toList).2 = 0) (hn2 : (parP s1.data.toList).2 = 0) (hk : ¬ (16 < (parP s0.data.toList).1.cs.length + (parP s1.data.toList).1.cs.length ∨ 16 < (parP s0.data.toList).1.rs.length + (parP s1.data.toList).1.rs.length)) : Calls Tryz.prog 7 #[.string s0, .string s1] w fun e w' => e = .returned (.bool true) ∧ Below w.heap.size w w' := by
  have HA : Hid (∀ W, Below w.heap.size w W → Calls Tryz.prog 8 #[] W fun e w' => e = .returned (.bool true) ∧ Below W.heap.size W w') := fun W hb => awake_any W (hV.below hb)
  have hz : ¬ (1000 : Int) < s0.size := by omega
  have hz2 : ¬ (1000 : Int) < s1.size := by omega
  have hs1 : ¬ 9223372036854775807 < s0.size + 1 := by omega
  have hs2 : ¬ 9223372036854775807 < s0.size + 1 + s1.size := by omega
  have CA : Hid (∀ W, Below w.heap.size w W → Calls Tryz.prog 9 #[.string s0] W (PaPost W (parP s0.data.toList))) := fun W hb => pparse_any s0 W (by omega) (hV.below hb)
  have CB : Hid (∀ W, Below w.heap.size w W → Calls Tryz.prog 9 #[.string s1] W (PaPost W (parP s1.data.toList))) := fun W hb => pparse_any s1 W (by omega) (hV.below hb)
  have CC : Hid (∀ W, Below w.heap.size w W → Calls Tryz.prog 9 #[.string (s0 ++ ⟨#[10]⟩ ++ s1)] W (PaPost W (parP (s0.data.toList ++ 10 :: s1.data.toList)))) := fun W hb => by
    have := pparse_any (s0 ++ ⟨#[10]⟩ ++ s1) W (by rw [app_size]; omega) (hV.below hb)
    rw [app_list] at this
    exact this
  have tk1 : Hid True := trivial
  have tk2 : Hid True := trivial
  have tk3 : Hid True := trivial
  have hp := par_two hn hn2
  have fA := parP_few hn
  have fB := parP_few hn2
  rw [if_neg hk] at hp
  generalize parP (s0.data.toList ++ 10 :: s1.data.toList) = GC at *
  generalize parP s0.data.toList = GA at *
  generalize parP s1.data.toList = GB at *
  obtain ⟨GA, NA⟩ := GA
  obtain ⟨GB, NB⟩ := GB
  dsimp only at hn hn2 hk hp fA fB
  subst hn hn2 hp
  have FA : Hid (GA.cs.length ≤ 16 ∧ GA.rs.length ≤ 16) := fA
  have FB : Hid (GB.cs.length ≤ 16 ∧ GB.rs.length ≤ 16) := fB
  clear h fA fB
  have HK : Hid (¬ 16 < GA.cs.length + GB.cs.length ∧ ¬ 16 < GA.rs.length + GB.rs.length) := ⟨fun h => hk (.inl h), fun h => hk (.inr h)⟩
  clear hk
  go_enter Tryz.func7, Tryz.ntmps7
  go_wp2_with (first
    | (go_at_call 9; have tku := tk1; clear tku tk1; refine (CA.out _ (Below.refl _ _)).mono ?_; rintro e w1 ⟨a1, n1, c1, b1, m1, d1, rfl, hR1, hb1⟩; clear CA; have B1 : Hid (Below w.heap.size w w1) := hb1; have R1 : Hid (RProg w1 w.heap.size _ _) := hR1; clear hR1 hb1; obtain ⟨e1, e2⟩ := prog_lens R1.out; have e3 : n1 = GA.cs.length := e1; have e4 : m1 = GA.rs.length := e2; have E1 : Hid (n1 = GA.cs.length) := e1; have E2 : Hid (m1 = GA.rs.length) := e2; have hn1 : n1 ≤ 16 := (by have := FA.out; omega); have hm1 : m1 ≤ 16 := (by have := FA.out; omega); clear e1 e2 e3 e4)
    | (go_at_call 9; have tku := tk2; clear tku tk2; refine (CB.out _ (bt B1.out (bxn _ _))).mono ?_; rintro e w2 ⟨a2, n2, c2, b2, m2, d2, rfl, hR2, hb2⟩; clear CB; have B2 : Hid (Below w.heap.size w w2) := bt (bt B1.out (bxn _ _)) hb2; have R2 : Hid (RProg w2 _ _ _) := hR2; clear hR2; obtain ⟨e1, e2⟩ := prog_lens R2.out; have e3 : n2 = GB.cs.length := e1; have e4 : m2 = GB.rs.length := e2; have E3 : Hid (n2 = GB.cs.length) := e1; have E4 : Hid (m2 = GB.rs.length) := e2; have hn2 : n2 ≤ 16 := (by have := FB.out; omega); have hm2 : m2 ≤ 16 := (by have := FB.out; omega); clear e1 e2 e3 e4; have hkz : ¬ (16 : Int) < (n1 : Int) + n2 := (by have h1 := E1.out; have h2 := E2.out; have h3 := E3.out; have h4 := E4.out; have h5 := HK.out; omega); have hkz2 : ¬ (16 : Int) < (m1 : Int) + m2 := (by have h1 := E1.out; have h2 := E2.out; have h3 := E3.out; have h4 := E4.out; have h5 := HK.out; omega); obtain ⟨hc, hz⟩ := bcell hb2; have p0c : w2.cell? ⟨w1.heap.size, 0, none⟩ = some (.slice a1 n1 c1) := (by rw [hc _ _ (by simp)]; go_simp); have p1c : w2.cell? ⟨w1.heap.size, 1, none⟩ = some (.slice b1 m1 d1) := (by rw [hc _ _ (by simp)]; go_simp); have z12 : w1.heap.size < w2.heap.size := (by have := hb2.size; simp at this; omega); have BB1 : Hid (Below w1.heap.size w1 w2) := bt (bxn _ _) hb2; clear hc hz hb2)
    | (go_at_call 9; have tku := tk3; clear tku tk3; refine (CC.out _ (bt B2.out (bxn _ _))).mono ?_; rintro e w3 ⟨a3, n3, c3, b3, m3, d3, rfl, hR3, hb3⟩; clear CC; have B3 : Hid (Below w.heap.size w w3) := bt (bt B2.out (bxn _ _)) hb3; have R3 : Hid (RProg w3 _ _ _) := hR3; clear hR3; obtain ⟨hc, hz⟩ := bcell hb3; have z23 : w2.heap.size < w3.heap.size := (by have := hb3.size; simp at this; omega); have z13 : w1.heap.size < w3.heap.size := (by omega); have x12 : ¬ w1.heap.size = w2.heap.size := (by omega); have p0d : w3.cell? ⟨w1.heap.size, 0, none⟩ = some (.slice a1 n1 c1) := (by rw [hc _ _ (by simp; omega)]; go_simp); have p1d : w3.cell? ⟨w1.heap.size, 1, none⟩ = some (.slice b1 m1 d1) := (by rw [hc _ _ (by simp; omega)]; go_simp); have q0d : w3.cell? ⟨w2.heap.size, 0, none⟩ = some (.slice a2 n2 c2) := (by rw [hc _ _ (by simp)]; go_simp); have q1d : w3.cell? ⟨w2.heap.size, 1, none⟩ = some (.slice b2 m2 d2) := (by rw [hc _ _ (by simp)]; go_simp); have BB2 : Hid (Below w2.heap.size w2 w3) := bt (bxn _ _) hb3; clear hc hz p0c p1c hb3)
    | (go_at_call 8; refine (HA.out _ (bt B3.out (bxn _ _))).mono ?_; rintro e wz ⟨rfl, bz⟩; clear HA))
  obtain ⟨ws, hws⟩ : ∃ ws, ws = w3.alloc (.cells #[.slice a3 n3 c3, .slice b3 m3 d3] 26) := ⟨_, rfl⟩
  rw [← hws]
  have r0 : ws.cell? ⟨w1.heap.size, 0, none⟩ = some (.slice a1 n1 c1) := by rw [hws]; go_simp
  have r1 : ws.cell? ⟨w1.heap.size, 1, none⟩ = some (.slice b1 m1 d1) := by rw [hws]; go_simp
  have r2 : ws.cell? ⟨w2.heap.size, 0, none⟩ = some (.slice a2 n2 c2) := by rw [hws]; go_simp
  have r3 : ws.cell? ⟨w2.heap.size, 1, none⟩ = some (.slice b2 m2 d2) := by rw [hws]; go_simp
  have r4 : ws.cell? ⟨w3.heap.size, 0, none⟩ = some (.slice a3 n3 c3) := by rw [hws]; go_simp
  have r5 : ws.cell? ⟨w3.heap.size, 1, none⟩ = some (.slice b3 m3 d3) := by rw [hws]; go_simp
  have BS : Hid (Below w.heap.size w ws) := by rw [hws]; exact bt B3.out (bxn _ _)
  have K3 : Below w3.heap.size w3 ws := by rw [hws]; exact bxn _ _
  have K2 : Below w2.heap.size w2 ws := bt (BB2.out) K3
  have K1 : Below w1.heap.size w1 ws := bt (BB1.out) K2
  have zs3 : w3.heap.size < ws.heap.size := by rw [hws]; simp
  obtain ⟨g1, g2, eq1, ⟨css1, S1, A1⟩, ⟨dss1, S3, A3⟩⟩ := R1.out
  obtain ⟨rfl, eq1'⟩ := List.cons.inj eq1
  obtain ⟨rfl, -⟩ := List.cons.inj eq1'
  obtain ⟨g1, g2, eq2, ⟨css2, S2, A2⟩, ⟨dss2, S4, A4⟩⟩ := R2.out
  obtain ⟨rfl, eq2'⟩ := List.cons.inj eq2
  obtain ⟨rfl, -⟩ := List.cons.inj eq2'
  have SA1 : Hid (∀ W, Below ws.heap.size ws W → SlW 2 W (fun _ => True) (.slice a1 n1 c1) css1) := fun W hW => SlW.keep (P := fun _ _ => True) (k := 0) (Stays.below (bt K1 hW)) (S1.mono fun _ _ => trivial)
  have SA3 : Hid (∀ W, Below ws.heap.size ws W → SlW 3 W (fun _ => True) (.slice b1 m1 d1) dss1) := fun W hW => SlW.keep (P := fun _ _ => True) (k := 0) (Stays.below (bt K1 hW)) (S3.mono fun _ _ => trivial)
  have SA2 : Hid (∀ W, Below ws.heap.size ws W → SlW 2 W (fun _ => True) (.slice a2 n2 c2) css2) := fun W hW => SlW.keep (P := fun _ _ => True) (k := 0) (Stays.below (bt K2 hW)) (S2.mono fun _ _ => trivial)
  have SA4 : Hid (∀ W, Below ws.heap.size ws W → SlW 3 W (fun _ => True) (.slice b2 m2 d2) dss2) := fun W hW => SlW.keep (P := fun _ _ => True) (k := 0) (Stays.below (bt K2 hW)) (S4.mono fun _ _ => trivial)
  have AA : Hid (∀ W, Below ws.heap.size ws W → All2 (ReK (fun _ _ => True) W) (([] ++ css1) ++ css2) (GA.cs ++ GB.cs) ∧ All2 (ReR (fun _ _ => True) W) (([] ++ dss1) ++ dss2) (GA.rs ++ GB.rs)) := fun W hW => ⟨All2.append (A1.map fun _ _ h => ReK.keep (Stays.below (bt K1 hW)) (h.mono fun _ _ _ => trivial)) (A2.map fun _ _ h => ReK.keep (Stays.below (bt K2 hW)) (h.mono fun _ _ _ => trivial)), All2.append (A3.map fun _ _ h => ReR.keep (Stays.below (bt K1 hW)) (h.mono fun _ _ _ => trivial)) (A4.map fun _ _ h => ReR.keep (Stays.below (bt K2 hW)) (h.mono fun _ _ _ => trivial))⟩
  have l1 := A1.len
  have l2 := A2.len
  have l3 := A3.len
  have l4 := A4.len
  have L1 : Hid ((∀ c ∈ css1, c.length = 2) ∧ (∀ c ∈ css1, ∀ u ∈ c, u.oneCell' = true) ∧ ([] : List (List Value)).length + css1.length ≤ 1000000) := ⟨all2_mem (fun _ _ h => by obtain ⟨v, rfl, _⟩ := h; rfl) A1, all2_mem (fun _ _ h => k_one h) A1, by have := FA.out; simp; omega⟩
  have L2 : Hid ((∀ c ∈ css2, c.length = 2) ∧ (∀ c ∈ css2, ∀ u ∈ c, u.oneCell' = true) ∧ ([] ++ css1 : List (List Value)).length + css2.length ≤ 1000000) := ⟨all2_mem (fun _ _ h => by obtain ⟨v, rfl, _⟩ := h; rfl) A2, all2_mem (fun _ _ h => k_one h) A2, by have := FA.out; have := FB.out; simp; omega⟩
  have L3 : Hid ((∀ c ∈ dss1, c.length = 3) ∧ (∀ c ∈ dss1, ∀ u ∈ c, u.oneCell' = true) ∧ ([] : List (List Value)).length + dss1.length ≤ 1000000) := ⟨all2_mem (fun _ _ h => by obtain ⟨v1, v2, rfl, _⟩ := h; rfl) A3, all2_mem (fun _ _ h => r_one h) A3, by have := FA.out; simp; omega⟩
  have L4 : Hid ((∀ c ∈ dss2, c.length = 3) ∧ (∀ c ∈ dss2, ∀ u ∈ c, u.oneCell' = true) ∧ ([] ++ dss1 : List (List Value)).length + dss2.length ≤ 1000000) := ⟨all2_mem (fun _ _ h => by obtain ⟨v1, v2, rfl, _⟩ := h; rfl) A4, all2_mem (fun _ _ h => r_one h) A4, by have := FA.out; have := FB.out; simp; omega⟩
  have RR : Hid (∀ W, Below ws.heap.size ws W → ReP (fun _ _ => True) W [.slice a3 n3 c3, .slice b3 m3 d3] ⟨GA.cs ++ GB.cs, GA.rs ++ GB.rs⟩) := fun W hW => ReP.keep (Stays.below (bt K3 hW)) (R3.out.mono fun _ _ _ => trivial)
  have CEL : Hid (∀ W, Below ws.heap.size ws W → (W.cell? ⟨w1.heap.size, 0, none⟩ = some (.slice a1 n1 c1) ∧ W.cell? ⟨w1.heap.size, 1, none⟩ = some (.slice b1 m1 d1) ∧ W.cell? ⟨w2.heap.size, 0, none⟩ = some (.slice a2 n2 c2) ∧ W.cell? ⟨w2.heap.size, 1, none⟩ = some (.slice b2 m2 d2)) ∧ W.cell? ⟨w3.heap.size, 0, none⟩ = some (.slice a3 n3 c3) ∧ W.cell? ⟨w3.heap.size, 1, none⟩ = some (.slice b3 m3 d3) ∧ w3.heap.size < W.heap.size) := fun W hW => ⟨⟨(hW.cell (World.block_lt_of_cell? _ _ r0)).trans r0, (hW.cell (World.block_lt_of_cell? _ _ r1)).trans r1, (hW.cell (World.block_lt_of_cell? _ _ r2)).trans r2, (hW.cell (World.block_lt_of_cell? _ _ r3)).trans r3⟩, (hW.cell (World.block_lt_of_cell? _ _ r4)).trans r4, (hW.cell (World.block_lt_of_cell? _ _ r5)).trans r5, Nat.lt_of_lt_of_le zs3 hW.size⟩
  clear hws S1 S2 S3 S4 A1 A2 A3 A4 l1 l2 l3 l4 K1 K2 K3 R1 R2 R3 r0 r1 r2 r3 r4 r5 p0d p1d q0d q1d eq1 eq2 eq1' eq2'
  obtain ⟨z53, hz53⟩ : ∃ z, z = decide (16 < (n1 : Int) + n2) := ⟨_, rfl⟩
  obtain ⟨z62, hz62⟩ : ∃ z, z = decide (16 < (m1 : Int) + m2) := ⟨_, rfl⟩
  obtain ⟨z63, hz63⟩ : ∃ z, z = (z53 || z62) := ⟨_, rfl⟩
  rw [hz53, hz62] at hz63
  rw [← hz63, ← hz53, ← hz62]
  clear hz53 hz62 hz63
  refine wp_region_noPanic ?_
  refine name_ops ?_
  intro O QQ HO HQ
  have FIN : ∀ (u69 u72 u75 u76 u79 u82 : Value) (g : Nat) (W : World), Below ws.heap.size ws W → Hid (OwnG 10 2 W ws.heap.size u75 (([] ++ css1) ++ css2)) → Hid (OwnG 11 3 W ws.heap.size u82 (([] ++ dss1) ++ dss2)) → Hid (BX ws W g) → wpAnyH Tryz.prog .any O QQ (fun w' => Below ws.heap.size ws w') 1 #[true, true, true, true, true, true, true, true, true, true, true, true, true, true, true, true, false] ⟨#[.string s0, .string s1, undef, undef, .bool false, .pointer (some ⟨w1.heap.size, 0, none⟩), .int .i64 (0), .pointer (some ⟨w2.heap.size, 0, none⟩), .int .i64 (0), .pointer (some ⟨w3.heap.size, 0, none⟩), .int .i64 (0), .pointer (some ⟨g, 0, none⟩), .string s0, .int .i64 ((s0.size : Int)), .bool false, .bool false, .string s1, .int .i64 ((s1.size : Int)), .bool false, .bool false, undef, .tuple #[.agg #[.slice a1 n1 c1, .slice b1 m1 d1], .int .i64 0], .string s0, .tuple #[.agg #[.slice a1 n1 c1, .slice b1 m1 d1], .int .i64 0], .agg #[.slice a1 n1 c1, .slice b1 m1 d1], .int .i64 (0), .tuple #[.agg #[.slice a2 n2 c2, .slice b2 m2 d2], .int .i64 0], .string s1, .tuple #[.agg #[.slice a2 n2 c2, .slice b2 m2 d2], .int .i64 0], .agg #[.slice a2 n2 c2, .slice b2 m2 d2], .int .i64 (0), .tuple #[.agg #[.slice a3 n3 c3, .slice b3 m3 d3], .int .i64 0], .string s0, .string (s0 ++ ⟨#[10]⟩), .string s1, .string (s0 ++ ⟨#[10]⟩ ++ s1), .tuple #[.agg #[.slice a3 n3 c3, .slice b3 m3 d3], .int .i64 0], .agg #[.slice a3 n3 c3, .slice b3 m3 d3], .int .i64 (0), .int .i64 (0), .bool false, .bool false, .int .i64 (0), .bool false, .bool false, undef, .pointer (some ⟨w1.heap.size, 0, none⟩), .slice a1 n1 c1, .int .i64 ((n1 : Int)), .pointer (some ⟨w2.heap.size, 0, none⟩), .slice a2 n2 c2, .int .i64 ((n2 : Int)), .int .i64 (((n1 : Int) + (n2 : Int))), .bool (z53), .bool (z53), .pointer (some ⟨w1.heap.size, 1, none⟩), .slice b1 m1 d1, .int .i64 ((m1 : Int)), .pointer (some ⟨w2.heap.size, 1, none⟩), .slice b2 m2 d2, .int .i64 ((m2 : Int)), .int .i64 (((m1 : Int) + (m2 : Int))), .bool (z62), .bool (z63), undef, undef, undef, undef, undef, u69, .pointer (some ⟨w1.heap.size, 0, none⟩), .slice a1 n1 c1, u72, .pointer (some ⟨w2.heap.size, 0, none⟩), .slice a2 n2 c2, u75, u76, .pointer (some ⟨w1.heap.size, 1, none⟩), .slice b1 m1 d1, u79, .pointer (some ⟨w2.heap.size, 1, none⟩), .slice b2 m2 d2, u82, .agg #[u75, u82], undef, undef, undef, undef, undef, undef, undef, undef, undef, undef], []⟩ W := by
    intro u69 u72 u75 u76 u79 u82 g W hS hu75 hu82 hX
    refine wpAnyH_ready (rs := [16]) (by rw [HO.out]; kernel_rfl) (by simp) ?_
    refine AllReadyH.cons (o := _) (by rw [HO.out]; simp only [List.getElem?_toArray, List.getElem?_cons_succ, List.getElem?_cons_zero]; rfl) (fun K hK => ?_) ?_
    · have hc : W.cell? ⟨g, 0, none⟩ = some (.slice none 0 0) ∧ W.cell? ⟨g, 1, none⟩ = some (.slice none 0 0) ∧ W.frozen? ⟨g, 0, none⟩ = false ∧ W.frozen? ⟨g, 1, none⟩ = false := by simp [World.cell?, World.frozen?, hX.out.2]
      obtain ⟨i0, i1, j0, j1⟩ := hc
      obtain ⟨x1, y1, e1⟩ := hu75.out.shape
      obtain ⟨x2, y2, e2⟩ := hu82.out.shape
      simp only [List.nil_append, List.length_append] at e1 e2
      subst e1 e2
      have HS : Hid (Below ws.heap.size ws W) := hS
      have OA := BX.apart (x := (.slice x1 (css1.length + css2.length) y1)) (y := (.slice x2 (dss1.length + dss2.length) y2)) (by decide) hX.out hu75.out
      have OB := BX.apart (x := (.slice x1 (css1.length + css2.length) y1)) (y := (.slice x2 (dss1.length + dss2.length) y2)) (by decide) hX.out hu82.out
      have BW2 := (hS.setCell (p := ⟨g, 0, none⟩) hX.out.1 (.slice x1 (css1.length + css2.length) y1)).setCell (p := ⟨g, 1, none⟩) hX.out.1 (.slice x2 (dss1.length + dss2.length) y2)
      obtain ⟨W2, hW2⟩ : ∃ W2, W2 = (W.setCell ⟨g, 0, none⟩ (.slice x1 (css1.length + css2.length) y1)).setCell ⟨g, 1, none⟩ (.slice x2 (dss1.length + dss2.length) y2) := ⟨_, rfl⟩
      have s0 : W2.cell? ⟨g, 0, none⟩ = some (.slice x1 (css1.length + css2.length) y1) := by rw [hW2]; simp [go_sem, i0, i1, j0, j1]
      have s1 : W2.cell? ⟨g, 1, none⟩ = some (.slice x2 (dss1.length + dss2.length) y2) := by rw [hW2]; simp [go_sem, i0, i1, j0, j1]
      rw [← hW2] at OA OB BW2
      obtain ⟨⟨-, -, -, -⟩, t0, t1, tz⟩ := CEL.out W2 BW2
      have AAW := AA.out W2 BW2
      have RP : Hid (ReP (fun _ _ => True) W2 [(.slice x1 (css1.length + css2.length) y1), (.slice x2 (dss1.length + dss2.length) y2)] ⟨GA.cs ++ GB.cs, GA.rs ++ GB.rs⟩) := ⟨_, _, rfl, ⟨_, OA.sl.mono fun _ _ => trivial, AAW.1⟩, ⟨_, OB.sl.mono fun _ _ => trivial, AAW.2⟩⟩
      have RQ : Hid (ReP (fun _ _ => True) W2 [.slice a3 n3 c3, .slice b3 m3 d3] ⟨GA.cs ++ GB.cs, GA.rs ++ GB.rs⟩) := RR.out W2 BW2
      have CS : Hid (∀ W, Below W2.heap.size W2 W → Calls Tryz.prog 11 #[.agg #[.slice a3 n3 c3, .slice b3 m3 d3], .agg #[(.slice x1 (css1.length + css2.length) y1), (.slice x2 (dss1.length + dss2.length) y2)]] W fun e w' => e = .returned (.bool true) ∧ Below W.heap.size W w') := fun W hW => by
        have := same_any _ _ _ _ W (ReP.keep (Stays.below hW) RQ.out) (ReP.keep (Stays.below hW) RP.out)
        rw [decide_eq_true rfl] at this
        exact this
      have BZ : Hid (Below w.heap.size w W2) := bt BS.out BW2
      go_simp
      try rw [← hW2]
      refine hK.out _ _ BW2 (fun _ => ?_)
      simp only [Act.put, List.setIfInBounds_toArray, List.set_cons_zero, List.set_cons_succ]
      refine wpAnyH_done (by rw [HO.out]; kernel_rfl) ?_ _
      rw [HQ.out]
      refine NoPanic.normal ?_
      clear hK hX hu75 hu82 i0 i1 j0 j1 OA OB AAW RP RQ hW2 hS BW2
      go_wp2_with (first
        | (go_at_call 11; refine (CS.out _ (Below.refl _ _)).mono ?_; rintro e w4 ⟨rfl, hb4⟩; clear CS; have B4 : Hid (Below w.heap.size w w4) := bt BZ.out hb4; clear hb4)
        | (go_at_call 8; refine (HA.out _ B4.out).mono ?_; rintro e wz ⟨rfl, bz⟩; clear HA))
      go_ret
      exact ⟨rfl, bt B4.out bz⟩
    exact AllReadyH.nil
  have k511 : ∀ (u69 u72 u75 u76 u79 u82 : Value) (g : Nat) (W : World), Below ws.heap.size ws W → Hid (OwnG 10 2 W ws.heap.size u75 (([] ++ css1) ++ css2)) → Hid (OwnG 11 3 W ws.heap.size u82 (([] ++ dss1) ++ dss2)) → Hid (BX ws W g) → wpAnyH Tryz.prog .any O QQ (fun w' => Below ws.heap.size ws w') 2 #[true, true, true, true, true, true, true, true, true, true, true, true, true, true, false, true, false] ⟨#[.string s0, .string s1, undef, undef, .bool false, .pointer (some ⟨w1.heap.size, 0, none⟩), .int .i64 (0), .pointer (some ⟨w2.heap.size, 0, none⟩), .int .i64 (0), .pointer (some ⟨w3.heap.size, 0, none⟩), .int .i64 (0), .pointer (some ⟨g, 0, none⟩), .string s0, .int .i64 ((s0.size : Int)), .bool false, .bool false, .string s1, .int .i64 ((s1.size : Int)), .bool false, .bool false, undef, .tuple #[.agg #[.slice a1 n1 c1, .slice b1 m1 d1], .int .i64 0], .string s0, .tuple #[.agg #[.slice a1 n1 c1, .slice b1 m1 d1], .int .i64 0], .agg #[.slice a1 n1 c1, .slice b1 m1 d1], .int .i64 (0), .tuple #[.agg #[.slice a2 n2 c2, .slice b2 m2 d2], .int .i64 0], .string s1, .tuple #[.agg #[.slice a2 n2 c2, .slice b2 m2 d2], .int .i64 0], .agg #[.slice a2 n2 c2, .slice b2 m2 d2], .int .i64 (0), .tuple #[.agg #[.slice a3 n3 c3, .slice b3 m3 d3], .int .i64 0], .string s0, .string (s0 ++ ⟨#[10]⟩), .string s1, .string (s0 ++ ⟨#[10]⟩ ++ s1), .tuple #[.agg #[.slice a3 n3 c3, .slice b3 m3 d3], .int .i64 0], .agg #[.slice a3 n3 c3, .slice b3 m3 d3], .int .i64 (0), .int .i64 (0), .bool false, .bool false, .int .i64 (0), .bool false, .bool false, undef, .pointer (some ⟨w1.heap.size, 0, none⟩), .slice a1 n1 c1, .int .i64 ((n1 : Int)), .pointer (some ⟨w2.heap.size, 0, none⟩), .slice a2 n2 c2, .int .i64 ((n2 : Int)), .int .i64 (((n1 : Int) + (n2 : Int))), .bool (z53), .bool (z53), .pointer (some ⟨w1.heap.size, 1, none⟩), .slice b1 m1 d1, .int .i64 ((m1 : Int)), .pointer (some ⟨w2.heap.size, 1, none⟩), .slice b2 m2 d2, .int .i64 ((m2 : Int)), .int .i64 (((m1 : Int) + (m2 : Int))), .bool (z62), .bool (z63), undef, undef, undef, undef, undef, u69, .pointer (some ⟨w1.heap.size, 0, none⟩), .slice a1 n1 c1, u72, .pointer (some ⟨w2.heap.size, 0, none⟩), .slice a2 n2 c2, u75, u76, .pointer (some ⟨w1.heap.size, 1, none⟩), .slice b1 m1 d1, u79, .pointer (some ⟨w2.heap.size, 1, none⟩), .slice b2 m2 d2, u82, undef, undef, undef, undef, undef, undef, undef, undef, undef, undef, undef], []⟩ W := by
    intro u69 u72 u75 u76 u79 u82 g W hS hu75 hu82 hX
    refine wpAnyH_take (i := 14) (v := .agg #[u75, u82]) (by rw [HO.out]; simp only [List.getElem?_toArray, List.getElem?_cons_succ, List.getElem?_cons_zero]; rfl) (by rw [HO.out]; kernel_rfl) (by rw [HO.out]; kernel_rfl) (by rw [HO.out]; kernel_rfl) (by rw [HQ.out]; exact fun _ _ _ h => h) (Or.inl ⟨by rfl, ?_⟩) (by assumption) ?_
    · intro w hSw
      obtain ⟨x1, y1, e1⟩ := hu75.out.shape
      obtain ⟨x2, y2, e2⟩ := hu82.out.shape
      subst e1 e2
      go_simp
    simp only [Act.put, List.setIfInBounds_toArray, List.set_cons_zero, List.set_cons_succ]
    exact FIN _ _ _ _ _ _ _ _ hS hu75 hu82 hX
  have k411 : ∀ (u69 u72 u75 u76 u79 : Value) (g : Nat) (W : World), Below ws.heap.size ws W → Hid (OwnG 10 2 W ws.heap.size u75 (([] ++ css1) ++ css2)) → Hid (OwnG 11 3 W ws.heap.size u79 ([] ++ dss1)) → Hid (BX ws W g) → wpAnyH Tryz.prog .any O QQ (fun w' => Below ws.heap.size ws w') 3 #[true, true, true, true, true, true, true, true, true, true, true, true, true, false, false, true, false] ⟨#[.string s0, .string s1, undef, undef, .bool false, .pointer (some ⟨w1.heap.size, 0, none⟩), .int .i64 (0), .pointer (some ⟨w2.heap.size, 0, none⟩), .int .i64 (0), .pointer (some ⟨w3.heap.size, 0, none⟩), .int .i64 (0), .pointer (some ⟨g, 0, none⟩), .string s0, .int .i64 ((s0.size : Int)), .bool false, .bool false, .string s1, .int .i64 ((s1.size : Int)), .bool false, .bool false, undef, .tuple #[.agg #[.slice a1 n1 c1, .slice b1 m1 d1], .int .i64 0], .string s0, .tuple #[.agg #[.slice a1 n1 c1, .slice b1 m1 d1], .int .i64 0], .agg #[.slice a1 n1 c1, .slice b1 m1 d1], .int .i64 (0), .tuple #[.agg #[.slice a2 n2 c2, .slice b2 m2 d2], .int .i64 0], .string s1, .tuple #[.agg #[.slice a2 n2 c2, .slice b2 m2 d2], .int .i64 0], .agg #[.slice a2 n2 c2, .slice b2 m2 d2], .int .i64 (0), .tuple #[.agg #[.slice a3 n3 c3, .slice b3 m3 d3], .int .i64 0], .string s0, .string (s0 ++ ⟨#[10]⟩), .string s1, .string (s0 ++ ⟨#[10]⟩ ++ s1), .tuple #[.agg #[.slice a3 n3 c3, .slice b3 m3 d3], .int .i64 0], .agg #[.slice a3 n3 c3, .slice b3 m3 d3], .int .i64 (0), .int .i64 (0), .bool false, .bool false, .int .i64 (0), .bool false, .bool false, undef, .pointer (some ⟨w1.heap.size, 0, none⟩), .slice a1 n1 c1, .int .i64 ((n1 : Int)), .pointer (some ⟨w2.heap.size, 0, none⟩), .slice a2 n2 c2, .int .i64 ((n2 : Int)), .int .i64 (((n1 : Int) + (n2 : Int))), .bool (z53), .bool (z53), .pointer (some ⟨w1.heap.size, 1, none⟩), .slice b1 m1 d1, .int .i64 ((m1 : Int)), .pointer (some ⟨w2.heap.size, 1, none⟩), .slice b2 m2 d2, .int .i64 ((m2 : Int)), .int .i64 (((m1 : Int) + (m2 : Int))), .bool (z62), .bool (z63), undef, undef, undef, undef, undef, u69, .pointer (some ⟨w1.heap.size, 0, none⟩), .slice a1 n1 c1, u72, .pointer (some ⟨w2.heap.size, 0, none⟩), .slice a2 n2 c2, u75, u76, .pointer (some ⟨w1.heap.size, 1, none⟩), .slice b1 m1 d1, u79, .pointer (some ⟨w2.heap.size, 1, none⟩), .slice b2 m2 d2, undef, undef, undef, undef, undef, undef, undef, undef, undef, undef, undef, undef], []⟩ W := by
    intro u69 u72 u75 u76 u79 g W hS hu75 hu79 hX
    refine wpAnyH_ready (rs := [13]) (by rw [HO.out]; kernel_rfl) (by simp) ?_
    refine AllReadyH.cons (o := _) (by rw [HO.out]; simp only [List.getElem?_toArray, List.getElem?_cons_succ, List.getElem?_cons_zero]; rfl) (fun K hK => ?_) ?_
    · refine step_appS (sl := 24) (K := 11) (by kernel_rfl) Z11 rfl (by decide) (by decide) (by rfl) _ _ (by rfl) ws.heap.size u79 ([] ++ dss1) dss2 (by rfl) hu79.out (.slice b2 m2 d2) (by rfl) (SA4.out W hS) L4.out.1 L4.out.2.1 L4.out.2.2 hS.size ?_
      intro v' W' ho hg hb
      refine hK.out _ _ (hS.trans hb) (fun _ => ?_)
      simp only [Act.put, List.setIfInBounds_toArray, List.set_cons_zero, List.set_cons_succ]
      exact k511 _ _ _ _ _ _ _ _ (hS.trans hb) (OwnG.other (K := 11) (J := 10) (by decide) hu79.out hu75.out hg) ho (BX.grown (K := 11) (by decide) hX.out hu79.out hg)
    exact AllReadyH.nil
  have k510 : ∀ (u69 u72 u75 u76 u79 u82 : Value) (W : World), Below ws.heap.size ws W → Hid (OwnG 10 2 W ws.heap.size u75 (([] ++ css1) ++ css2)) → Hid (OwnG 11 3 W ws.heap.size u82 (([] ++ dss1) ++ dss2)) → wpAnyH Tryz.prog .any O QQ (fun w' => Below ws.heap.size ws w') 3 #[true, true, true, true, true, true, true, true, true, true, true, true, true, true, false, false, false] ⟨#[.string s0, .string s1, undef, undef, .bool false, .pointer (some ⟨w1.heap.size, 0, none⟩), .int .i64 (0), .pointer (some ⟨w2.heap.size, 0, none⟩), .int .i64 (0), .pointer (some ⟨w3.heap.size, 0, none⟩), .int .i64 (0), undef, .string s0, .int .i64 ((s0.size : Int)), .bool false, .bool false, .string s1, .int .i64 ((s1.size : Int)), .bool false, .bool false, undef, .tuple #[.agg #[.slice a1 n1 c1, .slice b1 m1 d1], .int .i64 0], .string s0, .tuple #[.agg #[.slice a1 n1 c1, .slice b1 m1 d1], .int .i64 0], .agg #[.slice a1 n1 c1, .slice b1 m1 d1], .int .i64 (0), .tuple #[.agg #[.slice a2 n2 c2, .slice b2 m2 d2], .int .i64 0], .string s1, .tuple #[.agg #[.slice a2 n2 c2, .slice b2 m2 d2], .int .i64 0], .agg #[.slice a2 n2 c2, .slice b2 m2 d2], .int .i64 (0), .tuple #[.agg #[.slice a3 n3 c3, .slice b3 m3 d3], .int .i64 0], .string s0, .string (s0 ++ ⟨#[10]⟩), .string s1, .string (s0 ++ ⟨#[10]⟩ ++ s1), .tuple #[.agg #[.slice a3 n3 c3, .slice b3 m3 d3], .int .i64 0], .agg #[.slice a3 n3 c3, .slice b3 m3 d3], .int .i64 (0), .int .i64 (0), .bool false, .bool false, .int .i64 (0), .bool false, .bool false, undef, .pointer (some ⟨w1.heap.size, 0, none⟩), .slice a1 n1 c1, .int .i64 ((n1 : Int)), .pointer (some ⟨w2.heap.size, 0, none⟩), .slice a2 n2 c2, .int .i64 ((n2 : Int)), .int .i64 (((n1 : Int) + (n2 : Int))), .bool (z53), .bool (z53), .pointer (some ⟨w1.heap.size, 1, none⟩), .slice b1 m1 d1, .int .i64 ((m1 : Int)), .pointer (some ⟨w2.heap.size, 1, none⟩), .slice b2 m2 d2, .int .i64 ((m2 : Int)), .int .i64 (((m1 : Int) + (m2 : Int))), .bool (z62), .bool (z63), undef, undef, undef, undef, undef, u69, .pointer (some ⟨w1.heap.size, 0, none⟩), .slice a1 n1 c1, u72, .pointer (some ⟨w2.heap.size, 0, none⟩), .slice a2 n2 c2, u75, u76, .pointer (some ⟨w1.heap.size, 1, none⟩), .slice b1 m1 d1, u79, .pointer (some ⟨w2.heap.size, 1, none⟩), .slice b2 m2 d2, u82, undef, undef, undef, undef, undef, undef, undef, undef, undef, undef, undef], []⟩ W := by
    intro u69 u72 u75 u76 u79 u82 W hS hu75 hu82
    refine wpAnyH_take (i := 14) (v := .agg #[u75, u82]) (by rw [HO.out]; simp only [List.getElem?_toArray, List.getElem?_cons_succ, List.getElem?_cons_zero]; rfl) (by rw [HO.out]; kernel_rfl) (by rw [HO.out]; kernel_rfl) (by rw [HO.out]; kernel_rfl) (by rw [HQ.out]; exact fun _ _ _ h => h) (Or.inl ⟨by rfl, ?_⟩) (by assumption) ?_
    · intro w hSw
      obtain ⟨x1, y1, e1⟩ := hu75.out.shape
      obtain ⟨x2, y2, e2⟩ := hu82.out.shape
      subst e1 e2
      go_simp
    simp only [Act.put, List.setIfInBounds_toArray, List.set_cons_zero, List.set_cons_succ]
    refine wpAnyH_ready (rs := [15]) (by rw [HO.out]; kernel_rfl) (by simp) ?_
    refine AllReadyH.cons (o := _) (by rw [HO.out]; simp only [List.getElem?_toArray, List.getElem?_cons_succ, List.getElem?_cons_zero]; rfl) (fun K hK => ?_) ?_
    · go_simp
      refine hK.out _ _ (hS.alloc hS.size _) (fun _ => ?_)
      simp only [Act.put, List.setIfInBounds_toArray, List.set_cons_zero, List.set_cons_succ]
      exact FIN _ _ _ _ _ _ _ _ (hS.alloc hS.size _) (hu75.out.below (bxn _ _)) (hu82.out.below (bxn _ _)) ⟨hS.size, heap_alloc_new W _⟩
    exact AllReadyH.nil
  have k311 : ∀ (u69 u72 u75 u76 : Value) (g : Nat) (W : World), Below ws.heap.size ws W → Hid (OwnG 10 2 W ws.heap.size u75 (([] ++ css1) ++ css2)) → Hid (OwnG 11 3 W ws.heap.size u76 []) → Hid (BX ws W g) → wpAnyH Tryz.prog .any O QQ (fun w' => Below ws.heap.size ws w') 4 #[true, true, true, true, true, true, true, true, true, true, false, true, true, false, false, true, false] ⟨#[.string s0, .string s1, undef, undef, .bool false, .pointer (some ⟨w1.heap.size, 0, none⟩), .int .i64 (0), .pointer (some ⟨w2.heap.size, 0, none⟩), .int .i64 (0), .pointer (some ⟨w3.heap.size, 0, none⟩), .int .i64 (0), .pointer (some ⟨g, 0, none⟩), .string s0, .int .i64 ((s0.size : Int)), .bool false, .bool false, .string s1, .int .i64 ((s1.size : Int)), .bool false, .bool false, undef, .tuple #[.agg #[.slice a1 n1 c1, .slice b1 m1 d1], .int .i64 0], .string s0, .tuple #[.agg #[.slice a1 n1 c1, .slice b1 m1 d1], .int .i64 0], .agg #[.slice a1 n1 c1, .slice b1 m1 d1], .int .i64 (0), .tuple #[.agg #[.slice a2 n2 c2, .slice b2 m2 d2], .int .i64 0], .string s1, .tuple #[.agg #[.slice a2 n2 c2, .slice b2 m2 d2], .int .i64 0], .agg #[.slice a2 n2 c2, .slice b2 m2 d2], .int .i64 (0), .tuple #[.agg #[.slice a3 n3 c3, .slice b3 m3 d3], .int .i64 0], .string s0, .string (s0 ++ ⟨#[10]⟩), .string s1, .string (s0 ++ ⟨#[10]⟩ ++ s1), .tuple #[.agg #[.slice a3 n3 c3, .slice b3 m3 d3], .int .i64 0], .agg #[.slice a3 n3 c3, .slice b3 m3 d3], .int .i64 (0), .int .i64 (0), .bool false, .bool false, .int .i64 (0), .bool false, .bool false, undef, .pointer (some ⟨w1.heap.size, 0, none⟩), .slice a1 n1 c1, .int .i64 ((n1 : Int)), .pointer (some ⟨w2.heap.size, 0, none⟩), .slice a2 n2 c2, .int .i64 ((n2 : Int)), .int .i64 (((n1 : Int) + (n2 : Int))), .bool (z53), .bool (z53), .pointer (some ⟨w1.heap.size, 1, none⟩), .slice b1 m1 d1, .int .i64 ((m1 : Int)), .pointer (some ⟨w2.heap.size, 1, none⟩), .slice b2 m2 d2, .int .i64 ((m2 : Int)), .int .i64 (((m1 : Int) + (m2 : Int))), .bool (z62), .bool (z63), undef, undef, undef, undef, undef, u69, .pointer (some ⟨w1.heap.size, 0, none⟩), .slice a1 n1 c1, u72, .pointer (some ⟨w2.heap.size, 0, none⟩), .slice a2 n2 c2, u75, u76, .pointer (some ⟨w1.heap.size, 1, none⟩), .slice b1 m1 d1, undef, .pointer (some ⟨w2.heap.size, 1, none⟩), .slice b2 m2 d2, undef, undef, undef, undef, undef, undef, undef, undef, undef, undef, undef, undef], []⟩ W := by
    intro u69 u72 u75 u76 g W hS hu75 hu76 hX
    refine wpAnyH_ready (rs := [10]) (by rw [HO.out]; kernel_rfl) (by simp) ?_
    refine AllReadyH.cons (o := _) (by rw [HO.out]; simp only [List.getElem?_toArray, List.getElem?_cons_succ, List.getElem?_cons_zero]; rfl) (fun K hK => ?_) ?_
    · refine step_appS (sl := 24) (K := 11) (by kernel_rfl) Z11 rfl (by decide) (by decide) (by rfl) _ _ (by rfl) ws.heap.size u76 [] dss1 (by rfl) hu76.out (.slice b1 m1 d1) (by rfl) (SA3.out W hS) L3.out.1 L3.out.2.1 L3.out.2.2 hS.size ?_
      intro v' W' ho hg hb
      refine hK.out _ _ (hS.trans hb) (fun _ => ?_)
      simp only [Act.put, List.setIfInBounds_toArray, List.set_cons_zero, List.set_cons_succ]
      exact k411 _ _ _ _ _ _ _ (hS.trans hb) (OwnG.other (K := 11) (J := 10) (by decide) hu76.out hu75.out hg) ho (BX.grown (K := 11) (by decide) hX.out hu76.out hg)
    exact AllReadyH.nil
  have k410 : ∀ (u69 u72 u75 u76 u79 : Value) (W : World), Below ws.heap.size ws W → Hid (OwnG 10 2 W ws.heap.size u75 (([] ++ css1) ++ css2)) → Hid (OwnG 11 3 W ws.heap.size u79 ([] ++ dss1)) → wpAnyH Tryz.prog .any O QQ (fun w' => Below ws.heap.size ws w') 4 #[true, true, true, true, true, true, true, true, true, true, true, true, true, false, false, false, false] ⟨#[.string s0, .string s1, undef, undef, .bool false, .pointer (some ⟨w1.heap.size, 0, none⟩), .int .i64 (0), .pointer (some ⟨w2.heap.size, 0, none⟩), .int .i64 (0), .pointer (some ⟨w3.heap.size, 0, none⟩), .int .i64 (0), undef, .string s0, .int .i64 ((s0.size : Int)), .bool false, .bool false, .string s1, .int .i64 ((s1.size : Int)), .bool false, .bool false, undef, .tuple #[.agg #[.slice a1 n1 c1, .slice b1 m1 d1], .int .i64 0], .string s0, .tuple #[.agg #[.slice a1 n1 c1, .slice b1 m1 d1], .int .i64 0], .agg #[.slice a1 n1 c1, .slice b1 m1 d1], .int .i64 (0), .tuple #[.agg #[.slice a2 n2 c2, .slice b2 m2 d2], .int .i64 0], .string s1, .tuple #[.agg #[.slice a2 n2 c2, .slice b2 m2 d2], .int .i64 0], .agg #[.slice a2 n2 c2, .slice b2 m2 d2], .int .i64 (0), .tuple #[.agg #[.slice a3 n3 c3, .slice b3 m3 d3], .int .i64 0], .string s0, .string (s0 ++ ⟨#[10]⟩), .string s1, .string (s0 ++ ⟨#[10]⟩ ++ s1), .tuple #[.agg #[.slice a3 n3 c3, .slice b3 m3 d3], .int .i64 0], .agg #[.slice a3 n3 c3, .slice b3 m3 d3], .int .i64 (0), .int .i64 (0), .bool false, .bool false, .int .i64 (0), .bool false, .bool false, undef, .pointer (some ⟨w1.heap.size, 0, none⟩), .slice a1 n1 c1, .int .i64 ((n1 : Int)), .pointer (some ⟨w2.heap.size, 0, none⟩), .slice a2 n2 c2, .int .i64 ((n2 : Int)), .int .i64 (((n1 : Int) + (n2 : Int))), .bool (z53), .bool (z53), .pointer (some ⟨w1.heap.size, 1, none⟩), .slice b1 m1 d1, .int .i64 ((m1 : Int)), .pointer (some ⟨w2.heap.size, 1, none⟩), .slice b2 m2 d2, .int .i64 ((m2 : Int)), .int .i64 (((m1 : Int) + (m2 : Int))), .bool (z62), .bool (z63), undef, undef, undef, undef, undef, u69, .pointer (some ⟨w1.heap.size, 0, none⟩), .slice a1 n1 c1, u72, .pointer (some ⟨w2.heap.size, 0, none⟩), .slice a2 n2 c2, u75, u76, .pointer (some ⟨w1.heap.size, 1, none⟩), .slice b1 m1 d1, u79, .pointer (some ⟨w2.heap.size, 1, none⟩), .slice b2 m2 d2, undef, undef, undef, undef, undef, undef, undef, undef, undef, undef, undef, undef], []⟩ W := by
    intro u69 u72 u75 u76 u79 W hS hu75 hu79
    refine wpAnyH_ready (rs := [13, 15]) (by rw [HO.out]; kernel_rfl) (by simp) ?_
    refine AllReadyH.cons (o := _) (by rw [HO.out]; simp only [List.getElem?_toArray, List.getElem?_cons_succ, List.getElem?_cons_zero]; rfl) (fun K hK => ?_) ?_
    · refine step_appS (sl := 24) (K := 11) (by kernel_rfl) Z11 rfl (by decide) (by decide) (by rfl) _ _ (by rfl) ws.heap.size u79 ([] ++ dss1) dss2 (by rfl) hu79.out (.slice b2 m2 d2) (by rfl) (SA4.out W hS) L4.out.1 L4.out.2.1 L4.out.2.2 hS.size ?_
      intro v' W' ho hg hb
      refine hK.out _ _ (hS.trans hb) (fun _ => ?_)
      simp only [Act.put, List.setIfInBounds_toArray, List.set_cons_zero, List.set_cons_succ]
      exact k510 _ _ _ _ _ _ _ (hS.trans hb) (OwnG.other (K := 11) (J := 10) (by decide) hu79.out hu75.out hg) ho
    refine AllReadyH.cons (o := _) (by rw [HO.out]; simp only [List.getElem?_toArray, List.getElem?_cons_succ, List.getElem?_cons_zero]; rfl) (fun K hK => ?_) ?_
    · go_simp
      refine hK.out _ _ (hS.alloc hS.size _) (fun _ => ?_)
      simp only [Act.put, List.setIfInBounds_toArray, List.set_cons_zero, List.set_cons_succ]
      exact k411 _ _ _ _ _ _ _ (hS.alloc hS.size _) (hu75.out.below (bxn _ _)) (hu79.out.below (bxn _ _)) ⟨hS.size, heap_alloc_new W _⟩
    exact AllReadyH.nil
  have k211 : ∀ (u69 u72 u76 : Value) (g : Nat) (W : World), Below ws.heap.size ws W → Hid (OwnG 10 2 W ws.heap.size u72 ([] ++ css1)) → Hid (OwnG 11 3 W ws.heap.size u76 []) → Hid (BX ws W g) → wpAnyH Tryz.prog .any O QQ (fun w' => Below ws.heap.size ws w') 5 #[true, true, true, true, true, true, false, true, true, true, false, true, true, false, false, true, false] ⟨#[.string s0, .string s1, undef, undef, .bool false, .pointer (some ⟨w1.heap.size, 0, none⟩), .int .i64 (0), .pointer (some ⟨w2.heap.size, 0, none⟩), .int .i64 (0), .pointer (some ⟨w3.heap.size, 0, none⟩), .int .i64 (0), .pointer (some ⟨g, 0, none⟩), .string s0, .int .i64 ((s0.size : Int)), .bool false, .bool false, .string s1, .int .i64 ((s1.size : Int)), .bool false, .bool false, undef, .tuple #[.agg #[.slice a1 n1 c1, .slice b1 m1 d1], .int .i64 0], .string s0, .tuple #[.agg #[.slice a1 n1 c1, .slice b1 m1 d1], .int .i64 0], .agg #[.slice a1 n1 c1, .slice b1 m1 d1], .int .i64 (0), .tuple #[.agg #[.slice a2 n2 c2, .slice b2 m2 d2], .int .i64 0], .string s1, .tuple #[.agg #[.slice a2 n2 c2, .slice b2 m2 d2], .int .i64 0], .agg #[.slice a2 n2 c2, .slice b2 m2 d2], .int .i64 (0), .tuple #[.agg #[.slice a3 n3 c3, .slice b3 m3 d3], .int .i64 0], .string s0, .string (s0 ++ ⟨#[10]⟩), .string s1, .string (s0 ++ ⟨#[10]⟩ ++ s1), .tuple #[.agg #[.slice a3 n3 c3, .slice b3 m3 d3], .int .i64 0], .agg #[.slice a3 n3 c3, .slice b3 m3 d3], .int .i64 (0), .int .i64 (0), .bool false, .bool false, .int .i64 (0), .bool false, .bool false, undef, .pointer (some ⟨w1.heap.size, 0, none⟩), .slice a1 n1 c1, .int .i64 ((n1 : Int)), .pointer (some ⟨w2.heap.size, 0, none⟩), .slice a2 n2 c2, .int .i64 ((n2 : Int)), .int .i64 (((n1 : Int) + (n2 : Int))), .bool (z53), .bool (z53), .pointer (some ⟨w1.heap.size, 1, none⟩), .slice b1 m1 d1, .int .i64 ((m1 : Int)), .pointer (some ⟨w2.heap.size, 1, none⟩), .slice b2 m2 d2, .int .i64 ((m2 : Int)), .int .i64 (((m1 : Int) + (m2 : Int))), .bool (z62), .bool (z63), undef, undef, undef, undef, undef, u69, .pointer (some ⟨w1.heap.size, 0, none⟩), .slice a1 n1 c1, u72, .pointer (some ⟨w2.heap.size, 0, none⟩), .slice a2 n2 c2, undef, u76, .pointer (some ⟨w1.heap.size, 1, none⟩), .slice b1 m1 d1, undef, .pointer (some ⟨w2.heap.size, 1, none⟩), .slice b2 m2 d2, undef, undef, undef, undef, undef, undef, undef, undef, undef, undef, undef, undef], []⟩ W := by
    intro u69 u72 u76 g W hS hu72 hu76 hX
    refine wpAnyH_ready (rs := [6]) (by rw [HO.out]; kernel_rfl) (by simp) ?_
    refine AllReadyH.cons (o := _) (by rw [HO.out]; simp only [List.getElem?_toArray, List.getElem?_cons_succ, List.getElem?_cons_zero]; rfl) (fun K hK => ?_) ?_
    · refine step_appS (sl := 23) (K := 10) (by kernel_rfl) Z10 rfl (by decide) (by decide) (by rfl) _ _ (by rfl) ws.heap.size u72 ([] ++ css1) css2 (by rfl) hu72.out (.slice a2 n2 c2) (by rfl) (SA2.out W hS) L2.out.1 L2.out.2.1 L2.out.2.2 hS.size ?_
      intro v' W' ho hg hb
      refine hK.out _ _ (hS.trans hb) (fun _ => ?_)
      simp only [Act.put, List.setIfInBounds_toArray, List.set_cons_zero, List.set_cons_succ]
      exact k311 _ _ _ _ _ _ (hS.trans hb) ho (OwnG.other (K := 10) (J := 11) (by decide) hu72.out hu76.out hg) (BX.grown (K := 10) (by decide) hX.out hu72.out hg)
    exact AllReadyH.nil
  have k301 : ∀ (u69 u72 u75 : Value) (g : Nat) (W : World), Below ws.heap.size ws W → Hid (OwnG 10 2 W ws.heap.size u75 (([] ++ css1) ++ css2)) → Hid (BX ws W g) → wpAnyH Tryz.prog .any O QQ (fun w' => Below ws.heap.size ws w') 5 #[true, true, true, true, true, true, true, false, true, true, false, true, true, false, false, true, false] ⟨#[.string s0, .string s1, undef, undef, .bool false, .pointer (some ⟨w1.heap.size, 0, none⟩), .int .i64 (0), .pointer (some ⟨w2.heap.size, 0, none⟩), .int .i64 (0), .pointer (some ⟨w3.heap.size, 0, none⟩), .int .i64 (0), .pointer (some ⟨g, 0, none⟩), .string s0, .int .i64 ((s0.size : Int)), .bool false, .bool false, .string s1, .int .i64 ((s1.size : Int)), .bool false, .bool false, undef, .tuple #[.agg #[.slice a1 n1 c1, .slice b1 m1 d1], .int .i64 0], .string s0, .tuple #[.agg #[.slice a1 n1 c1, .slice b1 m1 d1], .int .i64 0], .agg #[.slice a1 n1 c1, .slice b1 m1 d1], .int .i64 (0), .tuple #[.agg #[.slice a2 n2 c2, .slice b2 m2 d2], .int .i64 0], .string s1, .tuple #[.agg #[.slice a2 n2 c2, .slice b2 m2 d2], .int .i64 0], .agg #[.slice a2 n2 c2, .slice b2 m2 d2], .int .i64 (0), .tuple #[.agg #[.slice a3 n3 c3, .slice b3 m3 d3], .int .i64 0], .string s0, .string (s0 ++ ⟨#[10]⟩), .string s1, .string (s0 ++ ⟨#[10]⟩ ++ s1), .tuple #[.agg #[.slice a3 n3 c3, .slice b3 m3 d3], .int .i64 0], .agg #[.slice a3 n3 c3, .slice b3 m3 d3], .int .i64 (0), .int .i64 (0), .bool false, .bool false, .int .i64 (0), .bool false, .bool false, undef, .pointer (some ⟨w1.heap.size, 0, none⟩), .slice a1 n1 c1, .int .i64 ((n1 : Int)), .pointer (some ⟨w2.heap.size, 0, none⟩), .slice a2 n2 c2, .int .i64 ((n2 : Int)), .int .i64 (((n1 : Int) + (n2 : Int))), .bool (z53), .bool (z53), .pointer (some ⟨w1.heap.size, 1, none⟩), .slice b1 m1 d1, .int .i64 ((m1 : Int)), .pointer (some ⟨w2.heap.size, 1, none⟩), .slice b2 m2 d2, .int .i64 ((m2 : Int)), .int .i64 (((m1 : Int) + (m2 : Int))), .bool (z62), .bool (z63), undef, undef, undef, undef, undef, u69, .pointer (some ⟨w1.heap.size, 0, none⟩), .slice a1 n1 c1, u72, .pointer (some ⟨w2.heap.size, 0, none⟩), .slice a2 n2 c2, u75, undef, .pointer (some ⟨w1.heap.size, 1, none⟩), .slice b1 m1 d1, undef, .pointer (some ⟨w2.heap.size, 1, none⟩), .slice b2 m2 d2, undef, undef, undef, undef, undef, undef, undef, undef, undef, undef, undef, undef], []⟩ W := by
    intro u69 u72 u75 g W hS hu75 hX
    refine wpAnyH_ready (rs := [7]) (by rw [HO.out]; kernel_rfl) (by simp) ?_
    refine AllReadyH.cons (o := _) (by rw [HO.out]; simp only [List.getElem?_toArray, List.getElem?_cons_succ, List.getElem?_cons_zero]; rfl) (fun K hK => ?_) ?_
    · go_simp
      refine hK.out _ _ (hS.alloc hS.size _) (fun _ => ?_)
      simp only [Act.put, List.setIfInBounds_toArray, List.set_cons_zero, List.set_cons_succ]
      exact k311 _ _ _ _ _ _ (hS.alloc hS.size _) (hu75.out.below (bxn _ _)) (OwnG.fresh 11 3 hS.size) (hX.out.below (bxn _ _))
    exact AllReadyH.nil
  have k310 : ∀ (u69 u72 u75 u76 : Value) (W : World), Below ws.heap.size ws W → Hid (OwnG 10 2 W ws.heap.size u75 (([] ++ css1) ++ css2)) → Hid (OwnG 11 3 W ws.heap.size u76 []) → wpAnyH Tryz.prog .any O QQ (fun w' => Below ws.heap.size ws w') 5 #[true, true, true, true, true, true, true, true, true, true, false, true, true, false, false, false, false] ⟨#[.string s0, .string s1, undef, undef, .bool false, .pointer (some ⟨w1.heap.size, 0, none⟩), .int .i64 (0), .pointer (some ⟨w2.heap.size, 0, none⟩), .int .i64 (0), .pointer (some ⟨w3.heap.size, 0, none⟩), .int .i64 (0), undef, .string s0, .int .i64 ((s0.size : Int)), .bool false, .bool false, .string s1, .int .i64 ((s1.size : Int)), .bool false, .bool false, undef, .tuple #[.agg #[.slice a1 n1 c1, .slice b1 m1 d1], .int .i64 0], .string s0, .tuple #[.agg #[.slice a1 n1 c1, .slice b1 m1 d1], .int .i64 0], .agg #[.slice a1 n1 c1, .slice b1 m1 d1], .int .i64 (0), .tuple #[.agg #[.slice a2 n2 c2, .slice b2 m2 d2], .int .i64 0], .string s1, .tuple #[.agg #[.slice a2 n2 c2, .slice b2 m2 d2], .int .i64 0], .agg #[.slice a2 n2 c2, .slice b2 m2 d2], .int .i64 (0), .tuple #[.agg #[.slice a3 n3 c3, .slice b3 m3 d3], .int .i64 0], .string s0, .string (s0 ++ ⟨#[10]⟩), .string s1, .string (s0 ++ ⟨#[10]⟩ ++ s1), .tuple #[.agg #[.slice a3 n3 c3, .slice b3 m3 d3], .int .i64 0], .agg #[.slice a3 n3 c3, .slice b3 m3 d3], .int .i64 (0), .int .i64 (0), .bool false, .bool false, .int .i64 (0), .bool false, .bool false, undef, .pointer (some ⟨w1.heap.size, 0, none⟩), .slice a1 n1 c1, .int .i64 ((n1 : Int)), .pointer (some ⟨w2.heap.size, 0, none⟩), .slice a2 n2 c2, .int .i64 ((n2 : Int)), .int .i64 (((n1 : Int) + (n2 : Int))), .bool (z53), .bool (z53), .pointer (some ⟨w1.heap.size, 1, none⟩), .slice b1 m1 d1, .int .i64 ((m1 : Int)), .pointer (some ⟨w2.heap.size, 1, none⟩), .slice b2 m2 d2, .int .i64 ((m2 : Int)), .int .i64 (((m1 : Int) + (m2 : Int))), .bool (z62), .bool (z63), undef, undef, undef, undef, undef, u69, .pointer (some ⟨w1.heap.size, 0, none⟩), .slice a1 n1 c1, u72, .pointer (some ⟨w2.heap.size, 0, none⟩), .slice a2 n2 c2, u75, u76, .pointer (some ⟨w1.heap.size, 1, none⟩), .slice b1 m1 d1, undef, .pointer (some ⟨w2.heap.size, 1, none⟩), .slice b2 m2 d2, undef, undef, undef, undef, undef, undef, undef, undef, undef, undef, undef, undef], []⟩ W := by
    intro u69 u72 u75 u76 W hS hu75 hu76
    refine wpAnyH_ready (rs := [10, 15]) (by rw [HO.out]; kernel_rfl) (by simp) ?_
    refine AllReadyH.cons (o := _) (by rw [HO.out]; simp only [List.getElem?_toArray, List.getElem?_cons_succ, List.getElem?_cons_zero]; rfl) (fun K hK => ?_) ?_
    · refine step_appS (sl := 24) (K := 11) (by kernel_rfl) Z11 rfl (by decide) (by decide) (by rfl) _ _ (by rfl) ws.heap.size u76 [] dss1 (by rfl) hu76.out (.slice b1 m1 d1) (by rfl) (SA3.out W hS) L3.out.1 L3.out.2.1 L3.out.2.2 hS.size ?_
      intro v' W' ho hg hb
      refine hK.out _ _ (hS.trans hb) (fun _ => ?_)
      simp only [Act.put, List.setIfInBounds_toArray, List.set_cons_zero, List.set_cons_succ]
      exact k410 _ _ _ _ _ _ (hS.trans hb) (OwnG.other (K := 11) (J := 10) (by decide) hu76.out hu75.out hg) ho
    refine AllReadyH.cons (o := _) (by rw [HO.out]; simp only [List.getElem?_toArray, List.getElem?_cons_succ, List.getElem?_cons_zero]; rfl) (fun K hK => ?_) ?_
    · go_simp
      refine hK.out _ _ (hS.alloc hS.size _) (fun _ => ?_)
      simp only [Act.put, List.setIfInBounds_toArray, List.set_cons_zero, List.set_cons_succ]
      exact k311 _ _ _ _ _ _ (hS.alloc hS.size _) (hu75.out.below (bxn _ _)) (hu76.out.below (bxn _ _)) ⟨hS.size, heap_alloc_new W _⟩
    exact AllReadyH.nil
  have k111 : ∀ (u69 u76 : Value) (g : Nat) (W : World), Below ws.heap.size ws W → Hid (OwnG 10 2 W ws.heap.size u69 []) → Hid (OwnG 11 3 W ws.heap.size u76 []) → Hid (BX ws W g) → wpAnyH Tryz.prog .any O QQ (fun w' => Below ws.heap.size ws w') 6 #[true, true, true, false, true, true, false, true, true, true, false, true, true, false, false, true, false] ⟨#[.string s0, .string s1, undef, undef, .bool false, .pointer (some ⟨w1.heap.size, 0, none⟩), .int .i64 (0), .pointer (some ⟨w2.heap.size, 0, none⟩), .int .i64 (0), .pointer (some ⟨w3.heap.size, 0, none⟩), .int .i64 (0), .pointer (some ⟨g, 0, none⟩), .string s0, .int .i64 ((s0.size : Int)), .bool false, .bool false, .string s1, .int .i64 ((s1.size : Int)), .bool false, .bool false, undef, .tuple #[.agg #[.slice a1 n1 c1, .slice b1 m1 d1], .int .i64 0], .string s0, .tuple #[.agg #[.slice a1 n1 c1, .slice b1 m1 d1], .int .i64 0], .agg #[.slice a1 n1 c1, .slice b1 m1 d1], .int .i64 (0), .tuple #[.agg #[.slice a2 n2 c2, .slice b2 m2 d2], .int .i64 0], .string s1, .tuple #[.agg #[.slice a2 n2 c2, .slice b2 m2 d2], .int .i64 0], .agg #[.slice a2 n2 c2, .slice b2 m2 d2], .int .i64 (0), .tuple #[.agg #[.slice a3 n3 c3, .slice b3 m3 d3], .int .i64 0], .string s0, .string (s0 ++ ⟨#[10]⟩), .string s1, .string (s0 ++ ⟨#[10]⟩ ++ s1), .tuple #[.agg #[.slice a3 n3 c3, .slice b3 m3 d3], .int .i64 0], .agg #[.slice a3 n3 c3, .slice b3 m3 d3], .int .i64 (0), .int .i64 (0), .bool false, .bool false, .int .i64 (0), .bool false, .bool false, undef, .pointer (some ⟨w1.heap.size, 0, none⟩), .slice a1 n1 c1, .int .i64 ((n1 : Int)), .pointer (some ⟨w2.heap.size, 0, none⟩), .slice a2 n2 c2, .int .i64 ((n2 : Int)), .int .i64 (((n1 : Int) + (n2 : Int))), .bool (z53), .bool (z53), .pointer (some ⟨w1.heap.size, 1, none⟩), .slice b1 m1 d1, .int .i64 ((m1 : Int)), .pointer (some ⟨w2.heap.size, 1, none⟩), .slice b2 m2 d2, .int .i64 ((m2 : Int)), .int .i64 (((m1 : Int) + (m2 : Int))), .bool (z62), .bool (z63), undef, undef, undef, undef, undef, u69, .pointer (some ⟨w1.heap.size, 0, none⟩), .slice a1 n1 c1, undef, .pointer (some ⟨w2.heap.size, 0, none⟩), .slice a2 n2 c2, undef, u76, .pointer (some ⟨w1.heap.size, 1, none⟩), .slice b1 m1 d1, undef, .pointer (some ⟨w2.heap.size, 1, none⟩), .slice b2 m2 d2, undef, undef, undef, undef, undef, undef, undef, undef, undef, undef, undef, undef], []⟩ W := by
    intro u69 u76 g W hS hu69 hu76 hX
    refine wpAnyH_ready (rs := [3]) (by rw [HO.out]; kernel_rfl) (by simp) ?_
    refine AllReadyH.cons (o := _) (by rw [HO.out]; simp only [List.getElem?_toArray, List.getElem?_cons_succ, List.getElem?_cons_zero]; rfl) (fun K hK => ?_) ?_
    · refine step_appS (sl := 23) (K := 10) (by kernel_rfl) Z10 rfl (by decide) (by decide) (by rfl) _ _ (by rfl) ws.heap.size u69 [] css1 (by rfl) hu69.out (.slice a1 n1 c1) (by rfl) (SA1.out W hS) L1.out.1 L1.out.2.1 L1.out.2.2 hS.size ?_
      intro v' W' ho hg hb
      refine hK.out _ _ (hS.trans hb) (fun _ => ?_)
      simp only [Act.put, List.setIfInBounds_toArray, List.set_cons_zero, List.set_cons_succ]
      exact k211 _ _ _ _ _ (hS.trans hb) ho (OwnG.other (K := 10) (J := 11) (by decide) hu69.out hu76.out hg) (BX.grown (K := 10) (by decide) hX.out hu69.out hg)
    exact AllReadyH.nil
  have k201 : ∀ (u69 u72 : Value) (g : Nat) (W : World), Below ws.heap.size ws W → Hid (OwnG 10 2 W ws.heap.size u72 ([] ++ css1)) → Hid (BX ws W g) → wpAnyH Tryz.prog .any O QQ (fun w' => Below ws.heap.size ws w') 6 #[true, true, true, true, true, true, false, false, true, true, false, true, true, false, false, true, false] ⟨#[.string s0, .string s1, undef, undef, .bool false, .pointer (some ⟨w1.heap.size, 0, none⟩), .int .i64 (0), .pointer (some ⟨w2.heap.size, 0, none⟩), .int .i64 (0), .pointer (some ⟨w3.heap.size, 0, none⟩), .int .i64 (0), .pointer (some ⟨g, 0, none⟩), .string s0, .int .i64 ((s0.size : Int)), .bool false, .bool false, .string s1, .int .i64 ((s1.size : Int)), .bool false, .bool false, undef, .tuple #[.agg #[.slice a1 n1 c1, .slice b1 m1 d1], .int .i64 0], .string s0, .tuple #[.agg #[.slice a1 n1 c1, .slice b1 m1 d1], .int .i64 0], .agg #[.slice a1 n1 c1, .slice b1 m1 d1], .int .i64 (0), .tuple #[.agg #[.slice a2 n2 c2, .slice b2 m2 d2], .int .i64 0], .string s1, .tuple #[.agg #[.slice a2 n2 c2, .slice b2 m2 d2], .int .i64 0], .agg #[.slice a2 n2 c2, .slice b2 m2 d2], .int .i64 (0), .tuple #[.agg #[.slice a3 n3 c3, .slice b3 m3 d3], .int .i64 0], .string s0, .string (s0 ++ ⟨#[10]⟩), .string s1, .string (s0 ++ ⟨#[10]⟩ ++ s1), .tuple #[.agg #[.slice a3 n3 c3, .slice b3 m3 d3], .int .i64 0], .agg #[.slice a3 n3 c3, .slice b3 m3 d3], .int .i64 (0), .int .i64 (0), .bool false, .bool false, .int .i64 (0), .bool false, .bool false, undef, .pointer (some ⟨w1.heap.size, 0, none⟩), .slice a1 n1 c1, .int .i64 ((n1 : Int)), .pointer (some ⟨w2.heap.size, 0, none⟩), .slice a2 n2 c2, .int .i64 ((n2 : Int)), .int .i64 (((n1 : Int) + (n2 : Int))), .bool (z53), .bool (z53), .pointer (some ⟨w1.heap.size, 1, none⟩), .slice b1 m1 d1, .int .i64 ((m1 : Int)), .pointer (some ⟨w2.heap.size, 1, none⟩), .slice b2 m2 d2, .int .i64 ((m2 : Int)), .int .i64 (((m1 : Int) + (m2 : Int))), .bool (z62), .bool (z63), undef, undef, undef, undef, undef, u69, .pointer (some ⟨w1.heap.size, 0, none⟩), .slice a1 n1 c1, u72, .pointer (some ⟨w2.heap.size, 0, none⟩), .slice a2 n2 c2, undef, undef, .pointer (some ⟨w1.heap.size, 1, none⟩), .slice b1 m1 d1, undef, .pointer (some ⟨w2.heap.size, 1, none⟩), .slice b2 m2 d2, undef, undef, undef, undef, undef, undef, undef, undef, undef, undef, undef, undef], []⟩ W := by
    intro u69 u72 g W hS hu72 hX
    refine wpAnyH_ready (rs := [6, 7]) (by rw [HO.out]; kernel_rfl) (by simp) ?_
    refine AllReadyH.cons (o := _) (by rw [HO.out]; simp only [List.getElem?_toArray, List.getElem?_cons_succ, List.getElem?_cons_zero]; rfl) (fun K hK => ?_) ?_
    · refine step_appS (sl := 23) (K := 10) (by kernel_rfl) Z10 rfl (by decide) (by decide) (by rfl) _ _ (by rfl) ws.heap.size u72 ([] ++ css1) css2 (by rfl) hu72.out (.slice a2 n2 c2) (by rfl) (SA2.out W hS) L2.out.1 L2.out.2.1 L2.out.2.2 hS.size ?_
      intro v' W' ho hg hb
      refine hK.out _ _ (hS.trans hb) (fun _ => ?_)
      simp only [Act.put, List.setIfInBounds_toArray, List.set_cons_zero, List.set_cons_succ]
      exact k301 _ _ _ _ _ (hS.trans hb) ho (BX.grown (K := 10) (by decide) hX.out hu72.out hg)
    refine AllReadyH.cons (o := _) (by rw [HO.out]; simp only [List.getElem?_toArray, List.getElem?_cons_succ, List.getElem?_cons_zero]; rfl) (fun K hK => ?_) ?_
    · go_simp
      refine hK.out _ _ (hS.alloc hS.size _) (fun _ => ?_)
      simp only [Act.put, List.setIfInBounds_toArray, List.set_cons_zero, List.set_cons_succ]
      exact k211 _ _ _ _ _ (hS.alloc hS.size _) (hu72.out.below (bxn _ _)) (OwnG.fresh 11 3 hS.size) (hX.out.below (bxn _ _))
    exact AllReadyH.nil
  have k210 : ∀ (u69 u72 u76 : Value) (W : World), Below ws.heap.size ws W → Hid (OwnG 10 2 W ws.heap.size u72 ([] ++ css1)) → Hid (OwnG 11 3 W ws.heap.size u76 []) → wpAnyH Tryz.prog .any O QQ (fun w' => Below ws.heap.size ws w') 6 #[true, true, true, true, true, true, false, true, true, true, false, true, true, false, false, false, false] ⟨#[.string s0, .string s1, undef, undef, .bool false, .pointer (some ⟨w1.heap.size, 0, none⟩), .int .i64 (0), .pointer (some ⟨w2.heap.size, 0, none⟩), .int .i64 (0), .pointer (some ⟨w3.heap.size, 0, none⟩), .int .i64 (0), undef, .string s0, .int .i64 ((s0.size : Int)), .bool false, .bool false, .string s1, .int .i64 ((s1.size : Int)), .bool false, .bool false, undef, .tuple #[.agg #[.slice a1 n1 c1, .slice b1 m1 d1], .int .i64 0], .string s0, .tuple #[.agg #[.slice a1 n1 c1, .slice b1 m1 d1], .int .i64 0], .agg #[.slice a1 n1 c1, .slice b1 m1 d1], .int .i64 (0), .tuple #[.agg #[.slice a2 n2 c2, .slice b2 m2 d2], .int .i64 0], .string s1, .tuple #[.agg #[.slice a2 n2 c2, .slice b2 m2 d2], .int .i64 0], .agg #[.slice a2 n2 c2, .slice b2 m2 d2], .int .i64 (0), .tuple #[.agg #[.slice a3 n3 c3, .slice b3 m3 d3], .int .i64 0], .string s0, .string (s0 ++ ⟨#[10]⟩), .string s1, .string (s0 ++ ⟨#[10]⟩ ++ s1), .tuple #[.agg #[.slice a3 n3 c3, .slice b3 m3 d3], .int .i64 0], .agg #[.slice a3 n3 c3, .slice b3 m3 d3], .int .i64 (0), .int .i64 (0), .bool false, .bool false, .int .i64 (0), .bool false, .bool false, undef, .pointer (some ⟨w1.heap.size, 0, none⟩), .slice a1 n1 c1, .int .i64 ((n1 : Int)), .pointer (some ⟨w2.heap.size, 0, none⟩), .slice a2 n2 c2, .int .i64 ((n2 : Int)), .int .i64 (((n1 : Int) + (n2 : Int))), .bool (z53), .bool (z53), .pointer (some ⟨w1.heap.size, 1, none⟩), .slice b1 m1 d1, .int .i64 ((m1 : Int)), .pointer (some ⟨w2.heap.size, 1, none⟩), .slice b2 m2 d2, .int .i64 ((m2 : Int)), .int .i64 (((m1 : Int) + (m2 : Int))), .bool (z62), .bool (z63), undef, undef, undef, undef, undef, u69, .pointer (some ⟨w1.heap.size, 0, none⟩), .slice a1 n1 c1, u72, .pointer (some ⟨w2.heap.size, 0, none⟩), .slice a2 n2 c2, undef, u76, .pointer (some ⟨w1.heap.size, 1, none⟩), .slice b1 m1 d1, undef, .pointer (some ⟨w2.heap.size, 1, none⟩), .slice b2 m2 d2, undef, undef, undef, undef, undef, undef, undef, undef, undef, undef, undef, undef], []⟩ W := by
    intro u69 u72 u76 W hS hu72 hu76
    refine wpAnyH_ready (rs := [6, 15]) (by rw [HO.out]; kernel_rfl) (by simp) ?_
    refine AllReadyH.cons (o := _) (by rw [HO.out]; simp only [List.getElem?_toArray, List.getElem?_cons_succ, List.getElem?_cons_zero]; rfl) (fun K hK => ?_) ?_
    · refine step_appS (sl := 23) (K := 10) (by kernel_rfl) Z10 rfl (by decide) (by decide) (by rfl) _ _ (by rfl) ws.heap.size u72 ([] ++ css1) css2 (by rfl) hu72.out (.slice a2 n2 c2) (by rfl) (SA2.out W hS) L2.out.1 L2.out.2.1 L2.out.2.2 hS.size ?_
      intro v' W' ho hg hb
      refine hK.out _ _ (hS.trans hb) (fun _ => ?_)
      simp only [Act.put, List.setIfInBounds_toArray, List.set_cons_zero, List.set_cons_succ]
      exact k310 _ _ _ _ _ (hS.trans hb) ho (OwnG.other (K := 10) (J := 11) (by decide) hu72.out hu76.out hg)
    refine AllReadyH.cons (o := _) (by rw [HO.out]; simp only [List.getElem?_toArray, List.getElem?_cons_succ, List.getElem?_cons_zero]; rfl) (fun K hK => ?_) ?_
    · go_simp
      refine hK.out _ _ (hS.alloc hS.size _) (fun _ => ?_)
      simp only [Act.put, List.setIfInBounds_toArray, List.set_cons_zero, List.set_cons_succ]
      exact k211 _ _ _ _ _ (hS.alloc hS.size _) (hu72.out.below (bxn _ _)) (hu76.out.below (bxn _ _)) ⟨hS.size, heap_alloc_new W _⟩
    exact AllReadyH.nil
  have k300 : ∀ (u69 u72 u75 : Value) (W : World), Below ws.heap.size ws W → Hid (OwnG 10 2 W ws.heap.size u75 (([] ++ css1) ++ css2)) → wpAnyH Tryz.prog .any O QQ (fun w' => Below ws.heap.size ws w') 6 #[true, true, true, true, true, true, true, false, true, true, false, true, true, false, false, false, false] ⟨#[.string s0, .string s1, undef, undef, .bool false, .pointer (some ⟨w1.heap.size, 0, none⟩), .int .i64 (0), .pointer (some ⟨w2.heap.size, 0, none⟩), .int .i64 (0), .pointer (some ⟨w3.heap.size, 0, none⟩), .int .i64 (0), undef, .string s0, .int .i64 ((s0.size : Int)), .bool false, .bool false, .string s1, .int .i64 ((s1.size : Int)), .bool false, .bool false, undef, .tuple #[.agg #[.slice a1 n1 c1, .slice b1 m1 d1], .int .i64 0], .string s0, .tuple #[.agg #[.slice a1 n1 c1, .slice b1 m1 d1], .int .i64 0], .agg #[.slice a1 n1 c1, .slice b1 m1 d1], .int .i64 (0), .tuple #[.agg #[.slice a2 n2 c2, .slice b2 m2 d2], .int .i64 0], .string s1, .tuple #[.agg #[.slice a2 n2 c2, .slice b2 m2 d2], .int .i64 0], .agg #[.slice a2 n2 c2, .slice b2 m2 d2], .int .i64 (0), .tuple #[.agg #[.slice a3 n3 c3, .slice b3 m3 d3], .int .i64 0], .string s0, .string (s0 ++ ⟨#[10]⟩), .string s1, .string (s0 ++ ⟨#[10]⟩ ++ s1), .tuple #[.agg #[.slice a3 n3 c3, .slice b3 m3 d3], .int .i64 0], .agg #[.slice a3 n3 c3, .slice b3 m3 d3], .int .i64 (0), .int .i64 (0), .bool false, .bool false, .int .i64 (0), .bool false, .bool false, undef, .pointer (some ⟨w1.heap.size, 0, none⟩), .slice a1 n1 c1, .int .i64 ((n1 : Int)), .pointer (some ⟨w2.heap.size, 0, none⟩), .slice a2 n2 c2, .int .i64 ((n2 : Int)), .int .i64 (((n1 : Int) + (n2 : Int))), .bool (z53), .bool (z53), .pointer (some ⟨w1.heap.size, 1, none⟩), .slice b1 m1 d1, .int .i64 ((m1 : Int)), .pointer (some ⟨w2.heap.size, 1, none⟩), .slice b2 m2 d2, .int .i64 ((m2 : Int)), .int .i64 (((m1 : Int) + (m2 : Int))), .bool (z62), .bool (z63), undef, undef, undef, undef, undef, u69, .pointer (some ⟨w1.heap.size, 0, none⟩), .slice a1 n1 c1, u72, .pointer (some ⟨w2.heap.size, 0, none⟩), .slice a2 n2 c2, u75, undef, .pointer (some ⟨w1.heap.size, 1, none⟩), .slice b1 m1 d1, undef, .pointer (some ⟨w2.heap.size, 1, none⟩), .slice b2 m2 d2, undef, undef, undef, undef, undef, undef, undef, undef, undef, undef, undef, undef], []⟩ W := by
    intro u69 u72 u75 W hS hu75
    refine wpAnyH_ready (rs := [7, 15]) (by rw [HO.out]; kernel_rfl) (by simp) ?_
    refine AllReadyH.cons (o := _) (by rw [HO.out]; simp only [List.getElem?_toArray, List.getElem?_cons_succ, List.getElem?_cons_zero]; rfl) (fun K hK => ?_) ?_
    · go_simp
      refine hK.out _ _ (hS.alloc hS.size _) (fun _ => ?_)
      simp only [Act.put, List.setIfInBounds_toArray, List.set_cons_zero, List.set_cons_succ]
      exact k310 _ _ _ _ _ (hS.alloc hS.size _) (hu75.out.below (bxn _ _)) (OwnG.fresh 11 3 hS.size)
    refine AllReadyH.cons (o := _) (by rw [HO.out]; simp only [List.getElem?_toArray, List.getElem?_cons_succ, List.getElem?_cons_zero]; rfl) (fun K hK => ?_) ?_
    · go_simp
      refine hK.out _ _ (hS.alloc hS.size _) (fun _ => ?_)
      simp only [Act.put, List.setIfInBounds_toArray, List.set_cons_zero, List.set_cons_succ]
      exact k301 _ _ _ _ _ (hS.alloc hS.size _) (hu75.out.below (bxn _ _)) ⟨hS.size, heap_alloc_new W _⟩
    exact AllReadyH.nil
  have k011 : ∀ (u76 : Value) (g : Nat) (W : World), Below ws.heap.size ws W → Hid (OwnG 11 3 W ws.heap.size u76 []) → Hid (BX ws W g) → wpAnyH Tryz.prog .any O QQ (fun w' => Below ws.heap.size ws w') 7 #[false, true, true, false, true, true, false, true, true, true, false, true, true, false, false, true, false] ⟨#[.string s0, .string s1, undef, undef, .bool false, .pointer (some ⟨w1.heap.size, 0, none⟩), .int .i64 (0), .pointer (some ⟨w2.heap.size, 0, none⟩), .int .i64 (0), .pointer (some ⟨w3.heap.size, 0, none⟩), .int .i64 (0), .pointer (some ⟨g, 0, none⟩), .string s0, .int .i64 ((s0.size : Int)), .bool false, .bool false, .string s1, .int .i64 ((s1.size : Int)), .bool false, .bool false, undef, .tuple #[.agg #[.slice a1 n1 c1, .slice b1 m1 d1], .int .i64 0], .string s0, .tuple #[.agg #[.slice a1 n1 c1, .slice b1 m1 d1], .int .i64 0], .agg #[.slice a1 n1 c1, .slice b1 m1 d1], .int .i64 (0), .tuple #[.agg #[.slice a2 n2 c2, .slice b2 m2 d2], .int .i64 0], .string s1, .tuple #[.agg #[.slice a2 n2 c2, .slice b2 m2 d2], .int .i64 0], .agg #[.slice a2 n2 c2, .slice b2 m2 d2], .int .i64 (0), .tuple #[.agg #[.slice a3 n3 c3, .slice b3 m3 d3], .int .i64 0], .string s0, .string (s0 ++ ⟨#[10]⟩), .string s1, .string (s0 ++ ⟨#[10]⟩ ++ s1), .tuple #[.agg #[.slice a3 n3 c3, .slice b3 m3 d3], .int .i64 0], .agg #[.slice a3 n3 c3, .slice b3 m3 d3], .int .i64 (0), .int .i64 (0), .bool false, .bool false, .int .i64 (0), .bool false, .bool false, undef, .pointer (some ⟨w1.heap.size, 0, none⟩), .slice a1 n1 c1, .int .i64 ((n1 : Int)), .pointer (some ⟨w2.heap.size, 0, none⟩), .slice a2 n2 c2, .int .i64 ((n2 : Int)), .int .i64 (((n1 : Int) + (n2 : Int))), .bool (z53), .bool (z53), .pointer (some ⟨w1.heap.size, 1, none⟩), .slice b1 m1 d1, .int .i64 ((m1 : Int)), .pointer (some ⟨w2.heap.size, 1, none⟩), .slice b2 m2 d2, .int .i64 ((m2 : Int)), .int .i64 (((m1 : Int) + (m2 : Int))), .bool (z62), .bool (z63), undef, undef, undef, undef, undef, undef, .pointer (some ⟨w1.heap.size, 0, none⟩), .slice a1 n1 c1, undef, .pointer (some ⟨w2.heap.size, 0, none⟩), .slice a2 n2 c2, undef, u76, .pointer (some ⟨w1.heap.size, 1, none⟩), .slice b1 m1 d1, undef, .pointer (some ⟨w2.heap.size, 1, none⟩), .slice b2 m2 d2, undef, undef, undef, undef, undef, undef, undef, undef, undef, undef, undef, undef], []⟩ W := by
    intro u76 g W hS hu76 hX
    refine wpAnyH_ready (rs := [0]) (by rw [HO.out]; kernel_rfl) (by simp) ?_
    refine AllReadyH.cons (o := _) (by rw [HO.out]; simp only [List.getElem?_toArray, List.getElem?_cons_succ, List.getElem?_cons_zero]; rfl) (fun K hK => ?_) ?_
    · go_simp
      refine hK.out _ _ (hS.alloc hS.size _) (fun _ => ?_)
      simp only [Act.put, List.setIfInBounds_toArray, List.set_cons_zero, List.set_cons_succ]
      exact k111 _ _ _ _ (hS.alloc hS.size _) (OwnG.fresh 10 2 hS.size) (hu76.out.below (bxn _ _)) (hX.out.below (bxn _ _))
    exact AllReadyH.nil
  have k101 : ∀ (u69 : Value) (g : Nat) (W : World), Below ws.heap.size ws W → Hid (OwnG 10 2 W ws.heap.size u69 []) → Hid (BX ws W g) → wpAnyH Tryz.prog .any O QQ (fun w' => Below ws.heap.size ws w') 7 #[true, true, true, false, true, true, false, false, true, true, false, true, true, false, false, true, false] ⟨#[.string s0, .string s1, undef, undef, .bool false, .pointer (some ⟨w1.heap.size, 0, none⟩), .int .i64 (0), .pointer (some ⟨w2.heap.size, 0, none⟩), .int .i64 (0), .pointer (some ⟨w3.heap.size, 0, none⟩), .int .i64 (0), .pointer (some ⟨g, 0, none⟩), .string s0, .int .i64 ((s0.size : Int)), .bool false, .bool false, .string s1, .int .i64 ((s1.size : Int)), .bool false, .bool false, undef, .tuple #[.agg #[.slice a1 n1 c1, .slice b1 m1 d1], .int .i64 0], .string s0, .tuple #[.agg #[.slice a1 n1 c1, .slice b1 m1 d1], .int .i64 0], .agg #[.slice a1 n1 c1, .slice b1 m1 d1], .int .i64 (0), .tuple #[.agg #[.slice a2 n2 c2, .slice b2 m2 d2], .int .i64 0], .string s1, .tuple #[.agg #[.slice a2 n2 c2, .slice b2 m2 d2], .int .i64 0], .agg #[.slice a2 n2 c2, .slice b2 m2 d2], .int .i64 (0), .tuple #[.agg #[.slice a3 n3 c3, .slice b3 m3 d3], .int .i64 0], .string s0, .string (s0 ++ ⟨#[10]⟩), .string s1, .string (s0 ++ ⟨#[10]⟩ ++ s1), .tuple #[.agg #[.slice a3 n3 c3, .slice b3 m3 d3], .int .i64 0], .agg #[.slice a3 n3 c3, .slice b3 m3 d3], .int .i64 (0), .int .i64 (0), .bool false, .bool false, .int .i64 (0), .bool false, .bool false, undef, .pointer (some ⟨w1.heap.size, 0, none⟩), .slice a1 n1 c1, .int .i64 ((n1 : Int)), .pointer (some ⟨w2.heap.size, 0, none⟩), .slice a2 n2 c2, .int .i64 ((n2 : Int)), .int .i64 (((n1 : Int) + (n2 : Int))), .bool (z53), .bool (z53), .pointer (some ⟨w1.heap.size, 1, none⟩), .slice b1 m1 d1, .int .i64 ((m1 : Int)), .pointer (some ⟨w2.heap.size, 1, none⟩), .slice b2 m2 d2, .int .i64 ((m2 : Int)), .int .i64 (((m1 : Int) + (m2 : Int))), .bool (z62), .bool (z63), undef, undef, undef, undef, undef, u69, .pointer (some ⟨w1.heap.size, 0, none⟩), .slice a1 n1 c1, undef, .pointer (some ⟨w2.heap.size, 0, none⟩), .slice a2 n2 c2, undef, undef, .pointer (some ⟨w1.heap.size, 1, none⟩), .slice b1 m1 d1, undef, .pointer (some ⟨w2.heap.size, 1, none⟩), .slice b2 m2 d2, undef, undef, undef, undef, undef, undef, undef, undef, undef, undef, undef, undef], []⟩ W := by
    intro u69 g W hS hu69 hX
    refine wpAnyH_ready (rs := [3, 7]) (by rw [HO.out]; kernel_rfl) (by simp) ?_
    refine AllReadyH.cons (o := _) (by rw [HO.out]; simp only [List.getElem?_toArray, List.getElem?_cons_succ, List.getElem?_cons_zero]; rfl) (fun K hK => ?_) ?_
    · refine step_appS (sl := 23) (K := 10) (by kernel_rfl) Z10 rfl (by decide) (by decide) (by rfl) _ _ (by rfl) ws.heap.size u69 [] css1 (by rfl) hu69.out (.slice a1 n1 c1) (by rfl) (SA1.out W hS) L1.out.1 L1.out.2.1 L1.out.2.2 hS.size ?_
      intro v' W' ho hg hb
      refine hK.out _ _ (hS.trans hb) (fun _ => ?_)
      simp only [Act.put, List.setIfInBounds_toArray, List.set_cons_zero, List.set_cons_succ]
      exact k201 _ _ _ _ (hS.trans hb) ho (BX.grown (K := 10) (by decide) hX.out hu69.out hg)
    refine AllReadyH.cons (o := _) (by rw [HO.out]; simp only [List.getElem?_toArray, List.getElem?_cons_succ, List.getElem?_cons_zero]; rfl) (fun K hK => ?_) ?_
    · go_simp
      refine hK.out _ _ (hS.alloc hS.size _) (fun _ => ?_)
      simp only [Act.put, List.setIfInBounds_toArray, List.set_cons_zero, List.set_cons_succ]
      exact k111 _ _ _ _ (hS.alloc hS.size _) (hu69.out.below (bxn _ _)) (OwnG.fresh 11 3 hS.size) (hX.out.below (bxn _ _))
    exact AllReadyH.nil
  have k110 : ∀ (u69 u76 : Value) (W : World), Below ws.heap.size ws W → Hid (OwnG 10 2 W ws.heap.size u69 []) → Hid (OwnG 11 3 W ws.heap.size u76 []) → wpAnyH Tryz.prog .any O QQ (fun w' => Below ws.heap.size ws w') 7 #[true, true, true, false, true, true, false, true, true, true, false, true, true, false, false, false, false] ⟨#[.string s0, .string s1, undef, undef, .bool false, .pointer (some ⟨w1.heap.size, 0, none⟩), .int .i64 (0), .pointer (some ⟨w2.heap.size, 0, none⟩), .int .i64 (0), .pointer (some ⟨w3.heap.size, 0, none⟩), .int .i64 (0), undef, .string s0, .int .i64 ((s0.size : Int)), .bool false, .bool false, .string s1, .int .i64 ((s1.size : Int)), .bool false, .bool false, undef, .tuple #[.agg #[.slice a1 n1 c1, .slice b1 m1 d1], .int .i64 0], .string s0, .tuple #[.agg #[.slice a1 n1 c1, .slice b1 m1 d1], .int .i64 0], .agg #[.slice a1 n1 c1, .slice b1 m1 d1], .int .i64 (0), .tuple #[.agg #[.slice a2 n2 c2, .slice b2 m2 d2], .int .i64 0], .string s1, .tuple #[.agg #[.slice a2 n2 c2, .slice b2 m2 d2], .int .i64 0], .agg #[.slice a2 n2 c2, .slice b2 m2 d2], .int .i64 (0), .tuple #[.agg #[.slice a3 n3 c3, .slice b3 m3 d3], .int .i64 0], .string s0, .string (s0 ++ ⟨#[10]⟩), .string s1, .string (s0 ++ ⟨#[10]⟩ ++ s1), .tuple #[.agg #[.slice a3 n3 c3, .slice b3 m3 d3], .int .i64 0], .agg #[.slice a3 n3 c3, .slice b3 m3 d3], .int .i64 (0), .int .i64 (0), .bool false, .bool false, .int .i64 (0), .bool false, .bool false, undef, .pointer (some ⟨w1.heap.size, 0, none⟩), .slice a1 n1 c1, .int .i64 ((n1 : Int)), .pointer (some ⟨w2.heap.size, 0, none⟩), .slice a2 n2 c2, .int .i64 ((n2 : Int)), .int .i64 (((n1 : Int) + (n2 : Int))), .bool (z53), .bool (z53), .pointer (some ⟨w1.heap.size, 1, none⟩), .slice b1 m1 d1, .int .i64 ((m1 : Int)), .pointer (some ⟨w2.heap.size, 1, none⟩), .slice b2 m2 d2, .int .i64 ((m2 : Int)), .int .i64 (((m1 : Int) + (m2 : Int))), .bool (z62), .bool (z63), undef, undef, undef, undef, undef, u69, .pointer (some ⟨w1.heap.size, 0, none⟩), .slice a1 n1 c1, undef, .pointer (some ⟨w2.heap.size, 0, none⟩), .slice a2 n2 c2, undef, u76, .pointer (some ⟨w1.heap.size, 1, none⟩), .slice b1 m1 d1, undef, .pointer (some ⟨w2.heap.size, 1, none⟩), .slice b2 m2 d2, undef, undef, undef, undef, undef, undef, undef, undef, undef, undef, undef, undef], []⟩ W := by
    intro u69 u76 W hS hu69 hu76
    refine wpAnyH_ready (rs := [3, 15]) (by rw [HO.out]; kernel_rfl) (by simp) ?_
    refine AllReadyH.cons (o := _) (by rw [HO.out]; simp only [List.getElem?_toArray, List.getElem?_cons_succ, List.getElem?_cons_zero]; rfl) (fun K hK => ?_) ?_
    · refine step_appS (sl := 23) (K := 10) (by kernel_rfl) Z10 rfl (by decide) (by decide) (by rfl) _ _ (by rfl) ws.heap.size u69 [] css1 (by rfl) hu69.out (.slice a1 n1 c1) (by rfl) (SA1.out W hS) L1.out.1 L1.out.2.1 L1.out.2.2 hS.size ?_
      intro v' W' ho hg hb
      refine hK.out _ _ (hS.trans hb) (fun _ => ?_)
      simp only [Act.put, List.setIfInBounds_toArray, List.set_cons_zero, List.set_cons_succ]
      exact k210 _ _ _ _ (hS.trans hb) ho (OwnG.other (K := 10) (J := 11) (by decide) hu69.out hu76.out hg)
    refine AllReadyH.cons (o := _) (by rw [HO.out]; simp only [List.getElem?_toArray, List.getElem?_cons_succ, List.getElem?_cons_zero]; rfl) (fun K hK => ?_) ?_
    · go_simp
      refine hK.out _ _ (hS.alloc hS.size _) (fun _ => ?_)
      simp only [Act.put, List.setIfInBounds_toArray, List.set_cons_zero, List.set_cons_succ]
      exact k111 _ _ _ _ (hS.alloc hS.size _) (hu69.out.below (bxn _ _)) (hu76.out.below (bxn _ _)) ⟨hS.size, heap_alloc_new W _⟩
    exact AllReadyH.nil
  have k200 : ∀ (u69 u72 : Value) (W : World), Below ws.heap.size ws W → Hid (OwnG 10 2 W ws.heap.size u72 ([] ++ css1)) → wpAnyH Tryz.prog .any O QQ (fun w' => Below ws.heap.size ws w') 7 #[true, true, true, true, true, true, false, false, true, true, false, true, true, false, false, false, false] ⟨#[.string s0, .string s1, undef, undef, .bool false, .pointer (some ⟨w1.heap.size, 0, none⟩), .int .i64 (0), .pointer (some ⟨w2.heap.size, 0, none⟩), .int .i64 (0), .pointer (some ⟨w3.heap.size, 0, none⟩), .int .i64 (0), undef, .string s0, .int .i64 ((s0.size : Int)), .bool false, .bool false, .string s1, .int .i64 ((s1.size : Int)), .bool false, .bool false, undef, .tuple #[.agg #[.slice a1 n1 c1, .slice b1 m1 d1], .int .i64 0], .string s0, .tuple #[.agg #[.slice a1 n1 c1, .slice b1 m1 d1], .int .i64 0], .agg #[.slice a1 n1 c1, .slice b1 m1 d1], .int .i64 (0), .tuple #[.agg #[.slice a2 n2 c2, .slice b2 m2 d2], .int .i64 0], .string s1, .tuple #[.agg #[.slice a2 n2 c2, .slice b2 m2 d2], .int .i64 0], .agg #[.slice a2 n2 c2, .slice b2 m2 d2], .int .i64 (0), .tuple #[.agg #[.slice a3 n3 c3, .slice b3 m3 d3], .int .i64 0], .string s0, .string (s0 ++ ⟨#[10]⟩), .string s1, .string (s0 ++ ⟨#[10]⟩ ++ s1), .tuple #[.agg #[.slice a3 n3 c3, .slice b3 m3 d3], .int .i64 0], .agg #[.slice a3 n3 c3, .slice b3 m3 d3], .int .i64 (0), .int .i64 (0), .bool false, .bool false, .int .i64 (0), .bool false, .bool false, undef, .pointer (some ⟨w1.heap.size, 0, none⟩), .slice a1 n1 c1, .int .i64 ((n1 : Int)), .pointer (some ⟨w2.heap.size, 0, none⟩), .slice a2 n2 c2, .int .i64 ((n2 : Int)), .int .i64 (((n1 : Int) + (n2 : Int))), .bool (z53), .bool (z53), .pointer (some ⟨w1.heap.size, 1, none⟩), .slice b1 m1 d1, .int .i64 ((m1 : Int)), .pointer (some ⟨w2.heap.size, 1, none⟩), .slice b2 m2 d2, .int .i64 ((m2 : Int)), .int .i64 (((m1 : Int) + (m2 : Int))), .bool (z62), .bool (z63), undef, undef, undef, undef, undef, u69, .pointer (some ⟨w1.heap.size, 0, none⟩), .slice a1 n1 c1, u72, .pointer (some ⟨w2.heap.size, 0, none⟩), .slice a2 n2 c2, undef, undef, .pointer (some ⟨w1.heap.size, 1, none⟩), .slice b1 m1 d1, undef, .pointer (some ⟨w2.heap.size, 1, none⟩), .slice b2 m2 d2, undef, undef, undef, undef, undef, undef, undef, undef, undef, undef, undef, undef], []⟩ W := by
    intro u69 u72 W hS hu72
    refine wpAnyH_ready (rs := [6, 7, 15]) (by rw [HO.out]; kernel_rfl) (by simp) ?_
    refine AllReadyH.cons (o := _) (by rw [HO.out]; simp only [List.getElem?_toArray, List.getElem?_cons_succ, List.getElem?_cons_zero]; rfl) (fun K hK => ?_) ?_
    · refine step_appS (sl := 23) (K := 10) (by kernel_rfl) Z10 rfl (by decide) (by decide) (by rfl) _ _ (by rfl) ws.heap.size u72 ([] ++ css1) css2 (by rfl) hu72.out (.slice a2 n2 c2) (by rfl) (SA2.out W hS) L2.out.1 L2.out.2.1 L2.out.2.2 hS.size ?_
      intro v' W' ho hg hb
      refine hK.out _ _ (hS.trans hb) (fun _ => ?_)
      simp only [Act.put, List.setIfInBounds_toArray, List.set_cons_zero, List.set_cons_succ]
      exact k300 _ _ _ _ (hS.trans hb) ho
    refine AllReadyH.cons (o := _) (by rw [HO.out]; simp only [List.getElem?_toArray, List.getElem?_cons_succ, List.getElem?_cons_zero]; rfl) (fun K hK => ?_) ?_
    · go_simp
      refine hK.out _ _ (hS.alloc hS.size _) (fun _ => ?_)
      simp only [Act.put, List.setIfInBounds_toArray, List.set_cons_zero, List.set_cons_succ]
      exact k210 _ _ _ _ (hS.alloc hS.size _) (hu72.out.below (bxn _ _)) (OwnG.fresh 11 3 hS.size)
    refine AllReadyH.cons (o := _) (by rw [HO.out]; simp only [List.getElem?_toArray, List.getElem?_cons_succ, List.getElem?_cons_zero]; rfl) (fun K hK => ?_) ?_
    · go_simp
      refine hK.out _ _ (hS.alloc hS.size _) (fun _ => ?_)
      simp only [Act.put, List.setIfInBounds_toArray, List.set_cons_zero, List.set_cons_succ]
      exact k201 _ _ _ _ (hS.alloc hS.size _) (hu72.out.below (bxn _ _)) ⟨hS.size, heap_alloc_new W _⟩
    exact AllReadyH.nil
  have k001 : ∀ (g : Nat) (W : World), Below ws.heap.size ws W → Hid (BX ws W g) → wpAnyH Tryz.prog .any O QQ (fun w' => Below ws.heap.size ws w') 8 #[false, true, true, false, true, true, false, false, true, true, false, true, true, false, false, true, false] ⟨#[.string s0, .string s1, undef, undef, .bool false, .pointer (some ⟨w1.heap.size, 0, none⟩), .int .i64 (0), .pointer (some ⟨w2.heap.size, 0, none⟩), .int .i64 (0), .pointer (some ⟨w3.heap.size, 0, none⟩), .int .i64 (0), .pointer (some ⟨g, 0, none⟩), .string s0, .int .i64 ((s0.size : Int)), .bool false, .bool false, .string s1, .int .i64 ((s1.size : Int)), .bool false, .bool false, undef, .tuple #[.agg #[.slice a1 n1 c1, .slice b1 m1 d1], .int .i64 0], .string s0, .tuple #[.agg #[.slice a1 n1 c1, .slice b1 m1 d1], .int .i64 0], .agg #[.slice a1 n1 c1, .slice b1 m1 d1], .int .i64 (0), .tuple #[.agg #[.slice a2 n2 c2, .slice b2 m2 d2], .int .i64 0], .string s1, .tuple #[.agg #[.slice a2 n2 c2, .slice b2 m2 d2], .int .i64 0], .agg #[.slice a2 n2 c2, .slice b2 m2 d2], .int .i64 (0), .tuple #[.agg #[.slice a3 n3 c3, .slice b3 m3 d3], .int .i64 0], .string s0, .string (s0 ++ ⟨#[10]⟩), .string s1, .string (s0 ++ ⟨#[10]⟩ ++ s1), .tuple #[.agg #[.slice a3 n3 c3, .slice b3 m3 d3], .int .i64 0], .agg #[.slice a3 n3 c3, .slice b3 m3 d3], .int .i64 (0), .int .i64 (0), .bool false, .bool false, .int .i64 (0), .bool false, .bool false, undef, .pointer (some ⟨w1.heap.size, 0, none⟩), .slice a1 n1 c1, .int .i64 ((n1 : Int)), .pointer (some ⟨w2.heap.size, 0, none⟩), .slice a2 n2 c2, .int .i64 ((n2 : Int)), .int .i64 (((n1 : Int) + (n2 : Int))), .bool (z53), .bool (z53), .pointer (some ⟨w1.heap.size, 1, none⟩), .slice b1 m1 d1, .int .i64 ((m1 : Int)), .pointer (some ⟨w2.heap.size, 1, none⟩), .slice b2 m2 d2, .int .i64 ((m2 : Int)), .int .i64 (((m1 : Int) + (m2 : Int))), .bool (z62), .bool (z63), undef, undef, undef, undef, undef, undef, .pointer (some ⟨w1.heap.size, 0, none⟩), .slice a1 n1 c1, undef, .pointer (some ⟨w2.heap.size, 0, none⟩), .slice a2 n2 c2, undef, undef, .pointer (some ⟨w1.heap.size, 1, none⟩), .slice b1 m1 d1, undef, .pointer (some ⟨w2.heap.size, 1, none⟩), .slice b2 m2 d2, undef, undef, undef, undef, undef, undef, undef, undef, undef, undef, undef, undef], []⟩ W := by
    intro g W hS hX
    refine wpAnyH_ready (rs := [0, 7]) (by rw [HO.out]; kernel_rfl) (by simp) ?_
    refine AllReadyH.cons (o := _) (by rw [HO.out]; simp only [List.getElem?_toArray, List.getElem?_cons_succ, List.getElem?_cons_zero]; rfl) (fun K hK => ?_) ?_
    · go_simp
      refine hK.out _ _ (hS.alloc hS.size _) (fun _ => ?_)
      simp only [Act.put, List.setIfInBounds_toArray, List.set_cons_zero, List.set_cons_succ]
      exact k101 _ _ _ (hS.alloc hS.size _) (OwnG.fresh 10 2 hS.size) (hX.out.below (bxn _ _))
    refine AllReadyH.cons (o := _) (by rw [HO.out]; simp only [List.getElem?_toArray, List.getElem?_cons_succ, List.getElem?_cons_zero]; rfl) (fun K hK => ?_) ?_
    · go_simp
      refine hK.out _ _ (hS.alloc hS.size _) (fun _ => ?_)
      simp only [Act.put, List.setIfInBounds_toArray, List.set_cons_zero, List.set_cons_succ]
      exact k011 _ _ _ (hS.alloc hS.size _) (OwnG.fresh 11 3 hS.size) (hX.out.below (bxn _ _))
    exact AllReadyH.nil
  have k010 : ∀ (u76 : Value) (W : World), Below ws.heap.size ws W → Hid (OwnG 11 3 W ws.heap.size u76 []) → wpAnyH Tryz.prog .any O QQ (fun w' => Below ws.heap.size ws w') 8 #[false, true, true, false, true, true, false, true, true, true, false, true, true, false, false, false, false] ⟨#[.string s0, .string s1, undef, undef, .bool false, .pointer (some ⟨w1.heap.size, 0, none⟩), .int .i64 (0), .pointer (some ⟨w2.heap.size, 0, none⟩), .int .i64 (0), .pointer (some ⟨w3.heap.size, 0, none⟩), .int .i64 (0), undef, .string s0, .int .i64 ((s0.size : Int)), .bool false, .bool false, .string s1, .int .i64 ((s1.size : Int)), .bool false, .bool false, undef, .tuple #[.agg #[.slice a1 n1 c1, .slice b1 m1 d1], .int .i64 0], .string s0, .tuple #[.agg #[.slice a1 n1 c1, .slice b1 m1 d1], .int .i64 0], .agg #[.slice a1 n1 c1, .slice b1 m1 d1], .int .i64 (0), .tuple #[.agg #[.slice a2 n2 c2, .slice b2 m2 d2], .int .i64 0], .string s1, .tuple #[.agg #[.slice a2 n2 c2, .slice b2 m2 d2], .int .i64 0], .agg #[.slice a2 n2 c2, .slice b2 m2 d2], .int .i64 (0), .tuple #[.agg #[.slice a3 n3 c3, .slice b3 m3 d3], .int .i64 0], .string s0, .string (s0 ++ ⟨#[10]⟩), .string s1, .string (s0 ++ ⟨#[10]⟩ ++ s1), .tuple #[.agg #[.slice a3 n3 c3, .slice b3 m3 d3], .int .i64 0], .agg #[.slice a3 n3 c3, .slice b3 m3 d3], .int .i64 (0), .int .i64 (0), .bool false, .bool false, .int .i64 (0), .bool false, .bool false, undef, .pointer (some ⟨w1.heap.size, 0, none⟩), .slice a1 n1 c1, .int .i64 ((n1 : Int)), .pointer (some ⟨w2.heap.size, 0, none⟩), .slice a2 n2 c2, .int .i64 ((n2 : Int)), .int .i64 (((n1 : Int) + (n2 : Int))), .bool (z53), .bool (z53), .pointer (some ⟨w1.heap.size, 1, none⟩), .slice b1 m1 d1, .int .i64 ((m1 : Int)), .pointer (some ⟨w2.heap.size, 1, none⟩), .slice b2 m2 d2, .int .i64 ((m2 : Int)), .int .i64 (((m1 : Int) + (m2 : Int))), .bool (z62), .bool (z63), undef, undef, undef, undef, undef, undef, .pointer (some ⟨w1.heap.size, 0, none⟩), .slice a1 n1 c1, undef, .pointer (some ⟨w2.heap.size, 0, none⟩), .slice a2 n2 c2, undef, u76, .pointer (some ⟨w1.heap.size, 1, none⟩), .slice b1 m1 d1, undef, .pointer (some ⟨w2.heap.size, 1, none⟩), .slice b2 m2 d2, undef, undef, undef, undef, undef, undef, undef, undef, undef, undef, undef, undef], []⟩ W := by
    intro u76 W hS hu76
    refine wpAnyH_ready (rs := [0, 15]) (by rw [HO.out]; kernel_rfl) (by simp) ?_
    refine AllReadyH.cons (o := _) (by rw [HO.out]; simp only [List.getElem?_toArray, List.getElem?_cons_succ, List.getElem?_cons_zero]; rfl) (fun K hK => ?_) ?_
    · go_simp
      refine hK.out _ _ (hS.alloc hS.size _) (fun _ => ?_)
      simp only [Act.put, List.setIfInBounds_toArray, List.set_cons_zero, List.set_cons_succ]
      exact k110 _ _ _ (hS.alloc hS.size _) (OwnG.fresh 10 2 hS.size) (hu76.out.below (bxn _ _))
    refine AllReadyH.cons (o := _) (by rw [HO.out]; simp only [List.getElem?_toArray, List.getElem?_cons_succ, List.getElem?_cons_zero]; rfl) (fun K hK => ?_) ?_
    · go_simp
      refine hK.out _ _ (hS.alloc hS.size _) (fun _ => ?_)
      simp only [Act.put, List.setIfInBounds_toArray, List.set_cons_zero, List.set_cons_succ]
      exact k011 _ _ _ (hS.alloc hS.size _) (hu76.out.below (bxn _ _)) ⟨hS.size, heap_alloc_new W _⟩
    exact AllReadyH.nil
  have k100 : ∀ (u69 : Value) (W : World), Below ws.heap.size ws W → Hid (OwnG 10 2 W ws.heap.size u69 []) → wpAnyH Tryz.prog .any O QQ (fun w' => Below ws.heap.size ws w') 8 #[true, true, true, false, true, true, false, false, true, true, false, true, true, false, false, false, false] ⟨#[.string s0, .string s1, undef, undef, .bool false, .pointer (some ⟨w1.heap.size, 0, none⟩), .int .i64 (0), .pointer (some ⟨w2.heap.size, 0, none⟩), .int .i64 (0), .pointer (some ⟨w3.heap.size, 0, none⟩), .int .i64 (0), undef, .string s0, .int .i64 ((s0.size : Int)), .bool false, .bool false, .string s1, .int .i64 ((s1.size : Int)), .bool false, .bool false, undef, .tuple #[.agg #[.slice a1 n1 c1, .slice b1 m1 d1], .int .i64 0], .string s0, .tuple #[.agg #[.slice a1 n1 c1, .slice b1 m1 d1], .int .i64 0], .agg #[.slice a1 n1 c1, .slice b1 m1 d1], .int .i64 (0), .tuple #[.agg #[.slice a2 n2 c2, .slice b2 m2 d2], .int .i64 0], .string s1, .tuple #[.agg #[.slice a2 n2 c2, .slice b2 m2 d2], .int .i64 0], .agg #[.slice a2 n2 c2, .slice b2 m2 d2], .int .i64 (0), .tuple #[.agg #[.slice a3 n3 c3, .slice b3 m3 d3], .int .i64 0], .string s0, .string (s0 ++ ⟨#[10]⟩), .string s1, .string (s0 ++ ⟨#[10]⟩ ++ s1), .tuple #[.agg #[.slice a3 n3 c3, .slice b3 m3 d3], .int .i64 0], .agg #[.slice a3 n3 c3, .slice b3 m3 d3], .int .i64 (0), .int .i64 (0), .bool false, .bool false, .int .i64 (0), .bool false, .bool false, undef, .pointer (some ⟨w1.heap.size, 0, none⟩), .slice a1 n1 c1, .int .i64 ((n1 : Int)), .pointer (some ⟨w2.heap.size, 0, none⟩), .slice a2 n2 c2, .int .i64 ((n2 : Int)), .int .i64 (((n1 : Int) + (n2 : Int))), .bool (z53), .bool (z53), .pointer (some ⟨w1.heap.size, 1, none⟩), .slice b1 m1 d1, .int .i64 ((m1 : Int)), .pointer (some ⟨w2.heap.size, 1, none⟩), .slice b2 m2 d2, .int .i64 ((m2 : Int)), .int .i64 (((m1 : Int) + (m2 : Int))), .bool (z62), .bool (z63), undef, undef, undef, undef, undef, u69, .pointer (some ⟨w1.heap.size, 0, none⟩), .slice a1 n1 c1, undef, .pointer (some ⟨w2.heap.size, 0, none⟩), .slice a2 n2 c2, undef, undef, .pointer (some ⟨w1.heap.size, 1, none⟩), .slice b1 m1 d1, undef, .pointer (some ⟨w2.heap.size, 1, none⟩), .slice b2 m2 d2, undef, undef, undef, undef, undef, undef, undef, undef, undef, undef, undef, undef], []⟩ W := by
    intro u69 W hS hu69
    refine wpAnyH_ready (rs := [3, 7, 15]) (by rw [HO.out]; kernel_rfl) (by simp) ?_
    refine AllReadyH.cons (o := _) (by rw [HO.out]; simp only [List.getElem?_toArray, List.getElem?_cons_succ, List.getElem?_cons_zero]; rfl) (fun K hK => ?_) ?_
    · refine step_appS (sl := 23) (K := 10) (by kernel_rfl) Z10 rfl (by decide) (by decide) (by rfl) _ _ (by rfl) ws.heap.size u69 [] css1 (by rfl) hu69.out (.slice a1 n1 c1) (by rfl) (SA1.out W hS) L1.out.1 L1.out.2.1 L1.out.2.2 hS.size ?_
      intro v' W' ho hg hb
      refine hK.out _ _ (hS.trans hb) (fun _ => ?_)
      simp only [Act.put, List.setIfInBounds_toArray, List.set_cons_zero, List.set_cons_succ]
      exact k200 _ _ _ (hS.trans hb) ho
    refine AllReadyH.cons (o := _) (by rw [HO.out]; simp only [List.getElem?_toArray, List.getElem?_cons_succ, List.getElem?_cons_zero]; rfl) (fun K hK => ?_) ?_
    · go_simp
      refine hK.out _ _ (hS.alloc hS.size _) (fun _ => ?_)
      simp only [Act.put, List.setIfInBounds_toArray, List.set_cons_zero, List.set_cons_succ]
      exact k110 _ _ _ (hS.alloc hS.size _) (hu69.out.below (bxn _ _)) (OwnG.fresh 11 3 hS.size)
    refine AllReadyH.cons (o := _) (by rw [HO.out]; simp only [List.getElem?_toArray, List.getElem?_cons_succ, List.getElem?_cons_zero]; rfl) (fun K hK => ?_) ?_
    · go_simp
      refine hK.out _ _ (hS.alloc hS.size _) (fun _ => ?_)
      simp only [Act.put, List.setIfInBounds_toArray, List.set_cons_zero, List.set_cons_succ]
      exact k101 _ _ _ (hS.alloc hS.size _) (hu69.out.below (bxn _ _)) ⟨hS.size, heap_alloc_new W _⟩
    exact AllReadyH.nil
  have k000 : ∀ (W : World), Below ws.heap.size ws W → wpAnyH Tryz.prog .any O QQ (fun w' => Below ws.heap.size ws w') 9 #[false, true, true, false, true, true, false, false, true, true, false, true, true, false, false, false, false] ⟨#[.string s0, .string s1, undef, undef, .bool false, .pointer (some ⟨w1.heap.size, 0, none⟩), .int .i64 (0), .pointer (some ⟨w2.heap.size, 0, none⟩), .int .i64 (0), .pointer (some ⟨w3.heap.size, 0, none⟩), .int .i64 (0), undef, .string s0, .int .i64 ((s0.size : Int)), .bool false, .bool false, .string s1, .int .i64 ((s1.size : Int)), .bool false, .bool false, undef, .tuple #[.agg #[.slice a1 n1 c1, .slice b1 m1 d1], .int .i64 0], .string s0, .tuple #[.agg #[.slice a1 n1 c1, .slice b1 m1 d1], .int .i64 0], .agg #[.slice a1 n1 c1, .slice b1 m1 d1], .int .i64 (0), .tuple #[.agg #[.slice a2 n2 c2, .slice b2 m2 d2], .int .i64 0], .string s1, .tuple #[.agg #[.slice a2 n2 c2, .slice b2 m2 d2], .int .i64 0], .agg #[.slice a2 n2 c2, .slice b2 m2 d2], .int .i64 (0), .tuple #[.agg #[.slice a3 n3 c3, .slice b3 m3 d3], .int .i64 0], .string s0, .string (s0 ++ ⟨#[10]⟩), .string s1, .string (s0 ++ ⟨#[10]⟩ ++ s1), .tuple #[.agg #[.slice a3 n3 c3, .slice b3 m3 d3], .int .i64 0], .agg #[.slice a3 n3 c3, .slice b3 m3 d3], .int .i64 (0), .int .i64 (0), .bool false, .bool false, .int .i64 (0), .bool false, .bool false, undef, .pointer (some ⟨w1.heap.size, 0, none⟩), .slice a1 n1 c1, .int .i64 ((n1 : Int)), .pointer (some ⟨w2.heap.size, 0, none⟩), .slice a2 n2 c2, .int .i64 ((n2 : Int)), .int .i64 (((n1 : Int) + (n2 : Int))), .bool (z53), .bool (z53), .pointer (some ⟨w1.heap.size, 1, none⟩), .slice b1 m1 d1, .int .i64 ((m1 : Int)), .pointer (some ⟨w2.heap.size, 1, none⟩), .slice b2 m2 d2, .int .i64 ((m2 : Int)), .int .i64 (((m1 : Int) + (m2 : Int))), .bool (z62), .bool (z63), undef, undef, undef, undef, undef, undef, .pointer (some ⟨w1.heap.size, 0, none⟩), .slice a1 n1 c1, undef, .pointer (some ⟨w2.heap.size, 0, none⟩), .slice a2 n2 c2, undef, undef, .pointer (some ⟨w1.heap.size, 1, none⟩), .slice b1 m1 d1, undef, .pointer (some ⟨w2.heap.size, 1, none⟩), .slice b2 m2 d2, undef, undef, undef, undef, undef, undef, undef, undef, undef, undef, undef, undef], []⟩ W := by
    intro W hS
    refine wpAnyH_ready (rs := [0, 7, 15]) (by rw [HO.out]; kernel_rfl) (by simp) ?_
    refine AllReadyH.cons (o := _) (by rw [HO.out]; simp only [List.getElem?_toArray, List.getElem?_cons_succ, List.getElem?_cons_zero]; rfl) (fun K hK => ?_) ?_
    · go_simp
      refine hK.out _ _ (hS.alloc hS.size _) (fun _ => ?_)
      simp only [Act.put, List.setIfInBounds_toArray, List.set_cons_zero, List.set_cons_succ]
      exact k100 _ _ (hS.alloc hS.size _) (OwnG.fresh 10 2 hS.size)
    refine AllReadyH.cons (o := _) (by rw [HO.out]; simp only [List.getElem?_toArray, List.getElem?_cons_succ, List.getElem?_cons_zero]; rfl) (fun K hK => ?_) ?_
    · go_simp
      refine hK.out _ _ (hS.alloc hS.size _) (fun _ => ?_)
      simp only [Act.put, List.setIfInBounds_toArray, List.set_cons_zero, List.set_cons_succ]
      exact k010 _ _ (hS.alloc hS.size _) (OwnG.fresh 11 3 hS.size)
    refine AllReadyH.cons (o := _) (by rw [HO.out]; simp only [List.getElem?_toArray, List.getElem?_cons_succ, List.getElem?_cons_zero]; rfl) (fun K hK => ?_) ?_
    · go_simp
      refine hK.out _ _ (hS.alloc hS.size _) (fun _ => ?_)
      simp only [Act.put, List.setIfInBounds_toArray, List.set_cons_zero, List.set_cons_succ]
      exact k001 _ _ (hS.alloc hS.size _) ⟨hS.size, heap_alloc_new W _⟩
    exact AllReadyH.nil
  refine wp_region_held_drew (S := fun w' => Below ws.heap.size ws w') (by kernel_rfl) (Below.refl _ _).drew (fun hS => ?_)
  rw [show O.size = 17 by rw [HO.out]; rfl]
  refine wpAnyH_take (i := 1) (v := .pointer (some ⟨w1.heap.size, 0, none⟩)) (by rw [HO.out]; simp only [List.getElem?_toArray, List.getElem?_cons_succ, List.getElem?_cons_zero]; rfl) (by rw [HO.out]; kernel_rfl) (by rw [HO.out]; kernel_rfl) (by rw [HO.out]; kernel_rfl) (by rw [HQ.out]; exact fun _ _ _ h => h) (Or.inl ⟨by rfl, ?_⟩) (by assumption) ?_
  · intro w hSw
    obtain ⟨⟨t0, t1, t2, t3⟩, t4, t5, tz⟩ := CEL.out _ hSw
    go_simp
  simp only [Act.put, List.setIfInBounds_toArray, List.set_cons_zero, List.set_cons_succ]
  refine wpAnyH_take (i := 2) (v := .slice a1 n1 c1) (by rw [HO.out]; simp only [List.getElem?_toArray, List.getElem?_cons_succ, List.getElem?_cons_zero]; rfl) (by rw [HO.out]; kernel_rfl) (by rw [HO.out]; kernel_rfl) (by rw [HO.out]; kernel_rfl) (by rw [HQ.out]; exact fun _ _ _ h => h) (Or.inl ⟨by rfl, ?_⟩) (by assumption) ?_
  · intro w hSw
    obtain ⟨⟨t0, t1, t2, t3⟩, t4, t5, tz⟩ := CEL.out _ hSw
    go_simp
  simp only [Act.put, List.setIfInBounds_toArray, List.set_cons_zero, List.set_cons_succ]
  refine wpAnyH_take (i := 4) (v := .pointer (some ⟨w2.heap.size, 0, none⟩)) (by rw [HO.out]; simp only [List.getElem?_toArray, List.getElem?_cons_succ, List.getElem?_cons_zero]; rfl) (by rw [HO.out]; kernel_rfl) (by rw [HO.out]; kernel_rfl) (by rw [HO.out]; kernel_rfl) (by rw [HQ.out]; exact fun _ _ _ h => h) (Or.inl ⟨by rfl, ?_⟩) (by assumption) ?_
  · intro w hSw
    obtain ⟨⟨t0, t1, t2, t3⟩, t4, t5, tz⟩ := CEL.out _ hSw
    go_simp
  simp only [Act.put, List.setIfInBounds_toArray, List.set_cons_zero, List.set_cons_succ]
  refine wpAnyH_take (i := 5) (v := .slice a2 n2 c2) (by rw [HO.out]; simp only [List.getElem?_toArray, List.getElem?_cons_succ, List.getElem?_cons_zero]; rfl) (by rw [HO.out]; kernel_rfl) (by rw [HO.out]; kernel_rfl) (by rw [HO.out]; kernel_rfl) (by rw [HQ.out]; exact fun _ _ _ h => h) (Or.inl ⟨by rfl, ?_⟩) (by assumption) ?_
  · intro w hSw
    obtain ⟨⟨t0, t1, t2, t3⟩, t4, t5, tz⟩ := CEL.out _ hSw
    go_simp
  simp only [Act.put, List.setIfInBounds_toArray, List.set_cons_zero, List.set_cons_succ]
  refine wpAnyH_take (i := 8) (v := .pointer (some ⟨w1.heap.size, 1, none⟩)) (by rw [HO.out]; simp only [List.getElem?_toArray, List.getElem?_cons_succ, List.getElem?_cons_zero]; rfl) (by rw [HO.out]; kernel_rfl) (by rw [HO.out]; kernel_rfl) (by rw [HO.out]; kernel_rfl) (by rw [HQ.out]; exact fun _ _ _ h => h) (Or.inl ⟨by rfl, ?_⟩) (by assumption) ?_
  · intro w hSw
    obtain ⟨⟨t0, t1, t2, t3⟩, t4, t5, tz⟩ := CEL.out _ hSw
    go_simp
  simp only [Act.put, List.setIfInBounds_toArray, List.set_cons_zero, List.set_cons_succ]
  refine wpAnyH_take (i := 9) (v := .slice b1 m1 d1) (by rw [HO.out]; simp only [List.getElem?_toArray, List.getElem?_cons_succ, List.getElem?_cons_zero]; rfl) (by rw [HO.out]; kernel_rfl) (by rw [HO.out]; kernel_rfl) (by rw [HO.out]; kernel_rfl) (by rw [HQ.out]; exact fun _ _ _ h => h) (Or.inl ⟨by rfl, ?_⟩) (by assumption) ?_
  · intro w hSw
    obtain ⟨⟨t0, t1, t2, t3⟩, t4, t5, tz⟩ := CEL.out _ hSw
    go_simp
  simp only [Act.put, List.setIfInBounds_toArray, List.set_cons_zero, List.set_cons_succ]
  refine wpAnyH_take (i := 11) (v := .pointer (some ⟨w2.heap.size, 1, none⟩)) (by rw [HO.out]; simp only [List.getElem?_toArray, List.getElem?_cons_succ, List.getElem?_cons_zero]; rfl) (by rw [HO.out]; kernel_rfl) (by rw [HO.out]; kernel_rfl) (by rw [HO.out]; kernel_rfl) (by rw [HQ.out]; exact fun _ _ _ h => h) (Or.inl ⟨by rfl, ?_⟩) (by assumption) ?_
  · intro w hSw
    obtain ⟨⟨t0, t1, t2, t3⟩, t4, t5, tz⟩ := CEL.out _ hSw
    go_simp
  simp only [Act.put, List.setIfInBounds_toArray, List.set_cons_zero, List.set_cons_succ]
  refine wpAnyH_take (i := 12) (v := .slice b2 m2 d2) (by rw [HO.out]; simp only [List.getElem?_toArray, List.getElem?_cons_succ, List.getElem?_cons_zero]; rfl) (by rw [HO.out]; kernel_rfl) (by rw [HO.out]; kernel_rfl) (by rw [HO.out]; kernel_rfl) (by rw [HQ.out]; exact fun _ _ _ h => h) (Or.inl ⟨by rfl, ?_⟩) (by assumption) ?_
  · intro w hSw
    obtain ⟨⟨t0, t1, t2, t3⟩, t4, t5, tz⟩ := CEL.out _ hSw
    go_simp
  simp only [Act.put, List.setIfInBounds_toArray, List.set_cons_zero, List.set_cons_succ]
  exact k000 _ hS
theorem walk (s0 : ByteArray) (s1 : ByteArray) (w : World) (hV : Vars w) (w0 : s0.size ≤ maxLen) (w1 : s1.size ≤ maxLen) : Calls Tryz.prog 7 #[.string s0, .string s1] w fun e w' => e = .returned (.bool true) ∧ Below w.heap.size w w' := by
  by_cases h : 1000 < s0.size ∨ 1000 < s1.size
  · exact walk_a s0 s1 w hV w0 w1 h
  · by_cases hn : (parP s0.data.toList).2 ≠ 0 ∨ (parP s1.data.toList).2 ≠ 0
    · exact walk_b s0 s1 w hV w0 w1 h hn
    · have h1 : (parP s0.data.toList).2 = 0 := Classical.not_not.1 fun h => hn (.inl h)
      have h2 : (parP s1.data.toList).2 = 0 := Classical.not_not.1 fun h => hn (.inr h)
      by_cases hk : 16 < (parP s0.data.toList).1.cs.length + (parP s1.data.toList).1.cs.length ∨ 16 < (parP s0.data.toList).1.rs.length + (parP s1.data.toList).1.rs.length
      · exact walk_d s0 s1 w hV w0 w1 h h1 h2 hk
      · exact walk_f s0 s1 w hV w0 w1 h h1 h2 hk
set_option maxRecDepth 100000 in
theorem lifted (os : Os) (started : os.Started) (H : Type) (enc : TypeId × Value → H) :
    ReturnsInHanded {} Tryz.checked os 7 .any (fun w args => (Rows.parseJoinsSpec.pre enc Tryz.prog Tryz.f7 Rows.parseJoinsRow.domain false w args ∧ laidMet Tryz.prog laids w) ∧ sizedMet enc Tryz.prog Tryz.f7 (OpenSpec.ofChange Rows.parseJoinsSpec) false w args)
      (Rows.parseJoinsSpec.post enc Tryz.prog Tryz.f7 false true false false) := by
  refine returnsInHanded_of_change_and (C := Tryz.checked) (X := fun w _ => laidMet Tryz.prog laids w) (fun _ _ _ hh h => h.of_heap hh) own started (by kernel_rfl) Tryz.func7
    (ChangeSpec.witness_at (enc := enc) (C := Tryz.checked) (os := os) (X := fun w _ => laidMet Tryz.prog laids w) false (laidWorld os) #[.string ByteArray.empty, .string ByteArray.empty] 8 rfl (by kernel_rfl) (by kernel_rfl) (by kernel_rfl) (by kernel_rfl) (by kernel_rfl) (laidWorld_met os _)) ?_
  intro W base args ds gs before hval0 hW _ hsz0 hL _
  have hval : ∀ (j : Nat) t v, Tryz.f7.params[j]? = some t → args[j]? = some v → Value.okWide Tryz.prog W .any base t v := hval0
  have hW' := hW
  obtain ⟨p, q, hA0, hV, rfl, hfz, hnd⟩ := hW
  have hA : DataW.TrodAll enc Tryz.prog W 0 (fun _ => true) true Tryz.f7.params.toList args.toList ds p := hA0
  rw [Tryz.params7] at hA hval
  have hVars := vars_of hL
  obtain ⟨v0, vs0, d'0, ds0, q0, r'0, hargs, rfl, rfl, h0, r0⟩ := trodAll_cons hA
  obtain ⟨v1, vs1, d'1, ds1, q1, r'1, rfl, rfl, rfl, h1, r1⟩ := trodAll_cons r0
  obtain ⟨rfl, rfl, rfl⟩ := trodAll_nil r1
  obtain rfl : args = #[v0, v1] := by cases args; simp_all
  obtain ⟨rfl, rfl⟩ := trodVars_none hV
  obtain ⟨s0, rfl, rfl, rfl, w0⟩ := Go.ChangeMaps.open_string Tryz.underlying9 (hval 0 9 v0 rfl rfl) h0
  obtain ⟨s1, rfl, rfl, rfl, w1⟩ := Go.ChangeMaps.open_string Tryz.underlying9 (hval 1 9 v1 rfl rfl) h1
  clear hA0 hval0
  refine (walk s0 s1 W hVars w0 w1).mono fun e W' ⟨he, bel⟩ => ?_
  subst he
  exact ⟨_, rfl, _, _, _, [], _, [], hW', trodAll_mk1 (shut_bool Tryz.underlying4 _), (trodAll_cons_mk (Go.ChangeMaps.shut_string Tryz.underlying9 w0) (trodAll_cons_mk (Go.ChangeMaps.shut_string Tryz.underlying9 w1) trodAll_mk0)), rfl, bel.frame _, fun h => by cases h⟩

theorem over : Rows.parseJoinsRow.holds Tryz.pinned (OpenSpec.ofChange Rows.parseJoinsSpec) :=
  OpenClaim.holds_of_wide 7 Tryz.f7 rfl rfl rfl rfl rfl rfl rfl ⟨rfl, rfl, rfl, rfl, rfl⟩ rfl rfl rfl rfl rfl (by kernel_rfl) Tryz.func7 (by kernel_rfl)
    (of_decide_eq_true (by kernel_rfl)) (by unfold Func.isWrapper; first | (rw [if_pos (by decide +kernel)]; kernel_rfl) | (rw [if_neg (by decide +kernel)]; exact ⟨rfl, rfl⟩))
    (fun os started H enc _ => lifted os started H enc)
theorem stand (j : Nat) (t : TypeId) (ht : Tryz.f7.params[j]? = some t) : Tryz.prog.wantsStandIn t = false := by
  rw [Tryz.params7] at ht
  rcases j with _ | j
  · obtain rfl : 9 = t := by simpa using ht
    kernel_rfl
  rcases j with _ | j
  · obtain rfl : 9 = t := by simpa using ht
    kernel_rfl
  simp at ht
end Go.Proofs.YtdcpfnffckkfcaaGreatDoor.parseJoins

namespace Go.Proofs.YtdcpfnffckkfcaaGreatDoor
theorem parseJoins_holds : Rows.ParseJoinsCardSaid :=
  Claim7.holds_tied_plain_at .later [] [.data, .data, .data, .data, .sentinel, .sentinel, .pinned] true (true, "eac5dfe871dd8c8697ebc408eddb0b9f7814784c1ba684075d0b799b768a7caf") true
    parseJoins.over (fun _ h => by cases h) (by kernel_rfl) (fun _ h => by cases h) parseJoins_row_tie rfl ⟨rfl, rfl⟩ (by kernel_rfl) rfl
    (fun f fn hf hfn => by
      obtain rfl : f = 7 := Option.some.inj ((show Tryz.prog.funcNamed Rows.parseJoinsRow.func = some 7 by kernel_rfl).symm.trans hf) |>.symm
      obtain rfl : fn = Tryz.f7 := (Option.some.inj (Tryz.func7.symm.trans hfn)).symm
      exact ⟨by kernel_rfl, parseJoins.stand⟩)
    (by kernel_rfl)
#print axioms parseJoins_holds
end Go.Proofs.YtdcpfnffckkfcaaGreatDoor
