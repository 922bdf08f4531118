/- For every two texts the call LexJoins of the statements returns true and its arguments read as they did: no condition but that the library's listed variables lie as the program's text lays them. -/
import Derived.Test.YtglimefhiggdeaaDoorRows
import Derived.Test.YtglimefhiggdeaaDoorCards
import Derived.Test.YtglimefhiggdeaaDoorTie
import Derived.Test.YtglimefhiggdeaaDoorArg
import Derived.Test.YtglimefhiggdeaaDoorRn
import Derived.Test.YtglimefhiggdeaaDoorAw
import Derived.SevenTiedAt
import Derived.SizedLaws
import Derived.ChangeSame
import Derived.ChangeVars
import Derived.ChangeMaps5
import Derived.JoinedOf
import Derived.JoinedAt
import Derived.RowKit3
import Derived.LaidLaws
import Derived.WalkKit
import Derived.ProofKit
import Derived.OpenShut
import Derived.ShutString
import Derived.ChangeOld
import Derived.Below
import Derived.Test.YtglimefhiggdeaaDoorLu
namespace Go.Proofs.YtglimefhiggdeaaDoor.lexJoins
open Go.ChangeShapes Go.WideShapes Go.ChangeAt Go.RowKit
set_option linter.unusedVariables false
set_option linter.unusedSimpArgs false
set_option maxRecDepth 20000

theorem rowAt {w : World} {a : Option Addr} {ts : List TA} (h : TV w a ts) {i : Nat} (hi : i < ts.length) : ∃ g o, a = some ⟨g, o, none⟩ ∧ g < w.heap.size ∧ ∀ j, j < 7 → w.cell? ⟨g, o + (i * 7 + j), none⟩ = (cl7 (ts.getD i ta0))[j]? := by
  rcases h with rfl | ⟨b, off, rfl, hlt, hc⟩
  · simp at hi
  · exact ⟨b, off, rfl, hlt, fun j hj => hc i j hi hj⟩
theorem cellAt {w : World} {g o : Nat} {ts : List TA} (h : TV w (some ⟨g, o, none⟩) ts) {i : Nat} (hi : i < ts.length) : g < w.heap.size ∧ ∀ j, j < 7 → w.cell? ⟨g, o + (i * 7 + j), none⟩ = (cl7 (ts.getD i ta0))[j]? := by
  obtain ⟨g', o', e, h1, h2⟩ := rowAt h hi
  simp at e
  obtain ⟨rfl, rfl⟩ := e
  exact ⟨h1, h2⟩
theorem wrap_sm (x : Int) (h0 : 0 ≤ x) (h1 : x ≤ 9223372036854775807) : IntKind.i64.wrap x = x := by rw [IntKind.wrap_i64]; omega
theorem er_is (l : List UInt8) : (scanL l).2.2 = 0 ∨ (scanL l).2.2 = 16 := by
  rcases (scan_placed l).2 with h | ⟨h, _⟩
  · left; rw [h]
  · exact .inr h
theorem place_lt {l : List UInt8} : ∀ (lo : Nat) (ts : List TA), Placed l lo ts → ∀ x ∈ ts, x.2 < l.length
  | _, [], _, x, hx => by cases hx
  | lo, (t, p) :: rest, h, x, hx => by
    rcases List.mem_cons.1 hx with rfl | hx
    · exact h.2.1
    · exact place_lt (p + 1) rest h.2.2.2 x hx
theorem join_list (a b : ByteArray) : (a ++ ⟨#[10]⟩ ++ b : ByteArray).data.toList = a.data.toList ++ 10 :: b.data.toList := by simp
theorem getD_left {a b : List TA} {i : Nat} (h : i < a.length) : (a ++ b).getD i ta0 = a.getD i ta0 := by
  rw [List.getD_eq_getElem?_getD, List.getD_eq_getElem?_getD, List.getElem?_append_left h]
theorem getD_right {a b : List TA} {i : Nat} (d : Nat) (h : i < b.length) : (a ++ b.map (sh d)).getD (a.length + i) ta0 = ((b.getD i ta0).1, (b.getD i ta0).2 + d) := by
  rw [List.getD_eq_getElem?_getD, List.getD_eq_getElem?_getD, List.getElem?_append_right (by omega), Nat.add_sub_cancel_left, List.getElem?_map, List.getElem?_eq_getElem h]
  rfl
set_option maxHeartbeats 1600000 in
theorem walk_a (s0 : ByteArray) (s1 : ByteArray) (w : World) (hV : Vars w) (w0 : s0.size ≤ maxLen) (w1 : s1.size ≤ maxLen) (h : 1000 < s0.size) : Calls Tryd.prog 7 #[.string s0, .string s1] w fun e w' => e = .returned (.bool true) ∧ Below w.heap.size w w' := by
  have HA := awake_any
  have h3 : decide ((1000 : Int) < (s0.size : Int)) = true := by simp; omega
  go_enter Tryd.func7, Tryd.ntmps7
  go_wp2_with (first | (go_at_call 8; refine (HA _ hV).mono ?_; rintro e wz ⟨rfl, bz⟩; clear HA))
  go_ret
  exact ⟨rfl, bz⟩
set_option maxHeartbeats 1600000 in
theorem walk_b (s0 : ByteArray) (s1 : ByteArray) (w : World) (hV : Vars w) (w0 : s0.size ≤ maxLen) (w1 : s1.size ≤ maxLen) (h : ¬ 1000 < s0.size) (h2 : 1000 < s1.size) : Calls Tryd.prog 7 #[.string s0, .string s1] w fun e w' => e = .returned (.bool true) ∧ Below w.heap.size w w' := by
  have HA := awake_any
  have h3 : decide ((1000 : Int) < (s0.size : Int)) = false := by simp; omega
  have h4 : decide ((1000 : Int) < (s1.size : Int)) = true := by simp; omega
  go_enter Tryd.func7, Tryd.ntmps7
  go_wp2_with (first | (go_at_call 8; refine (HA _ hV).mono ?_; rintro e wz ⟨rfl, bz⟩; clear HA))
  go_ret
  exact ⟨rfl, bz⟩
set_option maxHeartbeats 4000000 in
theorem walk_c (s0 : ByteArray) (s1 : ByteArray) (w : World) (hV : Vars w) (w0 : s0.size ≤ maxLen) (w1 : s1.size ≤ maxLen) (h : ¬ 1000 < s0.size) (h2 : ¬ 1000 < s1.size) (he : (scanL s0.data.toList).2.2 = 16) : Calls Tryd.prog 7 #[.string s0, .string s1] w fun e w' => e = .returned (.bool true) ∧ Below w.heap.size w w' := by
  have HA := awake_any
  have h3 : decide ((1000 : Int) < (s0.size : Int)) = false := by simp; omega
  have h4 : decide ((1000 : Int) < (s1.size : Int)) = false := by simp; omega
  have hk1 : ¬ 9223372036854775807 < s0.size + 1 := by omega
  have hk2 : ¬ 9223372036854775807 < s0.size + 1 + s1.size := by omega
  have C1 := fun W hv => scan_any s0 W (by omega) hv
  have C2 := fun W hv => scan_any s1 W (by omega) hv
  have hjs : (s0 ++ ⟨#[10]⟩ ++ s1 : ByteArray).size ≤ 16384 := by rw [← lenL, join_list]; simp [lenL]; omega
  have C3 := fun W hv => scan_any (s0 ++ ⟨#[10]⟩ ++ s1) W hjs hv
  rw [join_list, scan_two] at C3
  rw [if_pos he] at C3
  generalize scanL s0.data.toList = S1 at *
  generalize scanL s1.data.toList = S2 at *
  obtain ⟨ts1, pl1, er1⟩ := S1
  obtain ⟨ts2, pl2, er2⟩ := S2
  dsimp only at he C1 C2 C3
  subst he
  go_enter Tryd.func7, Tryd.ntmps7
  go_wp2_with (first | (go_at_call 9; refine (C1 _ hV).mono ?_; rintro e w1 ⟨v1, rfl, ho1, hb1⟩; clear C1; obtain ⟨a1, c1, rfl, n1, t1, l1, m1, g1⟩ := ho1.view; clear ho1 n1 g1) | (go_at_call 9; refine (C2 _ (hV.below hb1)).mono ?_; rintro e w2 ⟨v2, rfl, ho2, hb2⟩; clear C2; obtain ⟨a2, c2, rfl, n2, t2, l2, m2, g2⟩ := ho2.view; clear ho2 n2 g2) | (go_at_call 9; refine (C3 _ ((hV.below hb1).below hb2)).mono ?_; rintro e w3 ⟨v3, rfl, ho3, hb3⟩; clear C3; obtain ⟨a3, c3, rfl, n3, t3, l3, m3, g3⟩ := ho3.view; clear ho3 n3 g3) | (go_at_call 8; refine (HA _ (((hV.below hb1).below hb2).below hb3)).mono ?_; rintro e wz ⟨rfl, bz⟩; clear HA))
  go_ret
  exact ⟨rfl, bt (bt (bt hb1 hb2) hb3) bz⟩
set_option maxHeartbeats 16000000 in
theorem core (s0 s1 : ByteArray) (w : World) (hV : Vars w) (h : ¬ 1000 < s0.size) (h2 : ¬ 1000 < s1.size) (ts1 ts2 ts3 : List TA) (pl1 pl2 pl3 er2 : Nat) (hpl2 : pl2 ≤ 1000) (hl3 : ts3.length = ts1.length + ts2.length) (HT3 : Hid (ts3 = ts1 ++ ts2.map (sh (s0.size + 1)))) (HP2 : Hid (∀ x ∈ ts2, x.2 < s1.size))
    (C1 : ∀ W, Vars W → Calls Tryd.prog 9 #[.string s0] W fun e w' => ∃ v, e = .returned (.tuple #[v, .int .i64 (pl1 : Nat), .int .i64 (0 : Nat)]) ∧ OwnK 34 w' W.heap.size v ts1 ∧ Below W.heap.size W w') (C2 : ∀ W, Vars W → Calls Tryd.prog 9 #[.string s1] W fun e w' => ∃ v, e = .returned (.tuple #[v, .int .i64 (pl2 : Nat), .int .i64 (er2 : Nat)]) ∧ OwnK 34 w' W.heap.size v ts2 ∧ Below W.heap.size W w') (C3 : ∀ W, Vars W → Calls Tryd.prog 9 #[.string (s0 ++ ⟨#[10]⟩ ++ s1)] W fun e w' => ∃ v, e = .returned (.tuple #[v, .int .i64 (pl3 : Nat), .int .i64 (er2 : Nat)]) ∧ OwnK 34 w' W.heap.size v ts3 ∧ Below W.heap.size W w') (HE : er2 = 0 ∨ (er2 = 16 ∧ ((pl3 : Int) == (pl2 : Int) + s0.size + 1) = true)) : Calls Tryd.prog 7 #[.string s0, .string s1] w fun e w' => e = .returned (.bool true) ∧ Below w.heap.size w w' := by
  have HA := awake_any
  have h3 : decide ((1000 : Int) < (s0.size : Int)) = false := by simp; omega
  have h4 : decide ((1000 : Int) < (s1.size : Int)) = false := by simp; omega
  have hk1 : ¬ 9223372036854775807 < s0.size + 1 := by omega
  have hk2 : ¬ 9223372036854775807 < s0.size + 1 + s1.size := by omega
  have hpz : (pl2 : Int) ≤ 1000 := by omega
  have hsz : (s0.size : Int) ≤ 1000 := by omega
  rcases HE with rfl | ⟨rfl, hpe⟩
  all_goals
   go_enter Tryd.func7, Tryd.ntmps7
   go_wp2_with (first | (go_at_call 9; refine (C1 _ hV).mono ?_; rintro e w1 ⟨v1, rfl, ho1, hb1⟩; clear C1; obtain ⟨a1, c1, rfl, n1, t1, l1, m1, g1⟩ := ho1.view; clear ho1 n1 g1) | (go_at_call 9; refine (C2 _ (hV.below hb1)).mono ?_; rintro e w2 ⟨v2, rfl, ho2, hb2⟩; clear C2; obtain ⟨a2, c2, rfl, n2, t2, l2, m2, g2⟩ := ho2.view; clear ho2 n2 g2) | (go_at_call 9; refine (C3 _ ((hV.below hb1).below hb2)).mono ?_; rintro e w3 ⟨v3, rfl, ho3, hb3⟩; clear C3; obtain ⟨a3, c3, rfl, n3, t3, l3, m3, g3⟩ := ho3.view; clear ho3 n3 g3) | fail)
   have T1 : Hid (TV w3 a1 ts1) := (t1.below hb2).below hb3
   have T2 : Hid (TV w3 a2 ts2) := t2.below hb3
   have T3 : Hid (TV w3 a3 ts3) := t3
   have B3 : Hid (Below w.heap.size w w3) := bt (bt hb1 hb2) hb3
   have V3 : Hid (Vars w3) := hV.below B3.out
   clear t1 t2 t3 hb1 hb2 hb3 hV
   go_loopw [14] (fun v wr => ∃ i : Nat, v = .int .i64 i ∧ i ≤ ts1.length ∧ Below w3.heap.size w3 wr) (fun v _ => (ts1.length - intOf v).toNat)
   case atStart => exact ⟨0, rfl, Nat.zero_le _, Below.refl _ _⟩
   case round =>
    obtain ⟨i, rfl, hi, hbr⟩ := hrel
    by_cases hlt : i < ts1.length
    · have hiz : (i : Int) < ts1.length := by omega
      have hiz3 : (i : Int) < (ts1.length : Int) + ts2.length := by omega
      obtain ⟨g1, o1, rfl, hg1, q1⟩ := rowAt (T1.out.below hbr) hlt
      obtain ⟨g3, o3, rfl, hg3, q3⟩ := rowAt (T3.out.below hbr) (show i < ts3.length by omega)
      have hx3 : ts3.getD i ta0 = ts1.getD i ta0 := by rw [HT3.out]; exact getD_left hlt
      rw [hx3] at q3
      generalize ts1.getD i ta0 = x at *
      have SL : Hid (∀ W, Below wr.heap.size wr W → (∀ j, j < 7 → W.cell? ⟨g1, o1 + (i * 7 + j), none⟩ = (cl7 x)[j]?) ∧ (∀ j, j < 7 → W.cell? ⟨g3, o3 + (i * 7 + j), none⟩ = (cl7 x)[j]?)) := fun W hW => ⟨fun j hj => (hW.cell (p := ⟨g1, o1 + (i * 7 + j), none⟩) hg1).trans (q1 j hj), fun j hj => (hW.cell (p := ⟨g3, o3 + (i * 7 + j), none⟩) hg3).trans (q3 j hj)⟩
      clear q1 q3 hx3
      go_wp2_with fail
      refine wp_region_noPanic ?_
      refine name_ops ?_
      intro O QQ HO HQ
      refine wp_region_held_drew (S := fun W => Below wr.heap.size wr W) (by kernel_rfl) (Below.refl _ _).drew (fun hS => ?_)
      rw [show O.size = 9 by rw [HO.out]; rfl]
      refine wpAnyH_take (i := 0) (v := .slice (some ⟨g3, o3, none⟩) (ts1.length + ts2.length) c3) (by rw [HO.out]; simp only [List.getElem?_toArray, List.getElem?_cons_succ, List.getElem?_cons_zero]; rfl) (by rw [HO.out]; kernel_rfl) (by rw [HO.out]; kernel_rfl) (by rw [HO.out]; kernel_rfl) (by rw [HQ.out]; exact fun _ _ _ h => h) (Or.inl ⟨by first | rfl | (rw [HO.out]; kernel_rfl), ?_⟩) hS ?_
      · intro w' hSw
        go_simp
      try simp only [Act.put, List.setIfInBounds_toArray, List.set_cons_zero, List.set_cons_succ]
      refine wpAnyH_take (i := 1) (v := .int .i64 i) (by rw [HO.out]; simp only [List.getElem?_toArray, List.getElem?_cons_succ, List.getElem?_cons_zero]; rfl) (by rw [HO.out]; kernel_rfl) (by rw [HO.out]; kernel_rfl) (by rw [HO.out]; kernel_rfl) (by rw [HQ.out]; exact fun _ _ _ h => h) (Or.inl ⟨by first | rfl | (rw [HO.out]; kernel_rfl), ?_⟩) hS ?_
      · intro w' hSw
        go_simp
      try simp only [Act.put, List.setIfInBounds_toArray, List.set_cons_zero, List.set_cons_succ]
      refine wpAnyH_take (i := 2) (v := .pointer (some ⟨g3, o3 + i * 7, none⟩)) (by rw [HO.out]; simp only [List.getElem?_toArray, List.getElem?_cons_succ, List.getElem?_cons_zero]; rfl) (by rw [HO.out]; kernel_rfl) (by rw [HO.out]; kernel_rfl) (by rw [HO.out]; kernel_rfl) (by rw [HQ.out]; exact fun _ _ _ h => h) (Or.inl ⟨by first | rfl | (rw [HO.out]; kernel_rfl), ?_⟩) hS ?_
      · intro w' hSw
        go_simp
      try simp only [Act.put, List.setIfInBounds_toArray, List.set_cons_zero, List.set_cons_succ]
      refine wpAnyH_take (i := 3) (v := .agg #[.int .u8 x.1.k, .string (st x.1.nm), .int .u8 x.1.p, .int .u8 x.1.vk, .int .i64 x.1.vn, .string (st x.1.vs), .int .i64 x.2]) (by rw [HO.out]; simp only [List.getElem?_toArray, List.getElem?_cons_succ, List.getElem?_cons_zero]; rfl) (by rw [HO.out]; kernel_rfl) (by rw [HO.out]; kernel_rfl) (by rw [HO.out]; kernel_rfl) (by rw [HQ.out]; exact fun _ _ _ h => h) (Or.inl ⟨by first | rfl | (rw [HO.out]; kernel_rfl), ?_⟩) hS ?_
      · intro w' hSw
        obtain ⟨e1, e3⟩ := SL.out _ hSw
        have q0 : w'.cell? ⟨g3, o3 + i * 7, none⟩ = some (.int .u8 x.1.k) := e3 0 (by decide)
        have q1 : w'.cell? ⟨g3, o3 + i * 7 + 1, none⟩ = some (.string (st x.1.nm)) := e3 1 (by decide)
        have q2 : w'.cell? ⟨g3, o3 + i * 7 + 2, none⟩ = some (.int .u8 x.1.p) := e3 2 (by decide)
        have q3 : w'.cell? ⟨g3, o3 + i * 7 + 3, none⟩ = some (.int .u8 x.1.vk) := e3 3 (by decide)
        have q4 : w'.cell? ⟨g3, o3 + i * 7 + 4, none⟩ = some (.int .i64 x.1.vn) := e3 4 (by decide)
        have q5 : w'.cell? ⟨g3, o3 + i * 7 + 5, none⟩ = some (.string (st x.1.vs)) := e3 5 (by decide)
        have q6 : w'.cell? ⟨g3, o3 + i * 7 + 6, none⟩ = some (.int .i64 x.2) := e3 6 (by decide)
        clear e1 e3
        go_simp
      try simp only [Act.put, List.setIfInBounds_toArray, List.set_cons_zero, List.set_cons_succ]
      refine wpAnyH_take (i := 4) (v := .slice (some ⟨g1, o1, none⟩) ts1.length c1) (by rw [HO.out]; simp only [List.getElem?_toArray, List.getElem?_cons_succ, List.getElem?_cons_zero]; rfl) (by rw [HO.out]; kernel_rfl) (by rw [HO.out]; kernel_rfl) (by rw [HO.out]; kernel_rfl) (by rw [HQ.out]; exact fun _ _ _ h => h) (Or.inl ⟨by first | rfl | (rw [HO.out]; kernel_rfl), ?_⟩) hS ?_
      · intro w' hSw
        go_simp
      try simp only [Act.put, List.setIfInBounds_toArray, List.set_cons_zero, List.set_cons_succ]
      refine wpAnyH_take (i := 5) (v := .int .i64 i) (by rw [HO.out]; simp only [List.getElem?_toArray, List.getElem?_cons_succ, List.getElem?_cons_zero]; rfl) (by rw [HO.out]; kernel_rfl) (by rw [HO.out]; kernel_rfl) (by rw [HO.out]; kernel_rfl) (by rw [HQ.out]; exact fun _ _ _ h => h) (Or.inl ⟨by first | rfl | (rw [HO.out]; kernel_rfl), ?_⟩) hS ?_
      · intro w' hSw
        go_simp
      try simp only [Act.put, List.setIfInBounds_toArray, List.set_cons_zero, List.set_cons_succ]
      refine wpAnyH_take (i := 6) (v := .pointer (some ⟨g1, o1 + i * 7, none⟩)) (by rw [HO.out]; simp only [List.getElem?_toArray, List.getElem?_cons_succ, List.getElem?_cons_zero]; rfl) (by rw [HO.out]; kernel_rfl) (by rw [HO.out]; kernel_rfl) (by rw [HO.out]; kernel_rfl) (by rw [HQ.out]; exact fun _ _ _ h => h) (Or.inl ⟨by first | rfl | (rw [HO.out]; kernel_rfl), ?_⟩) hS ?_
      · intro w' hSw
        go_simp
      try simp only [Act.put, List.setIfInBounds_toArray, List.set_cons_zero, List.set_cons_succ]
      refine wpAnyH_take (i := 7) (v := .agg #[.int .u8 x.1.k, .string (st x.1.nm), .int .u8 x.1.p, .int .u8 x.1.vk, .int .i64 x.1.vn, .string (st x.1.vs), .int .i64 x.2]) (by rw [HO.out]; simp only [List.getElem?_toArray, List.getElem?_cons_succ, List.getElem?_cons_zero]; rfl) (by rw [HO.out]; kernel_rfl) (by rw [HO.out]; kernel_rfl) (by rw [HO.out]; kernel_rfl) (by rw [HQ.out]; exact fun _ _ _ h => h) (Or.inl ⟨by first | rfl | (rw [HO.out]; kernel_rfl), ?_⟩) hS ?_
      · intro w' hSw
        obtain ⟨e1, e3⟩ := SL.out _ hSw
        have q0 : w'.cell? ⟨g1, o1 + i * 7, none⟩ = some (.int .u8 x.1.k) := e1 0 (by decide)
        have q1 : w'.cell? ⟨g1, o1 + i * 7 + 1, none⟩ = some (.string (st x.1.nm)) := e1 1 (by decide)
        have q2 : w'.cell? ⟨g1, o1 + i * 7 + 2, none⟩ = some (.int .u8 x.1.p) := e1 2 (by decide)
        have q3 : w'.cell? ⟨g1, o1 + i * 7 + 3, none⟩ = some (.int .u8 x.1.vk) := e1 3 (by decide)
        have q4 : w'.cell? ⟨g1, o1 + i * 7 + 4, none⟩ = some (.int .i64 x.1.vn) := e1 4 (by decide)
        have q5 : w'.cell? ⟨g1, o1 + i * 7 + 5, none⟩ = some (.string (st x.1.vs)) := e1 5 (by decide)
        have q6 : w'.cell? ⟨g1, o1 + i * 7 + 6, none⟩ = some (.int .i64 x.2) := e1 6 (by decide)
        clear e1 e3
        go_simp
      try simp only [Act.put, List.setIfInBounds_toArray, List.set_cons_zero, List.set_cons_succ]
      refine wpAnyH_take (i := 8) (v := .bool false) (by rw [HO.out]; simp only [List.getElem?_toArray, List.getElem?_cons_succ, List.getElem?_cons_zero]; rfl) (by rw [HO.out]; kernel_rfl) (by rw [HO.out]; kernel_rfl) (by rw [HO.out]; kernel_rfl) (by rw [HQ.out]; exact fun _ _ _ h => h) (Or.inl ⟨by first | rfl | (rw [HO.out]; kernel_rfl), ?_⟩) hS ?_
      · intro w' hSw
        go_simp
      try simp only [Act.put, List.setIfInBounds_toArray, List.set_cons_zero, List.set_cons_succ]
      refine wpAnyH_done (by rw [HO.out]; kernel_rfl) ?_ _
      rw [HQ.out]
      refine NoPanic.normal ?_
      go_wp2
      go_roundw
      case rel => exact ⟨i + 1, by simp, by omega, bt hbr hS⟩
      case measure => simp [intOf]; omega
    · have hiz : ¬ (i : Int) < ts1.length := by omega
      obtain ⟨wo, hwo⟩ : ∃ wo, wo = wr := ⟨_, rfl⟩
      subst hwo
      go_wp2_with fail
      go_loopw [15] (fun v wr => ∃ j : Nat, v = .int .i64 j ∧ j ≤ ts2.length ∧ Below w3.heap.size w3 wr) (fun v _ => (ts2.length - intOf v).toNat)
      case atStart => exact ⟨0, rfl, Nat.zero_le _, hbr⟩
      case round =>
       obtain ⟨j, rfl, hj, hbj⟩ := hrel
       by_cases hlt2 : j < ts2.length
       · have hjz : (j : Int) < ts2.length := by omega
         obtain ⟨g2, o2, rfl, hg2, q2⟩ := rowAt (T2.out.below hbj) hlt2
         obtain ⟨g3, o3, rfl, hg3, z3⟩ := rowAt (T3.out.below hbj) (show ts1.length + j < ts3.length by omega)
         have hx3 : ts3.getD (ts1.length + j) ta0 = ((ts2.getD j ta0).1, (ts2.getD j ta0).2 + (s0.size + 1)) := by rw [HT3.out]; exact getD_right _ hlt2
         rw [hx3] at z3
         have hmem := List.getElem_mem hlt2
         have hxe : ts2[j] = ts2.getD j ta0 := by rw [List.getD_eq_getElem?_getD, List.getElem?_eq_getElem hlt2]; rfl
         rw [hxe] at hmem
         have hxb := HP2.out _ hmem
         generalize ts2.getD j ta0 = x at *
         have r0 : ∀ k, k < 7 → wr.cell? ⟨g2, o2 + (j * 7 + k), none⟩ = (cl7 x)[k]? := q2
         have q0 : wr.cell? ⟨g2, o2 + j * 7, none⟩ = some (.int .u8 x.1.k) := r0 0 (by decide)
         have q1 : wr.cell? ⟨g2, o2 + j * 7 + 1, none⟩ = some (.string (st x.1.nm)) := r0 1 (by decide)
         have q2 : wr.cell? ⟨g2, o2 + j * 7 + 2, none⟩ = some (.int .u8 x.1.p) := r0 2 (by decide)
         have q3 : wr.cell? ⟨g2, o2 + j * 7 + 3, none⟩ = some (.int .u8 x.1.vk) := r0 3 (by decide)
         have q4 : wr.cell? ⟨g2, o2 + j * 7 + 4, none⟩ = some (.int .i64 x.1.vn) := r0 4 (by decide)
         have q5 : wr.cell? ⟨g2, o2 + j * 7 + 5, none⟩ = some (.string (st x.1.vs)) := r0 5 (by decide)
         have q6 : wr.cell? ⟨g2, o2 + j * 7 + 6, none⟩ = some (.int .i64 x.2) := r0 6 (by decide)
         clear r0 hx3 hmem hxe
         go_wp2_with fail
         obtain ⟨W0, hW0⟩ : ∃ W0, W0 = wr.alloc (.cells #[.int .u8 x.1.k, .string (st x.1.nm), .int .u8 x.1.p, .int .u8 x.1.vk, .int .i64 x.1.vn, .string (st x.1.vs), .int .i64 ((x.2 : Int) + ((s0.size : Int) + 1))] 34) := ⟨_, rfl⟩
         have HB0 : Hid (Below wr.heap.size wr W0) := by rw [hW0]; exact bxn _ _
         have SL : Hid (∀ W, Below W0.heap.size W0 W → (∀ k, k < 7 → W.cell? ⟨g3, o3 + ((ts1.length + j) * 7 + k), none⟩ = (cl7 (x.1, x.2 + (s0.size + 1)))[k]?) ∧ W.cell? ⟨wr.heap.size, 0, none⟩ = some (.int .u8 x.1.k) ∧ W.cell? ⟨wr.heap.size, 1, none⟩ = some (.string (st x.1.nm)) ∧ W.cell? ⟨wr.heap.size, 2, none⟩ = some (.int .u8 x.1.p) ∧ W.cell? ⟨wr.heap.size, 3, none⟩ = some (.int .u8 x.1.vk) ∧ W.cell? ⟨wr.heap.size, 4, none⟩ = some (.int .i64 x.1.vn) ∧ W.cell? ⟨wr.heap.size, 5, none⟩ = some (.string (st x.1.vs)) ∧ W.cell? ⟨wr.heap.size, 6, none⟩ = some (.int .i64 ((x.2 : Int) + ((s0.size : Int) + 1)))) := fun W hW => by
           have hlt : wr.heap.size < W0.heap.size := by rw [hW0]; simp
           refine ⟨fun k hk => ((bt HB0.out hW).cell (p := ⟨g3, o3 + ((ts1.length + j) * 7 + k), none⟩) hg3).trans (z3 k hk), ?_, ?_, ?_, ?_, ?_, ?_, ?_⟩
           all_goals (rw [hW.cell hlt, hW0]; go_simp)
         rw [← hW0]
         clear hW0 q0 q1 q2 q3 q4 q5 q6 z3
         refine wp_region_noPanic ?_
         refine name_ops ?_
         intro O QQ HO HQ
         refine wp_region_held_drew (S := fun W => Below W0.heap.size W0 W) (by kernel_rfl) (Below.refl _ _).drew (fun hS => ?_)
         rw [show O.size = 9 by rw [HO.out]; rfl]
         refine wpAnyH_take (i := 0) (v := .slice (some ⟨g3, o3, none⟩) (ts1.length + ts2.length) c3) (by rw [HO.out]; simp only [List.getElem?_toArray, List.getElem?_cons_succ, List.getElem?_cons_zero]; rfl) (by rw [HO.out]; kernel_rfl) (by rw [HO.out]; kernel_rfl) (by rw [HO.out]; kernel_rfl) (by rw [HQ.out]; exact fun _ _ _ h => h) (Or.inl ⟨by first | rfl | (rw [HO.out]; kernel_rfl), ?_⟩) hS ?_
         · intro w' hSw
           go_simp
         try simp only [Act.put, List.setIfInBounds_toArray, List.set_cons_zero, List.set_cons_succ]
         refine wpAnyH_take (i := 1) (v := .slice a1 ts1.length c1) (by rw [HO.out]; simp only [List.getElem?_toArray, List.getElem?_cons_succ, List.getElem?_cons_zero]; rfl) (by rw [HO.out]; kernel_rfl) (by rw [HO.out]; kernel_rfl) (by rw [HO.out]; kernel_rfl) (by rw [HQ.out]; exact fun _ _ _ h => h) (Or.inl ⟨by first | rfl | (rw [HO.out]; kernel_rfl), ?_⟩) hS ?_
         · intro w' hSw
           go_simp
         try simp only [Act.put, List.setIfInBounds_toArray, List.set_cons_zero, List.set_cons_succ]
         refine wpAnyH_take (i := 2) (v := .int .i64 ts1.length) (by rw [HO.out]; simp only [List.getElem?_toArray, List.getElem?_cons_succ, List.getElem?_cons_zero]; rfl) (by rw [HO.out]; kernel_rfl) (by rw [HO.out]; kernel_rfl) (by rw [HO.out]; kernel_rfl) (by rw [HQ.out]; exact fun _ _ _ h => h) (Or.inl ⟨by first | rfl | (rw [HO.out]; kernel_rfl), ?_⟩) hS ?_
         · intro w' hSw
           go_simp
         try simp only [Act.put, List.setIfInBounds_toArray, List.set_cons_zero, List.set_cons_succ]
         refine wpAnyH_take (i := 3) (v := .int .i64 j) (by rw [HO.out]; simp only [List.getElem?_toArray, List.getElem?_cons_succ, List.getElem?_cons_zero]; rfl) (by rw [HO.out]; kernel_rfl) (by rw [HO.out]; kernel_rfl) (by rw [HO.out]; kernel_rfl) (by rw [HQ.out]; exact fun _ _ _ h => h) (Or.inl ⟨by first | rfl | (rw [HO.out]; kernel_rfl), ?_⟩) hS ?_
         · intro w' hSw
           go_simp
         try simp only [Act.put, List.setIfInBounds_toArray, List.set_cons_zero, List.set_cons_succ]
         refine wpAnyH_take (i := 4) (v := .int .i64 ((ts1.length : Int) + j)) (by rw [HO.out]; simp only [List.getElem?_toArray, List.getElem?_cons_succ, List.getElem?_cons_zero]; rfl) (by rw [HO.out]; kernel_rfl) (by rw [HO.out]; kernel_rfl) (by rw [HO.out]; kernel_rfl) (by rw [HQ.out]; exact fun _ _ _ h => h) (Or.inl ⟨by first | rfl | (rw [HO.out]; kernel_rfl), ?_⟩) hS ?_
         · intro w' hSw
           have f0 : IntKind.i64.wrap ((ts1.length : Int) + j) = ts1.length + j := wrap_sm _ (by omega) (by omega)
           go_simp
         try simp only [Act.put, List.setIfInBounds_toArray, List.set_cons_zero, List.set_cons_succ]
         refine wpAnyH_take (i := 5) (v := .pointer (some ⟨g3, o3 + (ts1.length + j) * 7, none⟩)) (by rw [HO.out]; simp only [List.getElem?_toArray, List.getElem?_cons_succ, List.getElem?_cons_zero]; rfl) (by rw [HO.out]; kernel_rfl) (by rw [HO.out]; kernel_rfl) (by rw [HO.out]; kernel_rfl) (by rw [HQ.out]; exact fun _ _ _ h => h) (Or.inl ⟨by first | rfl | (rw [HO.out]; kernel_rfl), ?_⟩) hS ?_
         · intro w' hSw
           have f1 : ((ts1.length : Int) + j).toNat = ts1.length + j := by omega
           have f2 : (ts1.length : Int) + j < ts1.length + ts2.length := by omega
           have f3 : (0 : Int) ≤ (ts1.length : Int) + j := by omega
           go_simp
         try simp only [Act.put, List.setIfInBounds_toArray, List.set_cons_zero, List.set_cons_succ]
         refine wpAnyH_take (i := 6) (v := .agg #[.int .u8 x.1.k, .string (st x.1.nm), .int .u8 x.1.p, .int .u8 x.1.vk, .int .i64 x.1.vn, .string (st x.1.vs), .int .i64 ((x.2 : Int) + ((s0.size : Int) + 1))]) (by rw [HO.out]; simp only [List.getElem?_toArray, List.getElem?_cons_succ, List.getElem?_cons_zero]; rfl) (by rw [HO.out]; kernel_rfl) (by rw [HO.out]; kernel_rfl) (by rw [HO.out]; kernel_rfl) (by rw [HQ.out]; exact fun _ _ _ h => h) (Or.inl ⟨by first | rfl | (rw [HO.out]; kernel_rfl), ?_⟩) hS ?_
         · intro w' hSw
           obtain ⟨e3, -, -, -, -, -, -, -⟩ := SL.out _ hSw
           have q0 : w'.cell? ⟨g3, o3 + (ts1.length + j) * 7, none⟩ = some (.int .u8 x.1.k) := e3 0 (by decide)
           have q1 : w'.cell? ⟨g3, o3 + (ts1.length + j) * 7 + 1, none⟩ = some (.string (st x.1.nm)) := e3 1 (by decide)
           have q2 : w'.cell? ⟨g3, o3 + (ts1.length + j) * 7 + 2, none⟩ = some (.int .u8 x.1.p) := e3 2 (by decide)
           have q3 : w'.cell? ⟨g3, o3 + (ts1.length + j) * 7 + 3, none⟩ = some (.int .u8 x.1.vk) := e3 3 (by decide)
           have q4 : w'.cell? ⟨g3, o3 + (ts1.length + j) * 7 + 4, none⟩ = some (.int .i64 x.1.vn) := e3 4 (by decide)
           have q5 : w'.cell? ⟨g3, o3 + (ts1.length + j) * 7 + 5, none⟩ = some (.string (st x.1.vs)) := e3 5 (by decide)
           have q6 : w'.cell? ⟨g3, o3 + (ts1.length + j) * 7 + 6, none⟩ = some (.int .i64 ((x.2 : Int) + ((s0.size : Int) + 1))) := e3 6 (by decide)
           clear e3
           go_simp
         try simp only [Act.put, List.setIfInBounds_toArray, List.set_cons_zero, List.set_cons_succ]
         refine wpAnyH_take (i := 7) (v := .agg #[.int .u8 x.1.k, .string (st x.1.nm), .int .u8 x.1.p, .int .u8 x.1.vk, .int .i64 x.1.vn, .string (st x.1.vs), .int .i64 ((x.2 : Int) + ((s0.size : Int) + 1))]) (by rw [HO.out]; simp only [List.getElem?_toArray, List.getElem?_cons_succ, List.getElem?_cons_zero]; rfl) (by rw [HO.out]; kernel_rfl) (by rw [HO.out]; kernel_rfl) (by rw [HO.out]; kernel_rfl) (by rw [HQ.out]; exact fun _ _ _ h => h) (Or.inl ⟨by first | rfl | (rw [HO.out]; kernel_rfl), ?_⟩) hS ?_
         · intro w' hSw
           obtain ⟨-, q0, q1, q2, q3, q4, q5, q6⟩ := SL.out _ hSw
           go_simp
         try simp only [Act.put, List.setIfInBounds_toArray, List.set_cons_zero, List.set_cons_succ]
         refine wpAnyH_take (i := 8) (v := .bool false) (by rw [HO.out]; simp only [List.getElem?_toArray, List.getElem?_cons_succ, List.getElem?_cons_zero]; rfl) (by rw [HO.out]; kernel_rfl) (by rw [HO.out]; kernel_rfl) (by rw [HO.out]; kernel_rfl) (by rw [HQ.out]; exact fun _ _ _ h => h) (Or.inl ⟨by first | rfl | (rw [HO.out]; kernel_rfl), ?_⟩) hS ?_
         · intro w' hSw
           go_simp
         try simp only [Act.put, List.setIfInBounds_toArray, List.set_cons_zero, List.set_cons_succ]
         refine wpAnyH_done (by rw [HO.out]; kernel_rfl) ?_ _
         rw [HQ.out]
         refine NoPanic.normal ?_
         go_wp2
         go_roundw
         case rel => exact ⟨j + 1, by simp, by omega, bt (bt hbj HB0.out) hS⟩
         case measure => simp [intOf]; omega
       · have hjz : ¬ (j : Int) < ts2.length := by omega
         go_wp2_with (first | (go_at_call 8; refine (HA _ (V3.out.below hbj)).mono ?_; rintro e wz ⟨rfl, bz⟩; clear HA))
         go_ret
         exact ⟨rfl, bt (bt B3.out hbj) bz⟩
set_option maxHeartbeats 8000000 in
theorem walk_d (s0 : ByteArray) (s1 : ByteArray) (w : World) (hV : Vars w) (w0 : s0.size ≤ maxLen) (w1 : s1.size ≤ maxLen) (h : ¬ 1000 < s0.size) (h2 : ¬ 1000 < s1.size) (he : (scanL s0.data.toList).2.2 = 0) : Calls Tryd.prog 7 #[.string s0, .string s1] w fun e w' => e = .returned (.bool true) ∧ Below w.heap.size w w' := by
  have HA := awake_any
  have h3 : decide ((1000 : Int) < (s0.size : Int)) = false := by simp; omega
  have h4 : decide ((1000 : Int) < (s1.size : Int)) = false := by simp; omega
  have hk1 : ¬ 9223372036854775807 < s0.size + 1 := by omega
  have hk2 : ¬ 9223372036854775807 < s0.size + 1 + s1.size := by omega
  have C1 := fun W hv => scan_any s0 W (by omega) hv
  have C2 := fun W hv => scan_any s1 W (by omega) hv
  have hjs : (s0 ++ ⟨#[10]⟩ ++ s1 : ByteArray).size ≤ 16384 := by rw [← lenL, join_list]; simp [lenL]; omega
  have C3 := fun W hv => scan_any (s0 ++ ⟨#[10]⟩ ++ s1) W hjs hv
  rw [join_list, scan_two] at C3
  rw [if_neg (by rw [he]; decide)] at C3
  have HP2 : Hid (∀ x ∈ (scanL s1.data.toList).1, x.2 < s1.size) := fun x hx => by rw [← lenL]; exact place_lt 0 _ (scan_placed s1.data.toList).1 x hx
  have h16 := er_is s1.data.toList
  have hle2 : ∀ y, (scanL s1.data.toList).2.1 = y → y ≤ 1000 := by
    intro y hy
    rcases (scan_placed s1.data.toList).2 with hq | ⟨_, _, hq⟩
    · rw [hq] at hy; simp at hy; omega
    · rw [lenL] at hq; omega
  rw [lenL] at C3
  generalize scanL s0.data.toList = S1 at *
  generalize scanL s1.data.toList = S2 at *
  obtain ⟨ts1, pl1, er1⟩ := S1
  obtain ⟨ts2, pl2, er2⟩ := S2
  have hpl2 := hle2 pl2 rfl
  dsimp only at he C1 C2 C3 h16 HP2
  subst he
  obtain ⟨pl3, hpl3⟩ : ∃ pl3, pl3 = (if er2 = 16 then pl2 + (s0.size + 1) else pl2) := ⟨_, rfl⟩
  rw [← hpl3] at C3
  obtain ⟨ts3, hts3⟩ : ∃ ts3, ts3 = ts1 ++ ts2.map (sh (s0.size + 1)) := ⟨_, rfl⟩
  have hl3 : ts3.length = ts1.length + ts2.length := by rw [hts3]; simp
  have HT3 : Hid (ts3 = ts1 ++ ts2.map (sh (s0.size + 1))) := hts3
  rw [← hts3] at C3
  have HN : Hid (er2 = 0 ∨ (er2 = 16 ∧ pl3 = pl2 + (s0.size + 1))) := by
    rcases h16 with h | h
    · exact .inl h
    · exact .inr ⟨h, by rw [hpl3, if_pos h]⟩
  clear hts3 hpl3 h16 hle2
  have hgo : ((pl3 : Int) == (pl2 : Int) + s0.size + 1) = true ∨ er2 = 0 := by
    rcases HN.out with h | ⟨_, h⟩
    · exact .inr h
    · left; rw [beq_iff_eq, h]; omega
  rcases HN.out with h16 | ⟨h16, -⟩
  · subst h16
    clear hgo HN
    exact core s0 s1 w hV h h2 ts1 ts2 ts3 pl1 pl2 pl3 0 hpl2 hl3 HT3 HP2 C1 C2 C3 (.inl rfl)
  · rcases hgo with hgo | hgo
    · exact core s0 s1 w hV h h2 ts1 ts2 ts3 pl1 pl2 pl3 er2 hpl2 hl3 HT3 HP2 C1 C2 C3 (.inr ⟨h16, hgo⟩)
    · exfalso; rw [h16] at hgo; cases hgo
theorem walk (s0 : ByteArray) (s1 : ByteArray) (w : World) (hV : Vars w) (w0 : s0.size ≤ maxLen) (w1 : s1.size ≤ maxLen) : Calls Tryd.prog 7 #[.string s0, .string s1] w fun e w' => e = .returned (.bool true) ∧ Below w.heap.size w w' := by
  by_cases h : 1000 < s0.size
  · exact walk_a s0 s1 w hV w0 w1 h
  · by_cases h2 : 1000 < s1.size
    · exact walk_b s0 s1 w hV w0 w1 h h2
    · rcases er_is s0.data.toList with he | he
      · exact walk_d s0 s1 w hV w0 w1 h h2 he
      · exact walk_c s0 s1 w hV w0 w1 h h2 he
set_option maxRecDepth 100000 in
theorem lifted (os : Os) (started : os.Started) (H : Type) (enc : TypeId × Value → H) :
    ReturnsInHanded {} Tryd.checked os 7 .any (fun w args => (Rows.lexJoinsSpec.pre enc Tryd.prog Tryd.f7 Rows.lexJoinsRow.domain false w args ∧ laidMet Tryd.prog laids w) ∧ sizedMet enc Tryd.prog Tryd.f7 (OpenSpec.ofChange Rows.lexJoinsSpec) false w args)
      (Rows.lexJoinsSpec.post enc Tryd.prog Tryd.f7 false true false false) := by
  refine returnsInHanded_of_change_and (C := Tryd.checked) (X := fun w _ => laidMet Tryd.prog laids w) (fun _ _ _ hh h => h.of_heap hh) own started (by kernel_rfl) Tryd.func7
    (ChangeSpec.witness_at (enc := enc) (C := Tryd.checked) (os := os) (X := fun w _ => laidMet Tryd.prog laids w) false (laidWorld os) #[.string ByteArray.empty, .string ByteArray.empty] 8 rfl (by kernel_rfl) (by kernel_rfl) (by kernel_rfl) (by kernel_rfl) (by kernel_rfl) (laidWorld_met os _)) ?_
  intro W base args ds gs before hval0 hW _ hsz0 hL _
  have hval : ∀ (j : Nat) t v, Tryd.f7.params[j]? = some t → args[j]? = some v → Value.okWide Tryd.prog W .any base t v := hval0
  have hW' := hW
  obtain ⟨p, q, hA0, hV, rfl, hfz, hnd⟩ := hW
  have hA : DataW.TrodAll enc Tryd.prog W 0 (fun _ => true) true Tryd.f7.params.toList args.toList ds p := hA0
  rw [Tryd.params7] at hA hval
  have hVars := vars_of hL
  obtain ⟨v0, vs0, d'0, ds0, q0, r'0, hargs, rfl, rfl, h0, r0⟩ := trodAll_cons hA
  obtain ⟨v1, vs1, d'1, ds1, q1, r'1, rfl, rfl, rfl, h1, r1⟩ := trodAll_cons r0
  obtain ⟨rfl, rfl, rfl⟩ := trodAll_nil r1
  obtain rfl : args = #[v0, v1] := by cases args; simp_all
  obtain ⟨rfl, rfl⟩ := trodVars_none hV
  obtain ⟨s0, rfl, rfl, rfl, w0⟩ := Go.ChangeMaps.open_string Tryd.underlying9 (hval 0 9 v0 rfl rfl) h0
  obtain ⟨s1, rfl, rfl, rfl, w1⟩ := Go.ChangeMaps.open_string Tryd.underlying9 (hval 1 9 v1 rfl rfl) h1
  clear hA0 hval0
  refine (walk s0 s1 W hVars w0 w1).mono fun e W' ⟨he, bel⟩ => ?_
  subst he
  exact ⟨_, rfl, _, _, _, [], _, [], hW', trodAll_mk1 (shut_bool Tryd.underlying4 _), (trodAll_cons_mk (Go.ChangeMaps.shut_string Tryd.underlying9 w0) (trodAll_cons_mk (Go.ChangeMaps.shut_string Tryd.underlying9 w1) trodAll_mk0)), rfl, bel.frame _, fun h => by cases h⟩

theorem over : Rows.lexJoinsRow.holds Tryd.pinned (OpenSpec.ofChange Rows.lexJoinsSpec) :=
  OpenClaim.holds_of_wide 7 Tryd.f7 rfl rfl rfl rfl rfl rfl rfl ⟨rfl, rfl, rfl, rfl, rfl⟩ rfl rfl rfl rfl rfl (by kernel_rfl) Tryd.func7 (by kernel_rfl)
    (of_decide_eq_true (by kernel_rfl)) (by unfold Func.isWrapper; first | (rw [if_pos (by decide +kernel)]; kernel_rfl) | (rw [if_neg (by decide +kernel)]; exact ⟨rfl, rfl⟩))
    (fun os started H enc _ => lifted os started H enc)
theorem stand (j : Nat) (t : TypeId) (ht : Tryd.f7.params[j]? = some t) : Tryd.prog.wantsStandIn t = false := by
  rw [Tryd.params7] at ht
  rcases j with _ | j
  · obtain rfl : 9 = t := by simpa using ht
    kernel_rfl
  rcases j with _ | j
  · obtain rfl : 9 = t := by simpa using ht
    kernel_rfl
  simp at ht
end Go.Proofs.YtglimefhiggdeaaDoor.lexJoins

namespace Go.Proofs.YtglimefhiggdeaaDoor
theorem lexJoins_holds : Rows.LexJoinsCardSaid :=
  Claim7.holds_tied_plain_at .later [] [.data, .data, .data, .data, .sentinel, .sentinel, .pinned] true (true, "62c4cb96e34a2f4dadd50a21420b8e5883497955c56b2fe545650bb9173c7b78") true
    lexJoins.over (fun _ h => by cases h) (by kernel_rfl) (fun _ h => by cases h) lexJoins_row_tie rfl ⟨rfl, rfl⟩ (by kernel_rfl) rfl
    (fun f fn hf hfn => by
      obtain rfl : f = 7 := Option.some.inj ((show Tryd.prog.funcNamed Rows.lexJoinsRow.func = some 7 by kernel_rfl).symm.trans hf) |>.symm
      obtain rfl : fn = Tryd.f7 := (Option.some.inj (Tryd.func7.symm.trans hfn)).symm
      exact ⟨by kernel_rfl, lexJoins.stand⟩)
    (by kernel_rfl)
#print axioms lexJoins_holds
end Go.Proofs.YtglimefhiggdeaaDoor
