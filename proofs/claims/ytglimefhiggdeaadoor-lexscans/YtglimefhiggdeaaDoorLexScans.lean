/- For every text the call LexScans of the statements returns true and its argument reads as it did: no condition but that the library's listed variables lie as the program's text lays them. -/
import Derived.Test.YtglimefhiggdeaaDoorRows
import Derived.Test.YtglimefhiggdeaaDoorCards
import Derived.Test.YtglimefhiggdeaaDoorTie
import Derived.Test.YtglimefhiggdeaaDoorArg
import Derived.Test.YtglimefhiggdeaaDoorRn
import Derived.Test.YtglimefhiggdeaaDoorAw
import Derived.SevenTiedAt
import Derived.SizedLaws
import Derived.ChangeSame
import Derived.ChangeVars
import Derived.ChangeMaps5
import Derived.JoinedOf
import Derived.JoinedAt
import Derived.RowKit3
import Derived.LaidLaws
import Derived.WalkKit
import Derived.ProofKit
import Derived.OpenShut
import Derived.ShutString
import Derived.ChangeOld
import Derived.Below
import Derived.Test.YtglimefhiggdeaaDoorSr
namespace Go.Proofs.YtglimefhiggdeaaDoor.lexScans
open Go.ChangeShapes Go.WideShapes Go.ChangeAt Go.RowKit
set_option linter.unusedVariables false
set_option linter.unusedSimpArgs false
set_option maxRecDepth 20000

theorem rowAt {w : World} {a : Option Addr} {ts : List TA} (h : TV w a ts) {i : Nat} (hi : i < ts.length) : ∃ g o, a = some ⟨g, o, none⟩ ∧ g < w.heap.size ∧ ∀ j, j < 7 → w.cell? ⟨g, o + (i * 7 + j), none⟩ = (cl7 (ts.getD i ta0))[j]? := by
  rcases h with rfl | ⟨b, off, rfl, hlt, hc⟩
  · simp at hi
  · exact ⟨b, off, rfl, hlt, fun j hj => hc i j hi hj⟩
set_option maxHeartbeats 1600000 in
theorem walk_a (s0 : ByteArray) (w : World) (hV : Vars w) (w0 : s0.size ≤ maxLen) (h : 3000 < s0.size) : Calls Tryd.prog 3 #[.string s0] w fun e w' => e = .returned (.bool true) ∧ Below w.heap.size w w' := by
  have HA := awake_any
  have hz : (3000 : Int) < s0.size := by omega
  go_enter Tryd.func3, Tryd.ntmps3
  go_wp2_with (first | (go_at_call 8; refine (HA _ hV).mono ?_; rintro e wz ⟨rfl, bz⟩; clear HA))
  go_ret
  exact ⟨rfl, bz⟩
set_option maxHeartbeats 8000000 in
theorem walk_d (s0 : ByteArray) (w : World) (hV : Vars w) (w0 : s0.size ≤ maxLen) (h : ¬ 3000 < s0.size) : Calls Tryd.prog 3 #[.string s0] w fun e w' => e = .returned (.bool true) ∧ Below w.heap.size w w' := by
  have HA := awake_any
  have hz : ¬ (3000 : Int) < s0.size := by omega
  have C1 := fun W hv => scan_any s0 W (by omega) hv
  have C2 := fun W => rscan_any s0 W (by omega)
  have HTok : Hid (∀ x ∈ (scanL s0.data.toList).1, IsTok x.1) := fun x hx => scan_tok hx
  generalize scanL s0.data.toList = S at *
  obtain ⟨ts, pl, er⟩ := S
  dsimp only at C1 C2 HTok
  go_enter Tryd.func3, Tryd.ntmps3
  go_wp2_with (first | (go_at_call 9; refine (C1 _ hV).mono ?_; rintro e w1 ⟨v1, rfl, ho1, hb1⟩; clear C1; obtain ⟨a1, c1, rfl, n1, t1, l1, m1, g1⟩ := ho1.view; clear ho1) | (go_at_call 10; refine (C2 _).mono ?_; rintro e w2 ⟨v2, rfl, ho2, hb2⟩; clear C2; obtain ⟨a2, c2, rfl, n2, t2, l2, m2, g2⟩ := ho2.view; clear ho2))
  have T1 : Hid (TV w2 a1 ts) := t1.below hb2
  have T2 : Hid (TV w2 a2 ts) := t2
  have B2 : Hid (Below w.heap.size w w2) := bt hb1 hb2
  have V2 : Hid (Vars w2) := hV.below B2.out
  have hnn : (ts.length : Int) ≤ 9223372036854775807 := by omega
  clear t1 t2 hb1 hb2 g1 g2 hV n1 n2
  go_loopw [9] (fun v wr => ∃ i : Nat, v = .int .i64 i ∧ i ≤ ts.length ∧ Below w2.heap.size w2 wr) (fun v _ => (ts.length - intOf v).toNat)
  case atStart => exact ⟨0, rfl, Nat.zero_le _, Below.refl _ _⟩
  case round =>
    obtain ⟨i, rfl, hi, hbr⟩ := hrel
    have VR : Hid (Vars wr) := V2.out.below hbr
    have BR : Hid (Below w.heap.size w wr) := bt B2.out hbr
    by_cases hlt : i < ts.length
    · have hiz : (i : Int) < ts.length := by omega
      obtain ⟨g1, o1, rfl, hg1, q1⟩ := rowAt (T1.out.below hbr) hlt
      obtain ⟨g2, o2, rfl, hg2, q2⟩ := rowAt (T2.out.below hbr) hlt
      have hx := HTok.out _ (List.getElem_mem hlt)
      have hxe : ts[i] = ts.getD i ta0 := by rw [List.getD_eq_getElem?_getD, List.getElem?_eq_getElem hlt]; rfl
      rw [hxe] at hx
      generalize ts.getD i ta0 = x at *
      have hB := tok_b hx
      have CT : ∀ W, Vars W → Calls Tryd.prog 11 #[.agg #[.int .u8 x.1.k, .string (st x.1.nm), .int .u8 x.1.p, .int .u8 x.1.vk, .int .i64 x.1.vn, .string (st x.1.vs), .int .i64 x.2]] W fun e w' => e = .returned (.string (ttS x.1.k (st x.1.nm) x.1.p x.1.vk x.1.vn (st x.1.vs))) ∧ Below W.heap.size W w' := fun W hv => ltext_any _ _ _ _ _ _ _ W hB.k.1 hB.k.2 (by rw [st_size]; have := hB.nm; omega) hB.vk.1 hB.vk.2 (by rw [st_size]; have := hB.vs; omega) hv
      have CU : ∀ W, Calls Tryd.prog 12 #[.agg #[.int .u8 x.1.k, .string (st x.1.nm), .int .u8 x.1.p, .int .u8 x.1.vk, .int .i64 x.1.vn, .string (st x.1.vs), .int .i64 x.2]] W fun e w' => e = .returned (.string (ttS x.1.k (st x.1.nm) x.1.p x.1.vk x.1.vn (st x.1.vs))) ∧ Below W.heap.size W w' := fun W => rltext_any _ _ _ _ _ _ _ W hB.k.1 hB.k.2 (by rw [st_size]; have := hB.nm; omega) hB.vk.1 hB.vk.2 (by rw [st_size]; have := hB.vs; omega)
      generalize ttS x.1.k (st x.1.nm) x.1.p x.1.vk x.1.vn (st x.1.vs) = tx at *
      have HV : Hid (∀ W, Below wr.heap.size wr W → Vars W) := fun W hW => VR.out.below hW
      have SL : Hid (∀ W, Below wr.heap.size wr W → (∀ j, j < 7 → W.cell? ⟨g1, o1 + (i * 7 + j), none⟩ = (cl7 x)[j]?) ∧ (∀ j, j < 7 → W.cell? ⟨g2, o2 + (i * 7 + j), none⟩ = (cl7 x)[j]?)) := fun W hW => ⟨fun j hj => (hW.cell (p := ⟨g1, o1 + (i * 7 + j), none⟩) hg1).trans (q1 j hj), fun j hj => (hW.cell (p := ⟨g2, o2 + (i * 7 + j), none⟩) hg2).trans (q2 j hj)⟩
      clear q1 q2 hx hxe hB
      go_wp2_with fail
      refine wp_region_noPanic ?_
      refine name_ops ?_
      intro O QQ HO HQ
      refine wp_region_held_drew (S := fun W => Below wr.heap.size wr W) (by kernel_rfl) (Below.refl _ _).drew (fun hS => ?_)
      rw [show O.size = 22 by rw [HO.out]; rfl]
      refine wpAnyH_take (i := 0) (v := .slice (some ⟨g1, o1, none⟩) ts.length c1) (by rw [HO.out]; simp only [List.getElem?_toArray, List.getElem?_cons_succ, List.getElem?_cons_zero]; rfl) (by rw [HO.out]; kernel_rfl) (by rw [HO.out]; kernel_rfl) (by rw [HO.out]; kernel_rfl) (by rw [HQ.out]; exact fun _ _ _ h => h) (Or.inl ⟨by first | rfl | (rw [HO.out]; kernel_rfl), ?_⟩) hS ?_
      · intro w' hSw
        go_simp
      try simp only [Act.put, List.setIfInBounds_toArray, List.set_cons_zero, List.set_cons_succ]
      refine wpAnyH_take (i := 1) (v := .int .i64 i) (by rw [HO.out]; simp only [List.getElem?_toArray, List.getElem?_cons_succ, List.getElem?_cons_zero]; rfl) (by rw [HO.out]; kernel_rfl) (by rw [HO.out]; kernel_rfl) (by rw [HO.out]; kernel_rfl) (by rw [HQ.out]; exact fun _ _ _ h => h) (Or.inl ⟨by first | rfl | (rw [HO.out]; kernel_rfl), ?_⟩) hS ?_
      · intro w' hSw
        go_simp
      try simp only [Act.put, List.setIfInBounds_toArray, List.set_cons_zero, List.set_cons_succ]
      refine wpAnyH_take (i := 2) (v := .pointer (some ⟨g1, o1 + i * 7, none⟩)) (by rw [HO.out]; simp only [List.getElem?_toArray, List.getElem?_cons_succ, List.getElem?_cons_zero]; rfl) (by rw [HO.out]; kernel_rfl) (by rw [HO.out]; kernel_rfl) (by rw [HO.out]; kernel_rfl) (by rw [HQ.out]; exact fun _ _ _ h => h) (Or.inl ⟨by first | rfl | (rw [HO.out]; kernel_rfl), ?_⟩) hS ?_
      · intro w' hSw
        go_simp
      try simp only [Act.put, List.setIfInBounds_toArray, List.set_cons_zero, List.set_cons_succ]
      refine wpAnyH_take (i := 3) (v := .agg #[.int .u8 x.1.k, .string (st x.1.nm), .int .u8 x.1.p, .int .u8 x.1.vk, .int .i64 x.1.vn, .string (st x.1.vs), .int .i64 x.2]) (by rw [HO.out]; simp only [List.getElem?_toArray, List.getElem?_cons_succ, List.getElem?_cons_zero]; rfl) (by rw [HO.out]; kernel_rfl) (by rw [HO.out]; kernel_rfl) (by rw [HO.out]; kernel_rfl) (by rw [HQ.out]; exact fun _ _ _ h => h) (Or.inl ⟨by first | rfl | (rw [HO.out]; kernel_rfl), ?_⟩) hS ?_
      · intro w' hSw
        obtain ⟨e1, e2⟩ := SL.out _ hSw
        have q0 : w'.cell? ⟨g1, o1 + i * 7, none⟩ = some (.int .u8 x.1.k) := e1 0 (by decide)
        have q1 : w'.cell? ⟨g1, o1 + i * 7 + 1, none⟩ = some (.string (st x.1.nm)) := e1 1 (by decide)
        have q2 : w'.cell? ⟨g1, o1 + i * 7 + 2, none⟩ = some (.int .u8 x.1.p) := e1 2 (by decide)
        have q3 : w'.cell? ⟨g1, o1 + i * 7 + 3, none⟩ = some (.int .u8 x.1.vk) := e1 3 (by decide)
        have q4 : w'.cell? ⟨g1, o1 + i * 7 + 4, none⟩ = some (.int .i64 x.1.vn) := e1 4 (by decide)
        have q5 : w'.cell? ⟨g1, o1 + i * 7 + 5, none⟩ = some (.string (st x.1.vs)) := e1 5 (by decide)
        have q6 : w'.cell? ⟨g1, o1 + i * 7 + 6, none⟩ = some (.int .i64 x.2) := e1 6 (by decide)
        clear e1 e2
        go_simp
      try simp only [Act.put, List.setIfInBounds_toArray, List.set_cons_zero, List.set_cons_succ]
      refine wpAnyH_take (i := 4) (v := .slice (some ⟨g2, o2, none⟩) ts.length c2) (by rw [HO.out]; simp only [List.getElem?_toArray, List.getElem?_cons_succ, List.getElem?_cons_zero]; rfl) (by rw [HO.out]; kernel_rfl) (by rw [HO.out]; kernel_rfl) (by rw [HO.out]; kernel_rfl) (by rw [HQ.out]; exact fun _ _ _ h => h) (Or.inl ⟨by first | rfl | (rw [HO.out]; kernel_rfl), ?_⟩) hS ?_
      · intro w' hSw
        go_simp
      try simp only [Act.put, List.setIfInBounds_toArray, List.set_cons_zero, List.set_cons_succ]
      refine wpAnyH_take (i := 5) (v := .int .i64 i) (by rw [HO.out]; simp only [List.getElem?_toArray, List.getElem?_cons_succ, List.getElem?_cons_zero]; rfl) (by rw [HO.out]; kernel_rfl) (by rw [HO.out]; kernel_rfl) (by rw [HO.out]; kernel_rfl) (by rw [HQ.out]; exact fun _ _ _ h => h) (Or.inl ⟨by first | rfl | (rw [HO.out]; kernel_rfl), ?_⟩) hS ?_
      · intro w' hSw
        go_simp
      try simp only [Act.put, List.setIfInBounds_toArray, List.set_cons_zero, List.set_cons_succ]
      refine wpAnyH_take (i := 6) (v := .pointer (some ⟨g2, o2 + i * 7, none⟩)) (by rw [HO.out]; simp only [List.getElem?_toArray, List.getElem?_cons_succ, List.getElem?_cons_zero]; rfl) (by rw [HO.out]; kernel_rfl) (by rw [HO.out]; kernel_rfl) (by rw [HO.out]; kernel_rfl) (by rw [HQ.out]; exact fun _ _ _ h => h) (Or.inl ⟨by first | rfl | (rw [HO.out]; kernel_rfl), ?_⟩) hS ?_
      · intro w' hSw
        go_simp
      try simp only [Act.put, List.setIfInBounds_toArray, List.set_cons_zero, List.set_cons_succ]
      refine wpAnyH_take (i := 7) (v := .agg #[.int .u8 x.1.k, .string (st x.1.nm), .int .u8 x.1.p, .int .u8 x.1.vk, .int .i64 x.1.vn, .string (st x.1.vs), .int .i64 x.2]) (by rw [HO.out]; simp only [List.getElem?_toArray, List.getElem?_cons_succ, List.getElem?_cons_zero]; rfl) (by rw [HO.out]; kernel_rfl) (by rw [HO.out]; kernel_rfl) (by rw [HO.out]; kernel_rfl) (by rw [HQ.out]; exact fun _ _ _ h => h) (Or.inl ⟨by first | rfl | (rw [HO.out]; kernel_rfl), ?_⟩) hS ?_
      · intro w' hSw
        obtain ⟨e1, e2⟩ := SL.out _ hSw
        have q0 : w'.cell? ⟨g2, o2 + i * 7, none⟩ = some (.int .u8 x.1.k) := e2 0 (by decide)
        have q1 : w'.cell? ⟨g2, o2 + i * 7 + 1, none⟩ = some (.string (st x.1.nm)) := e2 1 (by decide)
        have q2 : w'.cell? ⟨g2, o2 + i * 7 + 2, none⟩ = some (.int .u8 x.1.p) := e2 2 (by decide)
        have q3 : w'.cell? ⟨g2, o2 + i * 7 + 3, none⟩ = some (.int .u8 x.1.vk) := e2 3 (by decide)
        have q4 : w'.cell? ⟨g2, o2 + i * 7 + 4, none⟩ = some (.int .i64 x.1.vn) := e2 4 (by decide)
        have q5 : w'.cell? ⟨g2, o2 + i * 7 + 5, none⟩ = some (.string (st x.1.vs)) := e2 5 (by decide)
        have q6 : w'.cell? ⟨g2, o2 + i * 7 + 6, none⟩ = some (.int .i64 x.2) := e2 6 (by decide)
        clear e1 e2
        go_simp
      try simp only [Act.put, List.setIfInBounds_toArray, List.set_cons_zero, List.set_cons_succ]
      refine wpAnyH_take (i := 8) (v := .bool false) (by rw [HO.out]; simp only [List.getElem?_toArray, List.getElem?_cons_succ, List.getElem?_cons_zero]; rfl) (by rw [HO.out]; kernel_rfl) (by rw [HO.out]; kernel_rfl) (by rw [HO.out]; kernel_rfl) (by rw [HQ.out]; exact fun _ _ _ h => h) (Or.inl ⟨by first | rfl | (rw [HO.out]; kernel_rfl), ?_⟩) hS ?_
      · intro w' hSw
        go_simp
      try simp only [Act.put, List.setIfInBounds_toArray, List.set_cons_zero, List.set_cons_succ]
      refine wpAnyH_take (i := 9) (v := .bool false) (by rw [HO.out]; simp only [List.getElem?_toArray, List.getElem?_cons_succ, List.getElem?_cons_zero]; rfl) (by rw [HO.out]; kernel_rfl) (by rw [HO.out]; kernel_rfl) (by rw [HO.out]; kernel_rfl) (by rw [HQ.out]; exact fun _ _ _ h => h) (Or.inl ⟨by first | rfl | (rw [HO.out]; kernel_rfl), ?_⟩) hS ?_
      · intro w' hSw
        go_simp
      try simp only [Act.put, List.setIfInBounds_toArray, List.set_cons_zero, List.set_cons_succ]
      refine wpAnyH_take (i := 10) (v := .slice (some ⟨g1, o1, none⟩) ts.length c1) (by rw [HO.out]; simp only [List.getElem?_toArray, List.getElem?_cons_succ, List.getElem?_cons_zero]; rfl) (by rw [HO.out]; kernel_rfl) (by rw [HO.out]; kernel_rfl) (by rw [HO.out]; kernel_rfl) (by rw [HQ.out]; exact fun _ _ _ h => h) (Or.inl ⟨by first | rfl | (rw [HO.out]; kernel_rfl), ?_⟩) hS ?_
      · intro w' hSw
        go_simp
      try simp only [Act.put, List.setIfInBounds_toArray, List.set_cons_zero, List.set_cons_succ]
      refine wpAnyH_take (i := 11) (v := .int .i64 i) (by rw [HO.out]; simp only [List.getElem?_toArray, List.getElem?_cons_succ, List.getElem?_cons_zero]; rfl) (by rw [HO.out]; kernel_rfl) (by rw [HO.out]; kernel_rfl) (by rw [HO.out]; kernel_rfl) (by rw [HQ.out]; exact fun _ _ _ h => h) (Or.inl ⟨by first | rfl | (rw [HO.out]; kernel_rfl), ?_⟩) hS ?_
      · intro w' hSw
        go_simp
      try simp only [Act.put, List.setIfInBounds_toArray, List.set_cons_zero, List.set_cons_succ]
      refine wpAnyH_take (i := 12) (v := .pointer (some ⟨g1, o1 + i * 7, none⟩)) (by rw [HO.out]; simp only [List.getElem?_toArray, List.getElem?_cons_succ, List.getElem?_cons_zero]; rfl) (by rw [HO.out]; kernel_rfl) (by rw [HO.out]; kernel_rfl) (by rw [HO.out]; kernel_rfl) (by rw [HQ.out]; exact fun _ _ _ h => h) (Or.inl ⟨by first | rfl | (rw [HO.out]; kernel_rfl), ?_⟩) hS ?_
      · intro w' hSw
        go_simp
      try simp only [Act.put, List.setIfInBounds_toArray, List.set_cons_zero, List.set_cons_succ]
      refine wpAnyH_take (i := 13) (v := .agg #[.int .u8 x.1.k, .string (st x.1.nm), .int .u8 x.1.p, .int .u8 x.1.vk, .int .i64 x.1.vn, .string (st x.1.vs), .int .i64 x.2]) (by rw [HO.out]; simp only [List.getElem?_toArray, List.getElem?_cons_succ, List.getElem?_cons_zero]; rfl) (by rw [HO.out]; kernel_rfl) (by rw [HO.out]; kernel_rfl) (by rw [HO.out]; kernel_rfl) (by rw [HQ.out]; exact fun _ _ _ h => h) (Or.inl ⟨by first | rfl | (rw [HO.out]; kernel_rfl), ?_⟩) hS ?_
      · intro w' hSw
        obtain ⟨e1, e2⟩ := SL.out _ hSw
        have q0 : w'.cell? ⟨g1, o1 + i * 7, none⟩ = some (.int .u8 x.1.k) := e1 0 (by decide)
        have q1 : w'.cell? ⟨g1, o1 + i * 7 + 1, none⟩ = some (.string (st x.1.nm)) := e1 1 (by decide)
        have q2 : w'.cell? ⟨g1, o1 + i * 7 + 2, none⟩ = some (.int .u8 x.1.p) := e1 2 (by decide)
        have q3 : w'.cell? ⟨g1, o1 + i * 7 + 3, none⟩ = some (.int .u8 x.1.vk) := e1 3 (by decide)
        have q4 : w'.cell? ⟨g1, o1 + i * 7 + 4, none⟩ = some (.int .i64 x.1.vn) := e1 4 (by decide)
        have q5 : w'.cell? ⟨g1, o1 + i * 7 + 5, none⟩ = some (.string (st x.1.vs)) := e1 5 (by decide)
        have q6 : w'.cell? ⟨g1, o1 + i * 7 + 6, none⟩ = some (.int .i64 x.2) := e1 6 (by decide)
        clear e1 e2
        go_simp
      try simp only [Act.put, List.setIfInBounds_toArray, List.set_cons_zero, List.set_cons_succ]
      refine wpAnyH_take (i := 15) (v := .slice (some ⟨g2, o2, none⟩) ts.length c2) (by rw [HO.out]; simp only [List.getElem?_toArray, List.getElem?_cons_succ, List.getElem?_cons_zero]; rfl) (by rw [HO.out]; kernel_rfl) (by rw [HO.out]; kernel_rfl) (by rw [HO.out]; kernel_rfl) (by rw [HQ.out]; exact fun _ _ _ h => h) (Or.inl ⟨by first | rfl | (rw [HO.out]; kernel_rfl), ?_⟩) hS ?_
      · intro w' hSw
        go_simp
      try simp only [Act.put, List.setIfInBounds_toArray, List.set_cons_zero, List.set_cons_succ]
      refine wpAnyH_take (i := 16) (v := .int .i64 i) (by rw [HO.out]; simp only [List.getElem?_toArray, List.getElem?_cons_succ, List.getElem?_cons_zero]; rfl) (by rw [HO.out]; kernel_rfl) (by rw [HO.out]; kernel_rfl) (by rw [HO.out]; kernel_rfl) (by rw [HQ.out]; exact fun _ _ _ h => h) (Or.inl ⟨by first | rfl | (rw [HO.out]; kernel_rfl), ?_⟩) hS ?_
      · intro w' hSw
        go_simp
      try simp only [Act.put, List.setIfInBounds_toArray, List.set_cons_zero, List.set_cons_succ]
      refine wpAnyH_take (i := 17) (v := .pointer (some ⟨g2, o2 + i * 7, none⟩)) (by rw [HO.out]; simp only [List.getElem?_toArray, List.getElem?_cons_succ, List.getElem?_cons_zero]; rfl) (by rw [HO.out]; kernel_rfl) (by rw [HO.out]; kernel_rfl) (by rw [HO.out]; kernel_rfl) (by rw [HQ.out]; exact fun _ _ _ h => h) (Or.inl ⟨by first | rfl | (rw [HO.out]; kernel_rfl), ?_⟩) hS ?_
      · intro w' hSw
        go_simp
      try simp only [Act.put, List.setIfInBounds_toArray, List.set_cons_zero, List.set_cons_succ]
      refine wpAnyH_take (i := 18) (v := .agg #[.int .u8 x.1.k, .string (st x.1.nm), .int .u8 x.1.p, .int .u8 x.1.vk, .int .i64 x.1.vn, .string (st x.1.vs), .int .i64 x.2]) (by rw [HO.out]; simp only [List.getElem?_toArray, List.getElem?_cons_succ, List.getElem?_cons_zero]; rfl) (by rw [HO.out]; kernel_rfl) (by rw [HO.out]; kernel_rfl) (by rw [HO.out]; kernel_rfl) (by rw [HQ.out]; exact fun _ _ _ h => h) (Or.inl ⟨by first | rfl | (rw [HO.out]; kernel_rfl), ?_⟩) hS ?_
      · intro w' hSw
        obtain ⟨e1, e2⟩ := SL.out _ hSw
        have q0 : w'.cell? ⟨g2, o2 + i * 7, none⟩ = some (.int .u8 x.1.k) := e2 0 (by decide)
        have q1 : w'.cell? ⟨g2, o2 + i * 7 + 1, none⟩ = some (.string (st x.1.nm)) := e2 1 (by decide)
        have q2 : w'.cell? ⟨g2, o2 + i * 7 + 2, none⟩ = some (.int .u8 x.1.p) := e2 2 (by decide)
        have q3 : w'.cell? ⟨g2, o2 + i * 7 + 3, none⟩ = some (.int .u8 x.1.vk) := e2 3 (by decide)
        have q4 : w'.cell? ⟨g2, o2 + i * 7 + 4, none⟩ = some (.int .i64 x.1.vn) := e2 4 (by decide)
        have q5 : w'.cell? ⟨g2, o2 + i * 7 + 5, none⟩ = some (.string (st x.1.vs)) := e2 5 (by decide)
        have q6 : w'.cell? ⟨g2, o2 + i * 7 + 6, none⟩ = some (.int .i64 x.2) := e2 6 (by decide)
        clear e1 e2
        go_simp
      try simp only [Act.put, List.setIfInBounds_toArray, List.set_cons_zero, List.set_cons_succ]
      refine wpAnyH_one (i := 14) (x := 61) (R := fun v _ => v = .string tx) (by rw [HO.out]; simp only [List.getElem?_toArray, List.getElem?_cons_succ, List.getElem?_cons_zero]; rfl) (by rw [HO.out]; kernel_rfl) hS ?_ ?_
      · intro K hK
        simp only [Act.put, List.setIfInBounds_toArray, List.set_cons_zero, List.set_cons_succ] at hK
        unfold Steps
        rw [if_pos (by rw [HO.out]; kernel_rfl)]
        go_simp
        refine (CT _ (HV.out _ hS)).mono ?_
        rintro e w9 ⟨rfl, hb9⟩
        exact hK _ _ rfl hb9
      rintro v9 w9 hv9 hb9 hS9
      obtain rfl := hv9
      clear hb9
      replace hS := hS9
      clear hS9
      try simp only [Act.put, List.setIfInBounds_toArray, List.set_cons_zero, List.set_cons_succ]
      refine wpAnyH_one (i := 19) (x := 66) (R := fun v _ => v = .string tx) (by rw [HO.out]; simp only [List.getElem?_toArray, List.getElem?_cons_succ, List.getElem?_cons_zero]; rfl) (by rw [HO.out]; kernel_rfl) hS ?_ ?_
      · intro K hK
        simp only [Act.put, List.setIfInBounds_toArray, List.set_cons_zero, List.set_cons_succ] at hK
        unfold Steps
        rw [if_pos (by rw [HO.out]; kernel_rfl)]
        go_simp
        refine (CU _).mono ?_
        rintro e w9 ⟨rfl, hb9⟩
        exact hK _ _ rfl hb9
      rintro v9 w9 hv9 hb9 hS9
      obtain rfl := hv9
      clear hb9
      replace hS := hS9
      clear hS9
      try simp only [Act.put, List.setIfInBounds_toArray, List.set_cons_zero, List.set_cons_succ]
      refine wpAnyH_take (i := 20) (v := .bool false) (by rw [HO.out]; simp only [List.getElem?_toArray, List.getElem?_cons_succ, List.getElem?_cons_zero]; rfl) (by rw [HO.out]; kernel_rfl) (by rw [HO.out]; kernel_rfl) (by rw [HO.out]; kernel_rfl) (by rw [HQ.out]; exact fun _ _ _ h => h) (Or.inl ⟨by first | rfl | (rw [HO.out]; kernel_rfl), ?_⟩) hS ?_
      · intro w' hSw
        go_simp
      try simp only [Act.put, List.setIfInBounds_toArray, List.set_cons_zero, List.set_cons_succ]
      refine wpAnyH_take (i := 21) (v := .bool false) (by rw [HO.out]; simp only [List.getElem?_toArray, List.getElem?_cons_succ, List.getElem?_cons_zero]; rfl) (by rw [HO.out]; kernel_rfl) (by rw [HO.out]; kernel_rfl) (by rw [HO.out]; kernel_rfl) (by rw [HQ.out]; exact fun _ _ _ h => h) (Or.inl ⟨by first | rfl | (rw [HO.out]; kernel_rfl), ?_⟩) hS ?_
      · intro w' hSw
        go_simp
      try simp only [Act.put, List.setIfInBounds_toArray, List.set_cons_zero, List.set_cons_succ]
      refine wpAnyH_done (by rw [HO.out]; kernel_rfl) ?_ _
      rw [HQ.out]
      refine NoPanic.normal ?_
      go_wp2
      go_roundw
      case rel => exact ⟨i + 1, by simp, by omega, bt hbr hS⟩
      case measure => simp [intOf]; omega
    · have hiz : ¬ (i : Int) < ts.length := by omega
      go_wp2_with (first | (go_at_call 8; refine (HA _ VR.out).mono ?_; rintro e wz ⟨rfl, bz⟩; clear HA))
      go_ret
      exact ⟨rfl, bt BR.out bz⟩
theorem walk (s0 : ByteArray) (w : World) (hV : Vars w) (w0 : s0.size ≤ maxLen) : Calls Tryd.prog 3 #[.string s0] w fun e w' => e = .returned (.bool true) ∧ Below w.heap.size w w' := by
  by_cases h : 3000 < s0.size
  · exact walk_a s0 w hV w0 h
  · exact walk_d s0 w hV w0 h
set_option maxRecDepth 100000 in
theorem lifted (os : Os) (started : os.Started) (H : Type) (enc : TypeId × Value → H) :
    ReturnsInHanded {} Tryd.checked os 3 .any (fun w args => (Rows.lexScansSpec.pre enc Tryd.prog Tryd.f3 Rows.lexScansRow.domain false w args ∧ laidMet Tryd.prog laids w) ∧ sizedMet enc Tryd.prog Tryd.f3 (OpenSpec.ofChange Rows.lexScansSpec) false w args)
      (Rows.lexScansSpec.post enc Tryd.prog Tryd.f3 false true false false) := by
  refine returnsInHanded_of_change_and (C := Tryd.checked) (X := fun w _ => laidMet Tryd.prog laids w) (fun _ _ _ hh h => h.of_heap hh) own started (by kernel_rfl) Tryd.func3
    (ChangeSpec.witness_at (enc := enc) (C := Tryd.checked) (os := os) (X := fun w _ => laidMet Tryd.prog laids w) false (laidWorld os) #[.string ByteArray.empty] 8 rfl (by kernel_rfl) (by kernel_rfl) (by kernel_rfl) (by kernel_rfl) (by kernel_rfl) (laidWorld_met os _)) ?_
  intro W base args ds gs before hval0 hW _ hsz0 hL _
  have hval : ∀ (j : Nat) t v, Tryd.f3.params[j]? = some t → args[j]? = some v → Value.okWide Tryd.prog W .any base t v := hval0
  have hW' := hW
  obtain ⟨p, q, hA0, hV, rfl, hfz, hnd⟩ := hW
  have hA : DataW.TrodAll enc Tryd.prog W 0 (fun _ => true) true Tryd.f3.params.toList args.toList ds p := hA0
  rw [Tryd.params3] at hA hval
  have hVars := vars_of hL
  obtain ⟨v0, vs0, d'0, ds0, q0, r'0, hargs, rfl, rfl, h0, r0⟩ := trodAll_cons hA
  obtain ⟨rfl, rfl, rfl⟩ := trodAll_nil r0
  obtain rfl : args = #[v0] := by cases args; simp_all
  obtain ⟨rfl, rfl⟩ := trodVars_none hV
  obtain ⟨s0, rfl, rfl, rfl, w0⟩ := Go.ChangeMaps.open_string Tryd.underlying9 (hval 0 9 v0 rfl rfl) h0
  clear hA0 hval0
  refine (walk s0 W hVars w0).mono fun e W' ⟨he, bel⟩ => ?_
  subst he
  exact ⟨_, rfl, _, _, _, [], _, [], hW', trodAll_mk1 (shut_bool Tryd.underlying4 _), (trodAll_cons_mk (Go.ChangeMaps.shut_string Tryd.underlying9 w0) trodAll_mk0), rfl, bel.frame _, fun h => by cases h⟩

theorem over : Rows.lexScansRow.holds Tryd.pinned (OpenSpec.ofChange Rows.lexScansSpec) :=
  OpenClaim.holds_of_wide 3 Tryd.f3 rfl rfl rfl rfl rfl rfl rfl ⟨rfl, rfl, rfl, rfl, rfl⟩ rfl rfl rfl rfl rfl (by kernel_rfl) Tryd.func3 (by kernel_rfl)
    (of_decide_eq_true (by kernel_rfl)) (by unfold Func.isWrapper; first | (rw [if_pos (by decide +kernel)]; kernel_rfl) | (rw [if_neg (by decide +kernel)]; exact ⟨rfl, rfl⟩))
    (fun os started H enc _ => lifted os started H enc)
theorem stand (j : Nat) (t : TypeId) (ht : Tryd.f3.params[j]? = some t) : Tryd.prog.wantsStandIn t = false := by
  rw [Tryd.params3] at ht
  rcases j with _ | j
  · obtain rfl : 9 = t := by simpa using ht
    kernel_rfl
  simp at ht
end Go.Proofs.YtglimefhiggdeaaDoor.lexScans

namespace Go.Proofs.YtglimefhiggdeaaDoor
theorem lexScans_holds : Rows.LexScansCardSaid :=
  Claim7.holds_tied_plain_at .later [] [.data, .data, .data, .data, .sentinel, .sentinel, .pinned] true (true, "62c4cb96e34a2f4dadd50a21420b8e5883497955c56b2fe545650bb9173c7b78") true
    lexScans.over (fun _ h => by cases h) (by kernel_rfl) (fun _ h => by cases h) lexScans_row_tie rfl ⟨rfl, rfl⟩ (by kernel_rfl) rfl
    (fun f fn hf hfn => by
      obtain rfl : f = 3 := Option.some.inj ((show Tryd.prog.funcNamed Rows.lexScansRow.func = some 3 by kernel_rfl).symm.trans hf) |>.symm
      obtain rfl : fn = Tryd.f3 := (Option.some.inj (Tryd.func3.symm.trans hfn)).symm
      exact ⟨by kernel_rfl, lexScans.stand⟩)
    (by kernel_rfl)
#print axioms lexScans_holds
end Go.Proofs.YtglimefhiggdeaaDoor
