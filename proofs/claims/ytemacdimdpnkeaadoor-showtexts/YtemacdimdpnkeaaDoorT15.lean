import Derived.Test.YtemacdimdpnkeaaDoorT14
import Derived.Test.YtemacdimdpnkeaaDoorT12
import Derived.Deep.RegionLaw
import Derived.Deep.RegionHeld3
namespace Go.Proofs.YtemacdimdpnkeaaDoor
open Go.RowKit
set_option linter.unusedVariables false
set_option linter.unusedSimpArgs false
set_option maxRecDepth 20000
theorem ret_sg {a b : Str} (h : a = b) : Ending.returned (.string (st a)) = .returned (.string (st b)) := by rw [h]
set_option maxHeartbeats 1000000 in
theorem sgn_any (k : Int) (w : World) : Calls Tryd.prog 42 #[.int .u8 k] w fun e w' => e = .returned (.string (st (sgS k))) ∧ w' = w := by
  by_cases h2 : k = 2
  · subst h2
    go_enter Tryd.func42, Tryd.ntmps42
    go_wp2
    go_ret
    exact ⟨rfl, rfl⟩
  · by_cases h3 : k = 3
    · subst h3
      go_enter Tryd.func42, Tryd.ntmps42
      go_wp2
      go_ret
      exact ⟨rfl, rfl⟩
    · by_cases h4 : k = 4
      · subst h4
        go_enter Tryd.func42, Tryd.ntmps42
        go_wp2
        go_ret
        exact ⟨rfl, rfl⟩
      · have HS : Hid (sgS k = []) := sgS_no (by omega)
        go_enter Tryd.func42, Tryd.ntmps42
        go_wp2
        go_ret
        exact ⟨ret_sg HS.out.symm, rfl⟩
theorem getD_nums (P : List Nat) (j : Nat) (h : j < P.length) : (nums P)[j]? = some (.int .i64 ((P.getD j 0 : Nat) : Int)) := by
  unfold nums
  rw [List.getElem?_map, List.getD_eq_getElem?_getD, List.getElem?_eq_getElem h]; rfl
def HdPost (w : World) (L : List ItemD) (e : Ending) (w' : World) : Prop := Below w.heap.size w w' ∧ match headsE L 0 (List.replicate L.length []) [] with
  | some (A, [_]) => ∃ k vals, e = .returned (.tuple #[.slice (some ⟨k, 0, none⟩) L.length L.length, .bool true]) ∧ Ahd w' w.heap.size k L.length vals A
  | _ => ∃ v, e = .returned (.tuple #[v, .bool false])
theorem HdPost.yes {w w' : World} {L : List ItemD} {A : List (List Int)} {s k : Nat} {vals : List Value} (hb : Below w.heap.size w w') (h : headsE L 0 (List.replicate L.length []) [] = some (A, [s])) (ha : Ahd w' w.heap.size k L.length vals A) : HdPost w L (.returned (.tuple #[.slice (some ⟨k, 0, none⟩) L.length L.length, .bool true])) w' := by
  refine ⟨hb, ?_⟩
  rw [h]; exact ⟨k, vals, rfl, ha⟩
theorem HdPost.no {w w' : World} {L : List ItemD} {v : Value} (hb : Below w.heap.size w w') (h : ∀ A s, headsE L 0 (List.replicate L.length []) [] ≠ some (A, [s])) : HdPost w L (.returned (.tuple #[v, .bool false])) w' := by
  refine ⟨hb, ?_⟩
  split
  · rename_i A s e; exact absurd e (h A s)
  · exact ⟨v, rfl⟩
def InL (P : List Nat) (i : Nat) : Prop := ∀ s ∈ P, s < i
theorem drop_at {L : List ItemD} {i : Nat} (h : i < L.length) : L.drop i = L.getD i i0 :: L.drop (i + 1) := by
  rw [List.drop_eq_getElem_cons h, List.getD_eq_getElem?_getD, List.getElem?_eq_getElem h]; rfl
theorem headsE_push {L : List ItemD} {i : Nat} {A : List (List Int)} {P : List Nat} (h : i < L.length) {x : ItemD} (hx : x = L.getD i i0) (hk : x.k = 0 ∨ x.k = 1) : headsE (L.drop i) i A P = headsE (L.drop (i + 1)) (i + 1) A (P ++ [i]) := by
  rw [drop_at h, ← hx, headsE, if_pos hk]
theorem headsE_op {L : List ItemD} {i : Nat} {A : List (List Int)} {P : List Nat} (h : i < L.length) {x : ItemD} (hx : x = L.getD i i0) (hk : x.k = 2 ∨ x.k = 3 ∨ x.k = 4) (h2 : ¬ P.length < 2) : headsE (L.drop i) i A P = headsE (L.drop (i + 1)) (i + 1) (A.set (P.getD (P.length - 2) 0) (A.getD (P.getD (P.length - 2) 0) [] ++ [x.k])) (P.take (P.length - 1)) := by
  rw [drop_at h, ← hx, headsE, if_neg (by omega), if_pos hk, if_neg h2]
theorem headsE_few {L : List ItemD} {i : Nat} {A : List (List Int)} {P : List Nat} (h : i < L.length) {x : ItemD} (hx : x = L.getD i i0) (hk : x.k = 2 ∨ x.k = 3 ∨ x.k = 4) (h2 : P.length < 2) : headsE (L.drop i) i A P = none := by
  rw [drop_at h, ← hx, headsE, if_neg (by omega), if_pos hk, if_pos h2]
theorem headsE_no {L : List ItemD} {i : Nat} {A : List (List Int)} {P : List Nat} (h : i < L.length) {x : ItemD} (hx : x = L.getD i i0) (hk : ¬ (x.k = 0 ∨ x.k = 1)) (hk2 : ¬ (x.k = 2 ∨ x.k = 3 ∨ x.k = 4)) : headsE (L.drop i) i A P = none := by
  rw [drop_at h, ← hx, headsE, if_neg hk, if_neg hk2]
theorem Ahd.drew {w : World} {B k n : Nat} {vals : List Value} {A : List (List Int)} (h : Ahd w B k n vals A) : Ahd w.drew B k n vals A := ⟨h.own, h.lenA, h.rows, h.apart⟩
theorem Ahd.alloc {w : World} {B k n : Nat} {vals : List Value} {A : List (List Int)} (h : Ahd w B k n vals A) (o : Obj) : Ahd (w.alloc o) B k n vals A := h.kept (World.grownBy_alloc w o none) (fun r e => by cases e)
theorem new_at {w : World} {o : Obj} {X : Nat} (hX : X = w.heap.size) : (w.alloc o).heap[X]? = some o := by subst hX; exact heap_alloc_new w o
theorem addr_add (g j : Nat) : (⟨g, 0, none⟩ : Addr).add j = ⟨g, j, none⟩ := by unfold Addr.add; split <;> simp_all
theorem Ahd.cell {w : World} {B k n j : Nat} {vals : List Value} {A : List (List Int)} (h : Ahd w B k n vals A) (hj : j < n) : w.cell? ⟨k, j, none⟩ = some (vals.getD j nilS0) ∧ w.frozen? ⟨k, j, none⟩ = false ∧ k < w.heap.size := by
  obtain ⟨cur, h1, h2⟩ := own_ty h.own (g := k) rfl
  have := h.own.cells (g := k) rfl j (vals.getD j nilS0) (by rw [List.getD_eq_getElem?_getD, List.getElem?_eq_getElem (by have := h.len; omega)]; rfl)
  rw [addr_add] at this
  exact ⟨this, Lib.frozen_of_heap h1 j, h2⟩
theorem Ahd.far {w w1 : World} {B k n j b : Nat} {vals : List Value} {A : List (List Int)} (h : Ahd w B k n vals A) (hj : j < n) (hb : b < n) (hg : w.grownBy w1 (vals.getD b nilS0).ownBlock) : w1.cell? ⟨k, j, none⟩ = some (vals.getD j nilS0) ∧ w1.frozen? ⟨k, j, none⟩ = false ∧ k < w1.heap.size ∧ w1.ownsRow B 81 1 (.slice (some ⟨k, 0, none⟩) n n) n vals := by
  obtain ⟨c1, c2, c3⟩ := h.cell hj
  have hne : some k ≠ (vals.getD b nilS0).ownBlock := by
    intro e
    obtain ⟨c5, h5, -⟩ := own_ty (h.rows b hb) (g := k) e.symm
    obtain ⟨cur, h1, h2⟩ := own_ty h.own (g := k) rfl
    rw [h1] at h5
    exact absurd (Obj.cells.inj (Option.some.inj h5)).2.1 (by decide)
  exact ⟨(hg.cell_far ⟨k, j, none⟩ c3 hne).trans c1, (hg.frozen_far ⟨k, j, none⟩ c3 hne).trans c2, Nat.lt_of_lt_of_le c3 hg.size, h.own.kept hg (.inr hne)⟩
theorem own_apart {w : World} {B e e' n n' : Nat} {v v' : Value} {xs xs' : List Value} (h : w.ownsRow B e 1 v n xs) (h' : w.ownsRow B e' 1 v' n' xs') (hne : e ≠ e') : v.ownBlock = none ∨ v.ownBlock ≠ v'.ownBlock := by
  cases hv : v.ownBlock with
  | none => exact .inl rfl
  | some g =>
    refine .inr fun e => ?_
    obtain ⟨c, h1, -⟩ := own_ty h hv
    obtain ⟨c', h2, -⟩ := own_ty h' e.symm
    rw [h1] at h2
    exact hne (Obj.cells.inj (Option.some.inj h2)).2.1
theorem InL.snoc {P : List Nat} {i : Nat} (h : InL P i) : InL (P ++ [i]) (i + 1) := fun s hs => by
  rcases List.mem_append.1 hs with a | a
  · have := h s a; omega
  · rw [List.mem_singleton.1 a]; omega
theorem InL.init {P : List Nat} {i m : Nat} (h : InL P i) : InL (P.take m) (i + 1) := fun s hs => by have := h s (List.mem_of_mem_take hs); omega
theorem nums_take (P : List Nat) (m : Nat) : (nums P).take m = nums (P.take m) := by unfold nums; rw [List.map_take]
theorem nums_snoc (P : List Nat) (i : Nat) : nums P ++ [Value.int .i64 (i : Int)] = nums (P ++ [i]) := by unfold nums; rw [List.map_append]; rfl
theorem getD_memN (P : List Nat) (j d : Nat) (h : j < P.length) : P.getD j d ∈ P := by
  rw [List.getD_eq_getElem?_getD, List.getElem?_eq_getElem h]; exact List.getElem_mem h
set_option maxHeartbeats 4000000 in
theorem heads_any {Q1 : Nat → Prop} (v1 : Value) (L : List ItemD) (w : World) (h1 : SlW 5 w Q1 v1 (L.map clI)) (hl : L.length ≤ 100000) :
    Calls Tryd.prog 41 #[v1] w (HdPost w L) := by
  obtain ⟨a1, c1, rfl⟩ := h1.shape
  obtain ⟨-, l1, m1, r1⟩ := h1.row
  simp only [List.length_map] at *
  have R1 : Hid (∀ i, i < L.length → ∃ b off, a1 = some ⟨b, off, none⟩ ∧ b < w.heap.size ∧ ∀ j, j < 5 → w.cell? ⟨b, off + (i * 5 + j), none⟩ = ((L.map clI).getD i [])[j]?) := r1
  have HL : Hid (L.length ≤ 100000) := hl
  obtain ⟨i3, hi3, hz3, hz31, hz32⟩ := info_parts infoInt3
  obtain ⟨i5, hi5, hz5, hz51, hz52⟩ := info_parts infoByte5
  clear r1 h1 hl
  have hnn : (L.length : Int) ≤ 9223372036854775807 := by omega
  go_enter Tryd.func41, Tryd.ntmps41
  go_wp2_with (refine wp_make91 rfl _ _ rfl L.length (by have := HL.out; omega) rfl rfl ?_; intro w1 ha1 hb1 hs1; have HA1 : Hid (Ahd w1 w.heap.size w.heap.size L.length (List.replicate L.length nilS0) (List.replicate L.length [])) := ha1; have HB1 : Hid (Below w.heap.size w w1) := hb1; clear ha1 hb1)
  go_loopw [5, 14] (fun v5 v14 wr => ∃ (i : Nat) (A : List (List Int)) (P : List Nat) (vals : List Value), v14 = .int .i64 i ∧ i ≤ L.length ∧ wr.ownsRow w.heap.size 3 1 v5 P.length (nums P) ∧ Ahd wr w.heap.size w.heap.size L.length vals A ∧ Below w.heap.size w wr ∧ InL P i ∧ P.length ≤ i ∧ (∀ j, (A.getD j []).length ≤ i) ∧ headsE L 0 (List.replicate L.length []) [] = headsE (L.drop i) i A P) (fun _ v14 _ => (L.length - intOf v14).toNat)
  case atStart => exact ⟨0, _, [], _, rfl, Nat.zero_le _, ⟨rfl, .inl ⟨rfl, rfl⟩⟩, HA1.out, HB1.out, (fun s hs => by cases hs), Nat.zero_le _, (fun j => by rw [List.getD_eq_getElem?_getD, List.getElem?_replicate]; split <;> exact Nat.zero_le _), by rw [List.drop_zero]⟩
  case round =>
    obtain ⟨i, A, P, vals, rfl, hi, hown, hah, hbl, hin, hpl, hnb, heq⟩ := hrel
    have HO : Hid (wr.ownsRow w.heap.size 3 1 u5 P.length (nums P)) := hown
    have HA : Hid (Ahd wr w.heap.size w.heap.size L.length vals A) := hah
    have HB : Hid (Below w.heap.size w wr) := hbl
    have HI : Hid (InL P i) := hin
    have HE : Hid (headsE L 0 (List.replicate L.length []) [] = headsE (L.drop i) i A P) := heq
    have hsz := hbl.size
    have HPI : Hid (P.length ≤ i) := hpl
    have HPL : Hid (P.length ≤ 100000) := by have h := HL.out; show P.length ≤ 100000; omega
    have HNI : Hid (∀ j, (A.getD j []).length ≤ i) := hnb
    have HNB : Hid (∀ j, (A.getD j []).length ≤ 1000000) := fun j => by have h := HL.out; have := hnb j; omega
    obtain ⟨a5, c5, rfl⟩ : ∃ a5 c5, u5 = .slice a5 P.length c5 := by
      rcases hown.2 with ⟨e, h0⟩ | ⟨g, cap, cur, e, -⟩
      · exact ⟨none, 0, by rw [e, h0]⟩
      · exact ⟨_, cap, e⟩
    clear hown hah hbl hin heq hpl hnb HA1 HB1 hs1
    by_cases hlt : i < L.length
    · have hiz : (i : Int) < L.length := by omega
      obtain ⟨b1, o1, rfl, hb1, q1⟩ := R1.out i hlt
      rw [getD_map clI L i i0 hlt] at q1
      obtain ⟨x, hx⟩ : ∃ x, x = L.getD i i0 := ⟨_, rfl⟩
      rw [← hx] at q1
      have HX : Hid (x = L.getD i i0) := hx
      clear hx
      have p0 : wr.cell? ⟨b1, o1 + i * 5, none⟩ = some (.int .u8 x.k) := (HB.out.cell (p := ⟨b1, o1 + i * 5, none⟩) hb1).trans (q1 0 (by decide))
      have p1 : wr.cell? ⟨b1, o1 + i * 5 + 1, none⟩ = some (.int .u8 x.x.k) := (HB.out.cell (p := ⟨b1, o1 + i * 5 + 1, none⟩) hb1).trans (q1 1 (by decide))
      have p2 : wr.cell? ⟨b1, o1 + i * 5 + 2, none⟩ = some (.int .i64 x.x.n) := (HB.out.cell (p := ⟨b1, o1 + i * 5 + 2, none⟩) hb1).trans (q1 2 (by decide))
      have p3 : wr.cell? ⟨b1, o1 + i * 5 + 3, none⟩ = some (.string (st x.x.s)) := (HB.out.cell (p := ⟨b1, o1 + i * 5 + 3, none⟩) hb1).trans (q1 3 (by decide))
      have p4 : wr.cell? ⟨b1, o1 + i * 5 + 4, none⟩ = some (.string (st x.v)) := (HB.out.cell (p := ⟨b1, o1 + i * 5 + 4, none⟩) hb1).trans (q1 4 (by decide))
      clear q1
      obtain ⟨kx, xx, vx⟩ := x
      dsimp only at p0 p1 p2 p3 p4
      by_cases k0 : kx = 0
      · subst k0
        have HK := headsE_push (A := A) (P := P) hlt HX.out (by simp)
        have HE2 : Hid (headsE L 0 (List.replicate L.length []) [] = headsE (L.drop (i + 1)) (i + 1) A (P ++ [i])) := HE.out.trans HK
        clear HK
        have hPl : P.length ≤ 100000 := HPL.out
        go_wp2_with (at_builtin; refine wpList_append_lies (P := Tryd.prog) _ rfl _ _ 113 rfl w.heap.size 3 i3 (.int .i64 0) 1 8 Tryd.underlying113 hi3 hz3 hz31 hz32 rfl (by decide) _ P.length (nums P) rfl ((HO.out.alloc _).alloc _) ⟨wr.heap.size + 1, 0, none⟩ 1 1 [.int .i64 i] rfl rfl (World.news_of_block (cs := #[.int .i64 i]) (t := 3) (fr := (0, 0)) (new_at (by simp))) (by simp [Value.oneCell']) (by decide) (by unfold maxLen; omega) (by omega) (by simp; omega) _ rfl ?_; intro g5 cap5 w5 ho5 hg5 hw5 hlt5; have HO5 : Hid (w5.ownsRow w.heap.size 3 1 (.slice (some ⟨g5, 0, none⟩) (P.length + 1) cap5) (P.length + 1) (nums P ++ [.int .i64 i])) := ho5; have HG5 : Hid (World.grownBy _ w5 _) := hg5; clear ho5 hg5 hw5)
        go_roundw
        case rel =>
          refine ⟨i + 1, A, P ++ [i], vals, by simp, by omega, ?_, ?_, ?_, HI.out.snoc, by have := HPI.out; rw [List.length_append]; simp; omega, fun j => Nat.le_succ_of_le (HNI.out j), HE2.out⟩
          · rw [← nums_snoc, List.length_append]; exact HO5.out
          · exact ((HA.out.alloc _).alloc _).kept HG5.out (fun r hr => by obtain ⟨cur, e, -⟩ := own_ty ((HO.out.alloc (.cells #[.int .u8 0, .int .u8 xx.k, .int .i64 xx.n, .string (st xx.s), .string (st vx)] 27)).alloc (.cells #[.int .i64 i] 3)) hr; exact ⟨cur, 3, _, e, by decide, by decide⟩)
          · exact ((HB.out.alloc hsz _).alloc (by simp; omega) _).grown HG5.out (by simp; omega) (fun k hk => (((HO.out.alloc (.cells #[.int .u8 0, .int .u8 xx.k, .int .i64 xx.n, .string (st xx.s), .string (st vx)] 27)).alloc (.cells #[.int .i64 i] 3)).lt k hk).1)
        case measure => simp [intOf]; omega
      · by_cases k1 : kx = 1
        · subst k1
          have HK := headsE_push (A := A) (P := P) hlt HX.out (by simp)
          have HE2 : Hid (headsE L 0 (List.replicate L.length []) [] = headsE (L.drop (i + 1)) (i + 1) A (P ++ [i])) := HE.out.trans HK
          clear HK
          have hPl : P.length ≤ 100000 := HPL.out
          go_wp2_with (at_builtin; refine wpList_append_lies (P := Tryd.prog) _ rfl _ _ 113 rfl w.heap.size 3 i3 (.int .i64 0) 1 8 Tryd.underlying113 hi3 hz3 hz31 hz32 rfl (by decide) _ P.length (nums P) rfl ((HO.out.alloc _).alloc _) ⟨wr.heap.size + 1, 0, none⟩ 1 1 [.int .i64 i] rfl rfl (World.news_of_block (cs := #[.int .i64 i]) (t := 3) (fr := (0, 0)) (new_at (by simp))) (by simp [Value.oneCell']) (by decide) (by unfold maxLen; omega) (by omega) (by simp; omega) _ rfl ?_; intro g5 cap5 w5 ho5 hg5 hw5 hlt5; have HO5 : Hid (w5.ownsRow w.heap.size 3 1 (.slice (some ⟨g5, 0, none⟩) (P.length + 1) cap5) (P.length + 1) (nums P ++ [.int .i64 i])) := ho5; have HG5 : Hid (World.grownBy _ w5 _) := hg5; clear ho5 hg5 hw5)
          go_roundw
          case rel =>
            refine ⟨i + 1, A, P ++ [i], vals, by simp, by omega, ?_, ?_, ?_, HI.out.snoc, by have := HPI.out; rw [List.length_append]; simp; omega, fun j => Nat.le_succ_of_le (HNI.out j), HE2.out⟩
            · rw [← nums_snoc, List.length_append]; exact HO5.out
            · exact ((HA.out.alloc _).alloc _).kept HG5.out (fun r hr => by obtain ⟨cur, e, -⟩ := own_ty ((HO.out.alloc (.cells #[.int .u8 1, .int .u8 xx.k, .int .i64 xx.n, .string (st xx.s), .string (st vx)] 27)).alloc (.cells #[.int .i64 i] 3)) hr; exact ⟨cur, 3, _, e, by decide, by decide⟩)
            · exact ((HB.out.alloc hsz _).alloc (by simp; omega) _).grown HG5.out (by simp; omega) (fun k hk => (((HO.out.alloc (.cells #[.int .u8 1, .int .u8 xx.k, .int .i64 xx.n, .string (st xx.s), .string (st vx)] 27)).alloc (.cells #[.int .i64 i] 3)).lt k hk).1)
          case measure => simp [intOf]; omega
        · by_cases k2 : kx = 2
          · subst k2
            by_cases h2 : P.length < 2
            · have HN : Hid (∀ A s, headsE L 0 (List.replicate L.length []) [] ≠ some (A, [s])) := fun A' s' e => by rw [HE.out, headsE_few hlt HX.out (by simp) h2] at e; cases e
              have h2i : (P.length : Int) < 2 := by omega
              go_wp2
              refine bodyPost_ret (v := .tuple #[.slice none 0 0, .bool false]) (by simp [results, Tryd.results41, go_sem] <;> rfl) rfl ?_
              exact HdPost.no (HB.out.alloc hsz _) HN.out
            · have HK := headsE_op (A := A) (P := P) hlt HX.out (by simp) h2
              obtain ⟨m, hm⟩ : ∃ m, P.length = m + 2 := ⟨P.length - 2, by omega⟩
              obtain ⟨b, hbq⟩ : ∃ b, b = P.getD (P.length - 2) 0 := ⟨_, rfl⟩
              have hbi : b < i := by
                have := HI.out (P.getD (P.length - 2) 0) (getD_memN P _ _ (by omega))
                rw [hbq]; exact this
              have HE2 : Hid (headsE L 0 (List.replicate L.length []) [] = headsE (L.drop (i + 1)) (i + 1) (A.set b (A.getD b [] ++ [2])) (P.take (m + 1))) := by
                have := HE.out.trans HK
                rw [← hbq, show P.length - 1 = m + 1 by omega] at this
                exact this
              obtain ⟨g5, c6, e5, hg5b, hg5l⟩ := HO.out.form (by omega)
              obtain ⟨rfl, -, rfl⟩ := Value.slice.inj e5
              have pm : wr.cell? ⟨g5, m, none⟩ = some (.int .i64 (b : Int)) := by
                have := HO.out.cells (g := g5) rfl m _ (getD_nums P m (by omega))
                rw [addr_add] at this
                rw [this, hbq, show P.length - 2 = m by omega]
              have hPl : P.length ≤ 100000 := HPL.out
              have hc6 : (m : Int) + 1 ≤ c5 := by
                rcases HO.out.2 with ⟨e, h0⟩ | ⟨g, cap, cur, e, _, _, hnc, _⟩
                · omega
                · obtain ⟨-, -, e3⟩ := Value.slice.inj e
                  omega
              have hc7 : (c5 : Int) ≤ 9223372036854775807 := by
                rcases HO.out.2 with ⟨e, h0⟩ | ⟨g, cap, cur, e, _, _, hnc, hcm, _⟩
                · omega
                · obtain ⟨-, -, e3⟩ := Value.slice.inj e
                  unfold maxLen at hcm
                  omega
              have hrow := HA.out.rows b (by omega)
              obtain ⟨ab, cb, hvb⟩ : ∃ ab cb, vals.getD b nilS0 = .slice ab (A.getD b []).length cb := by
                rcases hrow.2 with ⟨e, h0⟩ | ⟨g, cap, cur, e, -⟩
                · exact ⟨none, 0, by rw [e, h0]⟩
                · exact ⟨_, cap, e⟩
              have pa : wr.cell? ⟨w.heap.size, b, none⟩ = some (.slice ab (A.getD b []).length cb) := by
                have := HA.out.own.cells (g := w.heap.size) rfl b (vals.getD b nilS0) (by rw [List.getD_eq_getElem?_getD, List.getElem?_eq_getElem (by have := HA.out.len; omega)]; rfl)
                rw [addr_add] at this
                rw [this, hvb]
              have hkl : w.heap.size < wr.heap.size := by obtain ⟨_, _, h⟩ := own_ty HA.out.own (g := w.heap.size) rfl; exact h
              have pf : wr.frozen? ⟨w.heap.size, b, none⟩ = false := by
                obtain ⟨cur, h, _⟩ := own_ty HA.out.own (g := w.heap.size) rfl
                exact Lib.frozen_of_heap h b
              obtain ⟨nb, hnb⟩ : ∃ nb, nb = (A.getD b []).length := ⟨_, rfl⟩
              have hnbl : nb ≤ 1000000 := by rw [hnb]; exact HNB.out b
              rw [← hnb] at pa hvb hrow
              have HNb : Hid (nb = (A.getD b []).length) := hnb
              have HVB : Hid (vals.getD b nilS0 = .slice ab nb cb) := hvb
              have HRW : Hid (wr.ownsRow w.heap.size 5 1 (.slice ab nb cb) nb ((A.getD b []).map (Value.int .u8))) := by rw [← hvb]; exact hrow
              have hbz : (b : Int) < L.length := by omega
              have HBQ : Hid (b = P.getD (P.length - 2) 0) := hbq
              have HH2 : Hid (¬ P.length < 2) := h2
              clear HK hbq hnb hrow hvb e5
              have HM : Hid ((nums P).length = m + 2) := by show (nums P).length = _; rw [← hm]; simp [nums]
              rw [hm] at *
              have n1 : ((m : Int) + 2 - 1).toNat = m + 1 := by omega
              clear hm h2
              go_wp2
              go_region_law (refine step_append_lies (P := Tryd.prog) _ (by rfl) _ _ 81 (by rfl) w.heap.size 5 i5 (.int .u8 0) 1 1 Tryd.underlying81 hi5 hz5 hz51 hz52 rfl (by decide) (.slice ab nb cb) nb ((A.getD b []).map (Value.int .u8)) (by rfl) ((HRW.out.alloc _).alloc _) ⟨_, 0, none⟩ 1 1 [.int .u8 2] (by rfl) (by rfl) (World.news_of_block (cs := #[.int .u8 2]) (t := 5) (fr := (0, 0)) (new_at (by simp))) (by simp [Value.oneCell']) (by decide) (by unfold maxLen; omega) (by omega) (by simp; omega) _ rfl ?_; intro g9 c9 w9 ho9 hg9 hw9 hlt9; have hq9 := (((HA.out.alloc (.cells #[.int .u8 2, .int .u8 xx.k, .int .i64 xx.n, .string (st xx.s), .string (st vx)] 27)).alloc (.cells #[.int .u8 2] 5)).drew).far (j := b) (b := b) (by omega) (by omega) (by rw [HVB.out]; exact hg9); obtain ⟨c91, c92, c93, c94⟩ := hq9; have HK9 : Hid (w9.ownsRow w.heap.size 81 1 (.slice (some ⟨w.heap.size, 0, none⟩) L.length L.length) L.length vals) := c94; clear c94; rw [HVB.out] at c91; have HO9 : Hid (w9.ownsRow w.heap.size 5 1 (.slice (some ⟨g9, 0, none⟩) (nb + 1) c9) (nb + 1) ((A.getD b []).map (Value.int .u8) ++ [.int .u8 2])) := ho9; have HG9 : Hid (World.grownBy _ w9 _) := hg9; have HW9 : Hid (_ ∨ _) := hw9; clear ho9 hg9 hw9)
              all_goals go_wp2
              all_goals
                go_roundw
                case rel =>
                  have hs1 : w.heap.size ≤ (wr.alloc (.cells #[.int .u8 2, .int .u8 xx.k, .int .i64 xx.n, .string (st xx.s), .string (st vx)] 27)).heap.size := by simp; omega
                  have hs2 : w.heap.size ≤ ((wr.alloc (.cells #[.int .u8 2, .int .u8 xx.k, .int .i64 xx.n, .string (st xx.s), .string (st vx)] 27)).alloc (.cells #[.int .u8 2] 5)).heap.size := by simp; omega
                  have hp0 : wr.ownsRow w.heap.size 3 1 (.slice (some ⟨g5, 0, none⟩) (m + 1) c5) (m + 1) ((nums P).take (m + 1)) := own_init HO.out (by omega)
                  have hp1 : w9.ownsRow w.heap.size 3 1 (.slice (some ⟨g5, 0, none⟩) (m + 1) c5) (m + 1) ((nums P).take (m + 1)) := World.ownsRow.kept (w := ((wr.alloc (.cells #[.int .u8 2, .int .u8 xx.k, .int .i64 xx.n, .string (st xx.s), .string (st vx)] 27)).alloc (.cells #[.int .u8 2] 5)).drew) ((hp0.alloc _).alloc _) HG9.out (own_apart (w := wr) hp0 HRW.out (by decide))
                  have hput := Ahd.put (((HA.out.alloc (.cells #[.int .u8 2, .int .u8 xx.k, .int .i64 xx.n, .string (st xx.s), .string (st vx)] 27)).alloc (.cells #[.int .u8 2] 5)).drew) (j := b) (g := g9) (cap := c9) (x := 2) (by omega) (by rw [HVB.out]; exact HG9.out) (by rw [← HNb.out]; exact HO9.out) (by rw [HVB.out]; exact HW9.out) (Nat.le_refl _)
                  rw [← HNb.out] at hput
                  refine ⟨i + 1, _, P.take (m + 1), _, by simp, by omega, ?_, hput, ?_, HI.out.init, ?_, ?_, HE2.out⟩
                  · rw [← nums_take, List.length_take, Nat.min_eq_left (by have := HM.out; simp [nums] at this; omega)]
                    exact hp1.kept (grown_set _ _ _ _) (own_apart hp1 HK9.out (by decide))
                  · exact ((((HB.out.alloc hsz _).alloc hs1 _).drew).grown HG9.out hs2 (fun k hk => (World.ownsRow.lt (w := ((wr.alloc (.cells #[.int .u8 2, .int .u8 xx.k, .int .i64 xx.n, .string (st xx.s), .string (st vx)] 27)).alloc (.cells #[.int .u8 2] 5)).drew) ((HRW.out.alloc _).alloc _) k hk).1)).setCell (p := ⟨w.heap.size, b, none⟩) (Nat.le_refl _) _
                  · rw [List.length_take]; have h1 := HPI.out; have h2 := HM.out; simp [nums] at h2; omega
                  · intro j
                    by_cases hj : b = j
                    · subst hj
                      have := HNI.out b
                      rw [getD_set_eq _ _ _ (by have := HA.out.lenA; omega), List.length_append]; simp; exact this
                    · rw [getD_set_ne _ _ _ hj]; exact Nat.le_succ_of_le (HNI.out j)
                case measure => simp [intOf]; omega
          · by_cases k3 : kx = 3
            · subst k3
              by_cases h2 : P.length < 2
              · have HN : Hid (∀ A s, headsE L 0 (List.replicate L.length []) [] ≠ some (A, [s])) := fun A' s' e => by rw [HE.out, headsE_few hlt HX.out (by simp) h2] at e; cases e
                have h2i : (P.length : Int) < 2 := by omega
                go_wp2
                refine bodyPost_ret (v := .tuple #[.slice none 0 0, .bool false]) (by simp [results, Tryd.results41, go_sem] <;> rfl) rfl ?_
                exact HdPost.no (HB.out.alloc hsz _) HN.out
              · have HK := headsE_op (A := A) (P := P) hlt HX.out (by simp) h2
                obtain ⟨m, hm⟩ : ∃ m, P.length = m + 2 := ⟨P.length - 2, by omega⟩
                obtain ⟨b, hbq⟩ : ∃ b, b = P.getD (P.length - 2) 0 := ⟨_, rfl⟩
                have hbi : b < i := by
                  have := HI.out (P.getD (P.length - 2) 0) (getD_memN P _ _ (by omega))
                  rw [hbq]; exact this
                have HE2 : Hid (headsE L 0 (List.replicate L.length []) [] = headsE (L.drop (i + 1)) (i + 1) (A.set b (A.getD b [] ++ [3])) (P.take (m + 1))) := by
                  have := HE.out.trans HK
                  rw [← hbq, show P.length - 1 = m + 1 by omega] at this
                  exact this
                obtain ⟨g5, c6, e5, hg5b, hg5l⟩ := HO.out.form (by omega)
                obtain ⟨rfl, -, rfl⟩ := Value.slice.inj e5
                have pm : wr.cell? ⟨g5, m, none⟩ = some (.int .i64 (b : Int)) := by
                  have := HO.out.cells (g := g5) rfl m _ (getD_nums P m (by omega))
                  rw [addr_add] at this
                  rw [this, hbq, show P.length - 2 = m by omega]
                have hPl : P.length ≤ 100000 := HPL.out
                have hc6 : (m : Int) + 1 ≤ c5 := by
                  rcases HO.out.2 with ⟨e, h0⟩ | ⟨g, cap, cur, e, _, _, hnc, _⟩
                  · omega
                  · obtain ⟨-, -, e3⟩ := Value.slice.inj e
                    omega
                have hc7 : (c5 : Int) ≤ 9223372036854775807 := by
                  rcases HO.out.2 with ⟨e, h0⟩ | ⟨g, cap, cur, e, _, _, hnc, hcm, _⟩
                  · omega
                  · obtain ⟨-, -, e3⟩ := Value.slice.inj e
                    unfold maxLen at hcm
                    omega
                have hrow := HA.out.rows b (by omega)
                obtain ⟨ab, cb, hvb⟩ : ∃ ab cb, vals.getD b nilS0 = .slice ab (A.getD b []).length cb := by
                  rcases hrow.2 with ⟨e, h0⟩ | ⟨g, cap, cur, e, -⟩
                  · exact ⟨none, 0, by rw [e, h0]⟩
                  · exact ⟨_, cap, e⟩
                have pa : wr.cell? ⟨w.heap.size, b, none⟩ = some (.slice ab (A.getD b []).length cb) := by
                  have := HA.out.own.cells (g := w.heap.size) rfl b (vals.getD b nilS0) (by rw [List.getD_eq_getElem?_getD, List.getElem?_eq_getElem (by have := HA.out.len; omega)]; rfl)
                  rw [addr_add] at this
                  rw [this, hvb]
                have hkl : w.heap.size < wr.heap.size := by obtain ⟨_, _, h⟩ := own_ty HA.out.own (g := w.heap.size) rfl; exact h
                have pf : wr.frozen? ⟨w.heap.size, b, none⟩ = false := by
                  obtain ⟨cur, h, _⟩ := own_ty HA.out.own (g := w.heap.size) rfl
                  exact Lib.frozen_of_heap h b
                obtain ⟨nb, hnb⟩ : ∃ nb, nb = (A.getD b []).length := ⟨_, rfl⟩
                have hnbl : nb ≤ 1000000 := by rw [hnb]; exact HNB.out b
                rw [← hnb] at pa hvb hrow
                have HNb : Hid (nb = (A.getD b []).length) := hnb
                have HVB : Hid (vals.getD b nilS0 = .slice ab nb cb) := hvb
                have HRW : Hid (wr.ownsRow w.heap.size 5 1 (.slice ab nb cb) nb ((A.getD b []).map (Value.int .u8))) := by rw [← hvb]; exact hrow
                have hbz : (b : Int) < L.length := by omega
                have HBQ : Hid (b = P.getD (P.length - 2) 0) := hbq
                have HH2 : Hid (¬ P.length < 2) := h2
                clear HK hbq hnb hrow hvb e5
                have HM : Hid ((nums P).length = m + 2) := by show (nums P).length = _; rw [← hm]; simp [nums]
                rw [hm] at *
                have n1 : ((m : Int) + 2 - 1).toNat = m + 1 := by omega
                clear hm h2
                go_wp2
                go_region_law (refine step_append_lies (P := Tryd.prog) _ (by rfl) _ _ 81 (by rfl) w.heap.size 5 i5 (.int .u8 0) 1 1 Tryd.underlying81 hi5 hz5 hz51 hz52 rfl (by decide) (.slice ab nb cb) nb ((A.getD b []).map (Value.int .u8)) (by rfl) ((HRW.out.alloc _).alloc _) ⟨_, 0, none⟩ 1 1 [.int .u8 3] (by rfl) (by rfl) (World.news_of_block (cs := #[.int .u8 3]) (t := 5) (fr := (0, 0)) (new_at (by simp))) (by simp [Value.oneCell']) (by decide) (by unfold maxLen; omega) (by omega) (by simp; omega) _ rfl ?_; intro g9 c9 w9 ho9 hg9 hw9 hlt9; have hq9 := (((HA.out.alloc (.cells #[.int .u8 3, .int .u8 xx.k, .int .i64 xx.n, .string (st xx.s), .string (st vx)] 27)).alloc (.cells #[.int .u8 3] 5)).drew).far (j := b) (b := b) (by omega) (by omega) (by rw [HVB.out]; exact hg9); obtain ⟨c91, c92, c93, c94⟩ := hq9; have HK9 : Hid (w9.ownsRow w.heap.size 81 1 (.slice (some ⟨w.heap.size, 0, none⟩) L.length L.length) L.length vals) := c94; clear c94; rw [HVB.out] at c91; have HO9 : Hid (w9.ownsRow w.heap.size 5 1 (.slice (some ⟨g9, 0, none⟩) (nb + 1) c9) (nb + 1) ((A.getD b []).map (Value.int .u8) ++ [.int .u8 3])) := ho9; have HG9 : Hid (World.grownBy _ w9 _) := hg9; have HW9 : Hid (_ ∨ _) := hw9; clear ho9 hg9 hw9)
                all_goals go_wp2
                all_goals
                  go_roundw
                  case rel =>
                    have hs1 : w.heap.size ≤ (wr.alloc (.cells #[.int .u8 3, .int .u8 xx.k, .int .i64 xx.n, .string (st xx.s), .string (st vx)] 27)).heap.size := by simp; omega
                    have hs2 : w.heap.size ≤ ((wr.alloc (.cells #[.int .u8 3, .int .u8 xx.k, .int .i64 xx.n, .string (st xx.s), .string (st vx)] 27)).alloc (.cells #[.int .u8 3] 5)).heap.size := by simp; omega
                    have hp0 : wr.ownsRow w.heap.size 3 1 (.slice (some ⟨g5, 0, none⟩) (m + 1) c5) (m + 1) ((nums P).take (m + 1)) := own_init HO.out (by omega)
                    have hp1 : w9.ownsRow w.heap.size 3 1 (.slice (some ⟨g5, 0, none⟩) (m + 1) c5) (m + 1) ((nums P).take (m + 1)) := World.ownsRow.kept (w := ((wr.alloc (.cells #[.int .u8 3, .int .u8 xx.k, .int .i64 xx.n, .string (st xx.s), .string (st vx)] 27)).alloc (.cells #[.int .u8 3] 5)).drew) ((hp0.alloc _).alloc _) HG9.out (own_apart (w := wr) hp0 HRW.out (by decide))
                    have hput := Ahd.put (((HA.out.alloc (.cells #[.int .u8 3, .int .u8 xx.k, .int .i64 xx.n, .string (st xx.s), .string (st vx)] 27)).alloc (.cells #[.int .u8 3] 5)).drew) (j := b) (g := g9) (cap := c9) (x := 3) (by omega) (by rw [HVB.out]; exact HG9.out) (by rw [← HNb.out]; exact HO9.out) (by rw [HVB.out]; exact HW9.out) (Nat.le_refl _)
                    rw [← HNb.out] at hput
                    refine ⟨i + 1, _, P.take (m + 1), _, by simp, by omega, ?_, hput, ?_, HI.out.init, ?_, ?_, HE2.out⟩
                    · rw [← nums_take, List.length_take, Nat.min_eq_left (by have := HM.out; simp [nums] at this; omega)]
                      exact hp1.kept (grown_set _ _ _ _) (own_apart hp1 HK9.out (by decide))
                    · exact ((((HB.out.alloc hsz _).alloc hs1 _).drew).grown HG9.out hs2 (fun k hk => (World.ownsRow.lt (w := ((wr.alloc (.cells #[.int .u8 3, .int .u8 xx.k, .int .i64 xx.n, .string (st xx.s), .string (st vx)] 27)).alloc (.cells #[.int .u8 3] 5)).drew) ((HRW.out.alloc _).alloc _) k hk).1)).setCell (p := ⟨w.heap.size, b, none⟩) (Nat.le_refl _) _
                    · rw [List.length_take]; have h1 := HPI.out; have h2 := HM.out; simp [nums] at h2; omega
                    · intro j
                      by_cases hj : b = j
                      · subst hj
                        have := HNI.out b
                        rw [getD_set_eq _ _ _ (by have := HA.out.lenA; omega), List.length_append]; simp; exact this
                      · rw [getD_set_ne _ _ _ hj]; exact Nat.le_succ_of_le (HNI.out j)
                  case measure => simp [intOf]; omega
            · by_cases k4 : kx = 4
              · subst k4
                by_cases h2 : P.length < 2
                · have HN : Hid (∀ A s, headsE L 0 (List.replicate L.length []) [] ≠ some (A, [s])) := fun A' s' e => by rw [HE.out, headsE_few hlt HX.out (by simp) h2] at e; cases e
                  have h2i : (P.length : Int) < 2 := by omega
                  go_wp2
                  refine bodyPost_ret (v := .tuple #[.slice none 0 0, .bool false]) (by simp [results, Tryd.results41, go_sem] <;> rfl) rfl ?_
                  exact HdPost.no (HB.out.alloc hsz _) HN.out
                · have HK := headsE_op (A := A) (P := P) hlt HX.out (by simp) h2
                  obtain ⟨m, hm⟩ : ∃ m, P.length = m + 2 := ⟨P.length - 2, by omega⟩
                  obtain ⟨b, hbq⟩ : ∃ b, b = P.getD (P.length - 2) 0 := ⟨_, rfl⟩
                  have hbi : b < i := by
                    have := HI.out (P.getD (P.length - 2) 0) (getD_memN P _ _ (by omega))
                    rw [hbq]; exact this
                  have HE2 : Hid (headsE L 0 (List.replicate L.length []) [] = headsE (L.drop (i + 1)) (i + 1) (A.set b (A.getD b [] ++ [4])) (P.take (m + 1))) := by
                    have := HE.out.trans HK
                    rw [← hbq, show P.length - 1 = m + 1 by omega] at this
                    exact this
                  obtain ⟨g5, c6, e5, hg5b, hg5l⟩ := HO.out.form (by omega)
                  obtain ⟨rfl, -, rfl⟩ := Value.slice.inj e5
                  have pm : wr.cell? ⟨g5, m, none⟩ = some (.int .i64 (b : Int)) := by
                    have := HO.out.cells (g := g5) rfl m _ (getD_nums P m (by omega))
                    rw [addr_add] at this
                    rw [this, hbq, show P.length - 2 = m by omega]
                  have hPl : P.length ≤ 100000 := HPL.out
                  have hc6 : (m : Int) + 1 ≤ c5 := by
                    rcases HO.out.2 with ⟨e, h0⟩ | ⟨g, cap, cur, e, _, _, hnc, _⟩
                    · omega
                    · obtain ⟨-, -, e3⟩ := Value.slice.inj e
                      omega
                  have hc7 : (c5 : Int) ≤ 9223372036854775807 := by
                    rcases HO.out.2 with ⟨e, h0⟩ | ⟨g, cap, cur, e, _, _, hnc, hcm, _⟩
                    · omega
                    · obtain ⟨-, -, e3⟩ := Value.slice.inj e
                      unfold maxLen at hcm
                      omega
                  have hrow := HA.out.rows b (by omega)
                  obtain ⟨ab, cb, hvb⟩ : ∃ ab cb, vals.getD b nilS0 = .slice ab (A.getD b []).length cb := by
                    rcases hrow.2 with ⟨e, h0⟩ | ⟨g, cap, cur, e, -⟩
                    · exact ⟨none, 0, by rw [e, h0]⟩
                    · exact ⟨_, cap, e⟩
                  have pa : wr.cell? ⟨w.heap.size, b, none⟩ = some (.slice ab (A.getD b []).length cb) := by
                    have := HA.out.own.cells (g := w.heap.size) rfl b (vals.getD b nilS0) (by rw [List.getD_eq_getElem?_getD, List.getElem?_eq_getElem (by have := HA.out.len; omega)]; rfl)
                    rw [addr_add] at this
                    rw [this, hvb]
                  have hkl : w.heap.size < wr.heap.size := by obtain ⟨_, _, h⟩ := own_ty HA.out.own (g := w.heap.size) rfl; exact h
                  have pf : wr.frozen? ⟨w.heap.size, b, none⟩ = false := by
                    obtain ⟨cur, h, _⟩ := own_ty HA.out.own (g := w.heap.size) rfl
                    exact Lib.frozen_of_heap h b
                  obtain ⟨nb, hnb⟩ : ∃ nb, nb = (A.getD b []).length := ⟨_, rfl⟩
                  have hnbl : nb ≤ 1000000 := by rw [hnb]; exact HNB.out b
                  rw [← hnb] at pa hvb hrow
                  have HNb : Hid (nb = (A.getD b []).length) := hnb
                  have HVB : Hid (vals.getD b nilS0 = .slice ab nb cb) := hvb
                  have HRW : Hid (wr.ownsRow w.heap.size 5 1 (.slice ab nb cb) nb ((A.getD b []).map (Value.int .u8))) := by rw [← hvb]; exact hrow
                  have hbz : (b : Int) < L.length := by omega
                  have HBQ : Hid (b = P.getD (P.length - 2) 0) := hbq
                  have HH2 : Hid (¬ P.length < 2) := h2
                  clear HK hbq hnb hrow hvb e5
                  have HM : Hid ((nums P).length = m + 2) := by show (nums P).length = _; rw [← hm]; simp [nums]
                  rw [hm] at *
                  have n1 : ((m : Int) + 2 - 1).toNat = m + 1 := by omega
                  clear hm h2
                  go_wp2
                  go_region_law (refine step_append_lies (P := Tryd.prog) _ (by rfl) _ _ 81 (by rfl) w.heap.size 5 i5 (.int .u8 0) 1 1 Tryd.underlying81 hi5 hz5 hz51 hz52 rfl (by decide) (.slice ab nb cb) nb ((A.getD b []).map (Value.int .u8)) (by rfl) ((HRW.out.alloc _).alloc _) ⟨_, 0, none⟩ 1 1 [.int .u8 4] (by rfl) (by rfl) (World.news_of_block (cs := #[.int .u8 4]) (t := 5) (fr := (0, 0)) (new_at (by simp))) (by simp [Value.oneCell']) (by decide) (by unfold maxLen; omega) (by omega) (by simp; omega) _ rfl ?_; intro g9 c9 w9 ho9 hg9 hw9 hlt9; have hq9 := (((HA.out.alloc (.cells #[.int .u8 4, .int .u8 xx.k, .int .i64 xx.n, .string (st xx.s), .string (st vx)] 27)).alloc (.cells #[.int .u8 4] 5)).drew).far (j := b) (b := b) (by omega) (by omega) (by rw [HVB.out]; exact hg9); obtain ⟨c91, c92, c93, c94⟩ := hq9; have HK9 : Hid (w9.ownsRow w.heap.size 81 1 (.slice (some ⟨w.heap.size, 0, none⟩) L.length L.length) L.length vals) := c94; clear c94; rw [HVB.out] at c91; have HO9 : Hid (w9.ownsRow w.heap.size 5 1 (.slice (some ⟨g9, 0, none⟩) (nb + 1) c9) (nb + 1) ((A.getD b []).map (Value.int .u8) ++ [.int .u8 4])) := ho9; have HG9 : Hid (World.grownBy _ w9 _) := hg9; have HW9 : Hid (_ ∨ _) := hw9; clear ho9 hg9 hw9)
                  all_goals go_wp2
                  all_goals
                    go_roundw
                    case rel =>
                      have hs1 : w.heap.size ≤ (wr.alloc (.cells #[.int .u8 4, .int .u8 xx.k, .int .i64 xx.n, .string (st xx.s), .string (st vx)] 27)).heap.size := by simp; omega
                      have hs2 : w.heap.size ≤ ((wr.alloc (.cells #[.int .u8 4, .int .u8 xx.k, .int .i64 xx.n, .string (st xx.s), .string (st vx)] 27)).alloc (.cells #[.int .u8 4] 5)).heap.size := by simp; omega
                      have hp0 : wr.ownsRow w.heap.size 3 1 (.slice (some ⟨g5, 0, none⟩) (m + 1) c5) (m + 1) ((nums P).take (m + 1)) := own_init HO.out (by omega)
                      have hp1 : w9.ownsRow w.heap.size 3 1 (.slice (some ⟨g5, 0, none⟩) (m + 1) c5) (m + 1) ((nums P).take (m + 1)) := World.ownsRow.kept (w := ((wr.alloc (.cells #[.int .u8 4, .int .u8 xx.k, .int .i64 xx.n, .string (st xx.s), .string (st vx)] 27)).alloc (.cells #[.int .u8 4] 5)).drew) ((hp0.alloc _).alloc _) HG9.out (own_apart (w := wr) hp0 HRW.out (by decide))
                      have hput := Ahd.put (((HA.out.alloc (.cells #[.int .u8 4, .int .u8 xx.k, .int .i64 xx.n, .string (st xx.s), .string (st vx)] 27)).alloc (.cells #[.int .u8 4] 5)).drew) (j := b) (g := g9) (cap := c9) (x := 4) (by omega) (by rw [HVB.out]; exact HG9.out) (by rw [← HNb.out]; exact HO9.out) (by rw [HVB.out]; exact HW9.out) (Nat.le_refl _)
                      rw [← HNb.out] at hput
                      refine ⟨i + 1, _, P.take (m + 1), _, by simp, by omega, ?_, hput, ?_, HI.out.init, ?_, ?_, HE2.out⟩
                      · rw [← nums_take, List.length_take, Nat.min_eq_left (by have := HM.out; simp [nums] at this; omega)]
                        exact hp1.kept (grown_set _ _ _ _) (own_apart hp1 HK9.out (by decide))
                      · exact ((((HB.out.alloc hsz _).alloc hs1 _).drew).grown HG9.out hs2 (fun k hk => (World.ownsRow.lt (w := ((wr.alloc (.cells #[.int .u8 4, .int .u8 xx.k, .int .i64 xx.n, .string (st xx.s), .string (st vx)] 27)).alloc (.cells #[.int .u8 4] 5)).drew) ((HRW.out.alloc _).alloc _) k hk).1)).setCell (p := ⟨w.heap.size, b, none⟩) (Nat.le_refl _) _
                      · rw [List.length_take]; have h1 := HPI.out; have h2 := HM.out; simp [nums] at h2; omega
                      · intro j
                        by_cases hj : b = j
                        · subst hj
                          have := HNI.out b
                          rw [getD_set_eq _ _ _ (by have := HA.out.lenA; omega), List.length_append]; simp; exact this
                        · rw [getD_set_ne _ _ _ hj]; exact Nat.le_succ_of_le (HNI.out j)
                    case measure => simp [intOf]; omega
              · have HN : Hid (∀ A s, headsE L 0 (List.replicate L.length []) [] ≠ some (A, [s])) := fun A' s' e => by rw [HE.out, headsE_no hlt HX.out (by simp; omega) (by simp; omega)] at e; cases e
                go_wp2
                refine bodyPost_ret (v := .tuple #[.slice none 0 0, .bool false]) (by simp [results, Tryd.results41, go_sem] <;> rfl) rfl ?_
                exact HdPost.no (HB.out.alloc hsz _) HN.out
    · have hiz : ¬ (i : Int) < L.length := by omega
      obtain rfl : i = L.length := by omega
      have HEN : Hid (headsE L 0 (List.replicate L.length []) [] = some (A, P)) := by have := HE.out; rw [List.drop_length] at this; exact this
      by_cases h1 : P.length = 1
      · obtain ⟨s, hs⟩ := List.length_eq_one_iff.1 h1
        have hp1 : (P.length : Int) = 1 := by omega
        have HS : Hid (P = [s]) := hs
        have H1 : Hid (P.length = 1) := h1
        clear hs h1
        go_wp2
        refine bodyPost_ret (v := .tuple #[.slice (some ⟨w.heap.size, 0, none⟩) L.length L.length, .bool true]) (by simp [results, Tryd.results41, go_sem, hp1] <;> rfl) rfl ?_
        exact HdPost.yes HB.out (by rw [HEN.out, HS.out]) HA.out
      · have hp1 : ¬ (P.length : Int) = 1 := by omega
        have HN : Hid (∀ A s, headsE L 0 (List.replicate L.length []) [] ≠ some (A, [s])) := fun A' s' e => by rw [HEN.out] at e; cases e; exact h1 rfl
        clear h1
        go_wp2
        refine bodyPost_ret (v := .tuple #[.slice (some ⟨w.heap.size, 0, none⟩) L.length L.length, .bool false]) (by simp [results, Tryd.results41, go_sem, hp1] <;> rfl) rfl ?_
        exact HdPost.no HB.out HN.out
end Go.Proofs.YtemacdimdpnkeaaDoor
