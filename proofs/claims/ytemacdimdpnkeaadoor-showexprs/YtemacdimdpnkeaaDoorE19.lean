import Derived.Test.YtemacdimdpnkeaaDoorE17
import Derived.Test.YtemacdimdpnkeaaDoorE9
import Derived.Test.YtemacdimdpnkeaaDoorE18
import Derived.Test.YtemacdimdpnkeaaDoorE2
import Derived.Deep.AppendLies
import Derived.Deep.RegionHeld3
import Derived.Deep.QuietTactic
import Derived.BigQuiet
namespace Go.Proofs.YtemacdimdpnkeaaDoor
open Go.RowKit
set_option linter.unusedVariables false
set_option linter.unusedSimpArgs false
set_option maxRecDepth 20000
theorem svd_len (x : VD) (h : x.s.length ≤ 60) : (svd x).length ≤ 60 := by
  unfold svd txtS
  split
  · simp [nilS]
  · rename_i h0
    split
    · have hc : chkE x.k x.n (st x.s).data.toList = 0 := by simpa using h0
      obtain ⟨-, h1, h2, -⟩ := chk0 hc
      have := (itoa_len x.n h1 h2).2
      show ((⟨(Lib.itoa x.n).toArray⟩ : ByteArray).data.toList).length ≤ 60
      rw [show (⟨(Lib.itoa x.n).toArray⟩ : ByteArray).data.toList = Lib.itoa x.n by simp]
      omega
    · split
      · rw [st_list]; exact h
      · simp [nilS]
def totS (P : List Str) : Nat := (P.map List.length).sum
theorem totS_app (P Q : List Str) : totS (P ++ Q) = totS P + totS Q := by simp [totS]
theorem totS_one (x : Str) : totS [x] = x.length := by simp [totS]
theorem sgS_len (k : Int) : (sgS k).length ≤ 1 := by unfold sgS; (repeat' split) <;> simp
theorem pile_len : ∀ (l : List ItemD) (P Q : List Str), (∀ x ∈ l, itemL x) → shPile svd P l = some Q → totS Q ≤ totS P + 70 * l.length
  | [], P, Q, _, h => by cases h; simp
  | it :: l, P, Q, hl, h => by
    have hi := hl it (List.mem_cons_self ..)
    have hr : ∀ x ∈ l, itemL x := fun x hx => hl x (List.mem_cons_of_mem _ hx)
    unfold shPile at h
    rw [List.length_cons]
    split at h
    · have := pile_len l _ Q hr h
      rw [totS_app, totS_one] at this
      have := svd_len it.x hi.2
      omega
    · split at h
      · have := pile_len l _ Q hr h
        rw [totS_app, totS_one] at this
        have := hi.1
        simp only [List.length_cons, List.length_append, List.length_nil] at *
        omega
      · split at h
        · cases h
        · rename_i _ _ h2
          have h3 := pile_len l _ Q hr h
          rw [totS_app, totS_one] at h3
          have h2' : ¬ P.length < 2 := fun e => h2 (.inr e)
          obtain ⟨P0, a, b, rfl⟩ := last_two P h2'
          have e1 : (P0 ++ [b, a]).getD ((P0 ++ [b, a]).length - 2) [] = b := by simp
          have e2 : (P0 ++ [b, a]).getD ((P0 ++ [b, a]).length - 1) [] = a := by simp
          have e3 : (P0 ++ [b, a]).take ((P0 ++ [b, a]).length - 2) = P0 := by
            rw [List.take_append_of_le_length (by simp), List.take_of_length_le (by simp)]
          rw [e1, e2, e3] at h3
          rw [totS_app, show [b, a] = [b] ++ [a] from rfl, totS_app, totS_one, totS_one]
          have := sgS_len it.k
          simp only [List.length_cons, List.length_append, List.length_nil] at h3
          omega
theorem expr_len {l : List ItemD} (h : itemsL l) : (shE svd l).length ≤ 2800 := by
  unfold shE
  cases hx : shExpr svd l with
  | none => simp
  | some s =>
    unfold shExpr at hx
    split at hx
    · rename_i x hp
      cases hx
      have := pile_len l [] _ h.2 hp
      rw [totS_one] at this
      have h1 := h.1
      show s.length ≤ 2800
      simp [totS] at this
      omega
    · cases hx
theorem fV_of {x : VD} (h : x.Ok) (hl : x.s.length ≤ 60) : fV x := ⟨h.1.1, h.1.2, by omega⟩
theorem gE_of {l : List ItemD} (h : ∀ x ∈ l, x.Ok) (hl : itemsL l) : gE l := ⟨fun x hx => fV_of (h x hx).2.1 (hl.2 x hx).2, by have := hl.1; omega⟩
end Go.Proofs.YtemacdimdpnkeaaDoor
namespace Go.Proofs.YtemacdimdpnkeaaDoor
open Go.RowKit
set_option linter.unusedVariables false
set_option linter.unusedSimpArgs false
set_option maxRecDepth 20000
set_option maxHeartbeats 1000000 in
theorem rsgn_any (k : Int) (w : World) : Calls Tryd.prog 24 #[.int .u8 k] w fun e w' => e = .returned (.string (st (sgS k))) ∧ w' = w := by
  by_cases h2 : k = 2
  · subst h2
    go_enter Tryd.func24, Tryd.ntmps24
    go_wp2
    go_ret
    exact ⟨rfl, rfl⟩
  · by_cases h3 : k = 3
    · subst h3
      go_enter Tryd.func24, Tryd.ntmps24
      go_wp2
      go_ret
      exact ⟨rfl, rfl⟩
    · by_cases h4 : k = 4
      · subst h4
        go_enter Tryd.func24, Tryd.ntmps24
        go_wp2
        go_ret
        exact ⟨rfl, rfl⟩
      · have HS : Hid (sgS k = []) := sgS_no (by omega)
        go_enter Tryd.func24, Tryd.ntmps24
        go_wp2
        go_ret
        exact ⟨ret_sg HS.out.symm, rfl⟩
theorem infoStr9 : (Tryd.prog.info? 9).map (fun i => (i.zero, i.size, i.bytes)) = some (some (.string ByteArray.empty), 1, 16) := by kernel_rfl
theorem st_app2 (a b : Str) : st a ++ st b = st (a ++ b) := by
  rw [← st_of (st a ++ st b)]; congr 1
abbrev strs (X : List Str) : List Value := X.map fun s => Value.string (st s)
theorem getD_strs (X : List Str) (j : Nat) (h : j < X.length) : (strs X)[j]? = some (.string (st (X.getD j []))) := by
  unfold strs
  rw [List.getElem?_map, List.getD_eq_getElem?_getD, List.getElem?_eq_getElem h]; rfl
theorem pile_c {L : List ItemD} {i : Nat} {X : List Str} (h : i < L.length) {x : ItemD} (hx : x = L.getD i i0) (hk : x.k = 0) : shPile svd X (L.drop i) = shPile svd (X ++ [svd x.x]) (L.drop (i + 1)) := by
  rw [drop_at h, ← hx, shPile, if_pos hk]
theorem pile_v {L : List ItemD} {i : Nat} {X : List Str} (h : i < L.length) {x : ItemD} (hx : x = L.getD i i0) (hk : x.k = 1) : shPile svd X (L.drop i) = shPile svd (X ++ [60 :: (x.v ++ [62])]) (L.drop (i + 1)) := by
  rw [drop_at h, ← hx, shPile, if_neg (by omega), if_pos hk]
theorem pile_no {L : List ItemD} {i : Nat} {X : List Str} (h : i < L.length) {x : ItemD} (hx : x = L.getD i i0) (h0 : ¬ x.k = 0) (h1 : ¬ x.k = 1) (hk : sgS x.k = [] ∨ X.length < 2) : shPile svd X (L.drop i) = none := by
  rw [drop_at h, ← hx, shPile, if_neg h0, if_neg h1, if_pos hk]
theorem pile_o {L : List ItemD} {i : Nat} {X : List Str} (h : i < L.length) {x : ItemD} (hx : x = L.getD i i0) (h0 : ¬ x.k = 0) (h1 : ¬ x.k = 1) (hk : ¬ (sgS x.k = [] ∨ X.length < 2)) : shPile svd X (L.drop i) = shPile svd (X.take (X.length - 2) ++ [40 :: (sgS x.k ++ 32 :: (X.getD (X.length - 2) [] ++ 32 :: (X.getD (X.length - 1) [] ++ [41])))]) (L.drop (i + 1)) := by
  rw [drop_at h, ← hx, shPile, if_neg h0, if_neg h1, if_neg hk]
def ExPost (w : World) (L : List ItemD) (e : Ending) (w' : World) : Prop := e = .returned (.tuple #[.string (st (shE svd L)), .bool (shExpr svd L).isSome]) ∧ Below w.heap.size w w'
theorem ExPost.no {w w' : World} {L : List ItemD} (hb : Below w.heap.size w w') (h : shExpr svd L = none) : ExPost w L (.returned (.tuple #[.string (st []), .bool false])) w' := by
  refine ⟨?_, hb⟩
  unfold shE
  rw [h]; rfl
theorem ExPost.yes {w w' : World} {L : List ItemD} {x : Str} (hb : Below w.heap.size w w') (h : shExpr svd L = some x) : ExPost w L (.returned (.tuple #[.string (st x), .bool true])) w' := by
  refine ⟨?_, hb⟩
  unfold shE
  rw [h]; rfl
theorem ex_none {L : List ItemD} (h : shPile svd [] L = none) : shExpr svd L = none := by unfold shExpr; rw [h]
theorem ex_one {L : List ItemD} {x : Str} (h : shPile svd [] L = some [x]) : shExpr svd L = some x := by unfold shExpr; rw [h]
theorem ex_more {L : List ItemD} {X : List Str} (h : shPile svd [] L = some X) (hl : X.length ≠ 1) : shExpr svd L = none := by
  unfold shExpr; rw [h]
  match X, hl with
  | [], _ => rfl
  | [x], hl => exact absurd rfl hl
  | _ :: _ :: _, _ => rfl
theorem tot_mem : ∀ {X : List Str} {s : Str}, s ∈ X → s.length ≤ totS X
  | x :: X, s, h => by
    rcases List.mem_cons.1 h with rfl | h
    · simp [totS]
    · have := tot_mem h
      simp [totS] at *
      omega
theorem getD_memS (X : List Str) (j : Nat) (h : j < X.length) : X.getD j [] ∈ X := by
  rw [List.getD_eq_getElem?_getD, List.getElem?_eq_getElem h]; exact List.getElem_mem h
theorem own_first {w : World} {B n m c : Nat} {a : Option Addr} {e : TypeId} {xs : List Value} (h : w.ownsRow B e 1 (.slice a n c) n xs) (hn : 1 ≤ n) (hm : m ≤ n) : w.ownsRow B e 1 (.slice a m c) m (xs.take m) := by
  obtain ⟨h1, h2⟩ := h
  refine ⟨by rw [List.length_take]; omega, ?_⟩
  rcases h2 with ⟨e, h0⟩ | ⟨g, cap, cur, e, hb, hg, hnc, hcm, hcs, ht⟩
  · omega
  · obtain ⟨rfl, -, rfl⟩ := Value.slice.inj e
    refine .inr ⟨g, c, cur, rfl, hb, hg, by omega, hcm, hcs, ?_⟩
    rw [← ht, List.take_take]; congr 1; omega
theorem own_base {w : World} {B B' n : Nat} {e : TypeId} {v : Value} {xs : List Value} (hb : B' ≤ B) (h : w.ownsRow B e 1 v n xs) : w.ownsRow B' e 1 v n xs := by
  obtain ⟨h1, h2⟩ := h
  refine ⟨h1, ?_⟩
  rcases h2 with h2 | ⟨g, cap, cur, e, hg, rest⟩
  · exact .inl h2
  · exact .inr ⟨g, cap, cur, e, Nat.le_trans hb hg, rest⟩
set_option maxHeartbeats 4000000 in
theorem rexp_any {Q1 : Nat → Prop} (v1 : Value) (L : List ItemD) (w : World) (h1 : SlW 5 w Q1 v1 (L.map clI)) (hl : itemsL L) (hf : fE L) :
    Calls Tryd.prog 8 #[v1] w (ExPost w L) := by
  obtain ⟨a1, c1, rfl⟩ := h1.shape
  obtain ⟨-, l1, m1, r1⟩ := h1.row
  simp only [List.length_map] at *
  have R1 : Hid (∀ i, i < L.length → ∃ b off, a1 = some ⟨b, off, none⟩ ∧ b < w.heap.size ∧ ∀ j, j < 5 → w.cell? ⟨b, off + (i * 5 + j), none⟩ = ((L.map clI).getD i [])[j]?) := r1
  have HL : Hid (itemsL L) := hl
  have HF : Hid (fE L) := hf
  obtain ⟨i9, hi9, hz9, hz91, hz92⟩ := info_parts infoStr9
  have hl40 : L.length ≤ 40 := hl.1
  clear r1 h1 hl hf
  have hnn : (L.length : Int) ≤ 9223372036854775807 := by omega
  go_enter Tryd.func8, Tryd.ntmps8
  go_wp2
  go_loopw [4, 5] (fun v4 v5 wr => ∃ (i : Nat) (X : List Str), v5 = .int .i64 i ∧ i ≤ L.length ∧ wr.ownsRow w.heap.size 9 1 v4 X.length (strs X) ∧ Below w.heap.size w wr ∧ X.length ≤ i ∧ totS X ≤ 70 * i ∧ shPile svd [] L = shPile svd X (L.drop i)) (fun _ v5 _ => (L.length - intOf v5).toNat)
  case atStart => exact ⟨0, [], rfl, Nat.zero_le _, ⟨rfl, .inl ⟨rfl, rfl⟩⟩, Below.refl _ _, Nat.le_refl _, by simp [totS], by rw [List.drop_zero]⟩
  case round =>
    obtain ⟨i, X, rfl, hi, hown, hbl, hxl, htot, heq⟩ := hrel
    have HO : Hid (wr.ownsRow w.heap.size 9 1 u4 X.length (strs X)) := hown
    have HB : Hid (Below w.heap.size w wr) := hbl
    have HE : Hid (shPile svd [] L = shPile svd X (L.drop i)) := heq
    have HXL : Hid (X.length ≤ i) := hxl
    have HT : Hid (totS X ≤ 70 * i) := htot
    have hsz := hbl.size
    have hx40 : X.length ≤ 40 := by omega
    obtain ⟨a4, c4, rfl⟩ : ∃ a4 c4, u4 = .slice a4 X.length c4 := by
      rcases hown.2 with ⟨e, h0⟩ | ⟨g, cap, cur, e, -⟩
      · exact ⟨none, 0, by rw [e, h0]⟩
      · exact ⟨_, cap, e⟩
    clear hown hbl heq hxl htot
    by_cases hlt : i < L.length
    · have hiz : (i : Int) < L.length := by omega
      obtain ⟨b1, o1, rfl, hb1, q1⟩ := R1.out i hlt
      rw [getD_map clI L i i0 hlt] at q1
      obtain ⟨x, hx⟩ : ∃ x, x = L.getD i i0 := ⟨_, rfl⟩
      rw [← hx] at q1
      have hm : x ∈ L := by rw [hx]; exact getD_mem L i i0 hlt
      have hfx : fV x.x := HF.out x hm
      have hlx : itemL x := HL.out.2 x hm
      have HX : Hid (x = L.getD i i0) := hx
      clear hx hm
      have p0 : wr.cell? ⟨b1, o1 + i * 5, none⟩ = some (.int .u8 x.k) := (HB.out.cell (p := ⟨b1, o1 + i * 5, none⟩) hb1).trans (q1 0 (by decide))
      have p1 : wr.cell? ⟨b1, o1 + i * 5 + 1, none⟩ = some (.int .u8 x.x.k) := (HB.out.cell (p := ⟨b1, o1 + i * 5 + 1, none⟩) hb1).trans (q1 1 (by decide))
      have p2 : wr.cell? ⟨b1, o1 + i * 5 + 2, none⟩ = some (.int .i64 x.x.n) := (HB.out.cell (p := ⟨b1, o1 + i * 5 + 2, none⟩) hb1).trans (q1 2 (by decide))
      have p3 : wr.cell? ⟨b1, o1 + i * 5 + 3, none⟩ = some (.string (st x.x.s)) := (HB.out.cell (p := ⟨b1, o1 + i * 5 + 3, none⟩) hb1).trans (q1 3 (by decide))
      have p4 : wr.cell? ⟨b1, o1 + i * 5 + 4, none⟩ = some (.string (st x.v)) := (HB.out.cell (p := ⟨b1, o1 + i * 5 + 4, none⟩) hb1).trans (q1 4 (by decide))
      clear q1
      obtain ⟨kx, xx, vx⟩ := x
      dsimp only at p0 p1 p2 p3 p4 hfx
      by_cases k0 : kx = 0
      · subst k0
        have HE2 : Hid (shPile svd [] L = shPile svd (X ++ [svd xx]) (L.drop (i + 1))) := HE.out.trans (pile_c hlt HX.out rfl)
        have CT := fun W => rtext_sv xx W hfx
        have hsv := svd_len xx hlx.2
        go_wp2_with (first | (go_at_call 23; refine (CT _).mono ?_; rintro e w2 ⟨rfl, hb2⟩; have H2 : Hid (Below wr.heap.size wr w2) := hb2; have hs2 := hb2.size; clear hb2) | (at_builtin; refine wpList_append_lies (P := Tryd.prog) _ rfl _ _ 60 rfl w.heap.size 9 i9 (.string ByteArray.empty) 1 16 Tryd.underlying60 hi9 hz9 hz91 hz92 rfl (by decide) _ X.length (strs X) rfl (World.ownsRow.alloc (HO.out.kept (grown_of H2.out) (by cases hv : (Value.slice a4 X.length c4).ownBlock <;> simp)) _) ⟨w2.heap.size, 0, none⟩ 1 1 [.string (st (svd xx))] rfl rfl (World.news_of_block (cs := #[.string (st (svd xx))]) (t := 9) (fr := (0, 0)) (new_at (by simp))) (by simp [Value.oneCell']) (by decide) (by unfold maxLen; omega) (by omega) (by simp; omega) _ rfl ?_; intro g5 cap5 w5 ho5 hg5 hw5 hlt5; have HO5 : Hid (w5.ownsRow w.heap.size 9 1 (.slice (some ⟨g5, 0, none⟩) (X.length + 1) cap5) (X.length + 1) (strs X ++ [.string (st (svd xx))])) := ho5; have HG5 : Hid (World.grownBy _ w5 _) := hg5; clear ho5 hg5 hw5))
        go_roundw
        case rel =>
          have h2 := HO.out.kept (grown_of H2.out) (by cases hv : (Value.slice a4 X.length c4).ownBlock <;> simp)
          refine ⟨i + 1, X ++ [svd xx], by simp, by omega, ?_, ?_, by have := HXL.out; simp; omega, by have := HT.out; rw [totS_app, totS_one]; omega, HE2.out⟩
          · rw [List.length_append, show strs (X ++ [svd xx]) = strs X ++ [.string (st (svd xx))] by simp [strs]]; exact HO5.out
          · exact ((HB.out.trans (H2.out.mono hsz)).alloc (by omega) _).grown HG5.out (by simp; omega) (fun k hk => ((h2.alloc (.cells #[.string (st (svd xx))] 9)).lt k hk).1)
        case measure => simp [intOf]; omega
      · by_cases k1 : kx = 1
        · subst k1
          have HE2 : Hid (shPile svd [] L = shPile svd (X ++ [60 :: (vx ++ [62])]) (L.drop (i + 1))) := HE.out.trans (pile_v hlt HX.out rfl)
          have hvx : vx.length ≤ 60 := hlx.1
          have hs1 := st_size vx
          have HST : Hid (({ data := #[60] } : ByteArray) ++ st vx ++ { data := #[62] } = st (60 :: (vx ++ [62]))) := by
            show _ = _
            rw [show ({ data := #[60] } : ByteArray) = st [60] from rfl, show ({ data := #[62] } : ByteArray) = st [62] from rfl, st_app2, st_app2]; rfl
          go_wp2_with (first | (at_builtin; refine wpList_append_lies (P := Tryd.prog) _ rfl _ _ 60 rfl w.heap.size 9 i9 (.string ByteArray.empty) 1 16 Tryd.underlying60 hi9 hz9 hz91 hz92 rfl (by decide) _ X.length (strs X) rfl (HO.out.alloc _) ⟨wr.heap.size, 0, none⟩ 1 1 [.string (({ data := #[60] } : ByteArray) ++ st vx ++ { data := #[62] })] rfl rfl (World.news_of_block (cs := #[.string (({ data := #[60] } : ByteArray) ++ st vx ++ { data := #[62] })]) (t := 9) (fr := (0, 0)) (new_at (by simp))) (by simp [Value.oneCell']) (by decide) (by unfold maxLen; omega) (by omega) (by simp; omega) _ rfl ?_; intro g5 cap5 w5 ho5 hg5 hw5 hlt5; have HO5 : Hid (w5.ownsRow w.heap.size 9 1 (.slice (some ⟨g5, 0, none⟩) (X.length + 1) cap5) (X.length + 1) (strs X ++ [.string (({ data := #[60] } : ByteArray) ++ st vx ++ { data := #[62] })])) := ho5; have HG5 : Hid (World.grownBy _ w5 _) := hg5; clear ho5 hg5 hw5))
          go_roundw
          case rel =>
            refine ⟨i + 1, X ++ [60 :: (vx ++ [62])], by simp, by omega, ?_, ?_, by have := HXL.out; simp; omega, by have := HT.out; rw [totS_app, totS_one]; simp; omega, HE2.out⟩
            · rw [List.length_append, show strs (X ++ [60 :: (vx ++ [62])]) = strs X ++ [.string (st (60 :: (vx ++ [62])))] by simp [strs], ← HST.out]; exact HO5.out
            · exact (HB.out.alloc hsz _).grown HG5.out (by simp; omega) (fun k hk => ((HO.out.alloc (.cells #[.string (({ data := #[60] } : ByteArray) ++ st vx ++ { data := #[62] })] 9)).lt k hk).1)
          case measure => simp [intOf]; omega
        · have CS := fun W => rsgn_any kx W
          by_cases hsg : sgS kx = []
          · have HN : Hid (shExpr svd L = none) := ex_none (HE.out.trans (pile_no hlt HX.out k0 k1 (.inl hsg)))
            have hs1 : (st (sgS kx)).toList.isEmpty = true := by rw [st_emp, hsg]; rfl
            generalize sgS kx = sg at *
            clear hsg
            go_wp2_with (go_at_call 24; refine (CS _).mono ?_; rintro e w' ⟨rfl, hw'⟩; obtain rfl := hw'.symm; clear CS)
            refine bodyPost_ret (v := .tuple #[.string (st []), .bool false]) (by simp [results, Tryd.results8, go_sem] <;> rfl) rfl ?_
            exact ExPost.no HB.out HN.out
          · have hs1 : (st (sgS kx)).toList.isEmpty = false := by rw [st_emp]; cases h : sgS kx with | nil => exact absurd h hsg | cons _ _ => rfl
            by_cases h2 : X.length < 2
            · have HN : Hid (shExpr svd L = none) := ex_none (HE.out.trans (pile_no hlt HX.out k0 k1 (.inr h2)))
              have h2i : (X.length : Int) < 2 := by omega
              generalize sgS kx = sg at *
              clear hsg h2
              go_wp2_with (go_at_call 24; refine (CS _).mono ?_; rintro e w' ⟨rfl, hw'⟩; obtain rfl := hw'.symm; clear CS)
              refine bodyPost_ret (v := .tuple #[.string (st []), .bool false]) (by simp [results, Tryd.results8, go_sem] <;> rfl) rfl ?_
              exact ExPost.no HB.out HN.out
            · have HK := pile_o (X := X) hlt HX.out k0 k1 (fun e => e.elim hsg h2)
              obtain ⟨m, hm⟩ : ∃ m, X.length = m + 2 := ⟨X.length - 2, by omega⟩
              have hm40 : m ≤ 40 := by omega
              rw [show X.length - 2 = m by omega, show X.length - 1 = m + 1 by omega] at HK
              have HE2 : Hid (shPile svd [] L = shPile svd (X.take m ++ [40 :: (sgS kx ++ 32 :: (X.getD m [] ++ 32 :: (X.getD (m + 1) [] ++ [41])))]) (L.drop (i + 1))) := HE.out.trans HK
              have HM : Hid ((strs X).length = m + 2) := by show (strs X).length = _; rw [← hm]; simp [strs]
              obtain ⟨g4, c6, e5, hg4b, hg4l⟩ := HO.out.form (by omega)
              obtain ⟨rfl, -, rfl⟩ := Value.slice.inj e5
              have pm : wr.cell? ⟨g4, m, none⟩ = some (.string (st (X.getD m []))) := by
                have := HO.out.cells (g := g4) rfl m _ (getD_strs X m (by omega))
                rw [addr_add] at this; exact this
              have pn : wr.cell? ⟨g4, m + 1, none⟩ = some (.string (st (X.getD (m + 1) []))) := by
                have := HO.out.cells (g := g4) rfl (m + 1) _ (getD_strs X (m + 1) (by omega))
                rw [addr_add] at this; exact this
              have hc6 : (m : Int) ≤ c4 := by
                rcases HO.out.2 with ⟨e, h0⟩ | ⟨g, cap, cur, e, _, _, hnc, _⟩
                · omega
                · obtain ⟨-, -, e3⟩ := Value.slice.inj e
                  omega
              have hc7 : (c4 : Int) ≤ 9223372036854775807 := by
                rcases HO.out.2 with ⟨e, h0⟩ | ⟨g, cap, cur, e, _, _, hnc, hcm, _⟩
                · omega
                · obtain ⟨-, -, e3⟩ := Value.slice.inj e
                  unfold maxLen at hcm
                  omega
              have hb1 : (st (X.getD m [])).size ≤ 2800 := by rw [st_size]; have h1 := tot_mem (getD_memS X m (by omega)); have h2 := HT.out; omega
              have hb2 : (st (X.getD (m + 1) [])).size ≤ 2800 := by rw [st_size]; have h1 := tot_mem (getD_memS X (m + 1) (by omega)); have h2 := HT.out; omega
              have hb3 : (st (sgS kx)).size ≤ 1 := by rw [st_size]; exact sgS_len kx
              have HTX : Hid (({ data := #[40] } : ByteArray) ++ st (sgS kx) ++ { data := #[32] } ++ st (X.getD m []) ++ { data := #[32] } ++ st (X.getD (m + 1) []) ++ { data := #[41] } = st (40 :: (sgS kx ++ 32 :: (X.getD m [] ++ 32 :: (X.getD (m + 1) [] ++ [41]))))) := by
                show _ = _
                rw [show ({ data := #[40] } : ByteArray) = st [40] from rfl, show ({ data := #[41] } : ByteArray) = st [41] from rfl, show ({ data := #[32] } : ByteArray) = st [32] from rfl]
                simp only [st_app2]
                congr 1
                simp
              have HTOT : Hid (totS (X.take m ++ [40 :: (sgS kx ++ 32 :: (X.getD m [] ++ 32 :: (X.getD (m + 1) [] ++ [41])))]) ≤ 70 * (i + 1)) := by
                have h1 := HT.out
                obtain ⟨P0, a, b, e⟩ := last_two X h2
                have hP0 : P0.length = m := by have := congrArg List.length e; simp at this; omega
                have ea : X.getD (m + 1) [] = a := by rw [e, ← hP0]; simp
                have eb : X.getD m [] = b := by rw [e, ← hP0]; simp
                have et : X.take m = P0 := by rw [e, ← hP0, List.take_append_of_le_length (Nat.le_refl _), List.take_of_length_le (Nat.le_refl _)]
                have h3 := sgS_len kx
                show totS _ ≤ _
                rw [et, ea, eb, totS_app, totS_one]
                rw [e, totS_app, show [b, a] = [b] ++ [a] from rfl, totS_app, totS_one, totS_one] at h1
                simp only [List.length_cons, List.length_append, List.length_nil]
                omega
              have HH2 : Hid (¬ X.length < 2) := h2
              clear HK e5
              generalize st (X.getD m []) = tb at *
              generalize st (X.getD (m + 1) []) = ta at *
              generalize st (sgS kx) = ts at *
              clear hsg
              rw [hm] at *
              clear hm h2
              have tok1 : Hid True := trivial
              have tok2 : Hid True := trivial
              go_wp2_with (go_at_call 24; refine (CS _).mono ?_; rintro e w' ⟨rfl, hw'⟩; obtain rfl := hw'.symm; clear CS)
              have hw1 : wrap64 ((m : Int) + 2 - 1) = m + 1 := by rw [show (m : Int) + 2 - 1 = m + 1 by omega]; unfold wrap64; omega
              have hw2 : ((m : Int) + 1).toNat = m + 1 := by omega
              go_quiet (fail)
              obtain ⟨tx, htx⟩ : ∃ tx : ByteArray, tx = ({ data := #[40] } ++ ts ++ { data := #[32] } ++ tb ++ { data := #[32] } ++ ta ++ { data := #[41] }) := ⟨_, rfl⟩
              rw [← htx]
              have HTX2 : Hid (tx = st (40 :: (sgS kx ++ 32 :: (X.getD m [] ++ 32 :: (X.getD (m + 1) [] ++ [41]))))) := htx.trans HTX.out
              clear htx HTX
              have HOf : Hid (wr.drew.ownsRow w.heap.size 9 1 (.slice (some ⟨g4, 0, none⟩) m c4) m ((strs X).take m)) := own_first HO.out (by omega) (by omega)
              have hcs : ∀ j u, ((strs X).take m)[j]? = some u → (wr.drew.alloc (.cells #[] 9)).cell? ((⟨g4, 0, none⟩ : Addr).add j) = some u := fun j u hu => (HOf.out.alloc (.cells #[] 9)).cells (g := g4) rfl j u hu
              have HCS : Hid (∀ j u, ((strs X).take m)[j]? = some u → (wr.drew.alloc (.cells #[] 9)).cell? ((⟨g4, 0, none⟩ : Addr).add j) = some u) := hcs
              have HNEW : Hid ((wr.drew.alloc (.cells #[] 9)).ownsRow wr.heap.size 9 1 (.slice (some ⟨wr.heap.size, 0, none⟩) 0 0) 0 []) := World.ownsRow_lit wr.drew #[] 0 (Nat.le_refl _) (by decide) rfl
              have hlt1 : ((strs X).take m).length = m * 1 := by rw [List.length_take]; have := HM.out; omega
              have HLT1 : Hid (((strs X).take m).length = m * 1) := hlt1
              have HONE : Hid (∀ u ∈ (strs X).take m, u.oneCell' = true) := fun u hu => by
                have := List.mem_of_mem_take hu
                obtain ⟨s, -, rfl⟩ := List.mem_map.1 this
                rfl
              clear hcs hlt1 hb1 hb2 hb3
              go_wp2_with (first | (at_builtin; have tku := tok1; clear tku tok1; go_loud (refine wpList_append_own (P := Tryd.prog) _ rfl _ _ 60 rfl wr.heap.size 9 i9 (.string ByteArray.empty) 1 16 Tryd.underlying60 hi9 hz9 hz91 hz92 rfl (by decide) _ 0 [] rfl HNEW.out ⟨g4, 0, none⟩ m c4 ((strs X).take m) rfl HLT1.out HCS.out HONE.out (by unfold maxLen; omega) (by omega) (by simp) ?_; intro v7 w7 ho7 hg7 hn7); have HO7 : Hid (w7.ownsRow wr.heap.size 9 1 v7 (0 + m) ([] ++ (strs X).take m)) := ho7; have HG7 : Hid (World.grownBy _ w7 _) := hg7; clear hn7 ho7 hg7) | (at_builtin; have tku := tok2; clear tku tok2; refine wpList_append_lies (P := Tryd.prog) _ rfl _ _ 60 rfl wr.heap.size 9 i9 (.string ByteArray.empty) 1 16 Tryd.underlying60 hi9 hz9 hz91 hz92 rfl (by decide) _ (0 + m) ([] ++ (strs X).take m) rfl (HO7.out.alloc _) ⟨w7.heap.size, 0, none⟩ 1 1 [.string tx] rfl rfl (World.news_of_block (cs := #[.string tx]) (t := 9) (fr := (0, 0)) (new_at (by simp))) (by simp [Value.oneCell']) (by decide) (by unfold maxLen; omega) (by omega) (by have h := HG7.out.size; simp at h ⊢; omega) _ rfl ?_; intro g8 cap8 w8 ho8 hg8 hw8 hlt8; have HO8 : Hid (w8.ownsRow wr.heap.size 9 1 (.slice (some ⟨g8, 0, none⟩) (0 + m + 1) cap8) (0 + m + 1) (([] ++ (strs X).take m) ++ [.string tx])) := ho8; have HG8 : Hid (World.grownBy _ w8 _) := hg8; clear ho8 hg8 hw8))
              go_roundw
              case rel =>
                refine ⟨i + 1, X.take m ++ [40 :: (sgS kx ++ 32 :: (X.getD m [] ++ 32 :: (X.getD (m + 1) [] ++ [41])))], by simp, by omega, ?_, ?_, ?_, HTOT.out, HE2.out⟩
                · have e1 : strs (X.take m ++ [40 :: (sgS kx ++ 32 :: (X.getD m [] ++ 32 :: (X.getD (m + 1) [] ++ [41])))]) = ([] ++ (strs X).take m) ++ [.string tx] := by rw [HTX2.out]; simp [strs, List.map_take]
                  have e2 : (X.take m ++ [40 :: (sgS kx ++ 32 :: (X.getD m [] ++ 32 :: (X.getD (m + 1) [] ++ [41])))]).length = m + 1 := by rw [List.length_append, List.length_take]; have := HM.out; simp [strs] at this; simp; omega
                  have h9 := own_base hsz HO8.out
                  rw [Nat.zero_add] at h9
                  rw [e1, e2]
                  exact h9
                · have g0 : ∀ n, Below w.heap.size w (wr.drewN n) := fun n => ⟨HB.out.1, HB.out.2, HB.out.3, HB.out.size, HB.out.block⟩
                  have g1 : Below w.heap.size w w7 := ((g0 _).alloc hsz (.cells #[] 9)).grown HG7.out (by simp; omega) (fun k hk => by have := (HNEW.out.lt k hk).1; omega)
                  exact (g1.alloc g1.size (.cells #[.string tx] 9)).grown HG8.out (by have := g1.size; simp; omega) (fun k hk => by have := ((HO7.out.alloc (.cells #[.string tx] 9)).lt k hk).1; omega)
                · rw [List.length_append, List.length_take]; have h1 := HXL.out; have h2 := HM.out; simp [strs] at h2; simp; omega
              case measure => simp [intOf]; omega
    · have hiz : ¬ (i : Int) < L.length := by omega
      obtain rfl : i = L.length := by omega
      have HEN : Hid (shPile svd [] L = some X) := by have := HE.out; rw [List.drop_length] at this; exact this
      by_cases h1 : X.length = 1
      · obtain ⟨x, hx⟩ := List.length_eq_one_iff.1 h1
        subst hx
        obtain ⟨g4, c6, e5, hg4b, hg4l⟩ := HO.out.form (by simp)
        obtain ⟨rfl, -, rfl⟩ := Value.slice.inj e5
        have pm : wr.cell? ⟨g4, 0, none⟩ = some (.string (st x)) := by
          have := HO.out.cells (g := g4) rfl 0 (.string (st x)) rfl
          rw [addr_add] at this; exact this
        have hl1 : ([x] : List Str).length = 1 := rfl
        clear h1 e5
        go_wp2
        refine bodyPost_ret (v := .tuple #[.string (st x), .bool true]) (by simp [results, Tryd.results8, go_sem] <;> rfl) rfl ?_
        exact ExPost.yes HB.out (ex_one HEN.out)
      · have hp1 : ¬ (X.length : Int) = 1 := by omega
        have HN : Hid (shExpr svd L = none) := ex_more HEN.out h1
        clear h1
        go_wp2
        refine bodyPost_ret (v := .tuple #[.string (st []), .bool false]) (by simp [results, Tryd.results8, go_sem, hp1] <;> rfl) rfl ?_
        exact ExPost.no HB.out HN.out

end Go.Proofs.YtemacdimdpnkeaaDoor
