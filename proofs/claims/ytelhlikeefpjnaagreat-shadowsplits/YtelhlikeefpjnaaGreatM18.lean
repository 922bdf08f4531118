import Derived.Test.YtelhlikeefpjnaaGreatM8
import Derived.Deep.WholeRow
namespace Go.Proofs.YtelhlikeefpjnaaGreat.R
set_option maxRecDepth 20000
open Go.RowKit
set_option linter.unusedVariables false
def RQ (B : Nat) (w : World) (rb : Nat) (p : List Int × Int) : Prop := Rq.RdQ (fun b => b < B) w rb p.1 p.2 ∧ rb < B ∧ B ≤ w.heap.size
theorem RQ.keep {B : Nat} {w w' : World} {rb : Nat} {p : List Int × Int} (h : RQ B w rb p) (hb : Below B w w') : RQ B w' rb p :=
  ⟨Rq.rdq_frame h.1 (hb.block rb h.2.1) (fun k hk _ => hb.block k hk) hb.size, h.2.1, Nat.le_trans h.2.2 hb.size⟩
def nval (x : Int) (p : List Int × Int) : Int := numV p.1 p.2 x
def nstep (x : Int) (p : List Int × Int) : List Int × Int := (numZ p.1 p.2 x, numE p.1 p.2 x)
theorem rq_num {B : Nat} {w : World} {rb : Nat} {p : List Int × Int} (x : Int) (h : RQ B w rb p) : Calls Tryz.prog 170 #[.pointer (some ⟨rb, 0, none⟩), .int .i64 x] w fun e w' => e = .returned (.int .i64 (nval x p)) ∧ RQ B w' rb (nstep x p) ∧ w.grownBy w' (some rb) := by
  refine (Rq.num_any rb p.1 p.2 x w h.1).mono ?_
  rintro e w' ⟨rfl, h1, h2⟩
  exact ⟨rfl, ⟨h1, h.2.1, Nat.le_trans h.2.2 h2.size⟩, h2⟩
def itN : Nat → List Int × Int → List Int × Int
  | 0, p => p
  | k + 1, p => nstep 2 (itN k p)
def vals (k : Nat) (p : List Int × Int) : List Int := (List.range k).map (fun j => nval 2 (itN j p))
theorem vals_len (k : Nat) (p : List Int × Int) : (vals k p).length = k := by simp [vals]
theorem vals_succ (k : Nat) (p : List Int × Int) : vals (k + 1) p = vals k p ++ [nval 2 (itN k p)] := by simp [vals, List.range_succ]
def rowI (n k : Nat) (p : List Int × Int) : List Value := (vals k p).map (Value.int .i64) ++ List.replicate (n - k) (Value.int .i64 0)
theorem rowI_zero (n : Nat) (p : List Int × Int) : rowI n 0 p = List.replicate n (Value.int .i64 0) := by simp [rowI, vals]
theorem rowI_full (n : Nat) (p : List Int × Int) : rowI n n p = (vals n p).map (Value.int .i64) := by simp [rowI]
theorem rowI_set (n k : Nat) (p : List Int × Int) (h : k < n) : (rowI n k p).set k (.int .i64 (nval 2 (itN k p))) = rowI n (k + 1) p := by
  unfold rowI
  obtain ⟨d, rfl⟩ := Nat.exists_eq_add_of_lt h
  have e1 : k + d + 1 - k = d + 1 := by omega
  have e3 : k + d + 1 - (k + 1) = d := by omega
  rw [e1, e3, vals_succ, List.map_append, List.append_assoc, List.set_append_right _ _ (by simp [vals_len])]
  simp [vals_len, List.replicate_succ]
def OwnI (w : World) (base : Nat) (v : Value) (zs : List Int) : Prop := w.ownsRow base 3 1 v zs.length (zs.map (Value.int .i64))
theorem Tryz.info3 : (Tryz.prog.info? 3).map (fun i => (i.zero, i.size, i.bytes)) = some (some (.int .i64 0), 1, 8) := by kernel_rfl
set_option maxHeartbeats 800000 in
theorem blocks_any (B rb n : Nat) (p : List Int × Int) (w : World) (h : RQ B w rb p) (hn : n ≤ 255) :
    Calls Tryz.prog 219 #[.pointer (some ⟨rb, 0, none⟩), .int .i64 n] w fun e w' => ∃ v, e = .returned v ∧ OwnI w' w.heap.size v (vals n p) ∧ RQ B w' rb (itN n p) ∧ w.grownBy w' (some rb) := by
  obtain ⟨i0, hi, hz0, hz1, hz2⟩ := info_parts Tryz.info3
  have hrb : rb < w.heap.size := Nat.lt_of_lt_of_le h.2.1 h.2.2
  have hBs : B ≤ w.heap.size := h.2.2
  go_enter Tryz.func219, Tryz.ntmps219
  go_wp2_with (at_make; refine wpList_make_full _ rfl _ _ 40 rfl w.heap.size 3 i0 (.int .i64 0) 1 Tryz.underlying40 hi hz0 hz1 .i64 .i64 _ _ n rfl rfl rfl rfl ?c2 ?c3 (Nat.le_refl _) ?_)
  case c2 => rw [hz2]; omega
  case c3 => unfold maxLen; omega
  intro w1 hown hg
  have HR1 : Hid (RQ B w1 rb p) := h.keep ((Below.refl B w).grown hg h.2.2 (by intro k hk; cases hk))
  have HO1 : Hid (w1.ownsRow w.heap.size 3 1 (.slice (some ⟨w.heap.size, 0, none⟩) n n) n (rowI n 0 p)) := by
    rw [toList_madeCells_one] at hown; rw [rowI_zero]; exact hown
  have HG1 : Hid (w.grownBy w1 (some rb)) := ⟨hg.os, hg.tape, hg.output, hg.size, fun k hk _ => hg.block k hk (by simp)⟩
  clear hown hg h
  go_wp2
  go_loopw [11] (fun iv wr => ∃ k : Nat, k ≤ n ∧ iv = .int .i64 k ∧ Hid (wr.ownsRow w.heap.size 3 1 (.slice (some ⟨w.heap.size, 0, none⟩) n n) n (rowI n k p)) ∧ Hid (RQ B wr rb (itN k p)) ∧ Hid (w.grownBy wr (some rb))) (fun iv _ => n - (intOf iv).toNat)
  case atStart => exact ⟨0, Nat.zero_le _, rfl, HO1.out, HR1.out, HG1.out⟩
  case round =>
    obtain ⟨k, hk, rfl, HO, HR, HG⟩ := hrel
    clear HO1 HR1 HG1
    by_cases hlt : k < n
    · have HN : Hid (Calls Tryz.prog 170 #[.pointer (some ⟨rb, 0, none⟩), .int .i64 2] wr fun e w' => e = .returned (.int .i64 (nval 2 (itN k p))) ∧ (∃ u, w'.cell? ⟨w.heap.size, k, none⟩ = some u) ∧ w'.frozen? ⟨w.heap.size, k, none⟩ = false ∧ Hid (RQ B w' rb (itN (k + 1) p) ∧ w'.ownsRow w.heap.size 3 1 (.slice (some ⟨w.heap.size, 0, none⟩) n n) n (rowI n k p) ∧ w.grownBy w' (some rb))) := by
        refine (rq_num 2 HR.out).mono ?_
        rintro e w' ⟨rfl, h1, h2⟩
        have hown : w'.ownsRow w.heap.size 3 1 (.slice (some ⟨w.heap.size, 0, none⟩) n n) n (rowI n k p) := HO.out.kept h2 (.inr (by simp [Value.ownBlock]; omega))
        refine ⟨rfl, ?_, hown.frozenAt k, h1, hown, ⟨h2.os.trans HG.out.os, h2.tape.trans HG.out.tape, h2.output.trans HG.out.output, Nat.le_trans HG.out.size h2.size, fun j hj hne => (h2.block j (Nat.lt_of_lt_of_le hj HG.out.size) hne).trans (HG.out.block j hj hne)⟩⟩
        rw [hown.cellAt k (by omega)]
        have : k < (rowI n k p).length := by rw [hown.1]; omega
        exact ⟨_, List.getElem?_eq_getElem this⟩
      clear HO HR HG
      go_wp2_with (first
        | (go_at_call 170; refine (HN.out).mono ?_; rintro e w2 ⟨rfl, ⟨u, hu⟩, hfz, H2⟩; clear HN)
        | fail)
      have HST : Hid (World.ownsRow (w2.setCell ⟨w.heap.size, k, none⟩ (.int .i64 (nval 2 (itN k p)))) w.heap.size 3 1 (.slice (some ⟨w.heap.size, 0, none⟩) n n) n (rowI n (k + 1) p)) := by
        have h := (H2.out.2.1.stored k (.int .i64 (nval 2 (itN k p)))).1
        rw [rowI_set n k p hlt] at h
        exact h
      have HB : Hid (Below w.heap.size w2 (w2.setCell ⟨w.heap.size, k, none⟩ (.int .i64 (nval 2 (itN k p))))) := (Below.refl w.heap.size w2).setCell (show w.heap.size ≤ (⟨w.heap.size, k, none⟩ : Addr).block from Nat.le_refl _) _
      have HGG : Hid (w.grownBy (w2.setCell ⟨w.heap.size, k, none⟩ (.int .i64 (nval 2 (itN k p)))) (some rb)) := by
        have h := H2.out.2.2
        exact ⟨HB.out.os.trans h.os, HB.out.tape.trans h.tape, HB.out.output.trans h.output, Nat.le_trans h.size HB.out.size, fun j hj hne => (HB.out.block j hj).trans (h.block j hj hne)⟩
      go_roundw
      case rel => exact ⟨k + 1, by omega, by go_num, HST.out, H2.out.1.keep (HB.out.mono hBs), HGG.out⟩
      case measure => simp [intOf]; omega
    · have : k = n := by omega
      subst this
      have h := HO.out
      rw [rowI_full] at h
      have HF : Hid (OwnI wr w.heap.size (.slice (some ⟨w.heap.size, 0, none⟩) k k) (vals k p)) := by
        show World.ownsRow _ _ _ _ _ _ _
        rw [vals_len]
        exact h
      clear h HO
      go_wp2
      go_ret
      exact ⟨_, rfl, HF.out, HR.out, HG.out⟩
def readP (zs : List Int) : Nat → List Int × Int
  | 0 => (zs.drop 4, 0)
  | 1 => nstep 6 (zs.drop 4, 0)
  | 2 => nstep 2 (nstep 6 (zs.drop 4, 0))
  | 3 => nstep 2 (nstep 2 (nstep 6 (zs.drop 4, 0)))
  | 4 => nstep 2 (nstep 2 (nstep 2 (nstep 6 (zs.drop 4, 0))))
  | 5 => nstep 1 (nstep 2 (nstep 2 (nstep 2 (nstep 6 (zs.drop 4, 0)))))
  | _ => nstep 1 (nstep 1 (nstep 2 (nstep 2 (nstep 2 (nstep 6 (zs.drop 4, 0))))))
def readTn (zs : List Int) : Nat := (nval 1 (readP zs 4)).toNat
def readMn (zs : List Int) : Nat := (nval 1 (readP zs 5)).toNat
def readS (zs : List Int) : RD := ⟨nval 6 (readP zs 0), nval 2 (readP zs 1), nval 2 (readP zs 2), nval 2 (readP zs 3), vals (readTn zs) (readP zs 6), vals (readMn zs) (itN (readTn zs) (readP zs 6))⟩
theorem nval1_bound (p : List Int × Int) (h : AllB p.1) : 0 ≤ nval 1 p ∧ nval 1 p ≤ 255 := by
  unfold nval numV
  split
  · unfold getV
    rw [if_neg (by omega)]
    split
    · omega
    · have h1 := val_bound 1 (p.1.take 1) (by rw [List.length_take]; omega) (h.take 1)
      show 0 ≤ val (p.1.take 1) ∧ val (p.1.take 1) ≤ 255
      omega
  · omega
theorem nstep_all {p : List Int × Int} (x : Int) (h : AllB p.1) : AllB (nstep x p).1 := by
  show AllB (numZ p.1 p.2 x)
  unfold numZ
  split
  · exact h.drop _
  · exact h
theorem readP_all {zs : List Int} (h : AllB zs) : ∀ k, AllB (readP zs k).1
  | 0 => h.drop 4
  | 1 => nstep_all _ (h.drop 4)
  | 2 => nstep_all _ (nstep_all _ (h.drop 4))
  | 3 => nstep_all _ (nstep_all _ (nstep_all _ (h.drop 4)))
  | 4 => nstep_all _ (nstep_all _ (nstep_all _ (nstep_all _ (h.drop 4))))
  | 5 => nstep_all _ (nstep_all _ (nstep_all _ (nstep_all _ (nstep_all _ (h.drop 4)))))
  | _ + 6 => nstep_all _ (nstep_all _ (nstep_all _ (nstep_all _ (nstep_all _ (nstep_all _ (h.drop 4))))))
theorem rq_new (a : Option Addr) (cap : Nat) (zs : List Int) (w : World) (hb : BV w a zs) (hm : zs.length ≤ 1000000) (hn : a = none → cap = 0) :
    Calls Tryz.prog 169 #[.slice a zs.length cap] w fun e w' => ∃ rb, e = .returned (.pointer (some ⟨rb, 0, none⟩)) ∧ Hid (w.heap.size ≤ rb ∧ RQ w'.heap.size w' rb (zs, 0) ∧ Below w.heap.size w w') := by
  refine (new_any a cap zs w hb hm hn).mono ?_
  rintro e w' ⟨rb, rfl, h1, h2, ⟨a', cap', q1, q2, q3, q4, q5⟩, h4⟩
  refine ⟨rb, rfl, h1, ⟨⟨a', cap', q1, q2, q3, q4, ?_⟩, h2, Nat.le_refl _⟩, h4⟩
  rcases q5 with q5 | ⟨b, off, e1, e2, e3, e4⟩
  · exact .inl q5
  · exact .inr ⟨b, off, e1, e2, e3, e3, e4⟩
structure RB (w W : World) (B rb xb : Nat) (p : List Int × Int) (c0 c1 c2 c3 c4 c5 : Value) : Prop where
  q : RQ B W rb p
  x : W.heap[xb]? = some (.cells #[c0, c1, c2, c3, c4, c5] 94 (0, 0))
  o : W.heap[w.heap.size]? = some (.cells #[.int .i64 0, .int .i64 0, .int .i64 0, .int .i64 0, .slice none 0 0, .slice none 0 0] 94 (0, 0))
  bx : B ≤ xb
  ow : w.heap.size < rb
  bl : Below w.heap.size w W
structure RX (w : World) (p : Nat) (c0 c1 c2 c3 c4 c5 : Value) : Prop where
  c0 : w.cell? ⟨p, 0, none⟩ = some c0
  c1 : w.cell? ⟨p, 1, none⟩ = some c1
  c2 : w.cell? ⟨p, 2, none⟩ = some c2
  c3 : w.cell? ⟨p, 3, none⟩ = some c3
  c4 : w.cell? ⟨p, 4, none⟩ = some c4
  c5 : w.cell? ⟨p, 5, none⟩ = some c5
  f0 : w.frozen? ⟨p, 0, none⟩ = false
  f1 : w.frozen? ⟨p, 1, none⟩ = false
  f2 : w.frozen? ⟨p, 2, none⟩ = false
  f3 : w.frozen? ⟨p, 3, none⟩ = false
  f4 : w.frozen? ⟨p, 4, none⟩ = false
  f5 : w.frozen? ⟨p, 5, none⟩ = false
theorem RX.of {w : World} {p : Nat} {c0 c1 c2 c3 c4 c5 : Value} (h : w.heap[p]? = some (.cells #[c0, c1, c2, c3, c4, c5] 94 (0, 0))) : RX w p c0 c1 c2 c3 c4 c5 := by
  refine ⟨?_, ?_, ?_, ?_, ?_, ?_, ?_, ?_, ?_, ?_, ?_, ?_⟩ <;> first
    | (rw [cell_of_row _ _ _ _ _ _ h]; rfl)
    | exact frozen_of_row _ _ _ _ _ h
theorem below_of_grown {w W W' : World} {rb : Nat} (hb : Below w.heap.size w W) (hg : W.grownBy W' (some rb)) (hr : w.heap.size ≤ rb) : Below w.heap.size w W' := hb.grown hg hb.size (by intro k hk; cases hk; exact hr)
theorem RB.ne {w W : World} {B rb xb : Nat} {p : List Int × Int} {c0 c1 c2 c3 c4 c5 : Value} (h : RB w W B rb xb p c0 c1 c2 c3 c4 c5) : xb ≠ rb ∧ w.heap.size ≠ rb ∧ w.heap.size ≠ xb ∧ xb < W.heap.size ∧ w.heap.size < W.heap.size := by
  have := h.q.2.1; have := h.bx; have := h.ow
  have h1 := (Array.getElem?_eq_some_iff.1 h.x).1
  have h2 := (Array.getElem?_eq_some_iff.1 h.o).1
  omega
theorem RB.grow {w W W' : World} {B rb xb : Nat} {p p' : List Int × Int} {c0 c1 c2 c3 c4 c5 : Value} (h : RB w W B rb xb p c0 c1 c2 c3 c4 c5) (hq : RQ B W' rb p') (hg : W.grownBy W' (some rb)) : RB w W' B rb xb p' c0 c1 c2 c3 c4 c5 := by
  have hn := h.ne
  exact ⟨hq, (hg.block xb hn.2.2.2.1 (by simp; exact hn.1)).trans h.x, (hg.block w.heap.size hn.2.2.2.2 (by simp; exact hn.2.1)).trans h.o, h.bx, h.ow, below_of_grown h.bl hg (by have := h.ow; omega)⟩
theorem rb_num {w W : World} {B rb xb : Nat} {p : List Int × Int} {c0 c1 c2 c3 c4 c5 : Value} (x : Int) (h : RB w W B rb xb p c0 c1 c2 c3 c4 c5) : Calls Tryz.prog 170 #[.pointer (some ⟨rb, 0, none⟩), .int .i64 x] W fun e w' => e = .returned (.int .i64 (nval x p)) ∧ RX w' xb c0 c1 c2 c3 c4 c5 ∧ Hid (RB w w' B rb xb (nstep x p) c0 c1 c2 c3 c4 c5) := by
  refine (rq_num x h.q).mono ?_
  rintro e w' ⟨rfl, h1, h2⟩
  have h3 := h.grow h1 h2
  exact ⟨rfl, RX.of h3.x, h3⟩
theorem RB.set {w W : World} {B rb xb : Nat} {p : List Int × Int} {c0 c1 c2 c3 c4 c5 : Value} (h : RB w W B rb xb p c0 c1 c2 c3 c4 c5) (i : Nat) (v d0 d1 d2 d3 d4 d5 : Value) (hd : (#[c0, c1, c2, c3, c4, c5] : Array Value).setIfInBounds i v = #[d0, d1, d2, d3, d4, d5]) : RB w (W.setCell ⟨xb, i, none⟩ v) B rb xb p d0 d1 d2 d3 d4 d5 := by
  have hn := h.ne
  have hb : Below B W (W.setCell ⟨xb, i, none⟩ v) := (Below.refl B W).setCell (show B ≤ (⟨xb, i, none⟩ : Addr).block from h.bx) _
  refine ⟨h.q.keep hb, ?_, ?_, h.bx, h.ow, ?_⟩
  · have := heap_setCell_same W xb i _ 94 v h.x
    rw [hd] at this
    exact this
  · exact (hb.block w.heap.size (by have := h.ow; have := h.q.2.1; omega)).trans h.o
  · exact h.bl.setCell (show w.heap.size ≤ (⟨xb, i, none⟩ : Addr).block by have := h.ow; have := h.q.2.1; have := h.bx; show w.heap.size ≤ xb; omega) _
def IVh (K : Nat) (w : World) (a : Option Addr) (zs : List Int) : Prop :=
  zs = [] ∨ ∃ b off, a = some ⟨b, off, none⟩ ∧ K ≤ b ∧ b < w.heap.size ∧ ∀ i, i < zs.length → w.cell? ⟨b, off + i, none⟩ = some (.int .i64 (zs.getD i 0))
theorem IVh.iv {K : Nat} {w : World} {a : Option Addr} {zs : List Int} (h : IVh K w a zs) : IV w a zs := by
  rcases h with rfl | ⟨b, off, rfl, _, hlt, hc⟩
  · exact .inl rfl
  · exact .inr ⟨b, off, rfl, hlt, hc⟩
theorem IVh.keep {K : Nat} {w w' : World} {a : Option Addr} {zs : List Int} (h : IVh K w a zs) (hk : ∀ k, K ≤ k → k < w.heap.size → w'.heap[k]? = w.heap[k]?) (hs : w.heap.size ≤ w'.heap.size) : IVh K w' a zs := by
  rcases h with rfl | ⟨b, off, rfl, h1, hlt, hc⟩
  · exact .inl rfl
  · exact .inr ⟨b, off, rfl, h1, Nat.lt_of_lt_of_le hlt hs, fun i hi => (World.cell?_of_block (a := ⟨b, off + i, none⟩) (hk b h1 hlt)).trans (hc i hi)⟩
theorem IVh.grown {K rb : Nat} {w w' : World} {a : Option Addr} {zs : List Int} (h : IVh K w a zs) (hg : w.grownBy w' (some rb)) (hr : rb < K) : IVh K w' a zs := h.keep (fun k hk hl => hg.block k hl (by simp; omega)) hg.size
theorem IVh.set {K xb i : Nat} {w : World} {a : Option Addr} {zs : List Int} (h : IVh K w a zs) (v : Value) (hx : xb < K) : IVh K (w.setCell ⟨xb, i, none⟩ v) a zs := by
  refine h.keep (fun k hk hl => ?_) (by simp [World.setCell])
  exact heap_setCell_other w ⟨xb, i, none⟩ k v (by show k ≠ xb; omega)
theorem OwnI.view {w : World} {base : Nat} {v : Value} {zs : List Int} (h : OwnI w base v zs) : ∃ a cap, v = .slice a zs.length cap ∧ (a = none → cap = 0) ∧ IVh base w a zs ∧ zs.length ≤ cap ∧ cap ≤ 9223372036854775807 := by
  have hl := World.ownsRow.lt h
  rcases h.2 with ⟨rfl, h0⟩ | ⟨g, cap, cur, rfl, hb, hg, hc, hm, hs, ht⟩
  · have : zs = [] := List.eq_nil_of_length_eq_zero h0
    subst this
    exact ⟨none, 0, rfl, fun _ => rfl, .inl rfl, Nat.le_refl _, by decide⟩
  · refine ⟨_, cap, rfl, (by intro h; cases h), .inr ⟨g, 0, rfl, hb, (hl g rfl).2, fun i hi => ?_⟩, hc, by unfold maxLen at hm; omega⟩
    rw [Nat.zero_add, cell_of_row _ _ _ _ _ _ hg]
    have e : (cur.toList.take (zs.length * 1))[i]? = (zs.map (Value.int .i64))[i]? := by rw [ht]
    have e2 : (zs.map (Value.int .i64))[i]? = some (.int .i64 (zs.getD i 0)) := by
      rw [List.getElem?_map, List.getD_eq_getElem?_getD, List.getElem?_eq_getElem hi]
      rfl
    rw [List.getElem?_take, if_pos (by omega), e2] at e
    rw [← Array.getElem?_toList]
    exact e
theorem rb_blocks {w W : World} {B rb xb n : Nat} {p : List Int × Int} {c0 c1 c2 c3 c4 c5 : Value} (h : RB w W B rb xb p c0 c1 c2 c3 c4 c5) (hn : n ≤ 255) : Calls Tryz.prog 219 #[.pointer (some ⟨rb, 0, none⟩), .int .i64 n] W fun e w' => ∃ a cap, e = .returned (.slice a n cap) ∧ RX w' xb c0 c1 c2 c3 c4 c5 ∧ Hid (RB w w' B rb xb (itN n p) c0 c1 c2 c3 c4 c5 ∧ IVh (xb + 1) w' a (vals n p) ∧ (a = none → cap = 0) ∧ n ≤ cap ∧ cap ≤ 9223372036854775807 ∧ W.grownBy w' (some rb)) := by
  refine (blocks_any B rb n p W h.q hn).mono ?_
  rintro e w' ⟨v, rfl, ho, h1, h2⟩
  obtain ⟨a, cap, rfl, q1, q2, q3, q4⟩ := ho.view
  have h3 := h.grow h1 h2
  rw [vals_len] at q3 ⊢
  refine ⟨a, cap, rfl, RX.of h3.x, h3, ?_, q1, q3, q4, h2⟩
  rcases q2 with q2 | ⟨b, off, e1, e2, e3, e4⟩
  · exact .inl q2
  · exact .inr ⟨b, off, e1, Nat.le_trans (Nat.succ_le_of_lt h.ne.2.2.2.1) e2, e3, e4⟩
end Go.Proofs.YtelhlikeefpjnaaGreat.R
namespace Go.Proofs.YtelhlikeefpjnaaGreat.R
set_option maxRecDepth 20000
open Go.RowKit
set_option linter.unusedVariables false
theorem set7_below (n : Nat) (w9 : World) (xb rx : Nat) (h1 : n ≤ xb) (h2 : n ≤ rx) (v u0 u1 u2 u3 u4 u5 : Value) : Below n w9 (((((((w9.setCell ⟨xb, 5, none⟩ v).setCell ⟨rx, 0, none⟩ u0).setCell ⟨rx, 1, none⟩ u1).setCell ⟨rx, 2, none⟩ u2).setCell ⟨rx, 3, none⟩ u3).setCell ⟨rx, 4, none⟩ u4).setCell ⟨rx, 5, none⟩ u5) :=
  (((((((Below.refl n w9).setCell (p := ⟨xb, 5, none⟩) h1 _).setCell (p := ⟨rx, 0, none⟩) h2 _).setCell (p := ⟨rx, 1, none⟩) h2 _).setCell (p := ⟨rx, 2, none⟩) h2 _).setCell (p := ⟨rx, 3, none⟩) h2 _).setCell (p := ⟨rx, 4, none⟩) h2 _).setCell (p := ⟨rx, 5, none⟩) h2 _
theorem set7_block (w9 : World) (xb rx k : Nat) (h1 : k ≠ xb) (h2 : k ≠ rx) (v u0 u1 u2 u3 u4 u5 : Value) : (((((((w9.setCell ⟨xb, 5, none⟩ v).setCell ⟨rx, 0, none⟩ u0).setCell ⟨rx, 1, none⟩ u1).setCell ⟨rx, 2, none⟩ u2).setCell ⟨rx, 3, none⟩ u3).setCell ⟨rx, 4, none⟩ u4).setCell ⟨rx, 5, none⟩ u5).heap[k]? = w9.heap[k]? :=
  (heap_setCell_other _ ⟨rx, 5, none⟩ k _ h2).trans ((heap_setCell_other _ ⟨rx, 4, none⟩ k _ h2).trans ((heap_setCell_other _ ⟨rx, 3, none⟩ k _ h2).trans ((heap_setCell_other _ ⟨rx, 2, none⟩ k _ h2).trans ((heap_setCell_other _ ⟨rx, 1, none⟩ k _ h2).trans ((heap_setCell_other _ ⟨rx, 0, none⟩ k _ h2).trans (heap_setCell_other _ ⟨xb, 5, none⟩ k _ h1))))))
theorem IVh.mono {K J : Nat} {w : World} {a : Option Addr} {zs : List Int} (h : IVh K w a zs) (hj : J ≤ K) : IVh J w a zs := by
  rcases h with rfl | ⟨b, off, rfl, h1, h2⟩
  · exact .inl rfl
  · exact .inr ⟨b, off, rfl, Nat.le_trans hj h1, h2⟩
set_option maxHeartbeats 1600000 in
theorem read_ok (b off n cap : Nat) (zs : List Int) (w : World) (hb : BV w (some ⟨b, off, none⟩) zs) (hl : zs.length = n + 4) (hn : n ≤ 1000) (hc : n + 4 ≤ cap) (hc4 : 4 < cap) :
    Calls Tryz.prog 193 #[.slice (some ⟨b, off, none⟩) (n + 4) cap] w fun e w' => ∃ ta tc ma mc, e = .returned (rootV (readS zs) ta tc ma mc) ∧ Rt w' (readS zs) ta tc ma mc ∧ (IVh w.heap.size w' ta (readS zs).T ∧ IVh w.heap.size w' ma (readS zs).M) ∧ Below w.heap.size w w' := by
  obtain ⟨W0, hW0⟩ : ∃ W, W = w.alloc (.cells #[.int .i64 0, .int .i64 0, .int .i64 0, .int .i64 0, .slice none 0 0, .slice none 0 0] 94) := ⟨_, rfl⟩
  have hB0 : Below w.heap.size w W0 := by rw [hW0]; exact (Below.refl _ _).alloc (Nat.le_refl _) _
  have HX0 : Hid (W0.heap[w.heap.size]? = some (.cells #[.int .i64 0, .int .i64 0, .int .i64 0, .int .i64 0, .slice none 0 0, .slice none 0 0] 94 (0, 0)) ∧ W0.heap.size = w.heap.size + 1) := by rw [hW0]; exact ⟨heap_alloc_last _ _, by simp⟩
  have HN : Hid (Calls Tryz.prog 169 #[.slice (some ⟨b, off + 4, none⟩) n (cap - 4)] W0 fun e w' => ∃ rb, e = .returned (.pointer (some ⟨rb, 0, none⟩)) ∧ Hid (W0.heap.size ≤ rb ∧ RQ w'.heap.size w' rb (readP zs 0) ∧ Below W0.heap.size W0 w')) := by
    have h := rq_new (some ⟨b, off + 4, none⟩) (cap - 4) (zs.drop 4) W0 ((hb.below hB0).drop 4) (by rw [List.length_drop]; omega) (by intro h; cases h)
    rw [List.length_drop, show zs.length - 4 = n by omega] at h
    exact h
  have h5 := nval1_bound (readP zs 4) (readP_all hb.1 4)
  have h6 := nval1_bound (readP zs 5) (readP_all hb.1 5)
  have HTN : Hid (nval 1 (readP zs 4) = ((readTn zs : Nat) : Int) ∧ readTn zs ≤ 255) := by
    have : ((nval 1 (readP zs 4)).toNat : Int) = nval 1 (readP zs 4) := by omega
    exact ⟨this.symm, by unfold readTn; omega⟩
  have HMN : Hid (nval 1 (readP zs 5) = ((readMn zs : Nat) : Int) ∧ readMn zs ≤ 255) := by
    have : ((nval 1 (readP zs 5)).toNat : Int) = nval 1 (readP zs 5) := by omega
    exact ⟨this.symm, by unfold readMn; omega⟩
  have s1 : (4 : Int) ≤ ((n + 4 : Nat) : Int) := by omega
  clear hb hl h5 h6
  go_enter Tryz.func193, Tryz.ntmps193
  go_wp2_with fail
  rw [← hW0]
  clear hW0
  refine HN.out.mono ?_
  rintro e w1 ⟨rb, rfl, H1⟩
  have HRB : Hid (RB w (w1.alloc (.cells #[.int .i64 0, .int .i64 0, .int .i64 0, .int .i64 0, .slice none 0 0, .slice none 0 0] 94)) w1.heap.size rb w1.heap.size (readP zs 0) (.int .i64 0) (.int .i64 0) (.int .i64 0) (.int .i64 0) (.slice none 0 0) (.slice none 0 0)) := by
    have hal : Below w1.heap.size w1 (w1.alloc (.cells #[.int .i64 0, .int .i64 0, .int .i64 0, .int .i64 0, .slice none 0 0, .slice none 0 0] 94)) := (Below.refl _ _).alloc (Nat.le_refl _) _
    have q1 := H1.out.2.2
    have q0 := HX0.out.2
    have q2 := H1.out.1
    exact ⟨H1.out.2.1.keep hal, heap_alloc_last _ _, (hal.block w.heap.size (by have := q1.size; omega)).trans ((q1.block w.heap.size (by omega)).trans HX0.out.1), Nat.le_refl _, by omega, hB0.trans ((q1.mono (by omega)).trans (hal.mono (by have := q1.size; omega)))⟩
  clear HN H1 HX0
  generalize hxb : w1.heap.size = xb at *
  go_wp2_with fail
  refine (rb_num 6 HRB.out).mono ?_
  rintro e w2 ⟨rfl, ⟨x20, x21, x22, x23, x24, x25, y20, y21, y22, y23, y24, y25⟩, H2⟩
  clear HRB
  go_wp2_with fail
  have G2 : Hid (RB w (w2.setCell ⟨xb, 0, none⟩ (.int .i64 (nval 6 (readP zs 0)))) xb rb xb (readP zs 1) (.int .i64 (nval 6 (readP zs 0))) (.int .i64 0) (.int .i64 0) (.int .i64 0) (.slice none 0 0) (.slice none 0 0)) := H2.out.set 0 _ _ _ _ _ _ _ rfl
  clear x20 y20 x21 y21 x22 y22 x23 y23 x24 y24 x25 y25 H2
  refine (rb_num 2 G2.out).mono ?_
  rintro e w3 ⟨rfl, ⟨x30, x31, x32, x33, x34, x35, y30, y31, y32, y33, y34, y35⟩, H3⟩
  clear G2
  go_wp2_with fail
  have G3 : Hid (RB w (w3.setCell ⟨xb, 1, none⟩ (.int .i64 (nval 2 (readP zs 1)))) xb rb xb (readP zs 2) (.int .i64 (nval 6 (readP zs 0))) (.int .i64 (nval 2 (readP zs 1))) (.int .i64 0) (.int .i64 0) (.slice none 0 0) (.slice none 0 0)) := H3.out.set 1 _ _ _ _ _ _ _ rfl
  clear x30 y30 x31 y31 x32 y32 x33 y33 x34 y34 x35 y35 H3
  refine (rb_num 2 G3.out).mono ?_
  rintro e w4 ⟨rfl, ⟨x40, x41, x42, x43, x44, x45, y40, y41, y42, y43, y44, y45⟩, H4⟩
  clear G3
  go_wp2_with fail
  have G4 : Hid (RB w (w4.setCell ⟨xb, 2, none⟩ (.int .i64 (nval 2 (readP zs 2)))) xb rb xb (readP zs 3) (.int .i64 (nval 6 (readP zs 0))) (.int .i64 (nval 2 (readP zs 1))) (.int .i64 (nval 2 (readP zs 2))) (.int .i64 0) (.slice none 0 0) (.slice none 0 0)) := H4.out.set 2 _ _ _ _ _ _ _ rfl
  clear x40 y40 x41 y41 x42 y42 x43 y43 x44 y44 x45 y45 H4
  refine (rb_num 2 G4.out).mono ?_
  rintro e w5 ⟨rfl, ⟨x50, x51, x52, x53, x54, x55, y50, y51, y52, y53, y54, y55⟩, H5⟩
  clear G4
  go_wp2_with fail
  have G5 : Hid (RB w (w5.setCell ⟨xb, 3, none⟩ (.int .i64 (nval 2 (readP zs 3)))) xb rb xb (readP zs 4) (.int .i64 (nval 6 (readP zs 0))) (.int .i64 (nval 2 (readP zs 1))) (.int .i64 (nval 2 (readP zs 2))) (.int .i64 (nval 2 (readP zs 3))) (.slice none 0 0) (.slice none 0 0)) := H5.out.set 3 _ _ _ _ _ _ _ rfl
  clear x50 y50 x51 y51 x52 y52 x53 y53 x54 y54 x55 y55 H5
  have C6 : Hid (∀ W, RB w W xb rb xb (readP zs 4) (.int .i64 (nval 6 (readP zs 0))) (.int .i64 (nval 2 (readP zs 1))) (.int .i64 (nval 2 (readP zs 2))) (.int .i64 (nval 2 (readP zs 3))) (.slice none 0 0) (.slice none 0 0) → Calls Tryz.prog 170 #[.pointer (some ⟨rb, 0, none⟩), .int .i64 1] W fun e w' => e = .returned (.int .i64 ((readTn zs : Nat) : Int)) ∧ RX w' xb (.int .i64 (nval 6 (readP zs 0))) (.int .i64 (nval 2 (readP zs 1))) (.int .i64 (nval 2 (readP zs 2))) (.int .i64 (nval 2 (readP zs 3))) (.slice none 0 0) (.slice none 0 0) ∧ Hid (RB w w' xb rb xb (readP zs 5) (.int .i64 (nval 6 (readP zs 0))) (.int .i64 (nval 2 (readP zs 1))) (.int .i64 (nval 2 (readP zs 2))) (.int .i64 (nval 2 (readP zs 3))) (.slice none 0 0) (.slice none 0 0))) := fun W h => by
    have := rb_num 1 h
    rw [HTN.out.1] at this
    exact this
  refine (C6.out _ G5.out).mono ?_
  rintro e w6 ⟨rfl, _, H6⟩
  clear G5 C6
  go_wp2_with fail
  have C7 : Hid (∀ W, RB w W xb rb xb (readP zs 5) (.int .i64 (nval 6 (readP zs 0))) (.int .i64 (nval 2 (readP zs 1))) (.int .i64 (nval 2 (readP zs 2))) (.int .i64 (nval 2 (readP zs 3))) (.slice none 0 0) (.slice none 0 0) → Calls Tryz.prog 170 #[.pointer (some ⟨rb, 0, none⟩), .int .i64 1] W fun e w' => e = .returned (.int .i64 ((readMn zs : Nat) : Int)) ∧ RX w' xb (.int .i64 (nval 6 (readP zs 0))) (.int .i64 (nval 2 (readP zs 1))) (.int .i64 (nval 2 (readP zs 2))) (.int .i64 (nval 2 (readP zs 3))) (.slice none 0 0) (.slice none 0 0) ∧ Hid (RB w w' xb rb xb (readP zs 6) (.int .i64 (nval 6 (readP zs 0))) (.int .i64 (nval 2 (readP zs 1))) (.int .i64 (nval 2 (readP zs 2))) (.int .i64 (nval 2 (readP zs 3))) (.slice none 0 0) (.slice none 0 0))) := fun W h => by
    have := rb_num 1 h
    rw [HMN.out.1] at this
    exact this
  refine (C7.out _ H6.out).mono ?_
  rintro e w7 ⟨rfl, _, H7⟩
  clear H6 C7
  go_wp2_with fail
  refine (rb_blocks (n := readTn zs) H7.out HTN.out.2).mono ?_
  rintro e w8 ⟨ta, tc, rfl, ⟨x80, x81, x82, x83, x84, x85, y80, y81, y82, y83, y84, y85⟩, H8⟩
  clear H7
  go_wp2_with fail
  have G8 : Hid (RB w (w8.setCell ⟨xb, 4, none⟩ (.slice ta (readTn zs) tc)) xb rb xb (itN (readTn zs) (readP zs 6)) (.int .i64 (nval 6 (readP zs 0))) (.int .i64 (nval 2 (readP zs 1))) (.int .i64 (nval 2 (readP zs 2))) (.int .i64 (nval 2 (readP zs 3))) (.slice ta (readTn zs) tc) (.slice none 0 0) ∧ IVh (xb + 1) (w8.setCell ⟨xb, 4, none⟩ (.slice ta (readTn zs) tc)) ta (vals (readTn zs) (readP zs 6)) ∧ (ta = none → tc = 0) ∧ readTn zs ≤ tc ∧ tc ≤ 9223372036854775807) := ⟨H8.out.1.set 4 _ _ _ _ _ _ _ rfl, H8.out.2.1.set _ (Nat.lt_succ_self _), H8.out.2.2.1, H8.out.2.2.2.1, H8.out.2.2.2.2.1⟩
  clear x80 y80 x81 y81 x82 y82 x83 y83 x84 y84 x85 y85 H8
  refine (rb_blocks (n := readMn zs) G8.out.1 HMN.out.2).mono ?_
  rintro e w9 ⟨ma, mc, rfl, ⟨x90, x91, x92, x93, x94, x95, y90, y91, y92, y93, y94, y95⟩, H9⟩
  have HT9 : Hid (IVh (xb + 1) w9 ta (vals (readTn zs) (readP zs 6))) := G8.out.2.1.grown H9.out.2.2.2.2.2 (by have := H9.out.1.q.2.1; have := H9.out.1.bx; omega)
  have HC8 : Hid ((ta = none → tc = 0) ∧ readTn zs ≤ tc ∧ tc ≤ 9223372036854775807) := G8.out.2.2
  clear G8
  obtain ⟨z0, z1, z2, z3, z4, z5, v0, v1, v2, v3, v4, v5⟩ := RX.of H9.out.1.o
  have hne : w.heap.size ≠ xb := H9.out.1.ne.2.2.1
  have hne2 : xb ≠ w.heap.size := fun e => hne e.symm
  have hxk : w.heap.size ≤ xb + 1 := by have := H9.out.1.ow; have := H9.out.1.q.2.1; have := H9.out.1.bx; omega
  have HF : Hid (∀ W, Below w.heap.size w9 W → (∀ k, xb + 1 ≤ k → k < w9.heap.size → W.heap[k]? = w9.heap[k]?) → Rt W (readS zs) ta tc ma mc ∧ (IVh w.heap.size W ta (readS zs).T ∧ IVh w.heap.size W ma (readS zs).M) ∧ Below w.heap.size w W) := fun W hb hk => by
    refine ⟨⟨(HT9.out.keep hk hb.size).iv, (H9.out.2.1.keep hk hb.size).iv, HC8.out.1, H9.out.2.2.1, ?_, ?_, HC8.out.2.2, H9.out.2.2.2.2.1⟩, ⟨(HT9.out.keep hk hb.size).mono hxk, (H9.out.2.1.keep hk hb.size).mono hxk⟩, H9.out.1.bl.trans hb⟩
    · show (vals _ _).length ≤ tc
      rw [vals_len]; exact HC8.out.2.1
    · show (vals _ _).length ≤ mc
      rw [vals_len]; exact H9.out.2.2.2.1
  have HRV : Hid (rootV (readS zs) ta tc ma mc = .agg #[.int .i64 (nval 6 (readP zs 0)), .int .i64 (nval 2 (readP zs 1)), .int .i64 (nval 2 (readP zs 2)), .int .i64 (nval 2 (readP zs 3)), .slice ta (readTn zs) tc, .slice ma (readMn zs) mc]) := by
    show _ = _
    unfold rootV readS
    simp only [vals_len]
  have hxw : w.heap.size ≤ xb := by have := H9.out.1.ow; have := H9.out.1.q.2.1; have := H9.out.1.bx; omega
  have HV : Hid (Below w.heap.size w9 (((((((w9.setCell ⟨xb, 5, none⟩ (.slice ma (readMn zs) mc)).setCell ⟨w.heap.size, 0, none⟩ (.int .i64 (nval 6 (readP zs 0)))).setCell ⟨w.heap.size, 1, none⟩ (.int .i64 (nval 2 (readP zs 1)))).setCell ⟨w.heap.size, 2, none⟩ (.int .i64 (nval 2 (readP zs 2)))).setCell ⟨w.heap.size, 3, none⟩ (.int .i64 (nval 2 (readP zs 3)))).setCell ⟨w.heap.size, 4, none⟩ (.slice ta (readTn zs) tc)).setCell ⟨w.heap.size, 5, none⟩ (.slice ma (readMn zs) mc)) ∧ ∀ k, xb + 1 ≤ k → k < w9.heap.size → (((((((w9.setCell ⟨xb, 5, none⟩ (.slice ma (readMn zs) mc)).setCell ⟨w.heap.size, 0, none⟩ (.int .i64 (nval 6 (readP zs 0)))).setCell ⟨w.heap.size, 1, none⟩ (.int .i64 (nval 2 (readP zs 1)))).setCell ⟨w.heap.size, 2, none⟩ (.int .i64 (nval 2 (readP zs 2)))).setCell ⟨w.heap.size, 3, none⟩ (.int .i64 (nval 2 (readP zs 3)))).setCell ⟨w.heap.size, 4, none⟩ (.slice ta (readTn zs) tc)).setCell ⟨w.heap.size, 5, none⟩ (.slice ma (readMn zs) mc)).heap[k]? = w9.heap[k]?) := by
    exact ⟨set7_below _ _ _ _ hxw (Nat.le_refl _) _ _ _ _ _ _ _, fun k hk _ => set7_block _ _ _ _ (by omega) (by omega) _ _ _ _ _ _ _⟩
  clear H9 HT9 HC8
  go_wp2_with fail
  exact bodyPost_ret (v := .agg #[.int .i64 (nval 6 (readP zs 0)), .int .i64 (nval 2 (readP zs 1)), .int .i64 (nval 2 (readP zs 2)), .int .i64 (nval 2 (readP zs 3)), .slice ta (readTn zs) tc, .slice ma (readMn zs) mc]) (by simp [results, Tryz.results193, go_sem, *]) rfl ⟨ta, tc, ma, mc, by rw [HRV.out], HF.out _ HV.out.1 HV.out.2⟩
theorem read_any (a : Option Addr) (cap : Nat) (zs : List Int) (w : World) (hb : BV w a zs) (hl : zs.length = 246) (hc : zs.length ≤ cap) :
    Calls Tryz.prog 193 #[.slice a zs.length cap] w fun e w' => ∃ ta tc ma mc, e = .returned (rootV (readS zs) ta tc ma mc) ∧ Rt w' (readS zs) ta tc ma mc ∧ (IVh w.heap.size w' ta (readS zs).T ∧ IVh w.heap.size w' ma (readS zs).M) ∧ Below w.heap.size w w' := by
  have hb0 := hb
  obtain ⟨_, rfl | ⟨b, off, rfl, _, _⟩⟩ := hb
  · simp at hl
  · rw [hl]
    exact read_ok b off 242 cap zs w hb0 hl (by decide) (by omega) (by omega)
end Go.Proofs.YtelhlikeefpjnaaGreat.R
