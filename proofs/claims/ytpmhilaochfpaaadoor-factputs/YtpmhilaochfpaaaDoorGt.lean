/- Taking a value off: contract of take; what is got, as data. -/
import Derived.Test.YtpmhilaochfpaaaDoorPu
import Derived.Test.YtpmhilaochfpaaaDoorRq
namespace Go.Proofs.YtpmhilaochfpaaaDoor
set_option maxRecDepth 20000
open Go.RowKit
set_option linter.unusedVariables false
set_option linter.unusedSimpArgs false
set_option maxRecDepth 20000

def tkK (zs : List Int) : Int := zs.getD 0 0
def tkN (zs : List Int) : Int := if tkK zs = 1 then sgdV (zs.drop 1) 0 else 0
def tkS (zs : List Int) : ByteArray := if tkK zs = 2 then rtxS (zs.drop 1) 0 else ByteArray.empty
def tkE (zs : List Int) : Int := if zs = [] then 3 else if tkK zs = 1 then sgdE (zs.drop 1) 0 else if tkK zs = 2 then rtxE (zs.drop 1) 0 else 0
def tkZ (zs : List Int) : List Int := if zs = [] then [] else if tkK zs = 1 then sgdZ (zs.drop 1) 0 else if tkK zs = 2 then rtxZ (zs.drop 1) 0 else zs.drop 1

/-- A reader whose bytes lie below B. -/
abbrev RB (B : Nat) := Rq.RdQ (fun b => b < B)
theorem RB.low {B : Nat} {w w' : World} {rb : Nat} {zs : List Int} {e : Int} (h : RB B w rb zs e) (hr : rb < B) (hb : Below B w w') : RB B w' rb zs e := by
  obtain ⟨a, cap, ⟨c0, c1, f0, f1⟩, h1, h2, h3, h4⟩ := h
  refine ⟨a, cap, ⟨(hb.cell (p := ⟨rb, 0, none⟩) hr).trans c0, (hb.cell (p := ⟨rb, 1, none⟩) hr).trans c1, (hb.frozen (p := ⟨rb, 0, none⟩) hr).trans f0, (hb.frozen (p := ⟨rb, 1, none⟩) hr).trans f1⟩, h1, h2, h3, ?_⟩
  rcases h4 with h4 | ⟨b, off, e1, e2, e3, e4, e5⟩
  · exact .inl h4
  · exact .inr ⟨b, off, e1, e2, e3, Nat.lt_of_lt_of_le e4 hb.size, fun i hi => (hb.cell (p := ⟨b, off + i, none⟩) e3).trans (e5 i hi)⟩
theorem RB.all {B : Nat} {w : World} {rb : Nat} {zs : List Int} {e : Int} (h : RB B w rb zs e) : AllB zs := by obtain ⟨a, cap, _, _, _, h3, _⟩ := h; exact h3
theorem gcell {W w1 : World} {rb : Nat} (hg : W.grownBy w1 (some rb)) (b : Nat) (hb : b < W.heap.size) (hne : b ≠ rb) : (∀ o, w1.cell? ⟨b, o, none⟩ = W.cell? ⟨b, o, none⟩) ∧ (∀ o, w1.frozen? ⟨b, o, none⟩ = W.frozen? ⟨b, o, none⟩) :=
  have h := hg.block b hb (by simp; omega)
  ⟨fun o => World.cell?_of_block (a := ⟨b, o, none⟩) h, fun o => World.frozen?_of_block (a := ⟨b, o, none⟩) h⟩
/-- All but rb, of what lies below B, is as it was. -/
theorem grown_of {B rb : Nat} {w w1 w2 : World} (h1 : w.grownBy w1 (some rb)) (h2 : Below w.heap.size w1 w2) : w.grownBy w2 (some rb) :=
  ⟨h2.os.trans h1.os, h2.tape.trans h1.tape, h2.output.trans h1.output, Nat.le_trans h1.size h2.size, fun k hk hne => (h2.block k hk).trans (h1.block k hk hne)⟩
theorem grown_alloc {w w1 : World} {o : Obj} {rb : Nat} (h : (w.alloc o).grownBy w1 (some rb)) : w.grownBy w1 (some rb) := (World.grownBy_alloc w o _).trans h
theorem num1 (zs : List Int) (h : zs ≠ []) : numV zs 0 1 = tkK zs ∧ numE zs 0 1 = 0 ∧ numZ zs 0 1 = zs.drop 1 := by
  have hl : 1 ≤ zs.length := List.length_pos_iff.2 h
  obtain ⟨e1, e2⟩ := get1 zs hl
  unfold numV numE numZ
  rw [if_pos rfl, if_pos rfl, e2, if_pos ⟨rfl, rfl⟩, e1]
  exact ⟨rfl, rfl, rfl⟩
theorem num1_nil : numV [] 0 1 = 0 ∧ numE [] 0 1 = 3 ∧ numZ [] 0 1 = [] := by decide
def TkPost (B : Nat) (w : World) (rb : Nat) (zs : List Int) (e : Ending) (w' : World) : Prop := e = .returned (vv (tkK zs) (tkN zs) (tkS zs)) ∧ RB B w' rb (tkZ zs) (tkE zs) ∧ w.grownBy w' (some rb)
theorem dcell {B : Nat} {w w1 : World} (h : Below B w w1) (b : Nat) (hb : b < B) : True := trivial
--TAKE
set_option maxHeartbeats 1000000 in
theorem take_nil (rb : Nat) (zs : List Int) (w : World) (h : RB w.heap.size w rb zs 0) (hr : rb < w.heap.size) (hz : zs = []) :
    Calls Tryd.prog 63 #[.pointer (some ⟨rb, 0, none⟩)] w (TkPost w.heap.size w rb zs) := by
  have CN := fun w' hq => Rq.num_any (Q := fun b => b < w.heap.size) rb zs 0 1 w' hq
  subst hz
  obtain ⟨e1, e2, e3⟩ := num1_nil
  rw [e1, e2, e3] at CN
  have HQ : Hid (∀ w', RB w.heap.size w' rb [] 3 → w.grownBy w' (some rb) → TkPost w.heap.size w rb [] (.returned (vv 0 0 ByteArray.empty)) w') := fun w' a b => ⟨rfl, a, b⟩
  generalize TkPost w.heap.size w rb [] = Post at *
  clear e1 e2 e3
  go_enter Tryd.func63, Tryd.ntmps63
  go_wp2_with (first | (go_at_call 70; refine (CN _ (h.low hr (box1 _ _))).mono ?_; rintro e w1 ⟨rfl, hq1, hg1⟩; clear CN; obtain ⟨hc1, hf1⟩ := gcell hg1 w.heap.size (by simp) (by omega); have hz1 : w.heap.size < w1.heap.size := by { have := hg1.size; simp at this; omega }))
  have hbl := (set3 (Below.refl w.heap.size w1) w.heap.size (Nat.le_refl _) (.int .u8 0) (.int .i64 0) (.string ByteArray.empty)).alloc (by simp [World.setCell]; omega) (.cells #[.int .u8 0, .int .i64 0, .string ByteArray.empty] 52)
  refine bodyPost_ret (v := vv 0 0 ByteArray.empty) (by simp [results, Tryd.results63, go_sem, vv, hc1, hf1, hz1]; rfl) rfl (HQ.out _ (RB.low hq1 hr hbl) (grown_of (B := 0) (grown_alloc hg1) hbl))
set_option maxHeartbeats 1000000 in
theorem take_oth (rb : Nat) (zs : List Int) (w : World) (h : RB w.heap.size w rb zs 0) (hr : rb < w.heap.size) (hz : zs ≠ []) (h1 : tkK zs ≠ 1) (h2 : tkK zs ≠ 2) :
    Calls Tryd.prog 63 #[.pointer (some ⟨rb, 0, none⟩)] w (TkPost w.heap.size w rb zs) := by
  have CN := fun w' hq => Rq.num_any (Q := fun b => b < w.heap.size) rb zs 0 1 w' hq
  obtain ⟨e1, e2, e3⟩ := num1 zs hz
  rw [e1, e2, e3] at CN
  obtain ⟨z0, z1⟩ := h.all.getD 0
  have HQ : Hid (∀ w', RB w.heap.size w' rb (zs.drop 1) 0 → w.grownBy w' (some rb) → TkPost w.heap.size w rb zs (.returned (vv (tkK zs) 0 ByteArray.empty)) w') := fun w' a b => by
    refine ⟨?_, ?_, b⟩
    · unfold tkN tkS; rw [if_neg h1, if_neg h2]
    · unfold tkZ tkE; rw [if_neg hz, if_neg h1, if_neg h2, if_neg hz, if_neg h1, if_neg h2]; exact a
  have k0 : 0 ≤ tkK zs := z0
  have k1 : tkK zs ≤ 255 := z1
  have b1 : (tkK zs == 1) = false := by rw [beq_eq_false_iff_ne]; exact h1
  have b2 : (tkK zs == 2) = false := by rw [beq_eq_false_iff_ne]; exact h2
  generalize TkPost w.heap.size w rb zs = Post at *
  generalize tkK zs = k at *
  clear e1 e2 e3 h1 h2 z0 z1 hz
  go_enter Tryd.func63, Tryd.ntmps63
  go_wp2_with (first | (go_at_call 70; refine (CN _ (h.low hr (box1 _ _))).mono ?_; rintro e w1 ⟨rfl, hq1, hg1⟩; clear CN; obtain ⟨hc1, hf1⟩ := gcell hg1 w.heap.size (by simp) (by omega); have hz1 : w.heap.size < w1.heap.size := by { have := hg1.size; simp at this; omega }))
  have hbl := (set3 (Below.refl w.heap.size w1) w.heap.size (Nat.le_refl _) (.int .u8 k) (.int .i64 0) (.string ByteArray.empty)).alloc (by simp [World.setCell]; omega) (.cells #[.int .u8 k, .int .i64 0, .string ByteArray.empty] 52)
  refine bodyPost_ret (v := vv k 0 ByteArray.empty) (by simp [results, Tryd.results63, go_sem, vv, hc1, hf1, hz1]; rfl) rfl (HQ.out _ (RB.low hq1 hr hbl) (grown_of (B := 0) (grown_alloc hg1) hbl))
set_option maxHeartbeats 1000000 in
theorem take_one (rb : Nat) (zs : List Int) (w : World) (h : RB w.heap.size w rb zs 0) (hr : rb < w.heap.size) (hz : zs ≠ []) (h1 : tkK zs = 1) :
    Calls Tryd.prog 63 #[.pointer (some ⟨rb, 0, none⟩)] w (TkPost w.heap.size w rb zs) := by
  have CN := fun w' hq => Rq.num_any (Q := fun b => b < w.heap.size) rb zs 0 1 w' hq
  obtain ⟨e1, e2, e3⟩ := num1 zs hz
  rw [e1, e2, e3] at CN
  obtain ⟨z0, z1⟩ := h.all.getD 0
  rw [h1] at CN
  have CS := fun w' hq => Rq.sgd_any (Q := fun b => b < w.heap.size) rb (zs.drop 1) 0 w' hq
  have HQ : Hid (∀ w', RB w.heap.size w' rb (sgdZ (zs.drop 1) 0) (sgdE (zs.drop 1) 0) → w.grownBy w' (some rb) → TkPost w.heap.size w rb zs (.returned (vv 1 (sgdV (zs.drop 1) 0) ByteArray.empty)) w') := fun w' a b => by
    have h2 : ¬ tkK zs = 2 := by rw [h1]; decide
    refine ⟨?_, ?_, b⟩
    · unfold tkN tkS; rw [if_pos h1, if_neg h2, h1]
    · unfold tkZ tkE; rw [if_neg hz, if_pos h1, if_neg hz, if_pos h1]; exact a
  generalize TkPost w.heap.size w rb zs = Post at *
  generalize sgdV (zs.drop 1) 0 = sv at *
  generalize sgdZ (zs.drop 1) 0 = sz at *
  generalize sgdE (zs.drop 1) 0 = se at *
  clear e1 e2 e3 h1 z0 z1 hz
  go_enter Tryd.func63, Tryd.ntmps63
  go_wp2_with (first | (go_at_call 70; refine (CN _ (h.low hr (box1 _ _))).mono ?_; rintro e w1 ⟨rfl, hq1, hg1⟩; clear CN; obtain ⟨hc1, hf1⟩ := gcell hg1 w.heap.size (by simp) (by omega); have hz1 : w.heap.size < w1.heap.size := by { have := hg1.size; simp at this; omega }) | (go_at_call 71; refine (CS _ (RB.low hq1 hr ((box1 w1 _).mono (Nat.le_of_lt hz1)))).mono ?_; rintro e w2 ⟨rfl, hq2, hg2⟩; clear CS; obtain ⟨hc2, hf2⟩ := gcell hg2 w.heap.size (by simp; omega) (by omega); obtain ⟨hc3, hf3⟩ := gcell hg2 w1.heap.size (by simp) (by omega); have hz2 : w1.heap.size < w2.heap.size := by { have := hg2.size; simp at this; omega }))
  have hbl := set3 ((Below.refl w.heap.size w2).setCell (p := ⟨w1.heap.size, 1, none⟩) (Nat.le_of_lt hz1) (.int .i64 sv)) w.heap.size (Nat.le_refl _) (.int .u8 1) (.int .i64 sv) (.string ByteArray.empty)
  refine bodyPost_ret (v := vv 1 sv ByteArray.empty) (by simp [results, Tryd.results63, go_sem, vv, hc1, hf1, hz1, hc2, hc3, hz2]; rfl) rfl (HQ.out _ (RB.low hq2 hr hbl) (grown_of (B := 0) ((grown_alloc hg1).trans (grown_alloc hg2)) hbl))
set_option maxHeartbeats 1000000 in
theorem take_two (rb : Nat) (zs : List Int) (w : World) (h : RB w.heap.size w rb zs 0) (hr : rb < w.heap.size) (hz : zs ≠ []) (h2 : tkK zs = 2) :
    Calls Tryd.prog 63 #[.pointer (some ⟨rb, 0, none⟩)] w (TkPost w.heap.size w rb zs) := by
  have CN := fun w' hq => Rq.num_any (Q := fun b => b < w.heap.size) rb zs 0 1 w' hq
  obtain ⟨e1, e2, e3⟩ := num1 zs hz
  rw [e1, e2, e3] at CN
  obtain ⟨z0, z1⟩ := h.all.getD 0
  rw [h2] at CN
  have CS := fun w' hq => Rq.rtx_any (Q := fun b => b < w.heap.size) rb (zs.drop 1) 0 w' hq
  have HQ : Hid (∀ w', RB w.heap.size w' rb (rtxZ (zs.drop 1) 0) (rtxE (zs.drop 1) 0) → w.grownBy w' (some rb) → TkPost w.heap.size w rb zs (.returned (vv 2 0 (rtxS (zs.drop 1) 0))) w') := fun w' a b => by
    have h1 : ¬ tkK zs = 1 := by rw [h2]; decide
    refine ⟨?_, ?_, b⟩
    · unfold tkN tkS; rw [if_neg h1, if_pos h2, h2]
    · unfold tkZ tkE; rw [if_neg hz, if_neg h1, if_pos h2, if_neg hz, if_neg h1, if_pos h2]; exact a
  generalize TkPost w.heap.size w rb zs = Post at *
  generalize rtxS (zs.drop 1) 0 = sv at *
  generalize rtxZ (zs.drop 1) 0 = sz at *
  generalize rtxE (zs.drop 1) 0 = se at *
  clear e1 e2 e3 h2 z0 z1 hz
  go_enter Tryd.func63, Tryd.ntmps63
  go_wp2_with (first | (go_at_call 70; refine (CN _ (h.low hr (box1 _ _))).mono ?_; rintro e w1 ⟨rfl, hq1, hg1⟩; clear CN; obtain ⟨hc1, hf1⟩ := gcell hg1 w.heap.size (by simp) (by omega); have hz1 : w.heap.size < w1.heap.size := by { have := hg1.size; simp at this; omega }) | (go_at_call 72; refine (CS _ (RB.low hq1 hr ((box1 w1 _).mono (Nat.le_of_lt hz1)))).mono ?_; rintro e w2 ⟨rfl, hq2, hg2⟩; clear CS; obtain ⟨hc2, hf2⟩ := gcell hg2 w.heap.size (by simp; omega) (by omega); obtain ⟨hc3, hf3⟩ := gcell hg2 w1.heap.size (by simp) (by omega); have hz2 : w1.heap.size < w2.heap.size := by { have := hg2.size; simp at this; omega }))
  have hbl := set3 ((Below.refl w.heap.size w2).setCell (p := ⟨w1.heap.size, 2, none⟩) (Nat.le_of_lt hz1) (.string sv)) w.heap.size (Nat.le_refl _) (.int .u8 2) (.int .i64 0) (.string sv)
  refine bodyPost_ret (v := vv 2 0 sv) (by simp [results, Tryd.results63, go_sem, vv, hc1, hf1, hz1, hc2, hc3, hz2]) rfl (HQ.out _ (RB.low hq2 hr hbl) (grown_of (B := 0) ((grown_alloc hg1).trans (grown_alloc hg2)) hbl))
theorem take_any13 (rb : Nat) (zs : List Int) (w : World) (h : RB w.heap.size w rb zs 0) (hr : rb < w.heap.size) :
    Calls Tryd.prog 63 #[.pointer (some ⟨rb, 0, none⟩)] w (TkPost w.heap.size w rb zs) := by
  by_cases hz : zs = []
  · exact take_nil rb zs w h hr hz
  · by_cases h1 : tkK zs = 1
    · exact take_one rb zs w h hr hz h1
    · by_cases h2 : tkK zs = 2
      · exact take_two rb zs w h hr hz h2
      · exact take_oth rb zs w h hr hz h1 h2
end Go.Proofs.YtpmhilaochfpaaaDoor
