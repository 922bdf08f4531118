/- awake: what every right program makes of one class. -/
import Derived.Test.YtbbjhiijialfoaaDoorAz
import Derived.Test.YtbbjhiijialfoaaDoorCb
import Derived.Deep.DeepCutAuto
import Derived.Deep.RegionWith
namespace Go.Proofs.YtbbjhiijialfoaaDoor
set_option maxRecDepth 20000
open Go.RowKit
set_option linter.unusedVariables false
set_option linter.unusedSimpArgs false

abbrev TR (w : World) (v : Value) : Prop := Row 2 (ReK fun _ _ => True) w (fun _ => True) v TWO
abbrev S1 (w : World) (v : Value) : Prop := SlW 3 w (fun _ => True) v (F1.vs.map clV)
abbrev S3 (w : World) (v : Value) : Prop := SlW 3 w (fun _ => True) v (F3.vs.map clV)
abbrev SB (w : World) (v : Value) (b : BoundD) : Prop := SlW 4 w (fun _ => True) v ([b].map clB)
def bQ : BoundD := ⟨[113], ⟨1, 5, []⟩⟩
def bP : BoundD := ⟨[112], ⟨2, 0, [97]⟩⟩
theorem one_b (w : World) (b : BoundD) : SB (w.alloc (.cells #[.string (st b.nm), .int .u8 b.x.k, .int .i64 b.x.n, .string (st b.x.s)] 51)) (.slice (some ⟨w.heap.size, 0, none⟩) 1 1) b := by
  refine ⟨_, 1, rfl, Nat.le_refl _, by decide, .inr ⟨w.heap.size, 0, rfl, by simp, trivial, fun i j hi hj => ?_⟩⟩
  have hi' : i < 1 := hi
  have h1 : i = 0 := by omega
  subst h1
  have h2 : j = 0 ∨ j = 1 ∨ j = 2 ∨ j = 3 := by omega
  rcases h2 with rfl | rfl | rfl | rfl <;> (go_simp; try rfl)
theorem one_b1 (w : World) (o : Obj) (b : BoundD) : SB ((w.alloc o).alloc (.cells #[.string (st b.nm), .int .u8 b.x.k, .int .i64 b.x.n, .string (st b.x.s)] 51)) (.slice (some ⟨w.heap.size + 1, 0, none⟩) 1 1) b := by
  have h1 : (w.alloc o).heap.size = w.heap.size + 1 := by simp
  have := one_b (w.alloc o) b
  rwa [h1] at this
theorem hp_new1 (w : World) (o o2 : Obj) : ((w.alloc o).alloc o2).heap[w.heap.size + 1]? = some o2 := by
  have h1 : (w.alloc o).heap.size = w.heap.size + 1 := by simp
  have := heap_alloc_new (w.alloc o) o2
  rwa [h1] at this
theorem hp_old (w : World) (o o2 : Obj) : ((w.alloc o).alloc o2).heap[w.heap.size]? = some o := ((bxn (w.alloc o) o2).block _ (by simp)).trans (heap_alloc_new w o)
theorem fV_num : fV ⟨1, 5, []⟩ := ⟨by decide, by decide, by decide⟩
theorem fV_sym : fV ⟨2, 0, [97]⟩ := ⟨by decide, by decide, by decide⟩
theorem f1V : ∀ x ∈ F1.vs, fV x := by
  intro x hx; simp only [F1, List.mem_cons, List.not_mem_nil, or_false] at hx
  rcases hx with rfl | rfl
  · exact ⟨by decide, by decide, by decide⟩
  · exact fV_num
theorem f3V : ∀ x ∈ F3.vs, fV x := by
  intro x hx; simp only [F3, List.mem_cons, List.not_mem_nil, or_false] at hx
  rcases hx with rfl | rfl
  · exact fV_sym
  · exact fV_num
theorem f1L : factL F1 := ⟨by decide, by decide, fun x hx => by simp only [F1, List.mem_cons, List.not_mem_nil, or_false] at hx; rcases hx with rfl | rfl <;> (unfold valL; decide)⟩
theorem f3L : factL F3 := ⟨by decide, by decide, fun x hx => by simp only [F3, List.mem_cons, List.not_mem_nil, or_false] at hx; rcases hx with rfl | rfl <;> (unfold valL; decide)⟩
theorem twoN : ∀ c ∈ TWO, c.attrs.length ≤ 100000 := fun c hc => Nat.le_trans (twoL c hc).2.1 (by decide)
theorem aw_make (W : World) (v s : Value) (h : TR W v) (hs : SB W s bQ) (hV : Vars W) :
    Calls Tryd.prog 9 #[v, .int .i64 3, .string ⟨#[99]⟩, s] W fun e w' => ∃ a1 c1, e = .returned (.tuple #[.agg #[.int .i64 3, .string ⟨#[99]⟩, .slice a1 2 c1], .int .i64 0]) ∧ S1 w' (.slice a1 2 c1) ∧ Below W.heap.size W w' := by
  have C := make_any v s TWO 3 [99] [bQ] W h twoN hV hs (fun b hb => by rw [List.mem_singleton.1 hb]; exact fV_num)
  rw [show makeR TWO 3 [99] [bQ] = .ok F1 from two_make] at C
  refine C.mono ?_
  rintro e w' ⟨hb, z, rfl, ho⟩
  obtain ⟨a, c, rfl⟩ := ho.shape
  exact ⟨a, c, rfl, ho.sl.imp fun _ _ _ => trivial, hb⟩
theorem aw_with (W : World) (v s : Value) (a1 : Option Addr) (c1 : Nat) (h : TR W v) (h1 : S1 W (.slice a1 2 c1)) (hs : SB W s bP) (hV : Vars W) :
    Calls Tryd.prog 11 #[v, .agg #[.int .i64 3, .string ⟨#[99]⟩, .slice a1 2 c1], .int .i64 4, s] W fun e w' => ∃ a3 c3, e = .returned (.tuple #[.agg #[.int .i64 4, .string ⟨#[99]⟩, .slice a3 2 c3], .int .i64 0]) ∧ SlW 3 w' (fun b => W.heap.size ≤ b) (.slice a3 2 c3) (F3.vs.map clV) ∧ Below W.heap.size W w' := by
  have C := with_any v (.slice a1 2 c1) s TWO F1 4 [bP] W h twoN h1 f1V hV hs (fun b hb => by rw [List.mem_singleton.1 hb]; exact fV_sym) (by decide)
  rw [show withR TWO F1 4 [bP] = .ok F3 from two_with] at C
  refine C.mono ?_
  rintro e w' ⟨hb, z, rfl, ho⟩
  obtain ⟨a, c, rfl⟩ := ho.shape
  exact ⟨a, c, rfl, ho.sl, hb⟩
theorem aw_get (W : World) (v : Value) (a3 : Option Addr) (c3 : Nat) (h : TR W v) (h3 : S3 W (.slice a3 2 c3)) (hV : Vars W) :
    Calls Tryd.prog 16 #[v, .agg #[.int .i64 4, .string ⟨#[99]⟩, .slice a3 2 c3], .string ⟨#[113]⟩] W fun e w' => e = .returned (.tuple #[.agg #[.int .u8 1, .int .i64 5, .string ⟨#[]⟩], .bool true]) ∧ Below W.heap.size W w' := by
  have C := get_any v (.slice a3 2 c3) TWO F3 [113] W h twoN h3 f3V hV
  rw [two_get] at C
  exact C
theorem aw_text1 (W : World) (v : Value) (a1 : Option Addr) (c1 : Nat) (h : TR W v) (h1 : S1 W (.slice a1 2 c1)) (hV : Vars W) :
    Calls Tryd.prog 18 #[v, .agg #[.int .i64 3, .string ⟨#[99]⟩, .slice a1 2 c1]] W fun e w' => e = .returned (.string ⟨#[40, 99, 32, 94, 113, 32, 53, 41]⟩) ∧ Below W.heap.size W w' := by
  have C := textF_any v (.slice a1 2 c1) TWO F1 W h twoL h1 f1V f1L hV
  rw [two_text1] at C
  exact C
theorem aw_text3 (W : World) (v : Value) (a3 : Option Addr) (c3 : Nat) (h : TR W v) (h3 : S3 W (.slice a3 2 c3)) (hV : Vars W) :
    Calls Tryd.prog 18 #[v, .agg #[.int .i64 4, .string ⟨#[99]⟩, .slice a3 2 c3]] W fun e w' => e = .returned (.string ⟨#[40, 99, 32, 94, 112, 32, 97, 32, 94, 113, 32, 53, 41]⟩) ∧ Below W.heap.size W w' := by
  have C := textF_any v (.slice a3 2 c3) TWO F3 W h twoL h3 f3V f3L hV
  rw [two_text3] at C
  exact C
theorem aw_same1 (W : World) (a1 : Option Addr) (c1 : Nat) (h1 : S1 W (.slice a1 2 c1)) :
    Calls Tryd.prog 20 #[.agg #[.int .i64 3, .string ⟨#[99]⟩, .slice a1 2 c1], .agg #[.int .i64 3, .string ⟨#[99]⟩, .slice a1 2 c1]] W fun e w' => e = .returned (.bool true) ∧ Below W.heap.size W w' := by
  have C := same_any F1 F1 _ _ W h1 h1
  rw [decide_eq_true (rfl : F1 = F1)] at C
  exact C
theorem aw_same3 (W : World) (a1 a3 : Option Addr) (c1 c3 : Nat) (h1 : S1 W (.slice a1 2 c1)) (h3 : S3 W (.slice a3 2 c3)) :
    Calls Tryd.prog 20 #[.agg #[.int .i64 3, .string ⟨#[99]⟩, .slice a1 2 c1], .agg #[.int .i64 4, .string ⟨#[99]⟩, .slice a3 2 c3]] W fun e w' => e = .returned (.bool false) ∧ Below W.heap.size W w' := by
  have C := same_any F1 F3 _ _ W h1 h3
  rw [two_ne] at C
  exact C
theorem aw_check (W : World) (v : Value) (a3 : Option Addr) (c3 : Nat) (h : TR W v) (h3 : S3 W (.slice a3 2 c3)) (hV : Vars W) :
    Calls Tryd.prog 14 #[v, .agg #[.int .i64 4, .string ⟨#[99]⟩, .slice a3 2 c3]] W fun e w' => e = .returned (.int .i64 0) ∧ Below W.heap.size W w' := by
  have C := check_any v (.slice a3 2 c3) TWO F3 W h twoN h3 f3V hV
  rw [two_check] at C
  exact C
theorem row1 {w w' : World} {v : Value} (h : S1 w v) (hb : Below w.heap.size w w') : S1 w' v := h.bl hb
/-- A box of three cells with a row behind them. -/
def BoxF (w : World) (g : Nat) (c0 c1 c2 : Value) : Prop := w.heap[g]? = some (.cells #[c0, c1, c2] 25 (0, 0))
theorem BoxF.below {w w' : World} {g : Nat} {c0 c1 c2 : Value} (h : BoxF w g c0 c1 c2) (hb : Below w.heap.size w w') : BoxF w' g c0 c1 c2 := (hb.block g (Array.getElem?_eq_some_iff.1 h).1).trans h
theorem drewS {n : Nat} {w : World} {P : Nat → Prop} {v : Value} {css : List (List Value)} (h : SlW n w P v css) : SlW n w.drew P v css := h
theorem drewX {w : World} {g : Nat} {c0 c1 c2 : Value} (h : BoxF w g c0 c1 c2) : BoxF w.drew g c0 c1 c2 := h
theorem one_p (w : World) : SB (w.alloc (.cells #[.string ⟨#[112]⟩, .int .u8 2, .int .i64 0, .string ⟨#[97]⟩] 51)) (.slice (some ⟨w.heap.size, 0, none⟩) 1 1) bP := one_b w bP
theorem one_p1 (w : World) (o : Obj) : SB ((w.alloc o).alloc (.cells #[.string ⟨#[112]⟩, .int .u8 2, .int .i64 0, .string ⟨#[97]⟩] 51)) (.slice (some ⟨w.heap.size + 1, 0, none⟩) 1 1) bP := one_b1 w o bP
theorem boxN (w : World) : BoxF (w.alloc (.cells #[.int .i64 0, .string ⟨#[]⟩, .slice none 0 0] 25)) w.heap.size (.int .i64 0) (.string ⟨#[]⟩) (.slice none 0 0) := heap_alloc_new w _
theorem boxO (w : World) (o : Obj) : BoxF ((w.alloc (.cells #[.int .i64 0, .string ⟨#[]⟩, .slice none 0 0] 25)).alloc o) w.heap.size (.int .i64 0) (.string ⟨#[]⟩) (.slice none 0 0) := hp_old w _ o
theorem boxT (w : World) (o : Obj) : BoxF ((w.alloc o).alloc (.cells #[.int .i64 0, .string ⟨#[]⟩, .slice none 0 0] 25)) (w.heap.size + 1) (.int .i64 0) (.string ⟨#[]⟩) (.slice none 0 0) := hp_new1 w o _
theorem set3_ne {w : World} {g : Nat} {v : Value} {css : List (List Value)} {x y z : Value} (h : SlW 3 w (fun b => b ≠ g) v css) : SlW 3 (((w.setCell ⟨g, 0, none⟩ x).setCell ⟨g, 1, none⟩ y).setCell ⟨g, 2, none⟩ z) (fun _ => True) v css := by
  obtain ⟨a, cap, h1, h2, h3, h4⟩ := h
  refine ⟨a, cap, h1, h2, h3, ?_⟩
  rcases h4 with h4 | ⟨k, off, e, hk, hp, hc⟩
  · exact .inl h4
  · refine .inr ⟨k, off, e, by simpa using hk, trivial, fun i j hi hj => ?_⟩
    rw [← hc i j hi hj]
    simp only [World.cell?, heap_three hp]
def QS (w : World) (Z : Nat) (v : Value) : Prop := BoxF w Z (.int .i64 0) (.string ⟨#[]⟩) (.slice none 0 0) ∧ SlW 3 w (fun b => b ≠ Z) v (F3.vs.map clV)
theorem qq {W w7 : World} {Z : Nat} {v : Value} (hQ : BoxF W Z (.int .i64 0) (.string ⟨#[]⟩) (.slice none 0 0)) (hs : SlW 3 w7 (fun b => W.heap.size ≤ b) v (F3.vs.map clV)) (hb : Below W.heap.size W w7) : QS w7 Z v :=
  ⟨hQ.below hb, hs.imp fun b _ h e => by have := (Array.getElem?_eq_some_iff.1 hQ).1; omega⟩
def BoxV (w : World) (g : Nat) (c0 c1 c2 : Value) : Prop := w.heap[g]? = some (.cells #[c0, c1, c2] 42 (0, 0))
theorem BoxV.below {w w' : World} {g : Nat} {c0 c1 c2 : Value} (h : BoxV w g c0 c1 c2) (hb : Below w.heap.size w w') : BoxV w' g c0 c1 c2 := (hb.block g (Array.getElem?_eq_some_iff.1 h).1).trans h
theorem drewXV {w : World} {g : Nat} {c0 c1 c2 : Value} (h : BoxV w g c0 c1 c2) : BoxV w.drew g c0 c1 c2 := h
theorem boxNV (w : World) : BoxV (w.alloc (.cells #[.int .u8 0, .int .i64 0, .string ⟨#[]⟩] 42)) w.heap.size (.int .u8 0) (.int .i64 0) (.string ⟨#[]⟩) := heap_alloc_new w _
set_option maxHeartbeats 16000000 in
theorem awake_any (w : World) (hV : Vars w) : Calls Tryd.prog 8 #[] w fun e w' => e = .returned (.bool true) ∧ Below w.heap.size w w' := by
  go_enter Tryd.func8, Tryd.ntmps8
  go_wp2_with (first
    | (go_at_call 23; refine (two_any _).mono ?_; rintro e w2 ⟨v2, rfl, t2, b2⟩; have B2 : Hid (Below w.heap.size w w2) := b2; have T2 : Hid (TR w2 v2) := t2; clear b2 t2)
    | (go_at_call 9; refine (aw_make _ v2 _ (rowK_keep T2.out (bxn _ _)) (one_b w2 bQ) (hV.below (bt B2.out (bxn _ _)))).mono ?_; rintro e w3 ⟨a1, c1, rfl, s3, b3⟩; have B3 : Hid (Below w.heap.size w w3) := bt (bt B2.out (bxn _ _)) b3; have R3 : Hid (S1 w3 (.slice a1 2 c1)) := s3; clear b3 s3))
  obtain ⟨W1, hW1⟩ : ∃ W1, W1 = w3.alloc (.cells #[.int .i64 3, .string ⟨#[99]⟩, .slice a1 2 c1] 25) := ⟨_, rfl⟩
  have BX1 : Hid (BoxF W1 w3.heap.size (.int .i64 3) (.string ⟨#[99]⟩) (.slice a1 2 c1)) := by rw [hW1]; exact heap_alloc_new w3 _
  have SR1 : Hid (∀ W, Below W1.heap.size W1 W → S1 W (.slice a1 2 c1)) := fun W hW => row1 (row1 R3.out (by rw [hW1]; exact bxn _ _)) hW
  have HB1 : Hid (Below w.heap.size w W1) := by rw [hW1]; exact bt B3.out (bxn _ _)
  have HV1 : Hid (∀ W, Below W1.heap.size W1 W → Vars W) := fun W hW => hV.below (bt HB1.out hW)
  have SC : Hid (∀ W, Below W1.heap.size W1 W → W.cell? ⟨w3.heap.size, 0, none⟩ = some (.int .i64 3) ∧ W.cell? ⟨w3.heap.size, 1, none⟩ = some (.string ⟨#[99]⟩) ∧ W.cell? ⟨w3.heap.size, 2, none⟩ = some (.slice a1 2 c1)) := fun W hW => by
    obtain ⟨q0, q1, q2, -⟩ := box3 (BX1.out.below hW); exact ⟨q0, q1, q2⟩
  rw [← hW1]
  clear hW1 B2 T2 B3 R3
  go_cut [3, 4] (fun p q wx => ∃ (g : Nat) (a3 : Option Addr) (c3 : Nat), p = .pointer (some ⟨g, 0, none⟩) ∧ q = .int .i64 0 ∧ Hid (BoxF wx g (.int .i64 4) (.string ⟨#[99]⟩) (.slice a3 2 c3)) ∧ Hid (S3 wx (.slice a3 2 c3)) ∧ Hid (Below W1.heap.size W1 wx))
  case first =>
    go_region_held3 (fun W => W.cell? ⟨w3.heap.size, 0, none⟩ = some (.int .i64 3) ∧ W.cell? ⟨w3.heap.size, 1, none⟩ = some (.string ⟨#[99]⟩) ∧ W.cell? ⟨w3.heap.size, 2, none⟩ = some (.slice a1 2 c1)) (first | with_reducible exact SC.out _ (Below.refl _ _).drew | with_reducible exact SC.out _ (bxn _ _).drew | with_reducible exact SC.out _ (bt (bxn _ _) (bxn _ _)).drew | with_reducible exact SC.out _ H5.out | with_reducible exact SC.out _ (bt H5.out (bxn _ _)) | with_reducible exact SC.out _ (bt (bt H5.out (bxn _ _)) (bxn _ _)) | with_reducible exact SC.out _ B7.out | with_reducible exact SC.out _ (bt B7.out (bxn _ _)) | with_reducible exact SC.out _ (setThree_below B7.out HZ.out.2)) (first
      | (go_at_call 23; refine (two_any _).mono ?_; rintro e w5 ⟨v5, rfl, t5, b5⟩; have H5 : Hid (Below W1.heap.size W1 w5) := (by show Below _ _ _; first | with_reducible exact bt (Below.refl _ _).drew b5 | with_reducible exact bt (bxn _ _).drew b5 | with_reducible exact bt (bt (bxn _ _) (bxn _ _)).drew b5); (first | (have ST : Hid (SB w5 (.slice (some ⟨W1.heap.size, 0, none⟩) 1 1) bP) := (by show SlW _ _ _ _ _; with_reducible exact SlW.bl (drewS (one_p W1)) b5)) | (have ST : Hid (SB w5 (.slice (some ⟨W1.heap.size, 0, none⟩) 1 1) bP) := (by show SlW _ _ _ _ _; with_reducible exact SlW.bl (drewS (SlW.bl (one_p W1) (bxn _ _))) b5)) | (have ST : Hid (SB w5 (.slice (some ⟨W1.heap.size + 1, 0, none⟩) 1 1) bP) := (by show SlW _ _ _ _ _; with_reducible exact SlW.bl (drewS (one_p1 W1 _)) b5)) | skip); (first | (have QO : Hid (BoxF w5 W1.heap.size (.int .i64 0) (.string ⟨#[]⟩) (.slice none 0 0)) := (by show BoxF _ _ _ _ _; first | with_reducible exact BoxF.below (drewX (boxN W1)) b5 | with_reducible exact BoxF.below (drewX (boxO W1 _)) b5); have LQ : Hid (W1.heap.size ≤ W1.heap.size) := Nat.le_refl _) | (have QO : Hid (BoxF w5 (W1.heap.size + 1) (.int .i64 0) (.string ⟨#[]⟩) (.slice none 0 0)) := (by show BoxF _ _ _ _ _; with_reducible exact BoxF.below (drewX (boxT W1 _)) b5); have LQ : Hid (W1.heap.size ≤ W1.heap.size + 1) := Nat.le_succ _) | skip))
      | (go_at_call 11; refine (aw_with _ v5 _ a1 c1 (by first | with_reducible exact t5 | with_reducible exact rowK_keep t5 (bxn _ _) | with_reducible exact rowK_keep t5 (bt (bxn _ _) (bxn _ _))) (SR1.out _ (by first | with_reducible exact H5.out | with_reducible exact bt H5.out (bxn _ _) | with_reducible exact bt (bt H5.out (bxn _ _)) (bxn _ _))) (by show SlW _ _ _ _ _; first | with_reducible exact ST.out | with_reducible exact SlW.bl ST.out (bxn _ _) | with_reducible exact one_p w5 | with_reducible exact SlW.bl (one_p w5) (bxn _ _) | with_reducible exact one_p1 w5 _) (HV1.out _ (by first | with_reducible exact H5.out | with_reducible exact bt H5.out (bxn _ _) | with_reducible exact bt (bt H5.out (bxn _ _)) (bxn _ _)))).mono ?_; rintro e w7 ⟨a3, c3, rfl, s7, b7⟩; have B7 : Hid (Below W1.heap.size W1 w7) := (by show Below _ _ _; first | with_reducible exact bt H5.out b7 | with_reducible exact bt (bt H5.out (bxn _ _)) b7 | with_reducible exact bt (bt (bt H5.out (bxn _ _)) (bxn _ _)) b7); have R7 : Hid (S3 w7 (.slice a3 2 c3)) := s7.imp (fun _ _ _ => trivial); (first | (have Q7 := (show QS w7 _ _ from by first | with_reducible exact qq QO.out s7 b7 | with_reducible exact qq (BoxF.below QO.out (bxn _ _)) s7 b7); have LZ := LQ.out; clear QO LQ) | (have Q7 : QS w7 w5.heap.size (.slice a3 2 c3) := (by first | with_reducible exact qq (boxN w5) s7 b7 | with_reducible exact qq (boxO w5 _) s7 b7); have LZ : W1.heap.size ≤ w5.heap.size := H5.out.size) | (have Q7 : QS w7 (w5.heap.size + 1) (.slice a3 2 c3) := (by with_reducible exact qq (boxT w5 _) s7 b7); have LZ : W1.heap.size ≤ w5.heap.size + 1 := Nat.le_succ_of_le H5.out.size) | skip); (first | (obtain ⟨q0, q1, q2, z0, z1, z2⟩ := box3 Q7.1; have HZ : Hid (_ ∧ _) := ⟨Q7, LZ⟩; clear Q7 LZ) | skip); clear s7 b7))
    all_goals (
      go_wp2_with fail
      go_meet
      case rel => first
        | exact ⟨_, a3, c3, rfl, rfl, heap_alloc_new w7 _, SlW.bl R7.out (bxn _ _), bt B7.out (bxn _ _)⟩
        | exact ⟨_, a3, c3, rfl, rfl, set3_heap HZ.out.1.1 _ _ _, set3_ne HZ.out.1.2, setThree_below B7.out HZ.out.2⟩)
  case rest =>
    obtain ⟨g3, a3, c3, rfl, rfl, HG, HR, HB⟩ := hcut
    obtain ⟨W2, hW2⟩ : ∃ W2, W2 = wc := ⟨_, rfl⟩
    subst hW2
    have HB2 : Hid (Below w.heap.size w W2) := bt HB1.out HB.out
    have SR2 : Hid (∀ W, Below W2.heap.size W2 W → S1 W (.slice a1 2 c1)) := fun W hW => SR1.out W (bt HB.out hW)
    have SR3 : Hid (∀ W, Below W2.heap.size W2 W → S3 W (.slice a3 2 c3)) := fun W hW => SlW.bl HR.out hW
    have HV2 : Hid (∀ W, Below W2.heap.size W2 W → Vars W) := fun W hW => hV.below (bt HB2.out hW)
    have BX2 : Hid (BoxF W2 w3.heap.size (.int .i64 3) (.string ⟨#[99]⟩) (.slice a1 2 c1)) := BX1.out.below HB.out
    have SC3 : Hid (∀ W, Below W2.heap.size W2 W → W.cell? ⟨g3, 0, none⟩ = some (.int .i64 4) ∧ W.cell? ⟨g3, 1, none⟩ = some (.string ⟨#[99]⟩) ∧ W.cell? ⟨g3, 2, none⟩ = some (.slice a3 2 c3)) := fun W hW => by
      obtain ⟨q0, q1, q2, -⟩ := box3 (HG.out.below hW); exact ⟨q0, q1, q2⟩
    clear SC SR1 HV1 HB HR
    go_wp2_with fail
    go_cut [5, 6] (fun p q wx => ∃ g : Nat, p = .pointer (some ⟨g, 0, none⟩) ∧ q = .bool true ∧ Hid (BoxV wx g (.int .u8 1) (.int .i64 5) (.string ⟨#[]⟩)) ∧ Hid (Below W2.heap.size W2 wx))
    case first =>
      go_region_held3 (fun W => W.cell? ⟨g3, 0, none⟩ = some (.int .i64 4) ∧ W.cell? ⟨g3, 1, none⟩ = some (.string ⟨#[99]⟩) ∧ W.cell? ⟨g3, 2, none⟩ = some (.slice a3 2 c3)) (first | with_reducible exact SC3.out _ (Below.refl _ _).drew | with_reducible exact SC3.out _ (bxn _ _).drew | with_reducible exact SC3.out _ H5.out | with_reducible exact SC3.out _ (bt H5.out (bxn _ _)) | with_reducible exact SC3.out _ B7.out | with_reducible exact SC3.out _ (bt B7.out (bxn _ _)) | with_reducible exact SC3.out _ (setThree_below B7.out HZ.out.2)) (first
        | (go_at_call 23; refine (two_any _).mono ?_; rintro e w5 ⟨v5, rfl, t5, b5⟩; have H5 : Hid (Below W2.heap.size W2 w5) := (by show Below _ _ _; first | with_reducible exact bt (Below.refl _ _).drew b5 | with_reducible exact bt (bxn _ _).drew b5); (first | (have QO : Hid (BoxV w5 W2.heap.size (.int .u8 0) (.int .i64 0) (.string ⟨#[]⟩)) := (by show BoxV _ _ _ _ _; with_reducible exact BoxV.below (drewXV (boxNV W2)) b5)) | skip))
        | (go_at_call 16; refine (aw_get _ v5 a3 c3 (by first | with_reducible exact t5 | with_reducible exact rowK_keep t5 (bxn _ _)) (SR3.out _ (by first | with_reducible exact H5.out | with_reducible exact bt H5.out (bxn _ _))) (HV2.out _ (by first | with_reducible exact H5.out | with_reducible exact bt H5.out (bxn _ _)))).mono ?_; rintro e w7 ⟨rfl, b7⟩; have B7 : Hid (Below W2.heap.size W2 w7) := (by show Below _ _ _; first | with_reducible exact bt H5.out b7 | with_reducible exact bt (bt H5.out (bxn _ _)) b7); (first | (have Q7 : BoxV w7 W2.heap.size (.int .u8 0) (.int .i64 0) (.string ⟨#[]⟩) := BoxV.below QO.out (show Below w5.heap.size w5 w7 by with_reducible exact b7); have LZ : W2.heap.size ≤ W2.heap.size := Nat.le_refl _; clear QO) | (have Q7 : BoxV w7 w5.heap.size (.int .u8 0) (.int .i64 0) (.string ⟨#[]⟩) := (by with_reducible exact BoxV.below (boxNV w5) b7); have LZ : W2.heap.size ≤ w5.heap.size := H5.out.size) | skip); (first | (obtain ⟨q0, q1, q2, z0, z1, z2⟩ := box3 Q7; have HZ : Hid (_ ∧ _) := ⟨Q7, LZ⟩; clear Q7 LZ) | skip); clear b7))
      all_goals (
        go_wp2_with fail
        go_meet
        case rel => first
          | exact ⟨_, rfl, rfl, heap_alloc_new w7 _, bt B7.out (bxn _ _)⟩
          | exact ⟨_, rfl, rfl, set3_heap HZ.out.1 _ _ _, setThree_below B7.out HZ.out.2⟩)
    case rest =>
      obtain ⟨g5, rfl, rfl, HG5, HBB⟩ := hcut
      obtain ⟨W4, hW4⟩ : ∃ W4, W4 = wc := ⟨_, rfl⟩
      subst hW4
      have HB4 : Hid (Below w.heap.size w W4) := bt HB2.out HBB.out
      have SR4 : Hid (∀ W, Below W4.heap.size W4 W → S1 W (.slice a1 2 c1)) := fun W hW => SR2.out W (bt HBB.out hW)
      have SR5 : Hid (∀ W, Below W4.heap.size W4 W → S3 W (.slice a3 2 c3)) := fun W hW => SR3.out W (bt HBB.out hW)
      have HV4 : Hid (∀ W, Below W4.heap.size W4 W → Vars W) := fun W hW => hV.below (bt HB4.out hW)
      have SC5 : Hid (∀ W, Below W4.heap.size W4 W → W.cell? ⟨w3.heap.size, 0, none⟩ = some (.int .i64 3) ∧ W.cell? ⟨w3.heap.size, 1, none⟩ = some (.string ⟨#[99]⟩) ∧ W.cell? ⟨w3.heap.size, 2, none⟩ = some (.slice a1 2 c1) ∧ W.cell? ⟨g3, 0, none⟩ = some (.int .i64 4) ∧ W.cell? ⟨g3, 1, none⟩ = some (.string ⟨#[99]⟩) ∧ W.cell? ⟨g3, 2, none⟩ = some (.slice a3 2 c3) ∧ W.cell? ⟨g5, 0, none⟩ = some (.int .u8 1) ∧ W.cell? ⟨g5, 1, none⟩ = some (.int .i64 5) ∧ W.cell? ⟨g5, 2, none⟩ = some (.string ⟨#[]⟩)) := fun W hW => by
        obtain ⟨p0, p1, p2, -⟩ := box3 (BX2.out.below (bt HBB.out hW))
        obtain ⟨q0, q1, q2, -⟩ := box3 (HG.out.below (bt HBB.out hW))
        obtain ⟨r0, r1, r2, -⟩ := box3 (HG5.out.below hW)
        exact ⟨p0, p1, p2, q0, q1, q2, r0, r1, r2⟩
      have HBc : Hid (Below W4.heap.size W4 W4.drew) := (Below.refl _ _).drew
      clear SC3 SR2 SR3 HV2 HBB HG HG5 BX1 BX2
      go_wp2_with fail
      go_region_held3 (fun W => W.cell? ⟨w3.heap.size, 0, none⟩ = some (.int .i64 3) ∧ W.cell? ⟨w3.heap.size, 1, none⟩ = some (.string ⟨#[99]⟩) ∧ W.cell? ⟨w3.heap.size, 2, none⟩ = some (.slice a1 2 c1) ∧ W.cell? ⟨g3, 0, none⟩ = some (.int .i64 4) ∧ W.cell? ⟨g3, 1, none⟩ = some (.string ⟨#[99]⟩) ∧ W.cell? ⟨g3, 2, none⟩ = some (.slice a3 2 c3) ∧ W.cell? ⟨g5, 0, none⟩ = some (.int .u8 1) ∧ W.cell? ⟨g5, 1, none⟩ = some (.int .i64 5) ∧ W.cell? ⟨g5, 2, none⟩ = some (.string ⟨#[]⟩)) (first | with_reducible exact SC5.out _ HBc.out) (first
        | (go_at_call 23; refine (two_any _).mono ?_; rintro e w5 ⟨v5, rfl, t5, b5⟩; have T5 : Hid (TR w5 v5) := t5; have HBc : Hid (Below W4.heap.size W4 w5) := bt HBc.out b5; clear t5 b5)
        | (go_at_call_of 18 a1; refine (aw_text1 _ v5 a1 c1 T5.out (SR4.out _ HBc.out) (HV4.out _ HBc.out)).mono ?_; rintro e w6 ⟨rfl, b6⟩; have HBc : Hid (Below W4.heap.size W4 w6) := bt HBc.out b6; clear b6)
        | (go_at_call_of 18 a3; refine (aw_text3 _ v5 a3 c3 T5.out (SR5.out _ HBc.out) (HV4.out _ HBc.out)).mono ?_; rintro e w6 ⟨rfl, b6⟩; have HBc : Hid (Below W4.heap.size W4 w6) := bt HBc.out b6; clear b6)
        | (go_at_call_of 20 a3; refine (aw_same3 _ a1 a3 c1 c3 (SR4.out _ HBc.out) (SR5.out _ HBc.out)).mono ?_; rintro e w6 ⟨rfl, b6⟩; have HBc : Hid (Below W4.heap.size W4 w6) := bt HBc.out b6; clear b6)
        | (go_at_call_of 20 a1; refine (aw_same1 _ a1 c1 (SR4.out _ HBc.out)).mono ?_; rintro e w6 ⟨rfl, b6⟩; have HBc : Hid (Below W4.heap.size W4 w6) := bt HBc.out b6; clear b6)
        | (go_at_call 14; refine (aw_check _ v5 a3 c3 T5.out (SR5.out _ HBc.out) (HV4.out _ HBc.out)).mono ?_; rintro e w6 ⟨rfl, b6⟩; have HBc : Hid (Below W4.heap.size W4 w6) := bt HBc.out b6; clear b6))
      all_goals (
        go_wp2
        go_ret
        exact ⟨rfl, bt HB4.out HBc.out⟩)
end Go.Proofs.YtbbjhiijialfoaaDoor
