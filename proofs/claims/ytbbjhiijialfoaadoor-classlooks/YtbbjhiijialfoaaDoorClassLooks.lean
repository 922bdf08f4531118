/- For all classes, any two facts and any name the call ClassLooks of the statements returns true and its arguments read as they did: no condition but that the library's listed variables lie as the program's text lays them. -/
import Derived.Test.YtbbjhiijialfoaaDoorRows
import Derived.Test.YtbbjhiijialfoaaDoorCards
import Derived.Test.YtbbjhiijialfoaaDoorTie
import Derived.Test.YtbbjhiijialfoaaDoorArg
import Derived.Test.YtbbjhiijialfoaaDoorRn
import Derived.Test.YtbbjhiijialfoaaDoorAw
import Derived.Test.YtbbjhiijialfoaaDoorOpn
import Derived.SevenTiedAt
import Derived.SizedLaws
import Derived.ChangeSame
import Derived.ChangeVars
import Derived.ChangeMaps5
import Derived.JoinedOf
import Derived.JoinedAt
import Derived.RowKit3
import Derived.LaidLaws
import Derived.WalkKit
import Derived.ProofKit
import Derived.OpenShut
import Derived.ShutString
import Derived.ChangeOld
import Derived.Below
import Derived.Test.YtbbjhiijialfoaaDoorLi
import Derived.Test.YtbbjhiijialfoaaDoorCb
import Derived.Test.YtbbjhiijialfoaaDoorCj
import Derived.Test.YtbbjhiijialfoaaDoorCu
import Derived.Test.YtbbjhiijialfoaaDoorCx
namespace Go.Proofs.YtbbjhiijialfoaaDoor.classLooks
open Go.ChangeShapes Go.WideShapes Go.ChangeAt Go.RowKit
set_option linter.unusedVariables false
set_option linter.unusedSimpArgs false
set_option maxRecDepth 20000

theorem nilB (W : World) : SlW 4 W (fun _ => True) (.slice none 0 0) (([] : List BoundD).map clB) := ⟨none, 0, rfl, Nat.le_refl _, by decide, .inl rfl⟩
theorem nilK (W : World) : Row 2 (ReK fun _ _ => True) W (fun _ => True) (.slice none 0 0) ([] : List ClassD) := ⟨[], ⟨none, 0, rfl, Nat.le_refl _, by decide, .inl rfl⟩, trivial⟩
set_option maxHeartbeats 16000000 in
theorem core (v : Value) (cls : List ClassD) (f g : FactD) (a0 b0 : Option Addr) (n0 c0 m0 d0 : Nat) (at_ : Str) (w : World) (hV : Vars w) (h5 : 5 ≤ w.heap.size) (hc : Row 2 (ReK fun _ _ => True) w (fun _ => True) v cls) (hf : SlW 3 w (fun _ => True) (.slice a0 n0 c0) (f.vs.map clV)) (hg : SlW 3 w (fun _ => True) (.slice b0 m0 d0) (g.vs.map clV)) (hfo : f.Ok) (hgo : g.Ok) (hao : okS at_) :
    Calls Tryd.prog 4 #[v, .agg #[.int .i64 f.t, .string (st f.c), .slice a0 n0 c0, .int .i64 g.t, .string (st g.c), .slice b0 m0 d0], .string (st at_)] w fun e w' => e = .returned (.bool true) ∧ Below w.heap.size w w' := by
  have HA : Hid (∀ W, Below w.heap.size w W → Calls Tryd.prog 8 #[] W fun e w' => e = .returned (.bool true) ∧ Below W.heap.size W w') := fun W hb => awake_any W (hV.below hb)
  have C7a : Hid (∀ W, Below w.heap.size w W → Calls Tryd.prog 7 #[v, .agg #[.int .i64 f.t, .string (st f.c), .slice a0 n0 c0], .slice none 0 0] W (SomeL (lightL cls f []) W)) := fun W hb => light_any v _ (.slice none 0 0) cls f [] W (rowK_keep hc hb) (hf.bl hb) (nilB W)
  have C7b : Hid (∀ W, Below w.heap.size w W → Calls Tryd.prog 7 #[.slice none 0 0, .agg #[.int .i64 g.t, .string (st g.c), .slice b0 m0 d0], .slice none 0 0] W (SomeL (lightL [] g []) W)) := fun W hb => light_any (.slice none 0 0) _ (.slice none 0 0) [] g [] W (nilK W) (hg.bl hb) (nilB W)
  have HF : Hid (SlW 3 w (fun _ => True) (.slice a0 n0 c0) (f.vs.map clV)) := hf
  have HG : Hid (SlW 3 w (fun _ => True) (.slice b0 m0 d0) (g.vs.map clV)) := hg
  have HC : Hid (Row 2 (ReK fun _ _ => True) w (fun _ => True) v cls) := hc
  have HV : Hid (Vars w) := hV
  have HFO : Hid (f.Ok ∧ g.Ok) := ⟨hfo, hgo⟩
  have hat : (st at_).size ≤ 9223372036854775807 := by rw [st_size]; exact Nat.le_trans hao maxlen_int
  obtain ⟨W1, hW1⟩ : ∃ W1, W1 = w.alloc (.cells #[.int .i64 f.t, .string (st f.c), .slice a0 n0 c0, .int .i64 g.t, .string (st g.c), .slice b0 m0 d0] 44) := ⟨_, rfl⟩
  have HB1 : Hid (Below w.heap.size w W1) := by rw [hW1]; exact bxn _ _
  have SL : Hid (∀ W, Below W1.heap.size W1 W → W.cell? ⟨w.heap.size, 0, none⟩ = some (.int .i64 f.t) ∧ W.cell? ⟨w.heap.size, 1, none⟩ = some (.string (st f.c)) ∧ W.cell? ⟨w.heap.size, 2, none⟩ = some (.slice a0 n0 c0) ∧ W.cell? ⟨w.heap.size, 3, none⟩ = some (.int .i64 g.t) ∧ W.cell? ⟨w.heap.size, 4, none⟩ = some (.string (st g.c)) ∧ W.cell? ⟨w.heap.size, 5, none⟩ = some (.slice b0 m0 d0)) := fun W hW => by
    subst hW1
    exact ⟨(hW.cell (p := ⟨w.heap.size, 0, none⟩) (by simp)).trans (by go_simp), (hW.cell (p := ⟨w.heap.size, 1, none⟩) (by simp)).trans (by go_simp), (hW.cell (p := ⟨w.heap.size, 2, none⟩) (by simp)).trans (by go_simp), (hW.cell (p := ⟨w.heap.size, 3, none⟩) (by simp)).trans (by go_simp), (hW.cell (p := ⟨w.heap.size, 4, none⟩) (by simp)).trans (by go_simp), (hW.cell (p := ⟨w.heap.size, 5, none⟩) (by simp)).trans (by go_simp)⟩
  clear hV hc hf hg hfo hgo h5 hao
  go_enter Tryd.func4, Tryd.ntmps4
  go_wp2_with fail
  rw [← hW1]
  clear hW1
  go_cut [7, 8] (fun p q wx => ∃ p7 p8 : Nat, p = .pointer (some ⟨p7, 0, none⟩) ∧ q = .pointer (some ⟨p8, 0, none⟩) ∧ Hid (BoxF wx p7 (.int .i64 f.t) (.string (st f.c)) (.slice a0 n0 c0)) ∧ Hid (BoxF wx p8 (.int .i64 g.t) (.string (st g.c)) (.slice b0 m0 d0)) ∧ Hid (Below W1.heap.size W1 wx))
  case first =>
    go_region_held3 (fun W => W.cell? ⟨w.heap.size, 0, none⟩ = some (.int .i64 f.t) ∧ W.cell? ⟨w.heap.size, 1, none⟩ = some (.string (st f.c)) ∧ W.cell? ⟨w.heap.size, 2, none⟩ = some (.slice a0 n0 c0) ∧ W.cell? ⟨w.heap.size, 3, none⟩ = some (.int .i64 g.t) ∧ W.cell? ⟨w.heap.size, 4, none⟩ = some (.string (st g.c)) ∧ W.cell? ⟨w.heap.size, 5, none⟩ = some (.slice b0 m0 d0)) (first | with_reducible exact SL.out _ (Below.refl _ _).drew | with_reducible exact SL.out _ (bxn _ _).drew | with_reducible exact SL.out _ (bt (bxn _ _) (bxn _ _)).drew) (fail)
    all_goals (
      go_wp2_with fail
      go_meet
      case rel => first
        | exact ⟨_, _, rfl, rfl, hp_old W1 _ _, hp_new1 W1 _ _, (bt (bxn _ _) (bxn _ _)).drew⟩
        | exact ⟨_, _, rfl, rfl, hp_new1 W1 _ _, hp_old W1 _ _, (bt (bxn _ _) (bxn _ _)).drew⟩)
  case rest =>
    obtain ⟨p7, p8, rfl, rfl, HX7, HX8, HBx⟩ := hcut
    obtain ⟨W2, hW2⟩ : ∃ W2, W2 = wc := ⟨_, rfl⟩
    subst hW2
    have HB2 : Hid (Below w.heap.size w W2) := bt HB1.out HBx.out
    have SC : Hid (∀ W, Below W2.heap.size W2 W → W.cell? ⟨p7, 0, none⟩ = some (.int .i64 f.t) ∧ W.cell? ⟨p7, 1, none⟩ = some (.string (st f.c)) ∧ W.cell? ⟨p7, 2, none⟩ = some (.slice a0 n0 c0) ∧ W.cell? ⟨p8, 0, none⟩ = some (.int .i64 g.t) ∧ W.cell? ⟨p8, 1, none⟩ = some (.string (st g.c)) ∧ W.cell? ⟨p8, 2, none⟩ = some (.slice b0 m0 d0)) := fun W hW => by
      obtain ⟨p0, p1, p2, -⟩ := box3 (HX7.out.below hW)
      obtain ⟨q0, q1, q2, -⟩ := box3 (HX8.out.below hW)
      exact ⟨p0, p1, p2, q0, q1, q2⟩
    have HLo : Hid (∀ W, Below W2.heap.size W2 W → Below w.heap.size w W) := fun W hW => bt HB2.out hW
    have HBc : Hid (Below W2.heap.size W2 W2) := Below.refl _ _
    obtain ⟨p0, p1, p2, q0, q1, q2⟩ := SC.out W2 HBc.out
    clear SL HB1 HBx
    go_wp2_with (first
      | (go_at_call_of 7 v; refine (C7a.out _ (HLo.out _ HBc.out)).mono ?_; rintro e wa ⟨z1, rfl, hl1, hb1⟩; have HL1 : Hid (z1 = true → lightL cls f []) := hl1; have HBc : Hid (Below W2.heap.size W2 wa) := bt HBc.out hb1; obtain ⟨p0, p1, p2, q0, q1, q2⟩ := SC.out wa HBc.out; clear hl1 hb1)
      | (go_at_call_of 7 b0; refine (C7b.out _ (HLo.out _ HBc.out)).mono ?_; rintro e wb ⟨z2, rfl, hl2, hb2⟩; have HL2 : Hid (z2 = true → lightL [] g []) := hl2; have HBc : Hid (Below W2.heap.size W2 wb) := bt HBc.out hb2; obtain ⟨p0, p1, p2, q0, q1, q2⟩ := SC.out wb HBc.out; clear hl2 hb2)
      | (go_at_call 8; refine (HA.out _ (HLo.out _ HBc.out)).mono ?_; rintro e wz ⟨rfl, bz⟩; have HBz : Hid (Below W2.heap.size W2 wz) := bt HBc.out bz; clear bz))
    all_goals try (go_ret; exact ⟨rfl, HLo.out _ HBz.out⟩)
    obtain rfl : z1 = true := by first | assumption | simp_all
    obtain rfl : z2 = true := by first | assumption | simp_all
    try simp only [Bool.not_true]
    have HLF : Hid (lightL cls f []) := HL1.out rfl
    have HLG : Hid (lightL [] g []) := HL2.out rfl
    have hfV : ∀ y ∈ f.vs, fV y := fun y hy => fV_of ((HFO.out.1.2.2 y hy).1) (HLF.out.2.1.2.2 y hy)
    have hcN : ∀ y ∈ cls, y.attrs.length ≤ 100000 := fun y hy => Nat.le_trans (HLF.out.2.2.2.1 y hy).2.1 (by decide)
    have C16 : Hid (∀ W, Below W2.heap.size W2 W → Calls Tryd.prog 16 #[v, .agg #[.int .i64 f.t, .string (st f.c), .slice a0 n0 c0], .string (st at_)] W (GP W (getR cls f at_))) := fun W hW => get_any v _ cls f at_ W (rowK_keep HC.out (HLo.out W hW)) hcN (HF.out.bl (HLo.out W hW)) hfV (HV.out.below (HLo.out W hW))
    have C17 : Hid (∀ W, Below W2.heap.size W2 W → Calls Tryd.prog 17 #[v, .agg #[.int .i64 f.t, .string (st f.c), .slice a0 n0 c0], .string (st at_)] W (GP W (getR cls f at_))) := fun W hW => rget_any v _ cls f at_ W (rowK_keep HC.out (HLo.out W hW)) (HF.out.bl (HLo.out W hW)) hfV
    have C18 : Hid (∀ W, Below W2.heap.size W2 W → Calls Tryd.prog 18 #[v, .agg #[.int .i64 f.t, .string (st f.c), .slice a0 n0 c0]] W fun e w' => e = .returned (.string (st (textR cls f))) ∧ Below W.heap.size W w') := fun W hW => textF_any v _ cls f W (rowK_keep HC.out (HLo.out W hW)) HLF.out.2.2.2.1 (HF.out.bl (HLo.out W hW)) hfV HLF.out.2.1 (HV.out.below (HLo.out W hW))
    have C19 : Hid (∀ W, Below W2.heap.size W2 W → Calls Tryd.prog 19 #[v, .agg #[.int .i64 f.t, .string (st f.c), .slice a0 n0 c0]] W fun e w' => e = .returned (.string (st (textR cls f))) ∧ Below W.heap.size W w') := fun W hW => rtextF_any v _ cls f W (rowK_keep HC.out (HLo.out W hW)) HLF.out.2.2.2.1 (HF.out.bl (HLo.out W hW)) hfV HLF.out.2.1
    have C20 : Hid (∀ W, Below W2.heap.size W2 W → Calls Tryd.prog 20 #[.agg #[.int .i64 f.t, .string (st f.c), .slice a0 n0 c0], .agg #[.int .i64 g.t, .string (st g.c), .slice b0 m0 d0]] W fun e w' => e = .returned (.bool (decide (f = g))) ∧ Below W.heap.size W w') := fun W hW => same_any f g _ _ W (HF.out.bl (HLo.out W hW)) (HG.out.bl (HLo.out W hW))
    have C13 : Hid (∀ W, Below W2.heap.size W2 W → Calls Tryd.prog 13 #[.agg #[.int .i64 f.t, .string (st f.c), .slice a0 n0 c0], .agg #[.int .i64 g.t, .string (st g.c), .slice b0 m0 d0]] W fun e w' => e = .returned (.bool (decide (f = g))) ∧ Below W.heap.size W w') := fun W hW => rsame_any f g _ _ W (HF.out.bl (HLo.out W hW)) (HG.out.bl (HLo.out W hW))
    unfold GP at C16 C17
    generalize (getR cls f at_).getD v00 = x at *
    generalize (getR cls f at_).isSome = bb at *
    generalize textR cls f = tx at *
    generalize decide (f = g) = sm at *
    clear hfV hcN C7a C7b HL1 HL2 HLF HLG HFO HC HF HG HV
    go_wp2_with (first
      | (go_at_call 16; refine (C16.out _ HBc.out).mono ?_; rintro e w6 ⟨rfl, hb6⟩; have HBc : Hid (Below W2.heap.size W2 w6) := bt HBc.out hb6; have HB6 := HBc; obtain ⟨p0, p1, p2, q0, q1, q2⟩ := SC.out w6 HBc.out; have X6 : Hid (BoxV (w6.alloc (.cells #[.int .u8 x.k, .int .i64 x.n, .string (st x.s)] 42)) w6.heap.size (.int .u8 x.k) (.int .i64 x.n) (.string (st x.s))) := heap_alloc_new w6 _; have HBc : Hid (Below W2.heap.size W2 (w6.alloc (.cells #[.int .u8 x.k, .int .i64 x.n, .string (st x.s)] 42))) := bt HBc.out (bxn _ _); obtain ⟨p0, p1, p2, q0, q1, q2⟩ := SC.out _ HBc.out; clear hb6)
      | (go_at_call 17; refine (C17.out _ HBc.out).mono ?_; rintro e w7 ⟨rfl, hb7⟩; have X7 : Hid (BoxV (w7.alloc (.cells #[.int .u8 x.k, .int .i64 x.n, .string (st x.s)] 42)) w7.heap.size (.int .u8 x.k) (.int .i64 x.n) (.string (st x.s))) := heap_alloc_new w7 _; have Y6 : Hid (BoxV (w7.alloc (.cells #[.int .u8 x.k, .int .i64 x.n, .string (st x.s)] 42)) w6.heap.size (.int .u8 x.k) (.int .i64 x.n) (.string (st x.s))) := (X6.out.below hb7).below (bxn _ _); have HBc : Hid (Below W2.heap.size W2 (w7.alloc (.cells #[.int .u8 x.k, .int .i64 x.n, .string (st x.s)] 42))) := bt (bt HBc.out hb7) (bxn _ _); clear hb7))
    obtain ⟨W6, hW6⟩ : ∃ W6, W6 = w7.alloc (.cells #[.int .u8 x.k, .int .i64 x.n, .string (st x.s)] 42) := ⟨_, rfl⟩
    rw [← hW6] at X7 Y6 HBc
    have S18 : Hid (∀ W, Below W6.heap.size W6 W → W.cell? ⟨w6.heap.size, 0, none⟩ = some (.int .u8 x.k) ∧ W.cell? ⟨w6.heap.size, 1, none⟩ = some (.int .i64 x.n) ∧ W.cell? ⟨w6.heap.size, 2, none⟩ = some (.string (st x.s)) ∧ W.cell? ⟨w7.heap.size, 0, none⟩ = some (.int .u8 x.k) ∧ W.cell? ⟨w7.heap.size, 1, none⟩ = some (.int .i64 x.n) ∧ W.cell? ⟨w7.heap.size, 2, none⟩ = some (.string (st x.s)) ∧ W.cell? ⟨p7, 0, none⟩ = some (.int .i64 f.t) ∧ W.cell? ⟨p7, 1, none⟩ = some (.string (st f.c)) ∧ W.cell? ⟨p7, 2, none⟩ = some (.slice a0 n0 c0) ∧ W.cell? ⟨p8, 0, none⟩ = some (.int .i64 g.t) ∧ W.cell? ⟨p8, 1, none⟩ = some (.string (st g.c)) ∧ W.cell? ⟨p8, 2, none⟩ = some (.slice b0 m0 d0)) := fun W hW => by
      obtain ⟨x0, x1, x2, -⟩ := box3 (Y6.out.below hW)
      obtain ⟨y0, y1, y2, -⟩ := box3 (X7.out.below hW)
      obtain ⟨p0, p1, p2, q0, q1, q2⟩ := SC.out W (bt HBc.out hW)
      exact ⟨x0, x1, x2, y0, y1, y2, p0, p1, p2, q0, q1, q2⟩
    have HL6 : Hid (∀ W, Below W6.heap.size W6 W → Below W2.heap.size W2 W) := fun W hW => bt HBc.out hW
    rw [← hW6]
    clear hW6 X6 X7 Y6 HBc SC C16 C17
    have HBc : Hid (Below W6.heap.size W6 W6.drew) := (Below.refl _ _).drew
    go_region_held3 (fun W => W.cell? ⟨w6.heap.size, 0, none⟩ = some (.int .u8 x.k) ∧ W.cell? ⟨w6.heap.size, 1, none⟩ = some (.int .i64 x.n) ∧ W.cell? ⟨w6.heap.size, 2, none⟩ = some (.string (st x.s)) ∧ W.cell? ⟨w7.heap.size, 0, none⟩ = some (.int .u8 x.k) ∧ W.cell? ⟨w7.heap.size, 1, none⟩ = some (.int .i64 x.n) ∧ W.cell? ⟨w7.heap.size, 2, none⟩ = some (.string (st x.s)) ∧ W.cell? ⟨p7, 0, none⟩ = some (.int .i64 f.t) ∧ W.cell? ⟨p7, 1, none⟩ = some (.string (st f.c)) ∧ W.cell? ⟨p7, 2, none⟩ = some (.slice a0 n0 c0) ∧ W.cell? ⟨p8, 0, none⟩ = some (.int .i64 g.t) ∧ W.cell? ⟨p8, 1, none⟩ = some (.string (st g.c)) ∧ W.cell? ⟨p8, 2, none⟩ = some (.slice b0 m0 d0)) (first | with_reducible exact S18.out _ HBc.out) (first
      | (go_at_call 18; refine (C18.out _ (HL6.out _ HBc.out)).mono ?_; rintro e we ⟨rfl, hbe⟩; have HBc : Hid (Below W6.heap.size W6 we) := bt HBc.out hbe; clear hbe)
      | (go_at_call 19; refine (C19.out _ (HL6.out _ HBc.out)).mono ?_; rintro e we ⟨rfl, hbe⟩; have HBc : Hid (Below W6.heap.size W6 we) := bt HBc.out hbe; clear hbe)
      | (go_at_call 20; refine (C20.out _ (HL6.out _ HBc.out)).mono ?_; rintro e we ⟨rfl, hbe⟩; have HBc : Hid (Below W6.heap.size W6 we) := bt HBc.out hbe; clear hbe)
      | (go_at_call 13; refine (C13.out _ (HL6.out _ HBc.out)).mono ?_; rintro e we ⟨rfl, hbe⟩; have HBc : Hid (Below W6.heap.size W6 we) := bt HBc.out hbe; clear hbe)
      | (go_at_call 8; refine (HA.out _ (HLo.out _ (HL6.out _ HBc.out))).mono ?_; rintro e we ⟨rfl, hbe⟩; have HBc : Hid (Below W6.heap.size W6 we) := bt HBc.out hbe; clear hbe))
    all_goals (
      go_wp2
      go_ret
      exact ⟨rfl, HLo.out _ (HL6.out _ HBc.out)⟩)
theorem walk (v0 : Value) (x0 : List ClassD) (cs1 : List Value) (x1 : FactD × FactD) (x2 : Str) (w : World) (hV : Vars w) (h5 : 5 ≤ w.heap.size) (w0 : Row 2 (ReK fun _ _ => True) w (fun _ => True) v0 x0 ∧ ∀ y ∈ x0, ClassD.Ok y) (w1 : RePr w cs1 x1 ∧ x1.1.Ok ∧ x1.2.Ok) (w2 : okS x2) : Calls Tryd.prog 4 #[v0, .agg cs1.toArray, .string (st x2)] w fun e w' => e = .returned (.bool true) ∧ Below w.heap.size w w' := by
  obtain ⟨c1, c2, e, ⟨va, e1, h1⟩, ⟨vb, e2, h2⟩⟩ := w1.1
  obtain ⟨a0, c0, rfl⟩ := h1.shape
  obtain ⟨b0, d0, rfl⟩ := h2.shape
  subst e1; subst e2; subst e
  exact core v0 x0 x1.1 x1.2 a0 b0 _ c0 _ d0 x2 w hV h5 w0.1 h1 h2 w1.2.1 w1.2.2 w2
set_option maxRecDepth 100000 in
theorem lifted (os : Os) (started : os.Started) (H : Type) (enc : TypeId × Value → H) :
    ReturnsInHanded {} Tryd.checked os 4 .any (fun w args => (Rows.classLooksSpec.pre enc Tryd.prog Tryd.f4 Rows.classLooksRow.domain false w args ∧ laidMet Tryd.prog laids w) ∧ sizedMet enc Tryd.prog Tryd.f4 (OpenSpec.ofChange Rows.classLooksSpec) false w args)
      (Rows.classLooksSpec.post enc Tryd.prog Tryd.f4 false true false false) := by
  refine returnsInHanded_of_change_and (C := Tryd.checked) (X := fun w _ => laidMet Tryd.prog laids w) (fun _ _ _ hh h => h.of_heap hh) own started (by kernel_rfl) Tryd.func4
    (ChangeSpec.witness_at (enc := enc) (C := Tryd.checked) (os := os) (X := fun w _ => laidMet Tryd.prog laids w) false (laidWorld os) #[.slice none 0 0, .agg #[.int .i64 0, .string ByteArray.empty, .slice none 0 0, .int .i64 0, .string ByteArray.empty, .slice none 0 0], .string ByteArray.empty] 8 rfl (by kernel_rfl) (by kernel_rfl) (by kernel_rfl) (by kernel_rfl) (by kernel_rfl) (laidWorld_met os _)) ?_
  intro W base args ds gs before hval0 hW _ hsz0 hL _
  have hval : ∀ (j : Nat) t v, Tryd.f4.params[j]? = some t → args[j]? = some v → Value.okWide Tryd.prog W .any base t v := hval0
  have hW' := hW
  obtain ⟨p, q, hA0, hV, rfl, hfz, hnd⟩ := hW
  have hA : DataW.TrodAll enc Tryd.prog W 0 (fun _ => true) true Tryd.f4.params.toList args.toList ds p := hA0
  rw [Tryd.params4] at hA hval
  have hVars := vars_of hL
  have hFive := five_of hL
  obtain ⟨v0, vs0, d'0, ds0, q0, r'0, hargs, rfl, rfl, h0, r0⟩ := trodAll_cons hA
  obtain ⟨v1, vs1, d'1, ds1, q1, r'1, rfl, rfl, rfl, h1, r1⟩ := trodAll_cons r0
  obtain ⟨v2, vs2, d'2, ds2, q2, r'2, rfl, rfl, rfl, h2, r2⟩ := trodAll_cons r1
  obtain ⟨rfl, rfl, rfl⟩ := trodAll_nil r2
  obtain rfl : args = #[v0, v1, v2] := by cases args; simp_all
  obtain ⟨rfl, rfl⟩ := trodVars_none hV
  have k0' := h0
  have lt0 : ∀ x ∈ q0, x.block < W.heap.size := by obtain ⟨m, hm⟩ := k0'; exact DataW.trod_lt m _ _ _ hm
  obtain ⟨x0, w0⟩ := arg_cls (hval 0 22 v0 rfl rfl) h0
  have k1' := h1
  have lt1 : ∀ x ∈ q1, x.block < W.heap.size := by obtain ⟨m, hm⟩ := k1'; exact DataW.trod_lt m _ _ _ hm
  obtain ⟨cs1, x1, rfl, w1⟩ := arg_pair (hval 1 44 v1 rfl rfl) h1
  obtain ⟨s2, rfl, rfl, rfl, z2⟩ := Go.ChangeMaps.open_string Tryd.underlying9 (hval 2 9 v2 rfl rfl) h2
  obtain ⟨x2, rfl⟩ : ∃ y : Str, s2 = st y := ⟨s2.data.toList, (st_of s2).symm⟩
  have w2 : okS x2 := by unfold okS; rw [← st_size]; exact z2
  clear hA0 hval0
  refine (walk v0 x0 cs1 x1 x2 W hVars hFive w0 w1 w2).mono fun e W' ⟨he, bel⟩ => ?_
  subst he
  exact ⟨_, rfl, _, _, _, [], _, [], hW', trodAll_mk1 (shut_bool Tryd.underlying4 _), (trodAll_cons_mk (Below.trod laidOut (by kernel_rfl) (of_decide_eq_true (by kernel_rfl)) k0' bel lt0) (trodAll_cons_mk (Below.trod laidOut (by kernel_rfl) (of_decide_eq_true (by kernel_rfl)) k1' bel lt1) (trodAll_cons_mk (Go.ChangeMaps.shut_string Tryd.underlying9 z2) trodAll_mk0))), rfl, bel.frame _, fun h => by cases h⟩

theorem over : Rows.classLooksRow.holds Tryd.pinned (OpenSpec.ofChange Rows.classLooksSpec) :=
  OpenClaim.holds_of_wide 4 Tryd.f4 rfl rfl rfl rfl rfl rfl rfl ⟨rfl, rfl, rfl, rfl, rfl⟩ rfl rfl rfl rfl rfl (by kernel_rfl) Tryd.func4 (by kernel_rfl)
    (of_decide_eq_true (by kernel_rfl)) (by unfold Func.isWrapper; first | (rw [if_pos (by decide +kernel)]; kernel_rfl) | (rw [if_neg (by decide +kernel)]; exact ⟨rfl, rfl⟩))
    (fun os started H enc _ => lifted os started H enc)
theorem stand (j : Nat) (t : TypeId) (ht : Tryd.f4.params[j]? = some t) : Tryd.prog.wantsStandIn t = false := by
  rw [Tryd.params4] at ht
  rcases j with _ | j
  · obtain rfl : 22 = t := by simpa using ht
    kernel_rfl
  rcases j with _ | j
  · obtain rfl : 44 = t := by simpa using ht
    kernel_rfl
  rcases j with _ | j
  · obtain rfl : 9 = t := by simpa using ht
    kernel_rfl
  simp at ht
end Go.Proofs.YtbbjhiijialfoaaDoor.classLooks

namespace Go.Proofs.YtbbjhiijialfoaaDoor
theorem classLooks_holds : Rows.ClassLooksCardSaid :=
  Claim7.holds_tied_plain_at .later [] [.data, .data, .data, .data, .pinned] true (true, "bb77afbdca64eea0ee0f265763a889a12c4ed3f89f30adfa7d91f8a4aa24a3e8") false
    classLooks.over (fun _ h => by cases h) (by kernel_rfl) (fun _ h => by cases h) classLooks_row_tie rfl ⟨rfl, rfl⟩ (by kernel_rfl) rfl
    (fun f fn hf hfn => by
      obtain rfl : f = 4 := Option.some.inj ((show Tryd.prog.funcNamed Rows.classLooksRow.func = some 4 by kernel_rfl).symm.trans hf) |>.symm
      obtain rfl : fn = Tryd.f4 := (Option.some.inj (Tryd.func4.symm.trans hfn)).symm
      exact ⟨by kernel_rfl, classLooks.stand⟩)
    (by kernel_rfl)
#print axioms classLooks_holds
end Go.Proofs.YtbbjhiijialfoaaDoor
