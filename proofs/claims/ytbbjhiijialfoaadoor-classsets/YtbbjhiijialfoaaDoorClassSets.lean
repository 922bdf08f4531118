/- For all classes, any fact and any changes the call ClassSets of the statements returns true and its arguments read as they did: no condition but that the library's listed variables lie as the program's text lays them. -/
import Derived.Test.YtbbjhiijialfoaaDoorRows
import Derived.Test.YtbbjhiijialfoaaDoorCards
import Derived.Test.YtbbjhiijialfoaaDoorTie
import Derived.Test.YtbbjhiijialfoaaDoorArg
import Derived.Test.YtbbjhiijialfoaaDoorRn
import Derived.Test.YtbbjhiijialfoaaDoorAw
import Derived.Test.YtbbjhiijialfoaaDoorOpn
import Derived.SevenTiedAt
import Derived.SizedLaws
import Derived.ChangeSame
import Derived.ChangeVars
import Derived.ChangeMaps5
import Derived.JoinedOf
import Derived.JoinedAt
import Derived.RowKit3
import Derived.LaidLaws
import Derived.WalkKit
import Derived.ProofKit
import Derived.OpenShut
import Derived.ShutString
import Derived.ChangeOld
import Derived.Below
import Derived.Test.YtbbjhiijialfoaaDoorLi
import Derived.Test.YtbbjhiijialfoaaDoorCb
import Derived.Test.YtbbjhiijialfoaaDoorCx
import Derived.Test.YtbbjhiijialfoaaDoorPl
import Derived.Test.YtbbjhiijialfoaaDoorPg
namespace Go.Proofs.YtbbjhiijialfoaaDoor.classSets
open Go.ChangeShapes Go.WideShapes Go.ChangeAt Go.RowKit
set_option linter.unusedVariables false
set_option linter.unusedSimpArgs false
set_option maxRecDepth 20000

set_option maxHeartbeats 16000000 in
theorem core (v : Value) (cls : List ClassD) (f : FactD) (a0 s0 : Option Addr) (c0 sc : Nat) (ht : Int) (bs : List BoundD) (ha : Str) (w : World) (hV : Vars w) (hc : Row 2 (ReK fun _ _ => True) w (fun _ => True) v cls) (hf : SlW 3 w (fun _ => True) (.slice a0 f.vs.length c0) (f.vs.map clV)) (hs : SlW 4 w (fun _ => True) (.slice s0 bs.length sc) (bs.map clB)) (hfo : f.Ok) (hso : ∀ y ∈ bs, y.Ok) (hao : okS ha) :
    Calls Tryd.prog 5 #[v, .agg #[.int .i64 f.t, .string (st f.c), .slice a0 f.vs.length c0], .agg #[.int .i64 ht, .slice s0 bs.length sc, .string (st ha)]] w fun e w' => e = .returned (.bool true) ∧ Below w.heap.size w w' := by
  have HA : Hid (∀ W, Below w.heap.size w W → Calls Tryd.prog 8 #[] W fun e w' => e = .returned (.bool true) ∧ Below W.heap.size W w') := fun W hb => awake_any W (hV.below hb)
  have C7 : Hid (∀ W, Below w.heap.size w W → Calls Tryd.prog 7 #[v, .agg #[.int .i64 f.t, .string (st f.c), .slice a0 f.vs.length c0], .slice s0 bs.length sc] W (SomeL (lightL cls f bs) W)) := fun W hb => light_any v _ _ cls f bs W (rowK_keep hc hb) (hf.bl hb) (hs.bl hb)
  have HF : Hid (SlW 3 w (fun _ => True) (.slice a0 f.vs.length c0) (f.vs.map clV)) := hf
  have HS : Hid (SlW 4 w (fun _ => True) (.slice s0 bs.length sc) (bs.map clB)) := hs
  have HC : Hid (Row 2 (ReK fun _ _ => True) w (fun _ => True) v cls) := hc
  have HV : Hid (Vars w) := hV
  have HFO : Hid (f.Ok ∧ ∀ y ∈ bs, y.Ok) := ⟨hfo, hso⟩
  have hat : (st ha).size ≤ 9223372036854775807 := by rw [st_size]; exact Nat.le_trans hao maxlen_int
  obtain ⟨W0, hW0⟩ : ∃ W0, W0 = (w.alloc (.cells #[.int .i64 f.t, .string (st f.c), .slice a0 f.vs.length c0] 25)).alloc (.cells #[.int .i64 ht, .slice s0 bs.length sc, .string (st ha)] 28) := ⟨_, rfl⟩
  have HB0 : Hid (Below w.heap.size w W0) := by rw [hW0]; exact bt (bxn _ _) (bxn _ _)
  have SC : Hid (∀ W, Below W0.heap.size W0 W → W.cell? ⟨w.heap.size, 0, none⟩ = some (.int .i64 f.t) ∧ W.cell? ⟨w.heap.size, 1, none⟩ = some (.string (st f.c)) ∧ W.cell? ⟨w.heap.size, 2, none⟩ = some (.slice a0 f.vs.length c0) ∧ W.cell? ⟨w.heap.size + 1, 0, none⟩ = some (.int .i64 ht) ∧ W.cell? ⟨w.heap.size + 1, 1, none⟩ = some (.slice s0 bs.length sc) ∧ W.cell? ⟨w.heap.size + 1, 2, none⟩ = some (.string (st ha))) := fun W hW => by
    subst hW0
    exact ⟨(hW.cell (p := ⟨w.heap.size, 0, none⟩) (by simp; omega)).trans (by go_simp), (hW.cell (p := ⟨w.heap.size, 1, none⟩) (by simp; omega)).trans (by go_simp), (hW.cell (p := ⟨w.heap.size, 2, none⟩) (by simp; omega)).trans (by go_simp), (hW.cell (p := ⟨w.heap.size + 1, 0, none⟩) (by simp)).trans (by go_simp), (hW.cell (p := ⟨w.heap.size + 1, 1, none⟩) (by simp)).trans (by go_simp), (hW.cell (p := ⟨w.heap.size + 1, 2, none⟩) (by simp)).trans (by go_simp)⟩
  have HLo : Hid (∀ W, Below W0.heap.size W0 W → Below w.heap.size w W) := fun W hW => bt HB0.out hW
  have HBc : Hid (Below W0.heap.size W0 W0) := Below.refl _ _
  obtain ⟨p0, p1, p2, h0, h1, h2⟩ := SC.out W0 HBc.out
  clear hV hc hf hs hfo hso hao
  go_enter Tryd.func5, Tryd.ntmps5
  go_wp2_with fail
  rw [← hW0]
  clear hW0
  go_wp2_with (first
    | (go_at_call 7; refine (C7.out _ (HLo.out _ HBc.out)).mono ?_; rintro e wa ⟨z1, rfl, hl1, hb1⟩; have HL1 : Hid (z1 = true → lightL cls f bs) := hl1; have HBc : Hid (Below W0.heap.size W0 wa) := bt HBc.out hb1; obtain ⟨p0, p1, p2, h0, h1, h2⟩ := SC.out wa HBc.out; clear hl1 hb1)
    | (go_at_call 8; refine (HA.out _ (HLo.out _ HBc.out)).mono ?_; rintro e wz ⟨rfl, bz⟩; have HBz : Hid (Below W0.heap.size W0 wz) := bt HBc.out bz; clear bz))
  all_goals try (go_ret; exact ⟨rfl, HLo.out _ HBz.out⟩)
  obtain rfl : z1 = true := by first | assumption | simp_all
  try simp only [Bool.not_true]
  have HLF : Hid (lightL cls f bs) := HL1.out rfl
  have hcN : ∀ y ∈ cls, y.attrs.length ≤ 100000 := fun y hy => Nat.le_trans (HLF.out.2.2.2.1 y hy).2.1 (by decide)
  have hfV : ∀ y ∈ f.vs, fV y := fun y hy => fV_of ((HFO.out.1.2.2 y hy).1) (HLF.out.2.1.2.2 y hy)
  have hbV : ∀ y ∈ bs, fV y.x := fun y hy => fV_of ((HFO.out.2 y hy).2.1) (HLF.out.2.2.2.2 y hy).2
  have C11 : Hid (∀ W, Below W0.heap.size W0 W → Calls Tryd.prog 11 #[v, .agg #[.int .i64 f.t, .string (st f.c), .slice a0 f.vs.length c0], .int .i64 ht, .slice s0 bs.length sc] W (WP W (withR cls f ht bs))) := fun W hW => with_any v _ _ cls f ht bs W (rowK_keep HC.out (HLo.out W hW)) hcN (HF.out.bl (HLo.out W hW)) hfV (HV.out.below (HLo.out W hW)) (HS.out.bl (HLo.out W hW)) hbV (Nat.le_trans HLF.out.2.1.1 (by decide))
  clear HL1 C7
  cases hr : withR cls f ht bs with
  | error er =>
    have hne : ¬ er = 0 := with_err hr
    have hne' : (er == 0) = false := by simpa using hne
    have C : Hid (∀ W, Below W0.heap.size W0 W → Calls Tryd.prog 11 #[v, .agg #[.int .i64 f.t, .string (st f.c), .slice a0 f.vs.length c0], .int .i64 ht, .slice s0 bs.length sc] W fun e w' => e = .returned (.tuple #[.agg #[.int .i64 0, .string ⟨#[]⟩, .slice none 0 0], .int .i64 er]) ∧ Below W.heap.size W w') := fun W hW => (C11.out W hW).mono fun e w' h => by
      obtain ⟨hb, hh⟩ := h
      rw [hr] at hh; exact ⟨hh, hb⟩
    clear hr C11
    go_wp2_with (first
      | (go_at_call 11; refine (C.out _ HBc.out).mono ?_; rintro e wb ⟨rfl, hbb⟩; have HBc : Hid (Below W0.heap.size W0 (wb.alloc (.cells #[.int .i64 0, .string ⟨#[]⟩, .slice none 0 0] 25))) := bt (bt HBc.out hbb) (bxn _ _); clear hbb)
      | (go_at_call 8; refine (HA.out _ (HLo.out _ HBc.out)).mono ?_; rintro e wz ⟨rfl, bz⟩; have HBz : Hid (Below W0.heap.size W0 wz) := bt HBc.out bz; clear bz))
    all_goals (go_ret; exact ⟨rfl, HLo.out _ HBz.out⟩)
  | ok g =>
    obtain ⟨hgE, hgt, hgc, hgA⟩ := with_is hr
    obtain ⟨hg1, hg2, hg3⟩ := hgA ha
    have hinv : ∀ x ∈ g.vs, fV x := by
      obtain ⟨-, -, k, s, -, -, -, hrun, rfl⟩ := with_ok hr
      exact (sets_inv (P := fV) hbV hfV hrun).2.1
    have C : Hid (∀ W, Below W0.heap.size W0 W → Calls Tryd.prog 11 #[v, .agg #[.int .i64 f.t, .string (st f.c), .slice a0 f.vs.length c0], .int .i64 ht, .slice s0 bs.length sc] W fun e w' => ∃ z zc, e = .returned (.tuple #[.agg #[.int .i64 ht, .string (st f.c), .slice z g.vs.length zc], .int .i64 0]) ∧ Below W.heap.size W w' ∧ SlW 3 w' (fun _ => True) (.slice z g.vs.length zc) (g.vs.map clV)) := fun W hW => (C11.out W hW).mono fun e w' h => by
      obtain ⟨hb, hh⟩ := h
      rw [hr] at hh
      obtain ⟨z, e1, ho⟩ := hh
      obtain ⟨za, zc, rfl⟩ := ho.shape
      rw [List.length_map, hgt, hgc] at e1
      exact ⟨za, zc, e1, hb, (lenV ho).sl.imp fun _ _ _ => trivial⟩
    have C14 : Hid (∀ W z zc, Below W0.heap.size W0 W → SlW 3 W (fun _ => True) (.slice z g.vs.length zc) (g.vs.map clV) → Calls Tryd.prog 14 #[v, .agg #[.int .i64 ht, .string (st f.c), .slice z g.vs.length zc]] W fun e w' => e = .returned (.int .i64 0) ∧ Below W.heap.size W w') := fun W z zc hW hz => by
      have := check_any v _ cls g W (rowK_keep HC.out (HLo.out W hW)) hcN hz hinv (HV.out.below (HLo.out W hW))
      rw [hgt, hgc, hgE] at this
      exact this
    have C16g : Hid (∀ W z zc, Below W0.heap.size W0 W → SlW 3 W (fun _ => True) (.slice z g.vs.length zc) (g.vs.map clV) → Calls Tryd.prog 16 #[v, .agg #[.int .i64 ht, .string (st f.c), .slice z g.vs.length zc], .string (st ha)] W (GP W (getR cls g ha))) := fun W z zc hW hz => by
      have := get_any v _ cls g ha W (rowK_keep HC.out (HLo.out W hW)) hcN hz hinv (HV.out.below (HLo.out W hW))
      rw [hgt, hgc] at this
      exact this
    have C16f : Hid (∀ W, Below W0.heap.size W0 W → Calls Tryd.prog 16 #[v, .agg #[.int .i64 f.t, .string (st f.c), .slice a0 f.vs.length c0], .string (st ha)] W (GP W (getR cls f ha))) := fun W hW => get_any v _ cls f ha W (rowK_keep HC.out (HLo.out W hW)) hcN (HF.out.bl (HLo.out W hW)) hfV (HV.out.below (HLo.out W hW))
    have CC : Hid (∀ W, Below W0.heap.size W0 W → Calls Tryd.prog 21 #[v] W fun e w' => e = .returned (.int .i64 (clsE cls)) ∧ Below W.heap.size W w') := fun W hW => classes_any v cls W (rowK_keep HC.out (HLo.out W hW)) HLF.out.1 HLF.out.2.2.2.1
    unfold GP at C16g C16f
    rw [← hg1] at C16f
    have HGS : Hid (∀ b ∈ bs, b.nm = ha → (getR cls g ha).getD v00 = b.x ∧ (getR cls g ha).isSome = true) := fun b hb e => by rw [hg2 b hb e]; exact ⟨rfl, rfl⟩
    have HGN : Hid ((∀ b ∈ bs, b.nm ≠ ha) → (getR cls g ha).getD v00 = (getR cls f ha).getD v00) := fun h => by rw [hg3 h]
    clear hg1 hg2 hg3 hgA
    generalize (getR cls g ha).isSome = b1 at *
    generalize (getR cls g ha).getD v00 = x1 at *
    generalize (getR cls f ha).getD v00 = x0 at *
    generalize clsE cls = e2 at *
    clear hr C11 hcN hfV hbV hinv hgE hgt hgc HFO
    by_cases hz2 : ¬ e2 = 0
    · have hq1 : (e2 == 0) = false := by simpa using hz2
      go_wp2_with (first
        | (go_at_call 11; refine (C.out _ HBc.out).mono ?_; rintro e wb ⟨z, zc, rfl, hbb, hz⟩; have HBc : Hid (Below W0.heap.size W0 (wb.alloc (.cells #[.int .i64 ht, .string (st f.c), .slice z g.vs.length zc] 25))) := bt (bt HBc.out hbb) (bxn _ _); clear hbb)
        | (go_at_call 21; refine (CC.out _ HBc.out).mono ?_; rintro e wd ⟨rfl, hbb⟩; have HBc : Hid (Below W0.heap.size W0 wd) := bt HBc.out hbb; clear hbb)
        | (go_at_call 8; refine (HA.out _ (HLo.out _ HBc.out)).mono ?_; rintro e wz ⟨rfl, bz⟩; have HBz : Hid (Below W0.heap.size W0 wz) := bt HBc.out bz; clear bz))
      all_goals (go_ret; exact ⟨rfl, HLo.out _ HBz.out⟩)
    have hz2 := Classical.not_not.1 hz2
    subst hz2
    generalize hgv : g.vs = gvs at *
    clear hgv
    go_wp2_with (first
      | (go_at_call 11; refine (C.out _ HBc.out).mono ?_; rintro e wb ⟨z, zc, rfl, hbb, hz⟩; have HBc : Hid (Below W0.heap.size W0 (wb.alloc (.cells #[.int .i64 ht, .string (st f.c), .slice z gvs.length zc] 25))) := bt (bt HBc.out hbb) (bxn _ _); have XG : Hid (BoxF (wb.alloc (.cells #[.int .i64 ht, .string (st f.c), .slice z gvs.length zc] 25)) wb.heap.size (.int .i64 ht) (.string (st f.c)) (.slice z gvs.length zc)) := heap_alloc_new wb _; have ZG : Hid (SlW 3 (wb.alloc (.cells #[.int .i64 ht, .string (st f.c), .slice z gvs.length zc] 25)) (fun _ => True) (.slice z gvs.length zc) (gvs.map clV)) := SlW.bl hz (bxn _ _); obtain ⟨p0, p1, p2, h0, h1, h2⟩ := SC.out _ HBc.out; clear hbb hz)
      | (go_at_call 21; refine (CC.out _ HBc.out).mono ?_; rintro e wd ⟨rfl, hbb⟩; have HBc : Hid (Below W0.heap.size W0 wd) := bt HBc.out hbb; have XG := XG.out.below hbb; have ZG : Hid (SlW 3 wd (fun _ => True) (.slice z gvs.length zc) (gvs.map clV)) := SlW.bl ZG.out hbb; obtain ⟨x0', x1', x2', -⟩ := box3 XG; have XG : Hid (BoxF wd wb.heap.size (.int .i64 ht) (.string (st f.c)) (.slice z gvs.length zc)) := XG; obtain ⟨p0, p1, p2, h0, h1, h2⟩ := SC.out _ HBc.out; clear hbb)
      | (go_at_call 14; refine (C14.out _ z zc HBc.out ZG.out).mono ?_; rintro e we ⟨rfl, hbb⟩; have HBc : Hid (Below W0.heap.size W0 we) := bt HBc.out hbb; have XG := XG.out.below hbb; have ZG : Hid (SlW 3 we (fun _ => True) (.slice z gvs.length zc) (gvs.map clV)) := SlW.bl ZG.out hbb; obtain ⟨x0', x1', x2', -⟩ := box3 XG; have XG : Hid (BoxF we wb.heap.size (.int .i64 ht) (.string (st f.c)) (.slice z gvs.length zc)) := XG; obtain ⟨p0, p1, p2, h0, h1, h2⟩ := SC.out _ HBc.out; clear hbb)
      | (go_at_call_of 16 a0; refine (C16f.out _ HBc.out).mono ?_; rintro e w6 ⟨rfl, hbb⟩; have HBc : Hid (Below W0.heap.size W0 (w6.alloc (.cells #[.int .u8 x0.k, .int .i64 x0.n, .string (st x0.s)] 42))) := bt (bt HBc.out hbb) (bxn _ _); have XG := BoxF.below (XG.out.below hbb) (bxn w6 (.cells #[.int .u8 x0.k, .int .i64 x0.n, .string (st x0.s)] 42)); have ZG : Hid (SlW 3 (w6.alloc (.cells #[.int .u8 x0.k, .int .i64 x0.n, .string (st x0.s)] 42)) (fun _ => True) (.slice z gvs.length zc) (gvs.map clV)) := SlW.bl (SlW.bl ZG.out hbb) (bxn _ _); obtain ⟨x0', x1', x2', -⟩ := box3 XG; have XG : Hid (BoxF (w6.alloc (.cells #[.int .u8 x0.k, .int .i64 x0.n, .string (st x0.s)] 42)) wb.heap.size (.int .i64 ht) (.string (st f.c)) (.slice z gvs.length zc)) := XG; have Y6 : Hid (BoxV (w6.alloc (.cells #[.int .u8 x0.k, .int .i64 x0.n, .string (st x0.s)] 42)) w6.heap.size (.int .u8 x0.k) (.int .i64 x0.n) (.string (st x0.s))) := heap_alloc_new w6 _; obtain ⟨p0, p1, p2, h0, h1, h2⟩ := SC.out _ HBc.out; clear hbb)
      | (go_at_call_of 16 z; refine (C16g.out _ z zc HBc.out ZG.out).mono ?_; rintro e w7 ⟨rfl, hbb⟩; have HBc : Hid (Below W0.heap.size W0 (w7.alloc (.cells #[.int .u8 x1.k, .int .i64 x1.n, .string (st x1.s)] 42))) := bt (bt HBc.out hbb) (bxn _ _); have Y6 : Hid (BoxV (w7.alloc (.cells #[.int .u8 x1.k, .int .i64 x1.n, .string (st x1.s)] 42)) w6.heap.size (.int .u8 x0.k) (.int .i64 x0.n) (.string (st x0.s))) := (Y6.out.below hbb).below (bxn _ _); have Y7 : Hid (BoxV (w7.alloc (.cells #[.int .u8 x1.k, .int .i64 x1.n, .string (st x1.s)] 42)) w7.heap.size (.int .u8 x1.k) (.int .i64 x1.n) (.string (st x1.s))) := heap_alloc_new w7 _; clear hbb))
    obtain ⟨W3, hW3⟩ : ∃ W3, W3 = w7.alloc (.cells #[.int .u8 x1.k, .int .i64 x1.n, .string (st x1.s)] 42) := ⟨_, rfl⟩
    rw [← hW3] at Y6 Y7 HBc
    have HB3 : Hid (Below W0.heap.size W0 W3) := HBc
    have SC3 : Hid (∀ W, Below W3.heap.size W3 W → W.cell? ⟨w.heap.size, 0, none⟩ = some (.int .i64 f.t) ∧ W.cell? ⟨w.heap.size, 1, none⟩ = some (.string (st f.c)) ∧ W.cell? ⟨w.heap.size, 2, none⟩ = some (.slice a0 f.vs.length c0) ∧ W.cell? ⟨w.heap.size + 1, 0, none⟩ = some (.int .i64 ht) ∧ W.cell? ⟨w.heap.size + 1, 1, none⟩ = some (.slice s0 bs.length sc) ∧ W.cell? ⟨w.heap.size + 1, 2, none⟩ = some (.string (st ha)) ∧ W.cell? ⟨w6.heap.size, 0, none⟩ = some (.int .u8 x0.k) ∧ W.cell? ⟨w6.heap.size, 1, none⟩ = some (.int .i64 x0.n) ∧ W.cell? ⟨w6.heap.size, 2, none⟩ = some (.string (st x0.s)) ∧ W.cell? ⟨w7.heap.size, 0, none⟩ = some (.int .u8 x1.k) ∧ W.cell? ⟨w7.heap.size, 1, none⟩ = some (.int .i64 x1.n) ∧ W.cell? ⟨w7.heap.size, 2, none⟩ = some (.string (st x1.s))) := fun W hW => by
      obtain ⟨l0, l1, l2, -⟩ := box3 (Y6.out.below hW)
      obtain ⟨m0, m1, m2, -⟩ := box3 (Y7.out.below hW)
      obtain ⟨p0, p1, p2, h0, h1, h2⟩ := SC.out W (bt HB3.out hW)
      exact ⟨p0, p1, p2, h0, h1, h2, l0, l1, l2, m0, m1, m2⟩
    have hbn : (bs.length : Int) ≤ 9223372036854775807 := by have := HLF.out.2.2.1; omega
    rw [← hW3]
    clear hW3 HBc Y6 Y7 XG ZG SC C C14 C16g C16f CC
    go_loopw [13, 14] (fun v13 v14 wr => ∃ (i : Nat) (sb : Bool), v14 = .int .i64 i ∧ v13 = .bool sb ∧ i ≤ bs.length ∧ Hid (Below W3.heap.size W3 wr) ∧ Hid (sb = false → ∀ j, j < i → (bs.getD j ⟨[], v00⟩).nm ≠ ha)) (fun _ v14 _ => (bs.length - intOf v14).toNat)
    case atStart => exact ⟨0, false, rfl, rfl, Nat.zero_le _, Below.refl _ _, fun _ j hj => absurd hj (Nat.not_lt_zero _)⟩
    case round =>
      obtain ⟨i, sb, rfl, rfl, hi, HB, HN⟩ := hrel
      obtain ⟨p0, p1, p2, h0, h1, h2, l0, l1, l2, m0, m1, m2⟩ := SC3.out wr HB.out
      have HW : Hid (Below w.heap.size w wr) := HLo.out wr (bt HB3.out HB.out)
      by_cases hlt : i < bs.length
      · have hiz : (i : Int) < bs.length := by omega
        obtain ⟨b1', o1, rfl, hb1, q1⟩ := (HS.out.at ⟨[], v00⟩).2.2.2 i hlt
        have d0 : wr.cell? ⟨b1', o1 + i * 4, none⟩ = (clB (bs.getD i ⟨[], v00⟩))[0]? := (HW.out.cell (p := ⟨b1', o1 + i * 4, none⟩) hb1).trans (q1 0 (by decide))
        have d1 : wr.cell? ⟨b1', o1 + i * 4 + 1, none⟩ = (clB (bs.getD i ⟨[], v00⟩))[1]? := (HW.out.cell (p := ⟨b1', o1 + i * 4 + 1, none⟩) hb1).trans (q1 1 (by decide))
        have d2 : wr.cell? ⟨b1', o1 + i * 4 + 2, none⟩ = (clB (bs.getD i ⟨[], v00⟩))[2]? := (HW.out.cell (p := ⟨b1', o1 + i * 4 + 2, none⟩) hb1).trans (q1 2 (by decide))
        have d3 : wr.cell? ⟨b1', o1 + i * 4 + 3, none⟩ = (clB (bs.getD i ⟨[], v00⟩))[3]? := (HW.out.cell (p := ⟨b1', o1 + i * 4 + 3, none⟩) hb1).trans (q1 3 (by decide))
        have HM : Hid ((bs.getD i ⟨[], v00⟩).nm = ha → x1 = (bs.getD i ⟨[], v00⟩).x ∧ b1 = true) := fun e => HGS.out _ (by rw [List.getD_eq_getElem?_getD, List.getElem?_eq_getElem hlt]; exact List.getElem_mem hlt) e
        have HN2 : Hid (sb = false → (bs.getD i ⟨[], v00⟩).nm ≠ ha → ∀ j, j < i + 1 → (bs.getD j ⟨[], v00⟩).nm ≠ ha) := fun h1 h2 => idx_next (p := fun y : BoundD => y.nm ≠ ha) (HN.out h1) h2
        generalize bs.getD i ⟨[], v00⟩ = b at *
        simp only [clB, List.getElem?_cons_zero, List.getElem?_cons_succ] at d0 d1 d2 d3
        clear q1
        by_cases he : b.nm = ha
        · obtain ⟨e1, e2⟩ := HM.out he
          subst e1
          subst e2
          rw [he] at d0
          clear HM HN2 he
          go_wp2
          go_quiet (fail)
          go_wp2
          go_quiet (fail)
          go_wp2
          first
            | (refine ⟨⟨i + 1, true, by simp, rfl, by omega, below_dn (below_dn HB.out _) _, fun h => by cases h⟩, ?_⟩; simp [intOf]; omega)
            | (go_roundw; (case rel => first | exact ⟨i + 1, true, by simp, rfl, by omega, below_dn (below_dn HB.out _) _, fun h => by cases h⟩ | exact ⟨i + 1, true, by simp, rfl, by omega, below_dn HB.out _, fun h => by cases h⟩); (case measure => simp [intOf]; omega))
        · have he2 : ((st b.nm).toList == (st ha).toList) = false := beq_eq_false_iff_ne.2 (st_tl b.nm ha he)
          have he3 := st_tl b.nm ha he
          have HN3 : Hid (sb = false → ∀ j, j < i + 1 → (bs.getD j ⟨[], v00⟩).nm ≠ ha) := fun h => HN2.out h he
          clear HM HN2 he
          go_wp2
          go_quiet (fail)
          go_wp2
          first
            | (refine ⟨⟨i + 1, sb, by simp, rfl, by omega, below_dn HB.out _, HN3⟩, ?_⟩; simp [intOf]; omega)
            | (go_roundw; (case rel => exact ⟨i + 1, sb, by simp, rfl, by omega, below_dn HB.out _, HN3.out⟩); (case measure => simp [intOf]; omega))
      · have hiz : ¬ (i : Int) < bs.length := by omega
        have HBc : Hid (Below W3.heap.size W3 wr) := HB
        cases sb with
        | true =>
          go_wp2_with (go_at_call 8; refine (HA.out _ HW.out).mono ?_; rintro e wz ⟨rfl, bz⟩; have HBz : Hid (Below w.heap.size w wz) := bt HW.out bz; clear bz)
          all_goals (go_ret; exact ⟨rfl, HBz.out⟩)
        | false =>
          have hx : x1 = x0 := HGN.out fun b hb => by
            obtain ⟨j, hj, rfl⟩ := List.mem_iff_getElem.1 hb
            have := HN.out rfl j (by omega)
            rwa [List.getD_eq_getElem?_getD, List.getElem?_eq_getElem hj] at this
          subst hx
          go_wp2_with (go_at_call 8; refine (HA.out _ HW.out).mono ?_; rintro e wz ⟨rfl, bz⟩; have HBz : Hid (Below w.heap.size w wz) := bt HW.out bz; clear bz)
          all_goals (go_ret; exact ⟨rfl, HBz.out⟩)
theorem walk (v0 : Value) (x0 : List ClassD) (cs1 : List Value) (x1 : FactD) (cs2 : List Value) (x2 : HowD) (w : World) (hV : Vars w) (h5 : 5 ≤ w.heap.size) (w0 : Row 2 (ReK fun _ _ => True) w (fun _ => True) v0 x0 ∧ ∀ y ∈ x0, ClassD.Ok y) (w1 : ReF w cs1 x1 ∧ x1.Ok) (w2 : ReH w cs2 x2 ∧ x2.Ok) : Calls Tryd.prog 5 #[v0, .agg cs1.toArray, .agg cs2.toArray] w fun e w' => e = .returned (.bool true) ∧ Below w.heap.size w w' := by
  obtain ⟨va, e1, h1⟩ := w1.1
  obtain ⟨a0, c0, rfl⟩ := h1.shape
  obtain ⟨vb, e2, h2⟩ := w2.1
  obtain ⟨s0, sc, rfl⟩ := h2.shape
  rw [List.length_map] at *
  subst e1; subst e2
  exact core v0 x0 x1 a0 s0 c0 sc x2.t x2.sets x2.a w hV w0.1 h1 h2 w1.2 w2.2.2.1 w2.2.2.2
set_option maxRecDepth 100000 in
theorem lifted (os : Os) (started : os.Started) (H : Type) (enc : TypeId × Value → H) :
    ReturnsInHanded {} Tryd.checked os 5 .any (fun w args => (Rows.classSetsSpec.pre enc Tryd.prog Tryd.f5 Rows.classSetsRow.domain false w args ∧ laidMet Tryd.prog laids w) ∧ sizedMet enc Tryd.prog Tryd.f5 (OpenSpec.ofChange Rows.classSetsSpec) false w args)
      (Rows.classSetsSpec.post enc Tryd.prog Tryd.f5 false true false false) := by
  refine returnsInHanded_of_change_and (C := Tryd.checked) (X := fun w _ => laidMet Tryd.prog laids w) (fun _ _ _ hh h => h.of_heap hh) own started (by kernel_rfl) Tryd.func5
    (ChangeSpec.witness_at (enc := enc) (C := Tryd.checked) (os := os) (X := fun w _ => laidMet Tryd.prog laids w) false (laidWorld os) #[.slice none 0 0, .agg #[.int .i64 0, .string ByteArray.empty, .slice none 0 0], .agg #[.int .i64 0, .slice none 0 0, .string ByteArray.empty]] 8 rfl (by kernel_rfl) (by kernel_rfl) (by kernel_rfl) (by kernel_rfl) (by kernel_rfl) (laidWorld_met os _)) ?_
  intro W base args ds gs before hval0 hW _ hsz0 hL _
  have hval : ∀ (j : Nat) t v, Tryd.f5.params[j]? = some t → args[j]? = some v → Value.okWide Tryd.prog W .any base t v := hval0
  have hW' := hW
  obtain ⟨p, q, hA0, hV, rfl, hfz, hnd⟩ := hW
  have hA : DataW.TrodAll enc Tryd.prog W 0 (fun _ => true) true Tryd.f5.params.toList args.toList ds p := hA0
  rw [Tryd.params5] at hA hval
  have hVars := vars_of hL
  have hFive := five_of hL
  obtain ⟨v0, vs0, d'0, ds0, q0, r'0, hargs, rfl, rfl, h0, r0⟩ := trodAll_cons hA
  obtain ⟨v1, vs1, d'1, ds1, q1, r'1, rfl, rfl, rfl, h1, r1⟩ := trodAll_cons r0
  obtain ⟨v2, vs2, d'2, ds2, q2, r'2, rfl, rfl, rfl, h2, r2⟩ := trodAll_cons r1
  obtain ⟨rfl, rfl, rfl⟩ := trodAll_nil r2
  obtain rfl : args = #[v0, v1, v2] := by cases args; simp_all
  obtain ⟨rfl, rfl⟩ := trodVars_none hV
  have k0' := h0
  have lt0 : ∀ x ∈ q0, x.block < W.heap.size := by obtain ⟨m, hm⟩ := k0'; exact DataW.trod_lt m _ _ _ hm
  obtain ⟨x0, w0⟩ := arg_cls (hval 0 22 v0 rfl rfl) h0
  have k1' := h1
  have lt1 : ∀ x ∈ q1, x.block < W.heap.size := by obtain ⟨m, hm⟩ := k1'; exact DataW.trod_lt m _ _ _ hm
  obtain ⟨cs1, x1, rfl, w1⟩ := arg_fact (hval 1 25 v1 rfl rfl) h1
  have k2' := h2
  have lt2 : ∀ x ∈ q2, x.block < W.heap.size := by obtain ⟨m, hm⟩ := k2'; exact DataW.trod_lt m _ _ _ hm
  obtain ⟨cs2, x2, rfl, w2⟩ := arg_how (hval 2 28 v2 rfl rfl) h2
  clear hA0 hval0
  refine (walk v0 x0 cs1 x1 cs2 x2 W hVars hFive w0 w1 w2).mono fun e W' ⟨he, bel⟩ => ?_
  subst he
  exact ⟨_, rfl, _, _, _, [], _, [], hW', trodAll_mk1 (shut_bool Tryd.underlying4 _), (trodAll_cons_mk (Below.trod laidOut (by kernel_rfl) (of_decide_eq_true (by kernel_rfl)) k0' bel lt0) (trodAll_cons_mk (Below.trod laidOut (by kernel_rfl) (of_decide_eq_true (by kernel_rfl)) k1' bel lt1) (trodAll_cons_mk (Below.trod laidOut (by kernel_rfl) (of_decide_eq_true (by kernel_rfl)) k2' bel lt2) trodAll_mk0))), rfl, bel.frame _, fun h => by cases h⟩

theorem over : Rows.classSetsRow.holds Tryd.pinned (OpenSpec.ofChange Rows.classSetsSpec) :=
  OpenClaim.holds_of_wide 5 Tryd.f5 rfl rfl rfl rfl rfl rfl rfl ⟨rfl, rfl, rfl, rfl, rfl⟩ rfl rfl rfl rfl rfl (by kernel_rfl) Tryd.func5 (by kernel_rfl)
    (of_decide_eq_true (by kernel_rfl)) (by unfold Func.isWrapper; first | (rw [if_pos (by decide +kernel)]; kernel_rfl) | (rw [if_neg (by decide +kernel)]; exact ⟨rfl, rfl⟩))
    (fun os started H enc _ => lifted os started H enc)
theorem stand (j : Nat) (t : TypeId) (ht : Tryd.f5.params[j]? = some t) : Tryd.prog.wantsStandIn t = false := by
  rw [Tryd.params5] at ht
  rcases j with _ | j
  · obtain rfl : 22 = t := by simpa using ht
    kernel_rfl
  rcases j with _ | j
  · obtain rfl : 25 = t := by simpa using ht
    kernel_rfl
  rcases j with _ | j
  · obtain rfl : 28 = t := by simpa using ht
    kernel_rfl
  simp at ht
end Go.Proofs.YtbbjhiijialfoaaDoor.classSets

namespace Go.Proofs.YtbbjhiijialfoaaDoor
theorem classSets_holds : Rows.ClassSetsCardSaid :=
  Claim7.holds_tied_plain_at .later [] [.data, .data, .data, .data, .pinned] true (true, "bb77afbdca64eea0ee0f265763a889a12c4ed3f89f30adfa7d91f8a4aa24a3e8") false
    classSets.over (fun _ h => by cases h) (by kernel_rfl) (fun _ h => by cases h) classSets_row_tie rfl ⟨rfl, rfl⟩ (by kernel_rfl) rfl
    (fun f fn hf hfn => by
      obtain rfl : f = 5 := Option.some.inj ((show Tryd.prog.funcNamed Rows.classSetsRow.func = some 5 by kernel_rfl).symm.trans hf) |>.symm
      obtain rfl : fn = Tryd.f5 := (Option.some.inj (Tryd.func5.symm.trans hfn)).symm
      exact ⟨by kernel_rfl, classSets.stand⟩)
    (by kernel_rfl)
#print axioms classSets_holds
end Go.Proofs.YtbbjhiijialfoaaDoor
