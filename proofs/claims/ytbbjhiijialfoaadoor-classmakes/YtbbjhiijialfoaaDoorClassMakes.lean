/- For all classes, any fact and any changes the call ClassMakes of the statements returns true and its arguments read as they did: no condition but that the library's listed variables lie as the program's text lays them. -/
import Derived.Test.YtbbjhiijialfoaaDoorRows
import Derived.Test.YtbbjhiijialfoaaDoorCards
import Derived.Test.YtbbjhiijialfoaaDoorTie
import Derived.Test.YtbbjhiijialfoaaDoorArg
import Derived.Test.YtbbjhiijialfoaaDoorRn
import Derived.Test.YtbbjhiijialfoaaDoorAw
import Derived.Test.YtbbjhiijialfoaaDoorOpn
import Derived.SevenTiedAt
import Derived.SizedLaws
import Derived.ChangeSame
import Derived.ChangeVars
import Derived.ChangeMaps5
import Derived.JoinedOf
import Derived.JoinedAt
import Derived.RowKit3
import Derived.LaidLaws
import Derived.WalkKit
import Derived.ProofKit
import Derived.OpenShut
import Derived.ShutString
import Derived.ChangeOld
import Derived.Below
import Derived.Test.YtbbjhiijialfoaaDoorLi
import Derived.Test.YtbbjhiijialfoaaDoorCb
import Derived.Test.YtbbjhiijialfoaaDoorCx
import Derived.Test.YtbbjhiijialfoaaDoorCw
namespace Go.Proofs.YtbbjhiijialfoaaDoor.classMakes
open Go.ChangeShapes Go.WideShapes Go.ChangeAt Go.RowKit
set_option linter.unusedVariables false
set_option linter.unusedSimpArgs false
set_option maxRecDepth 20000

def resF : Except Int FactD → FactD
  | .error _ => ⟨0, [], []⟩
  | .ok g => g
def resE : Except Int FactD → Int
  | .error e => e
  | .ok _ => 0
theorem WP.is {w : World} {r : Except Int FactD} {e : Ending} {w' : World} (h : WP w r e w') : ∃ z zc, e = .returned (.tuple #[.agg #[.int .i64 (resF r).t, .string (st (resF r).c), .slice z (resF r).vs.length zc], .int .i64 (resE r)]) ∧ Below w.heap.size w w' ∧ OwnV w' w.heap.size (.slice z (resF r).vs.length zc) (resF r).vs := by
  obtain ⟨hb, hh⟩ := h
  cases r with
  | error er => exact ⟨none, 0, hh, hb, OwnN.nil _ _ _ _⟩
  | ok g =>
    obtain ⟨v, rfl, ho⟩ := hh
    obtain ⟨z, zc, rfl⟩ := ho.shape
    rw [List.length_map]
    exact ⟨z, zc, rfl, hb, lenV ho⟩
set_option maxHeartbeats 16000000 in
theorem core (v : Value) (cls : List ClassD) (f : FactD) (a0 s0 : Option Addr) (c0 sc : Nat) (ht : Int) (bs : List BoundD) (ha : Str) (w : World) (hV : Vars w) (hc : Row 2 (ReK fun _ _ => True) w (fun _ => True) v cls) (hf : SlW 3 w (fun _ => True) (.slice a0 f.vs.length c0) (f.vs.map clV)) (hs : SlW 4 w (fun _ => True) (.slice s0 bs.length sc) (bs.map clB)) (hfo : f.Ok) (hso : ∀ y ∈ bs, y.Ok) :
    Calls Tryd.prog 3 #[v, .agg #[.int .i64 f.t, .string (st f.c), .slice a0 f.vs.length c0], .agg #[.int .i64 ht, .slice s0 bs.length sc, .string (st ha)]] w fun e w' => e = .returned (.bool true) ∧ Below w.heap.size w w' := by
  have HA : Hid (∀ W, Below w.heap.size w W → Calls Tryd.prog 8 #[] W fun e w' => e = .returned (.bool true) ∧ Below W.heap.size W w') := fun W hb => awake_any W (hV.below hb)
  have C7 : Hid (∀ W, Below w.heap.size w W → Calls Tryd.prog 7 #[v, .agg #[.int .i64 f.t, .string (st f.c), .slice a0 f.vs.length c0], .slice s0 bs.length sc] W (SomeL (lightL cls f bs) W)) := fun W hb => light_any v _ _ cls f bs W (rowK_keep hc hb) (hf.bl hb) (hs.bl hb)
  have HF : Hid (SlW 3 w (fun _ => True) (.slice a0 f.vs.length c0) (f.vs.map clV)) := hf
  have HS : Hid (SlW 4 w (fun _ => True) (.slice s0 bs.length sc) (bs.map clB)) := hs
  have HC : Hid (Row 2 (ReK fun _ _ => True) w (fun _ => True) v cls) := hc
  have HV : Hid (Vars w) := hV
  have HFO : Hid (f.Ok ∧ ∀ y ∈ bs, y.Ok) := ⟨hfo, hso⟩
  obtain ⟨W0, hW0⟩ : ∃ W0, W0 = (w.alloc (.cells #[.int .i64 f.t, .string (st f.c), .slice a0 f.vs.length c0] 25)).alloc (.cells #[.int .i64 ht, .slice s0 bs.length sc, .string (st ha)] 28) := ⟨_, rfl⟩
  have HB0 : Hid (Below w.heap.size w W0) := by rw [hW0]; exact bt (bxn _ _) (bxn _ _)
  have SC : Hid (∀ W, Below W0.heap.size W0 W → W.cell? ⟨w.heap.size, 0, none⟩ = some (.int .i64 f.t) ∧ W.cell? ⟨w.heap.size, 1, none⟩ = some (.string (st f.c)) ∧ W.cell? ⟨w.heap.size, 2, none⟩ = some (.slice a0 f.vs.length c0) ∧ W.cell? ⟨w.heap.size + 1, 0, none⟩ = some (.int .i64 ht) ∧ W.cell? ⟨w.heap.size + 1, 1, none⟩ = some (.slice s0 bs.length sc) ∧ W.cell? ⟨w.heap.size + 1, 2, none⟩ = some (.string (st ha))) := fun W hW => by
    subst hW0
    exact ⟨(hW.cell (p := ⟨w.heap.size, 0, none⟩) (by simp; omega)).trans (by go_simp), (hW.cell (p := ⟨w.heap.size, 1, none⟩) (by simp; omega)).trans (by go_simp), (hW.cell (p := ⟨w.heap.size, 2, none⟩) (by simp; omega)).trans (by go_simp), (hW.cell (p := ⟨w.heap.size + 1, 0, none⟩) (by simp)).trans (by go_simp), (hW.cell (p := ⟨w.heap.size + 1, 1, none⟩) (by simp)).trans (by go_simp), (hW.cell (p := ⟨w.heap.size + 1, 2, none⟩) (by simp)).trans (by go_simp)⟩
  have HLo : Hid (∀ W, Below W0.heap.size W0 W → Below w.heap.size w W) := fun W hW => bt HB0.out hW
  have HBc : Hid (Below W0.heap.size W0 W0) := Below.refl _ _
  obtain ⟨p0, p1, p2, h0, h1, h2⟩ := SC.out W0 HBc.out
  clear hV hc hf hs hfo hso
  go_enter Tryd.func3, Tryd.ntmps3
  go_wp2_with fail
  rw [← hW0]
  clear hW0
  go_wp2_with (first
    | (go_at_call 7; refine (C7.out _ (HLo.out _ HBc.out)).mono ?_; rintro e wa ⟨z1, rfl, hl1, hb1⟩; have HL1 : Hid (z1 = true → lightL cls f bs) := hl1; have HBc : Hid (Below W0.heap.size W0 wa) := bt HBc.out hb1; obtain ⟨p0, p1, p2, h0, h1, h2⟩ := SC.out wa HBc.out; clear hl1 hb1)
    | (go_at_call 8; refine (HA.out _ (HLo.out _ HBc.out)).mono ?_; rintro e wz ⟨rfl, bz⟩; have HBz : Hid (Below W0.heap.size W0 wz) := bt HBc.out bz; clear bz))
  all_goals try (go_ret; exact ⟨rfl, HLo.out _ HBz.out⟩)
  obtain rfl : z1 = true := by first | assumption | simp_all
  try simp only [Bool.not_true]
  have HLF : Hid (lightL cls f bs) := HL1.out rfl
  obtain ⟨W1, hW1⟩ : ∃ W1, W1 = wa := ⟨_, rfl⟩
  subst hW1
  have HB1 : Hid (Below W0.heap.size W0 W1) := HBc
  have HLN : Hid (f.vs.length ≤ 20) := HLF.out.2.1.1
  have HL2 : Hid (∀ W, Below W1.heap.size W1 W → Below w.heap.size w W) := fun W hW => HLo.out W (bt HB1.out hW)
  have SL : Hid (∀ W, Below W1.heap.size W1 W → W.cell? ⟨w.heap.size, 0, none⟩ = some (.int .i64 f.t) ∧ W.cell? ⟨w.heap.size, 1, none⟩ = some (.string (st f.c)) ∧ W.cell? ⟨w.heap.size, 2, none⟩ = some (.slice a0 f.vs.length c0)) := fun W hW => by
    have h := SC.out W (bt HB1.out hW); exact ⟨h.1, h.2.1, h.2.2.1⟩
  have SC1 : Hid (∀ W, Below W1.heap.size W1 W → W.cell? ⟨w.heap.size, 0, none⟩ = some (.int .i64 f.t) ∧ W.cell? ⟨w.heap.size, 1, none⟩ = some (.string (st f.c)) ∧ W.cell? ⟨w.heap.size, 2, none⟩ = some (.slice a0 f.vs.length c0) ∧ W.cell? ⟨w.heap.size + 1, 0, none⟩ = some (.int .i64 ht) ∧ W.cell? ⟨w.heap.size + 1, 1, none⟩ = some (.slice s0 bs.length sc) ∧ W.cell? ⟨w.heap.size + 1, 2, none⟩ = some (.string (st ha))) := fun W hW => SC.out W (bt HB1.out hW)
  have SFR : Hid (∀ W, Below W1.heap.size W1 W → SlW 3 W (fun _ => True) (.slice a0 f.vs.length c0) (f.vs.map clV)) := fun W hW => HF.out.bl (HL2.out W hW)
  clear HL1 C7 HBc SC
  go_cut [7] (fun p wx => ∃ (g7 : Nat) (ax : Option Addr) (cx : Nat), p = .pointer (some ⟨g7, 0, none⟩) ∧ Hid (BoxF wx g7 (.int .i64 f.t) (.string (st f.c)) (.slice ax f.vs.length cx)) ∧ Hid (SlW 3 wx (fun _ => True) (.slice ax f.vs.length cx) (f.vs.map clV)) ∧ Hid (Below W1.heap.size W1 wx))
  case first =>
    go_region_held3 (fun W => W.cell? ⟨w.heap.size, 0, none⟩ = some (.int .i64 f.t) ∧ W.cell? ⟨w.heap.size, 1, none⟩ = some (.string (st f.c)) ∧ W.cell? ⟨w.heap.size, 2, none⟩ = some (.slice a0 f.vs.length c0)) (first | (refine SL.out _ ?_; first | exact (Below.refl _ _).drew | exact bel1 (Nat.le_refl _) _ | exact bel2 (Nat.le_refl _) _ _ | exact (bel1 (Nat.le_refl _) _).trans b5 | exact (bel2 (Nat.le_refl _) _ _).trans b5 | exact ((bel1 (Nat.le_refl _) _).trans b5).alloc (Nat.le_trans (bel1 (Nat.le_refl _) _).size b5.size) _ | exact setThree_below ((bel2 (Nat.le_refl _) _ _).trans b5) (Nat.le_refl _) | exact setThree_below ((bel2 (Nat.le_refl _) _ _).trans b5) (Nat.le_succ _))) (first | (refine step_app_n Tryd.underlying23 info42 rfl (by decide) (by decide) (by rfl) _ _ (by rfl) W1.heap.size (.slice (some ⟨W1.heap.size + 1, 0, none⟩) 0 0) [] (f.vs.map clV) (by rfl) (OwnN.fresh1 (Nat.le_refl _) _) (.slice a0 f.vs.length c0) (by rfl) (SFR.out _ (bel2 (Nat.le_refl _) _ _)) clV_len clV_one (by have := HLN.out; simp; omega) (by simp <;> omega) ?_; intro v5 w5 o5 g5 b5; obtain ⟨av, cv, rfl⟩ := o5.shape; have O5 : Hid (OwnV w5 W1.heap.size (.slice av (([] : List (List Value)) ++ f.vs.map clV).length cv) f.vs) := o5; clear o5; have HQ : Hid (w5.heap[W1.heap.size]? = some (.cells #[.int .i64 0, .string ⟨#[]⟩, .slice none 0 0] 25 (0, 0))) := (g5.block _ (by simp <;> omega) (by simp [Value.ownBlock])).trans (boxA W1 _ _); obtain ⟨q0, q1, q2, z0, z1, z2⟩ := box3 HQ.out) | (refine step_app_n Tryd.underlying23 info42 rfl (by decide) (by decide) (by rfl) _ _ (by rfl) W1.heap.size (.slice (some ⟨W1.heap.size, 0, none⟩) 0 0) [] (f.vs.map clV) (by rfl) ((OwnN.fresh 42 3 (Nat.le_refl _)).below (bxn _ _).drew) (.slice a0 f.vs.length c0) (by rfl) (SFR.out _ (bel2 (Nat.le_refl _) _ _)) clV_len clV_one (by have := HLN.out; simp; omega) (by simp <;> omega) ?_; intro v5 w5 o5 g5 b5; obtain ⟨av, cv, rfl⟩ := o5.shape; have O5 : Hid (OwnV w5 W1.heap.size (.slice av (([] : List (List Value)) ++ f.vs.map clV).length cv) f.vs) := o5; clear o5; have HQ : Hid (w5.heap[W1.heap.size + 1]? = some (.cells #[.int .i64 0, .string ⟨#[]⟩, .slice none 0 0] 25 (0, 0))) := (g5.block _ (by simp <;> omega) (by simp [Value.ownBlock])).trans (boxB W1 _ _); obtain ⟨q0, q1, q2, z0, z1, z2⟩ := box3 HQ.out) | (refine step_app_n Tryd.underlying23 info42 rfl (by decide) (by decide) (by rfl) _ _ (by rfl) W1.heap.size (.slice (some ⟨W1.heap.size, 0, none⟩) 0 0) [] (f.vs.map clV) (by rfl) ((OwnN.fresh 42 3 (Nat.le_refl _)).below (Below.refl _ _).drew) (.slice a0 f.vs.length c0) (by rfl) (SFR.out _ (bel1 (Nat.le_refl _) _)) clV_len clV_one (by have := HLN.out; simp; omega) (by simp <;> omega) ?_; intro v5 w5 o5 g5 b5; obtain ⟨av, cv, rfl⟩ := o5.shape; have O5 : Hid (OwnV w5 W1.heap.size (.slice av (([] : List (List Value)) ++ f.vs.map clV).length cv) f.vs) := o5; clear o5))
    all_goals (
      go_wp2_with fail
      go_meet
      case rel =>
        have O6 : OwnV w5 W1.heap.size (.slice av f.vs.length cv) f.vs := by have := O5.out; simpa using this
        first
          | exact ⟨w5.heap.size, av, cv, rfl, heap_alloc_new w5 _, SlW.bl (O6.sl.imp fun _ _ _ => trivial) (bxn _ _), ((bel1 (Nat.le_refl _) _).trans b5).alloc (Nat.le_trans (bel1 (Nat.le_refl _) _).size b5.size) _⟩
          | exact ⟨_, av, cv, rfl, set3_heap HQ.out _ _ _, (O6.other HQ.out (by decide) 0 _ _ _).sl.imp (fun _ _ _ => trivial), setThree_below ((bel2 (Nat.le_refl _) _ _).trans b5) (Nat.le_refl _)⟩
          | exact ⟨_, av, cv, rfl, set3_heap HQ.out _ _ _, (O6.other HQ.out (by decide) 0 _ _ _).sl.imp (fun _ _ _ => trivial), setThree_below ((bel2 (Nat.le_refl _) _ _).trans b5) (Nat.le_succ _)⟩)
  case rest =>
    obtain ⟨g7, ax, cx, rfl, HX7, HR7, HBx⟩ := hcut
    obtain ⟨W2, hW2⟩ : ∃ W2, W2 = wc := ⟨_, rfl⟩
    subst hW2
    have HLo2 : Hid (∀ W, Below W2.heap.size W2 W → Below w.heap.size w W) := fun W hW => HL2.out W (bt HBx.out hW)
    have SC2 : Hid (∀ W, Below W2.heap.size W2 W → W.cell? ⟨w.heap.size, 0, none⟩ = some (.int .i64 f.t) ∧ W.cell? ⟨w.heap.size, 1, none⟩ = some (.string (st f.c)) ∧ W.cell? ⟨w.heap.size, 2, none⟩ = some (.slice a0 f.vs.length c0) ∧ W.cell? ⟨w.heap.size + 1, 0, none⟩ = some (.int .i64 ht) ∧ W.cell? ⟨w.heap.size + 1, 1, none⟩ = some (.slice s0 bs.length sc) ∧ W.cell? ⟨w.heap.size + 1, 2, none⟩ = some (.string (st ha)) ∧ W.cell? ⟨g7, 0, none⟩ = some (.int .i64 f.t) ∧ W.cell? ⟨g7, 1, none⟩ = some (.string (st f.c)) ∧ W.cell? ⟨g7, 2, none⟩ = some (.slice ax f.vs.length cx)) := fun W hW => by
      obtain ⟨p0, p1, p2, h0, h1, h2⟩ := SC1.out W (bt HBx.out hW)
      obtain ⟨x0, x1, x2, -⟩ := box3 (HX7.out.below hW)
      exact ⟨p0, p1, p2, h0, h1, h2, x0, x1, x2⟩
    clear SL SC1 SFR
    have hcN : ∀ y ∈ cls, y.attrs.length ≤ 100000 := fun y hy => Nat.le_trans (HLF.out.2.2.2.1 y hy).2.1 (by decide)
    have hfV : ∀ y ∈ f.vs, fV y := fun y hy => fV_of ((HFO.out.1.2.2 y hy).1) (HLF.out.2.1.2.2 y hy)
    have hbV : ∀ y ∈ bs, fV y.x := fun y hy => fV_of ((HFO.out.2 y hy).2.1) (HLF.out.2.2.2.2 y hy).2
    obtain ⟨r1, hr1⟩ : ∃ r1, r1 = makeR cls ht f.c bs := ⟨_, rfl⟩
    obtain ⟨r2, hr2⟩ : ∃ r2, r2 = withR cls f ht bs := ⟨_, rfl⟩
    have C9 : Hid (∀ W, Below W2.heap.size W2 W → Calls Tryd.prog 9 #[v, .int .i64 ht, .string (st f.c), .slice s0 bs.length sc] W fun e w' => ∃ z zc, e = .returned (.tuple #[.agg #[.int .i64 (resF r1).t, .string (st (resF r1).c), .slice z (resF r1).vs.length zc], .int .i64 (resE r1)]) ∧ Below W.heap.size W w' ∧ OwnV w' W.heap.size (.slice z (resF r1).vs.length zc) (resF r1).vs) := fun W hW => by
      rw [hr1]; exact (make_any v _ cls ht f.c bs W (rowK_keep HC.out (HLo2.out W hW)) hcN (HV.out.below (HLo2.out W hW)) (HS.out.bl (HLo2.out W hW)) hbV).mono fun e w' h => WP.is h
    have C10 : Hid (∀ W, Below W2.heap.size W2 W → Calls Tryd.prog 10 #[v, .int .i64 ht, .string (st f.c), .slice s0 bs.length sc] W fun e w' => ∃ z zc, e = .returned (.tuple #[.agg #[.int .i64 (resF r1).t, .string (st (resF r1).c), .slice z (resF r1).vs.length zc], .int .i64 (resE r1)]) ∧ Below W.heap.size W w' ∧ OwnV w' W.heap.size (.slice z (resF r1).vs.length zc) (resF r1).vs) := fun W hW => by
      rw [hr1]; exact (rmake_any v _ cls ht f.c bs W (rowK_keep HC.out (HLo2.out W hW)) hcN (HS.out.bl (HLo2.out W hW)) hbV).mono fun e w' h => WP.is h
    have C11 : Hid (∀ W, Below W2.heap.size W2 W → Calls Tryd.prog 11 #[v, .agg #[.int .i64 f.t, .string (st f.c), .slice ax f.vs.length cx], .int .i64 ht, .slice s0 bs.length sc] W fun e w' => ∃ z zc, e = .returned (.tuple #[.agg #[.int .i64 (resF r2).t, .string (st (resF r2).c), .slice z (resF r2).vs.length zc], .int .i64 (resE r2)]) ∧ Below W.heap.size W w' ∧ OwnV w' W.heap.size (.slice z (resF r2).vs.length zc) (resF r2).vs) := fun W hW => by
      rw [hr2]; exact (with_any v _ _ cls f ht bs W (rowK_keep HC.out (HLo2.out W hW)) hcN (SlW.bl HR7.out hW) hfV (HV.out.below (HLo2.out W hW)) (HS.out.bl (HLo2.out W hW)) hbV (Nat.le_trans HLN.out (by decide))).mono fun e w' h => WP.is h
    have C12 : Hid (∀ W, Below W2.heap.size W2 W → Calls Tryd.prog 12 #[v, .agg #[.int .i64 f.t, .string (st f.c), .slice a0 f.vs.length c0], .int .i64 ht, .slice s0 bs.length sc] W fun e w' => ∃ z zc, e = .returned (.tuple #[.agg #[.int .i64 (resF r2).t, .string (st (resF r2).c), .slice z (resF r2).vs.length zc], .int .i64 (resE r2)]) ∧ Below W.heap.size W w' ∧ OwnV w' W.heap.size (.slice z (resF r2).vs.length zc) (resF r2).vs) := fun W hW => by
      rw [hr2]; exact (rwith_any v _ _ cls f ht bs W (rowK_keep HC.out (HLo2.out W hW)) (HF.out.bl (HLo2.out W hW)) hfV (HS.out.bl (HLo2.out W hW)) hbV (Nat.le_trans HLN.out (by decide))).mono fun e w' h => WP.is h
    have C14 : Hid (∀ W, Below W2.heap.size W2 W → Calls Tryd.prog 14 #[v, .agg #[.int .i64 f.t, .string (st f.c), .slice ax f.vs.length cx]] W fun e w' => e = .returned (.int .i64 (factE cls f)) ∧ Below W.heap.size W w') := fun W hW => check_any v _ cls f W (rowK_keep HC.out (HLo2.out W hW)) hcN (SlW.bl HR7.out hW) hfV (HV.out.below (HLo2.out W hW))
    have C15 : Hid (∀ W, Below W2.heap.size W2 W → Calls Tryd.prog 15 #[v, .agg #[.int .i64 f.t, .string (st f.c), .slice a0 f.vs.length c0]] W fun e w' => e = .returned (.int .i64 (factE cls f)) ∧ Below W.heap.size W w') := fun W hW => rcheckF_any v _ cls f W (rowK_keep HC.out (HLo2.out W hW)) (HF.out.bl (HLo2.out W hW)) hfV
    have C13 : Hid (∀ (g : FactD) W z zc y yc, SlW 3 W (fun _ => True) (.slice z g.vs.length zc) (g.vs.map clV) → SlW 3 W (fun _ => True) (.slice y g.vs.length yc) (g.vs.map clV) → Calls Tryd.prog 13 #[.agg #[.int .i64 g.t, .string (st g.c), .slice z g.vs.length zc], .agg #[.int .i64 g.t, .string (st g.c), .slice y g.vs.length yc]] W fun e w' => e = .returned (.bool true) ∧ Below W.heap.size W w') := fun g W z zc y yc h1 h2 => by
      have := rsame_any g g _ _ W h1 h2
      rw [decide_eq_true (rfl : g = g)] at this
      exact this
    have HBc : Hid (Below W2.heap.size W2 W2) := Below.refl _ _
    generalize factE cls f = fe at *
    clear hcN hfV hbV hr1 hr2 HX7 HFO HLF
    obtain ⟨p0, p1, p2, h0, h1, h2, x0, x1, x2⟩ := SC2.out W2 HBc.out
    go_wp2_with (first
      | (go_at_call 9; refine (C9.out _ HBc.out).mono ?_; rintro e w8 ⟨z8, y8, rfl, hbb, hoo⟩; have HBc : Hid (Below W2.heap.size W2 (w8.alloc (.cells #[.int .i64 (resF r1).t, .string (st (resF r1).c), .slice z8 (resF r1).vs.length y8] 25))) := bt (bt HBc.out hbb) (bxn _ _); have X8 : Hid (BoxF (w8.alloc (.cells #[.int .i64 (resF r1).t, .string (st (resF r1).c), .slice z8 (resF r1).vs.length y8] 25)) w8.heap.size (.int .i64 (resF r1).t) (.string (st (resF r1).c)) (.slice z8 (resF r1).vs.length y8)) := heap_alloc_new w8 _; have L8 : Hid (Below W2.heap.size W2 (w8.alloc (.cells #[.int .i64 (resF r1).t, .string (st (resF r1).c), .slice z8 (resF r1).vs.length y8] 25))) := bt hbb (bxn _ _); have O8 : Hid (SlW 3 (w8.alloc (.cells #[.int .i64 (resF r1).t, .string (st (resF r1).c), .slice z8 (resF r1).vs.length y8] 25)) (fun _ => True) (.slice z8 (resF r1).vs.length y8) ((resF r1).vs.map clV)) := SlW.bl (hoo.sl.imp fun _ _ _ => trivial) (bxn _ _); obtain ⟨p0, p1, p2, h0, h1, h2, x0, x1, x2⟩ := SC2.out _ HBc.out; clear hbb hoo)
      | (go_at_call 10; refine (C10.out _ HBc.out).mono ?_; rintro e w10 ⟨z10, y10, rfl, hbb, hoo⟩; have HBc : Hid (Below W2.heap.size W2 (w10.alloc (.cells #[.int .i64 (resF r1).t, .string (st (resF r1).c), .slice z10 (resF r1).vs.length y10] 25))) := bt (bt HBc.out hbb) (bxn _ _); have X10 : Hid (BoxF (w10.alloc (.cells #[.int .i64 (resF r1).t, .string (st (resF r1).c), .slice z10 (resF r1).vs.length y10] 25)) w10.heap.size (.int .i64 (resF r1).t) (.string (st (resF r1).c)) (.slice z10 (resF r1).vs.length y10)) := heap_alloc_new w10 _; have L10 : Hid (Below (w8.alloc (.cells #[.int .i64 (resF r1).t, .string (st (resF r1).c), .slice z8 (resF r1).vs.length y8] 25)).heap.size (w8.alloc (.cells #[.int .i64 (resF r1).t, .string (st (resF r1).c), .slice z8 (resF r1).vs.length y8] 25)) (w10.alloc (.cells #[.int .i64 (resF r1).t, .string (st (resF r1).c), .slice z10 (resF r1).vs.length y10] 25))) := bt hbb (bxn _ _); have O10 : Hid (SlW 3 (w10.alloc (.cells #[.int .i64 (resF r1).t, .string (st (resF r1).c), .slice z10 (resF r1).vs.length y10] 25)) (fun _ => True) (.slice z10 (resF r1).vs.length y10) ((resF r1).vs.map clV)) := SlW.bl (hoo.sl.imp fun _ _ _ => trivial) (bxn _ _); obtain ⟨p0, p1, p2, h0, h1, h2, x0, x1, x2⟩ := SC2.out _ HBc.out; clear hbb hoo)
      | (go_at_call 11; refine (C11.out _ HBc.out).mono ?_; rintro e w12 ⟨z12, y12, rfl, hbb, hoo⟩; have HBc : Hid (Below W2.heap.size W2 (w12.alloc (.cells #[.int .i64 (resF r2).t, .string (st (resF r2).c), .slice z12 (resF r2).vs.length y12] 25))) := bt (bt HBc.out hbb) (bxn _ _); have X12 : Hid (BoxF (w12.alloc (.cells #[.int .i64 (resF r2).t, .string (st (resF r2).c), .slice z12 (resF r2).vs.length y12] 25)) w12.heap.size (.int .i64 (resF r2).t) (.string (st (resF r2).c)) (.slice z12 (resF r2).vs.length y12)) := heap_alloc_new w12 _; have L12 : Hid (Below (w10.alloc (.cells #[.int .i64 (resF r1).t, .string (st (resF r1).c), .slice z10 (resF r1).vs.length y10] 25)).heap.size (w10.alloc (.cells #[.int .i64 (resF r1).t, .string (st (resF r1).c), .slice z10 (resF r1).vs.length y10] 25)) (w12.alloc (.cells #[.int .i64 (resF r2).t, .string (st (resF r2).c), .slice z12 (resF r2).vs.length y12] 25))) := bt hbb (bxn _ _); have O12 : Hid (SlW 3 (w12.alloc (.cells #[.int .i64 (resF r2).t, .string (st (resF r2).c), .slice z12 (resF r2).vs.length y12] 25)) (fun _ => True) (.slice z12 (resF r2).vs.length y12) ((resF r2).vs.map clV)) := SlW.bl (hoo.sl.imp fun _ _ _ => trivial) (bxn _ _); have OW : Hid (OwnV (w12.alloc (.cells #[.int .i64 (resF r2).t, .string (st (resF r2).c), .slice z12 (resF r2).vs.length y12] 25)) (w10.alloc (.cells #[.int .i64 (resF r1).t, .string (st (resF r1).c), .slice z10 (resF r1).vs.length y10] 25)).heap.size (.slice z12 (resF r2).vs.length y12) (resF r2).vs) := hoo.below (bxn _ _); obtain ⟨p0, p1, p2, h0, h1, h2, x0, x1, x2⟩ := SC2.out _ HBc.out; clear hbb hoo)
      | (go_at_call 12; refine (C12.out _ HBc.out).mono ?_; rintro e w14 ⟨z14, y14, rfl, hbb, hoo⟩; have HBc : Hid (Below W2.heap.size W2 (w14.alloc (.cells #[.int .i64 (resF r2).t, .string (st (resF r2).c), .slice z14 (resF r2).vs.length y14] 25))) := bt (bt HBc.out hbb) (bxn _ _); have X14 : Hid (BoxF (w14.alloc (.cells #[.int .i64 (resF r2).t, .string (st (resF r2).c), .slice z14 (resF r2).vs.length y14] 25)) w14.heap.size (.int .i64 (resF r2).t) (.string (st (resF r2).c)) (.slice z14 (resF r2).vs.length y14)) := heap_alloc_new w14 _; have L14 : Hid (Below (w12.alloc (.cells #[.int .i64 (resF r2).t, .string (st (resF r2).c), .slice z12 (resF r2).vs.length y12] 25)).heap.size (w12.alloc (.cells #[.int .i64 (resF r2).t, .string (st (resF r2).c), .slice z12 (resF r2).vs.length y12] 25)) (w14.alloc (.cells #[.int .i64 (resF r2).t, .string (st (resF r2).c), .slice z14 (resF r2).vs.length y14] 25))) := bt hbb (bxn _ _); have O14 : Hid (SlW 3 (w14.alloc (.cells #[.int .i64 (resF r2).t, .string (st (resF r2).c), .slice z14 (resF r2).vs.length y14] 25)) (fun _ => True) (.slice z14 (resF r2).vs.length y14) ((resF r2).vs.map clV)) := SlW.bl (hoo.sl.imp fun _ _ _ => trivial) (bxn _ _); obtain ⟨p0, p1, p2, h0, h1, h2, x0, x1, x2⟩ := SC2.out _ HBc.out; clear hbb hoo))
    obtain ⟨W3, hW3⟩ : ∃ W3, W3 = (w14.alloc (.cells #[.int .i64 (resF r2).t, .string (st (resF r2).c), .slice z14 (resF r2).vs.length y14] 25)) := ⟨_, rfl⟩
    obtain ⟨K, hK⟩ : ∃ K, K = (w10.alloc (.cells #[.int .i64 (resF r1).t, .string (st (resF r1).c), .slice z10 (resF r1).vs.length y10] 25)).heap.size := ⟨_, rfl⟩
    have HB3 : Hid (Below W2.heap.size W2 W3) := by rw [hW3]; exact HBc.out
    have M12 : Hid (Below (w12.alloc (.cells #[.int .i64 (resF r2).t, .string (st (resF r2).c), .slice z12 (resF r2).vs.length y12] 25)).heap.size (w12.alloc (.cells #[.int .i64 (resF r2).t, .string (st (resF r2).c), .slice z12 (resF r2).vs.length y12] 25)) W3) := by rw [hW3]; exact L14.out
    have M10 : Hid (Below (w10.alloc (.cells #[.int .i64 (resF r1).t, .string (st (resF r1).c), .slice z10 (resF r1).vs.length y10] 25)).heap.size (w10.alloc (.cells #[.int .i64 (resF r1).t, .string (st (resF r1).c), .slice z10 (resF r1).vs.length y10] 25)) W3) := bt L12.out M12.out
    have M8 : Hid (Below (w8.alloc (.cells #[.int .i64 (resF r1).t, .string (st (resF r1).c), .slice z8 (resF r1).vs.length y8] 25)).heap.size (w8.alloc (.cells #[.int .i64 (resF r1).t, .string (st (resF r1).c), .slice z8 (resF r1).vs.length y8] 25)) W3) := bt L10.out M10.out
    have Y8 := SlW.bl O8.out M8.out
    have Y10 := SlW.bl O10.out M10.out
    have Y12 := SlW.bl O12.out M12.out
    have Y14 : SlW 3 W3 (fun _ => True) (.slice z14 (resF r2).vs.length y14) ((resF r2).vs.map clV) := by rw [hW3]; exact O14.out
    have OWK : Hid (OwnV W3 K (.slice z12 (resF r2).vs.length y12) (resF r2).vs) := by rw [hK]; exact OW.out.below M12.out
    have HKK : Hid (W2.heap.size ≤ K ∧ K ≤ W3.heap.size) := by rw [hK]; exact ⟨(bt L8.out L10.out).size, M10.out.size⟩
    have BX12 : Hid (BoxF W3 w12.heap.size (.int .i64 (resF r2).t) (.string (st (resF r2).c)) (.slice z12 (resF r2).vs.length y12)) := X12.out.below M12.out
    have SR : Hid (∀ W, Below W3.heap.size W3 W → W.cell? ⟨w8.heap.size, 0, none⟩ = some (.int .i64 (resF r1).t) ∧ W.cell? ⟨w8.heap.size, 1, none⟩ = some (.string (st (resF r1).c)) ∧ W.cell? ⟨w8.heap.size, 2, none⟩ = some (.slice z8 (resF r1).vs.length y8) ∧ W.cell? ⟨w10.heap.size, 0, none⟩ = some (.int .i64 (resF r1).t) ∧ W.cell? ⟨w10.heap.size, 1, none⟩ = some (.string (st (resF r1).c)) ∧ W.cell? ⟨w10.heap.size, 2, none⟩ = some (.slice z10 (resF r1).vs.length y10) ∧ W.cell? ⟨w12.heap.size, 0, none⟩ = some (.int .i64 (resF r2).t) ∧ W.cell? ⟨w12.heap.size, 1, none⟩ = some (.string (st (resF r2).c)) ∧ W.cell? ⟨w12.heap.size, 2, none⟩ = some (.slice z12 (resF r2).vs.length y12) ∧ W.cell? ⟨w14.heap.size, 0, none⟩ = some (.int .i64 (resF r2).t) ∧ W.cell? ⟨w14.heap.size, 1, none⟩ = some (.string (st (resF r2).c)) ∧ W.cell? ⟨w14.heap.size, 2, none⟩ = some (.slice z14 (resF r2).vs.length y14) ∧ W.cell? ⟨g7, 0, none⟩ = some (.int .i64 f.t) ∧ W.cell? ⟨g7, 1, none⟩ = some (.string (st f.c)) ∧ W.cell? ⟨g7, 2, none⟩ = some (.slice ax f.vs.length cx) ∧ W.cell? ⟨w.heap.size, 0, none⟩ = some (.int .i64 f.t) ∧ W.cell? ⟨w.heap.size, 1, none⟩ = some (.string (st f.c)) ∧ W.cell? ⟨w.heap.size, 2, none⟩ = some (.slice a0 f.vs.length c0)) := fun W hW => by
      obtain ⟨l0, l1, l2, -⟩ := box3 ((X8.out.below M8.out).below hW)
      obtain ⟨b0, b1, b2, -⟩ := box3 ((X10.out.below M10.out).below hW)
      obtain ⟨e0, e1, e2, -⟩ := box3 (BX12.out.below hW)
      obtain ⟨d0, d1, d2, -⟩ := box3 ((show BoxF W3 w14.heap.size (.int .i64 (resF r2).t) (.string (st (resF r2).c)) (.slice z14 (resF r2).vs.length y14) by rw [hW3]; exact X14.out).below hW)
      obtain ⟨p0, p1, p2, h0, h1, h2, x0, x1, x2⟩ := SC2.out W (bt HB3.out hW)
      exact ⟨l0, l1, l2, b0, b1, b2, e0, e1, e2, d0, d1, d2, x0, x1, x2, p0, p1, p2⟩
    have HY : Hid (SlW 3 W3 (fun _ => True) (.slice z8 (resF r1).vs.length y8) ((resF r1).vs.map clV) ∧ SlW 3 W3 (fun _ => True) (.slice z10 (resF r1).vs.length y10) ((resF r1).vs.map clV) ∧ SlW 3 W3 (fun _ => True) (.slice z12 (resF r2).vs.length y12) ((resF r2).vs.map clV) ∧ SlW 3 W3 (fun _ => True) (.slice z14 (resF r2).vs.length y14) ((resF r2).vs.map clV)) := ⟨Y8, Y10, Y12, Y14⟩
    rw [← hW3]
    clear Y8 Y10 Y12 Y14 hW3 hK X8 X10 X12 X14 L8 L10 L12 L14 O8 O10 O12 O14 OW M8 M10 M12 HBc C9 C10 C11 C12
    go_cut [16] (fun p wx => p = .bool true ∧ Hid (Below W3.heap.size W3 wx))
    case first =>
      have HBc : Hid (Below W3.heap.size W3 W3.drew) := (Below.refl _ _).drew
      go_region_held3 (fun W => W.cell? ⟨w8.heap.size, 0, none⟩ = some (.int .i64 (resF r1).t) ∧ W.cell? ⟨w8.heap.size, 1, none⟩ = some (.string (st (resF r1).c)) ∧ W.cell? ⟨w8.heap.size, 2, none⟩ = some (.slice z8 (resF r1).vs.length y8) ∧ W.cell? ⟨w10.heap.size, 0, none⟩ = some (.int .i64 (resF r1).t) ∧ W.cell? ⟨w10.heap.size, 1, none⟩ = some (.string (st (resF r1).c)) ∧ W.cell? ⟨w10.heap.size, 2, none⟩ = some (.slice z10 (resF r1).vs.length y10) ∧ W.cell? ⟨w12.heap.size, 0, none⟩ = some (.int .i64 (resF r2).t) ∧ W.cell? ⟨w12.heap.size, 1, none⟩ = some (.string (st (resF r2).c)) ∧ W.cell? ⟨w12.heap.size, 2, none⟩ = some (.slice z12 (resF r2).vs.length y12) ∧ W.cell? ⟨w14.heap.size, 0, none⟩ = some (.int .i64 (resF r2).t) ∧ W.cell? ⟨w14.heap.size, 1, none⟩ = some (.string (st (resF r2).c)) ∧ W.cell? ⟨w14.heap.size, 2, none⟩ = some (.slice z14 (resF r2).vs.length y14) ∧ W.cell? ⟨g7, 0, none⟩ = some (.int .i64 f.t) ∧ W.cell? ⟨g7, 1, none⟩ = some (.string (st f.c)) ∧ W.cell? ⟨g7, 2, none⟩ = some (.slice ax f.vs.length cx) ∧ W.cell? ⟨w.heap.size, 0, none⟩ = some (.int .i64 f.t) ∧ W.cell? ⟨w.heap.size, 1, none⟩ = some (.string (st f.c)) ∧ W.cell? ⟨w.heap.size, 2, none⟩ = some (.slice a0 f.vs.length c0)) (first | with_reducible exact SR.out _ HBc.out) (first
        | (go_at_call_of 13 z8; refine (C13.out (resF r1) _ z8 y8 z10 y10 (HY.out.1.bl HBc.out) (HY.out.2.1.bl HBc.out)).mono ?_; rintro e we ⟨rfl, hbe⟩; have HBc : Hid (Below W3.heap.size W3 we) := bt HBc.out hbe; clear hbe)
        | (go_at_call_of 13 z12; refine (C13.out (resF r2) _ z12 y12 z14 y14 (HY.out.2.2.1.bl HBc.out) (HY.out.2.2.2.bl HBc.out)).mono ?_; rintro e we ⟨rfl, hbe⟩; have HBc : Hid (Below W3.heap.size W3 we) := bt HBc.out hbe; clear hbe)
        | (go_at_call 14; refine (C14.out _ (bt HB3.out HBc.out)).mono ?_; rintro e we ⟨rfl, hbe⟩; have HBc : Hid (Below W3.heap.size W3 we) := bt HBc.out hbe; clear hbe)
        | (go_at_call 15; refine (C15.out _ (bt HB3.out HBc.out)).mono ?_; rintro e we ⟨rfl, hbe⟩; have HBc : Hid (Below W3.heap.size W3 we) := bt HBc.out hbe; clear hbe))
      all_goals (
        go_wp2_with fail
        go_meet
        case rel => exact ⟨rfl, HBc.out⟩)
    case rest =>
      obtain ⟨rfl, HBx⟩ := hcut
      obtain ⟨W4, hW4⟩ : ∃ W4, W4 = wc := ⟨_, rfl⟩
      subst hW4
      have HB4 : Hid (Below W2.heap.size W2 W4) := bt HB3.out HBx.out
      have OW4 : Hid (OwnV W4 K (.slice z12 (resF r2).vs.length y12) (resF r2).vs) := OWK.out.below HBx.out
      have BX4 : Hid (BoxF W4 w12.heap.size (.int .i64 (resF r2).t) (.string (st (resF r2).c)) (.slice z12 (resF r2).vs.length y12)) := BX12.out.below HBx.out
      have HK4 : Hid (W2.heap.size ≤ K ∧ K ≤ W4.heap.size) := ⟨HKK.out.1, Nat.le_trans HKK.out.2 HBx.out.size⟩
      have OW4x : Hid ((resF r2).vs.length = (resF r2).vs.length ∧ OwnV W4 K (.slice z12 (resF r2).vs.length y12) (resF r2).vs) := ⟨rfl, OW4.out⟩
      have hnn : ((resF r2).vs.length : Int) ≤ 9223372036854775807 := by
        obtain ⟨a, cap, e, h1, h2, -⟩ := HY.out.2.2.1
        rw [List.length_map] at h1
        omega
      clear SR HY OWK BX12 HKK HBx C14 C15 HB3
      obtain ⟨n, hn⟩ : ∃ n, n = (resF r2).vs.length := ⟨_, rfl⟩
      have OW5 : Hid ((resF r2).vs.length = n ∧ OwnV W4 K (.slice z12 n y12) (resF r2).vs) := by rw [hn]; exact ⟨rfl, OW4.out⟩
      have BX5 : Hid (BoxF W4 w12.heap.size (.int .i64 (resF r2).t) (.string (st (resF r2).c)) (.slice z12 n y12)) := by rw [hn]; exact BX4.out
      rw [← hn] at hnn
      clear hn OW4x OW4 BX4
      go_wp2_with fail
      go_loopw [17] (fun v wr => ∃ (i : Nat) (xs : List VD), v = .int .i64 i ∧ i ≤ n ∧ Hid (xs.length = n ∧ OwnV wr K (.slice z12 n y12) xs) ∧ Hid (BoxF wr w12.heap.size (.int .i64 (resF r2).t) (.string (st (resF r2).c)) (.slice z12 n y12)) ∧ Hid (Below K W4 wr)) (fun v _ => (n - intOf v).toNat)
      case atStart => exact ⟨0, _, rfl, Nat.zero_le _, OW5, BX5.out, Below.refl _ _⟩
      case round =>
        obtain ⟨i, xs, rfl, hi, HO, HX, HB⟩ := hrel
        obtain ⟨k0, k1, k2, -⟩ := box3 HX.out
        have HBw : Hid (Below W2.heap.size W2 wr) := HB4.out.trans (HB.out.mono HK4.out.1)
        obtain ⟨p0, p1, p2, h0, h1, h2, x0, x1, x2⟩ := SC2.out wr HBw.out
        by_cases hlt : i < n
        · have hiz : (i : Int) < n := by omega
          have hjm : i < (xs.map clV).length := by rw [List.length_map]; have := HO.out.1; omega
          obtain ⟨g, rfl, hg1, hg2, -⟩ := HO.out.2.at (Nat.lt_of_le_of_lt (Nat.zero_le _) hjm)
          obtain ⟨⟨u0, r0'⟩, f0'⟩ := OwnN.cell HO.out.2 hjm 0 (by decide)
          have r0 : wr.cell? ⟨g, i * 3, none⟩ = some u0 := r0'
          have f0 : wr.frozen? ⟨g, i * 3, none⟩ = false := f0'
          obtain ⟨⟨u1, r1⟩, f1⟩ := OwnN.cell HO.out.2 hjm 1 (by decide)
          obtain ⟨⟨u2, r2⟩, f2⟩ := OwnN.cell HO.out.2 hjm 2 (by decide)
          have HGG : Hid (K ≤ g ∧ i < (xs.map clV).length) := ⟨hg1, hjm⟩
          have HNE : Hid (w12.heap.size ≠ g) := by
            obtain ⟨cur, fz, hh⟩ := HO.out.2.blk
            show _ ≠ _
            rintro rfl
            have hx := HX.out
            rw [BoxF, hh] at hx
            have := (Obj.cells.inj (Option.some.inj hx)).2.1
            exact absurd this (by decide)
          clear r0' f0' hg1 hg2 hjm
          go_wp2
          go_roundw
          case rel => exact ⟨i + 1, xs.set i ⟨9, 0, []⟩, by simp, by omega, ⟨by rw [List.length_set]; exact HO.out.1, by have := HO.out.2.set3 HGG.out.2 (.int .u8 9) (.int .i64 0) (.string ⟨#[]⟩); show OwnN _ _ _ _ _ _; rw [List.map_set]; exact this⟩, ((Below.heap_setCell _ ⟨g, i * 3 + 2, none⟩ _ _ HNE.out).trans ((Below.heap_setCell _ ⟨g, i * 3 + 1, none⟩ _ _ HNE.out).trans (Below.heap_setCell wr ⟨g, i * 3, none⟩ _ _ HNE.out))).trans HX.out, setRow_below HB.out HGG.out.1⟩
          case measure => simp [intOf]; omega
        · have hiz : ¬ (i : Int) < n := by omega
          go_wp2_with (first
            | (go_at_call 13; refine (C13.out f _ ax cx a0 c0 (SlW.bl HR7.out HBw.out) (HF.out.bl (HLo2.out _ HBw.out))).mono ?_; rintro e we ⟨rfl, hbe⟩; have HBc : Hid (Below W2.heap.size W2 we) := bt HBw.out hbe; clear hbe)
            | (go_at_call 8; refine (HA.out _ (HLo2.out _ HBc.out)).mono ?_; rintro e wz ⟨rfl, bz⟩; have HBz : Hid (Below W2.heap.size W2 wz) := bt HBc.out bz; clear bz))
          all_goals (go_ret; exact ⟨rfl, HLo2.out _ HBz.out⟩)
theorem walk (v0 : Value) (x0 : List ClassD) (cs1 : List Value) (x1 : FactD) (cs2 : List Value) (x2 : HowD) (w : World) (hV : Vars w) (h5 : 5 ≤ w.heap.size) (w0 : Row 2 (ReK fun _ _ => True) w (fun _ => True) v0 x0 ∧ ∀ y ∈ x0, ClassD.Ok y) (w1 : ReF w cs1 x1 ∧ x1.Ok) (w2 : ReH w cs2 x2 ∧ x2.Ok) : Calls Tryd.prog 3 #[v0, .agg cs1.toArray, .agg cs2.toArray] w fun e w' => e = .returned (.bool true) ∧ Below w.heap.size w w' := by
  obtain ⟨va, e1, h1⟩ := w1.1
  obtain ⟨a0, c0, rfl⟩ := h1.shape
  obtain ⟨vb, e2, h2⟩ := w2.1
  obtain ⟨s0, sc, rfl⟩ := h2.shape
  rw [List.length_map] at *
  subst e1; subst e2
  exact core v0 x0 x1 a0 s0 c0 sc x2.t x2.sets x2.a w hV w0.1 h1 h2 w1.2 w2.2.2.1
set_option maxRecDepth 100000 in
theorem lifted (os : Os) (started : os.Started) (H : Type) (enc : TypeId × Value → H) :
    ReturnsInHanded {} Tryd.checked os 3 .any (fun w args => (Rows.classMakesSpec.pre enc Tryd.prog Tryd.f3 Rows.classMakesRow.domain false w args ∧ laidMet Tryd.prog laids w) ∧ sizedMet enc Tryd.prog Tryd.f3 (OpenSpec.ofChange Rows.classMakesSpec) false w args)
      (Rows.classMakesSpec.post enc Tryd.prog Tryd.f3 false true false false) := by
  refine returnsInHanded_of_change_and (C := Tryd.checked) (X := fun w _ => laidMet Tryd.prog laids w) (fun _ _ _ hh h => h.of_heap hh) own started (by kernel_rfl) Tryd.func3
    (ChangeSpec.witness_at (enc := enc) (C := Tryd.checked) (os := os) (X := fun w _ => laidMet Tryd.prog laids w) false (laidWorld os) #[.slice none 0 0, .agg #[.int .i64 0, .string ByteArray.empty, .slice none 0 0], .agg #[.int .i64 0, .slice none 0 0, .string ByteArray.empty]] 8 rfl (by kernel_rfl) (by kernel_rfl) (by kernel_rfl) (by kernel_rfl) (by kernel_rfl) (laidWorld_met os _)) ?_
  intro W base args ds gs before hval0 hW _ hsz0 hL _
  have hval : ∀ (j : Nat) t v, Tryd.f3.params[j]? = some t → args[j]? = some v → Value.okWide Tryd.prog W .any base t v := hval0
  have hW' := hW
  obtain ⟨p, q, hA0, hV, rfl, hfz, hnd⟩ := hW
  have hA : DataW.TrodAll enc Tryd.prog W 0 (fun _ => true) true Tryd.f3.params.toList args.toList ds p := hA0
  rw [Tryd.params3] at hA hval
  have hVars := vars_of hL
  have hFive := five_of hL
  obtain ⟨v0, vs0, d'0, ds0, q0, r'0, hargs, rfl, rfl, h0, r0⟩ := trodAll_cons hA
  obtain ⟨v1, vs1, d'1, ds1, q1, r'1, rfl, rfl, rfl, h1, r1⟩ := trodAll_cons r0
  obtain ⟨v2, vs2, d'2, ds2, q2, r'2, rfl, rfl, rfl, h2, r2⟩ := trodAll_cons r1
  obtain ⟨rfl, rfl, rfl⟩ := trodAll_nil r2
  obtain rfl : args = #[v0, v1, v2] := by cases args; simp_all
  obtain ⟨rfl, rfl⟩ := trodVars_none hV
  have k0' := h0
  have lt0 : ∀ x ∈ q0, x.block < W.heap.size := by obtain ⟨m, hm⟩ := k0'; exact DataW.trod_lt m _ _ _ hm
  obtain ⟨x0, w0⟩ := arg_cls (hval 0 22 v0 rfl rfl) h0
  have k1' := h1
  have lt1 : ∀ x ∈ q1, x.block < W.heap.size := by obtain ⟨m, hm⟩ := k1'; exact DataW.trod_lt m _ _ _ hm
  obtain ⟨cs1, x1, rfl, w1⟩ := arg_fact (hval 1 25 v1 rfl rfl) h1
  have k2' := h2
  have lt2 : ∀ x ∈ q2, x.block < W.heap.size := by obtain ⟨m, hm⟩ := k2'; exact DataW.trod_lt m _ _ _ hm
  obtain ⟨cs2, x2, rfl, w2⟩ := arg_how (hval 2 28 v2 rfl rfl) h2
  clear hA0 hval0
  refine (walk v0 x0 cs1 x1 cs2 x2 W hVars hFive w0 w1 w2).mono fun e W' ⟨he, bel⟩ => ?_
  subst he
  exact ⟨_, rfl, _, _, _, [], _, [], hW', trodAll_mk1 (shut_bool Tryd.underlying4 _), (trodAll_cons_mk (Below.trod laidOut (by kernel_rfl) (of_decide_eq_true (by kernel_rfl)) k0' bel lt0) (trodAll_cons_mk (Below.trod laidOut (by kernel_rfl) (of_decide_eq_true (by kernel_rfl)) k1' bel lt1) (trodAll_cons_mk (Below.trod laidOut (by kernel_rfl) (of_decide_eq_true (by kernel_rfl)) k2' bel lt2) trodAll_mk0))), rfl, bel.frame _, fun h => by cases h⟩

theorem over : Rows.classMakesRow.holds Tryd.pinned (OpenSpec.ofChange Rows.classMakesSpec) :=
  OpenClaim.holds_of_wide 3 Tryd.f3 rfl rfl rfl rfl rfl rfl rfl ⟨rfl, rfl, rfl, rfl, rfl⟩ rfl rfl rfl rfl rfl (by kernel_rfl) Tryd.func3 (by kernel_rfl)
    (of_decide_eq_true (by kernel_rfl)) (by unfold Func.isWrapper; first | (rw [if_pos (by decide +kernel)]; kernel_rfl) | (rw [if_neg (by decide +kernel)]; exact ⟨rfl, rfl⟩))
    (fun os started H enc _ => lifted os started H enc)
theorem stand (j : Nat) (t : TypeId) (ht : Tryd.f3.params[j]? = some t) : Tryd.prog.wantsStandIn t = false := by
  rw [Tryd.params3] at ht
  rcases j with _ | j
  · obtain rfl : 22 = t := by simpa using ht
    kernel_rfl
  rcases j with _ | j
  · obtain rfl : 25 = t := by simpa using ht
    kernel_rfl
  rcases j with _ | j
  · obtain rfl : 28 = t := by simpa using ht
    kernel_rfl
  simp at ht
end Go.Proofs.YtbbjhiijialfoaaDoor.classMakes

namespace Go.Proofs.YtbbjhiijialfoaaDoor
theorem classMakes_holds : Rows.ClassMakesCardSaid :=
  Claim7.holds_tied_plain_at .later [] [.data, .data, .data, .data, .pinned] true (true, "bb77afbdca64eea0ee0f265763a889a12c4ed3f89f30adfa7d91f8a4aa24a3e8") false
    classMakes.over (fun _ h => by cases h) (by kernel_rfl) (fun _ h => by cases h) classMakes_row_tie rfl ⟨rfl, rfl⟩ (by kernel_rfl) rfl
    (fun f fn hf hfn => by
      obtain rfl : f = 3 := Option.some.inj ((show Tryd.prog.funcNamed Rows.classMakesRow.func = some 3 by kernel_rfl).symm.trans hf) |>.symm
      obtain rfl : fn = Tryd.f3 := (Option.some.inj (Tryd.func3.symm.trans hfn)).symm
      exact ⟨by kernel_rfl, classMakes.stand⟩)
    (by kernel_rfl)
#print axioms classMakes_holds
end Go.Proofs.YtbbjhiijialfoaaDoor
