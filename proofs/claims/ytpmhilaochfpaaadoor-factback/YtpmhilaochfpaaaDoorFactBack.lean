/- For all classes and any fact the call FactBack of the statements returns true and its arguments read as they did: no condition but that the library's listed variables lie as the program's text lays them. -/
import Derived.Test.YtpmhilaochfpaaaDoorV13
import Derived.Test.YtpmhilaochfpaaaDoorV10
import Derived.Test.YtpmhilaochfpaaaDoorV19
import Derived.Test.YtpmhilaochfpaaaDoorV20
import Derived.Test.YtpmhilaochfpaaaDoorV12
import Derived.Test.YtpmhilaochfpaaaDoorRows
import Derived.Test.YtpmhilaochfpaaaDoorCards
import Derived.Test.YtpmhilaochfpaaaDoorTie
import Derived.SevenTiedAt
import Derived.SizedLaws
import Derived.ChangeSame
import Derived.ChangeVars
import Derived.ChangeMaps5
import Derived.JoinedOf
import Derived.JoinedAt
import Derived.RowKit3
import Derived.LaidLaws
import Derived.WalkKit
import Derived.ProofKit
import Derived.OpenShut
import Derived.ShutString
import Derived.ChangeOld
import Derived.Below
import Derived.Deep.RegionHeld3
namespace Go.Proofs.YtpmhilaochfpaaaDoor.factBack
open Go.ChangeShapes Go.WideShapes Go.ChangeAt Go.RowKit
set_option linter.unusedVariables false
set_option linter.unusedSimpArgs false
set_option maxRecDepth 20000

set_option maxHeartbeats 16000000 in
theorem core (v : Value) (cls : List ClassD) (f : FactD) (a0 : Option Addr) (c0 : Nat) (w : World) (hV : Vars w) (hc : Row 2 (ReK fun _ _ => True) w (fun _ => True) v cls) (hf : SlW 3 w (fun _ => True) (.slice a0 f.vs.length c0) (f.vs.map clV)) (hfo : f.Ok) :
    Calls Tryd.prog 5 #[v, .agg #[.int .i64 f.t, .string (st f.c), .slice a0 f.vs.length c0]] w fun e w' => e = .returned (.bool true) ∧ Below w.heap.size w w' := by
  have HA : Hid (∀ W, Below w.heap.size w W → Calls Tryd.prog 6 #[] W fun e w' => e = .returned (.bool true) ∧ Below W.heap.size W w') := fun W hb => awake_any W (hV.below hb)
  have C11 : Hid (∀ W, Below w.heap.size w W → Calls Tryd.prog 11 #[v, .agg #[.int .i64 f.t, .string (st f.c), .slice a0 f.vs.length c0], .slice none 0 0] W (SomeL (lightL cls f []) W)) := fun W hb => light_any v _ _ cls f [] W (rowK_keep hc hb) (hf.bl hb) (show SlW 4 W (fun _ => True) (.slice none 0 0) ([].map clB) from ⟨none, 0, rfl, Nat.le_refl _, by decide, .inl rfl⟩)
  have HF : Hid (SlW 3 w (fun _ => True) (.slice a0 f.vs.length c0) (f.vs.map clV)) := hf
  have HC : Hid (Row 2 (ReK fun _ _ => True) w (fun _ => True) v cls) := hc
  have HV : Hid (Vars w) := hV
  have HFO : Hid f.Ok := hfo
  obtain ⟨W0, hW0⟩ : ∃ W0, W0 = w.alloc (.cells #[.int .i64 f.t, .string (st f.c), .slice a0 f.vs.length c0] 36) := ⟨_, rfl⟩
  have HB0 : Hid (Below w.heap.size w W0) := by rw [hW0]; exact bxn _ _
  have SC : Hid (∀ W, Below W0.heap.size W0 W → W.cell? ⟨w.heap.size, 0, none⟩ = some (.int .i64 f.t) ∧ W.cell? ⟨w.heap.size, 1, none⟩ = some (.string (st f.c)) ∧ W.cell? ⟨w.heap.size, 2, none⟩ = some (.slice a0 f.vs.length c0)) := fun W hW => by
    subst hW0
    exact ⟨(hW.cell (p := ⟨w.heap.size, 0, none⟩) (by simp)).trans (by go_simp), (hW.cell (p := ⟨w.heap.size, 1, none⟩) (by simp)).trans (by go_simp), (hW.cell (p := ⟨w.heap.size, 2, none⟩) (by simp)).trans (by go_simp)⟩
  have HLo : Hid (∀ W, Below W0.heap.size W0 W → Below w.heap.size w W) := fun W hW => bt HB0.out hW
  have HBc : Hid (Below W0.heap.size W0 W0) := Below.refl _ _
  obtain ⟨p0, p1, p2⟩ := SC.out W0 HBc.out
  clear hV hc hf hfo
  go_enter Tryd.func5, Tryd.ntmps5
  go_wp2_with fail
  rw [← hW0]
  clear hW0
  go_wp2_with (first
    | (go_at_call 11; refine (C11.out _ (HLo.out _ HBc.out)).mono ?_; rintro e wa ⟨z1, rfl, hl1, hb1⟩; have HL1 : Hid (z1 = true → lightL cls f []) := hl1; have HBc : Hid (Below W0.heap.size W0 wa) := bt HBc.out hb1; obtain ⟨p0, p1, p2⟩ := SC.out wa HBc.out; clear hl1 hb1)
    | (go_at_call 6; refine (HA.out _ (HLo.out _ HBc.out)).mono ?_; rintro e wz ⟨rfl, bz⟩; have HBz : Hid (Below W0.heap.size W0 wz) := bt HBc.out bz; clear bz))
  all_goals try (go_ret; exact ⟨rfl, HLo.out _ HBz.out⟩)
  all_goals (try obtain rfl : z1 = true := by first | assumption | simp_all)
  all_goals (try simp only [Bool.not_true])
  have HLF : Hid (lightL cls f []) := HL1.out rfl
  have hcN : ∀ y ∈ cls, y.attrs.length ≤ 100 := fun y hy => Nat.le_trans (HLF.out.2.2.2.1 y hy).2.1 (by decide)
  have hcN2 : ∀ y ∈ cls, y.attrs.length ≤ 100000 := fun y hy => Nat.le_trans (hcN y hy) (by decide)
  have hcl : cls.length ≤ 200 := Nat.le_trans HLF.out.1 (by decide)
  have hfl : f.vs.length ≤ 100 := Nat.le_trans HLF.out.2.1.1 (by decide)
  have hfV : ∀ y ∈ f.vs, fV y := fun y hy => fV_of ((HFO.out.2.2 y hy).1) (HLF.out.2.1.2.2 y hy)
  have C12 : Hid (∀ W, Below W0.heap.size W0 W → Calls Tryd.prog 12 #[v, .agg #[.int .i64 f.t, .string (st f.c), .slice a0 f.vs.length c0]] W fun e w' => e = .returned (.tuple #[.string (st (putS cls f)), .int .i64 (putEr cls f)]) ∧ Below W.heap.size W w') := fun W hW => fput_any v _ cls f W (rowK_keep HC.out (HLo.out W hW)) hcN2 hcl (HF.out.bl (HLo.out W hW)) hfl hfV (HV.out.below (HLo.out W hW))
  have C17 : Hid (∀ W, Below W0.heap.size W0 W → Calls Tryd.prog 17 #[v, .agg #[.int .i64 f.t, .string (st f.c), .slice a0 f.vs.length c0]] W fun e w' => e = .returned (.int .i64 (factE cls f)) ∧ Below W.heap.size W w') := fun W hW => check_any v _ cls f W (rowK_keep HC.out (HLo.out W hW)) hcN2 (HF.out.bl (HLo.out W hW)) hfV (HV.out.below (HLo.out W hW))
  clear HL1 C11
  by_cases hpe : putEr cls f ≠ 0
  · obtain ⟨e1, e2⟩ := back_err hpe
    have HE2 : Hid (putEr cls f = factE cls f ∨ putEr cls f = 5) := e2
    have HNE : Hid (putEr cls f ≠ 0) := hpe
    rw [e1] at C12
    have he : (st []).toList.isEmpty = true := by rw [emp, st_list]; rfl
    clear e1 e2 hpe
    generalize putEr cls f = pe at *
    generalize factE cls f = fe at *
    have hne := HNE.out
    clear hcN hcN2 hcl hfl hfV
    by_cases hq : pe = fe
    · subst hq
      go_wp2_with (first
        | (go_at_call 12; refine (C12.out _ HBc.out).mono ?_; rintro e wb ⟨rfl, hbb⟩; have HBc : Hid (Below W0.heap.size W0 wb) := bt HBc.out hbb; obtain ⟨p0, p1, p2⟩ := SC.out wb HBc.out; clear hbb)
        | (go_at_call 17; refine (C17.out _ HBc.out).mono ?_; rintro e wd ⟨rfl, hbb⟩; have HBc : Hid (Below W0.heap.size W0 wd) := bt HBc.out hbb; obtain ⟨p0, p1, p2⟩ := SC.out wd HBc.out; clear hbb)
        | (go_at_call 6; refine (HA.out _ (HLo.out _ HBc.out)).mono ?_; rintro e wz ⟨rfl, bz⟩; have HBz : Hid (Below W0.heap.size W0 wz) := bt HBc.out bz; clear bz))
      all_goals (go_ret; exact ⟨rfl, HLo.out _ HBz.out⟩)
    · have hp5 : pe = 5 := by rcases HE2.out with h | h; exact absurd h hq; exact h
      subst hp5
      go_wp2_with (first
        | (go_at_call 12; refine (C12.out _ HBc.out).mono ?_; rintro e wb ⟨rfl, hbb⟩; have HBc : Hid (Below W0.heap.size W0 wb) := bt HBc.out hbb; obtain ⟨p0, p1, p2⟩ := SC.out wb HBc.out; clear hbb)
        | (go_at_call 17; refine (C17.out _ HBc.out).mono ?_; rintro e wd ⟨rfl, hbb⟩; have HBc : Hid (Below W0.heap.size W0 wd) := bt HBc.out hbb; obtain ⟨p0, p1, p2⟩ := SC.out wd HBc.out; clear hbb)
        | (go_at_call 6; refine (HA.out _ (HLo.out _ HBc.out)).mono ?_; rintro e wz ⟨rfl, bz⟩; have HBz : Hid (Below W0.heap.size W0 wz) := bt HBc.out bz; clear bz))
      all_goals (go_ret; exact ⟨rfl, HLo.out _ HBz.out⟩)
  have hpe := Classical.not_not.1 hpe
  obtain ⟨hne, ⟨ht1, ht2⟩, hg1, hg2, hg3⟩ := back_plain hcl hfV hpe
  have hlen : (putS cls f).length ≤ 160 := by
    obtain ⟨bs, hp, hn, _, _⟩ := put_text hcl hfV hpe
    have := (putF_ok hp).2.2.2
    rw [← hn] at this
    simpa [nb] using this
  obtain ⟨k1, k2⟩ := key_yes ht1 ht2
  obtain ⟨t1, t2⟩ := tag_key ht1 ht2
  have hkl : (keyS f.t).length ≤ 1000000 := by rw [k1, List.length_cons, b8_len, dig_length]; decide
  have C7 : Hid (∀ W, Calls Tryd.prog 7 #[.int .i64 f.t] W fun e w' => e = .returned (.tuple #[.string (st (keyS f.t)), .int .i64 0]) ∧ Below W.heap.size W w') := fun W => by
    have := key_any f.t W; rw [k2] at this; exact this
  have C9 : Hid (∀ W, Calls Tryd.prog 9 #[.string (st (keyS f.t))] W fun e w' => e = .returned (.tuple #[.int .i64 f.t, .int .i64 0]) ∧ Below W.heap.size W w') := fun W => by
    have := tag_any (keyS f.t) W hkl; rw [t1, t2] at this; exact this
  have C14 : Hid (∀ W (s : Str), Below W0.heap.size W0 W → s.length ≤ 100000 → Calls Tryd.prog 14 #[v, .int .i64 f.t, .string (st s)] W (GPf W (getF pvF gvF cls f.t (nb s)))) := fun W s hW hs => fget_any v cls f.t s W (rowK_keep HC.out (HLo.out W hW)) hcN hcl (HV.out.below (HLo.out W hW)) hs
  have CA : Hid (∀ W, Below W0.heap.size W0 W → Calls Tryd.prog 14 #[v, .int .i64 f.t, .string (st (putS cls f))] W fun e w' => Below W.heap.size W w' ∧ ∃ xa xc, e = .returned (.tuple #[.agg #[.int .i64 f.t, .string (st f.c), .slice xa f.vs.length xc], .int .i64 0]) ∧ SlW 3 w' (fun _ => True) (.slice xa f.vs.length xc) (f.vs.map clV)) := fun W hW => (C14.out W _ hW (by omega)).mono fun e w' h => by
    rw [hg1] at h
    obtain ⟨hb, u, rfl, ho⟩ := h
    obtain ⟨ua, uc, rfl⟩ := ho.shape
    have h3 := ho.sl.imp (Q := fun _ => True) fun _ _ _ => trivial
    rw [List.length_map] at h3
    exact ⟨hb, ua, uc, by unfold fB; rw [List.length_map], h3⟩
  have CB : Hid (∀ W, Below W0.heap.size W0 W → Calls Tryd.prog 14 #[v, .int .i64 f.t, .string (st (putS cls f) ++ ⟨#[0]⟩)] W fun e w' => e = .returned (.tuple #[.agg #[.int .i64 0, .string ⟨#[]⟩, .slice none 0 0], .int .i64 4]) ∧ Below W.heap.size W w') := fun W hW => by
    have := C14.out W (putS cls f ++ [0]) hW (by simp; omega)
    rw [hg2] at this
    rw [show st (putS cls f) ++ ⟨#[0]⟩ = st (putS cls f ++ [0]) from st_cat _ [0]]
    exact this.mono fun e w' h => ⟨h.2, h.1⟩
  have hex : (st (putS cls f)).extract 0 ((putS cls f).length - 1) = st ((putS cls f).take ((putS cls f).length - 1)) := by
    unfold st
    have h : ∀ x y : ByteArray, x.data = y.data → x = y := fun x y h => by cases x; cases y; subst h; rfl
    exact h _ _ (by simp [ByteArray.data_extract, List.dropLast_eq_take])
  have CC : Hid (∀ W, Below W0.heap.size W0 W → Calls Tryd.prog 14 #[v, .int .i64 f.t, .string ((st (putS cls f)).extract 0 ((putS cls f).length - 1))] W fun e w' => e = .returned (.tuple #[.agg #[.int .i64 0, .string ⟨#[]⟩, .slice none 0 0], .int .i64 4]) ∧ Below W.heap.size W w') := fun W hW => by
    have := C14.out W ((putS cls f).take ((putS cls f).length - 1)) hW (by rw [List.length_take]; omega)
    rw [hg3] at this
    rw [hex]
    exact this.mono fun e w' h => ⟨h.2, h.1⟩
  have hpos : 1 ≤ (putS cls f).length := by
    cases hq : putS cls f with
    | nil => exact absurd hq hne
    | cons => simp
  have hsz := st_size (putS cls f)
  rw [hpe] at C12
  clear C14 hex hg1 hg2 hg3 hcN hcN2 hcl hfl hfV hne ht1 ht2 hpe k1 k2 t1 t2 hkl C17
  generalize putS cls f = ps at *
  generalize keyS f.t = ks at *
  have hl0 : ¬ (ps.length : Int) = 0 := by omega
  have hl00 : ¬ ps.length = 0 := by omega
  have hl1 : ¬ 9223372036854775807 < ps.length + 1 := by omega
  go_wp2_with (first
    | (go_at_call 12; refine (C12.out _ HBc.out).mono ?_; rintro e wb ⟨rfl, hbb⟩; have HBc : Hid (Below W0.heap.size W0 wb) := bt HBc.out hbb; obtain ⟨p0, p1, p2⟩ := SC.out wb HBc.out; clear hbb)
    | (go_at_call 7; refine (C7.out _).mono ?_; rintro e wd ⟨rfl, hbb⟩; have HBc : Hid (Below W0.heap.size W0 wd) := bt HBc.out hbb; obtain ⟨p0, p1, p2⟩ := SC.out wd HBc.out; clear hbb)
    | (go_at_call 9; refine (C9.out _).mono ?_; rintro e we ⟨rfl, hbb⟩; have HBc : Hid (Below W0.heap.size W0 we) := bt HBc.out hbb; obtain ⟨p0, p1, p2⟩ := SC.out we HBc.out; clear hbb)
    | (go_at_call 14; refine (CA.out _ HBc.out).mono ?_; rintro e wx ⟨hbb, xa, xc, rfl, hx⟩
       have HBc : Hid (Below W0.heap.size W0 (wx.alloc (.cells #[.int .i64 f.t, .string (st f.c), .slice xa f.vs.length xc] 36))) := bt (bt HBc.out hbb) (bxn _ _)
       have HXB : Hid (BoxF3 (wx.alloc (.cells #[.int .i64 f.t, .string (st f.c), .slice xa f.vs.length xc] 36)) wx.heap.size (.int .i64 f.t) (.string (st f.c)) (.slice xa f.vs.length xc)) := boxf_new wx _ _ _ rfl
       have HXS : Hid (SlW 3 (wx.alloc (.cells #[.int .i64 f.t, .string (st f.c), .slice xa f.vs.length xc] 36)) (fun _ => True) (.slice xa f.vs.length xc) (f.vs.map clV)) := hx.bl (bxn _ _)
       have HPX : Hid True := trivial
       obtain ⟨p0, p1, p2⟩ := SC.out _ HBc.out; clear hbb hx CA)
    | (go_at_call 14; refine (CB.out _ HBc.out).mono ?_; rintro e wy ⟨rfl, hbb⟩
       have HBc : Hid (Below W0.heap.size W0 (wy.alloc (.cells #[.int .i64 0, .string ⟨#[]⟩, .slice none 0 0] 36))) := bt (bt HBc.out hbb) (bxn _ _)
       have HXB2 := (HXB.out.below hbb HXB.out.cells.2.2).below (bxn wy (.cells #[.int .i64 0, .string ⟨#[]⟩, .slice none 0 0] 36)) (Nat.lt_of_lt_of_le HXB.out.cells.2.2 hbb.size)
       have HXB3 : Hid _ := HXB2
       have HXS2 : Hid (SlW 3 (wy.alloc (.cells #[.int .i64 0, .string ⟨#[]⟩, .slice none 0 0] 36)) (fun _ => True) (.slice xa f.vs.length xc) (f.vs.map clV)) := HXS.out.bl (bt hbb (bxn _ _))
       obtain ⟨p0, p1, p2⟩ := SC.out _ HBc.out
       clear hbb HXB2 CB))
  obtain ⟨W, hW⟩ : ∃ W, W = wy.alloc (.cells #[.int .i64 0, .string ⟨#[]⟩, .slice none 0 0] 36) := ⟨_, rfl⟩
  rw [← hW] at HBc HXB3 HXS2
  rw [← hW]
  have HW : Hid (Below W0.heap.size W0 W) := HBc
  have SK : Hid (∀ W', Below W.heap.size W W' → W'.cell? ⟨w.heap.size, 0, none⟩ = some (.int .i64 f.t)) := fun W' hb => (SC.out W' (bt HW.out hb)).1
  have hj : IntKind.i64.wrap ((ps.length : Int) - 1) = (ps.length : Int) - 1 := by rw [IntKind.wrap_i64]; omega
  have hj2 : ((ps.length : Int) - 1).toNat = ps.length - 1 := by omega
  have KSl : ∀ W', (Instr.slice 9 (.string (st ps)) none (some (.int .i64 ((ps.length : Int) - 1))) none).run Tryd.prog W' = .ok (.string ((st ps).extract 0 (ps.length - 1))) W' := fun W' => by
    have := run_slice_string_h (P := Tryd.prog) (w := W') (t := 9) (s := st ps) Tryd.underlying9 .i64 ((ps.length : Int) - 1) (by omega) (by rw [st_size]; omega)
    rw [hj2] at this; exact this
  have C18 : Hid (∀ Wf, Below W.heap.size W Wf → Calls Tryd.prog 18 #[.agg #[.int .i64 f.t, .string (st f.c), .slice xa f.vs.length xc], .agg #[.int .i64 f.t, .string (st f.c), .slice a0 f.vs.length c0]] Wf fun e w' => e = .returned (.bool true) ∧ Below Wf.heap.size Wf w') := fun Wf h => by
    have := same_any f f (.slice xa f.vs.length xc) (.slice a0 f.vs.length c0) Wf (HXS2.out.bl h) (HF.out.bl (HLo.out Wf (bt HW.out h)))
    rw [decide_eq_true rfl] at this
    exact this
  have SX : Hid (∀ Wf, Below W.heap.size W Wf → (Wf.cell? ⟨w.heap.size, 0, none⟩ = some (.int .i64 f.t) ∧ Wf.cell? ⟨w.heap.size, 1, none⟩ = some (.string (st f.c)) ∧ Wf.cell? ⟨w.heap.size, 2, none⟩ = some (.slice a0 f.vs.length c0)) ∧ (Wf.cell? ⟨wx.heap.size, 0, none⟩ = some (.int .i64 f.t) ∧ Wf.cell? ⟨wx.heap.size, 1, none⟩ = some (.string (st f.c)) ∧ Wf.cell? ⟨wx.heap.size, 2, none⟩ = some (.slice xa f.vs.length xc))) := fun Wf h => by
    have hx : BoxF3 W wx.heap.size (.int .i64 f.t) (.string (st f.c)) (.slice xa f.vs.length xc) := HXB3.out
    exact ⟨SC.out Wf (bt HW.out h), (hx.below h hx.cells.2.2).cells.1⟩
  clear hW HBc p0 p1 p2
  go_region_held3 (fun w' => w'.cell? ⟨w.heap.size, 0, none⟩ = some (.int .i64 f.t)) ((refine SK.out _ ?_; first | exact (Below.refl _ _).drew | exact BQ.out | exact bt BQ.out (bxn _ _) | exact bt ((Below.refl W.heap.size W).drew) (bxn _ _) | exact set3 BQ.out _ (Nat.le_refl _) _ _ _)) ((go_at_call 14; first
    | (refine (CC.out W.drew (bt HW.out ((Below.refl W.heap.size W).drew))).mono ?_; rintro e wq ⟨rfl, hbq⟩; have BQ : Hid (Below W.heap.size W wq) := bt ((Below.refl W.heap.size W).drew) hbq; clear hbq)
    | (refine (CC.out _ (bt HW.out (bt ((Below.refl W.heap.size W).drew) (bxn _ _)))).mono ?_; rintro e wq ⟨rfl, hbq⟩; have BQ : Hid (Below W.heap.size W wq) := bt (bt ((Below.refl W.heap.size W).drew) (bxn _ _)) hbq; have hbx := BoxF3.below (boxf_new (p := W.heap.size) W.drew (.int .i64 0) (.string ⟨#[]⟩) (.slice none 0 0) rfl) hbq (show W.heap.size < _ by simp); obtain ⟨⟨g0, g1, g2⟩, -, hgl⟩ := hbx.cells; obtain ⟨y0, y1, y2⟩ := hbx.froz; clear hbq hbx)))
  · have B13 : Hid (Below W.heap.size W (wq.alloc (.cells #[.int .i64 0, .string ⟨#[]⟩, .slice none 0 0] 36))) := bt BQ.out (bxn _ _)
    obtain ⟨⟨p0, p1, p2⟩, ⟨q0, q1, q2⟩⟩ := SX.out _ B13.out
    go_wp2_with (first
      | (go_at_call 18; refine (C18.out _ B13.out).mono ?_; rintro e wr ⟨rfl, hbr⟩; have B14 : Hid (Below W.heap.size W wr) := bt B13.out hbr; clear hbr)
      | (go_at_call 6; refine (HA.out _ (HLo.out _ (bt HW.out B14.out))).mono ?_; rintro e wz ⟨rfl, bz⟩; have HBz : Hid (Below w.heap.size w wz) := bt (HLo.out _ (bt HW.out B14.out)) bz; clear bz))
    all_goals (go_ret; exact ⟨rfl, HBz.out⟩)
  · have B13 : Hid (Below W.heap.size W (((wq.setCell ⟨W.heap.size, 0, none⟩ (.int .i64 0)).setCell ⟨W.heap.size, 1, none⟩ (.string ⟨#[]⟩)).setCell ⟨W.heap.size, 2, none⟩ (.slice none 0 0))) := set3 BQ.out _ (Nat.le_refl _) _ _ _
    obtain ⟨⟨p0, p1, p2⟩, ⟨q0, q1, q2⟩⟩ := SX.out _ B13.out
    generalize ((wq.setCell ⟨W.heap.size, 0, none⟩ (.int .i64 0)).setCell ⟨W.heap.size, 1, none⟩ (.string ⟨#[]⟩)).setCell ⟨W.heap.size, 2, none⟩ (.slice none 0 0) = Wf at *
    go_wp2_with (first
      | (go_at_call 18; refine (C18.out _ B13.out).mono ?_; rintro e wr ⟨rfl, hbr⟩; have B14 : Hid (Below W.heap.size W wr) := bt B13.out hbr; clear hbr)
      | (go_at_call 6; refine (HA.out _ (HLo.out _ (bt HW.out B14.out))).mono ?_; rintro e wz ⟨rfl, bz⟩; have HBz : Hid (Below w.heap.size w wz) := bt (HLo.out _ (bt HW.out B14.out)) bz; clear bz))
    all_goals (go_ret; exact ⟨rfl, HBz.out⟩)
theorem walk (v0 : Value) (x0 : List ClassD) (cs1 : List Value) (x1 : FactD) (w : World) (hV : Vars w) (w0 : Row 2 (ReK fun _ _ => True) w (fun _ => True) v0 x0 ∧ ∀ y ∈ x0, ClassD.Ok y) (w1 : ReF w cs1 x1 ∧ x1.Ok) : Calls Tryd.prog 5 #[v0, .agg cs1.toArray] w fun e w' => e = .returned (.bool true) ∧ Below w.heap.size w w' := by
  obtain ⟨va, e1, h1⟩ := w1.1
  obtain ⟨a0, c0, rfl⟩ := h1.shape
  rw [List.length_map] at *
  subst e1
  exact core v0 x0 x1 a0 c0 w hV w0.1 h1 w1.2
set_option maxRecDepth 100000 in
theorem lifted (os : Os) (started : os.Started) (H : Type) (enc : TypeId × Value → H) :
    ReturnsInHanded {} Tryd.checked os 5 .any (fun w args => (Rows.factBackSpec.pre enc Tryd.prog Tryd.f5 Rows.factBackRow.domain false w args ∧ laidMet Tryd.prog laids w) ∧ sizedMet enc Tryd.prog Tryd.f5 (OpenSpec.ofChange Rows.factBackSpec) false w args)
      (Rows.factBackSpec.post enc Tryd.prog Tryd.f5 false true false false) := by
  refine returnsInHanded_of_change_and (C := Tryd.checked) (X := fun w _ => laidMet Tryd.prog laids w) (fun _ _ _ hh h => h.of_heap hh) own started (by kernel_rfl) Tryd.func5
    (ChangeSpec.witness_at (enc := enc) (C := Tryd.checked) (os := os) (X := fun w _ => laidMet Tryd.prog laids w) false (laidWorld os) #[.slice none 0 0, .agg #[.int .i64 0, .string ByteArray.empty, .slice none 0 0]] 8 rfl (by kernel_rfl) (by kernel_rfl) (by kernel_rfl) (by kernel_rfl) (by kernel_rfl) (laidWorld_met os _)) ?_
  intro W base args ds gs before hval0 hW _ hsz0 hL _
  have hval : ∀ (j : Nat) t v, Tryd.f5.params[j]? = some t → args[j]? = some v → Value.okWide Tryd.prog W .any base t v := hval0
  have hW' := hW
  obtain ⟨p, q, hA0, hV, rfl, hfz, hnd⟩ := hW
  have hA : DataW.TrodAll enc Tryd.prog W 0 (fun _ => true) true Tryd.f5.params.toList args.toList ds p := hA0
  rw [Tryd.params5] at hA hval
  have hVars := vars_of hL
  obtain ⟨v0, vs0, d'0, ds0, q0, r'0, hargs, rfl, rfl, h0, r0⟩ := trodAll_cons hA
  obtain ⟨v1, vs1, d'1, ds1, q1, r'1, rfl, rfl, rfl, h1, r1⟩ := trodAll_cons r0
  obtain ⟨rfl, rfl, rfl⟩ := trodAll_nil r1
  obtain rfl : args = #[v0, v1] := by cases args; simp_all
  obtain ⟨rfl, rfl⟩ := trodVars_none hV
  have k0' := h0
  have lt0 : ∀ x ∈ q0, x.block < W.heap.size := by obtain ⟨m, hm⟩ := k0'; exact DataW.trod_lt m _ _ _ hm
  obtain ⟨x0, w0⟩ := arg_cls (hval 0 33 v0 rfl rfl) h0
  have k1' := h1
  have lt1 : ∀ x ∈ q1, x.block < W.heap.size := by obtain ⟨m, hm⟩ := k1'; exact DataW.trod_lt m _ _ _ hm
  obtain ⟨cs1, x1, rfl, w1⟩ := arg_fact (hval 1 36 v1 rfl rfl) h1
  clear hA0 hval0
  refine (walk v0 x0 cs1 x1 W hVars w0 w1).mono fun e W' ⟨he, bel⟩ => ?_
  subst he
  exact ⟨_, rfl, _, _, _, [], _, [], hW', trodAll_mk1 (shut_bool Tryd.underlying4 _), (trodAll_cons_mk (Below.trod laidOut (by kernel_rfl) (of_decide_eq_true (by kernel_rfl)) k0' bel lt0) (trodAll_cons_mk (Below.trod laidOut (by kernel_rfl) (of_decide_eq_true (by kernel_rfl)) k1' bel lt1) trodAll_mk0)), rfl, bel.frame _, fun h => by cases h⟩

theorem over : Rows.factBackRow.holds Tryd.pinned (OpenSpec.ofChange Rows.factBackSpec) :=
  OpenClaim.holds_of_wide 5 Tryd.f5 rfl rfl rfl rfl rfl rfl rfl ⟨rfl, rfl, rfl, rfl, rfl⟩ rfl rfl rfl rfl rfl (by kernel_rfl) Tryd.func5 (by kernel_rfl)
    (of_decide_eq_true (by kernel_rfl)) (by unfold Func.isWrapper; first | (rw [if_pos (by decide +kernel)]; kernel_rfl) | (rw [if_neg (by decide +kernel)]; exact ⟨rfl, rfl⟩))
    (fun os started H enc _ => lifted os started H enc)
theorem stand (j : Nat) (t : TypeId) (ht : Tryd.f5.params[j]? = some t) : Tryd.prog.wantsStandIn t = false := by
  rw [Tryd.params5] at ht
  rcases j with _ | j
  · obtain rfl : 33 = t := by simpa using ht
    kernel_rfl
  rcases j with _ | j
  · obtain rfl : 36 = t := by simpa using ht
    kernel_rfl
  simp at ht
end Go.Proofs.YtpmhilaochfpaaaDoor.factBack

namespace Go.Proofs.YtpmhilaochfpaaaDoor
theorem factBack_holds : Rows.FactBackCardSaid :=
  Claim7.holds_tied_plain_at .later [] [.data, .pinned] true (true, "577d7b892059d4355981c2189e22092bb02f9b333ae6065a85ab26dae50afba3") false
    factBack.over (fun _ h => by cases h) (by kernel_rfl) (fun _ h => by cases h) factBack_row_tie rfl ⟨rfl, rfl⟩ (by kernel_rfl) rfl
    (fun f fn hf hfn => by
      obtain rfl : f = 5 := Option.some.inj ((show Tryd.prog.funcNamed Rows.factBackRow.func = some 5 by kernel_rfl).symm.trans hf) |>.symm
      obtain rfl : fn = Tryd.f5 := (Option.some.inj (Tryd.func5.symm.trans hfn)).symm
      exact ⟨by kernel_rfl, factBack.stand⟩)
    (by kernel_rfl)
#print axioms factBack_holds
end Go.Proofs.YtpmhilaochfpaaaDoor
