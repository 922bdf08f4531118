/- For all classes and any fact the call ClassSame of the statements returns true and its arguments read as they did: no condition but that the library's listed variables lie as the program's text lays them. -/
import Derived.Test.YtbbjhiijialfoaaDoorRows
import Derived.Test.YtbbjhiijialfoaaDoorCards
import Derived.Test.YtbbjhiijialfoaaDoorTie
import Derived.Test.YtbbjhiijialfoaaDoorArg
import Derived.Test.YtbbjhiijialfoaaDoorRn
import Derived.Test.YtbbjhiijialfoaaDoorAw
import Derived.Test.YtbbjhiijialfoaaDoorOpn
import Derived.SevenTiedAt
import Derived.SizedLaws
import Derived.ChangeSame
import Derived.ChangeVars
import Derived.ChangeMaps5
import Derived.JoinedOf
import Derived.JoinedAt
import Derived.RowKit3
import Derived.LaidLaws
import Derived.WalkKit
import Derived.ProofKit
import Derived.OpenShut
import Derived.ShutString
import Derived.ChangeOld
import Derived.Below
import Derived.Test.YtbbjhiijialfoaaDoorLi
import Derived.Test.YtbbjhiijialfoaaDoorCb
import Derived.Test.YtbbjhiijialfoaaDoorCx
import Derived.Test.YtbbjhiijialfoaaDoorPl
import Derived.Test.YtbbjhiijialfoaaDoorPg
namespace Go.Proofs.YtbbjhiijialfoaaDoor.classSame
open Go.ChangeShapes Go.WideShapes Go.ChangeAt Go.RowKit
set_option linter.unusedVariables false
set_option linter.unusedSimpArgs false
set_option maxRecDepth 20000

theorem nilB (W : World) : SlW 4 W (fun _ => True) (.slice none 0 0) (([] : List BoundD).map clB) := ⟨none, 0, rfl, Nat.le_refl _, by decide, .inl rfl⟩
theorem info51 : (Tryd.prog.info? 51).map (fun i => (i.zero, i.size, i.bytes)) = some (some (.agg #[.string ⟨#[]⟩, .int .u8 0, .int .i64 0, .string ⟨#[]⟩]), 4, 48) := by kernel_rfl
theorem clB_len {xs : List BoundD} : ∀ c ∈ xs.map clB, c.length = 4 := fun c hc => by obtain ⟨x, _, rfl⟩ := List.mem_map.1 hc; rfl
theorem clB_one {xs : List BoundD} : ∀ c ∈ xs.map clB, ∀ u ∈ c, u.oneCell' = true := fun c hc u hu => by
  obtain ⟨x, _, rfl⟩ := List.mem_map.1 hc
  simp only [clB, List.mem_cons, List.not_mem_nil, or_false] at hu
  rcases hu with rfl | rfl | rfl | rfl <;> rfl
theorem self_take {as_ : List Str} {vs : List VD} {i : Nat} (h : i < as_.length) : (selfB as_ vs).take (i + 1) = (selfB as_ vs).take i ++ [⟨as_.getD i [], vs.getD i v00⟩] := by
  rw [take_snocD (selfB as_ vs) i ⟨[], v00⟩ (by unfold selfB; simpa using h), self_at h]
set_option maxHeartbeats 16000000 in
theorem core (v : Value) (cls : List ClassD) (f : FactD) (a0 : Option Addr) (c0 : Nat) (w : World) (hV : Vars w) (hc : Row 2 (ReK fun _ _ => True) w (fun _ => True) v cls) (hf : SlW 3 w (fun _ => True) (.slice a0 f.vs.length c0) (f.vs.map clV)) (hfo : f.Ok) :
    Calls Tryd.prog 6 #[v, .agg #[.int .i64 f.t, .string (st f.c), .slice a0 f.vs.length c0]] w fun e w' => e = .returned (.bool true) ∧ Below w.heap.size w w' := by
  have HA : Hid (∀ W, Below w.heap.size w W → Calls Tryd.prog 8 #[] W fun e w' => e = .returned (.bool true) ∧ Below W.heap.size W w') := fun W hb => awake_any W (hV.below hb)
  have C7 : Hid (∀ W, Below w.heap.size w W → Calls Tryd.prog 7 #[v, .agg #[.int .i64 f.t, .string (st f.c), .slice a0 f.vs.length c0], .slice none 0 0] W (SomeL (lightL cls f []) W)) := fun W hb => light_any v _ (.slice none 0 0) cls f [] W (rowK_keep hc hb) (hf.bl hb) (nilB W)
  have HF : Hid (SlW 3 w (fun _ => True) (.slice a0 f.vs.length c0) (f.vs.map clV)) := hf
  have HC : Hid (Row 2 (ReK fun _ _ => True) w (fun _ => True) v cls) := hc
  have HV : Hid (Vars w) := hV
  have HFO : Hid f.Ok := hfo
  obtain ⟨W1, hW1⟩ : ∃ W1, W1 = w.alloc (.cells #[.int .i64 f.t, .string (st f.c), .slice a0 f.vs.length c0] 25) := ⟨_, rfl⟩
  have HB1 : Hid (Below w.heap.size w W1) := by rw [hW1]; exact bxn _ _
  have SC : Hid (∀ W, Below W1.heap.size W1 W → W.cell? ⟨w.heap.size, 0, none⟩ = some (.int .i64 f.t) ∧ W.cell? ⟨w.heap.size, 1, none⟩ = some (.string (st f.c)) ∧ W.cell? ⟨w.heap.size, 2, none⟩ = some (.slice a0 f.vs.length c0)) := fun W hW => by
    subst hW1
    exact ⟨(hW.cell (p := ⟨w.heap.size, 0, none⟩) (by simp)).trans (by go_simp), (hW.cell (p := ⟨w.heap.size, 1, none⟩) (by simp)).trans (by go_simp), (hW.cell (p := ⟨w.heap.size, 2, none⟩) (by simp)).trans (by go_simp)⟩
  have HLo : Hid (∀ W, Below W1.heap.size W1 W → Below w.heap.size w W) := fun W hW => bt HB1.out hW
  have HBc : Hid (Below W1.heap.size W1 W1) := Below.refl _ _
  obtain ⟨p0, p1, p2⟩ := SC.out W1 HBc.out
  have CK : Hid (lightL cls f [] → ∀ W, Below W1.heap.size W1 W → Calls Tryd.prog 14 #[v, .agg #[.int .i64 f.t, .string (st f.c), .slice a0 f.vs.length c0]] W fun e w' => e = .returned (.int .i64 (factE cls f)) ∧ Below W.heap.size W w') := fun hl W hW => check_any v _ cls f W (rowK_keep hc (HLo.out W hW)) (fun y hy => Nat.le_trans (hl.2.2.2.1 y hy).2.1 (by decide)) (hf.bl (HLo.out W hW)) (fun y hy => fV_of ((hfo.2.2 y hy).1) (hl.2.1.2.2 y hy)) (hV.below (HLo.out W hW))
  have CC : Hid (lightL cls f [] → ∀ W, Below W1.heap.size W1 W → Calls Tryd.prog 21 #[v] W fun e w' => e = .returned (.int .i64 (clsE cls)) ∧ Below W.heap.size W w') := fun hl W hW => classes_any v cls W (rowK_keep hc (HLo.out W hW)) hl.1 hl.2.2.2.1
  clear hV hc hf hfo
  go_enter Tryd.func6, Tryd.ntmps6
  go_wp2_with fail
  rw [← hW1]
  clear hW1
  go_wp2_with (first
    | (go_at_call 7; refine (C7.out _ (HLo.out _ HBc.out)).mono ?_; rintro e wa ⟨z1, rfl, hl1, hb1⟩; have HL1 : Hid (z1 = true → lightL cls f []) := hl1; have HBc : Hid (Below W1.heap.size W1 wa) := bt HBc.out hb1; obtain ⟨p0, p1, p2⟩ := SC.out wa HBc.out; clear hl1 hb1)
    | (go_at_call 8; refine (HA.out _ (HLo.out _ HBc.out)).mono ?_; rintro e wz ⟨rfl, bz⟩; have HBz : Hid (Below W1.heap.size W1 wz) := bt HBc.out bz; clear bz))
  all_goals try (go_ret; exact ⟨rfl, HLo.out _ HBz.out⟩)
  obtain rfl : z1 = true := by first | assumption | simp_all
  try simp only [Bool.not_true]
  have HLF : Hid (lightL cls f []) := HL1.out rfl
  have CK2 := CK.out HLF.out
  have CC2 := CC.out HLF.out
  have HE : Hid (factE cls f = factE cls f) := rfl
  obtain ⟨e1, he1⟩ : ∃ e1, e1 = factE cls f := ⟨_, rfl⟩
  obtain ⟨e2, he2⟩ : ∃ e2, e2 = clsE cls := ⟨_, rfl⟩
  have H1 : Hid (e1 = factE cls f) := he1
  have H2 : Hid (e2 = clsE cls) := he2
  rw [← he1] at CK2
  rw [← he2] at CC2
  clear he1 he2 HE HL1 C7 CK CC
  have CK3 : Hid (∀ W, Below W1.heap.size W1 W → Calls Tryd.prog 14 #[v, .agg #[.int .i64 f.t, .string (st f.c), .slice a0 f.vs.length c0]] W fun e w' => e = .returned (.int .i64 e1) ∧ Below W.heap.size W w') := CK2
  have CC3 : Hid (∀ W, Below W1.heap.size W1 W → Calls Tryd.prog 21 #[v] W fun e w' => e = .returned (.int .i64 e2) ∧ Below W.heap.size W w') := CC2
  clear CK2 CC2
  by_cases hz1 : ¬ e1 = 0
  · have hq1 : (e1 == 0) = false := by simpa using hz1
    clear H1 H2
    go_wp2_with (first
      | (go_at_call 14; refine (CK3.out _ HBc.out).mono ?_; rintro e wb ⟨rfl, hbb⟩; have HBc : Hid (Below W1.heap.size W1 wb) := bt HBc.out hbb; clear hbb)
      | (go_at_call 8; refine (HA.out _ (HLo.out _ HBc.out)).mono ?_; rintro e wz ⟨rfl, bz⟩; have HBz : Hid (Below W1.heap.size W1 wz) := bt HBc.out bz; clear bz))
    all_goals (go_ret; exact ⟨rfl, HLo.out _ HBz.out⟩)
  have hz1 := Classical.not_not.1 hz1
  subst hz1
  by_cases hz2 : ¬ e2 = 0
  · have hq1 : (e2 == 0) = false := by simpa using hz2
    clear H1 H2
    go_wp2_with (first
      | (go_at_call 14; refine (CK3.out _ HBc.out).mono ?_; rintro e wb ⟨rfl, hbb⟩; have HBc : Hid (Below W1.heap.size W1 wb) := bt HBc.out hbb; clear hbb)
      | (go_at_call 21; refine (CC3.out _ HBc.out).mono ?_; rintro e wb2 ⟨rfl, hbb⟩; have HBc : Hid (Below W1.heap.size W1 wb2) := bt HBc.out hbb; clear hbb)
      | (go_at_call 8; refine (HA.out _ (HLo.out _ HBc.out)).mono ?_; rintro e wz ⟨rfl, bz⟩; have HBz : Hid (Below W1.heap.size W1 wz) := bt HBc.out bz; clear bz))
    all_goals (go_ret; exact ⟨rfl, HLo.out _ HBz.out⟩)
  have hz2 := Classical.not_not.1 hz2
  subst hz2
  obtain ⟨k, hk, hkl, hmk⟩ := make_self H1.out.symm H2.out.symm
  have hws := with_self H1.out.symm
  have hcN : ∀ y ∈ cls, y.attrs.length ≤ 100000 := fun y hy => Nat.le_trans (HLF.out.2.2.2.1 y hy).2.1 (by decide)
  have hfV : ∀ y ∈ f.vs, fV y := fun y hy => fV_of ((HFO.out.2.2 y hy).1) (HLF.out.2.1.2.2 y hy)
  have CW : Hid (∀ W, Below W1.heap.size W1 W → Calls Tryd.prog 11 #[v, .agg #[.int .i64 f.t, .string (st f.c), .slice a0 f.vs.length c0], .int .i64 f.t, .slice none 0 0] W fun e w' => ∃ z zc, e = .returned (.tuple #[.agg #[.int .i64 f.t, .string (st f.c), .slice z f.vs.length zc], .int .i64 0]) ∧ Below W.heap.size W w' ∧ SlW 3 w' (fun _ => True) (.slice z f.vs.length zc) (f.vs.map clV)) := fun W hW => (with_any v _ (.slice none 0 0) cls f f.t [] W (rowK_keep HC.out (HLo.out W hW)) hcN (HF.out.bl (HLo.out W hW)) hfV (HV.out.below (HLo.out W hW)) (nilB W) (by simp) (Nat.le_trans HLF.out.2.1.1 (by decide))).mono fun e w' h => by
    obtain ⟨hb, hh⟩ := h
    rw [hws] at hh
    obtain ⟨z, e1, ho⟩ := hh
    obtain ⟨za, zc, rfl⟩ := ho.shape
    rw [List.length_map] at e1
    exact ⟨za, zc, e1, hb, (lenV ho).sl.imp fun _ _ _ => trivial⟩
  have CFi : Hid (∀ W, Below W1.heap.size W1 W → Calls Tryd.prog 22 #[v, .string (st f.c)] W fun e w' => ∃ ka kc, e = .returned (.tuple #[.agg #[.string (st k.nm), .slice ka f.vs.length kc], .bool true]) ∧ Below W.heap.size W w' ∧ SlW 1 w' (fun _ => True) (.slice ka f.vs.length kc) (k.attrs.map clS)) := fun W hW => (find_any v cls f.c W (rowK_keep HC.out (HLo.out W hW)) hcN).mono fun e w' h => by
    obtain ⟨hb, hh⟩ := h
    rw [hk] at hh
    obtain ⟨ka, kc, e1, hs⟩ := hh
    rw [hkl]
    exact ⟨ka, kc, e1, hb, hs.imp fun _ _ _ => trivial⟩
  have CM : Hid (∀ W s Q, Below W1.heap.size W1 W → SlW 4 W Q s ((selfB k.attrs f.vs).map clB) → Calls Tryd.prog 9 #[v, .int .i64 f.t, .string (st f.c), s] W fun e w' => ∃ z zc, e = .returned (.tuple #[.agg #[.int .i64 f.t, .string (st f.c), .slice z f.vs.length zc], .int .i64 0]) ∧ Below W.heap.size W w' ∧ SlW 3 w' (fun _ => True) (.slice z f.vs.length zc) (f.vs.map clV)) := fun W s Q hW hs => (make_any v s cls f.t f.c (selfB k.attrs f.vs) W (rowK_keep HC.out (HLo.out W hW)) hcN (HV.out.below (HLo.out W hW)) hs (fun b hb => by
      unfold selfB at hb
      obtain ⟨i, hi, rfl⟩ := List.mem_map.1 hb
      rw [List.mem_range] at hi
      show fV (f.vs.getD i v00)
      rw [List.getD_eq_getElem?_getD, List.getElem?_eq_getElem (by omega)]
      exact hfV _ (List.getElem_mem _))).mono fun e w' h => by
    obtain ⟨hb, hh⟩ := h
    rw [hmk] at hh
    obtain ⟨z, e1, ho⟩ := hh
    obtain ⟨za, zc, rfl⟩ := ho.shape
    rw [List.length_map] at e1
    exact ⟨za, zc, e1, hb, (lenV ho).sl.imp fun _ _ _ => trivial⟩
  have CS : Hid (∀ W z zc, Below W1.heap.size W1 W → SlW 3 W (fun _ => True) (.slice z f.vs.length zc) (f.vs.map clV) → Calls Tryd.prog 20 #[.agg #[.int .i64 f.t, .string (st f.c), .slice a0 f.vs.length c0], .agg #[.int .i64 f.t, .string (st f.c), .slice z f.vs.length zc]] W fun e w' => e = .returned (.bool true) ∧ Below W.heap.size W w') := fun W z zc hW hz => by
    have := same_any f f _ _ W (HF.out.bl (HLo.out W hW)) hz
    rw [decide_eq_true (rfl : f = f)] at this
    exact this
  have HKL : Hid (f.vs.length = k.attrs.length ∧ f.vs.length ≤ 20) := ⟨hkl, HLF.out.2.1.1⟩
  clear hcN hfV hws hmk hk hkl H1 H2 HFO HLF
  obtain ⟨m, hm⟩ : ∃ m, m = f.vs.length := ⟨_, rfl⟩
  go_wp2_with (first
    | (go_at_call 14; refine (CK3.out _ HBc.out).mono ?_; rintro e wb ⟨rfl, hbb⟩; have HBc : Hid (Below W1.heap.size W1 wb) := bt HBc.out hbb; clear hbb)
    | (go_at_call 21; refine (CC3.out _ HBc.out).mono ?_; rintro e w2 ⟨rfl, hbb⟩; have HBc : Hid (Below W1.heap.size W1 w2) := bt HBc.out hbb; obtain ⟨p0, p1, p2⟩ := SC.out w2 HBc.out; clear hbb)
    | (go_at_call 11; refine (CW.out _ HBc.out).mono ?_; rintro e w3 ⟨z, zc, rfl, hb3, hz3⟩; have HBc : Hid (Below W1.heap.size W1 (w3.alloc (.cells #[.int .i64 f.t, .string (st f.c), .slice z f.vs.length zc] 25))) := bt (bt HBc.out hb3) (bxn _ _); have X3 : Hid (BoxF (w3.alloc (.cells #[.int .i64 f.t, .string (st f.c), .slice z f.vs.length zc] 25)) w3.heap.size (.int .i64 f.t) (.string (st f.c)) (.slice z f.vs.length zc)) := heap_alloc_new w3 _; have Z3 : Hid (SlW 3 (w3.alloc (.cells #[.int .i64 f.t, .string (st f.c), .slice z f.vs.length zc] 25)) (fun _ => True) (.slice z f.vs.length zc) (f.vs.map clV)) := hz3.bl (bxn _ _); obtain ⟨p0, p1, p2⟩ := SC.out _ HBc.out; clear hb3 hz3)
    | (go_at_call 22; refine (CFi.out _ HBc.out).mono ?_; rintro e w4 ⟨ka, kc, rfl, hb4, hs4⟩; have HBc : Hid (Below W1.heap.size W1 (w4.alloc (.cells #[.string (st k.nm), .slice ka f.vs.length kc] 54))) := bt (bt HBc.out hb4) (bxn _ _); have K4 : Hid (SlW 1 (w4.alloc (.cells #[.string (st k.nm), .slice ka f.vs.length kc] 54)) (fun _ => True) (.slice ka f.vs.length kc) (k.attrs.map clS)) := hs4.bl (bxn _ _); have Z4 : Hid (SlW 3 (w4.alloc (.cells #[.string (st k.nm), .slice ka f.vs.length kc] 54)) (fun _ => True) (.slice z f.vs.length zc) (f.vs.map clV)) := SlW.bl (SlW.bl Z3.out hb4) (bxn _ _); have X4 : Hid (BoxF (w4.alloc (.cells #[.string (st k.nm), .slice ka f.vs.length kc] 54)) w3.heap.size (.int .i64 f.t) (.string (st f.c)) (.slice z f.vs.length zc)) := (X3.out.below hb4).below (bxn _ _); obtain ⟨x0, x1, x2, -⟩ := box3 X4.out; obtain ⟨p0, p1, p2⟩ := SC.out _ HBc.out; clear hb4 hs4)
    | (go_at_call 20; refine (CS.out _ z zc HBc.out Z4.out).mono ?_; rintro e w5 ⟨rfl, hb5⟩; have HBc : Hid (Below W1.heap.size W1 w5) := bt HBc.out hb5; have HY : Hid (∀ W, Below w5.heap.size w5 W → W.cell? ⟨w4.heap.size, 1, none⟩ = some (.slice ka f.vs.length kc)) := (fun W hW => ((bt (show Below (w4.alloc (.cells #[.string (st k.nm), .slice ka f.vs.length kc] 54)).heap.size (w4.alloc (.cells #[.string (st k.nm), .slice ka f.vs.length kc] 54)) w5 from hb5) hW).cell (p := ⟨w4.heap.size, 1, none⟩) (by simp)).trans (by go_simp)); have K5 : Hid (SlW 1 w5 (fun _ => True) (.slice ka f.vs.length kc) (k.attrs.map clS)) := SlW.bl K4.out hb5; obtain ⟨p0, p1, p2⟩ := SC.out _ HBc.out; have y1 := HY.out w5 (Below.refl _ _); clear hb5))
  have HB5 : Hid (Below W1.heap.size W1 w5) := HBc
  have hn2 : (f.vs.length : Int) ≤ 9223372036854775807 := by have := HKL.out.2; omega
  clear hm CK3 CC3 CW CFi X3 X4 Z3 Z4 K4 HBc x0 x1 x2 p0 p1 p2 y1
  go_loopw [9, 10] (fun v9 v10 wr => ∃ i : Nat, v10 = .int .i64 i ∧ i ≤ f.vs.length ∧ Hid (OwnN 51 4 wr w5.heap.size v9 (((selfB k.attrs f.vs).take i).map clB)) ∧ Hid (Below w5.heap.size w5 wr)) (fun _ v10 _ => (f.vs.length - intOf v10).toNat)
  case atStart => exact ⟨0, rfl, Nat.zero_le _, OwnN.nil _ _ _ _, Below.refl _ _⟩
  case round =>

    obtain ⟨i, rfl, hi, HO, HB⟩ := hrel
    have HBc : Hid (Below W1.heap.size W1 wr) := bt HB5.out HB.out
    obtain ⟨p0, p1, p2⟩ := SC.out wr HBc.out
    have y1 := HY.out wr HB.out
    have hle : Hid (w5.heap.size ≤ wr.heap.size) := HB.out.size
    by_cases hlt : i < f.vs.length
    · have hiz : (i : Int) < f.vs.length := by omega
      have hia : i < k.attrs.length := by have := HKL.out.1; omega
      obtain ⟨b1, o1, rfl, hb1, q1⟩ := (HF.out.at v00).2.2.2 i hlt
      obtain ⟨kb, ko, rfl, hkb, hk1⟩ := (K5.out.at []).2.2.2 i hia
      have SL : Hid (∀ W, Below w5.heap.size w5 W → W.cell? ⟨w.heap.size, 2, none⟩ = some (.slice (some ⟨b1, o1, none⟩) f.vs.length c0) ∧ W.cell? ⟨w4.heap.size, 1, none⟩ = some (.slice (some ⟨kb, ko, none⟩) f.vs.length kc) ∧ W.cell? ⟨kb, ko + i, none⟩ = some (.string (st (k.attrs.getD i []))) ∧ W.cell? ⟨b1, o1 + i * 3, none⟩ = some (.int .u8 (f.vs.getD i v00).k) ∧ W.cell? ⟨b1, o1 + i * 3 + 1, none⟩ = some (.int .i64 (f.vs.getD i v00).n) ∧ W.cell? ⟨b1, o1 + i * 3 + 2, none⟩ = some (.string (st (f.vs.getD i v00).s))) := fun W hW => by
        have h0 := HLo.out W (bt HB5.out hW)
        refine ⟨(SC.out W (bt HB5.out hW)).2.2, HY.out W hW, ?_, (h0.cell (p := ⟨b1, o1 + i * 3, none⟩) hb1).trans (q1 0 (by decide)), (h0.cell (p := ⟨b1, o1 + i * 3 + 1, none⟩) hb1).trans (q1 1 (by decide)), (h0.cell (p := ⟨b1, o1 + i * 3 + 2, none⟩) hb1).trans (q1 2 (by decide))⟩
        have := hk1 0 (by decide)
        rw [Nat.mul_one, Nat.add_zero] at this
        exact (hW.cell (p := ⟨kb, ko + i, none⟩) hkb).trans this
      have HT := self_take (as_ := k.attrs) (vs := f.vs) hia
      generalize f.vs.getD i v00 = x at *
      generalize k.attrs.getD i [] = at_ at *
      have HTT : Hid (((selfB k.attrs f.vs).take (i + 1)).map clB = ((selfB k.attrs f.vs).take i).map clB ++ [(⟨at_, x⟩ : BoundD)].map clB) := by show _ = _; rw [HT, List.map_append]
      have HCL : Hid ((((selfB k.attrs f.vs).take i).map clB).length ≤ 20) := by show _ ≤ _; rw [List.length_map, List.length_take]; have := HKL.out.2; omega
      have HO1 : Hid (OwnN 51 4 (wr.alloc (.cells #[.string (st at_), .int .u8 x.k, .int .i64 x.n, .string (st x.s)] 51)).drew w5.heap.size u9 (((selfB k.attrs f.vs).take i).map clB)) := HO.out.below (bxn wr _).drew
      have HS1 : Hid (SlW 4 (wr.alloc (.cells #[.string (st at_), .int .u8 x.k, .int .i64 x.n, .string (st x.s)] 51)).drew (fun _ => True) (.slice (some ⟨wr.heap.size, 0, none⟩) 1 1) ([(⟨at_, x⟩ : BoundD)].map clB)) := one_b wr ⟨at_, x⟩
      have HB1x : Hid (Below w5.heap.size w5 (wr.alloc (.cells #[.string (st at_), .int .u8 x.k, .int .i64 x.n, .string (st x.s)] 51)).drew) := (bt HB.out (bxn wr _)).drew
      clear HT q1 hk1
      generalize ((selfB k.attrs f.vs).take i).map clB = css at *
      go_wp2
      go_region_held3 (fun W => W.cell? ⟨w.heap.size, 2, none⟩ = some (.slice (some ⟨b1, o1, none⟩) f.vs.length c0) ∧ W.cell? ⟨w4.heap.size, 1, none⟩ = some (.slice (some ⟨kb, ko, none⟩) f.vs.length kc) ∧ W.cell? ⟨kb, ko + i, none⟩ = some (.string (st at_)) ∧ W.cell? ⟨b1, o1 + i * 3, none⟩ = some (.int .u8 x.k) ∧ W.cell? ⟨b1, o1 + i * 3 + 1, none⟩ = some (.int .i64 x.n) ∧ W.cell? ⟨b1, o1 + i * 3 + 2, none⟩ = some (.string (st x.s))) (first | exact SL.out _ HB.out.drew | exact SL.out _ HB1x.out | exact SL.out _ (HB1x.out.trans b7)) (first | (refine step_app_n Tryd.underlying26 info51 rfl (by decide) (by decide) (by rfl) _ _ (by rfl) w5.heap.size u9 css ([(⟨at_, x⟩ : BoundD)].map clB) (by rfl) HO1.out (.slice (some ⟨wr.heap.size, 0, none⟩) 1 1) (by rfl) HS1.out clB_len clB_one (by have := HCL.out; simp; omega) (by have := hle.out; simp; omega) ?_; intro v7 w7 o7 g7 b7))
      all_goals (
        have O7 : Hid (OwnN 51 4 w7 w5.heap.size v7 (((selfB k.attrs f.vs).take (i + 1)).map clB)) := by rw [HTT.out]; exact o7
        have B7 : Hid (Below w5.heap.size w5 w7) := HB1x.out.trans b7
        clear o7 g7 b7
        go_wp2
        go_roundw
        case rel => exact ⟨i + 1, by simp, by omega, O7.out, B7.out⟩
        case measure => simp [intOf]; omega)
    · have hiz : ¬ (i : Int) < f.vs.length := by omega
      have HS : Hid (SlW 4 wr (fun b => w5.heap.size ≤ b) u9 ((selfB k.attrs f.vs).map clB)) := by
        have := HO.out.sl
        rw [List.take_of_length_le (by unfold selfB; simp; have := HKL.out.1; omega)] at this
        exact this
      go_wp2_with (first
        | (go_at_call 9; refine (CM.out wr u9 _ HBc.out HS.out).mono ?_; rintro e w8 ⟨z8, zc8, rfl, hb8, hz8⟩; have HBc : Hid (Below W1.heap.size W1 (w8.alloc (.cells #[.int .i64 f.t, .string (st f.c), .slice z8 f.vs.length zc8] 25))) := bt (bt HBc.out hb8) (bxn _ _); have Z8 : Hid (SlW 3 (w8.alloc (.cells #[.int .i64 f.t, .string (st f.c), .slice z8 f.vs.length zc8] 25)) (fun _ => True) (.slice z8 f.vs.length zc8) (f.vs.map clV)) := hz8.bl (bxn _ _); obtain ⟨p0, p1, p2⟩ := SC.out _ HBc.out; clear hb8 hz8)
        | (go_at_call 20; refine (CS.out _ z8 zc8 HBc.out Z8.out).mono ?_; rintro e w9 ⟨rfl, hb9⟩; have HBc : Hid (Below W1.heap.size W1 w9) := bt HBc.out hb9; clear hb9)
        | (go_at_call 8; refine (HA.out _ (HLo.out _ HBc.out)).mono ?_; rintro e wz ⟨rfl, bz⟩; have HBz : Hid (Below W1.heap.size W1 wz) := bt HBc.out bz; clear bz))
      all_goals (go_ret; exact ⟨rfl, HLo.out _ HBz.out⟩)
theorem walk (v0 : Value) (x0 : List ClassD) (cs1 : List Value) (x1 : FactD) (w : World) (hV : Vars w) (h5 : 5 ≤ w.heap.size) (w0 : Row 2 (ReK fun _ _ => True) w (fun _ => True) v0 x0 ∧ ∀ y ∈ x0, ClassD.Ok y) (w1 : ReF w cs1 x1 ∧ x1.Ok) : Calls Tryd.prog 6 #[v0, .agg cs1.toArray] w fun e w' => e = .returned (.bool true) ∧ Below w.heap.size w w' := by
  obtain ⟨va, e1, h1⟩ := w1.1
  obtain ⟨a0, c0, rfl⟩ := h1.shape
  rw [List.length_map] at *
  subst e1
  exact core v0 x0 x1 a0 c0 w hV w0.1 h1 w1.2
set_option maxRecDepth 100000 in
theorem lifted (os : Os) (started : os.Started) (H : Type) (enc : TypeId × Value → H) :
    ReturnsInHanded {} Tryd.checked os 6 .any (fun w args => (Rows.classSameSpec.pre enc Tryd.prog Tryd.f6 Rows.classSameRow.domain false w args ∧ laidMet Tryd.prog laids w) ∧ sizedMet enc Tryd.prog Tryd.f6 (OpenSpec.ofChange Rows.classSameSpec) false w args)
      (Rows.classSameSpec.post enc Tryd.prog Tryd.f6 false true false false) := by
  refine returnsInHanded_of_change_and (C := Tryd.checked) (X := fun w _ => laidMet Tryd.prog laids w) (fun _ _ _ hh h => h.of_heap hh) own started (by kernel_rfl) Tryd.func6
    (ChangeSpec.witness_at (enc := enc) (C := Tryd.checked) (os := os) (X := fun w _ => laidMet Tryd.prog laids w) false (laidWorld os) #[.slice none 0 0, .agg #[.int .i64 0, .string ByteArray.empty, .slice none 0 0]] 8 rfl (by kernel_rfl) (by kernel_rfl) (by kernel_rfl) (by kernel_rfl) (by kernel_rfl) (laidWorld_met os _)) ?_
  intro W base args ds gs before hval0 hW _ hsz0 hL _
  have hval : ∀ (j : Nat) t v, Tryd.f6.params[j]? = some t → args[j]? = some v → Value.okWide Tryd.prog W .any base t v := hval0
  have hW' := hW
  obtain ⟨p, q, hA0, hV, rfl, hfz, hnd⟩ := hW
  have hA : DataW.TrodAll enc Tryd.prog W 0 (fun _ => true) true Tryd.f6.params.toList args.toList ds p := hA0
  rw [Tryd.params6] at hA hval
  have hVars := vars_of hL
  have hFive := five_of hL
  obtain ⟨v0, vs0, d'0, ds0, q0, r'0, hargs, rfl, rfl, h0, r0⟩ := trodAll_cons hA
  obtain ⟨v1, vs1, d'1, ds1, q1, r'1, rfl, rfl, rfl, h1, r1⟩ := trodAll_cons r0
  obtain ⟨rfl, rfl, rfl⟩ := trodAll_nil r1
  obtain rfl : args = #[v0, v1] := by cases args; simp_all
  obtain ⟨rfl, rfl⟩ := trodVars_none hV
  have k0' := h0
  have lt0 : ∀ x ∈ q0, x.block < W.heap.size := by obtain ⟨m, hm⟩ := k0'; exact DataW.trod_lt m _ _ _ hm
  obtain ⟨x0, w0⟩ := arg_cls (hval 0 22 v0 rfl rfl) h0
  have k1' := h1
  have lt1 : ∀ x ∈ q1, x.block < W.heap.size := by obtain ⟨m, hm⟩ := k1'; exact DataW.trod_lt m _ _ _ hm
  obtain ⟨cs1, x1, rfl, w1⟩ := arg_fact (hval 1 25 v1 rfl rfl) h1
  clear hA0 hval0
  refine (walk v0 x0 cs1 x1 W hVars hFive w0 w1).mono fun e W' ⟨he, bel⟩ => ?_
  subst he
  exact ⟨_, rfl, _, _, _, [], _, [], hW', trodAll_mk1 (shut_bool Tryd.underlying4 _), (trodAll_cons_mk (Below.trod laidOut (by kernel_rfl) (of_decide_eq_true (by kernel_rfl)) k0' bel lt0) (trodAll_cons_mk (Below.trod laidOut (by kernel_rfl) (of_decide_eq_true (by kernel_rfl)) k1' bel lt1) trodAll_mk0)), rfl, bel.frame _, fun h => by cases h⟩

theorem over : Rows.classSameRow.holds Tryd.pinned (OpenSpec.ofChange Rows.classSameSpec) :=
  OpenClaim.holds_of_wide 6 Tryd.f6 rfl rfl rfl rfl rfl rfl rfl ⟨rfl, rfl, rfl, rfl, rfl⟩ rfl rfl rfl rfl rfl (by kernel_rfl) Tryd.func6 (by kernel_rfl)
    (of_decide_eq_true (by kernel_rfl)) (by unfold Func.isWrapper; first | (rw [if_pos (by decide +kernel)]; kernel_rfl) | (rw [if_neg (by decide +kernel)]; exact ⟨rfl, rfl⟩))
    (fun os started H enc _ => lifted os started H enc)
theorem stand (j : Nat) (t : TypeId) (ht : Tryd.f6.params[j]? = some t) : Tryd.prog.wantsStandIn t = false := by
  rw [Tryd.params6] at ht
  rcases j with _ | j
  · obtain rfl : 22 = t := by simpa using ht
    kernel_rfl
  rcases j with _ | j
  · obtain rfl : 25 = t := by simpa using ht
    kernel_rfl
  simp at ht
end Go.Proofs.YtbbjhiijialfoaaDoor.classSame

namespace Go.Proofs.YtbbjhiijialfoaaDoor
theorem classSame_holds : Rows.ClassSameCardSaid :=
  Claim7.holds_tied_plain_at .later [] [.data, .data, .data, .data, .pinned] true (true, "bb77afbdca64eea0ee0f265763a889a12c4ed3f89f30adfa7d91f8a4aa24a3e8") false
    classSame.over (fun _ h => by cases h) (by kernel_rfl) (fun _ h => by cases h) classSame_row_tie rfl ⟨rfl, rfl⟩ (by kernel_rfl) rfl
    (fun f fn hf hfn => by
      obtain rfl : f = 6 := Option.some.inj ((show Tryd.prog.funcNamed Rows.classSameRow.func = some 6 by kernel_rfl).symm.trans hf) |>.symm
      obtain rfl : fn = Tryd.f6 := (Option.some.inj (Tryd.func6.symm.trans hfn)).symm
      exact ⟨by kernel_rfl, classSame.stand⟩)
    (by kernel_rfl)
#print axioms classSame_holds
end Go.Proofs.YtbbjhiijialfoaaDoor
