/- For every text the call LexBack of the statements returns true and its argument reads as it did: no condition but that the library's listed variables lie as the program's text lays them. -/
import Derived.Test.YtglimefhiggdeaaDoorRows
import Derived.Test.YtglimefhiggdeaaDoorCards
import Derived.Test.YtglimefhiggdeaaDoorTie
import Derived.Test.YtglimefhiggdeaaDoorArg
import Derived.Test.YtglimefhiggdeaaDoorRn
import Derived.Test.YtglimefhiggdeaaDoorAw
import Derived.SevenTiedAt
import Derived.SizedLaws
import Derived.ChangeSame
import Derived.ChangeVars
import Derived.ChangeMaps5
import Derived.JoinedOf
import Derived.JoinedAt
import Derived.RowKit3
import Derived.LaidLaws
import Derived.WalkKit
import Derived.ProofKit
import Derived.OpenShut
import Derived.ShutString
import Derived.ChangeOld
import Derived.Below
import Derived.Test.YtglimefhiggdeaaDoorLu
namespace Go.Proofs.YtglimefhiggdeaaDoor.lexBack
open Go.ChangeShapes Go.WideShapes Go.ChangeAt Go.RowKit
set_option linter.unusedVariables false
set_option linter.unusedSimpArgs false
set_option maxRecDepth 20000

theorem rowAt {w : World} {a : Option Addr} {ts : List TA} (h : TV w a ts) {i : Nat} (hi : i < ts.length) : ∃ g o, a = some ⟨g, o, none⟩ ∧ g < w.heap.size ∧ ∀ j, j < 7 → w.cell? ⟨g, o + (i * 7 + j), none⟩ = (cl7 (ts.getD i ta0))[j]? := by
  rcases h with rfl | ⟨b, off, rfl, hlt, hc⟩
  · simp at hi
  · exact ⟨b, off, rfl, hlt, fun j hj => hc i j hi hj⟩
/-- The tokens ts lie in the block g, which is the call's own; their places may have been changed. -/
def Mo (base : Nat) (w : World) (a : Option Addr) (ts : List TA) : Prop :=
  ∀ i, i < ts.length → ∃ g, a = some ⟨g, 0, none⟩ ∧ base ≤ g ∧ g < w.heap.size ∧ (∀ k, k < 6 → w.cell? ⟨g, i * 7 + k, none⟩ = (cl7 (ts.getD i ta0))[k]?) ∧ (∃ z : Int, w.cell? ⟨g, i * 7 + 6, none⟩ = some (.int .i64 z)) ∧ ∀ o, w.frozen? ⟨g, o, none⟩ = false
theorem Mo.below {base : Nat} {w w' : World} {a : Option Addr} {ts : List TA} (h : Mo base w a ts) (hb : Below w.heap.size w w') : Mo base w' a ts := by
  intro i hi
  obtain ⟨g, h1, h2, h3, h4, ⟨z, h5⟩, h6⟩ := h i hi
  exact ⟨g, h1, h2, Nat.lt_of_lt_of_le h3 hb.size, fun k hk => ((bcell hb).1 _ _ h3).trans (h4 k hk), ⟨z, ((bcell hb).1 _ _ h3).trans h5⟩, fun o => ((bcell hb).2 _ _ h3).trans (h6 o)⟩
theorem Mo.new {base : Nat} {w : World} {v : Value} {ts : List TA} (h : OwnK 34 w base v ts) : ∃ a cap, v = .slice a ts.length cap ∧ ts.length ≤ cap ∧ cap ≤ 9223372036854775807 ∧ Mo base w a ts := by
  by_cases hn : ts = []
  · subst hn
    obtain ⟨a, cap, h1, -, -, h4, h5, -⟩ := h.view
    exact ⟨a, cap, h1, h4, h5, fun i hi => by simp at hi⟩
  · obtain ⟨g, cap, h1, h2, h3, h4, h5, h6⟩ := h.at hn
    refine ⟨_, cap, h1, h2, h3, fun i hi => ⟨g, rfl, h4, h5, fun k hk => h6 i k hi (by omega), ⟨_, h6 i 6 hi (by decide)⟩, fun o => ?_⟩⟩
    have h' := h
    unfold OwnK at h'
    rcases h'.2 with ⟨e, h0⟩ | ⟨g', cap', cur, e, hb, hg, _⟩
    · exact absurd (List.eq_nil_of_length_eq_zero h0) hn
    · rw [h1] at e
      obtain ⟨e1, -, -⟩ := Value.slice.inj e
      have : g = g' := by simpa using e1
      subst this
      simp [World.frozen?, hg]
theorem Mo.set {base : Nat} {w : World} {a : Option Addr} {ts : List TA} (h : Mo base w a ts) {g : Nat} (hg : a = some ⟨g, 0, none⟩) (i : Nat) (z : Int) : Mo base (w.setCell ⟨g, i * 7 + 6, none⟩ (.int .i64 z)) a ts := by
  intro j hj
  obtain ⟨g', h1, h2, h3, h4, ⟨z', h5⟩, h6⟩ := h j hj
  rw [hg] at h1
  obtain rfl : g = g' := by simpa using h1
  refine ⟨g, hg, h2, by simpa [World.setCell] using h3, fun k hk => ?_, ?_, fun o => by rw [World.frozen?_setCell]; exact h6 o⟩
  · rw [World.cell?_setCell_other _ _ _ _ (by intro e; simp at e <;> omega)]; exact h4 k hk
  · by_cases e : i = j
    · subst e; exact ⟨z, World.cell?_setCell_same _ _ _ h5⟩
    · exact ⟨z', by rw [World.cell?_setCell_other _ _ _ _ (by intro e'; simp at e' <;> omega)]; exact h5⟩
/-- The tokens ts lie at a, in blocks ahead of base. -/
def Lo (base : Nat) (w : World) (a : Option Addr) (ts : List TA) : Prop := TV w a ts ∧ ∀ x, a = some x → x.block < base
theorem Lo.below {base : Nat} {w w' : World} {a : Option Addr} {ts : List TA} (h : Lo base w a ts) (hb : Below w.heap.size w w') : Lo base w' a ts := ⟨h.1.below hb, h.2⟩
theorem Lo.set {base : Nat} {w : World} {a : Option Addr} {ts : List TA} (h : Lo base w a ts) {g o : Nat} (hg : base ≤ g) (v : Value) : Lo base (w.setCell ⟨g, o, none⟩ v) a ts := by
  refine ⟨?_, h.2⟩
  rcases h.1 with h0 | ⟨b, off, e, hlt, hc⟩
  · exact .inl h0
  · have hb := h.2 _ e
    simp at hb
    exact .inr ⟨b, off, e, by simpa [World.setCell] using hlt, fun i j hi hj => by rw [World.cell?_setCell_other _ _ _ _ (by intro e; simp at e <;> omega)]; exact hc i j hi hj⟩
theorem back_step {ts : List TA} {i : Nat} (h : i < ts.length) : backL ((ts.drop i).map Prod.fst) = txtL (ts.getD i ta0).1 ++ (if (ts.getD i ta0).1.k = 7 then [] else [32]) ++ backL ((ts.drop (i + 1)).map Prod.fst) := by
  have hxe : ts[i] = ts.getD i ta0 := by rw [List.getD_eq_getElem?_getD, List.getElem?_eq_getElem h]; rfl
  rw [List.drop_eq_getElem_cons h, hxe, List.map_cons, backL]
  split <;> simp
theorem fst_at {ts us : List TA} (h : us.map Prod.fst = ts.map Prod.fst) (i : Nat) (hi : i < ts.length) : (us.getD i ta0).1 = (ts.getD i ta0).1 := by
  have hl : us.length = ts.length := by have := congrArg List.length h; simpa using this
  have h2 := congrArg (fun l => l[i]?) h
  simp only [List.getElem?_map] at h2
  rw [List.getElem?_eq_getElem (by omega), List.getElem?_eq_getElem hi] at h2
  rw [List.getD_eq_getElem?_getD, List.getD_eq_getElem?_getD, List.getElem?_eq_getElem (by omega), List.getElem?_eq_getElem hi]
  simpa using h2
theorem app_list (a b : ByteArray) : (a ++ b : ByteArray).data.toList = a.data.toList ++ b.data.toList := by simp
theorem app_size (a b : ByteArray) : (a ++ b : ByteArray).size = a.size + b.size := by rw [← lenL, app_list, List.length_append, lenL, lenL]
set_option maxHeartbeats 1600000 in
theorem walk_a (s0 : ByteArray) (w : World) (hV : Vars w) (w0 : s0.size ≤ maxLen) (h : 2000 < s0.size) : Calls Tryd.prog 5 #[.string s0] w fun e w' => e = .returned (.bool true) ∧ Below w.heap.size w w' := by
  have HA := awake_any
  have hz : (2000 : Int) < s0.size := by omega
  go_enter Tryd.func5, Tryd.ntmps5
  go_wp2_with (first | (go_at_call 8; refine (HA _ hV).mono ?_; rintro e wz ⟨rfl, bz⟩; clear HA))
  go_ret
  exact ⟨rfl, bz⟩
set_option maxHeartbeats 16000000 in
theorem walk_d (s0 : ByteArray) (w : World) (hV : Vars w) (w0 : s0.size ≤ maxLen) (h : ¬ 2000 < s0.size) : Calls Tryd.prog 5 #[.string s0] w fun e w' => e = .returned (.bool true) ∧ Below w.heap.size w w' := by
  have HA := awake_any
  have hz : ¬ (2000 : Int) < s0.size := by omega
  have C1 := fun W hv => scan_any s0 W (by omega) hv
  have HTok : Hid (∀ x ∈ (scanL s0.data.toList).1, IsTok x.1) := fun x hx => scan_tok hx
  have HBs : Hid ((backL ((scanL s0.data.toList).1.map Prod.fst)).length ≤ 4000) := by
    show _ ≤ _
    have := back_short s0.data.toList
    rw [lenL] at this; omega
  obtain ⟨hbk1, hbk2⟩ := scan_back s0.data.toList
  generalize scanL s0.data.toList = S at *
  obtain ⟨ts, pl, er⟩ := S
  dsimp only at C1 HTok HBs hbk1 hbk2
  have HK1 : Hid ((scanL (backL (ts.map Prod.fst))).1.map Prod.fst = ts.map Prod.fst) := hbk1
  have HK2 : Hid ((scanL (backL (ts.map Prod.fst))).2 = (0, 0)) := hbk2
  clear hbk1 hbk2
  go_enter Tryd.func5, Tryd.ntmps5
  go_wp2_with (first | (go_at_call 9; refine (C1 _ hV).mono ?_; rintro e w1 ⟨v1, rfl, ho1, hb1⟩; clear C1; obtain ⟨a1, c1, rfl, n1, t1, l1, m1, g1⟩ := ho1.view; clear ho1))
  have T1 : Hid (Lo w1.heap.size w1 a1 ts) := ⟨t1, fun x hx => by
    rcases g1 with rfl | ⟨b, rfl, _, hb⟩
    · cases hx
    · obtain rfl := Option.some.inj hx; exact hb⟩
  have B1 : Hid (Below w.heap.size w w1) := hb1
  have V1 : Hid (Vars w1) := hV.below hb1
  have VW : Hid (Vars w) := hV
  have hnn : (ts.length : Int) ≤ 9223372036854775807 := by omega
  clear t1 hb1 g1 hV n1
  go_loopw [6, 7] (fun v6 v7 wr => ∃ (i : Nat) (s : ByteArray), v7 = .int .i64 i ∧ v6 = .string s ∧ i ≤ ts.length ∧ s.data.toList ++ backL ((ts.drop i).map Prod.fst) = backL (ts.map Prod.fst) ∧ Below w1.heap.size w1 wr) (fun _ v7 _ => (ts.length - intOf v7).toNat)
  case atStart => exact ⟨0, ⟨#[]⟩, rfl, rfl, Nat.zero_le _, by simp, Below.refl _ _⟩
  case round =>
    obtain ⟨i, s, rfl, rfl, hi, hbk, hbr⟩ := hrel
    have VR : Hid (Vars wr) := V1.out.below hbr
    have BR : Hid (Below w.heap.size w wr) := bt B1.out hbr
    have HB : Hid (s.data.toList ++ backL ((ts.drop i).map Prod.fst) = backL (ts.map Prod.fst)) := hbk
    have hss : s.size ≤ 4000 := by
      have := HBs.out
      rw [← hbk, List.length_append, lenL] at this; omega
    clear hbk
    by_cases hlt : i < ts.length
    · have hiz : (i : Int) < ts.length := by omega
      obtain ⟨g1, o1, rfl, hg1, hqq⟩ := rowAt (T1.out.below hbr).1 hlt
      have hmem := List.getElem_mem hlt
      have hx := HTok.out _ hmem
      have hxe : ts[i] = ts.getD i ta0 := by rw [List.getD_eq_getElem?_getD, List.getElem?_eq_getElem hlt]; rfl
      have hst := back_step hlt
      rw [hxe] at hx
      have HB2 := HB.out
      rw [hst] at HB2
      generalize ts.getD i ta0 = x at *
      have hB := tok_b hx
      have htt := tok_text hx
      have hts := txt_short hx
      have CT : ∀ W, Vars W → Calls Tryd.prog 11 #[.agg #[.int .u8 x.1.k, .string (st x.1.nm), .int .u8 x.1.p, .int .u8 x.1.vk, .int .i64 x.1.vn, .string (st x.1.vs), .int .i64 x.2]] W fun e w' => e = .returned (.string (ttS x.1.k (st x.1.nm) x.1.p x.1.vk x.1.vn (st x.1.vs))) ∧ Below W.heap.size W w' := fun W hv => ltext_any _ _ _ _ _ _ _ W hB.k.1 hB.k.2 (by rw [st_size]; have := hB.nm; omega) hB.vk.1 hB.vk.2 (by rw [st_size]; have := hB.vs; omega) hv
      generalize ttS x.1.k (st x.1.nm) x.1.p x.1.vk x.1.vn (st x.1.vs) = tx at *
      rw [← htt] at hts HB2
      rw [lenL] at hts
      have hk1 : ¬ 9223372036854775807 < s.size + tx.size := by omega
      have hk2 : ¬ 9223372036854775807 < (s ++ tx).size + 1 := by rw [app_size]; omega
      have hk3 : ¬ 9223372036854775807 < s.size + tx.size + 1 := by omega
      have q0 : wr.cell? ⟨g1, o1 + i * 7, none⟩ = some (.int .u8 x.1.k) := hqq 0 (by decide)
      have q1 : wr.cell? ⟨g1, o1 + i * 7 + 1, none⟩ = some (.string (st x.1.nm)) := hqq 1 (by decide)
      have q2 : wr.cell? ⟨g1, o1 + i * 7 + 2, none⟩ = some (.int .u8 x.1.p) := hqq 2 (by decide)
      have q3 : wr.cell? ⟨g1, o1 + i * 7 + 3, none⟩ = some (.int .u8 x.1.vk) := hqq 3 (by decide)
      have q4 : wr.cell? ⟨g1, o1 + i * 7 + 4, none⟩ = some (.int .i64 x.1.vn) := hqq 4 (by decide)
      have q5 : wr.cell? ⟨g1, o1 + i * 7 + 5, none⟩ = some (.string (st x.1.vs)) := hqq 5 (by decide)
      have q6 : wr.cell? ⟨g1, o1 + i * 7 + 6, none⟩ = some (.int .i64 x.2) := hqq 6 (by decide)
      have SL : Hid (∀ W, Below wr.heap.size wr W → ∀ j, j < 7 → W.cell? ⟨g1, o1 + (i * 7 + j), none⟩ = (cl7 x)[j]?) := fun W hW j hj => (hW.cell (p := ⟨g1, o1 + (i * 7 + j), none⟩) hg1).trans (hqq j hj)
      have CT1 := CT wr VR.out
      by_cases h7 : x.1.k = 7
      · have m7 : (x.1.k == 7) = true := by rw [h7]; rfl
        rw [if_pos h7] at HB2
        have HX : Hid ((s ++ tx : ByteArray).data.toList ++ backL ((ts.drop (i + 1)).map Prod.fst) = backL (ts.map Prod.fst)) := by show _ = _; rw [app_list, ← HB2]; simp
        clear h7 HB2 hqq hxe hB CT htt hst HB hx hmem
        go_wp2_with (first | (go_at_call 11; refine CT1.mono ?_; rintro e w2 ⟨rfl, hb2⟩; clear CT1 q0 q1 q2 q3 q4 q5 q6; have e1 := SL.out _ hb2; have q0 : w2.cell? ⟨g1, o1 + i * 7, none⟩ = some (.int .u8 x.1.k) := e1 0 (by decide); have q1 : w2.cell? ⟨g1, o1 + i * 7 + 1, none⟩ = some (.string (st x.1.nm)) := e1 1 (by decide); have q2 : w2.cell? ⟨g1, o1 + i * 7 + 2, none⟩ = some (.int .u8 x.1.p) := e1 2 (by decide); have q3 : w2.cell? ⟨g1, o1 + i * 7 + 3, none⟩ = some (.int .u8 x.1.vk) := e1 3 (by decide); have q4 : w2.cell? ⟨g1, o1 + i * 7 + 4, none⟩ = some (.int .i64 x.1.vn) := e1 4 (by decide); have q5 : w2.cell? ⟨g1, o1 + i * 7 + 5, none⟩ = some (.string (st x.1.vs)) := e1 5 (by decide); have q6 : w2.cell? ⟨g1, o1 + i * 7 + 6, none⟩ = some (.int .i64 x.2) := e1 6 (by decide); clear e1))
        go_roundw
        case rel => exact ⟨i + 1, s ++ tx, by simp, by simp, by omega, HX.out, bt hbr hb2⟩
        case measure => simp [intOf]; omega
      · have m7 : (x.1.k == 7) = false := by rw [beq_eq_false_iff_ne]; exact h7
        rw [if_neg h7] at HB2
        have HX : Hid ((s ++ tx ++ ⟨#[32]⟩ : ByteArray).data.toList ++ backL ((ts.drop (i + 1)).map Prod.fst) = backL (ts.map Prod.fst)) := by show _ = _; rw [app_list, app_list, ← HB2]; simp
        clear h7 HB2 hqq hxe hB CT htt hst HB hx hmem
        go_wp2_with (first | (go_at_call 11; refine CT1.mono ?_; rintro e w2 ⟨rfl, hb2⟩; clear CT1 q0 q1 q2 q3 q4 q5 q6; have e1 := SL.out _ hb2; have q0 : w2.cell? ⟨g1, o1 + i * 7, none⟩ = some (.int .u8 x.1.k) := e1 0 (by decide); have q1 : w2.cell? ⟨g1, o1 + i * 7 + 1, none⟩ = some (.string (st x.1.nm)) := e1 1 (by decide); have q2 : w2.cell? ⟨g1, o1 + i * 7 + 2, none⟩ = some (.int .u8 x.1.p) := e1 2 (by decide); have q3 : w2.cell? ⟨g1, o1 + i * 7 + 3, none⟩ = some (.int .u8 x.1.vk) := e1 3 (by decide); have q4 : w2.cell? ⟨g1, o1 + i * 7 + 4, none⟩ = some (.int .i64 x.1.vn) := e1 4 (by decide); have q5 : w2.cell? ⟨g1, o1 + i * 7 + 5, none⟩ = some (.string (st x.1.vs)) := e1 5 (by decide); have q6 : w2.cell? ⟨g1, o1 + i * 7 + 6, none⟩ = some (.int .i64 x.2) := e1 6 (by decide); clear e1))
        go_roundw
        case rel => exact ⟨i + 1, s ++ tx ++ ⟨#[32]⟩, by simp, by simp, by omega, HX.out, bt hbr hb2⟩
        case measure => simp [intOf]; omega
    · have hiz : ¬ (i : Int) < ts.length := by omega
      have hsl : s.data.toList = backL (ts.map Prod.fst) := by
        have := HB.out
        rw [List.drop_eq_nil_of_le (by omega)] at this
        rw [← this]; simp [backL]
      have C2 := fun W hv => scan_any s W (by omega) hv
      rw [hsl] at C2
      have HK1' := HK1.out
      have HK2' := HK2.out
      generalize scanL (backL (ts.map Prod.fst)) = S2 at *
      obtain ⟨us, p2, e2⟩ := S2
      dsimp only at C2 HK1' HK2'
      obtain ⟨rfl, rfl⟩ := Prod.mk.inj HK2'
      have HU : Hid (us.map Prod.fst = ts.map Prod.fst) := HK1'
      have hul : us.length = ts.length := by have := congrArg List.length HK1'; simpa using this
      obtain ⟨wo, hwo⟩ : ∃ wo, wo = wr := ⟨_, rfl⟩
      subst hwo
      clear HK1 HK2 HK1' HK2' hsl HB
      have VO : Hid (Vars wo) := V1.out.below hbr
      have BO : Hid (Below w.heap.size w wo) := BR.out
      have TO : Hid (Lo wo.heap.size wo a1 ts) := ⟨(T1.out.below hbr).1, fun x hx => Nat.lt_of_lt_of_le (T1.out.2 x hx) hbr.size⟩
      have hlz : ((us.length : Int) == ts.length) = true := by rw [hul]; simp
      have C3 : ∀ W, Vars W → Calls Tryd.prog 9 #[.string s] W fun e w' => ∃ a c, e = .returned (.tuple #[.slice a ts.length c, .int .i64 0, .int .i64 0]) ∧ ts.length ≤ c ∧ c ≤ 9223372036854775807 ∧ Mo W.heap.size w' a us ∧ Below W.heap.size W w' := fun W hv => (C2 W hv).mono (by
        rintro e w' ⟨v, rfl, ho, hb⟩
        obtain ⟨a, c, rfl, h1, h2, h3⟩ := Mo.new ho
        rw [hul] at h1 ⊢
        exact ⟨a, c, rfl, h1, h2, h3, hb⟩)
      clear C2 hlz
      by_cases hn0 : ts.length = 0
      · have hnz : ¬ (0 : Int) < ts.length := by omega
        go_wp2_with (first | (go_at_call 9; refine (C3 _ VO.out).mono ?_; rintro e w2 ⟨a2, c2, rfl, l2, m2, hM, hb2⟩; clear C3))
        have B2 : Hid (Below w.heap.size w w2) := bt BO.out hb2
        go_loopw [11] (fun v wr => ∃ i : Nat, v = .int .i64 i ∧ Below w.heap.size w wr) (fun v _ => (ts.length - intOf v).toNat)
        case atStart => exact ⟨0, rfl, B2.out⟩
        case round =>
          obtain ⟨k, rfl, hbk⟩ := hrel
          have hkz : ¬ (k : Int) < ts.length := by omega
          go_wp2_with (first | (go_at_call 8; refine (HA _ (VW.out.below hbk)).mono ?_; rintro e wz ⟨rfl, bz⟩; clear HA))
          go_ret
          exact ⟨rfl, bt hbk bz⟩
      · have hnz : (0 : Int) < ts.length := by omega
        obtain ⟨g1, o1, rfl, hg1, hqq⟩ := rowAt TO.out.1 (show ts.length - 1 < ts.length by omega)
        have hn1 : ((ts.length : Int) - 1).toNat = ts.length - 1 := by omega
        have hn2 : (ts.length : Int) - 1 < ts.length := by omega
        have hn3 : (0 : Int) ≤ (ts.length : Int) - 1 := by omega
        have HQ0 : Hid (∀ W, Below wo.heap.size wo W → W.cell? ⟨g1, o1 + (ts.length - 1) * 7, none⟩ = some (.int .u8 (ts.getD (ts.length - 1) ta0).1.k)) := fun W hW => (hW.cell (p := ⟨g1, o1 + (ts.length - 1) * 7, none⟩) hg1).trans (hqq 0 (by decide))
        generalize (ts.getD (ts.length - 1) ta0).1.k = kk at *
        clear hqq
        by_cases h7 : kk = 7
        · have m7 : (kk == 7) = true := by rw [h7]; rfl
          clear h7
          go_wp2_with (first | (go_at_call 9; refine (C3 _ VO.out).mono ?_; rintro e w2 ⟨a2, c2, rfl, l2, m2, hM, hb2⟩; clear C3; have q0 := HQ0.out _ hb2) | (go_at_call 8; refine (HA _ (VO.out.below hb2)).mono ?_; rintro e wz ⟨rfl, bz⟩; clear HA))
          go_ret
          exact ⟨rfl, bt (bt BO.out hb2) bz⟩
        · have m7 : (kk == 7) = false := by rw [beq_eq_false_iff_ne]; exact h7
          clear h7
          go_wp2_with (first | (go_at_call 9; refine (C3 _ VO.out).mono ?_; rintro e w2 ⟨a2, c2, rfl, l2, m2, hM, hb2⟩; clear C3; have q0 := HQ0.out _ hb2))
          have T2 : Hid (Lo wo.heap.size w2 (some ⟨g1, o1, none⟩) ts) := TO.out.below hb2
          have M2 : Hid (Mo wo.heap.size w2 a2 us) := hM
          have B2 : Hid (Below w.heap.size w w2) := bt BO.out hb2
          have hwo : w.heap.size ≤ wo.heap.size := BO.out.size
          clear hM HQ0 q0 m7 TO hg1
          go_loopw [11] (fun v wr => ∃ i : Nat, v = .int .i64 i ∧ i ≤ ts.length ∧ Lo wo.heap.size wr (some ⟨g1, o1, none⟩) ts ∧ Mo wo.heap.size wr a2 us ∧ Below w.heap.size w wr) (fun v _ => (ts.length - intOf v).toNat)
          case atStart => exact ⟨0, rfl, Nat.zero_le _, T2.out, M2.out, B2.out⟩
          case round =>
            obtain ⟨k, rfl, hk, hLo, hMo, hbk⟩ := hrel
            by_cases hlt : k < ts.length
            · have hkz : (k : Int) < ts.length := by omega
              obtain ⟨g1', o1', e1, hg1, hqq⟩ := rowAt hLo.1 hlt
              obtain ⟨rfl, rfl⟩ : g1 = g1' ∧ o1 = o1' := by simp at e1; exact e1
              obtain ⟨g2, rfl, hgb, hg2, hm6, ⟨z, hz6⟩, hfz⟩ := hMo k (by omega)
              have hfs := fst_at HU.out k hlt
              obtain ⟨y, hy⟩ : ∃ y, us.getD k ta0 = y := ⟨_, rfl⟩
              rw [hy] at hfs hm6
              have hgg : g1 ≠ g2 := by have := hLo.2 _ rfl; simp at this; omega
              generalize ts.getD k ta0 = x at *
              have hcl : ∀ j, j < 6 → (cl7 y)[j]? = (cl7 x)[j]? := by
                intro j hj
                unfold cl7
                rw [hfs]
                obtain h | h | h | h | h | h : j = 0 ∨ j = 1 ∨ j = 2 ∨ j = 3 ∨ j = 4 ∨ j = 5 := by omega
                all_goals (subst h; rfl)
              have hm7 : ∀ j, j < 6 → wr.cell? ⟨g2, k * 7 + j, none⟩ = (cl7 x)[j]? := fun j hj => (hm6 j hj).trans (hcl j hj)
              have q0 : wr.cell? ⟨g1, o1 + k * 7, none⟩ = some (.int .u8 x.1.k) := hqq 0 (by decide)
              have q1 : wr.cell? ⟨g1, o1 + k * 7 + 1, none⟩ = some (.string (st x.1.nm)) := hqq 1 (by decide)
              have q2 : wr.cell? ⟨g1, o1 + k * 7 + 2, none⟩ = some (.int .u8 x.1.p) := hqq 2 (by decide)
              have q3 : wr.cell? ⟨g1, o1 + k * 7 + 3, none⟩ = some (.int .u8 x.1.vk) := hqq 3 (by decide)
              have q4 : wr.cell? ⟨g1, o1 + k * 7 + 4, none⟩ = some (.int .i64 x.1.vn) := hqq 4 (by decide)
              have q5 : wr.cell? ⟨g1, o1 + k * 7 + 5, none⟩ = some (.string (st x.1.vs)) := hqq 5 (by decide)
              have q6 : wr.cell? ⟨g1, o1 + k * 7 + 6, none⟩ = some (.int .i64 x.2) := hqq 6 (by decide)
              have hf6 := hfz (k * 7 + 6)
              have LS : Hid (Lo wo.heap.size (wr.setCell ⟨g2, k * 7 + 6, none⟩ (.int .i64 x.2)) (some ⟨g1, o1, none⟩) ts) := hLo.set hgb _
              have MS : Hid (Mo wo.heap.size (wr.setCell ⟨g2, k * 7 + 6, none⟩ (.int .i64 x.2)) (some ⟨g2, 0, none⟩) us) := hMo.set rfl k x.2
              have BS : Hid (Below w.heap.size w (wr.setCell ⟨g2, k * 7 + 6, none⟩ (.int .i64 x.2))) := hbk.setCell (show w.heap.size ≤ g2 by omega) _
              have SL0 : Hid ((∀ j, j < 7 → (wr.setCell ⟨g2, k * 7 + 6, none⟩ (.int .i64 x.2)).cell? ⟨g1, o1 + (k * 7 + j), none⟩ = (cl7 x)[j]?) ∧ (∀ j, j < 7 → (wr.setCell ⟨g2, k * 7 + 6, none⟩ (.int .i64 x.2)).cell? ⟨g2, k * 7 + j, none⟩ = (cl7 x)[j]?)) := by
                refine ⟨fun j hj => ?_, fun j hj => ?_⟩
                · rw [World.cell?_setCell_other _ _ _ _ (by intro e; exact hgg (congrArg Addr.block e).symm)]; exact hqq j hj
                · by_cases h6 : j = 6
                  · subst h6; rw [World.cell?_setCell_same _ _ _ hz6]; rfl
                  · rw [World.cell?_setCell_other _ _ _ _ (by intro e; simp at e <;> omega)]; exact hm7 j (by omega)
              have hg1s : g1 < (wr.setCell ⟨g2, k * 7 + 6, none⟩ (.int .i64 x.2)).heap.size := by simpa [World.setCell] using hg1
              have hg2s : g2 < (wr.setCell ⟨g2, k * 7 + 6, none⟩ (.int .i64 x.2)).heap.size := by simpa [World.setCell] using hg2
              clear hm6 hcl hm7 hqq hMo hLo hfz hy
              go_wp2_with fail
              generalize wr.setCell ⟨g2, k * 7 + 6, none⟩ (.int .i64 x.2) = W0 at *
              have SL : Hid (∀ W, Below W0.heap.size W0 W → (∀ j, j < 7 → W.cell? ⟨g1, o1 + (k * 7 + j), none⟩ = (cl7 x)[j]?) ∧ (∀ j, j < 7 → W.cell? ⟨g2, k * 7 + j, none⟩ = (cl7 x)[j]?)) := fun W hW => ⟨fun j hj => (hW.cell (p := ⟨g1, o1 + (k * 7 + j), none⟩) hg1s).trans (SL0.out.1 j hj), fun j hj => (hW.cell (p := ⟨g2, k * 7 + j, none⟩) hg2s).trans (SL0.out.2 j hj)⟩
              clear SL0 q0 q1 q2 q3 q4 q5 q6
              refine wp_region_noPanic ?_
              refine name_ops ?_
              intro O QQ HO HQ
              refine wp_region_held_drew (S := fun W => Below W0.heap.size W0 W) (by kernel_rfl) (Below.refl _ _).drew (fun hS => ?_)
              rw [show O.size = 9 by rw [HO.out]; rfl]
              refine wpAnyH_take (i := 0) (v := .slice (some ⟨g2, 0, none⟩) ts.length c2) (by rw [HO.out]; simp only [List.getElem?_toArray, List.getElem?_cons_succ, List.getElem?_cons_zero]; rfl) (by rw [HO.out]; kernel_rfl) (by rw [HO.out]; kernel_rfl) (by rw [HO.out]; kernel_rfl) (by rw [HQ.out]; exact fun _ _ _ h => h) (Or.inl ⟨by first | rfl | (rw [HO.out]; kernel_rfl), ?_⟩) hS ?_
              · intro w' hSw
                go_simp
              try simp only [Act.put, List.setIfInBounds_toArray, List.set_cons_zero, List.set_cons_succ]
              refine wpAnyH_take (i := 1) (v := .int .i64 k) (by rw [HO.out]; simp only [List.getElem?_toArray, List.getElem?_cons_succ, List.getElem?_cons_zero]; rfl) (by rw [HO.out]; kernel_rfl) (by rw [HO.out]; kernel_rfl) (by rw [HO.out]; kernel_rfl) (by rw [HQ.out]; exact fun _ _ _ h => h) (Or.inl ⟨by first | rfl | (rw [HO.out]; kernel_rfl), ?_⟩) hS ?_
              · intro w' hSw
                go_simp
              try simp only [Act.put, List.setIfInBounds_toArray, List.set_cons_zero, List.set_cons_succ]
              refine wpAnyH_take (i := 2) (v := .pointer (some ⟨g2, k * 7, none⟩)) (by rw [HO.out]; simp only [List.getElem?_toArray, List.getElem?_cons_succ, List.getElem?_cons_zero]; rfl) (by rw [HO.out]; kernel_rfl) (by rw [HO.out]; kernel_rfl) (by rw [HO.out]; kernel_rfl) (by rw [HQ.out]; exact fun _ _ _ h => h) (Or.inl ⟨by first | rfl | (rw [HO.out]; kernel_rfl), ?_⟩) hS ?_
              · intro w' hSw
                go_simp
              try simp only [Act.put, List.setIfInBounds_toArray, List.set_cons_zero, List.set_cons_succ]
              refine wpAnyH_take (i := 3) (v := .agg #[.int .u8 x.1.k, .string (st x.1.nm), .int .u8 x.1.p, .int .u8 x.1.vk, .int .i64 x.1.vn, .string (st x.1.vs), .int .i64 x.2]) (by rw [HO.out]; simp only [List.getElem?_toArray, List.getElem?_cons_succ, List.getElem?_cons_zero]; rfl) (by rw [HO.out]; kernel_rfl) (by rw [HO.out]; kernel_rfl) (by rw [HO.out]; kernel_rfl) (by rw [HQ.out]; exact fun _ _ _ h => h) (Or.inl ⟨by first | rfl | (rw [HO.out]; kernel_rfl), ?_⟩) hS ?_
              · intro w' hSw
                obtain ⟨e1, e2⟩ := SL.out _ hSw
                have q0 : w'.cell? ⟨g2, k * 7, none⟩ = some (.int .u8 x.1.k) := e2 0 (by decide)
                have q1 : w'.cell? ⟨g2, k * 7 + 1, none⟩ = some (.string (st x.1.nm)) := e2 1 (by decide)
                have q2 : w'.cell? ⟨g2, k * 7 + 2, none⟩ = some (.int .u8 x.1.p) := e2 2 (by decide)
                have q3 : w'.cell? ⟨g2, k * 7 + 3, none⟩ = some (.int .u8 x.1.vk) := e2 3 (by decide)
                have q4 : w'.cell? ⟨g2, k * 7 + 4, none⟩ = some (.int .i64 x.1.vn) := e2 4 (by decide)
                have q5 : w'.cell? ⟨g2, k * 7 + 5, none⟩ = some (.string (st x.1.vs)) := e2 5 (by decide)
                have q6 : w'.cell? ⟨g2, k * 7 + 6, none⟩ = some (.int .i64 x.2) := e2 6 (by decide)
                clear e1 e2
                go_simp
              try simp only [Act.put, List.setIfInBounds_toArray, List.set_cons_zero, List.set_cons_succ]
              refine wpAnyH_take (i := 4) (v := .slice (some ⟨g1, o1, none⟩) ts.length c1) (by rw [HO.out]; simp only [List.getElem?_toArray, List.getElem?_cons_succ, List.getElem?_cons_zero]; rfl) (by rw [HO.out]; kernel_rfl) (by rw [HO.out]; kernel_rfl) (by rw [HO.out]; kernel_rfl) (by rw [HQ.out]; exact fun _ _ _ h => h) (Or.inl ⟨by first | rfl | (rw [HO.out]; kernel_rfl), ?_⟩) hS ?_
              · intro w' hSw
                go_simp
              try simp only [Act.put, List.setIfInBounds_toArray, List.set_cons_zero, List.set_cons_succ]
              refine wpAnyH_take (i := 5) (v := .int .i64 k) (by rw [HO.out]; simp only [List.getElem?_toArray, List.getElem?_cons_succ, List.getElem?_cons_zero]; rfl) (by rw [HO.out]; kernel_rfl) (by rw [HO.out]; kernel_rfl) (by rw [HO.out]; kernel_rfl) (by rw [HQ.out]; exact fun _ _ _ h => h) (Or.inl ⟨by first | rfl | (rw [HO.out]; kernel_rfl), ?_⟩) hS ?_
              · intro w' hSw
                go_simp
              try simp only [Act.put, List.setIfInBounds_toArray, List.set_cons_zero, List.set_cons_succ]
              refine wpAnyH_take (i := 6) (v := .pointer (some ⟨g1, o1 + k * 7, none⟩)) (by rw [HO.out]; simp only [List.getElem?_toArray, List.getElem?_cons_succ, List.getElem?_cons_zero]; rfl) (by rw [HO.out]; kernel_rfl) (by rw [HO.out]; kernel_rfl) (by rw [HO.out]; kernel_rfl) (by rw [HQ.out]; exact fun _ _ _ h => h) (Or.inl ⟨by first | rfl | (rw [HO.out]; kernel_rfl), ?_⟩) hS ?_
              · intro w' hSw
                go_simp
              try simp only [Act.put, List.setIfInBounds_toArray, List.set_cons_zero, List.set_cons_succ]
              refine wpAnyH_take (i := 7) (v := .agg #[.int .u8 x.1.k, .string (st x.1.nm), .int .u8 x.1.p, .int .u8 x.1.vk, .int .i64 x.1.vn, .string (st x.1.vs), .int .i64 x.2]) (by rw [HO.out]; simp only [List.getElem?_toArray, List.getElem?_cons_succ, List.getElem?_cons_zero]; rfl) (by rw [HO.out]; kernel_rfl) (by rw [HO.out]; kernel_rfl) (by rw [HO.out]; kernel_rfl) (by rw [HQ.out]; exact fun _ _ _ h => h) (Or.inl ⟨by first | rfl | (rw [HO.out]; kernel_rfl), ?_⟩) hS ?_
              · intro w' hSw
                obtain ⟨e1, e2⟩ := SL.out _ hSw
                have q0 : w'.cell? ⟨g1, o1 + k * 7, none⟩ = some (.int .u8 x.1.k) := e1 0 (by decide)
                have q1 : w'.cell? ⟨g1, o1 + k * 7 + 1, none⟩ = some (.string (st x.1.nm)) := e1 1 (by decide)
                have q2 : w'.cell? ⟨g1, o1 + k * 7 + 2, none⟩ = some (.int .u8 x.1.p) := e1 2 (by decide)
                have q3 : w'.cell? ⟨g1, o1 + k * 7 + 3, none⟩ = some (.int .u8 x.1.vk) := e1 3 (by decide)
                have q4 : w'.cell? ⟨g1, o1 + k * 7 + 4, none⟩ = some (.int .i64 x.1.vn) := e1 4 (by decide)
                have q5 : w'.cell? ⟨g1, o1 + k * 7 + 5, none⟩ = some (.string (st x.1.vs)) := e1 5 (by decide)
                have q6 : w'.cell? ⟨g1, o1 + k * 7 + 6, none⟩ = some (.int .i64 x.2) := e1 6 (by decide)
                clear e1 e2
                go_simp
              try simp only [Act.put, List.setIfInBounds_toArray, List.set_cons_zero, List.set_cons_succ]
              refine wpAnyH_take (i := 8) (v := .bool false) (by rw [HO.out]; simp only [List.getElem?_toArray, List.getElem?_cons_succ, List.getElem?_cons_zero]; rfl) (by rw [HO.out]; kernel_rfl) (by rw [HO.out]; kernel_rfl) (by rw [HO.out]; kernel_rfl) (by rw [HQ.out]; exact fun _ _ _ h => h) (Or.inl ⟨by first | rfl | (rw [HO.out]; kernel_rfl), ?_⟩) hS ?_
              · intro w' hSw
                go_simp
              try simp only [Act.put, List.setIfInBounds_toArray, List.set_cons_zero, List.set_cons_succ]
              refine wpAnyH_done (by rw [HO.out]; kernel_rfl) ?_ _
              rw [HQ.out]
              refine NoPanic.normal ?_
              go_wp2
              go_roundw
              case rel => exact ⟨k + 1, by simp, by omega, LS.out.below hS, MS.out.below hS, bt BS.out hS⟩
              case measure => simp [intOf]; omega
            · have hkz : ¬ (k : Int) < ts.length := by omega
              go_wp2_with (first | (go_at_call 8; refine (HA _ (VW.out.below hbk)).mono ?_; rintro e wz ⟨rfl, bz⟩; clear HA))
              go_ret
              exact ⟨rfl, bt hbk bz⟩
theorem walk (s0 : ByteArray) (w : World) (hV : Vars w) (w0 : s0.size ≤ maxLen) : Calls Tryd.prog 5 #[.string s0] w fun e w' => e = .returned (.bool true) ∧ Below w.heap.size w w' := by
  by_cases h : 2000 < s0.size
  · exact walk_a s0 w hV w0 h
  · exact walk_d s0 w hV w0 h
set_option maxRecDepth 100000 in
theorem lifted (os : Os) (started : os.Started) (H : Type) (enc : TypeId × Value → H) :
    ReturnsInHanded {} Tryd.checked os 5 .any (fun w args => (Rows.lexBackSpec.pre enc Tryd.prog Tryd.f5 Rows.lexBackRow.domain false w args ∧ laidMet Tryd.prog laids w) ∧ sizedMet enc Tryd.prog Tryd.f5 (OpenSpec.ofChange Rows.lexBackSpec) false w args)
      (Rows.lexBackSpec.post enc Tryd.prog Tryd.f5 false true false false) := by
  refine returnsInHanded_of_change_and (C := Tryd.checked) (X := fun w _ => laidMet Tryd.prog laids w) (fun _ _ _ hh h => h.of_heap hh) own started (by kernel_rfl) Tryd.func5
    (ChangeSpec.witness_at (enc := enc) (C := Tryd.checked) (os := os) (X := fun w _ => laidMet Tryd.prog laids w) false (laidWorld os) #[.string ByteArray.empty] 8 rfl (by kernel_rfl) (by kernel_rfl) (by kernel_rfl) (by kernel_rfl) (by kernel_rfl) (laidWorld_met os _)) ?_
  intro W base args ds gs before hval0 hW _ hsz0 hL _
  have hval : ∀ (j : Nat) t v, Tryd.f5.params[j]? = some t → args[j]? = some v → Value.okWide Tryd.prog W .any base t v := hval0
  have hW' := hW
  obtain ⟨p, q, hA0, hV, rfl, hfz, hnd⟩ := hW
  have hA : DataW.TrodAll enc Tryd.prog W 0 (fun _ => true) true Tryd.f5.params.toList args.toList ds p := hA0
  rw [Tryd.params5] at hA hval
  have hVars := vars_of hL
  obtain ⟨v0, vs0, d'0, ds0, q0, r'0, hargs, rfl, rfl, h0, r0⟩ := trodAll_cons hA
  obtain ⟨rfl, rfl, rfl⟩ := trodAll_nil r0
  obtain rfl : args = #[v0] := by cases args; simp_all
  obtain ⟨rfl, rfl⟩ := trodVars_none hV
  obtain ⟨s0, rfl, rfl, rfl, w0⟩ := Go.ChangeMaps.open_string Tryd.underlying9 (hval 0 9 v0 rfl rfl) h0
  clear hA0 hval0
  refine (walk s0 W hVars w0).mono fun e W' ⟨he, bel⟩ => ?_
  subst he
  exact ⟨_, rfl, _, _, _, [], _, [], hW', trodAll_mk1 (shut_bool Tryd.underlying4 _), (trodAll_cons_mk (Go.ChangeMaps.shut_string Tryd.underlying9 w0) trodAll_mk0), rfl, bel.frame _, fun h => by cases h⟩

theorem over : Rows.lexBackRow.holds Tryd.pinned (OpenSpec.ofChange Rows.lexBackSpec) :=
  OpenClaim.holds_of_wide 5 Tryd.f5 rfl rfl rfl rfl rfl rfl rfl ⟨rfl, rfl, rfl, rfl, rfl⟩ rfl rfl rfl rfl rfl (by kernel_rfl) Tryd.func5 (by kernel_rfl)
    (of_decide_eq_true (by kernel_rfl)) (by unfold Func.isWrapper; first | (rw [if_pos (by decide +kernel)]; kernel_rfl) | (rw [if_neg (by decide +kernel)]; exact ⟨rfl, rfl⟩))
    (fun os started H enc _ => lifted os started H enc)
theorem stand (j : Nat) (t : TypeId) (ht : Tryd.f5.params[j]? = some t) : Tryd.prog.wantsStandIn t = false := by
  rw [Tryd.params5] at ht
  rcases j with _ | j
  · obtain rfl : 9 = t := by simpa using ht
    kernel_rfl
  simp at ht
end Go.Proofs.YtglimefhiggdeaaDoor.lexBack

namespace Go.Proofs.YtglimefhiggdeaaDoor
theorem lexBack_holds : Rows.LexBackCardSaid :=
  Claim7.holds_tied_plain_at .later [] [.data, .data, .data, .data, .sentinel, .sentinel, .pinned] true (true, "62c4cb96e34a2f4dadd50a21420b8e5883497955c56b2fe545650bb9173c7b78") true
    lexBack.over (fun _ h => by cases h) (by kernel_rfl) (fun _ h => by cases h) lexBack_row_tie rfl ⟨rfl, rfl⟩ (by kernel_rfl) rfl
    (fun f fn hf hfn => by
      obtain rfl : f = 5 := Option.some.inj ((show Tryd.prog.funcNamed Rows.lexBackRow.func = some 5 by kernel_rfl).symm.trans hf) |>.symm
      obtain rfl : fn = Tryd.f5 := (Option.some.inj (Tryd.func5.symm.trans hfn)).symm
      exact ⟨by kernel_rfl, lexBack.stand⟩)
    (by kernel_rfl)
#print axioms lexBack_holds
end Go.Proofs.YtglimefhiggdeaaDoor
