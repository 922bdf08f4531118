/- For every text the call LexPlaces of the statements returns true and its argument reads as it did: no condition but that the library's listed variables lie as the program's text lays them. -/
import Derived.Test.YtglimefhiggdeaaDoorRows
import Derived.Test.YtglimefhiggdeaaDoorCards
import Derived.Test.YtglimefhiggdeaaDoorTie
import Derived.Test.YtglimefhiggdeaaDoorArg
import Derived.Test.YtglimefhiggdeaaDoorRn
import Derived.Test.YtglimefhiggdeaaDoorAw
import Derived.SevenTiedAt
import Derived.SizedLaws
import Derived.ChangeSame
import Derived.ChangeVars
import Derived.ChangeMaps5
import Derived.JoinedOf
import Derived.JoinedAt
import Derived.RowKit3
import Derived.LaidLaws
import Derived.WalkKit
import Derived.ProofKit
import Derived.OpenShut
import Derived.ShutString
import Derived.ChangeOld
import Derived.Below
import Derived.Test.YtglimefhiggdeaaDoorLu
namespace Go.Proofs.YtglimefhiggdeaaDoor.lexPlaces
open Go.ChangeShapes Go.WideShapes Go.ChangeAt Go.RowKit
set_option linter.unusedVariables false
set_option linter.unusedSimpArgs false
set_option maxRecDepth 20000

theorem rowAt {w : World} {a : Option Addr} {ts : List TA} (h : TV w a ts) {i : Nat} (hi : i < ts.length) : ∃ g o, a = some ⟨g, o, none⟩ ∧ g < w.heap.size ∧ ∀ j, j < 7 → w.cell? ⟨g, o + (i * 7 + j), none⟩ = (cl7 (ts.getD i ta0))[j]? := by
  rcases h with rfl | ⟨b, off, rfl, hlt, hc⟩
  · simp at hi
  · exact ⟨b, off, rfl, hlt, fun j hj => hc i j hi hj⟩
theorem ext_tx {s tx : ByteArray} {p : Nat} (h : (s.data.toList.drop p).take tx.data.toList.length = tx.data.toList) : s.extract p (p + tx.size) = tx := by
  have e : (s.extract p (p + tx.size)).data.toList = tx.data.toList := by
    rw [Lib.extract_data, Nat.add_sub_cancel_left, ← lenL]; exact h
  rw [← st_of (s.extract p (p + tx.size)), e, st_of]
set_option maxHeartbeats 1600000 in
theorem walk_a (s0 : ByteArray) (w : World) (hV : Vars w) (w0 : s0.size ≤ maxLen) (h : 2000 < s0.size) : Calls Tryd.prog 6 #[.string s0] w fun e w' => e = .returned (.bool true) ∧ Below w.heap.size w w' := by
  have HA := awake_any
  have hz : (2000 : Int) < s0.size := by omega
  go_enter Tryd.func6, Tryd.ntmps6
  go_wp2_with (first | (go_at_call 8; refine (HA _ hV).mono ?_; rintro e wz ⟨rfl, bz⟩; clear HA))
  go_ret
  exact ⟨rfl, bz⟩
set_option maxHeartbeats 8000000 in
theorem walk_d (s0 : ByteArray) (w : World) (hV : Vars w) (w0 : s0.size ≤ maxLen) (h : ¬ 2000 < s0.size) : Calls Tryd.prog 6 #[.string s0] w fun e w' => e = .returned (.bool true) ∧ Below w.heap.size w w' := by
  have HA := awake_any
  have hz : ¬ (2000 : Int) < s0.size := by omega
  have C1 := fun W hv => scan_any s0 W (by omega) hv
  have HTok : Hid (∀ x ∈ (scanL s0.data.toList).1, IsTok x.1) := fun x hx => scan_tok hx
  obtain ⟨hpl, hend⟩ := scan_placed s0.data.toList
  generalize scanL s0.data.toList = S at *
  obtain ⟨ts, pl, er⟩ := S
  dsimp only at C1 HTok hpl hend
  have HP : Hid (Placed s0.data.toList 0 ts) := hpl
  have HE : Hid ((pl, er) = (0, 0) ∨ (er = 16 ∧ (∀ x ∈ ts, x.2 < pl) ∧ pl < s0.data.toList.length)) := hend
  clear hpl hend
  go_enter Tryd.func6, Tryd.ntmps6
  go_wp2_with (first | (go_at_call 9; refine (C1 _ hV).mono ?_; rintro e w1 ⟨v1, rfl, ho1, hb1⟩; clear C1; obtain ⟨a1, c1, rfl, n1, t1, l1, m1, g1⟩ := ho1.view; clear ho1))
  have T1 : Hid (TV w1 a1 ts) := t1
  have B1 : Hid (Below w.heap.size w w1) := hb1
  have V1 : Hid (Vars w1) := hV.below hb1
  have hnn : (ts.length : Int) ≤ 9223372036854775807 := by omega
  clear t1 hb1 g1 hV n1
  go_loopw [6, 7] (fun v6 v7 wr => ∃ (i lo : Nat), v7 = .int .i64 i ∧ v6 = .int .i64 ((lo : Int) - 1) ∧ i ≤ ts.length ∧ lo ≤ s0.size ∧ (lo = 0 ∨ ∃ x ∈ ts, lo = x.2 + 1) ∧ Placed s0.data.toList lo (ts.drop i) ∧ Below w1.heap.size w1 wr) (fun _ v7 _ => (ts.length - intOf v7).toNat)
  case atStart => exact ⟨0, 0, rfl, rfl, Nat.zero_le _, Nat.zero_le _, .inl rfl, by rw [List.drop_zero]; exact HP.out, Below.refl _ _⟩
  case round =>
    obtain ⟨i, lo, rfl, rfl, hi, hlo, hlx, hpd, hbr⟩ := hrel
    have VR : Hid (Vars wr) := V1.out.below hbr
    have BR : Hid (Below w.heap.size w wr) := bt B1.out hbr
    by_cases hlt : i < ts.length
    · have hiz : (i : Int) < ts.length := by omega
      obtain ⟨g1, o1, rfl, hg1, hqq⟩ := rowAt (T1.out.below hbr) hlt
      have hmem := List.getElem_mem hlt
      have hx := HTok.out _ hmem
      have hxe : ts[i] = ts.getD i ta0 := by rw [List.getD_eq_getElem?_getD, List.getElem?_eq_getElem hlt]; rfl
      rw [List.drop_eq_getElem_cons hlt] at hpd
      rw [hxe] at hx hmem hpd
      generalize ts.getD i ta0 = x at *
      have hB := tok_b hx
      have htt := tok_text hx
      have hts := txt_short hx
      have CT : ∀ W, Vars W → Calls Tryd.prog 11 #[.agg #[.int .u8 x.1.k, .string (st x.1.nm), .int .u8 x.1.p, .int .u8 x.1.vk, .int .i64 x.1.vn, .string (st x.1.vs), .int .i64 x.2]] W fun e w' => e = .returned (.string (ttS x.1.k (st x.1.nm) x.1.p x.1.vk x.1.vn (st x.1.vs))) ∧ Below W.heap.size W w' := fun W hv => ltext_any _ _ _ _ _ _ _ W hB.k.1 hB.k.2 (by rw [st_size]; have := hB.nm; omega) hB.vk.1 hB.vk.2 (by rw [st_size]; have := hB.vs; omega) hv
      generalize ttS x.1.k (st x.1.nm) x.1.p x.1.vk x.1.vn (st x.1.vs) = tx at *
      obtain ⟨hp1, hp2, hp3, hp4⟩ : lo ≤ x.2 ∧ x.2 < s0.data.toList.length ∧ (x.1.k ≠ 11 ∨ x.1.vk ≠ 1 → (txtL x.1).length ≤ s0.data.toList.length - x.2 ∧ (s0.data.toList.drop x.2).take (txtL x.1).length = txtL x.1) ∧ Placed s0.data.toList (x.2 + 1) (ts.drop (i + 1)) := hpd
      rw [← htt] at hts hp3
      rw [lenL] at hts hp2
      have HP4 : Hid (Placed s0.data.toList (x.2 + 1) (ts.drop (i + 1))) := hp4
      have hp1z : ¬ (x.2 : Int) ≤ (lo : Int) - 1 := by omega
      have hp2z : (x.2 : Int) < s0.size := by omega
      have q0 : wr.cell? ⟨g1, o1 + i * 7, none⟩ = some (.int .u8 x.1.k) := hqq 0 (by decide)
      have q1 : wr.cell? ⟨g1, o1 + i * 7 + 1, none⟩ = some (.string (st x.1.nm)) := hqq 1 (by decide)
      have q2 : wr.cell? ⟨g1, o1 + i * 7 + 2, none⟩ = some (.int .u8 x.1.p) := hqq 2 (by decide)
      have q3 : wr.cell? ⟨g1, o1 + i * 7 + 3, none⟩ = some (.int .u8 x.1.vk) := hqq 3 (by decide)
      have q4 : wr.cell? ⟨g1, o1 + i * 7 + 4, none⟩ = some (.int .i64 x.1.vn) := hqq 4 (by decide)
      have q5 : wr.cell? ⟨g1, o1 + i * 7 + 5, none⟩ = some (.string (st x.1.vs)) := hqq 5 (by decide)
      have q6 : wr.cell? ⟨g1, o1 + i * 7 + 6, none⟩ = some (.int .i64 x.2) := hqq 6 (by decide)
      have SL : Hid (∀ W, Below wr.heap.size wr W → ∀ j, j < 7 → W.cell? ⟨g1, o1 + (i * 7 + j), none⟩ = (cl7 x)[j]?) := fun W hW j hj => (hW.cell (p := ⟨g1, o1 + (i * 7 + j), none⟩) hg1).trans (hqq j hj)
      have CT1 := CT wr VR.out
      clear hqq hxe hB CT hlx
      by_cases hnum : x.1.k = 11 ∧ x.1.vk = 1
      · obtain ⟨hk11, hk1⟩ := hnum
        have m11 : (x.1.k == 11) = true := by rw [hk11]; rfl
        have m1 : (x.1.vk == 1) = true := by rw [hk1]; rfl
        clear hk11 hk1 hp3 htt
        go_wp2_with (first | (go_at_call 11; refine CT1.mono ?_; rintro e w2 ⟨rfl, hb2⟩; clear CT1 q0 q1 q2 q3 q4 q5 q6; have e1 := SL.out _ hb2; have q0 : w2.cell? ⟨g1, o1 + i * 7, none⟩ = some (.int .u8 x.1.k) := e1 0 (by decide); have q1 : w2.cell? ⟨g1, o1 + i * 7 + 1, none⟩ = some (.string (st x.1.nm)) := e1 1 (by decide); have q2 : w2.cell? ⟨g1, o1 + i * 7 + 2, none⟩ = some (.int .u8 x.1.p) := e1 2 (by decide); have q3 : w2.cell? ⟨g1, o1 + i * 7 + 3, none⟩ = some (.int .u8 x.1.vk) := e1 3 (by decide); have q4 : w2.cell? ⟨g1, o1 + i * 7 + 4, none⟩ = some (.int .i64 x.1.vn) := e1 4 (by decide); have q5 : w2.cell? ⟨g1, o1 + i * 7 + 5, none⟩ = some (.string (st x.1.vs)) := e1 5 (by decide); have q6 : w2.cell? ⟨g1, o1 + i * 7 + 6, none⟩ = some (.int .i64 x.2) := e1 6 (by decide); clear e1))
        go_roundw
        case rel => exact ⟨i + 1, x.2 + 1, by simp, by simp, by omega, by omega, .inr ⟨x, hmem, rfl⟩, HP4.out, bt hbr hb2⟩
        case measure => simp [intOf]; omega
      · have hno : x.1.k ≠ 11 ∨ x.1.vk ≠ 1 := by
          by_cases hc : x.1.k = 11
          · exact .inr (fun e => hnum ⟨hc, e⟩)
          · exact .inl hc
        obtain ⟨hp5, hp6⟩ := hp3 hno
        rw [lenL, lenL] at hp5
        have hex : s0.extract x.2 (x.2 + tx.size) = tx := ext_tx hp6
        have hlz : ¬ (s0.size : Int) - x.2 < tx.size := by omega
        have hlz2 : (x.2 : Int) + tx.size ≤ s0.size := by omega
        have hpick : (x.1.k == 11) = false ∨ ((x.1.k == 11) = true ∧ (x.1.vk == 1) = false) := by
          by_cases hc : x.1.k = 11
          · right
            exact ⟨by rw [hc]; rfl, by rw [beq_eq_false_iff_ne]; exact fun e => hnum ⟨hc, e⟩⟩
          · left; rw [beq_eq_false_iff_ne]; exact hc
        clear hnum hno hp3 hp6 htt
        rcases hpick with m11 | ⟨m11, m1⟩
        all_goals
         go_wp2_with (first | (go_at_call 11; refine CT1.mono ?_; rintro e w2 ⟨rfl, hb2⟩; clear CT1 q0 q1 q2 q3 q4 q5 q6; have e1 := SL.out _ hb2; have q0 : w2.cell? ⟨g1, o1 + i * 7, none⟩ = some (.int .u8 x.1.k) := e1 0 (by decide); have q1 : w2.cell? ⟨g1, o1 + i * 7 + 1, none⟩ = some (.string (st x.1.nm)) := e1 1 (by decide); have q2 : w2.cell? ⟨g1, o1 + i * 7 + 2, none⟩ = some (.int .u8 x.1.p) := e1 2 (by decide); have q3 : w2.cell? ⟨g1, o1 + i * 7 + 3, none⟩ = some (.int .u8 x.1.vk) := e1 3 (by decide); have q4 : w2.cell? ⟨g1, o1 + i * 7 + 4, none⟩ = some (.int .i64 x.1.vn) := e1 4 (by decide); have q5 : w2.cell? ⟨g1, o1 + i * 7 + 5, none⟩ = some (.string (st x.1.vs)) := e1 5 (by decide); have q6 : w2.cell? ⟨g1, o1 + i * 7 + 6, none⟩ = some (.int .i64 x.2) := e1 6 (by decide); clear e1))
         go_roundw
         case rel => exact ⟨i + 1, x.2 + 1, by simp, by simp, by omega, by omega, .inr ⟨x, hmem, rfl⟩, HP4.out, bt hbr hb2⟩
         case measure => simp [intOf]; omega
    · have hiz : ¬ (i : Int) < ts.length := by omega
      rcases HE.out with he | ⟨he, hall, hpn⟩
      · obtain ⟨rfl, rfl⟩ := Prod.mk.inj he
        go_wp2_with (first | (go_at_call 8; refine (HA _ VR.out).mono ?_; rintro e wz ⟨rfl, bz⟩; clear HA))
        go_ret
        exact ⟨rfl, bt BR.out bz⟩
      · subst he
        rw [lenL] at hpn
        have hpz : (lo : Int) - 1 < pl := by
          rcases hlx with rfl | ⟨x, hx, rfl⟩
          · omega
          · have := hall x hx; omega
        have hpz2 : (pl : Int) < s0.size := by omega
        clear hall hlx
        go_wp2_with (first | (go_at_call 8; refine (HA _ VR.out).mono ?_; rintro e wz ⟨rfl, bz⟩; clear HA))
        go_ret
        exact ⟨rfl, bt BR.out bz⟩
theorem walk (s0 : ByteArray) (w : World) (hV : Vars w) (w0 : s0.size ≤ maxLen) : Calls Tryd.prog 6 #[.string s0] w fun e w' => e = .returned (.bool true) ∧ Below w.heap.size w w' := by
  by_cases h : 2000 < s0.size
  · exact walk_a s0 w hV w0 h
  · exact walk_d s0 w hV w0 h
set_option maxRecDepth 100000 in
theorem lifted (os : Os) (started : os.Started) (H : Type) (enc : TypeId × Value → H) :
    ReturnsInHanded {} Tryd.checked os 6 .any (fun w args => (Rows.lexPlacesSpec.pre enc Tryd.prog Tryd.f6 Rows.lexPlacesRow.domain false w args ∧ laidMet Tryd.prog laids w) ∧ sizedMet enc Tryd.prog Tryd.f6 (OpenSpec.ofChange Rows.lexPlacesSpec) false w args)
      (Rows.lexPlacesSpec.post enc Tryd.prog Tryd.f6 false true false false) := by
  refine returnsInHanded_of_change_and (C := Tryd.checked) (X := fun w _ => laidMet Tryd.prog laids w) (fun _ _ _ hh h => h.of_heap hh) own started (by kernel_rfl) Tryd.func6
    (ChangeSpec.witness_at (enc := enc) (C := Tryd.checked) (os := os) (X := fun w _ => laidMet Tryd.prog laids w) false (laidWorld os) #[.string ByteArray.empty] 8 rfl (by kernel_rfl) (by kernel_rfl) (by kernel_rfl) (by kernel_rfl) (by kernel_rfl) (laidWorld_met os _)) ?_
  intro W base args ds gs before hval0 hW _ hsz0 hL _
  have hval : ∀ (j : Nat) t v, Tryd.f6.params[j]? = some t → args[j]? = some v → Value.okWide Tryd.prog W .any base t v := hval0
  have hW' := hW
  obtain ⟨p, q, hA0, hV, rfl, hfz, hnd⟩ := hW
  have hA : DataW.TrodAll enc Tryd.prog W 0 (fun _ => true) true Tryd.f6.params.toList args.toList ds p := hA0
  rw [Tryd.params6] at hA hval
  have hVars := vars_of hL
  obtain ⟨v0, vs0, d'0, ds0, q0, r'0, hargs, rfl, rfl, h0, r0⟩ := trodAll_cons hA
  obtain ⟨rfl, rfl, rfl⟩ := trodAll_nil r0
  obtain rfl : args = #[v0] := by cases args; simp_all
  obtain ⟨rfl, rfl⟩ := trodVars_none hV
  obtain ⟨s0, rfl, rfl, rfl, w0⟩ := Go.ChangeMaps.open_string Tryd.underlying9 (hval 0 9 v0 rfl rfl) h0
  clear hA0 hval0
  refine (walk s0 W hVars w0).mono fun e W' ⟨he, bel⟩ => ?_
  subst he
  exact ⟨_, rfl, _, _, _, [], _, [], hW', trodAll_mk1 (shut_bool Tryd.underlying4 _), (trodAll_cons_mk (Go.ChangeMaps.shut_string Tryd.underlying9 w0) trodAll_mk0), rfl, bel.frame _, fun h => by cases h⟩

theorem over : Rows.lexPlacesRow.holds Tryd.pinned (OpenSpec.ofChange Rows.lexPlacesSpec) :=
  OpenClaim.holds_of_wide 6 Tryd.f6 rfl rfl rfl rfl rfl rfl rfl ⟨rfl, rfl, rfl, rfl, rfl⟩ rfl rfl rfl rfl rfl (by kernel_rfl) Tryd.func6 (by kernel_rfl)
    (of_decide_eq_true (by kernel_rfl)) (by unfold Func.isWrapper; first | (rw [if_pos (by decide +kernel)]; kernel_rfl) | (rw [if_neg (by decide +kernel)]; exact ⟨rfl, rfl⟩))
    (fun os started H enc _ => lifted os started H enc)
theorem stand (j : Nat) (t : TypeId) (ht : Tryd.f6.params[j]? = some t) : Tryd.prog.wantsStandIn t = false := by
  rw [Tryd.params6] at ht
  rcases j with _ | j
  · obtain rfl : 9 = t := by simpa using ht
    kernel_rfl
  simp at ht
end Go.Proofs.YtglimefhiggdeaaDoor.lexPlaces

namespace Go.Proofs.YtglimefhiggdeaaDoor
theorem lexPlaces_holds : Rows.LexPlacesCardSaid :=
  Claim7.holds_tied_plain_at .later [] [.data, .data, .data, .data, .sentinel, .sentinel, .pinned] true (true, "62c4cb96e34a2f4dadd50a21420b8e5883497955c56b2fe545650bb9173c7b78") true
    lexPlaces.over (fun _ h => by cases h) (by kernel_rfl) (fun _ h => by cases h) lexPlaces_row_tie rfl ⟨rfl, rfl⟩ (by kernel_rfl) rfl
    (fun f fn hf hfn => by
      obtain rfl : f = 6 := Option.some.inj ((show Tryd.prog.funcNamed Rows.lexPlacesRow.func = some 6 by kernel_rfl).symm.trans hf) |>.symm
      obtain rfl : fn = Tryd.f6 := (Option.some.inj (Tryd.func6.symm.trans hfn)).symm
      exact ⟨by kernel_rfl, lexPlaces.stand⟩)
    (by kernel_rfl)
#print axioms lexPlaces_holds
end Go.Proofs.YtglimefhiggdeaaDoor
