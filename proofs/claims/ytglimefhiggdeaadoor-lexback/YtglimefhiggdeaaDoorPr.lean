/- The program's run: contract of a single call. -/
import Derived.Test.YtglimefhiggdeaaDoorRr
import Derived.Test.YtglimefhiggdeaaDoorPw
import Derived.Test.YtglimefhiggdeaaDoorPa
import Derived.Test.YtglimefhiggdeaaDoorRn
import Derived.Deep.RegionWith
namespace Go.Proofs.YtglimefhiggdeaaDoor
open Go.RowKit
set_option linter.unusedVariables false
set_option linter.unusedSimpArgs false
set_option maxRecDepth 20000

theorem ub (a : Nat) (b : Int) (h : b = a) : UInt8.ofNat a = b.toNat.toUInt8 := by subst h; rfl
theorem enc_is (c : Nat) : (Utf8.encode (c : Int)).data.toList = Lib.encodeRune c := by
  have hv : Utf8.valid (c : Int) = decide (c < 55296 ∨ (57343 < c ∧ c ≤ 1114111)) := by
    unfold Utf8.valid
    rw [Bool.eq_iff_iff]
    simp
    omega
  unfold Utf8.encode Lib.encodeRune
  rw [hv]
  dsimp only
  by_cases hg : c < 55296 ∨ (57343 < c ∧ c ≤ 1114111)
  · rw [if_pos (decide_eq_true hg), Int.toNat_natCast]
    by_cases h1 : c < 128
    · rw [Lib.encodeRuneZ_one (by omega) (by omega), if_pos h1]
      show [UInt8.ofNat c] = [_]
      rw [ub c c rfl]
    rw [if_neg h1]
    by_cases h2 : c < 2048
    · rw [Lib.encodeRuneZ_two (by omega) (by omega), if_pos h2]
      show [UInt8.ofNat _, UInt8.ofNat _] = [_, _]
      rw [ub (192 + c / 64) (192 + (c : Int) / 64) (by omega), ub (128 + c % 64) (128 + (c : Int) % 64) (by omega)]
    rw [if_neg h2]
    by_cases h3 : c < 65536
    · rw [Lib.encodeRuneZ_three (by omega), if_pos h3]
      show [UInt8.ofNat _, UInt8.ofNat _, UInt8.ofNat _] = [_, _, _]
      rw [ub (224 + c / 4096) (224 + (c : Int) / 4096) (by omega), ub (128 + c / 64 % 64) (128 + (c : Int) / 64 % 64) (by omega), ub (128 + c % 64) (128 + (c : Int) % 64) (by omega)]
    · rw [Lib.encodeRuneZ_four (by omega) (by omega), if_neg h3]
      show [UInt8.ofNat _, UInt8.ofNat _, UInt8.ofNat _, UInt8.ofNat _] = [_, _, _, _]
      rw [ub (240 + c / 262144) (240 + (c : Int) / 262144) (by omega), ub (128 + c / 4096 % 64) (128 + (c : Int) / 4096 % 64) (by omega), ub (128 + c / 64 % 64) (128 + (c : Int) / 64 % 64) (by omega), ub (128 + c % 64) (128 + (c : Int) % 64) (by omega)]
  · rw [Lib.encodeRuneZ_bad (by omega)]
    simp only [decide_eq_false hg, Bool.false_eq_true, if_false, Utf8.runeError]
    rfl
theorem ext_all (s : ByteArray) : s.extract 0 s.size = s := by
  rw [← st_of (s.extract 0 s.size), take_list, List.take_of_length_le (by rw [lenL]; exact Nat.le_refl _), st_of]
theorem ok_one {l : List UInt8} (hl : l ≠ []) (hb : badR l = false) : okR (l.take (Lib.decodeL l).2) = stands (Lib.decodeL l).1 := by
  have hd := dec_take (Lib.decodeL l).2 hl hb (Nat.le_refl _)
  have hw := Lib.decodeL_width l
  have hlp : 0 < l.length := List.length_pos_iff.2 hl
  have hne : l.take (Lib.decodeL l).2 ≠ [] := by
    intro e
    have := congrArg List.length e
    rw [List.length_take, List.length_nil] at this
    omega
  rw [okR_step _ hne, bad_same hd, hd, hb, List.drop_eq_nil_of_le (by rw [List.length_take]; omega), okR_nil]
  simp
theorem dec_le4 (l : List UInt8) : (Lib.decodeL l).2 ≤ 4 := by
  rw [Lib.decodeL_N]
  unfold Lib.decodeN
  repeat' split
  all_goals simp
/-- Whether a code point goes on a run, as the program asks it. -/
theorem run_cond {l : List UInt8} (hl : l ≠ []) : (wordB (Utf8.encode ((Lib.decodeL l).1 : Int)).data.toList && preB (Utf8.encode ((Lib.decodeL l).1 : Int)).data.toList l) = (!badR l && stands (Lib.decodeL l).1) := by
  rw [enc_is]
  cases hb : badR l with
  | false =>
    have h0 := of_decide_eq_false (show decide ((Lib.decodeL l).1 = 65533 ∧ (Lib.decodeL l).2 = 1) = false from hb)
    rw [Lib.encode_decode l hl h0]
    have hw := Lib.decodeL_width l
    have hle := dl_le l hl
    have h4 := dec_le4 l
    have hlen : (l.take (Lib.decodeL l).2).length = (Lib.decodeL l).2 := by rw [List.length_take]; omega
    have hp : preB (l.take (Lib.decodeL l).2) l = true := by unfold preB; rw [hlen]; simp
    rw [hp]
    unfold wordB
    rw [hlen, ok_one hl hb, decide_eq_true (by omega)]
    simp
  | true =>
    obtain ⟨h1, h2⟩ := of_decide_eq_true (show decide ((Lib.decodeL l).1 = 65533 ∧ (Lib.decodeL l).2 = 1) = true from hb)
    rw [h1]
    have he : Lib.encodeRune ((65533 : Nat) : Int) = [239, 191, 189] := by decide
    rw [he]
    have hp : preB [239, 191, 189] l = false := by
      cases hq : preB [239, 191, 189] l with
      | false => rfl
      | true =>
        exfalso
        have h3 := pre_len hq
        have e := of_decide_eq_true (show decide (l.take 3 = [239, 191, 189]) = true from hq)
        match l, h3 with
        | a :: b :: c :: t, _ =>
          simp at e
          obtain ⟨rfl, rfl, rfl⟩ := e
          have := Lib.decodeL_N ((239 : UInt8) :: 191 :: 189 :: t)
          rw [this] at h2
          have e0 : ((239 : UInt8) :: 191 :: 189 :: t).getD 0 0 = 239 := rfl
          have e1 : ((239 : UInt8) :: 191 :: 189 :: t).getD 1 0 = 191 := rfl
          have e2 : ((239 : UInt8) :: 191 :: 189 :: t).getD 2 0 = 189 := rfl
          rw [e0, e1, e2, rr3 _ _ _ _ _ (by decide) (by decide) (by decide) (by decide)] at h2
          rw [if_neg] at h2
          · simp at h2
          · simp
    rw [hp]; simp
set_option maxHeartbeats 2000000 in
theorem run_any (s : ByteArray) (w : World) (hs : s.size ≤ 1000000) (hV : Vars w) :
    Calls Tryd.prog 43 #[.string s] w fun e w' => e = .returned (.string (s.extract 0 (runN s.data.toList))) ∧ Below w.heap.size w w' := by
  obtain ⟨A, hA⟩ : ∃ A, A = runN s.data.toList := ⟨_, rfl⟩
  rw [← hA]
  have HA : Hid (0 + runN (s.data.toList.drop 0) = A) := by show _ = _; rw [hA, List.drop_zero, Nat.zero_add]
  clear hA
  have hk0 : (w.iter s 0).heap[w.heap.size]? = some (.stringIter s 0) := by simpa using World.iter_heap w s 0
  have hb0 : Below w.heap.size w (w.iter s 0) := (Below.refl _ _).alloc (Nat.le_refl _) _
  go_enter Tryd.func43, Tryd.ntmps43
  go_wp2
  go_loopw [8] (fun _ wr => ∃ (pos : Nat), pos ≤ s.size ∧ wr.heap[w.heap.size]? = some (.stringIter s pos) ∧ Below w.heap.size w wr ∧ pos + runN (s.data.toList.drop pos) = A) (fun _ wr => s.size - wr.iterPos w.heap.size)
  case atStart => exact ⟨0, Nat.zero_le _, hk0, hb0, HA.out⟩
  case round =>
    obtain ⟨pos, hps, hk, hbw, hal⟩ := hrel
    have HT : Hid (pos + runN (s.data.toList.drop pos) = A) := hal
    clear hal hk0 hb0 HA
    by_cases hp : pos < s.size
    · have hnx : ∀ ty, (Instr.next (.pointer (some ⟨w.heap.size, 0, none⟩)) true ty).run Tryd.prog wr = _ := fun ty => Lib.run_next_any_at wr w.heap.size s pos ty hk hp
      have hit2 := Lib.iterAt_heap wr w.heap.size s pos (pos + (Utf8.decode s pos).2) hk
      have hbw2 := Lib.below_iterAt hbw (k := w.heap.size) (Nat.le_refl _) s (pos + (Utf8.decode s pos).2)
      have hmu : wr.iterPos w.heap.size = pos := by simp [World.iterPos, hk]
      have hne : s.data.toList.drop pos ≠ [] := drop_ne (by rw [lenL]; exact hp)
      have hw1 := Lib.decodeL_width (s.data.toList.drop pos)
      have hwl := dl_le _ hne
      have h4 := dec_le4 (s.data.toList.drop pos)
      rw [List.length_drop, lenL] at hwl
      have HCn := run_cond hne
      obtain ⟨c, n, hcn⟩ : ∃ c n, Utf8.decode s pos = (c, n) := ⟨_, _, rfl⟩
      have hd : Lib.decodeL (s.data.toList.drop pos) = (c, n) := by rw [Lib.decodeL_drop, hcn]
      have HD : Hid (Lib.decodeL (s.data.toList.drop pos) = (c, n)) := hd
      rw [hd] at hw1 hwl h4 HCn
      rw [hcn] at hnx hit2 hbw2
      dsimp only at hnx hit2 hbw2 hw1 hwl HCn
      generalize wr.iterAt w.heap.size s (pos + n) = W1 at hnx hit2 hbw2
      have hmu2 : W1.iterPos w.heap.size = pos + n := by simp [World.iterPos, hit2]
      have HN : Hid (s.data.toList.drop pos ≠ []) := hne
      have hpz : (pos : Int) ≤ s.size := by omega
      obtain ⟨p, hpp⟩ : ∃ p, Utf8.encode (c : Int) = p := ⟨_, rfl⟩
      have hp4 : p.size ≤ 4 := by rw [← hpp]; exact encode_size_le _
      obtain ⟨t, ht⟩ : ∃ t, s.extract pos s.size = t := ⟨_, rfl⟩
      have htl : t.data.toList = s.data.toList.drop pos := by rw [← ht, ext_list]
      have hts : t.size ≤ 1000000 := by rw [← lenL, htl, List.length_drop, lenL]; omega
      have hcv : (convert 21 9 (.int .i32 c)).run Tryd.prog W1 = .ok (.string p) W1 := by rw [← hpp]; go_simp
      have CW := word_any p W1 (by omega) (hV.below hbw2)
      have CP := fun W => hp_any t p W hts (by omega)
      rw [htl] at CP
      rw [hpp] at HCn
      clear hne hd hcn htl hts
      cases hw : wordB p.data.toList with
      | false =>
        rw [hw] at CW
        have HE : Hid (A = pos) := by
          show _ = _
          rw [hw, Bool.false_and] at HCn
          rw [← HT.out, runN_stop]
          · rfl
          · rw [HD.out]
            cases hb : badR (s.data.toList.drop pos) with
            | true => exact .inl rfl
            | false => rw [hb] at HCn; exact .inr (by simpa using HCn.symm)
        clear HCn HT HD hw CP
        go_wp2_with (first | (go_at_call 55; refine CW.mono ?_; rintro e w2 ⟨rfl, hb2⟩; clear CW))
        go_ret
        exact ⟨ret_bs (by rw [HE.out]), bt hbw2 hb2⟩
      | true =>
        rw [hw] at CW
        rw [hw, Bool.true_and] at HCn
        rw [HCn] at CP
        cases hq : (!badR (s.data.toList.drop pos) && stands c) with
        | false =>
          rw [hq] at CP
          have HE : Hid (A = pos) := by
            show _ = _
            rw [← HT.out, runN_stop]
            · rfl
            · rw [HD.out]
              cases hb : badR (s.data.toList.drop pos) with
              | true => exact .inl rfl
              | false => rw [hb] at hq; exact .inr (by simpa using hq)
          clear HCn HT HD hw hq
          go_wp2_with (first | (go_at_call 55; refine CW.mono ?_; rintro e w2 ⟨rfl, hb2⟩; clear CW) | (go_at_call 41; refine (CP _).mono ?_; rintro e w' ⟨rfl, hw⟩; obtain rfl := hw.symm; clear CP))
          go_ret
          exact ⟨ret_bs (by rw [HE.out]), bt hbw2 hb2⟩
        | true =>
          rw [hq] at CP
          have HX : Hid (pos + n + runN (s.data.toList.drop (pos + n)) = A) := by
            show _ = _
            simp only [Bool.and_eq_true, Bool.not_eq_true'] at hq
            have := runN_step HN.out hq.1 (by rw [HD.out]; exact hq.2)
            rw [HD.out, List.drop_drop] at this
            dsimp only at this
            rw [← HT.out, this]; omega
          clear HCn HT HD hw hq
          go_wp2_with (first | (go_at_call 55; refine CW.mono ?_; rintro e w2 ⟨rfl, hb2⟩; clear CW) | (go_at_call 41; refine (CP _).mono ?_; rintro e w' ⟨rfl, hw⟩; obtain rfl := hw.symm; clear CP))
          have hk3 : w2.heap[w.heap.size]? = some (.stringIter s (pos + n)) := by
            rw [hb2.block _ (by have := Array.getElem?_eq_some_iff.1 hit2; exact this.1)]; exact hit2
          go_roundw
          case rel => exact ⟨pos + n, by omega, hk3, bt hbw2 hb2, HX.out⟩
          case measure => rw [hmu, show w2.iterPos w.heap.size = pos + n by simp [World.iterPos, hk3]]; omega
    · have hnx : ∀ ty, (Instr.next (.pointer (some ⟨w.heap.size, 0, none⟩)) true ty).run Tryd.prog wr = _ := fun ty => Lib.run_next_end_at wr w.heap.size s pos ty hk hp
      have HE : Hid (s.extract 0 A = s) := by
        show _ = _
        rw [← HT.out, List.drop_eq_nil_of_le (by rw [lenL]; omega), runN_nil, show pos + 0 = s.size by omega, ext_all]
      clear HT
      go_wp2
      go_ret
      exact ⟨ret_bs HE.out.symm, hbw⟩
end Go.Proofs.YtglimefhiggdeaaDoor
