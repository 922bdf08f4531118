import Derived.Test.YtemacdimdpnkeaaGreatDoorB6
import Derived.Test.YtemacdimdpnkeaaGreatDoorB3
import Derived.Test.YtemacdimdpnkeaaGreatDoorB2
import Derived.Test.YtemacdimdpnkeaaGreatDoorB4
import Derived.Deep.LoopGhost
import Derived.Below
import Derived.Lib.ValidAsc
namespace Go.Proofs.YtemacdimdpnkeaaGreatDoor
set_option maxRecDepth 20000
open Go.RowKit
set_option linter.unusedVariables false
set_option linter.unusedSimpArgs false
theorem ret_n {a b : Int} (h : a = b) : Ending.returned (.int .i64 a) = .returned (.int .i64 b) := by rw [h]
theorem drop_ne {l : List UInt8} {n : Nat} (h : n < l.length) : l.drop n ≠ [] := fun e => by
  have := congrArg List.length e; rw [List.length_drop] at this; simp at this; omega
theorem drop_hd {l : List UInt8} {n : Nat} (h : n < l.length) : l.drop n = l.getD n 0 :: l.drop (n + 1) := by
  rw [List.drop_eq_getElem_cons h, List.getD_eq_getElem?_getD, List.getElem?_eq_getElem h]; rfl
theorem cm_at {l : List UInt8} {n : Nat} (h : n < l.length) : cmN (l.drop n) = if l.getD n 0 = 10 then 0 else 1 + cmN (l.drop (n + 1)) := by
  rw [drop_hd h]
  unfold cmN
  rw [List.takeWhile_cons]
  by_cases hc : l.getD n 0 = 10
  · rw [if_pos hc, hc]; simp
  · rw [if_neg hc, if_pos (by simpa using hc)]; simp; omega
theorem isW_of {b : UInt8} (h : isW b = true) : b = 32 ∨ b = 9 ∨ b = 10 ∨ b = 13 := by
  unfold isW at h
  simp only [Bool.or_eq_true, beq_iff_eq] at h
  rcases h with ((h | h) | h) | h
  · exact .inl h
  · exact .inr (.inl h)
  · exact .inr (.inr (.inl h))
  · exact .inr (.inr (.inr h))
end Go.Proofs.YtemacdimdpnkeaaGreatDoor
namespace Go.Proofs.YtemacdimdpnkeaaGreatDoor
set_option maxRecDepth 20000
open Go.RowKit
set_option linter.unusedVariables false
set_option linter.unusedSimpArgs false
theorem bxn (w : World) (o : Obj) : Below w.heap.size w (w.alloc o) := (Below.refl _ _).alloc (Nat.le_refl _) _
end Go.Proofs.YtemacdimdpnkeaaGreatDoor
namespace Go.Proofs.YtemacdimdpnkeaaGreatDoor
set_option maxRecDepth 20000
open Go.RowKit
set_option linter.unusedVariables false
set_option linter.unusedSimpArgs false
theorem ret_bs {a b : ByteArray} (h : a = b) : Ending.returned (.string a) = .returned (.string b) := by rw [h]
end Go.Proofs.YtemacdimdpnkeaaGreatDoor
namespace Go.Proofs.YtemacdimdpnkeaaGreatDoor
set_option maxRecDepth 20000
open Go.RowKit Go.Lib
set_option linter.unusedVariables false
set_option linter.unusedSimpArgs false
theorem hi_dec {l : List UInt8} (hl : l ≠ []) (h : 128 ≤ (l.getD 0 0).toNat) : 128 ≤ (decodeL l).1 := by
  have := dec_hi (st l) 0 (by rw [st_list]; exact h)
  rw [← decodeL_drop, st_list, List.drop_zero] at this
  exact this
theorem lo_dec {l : List UInt8} (hl : l ≠ []) (h : (decodeL l).1 < 128) : decodeL l = ((l.getD 0 0).toNat, 1) ∧ (l.getD 0 0).toNat < 128 := by
  have h1 : (l.getD 0 0).toNat < 128 := by
    rcases Nat.lt_or_ge (l.getD 0 0).toNat 128 with h' | h'
    · exact h'
    · have := hi_dec hl h'; omega
  refine ⟨?_, h1⟩
  rw [decodeL_N, rr1 _ _ _ _ _ h1]
theorem cm_skip : ∀ (n : Nat) (l : List UInt8), n ≤ l.length → (∀ j, j < n → l.getD j 0 ≠ 10) → cmN l = n + cmN (l.drop n)
  | 0, l, _, _ => by simp
  | n + 1, [], h, _ => by simp at h
  | n + 1, a :: t, h, hj => by
    have h0 : a ≠ 10 := hj 0 (by omega)
    have ih := cm_skip n t (by simpa using h) (fun j hjn => hj (j + 1) (by omega))
    rw [List.drop_succ_cons]
    have : cmN (a :: t) = 1 + cmN t := by
      unfold cmN
      rw [List.takeWhile_cons, if_pos (by simpa using h0)]; simp; omega
    omega
theorem cm_dec {l : List UInt8} (hl : l ≠ []) (h : (decodeL l).1 ≠ 10) : cmN l = (decodeL l).2 + cmN (l.drop (decodeL l).2) := by
  refine cm_skip _ _ (decodeL_le l hl) (fun j hj => ?_)
  by_cases h2 : 2 ≤ (decodeL l).2
  · have hb : badR l = false := by unfold badR; exact decide_eq_false (by omega)
    have := dec_hi2 hl hb h2 j hj
    intro e
    rw [e] at this
    exact absurd this (by decide)
  · have := decodeL_width l
    obtain rfl : j = 0 := by omega
    intro e
    have := decodeL_N l
    rw [e, rr1 _ _ _ _ _ (by decide)] at this
    exact h (by rw [this]; rfl)
def whR (rem : Bool) (l : List UInt8) : Nat := if rem = true then cmN l + whN (l.drop (cmN l)) else whN l
theorem whR_nil (b : Bool) : whR b [] = 0 := by cases b <;> rfl
theorem hd_of {l : List UInt8} {c : Nat} (hl : l ≠ []) (hc : (decodeL l).1 = c) (h : c < 128) : (decodeL l).2 = 1 ∧ l.getD 0 0 = UInt8.ofNat c := by
  obtain ⟨h1, h2⟩ := lo_dec hl (by omega)
  rw [h1] at hc
  refine ⟨by rw [h1], ?_⟩
  rw [← hc]; simp
theorem whR_nl {l : List UInt8} (b : Bool) (hl : l ≠ []) (h : (decodeL l).1 = 10) : whR b l = 1 + whR false (l.drop 1) ∧ (decodeL l).2 = 1 := by
  obtain ⟨h1, h2⟩ := hd_of hl h (by decide)
  have hw : whN l = 1 + whN (l.drop 1) := by rw [wh_step l hl, h2]; rfl
  refine ⟨?_, h1⟩
  have hc : cmN l = 0 := by
    have := cm_at (l := l) (n := 0) (by cases l with | nil => exact absurd rfl hl | cons a t => simp)
    rw [List.drop_zero, h2] at this
    rw [this]; rfl
  cases b
  · exact hw
  · show cmN l + whN (l.drop (cmN l)) = _
    rw [hc, List.drop_zero, hw]; show 0 + _ = 1 + whN _; omega
theorem whR_rem {l : List UInt8} (hl : l ≠ []) (h : (decodeL l).1 ≠ 10) : whR true l = (decodeL l).2 + whR true (l.drop (decodeL l).2) := by
  have hc := cm_dec hl h
  show cmN l + whN (l.drop (cmN l)) = _ + (cmN _ + whN _)
  rw [List.drop_drop, ← hc]
  omega
theorem whR_semi {l : List UInt8} (hl : l ≠ []) (h : (decodeL l).1 = 59) : whR false l = 1 + whR true (l.drop 1) ∧ (decodeL l).2 = 1 := by
  obtain ⟨h1, h2⟩ := hd_of hl h (by decide)
  refine ⟨?_, h1⟩
  have := whR_rem hl (by rw [h]; decide)
  rw [h1] at this
  rw [← this]
  show whN l = cmN l + whN (l.drop (cmN l))
  rw [wh_step l hl, h2]; rfl
theorem whR_blk {l : List UInt8} (hl : l ≠ []) (h : (decodeL l).1 = 32 ∨ (decodeL l).1 = 9 ∨ (decodeL l).1 = 13) : whR false l = 1 + whR false (l.drop 1) ∧ (decodeL l).2 = 1 := by
  rcases h with h | h | h
  all_goals
    obtain ⟨h1, h2⟩ := hd_of hl h (by decide)
    refine ⟨?_, h1⟩
    show whN l = 1 + whN _
    rw [wh_step l hl, h2]; rfl
theorem whR_no {l : List UInt8} (hl : l ≠ []) (h1 : (decodeL l).1 ≠ 10) (h2 : (decodeL l).1 ≠ 59) (h3 : blkB (decodeL l).1 = false) : whR false l = 0 := by
  show whN l = 0
  have h3' := of_decide_eq_false h3
  have key : ∀ c : Nat, c < 128 → l.getD 0 0 = UInt8.ofNat c → (decodeL l).1 = c := by
    intro c hc e
    have := decodeL_N l
    have hcn : (UInt8.ofNat c).toNat = c := by rw [UInt8.toNat_ofNat', Nat.mod_eq_of_lt (by omega)]
    rw [e, hcn, rr1 _ _ _ _ _ hc] at this
    rw [this]
  rw [wh_step l hl, if_neg, if_neg]
  · intro e; exact h2 (key 59 (by decide) e)
  · intro e
    rcases isW_of e with e | e | e | e
    · have := key 32 (by decide) e; omega
    · have := key 9 (by decide) e; omega
    · have := key 10 (by decide) e; omega
    · have := key 13 (by decide) e; omega

set_option maxHeartbeats 2000000 in
theorem white_any (s : ByteArray) (w : World) (hs : s.size ≤ 1000000) :
    Calls Tryz.prog 23 #[.string s] w fun e w' => e = .returned (.int .i64 (whN s.data.toList)) ∧ Below w.heap.size w w' := by
  obtain ⟨A, hA⟩ : ∃ A, A = whN s.data.toList := ⟨_, rfl⟩
  rw [← hA]
  have HA : Hid (0 + whR false (s.data.toList.drop 0) = A) := by show _ = _; rw [hA, List.drop_zero, Nat.zero_add]; rfl
  clear hA
  have hk0 : (w.iter s 0).heap[w.heap.size]? = some (.stringIter s 0) := by simpa using World.iter_heap w s 0
  have hb0 : Below w.heap.size w (w.iter s 0) := (Below.refl _ _).alloc (Nat.le_refl _) _
  go_enter Tryz.func23, Tryz.ntmps23
  go_wp2
  go_loopw [3] (fun v wr => ∃ (pos : Nat) (rem : Bool), v = .bool rem ∧ pos ≤ s.size ∧ wr.heap[w.heap.size]? = some (.stringIter s pos) ∧ Below w.heap.size w wr ∧ pos + whR rem (s.data.toList.drop pos) = A) (fun _ wr => s.size - wr.iterPos w.heap.size)
  case atStart => exact ⟨0, false, rfl, Nat.zero_le _, hk0, hb0, HA.out⟩
  case round =>
    obtain ⟨pos, rem, rfl, hps, hk, hbw, hal⟩ := hrel
    have HT : Hid (pos + whR rem (s.data.toList.drop pos) = A) := hal
    clear hal hk0 hb0 HA
    by_cases hp : pos < s.size
    · have hnx : ∀ ty, (Instr.next (.pointer (some ⟨w.heap.size, 0, none⟩)) true ty).run Tryz.prog wr = _ := fun ty => Lib.run_next_any_at wr w.heap.size s pos ty hk hp
      have hit2 := Lib.iterAt_heap wr w.heap.size s pos (pos + (Utf8.decode s pos).2) hk
      have hbw2 := Lib.below_iterAt hbw (k := w.heap.size) (Nat.le_refl _) s (pos + (Utf8.decode s pos).2)
      have hmu : wr.iterPos w.heap.size = pos := by simp [World.iterPos, hk]
      have hne : s.data.toList.drop pos ≠ [] := drop_ne (by rw [lenL]; exact hp)
      have hw1 := Lib.decodeL_width (s.data.toList.drop pos)
      have hwl := dl_le _ hne
      rw [List.length_drop, lenL] at hwl
      obtain ⟨c, n, hcn⟩ : ∃ c n, Utf8.decode s pos = (c, n) := ⟨_, _, rfl⟩
      have hd : Lib.decodeL (s.data.toList.drop pos) = (c, n) := by rw [Lib.decodeL_drop, hcn]
      have HD : Hid (Lib.decodeL (s.data.toList.drop pos) = (c, n)) := hd
      rw [hd] at hw1 hwl
      rw [hcn] at hnx hit2 hbw2
      dsimp only at hnx hit2 hbw2 hw1 hwl
      generalize wr.iterAt w.heap.size s (pos + n) = W1 at hnx hit2 hbw2
      have hmu2 : W1.iterPos w.heap.size = pos + n := by simp [World.iterPos, hit2]
      have HN : Hid (s.data.toList.drop pos ≠ []) := hne
      have CB := blank_any c W1
      clear hne hd hcn
      by_cases c10 : c = 10
      · obtain ⟨e1, e2⟩ := whR_nl rem HN.out (by rw [HD.out]; exact c10)
        rw [HD.out] at e2
        have HX : Hid (pos + n + whR false (s.data.toList.drop (pos + n)) = A) := by show _ = _; rw [← HT.out, e1, List.drop_drop, show n = 1 from e2]; omega
        have m1 : ((c : Int) == 10) = true := by rw [c10]; rfl
        clear e1 e2 HT HD c10 CB
        go_wp2
        go_roundw
        case rel => exact ⟨pos + n, false, rfl, by omega, hit2, hbw2, HX.out⟩
        case measure => rw [hmu, hmu2]; omega
      · have m1 : ((c : Int) == 10) = false := by rw [beq_eq_false_iff_ne]; omega
        cases rem with
        | true =>
          have e1 := whR_rem HN.out (by rw [HD.out]; exact c10)
          rw [HD.out, List.drop_drop] at e1
          dsimp only at e1
          have HX : Hid (pos + n + whR true (s.data.toList.drop (pos + n)) = A) := by show _ = _; rw [← HT.out, e1]; omega
          clear e1 HT HD CB c10
          go_wp2
          go_roundw
          case rel => exact ⟨pos + n, true, rfl, by omega, hit2, hbw2, HX.out⟩
          case measure => rw [hmu, hmu2]; omega
        | false =>
          by_cases c59 : c = 59
          · obtain ⟨e1, e2⟩ := whR_semi HN.out (by rw [HD.out]; exact c59)
            rw [HD.out] at e2
            have HX : Hid (pos + n + whR true (s.data.toList.drop (pos + n)) = A) := by show _ = _; rw [← HT.out, e1, List.drop_drop, show n = 1 from e2]; omega
            have m2 : ((c : Int) == 59) = true := by rw [c59]; rfl
            clear e1 e2 HT HD c59 CB c10
            go_wp2
            go_roundw
            case rel => exact ⟨pos + n, true, rfl, by omega, hit2, hbw2, HX.out⟩
            case measure => rw [hmu, hmu2]; omega
          · have m2 : ((c : Int) == 59) = false := by rw [beq_eq_false_iff_ne]; omega
            by_cases hbk : blkB c = true
            · have hb' := of_decide_eq_true hbk
              obtain ⟨e1, e2⟩ := whR_blk HN.out (by rw [HD.out]; show c = 32 ∨ c = 9 ∨ c = 13; omega)
              rw [HD.out] at e2
              have HX : Hid (pos + n + whR false (s.data.toList.drop (pos + n)) = A) := by show _ = _; rw [← HT.out, e1, List.drop_drop, show n = 1 from e2]; omega
              rw [hbk] at CB
              clear e1 e2 HT HD c59 c10 hb' hbk
              go_wp2_with (go_at_call 48; refine CB.mono ?_; rintro e w' ⟨rfl, hw⟩; obtain rfl := hw.symm; clear CB)
              go_roundw
              case rel => exact ⟨pos + n, false, rfl, by omega, hit2, hbw2, HX.out⟩
              case measure => rw [hmu, hmu2]; omega
            · have hbf : blkB c = false := by simpa using hbk
              have e1 := whR_no HN.out (by rw [HD.out]; exact c10) (by rw [HD.out]; exact c59) (by rw [HD.out]; exact hbf)
              have HE : Hid (A = pos) := by show _ = _; rw [← HT.out, e1]; rfl
              rw [hbf] at CB
              clear e1 HT HD c59 c10 hbk hbf
              go_wp2_with (go_at_call 48; refine CB.mono ?_; rintro e w' ⟨rfl, hw⟩; obtain rfl := hw.symm; clear CB)
              go_ret
              exact ⟨ret_n (by rw [HE.out]), hbw2⟩
    · have hnx : ∀ ty, (Instr.next (.pointer (some ⟨w.heap.size, 0, none⟩)) true ty).run Tryz.prog wr = _ := fun ty => Lib.run_next_end_at wr w.heap.size s pos ty hk hp
      have HE : Hid (A = s.size) := by show _ = _; rw [← HT.out, List.drop_eq_nil_of_le (by rw [lenL]; omega), whR_nil]; omega
      clear HT
      go_wp2
      go_ret
      exact ⟨ret_n (by rw [HE.out]), hbw⟩
end Go.Proofs.YtemacdimdpnkeaaGreatDoor
