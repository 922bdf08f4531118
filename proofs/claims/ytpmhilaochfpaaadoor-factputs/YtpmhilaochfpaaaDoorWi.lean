/- Both words, and symbols: contracts of single calls. -/
import Derived.Test.YtpmhilaochfpaaaDoorWh
import Derived.Deep.LoopGhost
namespace Go.Proofs.YtpmhilaochfpaaaDoor
set_option maxRecDepth 20000
set_option maxRecDepth 20000
set_option maxRecDepth 20000
set_option maxRecDepth 20000
set_option maxRecDepth 20000
open Go.RowKit
set_option linter.unusedVariables false
set_option linter.unusedSimpArgs false
set_option maxRecDepth 20000

set_option maxHeartbeats 1000000 in
theorem rword_any (s : ByteArray) (w : World) (hs : s.size ≤ 1000000) :
    Calls Tryd.prog 52 #[.string s] w fun e w' => e = .returned (.bool (wordB s.data.toList)) ∧ w' = w := by
  have HW : Hid (wordB s.data.toList = (decide (1 ≤ s.size ∧ s.size ≤ 24) && okR s.data.toList)) := by show wordB _ = _; unfold wordB; rw [lenL]
  generalize wordB s.data.toList = ans at *
  by_cases h1 : s.size < 1
  · have h1z : (s.size : Int) < 1 := by omega
    have HA : Hid (ans = false) := by show ans = false; rw [HW.out, decide_eq_false (by omega)]; rfl
    clear h1
    go_enter Tryd.func52, Tryd.ntmps52
    go_wp2
    go_ret
    exact ⟨ret_bool HA.out.symm, rfl⟩
  by_cases h2 : 24 < s.size
  · have h1z : ¬ (s.size : Int) < 1 := by omega
    have h2z : (24 : Int) < s.size := by omega
    have HA : Hid (ans = false) := by show ans = false; rw [HW.out, decide_eq_false (by omega)]; rfl
    clear h1 h2
    go_enter Tryd.func52, Tryd.ntmps52
    go_wp2
    go_ret
    exact ⟨ret_bool HA.out.symm, rfl⟩
  have h1z : ¬ (s.size : Int) < 1 := by omega
  have h2z : ¬ (24 : Int) < s.size := by omega
  have HA : Hid (okR s.data.toList = ans) := by show _ = ans; rw [HW.out, decide_eq_true (by omega), Bool.true_and]
  clear HW
  go_enter Tryd.func52, Tryd.ntmps52
  go_wp2
  go_loopg [0] (s.size + 1) (fun gk v wx => wx = w ∧ ∃ t : ByteArray, v = .string t ∧ okR t.data.toList = ans ∧ t.size < gk ∧ t.size ≤ 24)
  case atStart => exact ⟨rfl, s, rfl, HA.out, by omega, by omega⟩
  case round =>
    obtain ⟨hwx, t, rfl, ht, hg, h24⟩ := hrel
    subst hwx
    have HT : Hid (okR t.data.toList = ans) := ht
    clear ht h1z h2z HA
    by_cases h0 : 0 < t.size
    · obtain ⟨g', rfl⟩ : ∃ g', gk = g' + 1 := ⟨gk - 1, by omega⟩
      have h0z : (0 : Int) < t.size := by omega
      have hne : t.data.toList ≠ [] := fun e => by have := lenL t; rw [e] at this; simp at this; omega
      have HS : Hid (okR t.data.toList = (!badR t.data.toList && (stands (Lib.decodeL t.data.toList).1 && okR (t.data.toList.drop (Lib.decodeL t.data.toList).2)))) := okR_step _ hne
      have CR := rune_any t wr h0 (by omega)
      unfold rn runeR at CR
      by_cases hb : badR t.data.toList = true
      · rw [hb, if_pos rfl] at CR
        have HN : Hid (ans = false) := by show ans = false; rw [← HT.out, HS.out, hb]; rfl
        clear hne hb
        go_wp2_with (go_at_call 60; refine CR.mono ?_; rintro e w' ⟨rfl, hw⟩; obtain rfl := hw.symm; clear CR)
        go_ret
        exact ⟨ret_bool HN.out.symm, rfl⟩
      · have hbf : badR t.data.toList = false := by simpa using hb
        rw [hbf, if_neg (by simp)] at CR
        have hw1 := Lib.decodeL_width t.data.toList
        have hwl := dl_le _ hne
        rw [lenL] at hwl
        have HS2 : Hid (ans = (stands (Lib.decodeL t.data.toList).1 && okR (t.data.toList.drop (Lib.decodeL t.data.toList).2))) := by show ans = _; rw [← HT.out, HS.out, hbf]; rfl
        obtain ⟨c, n, hcn⟩ : ∃ c n, Lib.decodeL t.data.toList = (c, n) := ⟨_, _, rfl⟩
        have HC : Hid (Lib.decodeL t.data.toList = (c, n)) := hcn
        rw [hcn] at CR hw1 hwl
        have HS3 : Hid (ans = (stands c && okR (t.data.toList.drop n))) := by show ans = _; rw [HS2.out, HC.out]
        dsimp only at CR hw1 hwl
        have hn0 : ((n : Int) == 0) = false := by rw [beq_eq_false_iff_ne]; omega
        have hnz : (n : Int) ≤ t.size := by omega
        have CI := inw_any c wr
        clear hcn hb hbf HS HS2 HC hne HT
        by_cases hst : stands c = true
        · obtain ⟨t', ht'⟩ : ∃ t', t.extract n t.size = t' := ⟨_, rfl⟩
          have HL : Hid (t'.data.toList = t.data.toList.drop n) := by show _ = _; rw [← ht', ext_list]
          have hz' : t'.size + n = t.size := by rw [← lenL t', HL.out, List.length_drop, lenL]; omega
          rw [hst] at CI
          have HX : Hid (okR t'.data.toList = ans) := by show _ = ans; rw [HS3.out, hst, HL.out]; rfl
          clear hst
          go_wp2_with (first | (go_at_call 60; refine CR.mono ?_; rintro e w' ⟨rfl, hw⟩; obtain rfl := hw.symm; clear CR) | (go_at_call 61; refine CI.mono ?_; rintro e w' ⟨rfl, hw⟩; obtain rfl := hw.symm; clear CI))
          go_roundg g'
          case measure => omega
          case rel => exact ⟨rfl, t', rfl, HX.out, by omega, by omega⟩
        · have hsf : stands c = false := by simpa using hst
          rw [hsf] at CI
          have HN : Hid (ans = false) := by show ans = false; rw [HS3.out, hsf]; rfl
          clear hst hsf
          go_wp2_with (first | (go_at_call 60; refine CR.mono ?_; rintro e w' ⟨rfl, hw⟩; obtain rfl := hw.symm; clear CR) | (go_at_call 61; refine CI.mono ?_; rintro e w' ⟨rfl, hw⟩; obtain rfl := hw.symm; clear CI))
          go_ret
          exact ⟨ret_bool HN.out.symm, rfl⟩
    · have h0z : ¬ (0 : Int) < t.size := by omega
      have HN : Hid (ans = true) := by
        show ans = true
        have : t.data.toList = [] := List.eq_nil_of_length_eq_zero (by rw [lenL]; omega)
        rw [← HT.out, this]; rfl
      clear h0
      go_wp2
      go_ret
      exact ⟨ret_bool HN.out.symm, rfl⟩

set_option maxHeartbeats 1000000 in
theorem word_any (s : ByteArray) (w : World) (hs : s.size ≤ 1000000) (hV : Vars w) :
    Calls Tryd.prog 58 #[.string s] w fun e w' => e = .returned (.bool (wordB s.data.toList)) ∧ Below w.heap.size w w' := by
  have HW : Hid (wordB s.data.toList = (decide (1 ≤ s.size ∧ s.size ≤ 24) && (Lib.validD s.data.toList && allR s.data.toList))) := by show wordB _ = _; unfold wordB; rw [lenL, okR_is]
  generalize wordB s.data.toList = ans at *
  have CV := valid_any s w hs hV
  by_cases h1 : s.size < 1
  · have h1e : s = ByteArray.empty := by
      have : s.data.toList = [] := List.eq_nil_of_length_eq_zero (by rw [lenL]; omega)
      cases s; simp at this; subst this; rfl
    have HA : Hid (ans = false) := by show ans = false; rw [HW.out, decide_eq_false (by omega)]; rfl
    clear h1 HW CV hV hs
    subst h1e
    go_enter Tryd.func58, Tryd.ntmps58
    go_wp2
    go_ret
    exact ⟨ret_bool HA.out.symm, Below.refl _ _⟩
  have hE : s.toList.isEmpty = false := by
    rw [Go.ByteArray.toList_eq, Bool.eq_false_iff]
    intro e
    have := lenL s
    rw [List.isEmpty_iff.1 e] at this; simp at this; omega
  by_cases h2 : 24 < s.size
  · have h2z : (24 : Int) < s.size := by omega
    have HA : Hid (ans = false) := by show ans = false; rw [HW.out, decide_eq_false (by omega)]; rfl
    clear h1 h2 HW CV hV
    go_enter Tryd.func58, Tryd.ntmps58
    go_wp2
    go_ret
    exact ⟨ret_bool HA.out.symm, Below.refl _ _⟩
  have h2z : ¬ (24 : Int) < s.size := by omega
  have HA : Hid (ans = (Lib.validD s.data.toList && allR s.data.toList)) := by show ans = _; rw [HW.out, decide_eq_true (by omega), Bool.true_and]
  clear HW hV
  generalize Lib.validD s.data.toList = V at *
  cases V with
  | false =>
    have HA2 : Hid (ans = false) := HA.out
    clear HA h1 h2
    go_enter Tryd.func58, Tryd.ntmps58
    go_wp2_with (go_at_call 66; refine CV.mono ?_; rintro e w1 ⟨rfl, hb1⟩; clear CV)
    go_ret
    exact ⟨ret_bool HA2.out.symm, hb1⟩
  | true =>
    have HA2 : Hid (allR s.data.toList = ans) := by show _ = ans; rw [HA.out]; rfl
    clear HA h1 h2
    go_enter Tryd.func58, Tryd.ntmps58
    go_wp2_with (go_at_call 66; refine CV.mono ?_; rintro e w1 ⟨rfl, hb1⟩; clear CV)
    have hk0 : (w1.iter s 0).heap[w1.heap.size]? = some (.stringIter s 0) := by simpa using World.iter_heap w1 s 0
    have hb0 : Below w.heap.size w (w1.iter s 0) := hb1.alloc hb1.size _
    have hsz1 := hb1.size
    clear hb1 hE h2z
    go_loopw [4] (fun _ wr => ∃ pos : Nat, pos ≤ s.size ∧ wr.heap[w1.heap.size]? = some (.stringIter s pos) ∧ Below w.heap.size w wr ∧ allR (s.data.toList.drop pos) = ans) (fun _ wr => s.size - wr.iterPos w1.heap.size)
    case atStart => exact ⟨0, Nat.zero_le _, hk0, hb0, by rw [List.drop_zero]; exact HA2.out⟩
    case round =>
      obtain ⟨pos, hps, hk, hbw, hal⟩ := hrel
      have HT : Hid (allR (s.data.toList.drop pos) = ans) := hal
      clear hal hk0 hb0 HA2
      by_cases hp : pos < s.size
      · have hnx : ∀ ty, (Instr.next (.pointer (some ⟨w1.heap.size, 0, none⟩)) true ty).run Tryd.prog wr = _ := fun ty => Lib.run_next_any_at wr w1.heap.size s pos ty hk hp
        have hit2 := Lib.iterAt_heap wr w1.heap.size s pos (pos + (Utf8.decode s pos).2) hk
        have hbw2 := Lib.below_iterAt hbw (k := w1.heap.size) hsz1 s (pos + (Utf8.decode s pos).2)
        have hmu : wr.iterPos w1.heap.size = pos := by simp [World.iterPos, hk]
        have hne : s.data.toList.drop pos ≠ [] := fun e => by have := congrArg List.length e; rw [List.length_drop, lenL] at this; simp at this; omega
        have hw1 := Lib.decodeL_width (s.data.toList.drop pos)
        have hwl := dl_le _ hne
        rw [List.length_drop, lenL] at hwl
        have HS : Hid (ans = (stands (Utf8.decode s pos).1 && allR (s.data.toList.drop (pos + (Utf8.decode s pos).2)))) := by
          show ans = _
          rw [← HT.out, allR_step _ hne, Lib.decodeL_drop, List.drop_drop]
        rw [Lib.decodeL_drop] at hw1 hwl
        generalize Utf8.decode s pos = dc at *
        obtain ⟨c, n⟩ := dc
        dsimp only at hnx hit2 hbw2 hw1 hwl HS
        generalize wr.iterAt w1.heap.size s (pos + n) = W1 at hnx hit2 hbw2
        have hmu2 : W1.iterPos w1.heap.size = pos + n := by simp [World.iterPos, hit2]
        have CM := may_any c W1
        clear hne HT
        by_cases hst : stands c = true
        · rw [hst] at CM
          have HX : Hid (allR (s.data.toList.drop (pos + n)) = ans) := by show _ = ans; rw [HS.out, hst]; rfl
          clear hst HS
          go_wp2_with (go_at_call 67; refine CM.mono ?_; rintro e w' ⟨rfl, hw⟩; obtain rfl := hw.symm; clear CM)
          go_roundw
          case rel => exact ⟨pos + n, by omega, hit2, hbw2, HX.out⟩
          case measure => rw [hmu, hmu2]; omega
        · have hsf : stands c = false := by simpa using hst
          rw [hsf] at CM
          have HN : Hid (ans = false) := by show ans = false; rw [HS.out, hsf]; rfl
          clear hst hsf HS
          go_wp2_with (go_at_call 67; refine CM.mono ?_; rintro e w' ⟨rfl, hw⟩; obtain rfl := hw.symm; clear CM)
          go_ret
          exact ⟨ret_bool HN.out.symm, hbw2⟩
      · have hnx : ∀ ty, (Instr.next (.pointer (some ⟨w1.heap.size, 0, none⟩)) true ty).run Tryd.prog wr = _ := fun ty => Lib.run_next_end_at wr w1.heap.size s pos ty hk hp
        have HN : Hid (ans = true) := by
          show ans = true
          rw [← HT.out, List.drop_eq_nil_of_le (by rw [lenL]; omega)]; rfl
        clear HT
        go_wp2
        go_ret
        exact ⟨ret_bool HN.out.symm, hbw⟩

/-- nil, as the program has it. -/
theorem is_nil (s : ByteArray) : (s.toList == [110, 105, 108]) = decide (s.data.toList = nil3) := by
  rw [Go.ByteArray.toList_eq, Bool.eq_iff_iff, beq_iff_eq, decide_eq_true_eq]; rfl
def symB (l : List UInt8) : Bool := wordB l && (!numB l && !decide (l = nil3))
set_option maxHeartbeats 1000000 in
theorem issym_any (s : ByteArray) (w : World) (hs : s.size ≤ 1000000) (hV : Vars w) :
    Calls Tryd.prog 49 #[.string s] w fun e w' => e = .returned (.bool (symB s.data.toList)) ∧ Below w.heap.size w w' := by
  have HS : Hid (symB s.data.toList = (wordB s.data.toList && (!numB s.data.toList && !decide (s.data.toList = nil3)))) := rfl
  have HN := is_nil s
  have CW := word_any s w hs hV
  have CN := fun w' => isnum_any s w' hs
  generalize symB s.data.toList = ans at *
  generalize wordB s.data.toList = W at *
  generalize numB s.data.toList = N at *
  generalize decide (s.data.toList = nil3) = Z at *
  clear hV
  cases W with
  | false =>
    go_enter Tryd.func49, Tryd.ntmps49
    go_wp2_with (go_at_call 58; refine CW.mono ?_; rintro e w1 ⟨rfl, hb1⟩; clear CW)
    go_ret
    exact ⟨ret_bool HS.out.symm, hb1⟩
  | true =>
    cases N with
    | true =>
      go_enter Tryd.func49, Tryd.ntmps49
      go_wp2_with (first | (go_at_call 58; refine CW.mono ?_; rintro e w1 ⟨rfl, hb1⟩; clear CW) | (go_at_call 59; refine (CN _).mono ?_; rintro e w2 ⟨rfl, hb2⟩; clear CN))
      go_ret
      exact ⟨ret_bool HS.out.symm, hb1.trans (hb2.mono hb1.size)⟩
    | false =>
      go_enter Tryd.func49, Tryd.ntmps49
      go_wp2_with (first | (go_at_call 58; refine CW.mono ?_; rintro e w1 ⟨rfl, hb1⟩; clear CW) | (go_at_call 59; refine (CN _).mono ?_; rintro e w2 ⟨rfl, hb2⟩; clear CN))
      go_ret
      exact ⟨ret_bool (by rw [HS.out]; simp [bne, HN]), hb1.trans (hb2.mono hb1.size)⟩
end Go.Proofs.YtpmhilaochfpaaaDoor
