import Derived.Test.YtemacdimdpnkeaaGreatDoorB1
import Derived.Test.YtemacdimdpnkeaaGreatDoorB3
import Derived.Test.YtemacdimdpnkeaaGreatDoorB2
import Derived.Test.YtemacdimdpnkeaaGreatDoorB4
import Derived.Test.YtemacdimdpnkeaaGreatDoorB5
import Derived.Test.YtemacdimdpnkeaaGreatDoorB7
import Derived.Test.YtemacdimdpnkeaaGreatDoorRows
import Derived.Lib.ValidAsc
import Derived.Deep.LoopGhost
import Derived.Deep.QuietTactic
import Derived.BigQuiet
namespace Go.Proofs.YtemacdimdpnkeaaGreatDoor
set_option maxRecDepth 20000
open Go.RowKit
set_option linter.unusedVariables false
def powN : String := (Rows.showBackRow.laid.map (·.1)).getD 2 ""
def IsIf (v : Value) : Prop := v = .nilIface ∨ ∃ te pe, v = .iface te pe
structure Vars (w : World) : Prop where
  tabs : Lib.Utf8Tabs 0 1 w
  syn : ∃ v, w.cell? ⟨3, 0, none⟩ = some v ∧ IsIf v
  rng : ∃ v, w.cell? ⟨4, 0, none⟩ = some v ∧ IsIf v
  pow : Lib.TabIs Tryz.prog w powN .u64 Lib.pow10Tab
theorem cell_lt {w : World} {a : Addr} {v : Value} (hc : w.cell? a = some v) : a.block < w.heap.size := by
  rcases Nat.lt_or_ge a.block w.heap.size with h' | h'
  · exact h'
  · simp [World.cell?, Array.getElem?_eq_none h'] at hc
theorem tab_below {w w' : World} {n : String} {k : IntKind} {zs : List Int} (h : Lib.TabIs Tryz.prog w n k zs) (hb : Below w.heap.size w w') : Lib.TabIs Tryz.prog w' n k zs := by
  unfold Lib.TabIs World.var? at *
  cases hg : Tryz.prog.globalNamed n with
  | none => rw [hg] at h; simp at h
  | some g =>
    rw [hg] at h
    simp only [Option.bind_some] at h ⊢
    have hlt : g < w.heap.size := by
      rcases Nat.lt_or_ge g w.heap.size with h' | h'
      · exact h'
      · simp [Array.getElem?_eq_none h'] at h
    rw [hb.block g hlt]; exact h
theorem Vars.below {w w' : World} (h : Vars w) (hb : Below w.heap.size w w') : Vars w' := by
  obtain ⟨h1, ⟨v2, c2, i2⟩, ⟨v3, c3, i3⟩, h4⟩ := h
  exact ⟨Utf8Tabs_below h1 hb, ⟨v2, (hb.cell (cell_lt c2)).trans c2, i2⟩, ⟨v3, (hb.cell (cell_lt c3)).trans c3, i3⟩, tab_below h4 hb⟩
theorem valid_any (s : ByteArray) (w : World) (hs : s.size ≤ 1000000) (hT : Vars w) :
    Calls Tryz.prog 112 #[.string s] w fun e w' => e = .returned (.bool (Lib.validD s.data.toList)) ∧ Below w.heap.size w w' :=
  Any.utf8_ValidString Tryz.laysValid s w (by omega) hT.tabs
theorem below_gr {w : World} (k : Nat) (os : Array Obj) : Below w.heap.size w (Sort.grow (w.drewN k) os) :=
  ⟨rfl, rfl, rfl, by show w.heap.size ≤ (w.heap ++ os).size; rw [Array.size_append]; omega, fun j hj => by show (w.heap ++ os)[j]? = w.heap[j]?; exact Array.getElem?_append_left hj⟩
theorem itoa_any (n : Int) (w : World) (h0 : -1099511627776 ≤ n) (h1 : n ≤ 1099511627776) (hT : Vars w) :
    Calls Tryz.prog 76 #[.int .i64 n] w fun e w' => e = .returned (.string ⟨(Lib.itoa n).toArray⟩) ∧ Below w.heap.size w w' := by
  have hp := hT.pow
  have C : Calls Tryz.prog 76 #[.int .i64 n] w _ := Any.strconv_Itoa Tryz.laysItoa n (by omega) (by omega) w hp
  refine C.mono ?_
  rintro e w' ⟨rfl, k, os, rfl⟩
  exact ⟨rfl, below_gr k os⟩
end Go.Proofs.YtemacdimdpnkeaaGreatDoor
namespace Go.Proofs.YtemacdimdpnkeaaGreatDoor
set_option maxRecDepth 20000
open Go.RowKit
set_option linter.unusedVariables false
set_option linter.unusedSimpArgs false
set_option maxHeartbeats 1000000 in
theorem word_any (s : ByteArray) (w : World) (hs : s.size ≤ 1000000) (hV : Vars w) :
    Calls Tryz.prog 95 #[.string s] w fun e w' => e = .returned (.bool (wordB s.data.toList)) ∧ Below w.heap.size w w' := by
  have HW : Hid (wordB s.data.toList = (decide (1 ≤ s.size ∧ s.size ≤ 24) && (Lib.validD s.data.toList && allR s.data.toList))) := by show wordB _ = _; unfold wordB; rw [lenL, okR_is]
  generalize wordB s.data.toList = ans at *
  have CV := valid_any s w hs hV
  by_cases h1 : s.size < 1
  · have h1e : s = ByteArray.empty := by
      have : s.data.toList = [] := List.eq_nil_of_length_eq_zero (by rw [lenL]; omega)
      cases s; simp at this; subst this; rfl
    have HA : Hid (ans = false) := by show ans = false; rw [HW.out, decide_eq_false (by omega)]; rfl
    clear h1 HW CV hV hs
    subst h1e
    go_enter Tryz.func95, Tryz.ntmps95
    go_wp2
    go_ret
    exact ⟨ret_bool HA.out.symm, Below.refl _ _⟩
  have hE : s.toList.isEmpty = false := by
    rw [Go.ByteArray.toList_eq, Bool.eq_false_iff]
    intro e
    have := lenL s
    rw [List.isEmpty_iff.1 e] at this; simp at this; omega
  by_cases h2 : 24 < s.size
  · have h2z : (24 : Int) < s.size := by omega
    have HA : Hid (ans = false) := by show ans = false; rw [HW.out, decide_eq_false (by omega)]; rfl
    clear h1 h2 HW CV hV
    go_enter Tryz.func95, Tryz.ntmps95
    go_wp2
    go_ret
    exact ⟨ret_bool HA.out.symm, Below.refl _ _⟩
  have h2z : ¬ (24 : Int) < s.size := by omega
  have HA : Hid (ans = (Lib.validD s.data.toList && allR s.data.toList)) := by show ans = _; rw [HW.out, decide_eq_true (by omega), Bool.true_and]
  clear HW hV
  generalize Lib.validD s.data.toList = V at *
  cases V with
  | false =>
    have HA2 : Hid (ans = false) := HA.out
    clear HA h1 h2
    go_enter Tryz.func95, Tryz.ntmps95
    go_wp2_with (go_at_call 112; refine CV.mono ?_; rintro e w1 ⟨rfl, hb1⟩; clear CV)
    go_ret
    exact ⟨ret_bool HA2.out.symm, hb1⟩
  | true =>
    have HA2 : Hid (allR s.data.toList = ans) := by show _ = ans; rw [HA.out]; rfl
    clear HA h1 h2
    go_enter Tryz.func95, Tryz.ntmps95
    go_wp2_with (go_at_call 112; refine CV.mono ?_; rintro e w1 ⟨rfl, hb1⟩; clear CV)
    have hk0 : (w1.iter s 0).heap[w1.heap.size]? = some (.stringIter s 0) := by simpa using World.iter_heap w1 s 0
    have hb0 : Below w.heap.size w (w1.iter s 0) := hb1.alloc hb1.size _
    have hsz1 := hb1.size
    clear hb1 hE h2z
    go_loopw [4] (fun _ wr => ∃ pos : Nat, pos ≤ s.size ∧ wr.heap[w1.heap.size]? = some (.stringIter s pos) ∧ Below w.heap.size w wr ∧ allR (s.data.toList.drop pos) = ans) (fun _ wr => s.size - wr.iterPos w1.heap.size)
    case atStart => exact ⟨0, Nat.zero_le _, hk0, hb0, by rw [List.drop_zero]; exact HA2.out⟩
    case round =>
      obtain ⟨pos, hps, hk, hbw, hal⟩ := hrel
      have HT : Hid (allR (s.data.toList.drop pos) = ans) := hal
      clear hal hk0 hb0 HA2
      by_cases hp : pos < s.size
      · have hnx : ∀ ty, (Instr.next (.pointer (some ⟨w1.heap.size, 0, none⟩)) true ty).run Tryz.prog wr = _ := fun ty => Lib.run_next_any_at wr w1.heap.size s pos ty hk hp
        have hit2 := Lib.iterAt_heap wr w1.heap.size s pos (pos + (Utf8.decode s pos).2) hk
        have hbw2 := Lib.below_iterAt hbw (k := w1.heap.size) hsz1 s (pos + (Utf8.decode s pos).2)
        have hmu : wr.iterPos w1.heap.size = pos := by simp [World.iterPos, hk]
        have hne : s.data.toList.drop pos ≠ [] := fun e => by have := congrArg List.length e; rw [List.length_drop, lenL] at this; simp at this; omega
        have hw1 := Lib.decodeL_width (s.data.toList.drop pos)
        have hwl := dl_le _ hne
        rw [List.length_drop, lenL] at hwl
        have HS : Hid (ans = (stands (Utf8.decode s pos).1 && allR (s.data.toList.drop (pos + (Utf8.decode s pos).2)))) := by
          show ans = _
          rw [← HT.out, allR_step _ hne, Lib.decodeL_drop, List.drop_drop]
        rw [Lib.decodeL_drop] at hw1 hwl
        generalize Utf8.decode s pos = dc at *
        obtain ⟨c, n⟩ := dc
        dsimp only at hnx hit2 hbw2 hw1 hwl HS
        generalize wr.iterAt w1.heap.size s (pos + n) = W1 at hnx hit2 hbw2
        have hmu2 : W1.iterPos w1.heap.size = pos + n := by simp [World.iterPos, hit2]
        have CM := may_any c W1
        clear hne HT
        by_cases hst : stands c = true
        · rw [hst] at CM
          have HX : Hid (allR (s.data.toList.drop (pos + n)) = ans) := by show _ = ans; rw [HS.out, hst]; rfl
          clear hst HS
          go_wp2_with (go_at_call 113; refine CM.mono ?_; rintro e w' ⟨rfl, hw⟩; obtain rfl := hw.symm; clear CM)
          go_roundw
          case rel => exact ⟨pos + n, by omega, hit2, hbw2, HX.out⟩
          case measure => rw [hmu, hmu2]; omega
        · have hsf : stands c = false := by simpa using hst
          rw [hsf] at CM
          have HN : Hid (ans = false) := by show ans = false; rw [HS.out, hsf]; rfl
          clear hst hsf HS
          go_wp2_with (go_at_call 113; refine CM.mono ?_; rintro e w' ⟨rfl, hw⟩; obtain rfl := hw.symm; clear CM)
          go_ret
          exact ⟨ret_bool HN.out.symm, hbw2⟩
      · have hnx : ∀ ty, (Instr.next (.pointer (some ⟨w1.heap.size, 0, none⟩)) true ty).run Tryz.prog wr = _ := fun ty => Lib.run_next_end_at wr w1.heap.size s pos ty hk hp
        have HN : Hid (ans = true) := by
          show ans = true
          rw [← HT.out, List.drop_eq_nil_of_le (by rw [lenL]; omega)]; rfl
        clear HT
        go_wp2
        go_ret
        exact ⟨ret_bool HN.out.symm, hbw⟩

theorem is_nil (s : ByteArray) : (s.toList == [110, 105, 108]) = decide (s.data.toList = nil3) := by
  rw [Go.ByteArray.toList_eq, Bool.eq_iff_iff, beq_iff_eq, decide_eq_true_eq]; rfl
def symB (l : List UInt8) : Bool := wordB l && (!numB l && !decide (l = nil3))
set_option maxHeartbeats 1000000 in
theorem issym_any (s : ByteArray) (w : World) (hs : s.size ≤ 1000000) (hV : Vars w) :
    Calls Tryz.prog 110 #[.string s] w fun e w' => e = .returned (.bool (symB s.data.toList)) ∧ Below w.heap.size w w' := by
  have HS : Hid (symB s.data.toList = (wordB s.data.toList && (!numB s.data.toList && !decide (s.data.toList = nil3)))) := rfl
  have HN := is_nil s
  have CW := word_any s w hs hV
  have CN := fun w' => isnum_any s w' hs
  generalize symB s.data.toList = ans at *
  generalize wordB s.data.toList = W at *
  generalize numB s.data.toList = N at *
  generalize decide (s.data.toList = nil3) = Z at *
  clear hV
  cases W with
  | false =>
    go_enter Tryz.func110, Tryz.ntmps110
    go_wp2_with (go_at_call 95; refine CW.mono ?_; rintro e w1 ⟨rfl, hb1⟩; clear CW)
    go_ret
    exact ⟨ret_bool HS.out.symm, hb1⟩
  | true =>
    cases N with
    | true =>
      go_enter Tryz.func110, Tryz.ntmps110
      go_wp2_with (first | (go_at_call 95; refine CW.mono ?_; rintro e w1 ⟨rfl, hb1⟩; clear CW) | (go_at_call 96; refine (CN _).mono ?_; rintro e w2 ⟨rfl, hb2⟩; clear CN))
      go_ret
      exact ⟨ret_bool HS.out.symm, hb1.trans (hb2.mono hb1.size)⟩
    | false =>
      go_enter Tryz.func110, Tryz.ntmps110
      go_wp2_with (first | (go_at_call 95; refine CW.mono ?_; rintro e w1 ⟨rfl, hb1⟩; clear CW) | (go_at_call 96; refine (CN _).mono ?_; rintro e w2 ⟨rfl, hb2⟩; clear CN))
      go_ret
      exact ⟨ret_bool (by rw [HS.out]; simp [bne, HN]), hb1.trans (hb2.mono hb1.size)⟩
end Go.Proofs.YtemacdimdpnkeaaGreatDoor
namespace Go.Proofs.YtemacdimdpnkeaaGreatDoor
set_option maxRecDepth 20000
open Go.RowKit
set_option linter.unusedVariables false
set_option linter.unusedSimpArgs false
def vv (k n : Int) (s : ByteArray) : Value := .agg #[.int .u8 k, .int .i64 n, .string s]
def chkE (k n : Int) (l : List UInt8) : Int :=
  if 2 < k then 9 else if (n ≠ 0 ∧ k ≠ 1) ∨ (l ≠ [] ∧ k ≠ 2) then 4 else if inB n = false then 12 else if k = 2 ∧ symB l = false then 6 else 0
theorem emp (s : ByteArray) : s.toList.isEmpty = s.data.toList.isEmpty := by rw [Go.ByteArray.toList_eq]
theorem emp_ne {s : ByteArray} (h : s.data.toList ≠ []) : s.toList.isEmpty = false := by rw [emp]; cases hs : s.data.toList with
  | nil => exact absurd hs h
  | cons a b => rfl
theorem emp_eq {s : ByteArray} (h : s.data.toList = []) : s = ByteArray.empty := by cases s; simp at h; subst h; rfl
theorem in0 : inB 0 = true := by decide
theorem ret_i {a b : Int} (h : a = b) : Ending.returned (.int .i64 a) = .returned (.int .i64 b) := by rw [h]
theorem box1 (w : World) (o : Obj) : Below w.heap.size w (w.alloc o) := (Below.refl _ _).alloc (Nat.le_refl _) _
set_option maxHeartbeats 2000000 in
theorem chk_any (k n : Int) (s : ByteArray) (w : World) (h0 : 0 ≤ k) (h255 : k ≤ 255) (hs : s.size ≤ 1000000) (hV : Vars w) :
    Calls Tryz.prog 91 #[vv k n s] w fun e w' => e = .returned (.int .i64 (chkE k n s.data.toList)) ∧ Below w.heap.size w w' := by
  unfold vv
  have CS := fun w' hv => issym_any s w' hs hv
  by_cases h2 : 2 < k
  · skip
    have HA : Hid (chkE k n s.data.toList = 9) := by show chkE _ _ _ = _; unfold chkE; rw [if_pos h2]
    generalize chkE k n s.data.toList = r at *
    go_enter Tryz.func91, Tryz.ntmps91
    go_wp2_with (first | (go_at_call 109; refine (inr_any _ _).mono ?_; rintro e w1 ⟨rfl, hw1⟩; obtain rfl := hw1.symm) | (go_at_call 110; refine (CS _ (hV.below (box1 _ _))).mono ?_; rintro e w2 ⟨rfl, hb2⟩))
    go_ret
    exact ⟨ret_i HA.out.symm, box1 _ _⟩
  obtain h | h | h : k = 0 ∨ k = 1 ∨ k = 2 := by omega
  · subst h
    by_cases hn : n = 0
    · subst hn
      by_cases hl : s.data.toList = []
      · obtain rfl := emp_eq hl
        have HA : Hid (chkE 0 0 ByteArray.empty.data.toList = 0) := by show chkE _ _ _ = _; unfold chkE; simp [in0]
        generalize chkE 0 0 ByteArray.empty.data.toList = r at *
        have hin := in0
        go_enter Tryz.func91, Tryz.ntmps91
        go_wp2_with (first | (go_at_call 109; refine (inr_any _ _).mono ?_; rintro e w1 ⟨rfl, hw1⟩; obtain rfl := hw1.symm) | (go_at_call 110; refine (CS _ (hV.below (box1 _ _))).mono ?_; rintro e w2 ⟨rfl, hb2⟩))
        go_ret
        exact ⟨ret_i HA.out.symm, box1 _ _⟩
      · have hE := emp_ne hl
        have HA : Hid (chkE 0 0 s.data.toList = 4) := by show chkE _ _ _ = _; unfold chkE; rw [if_neg (by decide), if_pos (.inr ⟨hl, by decide⟩)]
        generalize chkE 0 0 s.data.toList = r at *
        clear hl
        go_enter Tryz.func91, Tryz.ntmps91
        go_wp2_with (first | (go_at_call 109; refine (inr_any _ _).mono ?_; rintro e w1 ⟨rfl, hw1⟩; obtain rfl := hw1.symm) | (go_at_call 110; refine (CS _ (hV.below (box1 _ _))).mono ?_; rintro e w2 ⟨rfl, hb2⟩))
        go_ret
        exact ⟨ret_i HA.out.symm, box1 _ _⟩
    · skip
      have HA : Hid (chkE 0 n s.data.toList = 4) := by show chkE _ _ _ = _; unfold chkE; rw [if_neg (by decide), if_pos (.inl ⟨hn, by decide⟩)]
      generalize chkE 0 n s.data.toList = r at *
      have hn' : ((n : Int) != 0) = true := by rw [bne_iff_ne]; exact hn
      clear hn
      go_enter Tryz.func91, Tryz.ntmps91
      go_wp2_with (first | (go_at_call 109; refine (inr_any _ _).mono ?_; rintro e w1 ⟨rfl, hw1⟩; obtain rfl := hw1.symm) | (go_at_call 110; refine (CS _ (hV.below (box1 _ _))).mono ?_; rintro e w2 ⟨rfl, hb2⟩))
      go_ret
      exact ⟨ret_i HA.out.symm, box1 _ _⟩
  · subst h
    by_cases hn : n = 0
    · subst hn
      by_cases hl : s.data.toList = []
      · obtain rfl := emp_eq hl
        have HA : Hid (chkE 1 0 ByteArray.empty.data.toList = 0) := by show chkE _ _ _ = _; unfold chkE; simp [in0]
        generalize chkE 1 0 ByteArray.empty.data.toList = r at *
        have hin := in0
        go_enter Tryz.func91, Tryz.ntmps91
        go_wp2_with (first | (go_at_call 109; refine (inr_any _ _).mono ?_; rintro e w1 ⟨rfl, hw1⟩; obtain rfl := hw1.symm) | (go_at_call 110; refine (CS _ (hV.below (box1 _ _))).mono ?_; rintro e w2 ⟨rfl, hb2⟩))
        go_ret
        exact ⟨ret_i HA.out.symm, box1 _ _⟩
      · have hE := emp_ne hl
        have HA : Hid (chkE 1 0 s.data.toList = 4) := by show chkE _ _ _ = _; unfold chkE; rw [if_neg (by decide), if_pos (.inr ⟨hl, by decide⟩)]
        generalize chkE 1 0 s.data.toList = r at *
        clear hl
        go_enter Tryz.func91, Tryz.ntmps91
        go_wp2_with (first | (go_at_call 109; refine (inr_any _ _).mono ?_; rintro e w1 ⟨rfl, hw1⟩; obtain rfl := hw1.symm) | (go_at_call 110; refine (CS _ (hV.below (box1 _ _))).mono ?_; rintro e w2 ⟨rfl, hb2⟩))
        go_ret
        exact ⟨ret_i HA.out.symm, box1 _ _⟩
    · by_cases hl : s.data.toList = []
      · obtain rfl := emp_eq hl
        by_cases hi : inB n = true
        · skip
          have HA : Hid (chkE 1 n ByteArray.empty.data.toList = 0) := by show chkE _ _ _ = _; unfold chkE; rw [hi]; simp
          generalize chkE 1 n ByteArray.empty.data.toList = r at *
          have hn' : ((n : Int) != 0) = true := by rw [bne_iff_ne]; exact hn
          clear hn
          go_enter Tryz.func91, Tryz.ntmps91
          go_wp2_with (first | (go_at_call 109; refine (inr_any _ _).mono ?_; rintro e w1 ⟨rfl, hw1⟩; obtain rfl := hw1.symm) | (go_at_call 110; refine (CS _ (hV.below (box1 _ _))).mono ?_; rintro e w2 ⟨rfl, hb2⟩))
          go_ret
          exact ⟨ret_i HA.out.symm, box1 _ _⟩
        · have hif : inB n = false := by simpa using hi
          have HA : Hid (chkE 1 n ByteArray.empty.data.toList = 12) := by show chkE _ _ _ = _; unfold chkE; rw [hif]; simp
          generalize chkE 1 n ByteArray.empty.data.toList = r at *
          have hn' : ((n : Int) != 0) = true := by rw [bne_iff_ne]; exact hn
          clear hn hi
          go_enter Tryz.func91, Tryz.ntmps91
          go_wp2_with (first | (go_at_call 109; refine (inr_any _ _).mono ?_; rintro e w1 ⟨rfl, hw1⟩; obtain rfl := hw1.symm) | (go_at_call 110; refine (CS _ (hV.below (box1 _ _))).mono ?_; rintro e w2 ⟨rfl, hb2⟩))
          go_ret
          exact ⟨ret_i HA.out.symm, box1 _ _⟩
      · have hE := emp_ne hl
        have HA : Hid (chkE 1 n s.data.toList = 4) := by show chkE _ _ _ = _; unfold chkE; rw [if_neg (by decide), if_pos (.inr ⟨hl, by decide⟩)]
        generalize chkE 1 n s.data.toList = r at *
        have hn' : ((n : Int) != 0) = true := by rw [bne_iff_ne]; exact hn
        clear hl hn
        go_enter Tryz.func91, Tryz.ntmps91
        go_wp2_with (first | (go_at_call 109; refine (inr_any _ _).mono ?_; rintro e w1 ⟨rfl, hw1⟩; obtain rfl := hw1.symm) | (go_at_call 110; refine (CS _ (hV.below (box1 _ _))).mono ?_; rintro e w2 ⟨rfl, hb2⟩))
        go_ret
        exact ⟨ret_i HA.out.symm, box1 _ _⟩
  · subst h
    by_cases hn : n = 0
    · subst hn
      by_cases hl : s.data.toList = []
      · obtain rfl := emp_eq hl
        have hsf : symB ByteArray.empty.data.toList = false := by decide +kernel
        have HA : Hid (chkE 2 0 ByteArray.empty.data.toList = 6) := by show chkE _ _ _ = _; unfold chkE; rw [hsf]; simp [in0]
        generalize chkE 2 0 ByteArray.empty.data.toList = r at *
        have hin := in0
        rw [hsf] at CS
        clear hsf hl
        go_enter Tryz.func91, Tryz.ntmps91
        go_wp2_with (first | (go_at_call 109; refine (inr_any _ _).mono ?_; rintro e w1 ⟨rfl, hw1⟩; obtain rfl := hw1.symm) | (go_at_call 110; refine (CS _ (hV.below (box1 _ _))).mono ?_; rintro e w2 ⟨rfl, hb2⟩))
        go_ret
        exact ⟨ret_i HA.out.symm, (box1 _ _).trans (hb2.mono (box1 _ _).size)⟩
      · have hE := emp_ne hl
        clear hl
        by_cases hsy : symB s.data.toList = true
        · skip
          have HA : Hid (chkE 2 0 s.data.toList = 0) := by show chkE _ _ _ = _; unfold chkE; rw [hsy]; simp [in0]
          generalize chkE 2 0 s.data.toList = r at *
          have hin := in0
          rw [hsy] at CS
          clear hsy
          go_enter Tryz.func91, Tryz.ntmps91
          go_wp2_with (first | (go_at_call 109; refine (inr_any _ _).mono ?_; rintro e w1 ⟨rfl, hw1⟩; obtain rfl := hw1.symm) | (go_at_call 110; refine (CS _ (hV.below (box1 _ _))).mono ?_; rintro e w2 ⟨rfl, hb2⟩))
          go_ret
          exact ⟨ret_i HA.out.symm, (box1 _ _).trans (hb2.mono (box1 _ _).size)⟩
        · have hsf : symB s.data.toList = false := by simpa using hsy
          have HA : Hid (chkE 2 0 s.data.toList = 6) := by show chkE _ _ _ = _; unfold chkE; rw [hsf]; simp [in0]
          generalize chkE 2 0 s.data.toList = r at *
          have hin := in0
          rw [hsf] at CS
          clear hsy hsf
          go_enter Tryz.func91, Tryz.ntmps91
          go_wp2_with (first | (go_at_call 109; refine (inr_any _ _).mono ?_; rintro e w1 ⟨rfl, hw1⟩; obtain rfl := hw1.symm) | (go_at_call 110; refine (CS _ (hV.below (box1 _ _))).mono ?_; rintro e w2 ⟨rfl, hb2⟩))
          go_ret
          exact ⟨ret_i HA.out.symm, (box1 _ _).trans (hb2.mono (box1 _ _).size)⟩
    · skip
      have HA : Hid (chkE 2 n s.data.toList = 4) := by show chkE _ _ _ = _; unfold chkE; rw [if_neg (by decide), if_pos (.inl ⟨hn, by decide⟩)]
      generalize chkE 2 n s.data.toList = r at *
      have hn' : ((n : Int) != 0) = true := by rw [bne_iff_ne]; exact hn
      clear hn
      go_enter Tryz.func91, Tryz.ntmps91
      go_wp2_with (first | (go_at_call 109; refine (inr_any _ _).mono ?_; rintro e w1 ⟨rfl, hw1⟩; obtain rfl := hw1.symm) | (go_at_call 110; refine (CS _ (hV.below (box1 _ _))).mono ?_; rintro e w2 ⟨rfl, hb2⟩))
      go_ret
      exact ⟨ret_i HA.out.symm, box1 _ _⟩
end Go.Proofs.YtemacdimdpnkeaaGreatDoor
namespace Go.Proofs.YtemacdimdpnkeaaGreatDoor
set_option maxRecDepth 20000
open Go.RowKit
set_option linter.unusedVariables false
set_option linter.unusedSimpArgs false
theorem bcell {W w1 : World} (hb : Below W.heap.size W w1) : (∀ b o, b < W.heap.size → w1.cell? ⟨b, o, none⟩ = W.cell? ⟨b, o, none⟩) ∧ (∀ b o, b < W.heap.size → w1.frozen? ⟨b, o, none⟩ = W.frozen? ⟨b, o, none⟩) :=
  ⟨fun b o h => hb.cell (p := ⟨b, o, none⟩) h, fun b o h => hb.frozen (p := ⟨b, o, none⟩) h⟩
set_option maxHeartbeats 400000 in
theorem number_any (n : Int) (w : World) : Calls Tryz.prog 116 #[.int .i64 n] w fun e w' => e = .returned (vv 1 n ByteArray.empty) ∧ Below w.heap.size w w' := by
  go_enter Tryz.func116, Tryz.ntmps116
  go_wp2
  refine bodyPost_ret (v := vv 1 n ByteArray.empty) (by simp [results, Tryz.results116, go_sem, vv]; rfl) rfl ⟨rfl, ?_⟩
  exact box1 _ _
set_option maxHeartbeats 400000 in
theorem symbol_any (s : ByteArray) (w : World) : Calls Tryz.prog 98 #[.string s] w fun e w' => e = .returned (vv 2 0 s) ∧ Below w.heap.size w w' := by
  go_enter Tryz.func98, Tryz.ntmps98
  go_wp2
  refine bodyPost_ret (v := vv 2 0 s) (by simp [results, Tryz.results98, go_sem, vv]) rfl ⟨rfl, ?_⟩
  exact box1 _ _
theorem set3 {B : Nat} {w w1 : World} (h : Below B w w1) (b : Nat) (hb : B ≤ b) (x y z : Value) : Below B w (((w1.setCell ⟨b, 0, none⟩ x).setCell ⟨b, 1, none⟩ y).setCell ⟨b, 2, none⟩ z) :=
  ((h.setCell hb x).setCell hb y).setCell hb z
theorem up1 {w w1 : World} {o : Obj} (hb : Below (w.alloc o).heap.size (w.alloc o) w1) : Below w.heap.size w w1 := (box1 w o).trans (hb.mono (box1 w o).size)
def pzE (l : List UInt8) : Int := if wordB l = false then 6 else if l = nil3 then 0 else if numB l = true ∧ 1099511627776 < decV l then 12 else 0
def pzV (s : ByteArray) : Value :=
  if wordB s.data.toList = false ∨ s.data.toList = nil3 then vv 0 0 ByteArray.empty
  else if numB s.data.toList = true then (if 1099511627776 < decV s.data.toList then vv 0 0 ByteArray.empty else vv 1 (nbV s.data.toList) ByteArray.empty)
  else vv 2 0 s
theorem inB_nb (l : List UInt8) : inB (nbV l) = decide (decV l ≤ 1099511627776) := by
  unfold inB nbV; rw [decide_eq_decide]; split <;> omega
def pnA (l : List UInt8) : Value := if 1099511627776 < decV l then .tuple #[vv 0 0 ByteArray.empty, .int .i64 12] else .tuple #[vv 1 (nbV l) ByteArray.empty, .int .i64 0]
theorem atoi_ok (s : ByteArray) (v : Int) (w : World) (hs : s.size ≤ 1000000) (h : Lib.atoiAll s.data.toList = .ok v) :
    Calls Tryz.prog 115 #[.string s] w fun e w' => e = .returned (.tuple #[.int .i64 v, .nilIface]) ∧ Below w.heap.size w w' := by
  have C : Calls Tryz.prog 115 #[.string s] w _ := Any.strconv_Atoi_ok Tryz.laysAtoi s (by omega) _ h w
  refine C.mono ?_
  rintro e w' ⟨rfl, hw⟩
  refine ⟨rfl, ?_⟩
  rcases hw with rfl | ⟨t, rfl⟩
  · exact Below.refl _ _
  · exact Lib.bytesWorld_below _ _ _
theorem atoi_rng (s : ByteArray) (w : World) (hs : s.size ≤ 1000000) (hT : Vars w) (h : Lib.atoiAll s.data.toList = .range) :
    Calls Tryz.prog 115 #[.string s] w fun e w' => (∃ x T N, e = .returned (.tuple #[.int .i64 x, .iface T (.pointer (some ⟨N, 0, none⟩))])) ∧ Below w.heap.size w w' := by
  obtain ⟨v, hc, hi⟩ := hT.rng
  have C : Calls Tryz.prog 115 #[.string s] w _ := Any.strconv_Atoi_range Tryz.laysAtoi s (by omega) h v w hc hi
  refine C.mono ?_
  rintro e w' ⟨N, rfl, _, _, hb⟩
  exact ⟨⟨_, _, N, rfl⟩, hb⟩
set_option maxHeartbeats 1000000 in
theorem pnum_any (s : ByteArray) (w : World) (hs : s.size ≤ 1000000) (hV : Vars w) (hn : numB s.data.toList = true) :
    Calls Tryz.prog 97 #[.string s] w fun e w' => e = .returned (pnA s.data.toList) ∧ Below w.heap.size w w' := by
  have HB := inB_nb s.data.toList
  have HP : Hid (pnA s.data.toList = if 1099511627776 < decV s.data.toList then .tuple #[vv 0 0 ByteArray.empty, .int .i64 12] else .tuple #[vv 1 (nbV s.data.toList) ByteArray.empty, .int .i64 0]) := rfl
  rcases atoi_num _ hn with h | ⟨h, hd⟩
  · have CA := fun w' => atoi_ok s _ w' hs h
    have CN := fun w' => number_any (nbV s.data.toList) w'
    generalize pnA s.data.toList = ans at *
    generalize nbV s.data.toList = nb at *
    generalize decV s.data.toList = dv at *
    unfold vv at CN
    clear hn h hV
    by_cases hd : 1099511627776 < dv
    · have hin : inB nb = false := by rw [HB]; exact decide_eq_false (by omega)
      have HP2 : Hid (ans = .tuple #[vv 0 0 ByteArray.empty, .int .i64 12]) := by show ans = _; rw [HP.out, if_pos hd]
      clear HB HP hd
      go_enter Tryz.func97, Tryz.ntmps97
      go_wp2_with (first | (go_at_call 115; refine (CA _).mono ?_; rintro e w1 ⟨rfl, hb1⟩; clear CA; obtain ⟨hc, hf⟩ := bcell hb1; have hz : w.heap.size < w1.heap.size := by { have := hb1.size; simp at this; omega }) | (go_at_call 109; refine (inr_any _ _).mono ?_; rintro e w2 ⟨rfl, hw2⟩; obtain rfl := hw2.symm))
      refine bodyPost_ret (v := .tuple #[vv 0 0 ByteArray.empty, .int .i64 12]) (by simp [results, Tryz.results97, go_sem, vv, hc, hz]; rfl) rfl ⟨by rw [HP2.out], ?_⟩
      exact set3 (up1 hb1) _ (Nat.le_refl _) _ _ _
    · have hin : inB nb = true := by rw [HB]; exact decide_eq_true (by omega)
      have HP2 : Hid (ans = .tuple #[vv 1 nb ByteArray.empty, .int .i64 0]) := by show ans = _; rw [HP.out, if_neg hd]
      clear HB HP hd
      go_enter Tryz.func97, Tryz.ntmps97
      go_wp2_with (first | (go_at_call 115; refine (CA _).mono ?_; rintro e w1 ⟨rfl, hb1⟩; clear CA; obtain ⟨hc, hf⟩ := bcell hb1; have hz : w.heap.size < w1.heap.size := by { have := hb1.size; simp at this; omega }) | (go_at_call 109; refine (inr_any _ _).mono ?_; rintro e w2 ⟨rfl, hw2⟩; obtain rfl := hw2.symm) | (go_at_call 116; refine (CN _).mono ?_; rintro e w3 ⟨rfl, hb3⟩; clear CN; obtain ⟨hc3, hf3⟩ := bcell hb3; have hz3 := hb3.size))
      refine bodyPost_ret (v := .tuple #[vv 1 nb ByteArray.empty, .int .i64 0]) (by simp [results, Tryz.results97, go_sem, vv, hc, hz, hc3, hz3]) rfl ⟨by rw [HP2.out], ?_⟩
      exact set3 ((up1 hb1).trans (hb3.mono (up1 hb1).size)) _ (Nat.le_refl _) _ _ _
  · have CA := fun w' hv => atoi_rng s w' hs hv h
    generalize pnA s.data.toList = ans at *
    generalize nbV s.data.toList = nb at *
    generalize decV s.data.toList = dv at *
    have HP2 : Hid (ans = .tuple #[vv 0 0 ByteArray.empty, .int .i64 12]) := by show ans = _; rw [HP.out, if_pos hd]
    clear hn h HB HP hd
    go_enter Tryz.func97, Tryz.ntmps97
    go_wp2_with (go_at_call 115; refine (CA _ (hV.below (box1 _ _))).mono ?_; rintro e w1 ⟨⟨x, T, N, rfl⟩, hb1⟩; clear CA; obtain ⟨hc, hf⟩ := bcell hb1; have hz : w.heap.size < w1.heap.size := by { have := hb1.size; simp at this; omega })
    refine bodyPost_ret (v := .tuple #[vv 0 0 ByteArray.empty, .int .i64 12]) (by simp [results, Tryz.results97, go_sem, vv, hc, hz]; rfl) rfl ⟨by rw [HP2.out], ?_⟩
    exact set3 (up1 hb1) _ (Nat.le_refl _) _ _ _
end Go.Proofs.YtemacdimdpnkeaaGreatDoor
namespace Go.Proofs.YtemacdimdpnkeaaGreatDoor
set_option maxRecDepth 20000
open Go.RowKit
set_option linter.unusedVariables false
set_option linter.unusedSimpArgs false
def nilS : ByteArray := ⟨#[110, 105, 108]⟩
def txtS (k n : Int) (s : ByteArray) : ByteArray := if chkE k n s.data.toList ≠ 0 then nilS else if k = 1 then ⟨(Lib.itoa n).toArray⟩ else if k = 2 then s else nilS
theorem chk0 {k n : Int} {l : List UInt8} (h : chkE k n l = 0) : k ≤ 2 ∧ -1099511627776 ≤ n ∧ n ≤ 1099511627776 ∧ (k ≠ 1 → n = 0) ∧ (k ≠ 2 → l = []) ∧ (k = 2 → symB l = true) := by
  unfold chkE at h
  split at h
  · cases h
  · split at h
    · cases h
    · rename_i h1 h2
      split at h
      · cases h
      · rename_i h3
        simp only [Bool.not_eq_false, inB, decide_eq_true_eq] at h3
        split at h
        · cases h
        · rename_i h4
          refine ⟨by omega, h3.1, h3.2, fun hk => ?_, fun hk => ?_, fun hk => ?_⟩
          · by_cases hn : n = 0
            · exact hn
            · exact absurd (.inl ⟨hn, hk⟩) h2
          · by_cases hl : l = []
            · exact hl
            · exact absurd (.inr ⟨hl, hk⟩) h2
          · by_cases hs : symB l = true
            · exact hs
            · exact absurd ⟨hk, by simpa using hs⟩ h4
set_option maxHeartbeats 1000000 in
theorem text_any13 (k n : Int) (s : ByteArray) (w : World) (h0 : 0 ≤ k) (h255 : k ≤ 255) (hs : s.size ≤ 1000000) (hV : Vars w) :
    Calls Tryz.prog 71 #[vv k n s] w fun e w' => e = .returned (.string (txtS k n s)) ∧ Below w.heap.size w w' := by
  have CC := fun w' hv => chk_any k n s w' h0 h255 hs hv
  have HT : Hid (txtS k n s = if chkE k n s.data.toList ≠ 0 then nilS else if k = 1 then ⟨(Lib.itoa n).toArray⟩ else if k = 2 then s else nilS) := rfl
  generalize txtS k n s = ans at *
  by_cases hc0 : chkE k n s.data.toList = 0
  · obtain ⟨hk2, hn0, hn1, -⟩ := chk0 hc0
    rw [hc0] at CC
    unfold vv at CC ⊢
    obtain h | h | h : k = 0 ∨ k = 1 ∨ k = 2 := by omega
    · subst h
      have HA : Hid (ans = nilS) := by show ans = _; rw [HT.out, if_neg (by simp [hc0]), if_neg (by decide), if_neg (by decide)]
      clear HT hc0
      go_enter Tryz.func71, Tryz.ntmps71
      go_wp2_with (first | (go_at_call 91; refine (CC _ (hV.below (box1 _ _))).mono ?_; rintro e w1 ⟨rfl, hb1⟩; clear CC; obtain ⟨hc, hf⟩ := bcell hb1; have hz : w.heap.size < w1.heap.size := by { have := hb1.size; simp at this; omega }) | (go_at_call 76; refine (CD _ (hV.below (up1 hb1))).mono ?_; rintro e w2 ⟨rfl, hb2⟩; clear CD))
      go_ret
      exact ⟨ret_str HA.out.symm, up1 hb1⟩
    · subst h
      have HA : Hid (ans = ⟨(Lib.itoa n).toArray⟩) := by show ans = _; rw [HT.out, if_neg (by simp [hc0]), if_pos rfl]
      have CD := fun w' hv => itoa_any n w' hn0 hn1 hv
      generalize (⟨(Lib.itoa n).toArray⟩ : ByteArray) = it at *
      clear HT hc0
      go_enter Tryz.func71, Tryz.ntmps71
      go_wp2_with (first | (go_at_call 91; refine (CC _ (hV.below (box1 _ _))).mono ?_; rintro e w1 ⟨rfl, hb1⟩; clear CC; obtain ⟨hc, hf⟩ := bcell hb1; have hz : w.heap.size < w1.heap.size := by { have := hb1.size; simp at this; omega }) | (go_at_call 76; refine (CD _ (hV.below (up1 hb1))).mono ?_; rintro e w2 ⟨rfl, hb2⟩; clear CD))
      go_ret
      exact ⟨ret_str HA.out.symm, (up1 hb1).trans (hb2.mono (up1 hb1).size)⟩
    · subst h
      have HA : Hid (ans = s) := by show ans = _; rw [HT.out, if_neg (by simp [hc0]), if_neg (by decide), if_pos rfl]
      clear HT hc0
      go_enter Tryz.func71, Tryz.ntmps71
      go_wp2_with (first | (go_at_call 91; refine (CC _ (hV.below (box1 _ _))).mono ?_; rintro e w1 ⟨rfl, hb1⟩; clear CC; obtain ⟨hc, hf⟩ := bcell hb1; have hz : w.heap.size < w1.heap.size := by { have := hb1.size; simp at this; omega }) | (go_at_call 76; refine (CD _ (hV.below (up1 hb1))).mono ?_; rintro e w2 ⟨rfl, hb2⟩; clear CD))
      go_ret
      exact ⟨ret_str HA.out.symm, up1 hb1⟩
  · have HA : Hid (ans = nilS) := by show ans = _; rw [HT.out, if_pos hc0]
    have hne : ((chkE k n s.data.toList : Int) != 0) = true := by rw [bne_iff_ne]; exact hc0
    unfold vv at CC ⊢
    generalize chkE k n s.data.toList = ce at *
    clear HT hc0
    go_enter Tryz.func71, Tryz.ntmps71
    go_wp2_with (first | (go_at_call 91; refine (CC _ (hV.below (box1 _ _))).mono ?_; rintro e w1 ⟨rfl, hb1⟩; clear CC; obtain ⟨hc, hf⟩ := bcell hb1; have hz : w.heap.size < w1.heap.size := by { have := hb1.size; simp at this; omega }) | (go_at_call 76; refine (CD _ (hV.below (up1 hb1))).mono ?_; rintro e w2 ⟨rfl, hb2⟩; clear CD))
    go_ret
    exact ⟨ret_str HA.out.symm, up1 hb1⟩
end Go.Proofs.YtemacdimdpnkeaaGreatDoor
namespace Go.Proofs.YtemacdimdpnkeaaGreatDoor
set_option maxRecDepth 20000
open Go.RowKit
set_option linter.unusedVariables false
set_option linter.unusedSimpArgs false
def sgnS (p : Int) : ByteArray := if p = 0 then ⟨#[61]⟩ else if p = 1 then ⟨#[60, 62]⟩ else if p = 2 then ⟨#[60]⟩ else if p = 3 then ⟨#[60, 61]⟩ else if p = 4 then ⟨#[62]⟩ else if p = 5 then ⟨#[62, 61]⟩ else ⟨#[]⟩
theorem ret_st {a b : ByteArray} (h : a = b) : Ending.returned (.string a) = .returned (.string b) := by rw [h]
set_option maxHeartbeats 1000000 in
theorem sign_any13 (p : Int) (w : World) : Calls Tryz.prog 72 #[.int .u8 p] w fun e w' => e = .returned (.string (sgnS p)) ∧ w' = w := by
  by_cases hp : 6 ≤ p ∨ p < 0
  · have e0 : (p == 0) = false := by rw [beq_eq_false_iff_ne]; omega
    have e1 : (p == 1) = false := by rw [beq_eq_false_iff_ne]; omega
    have e2 : (p == 2) = false := by rw [beq_eq_false_iff_ne]; omega
    have e3 : (p == 3) = false := by rw [beq_eq_false_iff_ne]; omega
    have e4 : (p == 4) = false := by rw [beq_eq_false_iff_ne]; omega
    have e5 : (p == 5) = false := by rw [beq_eq_false_iff_ne]; omega
    have HB : Hid (sgnS p = ⟨#[]⟩) := by show sgnS p = _; unfold sgnS; rw [if_neg (by omega), if_neg (by omega), if_neg (by omega), if_neg (by omega), if_neg (by omega), if_neg (by omega)]
    generalize sgnS p = r at *
    clear hp
    go_enter Tryz.func72, Tryz.ntmps72
    go_wp2
    go_ret
    exact ⟨ret_st HB.out.symm, rfl⟩
  · obtain h | h | h | h | h | h : p = 0 ∨ p = 1 ∨ p = 2 ∨ p = 3 ∨ p = 4 ∨ p = 5 := by omega
    all_goals
      subst h
      go_enter Tryz.func72, Tryz.ntmps72
      go_wp2
      go_ret
      exact ⟨rfl, rfl⟩
end Go.Proofs.YtemacdimdpnkeaaGreatDoor
namespace Go.Proofs.YtemacdimdpnkeaaGreatDoor
set_option maxRecDepth 20000
open Go.RowKit
set_option linter.unusedVariables false
set_option linter.unusedSimpArgs false
theorem mk_len (k : Nat) : (mkL k).length ≤ 3 := by
  unfold mkL
  repeat' split
  all_goals simp
theorem mk_step (l : List UInt8) (k : Nat) (hk : k < 7) : mkFrom l (7 - k) k = if preB (mkL k) l = true then some (tok0 k, (mkL k).length) else mkFrom l (7 - (k + 1)) (k + 1) := by
  obtain ⟨m, hm⟩ : ∃ m, 7 - k = m + 1 := ⟨6 - k, by omega⟩
  rw [hm, show 7 - (k + 1) = m by omega]; rfl
theorem pr_step (l : List UInt8) (m k : Nat) (hk : k < 6) : prFrom l m (6 - k) k = if (sgnL k).length = m ∧ preB (sgnL k) l = true then some (tokP k, m) else prFrom l m (6 - (k + 1)) (k + 1) := by
  obtain ⟨q, hm⟩ : ∃ q, 6 - k = q + 1 := ⟨5 - k, by omega⟩
  rw [hm, show 6 - (k + 1) = q by omega]; rfl
theorem sgn_st (p : Int) : sgnS p = st (sgnL p) := by
  unfold sgnS sgnL
  repeat' split
  all_goals rfl
theorem sgn_len (p : Int) : (sgnL p).length ≤ 2 := by
  unfold sgnL
  repeat' split
  all_goals simp
set_option maxHeartbeats 2000000 in
theorem tmark_any (s : ByteArray) (w : World) (hs : s.size ≤ 1000000) :
    Calls Tryz.prog 49 #[.string s] w fun e w' => e = .returned (tkV (mkFrom s.data.toList 7 0)) ∧ Below w.heap.size w w' := by
  obtain ⟨A, hA⟩ : ∃ A, A = mkFrom s.data.toList 7 0 := ⟨_, rfl⟩
  rw [← hA]
  have HA : Hid (mkFrom s.data.toList 7 0 = A) := hA.symm
  clear hA
  go_enter Tryz.func49, Tryz.ntmps49
  go_wp2
  go_loop [4] (fun v => ∃ k : Nat, v = .int .u8 k ∧ k ≤ 7 ∧ mkFrom s.data.toList (7 - k) k = A) (fun v => (7 - intOf v).toNat)
  case atStart => exact ⟨0, rfl, by omega, HA.out⟩
  case round =>
    obtain ⟨k, rfl, hk, hr⟩ := hrel
    have HR : Hid (mkFrom s.data.toList (7 - k) k = A) := hr
    clear hr HA
    by_cases h7 : k < 7
    · have h6 : (k : Int) ≤ 6 := by omega
      have CM := fun W => mark_any k W (by omega)
      have CP := fun W => hp_any s (st (mkL k)) W hs (by rw [st_size]; have := mk_len k; omega)
      rw [st_list] at CP
      have hz := st_size (mkL k)
      have hz3 := mk_len k
      have hst := mk_step s.data.toList k h7
      cases hb : preB (mkL k) s.data.toList with
      | true =>
        rw [hb] at CP hst
        have HE : Hid (A = some (tok0 k, (mkL k).length)) := by show _ = _; rw [← HR.out, hst, if_pos rfl]
        generalize (mkL k).length = n at *
        generalize st (mkL k) = m at *
        clear HR hst hb
        go_wp2_with (first | (go_at_call 78; refine (CM _).mono ?_; rintro e w' ⟨rfl, hw⟩; obtain rfl := hw.symm; clear CM) | (go_at_call 79; refine (CP _).mono ?_; rintro e w' ⟨rfl, hw⟩; obtain rfl := hw.symm; clear CP))
        exact bodyPost_ret (v := tkV (some (tok0 k, n))) (by simp [results, Tryz.results49, go_sem, tkV, tv, st, tok0] <;> rfl) rfl ⟨by rw [HE.out], bxn _ _⟩
      | false =>
        rw [hb] at CP hst
        have HE : Hid (mkFrom s.data.toList (7 - (k + 1)) (k + 1) = A) := by show _ = _; rw [← HR.out, hst]; rfl
        generalize st (mkL k) = m at *
        clear HR hst hb
        go_wp2_with (first | (go_at_call 78; refine (CM _).mono ?_; rintro e w' ⟨rfl, hw⟩; obtain rfl := hw.symm; clear CM) | (go_at_call 79; refine (CP _).mono ?_; rintro e w' ⟨rfl, hw⟩; obtain rfl := hw.symm; clear CP))
        go_round
        case rel => exact ⟨k + 1, by simp, by omega, HE.out⟩
        case measure => simp [intOf]; omega
    · obtain rfl : k = 7 := by omega
      have HE : Hid (A = none) := by show _ = _; rw [← HR.out]; rfl
      clear HR
      go_wp2
      exact bodyPost_ret (v := tkV none) (by simp [results, Tryz.results49, go_sem, tkV, tv, st, tok0] <;> rfl) rfl ⟨by rw [HE.out], bxn _ _⟩
theorem mk7 (W : World) : Calls Tryz.prog 78 #[.int .u8 7] W fun e w' => e = .returned (.string ⟨#[45]⟩) ∧ w' = W := mark_any 7 W (by decide)
theorem mk0 (W : World) : Calls Tryz.prog 78 #[.int .u8 0] W fun e w' => e = .returned (.string ⟨#[40]⟩) ∧ w' = W := mark_any 0 W (by decide)
set_option maxHeartbeats 2000000 in
theorem tnot_any (s : ByteArray) (w : World) (hs : s.size ≤ 1000000) :
    Calls Tryz.prog 50 #[.string s] w fun e w' => e = .returned (tkV (ntL s.data.toList)) ∧ Below w.heap.size w w' := by
  have CP : ∀ W, Calls Tryz.prog 79 #[.string s, .string ⟨#[45, 40]⟩] W fun e w' => e = .returned (.bool (preB [45, 40] s.data.toList)) ∧ w' = W := fun W => hp_any s ⟨#[45, 40]⟩ W hs (by decide)
  have hcat : (⟨#[45]⟩ ++ ⟨#[40]⟩ : ByteArray) = ⟨#[45, 40]⟩ := by decide
  unfold ntL
  have CA := mk7
  have CB := mk0
  have CC := mk7
  cases hb : preB [45, 40] s.data.toList with
  | true =>
    rw [hb] at CP
    rw [if_pos rfl]
    go_enter Tryz.func50, Tryz.ntmps50
    go_wp2_with (first | (go_at_call 78; refine (CA _).mono ?_; rintro e w' ⟨rfl, hw⟩; obtain rfl := hw.symm; clear CA) | (go_at_call 78; refine (CB _).mono ?_; rintro e w' ⟨rfl, hw⟩; obtain rfl := hw.symm; clear CB) | (go_at_call 78; refine (CC _).mono ?_; rintro e w' ⟨rfl, hw⟩; obtain rfl := hw.symm; clear CC) | (go_at_call 79; refine (CP _).mono ?_; rintro e w' ⟨rfl, hw⟩; obtain rfl := hw.symm; clear CP))
    exact bodyPost_ret (v := tkV (some (tok0 7, 1))) (by simp [results, Tryz.results50, go_sem, tkV, tv, st, tok0] <;> rfl) rfl ⟨rfl, bxn _ _⟩
  | false =>
    rw [hb] at CP
    rw [if_neg (by simp)]
    go_enter Tryz.func50, Tryz.ntmps50
    go_wp2_with (first | (go_at_call 78; refine (CA _).mono ?_; rintro e w' ⟨rfl, hw⟩; obtain rfl := hw.symm; clear CA) | (go_at_call 78; refine (CB _).mono ?_; rintro e w' ⟨rfl, hw⟩; obtain rfl := hw.symm; clear CB) | (go_at_call 78; refine (CC _).mono ?_; rintro e w' ⟨rfl, hw⟩; obtain rfl := hw.symm; clear CC) | (go_at_call 79; refine (CP _).mono ?_; rintro e w' ⟨rfl, hw⟩; obtain rfl := hw.symm; clear CP))
    exact bodyPost_ret (v := tkV none) (by simp [results, Tryz.results50, go_sem, tkV, tv, st, tok0] <;> rfl) rfl ⟨rfl, bxn _ _⟩
set_option maxHeartbeats 2000000 in
theorem tpred_any (s : ByteArray) (m : Nat) (w : World) (hs : s.size ≤ 1000000) (hm : m ≤ 2) :
    Calls Tryz.prog 52 #[.string s, .int .i64 m] w fun e w' => e = .returned (tkV (prFrom s.data.toList m 6 0)) ∧ Below w.heap.size w w' := by
  obtain ⟨A, hA⟩ : ∃ A, A = prFrom s.data.toList m 6 0 := ⟨_, rfl⟩
  rw [← hA]
  have HA : Hid (prFrom s.data.toList m 6 0 = A) := hA.symm
  clear hA
  go_enter Tryz.func52, Tryz.ntmps52
  go_wp2
  go_loop [6] (fun v => ∃ k : Nat, v = .int .u8 k ∧ k ≤ 6 ∧ prFrom s.data.toList m (6 - k) k = A) (fun v => (6 - intOf v).toNat)
  case atStart => exact ⟨0, rfl, by omega, HA.out⟩
  case round =>
    obtain ⟨k, rfl, hk, hr⟩ := hrel
    have HR : Hid (prFrom s.data.toList m (6 - k) k = A) := hr
    clear hr HA
    by_cases h7 : k < 6
    · have h6 : (k : Int) ≤ 5 := by omega
      have CM := fun W => sign_any13 (k : Int) W
      rw [sgn_st] at CM
      have CP := fun W => hp_any s (st (sgnL k)) W hs (by rw [st_size]; have := sgn_len k; omega)
      rw [st_list] at CP
      have hz := st_size (sgnL k)
      have hz3 := sgn_len k
      have hst := pr_step s.data.toList m k h7
      by_cases hl : (sgnL k).length = m
      · have hlz : (((st (sgnL k)).size : Int) == (m : Int)) = true := by rw [hz, hl]; simp
        cases hb : preB (sgnL k) s.data.toList with
        | true =>
          rw [hb] at CP hst
          have HE : Hid (A = some (tokP k, m)) := by show _ = _; rw [← HR.out, hst, if_pos ⟨hl, rfl⟩]
          generalize st (sgnL k) = g at *
          clear HR hst hb hl hz hz3
          go_wp2_with (first | (go_at_call 72; refine (CM _).mono ?_; rintro e w' ⟨rfl, hw⟩; obtain rfl := hw.symm; clear CM) | (go_at_call 79; refine (CP _).mono ?_; rintro e w' ⟨rfl, hw⟩; obtain rfl := hw.symm; clear CP))
          exact bodyPost_ret (v := tkV (some (tokP k, m))) (by simp [results, Tryz.results52, go_sem, tkV, tv, st, tokP] <;> rfl) rfl ⟨by rw [HE.out], bxn _ _⟩
        | false =>
          rw [hb] at CP hst
          have HE : Hid (prFrom s.data.toList m (6 - (k + 1)) (k + 1) = A) := by show _ = _; rw [← HR.out, hst, if_neg (by rintro ⟨_, h⟩; cases h)]
          generalize st (sgnL k) = g at *
          clear HR hst hb hl hz hz3
          go_wp2_with (first | (go_at_call 72; refine (CM _).mono ?_; rintro e w' ⟨rfl, hw⟩; obtain rfl := hw.symm; clear CM) | (go_at_call 79; refine (CP _).mono ?_; rintro e w' ⟨rfl, hw⟩; obtain rfl := hw.symm; clear CP))
          go_round
          case rel => exact ⟨k + 1, by simp, by omega, HE.out⟩
          case measure => simp [intOf]; omega
      · have hlz : (((st (sgnL k)).size : Int) == (m : Int)) = false := by rw [hz, beq_eq_false_iff_ne]; omega
        have HE : Hid (prFrom s.data.toList m (6 - (k + 1)) (k + 1) = A) := by show _ = _; rw [← HR.out, hst, if_neg (by rintro ⟨h, _⟩; exact hl h)]
        generalize st (sgnL k) = g at *
        clear HR hst hl hz hz3
        go_wp2_with (first | (go_at_call 72; refine (CM _).mono ?_; rintro e w' ⟨rfl, hw⟩; obtain rfl := hw.symm; clear CM) | (go_at_call 79; refine (CP _).mono ?_; rintro e w' ⟨rfl, hw⟩; obtain rfl := hw.symm; clear CP))
        go_round
        case rel => exact ⟨k + 1, by simp, by omega, HE.out⟩
        case measure => simp [intOf]; omega
    · obtain rfl : k = 6 := by omega
      have HE : Hid (A = none) := by show _ = _; rw [← HR.out]; rfl
      clear HR
      go_wp2
      exact bodyPost_ret (v := tkV none) (by simp [results, Tryz.results52, go_sem, tkV, tv, st, tok0] <;> rfl) rfl ⟨by rw [HE.out], bxn _ _⟩
end Go.Proofs.YtemacdimdpnkeaaGreatDoor
namespace Go.Proofs.YtemacdimdpnkeaaGreatDoor
set_option maxRecDepth 20000
open Go.RowKit
set_option linter.unusedVariables false
set_option linter.unusedSimpArgs false
def prA (s : ByteArray) : Value := .tuple #[pzV s, .int .i64 (pzE s.data.toList)]
theorem pr_no {s : ByteArray} (h : wordB s.data.toList = false) : prA s = .tuple #[vv 0 0 ByteArray.empty, .int .i64 6] := by unfold prA pzV pzE; rw [if_pos (.inl h), if_pos h]
theorem pr_nil {s : ByteArray} (h : wordB s.data.toList = true) (hn : s.data.toList = nil3) : prA s = .tuple #[vv 0 0 ByteArray.empty, .int .i64 0] := by unfold prA pzV pzE; rw [if_pos (.inr hn), if_neg (by rw [h]; simp), if_pos hn]
theorem pr_num {s : ByteArray} (h : wordB s.data.toList = true) (hn : s.data.toList ≠ nil3) (hb : numB s.data.toList = true) : prA s = if 1099511627776 < decV s.data.toList then .tuple #[vv 0 0 ByteArray.empty, .int .i64 12] else .tuple #[vv 1 (nbV s.data.toList) ByteArray.empty, .int .i64 0] := by
  unfold prA pzV pzE
  by_cases hd : 1099511627776 < decV s.data.toList <;> simp [h, hn, hb, hd]
theorem pr_sym {s : ByteArray} (h : wordB s.data.toList = true) (hn : s.data.toList ≠ nil3) (hb : numB s.data.toList = false) : prA s = .tuple #[vv 2 0 s, .int .i64 0] := by
  unfold prA pzV pzE
  rw [if_neg (by rw [h]; simp [hn]), if_neg (by rw [hb]; simp), if_neg (by rw [h]; simp), if_neg hn, if_neg (by rw [hb]; simp)]
set_option maxHeartbeats 2000000 in
theorem parse_any (s : ByteArray) (w : World) (hs : s.size ≤ 1000000) (hV : Vars w) :
    Calls Tryz.prog 82 #[.string s] w fun e w' => e = .returned (prA s) ∧ Below w.heap.size w w' := by
  have CW := fun w' hv => word_any s w' hs hv
  have CN := fun w' => isnum_any s w' hs
  have HNil := is_nil s
  by_cases hw : wordB s.data.toList = true
  · rw [hw] at CW
    by_cases hnil : s.data.toList = nil3
    · rw [decide_eq_true hnil] at HNil
      have HP : Hid (prA s = .tuple #[vv 0 0 ByteArray.empty, .int .i64 0]) := pr_nil hw hnil
      generalize prA s = ans at *
      clear hw hnil CN
      go_enter Tryz.func82, Tryz.ntmps82
      go_wp2_with (first | (go_at_call 95; refine (CW _ (hV.below (box1 _ _))).mono ?_; rintro e w1 ⟨rfl, hb1⟩; clear CW; obtain ⟨hc, hf⟩ := bcell hb1; have hz : w.heap.size < w1.heap.size := by { have := hb1.size; simp at this; omega }) | (go_at_call 96; refine (CN _).mono ?_; rintro e w2 ⟨rfl, hb2⟩; clear CN; obtain ⟨hc2, hf2⟩ := bcell hb2; have hz2 : w.heap.size < w2.heap.size := by { have := hb2.size; omega }) | (go_at_call 97; refine (CP _ (hV.below ((up1 hb1).trans (hb2.mono (up1 hb1).size)))).mono ?_; rintro e w3 ⟨rfl, hb3⟩; clear CP; obtain ⟨hc3, hf3⟩ := bcell hb3) | (go_at_call 98; refine (CS _).mono ?_; rintro e w3 ⟨rfl, hb3⟩; clear CS; obtain ⟨hc3, hf3⟩ := bcell hb3))
      refine bodyPost_ret (v := .tuple #[vv 0 0 ByteArray.empty, .int .i64 0]) (by simp [results, Tryz.results82, go_sem, vv, hc, hz] <;> rfl) rfl ⟨by rw [HP.out], ?_⟩
      exact set3 (up1 hb1) _ (Nat.le_refl _) _ _ _
    · rw [decide_eq_false hnil] at HNil
      by_cases hb : numB s.data.toList = true
      · have HP0 := pr_num hw hnil hb
        rw [hb] at CN
        have CP := fun w' hv => pnum_any s w' hs hv hb
        unfold pnA at CP
        generalize prA s = ans at *
        clear hw hnil hb
        by_cases hd : 1099511627776 < decV s.data.toList
        · rw [if_pos hd] at HP0 CP
          have HP : Hid (ans = .tuple #[vv 0 0 ByteArray.empty, .int .i64 12]) := HP0
          unfold vv at CP
          clear hd HP0
          go_enter Tryz.func82, Tryz.ntmps82
          go_wp2_with (first | (go_at_call 95; refine (CW _ (hV.below (box1 _ _))).mono ?_; rintro e w1 ⟨rfl, hb1⟩; clear CW; obtain ⟨hc, hf⟩ := bcell hb1; have hz : w.heap.size < w1.heap.size := by { have := hb1.size; simp at this; omega }) | (go_at_call 96; refine (CN _).mono ?_; rintro e w2 ⟨rfl, hb2⟩; clear CN; obtain ⟨hc2, hf2⟩ := bcell hb2; have hz2 : w.heap.size < w2.heap.size := by { have := hb2.size; omega }) | (go_at_call 97; refine (CP _ (hV.below ((up1 hb1).trans (hb2.mono (up1 hb1).size)))).mono ?_; rintro e w3 ⟨rfl, hb3⟩; clear CP; obtain ⟨hc3, hf3⟩ := bcell hb3) | (go_at_call 98; refine (CS _).mono ?_; rintro e w3 ⟨rfl, hb3⟩; clear CS; obtain ⟨hc3, hf3⟩ := bcell hb3))
          refine bodyPost_ret (v := .tuple #[vv 0 0 ByteArray.empty, .int .i64 12]) (by simp [results, Tryz.results82, go_sem, vv, hc, hz, hc2, hz2, hc3] <;> rfl) rfl ⟨by rw [HP.out], ?_⟩
          exact set3 (((up1 hb1).trans (hb2.mono (up1 hb1).size)).trans (hb3.mono ((up1 hb1).trans (hb2.mono (up1 hb1).size)).size)) _ (Nat.le_refl _) _ _ _
        · rw [if_neg hd] at HP0 CP
          generalize nbV s.data.toList = nb at *
          have HP : Hid (ans = .tuple #[vv 1 nb ByteArray.empty, .int .i64 0]) := HP0
          unfold vv at CP
          clear hd HP0
          go_enter Tryz.func82, Tryz.ntmps82
          go_wp2_with (first | (go_at_call 95; refine (CW _ (hV.below (box1 _ _))).mono ?_; rintro e w1 ⟨rfl, hb1⟩; clear CW; obtain ⟨hc, hf⟩ := bcell hb1; have hz : w.heap.size < w1.heap.size := by { have := hb1.size; simp at this; omega }) | (go_at_call 96; refine (CN _).mono ?_; rintro e w2 ⟨rfl, hb2⟩; clear CN; obtain ⟨hc2, hf2⟩ := bcell hb2; have hz2 : w.heap.size < w2.heap.size := by { have := hb2.size; omega }) | (go_at_call 97; refine (CP _ (hV.below ((up1 hb1).trans (hb2.mono (up1 hb1).size)))).mono ?_; rintro e w3 ⟨rfl, hb3⟩; clear CP; obtain ⟨hc3, hf3⟩ := bcell hb3) | (go_at_call 98; refine (CS _).mono ?_; rintro e w3 ⟨rfl, hb3⟩; clear CS; obtain ⟨hc3, hf3⟩ := bcell hb3))
          refine bodyPost_ret (v := .tuple #[vv 1 nb ByteArray.empty, .int .i64 0]) (by simp [results, Tryz.results82, go_sem, vv, hc, hz, hc2, hz2, hc3] <;> rfl) rfl ⟨by rw [HP.out], ?_⟩
          exact set3 (((up1 hb1).trans (hb2.mono (up1 hb1).size)).trans (hb3.mono ((up1 hb1).trans (hb2.mono (up1 hb1).size)).size)) _ (Nat.le_refl _) _ _ _
      · have hbf : numB s.data.toList = false := by simpa using hb
        have HP : Hid (prA s = .tuple #[vv 2 0 s, .int .i64 0]) := pr_sym hw hnil hbf
        rw [hbf] at CN
        have CS := fun w' => symbol_any s w'
        unfold vv at CS
        generalize prA s = ans at *
        clear hw hnil hb hbf
        go_enter Tryz.func82, Tryz.ntmps82
        go_wp2_with (first | (go_at_call 95; refine (CW _ (hV.below (box1 _ _))).mono ?_; rintro e w1 ⟨rfl, hb1⟩; clear CW; obtain ⟨hc, hf⟩ := bcell hb1; have hz : w.heap.size < w1.heap.size := by { have := hb1.size; simp at this; omega }) | (go_at_call 96; refine (CN _).mono ?_; rintro e w2 ⟨rfl, hb2⟩; clear CN; obtain ⟨hc2, hf2⟩ := bcell hb2; have hz2 : w.heap.size < w2.heap.size := by { have := hb2.size; omega }) | (go_at_call 97; refine (CP _ (hV.below ((up1 hb1).trans (hb2.mono (up1 hb1).size)))).mono ?_; rintro e w3 ⟨rfl, hb3⟩; clear CP; obtain ⟨hc3, hf3⟩ := bcell hb3) | (go_at_call 98; refine (CS _).mono ?_; rintro e w3 ⟨rfl, hb3⟩; clear CS; obtain ⟨hc3, hf3⟩ := bcell hb3))
        refine bodyPost_ret (v := .tuple #[vv 2 0 s, .int .i64 0]) (by simp [results, Tryz.results82, go_sem, vv, hc, hz, hc2, hz2, hc3] <;> rfl) rfl ⟨by rw [HP.out], ?_⟩
        exact set3 (((up1 hb1).trans (hb2.mono (up1 hb1).size)).trans (hb3.mono ((up1 hb1).trans (hb2.mono (up1 hb1).size)).size)) _ (Nat.le_refl _) _ _ _
  · have hwf : wordB s.data.toList = false := by simpa using hw
    have HP : Hid (prA s = .tuple #[vv 0 0 ByteArray.empty, .int .i64 6]) := pr_no hwf
    rw [hwf] at CW
    generalize prA s = ans at *
    clear hw hwf CN HNil
    go_enter Tryz.func82, Tryz.ntmps82
    go_wp2_with (first | (go_at_call 95; refine (CW _ (hV.below (box1 _ _))).mono ?_; rintro e w1 ⟨rfl, hb1⟩; clear CW; obtain ⟨hc, hf⟩ := bcell hb1; have hz : w.heap.size < w1.heap.size := by { have := hb1.size; simp at this; omega }) | (go_at_call 96; refine (CN _).mono ?_; rintro e w2 ⟨rfl, hb2⟩; clear CN; obtain ⟨hc2, hf2⟩ := bcell hb2; have hz2 : w.heap.size < w2.heap.size := by { have := hb2.size; omega }) | (go_at_call 97; refine (CP _ (hV.below ((up1 hb1).trans (hb2.mono (up1 hb1).size)))).mono ?_; rintro e w3 ⟨rfl, hb3⟩; clear CP; obtain ⟨hc3, hf3⟩ := bcell hb3) | (go_at_call 98; refine (CS _).mono ?_; rintro e w3 ⟨rfl, hb3⟩; clear CS; obtain ⟨hc3, hf3⟩ := bcell hb3))
    refine bodyPost_ret (v := .tuple #[vv 0 0 ByteArray.empty, .int .i64 6]) (by simp [results, Tryz.results82, go_sem, vv, hc, hz] <;> rfl) rfl ⟨by rw [HP.out], ?_⟩
    exact set3 (up1 hb1) _ (Nat.le_refl _) _ _ _
end Go.Proofs.YtemacdimdpnkeaaGreatDoor
