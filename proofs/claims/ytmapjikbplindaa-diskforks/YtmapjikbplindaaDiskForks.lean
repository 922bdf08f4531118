/- For any acts of a disk, and any of its fork: the fork answers as the document's does, and the disk stays as it was; a disk that is not there has nothing. -/
import Derived.Test.YtmapjikbplindaaRows
import Derived.Test.YtmapjikbplindaaSt
import Derived.WalkKit
import Derived.ProofKit
import Derived.OpenShut
import Derived.ShutString
import Derived.ChangeOld
import Derived.Below
import Derived.Test.YtmapjikbplindaaPairs
import Derived.Deep.RegionHeld3
import Derived.Deep.DeepCutAuto
import Derived.StillTailTactics
namespace Go.Proofs.Ytmapjikbplindaa.diskForks
open Go.ChangeShapes Go.WideShapes Go.ChangeAt Go.RowKit Go.Maps
open Go.ChangeMaps (open_string shut_string)
set_option linter.unusedVariables false
set_option linter.unusedSimpArgs false
set_option maxRecDepth 20000

theorem own : ownKnob Try.prog.godebug = none := by kernel_rfl
theorem laidOut : laidOutB Try.prog = true := by kernel_rfl
theorem fits_read (k : Nat) (h : k < 9) : ActD.Fits ⟨5, k, 0, 0, false, []⟩ := by constructor <;> simp <;> omega
set_option maxHeartbeats 800000 in
theorem walk_long (al : Option Addr) (len cap : Nat) (bl : Option Addr) (len2 cap2 : Nat) (w : World) (h : 50 < len) :
    Calls Try.prog 4 #[.slice al len cap, .slice bl len2 cap2] w fun e w' => e = .returned (.bool true) ∧ Below w.heap.size w w' := by
  have HA := awake_any
  have hd : decide ((50 : Int) < (len : Int)) = true := by simp; omega
  go_enter Try.func4, Try.ntmps4
  go_wp2_with (first | (go_at_call 8; refine (HA _).mono ?_; rintro e w1 ⟨rfl, hb⟩; clear HA) | fail)
  go_ret
  exact ⟨rfl, hb⟩
set_option maxHeartbeats 800000 in
theorem walk_long2 (al : Option Addr) (len cap : Nat) (bl : Option Addr) (len2 cap2 : Nat) (w : World) (h : ¬ 50 < len) (h2 : 50 < len2) :
    Calls Try.prog 4 #[.slice al len cap, .slice bl len2 cap2] w fun e w' => e = .returned (.bool true) ∧ Below w.heap.size w w' := by
  have HA := awake_any
  have hd : decide ((50 : Int) < (len : Int)) = false := by simp; omega
  have hd2 : decide ((50 : Int) < (len2 : Int)) = true := by simp; omega
  go_enter Try.func4, Try.ntmps4
  go_wp2_with (first | (go_at_call 8; refine (HA _).mono ?_; rintro e w1 ⟨rfl, hb⟩; clear HA) | fail)
  go_ret
  exact ⟨rfl, hb⟩
set_option maxHeartbeats 6400000 in
theorem walk_some (al : Option Addr) (len cap : Nat) (xs : List ActD) (bl : Option Addr) (len2 cap2 : Nat) (ys : List ActD) (w : World) (hacts : Acts w al len cap xs) (hacts2 : Acts w bl len2 cap2 ys) (h50 : len ≤ 50) (h502 : len2 ≤ 50) :
    Calls Try.prog 4 #[.slice al len cap, .slice bl len2 cap2] w fun e w' => e = .returned (.bool true) ∧ Below w.heap.size w w' := by
  have H8 : Hid (∀ W, Below w.heap.size w W → Calls Try.prog 8 #[] W fun e w' => e = .returned (.bool true) ∧ Below w.heap.size w w') := fun W hW => by
    refine (awake_any W).mono ?_
    rintro e w' ⟨rfl, hbb⟩
    exact ⟨rfl, hW.trans (hbb.mono hW.size)⟩
  have H9 : Hid (∀ W, Below w.heap.size w W → Calls Try.prog 9 #[.int .i64 9] W fun e w' => ∃ p nb mb, e = .returned (.pointer (some ⟨p, 0, none⟩)) ∧ Mine w w' p nb mb (newS 9)) := fun W hW => by
    refine (new_any 9 W).mono ?_
    rintro e w' ⟨p, nb, mb, rfl, hd, h1, h2, h3, hb⟩
    have := hW.size
    exact ⟨p, nb, mb, rfl, hd, by omega, by omega, by omega, hW.trans (hb.mono hW.size)⟩
  have H10 : Hid (∀ W p nb mb, Mine w W p nb mb (newS 9) → Calls Try.prog 10 #[.int .i64 9] W fun e w' => ∃ a n cap done, e = .returned (.agg (rcells (newS 9) (.slice a n cap) done)) ∧ Hid (St w (w'.alloc (.cells (rcells (newS 9) (.slice a n cap) done) 28)) p nb mb w'.heap.size (newS 9) a n cap done)) := fun W p nb mb hm => by
    refine (rnew_any 9 [p, nb, mb] W).mono ?_
    rintro e w' ⟨v, rfl, hr, hb⟩
    obtain ⟨a, n, cap, done, rfl⟩ := hr.open
    refine ⟨a, n, cap, done, rfl, ?_⟩
    have hm' := hm.below hb
    have hal : Below w'.heap.size w' (w'.alloc (.cells (rcells (newS 9) (.slice a n cap) done) 28)) := (Below.refl _ _).alloc (Nat.le_refl _) _
    exact ⟨hm'.below hal, hr.below hal, heap_alloc_last _ _, fun hx => by have := hm'.lt _ hx; omega, hm'.2.2.2.2.size⟩
  have HDO : Hid (∀ W p nb mb rb s a n cap done (x : ActD) fa fl fc, St w W p nb mb rb s a n cap done → x.Fits → x.fs.length = fl → fl ≤ fc → fc ≤ 9223372036854775807 → BV w fa x.fs → Calls Try.prog 11 #[.pointer (some ⟨p, 0, none⟩), .agg (rcells s (.slice a n cap) done), .agg #[.int .u8 x.kd, .int .i64 x.n, .int .u8 x.c, .int .u8 x.cut, .bool x.d, .slice fa fl fc]] W fun e w' => ∃ a2 n2 cap2 done2, e = .returned (.tuple #[.agg (rcells (actsD s x) (.slice a2 n2 cap2) done2), .bool true]) ∧
      RC w' rb (.int .i64 s.room) (.slice a n cap) (.bool s.down) (.int .i64 s.ops) (.int .i64 s.reads) (.int .i64 s.fails) (.bool done) ∧
      Hid (St w (((((((w'.setCell ⟨rb, 0, none⟩ (.int .i64 (actsD s x).room)).setCell ⟨rb, 1, none⟩ (.slice a2 n2 cap2)).setCell ⟨rb, 2, none⟩ (.bool (actsD s x).down)).setCell ⟨rb, 3, none⟩ (.int .i64 (actsD s x).ops)).setCell ⟨rb, 4, none⟩ (.int .i64 (actsD s x).reads)).setCell ⟨rb, 5, none⟩ (.int .i64 (actsD s x).fails)).setCell ⟨rb, 6, none⟩ (.bool done2)) p nb mb rb (actsD s x) a2 n2 cap2 done2)) := fun W p nb mb rb s a n cap done x fa fl fc hs hf h1 h2 h3 hb => st_do W hs x fa fl fc hf (fate_any hs.1 h1 h2 h3 hb)
  have HCR : Hid (∀ W p nb mb s v fs, Mine w W p nb mb s → FV W [p, nb, mb] v fs → Calls Try.prog 14 #[.pointer (some ⟨p, 0, none⟩), v] W fun e w' => e = .returned (.tuple #[]) ∧ Mine w w' p nb mb (crashS s fs)) := fun W p nb mb s v fs hm hf => by
    refine (mcrash v fs W hm hf).mono ?_
    rintro e w' ⟨rfl, h, _⟩
    exact ⟨rfl, h⟩
  have HFU : Hid (∀ W p nb mb s (c : Int), 0 ≤ c → c ≤ 255 → Mine w W p nb mb s → Calls Try.prog 24 #[.int .u8 c] W fun e w' => ∃ g, e = .returned (.slice (some ⟨g, 0, none⟩) 256 256) ∧ Hid (BV w' (some ⟨g, 0, none⟩) (List.replicate 256 c) ∧ g ∉ [p, nb, mb] ∧ Mine w w' p nb mb s) ∧ Below W.heap.size W w') := fun W p nb mb s c h0 h1 hm => by
    refine (mfull c W hm h0 h1).mono ?_
    rintro e w' ⟨g, rfl, h1, h2, h3, h4⟩
    exact ⟨g, rfl, ⟨h1, h2, h3⟩, h4⟩
  have HAT : Hid (∀ i, i < len → ∃ b off, al = some ⟨b, off, none⟩ ∧ b < w.heap.size ∧ ActAt w b (off + i * 6) (xs.getD i default)) := by
    intro i hi
    rcases hacts.2.2.2.2 with e | ⟨b, off, e1, e2, e3⟩
    · have := hacts.1
      rw [e] at this
      simp at this
      omega
    · exact ⟨b, off, e1, e2, e3 i hi⟩
  have HAT2 : Hid (∀ i, i < len2 → ∃ b off, bl = some ⟨b, off, none⟩ ∧ b < w.heap.size ∧ ActAt w b (off + i * 6) (ys.getD i default)) := by
    intro i hi
    rcases hacts2.2.2.2.2 with e | ⟨b, off, e1, e2, e3⟩
    · have := hacts2.1
      rw [e] at this
      simp at this
      omega
    · exact ⟨b, off, e1, e2, e3 i hi⟩
  have H12 : Hid (∀ W p nb mb rb s a n cap done, St w W p nb mb rb s a n cap done → Calls Try.prog 12 #[.pointer (some ⟨p, 0, none⟩), .agg #[.int .i64 s.room, .slice a n cap, .bool s.down, .int .i64 s.ops, .int .i64 s.reads, .int .i64 s.fails, .bool done]] W fun e w' => e = .returned (.bool true) ∧ Below W.heap.size W w') := fun W p nb mb rb s a n cap done hs => same_any p nb mb s [p, nb, mb] _ W hs.1.1 hs.2.1
  have hd50 : decide ((50 : Int) < (len : Int)) = false := by simp; omega
  have hd502 : decide ((50 : Int) < (len2 : Int)) = false := by simp; omega
  clear hacts hacts2
  go_enter Try.func4, Try.ntmps4
  go_wp2_with (first
    | (go_at_call 9; refine (H9.out _ (Below.refl _ _)).mono ?_; rintro e w1 ⟨p, nb, mb, rfl, hm1⟩; have HM1 : Hid (Mine w w1 p nb mb (newS 9)) := hm1; clear hm1)
    | (go_at_call 10; refine (H10.out _ p nb mb HM1.out).mono ?_; rintro e w2 ⟨ra, rn, rcap, rdone, rfl, HS⟩; unfold rcells)
    | fail)
  obtain ⟨HS0, hrb⟩ : Hid (St w (w2.alloc (.cells (rcells (newS 9) (.slice ra rn rcap) rdone) 28)) p nb mb w2.heap.size (newS 9) ra rn rcap rdone) ∧ True := ⟨HS, trivial⟩
  generalize hrbe : w2.heap.size = rb at *
  go_loopw [7] (fun iv wr => ∃ (k : Nat) (s : DS) (a : Option Addr) (n cap : Nat) (done : Bool), k ≤ len ∧ iv = .int .i64 k ∧ Hid (St w wr p nb mb rb s a n cap done) ∧ Hid (s.room = 9)) (fun iv _ => len - (intOf iv).toNat)
  case atStart => exact ⟨0, newS 9, ra, rn, rcap, rdone, Nat.zero_le _, rfl, HS0.out, rfl⟩
  case round =>
    obtain ⟨k, s, ra, rn, rcap, rdone, hk, rfl, HS, HR9⟩ := hrel
    clear HS0 H9 H10
    by_cases hlt : k < len
    · obtain ⟨b, off, rfl, hbs, hfit, fa', fl', fc', q0, q1, q2, q3, q4, q5, q6, q7, q8, q9⟩ := HAT.out k hlt
      have HBW : Hid (Below w.heap.size w wr) := HS.out.1.2.2.2.2
      have c0 := (HBW.out.cell (p := ⟨b, off + k * 6, none⟩) hbs).trans q0
      have c1 := (HBW.out.cell (p := ⟨b, off + k * 6 + 1, none⟩) hbs).trans q1
      have c2 := (HBW.out.cell (p := ⟨b, off + k * 6 + 2, none⟩) hbs).trans q2
      have c3 := (HBW.out.cell (p := ⟨b, off + k * 6 + 3, none⟩) hbs).trans q3
      have c4 := (HBW.out.cell (p := ⟨b, off + k * 6 + 4, none⟩) hbs).trans q4
      have c5 := (HBW.out.cell (p := ⟨b, off + k * 6 + 5, none⟩) hbs).trans q5
      obtain ⟨r0, r1, r2, r3, r4, r5, r6, _⟩ := RC.of HS.out.2.2.1
      generalize hxk : xs.getD k default = x at *
      have HX : Hid (x.Fits ∧ x.fs.length = fl' ∧ fl' ≤ fc' ∧ fc' ≤ 9223372036854775807 ∧ BV w fa' x.fs) := ⟨hfit, q6, q7, q8, q9⟩
      have HR2 : Hid ((actsD s x).room = 9) := by
        have : (actsD s x).room = 9 := by rw [acts_room]; exact HR9.out
        exact this
      have CD := fun W hs => HDO.out W p nb mb rb s ra rn rcap rdone x fa' fl' fc' hs HX.out.1 HX.out.2.1 HX.out.2.2.1 HX.out.2.2.2.1 HX.out.2.2.2.2
      have HCD : Hid (∀ W, St w W p nb mb rb s ra rn rcap rdone → _) := CD
      unfold rcells at HCD
      have hdk : decide ((k : Int) < (len : Int)) = true := by simp; omega
      clear q0 q1 q2 q3 q4 q5 q6 q7 q8 q9 hfit HDO HAT hxk CD HCR HFU
      go_wp2_with fail
      refine wp_region_noPanic ?_
      refine name_ops ?_
      intro O QQ HO HQ
      refine wp_region_held_drew (S := fun _ => True) (by kernel_rfl) trivial (fun hS => ?_)
      rw [show O.size = 11 by rw [HO.out]; rfl]
      refine wpAnyH_take (i := 0) (v := .pointer (some ⟨p, 0, none⟩)) (by rw [HO.out]; simp only [List.getElem?_toArray, List.getElem?_cons_succ, List.getElem?_cons_zero]; rfl) (by rw [HO.out]; kernel_rfl) (by rw [HO.out]; kernel_rfl) (by rw [HO.out]; kernel_rfl) (by rw [HQ.out]; exact fun _ _ _ h => h) (Or.inl ⟨by rfl, ?_⟩) trivial ?_
      · intro w' hSw
        go_simp
      try simp only [Act.put, List.setIfInBounds_toArray, List.set_cons_zero, List.set_cons_succ]
      refine wpAnyH_take (i := 2) (v := .slice (some ⟨b, off, none⟩) len cap) (by rw [HO.out]; simp only [List.getElem?_toArray, List.getElem?_cons_succ, List.getElem?_cons_zero]; rfl) (by rw [HO.out]; kernel_rfl) (by rw [HO.out]; kernel_rfl) (by rw [HO.out]; kernel_rfl) (by rw [HQ.out]; exact fun _ _ _ h => h) (Or.inl ⟨by rfl, ?_⟩) trivial ?_
      · intro w' hSw
        go_simp
      try simp only [Act.put, List.setIfInBounds_toArray, List.set_cons_zero, List.set_cons_succ]
      refine wpAnyH_take (i := 3) (v := .int .i64 k) (by rw [HO.out]; simp only [List.getElem?_toArray, List.getElem?_cons_succ, List.getElem?_cons_zero]; rfl) (by rw [HO.out]; kernel_rfl) (by rw [HO.out]; kernel_rfl) (by rw [HO.out]; kernel_rfl) (by rw [HQ.out]; exact fun _ _ _ h => h) (Or.inl ⟨by rfl, ?_⟩) trivial ?_
      · intro w' hSw
        go_simp
      try simp only [Act.put, List.setIfInBounds_toArray, List.set_cons_zero, List.set_cons_succ]
      refine wpAnyH_take (i := 4) (v := .pointer (some ⟨b, off + k * 6, none⟩)) (by rw [HO.out]; simp only [List.getElem?_toArray, List.getElem?_cons_succ, List.getElem?_cons_zero]; rfl) (by rw [HO.out]; kernel_rfl) (by rw [HO.out]; kernel_rfl) (by rw [HO.out]; kernel_rfl) (by rw [HQ.out]; exact fun _ _ _ h => h) (Or.inl ⟨by rfl, ?_⟩) trivial ?_
      · intro w' hSw
        go_simp
      try simp only [Act.put, List.setIfInBounds_toArray, List.set_cons_zero, List.set_cons_succ]
      refine wpAnyH_ready (rs := [1, 5]) (by rw [HO.out]; kernel_rfl) (by simp) ?_
      refine AllReadyH.cons (o := _) (by rw [HO.out]; simp only [List.getElem?_toArray, List.getElem?_cons_succ, List.getElem?_cons_zero]; rfl) (fun K1 hK1 => ?_) ?_
      · go_simp
        refine hK1.out _ _ trivial (fun _ => ?_)
        try simp only [Act.put, List.setIfInBounds_toArray, List.set_cons_zero, List.set_cons_succ]
        refine wpAnyH_ready (rs := [5]) (by rw [HO.out]; kernel_rfl) (by simp) ?_
        refine AllReadyH.cons (o := _) (by rw [HO.out]; simp only [List.getElem?_toArray, List.getElem?_cons_succ, List.getElem?_cons_zero]; rfl) (fun K5 hK5 => ?_) ?_
        · go_simp
          refine hK5.out _ _ trivial (fun _ => ?_)
          try simp only [Act.put, List.setIfInBounds_toArray, List.set_cons_zero, List.set_cons_succ]
          refine wpAnyH_ready (rs := [6]) (by rw [HO.out]; kernel_rfl) (by simp) ?_
          refine AllReadyH.cons (o := _) (by rw [HO.out]; simp only [List.getElem?_toArray, List.getElem?_cons_succ, List.getElem?_cons_zero]; rfl) (fun K6 hK6 => ?_) ?_
          · go_simp
            refine (HCD.out _ (HS.out.below (Below.refl _ _).drew)).mono ?_
            rintro e w3 ⟨a3, n3, cap3, done3, rfl, hrc, hs3⟩
            obtain ⟨z0, z1, z2, z3, z4, z5, z6, y0, y1, y2, y3, y4, y5, y6⟩ := hrc
            refine hK6.out _ _ trivial (fun _ => ?_)
            try simp only [Act.put, List.setIfInBounds_toArray, List.set_cons_zero, List.set_cons_succ]
            refine wpAnyH_take (i := 7) (v := .tuple #[.agg #[.int .i64 (actsD s x).room, .slice a3 n3 cap3, .bool (actsD s x).down, .int .i64 (actsD s x).ops, .int .i64 (actsD s x).reads, .int .i64 (actsD s x).fails, .bool done3], .bool true]) (by rw [HO.out]; simp only [List.getElem?_toArray, List.getElem?_cons_succ, List.getElem?_cons_zero]; rfl) (by rw [HO.out]; kernel_rfl) (by rw [HO.out]; kernel_rfl) (by rw [HO.out]; kernel_rfl) (by rw [HQ.out]; exact fun _ _ _ h => h) (Or.inl ⟨by rfl, ?_⟩) trivial ?_
            · intro w' hSw
              go_simp
            try simp only [Act.put, List.setIfInBounds_toArray, List.set_cons_zero, List.set_cons_succ]
            refine wpAnyH_take (i := 8) (v := .agg #[.int .i64 (actsD s x).room, .slice a3 n3 cap3, .bool (actsD s x).down, .int .i64 (actsD s x).ops, .int .i64 (actsD s x).reads, .int .i64 (actsD s x).fails, .bool done3]) (by rw [HO.out]; simp only [List.getElem?_toArray, List.getElem?_cons_succ, List.getElem?_cons_zero]; rfl) (by rw [HO.out]; kernel_rfl) (by rw [HO.out]; kernel_rfl) (by rw [HO.out]; kernel_rfl) (by rw [HQ.out]; exact fun _ _ _ h => h) (Or.inl ⟨by rfl, ?_⟩) trivial ?_
            · intro w' hSw
              go_simp
            try simp only [Act.put, List.setIfInBounds_toArray, List.set_cons_zero, List.set_cons_succ]
            refine wpAnyH_take (i := 9) (v := .bool true) (by rw [HO.out]; simp only [List.getElem?_toArray, List.getElem?_cons_succ, List.getElem?_cons_zero]; rfl) (by rw [HO.out]; kernel_rfl) (by rw [HO.out]; kernel_rfl) (by rw [HO.out]; kernel_rfl) (by rw [HQ.out]; exact fun _ _ _ h => h) (Or.inl ⟨by rfl, ?_⟩) trivial ?_
            · intro w' hSw
              go_simp
            try simp only [Act.put, List.setIfInBounds_toArray, List.set_cons_zero, List.set_cons_succ]
            refine wpAnyH_ready (rs := [10]) (by rw [HO.out]; kernel_rfl) (by simp) ?_
            refine AllReadyH.cons (o := _) (by rw [HO.out]; simp only [List.getElem?_toArray, List.getElem?_cons_succ, List.getElem?_cons_zero]; rfl) (fun K10 hK10 => ?_) ?_
            · go_simp
              refine hK10.out _ _ trivial (fun _ => ?_)
              try simp only [Act.put, List.setIfInBounds_toArray, List.set_cons_zero, List.set_cons_succ]
              refine wpAnyH_done (by rw [HO.out]; kernel_rfl) ?_ _
              rw [HQ.out]
              refine NoPanic.normal ?_
              clear HCD
              go_wp2_with fail
              go_roundw
              case rel => exact ⟨k + 1, actsD s x, a3, n3, cap3, done3, by omega, by go_num, hs3.out, HR2.out⟩
              case measure => simp [intOf]; omega
            exact AllReadyH.nil
          exact AllReadyH.nil
        exact AllReadyH.nil
      refine AllReadyH.cons (o := _) (by rw [HO.out]; simp only [List.getElem?_toArray, List.getElem?_cons_succ, List.getElem?_cons_zero]; rfl) (fun K5 hK5 => ?_) ?_
      · go_simp
        refine hK5.out _ _ trivial (fun _ => ?_)
        try simp only [Act.put, List.setIfInBounds_toArray, List.set_cons_zero, List.set_cons_succ]
        refine wpAnyH_ready (rs := [1]) (by rw [HO.out]; kernel_rfl) (by simp) ?_
        refine AllReadyH.cons (o := _) (by rw [HO.out]; simp only [List.getElem?_toArray, List.getElem?_cons_succ, List.getElem?_cons_zero]; rfl) (fun K1 hK1 => ?_) ?_
        · go_simp
          refine hK1.out _ _ trivial (fun _ => ?_)
          try simp only [Act.put, List.setIfInBounds_toArray, List.set_cons_zero, List.set_cons_succ]
          refine wpAnyH_ready (rs := [6]) (by rw [HO.out]; kernel_rfl) (by simp) ?_
          refine AllReadyH.cons (o := _) (by rw [HO.out]; simp only [List.getElem?_toArray, List.getElem?_cons_succ, List.getElem?_cons_zero]; rfl) (fun K6 hK6 => ?_) ?_
          · go_simp
            refine (HCD.out _ (HS.out.below (Below.refl _ _).drew)).mono ?_
            rintro e w3 ⟨a3, n3, cap3, done3, rfl, hrc, hs3⟩
            obtain ⟨z0, z1, z2, z3, z4, z5, z6, y0, y1, y2, y3, y4, y5, y6⟩ := hrc
            refine hK6.out _ _ trivial (fun _ => ?_)
            try simp only [Act.put, List.setIfInBounds_toArray, List.set_cons_zero, List.set_cons_succ]
            refine wpAnyH_take (i := 7) (v := .tuple #[.agg #[.int .i64 (actsD s x).room, .slice a3 n3 cap3, .bool (actsD s x).down, .int .i64 (actsD s x).ops, .int .i64 (actsD s x).reads, .int .i64 (actsD s x).fails, .bool done3], .bool true]) (by rw [HO.out]; simp only [List.getElem?_toArray, List.getElem?_cons_succ, List.getElem?_cons_zero]; rfl) (by rw [HO.out]; kernel_rfl) (by rw [HO.out]; kernel_rfl) (by rw [HO.out]; kernel_rfl) (by rw [HQ.out]; exact fun _ _ _ h => h) (Or.inl ⟨by rfl, ?_⟩) trivial ?_
            · intro w' hSw
              go_simp
            try simp only [Act.put, List.setIfInBounds_toArray, List.set_cons_zero, List.set_cons_succ]
            refine wpAnyH_take (i := 8) (v := .agg #[.int .i64 (actsD s x).room, .slice a3 n3 cap3, .bool (actsD s x).down, .int .i64 (actsD s x).ops, .int .i64 (actsD s x).reads, .int .i64 (actsD s x).fails, .bool done3]) (by rw [HO.out]; simp only [List.getElem?_toArray, List.getElem?_cons_succ, List.getElem?_cons_zero]; rfl) (by rw [HO.out]; kernel_rfl) (by rw [HO.out]; kernel_rfl) (by rw [HO.out]; kernel_rfl) (by rw [HQ.out]; exact fun _ _ _ h => h) (Or.inl ⟨by rfl, ?_⟩) trivial ?_
            · intro w' hSw
              go_simp
            try simp only [Act.put, List.setIfInBounds_toArray, List.set_cons_zero, List.set_cons_succ]
            refine wpAnyH_take (i := 9) (v := .bool true) (by rw [HO.out]; simp only [List.getElem?_toArray, List.getElem?_cons_succ, List.getElem?_cons_zero]; rfl) (by rw [HO.out]; kernel_rfl) (by rw [HO.out]; kernel_rfl) (by rw [HO.out]; kernel_rfl) (by rw [HQ.out]; exact fun _ _ _ h => h) (Or.inl ⟨by rfl, ?_⟩) trivial ?_
            · intro w' hSw
              go_simp
            try simp only [Act.put, List.setIfInBounds_toArray, List.set_cons_zero, List.set_cons_succ]
            refine wpAnyH_ready (rs := [10]) (by rw [HO.out]; kernel_rfl) (by simp) ?_
            refine AllReadyH.cons (o := _) (by rw [HO.out]; simp only [List.getElem?_toArray, List.getElem?_cons_succ, List.getElem?_cons_zero]; rfl) (fun K10 hK10 => ?_) ?_
            · go_simp
              refine hK10.out _ _ trivial (fun _ => ?_)
              try simp only [Act.put, List.setIfInBounds_toArray, List.set_cons_zero, List.set_cons_succ]
              refine wpAnyH_done (by rw [HO.out]; kernel_rfl) ?_ _
              rw [HQ.out]
              refine NoPanic.normal ?_
              clear HCD
              go_wp2_with fail
              go_roundw
              case rel => exact ⟨k + 1, actsD s x, a3, n3, cap3, done3, by omega, by go_num, hs3.out, HR2.out⟩
              case measure => simp [intOf]; omega
            exact AllReadyH.nil
          exact AllReadyH.nil
        exact AllReadyH.nil
      exact AllReadyH.nil
    · have hdk : decide ((k : Int) < (len : Int)) = false := by simp; omega
      clear HAT HDO HCR HFU HR9
      have HFK : Hid (∀ W, St w W p nb mb rb s ra rn rcap rdone → _) := fun W h => mfork_st W h
      go_wp2_with fail
      go_cut [8, 9, 10] (fun fv xv okv wx => ∃ (q qb qm xb : Nat), fv = .pointer (some ⟨q, 0, none⟩) ∧ xv = .pointer (some ⟨xb, 0, none⟩) ∧ okv = .bool true ∧ Hid (Pair w wx p nb mb rb s ra rn rcap rdone q qb qm xb s ra rn rcap rdone))
      case first =>
        refine wp_region_noPanic ?_
        refine name_ops ?_
        intro O QQ HO HQ
        refine wp_region_held_drew (S := fun W' => St w W' p nb mb rb s ra rn rcap rdone) (by kernel_rfl) (HS.out.below (Below.refl _ _).drew) (fun hS => ?_)
        have HSW : Hid (St w wr.drew p nb mb rb s ra rn rcap rdone) := hS
        rw [show O.size = 7 by rw [HO.out]; rfl]
        clear hS
        refine wpAnyH_take (i := 0) (v := .pointer (some ⟨p, 0, none⟩)) (by rw [HO.out]; simp only [List.getElem?_toArray, List.getElem?_cons_succ, List.getElem?_cons_zero]; rfl) (by rw [HO.out]; kernel_rfl) (by rw [HO.out]; kernel_rfl) (by rw [HO.out]; kernel_rfl) (by rw [HQ.out]; exact fun _ _ _ h => h) (Or.inl ⟨by rfl, ?_⟩) HSW.out ?_
        · intro w' hSw
          go_simp
        try simp only [Act.put, List.setIfInBounds_toArray, List.set_cons_zero, List.set_cons_succ]
        refine wpAnyH_take (i := 2) (v := .agg #[.int .i64 s.room, .slice ra rn rcap, .bool s.down, .int .i64 s.ops, .int .i64 s.reads, .int .i64 s.fails, .bool rdone]) (by rw [HO.out]; simp only [List.getElem?_toArray, List.getElem?_cons_succ, List.getElem?_cons_zero]; rfl) (by rw [HO.out]; kernel_rfl) (by rw [HO.out]; kernel_rfl) (by rw [HO.out]; kernel_rfl) (by rw [HQ.out]; exact fun _ _ _ h => h) (Or.inl ⟨by rfl, ?_⟩) HSW.out ?_
        · intro w' hSw
          obtain ⟨q0, q1, q2, q3, q4, q5, q6, _⟩ := RC.of hSw.2.2.1
          go_simp
        try simp only [Act.put, List.setIfInBounds_toArray, List.set_cons_zero, List.set_cons_succ]
        refine wpAnyH_ready (rs := [1, 3]) (by rw [HO.out]; kernel_rfl) (by simp) ?_
        refine AllReadyH.cons (o := _) (by rw [HO.out]; simp only [List.getElem?_toArray, List.getElem?_cons_succ, List.getElem?_cons_zero]; rfl) (fun K1 hK1 => ?_) ?_
        · go_simp
          refine (HFK.out _ HSW.out).mono ?_
          rintro e w3 ⟨q, qb, qm, rfl, HF3⟩
          refine hK1.out _ _ HF3.out.2.1 (fun _ => ?_)
          try simp only [Act.put, List.setIfInBounds_toArray, List.set_cons_zero, List.set_cons_succ]
          refine wpAnyH_ready (rs := [3]) (by rw [HO.out]; kernel_rfl) (by simp) ?_
          refine AllReadyH.cons (o := _) (by rw [HO.out]; simp only [List.getElem?_toArray, List.getElem?_cons_succ, List.getElem?_cons_zero]; rfl) (fun K3 hK3 => ?_) ?_
          · go_simp
            have hal : Below w3.heap.size w3 (w3.alloc (.cells #[.int .i64 0, .slice none 0 0, .bool false, .int .i64 0, .int .i64 0, .int .i64 0, .bool false] 28)) := (Below.refl _ _).alloc (Nat.le_refl _) _
            have HST : Hid (St w (w3.alloc (.cells #[.int .i64 0, .slice none 0 0, .bool false, .int .i64 0, .int .i64 0, .int .i64 0, .bool false] 28)) p nb mb rb s ra rn rcap rdone) := HF3.out.2.1.below hal
            have HZ : Hid ((w3.alloc (.cells #[.int .i64 0, .slice none 0 0, .bool false, .int .i64 0, .int .i64 0, .int .i64 0, .bool false] 28)).heap[w3.heap.size]? = some (.cells #[.int .i64 0, .slice none 0 0, .bool false, .int .i64 0, .int .i64 0, .int .i64 0, .bool false] 28 (0, 0))) := heap_alloc_last _ _
            have HPR : Hid (Pair w (w3.alloc (.cells #[.int .i64 s.room, .slice ra rn rcap, .bool s.down, .int .i64 s.ops, .int .i64 s.reads, .int .i64 s.fails, .bool rdone] 28)) p nb mb rb s ra rn rcap rdone q qb qm w3.heap.size s ra rn rcap rdone) := pair_fork HSW.out HF3.out.1 HF3.out.2.2.1 HF3.out.2.2.2
            refine hK3.out _ _ HST.out (fun _ => ?_)
            try simp only [Act.put, List.setIfInBounds_toArray, List.set_cons_zero, List.set_cons_succ]
            obtain ⟨y0, y1, y2, y3, y4, y5, y6, x0, x1, x2, x3, x4, x5, x6⟩ := RC.of HZ.out
            refine wpAnyH_ready (rs := [4]) (by rw [HO.out]; kernel_rfl) (by simp) ?_
            refine AllReadyH.cons (o := _) (by rw [HO.out]; simp only [List.getElem?_toArray, List.getElem?_cons_succ, List.getElem?_cons_zero]; rfl) (fun K4 hK4 => ?_) ?_
            · go_simp
              refine hK4.out _ _ HST.out (fun _ => ?_)
              try simp only [Act.put, List.setIfInBounds_toArray, List.set_cons_zero, List.set_cons_succ]
              refine wpAnyH_ready (rs := [5]) (by rw [HO.out]; kernel_rfl) (by simp) ?_
              refine AllReadyH.cons (o := _) (by rw [HO.out]; simp only [List.getElem?_toArray, List.getElem?_cons_succ, List.getElem?_cons_zero]; rfl) (fun K5 hK5 => ?_) ?_
              · go_simp
                refine hK5.out _ _ HPR.out.1 (fun _ => ?_)
                try simp only [Act.put, List.setIfInBounds_toArray, List.set_cons_zero, List.set_cons_succ]
                refine wpAnyH_ready (rs := [6]) (by rw [HO.out]; kernel_rfl) (by simp) ?_
                refine AllReadyH.cons (o := _) (by rw [HO.out]; simp only [List.getElem?_toArray, List.getElem?_cons_succ, List.getElem?_cons_zero]; rfl) (fun K6 hK6 => ?_) ?_
                · go_simp
                  refine hK6.out _ _ HPR.out.1 (fun _ => ?_)
                  try simp only [Act.put, List.setIfInBounds_toArray, List.set_cons_zero, List.set_cons_succ]
                  refine wpAnyH_done (by rw [HO.out]; kernel_rfl) ?_ _
                  rw [HQ.out]
                  refine NoPanic.normal ?_
                  go_wp2_with fail
                  go_meet
                  case rel => exact ⟨q, qb, qm, w3.heap.size, rfl, rfl, rfl, HPR.out⟩
                exact AllReadyH.nil
              exact AllReadyH.nil
            exact AllReadyH.nil
          exact AllReadyH.nil
        refine AllReadyH.cons (o := _) (by rw [HO.out]; simp only [List.getElem?_toArray, List.getElem?_cons_succ, List.getElem?_cons_zero]; rfl) (fun K3 hK3 => ?_) ?_
        · go_simp
          have hal : Below wr.drew.heap.size wr.drew (wr.drew.alloc (.cells #[.int .i64 0, .slice none 0 0, .bool false, .int .i64 0, .int .i64 0, .int .i64 0, .bool false] 28)) := (Below.refl _ _).alloc (Nat.le_refl _) _
          have HSA : Hid (St w (wr.drew.alloc (.cells #[.int .i64 0, .slice none 0 0, .bool false, .int .i64 0, .int .i64 0, .int .i64 0, .bool false] 28)) p nb mb rb s ra rn rcap rdone) := HSW.out.below hal
          refine hK3.out _ _ HSA.out (fun _ => ?_)
          try simp only [Act.put, List.setIfInBounds_toArray, List.set_cons_zero, List.set_cons_succ]
          refine wpAnyH_ready (rs := [1]) (by rw [HO.out]; kernel_rfl) (by simp) ?_
          refine AllReadyH.cons (o := _) (by rw [HO.out]; simp only [List.getElem?_toArray, List.getElem?_cons_succ, List.getElem?_cons_zero]; rfl) (fun K1 hK1 => ?_) ?_
          · go_simp
            refine (HFK.out _ HSA.out).mono ?_
            rintro e w3 ⟨q, qb, qm, rfl, HF3⟩
            have HST : Hid (St w w3 p nb mb rb s ra rn rcap rdone) := HF3.out.2.1
            have HZ : Hid (w3.heap[wr.heap.size]? = some (.cells #[.int .i64 0, .slice none 0 0, .bool false, .int .i64 0, .int .i64 0, .int .i64 0, .bool false] 28 (0, 0))) := (HF3.out.2.2.2.block _ (by simp)).trans (heap_alloc_last _ _)
            have HPR : Hid (Pair w _ p nb mb rb s ra rn rcap rdone q qb qm wr.heap.size s ra rn rcap rdone) := pair_of HST.out HF3.out.1 HZ.out (fork_fresh2 (W := wr.drew) HSW.out HF3.out.2.2.1) (fork_rb HSA.out HF3.out.2.2.1) HSW.out.1.2.2.2.2.size
            refine hK1.out _ _ HST.out (fun _ => ?_)
            try simp only [Act.put, List.setIfInBounds_toArray, List.set_cons_zero, List.set_cons_succ]
            obtain ⟨y0, y1, y2, y3, y4, y5, y6, x0, x1, x2, x3, x4, x5, x6⟩ := RC.of HZ.out
            refine wpAnyH_ready (rs := [4]) (by rw [HO.out]; kernel_rfl) (by simp) ?_
            refine AllReadyH.cons (o := _) (by rw [HO.out]; simp only [List.getElem?_toArray, List.getElem?_cons_succ, List.getElem?_cons_zero]; rfl) (fun K4 hK4 => ?_) ?_
            · go_simp
              refine hK4.out _ _ HST.out (fun _ => ?_)
              try simp only [Act.put, List.setIfInBounds_toArray, List.set_cons_zero, List.set_cons_succ]
              refine wpAnyH_ready (rs := [5]) (by rw [HO.out]; kernel_rfl) (by simp) ?_
              refine AllReadyH.cons (o := _) (by rw [HO.out]; simp only [List.getElem?_toArray, List.getElem?_cons_succ, List.getElem?_cons_zero]; rfl) (fun K5 hK5 => ?_) ?_
              · go_simp
                refine hK5.out _ _ HPR.out.1 (fun _ => ?_)
                try simp only [Act.put, List.setIfInBounds_toArray, List.set_cons_zero, List.set_cons_succ]
                refine wpAnyH_ready (rs := [6]) (by rw [HO.out]; kernel_rfl) (by simp) ?_
                refine AllReadyH.cons (o := _) (by rw [HO.out]; simp only [List.getElem?_toArray, List.getElem?_cons_succ, List.getElem?_cons_zero]; rfl) (fun K6 hK6 => ?_) ?_
                · go_simp
                  refine hK6.out _ _ HPR.out.1 (fun _ => ?_)
                  try simp only [Act.put, List.setIfInBounds_toArray, List.set_cons_zero, List.set_cons_succ]
                  refine wpAnyH_done (by rw [HO.out]; kernel_rfl) ?_ _
                  rw [HQ.out]
                  refine NoPanic.normal ?_
                  go_wp2_with fail
                  go_meet
                  case rel => exact ⟨q, qb, qm, wr.heap.size, rfl, rfl, rfl, HPR.out⟩
                exact AllReadyH.nil
              exact AllReadyH.nil
            exact AllReadyH.nil
          exact AllReadyH.nil
        exact AllReadyH.nil
      case rest =>
        obtain ⟨q, qb, qm, xb, rfl, rfl, rfl, HP⟩ := hcut
        have HP0 := HP
        clear HP
        go_wp2_with fail
        go_loopw [10, 11] (fun okv iv wy => ∃ (k2 : Nat) (t : DS) (a : Option Addr) (n cap3 : Nat) (done : Bool), k2 ≤ len2 ∧ iv = .int .i64 k2 ∧ okv = .bool true ∧ Hid (Pair w wy p nb mb rb s ra rn rcap rdone q qb qm xb t a n cap3 done)) (fun _ iv _ => len2 - (intOf iv).toNat)
        case atStart => exact ⟨0, s, ra, rn, rcap, rdone, Nat.zero_le _, rfl, rfl, HP0.out⟩
        case round =>
          obtain ⟨k2, t, xa, xn, xcap, xdone, hk2, rfl, rfl, HPK⟩ := hrel
          clear HP0 HS HFK
          by_cases hlt2 : k2 < len2
          · obtain ⟨b, off, rfl, hbs, hfit, fa', fl', fc', q0, q1, q2, q3, q4, q5, q6, q7, q8, q9⟩ := HAT2.out k2 hlt2
            have HBW : Hid (Below w.heap.size w wr) := HPK.out.1.1.2.2.2.2
            have c0 := (HBW.out.cell (p := ⟨b, off + k2 * 6, none⟩) hbs).trans q0
            have c1 := (HBW.out.cell (p := ⟨b, off + k2 * 6 + 1, none⟩) hbs).trans q1
            have c2 := (HBW.out.cell (p := ⟨b, off + k2 * 6 + 2, none⟩) hbs).trans q2
            have c3 := (HBW.out.cell (p := ⟨b, off + k2 * 6 + 3, none⟩) hbs).trans q3
            have c4 := (HBW.out.cell (p := ⟨b, off + k2 * 6 + 4, none⟩) hbs).trans q4
            have c5 := (HBW.out.cell (p := ⟨b, off + k2 * 6 + 5, none⟩) hbs).trans q5
            obtain ⟨r0, r1, r2, r3, r4, r5, r6, _⟩ := RC.of HPK.out.2.1.2.2.1
            generalize hxk : ys.getD k2 default = x at *
            have HX : Hid (x.Fits ∧ x.fs.length = fl' ∧ fl' ≤ fc' ∧ fc' ≤ 9223372036854775807 ∧ BV w fa' x.fs) := ⟨hfit, q6, q7, q8, q9⟩
            have HCD : Hid (∀ W, Pair w W p nb mb rb s ra rn rcap rdone q qb qm xb t xa xn xcap xdone → Calls Try.prog 11 #[.pointer (some ⟨q, 0, none⟩), .agg #[.int .i64 t.room, .slice xa xn xcap, .bool t.down, .int .i64 t.ops, .int .i64 t.reads, .int .i64 t.fails, .bool xdone], .agg #[.int .u8 x.kd, .int .i64 x.n, .int .u8 x.c, .int .u8 x.cut, .bool x.d, .slice fa' fl' fc']] W fun e w' => ∃ a3 n3 cap3 done3, e = .returned (.tuple #[.agg #[.int .i64 (actsD t x).room, .slice a3 n3 cap3, .bool (actsD t x).down, .int .i64 (actsD t x).ops, .int .i64 (actsD t x).reads, .int .i64 (actsD t x).fails, .bool done3], .bool true]) ∧
                RC w' xb (.int .i64 t.room) (.slice xa xn xcap) (.bool t.down) (.int .i64 t.ops) (.int .i64 t.reads) (.int .i64 t.fails) (.bool xdone) ∧
                Hid (Pair w (((((((w'.setCell ⟨xb, 0, none⟩ (.int .i64 (actsD t x).room)).setCell ⟨xb, 1, none⟩ (.slice a3 n3 cap3)).setCell ⟨xb, 2, none⟩ (.bool (actsD t x).down)).setCell ⟨xb, 3, none⟩ (.int .i64 (actsD t x).ops)).setCell ⟨xb, 4, none⟩ (.int .i64 (actsD t x).reads)).setCell ⟨xb, 5, none⟩ (.int .i64 (actsD t x).fails)).setCell ⟨xb, 6, none⟩ (.bool done3)) p nb mb rb s ra rn rcap rdone q qb qm xb (actsD t x) a3 n3 cap3 done3)) := fun W h => by
              refine (pair_do W h.swap x fa' fl' fc' HX.out.1 (fate_any h.2.1.1 HX.out.2.1 HX.out.2.2.1 HX.out.2.2.2.1 HX.out.2.2.2.2)).mono ?_
              rintro e w' ⟨a3, n3, cap3, done3, rfl, h1, h2⟩
              exact ⟨a3, n3, cap3, done3, rfl, h1, h2.swap⟩
            have hdk2 : decide ((k2 : Int) < (len2 : Int)) = true := by simp; omega
            clear q0 q1 q2 q3 q4 q5 q6 q7 q8 q9 hfit HAT2 hxk H12 H8
            go_wp2_with fail
            refine wp_region_noPanic ?_
            refine name_ops ?_
            intro O QQ HO HQ
            refine wp_region_held_drew (S := fun _ => True) (by kernel_rfl) trivial (fun hS => ?_)
            rw [show O.size = 12 by rw [HO.out]; rfl]
            refine wpAnyH_take (i := 0) (v := .pointer (some ⟨q, 0, none⟩)) (by rw [HO.out]; simp only [List.getElem?_toArray, List.getElem?_cons_succ, List.getElem?_cons_zero]; rfl) (by rw [HO.out]; kernel_rfl) (by rw [HO.out]; kernel_rfl) (by rw [HO.out]; kernel_rfl) (by rw [HQ.out]; exact fun _ _ _ h => h) (Or.inl ⟨by rfl, ?_⟩) trivial ?_
            · intro w' hSw
              go_simp
            try simp only [Act.put, List.setIfInBounds_toArray, List.set_cons_zero, List.set_cons_succ]
            refine wpAnyH_take (i := 2) (v := .slice (some ⟨b, off, none⟩) len2 cap2) (by rw [HO.out]; simp only [List.getElem?_toArray, List.getElem?_cons_succ, List.getElem?_cons_zero]; rfl) (by rw [HO.out]; kernel_rfl) (by rw [HO.out]; kernel_rfl) (by rw [HO.out]; kernel_rfl) (by rw [HQ.out]; exact fun _ _ _ h => h) (Or.inl ⟨by rfl, ?_⟩) trivial ?_
            · intro w' hSw
              go_simp
            try simp only [Act.put, List.setIfInBounds_toArray, List.set_cons_zero, List.set_cons_succ]
            refine wpAnyH_take (i := 3) (v := .int .i64 k2) (by rw [HO.out]; simp only [List.getElem?_toArray, List.getElem?_cons_succ, List.getElem?_cons_zero]; rfl) (by rw [HO.out]; kernel_rfl) (by rw [HO.out]; kernel_rfl) (by rw [HO.out]; kernel_rfl) (by rw [HQ.out]; exact fun _ _ _ h => h) (Or.inl ⟨by rfl, ?_⟩) trivial ?_
            · intro w' hSw
              go_simp
            try simp only [Act.put, List.setIfInBounds_toArray, List.set_cons_zero, List.set_cons_succ]
            refine wpAnyH_take (i := 4) (v := .pointer (some ⟨b, off + k2 * 6, none⟩)) (by rw [HO.out]; simp only [List.getElem?_toArray, List.getElem?_cons_succ, List.getElem?_cons_zero]; rfl) (by rw [HO.out]; kernel_rfl) (by rw [HO.out]; kernel_rfl) (by rw [HO.out]; kernel_rfl) (by rw [HQ.out]; exact fun _ _ _ h => h) (Or.inl ⟨by rfl, ?_⟩) trivial ?_
            · intro w' hSw
              go_simp
            try simp only [Act.put, List.setIfInBounds_toArray, List.set_cons_zero, List.set_cons_succ]
            refine wpAnyH_ready (rs := [1, 5]) (by rw [HO.out]; kernel_rfl) (by simp) ?_
            refine AllReadyH.cons (o := _) (by rw [HO.out]; simp only [List.getElem?_toArray, List.getElem?_cons_succ, List.getElem?_cons_zero]; rfl) (fun K1 hK1 => ?_) ?_
            · go_simp
              refine hK1.out _ _ trivial (fun _ => ?_)
              try simp only [Act.put, List.setIfInBounds_toArray, List.set_cons_zero, List.set_cons_succ]
              refine wpAnyH_ready (rs := [5]) (by rw [HO.out]; kernel_rfl) (by simp) ?_
              refine AllReadyH.cons (o := _) (by rw [HO.out]; simp only [List.getElem?_toArray, List.getElem?_cons_succ, List.getElem?_cons_zero]; rfl) (fun K5 hK5 => ?_) ?_
              · go_simp
                refine hK5.out _ _ trivial (fun _ => ?_)
                try simp only [Act.put, List.setIfInBounds_toArray, List.set_cons_zero, List.set_cons_succ]
                refine wpAnyH_ready (rs := [6]) (by rw [HO.out]; kernel_rfl) (by simp) ?_
                refine AllReadyH.cons (o := _) (by rw [HO.out]; simp only [List.getElem?_toArray, List.getElem?_cons_succ, List.getElem?_cons_zero]; rfl) (fun K6 hK6 => ?_) ?_
                · go_simp
                  refine (HCD.out _ (HPK.out.below (Below.refl _ _).drew)).mono ?_
                  rintro e w3 ⟨a3, n3, cap3, done3, rfl, hrc, hs3⟩
                  obtain ⟨z0, z1, z2, z3, z4, z5, z6, y0, y1, y2, y3, y4, y5, y6⟩ := hrc
                  refine hK6.out _ _ trivial (fun _ => ?_)
                  try simp only [Act.put, List.setIfInBounds_toArray, List.set_cons_zero, List.set_cons_succ]
                  refine wpAnyH_take (i := 7) (v := .tuple #[.agg #[.int .i64 (actsD t x).room, .slice a3 n3 cap3, .bool (actsD t x).down, .int .i64 (actsD t x).ops, .int .i64 (actsD t x).reads, .int .i64 (actsD t x).fails, .bool done3], .bool true]) (by rw [HO.out]; simp only [List.getElem?_toArray, List.getElem?_cons_succ, List.getElem?_cons_zero]; rfl) (by rw [HO.out]; kernel_rfl) (by rw [HO.out]; kernel_rfl) (by rw [HO.out]; kernel_rfl) (by rw [HQ.out]; exact fun _ _ _ h => h) (Or.inl ⟨by rfl, ?_⟩) trivial ?_
                  · intro w' hSw
                    go_simp
                  try simp only [Act.put, List.setIfInBounds_toArray, List.set_cons_zero, List.set_cons_succ]
                  refine wpAnyH_take (i := 8) (v := .agg #[.int .i64 (actsD t x).room, .slice a3 n3 cap3, .bool (actsD t x).down, .int .i64 (actsD t x).ops, .int .i64 (actsD t x).reads, .int .i64 (actsD t x).fails, .bool done3]) (by rw [HO.out]; simp only [List.getElem?_toArray, List.getElem?_cons_succ, List.getElem?_cons_zero]; rfl) (by rw [HO.out]; kernel_rfl) (by rw [HO.out]; kernel_rfl) (by rw [HO.out]; kernel_rfl) (by rw [HQ.out]; exact fun _ _ _ h => h) (Or.inl ⟨by rfl, ?_⟩) trivial ?_
                  · intro w' hSw
                    go_simp
                  try simp only [Act.put, List.setIfInBounds_toArray, List.set_cons_zero, List.set_cons_succ]
                  refine wpAnyH_take (i := 9) (v := .bool true) (by rw [HO.out]; simp only [List.getElem?_toArray, List.getElem?_cons_succ, List.getElem?_cons_zero]; rfl) (by rw [HO.out]; kernel_rfl) (by rw [HO.out]; kernel_rfl) (by rw [HO.out]; kernel_rfl) (by rw [HQ.out]; exact fun _ _ _ h => h) (Or.inl ⟨by rfl, ?_⟩) trivial ?_
                  · intro w' hSw
                    go_simp
                  try simp only [Act.put, List.setIfInBounds_toArray, List.set_cons_zero, List.set_cons_succ]
                  refine wpAnyH_ready (rs := [10]) (by rw [HO.out]; kernel_rfl) (by simp) ?_
                  refine AllReadyH.cons (o := _) (by rw [HO.out]; simp only [List.getElem?_toArray, List.getElem?_cons_succ, List.getElem?_cons_zero]; rfl) (fun K10 hK10 => ?_) ?_
                  · go_simp
                    refine hK10.out _ _ trivial (fun _ => ?_)
                    try simp only [Act.put, List.setIfInBounds_toArray, List.set_cons_zero, List.set_cons_succ]
                    refine wpAnyH_take (i := 11) (v := .bool true) (by rw [HO.out]; simp only [List.getElem?_toArray, List.getElem?_cons_succ, List.getElem?_cons_zero]; rfl) (by rw [HO.out]; kernel_rfl) (by rw [HO.out]; kernel_rfl) (by rw [HO.out]; kernel_rfl) (by rw [HQ.out]; exact fun _ _ _ h => h) (Or.inl ⟨by rfl, ?_⟩) trivial ?_
                    · intro w' hSw
                      go_simp
                    try simp only [Act.put, List.setIfInBounds_toArray, List.set_cons_zero, List.set_cons_succ]
                    refine wpAnyH_done (by rw [HO.out]; kernel_rfl) ?_ _
                    rw [HQ.out]
                    refine NoPanic.normal ?_
                    clear HCD
                    go_wp2_with fail
                    go_roundw
                    case rel => exact ⟨k2 + 1, actsD t x, a3, n3, cap3, done3, by omega, by go_num, rfl, hs3.out⟩
                    case measure => simp [intOf]; omega
                  exact AllReadyH.nil
                exact AllReadyH.nil
              exact AllReadyH.nil
            refine AllReadyH.cons (o := _) (by rw [HO.out]; simp only [List.getElem?_toArray, List.getElem?_cons_succ, List.getElem?_cons_zero]; rfl) (fun K5 hK5 => ?_) ?_
            · go_simp
              refine hK5.out _ _ trivial (fun _ => ?_)
              try simp only [Act.put, List.setIfInBounds_toArray, List.set_cons_zero, List.set_cons_succ]
              refine wpAnyH_ready (rs := [1]) (by rw [HO.out]; kernel_rfl) (by simp) ?_
              refine AllReadyH.cons (o := _) (by rw [HO.out]; simp only [List.getElem?_toArray, List.getElem?_cons_succ, List.getElem?_cons_zero]; rfl) (fun K1 hK1 => ?_) ?_
              · go_simp
                refine hK1.out _ _ trivial (fun _ => ?_)
                try simp only [Act.put, List.setIfInBounds_toArray, List.set_cons_zero, List.set_cons_succ]
                refine wpAnyH_ready (rs := [6]) (by rw [HO.out]; kernel_rfl) (by simp) ?_
                refine AllReadyH.cons (o := _) (by rw [HO.out]; simp only [List.getElem?_toArray, List.getElem?_cons_succ, List.getElem?_cons_zero]; rfl) (fun K6 hK6 => ?_) ?_
                · go_simp
                  refine (HCD.out _ (HPK.out.below (Below.refl _ _).drew)).mono ?_
                  rintro e w3 ⟨a3, n3, cap3, done3, rfl, hrc, hs3⟩
                  obtain ⟨z0, z1, z2, z3, z4, z5, z6, y0, y1, y2, y3, y4, y5, y6⟩ := hrc
                  refine hK6.out _ _ trivial (fun _ => ?_)
                  try simp only [Act.put, List.setIfInBounds_toArray, List.set_cons_zero, List.set_cons_succ]
                  refine wpAnyH_take (i := 7) (v := .tuple #[.agg #[.int .i64 (actsD t x).room, .slice a3 n3 cap3, .bool (actsD t x).down, .int .i64 (actsD t x).ops, .int .i64 (actsD t x).reads, .int .i64 (actsD t x).fails, .bool done3], .bool true]) (by rw [HO.out]; simp only [List.getElem?_toArray, List.getElem?_cons_succ, List.getElem?_cons_zero]; rfl) (by rw [HO.out]; kernel_rfl) (by rw [HO.out]; kernel_rfl) (by rw [HO.out]; kernel_rfl) (by rw [HQ.out]; exact fun _ _ _ h => h) (Or.inl ⟨by rfl, ?_⟩) trivial ?_
                  · intro w' hSw
                    go_simp
                  try simp only [Act.put, List.setIfInBounds_toArray, List.set_cons_zero, List.set_cons_succ]
                  refine wpAnyH_take (i := 8) (v := .agg #[.int .i64 (actsD t x).room, .slice a3 n3 cap3, .bool (actsD t x).down, .int .i64 (actsD t x).ops, .int .i64 (actsD t x).reads, .int .i64 (actsD t x).fails, .bool done3]) (by rw [HO.out]; simp only [List.getElem?_toArray, List.getElem?_cons_succ, List.getElem?_cons_zero]; rfl) (by rw [HO.out]; kernel_rfl) (by rw [HO.out]; kernel_rfl) (by rw [HO.out]; kernel_rfl) (by rw [HQ.out]; exact fun _ _ _ h => h) (Or.inl ⟨by rfl, ?_⟩) trivial ?_
                  · intro w' hSw
                    go_simp
                  try simp only [Act.put, List.setIfInBounds_toArray, List.set_cons_zero, List.set_cons_succ]
                  refine wpAnyH_take (i := 9) (v := .bool true) (by rw [HO.out]; simp only [List.getElem?_toArray, List.getElem?_cons_succ, List.getElem?_cons_zero]; rfl) (by rw [HO.out]; kernel_rfl) (by rw [HO.out]; kernel_rfl) (by rw [HO.out]; kernel_rfl) (by rw [HQ.out]; exact fun _ _ _ h => h) (Or.inl ⟨by rfl, ?_⟩) trivial ?_
                  · intro w' hSw
                    go_simp
                  try simp only [Act.put, List.setIfInBounds_toArray, List.set_cons_zero, List.set_cons_succ]
                  refine wpAnyH_ready (rs := [10]) (by rw [HO.out]; kernel_rfl) (by simp) ?_
                  refine AllReadyH.cons (o := _) (by rw [HO.out]; simp only [List.getElem?_toArray, List.getElem?_cons_succ, List.getElem?_cons_zero]; rfl) (fun K10 hK10 => ?_) ?_
                  · go_simp
                    refine hK10.out _ _ trivial (fun _ => ?_)
                    try simp only [Act.put, List.setIfInBounds_toArray, List.set_cons_zero, List.set_cons_succ]
                    refine wpAnyH_take (i := 11) (v := .bool true) (by rw [HO.out]; simp only [List.getElem?_toArray, List.getElem?_cons_succ, List.getElem?_cons_zero]; rfl) (by rw [HO.out]; kernel_rfl) (by rw [HO.out]; kernel_rfl) (by rw [HO.out]; kernel_rfl) (by rw [HQ.out]; exact fun _ _ _ h => h) (Or.inl ⟨by rfl, ?_⟩) trivial ?_
                    · intro w' hSw
                      go_simp
                    try simp only [Act.put, List.setIfInBounds_toArray, List.set_cons_zero, List.set_cons_succ]
                    refine wpAnyH_done (by rw [HO.out]; kernel_rfl) ?_ _
                    rw [HQ.out]
                    refine NoPanic.normal ?_
                    clear HCD
                    go_wp2_with fail
                    go_roundw
                    case rel => exact ⟨k2 + 1, actsD t x, a3, n3, cap3, done3, by omega, by go_num, rfl, hs3.out⟩
                    case measure => simp [intOf]; omega
                  exact AllReadyH.nil
                exact AllReadyH.nil
              exact AllReadyH.nil
            exact AllReadyH.nil
          · have hdk2 : decide ((k2 : Int) < (len2 : Int)) = false := by simp; omega
            clear HAT2
            go_wp2_with fail
            go_loopw [10, 12] (fun okv iv wz => ∃ (k3 : Nat) (s3 : DS) (a : Option Addr) (n cap3 : Nat) (done : Bool), k3 ≤ 9 ∧ iv = .int .i64 k3 ∧ okv = .bool true ∧ Hid (Pair w wz p nb mb rb s3 a n cap3 done q qb qm xb t xa xn xcap xdone)) (fun _ iv _ => 9 - (intOf iv).toNat)
            case atStart => exact ⟨0, s, ra, rn, rcap, rdone, Nat.zero_le _, rfl, rfl, HPK.out⟩
            case round =>
              obtain ⟨k3, s3, ya, yn, ycap, ydone, hk3, rfl, rfl, HPL⟩ := hrel
              clear HPK
              by_cases hlt3 : k3 < 9
              · have hdk3 : decide ((k3 : Int) < 9) = true := by simp; omega
                obtain ⟨r0, r1, r2, r3, r4, r5, r6, _⟩ := RC.of HPL.out.1.2.2.1
                have HCE : Hid (∃ s4, Calls Try.prog 11 #[.pointer (some ⟨p, 0, none⟩), .agg #[.int .i64 s3.room, .slice ya yn ycap, .bool s3.down, .int .i64 s3.ops, .int .i64 s3.reads, .int .i64 s3.fails, .bool ydone], .agg #[.int .u8 5, .int .i64 k3, .int .u8 0, .int .u8 0, .bool false, .slice none 0 0]] wr fun e w' => ∃ a3 n3 cap3 done3, e = .returned (.tuple #[.agg #[.int .i64 (DS.room s4), .slice a3 n3 cap3, .bool (DS.down s4), .int .i64 (DS.ops s4), .int .i64 (DS.reads s4), .int .i64 (DS.fails s4), .bool done3], .bool true]) ∧
                    RC w' rb (.int .i64 s3.room) (.slice ya yn ycap) (.bool s3.down) (.int .i64 s3.ops) (.int .i64 s3.reads) (.int .i64 s3.fails) (.bool ydone) ∧
                    Hid (Pair w (((((((w'.setCell ⟨rb, 0, none⟩ (.int .i64 s4.room)).setCell ⟨rb, 1, none⟩ (.slice a3 n3 cap3)).setCell ⟨rb, 2, none⟩ (.bool s4.down)).setCell ⟨rb, 3, none⟩ (.int .i64 s4.ops)).setCell ⟨rb, 4, none⟩ (.int .i64 s4.reads)).setCell ⟨rb, 5, none⟩ (.int .i64 s4.fails)).setCell ⟨rb, 6, none⟩ (.bool done3)) p nb mb rb s4 a3 n3 cap3 done3 q qb qm xb t xa xn xcap xdone)) := ⟨_, pair_do wr HPL.out ⟨5, k3, 0, 0, false, []⟩ none 0 0 (fits_read k3 hlt3) (FV.nil _ _)⟩
                obtain ⟨s4, CE⟩ := HCE.out
                have HC4 : Hid (Calls _ _ _ _ _) := CE
                clear H12 H8 CE HCE
                go_wp2_with (first
                  | (go_at_call 11; refine (HC4.out).mono ?_; rintro e w5 ⟨a3, n3, cap3, done3, rfl, hrc, hs3⟩; obtain ⟨z0, z1, z2, z3, z4, z5, z6, y0, y1, y2, y3, y4, y5, y6⟩ := hrc; clear HC4)
                  | fail)
                go_roundw
                case rel => exact ⟨k3 + 1, s4, a3, n3, cap3, done3, by omega, by go_num, rfl, hs3.out⟩
                case measure => simp [intOf]; omega
              · have hdk3 : decide ((k3 : Int) < 9) = false := by simp; omega
                have HN16 : Hid (∀ W, Pair w W p nb mb rb s3 ya yn ycap ydone q qb qm xb t xa xn xcap xdone → Calls Try.prog 16 #[.pointer none, .int .i64 0, .slice none 0 0] W fun e w' => e = .returned (.int .i64 1) ∧ Hid (Pair w w' p nb mb rb s3 ya yn ycap ydone q qb qm xb t xa xn xcap xdone)) := fun W h => by
                  refine (write_nil 0 W).mono ?_
                  rintro e w' ⟨rfl, hb⟩
                  exact ⟨rfl, h.below hb⟩
                have HSF : Hid (∀ W, Pair w W p nb mb rb s3 ya yn ycap ydone q qb qm xb t xa xn xcap xdone → Calls Try.prog 12 #[.pointer (some ⟨q, 0, none⟩), .agg #[.int .i64 t.room, .slice xa xn xcap, .bool t.down, .int .i64 t.ops, .int .i64 t.reads, .int .i64 t.fails, .bool xdone]] W fun e w' => e = .returned (.bool true) ∧ Hid (Pair w w' p nb mb rb s3 ya yn ycap ydone q qb qm xb t xa xn xcap xdone)) := fun W h => by
                  refine (H12.out W q qb qm xb t xa xn xcap xdone h.2.1).mono ?_
                  rintro e w' ⟨rfl, hb⟩
                  exact ⟨rfl, h.below hb⟩
                have HSD : Hid (∀ W, Pair w W p nb mb rb s3 ya yn ycap ydone q qb qm xb t xa xn xcap xdone → Calls Try.prog 12 #[.pointer (some ⟨p, 0, none⟩), .agg #[.int .i64 s3.room, .slice ya yn ycap, .bool s3.down, .int .i64 s3.ops, .int .i64 s3.reads, .int .i64 s3.fails, .bool ydone]] W fun e w' => e = .returned (.bool true) ∧ Hid (Pair w w' p nb mb rb s3 ya yn ycap ydone q qb qm xb t xa xn xcap xdone)) := fun W h => by
                  refine (H12.out W p nb mb rb s3 ya yn ycap ydone h.1).mono ?_
                  rintro e w' ⟨rfl, hb⟩
                  exact ⟨rfl, h.below hb⟩
                clear H12
                go_wp2_with (first
                  | (go_at_call 14; refine (crash_nil _).mono ?_; rintro e wn ⟨rfl, hw⟩; obtain rfl := hw.symm)
                  | (go_at_call 15; refine (read_nil _ _).mono ?_; rintro e wn ⟨rfl, hw⟩; obtain rfl := hw.symm)
                  | (go_at_call 16; refine (HN16.out _ HPL.out).mono ?_; rintro e w6 ⟨rfl, HP6⟩; obtain ⟨x0, x1, x2, x3, x4, x5, x6, _⟩ := RC.of HP6.out.2.1.2.2.1; clear HPL HN16)
                  | (go_at_call 17; refine (sync_nil _).mono ?_; rintro e wn ⟨rfl, hw⟩; obtain rfl := hw.symm)
                  | (go_at_call 18; refine (fail_nil _ _ _).mono ?_; rintro e wn ⟨rfl, hw⟩; obtain rfl := hw.symm)
                  | (go_at_call 19; refine (down_nil _).mono ?_; rintro e wn ⟨rfl, hw⟩; obtain rfl := hw.symm)
                  | (go_at_call 20; refine (blocks_nil _).mono ?_; rintro e wn ⟨rfl, hw⟩; obtain rfl := hw.symm)
                  | (go_at_call 21; refine (ops_nil _).mono ?_; rintro e wn ⟨rfl, hw⟩; obtain rfl := hw.symm)
                  | (go_at_call 22; refine (reads_nil _).mono ?_; rintro e wn ⟨rfl, hw⟩; obtain rfl := hw.symm)
                  | (go_at_call 23; refine (loose_nil _).mono ?_; rintro e wn ⟨rfl, hw⟩; obtain rfl := hw.symm)
                  | (go_at_call 13; refine (fork_nil _).mono ?_; rintro e wn ⟨rfl, hw⟩; obtain rfl := hw.symm)
                  | (go_at_call_of 12 q; refine (HSF.out _ HP6.out).mono ?_; rintro e w7 ⟨rfl, HP7⟩; obtain ⟨y0, y1, y2, y3, y4, y5, y6, _⟩ := RC.of HP7.out.1.2.2.1; clear HP6 HSF x0 x1 x2 x3 x4 x5 x6)
                  | (go_at_call 12; refine (HSD.out _ HP7.out).mono ?_; rintro e w8 ⟨rfl, HP8⟩; clear HP7 HSD y0 y1 y2 y3 y4 y5 y6)
                  | (go_at_call 8; refine (H8.out _ HP8.out.1.1.2.2.2.2).mono ?_; rintro e w9 ⟨rfl, hb9⟩; clear H8)
                  | fail)
                go_ret
                exact ⟨rfl, hb9⟩
theorem walk (al : Option Addr) (len cap : Nat) (xs : List ActD) (bl : Option Addr) (len2 cap2 : Nat) (ys : List ActD) (w : World) (h0 : Acts w al len cap xs) (h1 : Acts w bl len2 cap2 ys) :
    Calls Try.prog 4 #[.slice al len cap, .slice bl len2 cap2] w fun e w' => e = .returned (.bool true) ∧ Below w.heap.size w w' := by
  by_cases h : 50 < len
  · exact walk_long al len cap bl len2 cap2 w h
  · by_cases h2 : 50 < len2
    · exact walk_long2 al len cap bl len2 cap2 w h h2
    · exact walk_some al len cap xs bl len2 cap2 ys w h0 h1 (by omega) (by omega)
set_option maxRecDepth 100000 in
theorem lifted (os : Os) (started : os.Started) (H : Type) (enc : TypeId × Value → H) :
    ReturnsInHanded {} Try.checked os 4 .any (Rows.diskForksSpec.pre6 enc Try.prog Try.f4 Rows.diskForksRow.domain false) (Rows.diskForksSpec.post enc Try.prog Try.f4 false true false false) := by
  refine returnsInHanded_of_change (C := Try.checked) own started (by kernel_rfl) Try.func4
    (ChangeSpec.witness6 (enc := enc) (C := Try.checked) false ⟨#[], #[.slice none 0 0, .slice none 0 0], []⟩ 8 (by kernel_rfl) (by kernel_rfl) (by kernel_rfl) (by kernel_rfl)) ?_
  intro W base args ds gs before hval0 hW hcnd _
  have hval : ∀ (j : Nat) t v, Try.f4.params[j]? = some t → args[j]? = some v → Value.okWide Try.prog W .any base t v := hval0
  have hW' := hW
  obtain ⟨p, q, hA0, hV, rfl, hfz, hnd⟩ := hW
  have hA : DataW.TrodAll enc Try.prog W 0 (fun _ => true) true Try.f4.params.toList args.toList ds p := hA0
  rw [Try.params4] at hA hval
  obtain ⟨v0, vs0, d0, ds0, p0, q0, hargs, rfl, rfl, h0, r0⟩ := trodAll_cons hA
  obtain ⟨v1, vs1, d1, ds1, p1, q1, rfl, rfl, rfl, h1, r1⟩ := trodAll_cons r0
  obtain ⟨rfl, rfl, rfl⟩ := trodAll_nil r1
  obtain rfl : args = #[v0, v1] := by cases args; simp_all
  obtain ⟨rfl, rfl⟩ := trodVars_none hV
  obtain ⟨a0, len0, cap0, rfl⟩ := okWide_slice Try.underlying22 (hval 0 22 v0 rfl rfl)
  have k0 := h0
  have lt0 : ∀ x ∈ p0, x.block < W.heap.size := by obtain ⟨m, hm⟩ := k0; exact DataW.trod_lt m _ _ _ hm
  obtain ⟨x0, w0⟩ : ∃ xs, Acts W a0 len0 cap0 xs := by
    obtain ⟨fuel, hf⟩ := h0
    exact open_acts hf
  obtain ⟨a1, len1, cap1, rfl⟩ := okWide_slice Try.underlying22 (hval 1 22 v1 rfl rfl)
  have k1 := h1
  have lt1 : ∀ x ∈ p1, x.block < W.heap.size := by obtain ⟨m, hm⟩ := k1; exact DataW.trod_lt m _ _ _ hm
  obtain ⟨x1, w1⟩ : ∃ xs, Acts W a1 len1 cap1 xs := by
    obtain ⟨fuel, hf⟩ := h1
    exact open_acts hf
  clear hA0 hval0
  refine (walk a0 len0 cap0 x0 a1 len1 cap1 x1 W w0 w1).mono fun e W' ⟨he, bel⟩ => ?_
  subst he
  exact ⟨_, rfl, _, _, _, [], _, [], hW', trodAll_mk1 (shut_bool Try.underlying4 _), (trodAll_cons_mk (Below.trod laidOut (by kernel_rfl) (of_decide_eq_true (by kernel_rfl)) k0 bel lt0) (trodAll_cons_mk (Below.trod laidOut (by kernel_rfl) (of_decide_eq_true (by kernel_rfl)) k1 bel lt1) trodAll_mk0)), rfl, bel.frame _, fun h => by cases h⟩

theorem over : Rows.diskForksRow.holds Try.pinned (OpenSpec.ofChange Rows.diskForksSpec) :=
  OpenClaim.holds_of_wide 4 Try.f4 rfl rfl rfl rfl rfl rfl rfl ⟨rfl, rfl, rfl, rfl, rfl⟩ rfl rfl rfl rfl rfl (by kernel_rfl) Try.func4 (by kernel_rfl)
    (of_decide_eq_true (by kernel_rfl)) (by unfold Func.isWrapper; first | (rw [if_pos (by decide +kernel)]; kernel_rfl) | (rw [if_neg (by decide +kernel)]; exact ⟨rfl, rfl⟩))
    (fun os started H enc _ => lifted os started H enc)
end Go.Proofs.Ytmapjikbplindaa.diskForks

namespace Go.Proofs.Ytmapjikbplindaa
theorem diskForks_holds : Rows.DiskForksSaid := diskForks.over
#print axioms diskForks_holds
end Go.Proofs.Ytmapjikbplindaa
