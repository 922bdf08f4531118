/- For any acts: what was written since the last Sync is gone behind a crash without a fate, and all of it is there behind one that keeps all. -/
import Derived.Test.YtmapjikbplindaaRows
import Derived.Test.YtmapjikbplindaaSt
import Derived.WalkKit
import Derived.ProofKit
import Derived.OpenShut
import Derived.ShutString
import Derived.ChangeOld
import Derived.Below
import Derived.Test.YtmapjikbplindaaLost
import Derived.Deep.RegionHeld3
import Derived.Deep.DeepCutAuto
import Derived.StillTailTactics
namespace Go.Proofs.Ytmapjikbplindaa.diskLost
open Go.ChangeShapes Go.WideShapes Go.ChangeAt Go.RowKit Go.Maps
open Go.ChangeMaps (open_string shut_string)
set_option linter.unusedVariables false
set_option linter.unusedSimpArgs false
set_option maxRecDepth 20000

theorem own : ownKnob Try.prog.godebug = none := by kernel_rfl
theorem laidOut : laidOutB Try.prog = true := by kernel_rfl
set_option maxHeartbeats 800000 in
theorem walk_long (al : Option Addr) (len cap : Nat) (keeps : Bool) (w : World) (h : 40 < len) :
    Calls Try.prog 6 #[.slice al len cap, .bool keeps] w fun e w' => e = .returned (.bool true) ∧ Below w.heap.size w w' := by
  have HA := awake_any
  have hd : decide ((40 : Int) < (len : Int)) = true := by simp; omega
  go_enter Try.func6, Try.ntmps6
  go_wp2_with (first | (go_at_call 8; refine (HA _).mono ?_; rintro e w1 ⟨rfl, hb⟩; clear HA) | fail)
  go_ret
  exact ⟨rfl, hb⟩
set_option maxHeartbeats 6400000 in
theorem walk_some (al : Option Addr) (len cap : Nat) (xs : List ActD) (keeps : Bool) (w : World) (hacts : Acts w al len cap xs) (h40 : len ≤ 40) :
    Calls Try.prog 6 #[.slice al len cap, .bool keeps] w fun e w' => e = .returned (.bool true) ∧ Below w.heap.size w w' := by
  have H8 : Hid (∀ W, Below w.heap.size w W → Calls Try.prog 8 #[] W fun e w' => e = .returned (.bool true) ∧ Below w.heap.size w w') := fun W hW => by
    refine (awake_any W).mono ?_
    rintro e w' ⟨rfl, hbb⟩
    exact ⟨rfl, hW.trans (hbb.mono hW.size)⟩
  have H9 : Hid (∀ W, Below w.heap.size w W → Calls Try.prog 9 #[.int .i64 9] W fun e w' => ∃ p nb mb, e = .returned (.pointer (some ⟨p, 0, none⟩)) ∧ Mine w w' p nb mb (newS 9)) := fun W hW => by
    refine (new_any 9 W).mono ?_
    rintro e w' ⟨p, nb, mb, rfl, hd, h1, h2, h3, hb⟩
    have := hW.size
    exact ⟨p, nb, mb, rfl, hd, by omega, by omega, by omega, hW.trans (hb.mono hW.size)⟩
  have H10 : Hid (∀ W p nb mb, Mine w W p nb mb (newS 9) → Calls Try.prog 10 #[.int .i64 9] W fun e w' => ∃ a n cap done, e = .returned (.agg (rcells (newS 9) (.slice a n cap) done)) ∧ Hid (St w (w'.alloc (.cells (rcells (newS 9) (.slice a n cap) done) 28)) p nb mb w'.heap.size (newS 9) a n cap done)) := fun W p nb mb hm => by
    refine (rnew_any 9 [p, nb, mb] W).mono ?_
    rintro e w' ⟨v, rfl, hr, hb⟩
    obtain ⟨a, n, cap, done, rfl⟩ := hr.open
    refine ⟨a, n, cap, done, rfl, ?_⟩
    have hm' := hm.below hb
    have hal : Below w'.heap.size w' (w'.alloc (.cells (rcells (newS 9) (.slice a n cap) done) 28)) := (Below.refl _ _).alloc (Nat.le_refl _) _
    exact ⟨hm'.below hal, hr.below hal, heap_alloc_last _ _, fun hx => by have := hm'.lt _ hx; omega, hm'.2.2.2.2.size⟩
  have HDO : Hid (∀ W p nb mb rb s a n cap done (x : ActD) fa fl fc, St w W p nb mb rb s a n cap done → x.Fits → x.fs.length = fl → fl ≤ fc → fc ≤ 9223372036854775807 → BV w fa x.fs → Calls Try.prog 11 #[.pointer (some ⟨p, 0, none⟩), .agg (rcells s (.slice a n cap) done), .agg #[.int .u8 x.kd, .int .i64 x.n, .int .u8 x.c, .int .u8 x.cut, .bool x.d, .slice fa fl fc]] W fun e w' => ∃ a2 n2 cap2 done2, e = .returned (.tuple #[.agg (rcells (actsD s x) (.slice a2 n2 cap2) done2), .bool true]) ∧
      RC w' rb (.int .i64 s.room) (.slice a n cap) (.bool s.down) (.int .i64 s.ops) (.int .i64 s.reads) (.int .i64 s.fails) (.bool done) ∧
      Hid (St w (((((((w'.setCell ⟨rb, 0, none⟩ (.int .i64 (actsD s x).room)).setCell ⟨rb, 1, none⟩ (.slice a2 n2 cap2)).setCell ⟨rb, 2, none⟩ (.bool (actsD s x).down)).setCell ⟨rb, 3, none⟩ (.int .i64 (actsD s x).ops)).setCell ⟨rb, 4, none⟩ (.int .i64 (actsD s x).reads)).setCell ⟨rb, 5, none⟩ (.int .i64 (actsD s x).fails)).setCell ⟨rb, 6, none⟩ (.bool done2)) p nb mb rb (actsD s x) a2 n2 cap2 done2)) := fun W p nb mb rb s a n cap done x fa fl fc hs hf h1 h2 h3 hb => st_do W hs x fa fl fc hf (fate_any hs.1 h1 h2 h3 hb)
  have HCR : Hid (∀ W p nb mb s v fs, Mine w W p nb mb s → FV W [p, nb, mb] v fs → Calls Try.prog 14 #[.pointer (some ⟨p, 0, none⟩), v] W fun e w' => e = .returned (.tuple #[]) ∧ Mine w w' p nb mb (crashS s fs)) := fun W p nb mb s v fs hm hf => by
    refine (mcrash v fs W hm hf).mono ?_
    rintro e w' ⟨rfl, h, _⟩
    exact ⟨rfl, h⟩
  have HFU : Hid (∀ W p nb mb s (c : Int), 0 ≤ c → c ≤ 255 → Mine w W p nb mb s → Calls Try.prog 24 #[.int .u8 c] W fun e w' => ∃ g, e = .returned (.slice (some ⟨g, 0, none⟩) 256 256) ∧ Hid (BV w' (some ⟨g, 0, none⟩) (List.replicate 256 c) ∧ g ∉ [p, nb, mb] ∧ Mine w w' p nb mb s) ∧ Below W.heap.size W w') := fun W p nb mb s c h0 h1 hm => by
    refine (mfull c W hm h0 h1).mono ?_
    rintro e w' ⟨g, rfl, h1, h2, h3, h4⟩
    exact ⟨g, rfl, ⟨h1, h2, h3⟩, h4⟩
  have HAT : Hid (∀ i, i < len → ∃ b off, al = some ⟨b, off, none⟩ ∧ b < w.heap.size ∧ ActAt w b (off + i * 6) (xs.getD i default)) := by
    intro i hi
    rcases hacts.2.2.2.2 with e | ⟨b, off, e1, e2, e3⟩
    · have := hacts.1
      rw [e] at this
      simp at this
      omega
    · exact ⟨b, off, e1, e2, e3 i hi⟩
  have hd40 : decide ((40 : Int) < (len : Int)) = false := by simp; omega
  clear hacts
  go_enter Try.func6, Try.ntmps6
  go_wp2_with (first
    | (go_at_call 9; refine (H9.out _ (Below.refl _ _)).mono ?_; rintro e w1 ⟨p, nb, mb, rfl, hm1⟩; have HM1 : Hid (Mine w w1 p nb mb (newS 9)) := hm1; clear hm1)
    | (go_at_call 10; refine (H10.out _ p nb mb HM1.out).mono ?_; rintro e w2 ⟨ra, rn, rcap, rdone, rfl, HS⟩; unfold rcells)
    | fail)
  obtain ⟨HS0, hrb⟩ : Hid (St w (w2.alloc (.cells (rcells (newS 9) (.slice ra rn rcap) rdone) 28)) p nb mb w2.heap.size (newS 9) ra rn rcap rdone) ∧ True := ⟨HS, trivial⟩
  generalize hrbe : w2.heap.size = rb at *
  go_loopw [7] (fun iv wr => ∃ (k : Nat) (s : DS) (a : Option Addr) (n cap : Nat) (done : Bool), k ≤ len ∧ iv = .int .i64 k ∧ Hid (St w wr p nb mb rb s a n cap done) ∧ Hid (s.room = 9)) (fun iv _ => len - (intOf iv).toNat)
  case atStart => exact ⟨0, newS 9, ra, rn, rcap, rdone, Nat.zero_le _, rfl, HS0.out, rfl⟩
  case round =>
    obtain ⟨k, s, ra, rn, rcap, rdone, hk, rfl, HS, HR9⟩ := hrel
    clear HS0 H9 H10
    by_cases hlt : k < len
    · obtain ⟨b, off, rfl, hbs, hfit, fa', fl', fc', q0, q1, q2, q3, q4, q5, q6, q7, q8, q9⟩ := HAT.out k hlt
      have HBW : Hid (Below w.heap.size w wr) := HS.out.1.2.2.2.2
      have c0 := (HBW.out.cell (p := ⟨b, off + k * 6, none⟩) hbs).trans q0
      have c1 := (HBW.out.cell (p := ⟨b, off + k * 6 + 1, none⟩) hbs).trans q1
      have c2 := (HBW.out.cell (p := ⟨b, off + k * 6 + 2, none⟩) hbs).trans q2
      have c3 := (HBW.out.cell (p := ⟨b, off + k * 6 + 3, none⟩) hbs).trans q3
      have c4 := (HBW.out.cell (p := ⟨b, off + k * 6 + 4, none⟩) hbs).trans q4
      have c5 := (HBW.out.cell (p := ⟨b, off + k * 6 + 5, none⟩) hbs).trans q5
      obtain ⟨r0, r1, r2, r3, r4, r5, r6, _⟩ := RC.of HS.out.2.2.1
      generalize hxk : xs.getD k default = x at *
      have HX : Hid (x.Fits ∧ x.fs.length = fl' ∧ fl' ≤ fc' ∧ fc' ≤ 9223372036854775807 ∧ BV w fa' x.fs) := ⟨hfit, q6, q7, q8, q9⟩
      have HR2 : Hid ((actsD s x).room = 9) := by
        have : (actsD s x).room = 9 := by rw [acts_room]; exact HR9.out
        exact this
      have CD := fun W hs => HDO.out W p nb mb rb s ra rn rcap rdone x fa' fl' fc' hs HX.out.1 HX.out.2.1 HX.out.2.2.1 HX.out.2.2.2.1 HX.out.2.2.2.2
      have HCD : Hid (∀ W, St w W p nb mb rb s ra rn rcap rdone → _) := CD
      unfold rcells at HCD
      have hdk : decide ((k : Int) < (len : Int)) = true := by simp; omega
      clear q0 q1 q2 q3 q4 q5 q6 q7 q8 q9 hfit HDO HAT hxk CD HCR HFU
      go_wp2_with fail
      refine wp_region_noPanic ?_
      refine name_ops ?_
      intro O QQ HO HQ
      refine wp_region_held_drew (S := fun _ => True) (by kernel_rfl) trivial (fun hS => ?_)
      rw [show O.size = 11 by rw [HO.out]; rfl]
      refine wpAnyH_take (i := 0) (v := .pointer (some ⟨p, 0, none⟩)) (by rw [HO.out]; simp only [List.getElem?_toArray, List.getElem?_cons_succ, List.getElem?_cons_zero]; rfl) (by rw [HO.out]; kernel_rfl) (by rw [HO.out]; kernel_rfl) (by rw [HO.out]; kernel_rfl) (by rw [HQ.out]; exact fun _ _ _ h => h) (Or.inl ⟨by rfl, ?_⟩) trivial ?_
      · intro w' hSw
        go_simp
      try simp only [Act.put, List.setIfInBounds_toArray, List.set_cons_zero, List.set_cons_succ]
      refine wpAnyH_take (i := 2) (v := .slice (some ⟨b, off, none⟩) len cap) (by rw [HO.out]; simp only [List.getElem?_toArray, List.getElem?_cons_succ, List.getElem?_cons_zero]; rfl) (by rw [HO.out]; kernel_rfl) (by rw [HO.out]; kernel_rfl) (by rw [HO.out]; kernel_rfl) (by rw [HQ.out]; exact fun _ _ _ h => h) (Or.inl ⟨by rfl, ?_⟩) trivial ?_
      · intro w' hSw
        go_simp
      try simp only [Act.put, List.setIfInBounds_toArray, List.set_cons_zero, List.set_cons_succ]
      refine wpAnyH_take (i := 3) (v := .int .i64 k) (by rw [HO.out]; simp only [List.getElem?_toArray, List.getElem?_cons_succ, List.getElem?_cons_zero]; rfl) (by rw [HO.out]; kernel_rfl) (by rw [HO.out]; kernel_rfl) (by rw [HO.out]; kernel_rfl) (by rw [HQ.out]; exact fun _ _ _ h => h) (Or.inl ⟨by rfl, ?_⟩) trivial ?_
      · intro w' hSw
        go_simp
      try simp only [Act.put, List.setIfInBounds_toArray, List.set_cons_zero, List.set_cons_succ]
      refine wpAnyH_take (i := 4) (v := .pointer (some ⟨b, off + k * 6, none⟩)) (by rw [HO.out]; simp only [List.getElem?_toArray, List.getElem?_cons_succ, List.getElem?_cons_zero]; rfl) (by rw [HO.out]; kernel_rfl) (by rw [HO.out]; kernel_rfl) (by rw [HO.out]; kernel_rfl) (by rw [HQ.out]; exact fun _ _ _ h => h) (Or.inl ⟨by rfl, ?_⟩) trivial ?_
      · intro w' hSw
        go_simp
      try simp only [Act.put, List.setIfInBounds_toArray, List.set_cons_zero, List.set_cons_succ]
      refine wpAnyH_ready (rs := [1, 5]) (by rw [HO.out]; kernel_rfl) (by simp) ?_
      refine AllReadyH.cons (o := _) (by rw [HO.out]; simp only [List.getElem?_toArray, List.getElem?_cons_succ, List.getElem?_cons_zero]; rfl) (fun K1 hK1 => ?_) ?_
      · go_simp
        refine hK1.out _ _ trivial (fun _ => ?_)
        try simp only [Act.put, List.setIfInBounds_toArray, List.set_cons_zero, List.set_cons_succ]
        refine wpAnyH_ready (rs := [5]) (by rw [HO.out]; kernel_rfl) (by simp) ?_
        refine AllReadyH.cons (o := _) (by rw [HO.out]; simp only [List.getElem?_toArray, List.getElem?_cons_succ, List.getElem?_cons_zero]; rfl) (fun K5 hK5 => ?_) ?_
        · go_simp
          refine hK5.out _ _ trivial (fun _ => ?_)
          try simp only [Act.put, List.setIfInBounds_toArray, List.set_cons_zero, List.set_cons_succ]
          refine wpAnyH_ready (rs := [6]) (by rw [HO.out]; kernel_rfl) (by simp) ?_
          refine AllReadyH.cons (o := _) (by rw [HO.out]; simp only [List.getElem?_toArray, List.getElem?_cons_succ, List.getElem?_cons_zero]; rfl) (fun K6 hK6 => ?_) ?_
          · go_simp
            refine (HCD.out _ (HS.out.below (Below.refl _ _).drew)).mono ?_
            rintro e w3 ⟨a3, n3, cap3, done3, rfl, hrc, hs3⟩
            obtain ⟨z0, z1, z2, z3, z4, z5, z6, y0, y1, y2, y3, y4, y5, y6⟩ := hrc
            refine hK6.out _ _ trivial (fun _ => ?_)
            try simp only [Act.put, List.setIfInBounds_toArray, List.set_cons_zero, List.set_cons_succ]
            refine wpAnyH_take (i := 7) (v := .tuple #[.agg #[.int .i64 (actsD s x).room, .slice a3 n3 cap3, .bool (actsD s x).down, .int .i64 (actsD s x).ops, .int .i64 (actsD s x).reads, .int .i64 (actsD s x).fails, .bool done3], .bool true]) (by rw [HO.out]; simp only [List.getElem?_toArray, List.getElem?_cons_succ, List.getElem?_cons_zero]; rfl) (by rw [HO.out]; kernel_rfl) (by rw [HO.out]; kernel_rfl) (by rw [HO.out]; kernel_rfl) (by rw [HQ.out]; exact fun _ _ _ h => h) (Or.inl ⟨by rfl, ?_⟩) trivial ?_
            · intro w' hSw
              go_simp
            try simp only [Act.put, List.setIfInBounds_toArray, List.set_cons_zero, List.set_cons_succ]
            refine wpAnyH_take (i := 8) (v := .agg #[.int .i64 (actsD s x).room, .slice a3 n3 cap3, .bool (actsD s x).down, .int .i64 (actsD s x).ops, .int .i64 (actsD s x).reads, .int .i64 (actsD s x).fails, .bool done3]) (by rw [HO.out]; simp only [List.getElem?_toArray, List.getElem?_cons_succ, List.getElem?_cons_zero]; rfl) (by rw [HO.out]; kernel_rfl) (by rw [HO.out]; kernel_rfl) (by rw [HO.out]; kernel_rfl) (by rw [HQ.out]; exact fun _ _ _ h => h) (Or.inl ⟨by rfl, ?_⟩) trivial ?_
            · intro w' hSw
              go_simp
            try simp only [Act.put, List.setIfInBounds_toArray, List.set_cons_zero, List.set_cons_succ]
            refine wpAnyH_take (i := 9) (v := .bool true) (by rw [HO.out]; simp only [List.getElem?_toArray, List.getElem?_cons_succ, List.getElem?_cons_zero]; rfl) (by rw [HO.out]; kernel_rfl) (by rw [HO.out]; kernel_rfl) (by rw [HO.out]; kernel_rfl) (by rw [HQ.out]; exact fun _ _ _ h => h) (Or.inl ⟨by rfl, ?_⟩) trivial ?_
            · intro w' hSw
              go_simp
            try simp only [Act.put, List.setIfInBounds_toArray, List.set_cons_zero, List.set_cons_succ]
            refine wpAnyH_ready (rs := [10]) (by rw [HO.out]; kernel_rfl) (by simp) ?_
            refine AllReadyH.cons (o := _) (by rw [HO.out]; simp only [List.getElem?_toArray, List.getElem?_cons_succ, List.getElem?_cons_zero]; rfl) (fun K10 hK10 => ?_) ?_
            · go_simp
              refine hK10.out _ _ trivial (fun _ => ?_)
              try simp only [Act.put, List.setIfInBounds_toArray, List.set_cons_zero, List.set_cons_succ]
              refine wpAnyH_done (by rw [HO.out]; kernel_rfl) ?_ _
              rw [HQ.out]
              refine NoPanic.normal ?_
              clear HCD
              go_wp2_with fail
              go_roundw
              case rel => exact ⟨k + 1, actsD s x, a3, n3, cap3, done3, by omega, by go_num, hs3.out, HR2.out⟩
              case measure => simp [intOf]; omega
            exact AllReadyH.nil
          exact AllReadyH.nil
        exact AllReadyH.nil
      refine AllReadyH.cons (o := _) (by rw [HO.out]; simp only [List.getElem?_toArray, List.getElem?_cons_succ, List.getElem?_cons_zero]; rfl) (fun K5 hK5 => ?_) ?_
      · go_simp
        refine hK5.out _ _ trivial (fun _ => ?_)
        try simp only [Act.put, List.setIfInBounds_toArray, List.set_cons_zero, List.set_cons_succ]
        refine wpAnyH_ready (rs := [1]) (by rw [HO.out]; kernel_rfl) (by simp) ?_
        refine AllReadyH.cons (o := _) (by rw [HO.out]; simp only [List.getElem?_toArray, List.getElem?_cons_succ, List.getElem?_cons_zero]; rfl) (fun K1 hK1 => ?_) ?_
        · go_simp
          refine hK1.out _ _ trivial (fun _ => ?_)
          try simp only [Act.put, List.setIfInBounds_toArray, List.set_cons_zero, List.set_cons_succ]
          refine wpAnyH_ready (rs := [6]) (by rw [HO.out]; kernel_rfl) (by simp) ?_
          refine AllReadyH.cons (o := _) (by rw [HO.out]; simp only [List.getElem?_toArray, List.getElem?_cons_succ, List.getElem?_cons_zero]; rfl) (fun K6 hK6 => ?_) ?_
          · go_simp
            refine (HCD.out _ (HS.out.below (Below.refl _ _).drew)).mono ?_
            rintro e w3 ⟨a3, n3, cap3, done3, rfl, hrc, hs3⟩
            obtain ⟨z0, z1, z2, z3, z4, z5, z6, y0, y1, y2, y3, y4, y5, y6⟩ := hrc
            refine hK6.out _ _ trivial (fun _ => ?_)
            try simp only [Act.put, List.setIfInBounds_toArray, List.set_cons_zero, List.set_cons_succ]
            refine wpAnyH_take (i := 7) (v := .tuple #[.agg #[.int .i64 (actsD s x).room, .slice a3 n3 cap3, .bool (actsD s x).down, .int .i64 (actsD s x).ops, .int .i64 (actsD s x).reads, .int .i64 (actsD s x).fails, .bool done3], .bool true]) (by rw [HO.out]; simp only [List.getElem?_toArray, List.getElem?_cons_succ, List.getElem?_cons_zero]; rfl) (by rw [HO.out]; kernel_rfl) (by rw [HO.out]; kernel_rfl) (by rw [HO.out]; kernel_rfl) (by rw [HQ.out]; exact fun _ _ _ h => h) (Or.inl ⟨by rfl, ?_⟩) trivial ?_
            · intro w' hSw
              go_simp
            try simp only [Act.put, List.setIfInBounds_toArray, List.set_cons_zero, List.set_cons_succ]
            refine wpAnyH_take (i := 8) (v := .agg #[.int .i64 (actsD s x).room, .slice a3 n3 cap3, .bool (actsD s x).down, .int .i64 (actsD s x).ops, .int .i64 (actsD s x).reads, .int .i64 (actsD s x).fails, .bool done3]) (by rw [HO.out]; simp only [List.getElem?_toArray, List.getElem?_cons_succ, List.getElem?_cons_zero]; rfl) (by rw [HO.out]; kernel_rfl) (by rw [HO.out]; kernel_rfl) (by rw [HO.out]; kernel_rfl) (by rw [HQ.out]; exact fun _ _ _ h => h) (Or.inl ⟨by rfl, ?_⟩) trivial ?_
            · intro w' hSw
              go_simp
            try simp only [Act.put, List.setIfInBounds_toArray, List.set_cons_zero, List.set_cons_succ]
            refine wpAnyH_take (i := 9) (v := .bool true) (by rw [HO.out]; simp only [List.getElem?_toArray, List.getElem?_cons_succ, List.getElem?_cons_zero]; rfl) (by rw [HO.out]; kernel_rfl) (by rw [HO.out]; kernel_rfl) (by rw [HO.out]; kernel_rfl) (by rw [HQ.out]; exact fun _ _ _ h => h) (Or.inl ⟨by rfl, ?_⟩) trivial ?_
            · intro w' hSw
              go_simp
            try simp only [Act.put, List.setIfInBounds_toArray, List.set_cons_zero, List.set_cons_succ]
            refine wpAnyH_ready (rs := [10]) (by rw [HO.out]; kernel_rfl) (by simp) ?_
            refine AllReadyH.cons (o := _) (by rw [HO.out]; simp only [List.getElem?_toArray, List.getElem?_cons_succ, List.getElem?_cons_zero]; rfl) (fun K10 hK10 => ?_) ?_
            · go_simp
              refine hK10.out _ _ trivial (fun _ => ?_)
              try simp only [Act.put, List.setIfInBounds_toArray, List.set_cons_zero, List.set_cons_succ]
              refine wpAnyH_done (by rw [HO.out]; kernel_rfl) ?_ _
              rw [HQ.out]
              refine NoPanic.normal ?_
              clear HCD
              go_wp2_with fail
              go_roundw
              case rel => exact ⟨k + 1, actsD s x, a3, n3, cap3, done3, by omega, by go_num, hs3.out, HR2.out⟩
              case measure => simp [intOf]; omega
            exact AllReadyH.nil
          exact AllReadyH.nil
        exact AllReadyH.nil
      exact AllReadyH.nil
    · have hdk : decide ((k : Int) < (len : Int)) = false := by simp; omega
      have HM : Hid (Mine w wr p nb mb s) := HS.out.1
      clear HS HDO HM1
      obtain ⟨s1, e1⟩ : ∃ s1, s1 = crashS s [] := ⟨_, rfl⟩
      have k1 : Calm s1 := by rw [e1]; exact calm_crash HR9.out []
      have HSB : Hid (s1.S = s1.B) := by rw [e1]; exact (rfl : (crashS s []).S = (crashS s []).B)
      have C1 : Hid (∀ W, Mine w W p nb mb s → Calls Try.prog 14 #[.pointer (some ⟨p, 0, none⟩), .slice none 0 0] W fun e w' => e = .returned (.tuple #[]) ∧ Mine w w' p nb mb s1) := fun W hm => by rw [e1]; exact HCR.out W p nb mb s _ [] hm (FV.nil _ _)
      clear e1
      go_wp2_with (first
        | (go_at_call 14; refine (C1.out _ HM.out).mono ?_; rintro e w4 ⟨rfl, h4⟩; have M4 : Hid (Mine w w4 p nb mb s1) := h4; clear C1 h4)
        | fail)
      obtain ⟨bA, hbA, hlo⟩ : ∃ bA, bA ≤ w4.heap.size ∧ Hid (w.heap.size ≤ bA ∧ p < bA ∧ nb < bA ∧ mb < bA) := ⟨w4.heap.size, Nat.le_refl _, M4.out.2.2.2.2.size, M4.out.lt p (by simp), M4.out.lt nb (by simp), M4.out.lt mb (by simp)⟩
      have HISB : Hid (∀ i, i < 9 → (s1.B i).length = 256) := fun i hi => (M4.out.1.1.isB i (by rw [k1.room]; exact hi)).1
      have HK1 : Hid (Calm s1) := k1
      obtain ⟨row, hrow⟩ : ∃ row : Nat → List ByteArray, row = fun k => (List.range k).map (fun n => strOfNums (s1.B n)) := ⟨_, rfl⟩
      have HROW : Hid (row 0 = [] ∧ (∀ k, row (k + 1) = row k ++ [strOfNums (s1.B k)]) ∧ (∀ k, (row k).length = k) ∧ (∀ k n, n < k → (row k).getD n ByteArray.empty = strOfNums (s1.B n))) := by
        have := rows_of (fun n => strOfNums (s1.B n))
        rw [← hrow] at this
        exact this
      clear hrow k1
      go_loopw [8, 10] (fun sv iv wx => ∃ (k : Nat) (sd : DS), k ≤ 9 ∧ iv = .int .i64 k ∧ Hid (Mine w wx p nb mb sd ∧ Calm sd ∧ sd.B = s1.B ∧ sd.S = s1.B ∧ OwnT wx bA sv (row k)) ∧ Hid (bA ≤ wx.heap.size)) (fun _ iv _ => 9 - (intOf iv).toNat)
      case atStart => exact ⟨0, s1, Nat.zero_le _, rfl, ⟨M4.out, HK1.out, rfl, HSB.out, by rw [HROW.out.1]; exact OwnT.nil _ _⟩, hbA⟩
      case round =>
        obtain ⟨k2, sd, hk2, rfl, HSD, HBA⟩ := hrel
        clear M4 hbA HSB
        by_cases hlt2 : k2 < 9
        · have hdk2 : decide ((k2 : Int) < 9) = true := by simp; omega
          have rd := HSD.out.2.1.read k2 hlt2
          have HRD : Hid (Calm (readS sd k2) ∧ (readS sd k2).B = s1.B ∧ (readS sd k2).S = s1.B) := ⟨rd.2.1, by rw [rd.2.2.2.1]; exact HSD.out.2.2.1, by rw [rd.2.2.2.2.1]; exact HSD.out.2.2.2.1⟩
          have CR : Hid (Calls Try.prog 15 #[.pointer (some ⟨p, 0, none⟩), .int .i64 k2] wr fun e w' => ∃ g cg, e = .returned (.tuple #[.slice (some ⟨g, 0, none⟩) 256 cg, .int .i64 0]) ∧ (convert 32 9 (.slice (some ⟨g, 0, none⟩) 256 cg)).run Try.prog w' = .ok (.string (strOfNums (s1.B k2))) w' ∧ Hid (Mine w w' p nb mb (readS sd k2) ∧ OwnT w' bA u8 (row k2) ∧ bA ≤ w'.heap.size)) := by
            refine (mread_ok wr k2 (s1.B k2) HSD.out.1 rd.1 (by rw [rd.2.2.1, HSD.out.2.2.1]) (HISB.out k2 hlt2)).mono ?_
            rintro e w' ⟨g, cg, rfl, h1, h2, h3, h4⟩
            exact ⟨g, cg, rfl, conv_bv h1 (HISB.out k2 hlt2), h3, HSD.out.2.2.2.2.low h4 (fun x hx => by have := hlo.out; simp at hx; omega), Nat.le_trans HBA.out h4.size⟩
          clear rd HSD HBA HCR HFU HAT H8
          go_wp2_with (first
            | (go_at_call 15; refine (CR.out).mono ?_; rintro e w5 ⟨g, cg, rfl, hcv, HR5⟩; clear CR)
            | (at_builtin; refine wp_appT rfl _ _ rfl bA _ (row k2) (strOfNums (s1.B k2)) rfl (HR5.out.2.1.off (Off.of_below (X := []) ((Below.refl _ _).alloc (Nat.le_refl _) _)) (by simp)) _ rfl (heap_alloc_last _ _) (by rw [HROW.out.2.2.1]; omega) (by have := HR5.out.2.2; simp; omega) ?_; intro lv' w6 hO6 hb6)
            | fail)
          have HO6 : Hid (OwnT w6 bA lv' (row (k2 + 1))) := by rw [HROW.out.2.1]; exact hO6
          have HM6 : Hid (Mine w w6 p nb mb (readS sd k2)) := (HR5.out.1.below ((Below.refl _ _).alloc (Nat.le_refl _) _)).under hlo.out.2 hlo.out.1 hb6
          have HB6 : Hid (bA ≤ w6.heap.size) := by have := HR5.out.2.2; have := hb6.size; simp at this; exact Nat.le_trans HR5.out.2.2 (by omega)
          go_roundw
          case rel => exact ⟨k2 + 1, readS sd k2, by omega, by go_num, ⟨HM6.out, HRD.out.1, HRD.out.2.1, HRD.out.2.2, HO6.out⟩, HB6.out⟩
          case measure => simp [intOf]; omega
        · have hdk2 : decide ((k2 : Int) < 9) = false := by simp; omega
          have HOS : Hid (OwnT wr bA u8 (row 9)) := by
            have e9 : k2 = 9 := by omega
            have h := HSD.out.2.2.2.2
            rw [e9] at h
            exact h
          obtain ⟨gs, cs, hu8, hcs, hgs1, hgs2, hgc⟩ := HOS.out.view 9 (HROW.out.2.2.1 9) (by decide)
          clear hgc hgs2
          subst hu8
          go_wp2_with fail
          go_loopw [13] (fun iv wx => ∃ (k3 : Nat) (sd : DS), k3 ≤ len ∧ iv = .int .i64 k3 ∧ Hid (Mine w wx p nb mb sd ∧ Calm sd ∧ sd.S = s1.B ∧ OwnT wx bA (.slice (some ⟨gs, 0, none⟩) 9 cs) (row 9))) (fun iv _ => len - (intOf iv).toNat)
          case atStart => exact ⟨0, sd, Nat.zero_le _, rfl, HSD.out.1, HSD.out.2.1, HSD.out.2.2.2.1, HOS.out⟩
          case round =>
            obtain ⟨k3, sd, hk3, rfl, HSE⟩ := hrel
            clear HSD HOS HBA
            by_cases hlt3 : k3 < len
            · have hdk3 : decide ((k3 : Int) < (len : Int)) = true := by simp; omega
              obtain ⟨b, off, rfl, hbs, hfit, fa', fl', fc', q0, q1, q2, q3, q4, q5, q6, q7, q8, q9⟩ := HAT.out k3 hlt3
              have HBW : Hid (Below w.heap.size w wr) := HSE.out.1.2.2.2.2
              have c0 := (HBW.out.cell (p := ⟨b, off + k3 * 6, none⟩) hbs).trans q0
              have c1 := (HBW.out.cell (p := ⟨b, off + k3 * 6 + 1, none⟩) hbs).trans q1
              have c2 := (HBW.out.cell (p := ⟨b, off + k3 * 6 + 2, none⟩) hbs).trans q2
              generalize hxk : xs.getD k3 default = x at *
              have HX : Hid (0 ≤ x.kd ∧ 0 ≤ x.c ∧ x.c ≤ 255) := ⟨hfit.k0, hfit.c0, hfit.c1⟩
              have HKT : Hid (Int.tmod x.kd 8 = x.kd % 8) := Int.tmod_eq_emod_of_nonneg hfit.k0
              have CF : Hid (∀ W, Mine w W p nb mb sd ∧ OwnT W bA (.slice (some ⟨gs, 0, none⟩) 9 cs) (row 9) → Calls Try.prog 24 #[.int .u8 x.c] W fun e w' => ∃ g, e = .returned (.slice (some ⟨g, 0, none⟩) 256 256) ∧ Hid ((Mine w w' p nb mb sd ∧ OwnT w' bA (.slice (some ⟨gs, 0, none⟩) 9 cs) (row 9)) ∧ (BV w' (some ⟨g, 0, none⟩) (List.replicate 256 x.c) ∧ g ∉ [p, nb, mb]) ∧ True ∧ (∀ {u1 u2 : Value}, W.cell? ⟨b, off + k3 * 6 + 1, none⟩ = some u1 → W.cell? ⟨b, off + k3 * 6 + 2, none⟩ = some u2 → w'.cell? ⟨b, off + k3 * 6 + 1, none⟩ = some u1 ∧ w'.cell? ⟨b, off + k3 * 6 + 2, none⟩ = some u2))) := fun W hm => by
                refine (HFU.out W p nb mb sd x.c HX.out.2.1 HX.out.2.2 hm.1).mono ?_
                rintro e w' ⟨g, rfl, h1, h4⟩
                have hlt : b < W.heap.size := Nat.lt_of_lt_of_le hbs hm.1.2.2.2.2.size
                exact ⟨g, rfl, ⟨h1.out.2.2, hm.2.off (Off.of_below (X := []) h4) (by simp)⟩, ⟨h1.out.1, h1.out.2.1⟩, trivial, fun e1 e2 => ⟨(h4.cell (p := ⟨b, off + k3 * 6 + 1, none⟩) hlt).trans e1, (h4.cell (p := ⟨b, off + k3 * 6 + 2, none⟩) hlt).trans e2⟩⟩
              have CW : Hid (∀ W g, (Mine w W p nb mb sd ∧ OwnT W bA (.slice (some ⟨gs, 0, none⟩) 9 cs) (row 9)) ∧ (BV W (some ⟨g, 0, none⟩) (List.replicate 256 x.c) ∧ g ∉ [p, nb, mb]) → Calls Try.prog 16 #[.pointer (some ⟨p, 0, none⟩), .int .i64 x.n, .slice (some ⟨g, 0, none⟩) 256 256] W fun e w' => ∃ ev, e = .returned ev ∧ Hid ((Mine w w' p nb mb (writeS sd x.n (List.replicate 256 x.c)) ∧ OwnT w' bA (.slice (some ⟨gs, 0, none⟩) 9 cs) (row 9)) ∧ (∀ {u1 u2 : Value}, W.cell? ⟨b, off + k3 * 6 + 1, none⟩ = some u1 → W.cell? ⟨b, off + k3 * 6 + 2, none⟩ = some u2 → w'.cell? ⟨b, off + k3 * 6 + 1, none⟩ = some u1 ∧ w'.cell? ⟨b, off + k3 * 6 + 2, none⟩ = some u2))) := fun W g h => by
                refine (write_any p nb mb sd x.n (some ⟨g, 0, none⟩) 256 256 (List.replicate 256 x.c) W h.1.1.1 h.2.1 List.length_replicate (by decide) (fun b off e => by simp at e; rw [← e.1]; exact h.2.2)).mono ?_
                rintro e w' ⟨rfl, hd, hoo⟩
                have hbel : Below w.heap.size W w' := hoo.below h.1.1.2.2.2.2.size h.1.1.from
                exact ⟨_, rfl, ⟨h.1.1.step hd hoo, h.1.2.low hoo (fun y hy => by have := hlo.out; simp at hy; omega)⟩, fun e1 e2 => ⟨(hbel.cell (p := ⟨b, off + k3 * 6 + 1, none⟩) hbs).trans e1, (hbel.cell (p := ⟨b, off + k3 * 6 + 2, none⟩) hbs).trans e2⟩⟩
              have HCW : Hid (Calm (writeS sd x.n (List.replicate 256 x.c)) ∧ (writeS sd x.n (List.replicate 256 x.c)).S = s1.B) := by
                have := calm_write HSE.out.2.1 x.n (List.replicate 256 x.c) List.length_replicate
                exact ⟨this.1, this.2.trans HSE.out.2.2.1⟩
              have HSB3 : Hid (Mine w wr.drew p nb mb sd ∧ OwnT wr.drew bA (.slice (some ⟨gs, 0, none⟩) 9 cs) (row 9)) := ⟨HSE.out.1.below (Below.refl _ _).drew, HSE.out.2.2.2.off (Off.of_below (X := []) (Below.refl _ _).drew) (by simp)⟩
              clear q0 q1 q2 q3 q4 q5 q6 q7 q8 q9 hfit hxk HAT HCR HFU H8
              by_cases hk8 : x.kd % 8 < 4
              · have htm : decide (Int.tmod x.kd 8 < 4) = true := by rw [HKT.out]; simp; exact hk8
                have htm2 : Int.tmod x.kd 8 < 4 := by rw [HKT.out]; exact hk8
                go_wp2_with fail
                refine wp_region_noPanic ?_
                refine name_ops ?_
                intro O QQ HO HQ
                have HSS : Hid (wr.drew.cell? ⟨b, off + k3 * 6 + 1, none⟩ = some (.int .i64 x.n) ∧ wr.drew.cell? ⟨b, off + k3 * 6 + 2, none⟩ = some (.int .u8 x.c)) := ⟨c1, c2⟩
                refine wp_region_held_drew (S := fun W' => W'.cell? ⟨b, off + k3 * 6 + 1, none⟩ = some (.int .i64 x.n) ∧ W'.cell? ⟨b, off + k3 * 6 + 2, none⟩ = some (.int .u8 x.c)) (by kernel_rfl) HSS.out (fun hS => ?_)
                rw [show O.size = 13 by rw [HO.out]; rfl]
                refine wpAnyH_take (i := 0) (v := .pointer (some ⟨p, 0, none⟩)) (by rw [HO.out]; simp only [List.getElem?_toArray, List.getElem?_cons_succ, List.getElem?_cons_zero]; rfl) (by rw [HO.out]; kernel_rfl) (by rw [HO.out]; kernel_rfl) (by rw [HO.out]; kernel_rfl) (by rw [HQ.out]; exact fun _ _ _ h => h) (Or.inl ⟨by rfl, ?_⟩) HSS.out ?_
                · intro w' hSw
                  go_simp
                try simp only [Act.put, List.setIfInBounds_toArray, List.set_cons_zero, List.set_cons_succ]
                refine wpAnyH_take (i := 1) (v := .slice (some ⟨b, off, none⟩) len cap) (by rw [HO.out]; simp only [List.getElem?_toArray, List.getElem?_cons_succ, List.getElem?_cons_zero]; rfl) (by rw [HO.out]; kernel_rfl) (by rw [HO.out]; kernel_rfl) (by rw [HO.out]; kernel_rfl) (by rw [HQ.out]; exact fun _ _ _ h => h) (Or.inl ⟨by rfl, ?_⟩) HSS.out ?_
                · intro w' hSw
                  go_simp
                try simp only [Act.put, List.setIfInBounds_toArray, List.set_cons_zero, List.set_cons_succ]
                refine wpAnyH_take (i := 2) (v := .int .i64 k3) (by rw [HO.out]; simp only [List.getElem?_toArray, List.getElem?_cons_succ, List.getElem?_cons_zero]; rfl) (by rw [HO.out]; kernel_rfl) (by rw [HO.out]; kernel_rfl) (by rw [HO.out]; kernel_rfl) (by rw [HQ.out]; exact fun _ _ _ h => h) (Or.inl ⟨by rfl, ?_⟩) HSS.out ?_
                · intro w' hSw
                  go_simp
                try simp only [Act.put, List.setIfInBounds_toArray, List.set_cons_zero, List.set_cons_succ]
                refine wpAnyH_take (i := 3) (v := .pointer (some ⟨b, off + k3 * 6, none⟩)) (by rw [HO.out]; simp only [List.getElem?_toArray, List.getElem?_cons_succ, List.getElem?_cons_zero]; rfl) (by rw [HO.out]; kernel_rfl) (by rw [HO.out]; kernel_rfl) (by rw [HO.out]; kernel_rfl) (by rw [HQ.out]; exact fun _ _ _ h => h) (Or.inl ⟨by rfl, ?_⟩) HSS.out ?_
                · intro w' hSw
                  go_simp
                try simp only [Act.put, List.setIfInBounds_toArray, List.set_cons_zero, List.set_cons_succ]
                refine wpAnyH_take (i := 4) (v := .pointer (some ⟨b, off + k3 * 6 + 1, none⟩)) (by rw [HO.out]; simp only [List.getElem?_toArray, List.getElem?_cons_succ, List.getElem?_cons_zero]; rfl) (by rw [HO.out]; kernel_rfl) (by rw [HO.out]; kernel_rfl) (by rw [HO.out]; kernel_rfl) (by rw [HQ.out]; exact fun _ _ _ h => h) (Or.inl ⟨by rfl, ?_⟩) HSS.out ?_
                · intro w' hSw
                  go_simp
                try simp only [Act.put, List.setIfInBounds_toArray, List.set_cons_zero, List.set_cons_succ]
                refine wpAnyH_take (i := 5) (v := .int .i64 x.n) (by rw [HO.out]; simp only [List.getElem?_toArray, List.getElem?_cons_succ, List.getElem?_cons_zero]; rfl) (by rw [HO.out]; kernel_rfl) (by rw [HO.out]; kernel_rfl) (by rw [HO.out]; kernel_rfl) (by rw [HQ.out]; exact fun _ _ _ h => h) (Or.inl ⟨by rfl, ?_⟩) HSS.out ?_
                · intro w' hSw
                  obtain ⟨q1, q2⟩ := hSw
                  go_simp
                try simp only [Act.put, List.setIfInBounds_toArray, List.set_cons_zero, List.set_cons_succ]
                refine wpAnyH_take (i := 6) (v := .slice (some ⟨b, off, none⟩) len cap) (by rw [HO.out]; simp only [List.getElem?_toArray, List.getElem?_cons_succ, List.getElem?_cons_zero]; rfl) (by rw [HO.out]; kernel_rfl) (by rw [HO.out]; kernel_rfl) (by rw [HO.out]; kernel_rfl) (by rw [HQ.out]; exact fun _ _ _ h => h) (Or.inl ⟨by rfl, ?_⟩) HSS.out ?_
                · intro w' hSw
                  go_simp
                try simp only [Act.put, List.setIfInBounds_toArray, List.set_cons_zero, List.set_cons_succ]
                refine wpAnyH_take (i := 7) (v := .int .i64 k3) (by rw [HO.out]; simp only [List.getElem?_toArray, List.getElem?_cons_succ, List.getElem?_cons_zero]; rfl) (by rw [HO.out]; kernel_rfl) (by rw [HO.out]; kernel_rfl) (by rw [HO.out]; kernel_rfl) (by rw [HQ.out]; exact fun _ _ _ h => h) (Or.inl ⟨by rfl, ?_⟩) HSS.out ?_
                · intro w' hSw
                  go_simp
                try simp only [Act.put, List.setIfInBounds_toArray, List.set_cons_zero, List.set_cons_succ]
                refine wpAnyH_take (i := 8) (v := .pointer (some ⟨b, off + k3 * 6, none⟩)) (by rw [HO.out]; simp only [List.getElem?_toArray, List.getElem?_cons_succ, List.getElem?_cons_zero]; rfl) (by rw [HO.out]; kernel_rfl) (by rw [HO.out]; kernel_rfl) (by rw [HO.out]; kernel_rfl) (by rw [HQ.out]; exact fun _ _ _ h => h) (Or.inl ⟨by rfl, ?_⟩) HSS.out ?_
                · intro w' hSw
                  go_simp
                try simp only [Act.put, List.setIfInBounds_toArray, List.set_cons_zero, List.set_cons_succ]
                refine wpAnyH_take (i := 9) (v := .pointer (some ⟨b, off + k3 * 6 + 2, none⟩)) (by rw [HO.out]; simp only [List.getElem?_toArray, List.getElem?_cons_succ, List.getElem?_cons_zero]; rfl) (by rw [HO.out]; kernel_rfl) (by rw [HO.out]; kernel_rfl) (by rw [HO.out]; kernel_rfl) (by rw [HQ.out]; exact fun _ _ _ h => h) (Or.inl ⟨by rfl, ?_⟩) HSS.out ?_
                · intro w' hSw
                  go_simp
                try simp only [Act.put, List.setIfInBounds_toArray, List.set_cons_zero, List.set_cons_succ]
                refine wpAnyH_take (i := 10) (v := .int .u8 x.c) (by rw [HO.out]; simp only [List.getElem?_toArray, List.getElem?_cons_succ, List.getElem?_cons_zero]; rfl) (by rw [HO.out]; kernel_rfl) (by rw [HO.out]; kernel_rfl) (by rw [HO.out]; kernel_rfl) (by rw [HQ.out]; exact fun _ _ _ h => h) (Or.inl ⟨by rfl, ?_⟩) HSS.out ?_
                · intro w' hSw
                  obtain ⟨q1, q2⟩ := hSw
                  go_simp
                try simp only [Act.put, List.setIfInBounds_toArray, List.set_cons_zero, List.set_cons_succ]
                refine wpAnyH_ready (rs := [11]) (by rw [HO.out]; kernel_rfl) (by simp) ?_
                refine AllReadyH.cons (o := _) (by rw [HO.out]; simp only [List.getElem?_toArray, List.getElem?_cons_succ, List.getElem?_cons_zero]; rfl) (fun K11 hK11 => ?_) ?_
                · go_simp
                  refine (CF.out _ HSB3.out).mono ?_
                  rintro e w5 ⟨g5, rfl, HG5⟩
                  refine hK11.out _ _ (HG5.out.2.2.2 HSS.out.1 HSS.out.2) (fun hS5 => ?_)
                  try simp only [Act.put, List.setIfInBounds_toArray, List.set_cons_zero, List.set_cons_succ]
                  refine wpAnyH_ready (rs := [12]) (by rw [HO.out]; kernel_rfl) (by simp) ?_
                  refine AllReadyH.cons (o := _) (by rw [HO.out]; simp only [List.getElem?_toArray, List.getElem?_cons_succ, List.getElem?_cons_zero]; rfl) (fun K12 hK12 => ?_) ?_
                  · go_simp
                    refine (CW.out _ g5 ⟨HG5.out.1, HG5.out.2.1⟩).mono ?_
                    rintro e w6 ⟨ev, rfl, HG6⟩
                    refine hK12.out _ _ (HG6.out.2 (HG5.out.2.2.2 HSS.out.1 HSS.out.2).1 (HG5.out.2.2.2 HSS.out.1 HSS.out.2).2) (fun _ => ?_)
                    try simp only [Act.put, List.setIfInBounds_toArray, List.set_cons_zero, List.set_cons_succ]
                    refine wpAnyH_done (by rw [HO.out]; kernel_rfl) ?_ _
                    rw [HQ.out]
                    refine NoPanic.normal ?_
                    go_wp2_with fail
                    go_roundw
                    case rel => exact ⟨k3 + 1, writeS sd x.n (List.replicate 256 x.c), by omega, by go_num, HG6.out.1.1, HCW.out.1, HCW.out.2, HG6.out.1.2⟩
                    case measure => simp [intOf]; omega
                  exact AllReadyH.nil
                exact AllReadyH.nil
              · have htm : decide (Int.tmod x.kd 8 < 4) = false := by rw [HKT.out]; simp; omega
                have htm2 : ¬ Int.tmod x.kd 8 < 4 := by rw [HKT.out]; exact hk8
                go_wp2_with fail
                go_roundw
                case rel => exact ⟨k3 + 1, sd, by omega, by go_num, HSE.out⟩
                case measure => simp [intOf]; omega
            · have hdk3 : decide ((k3 : Int) < (len : Int)) = false := by simp; omega
              clear HAT HFU
              go_wp2_with fail
              obtain ⟨bC, hbC, hlC⟩ : ∃ bC, bC ≤ wr.heap.size ∧ Hid (w.heap.size ≤ bC ∧ (p < bC ∧ nb < bC ∧ mb < bC) ∧ gs < bC) := ⟨wr.heap.size, Nat.le_refl _, HSE.out.1.2.2.2.2.size, ⟨HSE.out.1.lt p (by simp), HSE.out.1.lt nb (by simp), HSE.out.1.lt mb (by simp)⟩, (World.ownsRow.lt HSE.out.2.2.2 gs rfl).2⟩
              have HISC : Hid (∀ i, i < 9 → (sd.B i).length = 256) := fun i hi => (HSE.out.1.1.1.isB i (by rw [HSE.out.2.1.room]; exact hi)).1
              obtain ⟨rowC, hrowC⟩ : ∃ row : Nat → List ByteArray, row = fun k => (List.range k).map (fun n => strOfNums (sd.B n)) := ⟨_, rfl⟩
              have HROC : Hid (rowC 0 = [] ∧ (∀ k, rowC (k + 1) = rowC k ++ [strOfNums (sd.B k)]) ∧ (∀ k, (rowC k).length = k) ∧ (∀ k n, n < k → (rowC k).getD n ByteArray.empty = strOfNums (sd.B n))) := by
                have := rows_of (fun n => strOfNums (sd.B n))
                rw [← hrowC] at this
                exact this
              clear hrowC
              go_loopw [9, 14] (fun nv iv wx => ∃ (k4 : Nat) (se : DS), k4 ≤ 9 ∧ iv = .int .i64 k4 ∧ Hid (Mine w wx p nb mb se ∧ Calm se ∧ se.B = sd.B ∧ se.S = s1.B ∧ OwnT wx bA (.slice (some ⟨gs, 0, none⟩) 9 cs) (row 9) ∧ OwnT wx bC nv (rowC k4)) ∧ Hid (bC ≤ wx.heap.size)) (fun _ iv _ => 9 - (intOf iv).toNat)
              case atStart => exact ⟨0, sd, Nat.zero_le _, rfl, ⟨HSE.out.1, HSE.out.2.1, rfl, HSE.out.2.2.1, HSE.out.2.2.2, by rw [HROC.out.1]; exact OwnT.nil _ _⟩, hbC⟩
              case round =>
                obtain ⟨k4, se, hk4, rfl, HSF, HBC⟩ := hrel
                clear HSE hbC
                by_cases hlt4 : k4 < 9
                · have hdk4 : decide ((k4 : Int) < 9) = true := by simp; omega
                  have rd := HSF.out.2.1.read k4 hlt4
                  have HRD : Hid (Calm (readS se k4) ∧ (readS se k4).B = sd.B ∧ (readS se k4).S = s1.B) := ⟨rd.2.1, by rw [rd.2.2.2.1]; exact HSF.out.2.2.1, by rw [rd.2.2.2.2.1]; exact HSF.out.2.2.2.1⟩
                  have CR : Hid (Calls Try.prog 15 #[.pointer (some ⟨p, 0, none⟩), .int .i64 k4] wr fun e w' => ∃ g cg, e = .returned (.tuple #[.slice (some ⟨g, 0, none⟩) 256 cg, .int .i64 0]) ∧ (convert 32 9 (.slice (some ⟨g, 0, none⟩) 256 cg)).run Try.prog w' = .ok (.string (strOfNums (sd.B k4))) w' ∧ Hid (Mine w w' p nb mb (readS se k4) ∧ OwnT w' bC u9 (rowC k4) ∧ bC ≤ w'.heap.size ∧ OwnT w' bA (.slice (some ⟨gs, 0, none⟩) 9 cs) (row 9))) := by
                    refine (mread_ok wr k4 (sd.B k4) HSF.out.1 rd.1 (by rw [rd.2.2.1, HSF.out.2.2.1]) (HISC.out k4 hlt4)).mono ?_
                    rintro e w' ⟨g, cg, rfl, h1, h2, h3, h4⟩
                    exact ⟨g, cg, rfl, conv_bv h1 (HISC.out k4 hlt4), h3, HSF.out.2.2.2.2.2.low h4 (fun x hx => by have := hlC.out; simp at hx; omega), Nat.le_trans HBC.out h4.size, HSF.out.2.2.2.2.1.low h4 (fun x hx => by have := hlo.out; simp at hx; omega)⟩
                  clear rd HSF HBC HCR H8
                  go_wp2_with (first
                    | (go_at_call 15; refine (CR.out).mono ?_; rintro e w5 ⟨g, cg, rfl, hcv, HR5⟩; clear CR)
                    | (at_builtin; refine wp_appT rfl _ _ rfl bC _ (rowC k4) (strOfNums (sd.B k4)) rfl (HR5.out.2.1.off (Off.of_below (X := []) ((Below.refl _ _).alloc (Nat.le_refl _) _)) (by simp)) _ rfl (heap_alloc_last _ _) (by rw [HROC.out.2.2.1]; omega) (by have := HR5.out.2.2.1; simp; omega) ?_; intro lv' w6 hO6 hb6)
                    | fail)
                  have HO6 : Hid (OwnT w6 bC lv' (rowC (k4 + 1))) := by rw [HROC.out.2.1]; exact hO6
                  have HM6 : Hid (Mine w w6 p nb mb (readS se k4)) := (HR5.out.1.below ((Below.refl _ _).alloc (Nat.le_refl _) _)).under hlC.out.2.1 hlC.out.1 hb6
                  have HS6 : Hid (OwnT w6 bA (.slice (some ⟨gs, 0, none⟩) 9 cs) (row 9)) := (HR5.out.2.2.2.off (Off.of_below (X := []) ((Below.refl _ _).alloc (Nat.le_refl _) _)) (by simp)).under (fun g hg => by have := hlC.out.2.2; simp [Value.ownBlock] at hg; omega) hb6
                  have HB6 : Hid (bC ≤ w6.heap.size) := by have := HR5.out.2.2.1; have := hb6.size; simp at this; exact Nat.le_trans HR5.out.2.2.1 (by omega)
                  go_roundw
                  case rel => exact ⟨k4 + 1, readS se k4, by omega, by go_num, ⟨HM6.out, HRD.out.1, HRD.out.2.1, HRD.out.2.2, HS6.out, HO6.out⟩, HB6.out⟩
                  case measure => simp [intOf]; omega
                · have hdk4 : decide ((k4 : Int) < 9) = false := by simp; omega
                  have HON : Hid (OwnT wr bC u9 (rowC 9)) := by
                    have e9 : k4 = 9 := by omega
                    have h := HSF.out.2.2.2.2.2
                    rw [e9] at h
                    exact h
                  obtain ⟨gn, cn, hu9, hcn, hgn1, hgn2, hgc⟩ := HON.out.view 9 (HROC.out.2.2.1 9) (by decide)
                  clear hgc hgn2
                  subst hu9
                  have HALL : Hid (Mine w wr p nb mb se ∧ Calm se ∧ se.B = sd.B ∧ se.S = s1.B ∧ OwnT wr bA (.slice (some ⟨gs, 0, none⟩) 9 cs) (row 9) ∧ OwnT wr bC (.slice (some ⟨gn, 0, none⟩) 9 cn) (rowC 9)) := ⟨HSF.out.1, HSF.out.2.1, HSF.out.2.2.1, HSF.out.2.2.2.1, HSF.out.2.2.2.2.1, HON.out⟩
                  clear HSF HON HBC
                  cases keeps with
                  | true =>
                    obtain ⟨s5, e5, hB5⟩ : ∃ s5, s5 = crashS se [1, 1, 1, 1, 1, 1, 1, 1, 1] ∧ s5.B = sd.B := ⟨_, rfl, (crash_all HALL.out.1.1.1 HALL.out.2.1.room).trans HALL.out.2.2.1⟩
                    have HB5 : Hid (Calm s5 ∧ s5.B = sd.B) := ⟨by rw [e5]; exact calm_crash HALL.out.2.1.room _, hB5⟩
                    have CC : Hid (Calls Try.prog 14 #[.pointer (some ⟨p, 0, none⟩), .slice (some ⟨wr.heap.size, 0, none⟩) 9 9] (wr.alloc (.cells #[.int .u8 1, .int .u8 1, .int .u8 1, .int .u8 1, .int .u8 1, .int .u8 1, .int .u8 1, .int .u8 1, .int .u8 1] 5)) fun e w' => e = .returned (.tuple #[]) ∧ Hid (Mine w w' p nb mb s5 ∧ OwnT w' bA (.slice (some ⟨gs, 0, none⟩) 9 cs) (row 9) ∧ OwnT w' bC (.slice (some ⟨gn, 0, none⟩) 9 cn) (rowC 9))) := by
                      have hal : Below wr.heap.size wr (wr.alloc (.cells #[.int .u8 1, .int .u8 1, .int .u8 1, .int .u8 1, .int .u8 1, .int .u8 1, .int .u8 1, .int .u8 1, .int .u8 1] 5)) := (Below.refl _ _).alloc (Nat.le_refl _) _
                      refine (mcrash _ _ _ (HALL.out.1.below hal) (fv_ones wr [p, nb, mb] HALL.out.1.lt)).mono ?_
                      rintro e w' ⟨rfl, h1, h2⟩
                      exact ⟨rfl, by rw [e5]; exact h1, (HALL.out.2.2.2.2.1.off (Off.of_below (X := []) hal) (by simp)).low h2 (fun x hx => by have := hlo.out; simp at hx; omega), (HALL.out.2.2.2.2.2.off (Off.of_below (X := []) hal) (by simp)).low h2 (fun x hx => by have := hlC.out; simp at hx; omega)⟩
                    clear HALL HCR e5 hB5
                    go_wp2_with (first
                      | (go_at_call 14; refine (CC.out).mono ?_; rintro e w7 ⟨rfl, HG7⟩; clear CC)
                      | fail)
                    go_loopw [18] (fun iv wx => ∃ (k5 : Nat) (sf : DS), k5 ≤ 9 ∧ iv = .int .i64 k5 ∧ Hid (Mine w wx p nb mb sf ∧ Calm sf ∧ sf.B = s5.B ∧ OwnT wx bA (.slice (some ⟨gs, 0, none⟩) 9 cs) (row 9) ∧ OwnT wx bC (.slice (some ⟨gn, 0, none⟩) 9 cn) (rowC 9))) (fun iv _ => 9 - (intOf iv).toNat)
                    case atStart => exact ⟨0, s5, Nat.zero_le _, rfl, HG7.out.1, HB5.out.1, rfl, HG7.out.2.1, HG7.out.2.2⟩
                    case round =>
                      obtain ⟨k5, sf, hk5, rfl, HSG⟩ := hrel
                      clear HG7
                      by_cases hlt5 : k5 < 9
                      · have hdk5 : decide ((k5 : Int) < 9) = true := by simp; omega
                        have rd := HSG.out.2.1.read k5 hlt5
                        have HRD : Hid (Calm (readS sf k5) ∧ (readS sf k5).B = s5.B) := ⟨rd.2.1, by rw [rd.2.2.2.1]; exact HSG.out.2.2.1⟩
                        have CR : Hid (Calls Try.prog 15 #[.pointer (some ⟨p, 0, none⟩), .int .i64 k5] wr fun e w' => ∃ g cg, e = .returned (.tuple #[.slice (some ⟨g, 0, none⟩) 256 cg, .int .i64 0]) ∧ Hid (Mine w w' p nb mb (readS sf k5) ∧ OwnT w' bA (.slice (some ⟨gs, 0, none⟩) 9 cs) (row 9) ∧ OwnT w' bC (.slice (some ⟨gn, 0, none⟩) 9 cn) (rowC 9) ∧ (∀ W', Below w'.heap.size w' W' → (convert 32 9 (.slice (some ⟨g, 0, none⟩) 256 cg)).run Try.prog W' = .ok (.string (strOfNums (sd.B k5))) W' ∧ W'.cell? ⟨gn, k5, none⟩ = some (.string (strOfNums (sd.B k5)))))) := by
                          refine (mread_ok wr k5 (sd.B k5) HSG.out.1 rd.1 (by rw [rd.2.2.1, HSG.out.2.2.1, HB5.out.2]) (HISC.out k5 hlt5)).mono ?_
                          rintro e w' ⟨g, cg, rfl, h1, h2, h3, h4⟩
                          have h5s := HSG.out.2.2.2.1.low h4 (fun x hx => by have := hlo.out; simp at hx; omega)
                          have h5n := HSG.out.2.2.2.2.low h4 (fun x hx => by have := hlC.out; simp at hx; omega)
                          refine ⟨g, cg, rfl, h3, h5s, h5n, fun W' hW => ⟨conv_bv (h1.below hW) (HISC.out k5 hlt5), ?_⟩⟩
                          obtain ⟨g9, c9, e9, _, _, _, hc9⟩ := (h5n.off (Off.of_below (X := []) hW) (by simp)).view 9 (HROC.out.2.2.1 9) (by decide)
                          simp only [Value.slice.injEq, Option.some.injEq, Addr.mk.injEq] at e9
                          rw [e9.1.1, hc9 k5 hlt5, HROC.out.2.2.2 9 k5 hlt5]
                        clear rd HSG H8
                        generalize strOfNums (sd.B k5) = tx at *
                        go_wp2_with (first
                          | (go_at_call 15; refine (CR.out).mono ?_; rintro e w8 ⟨g, cg, rfl, HG8⟩; clear CR)
                          | fail)
                        refine wp_region_noPanic ?_
                        refine name_ops ?_
                        intro O QQ HO HQ
                        have HS8 : Hid ((fun W' => (convert 32 9 (.slice (some ⟨g, 0, none⟩) 256 cg)).run Try.prog W' = .ok (.string tx) W' ∧ W'.cell? ⟨gn, k5, none⟩ = some (.string tx)) w8.drew) := HG8.out.2.2.2 _ (Below.refl _ _).drew
                        refine wp_region_held_drew (S := fun W' => (convert 32 9 (.slice (some ⟨g, 0, none⟩) 256 cg)).run Try.prog W' = .ok (.string tx) W' ∧ W'.cell? ⟨gn, k5, none⟩ = some (.string tx)) (by kernel_rfl) HS8.out (fun hS => ?_)
                        clear hS
                        rw [show O.size = 27 by rw [HO.out]; rfl]
                        refine wpAnyH_take (i := 0) (v := .int .i64 0) (by rw [HO.out]; simp only [List.getElem?_toArray, List.getElem?_cons_succ, List.getElem?_cons_zero]; rfl) (by rw [HO.out]; kernel_rfl) (by rw [HO.out]; kernel_rfl) (by rw [HO.out]; kernel_rfl) (by rw [HQ.out]; exact fun _ _ _ h => h) (Or.inl ⟨by rw [HO.out]; kernel_rfl, ?_⟩) HS8.out ?_
                        · intro w' hSw
                          go_simp
                        try simp only [Act.put, List.setIfInBounds_toArray, List.set_cons_zero, List.set_cons_succ]
                        refine wpAnyH_take (i := 1) (v := .bool false) (by rw [HO.out]; simp only [List.getElem?_toArray, List.getElem?_cons_succ, List.getElem?_cons_zero]; rfl) (by rw [HO.out]; kernel_rfl) (by rw [HO.out]; kernel_rfl) (by rw [HO.out]; kernel_rfl) (by rw [HQ.out]; exact fun _ _ _ h => h) (Or.inl ⟨by rw [HO.out]; kernel_rfl, ?_⟩) HS8.out ?_
                        · intro w' hSw
                          go_simp
                        try simp only [Act.put, List.setIfInBounds_toArray, List.set_cons_zero, List.set_cons_succ]
                        refine wpAnyH_take (i := 2) (v := .bool false) (by rw [HO.out]; simp only [List.getElem?_toArray, List.getElem?_cons_succ, List.getElem?_cons_zero]; rfl) (by rw [HO.out]; kernel_rfl) (by rw [HO.out]; kernel_rfl) (by rw [HO.out]; kernel_rfl) (by rw [HQ.out]; exact fun _ _ _ h => h) (Or.inl ⟨by rw [HO.out]; kernel_rfl, ?_⟩) HS8.out ?_
                        · intro w' hSw
                          go_simp
                        try simp only [Act.put, List.setIfInBounds_toArray, List.set_cons_zero, List.set_cons_succ]
                        refine wpAnyH_take (i := 3) (v := .bool true) (by rw [HO.out]; simp only [List.getElem?_toArray, List.getElem?_cons_succ, List.getElem?_cons_zero]; rfl) (by rw [HO.out]; kernel_rfl) (by rw [HO.out]; kernel_rfl) (by rw [HO.out]; kernel_rfl) (by rw [HQ.out]; exact fun _ _ _ h => h) (Or.inl ⟨by rw [HO.out]; kernel_rfl, ?_⟩) HS8.out ?_
                        · intro w' hSw
                          go_simp
                        try simp only [Act.put, List.setIfInBounds_toArray, List.set_cons_zero, List.set_cons_succ]
                        refine wpAnyH_take (i := 4) (v := .bool true) (by rw [HO.out]; simp only [List.getElem?_toArray, List.getElem?_cons_succ, List.getElem?_cons_zero]; rfl) (by rw [HO.out]; kernel_rfl) (by rw [HO.out]; kernel_rfl) (by rw [HO.out]; kernel_rfl) (by rw [HQ.out]; exact fun _ _ _ h => h) (Or.inl ⟨by rw [HO.out]; kernel_rfl, ?_⟩) HS8.out ?_
                        · intro w' hSw
                          go_simp
                        try simp only [Act.put, List.setIfInBounds_toArray, List.set_cons_zero, List.set_cons_succ]
                        refine wpAnyH_take (i := 5) (v := .slice (some ⟨g, 0, none⟩) 256 cg) (by rw [HO.out]; simp only [List.getElem?_toArray, List.getElem?_cons_succ, List.getElem?_cons_zero]; rfl) (by rw [HO.out]; kernel_rfl) (by rw [HO.out]; kernel_rfl) (by rw [HO.out]; kernel_rfl) (by rw [HQ.out]; exact fun _ _ _ h => h) (Or.inl ⟨by rw [HO.out]; kernel_rfl, ?_⟩) HS8.out ?_
                        · intro w' hSw
                          go_simp
                        try simp only [Act.put, List.setIfInBounds_toArray, List.set_cons_zero, List.set_cons_succ]
                        refine wpAnyH_take (i := 6) (v := .string tx) (by rw [HO.out]; simp only [List.getElem?_toArray, List.getElem?_cons_succ, List.getElem?_cons_zero]; rfl) (by rw [HO.out]; kernel_rfl) (by rw [HO.out]; kernel_rfl) (by rw [HO.out]; kernel_rfl) (by rw [HQ.out]; exact fun _ _ _ h => h) (Or.inl ⟨by rw [HO.out]; kernel_rfl, ?_⟩) HS8.out ?_
                        · intro w' hSw
                          obtain ⟨q1, q2⟩ := hSw
                          go_simp
                        try simp only [Act.put, List.setIfInBounds_toArray, List.set_cons_zero, List.set_cons_succ]
                        refine wpAnyH_take (i := 7) (v := (.slice (some ⟨gn, 0, none⟩) 9 cn)) (by rw [HO.out]; simp only [List.getElem?_toArray, List.getElem?_cons_succ, List.getElem?_cons_zero]; rfl) (by rw [HO.out]; kernel_rfl) (by rw [HO.out]; kernel_rfl) (by rw [HO.out]; kernel_rfl) (by rw [HQ.out]; exact fun _ _ _ h => h) (Or.inl ⟨by rw [HO.out]; kernel_rfl, ?_⟩) HS8.out ?_
                        · intro w' hSw
                          go_simp
                        try simp only [Act.put, List.setIfInBounds_toArray, List.set_cons_zero, List.set_cons_succ]
                        refine wpAnyH_take (i := 8) (v := .int .i64 k5) (by rw [HO.out]; simp only [List.getElem?_toArray, List.getElem?_cons_succ, List.getElem?_cons_zero]; rfl) (by rw [HO.out]; kernel_rfl) (by rw [HO.out]; kernel_rfl) (by rw [HO.out]; kernel_rfl) (by rw [HQ.out]; exact fun _ _ _ h => h) (Or.inl ⟨by rw [HO.out]; kernel_rfl, ?_⟩) HS8.out ?_
                        · intro w' hSw
                          go_simp
                        try simp only [Act.put, List.setIfInBounds_toArray, List.set_cons_zero, List.set_cons_succ]
                        refine wpAnyH_take (i := 9) (v := .pointer (some ⟨gn, k5, none⟩)) (by rw [HO.out]; simp only [List.getElem?_toArray, List.getElem?_cons_succ, List.getElem?_cons_zero]; rfl) (by rw [HO.out]; kernel_rfl) (by rw [HO.out]; kernel_rfl) (by rw [HO.out]; kernel_rfl) (by rw [HQ.out]; exact fun _ _ _ h => h) (Or.inl ⟨by rw [HO.out]; kernel_rfl, ?_⟩) HS8.out ?_
                        · intro w' hSw
                          go_simp
                          intro h9
                          exact absurd h9 (by omega)
                        try simp only [Act.put, List.setIfInBounds_toArray, List.set_cons_zero, List.set_cons_succ]
                        refine wpAnyH_take (i := 10) (v := .string tx) (by rw [HO.out]; simp only [List.getElem?_toArray, List.getElem?_cons_succ, List.getElem?_cons_zero]; rfl) (by rw [HO.out]; kernel_rfl) (by rw [HO.out]; kernel_rfl) (by rw [HO.out]; kernel_rfl) (by rw [HQ.out]; exact fun _ _ _ h => h) (Or.inl ⟨by rw [HO.out]; kernel_rfl, ?_⟩) HS8.out ?_
                        · intro w' hSw
                          obtain ⟨q1, q2⟩ := hSw
                          go_simp
                        try simp only [Act.put, List.setIfInBounds_toArray, List.set_cons_zero, List.set_cons_succ]
                        refine wpAnyH_take (i := 11) (v := .bool false) (by rw [HO.out]; simp only [List.getElem?_toArray, List.getElem?_cons_succ, List.getElem?_cons_zero]; rfl) (by rw [HO.out]; kernel_rfl) (by rw [HO.out]; kernel_rfl) (by rw [HO.out]; kernel_rfl) (by rw [HQ.out]; exact fun _ _ _ h => h) (Or.inl ⟨by rw [HO.out]; kernel_rfl, ?_⟩) HS8.out ?_
                        · intro w' hSw
                          go_simp
                        try simp only [Act.put, List.setIfInBounds_toArray, List.set_cons_zero, List.set_cons_succ]
                        refine wpAnyH_take (i := 12) (v := .bool false) (by rw [HO.out]; simp only [List.getElem?_toArray, List.getElem?_cons_succ, List.getElem?_cons_zero]; rfl) (by rw [HO.out]; kernel_rfl) (by rw [HO.out]; kernel_rfl) (by rw [HO.out]; kernel_rfl) (by rw [HQ.out]; exact fun _ _ _ h => h) (Or.inl ⟨by rw [HO.out]; kernel_rfl, ?_⟩) HS8.out ?_
                        · intro w' hSw
                          go_simp
                        try simp only [Act.put, List.setIfInBounds_toArray, List.set_cons_zero, List.set_cons_succ]
                        refine wpAnyH_take (i := 13) (v := .bool false) (by rw [HO.out]; simp only [List.getElem?_toArray, List.getElem?_cons_succ, List.getElem?_cons_zero]; rfl) (by rw [HO.out]; kernel_rfl) (by rw [HO.out]; kernel_rfl) (by rw [HO.out]; kernel_rfl) (by rw [HQ.out]; exact fun _ _ _ h => h) (Or.inl ⟨by rw [HO.out]; kernel_rfl, ?_⟩) HS8.out ?_
                        · intro w' hSw
                          go_simp
                        try simp only [Act.put, List.setIfInBounds_toArray, List.set_cons_zero, List.set_cons_succ]
                        refine wpAnyH_take (i := 14) (v := .bool false) (by rw [HO.out]; simp only [List.getElem?_toArray, List.getElem?_cons_succ, List.getElem?_cons_zero]; rfl) (by rw [HO.out]; kernel_rfl) (by rw [HO.out]; kernel_rfl) (by rw [HO.out]; kernel_rfl) (by rw [HQ.out]; exact fun _ _ _ h => h) (Or.inl ⟨by rw [HO.out]; kernel_rfl, ?_⟩) HS8.out ?_
                        · intro w' hSw
                          go_simp
                        try simp only [Act.put, List.setIfInBounds_toArray, List.set_cons_zero, List.set_cons_succ]
                        refine wpAnyH_take (i := 15) (v := .bool true) (by rw [HO.out]; simp only [List.getElem?_toArray, List.getElem?_cons_succ, List.getElem?_cons_zero]; rfl) (by rw [HO.out]; kernel_rfl) (by rw [HO.out]; kernel_rfl) (by rw [HO.out]; kernel_rfl) (by rw [HQ.out]; exact fun _ _ _ h => h) (Or.inl ⟨by rw [HO.out]; kernel_rfl, ?_⟩) HS8.out ?_
                        · intro w' hSw
                          go_simp
                        try simp only [Act.put, List.setIfInBounds_toArray, List.set_cons_zero, List.set_cons_succ]
                        refine wpAnyH_take (i := 16) (v := .bool false) (by rw [HO.out]; simp only [List.getElem?_toArray, List.getElem?_cons_succ, List.getElem?_cons_zero]; rfl) (by rw [HO.out]; kernel_rfl) (by rw [HO.out]; kernel_rfl) (by rw [HO.out]; kernel_rfl) (by rw [HQ.out]; exact fun _ _ _ h => h) (Or.inl ⟨by rw [HO.out]; kernel_rfl, ?_⟩) HS8.out ?_
                        · intro w' hSw
                          go_simp
                        try simp only [Act.put, List.setIfInBounds_toArray, List.set_cons_zero, List.set_cons_succ]
                        refine wpAnyH_take (i := 17) (v := .bool false) (by rw [HO.out]; simp only [List.getElem?_toArray, List.getElem?_cons_succ, List.getElem?_cons_zero]; rfl) (by rw [HO.out]; kernel_rfl) (by rw [HO.out]; kernel_rfl) (by rw [HO.out]; kernel_rfl) (by rw [HQ.out]; exact fun _ _ _ h => h) (Or.inl ⟨by rw [HO.out]; kernel_rfl, ?_⟩) HS8.out ?_
                        · intro w' hSw
                          go_simp
                        try simp only [Act.put, List.setIfInBounds_toArray, List.set_cons_zero, List.set_cons_succ]
                        refine wpAnyH_take (i := 18) (v := undef) (by rw [HO.out]; simp only [List.getElem?_toArray, List.getElem?_cons_succ, List.getElem?_cons_zero]; rfl) (by rw [HO.out]; kernel_rfl) (by rw [HO.out]; kernel_rfl) (by rw [HO.out]; kernel_rfl) (by rw [HQ.out]; exact fun _ _ _ h => h) (Or.inr ⟨by rw [HO.out]; kernel_rfl, rfl⟩) HS8.out ?_
                        try simp only [Act.put, List.setIfInBounds_toArray, List.set_cons_zero, List.set_cons_succ]
                        refine wpAnyH_take (i := 19) (v := undef) (by rw [HO.out]; simp only [List.getElem?_toArray, List.getElem?_cons_succ, List.getElem?_cons_zero]; rfl) (by rw [HO.out]; kernel_rfl) (by rw [HO.out]; kernel_rfl) (by rw [HO.out]; kernel_rfl) (by rw [HQ.out]; exact fun _ _ _ h => h) (Or.inr ⟨by rw [HO.out]; kernel_rfl, rfl⟩) HS8.out ?_
                        try simp only [Act.put, List.setIfInBounds_toArray, List.set_cons_zero, List.set_cons_succ]
                        refine wpAnyH_take (i := 20) (v := undef) (by rw [HO.out]; simp only [List.getElem?_toArray, List.getElem?_cons_succ, List.getElem?_cons_zero]; rfl) (by rw [HO.out]; kernel_rfl) (by rw [HO.out]; kernel_rfl) (by rw [HO.out]; kernel_rfl) (by rw [HQ.out]; exact fun _ _ _ h => h) (Or.inr ⟨by rw [HO.out]; kernel_rfl, rfl⟩) HS8.out ?_
                        try simp only [Act.put, List.setIfInBounds_toArray, List.set_cons_zero, List.set_cons_succ]
                        refine wpAnyH_take (i := 21) (v := undef) (by rw [HO.out]; simp only [List.getElem?_toArray, List.getElem?_cons_succ, List.getElem?_cons_zero]; rfl) (by rw [HO.out]; kernel_rfl) (by rw [HO.out]; kernel_rfl) (by rw [HO.out]; kernel_rfl) (by rw [HQ.out]; exact fun _ _ _ h => h) (Or.inr ⟨by rw [HO.out]; kernel_rfl, rfl⟩) HS8.out ?_
                        try simp only [Act.put, List.setIfInBounds_toArray, List.set_cons_zero, List.set_cons_succ]
                        refine wpAnyH_take (i := 22) (v := undef) (by rw [HO.out]; simp only [List.getElem?_toArray, List.getElem?_cons_succ, List.getElem?_cons_zero]; rfl) (by rw [HO.out]; kernel_rfl) (by rw [HO.out]; kernel_rfl) (by rw [HO.out]; kernel_rfl) (by rw [HQ.out]; exact fun _ _ _ h => h) (Or.inr ⟨by rw [HO.out]; kernel_rfl, rfl⟩) HS8.out ?_
                        try simp only [Act.put, List.setIfInBounds_toArray, List.set_cons_zero, List.set_cons_succ]
                        refine wpAnyH_take (i := 23) (v := undef) (by rw [HO.out]; simp only [List.getElem?_toArray, List.getElem?_cons_succ, List.getElem?_cons_zero]; rfl) (by rw [HO.out]; kernel_rfl) (by rw [HO.out]; kernel_rfl) (by rw [HO.out]; kernel_rfl) (by rw [HQ.out]; exact fun _ _ _ h => h) (Or.inr ⟨by rw [HO.out]; kernel_rfl, rfl⟩) HS8.out ?_
                        try simp only [Act.put, List.setIfInBounds_toArray, List.set_cons_zero, List.set_cons_succ]
                        refine wpAnyH_take (i := 24) (v := undef) (by rw [HO.out]; simp only [List.getElem?_toArray, List.getElem?_cons_succ, List.getElem?_cons_zero]; rfl) (by rw [HO.out]; kernel_rfl) (by rw [HO.out]; kernel_rfl) (by rw [HO.out]; kernel_rfl) (by rw [HQ.out]; exact fun _ _ _ h => h) (Or.inr ⟨by rw [HO.out]; kernel_rfl, rfl⟩) HS8.out ?_
                        try simp only [Act.put, List.setIfInBounds_toArray, List.set_cons_zero, List.set_cons_succ]
                        refine wpAnyH_take (i := 25) (v := .bool false) (by rw [HO.out]; simp only [List.getElem?_toArray, List.getElem?_cons_succ, List.getElem?_cons_zero]; rfl) (by rw [HO.out]; kernel_rfl) (by rw [HO.out]; kernel_rfl) (by rw [HO.out]; kernel_rfl) (by rw [HQ.out]; exact fun _ _ _ h => h) (Or.inl ⟨by rw [HO.out]; kernel_rfl, ?_⟩) HS8.out ?_
                        · intro w' hSw
                          go_simp
                        try simp only [Act.put, List.setIfInBounds_toArray, List.set_cons_zero, List.set_cons_succ]
                        refine wpAnyH_take (i := 26) (v := .bool false) (by rw [HO.out]; simp only [List.getElem?_toArray, List.getElem?_cons_succ, List.getElem?_cons_zero]; rfl) (by rw [HO.out]; kernel_rfl) (by rw [HO.out]; kernel_rfl) (by rw [HO.out]; kernel_rfl) (by rw [HQ.out]; exact fun _ _ _ h => h) (Or.inl ⟨by rw [HO.out]; kernel_rfl, ?_⟩) HS8.out ?_
                        · intro w' hSw
                          go_simp
                        try simp only [Act.put, List.setIfInBounds_toArray, List.set_cons_zero, List.set_cons_succ]
                        refine wpAnyH_done (by rw [HO.out]; kernel_rfl) ?_ _
                        rw [HQ.out]
                        refine NoPanic.normal ?_
                        have HG9 : Hid (Mine w w8.drew p nb mb (readS sf k5) ∧ OwnT w8.drew bA (.slice (some ⟨gs, 0, none⟩) 9 cs) (row 9) ∧ OwnT w8.drew bC (.slice (some ⟨gn, 0, none⟩) 9 cn) (rowC 9)) := ⟨HG8.out.1.below (Below.refl _ _).drew, HG8.out.2.1.off (Off.of_below (X := []) (Below.refl _ _).drew) (by simp), HG8.out.2.2.1.off (Off.of_below (X := []) (Below.refl _ _).drew) (by simp)⟩
                        go_wp2_with fail
                        go_roundw
                        case rel => exact ⟨k5 + 1, readS sf k5, by omega, by go_num, HG9.out.1, HRD.out.1, HRD.out.2, HG9.out.2.1, HG9.out.2.2⟩
                        case measure => simp [intOf]; omega
                      · have hdk5 : decide ((k5 : Int) < 9) = false := by simp; omega
                        have HBW : Hid (Below w.heap.size w wr) := HSG.out.1.2.2.2.2
                        clear HSG
                        go_wp2_with (first
                          | (go_at_call 8; refine (H8.out _ HBW.out).mono ?_; rintro e w9 ⟨rfl, hb9⟩; clear H8)
                          | fail)
                        go_ret
                        exact ⟨rfl, hb9⟩
                  | false =>
                    obtain ⟨s5, e5, hB5⟩ : ∃ s5, s5 = crashS se [] ∧ ∀ n, n < 9 → s5.B n = s1.B n := ⟨_, rfl, fun n hn => (crash_none HALL.out.1.1.1 n (by rw [HALL.out.2.1.room]; exact hn)).trans (by rw [HALL.out.2.2.2.1])⟩
                    have HB5 : Hid (Calm s5 ∧ ∀ n, n < 9 → s5.B n = s1.B n) := ⟨by rw [e5]; exact calm_crash HALL.out.2.1.room _, hB5⟩
                    have CC : Hid (∀ W, Below wr.heap.size wr W → Calls Try.prog 14 #[.pointer (some ⟨p, 0, none⟩), .slice none 0 0] W fun e w' => e = .returned (.tuple #[]) ∧ Hid (Mine w w' p nb mb s5 ∧ OwnT w' bA (.slice (some ⟨gs, 0, none⟩) 9 cs) (row 9) ∧ OwnT w' bC (.slice (some ⟨gn, 0, none⟩) 9 cn) (rowC 9))) := fun W hal => by
                      refine (mcrash _ _ _ (HALL.out.1.below hal) (FV.nil _ _)).mono ?_
                      rintro e w' ⟨rfl, h1, h2⟩
                      exact ⟨rfl, by rw [e5]; exact h1, (HALL.out.2.2.2.2.1.off (Off.of_below (X := []) hal) (by simp)).low h2 (fun x hx => by have := hlo.out; simp at hx; omega), (HALL.out.2.2.2.2.2.off (Off.of_below (X := []) hal) (by simp)).low h2 (fun x hx => by have := hlC.out; simp at hx; omega)⟩
                    clear HALL HCR e5 hB5
                    go_wp2_with (first
                      | (go_at_call 14; refine (CC.out _ ((Below.refl _ _).alloc (Nat.le_refl _) _)).mono ?_; rintro e w7 ⟨rfl, HG7⟩; clear CC)
                      | fail)
                    go_loopw [18] (fun iv wx => ∃ (k5 : Nat) (sf : DS), k5 ≤ 9 ∧ iv = .int .i64 k5 ∧ Hid (Mine w wx p nb mb sf ∧ Calm sf ∧ sf.B = s5.B ∧ OwnT wx bA (.slice (some ⟨gs, 0, none⟩) 9 cs) (row 9) ∧ OwnT wx bC (.slice (some ⟨gn, 0, none⟩) 9 cn) (rowC 9))) (fun iv _ => 9 - (intOf iv).toNat)
                    case atStart => exact ⟨0, s5, Nat.zero_le _, rfl, HG7.out.1, HB5.out.1, rfl, HG7.out.2.1, HG7.out.2.2⟩
                    case round =>
                      obtain ⟨k5, sf, hk5, rfl, HSG⟩ := hrel
                      clear HG7
                      by_cases hlt5 : k5 < 9
                      · have hdk5 : decide ((k5 : Int) < 9) = true := by simp; omega
                        have rd := HSG.out.2.1.read k5 hlt5
                        have HRD : Hid (Calm (readS sf k5) ∧ (readS sf k5).B = s5.B) := ⟨rd.2.1, by rw [rd.2.2.2.1]; exact HSG.out.2.2.1⟩
                        have CR : Hid (Calls Try.prog 15 #[.pointer (some ⟨p, 0, none⟩), .int .i64 k5] wr fun e w' => ∃ g cg, e = .returned (.tuple #[.slice (some ⟨g, 0, none⟩) 256 cg, .int .i64 0]) ∧ Hid (Mine w w' p nb mb (readS sf k5) ∧ OwnT w' bA (.slice (some ⟨gs, 0, none⟩) 9 cs) (row 9) ∧ OwnT w' bC (.slice (some ⟨gn, 0, none⟩) 9 cn) (rowC 9) ∧ (∀ W', Below w'.heap.size w' W' → (convert 32 9 (.slice (some ⟨g, 0, none⟩) 256 cg)).run Try.prog W' = .ok (.string (strOfNums (s1.B k5))) W' ∧ W'.cell? ⟨gs, k5, none⟩ = some (.string (strOfNums (s1.B k5)))))) := by
                          refine (mread_ok wr k5 (s1.B k5) HSG.out.1 rd.1 (by rw [rd.2.2.1, HSG.out.2.2.1, HB5.out.2 k5 hlt5]) (HISB.out k5 hlt5)).mono ?_
                          rintro e w' ⟨g, cg, rfl, h1, h2, h3, h4⟩
                          have h5s := HSG.out.2.2.2.1.low h4 (fun x hx => by have := hlo.out; simp at hx; omega)
                          have h5n := HSG.out.2.2.2.2.low h4 (fun x hx => by have := hlC.out; simp at hx; omega)
                          refine ⟨g, cg, rfl, h3, h5s, h5n, fun W' hW => ⟨conv_bv (h1.below hW) (HISB.out k5 hlt5), ?_⟩⟩
                          obtain ⟨g9, c9, e9, _, _, _, hc9⟩ := (h5s.off (Off.of_below (X := []) hW) (by simp)).view 9 (HROW.out.2.2.1 9) (by decide)
                          simp only [Value.slice.injEq, Option.some.injEq, Addr.mk.injEq] at e9
                          rw [e9.1.1, hc9 k5 hlt5, HROW.out.2.2.2 9 k5 hlt5]
                        clear rd HSG H8
                        generalize strOfNums (s1.B k5) = tx at *
                        go_wp2_with (first
                          | (go_at_call 15; refine (CR.out).mono ?_; rintro e w8 ⟨g, cg, rfl, HG8⟩; clear CR)
                          | fail)
                        refine wp_region_noPanic ?_
                        refine name_ops ?_
                        intro O QQ HO HQ
                        have HS8 : Hid ((fun W' => (convert 32 9 (.slice (some ⟨g, 0, none⟩) 256 cg)).run Try.prog W' = .ok (.string tx) W' ∧ W'.cell? ⟨gs, k5, none⟩ = some (.string tx)) w8.drew) := HG8.out.2.2.2 _ (Below.refl _ _).drew
                        refine wp_region_held_drew (S := fun W' => (convert 32 9 (.slice (some ⟨g, 0, none⟩) 256 cg)).run Try.prog W' = .ok (.string tx) W' ∧ W'.cell? ⟨gs, k5, none⟩ = some (.string tx)) (by kernel_rfl) HS8.out (fun hS => ?_)
                        clear hS
                        rw [show O.size = 27 by rw [HO.out]; rfl]
                        refine wpAnyH_take (i := 0) (v := .int .i64 0) (by rw [HO.out]; simp only [List.getElem?_toArray, List.getElem?_cons_succ, List.getElem?_cons_zero]; rfl) (by rw [HO.out]; kernel_rfl) (by rw [HO.out]; kernel_rfl) (by rw [HO.out]; kernel_rfl) (by rw [HQ.out]; exact fun _ _ _ h => h) (Or.inl ⟨by rw [HO.out]; kernel_rfl, ?_⟩) HS8.out ?_
                        · intro w' hSw
                          go_simp
                        try simp only [Act.put, List.setIfInBounds_toArray, List.set_cons_zero, List.set_cons_succ]
                        refine wpAnyH_take (i := 1) (v := .bool false) (by rw [HO.out]; simp only [List.getElem?_toArray, List.getElem?_cons_succ, List.getElem?_cons_zero]; rfl) (by rw [HO.out]; kernel_rfl) (by rw [HO.out]; kernel_rfl) (by rw [HO.out]; kernel_rfl) (by rw [HQ.out]; exact fun _ _ _ h => h) (Or.inl ⟨by rw [HO.out]; kernel_rfl, ?_⟩) HS8.out ?_
                        · intro w' hSw
                          go_simp
                        try simp only [Act.put, List.setIfInBounds_toArray, List.set_cons_zero, List.set_cons_succ]
                        refine wpAnyH_take (i := 2) (v := .bool false) (by rw [HO.out]; simp only [List.getElem?_toArray, List.getElem?_cons_succ, List.getElem?_cons_zero]; rfl) (by rw [HO.out]; kernel_rfl) (by rw [HO.out]; kernel_rfl) (by rw [HO.out]; kernel_rfl) (by rw [HQ.out]; exact fun _ _ _ h => h) (Or.inl ⟨by rw [HO.out]; kernel_rfl, ?_⟩) HS8.out ?_
                        · intro w' hSw
                          go_simp
                        try simp only [Act.put, List.setIfInBounds_toArray, List.set_cons_zero, List.set_cons_succ]
                        refine wpAnyH_take (i := 3) (v := .bool false) (by rw [HO.out]; simp only [List.getElem?_toArray, List.getElem?_cons_succ, List.getElem?_cons_zero]; rfl) (by rw [HO.out]; kernel_rfl) (by rw [HO.out]; kernel_rfl) (by rw [HO.out]; kernel_rfl) (by rw [HQ.out]; exact fun _ _ _ h => h) (Or.inl ⟨by rw [HO.out]; kernel_rfl, ?_⟩) HS8.out ?_
                        · intro w' hSw
                          go_simp
                        try simp only [Act.put, List.setIfInBounds_toArray, List.set_cons_zero, List.set_cons_succ]
                        refine wpAnyH_take (i := 4) (v := .bool false) (by rw [HO.out]; simp only [List.getElem?_toArray, List.getElem?_cons_succ, List.getElem?_cons_zero]; rfl) (by rw [HO.out]; kernel_rfl) (by rw [HO.out]; kernel_rfl) (by rw [HO.out]; kernel_rfl) (by rw [HQ.out]; exact fun _ _ _ h => h) (Or.inl ⟨by rw [HO.out]; kernel_rfl, ?_⟩) HS8.out ?_
                        · intro w' hSw
                          go_simp
                        try simp only [Act.put, List.setIfInBounds_toArray, List.set_cons_zero, List.set_cons_succ]
                        refine wpAnyH_take (i := 5) (v := undef) (by rw [HO.out]; simp only [List.getElem?_toArray, List.getElem?_cons_succ, List.getElem?_cons_zero]; rfl) (by rw [HO.out]; kernel_rfl) (by rw [HO.out]; kernel_rfl) (by rw [HO.out]; kernel_rfl) (by rw [HQ.out]; exact fun _ _ _ h => h) (Or.inr ⟨by rw [HO.out]; kernel_rfl, rfl⟩) HS8.out ?_
                        try simp only [Act.put, List.setIfInBounds_toArray, List.set_cons_zero, List.set_cons_succ]
                        refine wpAnyH_take (i := 6) (v := undef) (by rw [HO.out]; simp only [List.getElem?_toArray, List.getElem?_cons_succ, List.getElem?_cons_zero]; rfl) (by rw [HO.out]; kernel_rfl) (by rw [HO.out]; kernel_rfl) (by rw [HO.out]; kernel_rfl) (by rw [HQ.out]; exact fun _ _ _ h => h) (Or.inr ⟨by rw [HO.out]; kernel_rfl, rfl⟩) HS8.out ?_
                        try simp only [Act.put, List.setIfInBounds_toArray, List.set_cons_zero, List.set_cons_succ]
                        refine wpAnyH_take (i := 7) (v := undef) (by rw [HO.out]; simp only [List.getElem?_toArray, List.getElem?_cons_succ, List.getElem?_cons_zero]; rfl) (by rw [HO.out]; kernel_rfl) (by rw [HO.out]; kernel_rfl) (by rw [HO.out]; kernel_rfl) (by rw [HQ.out]; exact fun _ _ _ h => h) (Or.inr ⟨by rw [HO.out]; kernel_rfl, rfl⟩) HS8.out ?_
                        try simp only [Act.put, List.setIfInBounds_toArray, List.set_cons_zero, List.set_cons_succ]
                        refine wpAnyH_take (i := 8) (v := undef) (by rw [HO.out]; simp only [List.getElem?_toArray, List.getElem?_cons_succ, List.getElem?_cons_zero]; rfl) (by rw [HO.out]; kernel_rfl) (by rw [HO.out]; kernel_rfl) (by rw [HO.out]; kernel_rfl) (by rw [HQ.out]; exact fun _ _ _ h => h) (Or.inr ⟨by rw [HO.out]; kernel_rfl, rfl⟩) HS8.out ?_
                        try simp only [Act.put, List.setIfInBounds_toArray, List.set_cons_zero, List.set_cons_succ]
                        refine wpAnyH_take (i := 9) (v := undef) (by rw [HO.out]; simp only [List.getElem?_toArray, List.getElem?_cons_succ, List.getElem?_cons_zero]; rfl) (by rw [HO.out]; kernel_rfl) (by rw [HO.out]; kernel_rfl) (by rw [HO.out]; kernel_rfl) (by rw [HQ.out]; exact fun _ _ _ h => h) (Or.inr ⟨by rw [HO.out]; kernel_rfl, rfl⟩) HS8.out ?_
                        try simp only [Act.put, List.setIfInBounds_toArray, List.set_cons_zero, List.set_cons_succ]
                        refine wpAnyH_take (i := 10) (v := undef) (by rw [HO.out]; simp only [List.getElem?_toArray, List.getElem?_cons_succ, List.getElem?_cons_zero]; rfl) (by rw [HO.out]; kernel_rfl) (by rw [HO.out]; kernel_rfl) (by rw [HO.out]; kernel_rfl) (by rw [HQ.out]; exact fun _ _ _ h => h) (Or.inr ⟨by rw [HO.out]; kernel_rfl, rfl⟩) HS8.out ?_
                        try simp only [Act.put, List.setIfInBounds_toArray, List.set_cons_zero, List.set_cons_succ]
                        refine wpAnyH_take (i := 11) (v := undef) (by rw [HO.out]; simp only [List.getElem?_toArray, List.getElem?_cons_succ, List.getElem?_cons_zero]; rfl) (by rw [HO.out]; kernel_rfl) (by rw [HO.out]; kernel_rfl) (by rw [HO.out]; kernel_rfl) (by rw [HQ.out]; exact fun _ _ _ h => h) (Or.inr ⟨by rw [HO.out]; kernel_rfl, rfl⟩) HS8.out ?_
                        try simp only [Act.put, List.setIfInBounds_toArray, List.set_cons_zero, List.set_cons_succ]
                        refine wpAnyH_take (i := 12) (v := .bool false) (by rw [HO.out]; simp only [List.getElem?_toArray, List.getElem?_cons_succ, List.getElem?_cons_zero]; rfl) (by rw [HO.out]; kernel_rfl) (by rw [HO.out]; kernel_rfl) (by rw [HO.out]; kernel_rfl) (by rw [HQ.out]; exact fun _ _ _ h => h) (Or.inl ⟨by rw [HO.out]; kernel_rfl, ?_⟩) HS8.out ?_
                        · intro w' hSw
                          go_simp
                        try simp only [Act.put, List.setIfInBounds_toArray, List.set_cons_zero, List.set_cons_succ]
                        refine wpAnyH_take (i := 13) (v := .bool false) (by rw [HO.out]; simp only [List.getElem?_toArray, List.getElem?_cons_succ, List.getElem?_cons_zero]; rfl) (by rw [HO.out]; kernel_rfl) (by rw [HO.out]; kernel_rfl) (by rw [HO.out]; kernel_rfl) (by rw [HQ.out]; exact fun _ _ _ h => h) (Or.inl ⟨by rw [HO.out]; kernel_rfl, ?_⟩) HS8.out ?_
                        · intro w' hSw
                          go_simp
                        try simp only [Act.put, List.setIfInBounds_toArray, List.set_cons_zero, List.set_cons_succ]
                        refine wpAnyH_take (i := 14) (v := .bool false) (by rw [HO.out]; simp only [List.getElem?_toArray, List.getElem?_cons_succ, List.getElem?_cons_zero]; rfl) (by rw [HO.out]; kernel_rfl) (by rw [HO.out]; kernel_rfl) (by rw [HO.out]; kernel_rfl) (by rw [HQ.out]; exact fun _ _ _ h => h) (Or.inl ⟨by rw [HO.out]; kernel_rfl, ?_⟩) HS8.out ?_
                        · intro w' hSw
                          go_simp
                        try simp only [Act.put, List.setIfInBounds_toArray, List.set_cons_zero, List.set_cons_succ]
                        refine wpAnyH_take (i := 15) (v := .bool false) (by rw [HO.out]; simp only [List.getElem?_toArray, List.getElem?_cons_succ, List.getElem?_cons_zero]; rfl) (by rw [HO.out]; kernel_rfl) (by rw [HO.out]; kernel_rfl) (by rw [HO.out]; kernel_rfl) (by rw [HQ.out]; exact fun _ _ _ h => h) (Or.inl ⟨by rw [HO.out]; kernel_rfl, ?_⟩) HS8.out ?_
                        · intro w' hSw
                          go_simp
                        try simp only [Act.put, List.setIfInBounds_toArray, List.set_cons_zero, List.set_cons_succ]
                        refine wpAnyH_take (i := 16) (v := .bool true) (by rw [HO.out]; simp only [List.getElem?_toArray, List.getElem?_cons_succ, List.getElem?_cons_zero]; rfl) (by rw [HO.out]; kernel_rfl) (by rw [HO.out]; kernel_rfl) (by rw [HO.out]; kernel_rfl) (by rw [HQ.out]; exact fun _ _ _ h => h) (Or.inl ⟨by rw [HO.out]; kernel_rfl, ?_⟩) HS8.out ?_
                        · intro w' hSw
                          go_simp
                        try simp only [Act.put, List.setIfInBounds_toArray, List.set_cons_zero, List.set_cons_succ]
                        refine wpAnyH_take (i := 17) (v := .bool true) (by rw [HO.out]; simp only [List.getElem?_toArray, List.getElem?_cons_succ, List.getElem?_cons_zero]; rfl) (by rw [HO.out]; kernel_rfl) (by rw [HO.out]; kernel_rfl) (by rw [HO.out]; kernel_rfl) (by rw [HQ.out]; exact fun _ _ _ h => h) (Or.inl ⟨by rw [HO.out]; kernel_rfl, ?_⟩) HS8.out ?_
                        · intro w' hSw
                          go_simp
                        try simp only [Act.put, List.setIfInBounds_toArray, List.set_cons_zero, List.set_cons_succ]
                        refine wpAnyH_take (i := 18) (v := .slice (some ⟨g, 0, none⟩) 256 cg) (by rw [HO.out]; simp only [List.getElem?_toArray, List.getElem?_cons_succ, List.getElem?_cons_zero]; rfl) (by rw [HO.out]; kernel_rfl) (by rw [HO.out]; kernel_rfl) (by rw [HO.out]; kernel_rfl) (by rw [HQ.out]; exact fun _ _ _ h => h) (Or.inl ⟨by rw [HO.out]; kernel_rfl, ?_⟩) HS8.out ?_
                        · intro w' hSw
                          go_simp
                        try simp only [Act.put, List.setIfInBounds_toArray, List.set_cons_zero, List.set_cons_succ]
                        refine wpAnyH_take (i := 19) (v := .string tx) (by rw [HO.out]; simp only [List.getElem?_toArray, List.getElem?_cons_succ, List.getElem?_cons_zero]; rfl) (by rw [HO.out]; kernel_rfl) (by rw [HO.out]; kernel_rfl) (by rw [HO.out]; kernel_rfl) (by rw [HQ.out]; exact fun _ _ _ h => h) (Or.inl ⟨by rw [HO.out]; kernel_rfl, ?_⟩) HS8.out ?_
                        · intro w' hSw
                          obtain ⟨q1, q2⟩ := hSw
                          go_simp
                        try simp only [Act.put, List.setIfInBounds_toArray, List.set_cons_zero, List.set_cons_succ]
                        refine wpAnyH_take (i := 20) (v := (.slice (some ⟨gs, 0, none⟩) 9 cs)) (by rw [HO.out]; simp only [List.getElem?_toArray, List.getElem?_cons_succ, List.getElem?_cons_zero]; rfl) (by rw [HO.out]; kernel_rfl) (by rw [HO.out]; kernel_rfl) (by rw [HO.out]; kernel_rfl) (by rw [HQ.out]; exact fun _ _ _ h => h) (Or.inl ⟨by rw [HO.out]; kernel_rfl, ?_⟩) HS8.out ?_
                        · intro w' hSw
                          go_simp
                        try simp only [Act.put, List.setIfInBounds_toArray, List.set_cons_zero, List.set_cons_succ]
                        refine wpAnyH_take (i := 21) (v := .int .i64 k5) (by rw [HO.out]; simp only [List.getElem?_toArray, List.getElem?_cons_succ, List.getElem?_cons_zero]; rfl) (by rw [HO.out]; kernel_rfl) (by rw [HO.out]; kernel_rfl) (by rw [HO.out]; kernel_rfl) (by rw [HQ.out]; exact fun _ _ _ h => h) (Or.inl ⟨by rw [HO.out]; kernel_rfl, ?_⟩) HS8.out ?_
                        · intro w' hSw
                          go_simp
                        try simp only [Act.put, List.setIfInBounds_toArray, List.set_cons_zero, List.set_cons_succ]
                        refine wpAnyH_take (i := 22) (v := .pointer (some ⟨gs, k5, none⟩)) (by rw [HO.out]; simp only [List.getElem?_toArray, List.getElem?_cons_succ, List.getElem?_cons_zero]; rfl) (by rw [HO.out]; kernel_rfl) (by rw [HO.out]; kernel_rfl) (by rw [HO.out]; kernel_rfl) (by rw [HQ.out]; exact fun _ _ _ h => h) (Or.inl ⟨by rw [HO.out]; kernel_rfl, ?_⟩) HS8.out ?_
                        · intro w' hSw
                          go_simp
                          intro h9
                          exact absurd h9 (by omega)
                        try simp only [Act.put, List.setIfInBounds_toArray, List.set_cons_zero, List.set_cons_succ]
                        refine wpAnyH_take (i := 23) (v := .string tx) (by rw [HO.out]; simp only [List.getElem?_toArray, List.getElem?_cons_succ, List.getElem?_cons_zero]; rfl) (by rw [HO.out]; kernel_rfl) (by rw [HO.out]; kernel_rfl) (by rw [HO.out]; kernel_rfl) (by rw [HQ.out]; exact fun _ _ _ h => h) (Or.inl ⟨by rw [HO.out]; kernel_rfl, ?_⟩) HS8.out ?_
                        · intro w' hSw
                          obtain ⟨q1, q2⟩ := hSw
                          go_simp
                        try simp only [Act.put, List.setIfInBounds_toArray, List.set_cons_zero, List.set_cons_succ]
                        refine wpAnyH_take (i := 24) (v := .bool false) (by rw [HO.out]; simp only [List.getElem?_toArray, List.getElem?_cons_succ, List.getElem?_cons_zero]; rfl) (by rw [HO.out]; kernel_rfl) (by rw [HO.out]; kernel_rfl) (by rw [HO.out]; kernel_rfl) (by rw [HQ.out]; exact fun _ _ _ h => h) (Or.inl ⟨by rw [HO.out]; kernel_rfl, ?_⟩) HS8.out ?_
                        · intro w' hSw
                          go_simp
                        try simp only [Act.put, List.setIfInBounds_toArray, List.set_cons_zero, List.set_cons_succ]
                        refine wpAnyH_take (i := 25) (v := .bool false) (by rw [HO.out]; simp only [List.getElem?_toArray, List.getElem?_cons_succ, List.getElem?_cons_zero]; rfl) (by rw [HO.out]; kernel_rfl) (by rw [HO.out]; kernel_rfl) (by rw [HO.out]; kernel_rfl) (by rw [HQ.out]; exact fun _ _ _ h => h) (Or.inl ⟨by rw [HO.out]; kernel_rfl, ?_⟩) HS8.out ?_
                        · intro w' hSw
                          go_simp
                        try simp only [Act.put, List.setIfInBounds_toArray, List.set_cons_zero, List.set_cons_succ]
                        refine wpAnyH_take (i := 26) (v := .bool false) (by rw [HO.out]; simp only [List.getElem?_toArray, List.getElem?_cons_succ, List.getElem?_cons_zero]; rfl) (by rw [HO.out]; kernel_rfl) (by rw [HO.out]; kernel_rfl) (by rw [HO.out]; kernel_rfl) (by rw [HQ.out]; exact fun _ _ _ h => h) (Or.inl ⟨by rw [HO.out]; kernel_rfl, ?_⟩) HS8.out ?_
                        · intro w' hSw
                          go_simp
                        try simp only [Act.put, List.setIfInBounds_toArray, List.set_cons_zero, List.set_cons_succ]
                        refine wpAnyH_done (by rw [HO.out]; kernel_rfl) ?_ _
                        rw [HQ.out]
                        refine NoPanic.normal ?_
                        have HG9 : Hid (Mine w w8.drew p nb mb (readS sf k5) ∧ OwnT w8.drew bA (.slice (some ⟨gs, 0, none⟩) 9 cs) (row 9) ∧ OwnT w8.drew bC (.slice (some ⟨gn, 0, none⟩) 9 cn) (rowC 9)) := ⟨HG8.out.1.below (Below.refl _ _).drew, HG8.out.2.1.off (Off.of_below (X := []) (Below.refl _ _).drew) (by simp), HG8.out.2.2.1.off (Off.of_below (X := []) (Below.refl _ _).drew) (by simp)⟩
                        go_wp2_with fail
                        go_roundw
                        case rel => exact ⟨k5 + 1, readS sf k5, by omega, by go_num, HG9.out.1, HRD.out.1, HRD.out.2, HG9.out.2.1, HG9.out.2.2⟩
                        case measure => simp [intOf]; omega
                      · have hdk5 : decide ((k5 : Int) < 9) = false := by simp; omega
                        have HBW : Hid (Below w.heap.size w wr) := HSG.out.1.2.2.2.2
                        clear HSG
                        go_wp2_with (first
                          | (go_at_call 8; refine (H8.out _ HBW.out).mono ?_; rintro e w9 ⟨rfl, hb9⟩; clear H8)
                          | fail)
                        go_ret
                        exact ⟨rfl, hb9⟩
theorem walk (al : Option Addr) (len cap : Nat) (xs : List ActD) (keeps : Bool) (w : World) (h0 : Acts w al len cap xs) :
    Calls Try.prog 6 #[.slice al len cap, .bool keeps] w fun e w' => e = .returned (.bool true) ∧ Below w.heap.size w w' := by
  by_cases h : 40 < len
  · exact walk_long al len cap keeps w h
  · exact walk_some al len cap xs keeps w h0 (by omega)
set_option maxRecDepth 100000 in
theorem lifted (os : Os) (started : os.Started) (H : Type) (enc : TypeId × Value → H) :
    ReturnsInHanded {} Try.checked os 6 .any (Rows.diskLostSpec.pre6 enc Try.prog Try.f6 Rows.diskLostRow.domain false) (Rows.diskLostSpec.post enc Try.prog Try.f6 false true false false) := by
  refine returnsInHanded_of_change (C := Try.checked) own started (by kernel_rfl) Try.func6
    (ChangeSpec.witness6 (enc := enc) (C := Try.checked) false ⟨#[], #[.slice none 0 0, .bool false], []⟩ 8 (by kernel_rfl) (by kernel_rfl) (by kernel_rfl) (by kernel_rfl)) ?_
  intro W base args ds gs before hval0 hW hcnd _
  have hval : ∀ (j : Nat) t v, Try.f6.params[j]? = some t → args[j]? = some v → Value.okWide Try.prog W .any base t v := hval0
  have hW' := hW
  obtain ⟨p, q, hA0, hV, rfl, hfz, hnd⟩ := hW
  have hA : DataW.TrodAll enc Try.prog W 0 (fun _ => true) true Try.f6.params.toList args.toList ds p := hA0
  rw [Try.params6] at hA hval
  obtain ⟨v0, vs0, d0, ds0, p0, q0, hargs, rfl, rfl, h0, r0⟩ := trodAll_cons hA
  obtain ⟨v1, vs1, d1, ds1, p1, q1, rfl, rfl, rfl, h1, r1⟩ := trodAll_cons r0
  obtain ⟨rfl, rfl, rfl⟩ := trodAll_nil r1
  obtain rfl : args = #[v0, v1] := by cases args; simp_all
  obtain ⟨rfl, rfl⟩ := trodVars_none hV
  obtain ⟨a0, len0, cap0, rfl⟩ := okWide_slice Try.underlying22 (hval 0 22 v0 rfl rfl)
  have k0 := h0
  have lt0 : ∀ x ∈ p0, x.block < W.heap.size := by obtain ⟨m, hm⟩ := k0; exact DataW.trod_lt m _ _ _ hm
  obtain ⟨x0, w0⟩ : ∃ xs, Acts W a0 len0 cap0 xs := by
    obtain ⟨fuel, hf⟩ := h0
    exact open_acts hf
  obtain ⟨a1, rfl, rfl, rfl⟩ := open_bool Try.underlying4 (hval 1 4 v1 rfl rfl) h1
  clear hA0 hval0
  refine (walk a0 len0 cap0 x0 a1 W w0).mono fun e W' ⟨he, bel⟩ => ?_
  subst he
  exact ⟨_, rfl, _, _, _, [], _, [], hW', trodAll_mk1 (shut_bool Try.underlying4 _), (trodAll_cons_mk (Below.trod laidOut (by kernel_rfl) (of_decide_eq_true (by kernel_rfl)) k0 bel lt0) (trodAll_cons_mk (shut_bool Try.underlying4 _) trodAll_mk0)), rfl, bel.frame _, fun h => by cases h⟩

theorem over : Rows.diskLostRow.holds Try.pinned (OpenSpec.ofChange Rows.diskLostSpec) :=
  OpenClaim.holds_of_wide 6 Try.f6 rfl rfl rfl rfl rfl rfl rfl ⟨rfl, rfl, rfl, rfl, rfl⟩ rfl rfl rfl rfl rfl (by kernel_rfl) Try.func6 (by kernel_rfl)
    (of_decide_eq_true (by kernel_rfl)) (by unfold Func.isWrapper; first | (rw [if_pos (by decide +kernel)]; kernel_rfl) | (rw [if_neg (by decide +kernel)]; exact ⟨rfl, rfl⟩))
    (fun os started H enc _ => lifted os started H enc)
end Go.Proofs.Ytmapjikbplindaa.diskLost

namespace Go.Proofs.Ytmapjikbplindaa
theorem diskLost_holds : Rows.DiskLostSaid := diskLost.over
#print axioms diskLost_holds
end Go.Proofs.Ytmapjikbplindaa
