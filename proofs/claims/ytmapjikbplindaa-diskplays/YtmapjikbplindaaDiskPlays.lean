/- For any number of blocks and any acts, each act answers as the document says, and leaves what the document says. -/
import Derived.Test.YtmapjikbplindaaRows
import Derived.Test.YtmapjikbplindaaSt
import Derived.WalkKit
import Derived.ProofKit
import Derived.OpenShut
import Derived.ShutString
import Derived.ChangeOld
import Derived.Below
import Derived.Test.YtmapjikbplindaaSame
import Derived.Deep.RegionHeld3
import Derived.Deep.DeepCutAuto
import Derived.StillTailTactics
namespace Go.Proofs.Ytmapjikbplindaa.diskPlays
open Go.ChangeShapes Go.WideShapes Go.ChangeAt Go.RowKit Go.Maps
open Go.ChangeMaps (open_string shut_string)
set_option linter.unusedVariables false
set_option linter.unusedSimpArgs false
set_option maxRecDepth 20000

theorem own : ownKnob Try.prog.godebug = none := by kernel_rfl
theorem laidOut : laidOutB Try.prog = true := by kernel_rfl
set_option maxHeartbeats 800000 in
theorem walk_long (blocks : Int) (al : Option Addr) (len cap : Nat) (w : World) (h : 60 < len) :
    Calls Try.prog 3 #[.int .i64 blocks, .slice al len cap] w fun e w' => e = .returned (.bool true) ∧ Below w.heap.size w w' := by
  have HA := awake_any
  have hd : decide ((60 : Int) < (len : Int)) = true := by simp; omega
  go_enter Try.func3, Try.ntmps3
  go_wp2_with (first | (go_at_call 8; refine (HA _).mono ?_; rintro e w1 ⟨rfl, hb⟩; clear HA) | fail)
  go_ret
  exact ⟨rfl, hb⟩
set_option maxHeartbeats 6400000 in
theorem walk_some (blocks : Int) (al : Option Addr) (len cap : Nat) (xs : List ActD) (w : World) (hacts : Acts w al len cap xs) (h60 : len ≤ 60) :
    Calls Try.prog 3 #[.int .i64 blocks, .slice al len cap] w fun e w' => e = .returned (.bool true) ∧ Below w.heap.size w w' := by
  have H8 : Hid (∀ W, Below w.heap.size w W → Calls Try.prog 8 #[] W fun e w' => e = .returned (.bool true) ∧ Below w.heap.size w w') := fun W hW => by
    refine (awake_any W).mono ?_
    rintro e w' ⟨rfl, hbb⟩
    exact ⟨rfl, hW.trans (hbb.mono hW.size)⟩
  have H9 : Hid (∀ W, Below w.heap.size w W → Calls Try.prog 9 #[.int .i64 blocks] W fun e w' => ∃ p nb mb, e = .returned (.pointer (some ⟨p, 0, none⟩)) ∧ Mine w w' p nb mb (newS blocks)) := fun W hW => by
    refine (new_any blocks W).mono ?_
    rintro e w' ⟨p, nb, mb, rfl, hd, h1, h2, h3, hb⟩
    have := hW.size
    exact ⟨p, nb, mb, rfl, hd, by omega, by omega, by omega, hW.trans (hb.mono hW.size)⟩
  have H10 : Hid (∀ W p nb mb, Mine w W p nb mb (newS blocks) → Calls Try.prog 10 #[.int .i64 blocks] W fun e w' => ∃ a n cap done, e = .returned (.agg (rcells (newS blocks) (.slice a n cap) done)) ∧ Hid (St w (w'.alloc (.cells (rcells (newS blocks) (.slice a n cap) done) 28)) p nb mb w'.heap.size (newS blocks) a n cap done)) := fun W p nb mb hm => by
    refine (rnew_any blocks [p, nb, mb] W).mono ?_
    rintro e w' ⟨v, rfl, hr, hb⟩
    obtain ⟨a, n, cap, done, rfl⟩ := hr.open
    refine ⟨a, n, cap, done, rfl, ?_⟩
    have hm' := hm.below hb
    have hal : Below w'.heap.size w' (w'.alloc (.cells (rcells (newS blocks) (.slice a n cap) done) 28)) := (Below.refl _ _).alloc (Nat.le_refl _) _
    exact ⟨hm'.below hal, hr.below hal, heap_alloc_last _ _, fun hx => by have := hm'.lt _ hx; omega, hm'.2.2.2.2.size⟩
  have HDO : Hid (∀ W p nb mb rb s a n cap done (x : ActD) fa fl fc, St w W p nb mb rb s a n cap done → x.Fits → x.fs.length = fl → fl ≤ fc → fc ≤ 9223372036854775807 → BV w fa x.fs → Calls Try.prog 11 #[.pointer (some ⟨p, 0, none⟩), .agg (rcells s (.slice a n cap) done), .agg #[.int .u8 x.kd, .int .i64 x.n, .int .u8 x.c, .int .u8 x.cut, .bool x.d, .slice fa fl fc]] W fun e w' => ∃ a2 n2 cap2 done2, e = .returned (.tuple #[.agg (rcells (actsD s x) (.slice a2 n2 cap2) done2), .bool true]) ∧
      RC w' rb (.int .i64 s.room) (.slice a n cap) (.bool s.down) (.int .i64 s.ops) (.int .i64 s.reads) (.int .i64 s.fails) (.bool done) ∧
      Hid (St w (((((((w'.setCell ⟨rb, 0, none⟩ (.int .i64 (actsD s x).room)).setCell ⟨rb, 1, none⟩ (.slice a2 n2 cap2)).setCell ⟨rb, 2, none⟩ (.bool (actsD s x).down)).setCell ⟨rb, 3, none⟩ (.int .i64 (actsD s x).ops)).setCell ⟨rb, 4, none⟩ (.int .i64 (actsD s x).reads)).setCell ⟨rb, 5, none⟩ (.int .i64 (actsD s x).fails)).setCell ⟨rb, 6, none⟩ (.bool done2)) p nb mb rb (actsD s x) a2 n2 cap2 done2)) := fun W p nb mb rb s a n cap done x fa fl fc hs hf h1 h2 h3 hb => st_do W hs x fa fl fc hf (fate_any hs.1 h1 h2 h3 hb)
  have HCR : Hid (∀ W p nb mb s v fs, Mine w W p nb mb s → FV W [p, nb, mb] v fs → Calls Try.prog 14 #[.pointer (some ⟨p, 0, none⟩), v] W fun e w' => e = .returned (.tuple #[]) ∧ Mine w w' p nb mb (crashS s fs)) := fun W p nb mb s v fs hm hf => by
    refine (mcrash v fs W hm hf).mono ?_
    rintro e w' ⟨rfl, h, _⟩
    exact ⟨rfl, h⟩
  have HFU : Hid (∀ W p nb mb s (c : Int), 0 ≤ c → c ≤ 255 → Mine w W p nb mb s → Calls Try.prog 24 #[.int .u8 c] W fun e w' => ∃ g, e = .returned (.slice (some ⟨g, 0, none⟩) 256 256) ∧ Hid (BV w' (some ⟨g, 0, none⟩) (List.replicate 256 c) ∧ g ∉ [p, nb, mb] ∧ Mine w w' p nb mb s) ∧ Below W.heap.size W w') := fun W p nb mb s c h0 h1 hm => by
    refine (mfull c W hm h0 h1).mono ?_
    rintro e w' ⟨g, rfl, h1, h2, h3, h4⟩
    exact ⟨g, rfl, ⟨h1, h2, h3⟩, h4⟩
  have HAT : Hid (∀ i, i < len → ∃ b off, al = some ⟨b, off, none⟩ ∧ b < w.heap.size ∧ ActAt w b (off + i * 6) (xs.getD i default)) := by
    intro i hi
    rcases hacts.2.2.2.2 with e | ⟨b, off, e1, e2, e3⟩
    · have := hacts.1
      rw [e] at this
      simp at this
      omega
    · exact ⟨b, off, e1, e2, e3 i hi⟩
  have H12 : Hid (∀ W p nb mb rb s a n cap done, St w W p nb mb rb s a n cap done → Calls Try.prog 12 #[.pointer (some ⟨p, 0, none⟩), .agg #[.int .i64 s.room, .slice a n cap, .bool s.down, .int .i64 s.ops, .int .i64 s.reads, .int .i64 s.fails, .bool done]] W fun e w' => e = .returned (.bool true) ∧ Below W.heap.size W w') := fun W p nb mb rb s a n cap done hs => same_any p nb mb s [p, nb, mb] _ W hs.1.1 hs.2.1
  have hd60 : decide ((60 : Int) < (len : Int)) = false := by simp; omega
  clear hacts
  go_enter Try.func3, Try.ntmps3
  go_wp2_with (first
    | (go_at_call 9; refine (H9.out _ (Below.refl _ _)).mono ?_; rintro e w1 ⟨p, nb, mb, rfl, hm1⟩; have HM1 : Hid (Mine w w1 p nb mb (newS blocks)) := hm1; clear hm1)
    | (go_at_call 10; refine (H10.out _ p nb mb HM1.out).mono ?_; rintro e w2 ⟨ra, rn, rcap, rdone, rfl, HS⟩; unfold rcells)
    | fail)
  obtain ⟨HS0, hrb⟩ : Hid (St w (w2.alloc (.cells (rcells (newS blocks) (.slice ra rn rcap) rdone) 28)) p nb mb w2.heap.size (newS blocks) ra rn rcap rdone) ∧ True := ⟨HS, trivial⟩
  generalize hrbe : w2.heap.size = rb at *
  go_loopw [7, 8] (fun okv iv wr => ∃ (k : Nat) (s : DS) (a : Option Addr) (n cap : Nat) (done : Bool), k ≤ len ∧ iv = .int .i64 k ∧ okv = .bool true ∧ Hid (St w wr p nb mb rb s a n cap done)) (fun _ iv _ => len - (intOf iv).toNat)
  case atStart => exact ⟨0, newS blocks, ra, rn, rcap, rdone, Nat.zero_le _, rfl, rfl, HS0.out⟩
  case round =>
    obtain ⟨k, s, ra, rn, rcap, rdone, hk, rfl, rfl, HS⟩ := hrel
    clear HS0 H9 H10
    by_cases hlt : k < len
    · obtain ⟨b, off, rfl, hbs, hfit, fa', fl', fc', q0, q1, q2, q3, q4, q5, q6, q7, q8, q9⟩ := HAT.out k hlt
      have HBW : Hid (Below w.heap.size w wr) := HS.out.1.2.2.2.2
      have c0 := (HBW.out.cell (p := ⟨b, off + k * 6, none⟩) hbs).trans q0
      have c1 := (HBW.out.cell (p := ⟨b, off + k * 6 + 1, none⟩) hbs).trans q1
      have c2 := (HBW.out.cell (p := ⟨b, off + k * 6 + 2, none⟩) hbs).trans q2
      have c3 := (HBW.out.cell (p := ⟨b, off + k * 6 + 3, none⟩) hbs).trans q3
      have c4 := (HBW.out.cell (p := ⟨b, off + k * 6 + 4, none⟩) hbs).trans q4
      have c5 := (HBW.out.cell (p := ⟨b, off + k * 6 + 5, none⟩) hbs).trans q5
      obtain ⟨r0, r1, r2, r3, r4, r5, r6, _⟩ := RC.of HS.out.2.2.1
      generalize hxk : xs.getD k default = x at *
      have HX : Hid (x.Fits ∧ x.fs.length = fl' ∧ fl' ≤ fc' ∧ fc' ≤ 9223372036854775807 ∧ BV w fa' x.fs) := ⟨hfit, q6, q7, q8, q9⟩
      have CD := fun W hs => HDO.out W p nb mb rb s ra rn rcap rdone x fa' fl' fc' hs HX.out.1 HX.out.2.1 HX.out.2.2.1 HX.out.2.2.2.1 HX.out.2.2.2.2
      have HCD : Hid (∀ W, St w W p nb mb rb s ra rn rcap rdone → _) := CD
      unfold rcells at HCD
      have hdk : decide ((k : Int) < (len : Int)) = true := by simp; omega
      clear q0 q1 q2 q3 q4 q5 q6 q7 q8 q9 hfit HDO HAT hxk CD HCR HFU
      go_wp2_with fail
      refine wp_region_noPanic ?_
      refine name_ops ?_
      intro O QQ HO HQ
      refine wp_region_held_drew (S := fun _ => True) (by kernel_rfl) trivial (fun hS => ?_)
      rw [show O.size = 12 by rw [HO.out]; rfl]
      refine wpAnyH_take (i := 0) (v := .pointer (some ⟨p, 0, none⟩)) (by rw [HO.out]; simp only [List.getElem?_toArray, List.getElem?_cons_succ, List.getElem?_cons_zero]; rfl) (by rw [HO.out]; kernel_rfl) (by rw [HO.out]; kernel_rfl) (by rw [HO.out]; kernel_rfl) (by rw [HQ.out]; exact fun _ _ _ h => h) (Or.inl ⟨by rfl, ?_⟩) trivial ?_
      · intro w' hSw
        go_simp
      try simp only [Act.put, List.setIfInBounds_toArray, List.set_cons_zero, List.set_cons_succ]
      refine wpAnyH_take (i := 2) (v := .slice (some ⟨b, off, none⟩) len cap) (by rw [HO.out]; simp only [List.getElem?_toArray, List.getElem?_cons_succ, List.getElem?_cons_zero]; rfl) (by rw [HO.out]; kernel_rfl) (by rw [HO.out]; kernel_rfl) (by rw [HO.out]; kernel_rfl) (by rw [HQ.out]; exact fun _ _ _ h => h) (Or.inl ⟨by rfl, ?_⟩) trivial ?_
      · intro w' hSw
        go_simp
      try simp only [Act.put, List.setIfInBounds_toArray, List.set_cons_zero, List.set_cons_succ]
      refine wpAnyH_take (i := 3) (v := .int .i64 k) (by rw [HO.out]; simp only [List.getElem?_toArray, List.getElem?_cons_succ, List.getElem?_cons_zero]; rfl) (by rw [HO.out]; kernel_rfl) (by rw [HO.out]; kernel_rfl) (by rw [HO.out]; kernel_rfl) (by rw [HQ.out]; exact fun _ _ _ h => h) (Or.inl ⟨by rfl, ?_⟩) trivial ?_
      · intro w' hSw
        go_simp
      try simp only [Act.put, List.setIfInBounds_toArray, List.set_cons_zero, List.set_cons_succ]
      refine wpAnyH_take (i := 4) (v := .pointer (some ⟨b, off + k * 6, none⟩)) (by rw [HO.out]; simp only [List.getElem?_toArray, List.getElem?_cons_succ, List.getElem?_cons_zero]; rfl) (by rw [HO.out]; kernel_rfl) (by rw [HO.out]; kernel_rfl) (by rw [HO.out]; kernel_rfl) (by rw [HQ.out]; exact fun _ _ _ h => h) (Or.inl ⟨by rfl, ?_⟩) trivial ?_
      · intro w' hSw
        go_simp
      try simp only [Act.put, List.setIfInBounds_toArray, List.set_cons_zero, List.set_cons_succ]
      refine wpAnyH_ready (rs := [1, 5]) (by rw [HO.out]; kernel_rfl) (by simp) ?_
      refine AllReadyH.cons (o := _) (by rw [HO.out]; simp only [List.getElem?_toArray, List.getElem?_cons_succ, List.getElem?_cons_zero]; rfl) (fun K1 hK1 => ?_) ?_
      · go_simp
        refine hK1.out _ _ trivial (fun _ => ?_)
        try simp only [Act.put, List.setIfInBounds_toArray, List.set_cons_zero, List.set_cons_succ]
        refine wpAnyH_ready (rs := [5]) (by rw [HO.out]; kernel_rfl) (by simp) ?_
        refine AllReadyH.cons (o := _) (by rw [HO.out]; simp only [List.getElem?_toArray, List.getElem?_cons_succ, List.getElem?_cons_zero]; rfl) (fun K5 hK5 => ?_) ?_
        · go_simp
          refine hK5.out _ _ trivial (fun _ => ?_)
          try simp only [Act.put, List.setIfInBounds_toArray, List.set_cons_zero, List.set_cons_succ]
          refine wpAnyH_ready (rs := [6]) (by rw [HO.out]; kernel_rfl) (by simp) ?_
          refine AllReadyH.cons (o := _) (by rw [HO.out]; simp only [List.getElem?_toArray, List.getElem?_cons_succ, List.getElem?_cons_zero]; rfl) (fun K6 hK6 => ?_) ?_
          · go_simp
            refine (HCD.out _ (HS.out.below (Below.refl _ _).drew)).mono ?_
            rintro e w3 ⟨a3, n3, cap3, done3, rfl, hrc, hs3⟩
            obtain ⟨z0, z1, z2, z3, z4, z5, z6, y0, y1, y2, y3, y4, y5, y6⟩ := hrc
            refine hK6.out _ _ trivial (fun _ => ?_)
            try simp only [Act.put, List.setIfInBounds_toArray, List.set_cons_zero, List.set_cons_succ]
            refine wpAnyH_take (i := 7) (v := .tuple #[.agg #[.int .i64 (actsD s x).room, .slice a3 n3 cap3, .bool (actsD s x).down, .int .i64 (actsD s x).ops, .int .i64 (actsD s x).reads, .int .i64 (actsD s x).fails, .bool done3], .bool true]) (by rw [HO.out]; simp only [List.getElem?_toArray, List.getElem?_cons_succ, List.getElem?_cons_zero]; rfl) (by rw [HO.out]; kernel_rfl) (by rw [HO.out]; kernel_rfl) (by rw [HO.out]; kernel_rfl) (by rw [HQ.out]; exact fun _ _ _ h => h) (Or.inl ⟨by rfl, ?_⟩) trivial ?_
            · intro w' hSw
              go_simp
            try simp only [Act.put, List.setIfInBounds_toArray, List.set_cons_zero, List.set_cons_succ]
            refine wpAnyH_take (i := 8) (v := .agg #[.int .i64 (actsD s x).room, .slice a3 n3 cap3, .bool (actsD s x).down, .int .i64 (actsD s x).ops, .int .i64 (actsD s x).reads, .int .i64 (actsD s x).fails, .bool done3]) (by rw [HO.out]; simp only [List.getElem?_toArray, List.getElem?_cons_succ, List.getElem?_cons_zero]; rfl) (by rw [HO.out]; kernel_rfl) (by rw [HO.out]; kernel_rfl) (by rw [HO.out]; kernel_rfl) (by rw [HQ.out]; exact fun _ _ _ h => h) (Or.inl ⟨by rfl, ?_⟩) trivial ?_
            · intro w' hSw
              go_simp
            try simp only [Act.put, List.setIfInBounds_toArray, List.set_cons_zero, List.set_cons_succ]
            refine wpAnyH_take (i := 9) (v := .bool true) (by rw [HO.out]; simp only [List.getElem?_toArray, List.getElem?_cons_succ, List.getElem?_cons_zero]; rfl) (by rw [HO.out]; kernel_rfl) (by rw [HO.out]; kernel_rfl) (by rw [HO.out]; kernel_rfl) (by rw [HQ.out]; exact fun _ _ _ h => h) (Or.inl ⟨by rfl, ?_⟩) trivial ?_
            · intro w' hSw
              go_simp
            try simp only [Act.put, List.setIfInBounds_toArray, List.set_cons_zero, List.set_cons_succ]
            refine wpAnyH_ready (rs := [10]) (by rw [HO.out]; kernel_rfl) (by simp) ?_
            refine AllReadyH.cons (o := _) (by rw [HO.out]; simp only [List.getElem?_toArray, List.getElem?_cons_succ, List.getElem?_cons_zero]; rfl) (fun K10 hK10 => ?_) ?_
            · go_simp
              refine hK10.out _ _ trivial (fun _ => ?_)
              try simp only [Act.put, List.setIfInBounds_toArray, List.set_cons_zero, List.set_cons_succ]
              refine wpAnyH_take (i := 11) (v := .bool true) (by rw [HO.out]; simp only [List.getElem?_toArray, List.getElem?_cons_succ, List.getElem?_cons_zero]; rfl) (by rw [HO.out]; kernel_rfl) (by rw [HO.out]; kernel_rfl) (by rw [HO.out]; kernel_rfl) (by rw [HQ.out]; exact fun _ _ _ h => h) (Or.inl ⟨by rfl, ?_⟩) trivial ?_
              · intro w' hSw
                go_simp
              try simp only [Act.put, List.setIfInBounds_toArray, List.set_cons_zero, List.set_cons_succ]
              refine wpAnyH_done (by rw [HO.out]; kernel_rfl) ?_ _
              rw [HQ.out]
              refine NoPanic.normal ?_
              clear HCD
              go_wp2_with (first
                | (go_at_call 12; refine (H12.out _ p nb mb rb (actsD s x) a3 n3 cap3 done3 hs3.out).mono ?_; rintro e w4 ⟨rfl, hb4⟩; clear H12)
                | fail)
              go_roundw
              case rel => exact ⟨k + 1, actsD s x, a3, n3, cap3, done3, by omega, by go_num, rfl, hs3.out.below hb4⟩
              case measure => simp [intOf]; omega
            exact AllReadyH.nil
          exact AllReadyH.nil
        exact AllReadyH.nil
      refine AllReadyH.cons (o := _) (by rw [HO.out]; simp only [List.getElem?_toArray, List.getElem?_cons_succ, List.getElem?_cons_zero]; rfl) (fun K5 hK5 => ?_) ?_
      · go_simp
        refine hK5.out _ _ trivial (fun _ => ?_)
        try simp only [Act.put, List.setIfInBounds_toArray, List.set_cons_zero, List.set_cons_succ]
        refine wpAnyH_ready (rs := [1]) (by rw [HO.out]; kernel_rfl) (by simp) ?_
        refine AllReadyH.cons (o := _) (by rw [HO.out]; simp only [List.getElem?_toArray, List.getElem?_cons_succ, List.getElem?_cons_zero]; rfl) (fun K1 hK1 => ?_) ?_
        · go_simp
          refine hK1.out _ _ trivial (fun _ => ?_)
          try simp only [Act.put, List.setIfInBounds_toArray, List.set_cons_zero, List.set_cons_succ]
          refine wpAnyH_ready (rs := [6]) (by rw [HO.out]; kernel_rfl) (by simp) ?_
          refine AllReadyH.cons (o := _) (by rw [HO.out]; simp only [List.getElem?_toArray, List.getElem?_cons_succ, List.getElem?_cons_zero]; rfl) (fun K6 hK6 => ?_) ?_
          · go_simp
            refine (HCD.out _ (HS.out.below (Below.refl _ _).drew)).mono ?_
            rintro e w3 ⟨a3, n3, cap3, done3, rfl, hrc, hs3⟩
            obtain ⟨z0, z1, z2, z3, z4, z5, z6, y0, y1, y2, y3, y4, y5, y6⟩ := hrc
            refine hK6.out _ _ trivial (fun _ => ?_)
            try simp only [Act.put, List.setIfInBounds_toArray, List.set_cons_zero, List.set_cons_succ]
            refine wpAnyH_take (i := 7) (v := .tuple #[.agg #[.int .i64 (actsD s x).room, .slice a3 n3 cap3, .bool (actsD s x).down, .int .i64 (actsD s x).ops, .int .i64 (actsD s x).reads, .int .i64 (actsD s x).fails, .bool done3], .bool true]) (by rw [HO.out]; simp only [List.getElem?_toArray, List.getElem?_cons_succ, List.getElem?_cons_zero]; rfl) (by rw [HO.out]; kernel_rfl) (by rw [HO.out]; kernel_rfl) (by rw [HO.out]; kernel_rfl) (by rw [HQ.out]; exact fun _ _ _ h => h) (Or.inl ⟨by rfl, ?_⟩) trivial ?_
            · intro w' hSw
              go_simp
            try simp only [Act.put, List.setIfInBounds_toArray, List.set_cons_zero, List.set_cons_succ]
            refine wpAnyH_take (i := 8) (v := .agg #[.int .i64 (actsD s x).room, .slice a3 n3 cap3, .bool (actsD s x).down, .int .i64 (actsD s x).ops, .int .i64 (actsD s x).reads, .int .i64 (actsD s x).fails, .bool done3]) (by rw [HO.out]; simp only [List.getElem?_toArray, List.getElem?_cons_succ, List.getElem?_cons_zero]; rfl) (by rw [HO.out]; kernel_rfl) (by rw [HO.out]; kernel_rfl) (by rw [HO.out]; kernel_rfl) (by rw [HQ.out]; exact fun _ _ _ h => h) (Or.inl ⟨by rfl, ?_⟩) trivial ?_
            · intro w' hSw
              go_simp
            try simp only [Act.put, List.setIfInBounds_toArray, List.set_cons_zero, List.set_cons_succ]
            refine wpAnyH_take (i := 9) (v := .bool true) (by rw [HO.out]; simp only [List.getElem?_toArray, List.getElem?_cons_succ, List.getElem?_cons_zero]; rfl) (by rw [HO.out]; kernel_rfl) (by rw [HO.out]; kernel_rfl) (by rw [HO.out]; kernel_rfl) (by rw [HQ.out]; exact fun _ _ _ h => h) (Or.inl ⟨by rfl, ?_⟩) trivial ?_
            · intro w' hSw
              go_simp
            try simp only [Act.put, List.setIfInBounds_toArray, List.set_cons_zero, List.set_cons_succ]
            refine wpAnyH_ready (rs := [10]) (by rw [HO.out]; kernel_rfl) (by simp) ?_
            refine AllReadyH.cons (o := _) (by rw [HO.out]; simp only [List.getElem?_toArray, List.getElem?_cons_succ, List.getElem?_cons_zero]; rfl) (fun K10 hK10 => ?_) ?_
            · go_simp
              refine hK10.out _ _ trivial (fun _ => ?_)
              try simp only [Act.put, List.setIfInBounds_toArray, List.set_cons_zero, List.set_cons_succ]
              refine wpAnyH_take (i := 11) (v := .bool true) (by rw [HO.out]; simp only [List.getElem?_toArray, List.getElem?_cons_succ, List.getElem?_cons_zero]; rfl) (by rw [HO.out]; kernel_rfl) (by rw [HO.out]; kernel_rfl) (by rw [HO.out]; kernel_rfl) (by rw [HQ.out]; exact fun _ _ _ h => h) (Or.inl ⟨by rfl, ?_⟩) trivial ?_
              · intro w' hSw
                go_simp
              try simp only [Act.put, List.setIfInBounds_toArray, List.set_cons_zero, List.set_cons_succ]
              refine wpAnyH_done (by rw [HO.out]; kernel_rfl) ?_ _
              rw [HQ.out]
              refine NoPanic.normal ?_
              clear HCD
              go_wp2_with (first
                | (go_at_call 12; refine (H12.out _ p nb mb rb (actsD s x) a3 n3 cap3 done3 hs3.out).mono ?_; rintro e w4 ⟨rfl, hb4⟩; clear H12)
                | fail)
              go_roundw
              case rel => exact ⟨k + 1, actsD s x, a3, n3, cap3, done3, by omega, by go_num, rfl, hs3.out.below hb4⟩
              case measure => simp [intOf]; omega
            exact AllReadyH.nil
          exact AllReadyH.nil
        exact AllReadyH.nil
      exact AllReadyH.nil
    · have hdk : decide ((k : Int) < (len : Int)) = false := by simp; omega
      have HM : Hid (Mine w wr p nb mb s) := HS.out.1
      clear HS HDO HAT
      have hpn : True := trivial
      go_wp2_with (first
        | (go_at_call 8; refine (H8.out _ HM.out.2.2.2.2).mono ?_; rintro e w9 ⟨rfl, hb9⟩; clear H8)
        | fail)
      go_ret
      exact ⟨rfl, hb9⟩
theorem walk (blocks : Int) (al : Option Addr) (len cap : Nat) (xs : List ActD) (w : World) (h1 : (Lit.int .i64 blocks).wf = true) (h0 : Acts w al len cap xs) :
    Calls Try.prog 3 #[.int .i64 blocks, .slice al len cap] w fun e w' => e = .returned (.bool true) ∧ Below w.heap.size w w' := by
  by_cases h : 60 < len
  · exact walk_long blocks al len cap w h
  · exact walk_some blocks al len cap xs w h0 (by omega)
set_option maxRecDepth 100000 in
theorem lifted (os : Os) (started : os.Started) (H : Type) (enc : TypeId × Value → H) :
    ReturnsInHanded {} Try.checked os 3 .any (Rows.diskPlaysSpec.pre6 enc Try.prog Try.f3 Rows.diskPlaysRow.domain false) (Rows.diskPlaysSpec.post enc Try.prog Try.f3 false true false false) := by
  refine returnsInHanded_of_change (C := Try.checked) own started (by kernel_rfl) Try.func3
    (ChangeSpec.witness6 (enc := enc) (C := Try.checked) false ⟨#[], #[.int .i64 0, .slice none 0 0], []⟩ 8 (by kernel_rfl) (by kernel_rfl) (by kernel_rfl) (by kernel_rfl)) ?_
  intro W base args ds gs before hval0 hW hcnd _
  have hval : ∀ (j : Nat) t v, Try.f3.params[j]? = some t → args[j]? = some v → Value.okWide Try.prog W .any base t v := hval0
  have hW' := hW
  obtain ⟨p, q, hA0, hV, rfl, hfz, hnd⟩ := hW
  have hA : DataW.TrodAll enc Try.prog W 0 (fun _ => true) true Try.f3.params.toList args.toList ds p := hA0
  rw [Try.params3] at hA hval
  obtain ⟨v0, vs0, d0, ds0, p0, q0, hargs, rfl, rfl, h0, r0⟩ := trodAll_cons hA
  obtain ⟨v1, vs1, d1, ds1, p1, q1, rfl, rfl, rfl, h1, r1⟩ := trodAll_cons r0
  obtain ⟨rfl, rfl, rfl⟩ := trodAll_nil r1
  obtain rfl : args = #[v0, v1] := by cases args; simp_all
  obtain ⟨rfl, rfl⟩ := trodVars_none hV
  obtain ⟨a0, rfl, rfl, rfl, w0⟩ := open_int Try.underlying3 (hval 0 3 v0 rfl rfl) h0
  obtain ⟨a1, len1, cap1, rfl⟩ := okWide_slice Try.underlying22 (hval 1 22 v1 rfl rfl)
  have k1 := h1
  have lt1 : ∀ x ∈ p1, x.block < W.heap.size := by obtain ⟨m, hm⟩ := k1; exact DataW.trod_lt m _ _ _ hm
  obtain ⟨x1, w1⟩ : ∃ xs, Acts W a1 len1 cap1 xs := by
    obtain ⟨fuel, hf⟩ := h1
    exact open_acts hf
  clear hA0 hval0
  refine (walk a0 a1 len1 cap1 x1 W w0 w1).mono fun e W' ⟨he, bel⟩ => ?_
  subst he
  exact ⟨_, rfl, _, _, _, [], _, [], hW', trodAll_mk1 (shut_bool Try.underlying4 _), (trodAll_cons_mk (shut_int Try.underlying3 w0) (trodAll_cons_mk (Below.trod laidOut (by kernel_rfl) (of_decide_eq_true (by kernel_rfl)) k1 bel lt1) trodAll_mk0)), rfl, bel.frame _, fun h => by cases h⟩

theorem over : Rows.diskPlaysRow.holds Try.pinned (OpenSpec.ofChange Rows.diskPlaysSpec) :=
  OpenClaim.holds_of_wide 3 Try.f3 rfl rfl rfl rfl rfl rfl rfl ⟨rfl, rfl, rfl, rfl, rfl⟩ rfl rfl rfl rfl rfl (by kernel_rfl) Try.func3 (by kernel_rfl)
    (of_decide_eq_true (by kernel_rfl)) (by unfold Func.isWrapper; first | (rw [if_pos (by decide +kernel)]; kernel_rfl) | (rw [if_neg (by decide +kernel)]; exact ⟨rfl, rfl⟩))
    (fun os started H enc _ => lifted os started H enc)
end Go.Proofs.Ytmapjikbplindaa.diskPlays

namespace Go.Proofs.Ytmapjikbplindaa
theorem diskPlays_holds : Rows.DiskPlaysSaid := diskPlays.over
#print axioms diskPlays_holds
end Go.Proofs.Ytmapjikbplindaa
