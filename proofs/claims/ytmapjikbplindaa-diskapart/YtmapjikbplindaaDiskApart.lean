/- For any acts, any block and any byte: a block that is written changes no other one, a fork goes its own way, and reading changes nothing. -/
import Derived.Test.YtmapjikbplindaaRows
import Derived.Test.YtmapjikbplindaaSt
import Derived.WalkKit
import Derived.ProofKit
import Derived.OpenShut
import Derived.ShutString
import Derived.ChangeOld
import Derived.Below
import Derived.Test.YtmapjikbplindaaTwo
import Derived.Deep.RegionHeld3
import Derived.Deep.DeepCutAuto
import Derived.StillTailTactics
namespace Go.Proofs.Ytmapjikbplindaa.diskApart
open Go.ChangeShapes Go.WideShapes Go.ChangeAt Go.RowKit Go.Maps
open Go.ChangeMaps (open_string shut_string)
set_option linter.unusedVariables false
set_option linter.unusedSimpArgs false
set_option maxRecDepth 20000

theorem own : ownKnob Try.prog.godebug = none := by kernel_rfl
theorem laidOut : laidOutB Try.prog = true := by kernel_rfl
theorem eq_bools {k n : Nat} (h : k = n) : ((k : Int) == (n : Int)) = true ∧ ((k : Int) != (n : Int)) = false := by subst h; exact ⟨beq_self_eq_true _, by simp⟩
theorem ne_bools {k n : Nat} (h : ¬ k = n) : ((k : Int) == (n : Int)) = false ∧ ((k : Int) != (n : Int)) = true := ⟨beq_eq_false_iff_ne.2 (by omega), bne_iff_ne.2 (by omega)⟩
set_option maxHeartbeats 800000 in
theorem walk_long (al : Option Addr) (len cap : Nat) (at' cb : Int) (w : World) (h : 40 < len) :
    Calls Try.prog 7 #[.slice al len cap, .int .u8 at', .int .u8 cb] w fun e w' => e = .returned (.bool true) ∧ Below w.heap.size w w' := by
  have HA := awake_any
  have hd : decide ((40 : Int) < (len : Int)) = true := by simp; omega
  go_enter Try.func7, Try.ntmps7
  go_wp2_with (first | (go_at_call 8; refine (HA _).mono ?_; rintro e w1 ⟨rfl, hb⟩; clear HA) | fail)
  go_ret
  exact ⟨rfl, hb⟩
set_option maxHeartbeats 6400000 in
theorem walk_some (al : Option Addr) (len cap : Nat) (xs : List ActD) (at' cb : Int) (w : World) (hacts : Acts w al len cap xs) (hcc : 0 ≤ at' ∧ at' ≤ 255 ∧ 0 ≤ cb ∧ cb ≤ 255) (h40 : len ≤ 40) :
    Calls Try.prog 7 #[.slice al len cap, .int .u8 at', .int .u8 cb] w fun e w' => e = .returned (.bool true) ∧ Below w.heap.size w w' := by
  have H8 : Hid (∀ W, Below w.heap.size w W → Calls Try.prog 8 #[] W fun e w' => e = .returned (.bool true) ∧ Below w.heap.size w w') := fun W hW => by
    refine (awake_any W).mono ?_
    rintro e w' ⟨rfl, hbb⟩
    exact ⟨rfl, hW.trans (hbb.mono hW.size)⟩
  have H9 : Hid (∀ W, Below w.heap.size w W → Calls Try.prog 9 #[.int .i64 9] W fun e w' => ∃ p nb mb, e = .returned (.pointer (some ⟨p, 0, none⟩)) ∧ Mine w w' p nb mb (newS 9)) := fun W hW => by
    refine (new_any 9 W).mono ?_
    rintro e w' ⟨p, nb, mb, rfl, hd, h1, h2, h3, hb⟩
    have := hW.size
    exact ⟨p, nb, mb, rfl, hd, by omega, by omega, by omega, hW.trans (hb.mono hW.size)⟩
  have H10 : Hid (∀ W p nb mb, Mine w W p nb mb (newS 9) → Calls Try.prog 10 #[.int .i64 9] W fun e w' => ∃ a n cap done, e = .returned (.agg (rcells (newS 9) (.slice a n cap) done)) ∧ Hid (St w (w'.alloc (.cells (rcells (newS 9) (.slice a n cap) done) 28)) p nb mb w'.heap.size (newS 9) a n cap done)) := fun W p nb mb hm => by
    refine (rnew_any 9 [p, nb, mb] W).mono ?_
    rintro e w' ⟨v, rfl, hr, hb⟩
    obtain ⟨a, n, cap, done, rfl⟩ := hr.open
    refine ⟨a, n, cap, done, rfl, ?_⟩
    have hm' := hm.below hb
    have hal : Below w'.heap.size w' (w'.alloc (.cells (rcells (newS 9) (.slice a n cap) done) 28)) := (Below.refl _ _).alloc (Nat.le_refl _) _
    exact ⟨hm'.below hal, hr.below hal, heap_alloc_last _ _, fun hx => by have := hm'.lt _ hx; omega, hm'.2.2.2.2.size⟩
  have HDO : Hid (∀ W p nb mb rb s a n cap done (x : ActD) fa fl fc, St w W p nb mb rb s a n cap done → x.Fits → x.fs.length = fl → fl ≤ fc → fc ≤ 9223372036854775807 → BV w fa x.fs → Calls Try.prog 11 #[.pointer (some ⟨p, 0, none⟩), .agg (rcells s (.slice a n cap) done), .agg #[.int .u8 x.kd, .int .i64 x.n, .int .u8 x.c, .int .u8 x.cut, .bool x.d, .slice fa fl fc]] W fun e w' => ∃ a2 n2 cap2 done2, e = .returned (.tuple #[.agg (rcells (actsD s x) (.slice a2 n2 cap2) done2), .bool true]) ∧
      RC w' rb (.int .i64 s.room) (.slice a n cap) (.bool s.down) (.int .i64 s.ops) (.int .i64 s.reads) (.int .i64 s.fails) (.bool done) ∧
      Hid (St w (((((((w'.setCell ⟨rb, 0, none⟩ (.int .i64 (actsD s x).room)).setCell ⟨rb, 1, none⟩ (.slice a2 n2 cap2)).setCell ⟨rb, 2, none⟩ (.bool (actsD s x).down)).setCell ⟨rb, 3, none⟩ (.int .i64 (actsD s x).ops)).setCell ⟨rb, 4, none⟩ (.int .i64 (actsD s x).reads)).setCell ⟨rb, 5, none⟩ (.int .i64 (actsD s x).fails)).setCell ⟨rb, 6, none⟩ (.bool done2)) p nb mb rb (actsD s x) a2 n2 cap2 done2)) := fun W p nb mb rb s a n cap done x fa fl fc hs hf h1 h2 h3 hb => st_do W hs x fa fl fc hf (fate_any hs.1 h1 h2 h3 hb)
  have HCR : Hid (∀ W p nb mb s v fs, Mine w W p nb mb s → FV W [p, nb, mb] v fs → Calls Try.prog 14 #[.pointer (some ⟨p, 0, none⟩), v] W fun e w' => e = .returned (.tuple #[]) ∧ Mine w w' p nb mb (crashS s fs)) := fun W p nb mb s v fs hm hf => by
    refine (mcrash v fs W hm hf).mono ?_
    rintro e w' ⟨rfl, h, _⟩
    exact ⟨rfl, h⟩
  have HFU : Hid (∀ W p nb mb s (c : Int), 0 ≤ c → c ≤ 255 → Mine w W p nb mb s → Calls Try.prog 24 #[.int .u8 c] W fun e w' => ∃ g, e = .returned (.slice (some ⟨g, 0, none⟩) 256 256) ∧ Hid (BV w' (some ⟨g, 0, none⟩) (List.replicate 256 c) ∧ g ∉ [p, nb, mb] ∧ Mine w w' p nb mb s) ∧ Below W.heap.size W w') := fun W p nb mb s c h0 h1 hm => by
    refine (mfull c W hm h0 h1).mono ?_
    rintro e w' ⟨g, rfl, h1, h2, h3, h4⟩
    exact ⟨g, rfl, ⟨h1, h2, h3⟩, h4⟩
  have HAT : Hid (∀ i, i < len → ∃ b off, al = some ⟨b, off, none⟩ ∧ b < w.heap.size ∧ ActAt w b (off + i * 6) (xs.getD i default)) := by
    intro i hi
    rcases hacts.2.2.2.2 with e | ⟨b, off, e1, e2, e3⟩
    · have := hacts.1
      rw [e] at this
      simp at this
      omega
    · exact ⟨b, off, e1, e2, e3 i hi⟩
  have hd40 : decide ((40 : Int) < (len : Int)) = false := by simp; omega
  clear hacts
  go_enter Try.func7, Try.ntmps7
  go_wp2_with (first
    | (go_at_call 9; refine (H9.out _ (Below.refl _ _)).mono ?_; rintro e w1 ⟨p, nb, mb, rfl, hm1⟩; have HM1 : Hid (Mine w w1 p nb mb (newS 9)) := hm1; clear hm1)
    | (go_at_call 10; refine (H10.out _ p nb mb HM1.out).mono ?_; rintro e w2 ⟨ra, rn, rcap, rdone, rfl, HS⟩; unfold rcells)
    | fail)
  obtain ⟨HS0, hrb⟩ : Hid (St w (w2.alloc (.cells (rcells (newS 9) (.slice ra rn rcap) rdone) 28)) p nb mb w2.heap.size (newS 9) ra rn rcap rdone) ∧ True := ⟨HS, trivial⟩
  generalize hrbe : w2.heap.size = rb at *
  go_loopw [9] (fun iv wr => ∃ (k : Nat) (s : DS) (a : Option Addr) (n cap : Nat) (done : Bool), k ≤ len ∧ iv = .int .i64 k ∧ Hid (St w wr p nb mb rb s a n cap done) ∧ Hid (s.room = 9)) (fun iv _ => len - (intOf iv).toNat)
  case atStart => exact ⟨0, newS 9, ra, rn, rcap, rdone, Nat.zero_le _, rfl, HS0.out, rfl⟩
  case round =>
    obtain ⟨k, s, ra, rn, rcap, rdone, hk, rfl, HS, HR9⟩ := hrel
    clear HS0 H9 H10
    by_cases hlt : k < len
    · obtain ⟨b, off, rfl, hbs, hfit, fa', fl', fc', q0, q1, q2, q3, q4, q5, q6, q7, q8, q9⟩ := HAT.out k hlt
      have HBW : Hid (Below w.heap.size w wr) := HS.out.1.2.2.2.2
      have c0 := (HBW.out.cell (p := ⟨b, off + k * 6, none⟩) hbs).trans q0
      have c1 := (HBW.out.cell (p := ⟨b, off + k * 6 + 1, none⟩) hbs).trans q1
      have c2 := (HBW.out.cell (p := ⟨b, off + k * 6 + 2, none⟩) hbs).trans q2
      have c3 := (HBW.out.cell (p := ⟨b, off + k * 6 + 3, none⟩) hbs).trans q3
      have c4 := (HBW.out.cell (p := ⟨b, off + k * 6 + 4, none⟩) hbs).trans q4
      have c5 := (HBW.out.cell (p := ⟨b, off + k * 6 + 5, none⟩) hbs).trans q5
      obtain ⟨r0, r1, r2, r3, r4, r5, r6, _⟩ := RC.of HS.out.2.2.1
      generalize hxk : xs.getD k default = x at *
      have HX : Hid (x.Fits ∧ x.fs.length = fl' ∧ fl' ≤ fc' ∧ fc' ≤ 9223372036854775807 ∧ BV w fa' x.fs) := ⟨hfit, q6, q7, q8, q9⟩
      have HR2 : Hid ((actsD s x).room = 9) := by
        have : (actsD s x).room = 9 := by rw [acts_room]; exact HR9.out
        exact this
      have CD := fun W hs => HDO.out W p nb mb rb s ra rn rcap rdone x fa' fl' fc' hs HX.out.1 HX.out.2.1 HX.out.2.2.1 HX.out.2.2.2.1 HX.out.2.2.2.2
      have HCD : Hid (∀ W, St w W p nb mb rb s ra rn rcap rdone → _) := CD
      unfold rcells at HCD
      have hdk : decide ((k : Int) < (len : Int)) = true := by simp; omega
      clear q0 q1 q2 q3 q4 q5 q6 q7 q8 q9 hfit HDO HAT hxk CD HCR HFU
      go_wp2_with fail
      refine wp_region_noPanic ?_
      refine name_ops ?_
      intro O QQ HO HQ
      refine wp_region_held_drew (S := fun _ => True) (by kernel_rfl) trivial (fun hS => ?_)
      rw [show O.size = 11 by rw [HO.out]; rfl]
      refine wpAnyH_take (i := 0) (v := .pointer (some ⟨p, 0, none⟩)) (by rw [HO.out]; simp only [List.getElem?_toArray, List.getElem?_cons_succ, List.getElem?_cons_zero]; rfl) (by rw [HO.out]; kernel_rfl) (by rw [HO.out]; kernel_rfl) (by rw [HO.out]; kernel_rfl) (by rw [HQ.out]; exact fun _ _ _ h => h) (Or.inl ⟨by rfl, ?_⟩) trivial ?_
      · intro w' hSw
        go_simp
      try simp only [Act.put, List.setIfInBounds_toArray, List.set_cons_zero, List.set_cons_succ]
      refine wpAnyH_take (i := 2) (v := .slice (some ⟨b, off, none⟩) len cap) (by rw [HO.out]; simp only [List.getElem?_toArray, List.getElem?_cons_succ, List.getElem?_cons_zero]; rfl) (by rw [HO.out]; kernel_rfl) (by rw [HO.out]; kernel_rfl) (by rw [HO.out]; kernel_rfl) (by rw [HQ.out]; exact fun _ _ _ h => h) (Or.inl ⟨by rfl, ?_⟩) trivial ?_
      · intro w' hSw
        go_simp
      try simp only [Act.put, List.setIfInBounds_toArray, List.set_cons_zero, List.set_cons_succ]
      refine wpAnyH_take (i := 3) (v := .int .i64 k) (by rw [HO.out]; simp only [List.getElem?_toArray, List.getElem?_cons_succ, List.getElem?_cons_zero]; rfl) (by rw [HO.out]; kernel_rfl) (by rw [HO.out]; kernel_rfl) (by rw [HO.out]; kernel_rfl) (by rw [HQ.out]; exact fun _ _ _ h => h) (Or.inl ⟨by rfl, ?_⟩) trivial ?_
      · intro w' hSw
        go_simp
      try simp only [Act.put, List.setIfInBounds_toArray, List.set_cons_zero, List.set_cons_succ]
      refine wpAnyH_take (i := 4) (v := .pointer (some ⟨b, off + k * 6, none⟩)) (by rw [HO.out]; simp only [List.getElem?_toArray, List.getElem?_cons_succ, List.getElem?_cons_zero]; rfl) (by rw [HO.out]; kernel_rfl) (by rw [HO.out]; kernel_rfl) (by rw [HO.out]; kernel_rfl) (by rw [HQ.out]; exact fun _ _ _ h => h) (Or.inl ⟨by rfl, ?_⟩) trivial ?_
      · intro w' hSw
        go_simp
      try simp only [Act.put, List.setIfInBounds_toArray, List.set_cons_zero, List.set_cons_succ]
      refine wpAnyH_ready (rs := [1, 5]) (by rw [HO.out]; kernel_rfl) (by simp) ?_
      refine AllReadyH.cons (o := _) (by rw [HO.out]; simp only [List.getElem?_toArray, List.getElem?_cons_succ, List.getElem?_cons_zero]; rfl) (fun K1 hK1 => ?_) ?_
      · go_simp
        refine hK1.out _ _ trivial (fun _ => ?_)
        try simp only [Act.put, List.setIfInBounds_toArray, List.set_cons_zero, List.set_cons_succ]
        refine wpAnyH_ready (rs := [5]) (by rw [HO.out]; kernel_rfl) (by simp) ?_
        refine AllReadyH.cons (o := _) (by rw [HO.out]; simp only [List.getElem?_toArray, List.getElem?_cons_succ, List.getElem?_cons_zero]; rfl) (fun K5 hK5 => ?_) ?_
        · go_simp
          refine hK5.out _ _ trivial (fun _ => ?_)
          try simp only [Act.put, List.setIfInBounds_toArray, List.set_cons_zero, List.set_cons_succ]
          refine wpAnyH_ready (rs := [6]) (by rw [HO.out]; kernel_rfl) (by simp) ?_
          refine AllReadyH.cons (o := _) (by rw [HO.out]; simp only [List.getElem?_toArray, List.getElem?_cons_succ, List.getElem?_cons_zero]; rfl) (fun K6 hK6 => ?_) ?_
          · go_simp
            refine (HCD.out _ (HS.out.below (Below.refl _ _).drew)).mono ?_
            rintro e w3 ⟨a3, n3, cap3, done3, rfl, hrc, hs3⟩
            obtain ⟨z0, z1, z2, z3, z4, z5, z6, y0, y1, y2, y3, y4, y5, y6⟩ := hrc
            refine hK6.out _ _ trivial (fun _ => ?_)
            try simp only [Act.put, List.setIfInBounds_toArray, List.set_cons_zero, List.set_cons_succ]
            refine wpAnyH_take (i := 7) (v := .tuple #[.agg #[.int .i64 (actsD s x).room, .slice a3 n3 cap3, .bool (actsD s x).down, .int .i64 (actsD s x).ops, .int .i64 (actsD s x).reads, .int .i64 (actsD s x).fails, .bool done3], .bool true]) (by rw [HO.out]; simp only [List.getElem?_toArray, List.getElem?_cons_succ, List.getElem?_cons_zero]; rfl) (by rw [HO.out]; kernel_rfl) (by rw [HO.out]; kernel_rfl) (by rw [HO.out]; kernel_rfl) (by rw [HQ.out]; exact fun _ _ _ h => h) (Or.inl ⟨by rfl, ?_⟩) trivial ?_
            · intro w' hSw
              go_simp
            try simp only [Act.put, List.setIfInBounds_toArray, List.set_cons_zero, List.set_cons_succ]
            refine wpAnyH_take (i := 8) (v := .agg #[.int .i64 (actsD s x).room, .slice a3 n3 cap3, .bool (actsD s x).down, .int .i64 (actsD s x).ops, .int .i64 (actsD s x).reads, .int .i64 (actsD s x).fails, .bool done3]) (by rw [HO.out]; simp only [List.getElem?_toArray, List.getElem?_cons_succ, List.getElem?_cons_zero]; rfl) (by rw [HO.out]; kernel_rfl) (by rw [HO.out]; kernel_rfl) (by rw [HO.out]; kernel_rfl) (by rw [HQ.out]; exact fun _ _ _ h => h) (Or.inl ⟨by rfl, ?_⟩) trivial ?_
            · intro w' hSw
              go_simp
            try simp only [Act.put, List.setIfInBounds_toArray, List.set_cons_zero, List.set_cons_succ]
            refine wpAnyH_take (i := 9) (v := .bool true) (by rw [HO.out]; simp only [List.getElem?_toArray, List.getElem?_cons_succ, List.getElem?_cons_zero]; rfl) (by rw [HO.out]; kernel_rfl) (by rw [HO.out]; kernel_rfl) (by rw [HO.out]; kernel_rfl) (by rw [HQ.out]; exact fun _ _ _ h => h) (Or.inl ⟨by rfl, ?_⟩) trivial ?_
            · intro w' hSw
              go_simp
            try simp only [Act.put, List.setIfInBounds_toArray, List.set_cons_zero, List.set_cons_succ]
            refine wpAnyH_ready (rs := [10]) (by rw [HO.out]; kernel_rfl) (by simp) ?_
            refine AllReadyH.cons (o := _) (by rw [HO.out]; simp only [List.getElem?_toArray, List.getElem?_cons_succ, List.getElem?_cons_zero]; rfl) (fun K10 hK10 => ?_) ?_
            · go_simp
              refine hK10.out _ _ trivial (fun _ => ?_)
              try simp only [Act.put, List.setIfInBounds_toArray, List.set_cons_zero, List.set_cons_succ]
              refine wpAnyH_done (by rw [HO.out]; kernel_rfl) ?_ _
              rw [HQ.out]
              refine NoPanic.normal ?_
              clear HCD
              go_wp2_with fail
              go_roundw
              case rel => exact ⟨k + 1, actsD s x, a3, n3, cap3, done3, by omega, by go_num, hs3.out, HR2.out⟩
              case measure => simp [intOf]; omega
            exact AllReadyH.nil
          exact AllReadyH.nil
        exact AllReadyH.nil
      refine AllReadyH.cons (o := _) (by rw [HO.out]; simp only [List.getElem?_toArray, List.getElem?_cons_succ, List.getElem?_cons_zero]; rfl) (fun K5 hK5 => ?_) ?_
      · go_simp
        refine hK5.out _ _ trivial (fun _ => ?_)
        try simp only [Act.put, List.setIfInBounds_toArray, List.set_cons_zero, List.set_cons_succ]
        refine wpAnyH_ready (rs := [1]) (by rw [HO.out]; kernel_rfl) (by simp) ?_
        refine AllReadyH.cons (o := _) (by rw [HO.out]; simp only [List.getElem?_toArray, List.getElem?_cons_succ, List.getElem?_cons_zero]; rfl) (fun K1 hK1 => ?_) ?_
        · go_simp
          refine hK1.out _ _ trivial (fun _ => ?_)
          try simp only [Act.put, List.setIfInBounds_toArray, List.set_cons_zero, List.set_cons_succ]
          refine wpAnyH_ready (rs := [6]) (by rw [HO.out]; kernel_rfl) (by simp) ?_
          refine AllReadyH.cons (o := _) (by rw [HO.out]; simp only [List.getElem?_toArray, List.getElem?_cons_succ, List.getElem?_cons_zero]; rfl) (fun K6 hK6 => ?_) ?_
          · go_simp
            refine (HCD.out _ (HS.out.below (Below.refl _ _).drew)).mono ?_
            rintro e w3 ⟨a3, n3, cap3, done3, rfl, hrc, hs3⟩
            obtain ⟨z0, z1, z2, z3, z4, z5, z6, y0, y1, y2, y3, y4, y5, y6⟩ := hrc
            refine hK6.out _ _ trivial (fun _ => ?_)
            try simp only [Act.put, List.setIfInBounds_toArray, List.set_cons_zero, List.set_cons_succ]
            refine wpAnyH_take (i := 7) (v := .tuple #[.agg #[.int .i64 (actsD s x).room, .slice a3 n3 cap3, .bool (actsD s x).down, .int .i64 (actsD s x).ops, .int .i64 (actsD s x).reads, .int .i64 (actsD s x).fails, .bool done3], .bool true]) (by rw [HO.out]; simp only [List.getElem?_toArray, List.getElem?_cons_succ, List.getElem?_cons_zero]; rfl) (by rw [HO.out]; kernel_rfl) (by rw [HO.out]; kernel_rfl) (by rw [HO.out]; kernel_rfl) (by rw [HQ.out]; exact fun _ _ _ h => h) (Or.inl ⟨by rfl, ?_⟩) trivial ?_
            · intro w' hSw
              go_simp
            try simp only [Act.put, List.setIfInBounds_toArray, List.set_cons_zero, List.set_cons_succ]
            refine wpAnyH_take (i := 8) (v := .agg #[.int .i64 (actsD s x).room, .slice a3 n3 cap3, .bool (actsD s x).down, .int .i64 (actsD s x).ops, .int .i64 (actsD s x).reads, .int .i64 (actsD s x).fails, .bool done3]) (by rw [HO.out]; simp only [List.getElem?_toArray, List.getElem?_cons_succ, List.getElem?_cons_zero]; rfl) (by rw [HO.out]; kernel_rfl) (by rw [HO.out]; kernel_rfl) (by rw [HO.out]; kernel_rfl) (by rw [HQ.out]; exact fun _ _ _ h => h) (Or.inl ⟨by rfl, ?_⟩) trivial ?_
            · intro w' hSw
              go_simp
            try simp only [Act.put, List.setIfInBounds_toArray, List.set_cons_zero, List.set_cons_succ]
            refine wpAnyH_take (i := 9) (v := .bool true) (by rw [HO.out]; simp only [List.getElem?_toArray, List.getElem?_cons_succ, List.getElem?_cons_zero]; rfl) (by rw [HO.out]; kernel_rfl) (by rw [HO.out]; kernel_rfl) (by rw [HO.out]; kernel_rfl) (by rw [HQ.out]; exact fun _ _ _ h => h) (Or.inl ⟨by rfl, ?_⟩) trivial ?_
            · intro w' hSw
              go_simp
            try simp only [Act.put, List.setIfInBounds_toArray, List.set_cons_zero, List.set_cons_succ]
            refine wpAnyH_ready (rs := [10]) (by rw [HO.out]; kernel_rfl) (by simp) ?_
            refine AllReadyH.cons (o := _) (by rw [HO.out]; simp only [List.getElem?_toArray, List.getElem?_cons_succ, List.getElem?_cons_zero]; rfl) (fun K10 hK10 => ?_) ?_
            · go_simp
              refine hK10.out _ _ trivial (fun _ => ?_)
              try simp only [Act.put, List.setIfInBounds_toArray, List.set_cons_zero, List.set_cons_succ]
              refine wpAnyH_done (by rw [HO.out]; kernel_rfl) ?_ _
              rw [HQ.out]
              refine NoPanic.normal ?_
              clear HCD
              go_wp2_with fail
              go_roundw
              case rel => exact ⟨k + 1, actsD s x, a3, n3, cap3, done3, by omega, by go_num, hs3.out, HR2.out⟩
              case measure => simp [intOf]; omega
            exact AllReadyH.nil
          exact AllReadyH.nil
        exact AllReadyH.nil
      exact AllReadyH.nil
    · have hdk : decide ((k : Int) < (len : Int)) = false := by simp; omega
      have HM : Hid (Mine w wr p nb mb s) := HS.out.1
      clear HS HDO HAT
      obtain ⟨n, hn9, hat⟩ : ∃ n : Nat, n < 9 ∧ Int.tmod at' 9 = (n : Int) := ⟨(at' % 9).toNat, by omega, by rw [Int.tmod_eq_emod_of_nonneg hcc.1]; omega⟩
      have hwat : wrap64 at' = at' := by unfold wrap64; omega
      have hwat2 : IntKind.i64.wrap at' = at' := by rw [IntKind.wrap_i64]; omega
      have hwn : wrap64 (n : Int) = (n : Int) := by unfold wrap64; omega
      obtain ⟨s1, e1⟩ : ∃ s1, s1 = crashS s [] := ⟨_, rfl⟩
      have k1 : Calm s1 := by rw [e1]; exact calm_crash HR9.out []
      have kw := k1.write n hn9 (List.replicate 256 cb) List.length_replicate
      obtain ⟨s2, e2⟩ : ∃ s2, s2 = writeS s1 n (List.replicate 256 cb) := ⟨_, rfl⟩
      rw [← e2] at kw
      obtain ⟨o, ho⟩ : ∃ o, s1.ops = o := ⟨_, rfl⟩
      have C1 : Hid (∀ W, Mine w W p nb mb s → Calls Try.prog 14 #[.pointer (some ⟨p, 0, none⟩), .slice none 0 0] W fun e w' => e = .returned (.tuple #[]) ∧ Mine w w' p nb mb s1) := fun W hm => by rw [e1]; exact HCR.out W p nb mb s _ [] hm (FV.nil _ _)
      have C2 : Hid (∀ W, Mine w W p nb mb s1 → Calls Try.prog 13 #[.pointer (some ⟨p, 0, none⟩)] W fun e w' => ∃ q qb qm, e = .returned (.pointer (some ⟨q, 0, none⟩)) ∧ Hid (Two w w' p nb mb s1 q qb qm s1)) := fun W hm => by
        refine (mfork W hm).mono ?_
        rintro e w' ⟨q, qb, qm, rfl, h, _⟩
        exact ⟨q, qb, qm, rfl, h⟩
      have COP : Hid (∀ W p nb mb s (z : Int), Mine w W p nb mb s → s.ops = z → Calls Try.prog 21 #[.pointer (some ⟨p, 0, none⟩)] W fun e w' => e = .returned (.int .i64 z) ∧ w' = W) := fun W p nb mb s z hm hz => by
        have := ops_any p nb mb s W hm.1
        rw [hz] at this
        exact this
      have C4 : Hid (∀ W q qb qm, Two w W p nb mb s1 q qb qm s1 → Calls Try.prog 24 #[.int .u8 cb] W fun e w' => ∃ g, e = .returned (.slice (some ⟨g, 0, none⟩) 256 256) ∧ Hid (BV w' (some ⟨g, 0, none⟩) (List.replicate 256 cb) ∧ g ∉ [p, nb, mb] ∧ Two w w' p nb mb s1 q qb qm s1)) := fun W q qb qm ht => by
        refine (HFU.out W p nb mb s1 cb hcc.2.2.1 hcc.2.2.2 ht.1).mono ?_
        rintro e w' ⟨g, rfl, h1, h4⟩
        exact ⟨g, rfl, h1.out.1, h1.out.2.1, ht.below h4⟩
      have C5 : Hid (∀ W q qb qm g, BV W (some ⟨g, 0, none⟩) (List.replicate 256 cb) ∧ g ∉ [p, nb, mb] ∧ Two w W p nb mb s1 q qb qm s1 → Calls Try.prog 16 #[.pointer (some ⟨p, 0, none⟩), .int .i64 n, .slice (some ⟨g, 0, none⟩) 256 256] W fun e w' => e = .returned (.int .i64 0) ∧ Hid (Two w w' p nb mb s2 q qb qm s1)) := fun W q qb qm g h => by
        have := write_any p nb mb s1 n (some ⟨g, 0, none⟩) 256 256 (List.replicate 256 cb) W h.2.2.1.1 h.1 List.length_replicate (by decide) (fun b off e => by simp at e; rw [← e.1]; exact h.2.1)
        rw [kw.1, ← e2] at this
        refine this.mono ?_
        rintro e w' ⟨rfl, hd, hoo⟩
        exact ⟨rfl, h.2.2.left (h.2.2.1.step hd hoo) hoo⟩
      have HI0 : Hid (Calm s2 ∧ s2.B = upd s1.B n (List.replicate 256 cb) ∧ s2.ops = inc o) := ⟨kw.2.1, kw.2.2.1, by rw [kw.2.2.2.2.2.1, ho]⟩
      have HI1 : Hid (Calm s1 ∧ s1.ops = o) := ⟨k1, ho⟩
      have HISB : Hid (∀ i, i < 9 → (s1.B i).length = 256) := by
        intro i hi
        have hok : s1.Ok := by rw [e1]; exact crashS_ok HM.out.1.1 AllB.nil
        exact (hok.isB i (by rw [k1.room]; exact hi)).1
      have hinc : wrap64 (o + 1) = inc o := rfl
      clear HCR kw e1 e2 k1 ho
      go_wp2_with (first
        | (go_at_call 14; refine (C1.out _ HM.out).mono ?_; rintro e w4 ⟨rfl, h4⟩; have M4 : Hid (Mine w w4 p nb mb s1) := h4; clear C1 h4)
        | (go_at_call 13; refine (C2.out _ M4.out).mono ?_; rintro e w5 ⟨q, qb, qm, rfl, T5⟩; clear C2)
        | (go_at_call_of 21 q; refine (COP.out _ q qb qm s1 o T7.out.2.1 HI1.out.2).mono ?_; rintro e w9 ⟨rfl, hw9⟩; obtain rfl := hw9.symm)
        | (go_at_call 21; (first | refine (COP.out _ p nb mb s2 (inc o) T7.out.1 HI0.out.2.2).mono ?_ | refine (COP.out _ p nb mb s1 o T5.out.1 HI1.out.2).mono ?_); rintro e w8 ⟨rfl, hw8⟩; obtain rfl := hw8.symm)
        | (go_at_call 24; refine (C4.out _ q qb qm T5.out).mono ?_; rintro e w6 ⟨g6, rfl, T6⟩; clear C4)
        | (go_at_call 16; refine (C5.out _ q qb qm g6 T6.out).mono ?_; rintro e w7 ⟨rfl, T7⟩; clear C5)
        | fail)
      go_loopw [13] (fun iv wr => ∃ (k : Nat) (sd sf : DS), k ≤ 9 ∧ iv = .int .i64 k ∧ Hid (Two w wr p nb mb sd q qb qm sf) ∧ Hid (Calm sd ∧ sd.B = upd s1.B n (List.replicate 256 cb) ∧ sd.ops = inc o) ∧ Hid (Calm sf ∧ sf.B = s1.B)) (fun iv _ => 9 - (intOf iv).toNat)
      case atStart => exact ⟨0, s2, s1, Nat.zero_le _, rfl, T7.out, HI0.out, HI1.out.1, rfl⟩
      case round =>
        obtain ⟨k, sd, sf, hk, rfl, HTW, HSD, HSF⟩ := hrel
        clear T5 T6 T7 HI0 HI1 M4
        by_cases hlt : k < 9
        · have hdk : decide ((k : Int) < 9) = true := by simp; omega
          have rd := HSD.out.1.read k hlt
          have rf := HSF.out.1.read k hlt
          have HD2 : Hid (Calm (readS sd k) ∧ (readS sd k).B = upd s1.B n (List.replicate 256 cb) ∧ (readS sd k).ops = inc o) := ⟨rd.2.1, by rw [rd.2.2.2.1]; exact HSD.out.2.1, by rw [rd.2.2.2.2.2.2]; exact HSD.out.2.2⟩
          have HF2 : Hid (Calm (readS sf k) ∧ (readS sf k).B = s1.B) := ⟨rf.2.1, by rw [rf.2.2.2.1]; exact HSF.out.2⟩
          have CF : Hid (∀ W, Two w W p nb mb (readS sd k) q qb qm sf → Calls Try.prog 15 #[.pointer (some ⟨q, 0, none⟩), .int .i64 k] W fun e w' => ∃ g cg, e = .returned (.tuple #[.slice (some ⟨g, 0, none⟩) 256 cg, .int .i64 0]) ∧ Hid (BV w' (some ⟨g, 0, none⟩) (s1.B k) ∧ True ∧ Two w w' p nb mb (readS sd k) q qb qm (readS sf k) ∧ Off [q, qb, qm] W w')) := fun W ht => by
            refine (mread_ok W k (s1.B k) ht.2.1 rf.1 (by rw [rf.2.2.1, HSF.out.2]) (HISB.out k hlt)).mono ?_
            rintro e w' ⟨g, cg, rfl, h1, h2, h3, h4⟩
            exact ⟨g, cg, rfl, h1, trivial, ht.right h3 h4, h4⟩
          by_cases hkn : k = n
          · have CD2 : Hid (Calls Try.prog 15 #[.pointer (some ⟨p, 0, none⟩), .int .i64 k] wr fun e w' => ∃ g cg, e = .returned (.tuple #[.slice (some ⟨g, 0, none⟩) 256 cg, .int .i64 0]) ∧ Hid (BV w' (some ⟨g, 0, none⟩) (List.replicate 256 cb) ∧ g ∉ [q, qb, qm] ∧ Two w w' p nb mb (readS sd k) q qb qm sf ∧ Off [p, nb, mb] wr w')) := by
              refine (mread_ok wr k (List.replicate 256 cb) HTW.out.1 rd.1 (by rw [rd.2.2.1, HSD.out.2.1, hkn, upd_same]) List.length_replicate).mono ?_
              rintro e w' ⟨g, cg, rfl, h1, h2, h3, h4⟩
              exact ⟨g, cg, rfl, h1, fun hx => by have := HTW.out.2.1.lt g hx; omega, HTW.out.left h3 h4, h4⟩
            obtain ⟨hq, hq2⟩ := eq_bools hkn
            clear rd rf HTW HSD HSF hkn
            go_wp2_with (first
              | (go_at_call_of 15 q; refine (CF.out _ T10.out.2.2.1).mono ?_; rintro e w11 ⟨gy, cy, rfl, T11⟩; clear CF)
              | (go_at_call 15; refine (CD2.out).mono ?_; rintro e w10 ⟨gx, cx, rfl, T10⟩; clear CD2)
              | fail)
            have SL : Hid (∀ W, Below w11.heap.size w11 W → Below w11.heap.size w11 W ∧ (convert 32 9 (.slice (some ⟨gx, 0, none⟩) 256 cx)).run Try.prog W = .ok (.string (strOfNums (List.replicate 256 cb))) W ∧ (convert 32 9 (.slice (some ⟨gy, 0, none⟩) 256 cy)).run Try.prog W = .ok (.string (strOfNums (s1.B k))) W) := fun W hW => ⟨hW, conv_bv ((T10.out.1.offX T11.out.2.2.2 (fun b off e hm => by simp at e; rw [← e.1] at hm; exact T10.out.2.1 hm)).below hW) List.length_replicate, conv_bv (T11.out.1.below hW) (HISB.out k hlt)⟩
            have Q24 : Hid (∀ W, Below w11.heap.size w11 W → Calls Try.prog 24 #[.int .u8 cb] W fun e w' => ∃ g, e = .returned (.slice (some ⟨g, 0, none⟩) 256 256) ∧ (convert 32 9 (.slice (some ⟨g, 0, none⟩) 256 256)).run Try.prog w' = .ok (.string (strOfNums (List.replicate 256 cb))) w' ∧ Below w11.heap.size w11 w') := fun W hW => by
              refine (HFU.out W p nb mb _ cb hcc.2.2.1 hcc.2.2.2 (T11.out.2.2.1.1.below hW)).mono ?_
              rintro e w' ⟨g, rfl, h1, h4⟩
              exact ⟨g, rfl, conv_bv h1.out.1 List.length_replicate, hW.trans (h4.mono hW.size)⟩
            generalize strOfNums (List.replicate 256 cb) = sta at *
            generalize strOfNums (s1.B k) = stb at *
            refine wp_region_noPanic ?_
            refine name_ops ?_
            intro O QQ HO HQ
            refine wp_region_held_drew (S := (fun w' => Below w11.heap.size w11 w')) (by kernel_rfl) (Below.refl _ _).drew (fun hS => ?_)
            rw [show O.size = 31 by rw [HO.out]; rfl]
            refine wpAnyH_take (i := 0) (v := .int .i64 0) (by rw [HO.out]; simp only [List.getElem?_toArray, List.getElem?_cons_succ, List.getElem?_cons_zero]; rfl) (by rw [HO.out]; kernel_rfl) (by rw [HO.out]; kernel_rfl) (by rw [HO.out]; kernel_rfl) (by rw [HQ.out]; exact fun _ _ _ h => h) (Or.inl ⟨by rw [HO.out]; kernel_rfl, ?_⟩) hS ?_
            · intro w' hSw
              go_simp
            try simp only [Act.put, List.setIfInBounds_toArray, List.set_cons_zero, List.set_cons_succ]
            refine wpAnyH_take (i := 1) (v := .bool false) (by rw [HO.out]; simp only [List.getElem?_toArray, List.getElem?_cons_succ, List.getElem?_cons_zero]; rfl) (by rw [HO.out]; kernel_rfl) (by rw [HO.out]; kernel_rfl) (by rw [HO.out]; kernel_rfl) (by rw [HQ.out]; exact fun _ _ _ h => h) (Or.inl ⟨by rw [HO.out]; kernel_rfl, ?_⟩) hS ?_
            · intro w' hSw
              go_simp
            try simp only [Act.put, List.setIfInBounds_toArray, List.set_cons_zero, List.set_cons_succ]
            refine wpAnyH_take (i := 2) (v := .bool false) (by rw [HO.out]; simp only [List.getElem?_toArray, List.getElem?_cons_succ, List.getElem?_cons_zero]; rfl) (by rw [HO.out]; kernel_rfl) (by rw [HO.out]; kernel_rfl) (by rw [HO.out]; kernel_rfl) (by rw [HQ.out]; exact fun _ _ _ h => h) (Or.inl ⟨by rw [HO.out]; kernel_rfl, ?_⟩) hS ?_
            · intro w' hSw
              go_simp
            try simp only [Act.put, List.setIfInBounds_toArray, List.set_cons_zero, List.set_cons_succ]
            refine wpAnyH_take (i := 3) (v := .int .i64 0) (by rw [HO.out]; simp only [List.getElem?_toArray, List.getElem?_cons_succ, List.getElem?_cons_zero]; rfl) (by rw [HO.out]; kernel_rfl) (by rw [HO.out]; kernel_rfl) (by rw [HO.out]; kernel_rfl) (by rw [HQ.out]; exact fun _ _ _ h => h) (Or.inl ⟨by rw [HO.out]; kernel_rfl, ?_⟩) hS ?_
            · intro w' hSw
              go_simp
            try simp only [Act.put, List.setIfInBounds_toArray, List.set_cons_zero, List.set_cons_succ]
            refine wpAnyH_take (i := 4) (v := .bool false) (by rw [HO.out]; simp only [List.getElem?_toArray, List.getElem?_cons_succ, List.getElem?_cons_zero]; rfl) (by rw [HO.out]; kernel_rfl) (by rw [HO.out]; kernel_rfl) (by rw [HO.out]; kernel_rfl) (by rw [HQ.out]; exact fun _ _ _ h => h) (Or.inl ⟨by rw [HO.out]; kernel_rfl, ?_⟩) hS ?_
            · intro w' hSw
              go_simp
            try simp only [Act.put, List.setIfInBounds_toArray, List.set_cons_zero, List.set_cons_succ]
            refine wpAnyH_take (i := 5) (v := .bool false) (by rw [HO.out]; simp only [List.getElem?_toArray, List.getElem?_cons_succ, List.getElem?_cons_zero]; rfl) (by rw [HO.out]; kernel_rfl) (by rw [HO.out]; kernel_rfl) (by rw [HO.out]; kernel_rfl) (by rw [HQ.out]; exact fun _ _ _ h => h) (Or.inl ⟨by rw [HO.out]; kernel_rfl, ?_⟩) hS ?_
            · intro w' hSw
              go_simp
            try simp only [Act.put, List.setIfInBounds_toArray, List.set_cons_zero, List.set_cons_succ]
            refine wpAnyH_take (i := 6) (v := .bool false) (by rw [HO.out]; simp only [List.getElem?_toArray, List.getElem?_cons_succ, List.getElem?_cons_zero]; rfl) (by rw [HO.out]; kernel_rfl) (by rw [HO.out]; kernel_rfl) (by rw [HO.out]; kernel_rfl) (by rw [HQ.out]; exact fun _ _ _ h => h) (Or.inl ⟨by rw [HO.out]; kernel_rfl, ?_⟩) hS ?_
            · intro w' hSw
              go_simp
            try simp only [Act.put, List.setIfInBounds_toArray, List.set_cons_zero, List.set_cons_succ]
            refine wpAnyH_take (i := 7) (v := .int .i64 k) (by rw [HO.out]; simp only [List.getElem?_toArray, List.getElem?_cons_succ, List.getElem?_cons_zero]; rfl) (by rw [HO.out]; kernel_rfl) (by rw [HO.out]; kernel_rfl) (by rw [HO.out]; kernel_rfl) (by rw [HQ.out]; exact fun _ _ _ h => h) (Or.inl ⟨by rw [HO.out]; kernel_rfl, ?_⟩) hS ?_
            · intro w' hSw
              go_simp
            try simp only [Act.put, List.setIfInBounds_toArray, List.set_cons_zero, List.set_cons_succ]
            refine wpAnyH_take (i := 8) (v := .int .i64 n) (by rw [HO.out]; simp only [List.getElem?_toArray, List.getElem?_cons_succ, List.getElem?_cons_zero]; rfl) (by rw [HO.out]; kernel_rfl) (by rw [HO.out]; kernel_rfl) (by rw [HO.out]; kernel_rfl) (by rw [HQ.out]; exact fun _ _ _ h => h) (Or.inl ⟨by rw [HO.out]; kernel_rfl, ?_⟩) hS ?_
            · intro w' hSw
              go_simp
            try simp only [Act.put, List.setIfInBounds_toArray, List.set_cons_zero, List.set_cons_succ]
            refine wpAnyH_take (i := 9) (v := .bool false) (by rw [HO.out]; simp only [List.getElem?_toArray, List.getElem?_cons_succ, List.getElem?_cons_zero]; rfl) (by rw [HO.out]; kernel_rfl) (by rw [HO.out]; kernel_rfl) (by rw [HO.out]; kernel_rfl) (by rw [HQ.out]; exact fun _ _ _ h => h) (Or.inl ⟨by rw [HO.out]; kernel_rfl, ?_⟩) hS ?_
            · intro w' hSw
              go_simp
            try simp only [Act.put, List.setIfInBounds_toArray, List.set_cons_zero, List.set_cons_succ]
            refine wpAnyH_take (i := 10) (v := .bool false) (by rw [HO.out]; simp only [List.getElem?_toArray, List.getElem?_cons_succ, List.getElem?_cons_zero]; rfl) (by rw [HO.out]; kernel_rfl) (by rw [HO.out]; kernel_rfl) (by rw [HO.out]; kernel_rfl) (by rw [HQ.out]; exact fun _ _ _ h => h) (Or.inl ⟨by rw [HO.out]; kernel_rfl, ?_⟩) hS ?_
            · intro w' hSw
              go_simp
            try simp only [Act.put, List.setIfInBounds_toArray, List.set_cons_zero, List.set_cons_succ]
            refine wpAnyH_take (i := 11) (v := undef) (by rw [HO.out]; simp only [List.getElem?_toArray, List.getElem?_cons_succ, List.getElem?_cons_zero]; rfl) (by rw [HO.out]; kernel_rfl) (by rw [HO.out]; kernel_rfl) (by rw [HO.out]; kernel_rfl) (by rw [HQ.out]; exact fun _ _ _ h => h) (Or.inr ⟨by rw [HO.out]; kernel_rfl, rfl⟩) hS ?_
            try simp only [Act.put, List.setIfInBounds_toArray, List.set_cons_zero, List.set_cons_succ]
            refine wpAnyH_take (i := 12) (v := undef) (by rw [HO.out]; simp only [List.getElem?_toArray, List.getElem?_cons_succ, List.getElem?_cons_zero]; rfl) (by rw [HO.out]; kernel_rfl) (by rw [HO.out]; kernel_rfl) (by rw [HO.out]; kernel_rfl) (by rw [HQ.out]; exact fun _ _ _ h => h) (Or.inr ⟨by rw [HO.out]; kernel_rfl, rfl⟩) hS ?_
            try simp only [Act.put, List.setIfInBounds_toArray, List.set_cons_zero, List.set_cons_succ]
            refine wpAnyH_take (i := 13) (v := undef) (by rw [HO.out]; simp only [List.getElem?_toArray, List.getElem?_cons_succ, List.getElem?_cons_zero]; rfl) (by rw [HO.out]; kernel_rfl) (by rw [HO.out]; kernel_rfl) (by rw [HO.out]; kernel_rfl) (by rw [HQ.out]; exact fun _ _ _ h => h) (Or.inr ⟨by rw [HO.out]; kernel_rfl, rfl⟩) hS ?_
            try simp only [Act.put, List.setIfInBounds_toArray, List.set_cons_zero, List.set_cons_succ]
            refine wpAnyH_take (i := 14) (v := undef) (by rw [HO.out]; simp only [List.getElem?_toArray, List.getElem?_cons_succ, List.getElem?_cons_zero]; rfl) (by rw [HO.out]; kernel_rfl) (by rw [HO.out]; kernel_rfl) (by rw [HO.out]; kernel_rfl) (by rw [HQ.out]; exact fun _ _ _ h => h) (Or.inr ⟨by rw [HO.out]; kernel_rfl, rfl⟩) hS ?_
            try simp only [Act.put, List.setIfInBounds_toArray, List.set_cons_zero, List.set_cons_succ]
            refine wpAnyH_take (i := 15) (v := undef) (by rw [HO.out]; simp only [List.getElem?_toArray, List.getElem?_cons_succ, List.getElem?_cons_zero]; rfl) (by rw [HO.out]; kernel_rfl) (by rw [HO.out]; kernel_rfl) (by rw [HO.out]; kernel_rfl) (by rw [HQ.out]; exact fun _ _ _ h => h) (Or.inr ⟨by rw [HO.out]; kernel_rfl, rfl⟩) hS ?_
            try simp only [Act.put, List.setIfInBounds_toArray, List.set_cons_zero, List.set_cons_succ]
            refine wpAnyH_take (i := 16) (v := .bool false) (by rw [HO.out]; simp only [List.getElem?_toArray, List.getElem?_cons_succ, List.getElem?_cons_zero]; rfl) (by rw [HO.out]; kernel_rfl) (by rw [HO.out]; kernel_rfl) (by rw [HO.out]; kernel_rfl) (by rw [HQ.out]; exact fun _ _ _ h => h) (Or.inl ⟨by rw [HO.out]; kernel_rfl, ?_⟩) hS ?_
            · intro w' hSw
              go_simp
            try simp only [Act.put, List.setIfInBounds_toArray, List.set_cons_zero, List.set_cons_succ]
            refine wpAnyH_take (i := 17) (v := .bool false) (by rw [HO.out]; simp only [List.getElem?_toArray, List.getElem?_cons_succ, List.getElem?_cons_zero]; rfl) (by rw [HO.out]; kernel_rfl) (by rw [HO.out]; kernel_rfl) (by rw [HO.out]; kernel_rfl) (by rw [HQ.out]; exact fun _ _ _ h => h) (Or.inl ⟨by rw [HO.out]; kernel_rfl, ?_⟩) hS ?_
            · intro w' hSw
              go_simp
            try simp only [Act.put, List.setIfInBounds_toArray, List.set_cons_zero, List.set_cons_succ]
            refine wpAnyH_take (i := 18) (v := .bool false) (by rw [HO.out]; simp only [List.getElem?_toArray, List.getElem?_cons_succ, List.getElem?_cons_zero]; rfl) (by rw [HO.out]; kernel_rfl) (by rw [HO.out]; kernel_rfl) (by rw [HO.out]; kernel_rfl) (by rw [HQ.out]; exact fun _ _ _ h => h) (Or.inl ⟨by rw [HO.out]; kernel_rfl, ?_⟩) hS ?_
            · intro w' hSw
              go_simp
            try simp only [Act.put, List.setIfInBounds_toArray, List.set_cons_zero, List.set_cons_succ]
            refine wpAnyH_take (i := 19) (v := .int .i64 k) (by rw [HO.out]; simp only [List.getElem?_toArray, List.getElem?_cons_succ, List.getElem?_cons_zero]; rfl) (by rw [HO.out]; kernel_rfl) (by rw [HO.out]; kernel_rfl) (by rw [HO.out]; kernel_rfl) (by rw [HQ.out]; exact fun _ _ _ h => h) (Or.inl ⟨by rw [HO.out]; kernel_rfl, ?_⟩) hS ?_
            · intro w' hSw
              go_simp
            try simp only [Act.put, List.setIfInBounds_toArray, List.set_cons_zero, List.set_cons_succ]
            refine wpAnyH_take (i := 20) (v := .int .i64 n) (by rw [HO.out]; simp only [List.getElem?_toArray, List.getElem?_cons_succ, List.getElem?_cons_zero]; rfl) (by rw [HO.out]; kernel_rfl) (by rw [HO.out]; kernel_rfl) (by rw [HO.out]; kernel_rfl) (by rw [HQ.out]; exact fun _ _ _ h => h) (Or.inl ⟨by rw [HO.out]; kernel_rfl, ?_⟩) hS ?_
            · intro w' hSw
              go_simp
            try simp only [Act.put, List.setIfInBounds_toArray, List.set_cons_zero, List.set_cons_succ]
            refine wpAnyH_take (i := 21) (v := .bool true) (by rw [HO.out]; simp only [List.getElem?_toArray, List.getElem?_cons_succ, List.getElem?_cons_zero]; rfl) (by rw [HO.out]; kernel_rfl) (by rw [HO.out]; kernel_rfl) (by rw [HO.out]; kernel_rfl) (by rw [HQ.out]; exact fun _ _ _ h => h) (Or.inl ⟨by rw [HO.out]; kernel_rfl, ?_⟩) hS ?_
            · intro w' hSw
              go_simp
            try simp only [Act.put, List.setIfInBounds_toArray, List.set_cons_zero, List.set_cons_succ]
            refine wpAnyH_take (i := 22) (v := .bool true) (by rw [HO.out]; simp only [List.getElem?_toArray, List.getElem?_cons_succ, List.getElem?_cons_zero]; rfl) (by rw [HO.out]; kernel_rfl) (by rw [HO.out]; kernel_rfl) (by rw [HO.out]; kernel_rfl) (by rw [HQ.out]; exact fun _ _ _ h => h) (Or.inl ⟨by rw [HO.out]; kernel_rfl, ?_⟩) hS ?_
            · intro w' hSw
              go_simp
            try simp only [Act.put, List.setIfInBounds_toArray, List.set_cons_zero, List.set_cons_succ]
            refine wpAnyH_take (i := 23) (v := .slice (some ⟨gx, 0, none⟩) 256 cx) (by rw [HO.out]; simp only [List.getElem?_toArray, List.getElem?_cons_succ, List.getElem?_cons_zero]; rfl) (by rw [HO.out]; kernel_rfl) (by rw [HO.out]; kernel_rfl) (by rw [HO.out]; kernel_rfl) (by rw [HQ.out]; exact fun _ _ _ h => h) (Or.inl ⟨by rw [HO.out]; kernel_rfl, ?_⟩) hS ?_
            · intro w' hSw
              go_simp
            try simp only [Act.put, List.setIfInBounds_toArray, List.set_cons_zero, List.set_cons_succ]
            refine wpAnyH_take (i := 24) (v := .string sta) (by rw [HO.out]; simp only [List.getElem?_toArray, List.getElem?_cons_succ, List.getElem?_cons_zero]; rfl) (by rw [HO.out]; kernel_rfl) (by rw [HO.out]; kernel_rfl) (by rw [HO.out]; kernel_rfl) (by rw [HQ.out]; exact fun _ _ _ h => h) (Or.inl ⟨by rw [HO.out]; kernel_rfl, ?_⟩) hS ?_
            · intro w' hSw
              have hca := (SL.out w' hSw).2.1
              go_simp
            try simp only [Act.put, List.setIfInBounds_toArray, List.set_cons_zero, List.set_cons_succ]
            refine wpAnyH_take (i := 25) (v := .int .u8 cb) (by rw [HO.out]; simp only [List.getElem?_toArray, List.getElem?_cons_succ, List.getElem?_cons_zero]; rfl) (by rw [HO.out]; kernel_rfl) (by rw [HO.out]; kernel_rfl) (by rw [HO.out]; kernel_rfl) (by rw [HQ.out]; exact fun _ _ _ h => h) (Or.inl ⟨by rw [HO.out]; kernel_rfl, ?_⟩) hS ?_
            · intro w' hSw
              go_simp
            try simp only [Act.put, List.setIfInBounds_toArray, List.set_cons_zero, List.set_cons_succ]
            refine wpAnyH_ready (rs := [26]) (by rw [HO.out]; kernel_rfl) (by simp) ?_
            refine AllReadyH.cons (o := _) (by rw [HO.out]; simp only [List.getElem?_toArray, List.getElem?_cons_succ, List.getElem?_cons_zero]; rfl) (fun K1 hK1 => ?_) AllReadyH.nil
            rw [HO.out]
            go_simp
            refine (Q24.out _ hS).mono ?_
            rintro e w12 ⟨g12, rfl, s12, hb12⟩
            refine hK1.out _ _ hb12 (fun hS1 => ?_)
            try simp only [Act.put, List.setIfInBounds_toArray, List.set_cons_zero, List.set_cons_succ]
            refine wpAnyH_ready (rs := [27]) (by rw [HO.out]; kernel_rfl) (by simp) ?_
            refine AllReadyH.cons (o := _) (by rw [HO.out]; simp only [List.getElem?_toArray, List.getElem?_cons_succ, List.getElem?_cons_zero]; rfl) (fun K2 hK2 => ?_) AllReadyH.nil
            rw [HO.out]
            go_simp
            refine hK2.out _ _ hb12 (fun hS2 => ?_)
            try simp only [Act.put, List.setIfInBounds_toArray, List.set_cons_zero, List.set_cons_succ]
            refine wpAnyH_take (i := 28) (v := .bool false) (by rw [HO.out]; simp only [List.getElem?_toArray, List.getElem?_cons_succ, List.getElem?_cons_zero]; rfl) (by rw [HO.out]; kernel_rfl) (by rw [HO.out]; kernel_rfl) (by rw [HO.out]; kernel_rfl) (by rw [HQ.out]; exact fun _ _ _ h => h) (Or.inl ⟨by rw [HO.out]; kernel_rfl, ?_⟩) hb12 ?_
            · intro w' hSw
              go_simp
            try simp only [Act.put, List.setIfInBounds_toArray, List.set_cons_zero, List.set_cons_succ]
            refine wpAnyH_take (i := 29) (v := .bool false) (by rw [HO.out]; simp only [List.getElem?_toArray, List.getElem?_cons_succ, List.getElem?_cons_zero]; rfl) (by rw [HO.out]; kernel_rfl) (by rw [HO.out]; kernel_rfl) (by rw [HO.out]; kernel_rfl) (by rw [HQ.out]; exact fun _ _ _ h => h) (Or.inl ⟨by rw [HO.out]; kernel_rfl, ?_⟩) hb12 ?_
            · intro w' hSw
              go_simp
            try simp only [Act.put, List.setIfInBounds_toArray, List.set_cons_zero, List.set_cons_succ]
            refine wpAnyH_take (i := 30) (v := .bool false) (by rw [HO.out]; simp only [List.getElem?_toArray, List.getElem?_cons_succ, List.getElem?_cons_zero]; rfl) (by rw [HO.out]; kernel_rfl) (by rw [HO.out]; kernel_rfl) (by rw [HO.out]; kernel_rfl) (by rw [HQ.out]; exact fun _ _ _ h => h) (Or.inl ⟨by rw [HO.out]; kernel_rfl, ?_⟩) hb12 ?_
            · intro w' hSw
              go_simp
            try simp only [Act.put, List.setIfInBounds_toArray, List.set_cons_zero, List.set_cons_succ]
            refine wpAnyH_done (by rw [HO.out]; kernel_rfl) ?_ _
            rw [HQ.out]
            refine NoPanic.normal ?_
            have TC : Hid (Two w _ p nb mb (readS sd k) q qb qm (readS sf k)) := T11.out.2.2.1.below hb12
            clear SL Q24 T10 T11
            go_wp2_with fail
            go_roundw
            case rel => exact ⟨k + 1, readS sd k, readS sf k, by omega, by go_num, TC.out, HD2.out, HF2.out⟩
            case measure => simp [intOf]; omega
          · have CD2 : Hid (Calls Try.prog 15 #[.pointer (some ⟨p, 0, none⟩), .int .i64 k] wr fun e w' => ∃ g cg, e = .returned (.tuple #[.slice (some ⟨g, 0, none⟩) 256 cg, .int .i64 0]) ∧ Hid (BV w' (some ⟨g, 0, none⟩) (s1.B k) ∧ g ∉ [q, qb, qm] ∧ Two w w' p nb mb (readS sd k) q qb qm sf ∧ Off [p, nb, mb] wr w')) := by
              refine (mread_ok wr k (s1.B k) HTW.out.1 rd.1 (by rw [rd.2.2.1, HSD.out.2.1, upd_other _ _ hkn]) (HISB.out k hlt)).mono ?_
              rintro e w' ⟨g, cg, rfl, h1, h2, h3, h4⟩
              exact ⟨g, cg, rfl, h1, fun hx => by have := HTW.out.2.1.lt g hx; omega, HTW.out.left h3 h4, h4⟩
            obtain ⟨hq, hq2⟩ := ne_bools hkn
            clear rd rf HTW HSD HSF hkn
            go_wp2_with (first
              | (go_at_call_of 15 q; refine (CF.out _ T10.out.2.2.1).mono ?_; rintro e w11 ⟨gy, cy, rfl, T11⟩; clear CF)
              | (go_at_call 15; refine (CD2.out).mono ?_; rintro e w10 ⟨gx, cx, rfl, T10⟩; clear CD2)
              | fail)
            have SL : Hid (∀ W, Below w11.heap.size w11 W → Below w11.heap.size w11 W ∧ (convert 32 9 (.slice (some ⟨gx, 0, none⟩) 256 cx)).run Try.prog W = .ok (.string (strOfNums (s1.B k))) W ∧ (convert 32 9 (.slice (some ⟨gy, 0, none⟩) 256 cy)).run Try.prog W = .ok (.string (strOfNums (s1.B k))) W) := fun W hW => ⟨hW, conv_bv ((T10.out.1.offX T11.out.2.2.2 (fun b off e hm => by simp at e; rw [← e.1] at hm; exact T10.out.2.1 hm)).below hW) (HISB.out k hlt), conv_bv (T11.out.1.below hW) (HISB.out k hlt)⟩
            have Q24 : Hid (∀ W, Below w11.heap.size w11 W → Calls Try.prog 24 #[.int .u8 cb] W fun e w' => ∃ g, e = .returned (.slice (some ⟨g, 0, none⟩) 256 256) ∧ (convert 32 9 (.slice (some ⟨g, 0, none⟩) 256 256)).run Try.prog w' = .ok (.string (strOfNums (List.replicate 256 cb))) w' ∧ Below w11.heap.size w11 w') := fun W hW => by
              refine (HFU.out W p nb mb _ cb hcc.2.2.1 hcc.2.2.2 (T11.out.2.2.1.1.below hW)).mono ?_
              rintro e w' ⟨g, rfl, h1, h4⟩
              exact ⟨g, rfl, conv_bv h1.out.1 List.length_replicate, hW.trans (h4.mono hW.size)⟩
            generalize strOfNums (s1.B k) = sta at *
            refine wp_region_noPanic ?_
            refine name_ops ?_
            intro O QQ HO HQ
            refine wp_region_held_drew (S := (fun w' => Below w11.heap.size w11 w')) (by kernel_rfl) (Below.refl _ _).drew (fun hS => ?_)
            rw [show O.size = 31 by rw [HO.out]; rfl]
            refine wpAnyH_take (i := 0) (v := .int .i64 0) (by rw [HO.out]; simp only [List.getElem?_toArray, List.getElem?_cons_succ, List.getElem?_cons_zero]; rfl) (by rw [HO.out]; kernel_rfl) (by rw [HO.out]; kernel_rfl) (by rw [HO.out]; kernel_rfl) (by rw [HQ.out]; exact fun _ _ _ h => h) (Or.inl ⟨by rw [HO.out]; kernel_rfl, ?_⟩) hS ?_
            · intro w' hSw
              go_simp
            try simp only [Act.put, List.setIfInBounds_toArray, List.set_cons_zero, List.set_cons_succ]
            refine wpAnyH_take (i := 1) (v := .bool false) (by rw [HO.out]; simp only [List.getElem?_toArray, List.getElem?_cons_succ, List.getElem?_cons_zero]; rfl) (by rw [HO.out]; kernel_rfl) (by rw [HO.out]; kernel_rfl) (by rw [HO.out]; kernel_rfl) (by rw [HQ.out]; exact fun _ _ _ h => h) (Or.inl ⟨by rw [HO.out]; kernel_rfl, ?_⟩) hS ?_
            · intro w' hSw
              go_simp
            try simp only [Act.put, List.setIfInBounds_toArray, List.set_cons_zero, List.set_cons_succ]
            refine wpAnyH_take (i := 2) (v := .bool false) (by rw [HO.out]; simp only [List.getElem?_toArray, List.getElem?_cons_succ, List.getElem?_cons_zero]; rfl) (by rw [HO.out]; kernel_rfl) (by rw [HO.out]; kernel_rfl) (by rw [HO.out]; kernel_rfl) (by rw [HQ.out]; exact fun _ _ _ h => h) (Or.inl ⟨by rw [HO.out]; kernel_rfl, ?_⟩) hS ?_
            · intro w' hSw
              go_simp
            try simp only [Act.put, List.setIfInBounds_toArray, List.set_cons_zero, List.set_cons_succ]
            refine wpAnyH_take (i := 3) (v := .int .i64 0) (by rw [HO.out]; simp only [List.getElem?_toArray, List.getElem?_cons_succ, List.getElem?_cons_zero]; rfl) (by rw [HO.out]; kernel_rfl) (by rw [HO.out]; kernel_rfl) (by rw [HO.out]; kernel_rfl) (by rw [HQ.out]; exact fun _ _ _ h => h) (Or.inl ⟨by rw [HO.out]; kernel_rfl, ?_⟩) hS ?_
            · intro w' hSw
              go_simp
            try simp only [Act.put, List.setIfInBounds_toArray, List.set_cons_zero, List.set_cons_succ]
            refine wpAnyH_take (i := 4) (v := .bool false) (by rw [HO.out]; simp only [List.getElem?_toArray, List.getElem?_cons_succ, List.getElem?_cons_zero]; rfl) (by rw [HO.out]; kernel_rfl) (by rw [HO.out]; kernel_rfl) (by rw [HO.out]; kernel_rfl) (by rw [HQ.out]; exact fun _ _ _ h => h) (Or.inl ⟨by rw [HO.out]; kernel_rfl, ?_⟩) hS ?_
            · intro w' hSw
              go_simp
            try simp only [Act.put, List.setIfInBounds_toArray, List.set_cons_zero, List.set_cons_succ]
            refine wpAnyH_take (i := 5) (v := .bool false) (by rw [HO.out]; simp only [List.getElem?_toArray, List.getElem?_cons_succ, List.getElem?_cons_zero]; rfl) (by rw [HO.out]; kernel_rfl) (by rw [HO.out]; kernel_rfl) (by rw [HO.out]; kernel_rfl) (by rw [HQ.out]; exact fun _ _ _ h => h) (Or.inl ⟨by rw [HO.out]; kernel_rfl, ?_⟩) hS ?_
            · intro w' hSw
              go_simp
            try simp only [Act.put, List.setIfInBounds_toArray, List.set_cons_zero, List.set_cons_succ]
            refine wpAnyH_take (i := 6) (v := .bool false) (by rw [HO.out]; simp only [List.getElem?_toArray, List.getElem?_cons_succ, List.getElem?_cons_zero]; rfl) (by rw [HO.out]; kernel_rfl) (by rw [HO.out]; kernel_rfl) (by rw [HO.out]; kernel_rfl) (by rw [HQ.out]; exact fun _ _ _ h => h) (Or.inl ⟨by rw [HO.out]; kernel_rfl, ?_⟩) hS ?_
            · intro w' hSw
              go_simp
            try simp only [Act.put, List.setIfInBounds_toArray, List.set_cons_zero, List.set_cons_succ]
            refine wpAnyH_take (i := 7) (v := .int .i64 k) (by rw [HO.out]; simp only [List.getElem?_toArray, List.getElem?_cons_succ, List.getElem?_cons_zero]; rfl) (by rw [HO.out]; kernel_rfl) (by rw [HO.out]; kernel_rfl) (by rw [HO.out]; kernel_rfl) (by rw [HQ.out]; exact fun _ _ _ h => h) (Or.inl ⟨by rw [HO.out]; kernel_rfl, ?_⟩) hS ?_
            · intro w' hSw
              go_simp
            try simp only [Act.put, List.setIfInBounds_toArray, List.set_cons_zero, List.set_cons_succ]
            refine wpAnyH_take (i := 8) (v := .int .i64 n) (by rw [HO.out]; simp only [List.getElem?_toArray, List.getElem?_cons_succ, List.getElem?_cons_zero]; rfl) (by rw [HO.out]; kernel_rfl) (by rw [HO.out]; kernel_rfl) (by rw [HO.out]; kernel_rfl) (by rw [HQ.out]; exact fun _ _ _ h => h) (Or.inl ⟨by rw [HO.out]; kernel_rfl, ?_⟩) hS ?_
            · intro w' hSw
              go_simp
            try simp only [Act.put, List.setIfInBounds_toArray, List.set_cons_zero, List.set_cons_succ]
            refine wpAnyH_take (i := 9) (v := .bool true) (by rw [HO.out]; simp only [List.getElem?_toArray, List.getElem?_cons_succ, List.getElem?_cons_zero]; rfl) (by rw [HO.out]; kernel_rfl) (by rw [HO.out]; kernel_rfl) (by rw [HO.out]; kernel_rfl) (by rw [HQ.out]; exact fun _ _ _ h => h) (Or.inl ⟨by rw [HO.out]; kernel_rfl, ?_⟩) hS ?_
            · intro w' hSw
              go_simp
            try simp only [Act.put, List.setIfInBounds_toArray, List.set_cons_zero, List.set_cons_succ]
            refine wpAnyH_take (i := 10) (v := .bool true) (by rw [HO.out]; simp only [List.getElem?_toArray, List.getElem?_cons_succ, List.getElem?_cons_zero]; rfl) (by rw [HO.out]; kernel_rfl) (by rw [HO.out]; kernel_rfl) (by rw [HO.out]; kernel_rfl) (by rw [HQ.out]; exact fun _ _ _ h => h) (Or.inl ⟨by rw [HO.out]; kernel_rfl, ?_⟩) hS ?_
            · intro w' hSw
              go_simp
            try simp only [Act.put, List.setIfInBounds_toArray, List.set_cons_zero, List.set_cons_succ]
            refine wpAnyH_take (i := 11) (v := .slice (some ⟨gx, 0, none⟩) 256 cx) (by rw [HO.out]; simp only [List.getElem?_toArray, List.getElem?_cons_succ, List.getElem?_cons_zero]; rfl) (by rw [HO.out]; kernel_rfl) (by rw [HO.out]; kernel_rfl) (by rw [HO.out]; kernel_rfl) (by rw [HQ.out]; exact fun _ _ _ h => h) (Or.inl ⟨by rw [HO.out]; kernel_rfl, ?_⟩) hS ?_
            · intro w' hSw
              go_simp
            try simp only [Act.put, List.setIfInBounds_toArray, List.set_cons_zero, List.set_cons_succ]
            refine wpAnyH_take (i := 12) (v := .string sta) (by rw [HO.out]; simp only [List.getElem?_toArray, List.getElem?_cons_succ, List.getElem?_cons_zero]; rfl) (by rw [HO.out]; kernel_rfl) (by rw [HO.out]; kernel_rfl) (by rw [HO.out]; kernel_rfl) (by rw [HQ.out]; exact fun _ _ _ h => h) (Or.inl ⟨by rw [HO.out]; kernel_rfl, ?_⟩) hS ?_
            · intro w' hSw
              have hca := (SL.out w' hSw).2.1
              go_simp
            try simp only [Act.put, List.setIfInBounds_toArray, List.set_cons_zero, List.set_cons_succ]
            refine wpAnyH_take (i := 13) (v := .slice (some ⟨gy, 0, none⟩) 256 cy) (by rw [HO.out]; simp only [List.getElem?_toArray, List.getElem?_cons_succ, List.getElem?_cons_zero]; rfl) (by rw [HO.out]; kernel_rfl) (by rw [HO.out]; kernel_rfl) (by rw [HO.out]; kernel_rfl) (by rw [HQ.out]; exact fun _ _ _ h => h) (Or.inl ⟨by rw [HO.out]; kernel_rfl, ?_⟩) hS ?_
            · intro w' hSw
              go_simp
            try simp only [Act.put, List.setIfInBounds_toArray, List.set_cons_zero, List.set_cons_succ]
            refine wpAnyH_take (i := 14) (v := .string sta) (by rw [HO.out]; simp only [List.getElem?_toArray, List.getElem?_cons_succ, List.getElem?_cons_zero]; rfl) (by rw [HO.out]; kernel_rfl) (by rw [HO.out]; kernel_rfl) (by rw [HO.out]; kernel_rfl) (by rw [HQ.out]; exact fun _ _ _ h => h) (Or.inl ⟨by rw [HO.out]; kernel_rfl, ?_⟩) hS ?_
            · intro w' hSw
              have hcb := (SL.out w' hSw).2.2
              go_simp
            try simp only [Act.put, List.setIfInBounds_toArray, List.set_cons_zero, List.set_cons_succ]
            refine wpAnyH_take (i := 15) (v := .bool false) (by rw [HO.out]; simp only [List.getElem?_toArray, List.getElem?_cons_succ, List.getElem?_cons_zero]; rfl) (by rw [HO.out]; kernel_rfl) (by rw [HO.out]; kernel_rfl) (by rw [HO.out]; kernel_rfl) (by rw [HQ.out]; exact fun _ _ _ h => h) (Or.inl ⟨by rw [HO.out]; kernel_rfl, ?_⟩) hS ?_
            · intro w' hSw
              go_simp
            try simp only [Act.put, List.setIfInBounds_toArray, List.set_cons_zero, List.set_cons_succ]
            refine wpAnyH_take (i := 16) (v := .bool false) (by rw [HO.out]; simp only [List.getElem?_toArray, List.getElem?_cons_succ, List.getElem?_cons_zero]; rfl) (by rw [HO.out]; kernel_rfl) (by rw [HO.out]; kernel_rfl) (by rw [HO.out]; kernel_rfl) (by rw [HQ.out]; exact fun _ _ _ h => h) (Or.inl ⟨by rw [HO.out]; kernel_rfl, ?_⟩) hS ?_
            · intro w' hSw
              go_simp
            try simp only [Act.put, List.setIfInBounds_toArray, List.set_cons_zero, List.set_cons_succ]
            refine wpAnyH_take (i := 17) (v := .bool false) (by rw [HO.out]; simp only [List.getElem?_toArray, List.getElem?_cons_succ, List.getElem?_cons_zero]; rfl) (by rw [HO.out]; kernel_rfl) (by rw [HO.out]; kernel_rfl) (by rw [HO.out]; kernel_rfl) (by rw [HQ.out]; exact fun _ _ _ h => h) (Or.inl ⟨by rw [HO.out]; kernel_rfl, ?_⟩) hS ?_
            · intro w' hSw
              go_simp
            try simp only [Act.put, List.setIfInBounds_toArray, List.set_cons_zero, List.set_cons_succ]
            refine wpAnyH_take (i := 18) (v := .bool false) (by rw [HO.out]; simp only [List.getElem?_toArray, List.getElem?_cons_succ, List.getElem?_cons_zero]; rfl) (by rw [HO.out]; kernel_rfl) (by rw [HO.out]; kernel_rfl) (by rw [HO.out]; kernel_rfl) (by rw [HQ.out]; exact fun _ _ _ h => h) (Or.inl ⟨by rw [HO.out]; kernel_rfl, ?_⟩) hS ?_
            · intro w' hSw
              go_simp
            try simp only [Act.put, List.setIfInBounds_toArray, List.set_cons_zero, List.set_cons_succ]
            refine wpAnyH_take (i := 19) (v := .int .i64 k) (by rw [HO.out]; simp only [List.getElem?_toArray, List.getElem?_cons_succ, List.getElem?_cons_zero]; rfl) (by rw [HO.out]; kernel_rfl) (by rw [HO.out]; kernel_rfl) (by rw [HO.out]; kernel_rfl) (by rw [HQ.out]; exact fun _ _ _ h => h) (Or.inl ⟨by rw [HO.out]; kernel_rfl, ?_⟩) hS ?_
            · intro w' hSw
              go_simp
            try simp only [Act.put, List.setIfInBounds_toArray, List.set_cons_zero, List.set_cons_succ]
            refine wpAnyH_take (i := 20) (v := .int .i64 n) (by rw [HO.out]; simp only [List.getElem?_toArray, List.getElem?_cons_succ, List.getElem?_cons_zero]; rfl) (by rw [HO.out]; kernel_rfl) (by rw [HO.out]; kernel_rfl) (by rw [HO.out]; kernel_rfl) (by rw [HQ.out]; exact fun _ _ _ h => h) (Or.inl ⟨by rw [HO.out]; kernel_rfl, ?_⟩) hS ?_
            · intro w' hSw
              go_simp
            try simp only [Act.put, List.setIfInBounds_toArray, List.set_cons_zero, List.set_cons_succ]
            refine wpAnyH_take (i := 21) (v := .bool false) (by rw [HO.out]; simp only [List.getElem?_toArray, List.getElem?_cons_succ, List.getElem?_cons_zero]; rfl) (by rw [HO.out]; kernel_rfl) (by rw [HO.out]; kernel_rfl) (by rw [HO.out]; kernel_rfl) (by rw [HQ.out]; exact fun _ _ _ h => h) (Or.inl ⟨by rw [HO.out]; kernel_rfl, ?_⟩) hS ?_
            · intro w' hSw
              go_simp
            try simp only [Act.put, List.setIfInBounds_toArray, List.set_cons_zero, List.set_cons_succ]
            refine wpAnyH_take (i := 22) (v := .bool false) (by rw [HO.out]; simp only [List.getElem?_toArray, List.getElem?_cons_succ, List.getElem?_cons_zero]; rfl) (by rw [HO.out]; kernel_rfl) (by rw [HO.out]; kernel_rfl) (by rw [HO.out]; kernel_rfl) (by rw [HQ.out]; exact fun _ _ _ h => h) (Or.inl ⟨by rw [HO.out]; kernel_rfl, ?_⟩) hS ?_
            · intro w' hSw
              go_simp
            try simp only [Act.put, List.setIfInBounds_toArray, List.set_cons_zero, List.set_cons_succ]
            refine wpAnyH_take (i := 23) (v := undef) (by rw [HO.out]; simp only [List.getElem?_toArray, List.getElem?_cons_succ, List.getElem?_cons_zero]; rfl) (by rw [HO.out]; kernel_rfl) (by rw [HO.out]; kernel_rfl) (by rw [HO.out]; kernel_rfl) (by rw [HQ.out]; exact fun _ _ _ h => h) (Or.inr ⟨by rw [HO.out]; kernel_rfl, rfl⟩) hS ?_
            try simp only [Act.put, List.setIfInBounds_toArray, List.set_cons_zero, List.set_cons_succ]
            refine wpAnyH_take (i := 24) (v := undef) (by rw [HO.out]; simp only [List.getElem?_toArray, List.getElem?_cons_succ, List.getElem?_cons_zero]; rfl) (by rw [HO.out]; kernel_rfl) (by rw [HO.out]; kernel_rfl) (by rw [HO.out]; kernel_rfl) (by rw [HQ.out]; exact fun _ _ _ h => h) (Or.inr ⟨by rw [HO.out]; kernel_rfl, rfl⟩) hS ?_
            try simp only [Act.put, List.setIfInBounds_toArray, List.set_cons_zero, List.set_cons_succ]
            refine wpAnyH_take (i := 25) (v := undef) (by rw [HO.out]; simp only [List.getElem?_toArray, List.getElem?_cons_succ, List.getElem?_cons_zero]; rfl) (by rw [HO.out]; kernel_rfl) (by rw [HO.out]; kernel_rfl) (by rw [HO.out]; kernel_rfl) (by rw [HQ.out]; exact fun _ _ _ h => h) (Or.inr ⟨by rw [HO.out]; kernel_rfl, rfl⟩) hS ?_
            try simp only [Act.put, List.setIfInBounds_toArray, List.set_cons_zero, List.set_cons_succ]
            refine wpAnyH_take (i := 26) (v := undef) (by rw [HO.out]; simp only [List.getElem?_toArray, List.getElem?_cons_succ, List.getElem?_cons_zero]; rfl) (by rw [HO.out]; kernel_rfl) (by rw [HO.out]; kernel_rfl) (by rw [HO.out]; kernel_rfl) (by rw [HQ.out]; exact fun _ _ _ h => h) (Or.inr ⟨by rw [HO.out]; kernel_rfl, rfl⟩) hS ?_
            try simp only [Act.put, List.setIfInBounds_toArray, List.set_cons_zero, List.set_cons_succ]
            refine wpAnyH_take (i := 27) (v := undef) (by rw [HO.out]; simp only [List.getElem?_toArray, List.getElem?_cons_succ, List.getElem?_cons_zero]; rfl) (by rw [HO.out]; kernel_rfl) (by rw [HO.out]; kernel_rfl) (by rw [HO.out]; kernel_rfl) (by rw [HQ.out]; exact fun _ _ _ h => h) (Or.inr ⟨by rw [HO.out]; kernel_rfl, rfl⟩) hS ?_
            try simp only [Act.put, List.setIfInBounds_toArray, List.set_cons_zero, List.set_cons_succ]
            refine wpAnyH_take (i := 28) (v := undef) (by rw [HO.out]; simp only [List.getElem?_toArray, List.getElem?_cons_succ, List.getElem?_cons_zero]; rfl) (by rw [HO.out]; kernel_rfl) (by rw [HO.out]; kernel_rfl) (by rw [HO.out]; kernel_rfl) (by rw [HQ.out]; exact fun _ _ _ h => h) (Or.inr ⟨by rw [HO.out]; kernel_rfl, rfl⟩) hS ?_
            try simp only [Act.put, List.setIfInBounds_toArray, List.set_cons_zero, List.set_cons_succ]
            refine wpAnyH_take (i := 29) (v := .bool false) (by rw [HO.out]; simp only [List.getElem?_toArray, List.getElem?_cons_succ, List.getElem?_cons_zero]; rfl) (by rw [HO.out]; kernel_rfl) (by rw [HO.out]; kernel_rfl) (by rw [HO.out]; kernel_rfl) (by rw [HQ.out]; exact fun _ _ _ h => h) (Or.inl ⟨by rw [HO.out]; kernel_rfl, ?_⟩) hS ?_
            · intro w' hSw
              go_simp
            try simp only [Act.put, List.setIfInBounds_toArray, List.set_cons_zero, List.set_cons_succ]
            refine wpAnyH_take (i := 30) (v := .bool false) (by rw [HO.out]; simp only [List.getElem?_toArray, List.getElem?_cons_succ, List.getElem?_cons_zero]; rfl) (by rw [HO.out]; kernel_rfl) (by rw [HO.out]; kernel_rfl) (by rw [HO.out]; kernel_rfl) (by rw [HQ.out]; exact fun _ _ _ h => h) (Or.inl ⟨by rw [HO.out]; kernel_rfl, ?_⟩) hS ?_
            · intro w' hSw
              go_simp
            try simp only [Act.put, List.setIfInBounds_toArray, List.set_cons_zero, List.set_cons_succ]
            refine wpAnyH_done (by rw [HO.out]; kernel_rfl) ?_ _
            rw [HQ.out]
            refine NoPanic.normal ?_
            have TC : Hid (Two w _ p nb mb (readS sd k) q qb qm (readS sf k)) := T11.out.2.2.1.below (Below.refl _ _).drew
            clear SL Q24 T10 T11
            go_wp2_with fail
            go_roundw
            case rel => exact ⟨k + 1, readS sd k, readS sf k, by omega, by go_num, TC.out, HD2.out, HF2.out⟩
            case measure => simp [intOf]; omega
        · have hdk : decide ((k : Int) < 9) = false := by simp; omega
          have hqi : (inc o == inc o) = true := by simp
          go_wp2_with (first
            | (go_at_call 21; refine (COP.out _ p nb mb sd (inc o) HTW.out.1 HSD.out.2.2).mono ?_; rintro e w13 ⟨rfl, hw13⟩; obtain rfl := hw13.symm)
            | (go_at_call 8; refine (H8.out _ HTW.out.1.2.2.2.2).mono ?_; rintro e w14 ⟨rfl, hb14⟩; clear H8)
            | fail)
          go_ret
          exact ⟨rfl, hb14⟩

theorem walk (al : Option Addr) (len cap : Nat) (xs : List ActD) (at' cb : Int) (w : World) (h0 : Acts w al len cap xs) (h1 : (Lit.int .u8 at').wf = true) (h2 : (Lit.int .u8 cb).wf = true) :
    Calls Try.prog 7 #[.slice al len cap, .int .u8 at', .int .u8 cb] w fun e w' => e = .returned (.bool true) ∧ Below w.heap.size w w' := by
  have u1 := bounds_u8 h1
  have u2 := bounds_u8 h2
  by_cases h : 40 < len
  · exact walk_long al len cap at' cb w h
  · exact walk_some al len cap xs at' cb w h0 (by omega) (by omega)
set_option maxRecDepth 100000 in
theorem lifted (os : Os) (started : os.Started) (H : Type) (enc : TypeId × Value → H) :
    ReturnsInHanded {} Try.checked os 7 .any (Rows.diskApartSpec.pre6 enc Try.prog Try.f7 Rows.diskApartRow.domain false) (Rows.diskApartSpec.post enc Try.prog Try.f7 false true false false) := by
  refine returnsInHanded_of_change (C := Try.checked) own started (by kernel_rfl) Try.func7
    (ChangeSpec.witness6 (enc := enc) (C := Try.checked) false ⟨#[], #[.slice none 0 0, .int .u8 0, .int .u8 0], []⟩ 8 (by kernel_rfl) (by kernel_rfl) (by kernel_rfl) (by kernel_rfl)) ?_
  intro W base args ds gs before hval0 hW hcnd _
  have hval : ∀ (j : Nat) t v, Try.f7.params[j]? = some t → args[j]? = some v → Value.okWide Try.prog W .any base t v := hval0
  have hW' := hW
  obtain ⟨p, q, hA0, hV, rfl, hfz, hnd⟩ := hW
  have hA : DataW.TrodAll enc Try.prog W 0 (fun _ => true) true Try.f7.params.toList args.toList ds p := hA0
  rw [Try.params7] at hA hval
  obtain ⟨v0, vs0, d0, ds0, p0, q0, hargs, rfl, rfl, h0, r0⟩ := trodAll_cons hA
  obtain ⟨v1, vs1, d1, ds1, p1, q1, rfl, rfl, rfl, h1, r1⟩ := trodAll_cons r0
  obtain ⟨v2, vs2, d2, ds2, p2, q2, rfl, rfl, rfl, h2, r2⟩ := trodAll_cons r1
  obtain ⟨rfl, rfl, rfl⟩ := trodAll_nil r2
  obtain rfl : args = #[v0, v1, v2] := by cases args; simp_all
  obtain ⟨rfl, rfl⟩ := trodVars_none hV
  obtain ⟨a0, len0, cap0, rfl⟩ := okWide_slice Try.underlying22 (hval 0 22 v0 rfl rfl)
  have k0 := h0
  have lt0 : ∀ x ∈ p0, x.block < W.heap.size := by obtain ⟨m, hm⟩ := k0; exact DataW.trod_lt m _ _ _ hm
  obtain ⟨x0, w0⟩ : ∃ xs, Acts W a0 len0 cap0 xs := by
    obtain ⟨fuel, hf⟩ := h0
    exact open_acts hf
  obtain ⟨a1, rfl, rfl, rfl, w1⟩ := open_int Try.underlying5 (hval 1 5 v1 rfl rfl) h1
  obtain ⟨a2, rfl, rfl, rfl, w2⟩ := open_int Try.underlying5 (hval 2 5 v2 rfl rfl) h2
  clear hA0 hval0
  refine (walk a0 len0 cap0 x0 a1 a2 W w0 w1 w2).mono fun e W' ⟨he, bel⟩ => ?_
  subst he
  exact ⟨_, rfl, _, _, _, [], _, [], hW', trodAll_mk1 (shut_bool Try.underlying4 _), (trodAll_cons_mk (Below.trod laidOut (by kernel_rfl) (of_decide_eq_true (by kernel_rfl)) k0 bel lt0) (trodAll_cons_mk (shut_int Try.underlying5 w1) (trodAll_cons_mk (shut_int Try.underlying5 w2) trodAll_mk0))), rfl, bel.frame _, fun h => by cases h⟩

theorem over : Rows.diskApartRow.holds Try.pinned (OpenSpec.ofChange Rows.diskApartSpec) :=
  OpenClaim.holds_of_wide 7 Try.f7 rfl rfl rfl rfl rfl rfl rfl ⟨rfl, rfl, rfl, rfl, rfl⟩ rfl rfl rfl rfl rfl (by kernel_rfl) Try.func7 (by kernel_rfl)
    (of_decide_eq_true (by kernel_rfl)) (by unfold Func.isWrapper; first | (rw [if_pos (by decide +kernel)]; kernel_rfl) | (rw [if_neg (by decide +kernel)]; exact ⟨rfl, rfl⟩))
    (fun os started H enc _ => lifted os started H enc)
end Go.Proofs.Ytmapjikbplindaa.diskApart

namespace Go.Proofs.Ytmapjikbplindaa
theorem diskApart_holds : Rows.DiskApartSaid := diskApart.over
#print axioms diskApart_holds
end Go.Proofs.Ytmapjikbplindaa
