/- For any acts, any two bytes and any fate: a block that was synced is as it was behind the crash, and one that was written again is a beginning of the new bytes with the old ones behind. -/
import Derived.Test.YtmapjikbplindaaRows
import Derived.Test.YtmapjikbplindaaSt
import Derived.WalkKit
import Derived.ProofKit
import Derived.OpenShut
import Derived.ShutString
import Derived.ChangeOld
import Derived.Below
import Derived.Deep.RegionHeld3
import Derived.Deep.DeepCutAuto
import Derived.StillTailTactics
namespace Go.Proofs.Ytmapjikbplindaa.diskSafe
open Go.ChangeShapes Go.WideShapes Go.ChangeAt Go.RowKit Go.Maps
open Go.ChangeMaps (open_string shut_string)
set_option linter.unusedVariables false
set_option linter.unusedSimpArgs false
set_option maxRecDepth 20000

theorem own : ownKnob Try.prog.godebug = none := by kernel_rfl
theorem laidOut : laidOutB Try.prog = true := by kernel_rfl
theorem okWide_two {W : World} {base : Nat} {v : Value} (h : Value.okWide Try.prog W .any base 49 v) : ∃ cs, v = .agg cs ∧ cs.size = Try.prog.cellsOf 49 := by
  simp only [Value.okWide, Try.underlying49] at h
  obtain ⟨cs, h1, h2, _⟩ := h
  exact ⟨cs, h1, h2⟩
theorem c49 : Try.prog.cellsOf 49 = 2 := by kernel_rfl
theorem open_two {H : Type} {enc : TypeId × Value → H} {W : World} {base : Nat} {v : Value} {d : DataW H} {ps : List MemPlace} (hv : Value.okWide Try.prog W .any base 49 v) (h : DataW.Trod enc Try.prog W 0 (fun _ => true) true 49 v d ps) : ∃ a b : Int, v = .agg #[.int .u8 a, .int .u8 b] ∧ 0 ≤ a ∧ a ≤ 255 ∧ 0 ≤ b ∧ b ≤ 255 := by
  obtain ⟨cs, rfl, hs⟩ := okWide_two hv
  rw [c49] at hs
  obtain ⟨fuel, hf⟩ := h
  obtain ⟨ys, m, _, _, _, hl, hx⟩ := DataW.trod_array Try.underlying49 hf
  obtain ⟨v0, v1, rfl⟩ : ∃ v0 v1, cs = #[v0, v1] := by
    obtain ⟨l⟩ := cs
    match l, hs with
    | [v0, v1], _ => exact ⟨v0, v1, rfl⟩
  match ys, hl with
  | [y0, y1], _ =>
    have g0 := hx 0 (by omega)
    have g1 := hx 1 (by omega)
    simp [c5, Value.cells] at g0 g1
    obtain ⟨z0, e0, _, w0⟩ := DataW.trod_int Try.underlying5 g0
    obtain ⟨z1, e1, _, w1⟩ := DataW.trod_int Try.underlying5 g1
    have u0 := bounds_u8 w0
    have u1 := bounds_u8 w1
    simp at e0 e1
    subst e0; subst e1
    exact ⟨z0, z1, rfl, by omega, by omega, by omega, by omega⟩
/-- What the law does behind the acts. -/
structure Safe (s : DS) (a b : Int) (fs : List Int) where
  s1 : DS
  s2 : DS
  s3 : DS
  s4 : DS
  s5 : DS
  s6 : DS
  s7 : DS
  s8 : DS
  t : Nat
  e1 : s1 = crashS s []
  e2 : s2 = writeS s1 4 (List.replicate 256 a)
  e3 : s3 = writeS s2 5 (List.replicate 256 a)
  e4 : s4 = syncS s3
  e5 : s5 = writeS s4 5 (List.replicate 256 b)
  e6 : s6 = crashS s5 fs
  e7 : s7 = readS s6 4
  e8 : s8 = readS s7 5
  w2 : writeE s1 4 (List.replicate 256 a) = 0
  w3 : writeE s2 5 (List.replicate 256 a) = 0
  w4 : syncE s3 = 0
  w5 : writeE s4 5 (List.replicate 256 b) = 0
  w7 : reachE s6 4 = 0
  w8 : reachE s7 5 = 0
  r7 : readB s6 4 = List.replicate 256 a
  r8 : readB s7 5 = mix (List.replicate 256 b) (List.replicate 256 a) t
  ht : t ≤ 256
  hl : loose s8 = []
theorem safe_of {s : DS} (h : s.room = 9) (a b : Int) {fs : List Int} (hf : AllB fs) : Nonempty (Safe s a b fs) := by
  have k1 := calm_crash h []
  have q2 := k1.write 4 (by decide) (List.replicate 256 a) List.length_replicate
  have q3 := q2.2.1.write 5 (by decide) (List.replicate 256 a) List.length_replicate
  have q4 := q3.2.1.sync
  have q5 := q4.2.1.write 5 (by decide) (List.replicate 256 b) List.length_replicate
  have k6 := calm_crash q5.2.1.room fs
  have q7 := k6.read 4 (by decide)
  have q8 := q7.2.1.read 5 (by decide)
  have hB5 := q5.2.2.1
  have hS5 := q5.2.2.2.1
  have hL5 := q5.2.2.2.2.1
  rw [q4.2.2.2.2] at hL5
  have hloose : loose (writeS (syncS (writeS (writeS (crashS s []) (4 : Nat) (List.replicate 256 a)) (5 : Nat) (List.replicate 256 a))) (5 : Nat) (List.replicate 256 b)) = [5] := by
    unfold loose
    rw [q5.2.1.room, hL5]
    decide
  refine ⟨⟨_, _, _, _, _, _, _, _, (stay fs).1, rfl, rfl, rfl, rfl, rfl, rfl, rfl, rfl, q2.1, q3.1, q4.1, q5.1, q7.1, q8.1, ?_, ?_, (stay_le hf).1, ?_⟩⟩
  · refine Eq.trans q7.2.2.1 ?_
    show crashB _ _ _ _ 4 = _
    rw [hloose, crashB_notin _ _ _ _ _ (by decide), hB5, upd_other _ _ (by decide), q4.2.2.1, q3.2.2.1, upd_other _ _ (by decide), q2.2.2.1, upd_same]
  · refine Eq.trans q8.2.2.1 ?_
    rw [q7.2.2.2.1]
    show crashB _ _ _ _ 5 = _
    rw [hloose]
    refine Eq.trans (crashB_at [] [] fs _ _ 5 (by simp) (by simp)) ?_
    rw [hB5, upd_same, hS5, q4.2.2.2.1, q3.2.2.1, upd_same]
    rfl
  · have e := q8.2.2.2.2.2.1
    rw [q7.2.2.2.2.2.1] at e
    have e2 : ∀ S : DS, S.L = (fun _ => false) → loose S = [] := fun S h => by unfold loose; rw [h]; simp
    exact e2 _ (e.trans rfl)
theorem mix_at (a b : Int) (t i : Nat) (hi : i < 256) : (mix (List.replicate 256 b) (List.replicate 256 a) t).getD i 0 = if i < t then b else a := by
  unfold mix
  rw [List.take_replicate, List.drop_replicate, List.getD_eq_getElem?_getD, List.getElem?_append]
  by_cases h : i < t
  · rw [if_pos (by simp; omega), if_pos h, List.getElem?_replicate, if_pos (by omega)]; rfl
  · rw [if_neg (by simp; omega), if_neg h, List.getElem?_replicate, if_pos (by simp; omega)]; rfl
theorem mix_len (a b : Int) (t : Nat) (ht : t ≤ 256) : (mix (List.replicate 256 b) (List.replicate 256 a) t).length = 256 := by
  simp [mix]; omega
theorem mix_all2 {a b : Int} (ha : 0 ≤ a ∧ a ≤ 255) (hb : 0 ≤ b ∧ b ≤ 255) (t : Nat) : AllB (mix (List.replicate 256 b) (List.replicate 256 a) t) := by
  intro z hz
  rcases List.mem_append.1 hz with h | h
  · have := List.mem_of_mem_take h
    obtain ⟨_, rfl⟩ := List.mem_replicate.1 this; exact hb
  · have := List.mem_of_mem_drop h
    obtain ⟨_, rfl⟩ := List.mem_replicate.1 this; exact ha
set_option maxHeartbeats 800000 in
theorem walk_long (al : Option Addr) (len cap : Nat) (ca cb : Int) (fa : Option Addr) (fl fc : Nat) (w : World) (h : 40 < len) :
    Calls Try.prog 5 #[.slice al len cap, .agg #[.int .u8 ca, .int .u8 cb], .slice fa fl fc] w fun e w' => e = .returned (.bool true) ∧ Below w.heap.size w w' := by
  have HA := awake_any
  have hd : decide ((40 : Int) < (len : Int)) = true := by simp; omega
  go_enter Try.func5, Try.ntmps5
  go_wp2_with fail
  go_quiet (fail)
  go_wp2_with (first | (go_at_call 8; refine (HA _).mono ?_; rintro e w1 ⟨rfl, hb⟩; clear HA) | fail)
  go_ret
  exact ⟨rfl, (below_drewN ((Below.refl _ _).alloc (Nat.le_refl _) _) _).trans (hb.mono (by simp))⟩
set_option maxHeartbeats 6400000 in
theorem walk_some (al : Option Addr) (len cap : Nat) (xs : List ActD) (ca cb : Int) (fa : Option Addr) (fl fc : Nat) (fs : List Int) (w : World) (hacts : Acts w al len cap xs) (hcc : 0 ≤ ca ∧ ca ≤ 255 ∧ 0 ≤ cb ∧ cb ≤ 255) (hfl : fs.length = fl) (hfb : BV w fa fs) (hfc : fl ≤ fc) (hfm : fc ≤ 9223372036854775807) (h40 : len ≤ 40) :
    Calls Try.prog 5 #[.slice al len cap, .agg #[.int .u8 ca, .int .u8 cb], .slice fa fl fc] w fun e w' => e = .returned (.bool true) ∧ Below w.heap.size w w' := by
  have H8 : Hid (∀ W, Below w.heap.size w W → Calls Try.prog 8 #[] W fun e w' => e = .returned (.bool true) ∧ Below w.heap.size w w') := fun W hW => by
    refine (awake_any W).mono ?_
    rintro e w' ⟨rfl, hbb⟩
    exact ⟨rfl, hW.trans (hbb.mono hW.size)⟩
  have H9 : Hid (∀ W, Below w.heap.size w W → Calls Try.prog 9 #[.int .i64 9] W fun e w' => ∃ p nb mb, e = .returned (.pointer (some ⟨p, 0, none⟩)) ∧ Mine w w' p nb mb (newS 9)) := fun W hW => by
    refine (new_any 9 W).mono ?_
    rintro e w' ⟨p, nb, mb, rfl, hd, h1, h2, h3, hb⟩
    have := hW.size
    exact ⟨p, nb, mb, rfl, hd, by omega, by omega, by omega, hW.trans (hb.mono hW.size)⟩
  have H10 : Hid (∀ W p nb mb, Mine w W p nb mb (newS 9) → Calls Try.prog 10 #[.int .i64 9] W fun e w' => ∃ a n cap done, e = .returned (.agg (rcells (newS 9) (.slice a n cap) done)) ∧ Hid (St w (w'.alloc (.cells (rcells (newS 9) (.slice a n cap) done) 28)) p nb mb w'.heap.size (newS 9) a n cap done)) := fun W p nb mb hm => by
    refine (rnew_any 9 [p, nb, mb] W).mono ?_
    rintro e w' ⟨v, rfl, hr, hb⟩
    obtain ⟨a, n, cap, done, rfl⟩ := hr.open
    refine ⟨a, n, cap, done, rfl, ?_⟩
    have hm' := hm.below hb
    have hal : Below w'.heap.size w' (w'.alloc (.cells (rcells (newS 9) (.slice a n cap) done) 28)) := (Below.refl _ _).alloc (Nat.le_refl _) _
    exact ⟨hm'.below hal, hr.below hal, heap_alloc_last _ _, fun hx => by have := hm'.lt _ hx; omega, hm'.2.2.2.2.size⟩
  have HDO : Hid (∀ W p nb mb rb s a n cap done (x : ActD) fa fl fc, St w W p nb mb rb s a n cap done → x.Fits → x.fs.length = fl → fl ≤ fc → fc ≤ 9223372036854775807 → BV w fa x.fs → Calls Try.prog 11 #[.pointer (some ⟨p, 0, none⟩), .agg (rcells s (.slice a n cap) done), .agg #[.int .u8 x.kd, .int .i64 x.n, .int .u8 x.c, .int .u8 x.cut, .bool x.d, .slice fa fl fc]] W fun e w' => ∃ a2 n2 cap2 done2, e = .returned (.tuple #[.agg (rcells (actsD s x) (.slice a2 n2 cap2) done2), .bool true]) ∧
      RC w' rb (.int .i64 s.room) (.slice a n cap) (.bool s.down) (.int .i64 s.ops) (.int .i64 s.reads) (.int .i64 s.fails) (.bool done) ∧
      Hid (St w (((((((w'.setCell ⟨rb, 0, none⟩ (.int .i64 (actsD s x).room)).setCell ⟨rb, 1, none⟩ (.slice a2 n2 cap2)).setCell ⟨rb, 2, none⟩ (.bool (actsD s x).down)).setCell ⟨rb, 3, none⟩ (.int .i64 (actsD s x).ops)).setCell ⟨rb, 4, none⟩ (.int .i64 (actsD s x).reads)).setCell ⟨rb, 5, none⟩ (.int .i64 (actsD s x).fails)).setCell ⟨rb, 6, none⟩ (.bool done2)) p nb mb rb (actsD s x) a2 n2 cap2 done2)) := fun W p nb mb rb s a n cap done x fa fl fc hs hf h1 h2 h3 hb => st_do W hs x fa fl fc hf (fate_any hs.1 h1 h2 h3 hb)
  have HCR : Hid (∀ W p nb mb s v fs, Mine w W p nb mb s → FV W [p, nb, mb] v fs → Calls Try.prog 14 #[.pointer (some ⟨p, 0, none⟩), v] W fun e w' => e = .returned (.tuple #[]) ∧ Mine w w' p nb mb (crashS s fs)) := fun W p nb mb s v fs hm hf => by
    refine (mcrash v fs W hm hf).mono ?_
    rintro e w' ⟨rfl, h, _⟩
    exact ⟨rfl, h⟩
  have HFU : Hid (∀ W p nb mb s (c : Int), 0 ≤ c → c ≤ 255 → Mine w W p nb mb s → Calls Try.prog 24 #[.int .u8 c] W fun e w' => ∃ g, e = .returned (.slice (some ⟨g, 0, none⟩) 256 256) ∧ Hid (BV w' (some ⟨g, 0, none⟩) (List.replicate 256 c) ∧ g ∉ [p, nb, mb] ∧ Mine w w' p nb mb s) ∧ Below W.heap.size W w') := fun W p nb mb s c h0 h1 hm => by
    refine (mfull c W hm h0 h1).mono ?_
    rintro e w' ⟨g, rfl, h1, h2, h3, h4⟩
    exact ⟨g, rfl, ⟨h1, h2, h3⟩, h4⟩
  have HAT : Hid (∀ i, i < len → ∃ b off, al = some ⟨b, off, none⟩ ∧ b < w.heap.size ∧ ActAt w b (off + i * 6) (xs.getD i default)) := by
    intro i hi
    rcases hacts.2.2.2.2 with e | ⟨b, off, e1, e2, e3⟩
    · have := hacts.1
      rw [e] at this
      simp at this
      omega
    · exact ⟨b, off, e1, e2, e3 i hi⟩
  have HFB : Hid (fs.length = fl ∧ BV w fa fs) := ⟨hfl, hfb⟩
  have hd40 : decide ((40 : Int) < (len : Int)) = false := by simp; omega
  clear hacts hfb hfl
  go_enter Try.func5, Try.ntmps5
  go_wp2_with fail
  go_quiet (fail)
  go_wp2_with (first
    | (go_at_call 9; refine (H9.out _ (below_drewN ((Below.refl _ _).alloc (Nat.le_refl _) _) _)).mono ?_; rintro e w1 ⟨p, nb, mb, rfl, hm1⟩; have HM1 : Hid (Mine w w1 p nb mb (newS 9)) := hm1; clear hm1)
    | (go_at_call 10; refine (H10.out _ p nb mb HM1.out).mono ?_; rintro e w2 ⟨ra, rn, rcap, rdone, rfl, HS⟩; unfold rcells)
    | fail)
  obtain ⟨HS0, hrb⟩ : Hid (St w (w2.alloc (.cells (rcells (newS 9) (.slice ra rn rcap) rdone) 28)) p nb mb w2.heap.size (newS 9) ra rn rcap rdone) ∧ True := ⟨HS, trivial⟩
  generalize hrbe : w2.heap.size = rb at *
  go_loopw [11] (fun iv wr => ∃ (k : Nat) (s : DS) (a : Option Addr) (n cap : Nat) (done : Bool), k ≤ len ∧ iv = .int .i64 k ∧ Hid (St w wr p nb mb rb s a n cap done) ∧ Hid (s.room = 9)) (fun iv _ => len - (intOf iv).toNat)
  case atStart => exact ⟨0, newS 9, ra, rn, rcap, rdone, Nat.zero_le _, rfl, HS0.out, rfl⟩
  case round =>
    obtain ⟨k, s, ra, rn, rcap, rdone, hk, rfl, HS, HR9⟩ := hrel
    clear HS0 H9 H10
    by_cases hlt : k < len
    · obtain ⟨b, off, rfl, hbs, hfit, fa', fl', fc', q0, q1, q2, q3, q4, q5, q6, q7, q8, q9⟩ := HAT.out k hlt
      have HBW : Hid (Below w.heap.size w wr) := HS.out.1.2.2.2.2
      have c0 := (HBW.out.cell (p := ⟨b, off + k * 6, none⟩) hbs).trans q0
      have c1 := (HBW.out.cell (p := ⟨b, off + k * 6 + 1, none⟩) hbs).trans q1
      have c2 := (HBW.out.cell (p := ⟨b, off + k * 6 + 2, none⟩) hbs).trans q2
      have c3 := (HBW.out.cell (p := ⟨b, off + k * 6 + 3, none⟩) hbs).trans q3
      have c4 := (HBW.out.cell (p := ⟨b, off + k * 6 + 4, none⟩) hbs).trans q4
      have c5 := (HBW.out.cell (p := ⟨b, off + k * 6 + 5, none⟩) hbs).trans q5
      obtain ⟨r0, r1, r2, r3, r4, r5, r6, _⟩ := RC.of HS.out.2.2.1
      generalize hxk : xs.getD k default = x at *
      have HX : Hid (x.Fits ∧ x.fs.length = fl' ∧ fl' ≤ fc' ∧ fc' ≤ 9223372036854775807 ∧ BV w fa' x.fs) := ⟨hfit, q6, q7, q8, q9⟩
      have HR2 : Hid ((actsD s x).room = 9) := by
        have : (actsD s x).room = 9 := by rw [acts_room]; exact HR9.out
        exact this
      have CD := fun W hs => HDO.out W p nb mb rb s ra rn rcap rdone x fa' fl' fc' hs HX.out.1 HX.out.2.1 HX.out.2.2.1 HX.out.2.2.2.1 HX.out.2.2.2.2
      have HCD : Hid (∀ W, St w W p nb mb rb s ra rn rcap rdone → _) := CD
      unfold rcells at HCD
      have hdk : decide ((k : Int) < (len : Int)) = true := by simp; omega
      clear q0 q1 q2 q3 q4 q5 q6 q7 q8 q9 hfit HDO HAT hxk CD HCR HFU
      go_wp2_with fail
      refine wp_region_noPanic ?_
      refine name_ops ?_
      intro O QQ HO HQ
      refine wp_region_held_drew (S := fun _ => True) (by kernel_rfl) trivial (fun hS => ?_)
      rw [show O.size = 11 by rw [HO.out]; rfl]
      refine wpAnyH_take (i := 0) (v := .pointer (some ⟨p, 0, none⟩)) (by rw [HO.out]; simp only [List.getElem?_toArray, List.getElem?_cons_succ, List.getElem?_cons_zero]; rfl) (by rw [HO.out]; kernel_rfl) (by rw [HO.out]; kernel_rfl) (by rw [HO.out]; kernel_rfl) (by rw [HQ.out]; exact fun _ _ _ h => h) (Or.inl ⟨by rfl, ?_⟩) trivial ?_
      · intro w' hSw
        go_simp
      try simp only [Act.put, List.setIfInBounds_toArray, List.set_cons_zero, List.set_cons_succ]
      refine wpAnyH_take (i := 2) (v := .slice (some ⟨b, off, none⟩) len cap) (by rw [HO.out]; simp only [List.getElem?_toArray, List.getElem?_cons_succ, List.getElem?_cons_zero]; rfl) (by rw [HO.out]; kernel_rfl) (by rw [HO.out]; kernel_rfl) (by rw [HO.out]; kernel_rfl) (by rw [HQ.out]; exact fun _ _ _ h => h) (Or.inl ⟨by rfl, ?_⟩) trivial ?_
      · intro w' hSw
        go_simp
      try simp only [Act.put, List.setIfInBounds_toArray, List.set_cons_zero, List.set_cons_succ]
      refine wpAnyH_take (i := 3) (v := .int .i64 k) (by rw [HO.out]; simp only [List.getElem?_toArray, List.getElem?_cons_succ, List.getElem?_cons_zero]; rfl) (by rw [HO.out]; kernel_rfl) (by rw [HO.out]; kernel_rfl) (by rw [HO.out]; kernel_rfl) (by rw [HQ.out]; exact fun _ _ _ h => h) (Or.inl ⟨by rfl, ?_⟩) trivial ?_
      · intro w' hSw
        go_simp
      try simp only [Act.put, List.setIfInBounds_toArray, List.set_cons_zero, List.set_cons_succ]
      refine wpAnyH_take (i := 4) (v := .pointer (some ⟨b, off + k * 6, none⟩)) (by rw [HO.out]; simp only [List.getElem?_toArray, List.getElem?_cons_succ, List.getElem?_cons_zero]; rfl) (by rw [HO.out]; kernel_rfl) (by rw [HO.out]; kernel_rfl) (by rw [HO.out]; kernel_rfl) (by rw [HQ.out]; exact fun _ _ _ h => h) (Or.inl ⟨by rfl, ?_⟩) trivial ?_
      · intro w' hSw
        go_simp
      try simp only [Act.put, List.setIfInBounds_toArray, List.set_cons_zero, List.set_cons_succ]
      refine wpAnyH_ready (rs := [1, 5]) (by rw [HO.out]; kernel_rfl) (by simp) ?_
      refine AllReadyH.cons (o := _) (by rw [HO.out]; simp only [List.getElem?_toArray, List.getElem?_cons_succ, List.getElem?_cons_zero]; rfl) (fun K1 hK1 => ?_) ?_
      · go_simp
        refine hK1.out _ _ trivial (fun _ => ?_)
        try simp only [Act.put, List.setIfInBounds_toArray, List.set_cons_zero, List.set_cons_succ]
        refine wpAnyH_ready (rs := [5]) (by rw [HO.out]; kernel_rfl) (by simp) ?_
        refine AllReadyH.cons (o := _) (by rw [HO.out]; simp only [List.getElem?_toArray, List.getElem?_cons_succ, List.getElem?_cons_zero]; rfl) (fun K5 hK5 => ?_) ?_
        · go_simp
          refine hK5.out _ _ trivial (fun _ => ?_)
          try simp only [Act.put, List.setIfInBounds_toArray, List.set_cons_zero, List.set_cons_succ]
          refine wpAnyH_ready (rs := [6]) (by rw [HO.out]; kernel_rfl) (by simp) ?_
          refine AllReadyH.cons (o := _) (by rw [HO.out]; simp only [List.getElem?_toArray, List.getElem?_cons_succ, List.getElem?_cons_zero]; rfl) (fun K6 hK6 => ?_) ?_
          · go_simp
            refine (HCD.out _ (HS.out.below (Below.refl _ _).drew)).mono ?_
            rintro e w3 ⟨a3, n3, cap3, done3, rfl, hrc, hs3⟩
            obtain ⟨z0, z1, z2, z3, z4, z5, z6, y0, y1, y2, y3, y4, y5, y6⟩ := hrc
            refine hK6.out _ _ trivial (fun _ => ?_)
            try simp only [Act.put, List.setIfInBounds_toArray, List.set_cons_zero, List.set_cons_succ]
            refine wpAnyH_take (i := 7) (v := .tuple #[.agg #[.int .i64 (actsD s x).room, .slice a3 n3 cap3, .bool (actsD s x).down, .int .i64 (actsD s x).ops, .int .i64 (actsD s x).reads, .int .i64 (actsD s x).fails, .bool done3], .bool true]) (by rw [HO.out]; simp only [List.getElem?_toArray, List.getElem?_cons_succ, List.getElem?_cons_zero]; rfl) (by rw [HO.out]; kernel_rfl) (by rw [HO.out]; kernel_rfl) (by rw [HO.out]; kernel_rfl) (by rw [HQ.out]; exact fun _ _ _ h => h) (Or.inl ⟨by rfl, ?_⟩) trivial ?_
            · intro w' hSw
              go_simp
            try simp only [Act.put, List.setIfInBounds_toArray, List.set_cons_zero, List.set_cons_succ]
            refine wpAnyH_take (i := 8) (v := .agg #[.int .i64 (actsD s x).room, .slice a3 n3 cap3, .bool (actsD s x).down, .int .i64 (actsD s x).ops, .int .i64 (actsD s x).reads, .int .i64 (actsD s x).fails, .bool done3]) (by rw [HO.out]; simp only [List.getElem?_toArray, List.getElem?_cons_succ, List.getElem?_cons_zero]; rfl) (by rw [HO.out]; kernel_rfl) (by rw [HO.out]; kernel_rfl) (by rw [HO.out]; kernel_rfl) (by rw [HQ.out]; exact fun _ _ _ h => h) (Or.inl ⟨by rfl, ?_⟩) trivial ?_
            · intro w' hSw
              go_simp
            try simp only [Act.put, List.setIfInBounds_toArray, List.set_cons_zero, List.set_cons_succ]
            refine wpAnyH_take (i := 9) (v := .bool true) (by rw [HO.out]; simp only [List.getElem?_toArray, List.getElem?_cons_succ, List.getElem?_cons_zero]; rfl) (by rw [HO.out]; kernel_rfl) (by rw [HO.out]; kernel_rfl) (by rw [HO.out]; kernel_rfl) (by rw [HQ.out]; exact fun _ _ _ h => h) (Or.inl ⟨by rfl, ?_⟩) trivial ?_
            · intro w' hSw
              go_simp
            try simp only [Act.put, List.setIfInBounds_toArray, List.set_cons_zero, List.set_cons_succ]
            refine wpAnyH_ready (rs := [10]) (by rw [HO.out]; kernel_rfl) (by simp) ?_
            refine AllReadyH.cons (o := _) (by rw [HO.out]; simp only [List.getElem?_toArray, List.getElem?_cons_succ, List.getElem?_cons_zero]; rfl) (fun K10 hK10 => ?_) ?_
            · go_simp
              refine hK10.out _ _ trivial (fun _ => ?_)
              try simp only [Act.put, List.setIfInBounds_toArray, List.set_cons_zero, List.set_cons_succ]
              refine wpAnyH_done (by rw [HO.out]; kernel_rfl) ?_ _
              rw [HQ.out]
              refine NoPanic.normal ?_
              clear HCD
              go_wp2_with fail
              go_roundw
              case rel => exact ⟨k + 1, actsD s x, a3, n3, cap3, done3, by omega, by go_num, hs3.out, HR2.out⟩
              case measure => simp [intOf]; omega
            exact AllReadyH.nil
          exact AllReadyH.nil
        exact AllReadyH.nil
      refine AllReadyH.cons (o := _) (by rw [HO.out]; simp only [List.getElem?_toArray, List.getElem?_cons_succ, List.getElem?_cons_zero]; rfl) (fun K5 hK5 => ?_) ?_
      · go_simp
        refine hK5.out _ _ trivial (fun _ => ?_)
        try simp only [Act.put, List.setIfInBounds_toArray, List.set_cons_zero, List.set_cons_succ]
        refine wpAnyH_ready (rs := [1]) (by rw [HO.out]; kernel_rfl) (by simp) ?_
        refine AllReadyH.cons (o := _) (by rw [HO.out]; simp only [List.getElem?_toArray, List.getElem?_cons_succ, List.getElem?_cons_zero]; rfl) (fun K1 hK1 => ?_) ?_
        · go_simp
          refine hK1.out _ _ trivial (fun _ => ?_)
          try simp only [Act.put, List.setIfInBounds_toArray, List.set_cons_zero, List.set_cons_succ]
          refine wpAnyH_ready (rs := [6]) (by rw [HO.out]; kernel_rfl) (by simp) ?_
          refine AllReadyH.cons (o := _) (by rw [HO.out]; simp only [List.getElem?_toArray, List.getElem?_cons_succ, List.getElem?_cons_zero]; rfl) (fun K6 hK6 => ?_) ?_
          · go_simp
            refine (HCD.out _ (HS.out.below (Below.refl _ _).drew)).mono ?_
            rintro e w3 ⟨a3, n3, cap3, done3, rfl, hrc, hs3⟩
            obtain ⟨z0, z1, z2, z3, z4, z5, z6, y0, y1, y2, y3, y4, y5, y6⟩ := hrc
            refine hK6.out _ _ trivial (fun _ => ?_)
            try simp only [Act.put, List.setIfInBounds_toArray, List.set_cons_zero, List.set_cons_succ]
            refine wpAnyH_take (i := 7) (v := .tuple #[.agg #[.int .i64 (actsD s x).room, .slice a3 n3 cap3, .bool (actsD s x).down, .int .i64 (actsD s x).ops, .int .i64 (actsD s x).reads, .int .i64 (actsD s x).fails, .bool done3], .bool true]) (by rw [HO.out]; simp only [List.getElem?_toArray, List.getElem?_cons_succ, List.getElem?_cons_zero]; rfl) (by rw [HO.out]; kernel_rfl) (by rw [HO.out]; kernel_rfl) (by rw [HO.out]; kernel_rfl) (by rw [HQ.out]; exact fun _ _ _ h => h) (Or.inl ⟨by rfl, ?_⟩) trivial ?_
            · intro w' hSw
              go_simp
            try simp only [Act.put, List.setIfInBounds_toArray, List.set_cons_zero, List.set_cons_succ]
            refine wpAnyH_take (i := 8) (v := .agg #[.int .i64 (actsD s x).room, .slice a3 n3 cap3, .bool (actsD s x).down, .int .i64 (actsD s x).ops, .int .i64 (actsD s x).reads, .int .i64 (actsD s x).fails, .bool done3]) (by rw [HO.out]; simp only [List.getElem?_toArray, List.getElem?_cons_succ, List.getElem?_cons_zero]; rfl) (by rw [HO.out]; kernel_rfl) (by rw [HO.out]; kernel_rfl) (by rw [HO.out]; kernel_rfl) (by rw [HQ.out]; exact fun _ _ _ h => h) (Or.inl ⟨by rfl, ?_⟩) trivial ?_
            · intro w' hSw
              go_simp
            try simp only [Act.put, List.setIfInBounds_toArray, List.set_cons_zero, List.set_cons_succ]
            refine wpAnyH_take (i := 9) (v := .bool true) (by rw [HO.out]; simp only [List.getElem?_toArray, List.getElem?_cons_succ, List.getElem?_cons_zero]; rfl) (by rw [HO.out]; kernel_rfl) (by rw [HO.out]; kernel_rfl) (by rw [HO.out]; kernel_rfl) (by rw [HQ.out]; exact fun _ _ _ h => h) (Or.inl ⟨by rfl, ?_⟩) trivial ?_
            · intro w' hSw
              go_simp
            try simp only [Act.put, List.setIfInBounds_toArray, List.set_cons_zero, List.set_cons_succ]
            refine wpAnyH_ready (rs := [10]) (by rw [HO.out]; kernel_rfl) (by simp) ?_
            refine AllReadyH.cons (o := _) (by rw [HO.out]; simp only [List.getElem?_toArray, List.getElem?_cons_succ, List.getElem?_cons_zero]; rfl) (fun K10 hK10 => ?_) ?_
            · go_simp
              refine hK10.out _ _ trivial (fun _ => ?_)
              try simp only [Act.put, List.setIfInBounds_toArray, List.set_cons_zero, List.set_cons_succ]
              refine wpAnyH_done (by rw [HO.out]; kernel_rfl) ?_ _
              rw [HQ.out]
              refine NoPanic.normal ?_
              clear HCD
              go_wp2_with fail
              go_roundw
              case rel => exact ⟨k + 1, actsD s x, a3, n3, cap3, done3, by omega, by go_num, hs3.out, HR2.out⟩
              case measure => simp [intOf]; omega
            exact AllReadyH.nil
          exact AllReadyH.nil
        exact AllReadyH.nil
      exact AllReadyH.nil
    · have hdk : decide ((k : Int) < (len : Int)) = false := by simp; omega
      have HM : Hid (Mine w wr p nb mb s) := HS.out.1
      clear HS HDO HAT
      obtain ⟨SF⟩ := safe_of HR9.out ca cb HFB.out.2.1
      obtain ⟨s1, s2, s3, s4, s5, s6, s7, s8, t, e1, e2, e3, e4, e5, e6, e7, e8, w2', w3', w4', w5', w7', w8', r7, r8, ht, hl8⟩ := SF
      have C1 : Hid (∀ W, Mine w W p nb mb s → Calls Try.prog 14 #[.pointer (some ⟨p, 0, none⟩), .slice none 0 0] W fun e w' => e = .returned (.tuple #[]) ∧ Mine w w' p nb mb s1) := fun W hm => by rw [e1]; exact HCR.out W p nb mb s _ [] hm (FV.nil _ _)
      have C2 : Hid (∀ W, Mine w W p nb mb s1 → _) := fun W hm => HFU.out W p nb mb s1 ca hcc.1 hcc.2.1 hm
      have C3 : Hid (∀ W g, BV W (some ⟨g, 0, none⟩) (List.replicate 256 ca) ∧ g ∉ [p, nb, mb] ∧ Mine w W p nb mb s1 → Calls Try.prog 16 #[.pointer (some ⟨p, 0, none⟩), .int .i64 4, .slice (some ⟨g, 0, none⟩) 256 256] W fun e w' => e = .returned (.int .i64 0) ∧ Mine w w' p nb mb s2) := fun W g h => by
        have := mwrite 4 g (List.replicate 256 ca) 256 256 W h.2.2 h.1 List.length_replicate (by decide) h.2.1
        rw [w2', ← e2] at this
        exact this
      have C4 : Hid (∀ W, Mine w W p nb mb s2 → _) := fun W hm => HFU.out W p nb mb s2 ca hcc.1 hcc.2.1 hm
      have C5 : Hid (∀ W g, BV W (some ⟨g, 0, none⟩) (List.replicate 256 ca) ∧ g ∉ [p, nb, mb] ∧ Mine w W p nb mb s2 → Calls Try.prog 16 #[.pointer (some ⟨p, 0, none⟩), .int .i64 5, .slice (some ⟨g, 0, none⟩) 256 256] W fun e w' => e = .returned (.int .i64 0) ∧ Mine w w' p nb mb s3) := fun W g h => by
        have := mwrite 5 g (List.replicate 256 ca) 256 256 W h.2.2 h.1 List.length_replicate (by decide) h.2.1
        rw [w3', ← e3] at this
        exact this
      have C6 : Hid (∀ W, Mine w W p nb mb s3 → Calls Try.prog 17 #[.pointer (some ⟨p, 0, none⟩)] W fun e w' => e = .returned (.int .i64 0) ∧ Mine w w' p nb mb s4) := fun W hm => by
        have := msync W hm
        rw [w4', ← e4] at this
        exact this
      have C7 : Hid (∀ W, Mine w W p nb mb s4 → _) := fun W hm => HFU.out W p nb mb s4 cb hcc.2.2.1 hcc.2.2.2 hm
      have C8 : Hid (∀ W g, BV W (some ⟨g, 0, none⟩) (List.replicate 256 cb) ∧ g ∉ [p, nb, mb] ∧ Mine w W p nb mb s4 → Calls Try.prog 16 #[.pointer (some ⟨p, 0, none⟩), .int .i64 5, .slice (some ⟨g, 0, none⟩) 256 256] W fun e w' => e = .returned (.int .i64 0) ∧ Mine w w' p nb mb s5) := fun W g h => by
        have := mwrite 5 g (List.replicate 256 cb) 256 256 W h.2.2 h.1 List.length_replicate (by decide) h.2.1
        rw [w5', ← e5] at this
        exact this
      have C9 : Hid (∀ W, Mine w W p nb mb s5 → Calls Try.prog 14 #[.pointer (some ⟨p, 0, none⟩), .slice fa fl fc] W fun e w' => e = .returned (.tuple #[]) ∧ Mine w w' p nb mb s6) := fun W hm => by rw [e6]; exact HCR.out W p nb mb s5 _ fs hm (fate_any hm HFB.out.1 hfc hfm HFB.out.2)
      have CRD : ∀ W (s' : DS) (n : Int) (zs : List Int), Mine w W p nb mb s' → reachE s' n = 0 → readB s' n = zs → zs.length = 256 → Calls Try.prog 15 #[.pointer (some ⟨p, 0, none⟩), .int .i64 n] W fun e w' => ∃ g cg, e = .returned (.tuple #[.slice (some ⟨g, 0, none⟩) 256 cg, .int .i64 0]) ∧ Hid (BV w' (some ⟨g, 0, none⟩) zs ∧ g ∉ [p, nb, mb] ∧ Mine w w' p nb mb (readS s' n) ∧ Off [p, nb, mb] W w') := fun W s' n zs hm h1 h2 h3 => by
        have := mread n W hm
        rw [h1, h2] at this
        refine this.mono ?_
        rintro e w' ⟨v, rfl, hown, hm2, ho⟩
        have hz : AllB zs := by rw [← h2]; exact readB_allB hm.1.1 n
        obtain ⟨g, cg, rfl, _, hgb, hgs⟩ := hown.shape 256 h3 (by decide)
        exact ⟨g, cg, rfl, hown.bv hz, fun hx => by have := hm.lt g hx; omega, hm2, ho⟩
      have C10 : Hid (∀ W, Mine w W p nb mb s6 → Calls Try.prog 15 #[.pointer (some ⟨p, 0, none⟩), .int .i64 4] W fun e w' => ∃ g cg, e = .returned (.tuple #[.slice (some ⟨g, 0, none⟩) 256 cg, .int .i64 0]) ∧ Hid (BV w' (some ⟨g, 0, none⟩) (List.replicate 256 ca) ∧ g ∉ [p, nb, mb] ∧ Mine w w' p nb mb s7 ∧ Off [p, nb, mb] W w')) := fun W hm => by rw [e7]; exact CRD W s6 4 _ hm w7' r7 List.length_replicate
      have C11 : Hid (∀ W, Mine w W p nb mb s7 → Calls Try.prog 15 #[.pointer (some ⟨p, 0, none⟩), .int .i64 5] W fun e w' => ∃ g cg, e = .returned (.tuple #[.slice (some ⟨g, 0, none⟩) 256 cg, .int .i64 0]) ∧ Hid (BV w' (some ⟨g, 0, none⟩) (mix (List.replicate 256 cb) (List.replicate 256 ca) t) ∧ g ∉ [p, nb, mb] ∧ Mine w w' p nb mb s8 ∧ Off [p, nb, mb] W w')) := fun W hm => by rw [e8]; exact CRD W s7 5 _ hm w8' r8 (mix_len ca cb t ht)
      have C12 : Hid (∀ W, Mine w W p nb mb s8 → Calls Try.prog 24 #[.int .u8 ca] W fun e w' => ∃ g, e = .returned (.slice (some ⟨g, 0, none⟩) 256 256) ∧ (convert 32 9 (.slice (some ⟨g, 0, none⟩) 256 256)).run Try.prog w' = .ok (.string (strOfNums (List.replicate 256 ca))) w' ∧ Mine w w' p nb mb s8 ∧ Below W.heap.size W w') := fun W hm => by
        refine (HFU.out W p nb mb s8 ca hcc.1 hcc.2.1 hm).mono ?_
        rintro e w' ⟨g, rfl, h1, h4⟩
        exact ⟨g, rfl, conv_bv h1.out.1 List.length_replicate, h1.out.2.2, h4⟩
      have C13 : Hid (∀ W, Mine w W p nb mb s8 → Calls Try.prog 23 #[.pointer (some ⟨p, 0, none⟩)] W fun e w' => ∃ v c, e = .returned (.slice v 0 c) ∧ Below w.heap.size w w') := fun W hm => by
        refine (loose_any p nb mb s8 W hm.1).mono ?_
        rintro e w' ⟨v, rfl, ho, hb⟩
        rw [hl8] at ho
        rcases ho.2 with ⟨rfl, _⟩ | ⟨g, c, cur, rfl, _⟩
        · exact ⟨none, 0, rfl, hm.2.2.2.2.trans (hb.mono hm.2.2.2.2.size)⟩
        · exact ⟨_, c, rfl, hm.2.2.2.2.trans (hb.mono hm.2.2.2.2.size)⟩
      clear HCR HFU CRD e1 e2 e3 e4 e5 e6 e7 e8 w2' w3' w4' w5' w7' w8' r7 r8 hl8 HFB HR9
      go_wp2_with (first
        | (go_at_call 14; refine (C1.out _ HM.out).mono ?_; rintro e w4 ⟨rfl, h4⟩; have M4 : Hid (Mine w w4 p nb mb s1) := h4; clear C1 h4)
        | (go_at_call 24; refine (C2.out _ M4.out).mono ?_; rintro e w5 ⟨g5, rfl, M5, _⟩; clear C2)
        | (go_at_call 16; refine (C3.out _ _ M5.out).mono ?_; rintro e w6 ⟨rfl, h6⟩; have M6 : Hid (Mine w w6 p nb mb s2) := h6; clear C3 h6)
        | (go_at_call 24; refine (C4.out _ M6.out).mono ?_; rintro e w7 ⟨g7, rfl, M7, _⟩; clear C4)
        | (go_at_call 16; refine (C5.out _ _ M7.out).mono ?_; rintro e w8 ⟨rfl, h8⟩; have M8 : Hid (Mine w w8 p nb mb s3) := h8; clear C5 h8)
        | (go_at_call 17; refine (C6.out _ M8.out).mono ?_; rintro e w9 ⟨rfl, h9⟩; have M9 : Hid (Mine w w9 p nb mb s4) := h9; clear C6 h9)
        | (go_at_call 24; refine (C7.out _ M9.out).mono ?_; rintro e w10 ⟨g10, rfl, M10, _⟩; clear C7)
        | (go_at_call 16; refine (C8.out _ _ M10.out).mono ?_; rintro e w11 ⟨rfl, h11⟩; have M11 : Hid (Mine w w11 p nb mb s5) := h11; clear C8 h11)
        | (go_at_call 14; refine (C9.out _ M11.out).mono ?_; rintro e w12 ⟨rfl, h12⟩; have M12 : Hid (Mine w w12 p nb mb s6) := h12; clear C9 h12)
        | (go_at_call 15; refine (C10.out _ M12.out).mono ?_; rintro e w13 ⟨gx, cx, rfl, M13⟩; clear C10)
        | (go_at_call 15; refine (C11.out _ M13.out.2.2.1).mono ?_; rintro e w14 ⟨gy, cy, rfl, M14⟩; clear C11)
        | fail)
      have SL : Hid (∀ W, Below w14.heap.size w14 W → Below w14.heap.size w14 W ∧ (convert 32 9 (.slice (some ⟨gx, 0, none⟩) 256 cx)).run Try.prog W = .ok (.string (strOfNums (List.replicate 256 ca))) W) := fun W hW => ⟨hW, conv_bv ((M13.out.1.offX M14.out.2.2.2 (fun b off e hm => by simp at e; rw [← e.1] at hm; exact M13.out.2.1 hm)).below hW) List.length_replicate⟩
      have Q24 : Hid (∀ W, Below w14.heap.size w14 W → Calls Try.prog 24 #[.int .u8 ca] W fun e w' => ∃ g, e = .returned (.slice (some ⟨g, 0, none⟩) 256 256) ∧ (convert 32 9 (.slice (some ⟨g, 0, none⟩) 256 256)).run Try.prog w' = .ok (.string (strOfNums (List.replicate 256 ca))) w' ∧ Below w14.heap.size w14 w') := fun W hW => by
        refine (C12.out W (M14.out.2.2.1.below hW)).mono ?_
        rintro e w' ⟨g, rfl, h1, _, h3⟩
        exact ⟨g, rfl, h1, hW.trans (h3.mono hW.size)⟩
      generalize strOfNums (List.replicate 256 ca) = st at *
      go_cut [101] (fun ok wx => ok = .bool false ∧ Hid (Below w14.heap.size w14 wx))
      case first =>
        go_region_held (fun w' => Below w14.heap.size w14 w' ∧ (convert 32 9 (.slice (some ⟨gx, 0, none⟩) 256 cx)).run Try.prog w' = .ok (.string st) w') (first | exact SL.out _ (Below.refl _ _).drew | exact SL.out _ (by assumption)) (first
          | (go_at_call 24; refine (Q24.out _ (by first | exact (Below.refl _ _).drew | assumption)).mono ?_; rintro e w15 ⟨g15, rfl, s15, hb15⟩; clear Q24))
        all_goals (
          go_wp2_with fail
          go_meet
          case rel => exact ⟨rfl, hb15⟩)
      case rest =>
        obtain ⟨rfl, HWC⟩ := hcut
        have MC : Hid (Mine w wc p nb mb s8 ∧ BV wc (some ⟨gy, 0, none⟩) (mix (List.replicate 256 cb) (List.replicate 256 ca) t)) := ⟨M14.out.2.2.1.below HWC.out, M14.out.1.below HWC.out⟩
        have HY : Hid (∀ i, i < 256 → wc.cell? ⟨gy, i, none⟩ = some (.int .u8 (if i < t then cb else ca))) := fun i hi => by
          obtain ⟨_, h1 | ⟨b, off, e, _, hc⟩⟩ := MC.out.2
          · have := mix_len ca cb t ht; rw [h1] at this; simp at this
          · obtain ⟨rfl, rfl⟩ : gy = b ∧ 0 = off := by simpa using e
            have := hc i (by rw [mix_len ca cb t ht]; exact hi)
            rw [Nat.zero_add, mix_at ca cb t i hi] at this
            exact this
        clear SL Q24 M13 M14 HWC C12 M4 M5 M6 M7 M8 M9 M10 M11 M12 HM
        go_wp2_with fail
        go_loopw [16] (fun iv wr => ∃ k : Nat, k ≤ 256 ∧ iv = .int .i64 k ∧ wr = wc ∧ Hid (∀ i, i < k → (if i < t then cb else ca) = cb)) (fun iv _ => 256 - (intOf iv).toNat)
        case atStart => exact ⟨0, Nat.zero_le _, rfl, rfl, fun i hi => by omega⟩
        case round =>
          obtain ⟨k, hk, rfl, hwr, HK⟩ := hrel
          obtain rfl := hwr.symm
          by_cases hlt : k < 256
          · have hck := HY.out k hlt
            have hdk : decide ((k : Int) < 256) = true := by simp; omega
            by_cases hkb : (if k < t then cb else ca) = cb
            · have HK2 : Hid (∀ i, i < k + 1 → (if i < t then cb else ca) = cb) := fun i hi => by
                by_cases e : i = k
                · subst e; exact hkb
                · exact HK.out i (by omega)
              rw [hkb] at hck
              have hq : (cb == cb) = true := by simp
              clear hkb HY
              go_wp2_with fail
              go_roundw
              case rel => exact ⟨k + 1, by omega, by go_num, by first | rfl | trivial, HK2.out⟩
              case measure => simp [intOf]; omega
            · have htk : t ≤ k := by
                by_cases h : k < t
                · rw [if_pos h] at hkb; exact absurd rfl hkb
                · omega
              have hq : ((if k < t then cb else ca) == cb) = false := beq_eq_false_iff_ne.2 hkb
              generalize (if k < t then cb else ca) = zk at *
              go_wp2_with fail
              go_loopw [17] (fun iv wr => ∃ i : Nat, k ≤ i ∧ i ≤ 256 ∧ iv = .int .i64 i ∧ wr = wc) (fun iv _ => 256 - (intOf iv).toNat)
              case atStart => exact ⟨k, Nat.le_refl _, hk, rfl, by first | rfl | trivial⟩
              case round =>
                obtain ⟨i, hki, hi, rfl, hwr2⟩ := hrel
                obtain rfl := hwr2.symm
                by_cases hlt2 : i < 256
                · have hci := HY.out i hlt2
                  rw [if_neg (by omega)] at hci
                  have hdi : decide ((i : Int) < 256) = true := by simp; omega
                  have hqa : (ca != ca) = false := by simp
                  clear HY
                  go_wp2_with fail
                  go_roundw
                  case rel => exact ⟨i + 1, by omega, by omega, by go_num, by first | rfl | trivial⟩
                  case measure => simp [intOf]; omega
                · have hdi : decide ((i : Int) < 256) = false := by simp; omega
                  go_wp2_with (first
                    | (go_at_call 23; refine (C13.out _ MC.out.1).mono ?_; rintro e w16 ⟨v16, c16, rfl, hb16⟩; have HB16 : Hid (Below w.heap.size w w16) := hb16; clear C13 hb16)
                    | (go_at_call 8; refine (H8.out _ HB16.out).mono ?_; rintro e w17 ⟨rfl, hb17⟩; clear H8)
                    | fail)
                  go_ret
                  exact ⟨rfl, hb17⟩
          · have hdk : decide ((k : Int) < 256) = false := by simp; omega
            obtain rfl : k = 256 := by omega
            have htk : ∀ i, 256 ≤ i → i < 256 → False := fun i h1 h2 => by omega
            go_wp2_with fail
            go_loopw [17] (fun iv wr => ∃ i : Nat, 256 ≤ i ∧ i ≤ 256 ∧ iv = .int .i64 i ∧ wr = wc) (fun iv _ => 256 - (intOf iv).toNat)
            case atStart => exact ⟨256, Nat.le_refl _, hk, rfl, by first | rfl | trivial⟩
            case round =>
              obtain ⟨i, hki, hi, rfl, hwr2⟩ := hrel
              obtain rfl := hwr2.symm
              by_cases hlt2 : i < 256
              · exact absurd hlt2 (by omega)
              · have hdi : decide ((i : Int) < 256) = false := by simp; omega
                go_wp2_with (first
                  | (go_at_call 23; refine (C13.out _ MC.out.1).mono ?_; rintro e w16 ⟨v16, c16, rfl, hb16⟩; have HB16 : Hid (Below w.heap.size w w16) := hb16; clear C13 hb16)
                  | (go_at_call 8; refine (H8.out _ HB16.out).mono ?_; rintro e w17 ⟨rfl, hb17⟩; clear H8)
                  | fail)
                go_ret
                exact ⟨rfl, hb17⟩
theorem walk (al : Option Addr) (len cap : Nat) (xs : List ActD) (ca cb : Int) (fa : Option Addr) (fl fc : Nat) (fs : List Int) (w : World) (h0 : Acts w al len cap xs) (h1 : 0 ≤ ca ∧ ca ≤ 255 ∧ 0 ≤ cb ∧ cb ≤ 255) (h2 : fs.length = fl ∧ BV w fa fs ∧ (fa = none → fc = 0) ∧ fl ≤ fc ∧ fc ≤ 9223372036854775807) :
    Calls Try.prog 5 #[.slice al len cap, .agg #[.int .u8 ca, .int .u8 cb], .slice fa fl fc] w fun e w' => e = .returned (.bool true) ∧ Below w.heap.size w w' := by
  by_cases h : 40 < len
  · exact walk_long al len cap ca cb fa fl fc w h
  · exact walk_some al len cap xs ca cb fa fl fc fs w h0 h1 h2.1 h2.2.1 h2.2.2.2.1 h2.2.2.2.2 (by omega)
set_option maxRecDepth 100000 in
theorem lifted (os : Os) (started : os.Started) (H : Type) (enc : TypeId × Value → H) :
    ReturnsInHanded {} Try.checked os 5 .any (Rows.diskSafeSpec.pre6 enc Try.prog Try.f5 Rows.diskSafeRow.domain false) (Rows.diskSafeSpec.post enc Try.prog Try.f5 false true false false) := by
  refine returnsInHanded_of_change (C := Try.checked) own started (by kernel_rfl) Try.func5
    (ChangeSpec.witness6 (enc := enc) (C := Try.checked) false ⟨#[], #[.slice none 0 0, .agg #[.int .u8 0, .int .u8 0], .slice none 0 0], []⟩ 8 (by kernel_rfl) (by kernel_rfl) (by kernel_rfl) (by kernel_rfl)) ?_
  intro W base args ds gs before hval0 hW hcnd _
  have hval : ∀ (j : Nat) t v, Try.f5.params[j]? = some t → args[j]? = some v → Value.okWide Try.prog W .any base t v := hval0
  have hW' := hW
  obtain ⟨p, q, hA0, hV, rfl, hfz, hnd⟩ := hW
  have hA : DataW.TrodAll enc Try.prog W 0 (fun _ => true) true Try.f5.params.toList args.toList ds p := hA0
  rw [Try.params5] at hA hval
  obtain ⟨v0, vs0, d0, ds0, p0, q0, hargs, rfl, rfl, h0, r0⟩ := trodAll_cons hA
  obtain ⟨v1, vs1, d1, ds1, p1, q1, rfl, rfl, rfl, h1, r1⟩ := trodAll_cons r0
  obtain ⟨v2, vs2, d2, ds2, p2, q2, rfl, rfl, rfl, h2, r2⟩ := trodAll_cons r1
  obtain ⟨rfl, rfl, rfl⟩ := trodAll_nil r2
  obtain rfl : args = #[v0, v1, v2] := by cases args; simp_all
  obtain ⟨rfl, rfl⟩ := trodVars_none hV
  obtain ⟨a0, len0, cap0, rfl⟩ := okWide_slice Try.underlying22 (hval 0 22 v0 rfl rfl)
  have k0 := h0
  have lt0 : ∀ x ∈ p0, x.block < W.heap.size := by obtain ⟨m, hm⟩ := k0; exact DataW.trod_lt m _ _ _ hm
  obtain ⟨x0, w0⟩ : ∃ xs, Acts W a0 len0 cap0 xs := by
    obtain ⟨fuel, hf⟩ := h0
    exact open_acts hf
  have k1 := h1
  have lt1 : ∀ x ∈ p1, x.block < W.heap.size := by obtain ⟨m, hm⟩ := k1; exact DataW.trod_lt m _ _ _ hm
  obtain ⟨a1, b1, rfl, w1⟩ := open_two (hval 1 49 v1 rfl rfl) h1
  obtain ⟨a2, len2, cap2, rfl⟩ := okWide_slice Try.underlying32 (hval 2 32 v2 rfl rfl)
  have k2 := h2
  have lt2 : ∀ x ∈ p2, x.block < W.heap.size := by obtain ⟨m, hm⟩ := k2; exact DataW.trod_lt m _ _ _ hm
  obtain ⟨y2, w2⟩ : ∃ ys : List Int, ys.length = len2 ∧ BV W a2 ys ∧ (a2 = none → cap2 = 0) ∧ len2 ≤ cap2 ∧ cap2 ≤ 9223372036854775807 := by
    obtain ⟨fuel, hf⟩ := h2
    rcases open_ints Try.underlying32 Try.underlying5 (by kernel_rfl) hf with ⟨hcs, _⟩ | ⟨x, l, c, zs, hcs, _, hl, hm, hz, _, hcell, hwz⟩
    · simp [Value.cells] at hcs
      obtain ⟨rfl, rfl, rfl⟩ := hcs
      exact bytes_of (zs := []) (.inl ⟨rfl, rfl, rfl, rfl⟩)
    · simp [Value.cells] at hcs
      obtain ⟨rfl, rfl, rfl⟩ := hcs
      exact bytes_of (.inr ⟨_, rfl, hl, hm, by simpa using hz, hcell, hwz⟩)
  clear hA0 hval0
  refine (walk a0 len0 cap0 x0 a1 b1 a2 len2 cap2 y2 W w0 w1 w2).mono fun e W' ⟨he, bel⟩ => ?_
  subst he
  exact ⟨_, rfl, _, _, _, [], _, [], hW', trodAll_mk1 (shut_bool Try.underlying4 _), (trodAll_cons_mk (Below.trod laidOut (by kernel_rfl) (of_decide_eq_true (by kernel_rfl)) k0 bel lt0) (trodAll_cons_mk (Below.trod laidOut (by kernel_rfl) (of_decide_eq_true (by kernel_rfl)) k1 bel lt1) (trodAll_cons_mk (Below.trod laidOut (by kernel_rfl) (of_decide_eq_true (by kernel_rfl)) k2 bel lt2) trodAll_mk0))), rfl, bel.frame _, fun h => by cases h⟩

theorem over : Rows.diskSafeRow.holds Try.pinned (OpenSpec.ofChange Rows.diskSafeSpec) :=
  OpenClaim.holds_of_wide 5 Try.f5 rfl rfl rfl rfl rfl rfl rfl ⟨rfl, rfl, rfl, rfl, rfl⟩ rfl rfl rfl rfl rfl (by kernel_rfl) Try.func5 (by kernel_rfl)
    (of_decide_eq_true (by kernel_rfl)) (by unfold Func.isWrapper; first | (rw [if_pos (by decide +kernel)]; kernel_rfl) | (rw [if_neg (by decide +kernel)]; exact ⟨rfl, rfl⟩))
    (fun os started H enc _ => lifted os started H enc)
end Go.Proofs.Ytmapjikbplindaa.diskSafe

namespace Go.Proofs.Ytmapjikbplindaa
theorem diskSafe_holds : Rows.DiskSafeSaid := diskSafe.over
#print axioms diskSafe_holds
end Go.Proofs.Ytmapjikbplindaa
