/- A step of the disk, and the calls that make one: Write, Sync; Fail and Read. -/
import Derived.Test.YtmapjikbplindaaPut
namespace Go.Proofs.Ytmapjikbplindaa
open Go.RowKit Go.Maps
set_option maxRecDepth 20000

theorem DkB.set {w : World} {p : Nat} {c0 c1 c2 c3 c4 c5 c6 c7 : Value} (h : DkB w p c0 c1 c2 c3 c4 c5 c6 c7) (v : Value) :
    DkB (w.setCell ⟨p, 2, none⟩ v) p c0 c1 v c3 c4 c5 c6 c7 ∧ DkB (w.setCell ⟨p, 3, none⟩ v) p c0 c1 c2 v c4 c5 c6 c7 ∧ DkB (w.setCell ⟨p, 4, none⟩ v) p c0 c1 c2 c3 v c5 c6 c7 ∧
    DkB (w.setCell ⟨p, 5, none⟩ v) p c0 c1 c2 c3 c4 v c6 c7 ∧ DkB (w.setCell ⟨p, 6, none⟩ v) p c0 c1 c2 c3 c4 c5 v c7 ∧ DkB (w.setCell ⟨p, 7, none⟩ v) p c0 c1 c2 c3 c4 c5 c6 v := by
  refine ⟨?_, ?_, ?_, ?_, ?_, ?_⟩ <;> exact heap_setCell_same w p _ _ 60 v h
/-- What stays where cells of the disk's own block are set. -/
theorem keep_set {w w' : World} {p nb mb room : Nat} {flat : Array Value} {L : Nat → Bool} {S : Nat → List Int} (ho : Off [p] w w') (h1 : p ≠ nb) (h2 : p ≠ mb) (hnb : w.heap[nb]? = some (.cells flat 71 (0, 0))) (hm : Mp w mb room L S) :
    w'.heap[nb]? = some (.cells flat 71 (0, 0)) ∧ Mp w' mb room L S :=
  ⟨(ho.block nb (Array.getElem?_eq_some_iff.1 hnb).1 (by simp; exact fun e => h1 e.symm)).trans hnb, hm.off ho (by simp; exact fun e => h2 e.symm)⟩
theorem off_p {p nb mb : Nat} {w w' : World} (h : Off [p] w w') : Off [p, nb, mb] w w' := h.mono (by simp)

def ticked (s : DS) : DS := { s with fails := (if 0 < s.fails then s.fails - 1 else s.fails) }
theorem ticked_ok {s : DS} (h : s.Ok) : (ticked s).Ok := by
  have lo := h.lo
  have hi := h.hi
  refine ⟨h.room, h.isB, h.isS, h.same, ?_, ?_⟩
  · show -1 ≤ (if 0 < s.fails then s.fails - 1 else s.fails)
    split <;> omega
  · show (if 0 < s.fails then s.fails - 1 else s.fails) ≤ 9223372036854775807
    split <;> omega
set_option maxHeartbeats 400000 in
theorem fails_any (p nb mb : Nat) (s : DS) (w : World) (h : Dk w p nb mb s) :
    Calls Try.prog 49 #[.pointer (some ⟨p, 0, none⟩)] w fun e w' => e = .returned (.bool (decide (s.fails = 0))) ∧ Dk w' p nb mb (ticked s) ∧ Off [p, nb, mb] w w' := by
  have hne := h.ne
  have hD : Hid (Dk w p nb mb s) := h
  have okt := ticked_ok h.1
  obtain ⟨ok, cap, set, after, done, flat, d1, d2, d3, d4, d5, d6⟩ := h
  have hlo := ok.lo
  have hhi := ok.hi
  obtain ⟨c0, c1, c2, c3, c4, c5, c6, c7, f0, f1, f2, f3, f4, f5, f6, f7⟩ := d1.cells
  rcases d6 with ⟨e1, rfl⟩ | ⟨e1, rfl, rfl, rfl⟩
  · have et : ticked s = s := by unfold ticked; rw [if_neg (by omega)]
    have ef : decide (s.fails = 0) = false := by simp; omega
    rw [et, ef]
    clear d1 d2 d4 d5 okt et ef
    go_enter Try.func49, Try.ntmps49
    go_wp2
    go_ret
    exact ⟨rfl, hD.out, Off.refl _ _⟩
  · by_cases h0 : s.fails = 0
    · have et : ticked s = s := by unfold ticked; rw [if_neg (by omega)]
      have ef : decide (s.fails = 0) = true := by simpa using h0
      rw [et, ef]
      rw [h0] at c4
      clear d1 d2 d4 d5 okt et ef
      go_enter Try.func49, Try.ntmps49
      go_wp2
      go_ret
      exact ⟨rfl, hD.out, Off.refl _ _⟩
    · have hpos : 0 < s.fails := by omega
      have hd : decide (0 < s.fails) = true := by simpa using hpos
      have hwr : wrap64 (s.fails - 1) = s.fails - 1 := by unfold wrap64; omega
      have HD : Hid (Dk (w.setCell ⟨p, 4, none⟩ (.int .i64 (s.fails - 1))) p nb mb (ticked s) ∧ Off [p, nb, mb] w (w.setCell ⟨p, 4, none⟩ (.int .i64 (s.fails - 1)))) := by
        have ho : Off [p] w (w.setCell ⟨p, 4, none⟩ (.int .i64 (s.fails - 1))) := (Off.refl _ _).setCell (by simp) _
        obtain ⟨k1, k2⟩ := keep_set ho hne.1 hne.2.1 d2 d5
        have et : (ticked s).fails = s.fails - 1 := by unfold ticked; simp [hpos]
        exact ⟨⟨okt, cap, true, s.fails - 1, s.done, flat, (d1.set _).2.2.1, k1, d3, d4, k2, .inr ⟨by rw [et]; omega, rfl, et.symm, rfl⟩⟩, off_p ho⟩
      have ef : decide (s.fails = 0) = false := by simpa using h0
      rw [ef]
      generalize s.fails = f at *
      clear d1 d2 d4 d5 okt ef
      go_enter Try.func49, Try.ntmps49
      go_wp2
      go_ret
      exact ⟨rfl, HD.out⟩
theorem wp_clear56 {ops : Array Oper} {rest : List Oper} {o : Oper} {a : Act} {w : World} {Q : Exit → Act → World → Prop} (hgd : o.guard = none) (x : Operand)
    (ho : o.op = .call { callee := .builtin .clear, args := #[x], argTypes := #[56] }) (mb : Nat) (w1 : World) (hx : a.eval x = .map (some mb)) (hrun : ∀ ty, (Builtin.clear_ #[56] ty #[.map (some mb)]).run Try.prog w = .ok (.tuple #[]) w1)
    (h : wpList Try.prog ops Q rest (a.put o.dst (.tuple #[])) w1) : wpList Try.prog ops Q (o :: rest) a w := by
  refine wpList_plain hgd fun K hK => ?_
  unfold Oper.wp
  simp [execOp, ho, resolve, invoke, builtin, hx, hrun, Result.andThen]
  exact hK _ _ h
set_option maxHeartbeats 400000 in
theorem settle_any (p nb mb : Nat) (s : DS) (w : World) (h : Dk w p nb mb s) :
    Calls Try.prog 35 #[.pointer (some ⟨p, 0, none⟩)] w fun e w' => e = .returned (.tuple #[]) ∧ Dk w' p nb mb (safeS s) ∧ Off [p, nb, mb] w w' := by
  obtain ⟨hn1, hn2, hn3, hp, hnb, hmb⟩ := h.ne
  have ok' := safeS_ok h.1
  obtain ⟨ok, cap, set, after, done, flat, d1, d2, d3, d4, d5, d6⟩ := h
  obtain ⟨c0, c1, c2, c3, c4, c5, c6, c7, f0, f1, f2, f3, f4, f5, f6, f7⟩ := d1.cells
  obtain ⟨w1, hcl, hm1, hg1⟩ := d5.clear s.B
  have HD : Hid (Dk w1 p nb mb (safeS s) ∧ Off [p, nb, mb] w w1) := by
    have ho : Off [p, nb, mb] w w1 := (Off.refl _ _).grown hg1 (by simp)
    exact ⟨⟨ok', cap, set, after, done, flat, (hg1.block p hp (by simp; exact hn2)).trans d1, (hg1.block nb hnb (by simp; exact hn3)).trans d2, d3, d4, hm1, d6⟩, ho⟩
  have hcl' : ∀ ty, (Builtin.clear_ #[56] ty #[.map (some mb)]).run Try.prog w = .ok (.tuple #[]) w1 := hcl
  have HC : Hid (∀ ty, (Builtin.clear_ #[56] ty #[.map (some mb)]).run Try.prog w = .ok (.tuple #[]) w1) := hcl
  clear d1 d2 d4 d5 hcl hcl' hm1 hg1
  go_enter Try.func35, Try.ntmps35
  go_wp2_with (first | (refine wp_clear56 rfl _ rfl mb w1 rfl HC.out ?_) | fail)
  exact bodyPost_end (v := .tuple #[]) (results_none rfl _ _ _) rfl ⟨rfl, HD.out⟩

def opsed (s : DS) : DS := { s with ops := inc s.ops }
def felled (s : DS) : DS := { s with fails := -1, down := true }
theorem opsed_ok {s : DS} (h : s.Ok) : (opsed s).Ok := ⟨h.room, h.isB, h.isS, h.same, h.lo, h.hi⟩
theorem felled_ok {s : DS} (h : s.Ok) : (felled s).Ok := ⟨h.room, h.isB, h.isS, h.same, by show (-1 : Int) ≤ -1; decide, by show (-1 : Int) ≤ 9223372036854775807; decide⟩
theorem Dk.opsed {w : World} {p nb mb : Nat} {s : DS} (h : Dk w p nb mb s) : Dk (w.setCell ⟨p, 6, none⟩ (.int .i64 (inc s.ops))) p nb mb (opsed s) ∧ Off [p, nb, mb] w (w.setCell ⟨p, 6, none⟩ (.int .i64 (inc s.ops))) := by
  have hne := h.ne
  have ok' := opsed_ok h.1
  obtain ⟨ok, cap, set, after, done, flat, d1, d2, d3, d4, d5, d6⟩ := h
  have ho : Off [p] w (w.setCell ⟨p, 6, none⟩ (.int .i64 (inc s.ops))) := (Off.refl _ _).setCell (by simp) _
  obtain ⟨k1, k2⟩ := keep_set ho hne.1 hne.2.1 d2 d5
  exact ⟨⟨ok', cap, set, after, done, flat, (d1.set _).2.2.2.2.1, k1, d3, d4, k2, d6⟩, off_p ho⟩
theorem Dk.felled {w : World} {p nb mb : Nat} {s : DS} (h : Dk w p nb mb s) :
    Dk ((((w.setCell ⟨p, 3, none⟩ (.bool false)).setCell ⟨p, 4, none⟩ (.int .i64 0)).setCell ⟨p, 5, none⟩ (.bool false)).setCell ⟨p, 2, none⟩ (.bool true)) p nb mb (felled s) ∧
      Off [p, nb, mb] w ((((w.setCell ⟨p, 3, none⟩ (.bool false)).setCell ⟨p, 4, none⟩ (.int .i64 0)).setCell ⟨p, 5, none⟩ (.bool false)).setCell ⟨p, 2, none⟩ (.bool true)) := by
  have hne := h.ne
  have ok' := felled_ok h.1
  obtain ⟨ok, cap, set, after, done, flat, d1, d2, d3, d4, d5, d6⟩ := h
  have ho : Off [p] w ((((w.setCell ⟨p, 3, none⟩ (.bool false)).setCell ⟨p, 4, none⟩ (.int .i64 0)).setCell ⟨p, 5, none⟩ (.bool false)).setCell ⟨p, 2, none⟩ (.bool true)) := ((((Off.refl _ _).setCell (by simp) _).setCell (by simp) _).setCell (by simp) _).setCell (by simp) _
  obtain ⟨k1, k2⟩ := keep_set ho hne.1 hne.2.1 d2 d5
  have e := (((((d1.set (.bool false)).2.1.set (.int .i64 0)).2.2.1).set (.bool false)).2.2.2.1.set (.bool true)).1
  exact ⟨⟨ok', cap, false, 0, false, flat, e, k1, d3, d4, k2, .inl ⟨rfl, rfl⟩⟩, off_p ho⟩
theorem Dk.cells {w : World} {p nb mb : Nat} {s : DS} (h : Dk w p nb mb s) : ∃ cap set after done, DkC w p (.slice (some ⟨nb, 0, none⟩) s.room cap) (.map (some mb)) (.bool s.down) (.bool set) (.int .i64 after) (.bool done) (.int .i64 s.ops) (.int .i64 s.reads) ∧ (s.fails = 0 → done = s.done) := by
  obtain ⟨ok, cap, set, after, done, flat, d1, d2, d3, d4, d5, d6⟩ := h
  refine ⟨cap, set, after, done, d1.cells, fun h0 => ?_⟩
  rcases d6 with ⟨e1, _⟩ | ⟨_, _, _, e⟩
  · omega
  · exact e
/-- What is done leaves all but the blocks' bytes. -/
structure Does (F : DS → DS) : Prop where
  rest : ∀ s, F s = { s with B := (F s).B, S := (F s).S, L := (F s).L }
  same : ∀ s t, s.B = t.B → s.S = t.S → s.L = t.L → (F s).B = (F t).B ∧ (F s).S = (F t).S ∧ (F s).L = (F t).L
theorem does_put (n : Nat) (b : List Int) : Does (fun s => putS s n b) := ⟨fun s => rfl, fun s t h1 h2 h3 => ⟨by simp [putS, h1], by simp [putS, h2], by simp [putS, h3]⟩⟩
theorem does_safe : Does safeS := ⟨fun s => rfl, fun s t h1 h2 h3 => ⟨by simp [safeS, h1], by simp [safeS, h1], rfl⟩⟩
theorem step_well {F : DS → DS} (hF : Does F) (s : DS) (h : s.fails ≠ 0) : F (ticked (opsed s)) = stepS s (F s) := by
  rw [hF.rest (ticked (opsed s))]
  obtain ⟨e1, e2, e3⟩ := hF.same (ticked (opsed s)) s rfl rfl rfl
  rw [e1, e2, e3]
  unfold stepS
  rw [if_neg h]
  rfl
theorem step_felled {F : DS → DS} (hF : Does F) (s : DS) (h : s.fails = 0) : felled (if s.done then F (ticked (opsed s)) else ticked (opsed s)) = stepS s (F s) := by
  obtain ⟨e1, e2, e3⟩ := hF.same (ticked (opsed s)) s rfl rfl rfl
  unfold stepS
  rw [if_pos h]
  cases hd : s.done
  · simp only [Bool.false_eq_true, if_false]
    simp [felled, ticked, opsed, hd]
  · simp only [if_true]
    rw [hF.rest (ticked (opsed s)), e1, e2, e3]
    simp [felled, ticked, opsed, hd]


set_option maxHeartbeats 400000 in
theorem lit_any (p nb mb : Nat) (s : DS) (n : Nat) (a : Option Addr) (cap' : Nat) (zs : List Int) (g1 g2 g3 : Nat) (w : World) (h : Dk w p nb mb s) (hn : n < s.room) (hz : IsB zs) (hbv : BV w a zs)
    (h1 : w.cell? ⟨g1, 0, none⟩ = some (.pointer (some ⟨p, 0, none⟩))) (h2 : w.cell? ⟨g2, 0, none⟩ = some (.int .i64 n)) (h3 : w.cell? ⟨g3, 0, none⟩ = some (.slice a 256 cap')) :
    Calls Try.prog 38 #[.pointer (some ⟨g1, 0, none⟩), .pointer (some ⟨g2, 0, none⟩), .pointer (some ⟨g3, 0, none⟩)] w fun e w' => e = .returned (.tuple #[]) ∧ Dk w' p nb mb (putS s n zs) ∧ Off [p, nb, mb] w w' := by
  have HP : Hid (Calls Try.prog 39 #[.pointer (some ⟨p, 0, none⟩), .int .i64 n, .slice a 256 cap'] w fun e w' => e = .returned (.tuple #[]) ∧ Dk w' p nb mb (putS s n zs) ∧ Off [p, nb, mb] w w') := put_any p nb mb s n a cap' zs w h hn hz hbv
  clear h hz hbv
  go_enter Try.func38, Try.ntmps38
  go_wp2_with (first | (go_at_call 39; refine HP.out.mono ?_; rintro e w1 ⟨rfl, hd1, ho1⟩) | fail)
  exact bodyPost_end (v := .tuple #[]) (results_none rfl _ _ _) rfl ⟨rfl, hd1, ho1⟩

theorem BV.offX {w w' : World} {a : Option Addr} {zs : List Int} {X : List Nat} (h : BV w a zs) (ho : Off X w w') (hx : ∀ b off, a = some ⟨b, off, none⟩ → b ∉ X) : BV w' a zs := by
  obtain ⟨hz, h1 | ⟨b, off, rfl, hlt, hc⟩⟩ := h
  · exact ⟨hz, .inl h1⟩
  · exact ⟨hz, .inr ⟨b, off, rfl, Nat.lt_of_lt_of_le hlt ho.size, fun i hi => (World.cell?_of_block (w := w) (a := ⟨b, off + i, none⟩) (ho.block b hlt (hx b off rfl))).trans (hc i hi)⟩⟩
theorem off_cell {w w' : World} {X : List Nat} {q : Nat} {v : Value} (ho : Off X w w') (hq : q ∉ X) (h : w.cell? ⟨q, 0, none⟩ = some v) : w'.cell? ⟨q, 0, none⟩ = some v :=
  (World.cell?_of_block (w := w) (a := ⟨q, 0, none⟩) (ho.block q (World.block_lt_of_cell? w _ h) hq)).trans h

set_option maxHeartbeats 800000 in
theorem step_sync (p nb mb : Nat) (s : DS) (w : World) (h : Dk w p nb mb s) :
    Calls Try.prog 37 #[.pointer (some ⟨p, 0, none⟩), .func (.func 35) #[.pointer (some ⟨p, 0, none⟩)] #[]] w fun e w' => e = .returned (.int .i64 (stepE s)) ∧ Dk w' p nb mb (stepS s (safeS s)) ∧ Off [p, nb, mb] w w' := by
  obtain ⟨cap, set, after, done, ⟨c0, c1, c2, c3, c4, c5, c6, c7, f0, f1, f2, f3, f4, f5, f6, f7⟩, hdn⟩ := h.cells
  have hne := h.ne
  obtain ⟨hO, oO⟩ := h.opsed
  have HF : Hid (Calls Try.prog 49 #[.pointer (some ⟨p, 0, none⟩)] (w.setCell ⟨p, 6, none⟩ (.int .i64 (inc s.ops))) fun e w' => e = .returned (.bool (decide (s.fails = 0))) ∧ Dk w' p nb mb (ticked (opsed s)) ∧ Off [p, nb, mb] (w.setCell ⟨p, 6, none⟩ (.int .i64 (inc s.ops))) w') := fails_any p nb mb (opsed s) _ hO
  have OO : Hid (Off [p, nb, mb] w (w.setCell ⟨p, 6, none⟩ (.int .i64 (inc s.ops)))) := oO
  clear hO oO h hdn
  by_cases h0 : s.fails = 0
  · have ef : decide (s.fails = 0) = true := by simpa using h0
    have es : stepE s = 11 := by unfold stepE; rw [if_pos h0]
    have ht : (ticked (opsed s)).fails = 0 := by simp [ticked, opsed, h0]
    have hdt : (ticked (opsed s)).done = s.done := rfl
    rw [ef] at HF
    rw [es, ← step_felled (F := safeS) does_safe s h0]
    unfold inc at HF OO
    have HT : Hid ((ticked (opsed s)).fails = 0 ∧ (ticked (opsed s)).done = s.done) := ⟨ht, hdt⟩
    generalize ticked (opsed s) = s1 at *
    clear ef es ht hdt
    cases hds : s.done
    · go_enter Try.func37, Try.ntmps37
      go_wp2_with (first
        | (go_at_call 49; refine HF.out.mono ?_; rintro e w1 ⟨rfl, hd1, ho1⟩; obtain ⟨cap1, set1, after1, done1, ⟨k0, k1, k2, k3, k4, k5, k6, k7, g0, g1, g2, g3, g4, g5, g6, g7⟩, hdn1⟩ := hd1.cells; have e5 := hdn1 HT.out.1; rw [HT.out.2, hds] at e5; subst e5; obtain ⟨hd3, ho3⟩ := hd1.felled; have H3 : Hid (Dk _ p nb mb (felled s1) ∧ Off [p, nb, mb] w1 _) := ⟨hd3, ho3⟩; clear hd3 ho3 hdn1)
        | fail)
      go_ret
      exact ⟨rfl, H3.out.1, (OO.out.trans ho1).trans H3.out.2⟩
    · go_enter Try.func37, Try.ntmps37
      go_wp2_with (first
        | (go_at_call 49; refine HF.out.mono ?_; rintro e w1 ⟨rfl, hd1, ho1⟩; obtain ⟨cap1, set1, after1, done1, ⟨k0, k1, k2, k3, k4, k5, k6, k7, g0, g1, g2, g3, g4, g5, g6, g7⟩, hdn1⟩ := hd1.cells; have e5 := hdn1 HT.out.1; rw [HT.out.2, hds] at e5; subst e5; clear hdn1; skip)
        | (go_at_call 35; refine (settle_any p nb mb _ _ hd1).mono ?_; rintro e w2 ⟨rfl, hd2, ho2⟩; obtain ⟨cap2, set2, after2, done2, ⟨m0, m1, m2, m3, m4, m5, m6, m7, n0, n1, n2, n3, n4, n5, n6, n7⟩, hdn2⟩ := hd2.cells; obtain ⟨hd3, ho3⟩ := hd2.felled; have H3 : Hid (Dk _ p nb mb (felled (safeS s1)) ∧ Off [p, nb, mb] w2 _) := ⟨hd3, ho3⟩; clear hd3 ho3 hdn2)
        | fail)
      go_ret
      exact ⟨rfl, H3.out.1, ((OO.out.trans ho1).trans ho2).trans H3.out.2⟩
  · have ef : decide (s.fails = 0) = false := by simpa using h0
    have es : stepE s = 0 := by unfold stepE; rw [if_neg h0]
    rw [ef] at HF
    rw [es, ← step_well (F := safeS) does_safe s h0]
    unfold inc at HF OO
    generalize ticked (opsed s) = s1 at *
    clear ef es
    go_enter Try.func37, Try.ntmps37
    go_wp2_with (first | (go_at_call 49; refine HF.out.mono ?_; rintro e w1 ⟨rfl, hd1, ho1⟩; skip) | (go_at_call 35; refine (settle_any p nb mb _ _ hd1).mono ?_; rintro e w2 ⟨rfl, hd2, ho2⟩) | fail)
    go_ret
    exact ⟨rfl, hd2, (OO.out.trans ho1).trans ho2⟩

set_option maxHeartbeats 800000 in
theorem step_write (p nb mb : Nat) (s : DS) (w : World) (h : Dk w p nb mb s) (n : Nat) (a : Option Addr) (cap' : Nat) (zs : List Int) (q1 q2 q3 : Nat) (hn : n < s.room) (hz : IsB zs) (hbv : BV w a zs) (hax : ∀ b off, a = some ⟨b, off, none⟩ → b ∉ [p, nb, mb]) (hq : q1 ∉ [p, nb, mb] ∧ q2 ∉ [p, nb, mb] ∧ q3 ∉ [p, nb, mb])
    (h1 : w.cell? ⟨q1, 0, none⟩ = some (.pointer (some ⟨p, 0, none⟩))) (h2 : w.cell? ⟨q2, 0, none⟩ = some (.int .i64 n)) (h3 : w.cell? ⟨q3, 0, none⟩ = some (.slice a 256 cap')) :
    Calls Try.prog 37 #[.pointer (some ⟨p, 0, none⟩), .func (.func 38) #[] #[.pointer (some ⟨q1, 0, none⟩), .pointer (some ⟨q2, 0, none⟩), .pointer (some ⟨q3, 0, none⟩)]] w fun e w' => e = .returned (.int .i64 (stepE s)) ∧ Dk w' p nb mb (stepS s ((fun s => putS s n zs) s)) ∧ Off [p, nb, mb] w w' := by
  obtain ⟨cap, set, after, done, ⟨c0, c1, c2, c3, c4, c5, c6, c7, f0, f1, f2, f3, f4, f5, f6, f7⟩, hdn⟩ := h.cells
  have hne := h.ne
  obtain ⟨hO, oO⟩ := h.opsed
  have HF : Hid (Calls Try.prog 49 #[.pointer (some ⟨p, 0, none⟩)] (w.setCell ⟨p, 6, none⟩ (.int .i64 (inc s.ops))) fun e w' => e = .returned (.bool (decide (s.fails = 0))) ∧ Dk w' p nb mb (ticked (opsed s)) ∧ Off [p, nb, mb] (w.setCell ⟨p, 6, none⟩ (.int .i64 (inc s.ops))) w') := fails_any p nb mb (opsed s) _ hO
  have OO : Hid (Off [p, nb, mb] w (w.setCell ⟨p, 6, none⟩ (.int .i64 (inc s.ops)))) := oO
  clear hO oO h hdn
  by_cases h0 : s.fails = 0
  · have ef : decide (s.fails = 0) = true := by simpa using h0
    have es : stepE s = 11 := by unfold stepE; rw [if_pos h0]
    have ht : (ticked (opsed s)).fails = 0 := by simp [ticked, opsed, h0]
    have hdt : (ticked (opsed s)).done = s.done := rfl
    rw [ef] at HF
    rw [es, ← step_felled (F := (fun s => putS s n zs)) (does_put n zs) s h0]
    unfold inc at HF OO
    have HR : Hid ((ticked (opsed s)).room = s.room) := rfl
    have HT : Hid ((ticked (opsed s)).fails = 0 ∧ (ticked (opsed s)).done = s.done) := ⟨ht, hdt⟩
    generalize ticked (opsed s) = s1 at *
    clear ef es ht hdt
    cases hds : s.done
    · go_enter Try.func37, Try.ntmps37
      go_wp2_with (first
        | (go_at_call 49; refine HF.out.mono ?_; rintro e w1 ⟨rfl, hd1, ho1⟩; obtain ⟨cap1, set1, after1, done1, ⟨k0, k1, k2, k3, k4, k5, k6, k7, g0, g1, g2, g3, g4, g5, g6, g7⟩, hdn1⟩ := hd1.cells; have e5 := hdn1 HT.out.1; rw [HT.out.2, hds] at e5; subst e5; obtain ⟨hd3, ho3⟩ := hd1.felled; have H3 : Hid (Dk _ p nb mb (felled s1) ∧ Off [p, nb, mb] w1 _) := ⟨hd3, ho3⟩; clear hd3 ho3 hdn1)
        | fail)
      go_ret
      exact ⟨rfl, H3.out.1, (OO.out.trans ho1).trans H3.out.2⟩
    · go_enter Try.func37, Try.ntmps37
      go_wp2_with (first
        | (go_at_call 49; refine HF.out.mono ?_; rintro e w1 ⟨rfl, hd1, ho1⟩; obtain ⟨cap1, set1, after1, done1, ⟨k0, k1, k2, k3, k4, k5, k6, k7, g0, g1, g2, g3, g4, g5, g6, g7⟩, hdn1⟩ := hd1.cells; have e5 := hdn1 HT.out.1; rw [HT.out.2, hds] at e5; subst e5; clear hdn1; have bv1 := hbv.offX (OO.out.trans ho1) hax; have x1 := off_cell (OO.out.trans ho1) hq.1 h1; have x2 := off_cell (OO.out.trans ho1) hq.2.1 h2; have x3 := off_cell (OO.out.trans ho1) hq.2.2 h3)
        | (go_at_call 38; refine (lit_any p nb mb _ n a cap' zs q1 q2 q3 _ hd1 (by rw [HR.out]; exact hn) hz bv1 x1 x2 x3).mono ?_; rintro e w2 ⟨rfl, hd2, ho2⟩; obtain ⟨cap2, set2, after2, done2, ⟨m0, m1, m2, m3, m4, m5, m6, m7, n0, n1, n2, n3, n4, n5, n6, n7⟩, hdn2⟩ := hd2.cells; obtain ⟨hd3, ho3⟩ := hd2.felled; have H3 : Hid (Dk _ p nb mb (felled ((fun s => putS s n zs) s1)) ∧ Off [p, nb, mb] w2 _) := ⟨hd3, ho3⟩; clear hd3 ho3 hdn2)
        | fail)
      go_ret
      exact ⟨rfl, H3.out.1, ((OO.out.trans ho1).trans ho2).trans H3.out.2⟩
  · have ef : decide (s.fails = 0) = false := by simpa using h0
    have es : stepE s = 0 := by unfold stepE; rw [if_neg h0]
    rw [ef] at HF
    rw [es, ← step_well (F := (fun s => putS s n zs)) (does_put n zs) s h0]
    unfold inc at HF OO
    have HR : Hid ((ticked (opsed s)).room = s.room) := rfl
    generalize ticked (opsed s) = s1 at *
    clear ef es
    go_enter Try.func37, Try.ntmps37
    go_wp2_with (first | (go_at_call 49; refine HF.out.mono ?_; rintro e w1 ⟨rfl, hd1, ho1⟩; have bv1 := hbv.offX (OO.out.trans ho1) hax; have x1 := off_cell (OO.out.trans ho1) hq.1 h1; have x2 := off_cell (OO.out.trans ho1) hq.2.1 h2; have x3 := off_cell (OO.out.trans ho1) hq.2.2 h3) | (go_at_call 38; refine (lit_any p nb mb _ n a cap' zs q1 q2 q3 _ hd1 (by rw [HR.out]; exact hn) hz bv1 x1 x2 x3).mono ?_; rintro e w2 ⟨rfl, hd2, ho2⟩) | fail)
    go_ret
    exact ⟨rfl, hd2, (OO.out.trans ho1).trans ho2⟩
end Go.Proofs.Ytmapjikbplindaa
