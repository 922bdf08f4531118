/- The fate of loose blocks, byte by byte; the read of a block. -/
import Derived.Test.YtmapjikbplindaaCalls
namespace Go.Proofs.Ytmapjikbplindaa
open Go.RowKit Go.Maps
set_option maxRecDepth 20000

/-- v is a slice with these bytes, in no block of X. -/
def FV (w : World) (X : List Nat) (v : Value) (fs : List Int) : Prop :=
  ∃ a cap, v = .slice a fs.length cap ∧ fs.length ≤ cap ∧ cap ≤ 9223372036854775807 ∧ BV w a fs ∧ (fs ≠ [] → ∀ b off, a = some ⟨b, off, none⟩ → b ∉ X)
theorem FV.off {w w' : World} {X Y : List Nat} {v : Value} {fs : List Int} (h : FV w X v fs) (ho : Off Y w w') (hs : ∀ y ∈ Y, y ∈ X) : FV w' X v fs := by
  obtain ⟨a, cap, e, h1, h2, h3, h4⟩ := h
  by_cases hn : fs = []
  · subst hn; exact ⟨a, cap, e, h1, h2, ⟨AllB.nil, .inl rfl⟩, fun h => absurd rfl h⟩
  · exact ⟨a, cap, e, h1, h2, h3.offX ho (fun b off e hm => h4 hn b off e (hs b hm)), h4⟩
theorem FV.below {w w' : World} {X : List Nat} {v : Value} {fs : List Int} (h : FV w X v fs) (hb : Below w.heap.size w w') : FV w' X v fs := h.off (Off.of_below (X := []) hb) (by simp)
theorem FV.nil (w : World) (X : List Nat) : FV w X (.slice none 0 0) [] := ⟨none, 0, rfl, Nat.le_refl _, by decide, ⟨AllB.nil, .inl rfl⟩, by simp⟩
theorem below_drewN {B : Nat} {w w' : World} (h : Below B w w') : ∀ n, Below B w (w'.drewN n)
  | 0 => h
  | k + 1 => (below_drewN h k).drew
set_option maxHeartbeats 400000 in
theorem next_any (X : List Nat) (v : Value) (fs : List Int) (w : World) (h : FV w X v fs) :
    Calls Try.prog 48 #[v] w fun e w' => ∃ v', e = .returned (.tuple #[.int .u8 (nxt fs).1, v']) ∧ FV w' X v' (nxt fs).2 ∧ Below w.heap.size w w' := by
  obtain ⟨a, cap, rfl, hlc, hc, hbv, hx⟩ := h
  cases fs with
  | nil =>
    go_enter Try.func48, Try.ntmps48
    go_wp2
    refine bodyPost_ret (v := .tuple #[.int .u8 0, .slice none 0 0]) (by simp [results, Try.results48, go_sem]) rfl ⟨_, rfl, FV.nil _ _, Below.refl _ _⟩
  | cons z zs =>
    obtain ⟨hz, h1 | ⟨b, off, rfl, hlt, hcell⟩⟩ := hbv
    · cases h1
    have h0 := hcell 0 (by simp)
    simp only [Nat.add_zero, List.getD_cons_zero] at h0
    have hne : ((zs.length + 1 : Nat) : Int) ≠ 0 := by omega
    have hlen : (z :: zs).length = zs.length + 1 := rfl
    rw [hlen] at hlc ⊢
    have HX : Hid (b ∉ X) := hx (by simp) b off rfl
    have HZ : Hid (AllB zs ∧ ∀ i, i < zs.length → w.cell? ⟨b, off + 1 + i, none⟩ = some (.int .u8 (zs.getD i 0))) := by
      refine ⟨fun y hy => hz y (List.mem_cons_of_mem _ hy), fun i hi => ?_⟩
      have := hcell (i + 1) (by simp; omega)
      rw [List.getD_cons_succ] at this
      rw [← this]; congr 2; omega
    clear hcell hz hx
    have hk : (nxt (z :: zs)) = (z, zs) := rfl
    rw [hk]
    simp only
    by_cases hc1 : cap = 1
    · obtain rfl : zs = [] := List.eq_nil_of_length_eq_zero (by omega)
      subst hc1
      go_enter Try.func48, Try.ntmps48
      go_wp2_with fail
      go_quiet (fail)
      go_wp2
      refine bodyPost_ret (v := .tuple #[.int .u8 z, .slice (some ⟨b, off, none⟩) 0 0]) (by simp [results, Try.results48, go_sem]) rfl ⟨_, rfl, ⟨_, 0, rfl, Nat.le_refl _, by decide, ⟨AllB.nil, .inl rfl⟩, ?_⟩, below_drewN (Below.refl _ _) _⟩
      intro _ b' off' e
      cases e
      exact HX.out
    · generalize hn : zs.length = n at *
      go_enter Try.func48, Try.ntmps48
      go_wp2_with fail
      go_quiet (fail)
      go_wp2
      refine bodyPost_ret (v := .tuple #[.int .u8 z, .slice (some ⟨b, off + 1, none⟩) n (cap - 1)]) (by simp [results, Try.results48, go_sem]) rfl ⟨_, rfl, ⟨_, cap - 1, by rw [hn], by omega, by omega, ⟨HZ.out.1, .inr ⟨b, off + 1, rfl, hlt, fun i hi => HZ.out.2 i (by omega)⟩⟩, ?_⟩, below_drewN (Below.refl _ _) _⟩
      intro _ b' off' e
      cases e
      exact HX.out
set_option maxHeartbeats 400000 in
theorem staying_any (X : List Nat) (v : Value) (fs : List Int) (w : World) (h : FV w X v fs) :
    Calls Try.prog 34 #[v] w fun e w' => ∃ v', e = .returned (.tuple #[.int .i64 (stay fs).1, v']) ∧ FV w' X v' (stay fs).2 ∧ Below w.heap.size w w' := by
  have hall : AllB fs := by obtain ⟨_, _, _, _, _, hb, _⟩ := h; exact hb.1
  have h1 := nxt_AllB hall
  have h2 := nxt_AllB h1.2.2
  have H1 : Hid (Calls Try.prog 48 #[v] w fun e w' => ∃ v', e = .returned (.tuple #[.int .u8 (nxt fs).1, v']) ∧ FV w' X v' (nxt fs).2 ∧ Below w.heap.size w w') := next_any X v fs w h
  have H2 : Hid (∀ v1 w1, FV w1 X v1 (nxt fs).2 → Calls Try.prog 48 #[v1] w1 fun e w' => ∃ v', e = .returned (.tuple #[.int .u8 (nxt (nxt fs).2).1, v']) ∧ FV w' X v' (nxt (nxt fs).2).2 ∧ Below w1.heap.size w1 w') := fun v1 w1 h => next_any X v1 _ w1 h
  unfold stay
  generalize (nxt (nxt fs).2).2 = f2 at *
  generalize (nxt (nxt fs).2).1 = t at *
  generalize (nxt fs).2 = f1 at *
  generalize (nxt fs).1 = z at *
  have htm : Int.tmod z 3 = z % 3 := Int.tmod_eq_emod_of_nonneg h1.1
  have hw8 : IntKind.u8.wrap (z % 3) = z % 3 := by rw [IntKind.wrap_u8]; omega
  have hwt : wrap64 t = t := by unfold wrap64; omega
  have htn : ((t.toNat : Nat) : Int) = t := by omega
  by_cases hk0 : z % 3 = 0
  · rw [if_pos hk0]
    have hb : (z % 3 == 0) = true := by simpa using hk0
    go_enter Try.func34, Try.ntmps34
    go_wp2_with (first | (go_at_call 48; refine H1.out.mono ?_; rintro e w1 ⟨v1, rfl, hf1, hb1⟩) | fail)
    refine bodyPost_ret (v := .tuple #[.int .i64 0, v1]) (by simp [results, Try.results34, go_sem]) rfl ⟨v1, rfl, hf1, hb1⟩
  · rw [if_neg hk0]
    have hb : (z % 3 == 0) = false := by simpa using hk0
    by_cases hk1 : z % 3 = 1
    · rw [if_pos hk1]
      have hb' : (z % 3 == 1) = true := by simpa using hk1
      go_enter Try.func34, Try.ntmps34
      go_wp2_with (first | (go_at_call 48; refine H1.out.mono ?_; rintro e w1 ⟨v1, rfl, hf1, hb1⟩) | fail)
      refine bodyPost_ret (v := .tuple #[.int .i64 256, v1]) (by simp [results, Try.results34, go_sem]) rfl ⟨v1, rfl, hf1, hb1⟩
    · rw [if_neg hk1]
      have hb' : (z % 3 == 1) = false := by simpa using hk1
      go_enter Try.func34, Try.ntmps34
      go_wp2_with (first | (go_at_call 48; refine H1.out.mono ?_; rintro e w1 ⟨v1, rfl, hf1, hb1⟩; clear H1) | (go_at_call 48; refine (H2.out v1 w1 hf1).mono ?_; rintro e w2 ⟨v2, rfl, hf2, hb2⟩) | fail)
      rw [htn]
      refine bodyPost_ret (v := .tuple #[.int .i64 t, v2]) (by simp [results, Try.results34, go_sem]) rfl ⟨v2, rfl, hf2, hb1.trans (hb2.mono hb1.size)⟩

theorem Off.then_new {X : List Nat} {w w2 w3 : World} {g : Nat} (h : Off X w w2) (h2 : Off [g] w2 w3) (hg : w.heap.size ≤ g) : Off X w w3 :=
  ⟨h2.os.trans h.os, h2.tape.trans h.tape, h2.output.trans h.output, Nat.le_trans h.size h2.size, fun k hk hx => (h2.block k (Nat.lt_of_lt_of_le hk h.size) (by simp; omega)).trans (h.block k hk hx)⟩
theorem lay_nil (flat : Array Value) (off : Nat) : lay flat off [] = flat := by simp [lay]
theorem lay_over (us zs : List Int) : lay (blkA us) 0 zs = blkA (zs ++ us.drop zs.length) := by
  simp [lay, blkA]
theorem readS_err {s : DS} {n : Int} (h : reachE s n ≠ 0) : readS s n = s ∧ readB s n = [] := by
  refine ⟨?_, ?_⟩
  · unfold readS; rw [if_pos h]
  · unfold readB; rw [if_pos h]
theorem readS_well {s : DS} {n : Int} (h : reachE s n = 0) : readS s n = { s with reads := inc s.reads } ∧ readB s n = s.B n.toNat := by
  refine ⟨?_, ?_⟩
  · unfold readS; rw [if_neg (by simpa using h)]
  · unfold readB; rw [if_neg (by simpa using h)]
theorem Dk.readed {w : World} {p nb mb : Nat} {s : DS} (h : Dk w p nb mb s) : Dk (w.setCell ⟨p, 7, none⟩ (.int .i64 (inc s.reads))) p nb mb { s with reads := inc s.reads } ∧ Off [p, nb, mb] w (w.setCell ⟨p, 7, none⟩ (.int .i64 (inc s.reads))) := by
  have hne := h.ne
  obtain ⟨ok, cap, set, after, done, flat, d1, d2, d3, d4, d5, d6⟩ := h
  have ho : Off [p] w (w.setCell ⟨p, 7, none⟩ (.int .i64 (inc s.reads))) := (Off.refl _ _).setCell (by simp) _
  obtain ⟨k1, k2⟩ := keep_set ho hne.1 hne.2.1 d2 d5
  exact ⟨⟨⟨ok.room, ok.isB, ok.isS, ok.same, ok.lo, ok.hi⟩, cap, set, after, done, flat, (d1.set _).2.2.2.2.2, k1, d3, d4, k2, d6⟩, off_p ho⟩
theorem Dk.bv {w : World} {p nb mb : Nat} {s : DS} (h : Dk w p nb mb s) {n : Nat} (hn : n < s.room) : BV w (some ⟨nb, n * 256, none⟩) (s.B n) := by
  have hne := h.ne
  obtain ⟨ok, cap, set, after, done, flat, d1, d2, d3, d4, d5, d6⟩ := h
  refine ⟨(ok.isB n hn).2, .inr ⟨nb, n * 256, rfl, hne.2.2.2.2.1, fun i hi => ?_⟩⟩
  rw [cell_of_row _ _ _ _ _ _ d2]
  exact d4.2 n hn i (by have := (ok.isB n hn).1; omega)
theorem own_of_row {w : World} {base g : Nat} {zs : List Int} (hz : zs.length = 256) (hb : base ≤ g) (h : w.heap[g]? = some (.cells (blkA zs) 5 (0, 0))) : Own w base (.slice (some ⟨g, 0, none⟩) 256 256) zs := by
  refine ⟨by simp, .inr ⟨g, 256, blkA zs, by rw [hz], hb, h, by omega, by decide, by rw [size_blkA hz], ?_⟩⟩
  simp only [blkA, Nat.mul_one]
  rw [List.take_of_length_le (by simp [hz])]
set_option maxHeartbeats 800000 in
theorem read_any (p nb mb : Nat) (s : DS) (n : Int) (w : World) (h : Dk w p nb mb s) :
    Calls Try.prog 15 #[.pointer (some ⟨p, 0, none⟩), .int .i64 n] w fun e w' => ∃ v, e = .returned (.tuple #[v, .int .i64 (reachE s n)]) ∧ Own w' w.heap.size v (readB s n) ∧ Dk w' p nb mb (readS s n) ∧ Off [p, nb, mb] w w' := by
  have hne := h.ne
  have HR : Hid (Calls Try.prog 36 #[.pointer (some ⟨p, 0, none⟩), .int .i64 n] w fun e w' => e = .returned (.int .i64 (reachE s n)) ∧ w' = w) := reach_any p nb mb s n w h
  have HD : Hid (Dk w p nb mb s) := h
  obtain ⟨cap, set, after, done, ⟨c0, c1, c2, c3, c4, c5, c6, c7, f0, f1, f2, f3, f4, f5, f6, f7⟩, _⟩ := h.cells
  by_cases hE : reachE s n = 0
  · obtain ⟨e1, e2⟩ := readS_well hE
    obtain ⟨hdn, hn0, hnr⟩ := reach_ok hE
    rw [e1, e2, hE]
    rw [hE] at HR
    obtain ⟨m, rfl⟩ : ∃ m : Nat, n = (m : Int) := ⟨n.toNat, by omega⟩
    simp only [Int.toNat_natCast] at hnr ⊢
    have h1 : (m : Int) < s.room := by omega
    have hb1 : decide ((m : Int) < 0) = false := by simp
    have hBl : Hid ((s.B m).length = 256) := (h.1.isB m hnr).1
    obtain ⟨hd1, ho1⟩ := h.readed
    have H1 : Hid (Dk (w.setCell ⟨p, 7, none⟩ (.int .i64 (wrap64 (s.reads + 1)))) p nb mb { s with reads := inc s.reads } ∧ Off [p, nb, mb] w (w.setCell ⟨p, 7, none⟩ (.int .i64 (wrap64 (s.reads + 1))))) := ⟨hd1, ho1⟩
    have HSZ : Hid ((w.setCell ⟨p, 7, none⟩ (.int .i64 (wrap64 (s.reads + 1)))).heap.size = w.heap.size) := by simp [Hid, World.setCell]
    clear hd1 ho1 h e1 e2 hE hdn
    go_enter Try.func15, Try.ntmps15
    go_wp2_with (first
      | (go_at_call 36; refine HR.out.mono ?_; rintro e w' ⟨rfl, hw⟩; obtain rfl := hw.symm)
      | (refine wp_make256 rfl _ _ rfl rfl rfl ?_; intro w2 hk2 hs2 hb2; rw [HSZ.out] at hk2; have hd2 := H1.out.1.below hb2; obtain ⟨cap2, set2, after2, done2, hC2, _⟩ := hd2.cells; have k0 := hC2.c0; clear hC2 hs2)
      | (refine wp_copy_blk rfl _ _ rfl w.heap.size 0 256 256 256 (some ⟨nb, m * 256, none⟩) 256 rfl rfl (s.B m) (by rw [hBl.out]; rfl) (Dk.bv hd2 hnr) (by rw [hBl.out]; decide) (blkA zs256) 5 hk2 (by rw [hBl.out, size_blkA len_zs256]; exact Nat.le_refl _) ?_; intro w3 hk3 ho3)
      | fail)
    have e3 : lay (blkA zs256) 0 (s.B m) = blkA (s.B m) := by
      rw [lay_over, hBl.out, List.drop_of_length_le (by rw [len_zs256]; exact Nat.le_refl _), List.append_nil]
    refine bodyPost_ret (v := .tuple #[.slice (some ⟨w.heap.size, 0, none⟩) 256 256, .int .i64 0]) (by simp [results, Try.results15, go_sem]) rfl ⟨_, rfl, own_of_row hBl.out (Nat.le_refl _) (by rw [← e3]; exact hk3), hd2.off ho3 (by simp; omega) (by simp; omega) (by simp; omega), ?_⟩
    exact (H1.out.2.trans (Off.of_below hb2)).then_new ho3 (Nat.le_refl _)
  · obtain ⟨e1, e2⟩ := readS_err hE
    rw [e1, e2]
    have hb : (reachE s n == 0) = false := by simpa using hE
    clear h e1 e2
    generalize reachE s n = E at *
    go_enter Try.func15, Try.ntmps15
    go_wp2_with (first | (go_at_call 36; refine HR.out.mono ?_; rintro e w' ⟨rfl, hw⟩; obtain rfl := hw.symm) | fail)
    refine bodyPost_ret (v := .tuple #[.slice none 0 0, .int .i64 E]) (by simp [results, Try.results15, go_sem]) rfl ⟨_, rfl, Own.nil _ _, HD.out, Off.refl _ _⟩
end Go.Proofs.Ytmapjikbplindaa
