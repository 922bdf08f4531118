import Derived.Test.YtbklnadlbcndlaaGreatM7
import Derived.Test.YtbklnadlbcndlaaGreatM6
import Derived.Test.YtbklnadlbcndlaaGreatM1
import Derived.Deep.QuietTactic
import Derived.BigQuiet
import Derived.Laws.BytesArg
namespace Go.Proofs.YtbklnadlbcndlaaGreat
set_option maxRecDepth 20000
open Go.RowKit
set_option linter.unusedVariables false
set_option maxHeartbeats 400000 in
theorem equal_len (a b : Option Addr) (n m c d : Nat) (w : World) (h : n ≠ m) :
    Calls Tryz.prog 232 #[.slice a n c, .slice b m d] w fun e w' => e = .returned (.bool false) ∧ w' = w := by
  have hd : ((n : Int) == (m : Int)) = false := by simp; omega
  go_enter Tryz.func232, Tryz.ntmps232
  go_wp2
  go_ret
  exact ⟨rfl, rfl⟩
set_option maxHeartbeats 400000 in
theorem equal_zero (a b : Option Addr) (c d : Nat) (w : World) :
    Calls Tryz.prog 232 #[.slice a 0 c, .slice b 0 d] w fun e w' => e = .returned (.bool true) ∧ w' = w := by
  go_enter Tryz.func232, Tryz.ntmps232
  go_wp2
  go_loop [13] (fun i => i = .int .i64 0) (fun _ => 0)
  case atStart => rfl
  case round =>
    obtain rfl := hrel
    go_wp2
    go_ret
    exact ⟨rfl, rfl⟩
theorem take_eq {xs ys : List Int} (h : xs.length = ys.length) (k : Nat) (hk : k < xs.length) (ht : xs.take k = ys.take k) (he : xs.getD k 0 = ys.getD k 0) : xs.take (k + 1) = ys.take (k + 1) := by
  rw [take_snoc xs k hk, take_snoc ys k (by omega), ht, he]
theorem below_drewN {n : Nat} {w w' : World} (h : Below n w w') : ∀ k, Below n w (w'.drewN k)
  | 0 => h
  | k + 1 => (below_drewN h k).drew
set_option maxHeartbeats 400000 in
theorem equal_ok (g off g2 off2 n c d : Nat) (xs ys : List Int) (w : World) (ha : xs.length = n) (hb : ys.length = n) (hn : n ≤ 9223372036854775807) (hg : g < w.heap.size) (hg2 : g2 < w.heap.size)
    (hca : ∀ i, i < xs.length → w.cell? ⟨g, off + i, none⟩ = some (.int .u8 (xs.getD i 0))) (hcb : ∀ i, i < ys.length → w.cell? ⟨g2, off2 + i, none⟩ = some (.int .u8 (ys.getD i 0))) :
    Calls Tryz.prog 232 #[.slice (some ⟨g, off, none⟩) n c, .slice (some ⟨g2, off2, none⟩) n d] w fun e w' => e = .returned (.bool (decide (xs = ys))) ∧ Below w.heap.size w w' := by
  have HA : Hid (xs.length = n) := ha
  have HB : Hid (ys.length = n) := hb
  clear ha hb
  go_enter Tryz.func232, Tryz.ntmps232
  go_wp2
  go_loopw [13] (fun i wr => ∃ k : Nat, k ≤ n ∧ i = .int .i64 k ∧ xs.take k = ys.take k ∧ Below w.heap.size w wr) (fun i _ => n - (intOf i).toNat)
  case atStart => exact ⟨0, Nat.zero_le _, rfl, rfl, Below.refl _ _⟩
  case round =>
    obtain ⟨k, hk, rfl, ht, hbl⟩ := hrel
    by_cases hlt : k < n
    · have hx := (hbl.cell (p := ⟨g, off + k, none⟩) hg).trans (hca k (by have := HA.out; omega))
      have hy := (hbl.cell (p := ⟨g2, off2 + k, none⟩) hg2).trans (hcb k (by have := HB.out; omega))
      have HT : Hid (xs.take k = ys.take k) := ht
      clear ht
      by_cases he : xs.getD k 0 = ys.getD k 0
      · have HN : Hid (xs.take (k + 1) = ys.take (k + 1)) := take_eq (by rw [HA.out, HB.out]) k (by rw [HA.out]; exact hlt) HT.out he
        rw [← he] at hy
        clear he HT
        have HBL : Hid (Below w.heap.size w wr) := hbl
        clear hbl
        generalize xs.getD k 0 = x at *
        go_wp2_with fail
        go_quiet (fail)
        go_wp2
        go_roundw
        case rel => exact ⟨k + 1, by omega, by go_num, HN.out, below_drewN HBL.out _⟩
        case measure => simp [intOf]; omega
      · have HNE : Hid (decide (xs = ys) = false) := by
          have hne : xs ≠ ys := by rintro rfl; exact he rfl
          simpa [Hid] using hne
        have hq : (xs.getD k 0 == ys.getD k 0) = false := by simpa using he
        have HBL : Hid (Below w.heap.size w wr) := hbl
        clear he HT hbl
        generalize xs.getD k 0 = x at *
        generalize ys.getD k 0 = y at *
        go_wp2_with fail
        go_quiet (fail)
        go_wp2
        go_ret
        exact ⟨by rw [HNE.out]; rfl, below_drewN HBL.out _⟩
    · have : k = n := by omega
      subst this
      have he : xs = ys := by
        have h1 := HA.out
        have h2 := HB.out
        rwa [List.take_of_length_le (by omega), List.take_of_length_le (by omega)] at ht
      have HD : Hid (decide (xs = ys) = true) := by simpa [Hid] using he
      clear he ht
      go_wp2
      go_ret
      exact ⟨by rw [HD.out]; rfl, hbl⟩
theorem equal_any (a b : Option Addr) (n m c d : Nat) (xs ys : List Int) (w : World) (ha : xs.length = n) (hb : ys.length = m) (hn : n ≤ 9223372036854775807) (hva : BV w a xs) (hvb : BV w b ys) :
    Calls Tryz.prog 232 #[.slice a n c, .slice b m d] w fun e w' => e = .returned (.bool (decide (xs = ys))) ∧ Below w.heap.size w w' := by
  by_cases h : n = m
  · subst h
    obtain ⟨_, rfl | ⟨g, off, rfl, hg, hca⟩⟩ := hva
    · subst ha
      obtain rfl := List.eq_nil_of_length_eq_zero hb
      exact (equal_zero a b c d w).mono fun e w' h => ⟨h.1, by rw [h.2]; exact Below.refl _ _⟩
    · obtain ⟨_, rfl | ⟨g2, off2, rfl, hg2, hcb⟩⟩ := hvb
      · subst hb
        obtain rfl := List.eq_nil_of_length_eq_zero ha
        exact (equal_zero _ b c d w).mono fun e w' h => ⟨h.1, by rw [h.2]; exact Below.refl _ _⟩
      · exact equal_ok g off g2 off2 n c d xs ys w ha hb hn hg hg2 hca hcb
  · have hd : decide (xs = ys) = false := by
      simp
      rintro rfl
      omega
    rw [hd]
    exact (equal_len a b n m c d w h).mono fun e w' h => ⟨h.1, by rw [h.2]; exact Below.refl _ _⟩
end Go.Proofs.YtbklnadlbcndlaaGreat
namespace Go.Proofs.YtbklnadlbcndlaaGreat
set_option maxRecDepth 20000
open Go.RowKit
set_option linter.unusedVariables false
abbrev Good (zs : List Int) : Prop := zs.drop (zs.length - 4) = dig (more 0 (zs.take (zs.length - 4))) 4
def openE (zs : List Int) : Int := if zs.length < 4 then 3 else if Good zs then 0 else 13
def openL (zs : List Int) : List Int := if zs.length < 4 then [] else if Good zs then zs.take (zs.length - 4) else []
theorem getD_take (zs : List Int) (n i : Nat) (h : i < n) : (zs.take n).getD i 0 = zs.getD i 0 := by
  rw [List.getD_eq_getElem?_getD, List.getElem?_take, if_pos h, ← List.getD_eq_getElem?_getD]
theorem getD_drop (zs : List Int) (n i : Nat) : (zs.drop n).getD i 0 = zs.getD (n + i) 0 := by
  rw [List.getD_eq_getElem?_getD, List.getElem?_drop, ← List.getD_eq_getElem?_getD]
theorem BV.take {w : World} {a : Option Addr} {zs : List Int} (h : BV w a zs) (n : Nat) : BV w a (zs.take n) := by
  obtain ⟨hz, rfl | ⟨b, off, rfl, hlt, hc⟩⟩ := h
  · exact ⟨hz.take _, .inl (by simp)⟩
  · refine ⟨hz.take _, .inr ⟨b, off, rfl, hlt, fun i hi => ?_⟩⟩
    rw [List.length_take] at hi
    rw [getD_take _ _ _ (by omega)]
    exact hc i (by omega)
theorem BV.drop {w : World} {b off : Nat} {zs : List Int} (h : BV w (some ⟨b, off, none⟩) zs) (n : Nat) : BV w (some ⟨b, off + n, none⟩) (zs.drop n) := by
  obtain ⟨hz, rfl | ⟨b', off', e, hlt, hc⟩⟩ := h
  · exact ⟨hz.drop _, .inl (by simp)⟩
  · obtain ⟨rfl, rfl⟩ : b = b' ∧ off = off' := by simpa using e
    refine ⟨hz.drop _, .inr ⟨b, off + n, rfl, hlt, fun i hi => ?_⟩⟩
    rw [List.length_drop] at hi
    rw [getD_drop, Nat.add_assoc]
    exact hc _ (by omega)
set_option maxHeartbeats 400000 in
theorem open_cut (a : Option Addr) (len cap : Nat) (w : World) (h : len < 4) :
    Calls Tryz.prog 215 #[.slice a len cap] w fun e w' => e = .returned (.tuple #[.slice none 0 0, .int .i64 3]) ∧ w' = w := by
  go_enter Tryz.func215, Tryz.ntmps215
  go_wp2
  go_ret2
  exact ⟨rfl, rfl⟩
set_option maxHeartbeats 800000 in
theorem open_ok (b off n cap : Nat) (zs : List Int) (w : World) (hl : zs.length = n + 4) (hc : n + 4 ≤ cap) (hm : n ≤ 900000) (hb : BV w (some ⟨b, off, none⟩) zs) :
    Calls Tryz.prog 215 #[.slice (some ⟨b, off, none⟩) (n + 4) cap] w fun e w' => ∃ v, e = .returned (.tuple #[v, .int .i64 (openE zs)]) ∧ Own w' w.heap.size v (openL zs) ∧ Below w.heap.size w w' := by
  have hbt := hb.take n
  have hbd := hb.drop n
  have hlt : (zs.take n).length = n := by simp; omega
  have hld : (zs.drop n).length = 4 := by simp; omega
  have hg : Good zs ↔ zs.drop n = dig (more 0 (zs.take n)) 4 := by
    unfold Good
    rw [show zs.length - 4 = n by omega]
  have HE : Hid (openE zs = if zs.drop n = dig (more 0 (zs.take n)) 4 then 0 else 13) := by
    unfold openE Hid
    rw [if_neg (by omega)]
    simp only [hg]
  have HO : Hid (openL zs = if zs.drop n = dig (more 0 (zs.take n)) 4 then zs.take n else []) := by
    unfold openL Hid
    rw [if_neg (by omega)]
    by_cases hG : Good zs
    · rw [if_pos hG, if_pos (hg.1 hG), show zs.length - 4 = n by omega]
    · rw [if_neg hG, if_neg (fun h => hG (hg.2 h))]
  generalize openE zs = E at *
  generalize openL zs = L at *
  clear hg
  have H1 : ∀ wx, Below w.heap.size w wx → Calls Tryz.prog 178 #[.slice (some ⟨wx.heap.size, 0, none⟩) 1 1] (wx.alloc (.cells #[.slice (some ⟨b, off, none⟩) n cap] 29)) fun e w' => e = .returned (.int .u32 (more 0 (zs.take n))) ∧ Below w.heap.size w w' := by
    intro wx hx
    have h := of_any wx.heap.size 0 1 1 [zs.take n] _ rfl (by decide) (parts1 (cap := cap) (hbt.below hx) (by intro h; cases h) (by omega))
    rw [hlt] at h
    refine h.mono ?_
    rintro e w' ⟨rfl, rfl⟩
    exact ⟨rfl, hx.alloc hx.size _⟩
  have HL := fun wx => lay_any _ wx (more_lt (show 0 < 4294967296 by decide) hbt.1)
  generalize zs.take n = xs at *
  generalize zs.drop n = ys at *
  clear hb hl
  go_enter Tryz.func215, Tryz.ntmps215
  go_wp2_with fail
  go_quiet (fail)
  obtain ⟨W, hW⟩ : ∃ W, W = w.drewN nq := ⟨_, rfl⟩
  rw [← hW]
  have BW : Below w.heap.size w W := by rw [hW]; exact below_drewN (Below.refl _ _) nq
  clear hW
  go_wp2_with fail
  refine (H1 W BW).mono ?_
  rintro e w1 ⟨rfl, B1⟩
  clear H1 BW
  go_wp2_with fail
  refine (HL w1).mono ?_
  rintro e w2 ⟨v, rfl, ho, hb2⟩
  obtain ⟨a2, cap2, rfl, hn2, hbv2, hc1, hc2⟩ := ho.slice (dig_all _ _)
  clear HL ho
  have B2 := B1.trans (hb2.mono B1.size)
  have hl4 := dig_length 4 (more 0 xs)
  have H3 := fun c => equal_any (some ⟨b, off + n, none⟩) a2 4 _ c cap2 ys _ w2 hld rfl (by decide) (hbd.below B2) hbv2
  clear hb2 hbv2 B1 hn2 hbd
  by_cases hE : ys = dig (more 0 xs) 4
  · have he := HE.out
    have ho := HO.out
    rw [if_pos hE] at he ho
    subst he ho
    rw [show decide (ys = dig (more 0 L) 4) = true by simpa using hE] at H3
    clear hE HE HO
    go_wp2_with fail
    refine (H3 _).mono ?_
    rintro e w3 ⟨rfl, hb3⟩
    clear H3
    have B3 := B2.trans (hb3.mono B2.size)
    have H4 := clone_some ⟨b, off, none⟩ cap _ w3 (hbt.below B3) (by omega)
    rw [hlt] at H4
    clear B2 hb3 hbt
    go_wp2_with fail
    refine H4.mono ?_
    rintro e w4 ⟨v, rfl, ho4, hb4⟩
    clear H4
    have HB4 : Hid (Below w.heap.size w w4) := B3.trans (hb4.mono B3.size)
    have HO4 : Hid (Own w4 w.heap.size v L) := ho4.mono B3.size
    clear ho4 hb4 B3
    go_wp2
    go_ret2
    exact ⟨_, rfl, HO4.out, HB4.out⟩
  · have he := HE.out
    have ho := HO.out
    rw [if_neg hE] at he ho
    subst he ho
    rw [show decide (ys = dig (more 0 xs) 4) = false by simpa using hE] at H3
    clear hE HE HO
    go_wp2_with fail
    refine (H3 _).mono ?_
    rintro e w3 ⟨rfl, hb3⟩
    clear H3
    have B3 : Hid (Below w.heap.size w w3) := B2.trans (hb3.mono B2.size)
    clear B2 hb3 hbt
    go_wp2
    go_ret2
    exact ⟨_, rfl, Own.nil _ _, B3.out⟩
theorem open_any (a : Option Addr) (cap : Nat) (zs : List Int) (w : World) (hb : BV w a zs) (hm : zs.length ≤ 900000) (hc : zs.length ≤ cap) :
    Calls Tryz.prog 215 #[.slice a zs.length cap] w fun e w' => ∃ v, e = .returned (.tuple #[v, .int .i64 (openE zs)]) ∧ Own w' w.heap.size v (openL zs) ∧ Below w.heap.size w w' := by
  by_cases h : zs.length < 4
  · have e1 : openE zs = 3 := by unfold openE; rw [if_pos h]
    have e2 : openL zs = [] := by unfold openL; rw [if_pos h]
    rw [e1, e2]
    refine (open_cut a _ cap w h).mono ?_
    rintro e w' ⟨rfl, hw⟩
    obtain rfl := hw.symm
    exact ⟨_, rfl, Own.nil _ _, Below.refl _ _⟩
  · obtain ⟨n, hn⟩ : ∃ n, zs.length = n + 4 := ⟨zs.length - 4, by omega⟩
    have hb' := hb
    obtain ⟨_, rfl | ⟨b, off, rfl, _, _⟩⟩ := hb
    · simp at hn
    · have := open_ok b off n cap zs w hn (by omega) (by omega) hb'
      rw [← hn] at this
      exact this
end Go.Proofs.YtbklnadlbcndlaaGreat
namespace Go.Proofs.YtbklnadlbcndlaaGreat
set_option maxRecDepth 20000
open Go.RowKit
set_option linter.unusedVariables false
structure Rd (w : World) (rb : Nat) (a : Option Addr) (len cap : Nat) (e : Int) : Prop where
  c0 : w.cell? ⟨rb, 0, none⟩ = some (.slice a len cap)
  c1 : w.cell? ⟨rb, 1, none⟩ = some (.int .i64 e)
  f0 : w.frozen? ⟨rb, 0, none⟩ = false
  f1 : w.frozen? ⟨rb, 1, none⟩ = false
def RdS (w : World) (rb : Nat) (zs : List Int) (e : Int) : Prop :=
  ∃ a cap, Rd w rb a zs.length cap e ∧ zs.length ≤ cap ∧ cap ≤ maxLen ∧ AllB zs ∧ (zs = [] ∨ ∃ b off, a = some ⟨b, off, none⟩ ∧ b ≠ rb ∧ b < w.heap.size ∧ ∀ i, i < zs.length → w.cell? ⟨b, off + i, none⟩ = some (.int .u8 (zs.getD i 0)))
theorem Rd.set0 {w : World} {rb : Nat} {a a' : Option Addr} {len cap len' cap' : Nat} {e : Int} (h : Rd w rb a len cap e) : Rd (w.setCell ⟨rb, 0, none⟩ (.slice a' len' cap')) rb a' len' cap' e := by
  obtain ⟨c0, c1, f0, f1⟩ := h
  refine ⟨?_, ?_, ?_, ?_⟩ <;> go_simp
theorem Rd.set1 {w : World} {rb : Nat} {a : Option Addr} {len cap : Nat} {e e' : Int} (h : Rd w rb a len cap e) : Rd (w.setCell ⟨rb, 1, none⟩ (.int .i64 e')) rb a len cap e' := by
  obtain ⟨c0, c1, f0, f1⟩ := h
  refine ⟨?_, ?_, ?_, ?_⟩ <;> go_simp
theorem grown_set (w : World) (b i : Nat) (v : Value) : w.grownBy (w.setCell ⟨b, i, none⟩ v) (some b) :=
  ⟨rfl, rfl, rfl, by simp [World.setCell], fun k _ hk => Below.heap_setCell _ _ _ _ (fun e => hk (by rw [e]))⟩
theorem cell_set_other (w : World) (b i c j : Nat) (v : Value) (h : c ≠ b) : (w.setCell ⟨b, i, none⟩ v).cell? ⟨c, j, none⟩ = w.cell? ⟨c, j, none⟩ :=
  World.cell?_of_block (w := w) (Below.heap_setCell _ _ _ _ h)
theorem RdS.err {w : World} {rb : Nat} {zs : List Int} {e e' : Int} (h : RdS w rb zs e) : RdS (w.setCell ⟨rb, 1, none⟩ (.int .i64 e')) rb zs e' := by
  obtain ⟨a, cap, hr, hc, hm, hz, hb⟩ := h
  refine ⟨a, cap, hr.set1, hc, hm, hz, ?_⟩
  rcases hb with hb | ⟨b, off, rfl, hne, hlt, hcell⟩
  · exact .inl hb
  · exact .inr ⟨b, off, rfl, hne, by simpa [World.setCell] using hlt, fun i hi => (cell_set_other _ _ _ _ _ _ hne).trans (hcell i hi)⟩
set_option maxHeartbeats 400000 in
theorem err_any (rb : Nat) (zs : List Int) (x : Int) (w : World) (h : RdS w rb zs x) :
    Calls Tryz.prog 238 #[.pointer (some ⟨rb, 0, none⟩)] w fun e w' => e = .returned (.int .i64 x) ∧ w' = w := by
  obtain ⟨a, cap, ⟨c0, c1, f0, f1⟩, _⟩ := h
  go_enter Tryz.func238, Tryz.ntmps238
  go_wp2
  go_ret
  exact ⟨rfl, rfl⟩
set_option maxHeartbeats 400000 in
theorem take_err (rb : Nat) (zs : List Int) (x n er : Int) (w : World) (h : RdS w rb zs x) (he : er ≠ 0) :
    Calls Tryz.prog 240 #[.pointer (some ⟨rb, 0, none⟩), .int .i64 n, .int .i64 er] w fun e w' => e = .returned (.tuple #[]) ∧ RdS w' rb zs er ∧ w.grownBy w' (some rb) := by
  have HE := h.err (e' := er)
  obtain ⟨a, cap, ⟨c0, c1, f0, f1⟩, _⟩ := h
  have he' : (er == 0) = false := by simpa using he
  have H : Hid (RdS (w.setCell ⟨rb, 1, none⟩ (.int .i64 er)) rb zs er) := HE
  clear HE
  go_enter Tryz.func240, Tryz.ntmps240
  go_wp2
  exact bodyPost_ret (v := .tuple #[]) (results_none rfl _ _ _) rfl ⟨rfl, H.out, grown_set _ _ _ _⟩
set_option maxHeartbeats 400000 in
theorem take_ok (rb : Nat) (zs : List Int) (x : Int) (n : Nat) (w : World) (h : RdS w rb zs x) (hn : n ≤ zs.length) :
    Calls Tryz.prog 240 #[.pointer (some ⟨rb, 0, none⟩), .int .i64 n, .int .i64 0] w fun e w' => e = .returned (.tuple #[]) ∧ RdS w' rb (zs.drop n) x ∧ w.grownBy w' (some rb) := by
  have h' := h
  obtain ⟨a, cap, hr, hc, hm, hz, hb⟩ := h
  obtain ⟨c0, c1, f0, f1⟩ := hr
  have HX : ∀ a' l' c', l' = zs.length - n → c' = cap - n → (zs.drop n = [] ∨ ∃ b off, a' = some ⟨b, off, none⟩ ∧ b ≠ rb ∧ b < w.heap.size ∧ ∀ i, i < (zs.drop n).length → w.cell? ⟨b, off + i, none⟩ = some (.int .u8 ((zs.drop n).getD i 0))) → RdS (w.setCell ⟨rb, 0, none⟩ (.slice a' l' c')) rb (zs.drop n) x := by
    rintro a' l' c' rfl rfl ha
    have hl : (zs.drop n).length = zs.length - n := by simp
    refine ⟨a', cap - n, ?_, by omega, by omega, hz.drop n, ?_⟩
    · rw [hl]; exact Rd.set0 ⟨c0, c1, f0, f1⟩
    · rcases ha with hb | ⟨b, off, rfl, hne, hlt, hcell⟩
      · exact .inl hb
      · exact .inr ⟨b, off, rfl, hne, by simpa [World.setCell] using hlt, fun i hi => (cell_set_other _ _ _ _ _ _ hne).trans (hcell i hi)⟩
  have H : Hid (∀ a' l' c', l' = zs.length - n → c' = cap - n → (zs.drop n = [] ∨ ∃ b off, a' = some ⟨b, off, none⟩ ∧ b ≠ rb ∧ b < w.heap.size ∧ ∀ i, i < (zs.drop n).length → w.cell? ⟨b, off + i, none⟩ = some (.int .u8 ((zs.drop n).getD i 0))) → RdS (w.setCell ⟨rb, 0, none⟩ (.slice a' l' c')) rb (zs.drop n) x) := HX
  clear HX
  rcases hb with rfl | ⟨b, off, rfl, hne, hlt, hcell⟩
  · have hn0 : n = 0 := by simpa using hn
    subst hn0
    clear h'
    go_enter Tryz.func240, Tryz.ntmps240
    go_wp2
    go_end0
    exact ⟨rfl, H.out _ _ _ rfl rfl (.inl rfl), grown_set _ _ _ _⟩
  · have HC : Hid (∀ i, i < (zs.drop n).length → w.cell? ⟨b, (off + n) + i, none⟩ = some (.int .u8 ((zs.drop n).getD i 0))) := by
      intro i hi
      rw [getD_drop, Nat.add_assoc]
      exact hcell (n + i) (by simp at hi; omega)
    clear hcell h'
    by_cases hcn : cap = n
    · have hd : zs.drop n = [] := by simp; omega
      subst hcn
      go_enter Tryz.func240, Tryz.ntmps240
      go_wp2
      go_end0
      exact ⟨rfl, H.out _ _ _ (by omega) (by omega) (.inl hd), grown_set _ _ _ _⟩
    · go_enter Tryz.func240, Tryz.ntmps240
      go_wp2
      go_end0
      exact ⟨rfl, H.out _ _ _ rfl rfl (.inr ⟨b, off + n, rfl, hne, hlt, HC.out⟩), grown_set _ _ _ _⟩
def numV (zs : List Int) (e x : Int) : Int := if e = 0 then getV zs x else 0
def numE (zs : List Int) (e x : Int) : Int := if e = 0 then getE zs x else e
def numZ (zs : List Int) (e x : Int) : List Int := if e = 0 ∧ getE zs x = 0 then zs.drop x.toNat else zs
theorem getE_zero (zs : List Int) (x : Int) (h : getE zs x = 0) : 1 ≤ x ∧ x ≤ 6 ∧ x ≤ zs.length := by
  unfold getE at h
  split at h
  · cases h
  · split at h
    · cases h
    · omega
theorem getE_cut (zs : List Int) (x : Int) (h : getE zs x ≠ 0) : getV zs x = 0 := by
  unfold getE at h
  unfold getV
  split
  · rfl
  · split
    · rfl
    · rename_i a b; rw [if_neg a, if_neg b] at h; exact absurd rfl h
theorem RdS.view {w : World} {rb : Nat} {zs : List Int} {e : Int} (h : RdS w rb zs e) : ∃ a cap, w.cell? ⟨rb, 0, none⟩ = some (.slice a zs.length cap) ∧ BV w a zs ∧ zs.length ≤ 9223372036854775807 ∧ zs.length ≤ cap := by
  obtain ⟨a, cap, hr, hc, hm, hz, hb⟩ := h
  refine ⟨a, cap, hr.c0, ⟨hz, ?_⟩, by unfold maxLen at hm; omega, hc⟩
  rcases hb with hb | ⟨b, off, rfl, _, hlt, hcell⟩
  · exact .inl hb
  · exact .inr ⟨b, off, rfl, hlt, hcell⟩
set_option maxHeartbeats 400000 in
theorem num_any (rb : Nat) (zs : List Int) (er x : Int) (w : World) (h : RdS w rb zs er) :
    Calls Tryz.prog 234 #[.pointer (some ⟨rb, 0, none⟩), .int .i64 x] w fun e w' => e = .returned (.int .i64 (numV zs er x)) ∧ RdS w' rb (numZ zs er x) (numE zs er x) ∧ w.grownBy w' (some rb) := by
  have HE := err_any rb zs er w h
  unfold numV numE numZ
  by_cases he : er = 0
  · subst he
    obtain ⟨a, cap, c0, hv, hm, _⟩ := h.view
    have HG := get_any a zs.length cap zs x w hv rfl hm
    by_cases hg : getE zs x = 0
    · rw [if_pos rfl, if_pos rfl, if_pos ⟨rfl, hg⟩]
      obtain ⟨h1, h2, h3⟩ := getE_zero zs x hg
      obtain ⟨y, rfl⟩ := Int.eq_ofNat_of_zero_le (show 0 ≤ x by omega)
      have HT := take_ok rb zs 0 y w h (by omega)
      rw [Int.toNat_natCast, hg]
      rw [hg] at HG
      generalize getV zs y = v at *
      clear hg h hv
      go_enter Tryz.func234, Tryz.ntmps234
      go_wp2_with (first | (go_at_call 238; refine HE.mono ?_; rintro e w' ⟨rfl, hw⟩; obtain rfl := hw.symm; clear HE) | (go_at_call 239; refine HG.mono ?_; rintro e w' ⟨rfl, hw⟩; obtain rfl := hw.symm; clear HG) | (go_at_call 240; refine HT.mono ?_; rintro e w' ⟨rfl, hs, hgr⟩))
      go_ret
      exact ⟨rfl, hs, hgr⟩
    · rw [if_pos rfl, if_pos rfl, if_neg (fun c => hg c.2)]
      rw [getE_cut zs x hg] at HG ⊢
      have HT := take_err rb zs 0 x (getE zs x) w h hg
      generalize getE zs x = v at *
      have hb : (v == 0) = false := by simpa using hg
      clear hg h hv
      go_enter Tryz.func234, Tryz.ntmps234
      go_wp2_with (first | (go_at_call 238; refine HE.mono ?_; rintro e w' ⟨rfl, hw⟩; obtain rfl := hw.symm; clear HE) | (go_at_call 239; refine HG.mono ?_; rintro e w' ⟨rfl, hw⟩; obtain rfl := hw.symm; clear HG) | (go_at_call 240; refine HT.mono ?_; rintro e w' ⟨rfl, hs, hgr⟩))
      go_ret
      exact ⟨rfl, hs, hgr⟩
  · rw [if_neg he, if_neg he, if_neg (fun c => he c.1)]
    have hb : (er == 0) = false := by simpa using he
    have H : Hid (RdS w rb zs er) := h
    clear he h
    go_enter Tryz.func234, Tryz.ntmps234
    go_wp2_with (go_at_call 238; refine HE.mono ?_; rintro e w' ⟨rfl, hw⟩; obtain rfl := hw.symm; clear HE)
    go_ret
    exact ⟨rfl, H.out, ⟨rfl, rfl, rfl, Nat.le_refl _, fun _ _ _ => rfl⟩⟩
end Go.Proofs.YtbklnadlbcndlaaGreat
namespace Go.Proofs.YtbklnadlbcndlaaGreat
set_option maxRecDepth 20000
open Go.RowKit
set_option linter.unusedVariables false
theorem rds_new (w : World) (a : Option Addr) (cap : Nat) (zs : List Int) (hc : zs.length ≤ cap) (hm : cap ≤ maxLen) (hz : AllB zs)
    (hb : zs = [] ∨ ∃ b off, a = some ⟨b, off, none⟩ ∧ b < w.heap.size ∧ ∀ i, i < zs.length → w.cell? ⟨b, off + i, none⟩ = some (.int .u8 (zs.getD i 0))) :
    RdS (w.alloc (.cells #[.slice a zs.length cap, .int .i64 0] 261)) w.heap.size zs 0 := by
  refine ⟨a, cap, ⟨?_, ?_, ?_, ?_⟩, hc, hm, hz, ?_⟩
  · go_simp
  · go_simp
  · go_simp
  · go_simp
  · rcases hb with hb | ⟨b, off, rfl, hlt, hcell⟩
    · exact .inl hb
    · refine .inr ⟨b, off, rfl, by omega, by simp; omega, fun i hi => ?_⟩
      exact (Below.cell ((Below.refl w.heap.size w).alloc (Nat.le_refl _) _) (p := ⟨b, off + i, none⟩) hlt).trans (hcell i hi)
set_option maxHeartbeats 400000 in
theorem new_any (a : Option Addr) (cap : Nat) (zs : List Int) (w : World) (hb : BV w a zs) (hm : zs.length ≤ 1000000) (hn : a = none → cap = 0) :
    Calls Tryz.prog 233 #[.slice a zs.length cap] w fun e w' => ∃ rb, e = .returned (.pointer (some ⟨rb, 0, none⟩)) ∧ w.heap.size ≤ rb ∧ rb < w'.heap.size ∧ RdS w' rb zs 0 ∧ Below w.heap.size w w' := by
  have HC := clone_any a cap zs w hb hm hn
  have hz := hb.1
  clear hb hn
  go_enter Tryz.func233, Tryz.ntmps233
  go_wp2_with (go_at_call 180; refine HC.mono ?_; rintro e w1 ⟨v, rfl, ho, hbl⟩; obtain ⟨a', cap', rfl, hv⟩ := ho.view hz; clear HC)
  obtain ⟨h1, h2, h3, h4⟩ := hv
  have HR := rds_new w1 a' cap' zs h1 h2 h3 (by
    rcases h4 with h4 | ⟨b, off, e, _, hlt, hcell⟩
    · exact .inl h4
    · exact .inr ⟨b, off, e, hlt, hcell⟩)
  go_ret
  exact ⟨_, rfl, hbl.size, by simp, HR, hbl.alloc hbl.size _⟩
end Go.Proofs.YtbklnadlbcndlaaGreat
namespace Go.Proofs.YtbklnadlbcndlaaGreat.Rq
set_option maxRecDepth 20000
open Go.RowKit
variable {Q : Nat → Prop}
def RdQ (Q : Nat → Prop) (w : World) (rb : Nat) (zs : List Int) (e : Int) : Prop :=
  ∃ a cap, Rd w rb a zs.length cap e ∧ zs.length ≤ cap ∧ cap ≤ maxLen ∧ AllB zs ∧ (zs = [] ∨ ∃ b off, a = some ⟨b, off, none⟩ ∧ b ≠ rb ∧ Q b ∧ b < w.heap.size ∧ ∀ i, i < zs.length → w.cell? ⟨b, off + i, none⟩ = some (.int .u8 (zs.getD i 0)))

theorem RdQ.err {w : World} {rb : Nat} {zs : List Int} {e e' : Int} (h : RdQ Q w rb zs e) : RdQ Q (w.setCell ⟨rb, 1, none⟩ (.int .i64 e')) rb zs e' := by
  obtain ⟨a, cap, hr, hc, hm, hz, hb⟩ := h
  refine ⟨a, cap, hr.set1, hc, hm, hz, ?_⟩
  rcases hb with hb | ⟨b, off, rfl, hne, hQ, hlt, hcell⟩
  · exact .inl hb
  · exact .inr ⟨b, off, rfl, hne, hQ, by simpa [World.setCell] using hlt, fun i hi => (cell_set_other _ _ _ _ _ _ hne).trans (hcell i hi)⟩
set_option maxHeartbeats 400000 in
theorem err_any (rb : Nat) (zs : List Int) (x : Int) (w : World) (h : RdQ Q w rb zs x) :
    Calls Tryz.prog 238 #[.pointer (some ⟨rb, 0, none⟩)] w fun e w' => e = .returned (.int .i64 x) ∧ w' = w := by
  obtain ⟨a, cap, ⟨c0, c1, f0, f1⟩, _⟩ := h
  go_enter Tryz.func238, Tryz.ntmps238
  go_wp2
  go_ret
  exact ⟨rfl, rfl⟩
set_option maxHeartbeats 400000 in
theorem take_err (rb : Nat) (zs : List Int) (x n er : Int) (w : World) (h : RdQ Q w rb zs x) (he : er ≠ 0) :
    Calls Tryz.prog 240 #[.pointer (some ⟨rb, 0, none⟩), .int .i64 n, .int .i64 er] w fun e w' => e = .returned (.tuple #[]) ∧ RdQ Q w' rb zs er ∧ w.grownBy w' (some rb) := by
  have HE := h.err (e' := er)
  obtain ⟨a, cap, ⟨c0, c1, f0, f1⟩, _⟩ := h
  have he' : (er == 0) = false := by simpa using he
  have H : Hid (RdQ Q (w.setCell ⟨rb, 1, none⟩ (.int .i64 er)) rb zs er) := HE
  clear HE
  go_enter Tryz.func240, Tryz.ntmps240
  go_wp2
  exact bodyPost_ret (v := .tuple #[]) (results_none rfl _ _ _) rfl ⟨rfl, H.out, grown_set _ _ _ _⟩
set_option maxHeartbeats 400000 in
theorem take_ok (rb : Nat) (zs : List Int) (x : Int) (n : Nat) (w : World) (h : RdQ Q w rb zs x) (hn : n ≤ zs.length) :
    Calls Tryz.prog 240 #[.pointer (some ⟨rb, 0, none⟩), .int .i64 n, .int .i64 0] w fun e w' => e = .returned (.tuple #[]) ∧ RdQ Q w' rb (zs.drop n) x ∧ w.grownBy w' (some rb) := by
  have h' := h
  obtain ⟨a, cap, hr, hc, hm, hz, hb⟩ := h
  obtain ⟨c0, c1, f0, f1⟩ := hr
  have HX : ∀ a' l' c', l' = zs.length - n → c' = cap - n → (zs.drop n = [] ∨ ∃ b off, a' = some ⟨b, off, none⟩ ∧ b ≠ rb ∧ Q b ∧ b < w.heap.size ∧ ∀ i, i < (zs.drop n).length → w.cell? ⟨b, off + i, none⟩ = some (.int .u8 ((zs.drop n).getD i 0))) → RdQ Q (w.setCell ⟨rb, 0, none⟩ (.slice a' l' c')) rb (zs.drop n) x := by
    rintro a' l' c' rfl rfl ha
    have hl : (zs.drop n).length = zs.length - n := by simp
    refine ⟨a', cap - n, ?_, by omega, by omega, hz.drop n, ?_⟩
    · rw [hl]; exact Rd.set0 ⟨c0, c1, f0, f1⟩
    · rcases ha with hb | ⟨b, off, rfl, hne, hQ, hlt, hcell⟩
      · exact .inl hb
      · exact .inr ⟨b, off, rfl, hne, hQ, by simpa [World.setCell] using hlt, fun i hi => (cell_set_other _ _ _ _ _ _ hne).trans (hcell i hi)⟩
  have H : Hid (∀ a' l' c', l' = zs.length - n → c' = cap - n → (zs.drop n = [] ∨ ∃ b off, a' = some ⟨b, off, none⟩ ∧ b ≠ rb ∧ Q b ∧ b < w.heap.size ∧ ∀ i, i < (zs.drop n).length → w.cell? ⟨b, off + i, none⟩ = some (.int .u8 ((zs.drop n).getD i 0))) → RdQ Q (w.setCell ⟨rb, 0, none⟩ (.slice a' l' c')) rb (zs.drop n) x) := HX
  clear HX
  rcases hb with rfl | ⟨b, off, rfl, hne, hQ, hlt, hcell⟩
  · have hn0 : n = 0 := by simpa using hn
    subst hn0
    clear h'
    go_enter Tryz.func240, Tryz.ntmps240
    go_wp2
    go_end0
    exact ⟨rfl, H.out _ _ _ rfl rfl (.inl rfl), grown_set _ _ _ _⟩
  · have HC : Hid (∀ i, i < (zs.drop n).length → w.cell? ⟨b, (off + n) + i, none⟩ = some (.int .u8 ((zs.drop n).getD i 0))) := by
      intro i hi
      rw [getD_drop, Nat.add_assoc]
      exact hcell (n + i) (by simp at hi; omega)
    clear hcell h'
    by_cases hcn : cap = n
    · have hd : zs.drop n = [] := by simp; omega
      subst hcn
      go_enter Tryz.func240, Tryz.ntmps240
      go_wp2
      go_end0
      exact ⟨rfl, H.out _ _ _ (by omega) (by omega) (.inl hd), grown_set _ _ _ _⟩
    · go_enter Tryz.func240, Tryz.ntmps240
      go_wp2
      go_end0
      exact ⟨rfl, H.out _ _ _ rfl rfl (.inr ⟨b, off + n, rfl, hne, hQ, hlt, HC.out⟩), grown_set _ _ _ _⟩
theorem RdQ.view {w : World} {rb : Nat} {zs : List Int} {e : Int} (h : RdQ Q w rb zs e) : ∃ a cap, w.cell? ⟨rb, 0, none⟩ = some (.slice a zs.length cap) ∧ BV w a zs ∧ zs.length ≤ 9223372036854775807 ∧ zs.length ≤ cap := by
  obtain ⟨a, cap, hr, hc, hm, hz, hb⟩ := h
  refine ⟨a, cap, hr.c0, ⟨hz, ?_⟩, by unfold maxLen at hm; omega, hc⟩
  rcases hb with hb | ⟨b, off, rfl, _, _, hlt, hcell⟩
  · exact .inl hb
  · exact .inr ⟨b, off, rfl, hlt, hcell⟩
set_option maxHeartbeats 400000 in
theorem num_any (rb : Nat) (zs : List Int) (er x : Int) (w : World) (h : RdQ Q w rb zs er) :
    Calls Tryz.prog 234 #[.pointer (some ⟨rb, 0, none⟩), .int .i64 x] w fun e w' => e = .returned (.int .i64 (numV zs er x)) ∧ RdQ Q w' rb (numZ zs er x) (numE zs er x) ∧ w.grownBy w' (some rb) := by
  have HE := err_any rb zs er w h
  unfold numV numE numZ
  by_cases he : er = 0
  · subst he
    obtain ⟨a, cap, c0, hv, hm, _⟩ := h.view
    have HG := get_any a zs.length cap zs x w hv rfl hm
    by_cases hg : getE zs x = 0
    · rw [if_pos rfl, if_pos rfl, if_pos ⟨rfl, hg⟩]
      obtain ⟨h1, h2, h3⟩ := getE_zero zs x hg
      obtain ⟨y, rfl⟩ := Int.eq_ofNat_of_zero_le (show 0 ≤ x by omega)
      have HT := take_ok rb zs 0 y w h (by omega)
      rw [Int.toNat_natCast, hg]
      rw [hg] at HG
      generalize getV zs y = v at *
      clear hg h hv
      go_enter Tryz.func234, Tryz.ntmps234
      go_wp2_with (first | (go_at_call 238; refine HE.mono ?_; rintro e w' ⟨rfl, hw⟩; obtain rfl := hw.symm; clear HE) | (go_at_call 239; refine HG.mono ?_; rintro e w' ⟨rfl, hw⟩; obtain rfl := hw.symm; clear HG) | (go_at_call 240; refine HT.mono ?_; rintro e w' ⟨rfl, hs, hgr⟩))
      go_ret
      exact ⟨rfl, hs, hgr⟩
    · rw [if_pos rfl, if_pos rfl, if_neg (fun c => hg c.2)]
      rw [getE_cut zs x hg] at HG ⊢
      have HT := take_err rb zs 0 x (getE zs x) w h hg
      generalize getE zs x = v at *
      have hb : (v == 0) = false := by simpa using hg
      clear hg h hv
      go_enter Tryz.func234, Tryz.ntmps234
      go_wp2_with (first | (go_at_call 238; refine HE.mono ?_; rintro e w' ⟨rfl, hw⟩; obtain rfl := hw.symm; clear HE) | (go_at_call 239; refine HG.mono ?_; rintro e w' ⟨rfl, hw⟩; obtain rfl := hw.symm; clear HG) | (go_at_call 240; refine HT.mono ?_; rintro e w' ⟨rfl, hs, hgr⟩))
      go_ret
      exact ⟨rfl, hs, hgr⟩
  · rw [if_neg he, if_neg he, if_neg (fun c => he c.1)]
    have hb : (er == 0) = false := by simpa using he
    have H : Hid (RdQ Q w rb zs er) := h
    clear he h
    go_enter Tryz.func234, Tryz.ntmps234
    go_wp2_with (go_at_call 238; refine HE.mono ?_; rintro e w' ⟨rfl, hw⟩; obtain rfl := hw.symm; clear HE)
    go_ret
    exact ⟨rfl, H.out, ⟨rfl, rfl, rfl, Nat.le_refl _, fun _ _ _ => rfl⟩⟩
theorem rdq_frame {Q : Nat → Prop} {w w' : World} {rb : Nat} {zs : List Int} {e : Int} (h : RdQ Q w rb zs e) (hr : w'.heap[rb]? = w.heap[rb]?) (hb : ∀ k, Q k → k < w.heap.size → w'.heap[k]? = w.heap[k]?) (hs : w.heap.size ≤ w'.heap.size) : RdQ Q w' rb zs e := by
  obtain ⟨a, cap, ⟨c0, c1, f0, f1⟩, h2, h3, h4, h5⟩ := h
  refine ⟨a, cap, ⟨?_, ?_, ?_, ?_⟩, h2, h3, h4, ?_⟩
  · rw [World.cell?_of_block (a := ⟨rb, 0, none⟩) hr]; exact c0
  · rw [World.cell?_of_block (a := ⟨rb, 1, none⟩) hr]; exact c1
  · rw [World.frozen?_of_block (a := ⟨rb, 0, none⟩) hr]; exact f0
  · rw [World.frozen?_of_block (a := ⟨rb, 1, none⟩) hr]; exact f1
  · rcases h5 with h5 | ⟨b, off, e1, e2, e5, e3, e4⟩
    · exact .inl h5
    · refine .inr ⟨b, off, e1, e2, e5, by omega, fun i hi => ?_⟩
      rw [World.cell?_of_block (a := ⟨b, off + i, none⟩) (hb b e5 e3)]; exact e4 i hi
end Go.Proofs.YtbklnadlbcndlaaGreat.Rq
namespace Go.Proofs.YtbklnadlbcndlaaGreat.R
set_option maxRecDepth 20000
open Go.RowKit
set_option linter.unusedVariables false
def IV (w : World) (a : Option Addr) (zs : List Int) : Prop :=
  zs = [] ∨ ∃ b off, a = some ⟨b, off, none⟩ ∧ b < w.heap.size ∧ ∀ i, i < zs.length → w.cell? ⟨b, off + i, none⟩ = some (.int .i64 (zs.getD i 0))
theorem IV.below {w w' : World} {a : Option Addr} {zs : List Int} (h : IV w a zs) (hb : Below w.heap.size w w') : IV w' a zs := by
  rcases h with rfl | ⟨b, off, rfl, hlt, hc⟩
  · exact .inl rfl
  · exact .inr ⟨b, off, rfl, Nat.lt_of_lt_of_le hlt hb.size, fun i hi => (hb.cell (p := ⟨b, off + i, none⟩) hlt).trans (hc i hi)⟩
end Go.Proofs.YtbklnadlbcndlaaGreat.R
namespace Go.Proofs.YtbklnadlbcndlaaGreat.R
set_option maxRecDepth 20000
open Go.RowKit
set_option linter.unusedVariables false
set_option maxHeartbeats 400000 in
theorem within_any (n lo hi : Int) (w : World) : Calls Tryz.prog 207 #[.int .i64 n, .int .i64 lo, .int .i64 hi] w fun e w' => e = .returned (.bool (decide (lo ≤ n) && decide (n ≤ hi))) ∧ w' = w := by
  by_cases h1 : lo ≤ n
  · have d1 : decide (lo ≤ n) = true := by simpa using h1
    go_enter Tryz.func207, Tryz.ntmps207
    go_wp2
    go_ret
    exact ⟨by rw [d1]; rfl, rfl⟩
  · have d1 : decide (lo ≤ n) = false := by simpa using h1
    go_enter Tryz.func207, Tryz.ntmps207
    go_wp2
    go_ret
    exact ⟨rfl, rfl⟩
def wi (lo n hi : Int) : Bool := decide (lo ≤ n) && decide (n ≤ hi)
theorem within_wi (n lo hi : Int) (w : World) : Calls Tryz.prog 207 #[.int .i64 n, .int .i64 lo, .int .i64 hi] w fun e w' => e = .returned (.bool (wi lo n hi)) ∧ w' = w := within_any n lo hi w
def beyond (B x : Int) : Bool := !(decide (2 ≤ x) && decide (x ≤ B - 1))
set_option maxHeartbeats 400000 in
theorem beyond_any (x B : Int) (rb : Nat) (w : World) (hc : w.cell? ⟨rb, 1, none⟩ = some (.int .i64 B)) (h0 : 2 ≤ B) (h1 : B ≤ 4096) : Calls Tryz.prog 208 #[.int .i64 x, .pointer (some ⟨rb, 0, none⟩)] w fun e w' => e = .returned (.bool (beyond B x)) ∧ w' = w := by
  have HW := within_any x 2 (B - 1) w
  have hw : wrap64 (B - 1) = B - 1 := by unfold wrap64; omega
  unfold beyond
  generalize (decide (2 ≤ x) && decide (x ≤ B - 1)) = b at *
  go_enter Tryz.func208, Tryz.ntmps208
  go_wp2_with (first | (go_at_call 207; refine HW.mono ?_; rintro e w' ⟨rfl, hww⟩; obtain rfl := hww.symm) | fail)
  go_ret
  exact ⟨rfl, rfl⟩
theorem any_take (zs : List Int) (f : Int → Bool) (k : Nat) (h : k < zs.length) : (zs.take (k + 1)).any f = ((zs.take k).any f || f (zs.getD k 0)) := by
  rw [take_snoc zs k h, List.any_append]; simp
set_option maxHeartbeats 800000 in
theorem index_ok (B : Int) (rb b off n c : Nat) (zs : List Int) (w : World) (hl : zs.length = n) (hn : n ≤ 9223372036854775807) (hbl : b < w.heap.size) (hz : ∀ i, i < zs.length → w.cell? ⟨b, off + i, none⟩ = some (.int .i64 (zs.getD i 0))) (hrb : rb < w.heap.size) (hc : w.cell? ⟨rb, 1, none⟩ = some (.int .i64 B)) (h0 : 2 ≤ B) (h1 : B ≤ 4096) :
    Calls Tryz.prog 230 #[.slice (some ⟨b, off, none⟩) n c, .func (.func 208) #[] #[.pointer (some ⟨rb, 0, none⟩)]] w fun e w' => ∃ k : Int, e = .returned (.int .i64 k) ∧ decide (0 ≤ k) = zs.any (beyond B) ∧ Below w.heap.size w w' := by
  have HB : Hid (∀ W x, Below w.heap.size w W → Calls Tryz.prog 208 #[.int .i64 x, .pointer (some ⟨rb, 0, none⟩)] W fun e w' => e = .returned (.bool (beyond B x)) ∧ w' = W) := fun W x hb => beyond_any x B rb W ((hb.cell (p := ⟨rb, 1, none⟩) hrb).trans hc) h0 h1
  have HL : Hid (zs.length = n) := hl
  have HZ : Hid (∀ i, i < n → w.cell? ⟨b, off + i, none⟩ = some (.int .i64 (zs.getD i 0))) := fun i hi => hz i (by omega)
  clear hl hz
  go_enter Tryz.func230, Tryz.ntmps230
  go_wp2
  go_loopw [8] (fun i wr => ∃ k : Nat, k ≤ n ∧ i = .int .i64 k ∧ Hid ((zs.take k).any (beyond B) = false) ∧ Hid (Below w.heap.size w wr)) (fun i _ => n - (intOf i).toNat)
  case atStart => exact ⟨0, Nat.zero_le _, rfl, rfl, Below.refl _ _⟩
  case round =>
    obtain ⟨k, hk, rfl, HA, HW⟩ := hrel
    by_cases hlt : k < n
    · have hx := (HW.out.cell (p := ⟨b, off + k, none⟩) hbl).trans (HZ.out k hlt)
      have HT : Hid ((zs.take (k + 1)).any (beyond B) = beyond B (zs.getD k 0)) := by
        have := any_take zs (beyond B) k (by rw [HL.out]; exact hlt)
        rw [HA.out, Bool.false_or] at this
        exact this
      have HAN : Hid (beyond B (zs.getD k 0) = true → zs.any (beyond B) = true) := fun h => List.any_eq_true.2 ⟨zs.getD k 0, by
        have h2 := HL.out
        rw [List.getD_eq_getElem?_getD, List.getElem?_eq_getElem (by omega)]
        exact List.getElem_mem _, h⟩
      clear HZ HA
      generalize zs.getD k 0 = x at *
      cases hb : beyond B x with
      | false =>
        rw [hb] at HT
        go_wp2_with (first | (go_at_call 208; refine (HB.out _ x (by first | exact HW.out | exact HW.out.drew)).mono ?_; rintro e w' ⟨rfl, hww⟩; obtain rfl := hww.symm) | fail)
        go_roundw
        case rel => exact ⟨k + 1, by omega, by go_num, HT.out, HW.out⟩
        case measure => simp [intOf]; omega
      | true =>
        have HQ : Hid (zs.any (beyond B) = true) := HAN.out hb
        go_wp2_with (first | (go_at_call 208; refine (HB.out _ x (by first | exact HW.out | exact HW.out.drew)).mono ?_; rintro e w' ⟨rfl, hww⟩; obtain rfl := hww.symm) | fail)
        go_ret
        exact ⟨k, rfl, by rw [HQ.out]; simp, HW.out⟩
    · have : k = n := by omega
      subst this
      have HF : Hid (zs.any (beyond B) = false) := by
        have h := HA.out
        rw [List.take_of_length_le (by rw [HL.out]; exact Nat.le_refl _)] at h
        exact h
      go_wp2
      go_ret
      exact ⟨-1, rfl, by rw [HF.out]; rfl, HW.out⟩

theorem index_zero (B : Int) (rb c : Nat) (a : Option Addr) (w : World) : Calls Tryz.prog 230 #[.slice a 0 c, .func (.func 208) #[] #[.pointer (some ⟨rb, 0, none⟩)]] w fun e w' => ∃ k : Int, e = .returned (.int .i64 k) ∧ decide (0 ≤ k) = [].any (beyond B) ∧ Below w.heap.size w w' := by
  go_enter Tryz.func230, Tryz.ntmps230
  go_wp2
  go_loop [8] (fun i => i = .int .i64 0) (fun _ => 0)
  case atStart => rfl
  case round =>
    obtain rfl := hrel
    go_wp2
    go_ret
    exact ⟨-1, rfl, by decide, Below.refl _ _⟩
def anyB (B : Int) (zs : List Int) : Bool := zs.any (beyond B)
theorem contains_any (B : Int) (rb n c : Nat) (a : Option Addr) (zs : List Int) (w : World) (hl : zs.length = n) (hn : n ≤ 9223372036854775807) (hz : IV w a zs) (hrb : rb < w.heap.size) (hc : w.cell? ⟨rb, 1, none⟩ = some (.int .i64 B)) (h0 : 2 ≤ B) (h1 : B ≤ 4096) :
    Calls Tryz.prog 209 #[.slice a n c, .func (.func 208) #[] #[.pointer (some ⟨rb, 0, none⟩)]] w fun e w' => e = .returned (.bool (anyB B zs)) ∧ Below w.heap.size w w' := by
  have HI : Calls Tryz.prog 230 #[.slice a n c, .func (.func 208) #[] #[.pointer (some ⟨rb, 0, none⟩)]] w fun e w' => ∃ k : Int, e = .returned (.int .i64 k) ∧ decide (0 ≤ k) = zs.any (beyond B) ∧ Below w.heap.size w w' := by
    rcases hz with rfl | ⟨b, off, rfl, hb, hcc⟩
    · subst hl; exact index_zero B rb c a w
    · exact index_ok B rb b off n c zs w hl hn hb hcc hrb hc h0 h1
  clear hl hz
  go_enter Tryz.func209, Tryz.ntmps209
  go_wp2_with (first | (go_at_call 230; refine HI.mono ?_; rintro e w' ⟨k, rfl, hd, hb⟩; have HD : Hid (decide (0 ≤ k) = zs.any (beyond B)) := hd; clear hd) | fail)
  go_ret
  exact ⟨by unfold anyB; rw [← HD.out]; rfl, hb⟩
theorem limB_wi (r : RD) : limB r = (wi 0 r.E 1099511627776 && wi 2 r.B 4096 && wi 0 r.N 3000 && wi 0 r.S r.N) := rfl
theorem inB_any (B : Int) (zs : List Int) : inB B zs = !anyB B zs := by
  unfold inB anyB
  induction zs with
  | nil => rfl
  | cons z zs ih =>
    rw [List.all_cons, List.any_cons, ih, Bool.not_or]
    congr 1
    unfold beyond
    rw [Bool.not_not]
    have : decide (z < B) = decide (z ≤ B - 1) := by
      by_cases h : z < B
      · rw [decide_eq_true h, decide_eq_true (by omega)]
      · rw [decide_eq_false h, decide_eq_false (by omega)]
    rw [this]
def rootV (r : RD) (ta : Option Addr) (tc : Nat) (ma : Option Addr) (mc : Nat) : Value := .agg #[.int .i64 r.E, .int .i64 r.B, .int .i64 r.N, .int .i64 r.S, .slice ta r.T.length tc, .slice ma r.M.length mc]
structure Rt (w : World) (r : RD) (ta : Option Addr) (tc : Nat) (ma : Option Addr) (mc : Nat) : Prop where
  t : IV w ta r.T
  m : IV w ma r.M
  tn : ta = none → tc = 0
  mn : ma = none → mc = 0
  tl : r.T.length ≤ tc
  ml : r.M.length ≤ mc
  th : tc ≤ 9223372036854775807
  mh : mc ≤ 9223372036854775807
theorem Rt.below {w w' : World} {r : RD} {ta ma : Option Addr} {tc mc : Nat} (h : Rt w r ta tc ma mc) (hb : Below w.heap.size w w') : Rt w' r ta tc ma mc := ⟨h.t.below hb, h.m.below hb, h.tn, h.mn, h.tl, h.ml, h.th, h.mh⟩
set_option maxHeartbeats 800000 in
theorem check_bad (r : RD) (ta ma : Option Addr) (tc mc : Nat) (w : World) (h : limB r = false) :
    Calls Tryz.prog 170 #[rootV r ta tc ma mc] w fun e w' => e = .returned (.int .i64 12) ∧ Below w.heap.size w w' := by
  have HW := within_wi
  have hB : Below w.heap.size w (w.alloc (.cells #[.int .i64 r.E, .int .i64 r.B, .int .i64 r.N, .int .i64 r.S, .slice ta r.T.length tc, .slice ma r.M.length mc] 151)) := (Below.refl _ _).alloc (Nat.le_refl _) _
  rw [limB_wi] at h
  unfold rootV
  cases h1 : wi 0 r.E 1099511627776
  · clear h
    go_enter Tryz.func170, Tryz.ntmps170
    go_wp2_with (first | (go_at_call 207; refine (HW _ _ _ _).mono ?_; rintro e w' ⟨rfl, hww⟩; obtain rfl := hww.symm) | fail)
    go_ret
    exact ⟨rfl, hB⟩
  · cases h2 : wi 2 r.B 4096
    · clear h
      go_enter Tryz.func170, Tryz.ntmps170
      go_wp2_with (first | (go_at_call 207; refine (HW _ _ _ _).mono ?_; rintro e w' ⟨rfl, hww⟩; obtain rfl := hww.symm) | fail)
      go_ret
      exact ⟨rfl, hB⟩
    · cases h3 : wi 0 r.N 3000
      · clear h
        go_enter Tryz.func170, Tryz.ntmps170
        go_wp2_with (first | (go_at_call 207; refine (HW _ _ _ _).mono ?_; rintro e w' ⟨rfl, hww⟩; obtain rfl := hww.symm) | fail)
        go_ret
        exact ⟨rfl, hB⟩
      · have h4 : wi 0 r.S r.N = false := by rw [h1, h2, h3] at h; simpa using h
        clear h
        go_enter Tryz.func170, Tryz.ntmps170
        go_wp2_with (first | (go_at_call 207; refine (HW _ _ _ _).mono ?_; rintro e w' ⟨rfl, hww⟩; obtain rfl := hww.symm) | fail)
        go_ret
        exact ⟨rfl, hB⟩
end Go.Proofs.YtbklnadlbcndlaaGreat.R
namespace Go.Proofs.YtbklnadlbcndlaaGreat.R
set_option maxRecDepth 20000
open Go.RowKit
set_option linter.unusedVariables false
theorem lim_parts {r : RD} (h : limB r = true) : wi 0 r.E 1099511627776 = true ∧ wi 2 r.B 4096 = true ∧ wi 0 r.N 3000 = true ∧ wi 0 r.S r.N = true := by
  rw [limB_wi] at h
  simp only [Bool.and_eq_true] at h
  exact ⟨h.1.1.1, h.1.1.2, h.1.2, h.2⟩
set_option maxHeartbeats 800000 in
theorem check_long (r : RD) (ta ma : Option Addr) (tc mc : Nat) (w : World) (h : limB r = true) (hl : longB r = true) :
    Calls Tryz.prog 170 #[rootV r ta tc ma mc] w fun e w' => e = .returned (.int .i64 5) ∧ Below w.heap.size w w' := by
  have HW := within_wi
  have hB : Below w.heap.size w (w.alloc (.cells #[.int .i64 r.E, .int .i64 r.B, .int .i64 r.N, .int .i64 r.S, .slice ta r.T.length tc, .slice ma r.M.length mc] 151)) := (Below.refl _ _).alloc (Nat.le_refl _) _
  obtain ⟨h1, h2, h3, h4⟩ := lim_parts h
  unfold rootV
  clear h
  unfold longB at hl
  generalize r.T.length = tl at *
  generalize r.M.length = ml at *
  by_cases ht : 26 < tl
  · have d1 : decide ((26 : Int) < (tl : Int)) = true := by simp; omega
    clear hl
    go_enter Tryz.func170, Tryz.ntmps170
    go_wp2_with (first | (go_at_call 207; refine (HW _ _ _ _).mono ?_; rintro e w' ⟨rfl, hww⟩; obtain rfl := hww.symm) | fail)
    go_ret
    exact ⟨rfl, hB⟩
  · have d1 : decide ((26 : Int) < (tl : Int)) = false := by simp; omega
    have d2 : decide ((3 : Int) < (ml : Int)) = true := by simp at hl ⊢; omega
    clear hl
    go_enter Tryz.func170, Tryz.ntmps170
    go_wp2_with (first | (go_at_call 207; refine (HW _ _ _ _).mono ?_; rintro e w' ⟨rfl, hww⟩; obtain rfl := hww.symm) | fail)
    go_ret
    exact ⟨rfl, hB⟩
set_option maxHeartbeats 800000 in
theorem check_rest (r : RD) (ta ma : Option Addr) (tc mc : Nat) (w : World) (h : limB r = true) (hl : longB r = false) (hr : Rt w r ta tc ma mc) :
    Calls Tryz.prog 170 #[rootV r ta tc ma mc] w fun e w' => e = .returned (.int .i64 (if (inB r.B r.T && inB r.B r.M) = false then 12 else 0)) ∧ Below w.heap.size w w' := by
  have HW := within_wi
  obtain ⟨W, hW⟩ : ∃ W, W = w.alloc (.cells #[.int .i64 r.E, .int .i64 r.B, .int .i64 r.N, .int .i64 r.S, .slice ta r.T.length tc, .slice ma r.M.length mc] 151) := ⟨_, rfl⟩
  have hB : Below w.heap.size w W := by rw [hW]; exact (Below.refl _ _).alloc (Nat.le_refl _) _
  obtain ⟨h1, h2, h3, h4⟩ := lim_parts h
  have hb : 2 ≤ r.B ∧ r.B ≤ 4096 := by simpa [wi] using h2
  have hc : W.cell? ⟨w.heap.size, 1, none⟩ = some (.int .i64 r.B) := by rw [hW]; go_simp
  have hsz : w.heap.size < W.heap.size := by rw [hW]; simp
  have HCT : Hid (∀ W', Below W.heap.size W W' → Calls Tryz.prog 209 #[.slice ta r.T.length tc, .func (.func 208) #[] #[.pointer (some ⟨w.heap.size, 0, none⟩)]] W' fun e w' => e = .returned (.bool (anyB r.B r.T)) ∧ Below W.heap.size W w') := fun W' hb' => by
    refine (contains_any r.B w.heap.size r.T.length tc ta r.T W' rfl (Nat.le_trans hr.tl hr.th) (hr.t.below (hB.trans (hb'.mono hB.size))) (Nat.lt_of_lt_of_le hsz hb'.size) ((hb'.cell (p := ⟨w.heap.size, 1, none⟩) hsz).trans hc) hb.1 hb.2).mono ?_
    rintro e w' ⟨rfl, h⟩
    exact ⟨rfl, hb'.trans (h.mono hb'.size)⟩
  have HCM : Hid (∀ W', Below W.heap.size W W' → Calls Tryz.prog 209 #[.slice ma r.M.length mc, .func (.func 208) #[] #[.pointer (some ⟨w.heap.size, 0, none⟩)]] W' fun e w' => e = .returned (.bool (anyB r.B r.M)) ∧ Below W.heap.size W w') := fun W' hb' => by
    refine (contains_any r.B w.heap.size r.M.length mc ma r.M W' rfl (Nat.le_trans hr.ml hr.mh) (hr.m.below (hB.trans (hb'.mono hB.size))) (Nat.lt_of_lt_of_le hsz hb'.size) ((hb'.cell (p := ⟨w.heap.size, 1, none⟩) hsz).trans hc) hb.1 hb.2).mono ?_
    rintro e w' ⟨rfl, h⟩
    exact ⟨rfl, hb'.trans (h.mono hb'.size)⟩
  have HE : Hid ((if (inB r.B r.T && inB r.B r.M) = false then (12 : Int) else 0) = if anyB r.B r.T = true then 12 else if anyB r.B r.M = true then 12 else 0) := by
    rw [inB_any, inB_any]
    show _ = _
    cases anyB r.B r.T <;> cases anyB r.B r.M <;> rfl
  rw [HE.out]
  unfold longB at hl
  have d1 : decide ((26 : Int) < (r.T.length : Int)) = false := by simp at hl ⊢; omega
  have d2 : decide ((3 : Int) < (r.M.length : Int)) = false := by simp at hl ⊢; omega
  have w4 : W.cell? ⟨w.heap.size, 4, none⟩ = some (.slice ta r.T.length tc) := by rw [hW]; go_simp
  have w5 : W.cell? ⟨w.heap.size, 5, none⟩ = some (.slice ma r.M.length mc) := by rw [hW]; go_simp
  have w0 : W.cell? ⟨w.heap.size, 0, none⟩ = some (.int .i64 r.E) := by rw [hW]; go_simp
  have w2 : W.cell? ⟨w.heap.size, 2, none⟩ = some (.int .i64 r.N) := by rw [hW]; go_simp
  have w3 : W.cell? ⟨w.heap.size, 3, none⟩ = some (.int .i64 r.S) := by rw [hW]; go_simp
  clear h hl HE hr
  unfold rootV
  generalize hTL : r.T.length = tl at *
  generalize hML : r.M.length = ml at *
  have hmf : ∀ (fn : Fn) (first cap : Array Value) (w : World), (Instr.makeFunc fn first cap).run Tryz.prog w = .ok (.func fn first cap) w := fun _ _ _ _ => rfl
  clear hTL hML
  cases hT : anyB r.B r.T
  · rw [hT] at HCT
    cases hM : anyB r.B r.M
    · rw [hM] at HCM
      go_enter Tryz.func170, Tryz.ntmps170
      go_wp2_with fail
      rw [← hW]
      clear hW
      refine (HW _ _ _ _).mono ?_
      rintro e w' ⟨rfl, hww⟩
      obtain rfl := hww.symm
      go_wp2_with (first
        | (go_at_call 207; refine (HW _ _ _ _).mono ?_; rintro e w' ⟨rfl, hww⟩; obtain rfl := hww.symm)
        | (go_at_call 209; refine (HCT.out _ (Below.refl _ _)).mono ?_; rintro e w7 ⟨rfl, hb7⟩; have HB7 : Hid (Below W.heap.size W w7) := hb7; have v5 := (hb7.cell (p := ⟨w.heap.size, 5, none⟩) hsz).trans w5; clear HCT hb7)
        | (go_at_call 209; refine (HCM.out _ HB7.out).mono ?_; rintro e w8 ⟨rfl, hb8⟩; have HB8 : Hid (Below W.heap.size W w8) := hb8; clear HCM hb8)
        | fail)
      go_ret
      exact ⟨rfl, hB.trans (HB8.out.mono hB.size)⟩
    · rw [hM] at HCM
      go_enter Tryz.func170, Tryz.ntmps170
      go_wp2_with fail
      rw [← hW]
      clear hW
      refine (HW _ _ _ _).mono ?_
      rintro e w' ⟨rfl, hww⟩
      obtain rfl := hww.symm
      go_wp2_with (first
        | (go_at_call 207; refine (HW _ _ _ _).mono ?_; rintro e w' ⟨rfl, hww⟩; obtain rfl := hww.symm)
        | (go_at_call 209; refine (HCT.out _ (Below.refl _ _)).mono ?_; rintro e w7 ⟨rfl, hb7⟩; have HB7 : Hid (Below W.heap.size W w7) := hb7; have v5 := (hb7.cell (p := ⟨w.heap.size, 5, none⟩) hsz).trans w5; clear HCT hb7)
        | (go_at_call 209; refine (HCM.out _ HB7.out).mono ?_; rintro e w8 ⟨rfl, hb8⟩; have HB8 : Hid (Below W.heap.size W w8) := hb8; clear HCM hb8)
        | fail)
      go_ret
      exact ⟨rfl, hB.trans (HB8.out.mono hB.size)⟩
  · rw [hT] at HCT
    go_enter Tryz.func170, Tryz.ntmps170
    go_wp2_with fail
    rw [← hW]
    clear hW
    refine (HW _ _ _ _).mono ?_
    rintro e w' ⟨rfl, hww⟩
    obtain rfl := hww.symm
    go_wp2_with (first
      | (go_at_call 207; refine (HW _ _ _ _).mono ?_; rintro e w' ⟨rfl, hww⟩; obtain rfl := hww.symm)
      | (go_at_call 209; refine (HCT.out _ (Below.refl _ _)).mono ?_; rintro e w7 ⟨rfl, hb7⟩; have HB7 : Hid (Below W.heap.size W w7) := hb7; have v5 := (hb7.cell (p := ⟨w.heap.size, 5, none⟩) hsz).trans w5; clear HCT hb7)
      | (go_at_call 209; refine (HCM.out _ HB7.out).mono ?_; rintro e w8 ⟨rfl, hb8⟩; have HB8 : Hid (Below W.heap.size W w8) := hb8; clear HCM hb8)
      | fail)
    go_ret
    exact ⟨rfl, hB.trans (HB7.out.mono hB.size)⟩
theorem check_any (r : RD) (ta ma : Option Addr) (tc mc : Nat) (w : World) (hr : Rt w r ta tc ma mc) :
    Calls Tryz.prog 170 #[rootV r ta tc ma mc] w fun e w' => e = .returned (.int .i64 (checkE r)) ∧ Below w.heap.size w w' := by
  unfold checkE
  by_cases h1 : limB r = false
  · rw [if_pos h1]; exact check_bad r ta ma tc mc w h1
  · rw [if_neg h1]
    have h1 : limB r = true := by simpa using h1
    by_cases h2 : longB r = true
    · rw [if_pos h2]; exact check_long r ta ma tc mc w h1 h2
    · rw [if_neg h2]; exact check_rest r ta ma tc mc w h1 (by simpa using h2) hr
end Go.Proofs.YtbklnadlbcndlaaGreat.R
