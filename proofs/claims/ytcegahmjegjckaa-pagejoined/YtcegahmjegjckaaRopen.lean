/- The document's Seal and Open. -/
import Derived.Test.YtcegahmjegjckaaOpen
import Derived.Deep.RegionHeld3
import Derived.Deep.RegionWith
import Derived.Lib.Bytes
namespace Go.Proofs.Ytcegahmjegjckaa
open Go.RowKit
set_option linter.unusedVariables false
theorem seal_all {zs : List Int} (h : AllB zs) : AllB (zs ++ dig (more 0 zs) 4) := h.append (dig_all _ _)
/-- A literal of bytes. -/
theorem bv_lit (w : World) (zs : List Int) (hz : AllB zs) (fr : Nat × Nat) : BV (w.alloc (.cells (zs.map (Value.int .u8)).toArray 5 fr)) (some ⟨w.heap.size, 0, none⟩) zs := by
  refine ⟨hz, .inr ⟨w.heap.size, 0, rfl, by simp, fun i hi => ?_⟩⟩
  rw [Nat.zero_add, World.cell?_alloc_mark]
  simp [List.getD_eq_getElem?_getD, List.getElem?_eq_getElem hi]
theorem dig4 (n : Int) : dig n 4 = [n / 16777216 % 256, n / 65536 % 256, n / 256 % 256, n % 256] := by
  rw [dig_cons, dig_cons, dig_cons, dig_cons]
  simp [dig]
set_option maxHeartbeats 800000 in
theorem rseal_any (a : Option Addr) (cap : Nat) (zs : List Int) (w : World) (hb : BV w a zs) (hm : zs.length ≤ 900000) (hn : a = none → cap = 0) :
    Calls Try.prog 24 #[.slice a zs.length cap] w fun e w' => ∃ v, e = .returned v ∧ Own w' w.heap.size v (zs ++ dig (more 0 zs) 4) ∧ Below w.heap.size w w' := by
  have hz := hb.1
  have hr := more_lt (show 0 < 4294967296 by decide) hz
  have H1 := rof_any a zs.length cap zs w hb rfl (by omega)
  generalize hM : more 0 zs = M at *
  have hlit : Own (w.alloc (.cells #[] 5)) w.heap.size (.slice (some ⟨w.heap.size, 0, none⟩) 0 0) [] := World.ownsRow_lit w #[] 0 (Nat.le_refl _) (by decide) rfl
  have B0 : Below w.heap.size w (w.alloc (.cells #[] 5)) := (Below.refl _ _).alloc (Nat.le_refl _) _
  have hb0 := hb.below B0
  have HM : Hid (more 0 zs = M) := hM
  have h4 := dig_all 4 M
  have H4 : Hid (dig M 4 = [(M : Int) / 16777216, (M : Int) / 65536 % 256, (M : Int) / 256 % 256, (M : Int) % 256]) := by
    have h := dig4 M
    rw [show (M : Int) / 16777216 % 256 = (M : Int) / 16777216 by omega] at h
    exact h
  rw [H4.out] at h4
  clear hM hb
  go_enter Try.func24, Try.ntmps24
  go_wp2_with (first | (go_at_call 38; refine H1.mono ?_; rintro e w1 ⟨rfl, hw⟩; obtain rfl := hw.symm; clear H1) | (at_builtin; refine wp_app_bv rfl (.tmp 6) (.tmp 7) rfl w.heap.size _ [] zs rfl hlit a cap rfl hb0 hn (by simp; omega) B0.size ?_; intro v1 w1 ho1 hb1; have B1 := B0.trans hb1; have hl2 := bv_lit w1 _ h4 (0, 0); have B2 := B1.alloc B1.size (.cells #[.int .u8 ((M : Int) / 16777216), .int .u8 ((M : Int) / 65536 % 256), .int .u8 ((M : Int) / 256 % 256), .int .u8 ((M : Int) % 256)] 5); have ho2 : Own (w1.alloc (.cells #[.int .u8 ((M : Int) / 16777216), .int .u8 ((M : Int) / 65536 % 256), .int .u8 ((M : Int) / 256 % 256), .int .u8 ((M : Int) % 256)] 5)) w.heap.size v1 zs := ho1.below ((Below.refl _ _).alloc (Nat.le_refl _) _); clear hlit ho1 hb1 hb0 B0) | (at_builtin; refine wp_app_bv rfl (.tmp 8) (.tmp 20) rfl w.heap.size _ zs _ rfl ho2 (some ⟨w1.heap.size, 0, none⟩) 4 rfl hl2 (by intro h; cases h) (by simp; omega) B2.size ?_; intro v3 w3 ho3 hb3; clear ho2 hl2))
  go_ret
  exact ⟨_, rfl, by rw [H4.out]; exact ho3, B2.trans hb3⟩
theorem conv_bv {w : World} {a : Option Addr} {cap : Nat} {zs : List Int} (hb : BV w a zs) (hn : a = none → cap = 0) : (convert 22 9 (.slice a zs.length cap)).run Try.prog w = .ok (.string (strOfNums zs)) w := by
  obtain ⟨hz, rfl | ⟨b, off, rfl, _, hc⟩⟩ := hb
  · cases a with
    | none => exact run_convert_bytes_nil (P := Try.prog) w 22 5 Try.underlying22 Try.underlying5 0 cap 9 Try.underlying9
    | some x =>
      show (convert 22 9 (.slice (some x) 0 cap)).run Try.prog w = _
      rw [run_convert_bytes_string w 22 9 5 _ 0 cap Try.underlying22 Try.underlying5 Try.underlying9, run_bytesToString w x 0 cap [] (by simp [loadCells, loadCellsFrom])]
      rfl
  · exact run_convert_bytes_arg (P := Try.prog) w 22 5 Try.underlying22 Try.underlying5 b off zs.length cap zs rfl hc 9 Try.underlying9
theorem str_back {a : List Int} (ha : AllB a) : (strOfNums a).toList.map (fun u => (u.toNat : Int)) = a := by
  rw [Lib.strOfNums_toList]
  unfold Lib.bytesOf
  rw [List.map_map]
  conv => rhs; rw [← List.map_id a]
  apply List.map_congr_left
  intro z hz
  have h := ha z hz
  simp [Function.comp]
  omega
theorem str_ne {a b : List Int} (ha : AllB a) (hb : AllB b) (h : a ≠ b) : ((strOfNums a).toList == (strOfNums b).toList) = false := by
  rw [beq_eq_false_iff_ne]
  intro e
  apply h
  rw [← str_back ha, e, str_back hb]
theorem good_split {zs : List Int} {n : Nat} (hl : zs.length = n + 4) : Good zs ↔ zs.take n ++ dig (more 0 (zs.take n)) 4 = zs := by
  unfold Good
  rw [show zs.length - 4 = n by omega]
  constructor
  · intro h
    rw [← h, List.take_append_drop]
  · intro h
    have h2 : (zs.take n ++ dig (more 0 (zs.take n)) 4).drop n = zs.drop n := by rw [h]
    rw [List.drop_left' (by simp; omega)] at h2
    exact h2.symm
set_option maxHeartbeats 400000 in
theorem ropen_cut (a : Option Addr) (len cap : Nat) (w : World) (h : len < 4) :
    Calls Try.prog 28 #[.slice a len cap] w fun e w' => e = .returned (.tuple #[.slice none 0 0, .int .i64 3]) ∧ w' = w := by
  have hd : (len : Int) - 4 < 0 := by omega
  go_enter Try.func28, Try.ntmps28
  go_wp2
  go_ret2
  exact ⟨rfl, rfl⟩
set_option maxHeartbeats 800000 in
theorem ropen_good (b off n cap : Nat) (zs : List Int) (w : World) (hl : zs.length = n + 4) (hc : n + 4 ≤ cap) (hm : n ≤ 900000) (hb : BV w (some ⟨b, off, none⟩) zs) (hg : Good zs) :
    Calls Try.prog 28 #[.slice (some ⟨b, off, none⟩) (n + 4) cap] w fun e w' => ∃ v, e = .returned (.tuple #[v, .int .i64 0]) ∧ Own w' w.heap.size v (zs.take n) ∧ Below w.heap.size w w' := by
  have hlt : (zs.take n).length = n := by simp; omega
  have hsp := (good_split hl).1 hg
  have hz := hb.1
  have hcv : ∀ w', Below w.heap.size w w' → Below w.heap.size w w' ∧ (convert 22 9 (.slice (some ⟨b, off, none⟩) (n + 4) cap)).run Try.prog w' = .ok (.string (strOfNums zs)) w' := by
    intro w' hw'
    have h := conv_bv (cap := cap) (hb.below hw') (by intro h; cases h)
    rw [hl] at h
    exact ⟨hw', h⟩
  have SL : Hid (∀ w', Below w.heap.size w w' → Below w.heap.size w w' ∧ (convert 22 9 (.slice (some ⟨b, off, none⟩) (n + 4) cap)).run Try.prog w' = .ok (.string (strOfNums zs)) w') := hcv
  have HS : Hid (∀ wx, Below w.heap.size w wx → Calls Try.prog 24 #[.slice (some ⟨b, off, none⟩) n cap] wx fun e w' => ∃ v, e = .returned v ∧ (convert 22 9 v).run Try.prog w' = .ok (.string (strOfNums zs)) w' ∧ Below w.heap.size w w') := by
    intro wx hx
    have h := rseal_any (some ⟨b, off, none⟩) cap (zs.take n) wx ((hb.take n).below hx) (by omega) (by intro h; cases h)
    rw [hlt, hsp] at h
    refine h.mono ?_
    rintro e w' ⟨v, rfl, ho, hbb⟩
    exact ⟨v, rfl, conv_own ho hz, hx.trans (hbb.mono hx.size)⟩
  have hbt := hb.take n
  generalize strOfNums zs = st at *
  have HT : Hid ((zs.take n).length = n) := hlt
  have HB : Hid (BV w (some ⟨b, off, none⟩) (zs.take n)) := hbt
  clear hcv hb hsp hlt hbt hz hl hg
  have i1 : (0 : Int) ≤ (n : Int) := by omega
  have i2 : (n : Int) ≤ (cap : Int) := by omega
  have i3 : ¬ cap = 0 := by omega
  have i4 : (n : Int) + 4 - 4 = n := by omega
  go_enter Try.func28, Try.ntmps28
  go_wp2_with fail
  have s0 := (SL.out _ (Below.refl _ _).drew).2
  go_region_with (go_at_call 24; refine (HS.out _ (Below.refl _ _).drew).mono ?_; rintro e w1 ⟨v, rfl, s1, hb1⟩; have s2 := (SL.out _ hb1).2)
  all_goals (
    have hbb := HB.out.below ((hb1.alloc hb1.size (.cells #[] 5)))
    have hlit : Own (w1.alloc (.cells #[] 5)) w.heap.size (.slice (some ⟨w1.heap.size, 0, none⟩) 0 0) [] := Own.mono (World.ownsRow_lit w1 #[] 0 (Nat.le_refl _) (by decide) rfl) hb1.size
    have hsz := (hb1.alloc hb1.size (.cells #[] 5)).size
    have HF : Hid (Below w.heap.size w (w1.alloc (.cells #[] 5))) := hb1.alloc hb1.size _
    clear s0 s1 s2 hb1
    go_wp2_with (at_builtin; refine wp_app_bv rfl (.tmp 18) (.tmp 21) rfl w.heap.size _ [] (zs.take n) rfl hlit (some ⟨b, off, none⟩) cap (by rw [HT.out]; rfl) hbb (by intro h; cases h) (by rw [HT.out]; simp; omega) hsz ?_; intro v3 w3 ho3 hb3; clear hlit)
    go_ret2
    exact ⟨_, rfl, ho3, HF.out.trans hb3⟩)
set_option maxHeartbeats 800000 in
theorem ropen_bad (b off n cap : Nat) (zs : List Int) (w : World) (hl : zs.length = n + 4) (hc : n + 4 ≤ cap) (hm : n ≤ 900000) (hb : BV w (some ⟨b, off, none⟩) zs) (hg : ¬ Good zs) :
    Calls Try.prog 28 #[.slice (some ⟨b, off, none⟩) (n + 4) cap] w fun e w' => e = .returned (.tuple #[.slice none 0 0, .int .i64 13]) ∧ Below w.heap.size w w' := by
  have hlt : (zs.take n).length = n := by simp; omega
  have hsp : zs.take n ++ dig (more 0 (zs.take n)) 4 ≠ zs := fun h => hg ((good_split hl).2 h)
  have hz := hb.1
  have hcv : ∀ w', Below w.heap.size w w' → Below w.heap.size w w' ∧ (convert 22 9 (.slice (some ⟨b, off, none⟩) (n + 4) cap)).run Try.prog w' = .ok (.string (strOfNums zs)) w' := by
    intro w' hw'
    have h := conv_bv (cap := cap) (hb.below hw') (by intro h; cases h)
    rw [hl] at h
    exact ⟨hw', h⟩
  have SL : Hid (∀ w', Below w.heap.size w w' → Below w.heap.size w w' ∧ (convert 22 9 (.slice (some ⟨b, off, none⟩) (n + 4) cap)).run Try.prog w' = .ok (.string (strOfNums zs)) w') := hcv
  have HS : Hid (∀ wx, Below w.heap.size w wx → Calls Try.prog 24 #[.slice (some ⟨b, off, none⟩) n cap] wx fun e w' => ∃ v, e = .returned v ∧ (convert 22 9 v).run Try.prog w' = .ok (.string (strOfNums (zs.take n ++ dig (more 0 (zs.take n)) 4))) w' ∧ Below w.heap.size w w') := by
    intro wx hx
    have h := rseal_any (some ⟨b, off, none⟩) cap (zs.take n) wx ((hb.take n).below hx) (by omega) (by intro h; cases h)
    rw [hlt] at h
    refine h.mono ?_
    rintro e w' ⟨v, rfl, ho, hbb⟩
    exact ⟨v, rfl, conv_own ho (seal_all (hz.take n)), hx.trans (hbb.mono hx.size)⟩
  have hbt := hb.take n
  have hne := str_ne (seal_all (hz.take n)) hz hsp
  generalize strOfNums (zs.take n ++ dig (more 0 (zs.take n)) 4) = st' at *
  generalize strOfNums zs = st at *
  have HT : Hid ((zs.take n).length = n) := hlt
  have HB : Hid (BV w (some ⟨b, off, none⟩) (zs.take n)) := hbt
  clear hcv hb hsp hlt hbt hz hl hg
  have i1 : (0 : Int) ≤ (n : Int) := by omega
  have i2 : (n : Int) ≤ (cap : Int) := by omega
  have i3 : ¬ cap = 0 := by omega
  have i4 : (n : Int) + 4 - 4 = n := by omega
  go_enter Try.func28, Try.ntmps28
  go_wp2_with fail
  have s0 := (SL.out _ (Below.refl _ _).drew).2
  go_region_with (go_at_call 24; refine (HS.out _ (Below.refl _ _).drew).mono ?_; rintro e w1 ⟨v, rfl, s1, hb1⟩; have s2 := (SL.out _ hb1).2)
  all_goals (
    clear s0 s1 s2
    go_wp2
    go_ret2
    exact ⟨rfl, hb1⟩)
theorem ropen_any (a : Option Addr) (cap : Nat) (zs : List Int) (w : World) (hb : BV w a zs) (hm : zs.length ≤ 900000) (hc : zs.length ≤ cap) :
    Calls Try.prog 28 #[.slice a zs.length cap] w fun e w' => ∃ v, e = .returned (.tuple #[v, .int .i64 (openE zs)]) ∧ Own w' w.heap.size v (openL zs) ∧ Below w.heap.size w w' := by
  by_cases h : zs.length < 4
  · have e1 : openE zs = 3 := by unfold openE; rw [if_pos h]
    have e2 : openL zs = [] := by unfold openL; rw [if_pos h]
    rw [e1, e2]
    refine (ropen_cut a _ cap w h).mono ?_
    rintro e w' ⟨rfl, hw⟩
    obtain rfl := hw.symm
    exact ⟨_, rfl, Own.nil _ _, Below.refl _ _⟩
  · obtain ⟨n, hn⟩ : ∃ n, zs.length = n + 4 := ⟨zs.length - 4, by omega⟩
    have hb' := hb
    obtain ⟨_, rfl | ⟨b, off, rfl, _, _⟩⟩ := hb
    · simp at hn
    · by_cases hg : Good zs
      · have e1 : openE zs = 0 := by unfold openE; rw [if_neg h, if_pos hg]
        have e2 : openL zs = zs.take n := by unfold openL; rw [if_neg h, if_pos hg, hn, Nat.add_sub_cancel]
        rw [e1, e2]
        have := ropen_good b off n cap zs w hn (by omega) (by omega) hb' hg
        rw [← hn] at this
        exact this
      · have e1 : openE zs = 13 := by unfold openE; rw [if_neg h, if_neg hg]
        have e2 : openL zs = [] := by unfold openL; rw [if_neg h, if_neg hg]
        rw [e1, e2]
        have := ropen_bad b off n cap zs w hn (by omega) (by omega) hb' hg
        rw [← hn] at this
        refine this.mono ?_
        rintro e w' ⟨rfl, hbb⟩
        exact ⟨_, rfl, Own.nil _ _, hbb⟩
end Go.Proofs.Ytcegahmjegjckaa
