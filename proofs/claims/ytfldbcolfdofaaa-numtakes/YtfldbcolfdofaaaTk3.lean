/- The main part of NumTakes: at most 400 bytes and 60 calls: the two readers tell the same. -/
import Derived.Test.YtfldbcolfdofaaaTk2
namespace Go.Proofs.Ytfldbcolfdofaaa
open Go.RowKit Rq

theorem rtxZ_le (zs : List Int) (e : Int) : (rtxZ zs e).length ≤ zs.length := by
  unfold rtxZ
  split
  · simp
  · exact Nat.le_refl _
theorem sgdZ_le (zs : List Int) (e : Int) : (sgdZ zs e).length ≤ zs.length := by
  unfold sgdZ
  split
  · simp
  · exact Nat.le_refl _
theorem numZ_le (zs : List Int) (e x : Int) : (numZ zs e x).length ≤ zs.length := by
  unfold numZ
  split
  · simp
  · exact Nat.le_refl _

set_option maxRecDepth 100000 in
set_option maxHeartbeats 1000000 in
theorem takes_main (a0 : Option Addr) (cap0 : Nat) (zs : List Int) (a1 : Option Addr) (len1 cap1 : Nat) (cs : List Int) (w : World) (hv : BV w a0 zs) (hl : zs.length ≤ 400) (hc : zs.length ≤ cap0) (hn : a0 = none → cap0 = 0)
    (hl1 : len1 ≤ 60) (hcs : len1 = 0 ∨ ∃ b1 off1, a1 = some ⟨b1, off1, none⟩ ∧ b1 < w.heap.size ∧ ∀ k, k < len1 → w.cell? ⟨b1, off1 + k, none⟩ = some (.int .i64 (cs.getD k 0))) :
    Calls Try.prog 6 #[.slice a0 zs.length cap0, .slice a1 len1 cap1] w fun e w' => e = .returned (.bool true) ∧ Below w.heap.size w w' := by
  have hd1 : decide (400 < (zs.length : Int)) = false := by simp; omega
  have hd2 : decide (60 < (len1 : Int)) = false := by simp; omega
  have hlit : Own (w.alloc (.cells #[] 5)) w.heap.size (.slice (some ⟨w.heap.size, 0, none⟩) 0 0) [] := World.ownsRow_lit w #[] 0 (Nat.le_refl _) (by decide) rfl
  have B0 : Below w.heap.size w (w.alloc (.cells #[] 5)) := (Below.refl _ _).alloc (Nat.le_refl _) _
  have HV : Hid (BV w a0 zs) := hv
  have hz := hv.1
  have HCS : Hid (len1 = 0 ∨ ∃ b1 off1, a1 = some ⟨b1, off1, none⟩ ∧ b1 < w.heap.size ∧ ∀ k, k < len1 → w.cell? ⟨b1, off1 + k, none⟩ = some (.int .i64 (cs.getD k 0))) := hcs
  clear hcs
  go_enter Try.func6, Try.ntmps6
  go_wp2_with (at_builtin; refine wp_app_in rfl (.tmp 23) (.tmp 24) rfl w.heap.size _ _ rfl hlit a0 zs cap0 rfl (hv.below B0) hn (by omega) (by simp) ?_; intro g c1 w1 ho1 hg1 hg2 hb1'; have B1 := B0.trans hb1'; clear hb1' hlit B0 hv hn)
  have HN := new_lo (some ⟨g, 0, none⟩) c1 zs w1 (ho1.bv hz) (by omega) (by intro h; cases h)
  refine HN.mono ?_
  rintro e w2 ⟨rb, rfl, hrl, hb2⟩
  clear HN
  have HS := St.made w w1 w2 w1.heap.size rb zs a0 zs.length cap0 hrl rfl B1 hb2
  have HO := ho1.below (hb2.trans ((Below.refl _ _).alloc hb2.size (.cells #[.slice a0 zs.length cap0, .int .i64 0] 46)))
  have HSH : Hid (St w (w2.alloc (.cells #[.slice a0 zs.length cap0, .int .i64 0] 46)) w1.heap.size rb w2.heap.size zs 0 a0 zs.length cap0 0) := HS
  have HOH : Hid (Own (w2.alloc (.cells #[.slice a0 zs.length cap0, .int .i64 0] 46)) w.heap.size (.slice (some ⟨g, 0, none⟩) zs.length c1) zs) := HO
  clear HS HO hrl hb2 B1 ho1
  go_wp2_with fail
  obtain ⟨xb, hxb⟩ : ∃ xb, xb = w2.heap.size := ⟨_, rfl⟩
  rw [← hxb] at HSH ⊢
  obtain ⟨W, hW⟩ : ∃ W, W = w2.alloc (.cells #[.slice a0 zs.length cap0, .int .i64 0] 46) := ⟨_, rfl⟩
  rw [← hW] at HSH HOH ⊢
  clear hW hxb
  generalize hlo : w1.heap.size = lo at *
  clear hlo
  go_loopw [8] (fun i wr => ∃ (k : Nat) (ys : List Int), k ≤ zs.length ∧ i = .int .i64 k ∧ Hid (ys.length = zs.length) ∧ Hid (Own wr w.heap.size (.slice (some ⟨g, 0, none⟩) zs.length c1) ys) ∧ Hid (St w wr lo rb xb zs 0 a0 zs.length cap0 0)) (fun i _ => zs.length - (intOf i).toNat)
  case atStart => exact ⟨0, zs, Nat.zero_le _, rfl, rfl, HOH, HSH⟩
  case round =>
    obtain ⟨k, ys, hk, rfl, HY, HO, HT⟩ := hrel
    clear HSH HOH
    by_cases hlt : k < zs.length
    · have hfz := World.ownsRow.frozenAt (g := g) (n := zs.length) (cap := c1) (by have h := HO.out; unfold Own at h; rw [HY.out] at h; exact h) k
      obtain ⟨y, hy⟩ : ∃ y : Int, wr.cell? ⟨g, k, none⟩ = some (.int .u8 y) := by
        have h := HO.out.cellsAt k (.int .u8 (ys[k]'(by rw [HY.out]; exact hlt))) (by rw [List.getElem?_map, List.getElem?_eq_getElem (by rw [HY.out]; exact hlt)]; rfl)
        rw [add_plain, Nat.zero_add] at h
        exact ⟨_, h⟩
      have HO' : Hid (Own (wr.setCell ⟨g, k, none⟩ (.int .u8 ((y + 1) % 256))) w.heap.size (.slice (some ⟨g, 0, none⟩) zs.length c1) (ys.set k ((y + 1) % 256))) := by
        have h := HO.out
        unfold Own at h ⊢
        rw [HY.out] at h
        have h2 := (World.ownsRow.stored (g := g) (n := zs.length) (cap := c1) h k (.int .u8 ((y + 1) % 256))).1
        rw [List.length_set, HY.out, List.map_set]
        exact h2
      have HT' : Hid (St w (wr.setCell ⟨g, k, none⟩ (.int .u8 ((y + 1) % 256))) lo rb xb zs 0 a0 zs.length cap0 0) := HT.out.store g k _ hg2 hg1
      go_wp2
      go_roundw
      case rel => exact ⟨k + 1, ys.set k ((y + 1) % 256), by omega, by go_num, by rw [List.length_set]; exact HY, HO', HT'⟩
      case measure => simp [intOf]; omega
    · clear HO HY ys
      go_wp2_with fail
      go_loopw [9, 10] (fun ok i wr => ∃ (j : Nat) (ds : List Int) (e : Int) (a : Option Addr) (cap : Nat), j ≤ len1 ∧ ok = .bool true ∧ i = .int .i64 j ∧ ds.length ≤ cap ∧ ds.length ≤ 400 ∧ Hid (BV w a ds) ∧ Hid (St w wr lo rb xb ds e a ds.length cap e)) (fun _ i _ => len1 - (intOf i).toNat)
      case atStart => exact ⟨0, zs, 0, a0, cap0, Nat.zero_le _, rfl, rfl, hc, hl, HV, HT⟩
      case round =>
        obtain ⟨j, ds, e, a, cap, hj, rfl, rfl, hdc, hdl, HB, HT2⟩ := hrel
        clear HT
        by_cases hlt2 : j < len1
        · obtain h0 | ⟨b1, off1, rfl, hb1, hcell⟩ := HCS.out
          · omega
          · have hcj := (HT2.out.bl.cell (p := ⟨b1, off1 + j, none⟩) hb1).trans (hcell j hlt2)
            have hcw := hcell j hlt2
            clear HCS hcell
            generalize cs.getD j 0 = c at *
            have HCW : Hid (w.cell? ⟨b1, off1 + j, none⟩ = some (.int .i64 c)) := hcw
            clear hcw
            by_cases hm1 : c = -1
            · subst hm1
              have x0 := HT2.out.x0
              have x1 := HT2.out.x1
              have hz2 := rtxZ_le ds e
              go_wp2_with fail
              refine (rtxt_any a cap ds e wr (HB.out.below HT2.out.bl) (by omega) hdc).mono ?_
              rintro r w3 ⟨c', cap', rfl, h1, h2, hsub, hb3⟩
              have T3 := HT2.out.below hb3
              have hb' : Hid (BV w c' (rtxZ ds e)) := hsub w HB.out
              clear x0 x1 hcj hsub hb3 HT2 HB h2
              have x0 := T3.x0
              have x1 := T3.x1
              have f0 := T3.f0
              have f1 := T3.f1
              have T4 := T3.put c' (rtxZ ds e).length cap' (rtxE ds e)
              go_wp2_with fail
              refine (Rq.rtx_any rb ds e _ T4.rd).mono ?_
              rintro r w5 ⟨rfl, hrd, hgr⟩
              have T5 := T4.real hrd hgr
              clear x0 x1 f0 f1 T3 T4 hrd hgr
              generalize rtxZ ds e = ds' at *
              generalize rtxE ds e = e' at *
              generalize rtxS ds e = s' at *
              go_wp2_with fail
              have SL : Hid (∀ w', Below w5.heap.size w5 w' → St w w' lo rb xb ds' e' c' ds'.length cap' e' ∧ w'.cell? ⟨xb, 0, none⟩ = some (.slice c' ds'.length cap') ∧ w'.cell? ⟨xb, 1, none⟩ = some (.int .i64 e')) := fun w' h => ⟨T5.below h, (T5.below h).x0, (T5.below h).x1⟩
              clear T5
              go_region_held3 (fun w' => St w w' lo rb xb ds' e' c' ds'.length cap' e' ∧ w'.cell? ⟨xb, 0, none⟩ = some (.slice c' ds'.length cap') ∧ w'.cell? ⟨xb, 1, none⟩ = some (.int .i64 e')) (first | exact SL.out _ (Below.refl _ _).drew | exact SL.out _ ((Below.refl _ _).drew.trans hb6)) (first | (go_at_call 27; refine (Rq.left_any rb ds' e' _ (SL.out _ ?_).1.rd).mono ?_; (first | exact (Below.refl _ _).drew | exact (Below.refl _ _).drew.trans hb6); rintro r w' ⟨rfl, hw⟩; obtain rfl := hw.symm) | (go_at_call 28; refine (Rq.err_any rb ds' e' _ (SL.out _ ?_).1.rd).mono ?_; (first | exact (Below.refl _ _).drew | exact (Below.refl _ _).drew.trans hb6); rintro r w' ⟨rfl, hw⟩; obtain rfl := hw.symm) | (go_at_call 29; refine (Rq.done_any rb ds' e' _ (SL.out _ ?_).1.rd).mono ?_; (first | exact (Below.refl _ _).drew | exact (Below.refl _ _).drew.trans hb6); rintro r w' ⟨rfl, hw⟩; obtain rfl := hw.symm) | (go_at_call 30; refine (rdone_any c' ds'.length cap' ds' e' _ rfl).mono ?_; rintro r w6 ⟨rfl, hb6⟩))
              all_goals
                have T6 : Hid (St w w6 lo rb xb ds' e' c' ds'.length cap' e') := (SL.out _ ((Below.refl _ _).drew.trans hb6)).1
                go_wp2
                go_roundw
                case rel => exact ⟨j + 1, ds', e', c', cap', by omega, rfl, by go_num, h1, by omega, hb', T6⟩
                case measure => simp [intOf]; omega
            · by_cases hm2 : c = -2
              · subst hm2
                have t1 : ((-2 : Int) == -1) = false := rfl
                have x0 := HT2.out.x0
                have x1 := HT2.out.x1
                have hz2 := sgdZ_le ds e
                go_wp2_with fail
                refine (rsgd_any a cap ds e wr (HB.out.below HT2.out.bl) (by omega) hdc).mono ?_
                rintro r w3 ⟨c', cap', rfl, h1, h2, hsub, hb3⟩
                have T3 := HT2.out.below hb3
                have hb' : Hid (BV w c' (sgdZ ds e)) := hsub w HB.out
                clear x0 x1 hcj hsub hb3 HT2 HB h2
                have x0 := T3.x0
                have x1 := T3.x1
                have f0 := T3.f0
                have f1 := T3.f1
                have T4 := T3.put c' (sgdZ ds e).length cap' (sgdE ds e)
                go_wp2_with fail
                refine (Rq.sgd_any rb ds e _ T4.rd).mono ?_
                rintro r w5 ⟨rfl, hrd, hgr⟩
                have T5 := T4.real hrd hgr
                clear x0 x1 f0 f1 T3 T4 hrd hgr
                generalize sgdZ ds e = ds' at *
                generalize sgdE ds e = e' at *
                generalize sgdV ds e = s' at *
                go_wp2_with fail
                have SL : Hid (∀ w', Below w5.heap.size w5 w' → St w w' lo rb xb ds' e' c' ds'.length cap' e' ∧ w'.cell? ⟨xb, 0, none⟩ = some (.slice c' ds'.length cap') ∧ w'.cell? ⟨xb, 1, none⟩ = some (.int .i64 e')) := fun w' h => ⟨T5.below h, (T5.below h).x0, (T5.below h).x1⟩
                clear T5
                go_region_held3 (fun w' => St w w' lo rb xb ds' e' c' ds'.length cap' e' ∧ w'.cell? ⟨xb, 0, none⟩ = some (.slice c' ds'.length cap') ∧ w'.cell? ⟨xb, 1, none⟩ = some (.int .i64 e')) (first | exact SL.out _ (Below.refl _ _).drew | exact SL.out _ ((Below.refl _ _).drew.trans hb6)) (first | (go_at_call 27; refine (Rq.left_any rb ds' e' _ (SL.out _ ?_).1.rd).mono ?_; (first | exact (Below.refl _ _).drew | exact (Below.refl _ _).drew.trans hb6); rintro r w' ⟨rfl, hw⟩; obtain rfl := hw.symm) | (go_at_call 28; refine (Rq.err_any rb ds' e' _ (SL.out _ ?_).1.rd).mono ?_; (first | exact (Below.refl _ _).drew | exact (Below.refl _ _).drew.trans hb6); rintro r w' ⟨rfl, hw⟩; obtain rfl := hw.symm) | (go_at_call 29; refine (Rq.done_any rb ds' e' _ (SL.out _ ?_).1.rd).mono ?_; (first | exact (Below.refl _ _).drew | exact (Below.refl _ _).drew.trans hb6); rintro r w' ⟨rfl, hw⟩; obtain rfl := hw.symm) | (go_at_call 30; refine (rdone_any c' ds'.length cap' ds' e' _ rfl).mono ?_; rintro r w6 ⟨rfl, hb6⟩))
                all_goals
                  have T6 : Hid (St w w6 lo rb xb ds' e' c' ds'.length cap' e') := (SL.out _ ((Below.refl _ _).drew.trans hb6)).1
                  go_wp2
                  go_roundw
                  case rel => exact ⟨j + 1, ds', e', c', cap', by omega, rfl, by go_num, h1, by omega, hb', T6⟩
                  case measure => simp [intOf]; omega
              · have t1 : (c == -1) = false := by simpa using hm1
                have t2 : (c == -2) = false := by simpa using hm2
                have x0 := HT2.out.x0
                have x1 := HT2.out.x1
                have hz2 := numZ_le ds e c
                go_wp2_with fail
                go_region_with (go_at_call 25; refine (rnum_any a cap ds e c _ ?_ (by omega) hdc).mono ?_; exact HB.out.below HT2.out.bl.drew; rintro r w3 ⟨c', cap', rfl, h1, h2, hsub, hb3⟩; have T3 := HT2.out.below ((Below.refl _ _).drew.trans hb3); have f0 := T3.f0; have f1 := T3.f1; have y0 := T3.x0; have y1 := T3.x1)
                all_goals
                  have T4 := T3.put c' (numZ ds e c).length cap' (numE ds e c)
                  have hb' : Hid (BV w c' (numZ ds e c)) := hsub w HB.out
                  have hcj4 := (T4.bl.cell (p := ⟨b1, off1 + j, none⟩) hb1).trans HCW.out
                  clear x0 x1 f0 f1 y0 y1 hcj hsub hb3 HT2 HB h2 T3
                  go_wp2_with fail
                  refine (Rq.num_any rb ds e c _ T4.rd).mono ?_
                  rintro r w5 ⟨rfl, hrd, hgr⟩
                  have T5 := T4.real hrd hgr
                  clear T4 hrd hgr hcj4
                  generalize numZ ds e c = ds' at *
                  generalize numE ds e c = e' at *
                  generalize numV ds e c = s' at *
                  go_wp2_with fail
                  have SL : Hid (∀ w', Below w5.heap.size w5 w' → St w w' lo rb xb ds' e' c' ds'.length cap' e' ∧ w'.cell? ⟨xb, 0, none⟩ = some (.slice c' ds'.length cap') ∧ w'.cell? ⟨xb, 1, none⟩ = some (.int .i64 e')) := fun w' h => ⟨T5.below h, (T5.below h).x0, (T5.below h).x1⟩
                  clear T5
                  go_region_held3 (fun w' => St w w' lo rb xb ds' e' c' ds'.length cap' e' ∧ w'.cell? ⟨xb, 0, none⟩ = some (.slice c' ds'.length cap') ∧ w'.cell? ⟨xb, 1, none⟩ = some (.int .i64 e')) (first | exact SL.out _ (Below.refl _ _).drew | exact SL.out _ ((Below.refl _ _).drew.trans hb6)) (first | (go_at_call 27; refine (Rq.left_any rb ds' e' _ (SL.out _ ?_).1.rd).mono ?_; (first | exact (Below.refl _ _).drew | exact (Below.refl _ _).drew.trans hb6); rintro r w' ⟨rfl, hw⟩; obtain rfl := hw.symm) | (go_at_call 28; refine (Rq.err_any rb ds' e' _ (SL.out _ ?_).1.rd).mono ?_; (first | exact (Below.refl _ _).drew | exact (Below.refl _ _).drew.trans hb6); rintro r w' ⟨rfl, hw⟩; obtain rfl := hw.symm) | (go_at_call 29; refine (Rq.done_any rb ds' e' _ (SL.out _ ?_).1.rd).mono ?_; (first | exact (Below.refl _ _).drew | exact (Below.refl _ _).drew.trans hb6); rintro r w' ⟨rfl, hw⟩; obtain rfl := hw.symm) | (go_at_call 30; refine (rdone_any c' ds'.length cap' ds' e' _ rfl).mono ?_; rintro r w6 ⟨rfl, hb6⟩))
                  all_goals
                    have T6 : Hid (St w w6 lo rb xb ds' e' c' ds'.length cap' e') := (SL.out _ ((Below.refl _ _).drew.trans hb6)).1
                    go_wp2
                    go_roundw
                    case rel => exact ⟨j + 1, ds', e', c', cap', by omega, rfl, by go_num, h1, by omega, hb', T6⟩
                    case measure => simp [intOf]; omega
        · go_wp2_with (first | (go_at_call 26; refine (nil_num _ _).mono ?_; rintro e w' ⟨rfl, hw⟩; obtain rfl := hw.symm) | (go_at_call 24; refine (nil_signed _).mono ?_; rintro e w' ⟨rfl, hw⟩; obtain rfl := hw.symm) | (go_at_call 27; refine (nil_left _).mono ?_; rintro e w' ⟨rfl, hw⟩; obtain rfl := hw.symm) | (go_at_call 22; refine (nil_text _).mono ?_; rintro e w' ⟨rfl, hw⟩; obtain rfl := hw.symm) | (go_at_call 28; refine (nil_err _).mono ?_; rintro e w' ⟨rfl, hw⟩; obtain rfl := hw.symm) | (go_at_call 29; refine (nil_done _).mono ?_; rintro e w' ⟨rfl, hw⟩; obtain rfl := hw.symm))
          refine (awake_any wr).mono ?_
          rintro e w3 ⟨rfl, hb3⟩
          go_wp2
          go_ret
          exact ⟨rfl, HT2.out.bl.trans (hb3.mono HT2.out.bl.size)⟩
end Go.Proofs.Ytfldbcolfdofaaa
