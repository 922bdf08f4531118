/- Get: contract of the call. -/
import Derived.Test.YtpmhilaochfpaaaDoorGt
import Derived.Deep.RegionWith
namespace Go.Proofs.YtpmhilaochfpaaaDoor
set_option maxRecDepth 20000
open Go.RowKit
set_option linter.unusedVariables false
set_option linter.unusedSimpArgs false
set_option maxRecDepth 20000

def gtE (zs : List Int) : Int := if tkE zs = 3 then 3 else if tkE zs ≠ 0 ∨ chkE (tkK zs) (tkN zs) (tkS zs).data.toList ≠ 0 then 4 else 0
def gtA (zs : List Int) : Value := if gtE zs = 0 then .tuple #[vv (tkK zs) (tkN zs) (tkS zs), .int .i64 ((zs.length : Int) - (tkZ zs).length), .int .i64 0] else .tuple #[vv 0 0 ByteArray.empty, .int .i64 0, .int .i64 (gtE zs)]
theorem rb_of {w : World} {rb : Nat} {zs : List Int} {e : Int} (h : RdS w rb zs e) : RB w.heap.size w rb zs e := by
  obtain ⟨a, cap, h0, h1, h2, h3, h4⟩ := h
  refine ⟨a, cap, h0, h1, h2, h3, ?_⟩
  rcases h4 with h4 | ⟨b, off, e1, e2, e3, e4⟩
  · exact .inl h4
  · exact .inr ⟨b, off, e1, e2, e3, e3, e4⟩
theorem drop_all {zs : List Int} (h : AllB zs) (n : Nat) : AllB (zs.drop n) := fun z hz => h z (List.mem_of_mem_drop hz)
theorem tkS_le {zs : List Int} (h : AllB zs) : (tkS zs).size ≤ 255 := by
  unfold tkS
  split
  · unfold rtxS txS
    rw [if_pos rfl]
    split
    · decide
    · rw [strOfNums_size]
      have := ((drop_all h 1).getD 0).2
      unfold txL
      simp only [List.length_take]
      omega
  · decide
theorem tkK_b {zs : List Int} (h : AllB zs) : 0 ≤ tkK zs ∧ tkK zs ≤ 255 := h.getD 0
theorem tkZ_le (zs : List Int) : (tkZ zs).length ≤ zs.length := by
  unfold tkZ
  split
  · simp
  · split
    · unfold sgdZ; split <;> simp <;> omega
    · split
      · unfold rtxZ; split <;> simp <;> omega
      · simp
theorem acell {w2 w3 : World} {o : Obj} (hb : Below (w2.alloc o).heap.size (w2.alloc o) w3) (b : Nat) (h : b < w2.heap.size) : (∀ i, w3.cell? ⟨b, i, none⟩ = w2.cell? ⟨b, i, none⟩) ∧ (∀ i, w3.frozen? ⟨b, i, none⟩ = w2.frozen? ⟨b, i, none⟩) :=
  have e : w3.heap[b]? = w2.heap[b]? := (hb.block b (by simp; omega)).trans (Below.heap_alloc _ _ _ h)
  ⟨fun i => World.cell?_of_block (a := ⟨b, i, none⟩) e, fun i => World.frozen?_of_block (a := ⟨b, i, none⟩) e⟩
theorem bcell1 {w2 w3 : World} {o : Obj} (hb : Below (w2.alloc o).heap.size (w2.alloc o) w3) : (∀ i, w3.cell? ⟨w2.heap.size, i, none⟩ = (w2.alloc o).cell? ⟨w2.heap.size, i, none⟩) ∧ (∀ i, w3.frozen? ⟨w2.heap.size, i, none⟩ = (w2.alloc o).frozen? ⟨w2.heap.size, i, none⟩) :=
  have e := hb.block w2.heap.size (by simp)
  ⟨fun i => World.cell?_of_block (a := ⟨w2.heap.size, i, none⟩) e, fun i => World.frozen?_of_block (a := ⟨w2.heap.size, i, none⟩) e⟩
theorem wr_small (x : Int) (h0 : -9223372036854775808 ≤ x) (h1 : x ≤ 9223372036854775807) : IntKind.i64.wrap x = x := by rw [IntKind.wrap_i64]; omega
set_option maxHeartbeats 2000000 in
theorem get_any13 (a : Option Addr) (len cap : Nat) (zs : List Int) (w : World) (hb : BV w a zs) (hl : zs.length = len) (hm : len ≤ 257) (hc : len ≤ cap) (hcm : cap ≤ 9223372036854775807) (hn : a = none → cap = 0) (hV : Vars w) :
    Calls Tryd.prog 54 #[.slice a len cap] w fun e w' => e = .returned (gtA zs) ∧ Below w.heap.size w w' := by
  have hz := hb.1
  have CN := fun w' hbw => new_any a cap zs w' (hb.below hbw) (by omega) hn
  rw [hl] at CN
  have CT := fun rb w' h hr => take_any13 rb zs w' h hr
  unfold TkPost at CT
  have hmin : min (len : Int) 257 = len := by omega
  have hlz : (len : Int) ≤ cap := by omega
  by_cases h3 : tkE zs = 3
  · have HA : Hid (gtA zs = .tuple #[vv 0 0 ByteArray.empty, .int .i64 0, .int .i64 3]) := by
      show gtA zs = _
      have : gtE zs = 3 := by unfold gtE; rw [if_pos h3]
      unfold gtA; rw [this]; rfl
    rw [h3] at CT
    generalize gtA zs = ans at *
    generalize tkK zs = K at *
    generalize tkN zs = N at *
    generalize tkS zs = S at *
    generalize tkZ zs = Z at *
    unfold vv at CT
    clear h3 hb hn
    go_enter Tryd.func54, Tryd.ntmps54
    go_wp2_with (first | (go_at_call 62; refine (CN _ (box1 _ _)).mono ?_; rintro e w1 ⟨rb, rfl, hr0, hr1, hq1, hb1⟩; clear CN; obtain ⟨hc1, hf1⟩ := bcell hb1; have hrw : w.heap.size < rb := (by { simp at hr0; omega })) | (go_at_call 63; refine (CT _ _ (rb_of hq1) hr1).mono ?_; rintro e w2 ⟨rfl, hq2, hg2⟩; clear CT; have hz1 : w.heap.size < w1.heap.size := (by omega); obtain ⟨hc2, hf2⟩ := gcell hg2 w.heap.size hz1 (by omega); have hz2 : w.heap.size < w2.heap.size := (by { have := hg2.size; omega }); have HB2 : Hid (Below w.heap.size w w2) := ((up1 hb1).grown hg2 (up1 hb1).size (by { intro k hk; cases hk; omega }))) | (go_at_call 64; refine (Rq.err_any _ _ _ _ (RB.low hq2 hr1 ((box1 w2 _).mono hg2.size))).mono ?_; rintro e w' ⟨rfl, hw⟩; obtain rfl := hw.symm))
    have hbl := (set3 HB2.out w.heap.size (Nat.le_refl _) (.int .u8 0) (.int .i64 0) (.string ByteArray.empty)).alloc (by simp [World.setCell]; omega) (.cells #[.int .u8 K, .int .i64 N, .string S] 52)
    refine bodyPost_ret (v := .tuple #[vv 0 0 ByteArray.empty, .int .i64 0, .int .i64 3]) (by simp [results, Tryd.results54, go_sem, vv, hc1, hc2, hz1, hz2] <;> rfl) rfl ⟨by rw [HA.out], ?_⟩
    exact hbl
  by_cases h0 : tkE zs = 0
  · have hS := tkS_le hz
    obtain ⟨hk0, hk1⟩ := tkK_b hz
    have CC := fun w' hv => chk_any (tkK zs) (tkN zs) (tkS zs) w' hk0 hk1 (by omega) hv
    by_cases hc0 : chkE (tkK zs) (tkN zs) (tkS zs).data.toList = 0
    · have HA : Hid (gtA zs = .tuple #[vv (tkK zs) (tkN zs) (tkS zs), .int .i64 ((len : Int) - (tkZ zs).length), .int .i64 0]) := by
        show gtA zs = _
        have : gtE zs = 0 := by unfold gtE; rw [if_neg h3, if_neg (by simp [h0, hc0])]
        unfold gtA; rw [if_pos this, hl]
      have hZ := tkZ_le zs
      rw [hl] at hZ
      rw [h0] at CT
      rw [hc0] at CC
      generalize gtA zs = ans at *
      generalize tkK zs = K at *
      generalize tkN zs = N at *
      generalize tkS zs = S at *
      generalize tkZ zs = Z at *
      unfold vv at CT
      unfold vv at CC
      clear h3 h0 hb hn hc0 hS
      go_enter Tryd.func54, Tryd.ntmps54
      go_wp2_with (first | (go_at_call 62; refine (CN _ (box1 _ _)).mono ?_; rintro e w1 ⟨rb, rfl, hr0, hr1, hq1, hb1⟩; clear CN; obtain ⟨hc1, hf1⟩ := bcell hb1; have hrw : w.heap.size < rb := (by { simp at hr0; omega })) | (go_at_call 63; refine (CT _ _ (rb_of hq1) hr1).mono ?_; rintro e w2 ⟨rfl, hq2, hg2⟩; clear CT; have hz1 : w.heap.size < w1.heap.size := (by omega); obtain ⟨hc2, hf2⟩ := gcell hg2 w.heap.size hz1 (by omega); have hz2 : w.heap.size < w2.heap.size := (by { have := hg2.size; omega }); have HB2 : Hid (Below w.heap.size w w2) := ((up1 hb1).grown hg2 (up1 hb1).size (by { intro k hk; cases hk; omega }))) | (go_at_call 64; refine (Rq.err_any _ _ _ _ (RB.low hq2 hr1 ((box1 w2 _).mono hg2.size))).mono ?_; rintro e w' ⟨rfl, hw⟩; obtain rfl := hw.symm) | (go_at_call 37; refine (CC _ (hV.below (HB2.out.trans ((box1 w2 _).mono HB2.out.size)))).mono ?_; rintro e w3 ⟨rfl, hb3⟩; clear CC; obtain ⟨hc3, hf3⟩ := bcell1 hb3; obtain ⟨hc4, hf4⟩ := acell hb3 w.heap.size hz2; have hz3 : w2.heap.size < w3.heap.size := (by { have := hb3.size; simp at this; omega })))
      have HQ3 : Hid (∀ w', Below w1.heap.size w3 w' → RB w1.heap.size w' rb Z 0) := fun w' hb => RB.low hq2 hr1 ((((box1 w2 _).mono hg2.size).trans (hb3.mono (by have := hg2.size; simp; omega))).trans hb)
      have HB3 : Hid (Below w.heap.size w w3) := (HB2.out.trans ((box1 w2 _).mono HB2.out.size)).trans (hb3.mono (HB2.out.trans ((box1 w2 _).mono HB2.out.size)).size)
      have hwr : IntKind.i64.wrap ((len : Int) - Z.length) = (len : Int) - Z.length := wr_small _ (by omega) (by omega)
      clear hq1 hq2 hb3 hg2 hb1 hr0 HB2 hV hz
      go_region_with (go_at_call 65; refine (Rq.left_any _ _ _ _ (HQ3.out _ (by first | exact Below.refl _ _ | exact (Below.refl _ _).drew | exact (Below.refl _ _).drew.drew))).mono ?_; rintro e w' ⟨rfl, hw⟩; obtain rfl := hw.symm)
      all_goals
        go_wp2
        refine bodyPost_ret (v := .tuple #[vv K N S, .int .i64 ((len : Int) - Z.length), .int .i64 0]) (by simp [results, Tryd.results54, go_sem, vv, hc1, hc2, hc4, hz1, hz2, hwr]) rfl ⟨by rw [HA.out], ?_⟩
        exact (set3 HB3.out w.heap.size (Nat.le_refl _) _ _ _).drew
    · have HA : Hid (gtA zs = .tuple #[vv 0 0 ByteArray.empty, .int .i64 0, .int .i64 4]) := by
        show gtA zs = _
        have : gtE zs = 4 := by unfold gtE; rw [if_neg h3, if_pos (.inr hc0)]
        unfold gtA; rw [this]; rfl
      have hne : ((chkE (tkK zs) (tkN zs) (tkS zs).data.toList : Int) != 0) = true := by rw [bne_iff_ne]; exact hc0
      rw [h0] at CT
      generalize gtA zs = ans at *
      generalize tkK zs = K at *
      generalize tkN zs = N at *
      generalize tkS zs = S at *
      generalize tkZ zs = Z at *
      unfold vv at CT
      unfold vv at CC
      generalize chkE K N S.data.toList = ce at *
      clear h3 h0 hb hn hc0 hS
      go_enter Tryd.func54, Tryd.ntmps54
      go_wp2_with (first | (go_at_call 62; refine (CN _ (box1 _ _)).mono ?_; rintro e w1 ⟨rb, rfl, hr0, hr1, hq1, hb1⟩; clear CN; obtain ⟨hc1, hf1⟩ := bcell hb1; have hrw : w.heap.size < rb := (by { simp at hr0; omega })) | (go_at_call 63; refine (CT _ _ (rb_of hq1) hr1).mono ?_; rintro e w2 ⟨rfl, hq2, hg2⟩; clear CT; have hz1 : w.heap.size < w1.heap.size := (by omega); obtain ⟨hc2, hf2⟩ := gcell hg2 w.heap.size hz1 (by omega); have hz2 : w.heap.size < w2.heap.size := (by { have := hg2.size; omega }); have HB2 : Hid (Below w.heap.size w w2) := ((up1 hb1).grown hg2 (up1 hb1).size (by { intro k hk; cases hk; omega }))) | (go_at_call 64; refine (Rq.err_any _ _ _ _ (RB.low hq2 hr1 ((box1 w2 _).mono hg2.size))).mono ?_; rintro e w' ⟨rfl, hw⟩; obtain rfl := hw.symm) | (go_at_call 37; refine (CC _ (hV.below (HB2.out.trans ((box1 w2 _).mono HB2.out.size)))).mono ?_; rintro e w3 ⟨rfl, hb3⟩; clear CC; obtain ⟨hc3, hf3⟩ := bcell1 hb3; obtain ⟨hc4, hf4⟩ := acell hb3 w.heap.size hz2; have hz3 : w2.heap.size < w3.heap.size := (by { have := hb3.size; simp at this; omega })))
      refine bodyPost_ret (v := .tuple #[vv 0 0 ByteArray.empty, .int .i64 0, .int .i64 4]) (by simp [results, Tryd.results54, go_sem, vv, hc1, hc2, hc3, hc4, hz1, hz2, hz3] <;> rfl) rfl ⟨by rw [HA.out], ?_⟩
      exact set3 ((HB2.out.trans ((box1 w2 _).mono HB2.out.size)).trans (hb3.mono (HB2.out.trans ((box1 w2 _).mono HB2.out.size)).size)) w.heap.size (Nat.le_refl _) _ _ _
  · have HA : Hid (gtA zs = .tuple #[vv 0 0 ByteArray.empty, .int .i64 0, .int .i64 4]) := by
      show gtA zs = _
      have : gtE zs = 4 := by unfold gtE; rw [if_neg h3, if_pos (.inl h0)]
      unfold gtA; rw [this]; rfl
    have b3 : (tkE zs == 3) = false := by rw [beq_eq_false_iff_ne]; exact h3
    have b0 : (tkE zs != 0) = true := by rw [bne_iff_ne]; exact h0
    generalize gtA zs = ans at *
    generalize tkK zs = K at *
    generalize tkN zs = N at *
    generalize tkS zs = S at *
    generalize tkZ zs = Z at *
    unfold vv at CT
    generalize tkE zs = E at *
    clear h3 h0 hb hn
    go_enter Tryd.func54, Tryd.ntmps54
    go_wp2_with (first | (go_at_call 62; refine (CN _ (box1 _ _)).mono ?_; rintro e w1 ⟨rb, rfl, hr0, hr1, hq1, hb1⟩; clear CN; obtain ⟨hc1, hf1⟩ := bcell hb1; have hrw : w.heap.size < rb := (by { simp at hr0; omega })) | (go_at_call 63; refine (CT _ _ (rb_of hq1) hr1).mono ?_; rintro e w2 ⟨rfl, hq2, hg2⟩; clear CT; have hz1 : w.heap.size < w1.heap.size := (by omega); obtain ⟨hc2, hf2⟩ := gcell hg2 w.heap.size hz1 (by omega); have hz2 : w.heap.size < w2.heap.size := (by { have := hg2.size; omega }); have HB2 : Hid (Below w.heap.size w w2) := ((up1 hb1).grown hg2 (up1 hb1).size (by { intro k hk; cases hk; omega }))) | (go_at_call 64; refine (Rq.err_any _ _ _ _ (RB.low hq2 hr1 ((box1 w2 _).mono hg2.size))).mono ?_; rintro e w' ⟨rfl, hw⟩; obtain rfl := hw.symm))
    have hbl := (set3 HB2.out w.heap.size (Nat.le_refl _) (.int .u8 0) (.int .i64 0) (.string ByteArray.empty)).alloc (by simp [World.setCell]; omega) (.cells #[.int .u8 K, .int .i64 N, .string S] 52)
    refine bodyPost_ret (v := .tuple #[vv 0 0 ByteArray.empty, .int .i64 0, .int .i64 4]) (by simp [results, Tryd.results54, go_sem, vv, hc1, hc2, hz1, hz2] <;> rfl) rfl ⟨by rw [HA.out], ?_⟩
    exact hbl
end Go.Proofs.YtpmhilaochfpaaaDoor
