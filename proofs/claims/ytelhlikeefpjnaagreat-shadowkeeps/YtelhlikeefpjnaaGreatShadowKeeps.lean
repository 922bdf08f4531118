/- For every list of acts the call ShadowKeeps of the statements returns true and its argument reads as it did: no condition. -/
import Derived.Test.YtelhlikeefpjnaaGreatM27
import Derived.Test.YtelhlikeefpjnaaGreatRows
import Derived.WalkKit
import Derived.ProofKit
import Derived.OpenShut
import Derived.ShutString
import Derived.ChangeOld
import Derived.Below
namespace Go.Proofs.YtelhlikeefpjnaaGreat.shadowKeeps
open Go.ChangeShapes Go.WideShapes Go.ChangeAt Go.RowKit Go.Maps
open Go.ChangeMaps (open_string shut_string)
set_option linter.unusedVariables false
set_option linter.unusedSimpArgs false
set_option maxRecDepth 20000

theorem own : ownKnob Tryz.prog.godebug = none := by kernel_rfl
theorem laidOut : laidOutB Tryz.prog = true := by kernel_rfl
theorem wrap64_le (z : Int) : wrap64 z ≤ 9223372036854775807 := by unfold wrap64; omega
set_option maxHeartbeats 6400000 in
theorem walk (al : Option Addr) (len cap : Nat) (xs : List SAct) (w : World) (h0 : SActs w al len cap xs) :
    Calls Tryz.prog 5 #[.slice al len cap] w fun e w' => e = .returned (.bool true) ∧ Below w.heap.size w w' := by
  have H8 := few_any al len cap 40 xs w h0 (by decide)
  have HA := awake_any
  have H30 := D.new_any 40 w
  have HAC : Hid (SActs w al len cap xs) := h0
  clear h0
  go_enter Tryz.func5, Tryz.ntmps5
  go_wp2_with fail
  refine H8.mono ?_
  rintro e w1 ⟨bb, rfl, hbb, hw⟩
  obtain rfl := hw.symm
  clear H8
  cases bb
  · clear H30
    go_wp2_with (first | (go_at_call 9; refine (HA _).mono ?_; rintro e w2 ⟨rfl, hb2⟩; clear HA) | fail)
    go_ret
    exact ⟨rfl, hb2⟩
  · have HFW : Hid ((len : Int) ≤ 40 ∧ ∀ i, i < len → (xs.getD i default).bs.length ≤ 400) := hbb rfl
    clear hbb
    have hl40 : (len : Int) ≤ 40 := HFW.out.1
    go_wp2_with (first
      | (go_at_call 30; refine H30.mono ?_; rintro e w1 ⟨dp, nb, mb, rfl, h1⟩; have M1 : Hid _ := h1; clear h1 H30)
      | (go_at_call 16; refine (k_format (w0 := w) M1.out.1 (fun x hx => by simp at hx; rcases hx with rfl | rfl | rfl; exact M1.out.2.1; exact M1.out.2.2.1; exact M1.out.2.2.2.1) M1.out.2.2.2.2).mono ?_; rintro e w2 ⟨p, rfl, h2⟩; have M2 : Hid (Kw w w2 ⟨p, dp, nb, mb⟩ [0, 0] [0, 0]) := h2; clear h2 M1)
      | (go_at_call 31; refine (k_image M2.out).mono ?_; rintro e w3 ⟨rfl, h3, _⟩; have M3 : Hid (Kw w w3 ⟨p, dp, nb, mb⟩ [0, 0] [0, 0]) := h3; clear h3 M2)
      | fail)
    go_loopw [4, 5, 6, 7] (fun sv ev lv iv wr => ∃ (i p : Nat) (im iu : List Int), i ≤ len ∧ sv = .pointer (some ⟨p, 0, none⟩) ∧ ev = .int .i64 0 ∧ lv = .string (strOfNums im) ∧ iv = .int .i64 i ∧ Hid (Kw w wr ⟨p, dp, nb, mb⟩ im iu)) (fun _ _ _ iv _ => len - (iOf iv).toNat)
    case atStart => exact ⟨0, p, [0, 0], [0, 0], Nat.zero_le _, rfl, rfl, rfl, rfl, M3⟩
    case round =>
      clear M3
      obtain ⟨i, p, im, iu, hi, rfl, rfl, rfl, rfl, HK⟩ := hrel
      by_cases hlt : i < len
      · have hdk : decide ((i : Int) < (len : Int)) = true := by simp; omega
        obtain ⟨b, off, rfl, hbl, hat⟩ : ∃ b off, al = some ⟨b, off, none⟩ ∧ b < w.heap.size ∧ SAt w b (off + i * 10) (xs.getD i default) := by
          obtain ⟨hl, hc, hlm, hn, hx⟩ := HAC.out
          rcases hx with e | ⟨b, off, e, hbl, hx⟩
          · subst e; simp at hl; omega
          · exact ⟨b, off, e, hbl, hx i hlt⟩
        have hf4 := HFW.out.2 i hlt
        generalize xs.getD i default = x at *
        have hat' := hat.below hbl HK.out.be
        obtain ⟨⟨fk0, fk1, fn0, fn1, fp0, fp1⟩, ⟨ba, bn, bc, c0, c1, c2, c3, q4, q5, q6, q7, q8⟩, ⟨gk0, gk1, gn0, gn1, gc0, gc1, gt0, gt1⟩, ga, gn, gc, e0, e1, e2, e3, e4, e5, r6, r7, r8, r9⟩ := hat'
        have e1 : wr.cell? ⟨b, off + i * 10 + 5, none⟩ = some (.int .i64 x.d.n) := e1
        have e2 : wr.cell? ⟨b, off + i * 10 + 6, none⟩ = some (.int .u8 x.d.c) := e2
        have e3 : wr.cell? ⟨b, off + i * 10 + 7, none⟩ = some (.int .u8 x.d.cut) := e3
        have e4 : wr.cell? ⟨b, off + i * 10 + 8, none⟩ = some (.bool x.d.d) := e4
        have e5 : wr.cell? ⟨b, off + i * 10 + 9, none⟩ = some (.slice ga gn gc) := e5
        have hbn : bn ≤ 9223372036854775807 := by omega
        have hgf : D.BV w ga x.d.fs ∧ x.d.fs.length = gn ∧ gn ≤ gc ∧ gc ≤ 9223372036854775807 := by
          obtain ⟨_, _, _, ga', gn', gc', _, _, _, _, _, f5, f6, f7, f8, f9⟩ := hat
          have h5 := (HK.out.be.cell (p := ⟨b, off + i * 10 + 4 + 5, none⟩) hbl).trans f5
          have h5' : wr.cell? ⟨b, off + i * 10 + 9, none⟩ = some (.slice ga' gn' gc') := h5
          rw [e5] at h5'
          simp at h5'
          obtain ⟨rfl, rfl, rfl⟩ := h5'
          exact ⟨f9, f6, f7, f8⟩
        have HG : Hid (D.BV w ga x.d.fs ∧ x.d.fs.length = gn ∧ gn ≤ gc ∧ gc ≤ 9223372036854775807) := hgf
        have HBD : Hid (x.bs.length = bn ∧ bn ≤ 9223372036854775807 ∧ (ba = none → bc = 0)) := ⟨q4, hbn, q7⟩
        have hbA : Below wr.heap.size wr (wr.alloc (.cells #[.int .u8 x.kd, .int .i64 x.id, .int .i64 x.pg, .slice ba bn bc, .int .u8 x.d.kd, .int .i64 x.d.n, .int .u8 x.d.c, .int .u8 x.d.cut, .bool x.d.d, .slice ga gn gc] 33)) := (Below.refl _ _).alloc (Nat.le_refl _) _
        have HW : Hid (Kw w _ ⟨p, dp, nb, mb⟩ im iu) := HK.out.below hbA
        have HBV : Hid (BV _ ba x.bs) := q8.below hbA
        have HC9 : Hid (∀ W, D.Off (Pl.X ⟨p, dp, nb, mb⟩) (wr.alloc (.cells #[.int .u8 x.kd, .int .i64 x.id, .int .i64 x.pg, .slice ba bn bc, .int .u8 x.d.kd, .int .i64 x.d.n, .int .u8 x.d.c, .int .u8 x.d.cut, .bool x.d.d, .slice ga gn gc] 33)) W → W.cell? ⟨wr.heap.size, 9, none⟩ = some (.slice ga gn gc)) := fun W hW => by
          have h1 := heap_alloc_last wr (.cells #[.int .u8 x.kd, .int .i64 x.id, .int .i64 x.pg, .slice ba bn bc, .int .u8 x.d.kd, .int .i64 x.d.n, .int .u8 x.d.c, .int .u8 x.d.cut, .bool x.d.d, .slice ga gn gc] 33)
          rw [off_cell hW (row_lt h1) (fun hm => by have := HK.out.lt _ hm; omega), cell_of_row _ _ _ _ _ _ h1]
          rfl
        clear hgf hat q4 q5 q6 q7 q8 r6 r7 r8 r9 hbn hbA HK hf4
        go_wp2_with (first
          | (go_at_call 17; refine (k_alloc HW.out x.pg ba bn bc x.bs HBD.out.1 HBV.out HBD.out.2.2 HBD.out.2.1).mono ?_; rintro e w5 ⟨⟨x1, y1, rfl⟩, hz, ho⟩; have hc9 := HC9.out _ ho; have HZ : Hid (Kz w w5 ⟨p, dp, nb, mb⟩ im im) := hz; clear hz ho HW HC9)
          | (go_at_call 19; refine (k_write HW.out x.id x.pg ba bn bc x.bs HBD.out.1 HBV.out HBD.out.2.2 HBD.out.2.1).mono ?_; rintro e w5 ⟨⟨x1, rfl⟩, hz, ho⟩; have hc9 := HC9.out _ ho; have HZ : Hid (Kz w w5 ⟨p, dp, nb, mb⟩ im im) := hz; clear hz ho HW HC9)
          | (go_at_call 20; refine (k_free HW.out x.id).mono ?_; rintro e w5 ⟨⟨x1, rfl⟩, hz, ho⟩; have hc9 := HC9.out _ ho; have HZ : Hid (Kz w w5 ⟨p, dp, nb, mb⟩ im im) := hz; clear hz ho HW HC9)
          | (go_at_call 21; refine (k_start HW.out x.id).mono ?_; rintro e w5 ⟨⟨x1, rfl⟩, hz, ho⟩; have hc9 := HC9.out _ ho; have HZ : Hid (Kz w w5 ⟨p, dp, nb, mb⟩ im im) := hz; clear hz ho HW HC9)
          | (go_at_call 23; refine (k_abort HW.out).mono ?_; rintro e w5 ⟨rfl, hz, ho⟩; have hc9 := HC9.out _ ho; have HZ : Hid (Kz w w5 ⟨p, dp, nb, mb⟩ im im) := hz.kz; clear hz ho HW HC9)
          | (go_at_call 32; refine (k_fail (k := ⟨p, dp, nb, mb⟩) HW.out _ _ (wrap64_le _)).mono ?_; rintro e w5 ⟨⟨x1, rfl⟩, hz, ho⟩; have hc9 := HC9.out _ ho; have HZ : Hid (Kz w w5 ⟨p, dp, nb, mb⟩ im im) := hz; clear hz ho HW HC9)
          | (go_at_call 15; refine (k_open HD.out).mono ?_; rintro e w9 ⟨p2, rfl, h9⟩; have HOP0 : Hid (Kw w w9 ⟨p2, dp, nb, mb⟩ _ _) := h9; clear h9 HD)
          | (go_at_call 31; refine (k_image HOP0.out).mono ?_; rintro e w10 ⟨rfl, h10, _⟩; have HOP : Hid (Kw w w10 ⟨p2, dp, nb, mb⟩ _ _) := h10; clear h10 HOP0)
          | (go_at_call 31; refine (k_image HW.out).mono ?_; rintro e w5 ⟨rfl, h5, ho⟩; have HI : Hid (Kw w w5 ⟨p, dp, nb, mb⟩ im iu) := h5; have HO5 : Hid (∀ W, D.Off (Pl.X ⟨p, dp, nb, mb⟩) w5 W → W.cell? ⟨wr.heap.size, 9, none⟩ = some (.slice ga gn gc)) := fun W hW => HC9.out _ (ho.trans hW); clear h5 ho HW HC9)
          | (go_at_call 22; refine (k_commit HI.out).mono ?_; rintro e w6 ⟨c, rfl, hc, ho⟩; have hc9 := HO5.out _ ho; have HCM : Hid ((c = 0 ∧ Kw w w6 ⟨p, dp, nb, mb⟩ iu iu) ∨ (c ≠ 0 ∧ Kz w w6 ⟨p, dp, nb, mb⟩ im iu)) := hc; clear hc ho HO5 HI)
          | (go_at_call 34; refine (k_up HOP.out).mono ?_; rintro e w11 ⟨rfl, hw11⟩; obtain rfl := hw11.symm)
          | (go_at_call 34; refine (k_down HZ.out).mono ?_; rintro e w7 ⟨bd, rfl, hw7, hd⟩; obtain rfl := hw7.symm; have HDN : Hid (bd = false → ∃ iv, Kw w _ ⟨p, dp, nb, mb⟩ im iv) := hd; clear hd)
          | (go_at_call 34; have HKU : Hid (Kw w w6 ⟨p, dp, nb, mb⟩ iu iu) := (by rcases HCM.out with ⟨_, q⟩ | ⟨q, _⟩; exact q; exact absurd (by simpa using ‹(c == 0) = true›) q); refine (k_up HKU.out).mono ?_; rintro e w11 ⟨rfl, hw11⟩; obtain rfl := hw11.symm; clear HCM)
          | (go_at_call 34; have HZ2 : Hid (Kz w w6 ⟨p, dp, nb, mb⟩ im iu) := (by rcases HCM.out with ⟨q, _⟩ | ⟨_, q⟩; exact absurd q (by simpa using ‹(c == 0) = false›); exact q); refine (k_down HZ2.out).mono ?_; rintro e w7 ⟨bd, rfl, hw7, hd⟩; obtain rfl := hw7.symm; have HDN : Hid (bd = false → ∃ iv, Kw w _ ⟨p, dp, nb, mb⟩ im iv) := hd; clear hd HCM)
          | (go_at_call 33; refine (k_crash (k := ⟨p, dp, nb, mb⟩) HZ2.out ga gn gc x.d.fs HG.out.2.1 HG.out.2.2.1 HG.out.2.2.2 HG.out.1).mono ?_; rintro e w8 ⟨rfl, hk, _⟩; obtain ⟨im2, him, hkd⟩ : ∃ im2, (im2 = im ∨ im2 = iu) ∧ Kd w w8 dp nb mb im2 := (by rcases hk with hk | hk; exact ⟨im, .inl rfl, hk⟩; exact ⟨iu, .inr rfl, hk⟩); have HIM : Hid (im2 = im ∨ im2 = iu) := him; have HD : Hid (Kd w w8 dp nb mb im2) := hkd; clear hk hkd him HZ2)
          | (go_at_call 33; refine (k_crash (k := ⟨p, dp, nb, mb⟩) HZ.out ga gn gc x.d.fs HG.out.2.1 HG.out.2.2.1 HG.out.2.2.2 HG.out.1).mono ?_; rintro e w8 ⟨rfl, hk, _⟩; have HD : Hid (Kd w w8 dp nb mb im) := hk.elim id id; clear hk HZ)
          | (go_at_call 33; refine (k_crash (k := ⟨p, dp, nb, mb⟩) HW.out.kz ga gn gc x.d.fs HG.out.2.1 HG.out.2.2.1 HG.out.2.2.2 HG.out.1).mono ?_; rintro e w8 ⟨rfl, hk, _⟩; have HD : Hid (Kd w w8 dp nb mb im) := hk.elim id id; clear hk HW HC9)
          | fail)
        all_goals first
          | exact ⟨⟨i + 1, p2, _, _, by omega, rfl, rfl, rfl, by go_num, HOP⟩, by simp [iOf]; omega⟩
          | exact ⟨⟨i + 1, p, _, _, by omega, rfl, rfl, rfl, by go_num, HKU⟩, by simp [iOf]; omega⟩
          | (obtain ⟨iv, hkw⟩ := HDN.out (by simpa using ‹(!bd) = true›); exact ⟨⟨i + 1, p, im, iv, by omega, rfl, rfl, rfl, by go_num, hkw⟩, by simp [iOf]; omega⟩)
          | (exfalso; have hh := ‹(!(strOfNums im2).toList == (strOfNums im).toList) = true ∧ (!(strOfNums im2).toList == (strOfNums iu).toList) = true›; rcases HIM.out with e | e; (rw [e] at hh; simp at hh); (rw [e] at hh; simp at hh))
      · obtain rfl : i = len := by omega
        go_wp2_with (first | (go_at_call 9; refine (HA _).mono ?_; rintro e w4 ⟨rfl, hb4⟩; clear HA) | fail)
        go_ret
        exact ⟨rfl, HK.out.be.trans (hb4.mono HK.out.be.size)⟩
set_option maxRecDepth 100000 in
theorem lifted (os : Os) (started : os.Started) (H : Type) (enc : TypeId × Value → H) :
    ReturnsInHanded {} Tryz.checked os 5 .any (Rows.shadowKeepsSpec.pre6 enc Tryz.prog Tryz.f5 Rows.shadowKeepsRow.domain false) (Rows.shadowKeepsSpec.post enc Tryz.prog Tryz.f5 false true false false) := by
  refine returnsInHanded_of_change (C := Tryz.checked) own started (by kernel_rfl) Tryz.func5
    (ChangeSpec.witness6 (enc := enc) (C := Tryz.checked) false ⟨#[], #[.slice none 0 0], []⟩ 8 (by kernel_rfl) (by kernel_rfl) (by kernel_rfl) (by kernel_rfl)) ?_
  intro W base args ds gs before hval0 hW hcnd _
  have hval : ∀ (j : Nat) t v, Tryz.f5.params[j]? = some t → args[j]? = some v → Value.okWide Tryz.prog W .any base t v := hval0
  have hW' := hW
  obtain ⟨p, q, hA0, hV, rfl, hfz, hnd⟩ := hW
  have hA : DataW.TrodAll enc Tryz.prog W 0 (fun _ => true) true Tryz.f5.params.toList args.toList ds p := hA0
  rw [Tryz.params5] at hA hval
  obtain ⟨v0, vs0, d0, ds0, p0, q0, hargs, rfl, rfl, h0, r0⟩ := trodAll_cons hA
  obtain ⟨rfl, rfl, rfl⟩ := trodAll_nil r0
  obtain rfl : args = #[v0] := by cases args; simp_all
  obtain ⟨rfl, rfl⟩ := trodVars_none hV
  obtain ⟨a0, len0, cap0, rfl⟩ := okWide_slice Tryz.underlying22 (hval 0 22 v0 rfl rfl)
  have k0 := h0
  have lt0 : ∀ x ∈ p0, x.block < W.heap.size := by obtain ⟨m, hm⟩ := k0; exact DataW.trod_lt m _ _ _ hm
  obtain ⟨x0, w0⟩ : ∃ xs, SActs W a0 len0 cap0 xs := by
    obtain ⟨fuel, hf⟩ := h0
    exact open_sacts hf
  clear hA0 hval0
  refine (walk a0 len0 cap0 x0 W w0).mono fun e W' ⟨he, bel⟩ => ?_
  subst he
  exact ⟨_, rfl, _, _, _, [], _, [], hW', trodAll_mk1 (shut_bool Tryz.underlying4 _), (trodAll_cons_mk (Below.trod laidOut (by kernel_rfl) (of_decide_eq_true (by kernel_rfl)) k0 bel lt0) trodAll_mk0), rfl, bel.frame _, fun h => by cases h⟩

theorem over : Rows.shadowKeepsRow.holds Tryz.pinned (OpenSpec.ofChange Rows.shadowKeepsSpec) :=
  OpenClaim.holds_of_wide 5 Tryz.f5 rfl rfl rfl rfl rfl rfl rfl ⟨rfl, rfl, rfl, rfl, rfl⟩ rfl rfl rfl rfl rfl (by kernel_rfl) Tryz.func5 (by kernel_rfl)
    (of_decide_eq_true (by kernel_rfl)) (by unfold Func.isWrapper; first | (rw [if_pos (by decide +kernel)]; kernel_rfl) | (rw [if_neg (by decide +kernel)]; exact ⟨rfl, rfl⟩))
    (fun os started H enc _ => lifted os started H enc)
end Go.Proofs.YtelhlikeefpjnaaGreat.shadowKeeps

namespace Go.Proofs.YtelhlikeefpjnaaGreat
theorem shadowKeeps_holds : Rows.ShadowKeepsSaid := shadowKeeps.over
#print axioms shadowKeeps_holds
end Go.Proofs.YtelhlikeefpjnaaGreat
