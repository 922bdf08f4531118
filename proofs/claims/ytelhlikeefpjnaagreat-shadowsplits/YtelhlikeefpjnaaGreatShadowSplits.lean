/- For every list of acts the call ShadowSplits of the statements returns true and its argument reads as it did: no condition. -/
import Derived.Test.YtelhlikeefpjnaaGreatM27
import Derived.Test.YtelhlikeefpjnaaGreatRows
import Derived.WalkKit
import Derived.ProofKit
import Derived.OpenShut
import Derived.ShutString
import Derived.ChangeOld
import Derived.Below
namespace Go.Proofs.YtelhlikeefpjnaaGreat.shadowSplits
open Go.ChangeShapes Go.WideShapes Go.ChangeAt Go.RowKit Go.Maps
open Go.ChangeMaps (open_string shut_string)
set_option linter.unusedVariables false
set_option linter.unusedSimpArgs false
set_option maxRecDepth 20000

theorem own : ownKnob Tryz.prog.godebug = none := by kernel_rfl
theorem laidOut : laidOutB Tryz.prog = true := by kernel_rfl
theorem wrap64_le (z : Int) : wrap64 z ≤ 9223372036854775807 := by unfold wrap64; omega
set_option maxHeartbeats 6400000 in
theorem walk (al : Option Addr) (len cap : Nat) (xs : List SAct) (w : World) (h0 : SActs w al len cap xs) :
    Calls Tryz.prog 6 #[.slice al len cap] w fun e w' => e = .returned (.bool true) ∧ Below w.heap.size w w' := by
  have H8 := few_any al len cap 40 xs w h0 (by decide)
  have HA := awake_any
  have H30 := D.new_any 40 w
  have HAC : Hid (SActs w al len cap xs) := h0
  clear h0
  go_enter Tryz.func6, Tryz.ntmps6
  go_wp2_with fail
  refine H8.mono ?_
  rintro e w1 ⟨bb, rfl, hbb, hw⟩
  obtain rfl := hw.symm
  clear H8
  cases bb
  · clear H30
    go_wp2_with (first | (go_at_call 9; refine (HA _).mono ?_; rintro e w2 ⟨rfl, hb2⟩; clear HA) | fail)
    go_ret
    exact ⟨rfl, hb2⟩
  · have HFW : Hid ((len : Int) ≤ 40 ∧ ∀ i, i < len → (xs.getD i default).bs.length ≤ 400) := hbb rfl
    clear hbb
    have hl40 : (len : Int) ≤ 40 := HFW.out.1
    go_wp2_with (first
      | (go_at_call 30; refine H30.mono ?_; rintro e w1 ⟨dp, nb, mb, rfl, h1⟩; have M1 : Hid _ := h1; clear h1 H30)
      | (go_at_call 16; refine (qs_format (w0 := w) M1.out.1 (fun x hx => by simp at hx; rcases hx with rfl | rfl | rfl; exact M1.out.2.1; exact M1.out.2.2.1; exact M1.out.2.2.2.1) M1.out.2.2.2.2).mono ?_; rintro e w2 ⟨p, rfl, h2⟩; have M2 : Hid (Kq w w2 ⟨p, dp, nb, mb⟩ [0, 0] [0, 0]) := h2; clear h2 M1)
      | (go_at_call 31; refine (q_image M2.out).mono ?_; rintro e w3 ⟨rfl, h3⟩; have M3 : Hid (Kq w w3 ⟨p, dp, nb, mb⟩ [0, 0] [0, 0]) := h3; clear h3 M2)
      | fail)
    go_loopw [4, 5, 6, 7] (fun sv ev lv iv wr => ∃ (i p : Nat) (im iu : List Int), i ≤ len ∧ sv = .pointer (some ⟨p, 0, none⟩) ∧ ev = .int .i64 0 ∧ lv = .string (strOfNums im) ∧ iv = .int .i64 i ∧ Hid (Kq w wr ⟨p, dp, nb, mb⟩ im iu)) (fun _ _ _ iv _ => len - (iOf iv).toNat)
    case atStart => exact ⟨0, p, [0, 0], [0, 0], Nat.zero_le _, rfl, rfl, rfl, rfl, M3⟩
    case round =>
      clear M3
      obtain ⟨i, p, im, iu, hi, rfl, rfl, rfl, rfl, HK⟩ := hrel
      by_cases hlt : i < len
      · have hdk : decide ((i : Int) < (len : Int)) = true := by simp; omega
        obtain ⟨b, off, rfl, hbl, hat⟩ : ∃ b off, al = some ⟨b, off, none⟩ ∧ b < w.heap.size ∧ SAt w b (off + i * 10) (xs.getD i default) := by
          obtain ⟨hl, hc, hlm, hn, hx⟩ := HAC.out
          rcases hx with e | ⟨b, off, e, hbl, hx⟩
          · subst e; simp at hl; omega
          · exact ⟨b, off, e, hbl, hx i hlt⟩
        have hf4 := HFW.out.2 i hlt
        generalize xs.getD i default = x at *
        have hat' := hat.below hbl HK.out.be
        obtain ⟨⟨fk0, fk1, fn0, fn1, fp0, fp1⟩, ⟨ba, bn, bc, c0, c1, c2, c3, q4, q5, q6, q7, q8⟩, ⟨gk0, gk1, gn0, gn1, gc0, gc1, gt0, gt1⟩, ga, gn, gc, e0, e1, e2, e3, e4, e5, r6, r7, r8, r9⟩ := hat'
        have e1 : wr.cell? ⟨b, off + i * 10 + 5, none⟩ = some (.int .i64 x.d.n) := e1
        have e2 : wr.cell? ⟨b, off + i * 10 + 6, none⟩ = some (.int .u8 x.d.c) := e2
        have e3 : wr.cell? ⟨b, off + i * 10 + 7, none⟩ = some (.int .u8 x.d.cut) := e3
        have e4 : wr.cell? ⟨b, off + i * 10 + 8, none⟩ = some (.bool x.d.d) := e4
        have e5 : wr.cell? ⟨b, off + i * 10 + 9, none⟩ = some (.slice ga gn gc) := e5
        have hbn : bn ≤ 9223372036854775807 := by omega
        have HBD : Hid (x.bs.length = bn ∧ bn ≤ 9223372036854775807 ∧ (ba = none → bc = 0)) := ⟨q4, hbn, q7⟩
        have hbA : Below wr.heap.size wr (wr.alloc (.cells #[.int .u8 x.kd, .int .i64 x.id, .int .i64 x.pg, .slice ba bn bc, .int .u8 x.d.kd, .int .i64 x.d.n, .int .u8 x.d.c, .int .u8 x.d.cut, .bool x.d.d, .slice ga gn gc] 33)) := (Below.refl _ _).alloc (Nat.le_refl _) _
        have HW : Hid (Kq w _ ⟨p, dp, nb, mb⟩ im iu) := HK.out.below hbA
        have HBV : Hid (BV _ ba x.bs) := q8.below hbA
        clear hat q4 q5 q6 q7 q8 r6 r7 r8 r9 hbn hbA HK hf4
        go_wp2_with (first
          | (go_at_call 17; refine (qs_alloc HW.out x.pg ba bn bc x.bs HBD.out.1 HBV.out HBD.out.2.2 HBD.out.2.1).mono ?_; rintro e w5 ⟨⟨x1, y1, rfl⟩, iu2, hz⟩; have HS : Hid (Kq w w5 ⟨p, dp, nb, mb⟩ im iu2) := hz; clear hz HW)
          | (go_at_call 19; refine (qs_write HW.out x.id x.pg ba bn bc x.bs HBD.out.1 HBV.out HBD.out.2.2 HBD.out.2.1).mono ?_; rintro e w5 ⟨⟨x1, rfl⟩, iu2, hz⟩; have HS : Hid (Kq w w5 ⟨p, dp, nb, mb⟩ im iu2) := hz; clear hz HW)
          | (go_at_call 20; refine (qs_free HW.out x.id).mono ?_; rintro e w5 ⟨⟨x1, rfl⟩, iu2, hz⟩; have HS : Hid (Kq w w5 ⟨p, dp, nb, mb⟩ im iu2) := hz; clear hz HW)
          | (go_at_call 21; refine (qs_start HW.out x.id).mono ?_; rintro e w5 ⟨⟨x1, rfl⟩, iu2, hz⟩; have HS : Hid (Kq w w5 ⟨p, dp, nb, mb⟩ im iu2) := hz; clear hz HW)
          | (go_at_call 23; refine (qs_abort HW.out).mono ?_; rintro e w5 ⟨rfl, hz⟩; have HAB : Hid (Kq w w5 ⟨p, dp, nb, mb⟩ im im) := hz; clear hz HW)
          | (go_at_call 22; refine (qs_commit HW.out).mono ?_; rintro e w6 ⟨c, rfl, hc⟩; have HCM : Hid ((c = 0 ∧ Kq w w6 ⟨p, dp, nb, mb⟩ iu iu) ∨ (c ≠ 0 ∧ ∃ iu2, Kq w w6 ⟨p, dp, nb, mb⟩ im iu2)) := hc; clear hc HW)
          | (go_at_call 15; refine (qs_open (k := ⟨p, dp, nb, mb⟩) HW.out).mono ?_; rintro e w9 ⟨p2, rfl, h9⟩; have HOP0 : Hid (Kq w w9 ⟨p2, dp, nb, mb⟩ im im) := h9; clear h9 HW)
          | (go_at_call 31; refine (q_image HOP0.out).mono ?_; rintro e w10 ⟨rfl, h10⟩; have HOP : Hid (Kq w w10 ⟨p2, dp, nb, mb⟩ im im) := h10; clear h10 HOP0)
          | (go_at_call 31; refine (q_image HAB.out).mono ?_; rintro e w10 ⟨rfl, h10⟩; have HS : Hid (Kq w w10 ⟨p, dp, nb, mb⟩ im im) := h10; clear h10 HAB)
          | (go_at_call 31; have HKU : Hid (Kq w w6 ⟨p, dp, nb, mb⟩ iu iu) := (by rcases HCM.out with ⟨_, q⟩ | ⟨q, _⟩; exact q; exact absurd (by simpa using ‹(c == 0) = true›) q); refine (q_image HKU.out).mono ?_; rintro e w10 ⟨rfl, h10⟩; have HS : Hid (Kq w w10 ⟨p, dp, nb, mb⟩ iu iu) := h10; clear h10 HCM HKU)
          | (go_at_call 28; refine (qs_dirty HOP.out).mono ?_; rintro e w7 ⟨bd, rfl, hw7, hd⟩; obtain rfl := hw7.symm; have HDN : Hid (bd = false → _) := hd; clear hd)
          | (go_at_call 28; refine (qs_dirty HS.out).mono ?_; rintro e w7 ⟨bd, rfl, hw7, hd⟩; obtain rfl := hw7.symm; have HDN : Hid (bd = false → _) := hd; clear hd)
          | (go_at_call 28; obtain ⟨iu2, hz⟩ : ∃ iu2, Kq w w6 ⟨p, dp, nb, mb⟩ im iu2 := (by rcases HCM.out with ⟨q, _⟩ | ⟨_, q⟩; exact absurd q (by simpa using ‹(c == 0) = false›); exact q); have HS : Hid (Kq w w6 ⟨p, dp, nb, mb⟩ im iu2) := hz; refine (qs_dirty HS.out).mono ?_; rintro e w7 ⟨bd, rfl, hw7, hd⟩; obtain rfl := hw7.symm; have HDN : Hid (bd = false → _) := hd; clear hd HCM hz)
          | fail)
        all_goals first
          | exact ⟨⟨i + 1, p2, _, _, by omega, rfl, rfl, rfl, by go_num, HOP⟩, by simp [iOf]; omega⟩
          | exact ⟨⟨i + 1, p, _, _, by omega, rfl, rfl, rfl, by go_num, HS⟩, by simp [iOf]; omega⟩
          | skip
        all_goals
          obtain ⟨ids, T, hkn, hcase⟩ := HDN.out ‹bd = false›
          refine (qs_ids hkn).mono ?_
          rintro e w12 ⟨ia, icap, rfl, hkn2, hlast⟩
          have HKN : Hid (Kn w w12 _ _ _ ids T) := hkn2
          clear hkn2 hkn HDN
          rcases hcase with ⟨rfl, rfl⟩ | ⟨l, n, rfl, hn, rfl⟩
          · clear hlast
            go_wp2_with (first
              | (go_at_call 26; refine (qs_used HKN.out).mono ?_; rintro e w13 ⟨rfl, h13⟩; have HQF : Hid (Kq w w13 _ _ _) := h13; clear h13 HKN)
              | fail)
            all_goals first
              | exact ⟨⟨i + 1, _, _, _, by omega, rfl, rfl, rfl, by go_num, HQF⟩, by simp [iOf]; omega⟩
              | skip
          · obtain ⟨g, rfl, hcell, hgl⟩ := hlast l n rfl
            have hl3 := HKN.out.2.1
            rw [List.length_append, List.length_singleton] at hl3 hcell ⊢
            rw [Nat.add_sub_cancel] at hcell
            generalize hml : l.length = m at *
            have HML : Hid (l.length = m) := hml
            clear hml
            clear hlast
            go_wp2_with (first
              | (go_at_call 26; refine (qs_used HKN.out).mono ?_; rintro e w13 ⟨rfl, h13⟩; have HQF : Hid (Kq w w13 _ _ _) := h13; clear h13 HKN)
              | fail)
            all_goals first
              | exact ⟨⟨i + 1, _, _, _, by omega, rfl, rfl, rfl, by go_num, HQF⟩, by simp [iOf]; omega⟩
              | (exfalso; have hh := ‹((3 : Int) + ((l.length : Int) + 1) + ((n : Int) + 122) / 123 != 2 + ((m : Int) + 1) + ((n : Int) + 122) / 123 + 1) = true›; rw [HML.out] at hh; simp at hh; omega)
      · obtain rfl : i = len := by omega
        go_wp2_with (first | (go_at_call 9; refine (HA _).mono ?_; rintro e w4 ⟨rfl, hb4⟩; clear HA) | fail)
        go_ret
        exact ⟨rfl, HK.out.be.trans (hb4.mono HK.out.be.size)⟩
set_option maxRecDepth 100000 in
theorem lifted (os : Os) (started : os.Started) (H : Type) (enc : TypeId × Value → H) :
    ReturnsInHanded {} Tryz.checked os 6 .any (Rows.shadowSplitsSpec.pre6 enc Tryz.prog Tryz.f6 Rows.shadowSplitsRow.domain false) (Rows.shadowSplitsSpec.post enc Tryz.prog Tryz.f6 false true false false) := by
  refine returnsInHanded_of_change (C := Tryz.checked) own started (by kernel_rfl) Tryz.func6
    (ChangeSpec.witness6 (enc := enc) (C := Tryz.checked) false ⟨#[], #[.slice none 0 0], []⟩ 8 (by kernel_rfl) (by kernel_rfl) (by kernel_rfl) (by kernel_rfl)) ?_
  intro W base args ds gs before hval0 hW hcnd _
  have hval : ∀ (j : Nat) t v, Tryz.f6.params[j]? = some t → args[j]? = some v → Value.okWide Tryz.prog W .any base t v := hval0
  have hW' := hW
  obtain ⟨p, q, hA0, hV, rfl, hfz, hnd⟩ := hW
  have hA : DataW.TrodAll enc Tryz.prog W 0 (fun _ => true) true Tryz.f6.params.toList args.toList ds p := hA0
  rw [Tryz.params6] at hA hval
  obtain ⟨v0, vs0, d0, ds0, p0, q0, hargs, rfl, rfl, h0, r0⟩ := trodAll_cons hA
  obtain ⟨rfl, rfl, rfl⟩ := trodAll_nil r0
  obtain rfl : args = #[v0] := by cases args; simp_all
  obtain ⟨rfl, rfl⟩ := trodVars_none hV
  obtain ⟨a0, len0, cap0, rfl⟩ := okWide_slice Tryz.underlying22 (hval 0 22 v0 rfl rfl)
  have k0 := h0
  have lt0 : ∀ x ∈ p0, x.block < W.heap.size := by obtain ⟨m, hm⟩ := k0; exact DataW.trod_lt m _ _ _ hm
  obtain ⟨x0, w0⟩ : ∃ xs, SActs W a0 len0 cap0 xs := by
    obtain ⟨fuel, hf⟩ := h0
    exact open_sacts hf
  clear hA0 hval0
  refine (walk a0 len0 cap0 x0 W w0).mono fun e W' ⟨he, bel⟩ => ?_
  subst he
  exact ⟨_, rfl, _, _, _, [], _, [], hW', trodAll_mk1 (shut_bool Tryz.underlying4 _), (trodAll_cons_mk (Below.trod laidOut (by kernel_rfl) (of_decide_eq_true (by kernel_rfl)) k0 bel lt0) trodAll_mk0), rfl, bel.frame _, fun h => by cases h⟩

theorem over : Rows.shadowSplitsRow.holds Tryz.pinned (OpenSpec.ofChange Rows.shadowSplitsSpec) :=
  OpenClaim.holds_of_wide 6 Tryz.f6 rfl rfl rfl rfl rfl rfl rfl ⟨rfl, rfl, rfl, rfl, rfl⟩ rfl rfl rfl rfl rfl (by kernel_rfl) Tryz.func6 (by kernel_rfl)
    (of_decide_eq_true (by kernel_rfl)) (by unfold Func.isWrapper; first | (rw [if_pos (by decide +kernel)]; kernel_rfl) | (rw [if_neg (by decide +kernel)]; exact ⟨rfl, rfl⟩))
    (fun os started H enc _ => lifted os started H enc)
end Go.Proofs.YtelhlikeefpjnaaGreat.shadowSplits

namespace Go.Proofs.YtelhlikeefpjnaaGreat
theorem shadowSplits_holds : Rows.ShadowSplitsSaid := shadowSplits.over
#print axioms shadowSplits_holds
end Go.Proofs.YtelhlikeefpjnaaGreat
