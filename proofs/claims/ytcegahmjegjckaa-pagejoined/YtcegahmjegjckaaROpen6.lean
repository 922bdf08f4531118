/- The document's Open of pages. -/
import Derived.Test.YtcegahmjegjckaaPOpen2
import Derived.Test.YtcegahmjegjckaaRSeal
import Derived.Test.YtcegahmjegjckaaGets2
namespace Go.Proofs.Ytcegahmjegjckaa
open Go.RowKit
set_option linter.unusedVariables false
set_option linter.unusedSimpArgs false
theorem wp_app_m {ops : Array Oper} {rest : List Oper} {o : Oper} {a : Act} {Q : Exit → Act → World → Prop} {w : World} (hgd : o.guard = none) (s x : Operand)
    (ho : o.op = .call { callee := .builtin .append, args := #[s, x], argTypes := #[22, 22] }) (base : Nat) (v : Value) (zs ys : List Int) (hs : a.eval s = v) (hown : Own w base v zs)
    (ad : Option Addr) (m cap : Nat) (hm : ys.length = m) (hx : a.eval x = .slice ad m cap) (hv : BV w ad ys) (hn : ad = none → cap = 0) (hlen : zs.length + ys.length ≤ 1000000) (hbase : base ≤ w.heap.size)
    (h : ∀ v' w', Own w' base v' (zs ++ ys) → Below base w w' → wpList Try.prog ops Q rest (a.put o.dst v') w') : wpList Try.prog ops Q (o :: rest) a w := by
  subst hm
  exact wp_app_bv hgd s x ho base v zs ys hs hown ad cap hx hv hn hlen hbase h
theorem val_one (zs : List Int) (h : 1 ≤ zs.length) : val (zs.take 1) = zs.getD 0 0 := by
  obtain ⟨z, l, rfl⟩ : ∃ z l, zs = z :: l := by
    cases zs with
    | nil => simp at h
    | cons z l => exact ⟨z, l, rfl⟩
  have := val_snoc [] z
  rw [List.nil_append, val_nil] at this
  simpa using this
theorem BV.cut {w : World} {b off : Nat} {zs : List Int} (h : BV w (some ⟨b, off, none⟩) zs) (n m : Nat) : BV w (some ⟨b, off + n, none⟩) ((zs.drop n).take m) := by
  refine ⟨(h.1.drop _).take _, ?_⟩
  by_cases h0 : (zs.drop n).take m = []
  · exact .inl h0
  · obtain ⟨_, rfl | ⟨b', off', e, hlt, hc⟩⟩ := h
    · simp at h0
    · simp only [Option.some.injEq, Addr.mk.injEq, and_true] at e
      obtain ⟨rfl, rfl⟩ := e
      refine .inr ⟨b, off + n, rfl, hlt, fun i hi => ?_⟩
      rw [List.length_take, List.length_drop] at hi
      rw [Nat.add_assoc, hc (n + i) (by omega), List.getD_eq_getElem?_getD, List.getD_eq_getElem?_getD, List.getElem?_take, if_pos (by omega), List.getElem?_drop]
set_option maxHeartbeats 800000 in
theorem ropen6_len (a : Option Addr) (n cap : Nat) (w : World) (h : n ≠ 256) (hn : n ≤ 9223372036854775807) :
    Calls Try.prog 12 #[.slice a n cap] w fun e w' => e = .returned (.tuple #[.int .i64 0, .int .i64 0, .slice none 0 0, .int .i64 2]) ∧ w' = w := by
  have hd : ((n : Int) == 256) = false := by simp; omega
  go_enter Try.func12, Try.ntmps12
  go_wp2
  exact bodyPost_ret (v := .tuple #[.int .i64 0, .int .i64 0, .slice none 0 0, .int .i64 2]) (by simp [results, Try.results12, go_sem]) rfl ⟨rfl, rfl⟩
set_option maxHeartbeats 800000 in
theorem ropen6_sum (a : Option Addr) (cap : Nat) (zs : List Int) (w : World) (hb : BV w a zs) (hl : zs.length = 256) (hc : zs.length ≤ cap) (hg : ¬ Good zs) :
    Calls Try.prog 12 #[.slice a 256 cap] w fun e w' => e = .returned (.tuple #[.int .i64 0, .int .i64 0, .slice none 0 0, .int .i64 13]) ∧ Below w.heap.size w w' := by
  have HO := ropen_any a cap zs w hb (by omega) hc
  have e1 : openE zs = 13 := by unfold openE; rw [if_neg (by omega), if_neg hg]
  rw [e1, hl] at HO
  clear hb hl hg e1 hc
  go_enter Try.func12, Try.ntmps12
  go_wp2_with fail
  refine HO.mono ?_
  rintro e w1 ⟨v1, rfl, _, b1⟩
  clear HO
  go_wp2_with fail
  exact bodyPost_ret (v := .tuple #[.int .i64 0, .int .i64 0, .slice none 0 0, .int .i64 13]) (by simp [results, Try.results12, go_sem]) rfl ⟨rfl, b1⟩
set_option maxHeartbeats 1600000 in
theorem ropen6_good (a : Option Addr) (cap : Nat) (zs : List Int) (w : World) (hb : BV w a zs) (hn : a = none → cap = 0) (hl : zs.length = 256) (hc : zs.length ≤ cap) (hcm : cap ≤ 9223372036854775807) (hg : Good zs) :
    Calls Try.prog 12 #[.slice a 256 cap] w fun e w' => OpPost w zs e w' := by
  have hEq : opE zs = if sealL (rdK zs) (rdI zs) (rdB zs) = zs then 0 else 4 := by unfold opE; rw [if_pos hl, if_pos hg]
  obtain ⟨b, off, rfl, hblt, hcells⟩ : ∃ b off, a = some ⟨b, off, none⟩ ∧ b < w.heap.size ∧ ∀ i, i < zs.length → w.cell? ⟨b, off + i, none⟩ = some (.int .u8 (zs.getD i 0)) := by
    obtain ⟨_, h | h⟩ := hb
    · subst h; simp at hl
    · exact h
  have HO := ropen_any (some ⟨b, off, none⟩) cap zs w hb (by omega) hc
  have e1 : openE zs = 0 := by unfold openE; rw [if_neg (by omega), if_pos hg]
  rw [e1, hl] at HO
  have hza := hb.1
  have c0 : ∀ W, Below w.heap.size w W → W.cell? ⟨b, off, none⟩ = some (.int .u8 (rdK zs)) := by
    intro W hW
    have := hcells 0 (by omega)
    rw [Nat.add_zero] at this
    rw [(hW.cell (p := ⟨b, off, none⟩) hblt), this]
    unfold rdK
    rw [val_one zs (by omega)]
  have hk0 : 0 ≤ rdK zs ∧ rdK zs ≤ 255 := by
    unfold rdK
    rw [val_one zs (by omega)]
    exact byte_at hza 0
  have HG1 : Hid (∀ W, Below w.heap.size w W → Calls Try.prog 29 #[.slice (some ⟨b, off + 1, none⟩) 255 (cap - 1), .int .i64 3] W fun e w' => e = .returned (.tuple #[.int .i64 (rdI zs), .int .i64 0]) ∧ w' = W) := by
    intro W hW
    have h1 := (hb.below hW).cut 1 255
    have e2 : (zs.drop 1).take 255 = zs.drop 1 := List.take_of_length_le (by rw [List.length_drop]; omega)
    rw [e2] at h1
    have hl1 : (zs.drop 1).length = 255 := by rw [List.length_drop]; omega
    have := rget_any (some ⟨b, off + 1, none⟩) 255 (cap - 1) (zs.drop 1) 3 W h1 hl1 (by decide)
    have e3 : getV (zs.drop 1) 3 = rdI zs := by unfold getV; rw [if_neg (by omega), if_neg (by omega)]; rfl
    have e4 : getE (zs.drop 1) 3 = 0 := by unfold getE; rw [if_neg (by omega), if_neg (by omega)]
    rw [e3, e4] at this
    exact this
  have HG2 : Hid (∀ W, Below w.heap.size w W → Calls Try.prog 29 #[.slice (some ⟨b, off + 4, none⟩) 252 (cap - 4), .int .i64 2] W fun e w' => e = .returned (.tuple #[.int .i64 (rdL zs), .int .i64 0]) ∧ w' = W) := by
    intro W hW
    have h1 := (hb.below hW).cut 4 252
    have e2 : (zs.drop 4).take 252 = zs.drop 4 := List.take_of_length_le (by rw [List.length_drop]; omega)
    rw [e2] at h1
    have hl1 : (zs.drop 4).length = 252 := by rw [List.length_drop]; omega
    have := rget_any (some ⟨b, off + 4, none⟩) 252 (cap - 4) (zs.drop 4) 2 W h1 hl1 (by decide)
    have e3 : getV (zs.drop 4) 2 = rdL zs := by unfold getV; rw [if_neg (by omega), if_neg (by omega)]; rfl
    have e4 : getE (zs.drop 4) 2 = 0 := by unfold getE; rw [if_neg (by omega), if_neg (by omega)]
    rw [e3, e4] at this
    exact this
  have hmn : (if 246 < rdL zs then (246 : Int) else rdL zs) = (rdN zs : Nat) := (rdN_eq hb.1 (by omega)).symm
  have hrl := rdL_bound hb.1 (by omega)
  have hN := rdN_le zs
  have HBL : Hid ((rdB zs).length = rdN zs) := rdB_len (zs := zs) (by omega)
  have HS : Hid (∀ (a1 : Option Addr) (c1 : Nat) (W : World), BV W a1 (rdB zs) → (a1 = none → c1 = 0) → Calls Try.prog 10 #[.int .i64 (rdK zs), .int .i64 (rdI zs), .slice a1 (rdB zs).length c1] W fun e w' => ∃ v, e = .returned (.tuple #[v, .int .i64 (sealE (rdK zs) (rdI zs) (rdB zs).length)]) ∧ Own w' W.heap.size v (sealL (rdK zs) (rdI zs) (rdB zs)) ∧ Below W.heap.size W w') := fun a1 c1 W q1 q2 => rpseal_any _ _ a1 c1 _ W q1 q2 (by have := HBL.out; omega)
  have HBV6 : Hid (BV w (some ⟨b, off + 6, none⟩) (rdB zs)) := hb.cut 6 (rdN zs)
  have HSA : Hid (AllB (sealL (rdK zs) (rdI zs) (rdB zs))) := sealL_all (rdB_all hza)
  have HBA : Hid (AllB (rdB zs)) := rdB_all hza
  have HZA : Hid (AllB zs) := hza
  have HBV : Hid (BV w (some ⟨b, off, none⟩) zs) := hb
  have HL : Hid (zs.length = 256) := hl
  have HSE : Hid (sealE (rdK zs) (rdI zs) (rdB zs).length ≠ 0 → opE zs = 4) := by
    intro h
    rw [hEq]
    unfold sealL
    rw [if_neg h, if_neg (by intro c; rw [← c] at hl; simp at hl)]
  have HEQ : Hid (opE zs = if sealL (rdK zs) (rdI zs) (rdB zs) = zs then 0 else 4) := hEq
  have hcap : 256 ≤ cap := by omega
  have hw6 : wrap64 (6 + (rdN zs : Int)) = 6 + (rdN zs : Int) := by unfold wrap64; omega
  have hwk : IntKind.i64.wrap (rdK zs) = rdK zs := wrap_sm (by omega) (by omega)
  clear hb hl hg e1 hc hn hza hEq hcells
  generalize hS : sealL (rdK zs) (rdI zs) (rdB zs) = ss at *
  clear hS
  generalize hE : sealE (rdK zs) (rdI zs) (rdB zs).length = se at *
  clear hE
  obtain ⟨rk, hrk⟩ : ∃ rk, rk = rdK zs := ⟨_, rfl⟩
  obtain ⟨ri, hri⟩ : ∃ ri, ri = rdI zs := ⟨_, rfl⟩
  obtain ⟨rl, hrlq⟩ : ∃ rl, rl = rdL zs := ⟨_, rfl⟩
  obtain ⟨rn, hrn⟩ : ∃ rn, rn = rdN zs := ⟨_, rfl⟩
  rw [← hri] at HG1
  rw [← hrk, ← hri] at HS
  rw [← hrk] at c0 hk0 hwk
  rw [← hrlq] at HG2 hrl
  rw [← hrn] at hmn hN HBL hw6
  rw [← hrlq] at hmn
  have HRK : Hid (rk = rdK zs) := hrk
  have HRI : Hid (ri = rdI zs) := hri
  have HC0 : Hid (∀ W, Below w.heap.size w W → W.cell? ⟨b, off, none⟩ = some (.int .u8 rk)) := c0
  clear hrk hri hrlq hrn c0
  go_enter Try.func12, Try.ntmps12
  go_wp2_with fail
  refine HO.mono ?_
  rintro e w1 ⟨v1, rfl, o1, b1⟩
  have B1 : Hid (Below w.heap.size w w1) := b1
  have d0 := HC0.out w1 b1
  clear HO o1 b1 HC0
  go_wp2_with fail
  refine (HG1.out w1 B1.out).mono ?_
  rintro e w2 ⟨rfl, hw2⟩
  obtain rfl := hw2.symm
  clear HG1
  go_wp2_with fail
  refine (HG2.out w1 B1.out).mono ?_
  rintro e w2 ⟨rfl, hw2⟩
  obtain rfl := hw2.symm
  clear HG2 d0
  have O0 : Hid (Own (w1.alloc (.cells #[] 5)) w1.heap.size (.slice (some ⟨w1.heap.size, 0, none⟩) 0 0) []) := own_lit w1 [] (by simp)
  have E0 : Hid (Below w1.heap.size w1 (w1.alloc (.cells #[] 5))) := (Below.refl _ _).alloc (Nat.le_refl _) _
  go_wp2_with (first
    | (at_builtin; refine wp_app_m rfl _ _ rfl w1.heap.size _ [] (rdB zs) rfl O0.out (some ⟨b, off + 6, none⟩) (6 + rn - 6) (cap - 6) (by have := HBL.out; omega) rfl ((HBV6.out.below B1.out).below E0.out) (by intro h; cases h) (by have := HBL.out; simp; omega) E0.out.size ?_; intro v3 w3 o3 b3; rw [List.nil_append] at o3;
        have E3 : Hid (Below w.heap.size w w3) := B1.out.trans ((E0.out.trans b3).mono B1.out.size);
        have O3 : Hid (Own w3 w.heap.size v3 (rdB zs)) := o3.mono B1.out.size;
        obtain ⟨a3, c3, rfl, n3, bv3, _, _⟩ := o3.slice HBA.out;
        have HS1 : Hid (Calls Try.prog 10 #[.int .i64 rk, .int .i64 ri, .slice a3 (rdB zs).length c3] w3 fun e w' => ∃ v, e = .returned (.tuple #[v, .int .i64 se]) ∧ Own w' w3.heap.size v ss ∧ Below w3.heap.size w3 w') := HS.out a3 c3 w3 bv3 n3;
        clear O0 E0 o3 b3 HS bv3)
    | fail)
  refine HS1.out.mono ?_
  rintro e w4 ⟨v4, rfl, o4, b4⟩
  have B4 : Hid (Below w.heap.size w w4) := E3.out.trans (b4.mono E3.out.size)
  have O4 : Hid (Own w4 w.heap.size (.slice a3 (rdB zs).length c3) (rdB zs)) := O3.out.below b4
  have hcv := conv_own o4 HSA.out
  have hcb := conv_bv (cap := cap) (HBV.out.below B4.out) (by intro h; cases h)
  rw [HL.out] at hcb
  have HQ : Hid (((strOfNums ss).toList == (strOfNums zs).toList) = decide (ss = zs)) := str_eq ss zs HSA.out HZA.out
  obtain ⟨a4, c4, rfl, n4, _, _, _⟩ := o4.slice HSA.out
  clear HS1 o4 b4 E3 O3
  by_cases hse : se = 0
  · subst hse
    by_cases hsz : ss = zs
    · have hd := HQ.out
      rw [show decide (ss = zs) = true by simpa using hsz] at hd
      have HF : Hid (opE zs = 0) := by
        have := HEQ.out
        rw [if_pos hsz] at this
        exact this
      generalize strOfNums ss = s1 at *
      generalize strOfNums zs = s2 at *
      clear hsz HEQ HSE HQ
      go_wp2_with fail
      exact bodyPost_ret (v := .tuple #[.int .i64 rk, .int .i64 ri, .slice a3 (rdB zs).length c3, .int .i64 0]) (by simp [results, Try.results12, go_sem]) rfl (by rw [HRK.out, HRI.out]; exact OpPost.good HF.out O4.out B4.out)
    · have hd := HQ.out
      rw [show decide (ss = zs) = false by simpa using hsz] at hd
      have HF : Hid (opE zs = 4) := by
        have := HEQ.out
        rw [if_neg hsz] at this
        exact this
      generalize strOfNums ss = s1 at *
      generalize strOfNums zs = s2 at *
      clear hsz HEQ HSE HQ
      go_wp2_with fail
      exact bodyPost_ret (v := .tuple #[.int .i64 0, .int .i64 0, .slice none 0 0, .int .i64 4]) (by simp [results, Try.results12, go_sem]) rfl (by rw [← HF.out]; exact OpPost.bad (by rw [HF.out]; decide) B4.out)
  · have hd : (se == 0) = false := by simpa using hse
    have HF : Hid (opE zs = 4) := HSE.out hse
    clear HQ HEQ HSE
    go_wp2_with fail
    exact bodyPost_ret (v := .tuple #[.int .i64 0, .int .i64 0, .slice none 0 0, .int .i64 4]) (by simp [results, Try.results12, go_sem]) rfl (by rw [← HF.out]; exact OpPost.bad (by rw [HF.out]; decide) B4.out)
theorem ropen6_any (a : Option Addr) (cap : Nat) (zs : List Int) (w : World) (hb : BV w a zs) (hn : a = none → cap = 0) (hm : zs.length ≤ 900000) (hc : zs.length ≤ cap) (hcm : cap ≤ 9223372036854775807) :
    Calls Try.prog 12 #[.slice a zs.length cap] w fun e w' => OpPost w zs e w' := by
  by_cases hl : zs.length = 256
  · by_cases hg : Good zs
    · have := ropen6_good a cap zs w hb hn hl hc hcm hg
      rw [hl]; exact this
    · have := ropen6_sum a cap zs w hb hl hc hg
      rw [hl]
      refine this.mono ?_
      rintro e w' ⟨rfl, h⟩
      have hE : opE zs = 13 := by unfold opE; rw [if_pos hl, if_neg hg]
      rw [← hE]; exact OpPost.bad (by rw [hE]; decide) h
  · refine (ropen6_len a zs.length cap w hl (by omega)).mono ?_
    rintro e w' ⟨rfl, hw⟩
    obtain rfl := hw.symm
    have hE : opE zs = 2 := by unfold opE; rw [if_neg hl]
    rw [← hE]; exact OpPost.bad (by rw [hE]; decide) (Below.refl _ _)
end Go.Proofs.Ytcegahmjegjckaa
