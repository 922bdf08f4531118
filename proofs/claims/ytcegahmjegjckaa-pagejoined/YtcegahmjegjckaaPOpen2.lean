/- page.Open at any bytes: the contract of a single call. -/
import Derived.Test.YtcegahmjegjckaaPOpen
namespace Go.Proofs.Ytcegahmjegjckaa
open Go.RowKit
set_option linter.unusedVariables false
set_option linter.unusedSimpArgs false
theorem take_drop_take (zs : List Int) (n d m : Nat) (h : d + m ≤ n) : ((zs.take n).drop d).take m = (zs.drop d).take m := by
  rw [List.drop_take, List.take_take, Nat.min_eq_left (by omega)]
theorem rd_take (zs : List Int) : rdK (zs.take 252) = rdK zs ∧ rdI (zs.take 252) = rdI zs ∧ rdB (zs.take 252) = rdB zs := by
  have e1 : rdL (zs.take 252) = rdL zs := by unfold rdL; rw [take_drop_take _ _ _ _ (by decide)]
  have e2 : rdN (zs.take 252) = rdN zs := by unfold rdN; rw [e1]
  refine ⟨?_, ?_, ?_⟩
  · unfold rdK; rw [List.take_take]; rfl
  · unfold rdI; rw [take_drop_take _ _ _ _ (by decide)]
  · unfold rdB
    rw [e2, take_drop_take _ _ _ _ (by have := rdN_le zs; omega)]
theorem op_bad (zs : List Int) (h : opE zs ≠ 0) : opK zs = 0 ∧ opI zs = 0 ∧ opB zs = [] := by
  unfold opK opI opB
  rw [if_neg h, if_neg h, if_neg h]
  exact ⟨rfl, rfl, rfl⟩
theorem op_good (zs : List Int) (h : opE zs = 0) : opK zs = rdK zs ∧ opI zs = rdI zs ∧ opB zs = rdB zs := by
  unfold opK opI opB
  rw [if_pos h, if_pos h, if_pos h]
  exact ⟨rfl, rfl, rfl⟩
def OpPost (w : World) (zs : List Int) (e : Ending) (w' : World) : Prop := ∃ v, e = .returned (.tuple #[.int .i64 (opK zs), .int .i64 (opI zs), v, .int .i64 (opE zs)]) ∧ Own w' w.heap.size v (opB zs) ∧ Below w.heap.size w w'
theorem OpPost.bad {w w' : World} {zs : List Int} (h : opE zs ≠ 0) (hb : Below w.heap.size w w') : OpPost w zs (.returned (.tuple #[.int .i64 0, .int .i64 0, .slice none 0 0, .int .i64 (opE zs)])) w' := by
  obtain ⟨h1, h2, h3⟩ := op_bad zs h
  exact ⟨_, by rw [h1, h2], by rw [h3]; exact Own.nil _ _, hb⟩
theorem OpPost.good {w w' : World} {zs : List Int} {v : Value} (h : opE zs = 0) (ho : Own w' w.heap.size v (rdB zs)) (hb : Below w.heap.size w w') : OpPost w zs (.returned (.tuple #[.int .i64 (rdK zs), .int .i64 (rdI zs), v, .int .i64 0])) w' := by
  obtain ⟨h1, h2, h3⟩ := op_good zs h
  exact ⟨v, by rw [h1, h2, h], by rw [h3]; exact ho, hb⟩
set_option maxHeartbeats 800000 in
theorem popen_len (a : Option Addr) (n cap : Nat) (w : World) (h : n ≠ 256) (hn : n ≤ 9223372036854775807) :
    Calls Try.prog 11 #[.slice a n cap] w fun e w' => e = .returned (.tuple #[.int .i64 0, .int .i64 0, .slice none 0 0, .int .i64 2]) ∧ w' = w := by
  have hd : ((n : Int) == 256) = false := by simp; omega
  go_enter Try.func11, Try.ntmps11
  go_wp2
  exact bodyPost_ret (v := .tuple #[.int .i64 0, .int .i64 0, .slice none 0 0, .int .i64 2]) (by simp [results, Try.results11, go_sem]) rfl ⟨rfl, rfl⟩
set_option maxHeartbeats 800000 in
theorem popen_sum (a : Option Addr) (cap : Nat) (zs : List Int) (w : World) (hb : BV w a zs) (hl : zs.length = 256) (hc : zs.length ≤ cap) (hg : ¬ Good zs) :
    Calls Try.prog 11 #[.slice a 256 cap] w fun e w' => e = .returned (.tuple #[.int .i64 0, .int .i64 0, .slice none 0 0, .int .i64 13]) ∧ Below w.heap.size w w' := by
  have HO := open_any a cap zs w hb (by omega) hc
  have e1 : openE zs = 13 := by unfold openE; rw [if_neg (by omega), if_neg hg]
  rw [e1, hl] at HO
  clear hb hl hg e1 hc
  go_enter Try.func11, Try.ntmps11
  go_wp2_with fail
  refine HO.mono ?_
  rintro e w1 ⟨v1, rfl, _, b1⟩
  clear HO
  go_wp2_with fail
  exact bodyPost_ret (v := .tuple #[.int .i64 0, .int .i64 0, .slice none 0 0, .int .i64 13]) (by simp [results, Try.results11, go_sem]) rfl ⟨rfl, b1⟩
set_option maxHeartbeats 1600000 in
theorem popen_good (a : Option Addr) (cap : Nat) (zs : List Int) (w : World) (hb : BV w a zs) (hn : a = none → cap = 0) (hl : zs.length = 256) (hc : zs.length ≤ cap) (hg : Good zs) :
    Calls Try.prog 11 #[.slice a 256 cap] w fun e w' => OpPost w zs e w' := by
  have hEq : opE zs = if sealL (rdK zs) (rdI zs) (rdB zs) = zs then 0 else 4 := by unfold opE; rw [if_pos hl, if_pos hg]
  have HO := open_any a cap zs w hb (by omega) hc
  have e1 : openE zs = 0 := by unfold openE; rw [if_neg (by omega), if_pos hg]
  have e2 : openL zs = zs.take 252 := by unfold openL; rw [if_neg (by omega), if_pos hg, hl]
  have hl2 : (zs.take 252).length = 252 := by rw [List.length_take]; omega
  rw [e1, e2, hl] at HO
  obtain ⟨r1, r2, r3⟩ := rd_take zs
  have HR : Hid (∀ (a1 : Option Addr) (c1 : Nat) (W : World), BV W a1 (zs.take 252) → (a1 = none → c1 = 0) → (zs.take 252).length ≤ c1 → c1 ≤ maxLen → Calls Try.prog 26 #[.slice a1 252 c1] W fun e w' => ∃ v, e = .returned (.tuple #[.int .i64 (rdK zs), .int .i64 (rdI zs), v]) ∧ Own w' W.heap.size v (rdB zs) ∧ Below W.heap.size W w') := by
    intro a1 c1 W q1 q2 q3 q4
    have := pread_any a1 c1 (zs.take 252) W q1 hl2 q2 q3 q4
    rw [r1, r2, r3, hl2] at this
    exact this
  have hza := hb.1
  have hBL := rdB_len (zs := zs) (by omega)
  have hNle := rdN_le zs
  have HS : Hid (∀ (a1 : Option Addr) (c1 : Nat) (W : World), BV W a1 (rdB zs) → (a1 = none → c1 = 0) → Calls Try.prog 9 #[.int .i64 (rdK zs), .int .i64 (rdI zs), .slice a1 (rdB zs).length c1] W fun e w' => ∃ v, e = .returned (.tuple #[v, .int .i64 (sealE (rdK zs) (rdI zs) (rdB zs).length)]) ∧ Own w' W.heap.size v (sealL (rdK zs) (rdI zs) (rdB zs)) ∧ Below W.heap.size W w') := fun a1 c1 W q1 q2 => pseal_any _ _ a1 c1 _ W q1 q2 (by omega)
  have HSA : Hid (AllB (sealL (rdK zs) (rdI zs) (rdB zs))) := sealL_all (rdB_all hza)
  have HBA : Hid (AllB (rdB zs)) := rdB_all hza
  have HTA : Hid (AllB (zs.take 252)) := hza.take _
  have HBV : Hid (BV w a zs) := hb
  have HN : Hid (a = none → cap = 0) := hn
  have HL : Hid (zs.length = 256) := hl
  have HL2 : Hid ((zs.take 252).length = 252) := hl2
  have HSE : Hid (sealE (rdK zs) (rdI zs) (rdB zs).length ≠ 0 → opE zs = 4) := by
    intro h
    rw [hEq]
    unfold sealL
    rw [if_neg h, if_neg (by intro c; rw [← c] at hl; simp at hl)]
  have HEQ : Hid (opE zs = if sealL (rdK zs) (rdI zs) (rdB zs) = zs then 0 else 4) := hEq
  clear hb hl hg e1 e2 hc hn hl2 r1 r2 r3 hza hBL hNle hEq
  generalize hS : sealL (rdK zs) (rdI zs) (rdB zs) = ss at *
  clear hS
  generalize hE : sealE (rdK zs) (rdI zs) (rdB zs).length = se at *
  clear hE
  obtain ⟨rk, hrk⟩ : ∃ rk, rk = rdK zs := ⟨_, rfl⟩
  obtain ⟨ri, hri⟩ : ∃ ri, ri = rdI zs := ⟨_, rfl⟩
  rw [← hrk, ← hri] at HR HS
  have HRK : Hid (rk = rdK zs) := hrk
  have HRI : Hid (ri = rdI zs) := hri
  clear hrk hri
  go_enter Try.func11, Try.ntmps11
  go_wp2_with fail
  refine HO.mono ?_
  rintro e w1 ⟨v1, rfl, o1, b1⟩
  obtain ⟨a1, c1, rfl, n1, bv1, q3, q4⟩ := o1.slice HTA.out
  rw [HL2.out] at q3
  rw [HL2.out]
  have B1 : Hid (Below w.heap.size w w1) := b1
  have HR1 : Hid (Calls Try.prog 26 #[.slice a1 252 c1] w1 fun e w' => ∃ v, e = .returned (.tuple #[.int .i64 rk, .int .i64 ri, v]) ∧ Own w' w1.heap.size v (rdB zs) ∧ Below w1.heap.size w1 w') := HR.out a1 c1 w1 bv1 n1 (by rw [HL2.out]; exact q3) q4
  clear HO o1 b1 bv1 HR q3 q4
  go_wp2_with fail
  refine HR1.out.mono ?_
  rintro e w2 ⟨v2, rfl, o2, b2⟩
  have B2 : Hid (Below w.heap.size w w2) := B1.out.trans (b2.mono B1.out.size)
  have O2 : Hid (Own w2 w.heap.size v2 (rdB zs)) := o2.mono B1.out.size
  obtain ⟨a2, c2, rfl, n2, bv2, _, _⟩ := o2.slice HBA.out
  have HS1 : Hid (Calls Try.prog 9 #[.int .i64 rk, .int .i64 ri, .slice a2 (rdB zs).length c2] w2 fun e w' => ∃ v, e = .returned (.tuple #[v, .int .i64 se]) ∧ Own w' w2.heap.size v ss ∧ Below w2.heap.size w2 w') := HS.out a2 c2 w2 bv2 n2
  clear HR1 o2 b2 bv2 HS B1
  go_wp2_with fail
  refine HS1.out.mono ?_
  rintro e w3 ⟨v3, rfl, o3, b3⟩
  have B3 : Hid (Below w.heap.size w w3) := B2.out.trans (b3.mono B2.out.size)
  have O3 : Hid (Own w3 w.heap.size (.slice a2 (rdB zs).length c2) (rdB zs)) := O2.out.below b3
  obtain ⟨a3, c3, rfl, n3, bv3, _, _⟩ := o3.slice HSA.out
  have HQ : Hid (Calls Try.prog 27 #[.slice a3 ss.length c3, .slice a 256 cap] w3 fun e w' => e = .returned (.bool (decide (ss = zs))) ∧ Below w3.heap.size w3 w') := by
    have := beq_any a3 a c3 cap ss zs w3 bv3 (HBV.out.below B3.out) n3 HN.out
    rw [HL.out] at this
    exact this
  clear HS1 o3 b3 bv3 B2 O2
  by_cases hse : se = 0
  · subst hse
    by_cases hsz : ss = zs
    · have hd : decide (ss = zs) = true := by simpa using hsz
      rw [hd] at HQ
      have HF : Hid (opE zs = 0) := by
        have := HEQ.out
        rw [if_pos hsz] at this
        exact this
      clear hsz hd HEQ HSE
      go_wp2_with (first | (go_at_call 27; refine HQ.out.mono ?_; rintro e w4 ⟨rfl, b4⟩; clear HQ) | fail)
      exact bodyPost_ret (v := .tuple #[.int .i64 rk, .int .i64 ri, .slice a2 (rdB zs).length c2, .int .i64 0]) (by simp [results, Try.results11, go_sem]) rfl (by rw [HRK.out, HRI.out]; exact OpPost.good HF.out (O3.out.below b4) (B3.out.trans (b4.mono B3.out.size)))
    · have hd : decide (ss = zs) = false := by simpa using hsz
      rw [hd] at HQ
      have HF : Hid (opE zs = 4) := by
        have := HEQ.out
        rw [if_neg hsz] at this
        exact this
      clear hsz hd HEQ HSE
      go_wp2_with (first | (go_at_call 27; refine HQ.out.mono ?_; rintro e w4 ⟨rfl, b4⟩; clear HQ) | fail)
      exact bodyPost_ret (v := .tuple #[.int .i64 0, .int .i64 0, .slice none 0 0, .int .i64 4]) (by simp [results, Try.results11, go_sem]) rfl (by rw [← HF.out]; exact OpPost.bad (by rw [HF.out]; decide) (B3.out.trans (b4.mono B3.out.size)))
  · have hd : (se == 0) = false := by simpa using hse
    have HF : Hid (opE zs = 4) := HSE.out hse
    clear HQ HEQ HSE
    go_wp2_with fail
    exact bodyPost_ret (v := .tuple #[.int .i64 0, .int .i64 0, .slice none 0 0, .int .i64 4]) (by simp [results, Try.results11, go_sem]) rfl (by rw [← HF.out]; exact OpPost.bad (by rw [HF.out]; decide) B3.out)
theorem popen_any (a : Option Addr) (cap : Nat) (zs : List Int) (w : World) (hb : BV w a zs) (hn : a = none → cap = 0) (hm : zs.length ≤ 900000) (hc : zs.length ≤ cap) :
    Calls Try.prog 11 #[.slice a zs.length cap] w fun e w' => OpPost w zs e w' := by
  by_cases hl : zs.length = 256
  · by_cases hg : Good zs
    · have := popen_good a cap zs w hb hn hl hc hg
      rw [hl]; exact this
    · have := popen_sum a cap zs w hb hl hc hg
      rw [hl]
      refine this.mono ?_
      rintro e w' ⟨rfl, h⟩
      have hE : opE zs = 13 := by unfold opE; rw [if_pos hl, if_neg hg]
      rw [← hE]; exact OpPost.bad (by rw [hE]; decide) h
  · refine (popen_len a zs.length cap w hl (by omega)).mono ?_
    rintro e w' ⟨rfl, hw⟩
    obtain rfl := hw.symm
    have hE : opE zs = 2 := by unfold opE; rw [if_neg hl]
    rw [← hE]; exact OpPost.bad (by rw [hE]; decide) (Below.refl _ _)
end Go.Proofs.Ytcegahmjegjckaa
