/- Put of the program and of the document. -/
import Derived.Test.YtnnndkpmlpbpcaaRc
import Derived.Test.YtnnndkpmlpbpcaaTexts
namespace Go.Proofs.Ytnnndkpmlpbpcaa
open Go.RowKit
set_option linter.unusedVariables false
set_option maxRecDepth 20000

def bodyS (ps : List PR) : List Int := ps.flatMap fun p => textL p.1 ++ textL p.2
def headS (d n m : Int) : List Int := [d, n / 256, n % 256, m]
def putS (d n : Int) (ps : List PR) : List Int := headS d n ps.length ++ bodyS ps
def putB (d n : Int) (ps : List PR) : List Int := if checkE d n ps = 0 then putS d n ps else []
theorem bodyS_append (ps qs : List PR) : bodyS (ps ++ qs) = bodyS ps ++ bodyS qs := by simp [bodyS]
theorem bodyS_cons (p : PR) (ps : List PR) : bodyS (p :: ps) = textL p.1 ++ textL p.2 ++ bodyS ps := by simp [bodyS]
theorem bodyS_take (ps : List PR) (k : Nat) (h : k < ps.length) : bodyS (ps.take (k + 1)) = bodyS (ps.take k) ++ textL (ps.getD k default).1 ++ textL (ps.getD k default).2 := by
  rw [take_snocP ps k h, bodyS_append]; simp [bodyS]
theorem szN_take_le (ps : List PR) (k : Nat) : szN (ps.take k) ≤ szN ps := by
  conv => rhs; rw [← List.take_append_drop k ps, szN_append]
  omega
theorem textL_len (s : ByteArray) : (textL s).length ≤ 1 + s.size := by
  unfold textL
  split
  · simp
  · simp [bytesOf_length]; omega
theorem bodyS_le (ps : List PR) : (bodyS ps).length ≤ szN ps := by
  induction ps with
  | nil => simp [bodyS, szN]
  | cons p ps ih =>
    rw [bodyS_cons, szN_cons]
    have h1 := textL_len p.1
    have h2 := textL_len p.2
    simp only [List.length_append]
    omega
theorem bodyS_all (ps : List PR) : AllB (bodyS ps) := by
  intro z hz
  obtain ⟨p, _, h⟩ := List.mem_flatMap.1 hz
  rcases List.mem_append.1 h with h | h
  · exact textL_all _ z h
  · exact textL_all _ z h
structure Fine (d n : Int) (ps : List PR) : Prop where
  d0 : 0 ≤ d
  d1 : d ≤ 10
  n0 : 0 ≤ n
  n1 : n ≤ 3000
  len : ps.any longP = false
  size : sizeS ps ≤ 246
  up : risesB ps = true
theorem fine_of {d n : Int} {ps : List PR} (h : checkE d n ps = 0) : Fine d n ps := by
  unfold checkE at h
  split at h
  · cases h
  rename_i h1
  split at h
  · cases h
  rename_i h2
  split at h
  · cases h
  rename_i h3
  split at h
  · rename_i h4
    exact ⟨by omega, by omega, by omega, by omega, by simpa using h2, by omega, h4⟩
  · cases h
theorem Fine.check {d n : Int} {ps : List PR} (h : Fine d n ps) : checkE d n ps = 0 := checkE_ok ⟨⟨h.d0, h.d1⟩, h.n0, h.n1⟩ h.len (by have := h.size; omega) h.up
theorem szN_two (ps : List PR) : 2 * ps.length ≤ szN ps := by
  induction ps with
  | nil => simp [szN]
  | cons p ps ih => rw [szN_cons, List.length_cons]; omega
theorem Fine.few {d n : Int} {ps : List PR} (h : Fine d n ps) : ps.length ≤ 121 := by
  have h1 := szN_two ps
  have h2 := h.size
  unfold sizeS at h2
  omega
theorem headS_all {d n m : Int} (h0 : 0 ≤ d) (h1 : d ≤ 10) (h2 : 0 ≤ n) (h3 : n ≤ 3000) (h4 : 0 ≤ m) (h5 : m ≤ 255) : AllB (headS d n m) := by
  intro z hz
  simp only [headS, List.mem_cons, List.not_mem_nil, or_false] at hz
  rcases hz with rfl | rfl | rfl | rfl <;> omega
theorem Fine.all {d n : Int} {ps : List PR} (h : Fine d n ps) : AllB (putS d n ps) := AllB.append (headS_all h.d0 h.d1 h.n0 h.n1 (by omega) (by have := h.few; omega)) (bodyS_all ps)
theorem putB_all (d n : Int) (ps : List PR) : AllB (putB d n ps) := by
  unfold putB
  split
  · rename_i h
    exact (fine_of h).all
  · exact AllB.nil
theorem putB_len (d n : Int) (ps : List PR) : (putB d n ps).length ≤ 246 := by
  unfold putB
  split
  · rename_i h
    have h1 := (fine_of h).size
    have h2 := bodyS_le ps
    unfold sizeS at h1
    simp [putS, headS]
    omega
  · simp
theorem putL1 (m : Int) (h0 : 0 ≤ m) (h1 : m ≤ 255) : putL m 1 = [m] := by
  unfold putL
  rw [if_neg (by omega), if_neg (by simp; omega)]
  show dig m 1 = [m]
  exact dig1 m h0 (by omega)
theorem putL2 (n : Int) (h0 : 0 ≤ n) (h1 : n ≤ 3000) : putL n 2 = [n / 256, n % 256] := by
  unfold putL
  rw [if_neg (by omega), if_neg (by simp; omega)]
  show dig n 2 = _
  rw [dig2]
  congr 1
  omega
set_option maxHeartbeats 400000 in
theorem btext_any (s : ByteArray) (w : World) : Calls Try.prog 34 #[.string s] w fun e w' => ∃ v, e = .returned v ∧ Own w' w.heap.size v (textL s) ∧ Below w.heap.size w w' := by
  have HP := text_any s w
  go_enter Try.func34, Try.ntmps34
  go_wp2_with (first | (go_at_call 59; refine HP.mono ?_; rintro e w1 ⟨v, rfl, ho, hb⟩) | fail)
  go_ret
  exact ⟨v, rfl, ho, hb⟩
theorem wp_app_bv2 {ops : Array Oper} {rest : List Oper} {o : Oper} {a : Act} {Q : Exit → Act → World → Prop} {w : World} (hgd : o.guard = none) (s x : Operand)
    (ho : o.op = .call { callee := .builtin .append, args := #[s, x], argTypes := #[25, 25] }) (base : Nat) (v : Value) (zs ys : List Int) (hs : a.eval s = v) (hown : Own w base v zs)
    (ad : Option Addr) (cap : Nat) (hx : a.eval x = .slice ad ys.length cap) (hv : BV w ad ys) (hn : ad = none → cap = 0) (hlen : zs.length + ys.length ≤ 1000000) (hbase : base ≤ w.heap.size)
    (h : ∀ v' w', Own w' base v' (zs ++ ys) → Below base w w' → (∀ k, k < w.heap.size → v.ownBlock ≠ some k → w'.heap[k]? = w.heap[k]?) → wpList Try.prog ops Q rest (a.put o.dst v') w') : wpList Try.prog ops Q (o :: rest) a w := by
  obtain ⟨i0, hi, hz0, hz1, hz2⟩ := info_parts Try.info5
  cases ad with
  | none =>
    obtain rfl := hn rfl
    obtain rfl : ys = [] := slice_some_len hv rfl
    refine wpList_append_own_none hgd s x 25 ho base 5 i0 1 Try.underlying25 hi v zs.length (zs.map (Value.int .u8)) hs hown hx ?_
    exact h v w (by simpa using hown) (Below.refl _ _) (fun _ _ _ => rfl)
  | some ad =>
    refine wpList_append_own w hgd s x 25 ho base 5 i0 (.int .u8 0) 1 1 Try.underlying25 hi hz0 hz1 hz2 rfl (by decide) v zs.length (zs.map (Value.int .u8)) hs hown ad ys.length cap (ys.map (Value.int .u8)) hx (by simp) ?_ (u8row _) (by unfold maxLen; omega) (by omega) hbase ?_
    · intro j u hu
      rw [List.getElem?_map] at hu
      obtain ⟨z, hz, rfl⟩ := Option.map_eq_some_iff.1 hu
      have hj := (List.getElem?_eq_some_iff.1 hz).1
      obtain ⟨_, h1 | ⟨b, off, hx, hlt, hc⟩⟩ := hv
      · subst h1; simp at hj
      · obtain rfl := Option.some.inj hx
        rw [add_plain]
        have := hc j hj
        rw [this, List.getD_eq_getElem?_getD, hz]; rfl
    · intro v' w' h1 h2 _
      have ho' : Own w' base v' (zs ++ ys) := by
        unfold Own
        rw [List.length_append, List.map_append]
        exact h1
      refine h v' w' ho' ?_ (fun k hk hne => h2.block k hk (fun e => hne e.symm))
      exact (Below.refl base w).grown h2 hbase (fun k hk => (World.ownsRow.lt hown k hk).1)
theorem box_kept {wr w6 w7 : World} {base : Nat} {v : Value} {zs : List Int} {x y : Value} (ho : Own wr base v zs) (hb : Below (wr.alloc (.cells #[x, y] 45)).heap.size (wr.alloc (.cells #[x, y] 45)) w6) (hk : ∀ k, k < w6.heap.size → v.ownBlock ≠ some k → w7.heap[k]? = w6.heap[k]?) :
    w7.cell? ⟨wr.heap.size, 0, none⟩ = some x ∧ w7.cell? ⟨wr.heap.size, 1, none⟩ = some y := by
  have hs := hb.size
  simp only [World.alloc, Array.size_push] at hs
  have h1 := hk wr.heap.size (by omega) (fun e => by have := (World.ownsRow.lt ho _ e).2; omega)
  exact ⟨(World.cell?_of_block (a := ⟨wr.heap.size, 0, none⟩) h1).trans ((hb.cell (p := ⟨wr.heap.size, 0, none⟩) (by simp)).trans (by go_simp)), (World.cell?_of_block (a := ⟨wr.heap.size, 1, none⟩) h1).trans ((hb.cell (p := ⟨wr.heap.size, 1, none⟩) (by simp)).trans (by go_simp))⟩
theorem parts3 {w : World} {a b c : Option Addr} {k1 k2 k3 : Nat} {xs ys zs : List Int} (h1 : BV w a xs) (h2 : BV w b ys) (h3 : BV w c zs) (n1 : a = none → k1 = 0) (n2 : b = none → k2 = 0) (n3 : c = none → k3 = 0) (l1 : xs.length ≤ 1000) (l2 : ys.length ≤ 1000) (l3 : zs.length ≤ 1000) :
    Parts (w.alloc (.cells #[.slice a xs.length k1, .slice b ys.length k2, .slice c zs.length k3] 25)) w.heap.size 0 [xs, ys, zs] := by
  intro i hi
  match i, hi with
  | 0, _ => exact ⟨a, k1, by go_simp, n1, h1.alloc _, by simp; omega⟩
  | 1, _ => exact ⟨b, k2, by go_simp, n2, h2.alloc _, by simp; omega⟩
  | 2, _ => exact ⟨c, k3, by go_simp, n3, h3.alloc _, by simp; omega⟩
set_option maxHeartbeats 4000000 in
theorem put_bad (d n : Int) (a : Option Addr) (cap : Nat) (ps : List PR) (w : World) (hp : PV w a ps) (hl : ps.length ≤ 1000000) (hL : ∀ p ∈ ps, Lp p) (hE : checkE d n ps ≠ 0) :
    Calls Try.prog 10 #[bkv d n a ps.length cap] w fun e w' => e = .returned (.tuple #[.slice none 0 0, .int .i64 (checkE d n ps)]) ∧ Below w.heap.size w w' := by
  have CK := check_any d n a cap ps (w.alloc (.cells #[.int .i64 d, .int .i64 n, .slice a ps.length cap] 28)) (hp.below (one_block _ _)) hl hL
  generalize checkE d n ps = E at *
  have hb : (E == 0) = false := by simpa using hE
  unfold bkv at *
  clear hp
  go_enter Try.func10, Try.ntmps10
  go_wp2_with (go_at_call 14; refine CK.mono ?_; rintro e w1 ⟨rfl, hb1⟩; clear CK)
  go_ret2
  exact ⟨rfl, bt (one_block _ _) hb1⟩
set_option maxHeartbeats 4000000 in
theorem put_good (d n : Int) (a : Option Addr) (cap : Nat) (ps : List PR) (w : World) (hp : PV w a ps) (hL : ∀ p ∈ ps, Lp p) (hF : Fine d n ps) :
    Calls Try.prog 10 #[bkv d n a ps.length cap] w fun e w' => ∃ v, e = .returned (.tuple #[v, .int .i64 0]) ∧ Own w' w.heap.size v (putS d n ps) ∧ Below w.heap.size w w' := by
  have hfew := hF.few
  have HF : Hid (Fine d n ps) := hF
  obtain ⟨W0, hW0⟩ : ∃ W0, W0 = w.alloc (.cells #[.int .i64 d, .int .i64 n, .slice a ps.length cap] 28) := ⟨_, rfl⟩
  have HB0 : Hid (Below w.heap.size w W0) := by rw [hW0]; exact one_block _ _
  have HW0 : Hid (W0 = w.alloc (.cells #[.int .i64 d, .int .i64 n, .slice a ps.length cap] 28)) := hW0
  have CK : Hid (Calls Try.prog 14 #[.agg #[.int .i64 d, .int .i64 n, .slice a ps.length cap]] W0 fun e w' => e = .returned (.int .i64 0) ∧ Below W0.heap.size W0 w') := by
    have := check_any d n a cap ps W0 (hp.below HB0.out) (by omega) hL
    rw [hF.check] at this
    exact this
  have W1 : Hid (∀ W, Calls Try.prog 33 #[.int .i64 d, .int .i64 1] W fun e w' => ∃ v, e = .returned v ∧ Own w' W.heap.size v [d] ∧ Below W.heap.size W w') := fun W => by
    have := wide_any d 1 W
    rw [putL1 d hF.d0 (by have := hF.d1; omega)] at this
    exact this
  have W2 : Hid (∀ W, Calls Try.prog 33 #[.int .i64 n, .int .i64 2] W fun e w' => ∃ v, e = .returned v ∧ Own w' W.heap.size v [n / 256, n % 256] ∧ Below W.heap.size W w') := fun W => by
    have := wide_any n 2 W
    rw [putL2 n hF.n0 hF.n1] at this
    exact this
  have W3 : Hid (∀ W, Calls Try.prog 33 #[.int .i64 ps.length, .int .i64 1] W fun e w' => ∃ v, e = .returned v ∧ Own w' W.heap.size v [(ps.length : Int)] ∧ Below W.heap.size W w') := fun W => by
    have := wide_any ps.length 1 W
    rw [putL1 ps.length (by omega) (by omega)] at this
    exact this
  have A1 : Hid (AllB [d]) := by intro z hz; simp at hz; have := hF.d0; have := hF.d1; omega
  have A2 : Hid (AllB [n / 256, n % 256]) := by intro z hz; simp at hz; have := hF.n0; have := hF.n1; omega
  have A3 : Hid (AllB [(ps.length : Int)]) := by intro z hz; simp at hz; omega
  have CL : Hid (∀ W, Below W0.heap.size W0 W → W.cell? ⟨w.heap.size, 0, none⟩ = some (.int .i64 d) ∧ W.cell? ⟨w.heap.size, 1, none⟩ = some (.int .i64 n) ∧ W.cell? ⟨w.heap.size, 2, none⟩ = some (.slice a ps.length cap)) := fun W hW => by
    rw [hW0] at hW
    exact ⟨(hW.cell (p := ⟨w.heap.size, 0, none⟩) (by simp)).trans (by go_simp), (hW.cell (p := ⟨w.heap.size, 1, none⟩) (by simp)).trans (by go_simp), (hW.cell (p := ⟨w.heap.size, 2, none⟩) (by simp)).trans (by go_simp)⟩
  have CC : Hid (∀ W a1 a2 a3 k1 k2 k3, BV W a1 [d] → BV W a2 [n / 256, n % 256] → BV W a3 [(ps.length : Int)] → (a1 = none → k1 = 0) → (a2 = none → k2 = 0) → (a3 = none → k3 = 0) → Calls Try.prog 32 #[.slice (some ⟨W.heap.size, 0, none⟩) 3 3] (W.alloc (.cells #[.slice a1 1 k1, .slice a2 2 k2, .slice a3 1 k3] 25)) fun e w' => ∃ v, e = .returned v ∧ Own w' W.heap.size v (headS d n ps.length) ∧ Below W.heap.size W w') := fun W a1 a2 a3 k1 k2 k3 h1 h2 h3 m1 m2 m3 => by
    have := concat_any W.heap.size 0 3 3 [[d], [n / 256, n % 256], [(ps.length : Int)]] (W.alloc (.cells #[.slice a1 1 k1, .slice a2 2 k2, .slice a3 1 k3] 25)) rfl (by decide) (parts3 h1 h2 h3 m1 m2 m3 (by simp) (by simp) (by simp)) (by simp) (by simp) (by simp)
    refine this.mono ?_
    rintro e w' ⟨v, rfl, h1, h2⟩
    exact ⟨v, rfl, h1.mono (by simp), bt (one_block _ _) h2⟩
  clear hW0 hF
  unfold bkv
  go_enter Try.func10, Try.ntmps10
  go_wp2_with (go_at_call 14; rw [← HW0.out]; refine CK.out.mono ?_; rintro e w1 ⟨rfl, hb1⟩)
  obtain ⟨c0, c1, c2⟩ := CL.out _ hb1
  go_region_held3 (fun W => W.cell? ⟨w.heap.size, 0, none⟩ = some (.int .i64 d) ∧ W.cell? ⟨w.heap.size, 1, none⟩ = some (.int .i64 n) ∧ W.cell? ⟨w.heap.size, 2, none⟩ = some (.slice a ps.length cap)) (first | exact CL.out _ hb1.drew | exact CL.out _ (bt hb1.drew hb2) | exact CL.out _ (bt (bt hb1.drew hb2) hb3) | exact CL.out _ (bt (bt (bt hb1.drew hb2) hb3) hb4) | exact CL.out _ (bt (bt (bt (bt hb1.drew hb2) hb3) hb4) (one_block _ _)) | exact CL.out _ (bt (bt (bt (bt hb1.drew hb2) hb3) hb4) hb5)) (first | (go_at_call 33; refine (W1.out _).mono ?_; rintro e w2 ⟨v, rfl, ho2, hb2⟩; obtain ⟨a1, k1, rfl, n1, bv1, _, _⟩ := ho2.slice A1.out; clear W1) | (go_at_call 33; refine (W2.out _).mono ?_; rintro e w3 ⟨v, rfl, ho3, hb3⟩; obtain ⟨a2, k2, rfl, n2, bv2, _, _⟩ := ho3.slice A2.out; clear W2) | (go_at_call 33; refine (W3.out _).mono ?_; rintro e w4 ⟨v, rfl, ho4, hb4⟩; obtain ⟨a3, k3, rfl, n3, bv3, _, _⟩ := ho4.slice A3.out; clear W3) | (go_at_call 32; refine (CC.out _ _ _ _ _ _ _ ((bv1.below hb3).below hb4) (bv2.below hb4) bv3 n1 n2 n3).mono ?_; rintro e w5 ⟨v5, rfl, ho5, hb5⟩))
  have HBA : Hid (Below w.heap.size w w5) := bt HB0.out (bt (bt (bt (bt hb1.drew hb2) hb3) hb4) hb5)
  have HOA : Hid (Own w5 w.heap.size v5 (headS d n ps.length)) := ho5.mono (bt HB0.out (bt (bt (bt hb1.drew hb2) hb3) hb4)).size
  obtain ⟨e0, e1, e2⟩ := CL.out _ (bt (bt (bt (bt hb1.drew hb2) hb3) hb4) hb5)
  have HSZ : Hid (szN ps ≤ 242) := by have := HF.out.size; unfold sizeS at this; show szN ps ≤ 242; omega
  clear hb1 hb2 hb3 hb4 hb5 ho2 ho3 ho4 ho5 bv1 bv2 bv3 n1 n2 n3
  go_wp2
  go_loopw [5, 28] (fun v i wr => ∃ k : Nat, k ≤ ps.length ∧ i = .int .i64 k ∧ Hid (Own wr w.heap.size v (headS d n ps.length ++ bodyS (ps.take k))) ∧ Hid (Below w.heap.size w wr)) (fun _ i _ => ps.length - (intOf i).toNat)
  case atStart => exact ⟨0, Nat.zero_le _, rfl, by simpa [bodyS, Hid] using HOA.out, HBA⟩
  case round =>
    obtain ⟨k, hk, rfl, HO, HB⟩ := hrel
    by_cases hlt : k < ps.length
    · obtain h0 | ⟨b, off, rfl, hbl, hc⟩ := hp.below HB.out
      · subst h0; simp at hlt
      obtain ⟨c0, c1⟩ := hc k hlt
      have hX := bodyS_take ps k hlt
      have hle := bodyS_le (ps.take (k + 1))
      have hle2 := Nat.le_trans hle (szN_take_le ps (k + 1))
      rw [hX] at hle2
      simp only [List.length_append] at hle2
      have HLE : Hid ((bodyS (ps.take k)).length + (textL (ps.getD k default).1).length + (textL (ps.getD k default).2).length ≤ 242) := by have := HSZ.out; show _ ≤ 242; omega
      have HX : Hid (bodyS (ps.take (k + 1)) = _) := hX
      have T1 : Hid (∀ W, Calls Try.prog 34 #[.string (ps.getD k default).1] W fun e w' => ∃ v, e = .returned v ∧ Own w' W.heap.size v (textL (ps.getD k default).1) ∧ Below W.heap.size W w') := fun W => btext_any _ W
      have T2 : Hid (∀ W, Calls Try.prog 34 #[.string (ps.getD k default).2] W fun e w' => ∃ v, e = .returned v ∧ Own w' W.heap.size v (textL (ps.getD k default).2) ∧ Below W.heap.size W w') := fun W => btext_any _ W
      have B1 : Hid (AllB (textL (ps.getD k default).1)) := textL_all _
      have B2 : Hid (AllB (textL (ps.getD k default).2)) := textL_all _
      clear hX hle hle2 hc
      generalize bodyS (ps.take k) = bs at *
      generalize textL (ps.getD k default).1 = t1 at *
      generalize textL (ps.getD k default).2 = t2 at *
      generalize (ps.getD k default).1 = sk at *
      generalize (ps.getD k default).2 = sv at *
      go_wp2_with (first | (go_at_call 34; refine (T1.out _).mono ?_; rintro e w6 ⟨v6, rfl, ho6, hb6⟩; obtain ⟨a6, k6, rfl, n6, bv6, _, _⟩ := ho6.slice B1.out; clear T1; have HB6 : Hid (Below w.heap.size w w6) := bt (bt HB.out (one_block _ _)) hb6; have HO6 := (HO.out.below (one_block _ (.cells #[.string sk, .string sv] 45))).below hb6) | (at_builtin; refine wp_app_bv2 rfl _ _ rfl w.heap.size _ (headS d n ps.length ++ bs) t1 rfl HO6 a6 k6 rfl bv6 n6 (by have := HLE.out; simp [headS]; omega) HB6.out.size ?_; intro v7 w7 ho7 hb7 hk7; clear HO6; obtain ⟨g0, g1⟩ := box_kept HO.out hb6 hk7; clear hk7) | (go_at_call 34; refine (T2.out _).mono ?_; rintro e w8 ⟨v8, rfl, ho8, hb8⟩; obtain ⟨a8, k8, rfl, n8, bv8, _, _⟩ := ho8.slice B2.out) | (at_builtin; refine wp_app_bv rfl _ _ rfl w.heap.size _ (headS d n ps.length ++ bs ++ t1) t2 rfl (ho7.below hb8) a8 k8 rfl bv8 n8 (by have := HLE.out; simp [headS]; omega) (bt (HB6.out.trans hb7) hb8).size ?_; intro v9 w9 ho9 hb9))
      refine ⟨⟨k + 1, by omega, by go_num, ?_, (bt (HB6.out.trans hb7) hb8).trans hb9⟩, by simp [intOf]; omega⟩
      show Own w9 w.heap.size v9 _
      rw [HX.out, ← List.append_assoc, ← List.append_assoc]
      exact ho9
    · have : k = ps.length := by omega
      subst this
      have hxx : ¬ ((ps.length : Int) < (ps.length : Int)) := by omega
      have h9 := HO.out
      rw [List.take_length] at h9
      have H9 : Hid (Own _ _ _ (headS d n ps.length ++ bodyS ps)) := h9
      clear h9
      go_wp2
      go_ret2
      exact ⟨_, rfl, H9.out, HB.out⟩
theorem bput_any (d n : Int) (a : Option Addr) (cap : Nat) (ps : List PR) (w : World) (hp : PV w a ps) (hl : ps.length ≤ 1000000) (hL : ∀ p ∈ ps, Lp p) :
    Calls Try.prog 10 #[bkv d n a ps.length cap] w fun e w' => ∃ v, e = .returned (.tuple #[v, .int .i64 (checkE d n ps)]) ∧ Own w' w.heap.size v (putB d n ps) ∧ Below w.heap.size w w' := by
  unfold putB
  by_cases hE : checkE d n ps = 0
  · rw [if_pos hE, hE]
    exact put_good d n a cap ps w hp hL (fine_of hE)
  · rw [if_neg hE]
    refine (put_bad d n a cap ps w hp hl hL hE).mono ?_
    rintro e w' ⟨rfl, hb⟩
    exact ⟨_, rfl, Own.nil _ _, hb⟩
end Go.Proofs.Ytnnndkpmlpbpcaa
