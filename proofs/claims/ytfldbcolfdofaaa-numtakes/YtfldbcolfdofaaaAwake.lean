/- What every right program lays of one number and one text: the call 'awake' of the statements answers true. -/
import Derived.Test.YtfldbcolfdofaaaNew
namespace Go.Proofs.Ytfldbcolfdofaaa
open Go.RowKit

theorem Own.shape {w : World} {base : Nat} {v : Value} {zs : List Int} (h : Own w base v zs) (n : Nat) (hn : zs.length = n) (hp : 0 < n) : ∃ g cap, v = .slice (some ⟨g, 0, none⟩) n cap ∧ n ≤ cap ∧ base ≤ g ∧ g < w.heap.size := by
  subst hn
  have hl := World.ownsRow.lt h
  rcases h.2 with ⟨rfl, hn⟩ | ⟨g, cap, cur, rfl, hb, hg, hnc, hcm, hcs, htake⟩
  · omega
  · exact ⟨g, cap, rfl, hnc, hb, (hl g rfl).2⟩
theorem conv_own {w : World} {base : Nat} {v : Value} {zs : List Int} (h : Own w base v zs) (hz : AllB zs) : (convert 22 9 v).run Try.prog w = .ok (.string (strOfNums zs)) w := by
  obtain ⟨a, cap, rfl, _, _, _, hb⟩ := h.view hz
  rcases hb with rfl | ⟨b, off, rfl, _, _, hc⟩
  · cases a with
    | none => exact run_convert_bytes_nil (P := Try.prog) w 22 5 Try.underlying22 Try.underlying5 0 cap 9 Try.underlying9
    | some x =>
      show (convert 22 9 (.slice (some x) 0 cap)).run Try.prog w = _
      rw [run_convert_bytes_string w 22 9 5 _ 0 cap Try.underlying22 Try.underlying5 Try.underlying9, run_bytesToString w x 0 cap [] (by simp [loadCells, loadCellsFrom])]
      rfl
  · exact run_convert_bytes_arg (P := Try.prog) w 22 5 Try.underlying22 Try.underlying5 b off zs.length cap zs rfl hc 9 Try.underlying9
theorem Own.cellsAt {w : World} {base : Nat} {g n cap : Nat} {zs : List Int} (h : Own w base (.slice (some ⟨g, 0, none⟩) n cap) zs) : ∀ j u, (zs.map (Value.int .u8))[j]? = some u → w.cell? ((⟨g, 0, none⟩ : Addr).add j) = some u :=
  World.ownsRow.cells h (g := g) rfl

theorem Own.bv {w : World} {base : Nat} {a : Option Addr} {n cap : Nat} {zs : List Int} (h : Own w base (.slice a n cap) zs) (hz : AllB zs) : BV w a zs := by
  obtain ⟨a', cap', e, _, _, _, hb⟩ := h.view hz
  obtain ⟨rfl, _, _⟩ := Value.slice.inj e
  refine ⟨hz, ?_⟩
  rcases hb with h1 | ⟨b, off, e, _, h2, h3⟩
  · exact .inl h1
  · exact .inr ⟨b, off, e, h2, h3⟩

theorem wp_app {ops : Array Oper} {rest : List Oper} {o : Oper} {a : Act} {Q : Exit → Act → World → Prop} {w : World} (hgd : o.guard = none) (s x : Operand)
    (ho : o.op = .call { callee := .builtin .append, args := #[s, x], argTypes := #[22, 22] }) (base base2 : Nat) (v : Value) (zs ys : List Int) (hs : a.eval s = v) (hown : Own w base v zs)
    (g m c : Nat) (hx : a.eval x = .slice (some ⟨g, 0, none⟩) m c) (hm : ys.length = m) (hsrc : Own w base2 (.slice (some ⟨g, 0, none⟩) m c) ys) (N : Nat) (hN : zs.length + ys.length = N) (hlen : N ≤ 1000000) (hpos : 0 < N) (hbase : base ≤ w.heap.size)
    (h : ∀ g' c' w', Own w' base (.slice (some ⟨g', 0, none⟩) N c') (zs ++ ys) → Below base w w' → wpList Try.prog ops Q rest (a.put o.dst (.slice (some ⟨g', 0, none⟩) N c')) w') : wpList Try.prog ops Q (o :: rest) a w := by
  obtain ⟨i0, hi, hz0, hz1, hz2⟩ := info_parts Try.info5
  refine wpList_append_own w hgd s x 22 ho base 5 i0 (.int .u8 0) 1 1 Try.underlying22 hi hz0 hz1 hz2 rfl (by decide) v zs.length (zs.map (Value.int .u8)) hs hown ⟨g, 0, none⟩ m c (ys.map (Value.int .u8)) hx (by simp [hm]) hsrc.cellsAt (u8row _) (by unfold maxLen; omega) (by omega) hbase ?_
  intro v' w' h1 h2 _
  have ho' : Own w' base v' (zs ++ ys) := by
    unfold Own
    rw [List.length_append, List.map_append, hm]
    exact h1
  obtain ⟨g', c', rfl, _, _, _⟩ := ho'.shape N (by rw [List.length_append, hN]) hpos
  refine h g' c' w' ho' ?_
  exact (Below.refl base w).grown h2 hbase (fun k hk => (World.ownsRow.lt hown k hk).1)

set_option maxHeartbeats 1000000 in
theorem awake_any (w : World) : Calls Try.prog 13 #[] w fun e w' => e = .returned (.bool true) ∧ Below w.heap.size w w' := by
  have HP := put_any 258 3 w
  have e1 : putE 258 3 = 0 := by decide
  have e2 : putL 258 3 = [0, 1, 2] := by decide
  rw [e1, e2] at HP
  clear e1 e2
  go_enter Try.func13, Try.ntmps13
  go_wp2_with (go_at_call 9; refine HP.mono ?_; rintro e w1 ⟨v1, rfl, ho1, hb1⟩; clear HP; obtain ⟨g1, p1, rfl, _, _, _⟩ := ho1.shape 3 rfl (by decide))
  have HT := text_any ⟨#[97, 98]⟩ w1
  have e1 : textE ⟨#[97, 98]⟩ = 0 := by decide
  have e2 : textL ⟨#[97, 98]⟩ = [2, 97, 98] := by decide
  rw [e1, e2] at HT
  clear e1 e2
  refine HT.mono ?_
  rintro e w2 ⟨v2, rfl, ho2, hb2⟩
  clear HT
  obtain ⟨g2, p2, rfl, _, _, _⟩ := ho2.shape 3 rfl (by decide)
  replace ho1 := ho1.below hb2
  replace hb1 := hb1.trans (hb2.mono hb1.size)
  clear hb2
  go_wp2_with fail
  have HS := sign_any (-1) w2
  have e1 : signE (-1) = 0 := by decide
  have e2 : signL (-1) = [0, 255, 255, 255, 255, 255] := by decide
  rw [e1, e2] at HS
  clear e1 e2
  refine HS.mono ?_
  rintro e w3 ⟨v3, rfl, ho3, hb3⟩
  clear HS
  obtain ⟨g3, p3, rfl, _, _, _⟩ := ho3.shape 6 rfl (by decide)
  replace ho1 := ho1.below hb3
  replace ho2 := ho2.below hb3
  replace hb1 := hb1.trans (hb3.mono hb1.size)
  clear hb3
  have hlit : Own (w3.alloc (.cells #[] 5)) w3.heap.size (.slice (some ⟨w3.heap.size, 0, none⟩) 0 0) [] := World.ownsRow_lit w3 #[] 0 (Nat.le_refl _) (by decide) rfl
  have B0 : Below w3.heap.size w3 (w3.alloc (.cells #[] 5)) := (Below.refl _ _).alloc (Nat.le_refl _) _
  go_wp2_with (first | (at_builtin; refine wp_app rfl (.tmp 20) (.tmp 21) rfl w3.heap.size _ _ [] [0, 1, 2] rfl hlit g1 3 p1 rfl rfl (ho1.below B0) 3 rfl (by decide) (by decide) (by simp) ?_; intro g4 c4 w4 ho4 hb4; have B4 := B0.trans hb4; clear hlit hb4) | (at_builtin; refine wp_app rfl (.tmp 22) (.tmp 23) rfl w3.heap.size _ _ [0, 1, 2] [2, 97, 98] rfl ho4 g2 3 p2 rfl rfl (ho2.below B4) 6 rfl (by decide) (by decide) B4.size ?_; intro g5 c5 w5 ho5 hb5; have B5 := B4.trans hb5; clear ho4 hb5) | (at_builtin; refine wp_app rfl (.tmp 24) (.tmp 25) rfl w3.heap.size _ _ [0, 1, 2, 2, 97, 98] [0, 255, 255, 255, 255, 255] rfl ho5 g3 6 p3 rfl rfl (ho3.below B5) 12 rfl (by decide) (by decide) B5.size ?_; intro g6 c6 w6 ho6 hb6; have B6 := B5.trans hb6; clear ho5 hb6))
  have hz6 : AllB [0, 1, 2, 2, 97, 98, 0, 255, 255, 255, 255, 255] := by intro z hz; revert z; decide
  have HN : Calls Try.prog 20 #[.slice (some ⟨g6, 0, none⟩) 12 c6] w6 _ := new_any (some ⟨g6, 0, none⟩) c6 [0, 1, 2, 2, 97, 98, 0, 255, 255, 255, 255, 255] w6 (ho6.bv hz6) (by decide) (by intro h; cases h)
  refine HN.mono ?_
  rintro e w7 ⟨rb, rfl, hrb, hrb2, hrd, hb7⟩
  clear HN
  have B7 := B6.trans (hb7.mono B6.size)
  have s1 := conv_own (ho1.below B7) (by intro z hz; revert z; decide)
  have s2 := conv_own (ho2.below B7) (by intro z hz; revert z; decide)
  have s3 := conv_own (ho3.below B7) (by intro z hz; revert z; decide)
  have q1 : strOfNums [0, 1, 2] = ⟨#[0, 1, 2]⟩ := rfl
  have q2 : strOfNums [2, 97, 98] = ⟨#[2, 97, 98]⟩ := rfl
  have q3 : strOfNums [0, 255, 255, 255, 255, 255] = ⟨#[0, 255, 255, 255, 255, 255]⟩ := rfl
  rw [q1] at s1
  rw [q2] at s2
  rw [q3] at s3
  have HB : Hid (Below w.heap.size w w7) := hb1.trans (B7.mono hb1.size)
  have hwr : w.heap.size ≤ rb := by have := hb1.size; have := B6.size; omega
  clear q1 q2 q3 B6 B7 B0 ho1 ho2 ho3 ho6 hb7 hb1 hz6 hrb
  have HM := num_any rb _ 0 3 w7 hrd
  have e1 : numV [0, 1, 2, 2, 97, 98, 0, 255, 255, 255, 255, 255] 0 3 = 258 := by decide
  have e2 : numZ [0, 1, 2, 2, 97, 98, 0, 255, 255, 255, 255, 255] 0 3 = [2, 97, 98, 0, 255, 255, 255, 255, 255] := by decide
  have e3 : numE [0, 1, 2, 2, 97, 98, 0, 255, 255, 255, 255, 255] 0 3 = 0 := by decide
  rw [e1, e2, e3] at HM
  clear e1 e2 e3 hrd
  go_wp2_with fail
  refine HM.mono ?_
  rintro e w8 ⟨rfl, hrd, hg8⟩
  clear HM s1 s2 s3
  have HB8 : Hid (Below w.heap.size w w8) := HB.out.grown hg8 HB.out.size (by intro k hk; obtain rfl := Option.some.inj hk; exact hwr)
  have HM := rtx_any rb _ 0 w8 hrd
  have e1 : rtxS [2, 97, 98, 0, 255, 255, 255, 255, 255] 0 = ⟨#[97, 98]⟩ := by decide
  have e2 : rtxZ [2, 97, 98, 0, 255, 255, 255, 255, 255] 0 = [0, 255, 255, 255, 255, 255] := by decide
  have e3 : rtxE [2, 97, 98, 0, 255, 255, 255, 255, 255] 0 = 0 := by decide
  rw [e1, e2, e3] at HM
  clear e1 e2 e3 hrd HB hg8
  go_wp2_with fail
  refine HM.mono ?_
  rintro e w9 ⟨rfl, hrd, hg9⟩
  clear HM
  have HB9 : Hid (Below w.heap.size w w9) := HB8.out.grown hg9 HB8.out.size (by intro k hk; obtain rfl := Option.some.inj hk; exact hwr)
  have HM := sgd_any rb _ 0 w9 hrd
  have e1 : sgdV [0, 255, 255, 255, 255, 255] 0 = -1 := by decide
  have e2 : sgdZ [0, 255, 255, 255, 255, 255] 0 = [] := by decide
  have e3 : sgdE [0, 255, 255, 255, 255, 255] 0 = 0 := by decide
  rw [e1, e2, e3] at HM
  clear e1 e2 e3 hrd HB8 hg9
  go_wp2_with fail
  refine HM.mono ?_
  rintro e w10 ⟨rfl, hrd, hg10⟩
  clear HM
  have HB10 : Hid (Below w.heap.size w w10) := HB9.out.grown hg10 HB9.out.size (by intro k hk; obtain rfl := Option.some.inj hk; exact hwr)
  have HM := done_any rb _ 0 w10 hrd
  have e1 : doneE [] 0 = 0 := by decide
  rw [e1] at HM
  clear e1 hrd HB9 hg10
  go_wp2_with fail
  refine HM.mono ?_
  rintro e w11 ⟨rfl, hw⟩
  obtain rfl := hw.symm
  clear HM
  go_wp2
  go_ret
  exact ⟨rfl, HB10.out⟩
end Go.Proofs.Ytfldbcolfdofaaa
