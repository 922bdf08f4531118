/- Remove, Vals, Split. -/
import Derived.Test.YtnnndkpmlpbpcaaCh
namespace Go.Proofs.Ytnnndkpmlpbpcaa
open Go.RowKit
set_option linter.unusedVariables false
set_option maxRecDepth 20000

set_option maxHeartbeats 4000000 in
theorem remove_any (d n : Int) (a : Option Addr) (cap : Nat) (ps : List PR) (p : PR) (w : World) (hp : PV w a ps) (hl : ps.length ≤ 1000000) (hL : ∀ p ∈ ps, Lp p) (hcl : ps.length ≤ cap) (hcap : cap ≤ 9223372036854775807) :
    Calls Try.prog 21 #[bkv d n a ps.length cap, pv p] w fun e w' => ∃ v, e = .returned (.tuple #[.agg #[.int .i64 d, .int .i64 n, v], .bool (ps.any fun q => eqP q p)]) ∧ OwnQ w' w.heap.size v (ps.filter fun q => !eqP q p) ∧ Below w.heap.size w w' := by
  obtain ⟨pk, pw⟩ := p
  have HH : Hid (∀ W, Below w.heap.size w W → Calls Try.prog 25 #[.agg #[.int .i64 d, .int .i64 n, .slice a ps.length cap], .agg #[.string pk, .string pw]] W fun e w' => e = .returned (.bool (ps.any fun q => eqP q (pk, pw))) ∧ Below W.heap.size W w') := fun W hW => by
    have := has_any d n a cap ps (pk, pw) W (hp.below hW) hl hL
    exact this
  have HW : Hid (∀ v W, (∃ b l c, v = .slice b l c) → Calls Try.prog 46 #[.agg #[.int .i64 d, .int .i64 n, .slice a ps.length cap], v] W fun e w' => e = .returned (.agg #[.int .i64 d, .int .i64 n, v]) ∧ Below W.heap.size W w') := fun v W hv => with_any d n a ps.length cap v W hv
  obtain ⟨W0, hW0⟩ : ∃ W0, W0 = ((w.alloc (.cells #[.int .i64 d, .int .i64 n, .slice a ps.length cap] 28)).alloc (.cells #[.string pk, .string pw] 45)).alloc (.cells #[.int .i64 0, .int .i64 0, .slice none 0 0] 28) := ⟨_, rfl⟩
  have HB0 : Hid (Below w.heap.size w W0) := by rw [hW0]; exact three_blocks _ _ _ _
  have CL : Hid (∀ W, Below W0.heap.size W0 W → W.cell? ⟨w.heap.size, 0, none⟩ = some (.int .i64 d) ∧ W.cell? ⟨w.heap.size, 1, none⟩ = some (.int .i64 n) ∧ W.cell? ⟨w.heap.size, 2, none⟩ = some (.slice a ps.length cap) ∧ W.cell? ⟨w.heap.size + 1, 0, none⟩ = some (.string pk) ∧ W.cell? ⟨w.heap.size + 1, 1, none⟩ = some (.string pw)) := fun W hW => by
    rw [hW0] at hW
    exact ⟨(hW.cell (p := ⟨w.heap.size, 0, none⟩) (by simp; omega)).trans (by go_simp), (hW.cell (p := ⟨w.heap.size, 1, none⟩) (by simp; omega)).trans (by go_simp), (hW.cell (p := ⟨w.heap.size, 2, none⟩) (by simp; omega)).trans (by go_simp), (hW.cell (p := ⟨w.heap.size + 1, 0, none⟩) (by simp)).trans (by go_simp), (hW.cell (p := ⟨w.heap.size + 1, 1, none⟩) (by simp)).trans (by go_simp)⟩
  have RL : Hid (∀ W, Below W0.heap.size W0 W → W.cell? ⟨w.heap.size + 1 + 1, 0, none⟩ = some (.int .i64 0) ∧ W.cell? ⟨w.heap.size + 1 + 1, 1, none⟩ = some (.int .i64 0) ∧ W.cell? ⟨w.heap.size + 1 + 1, 2, none⟩ = some (.slice none 0 0) ∧ W.frozen? ⟨w.heap.size + 1 + 1, 0, none⟩ = false ∧ W.frozen? ⟨w.heap.size + 1 + 1, 1, none⟩ = false ∧ W.frozen? ⟨w.heap.size + 1 + 1, 2, none⟩ = false) := fun W hW => by
    rw [hW0] at hW
    exact ⟨(hW.cell (p := ⟨w.heap.size + 1 + 1, 0, none⟩) (by simp)).trans (by go_simp), (hW.cell (p := ⟨w.heap.size + 1 + 1, 1, none⟩) (by simp)).trans (by go_simp), (hW.cell (p := ⟨w.heap.size + 1 + 1, 2, none⟩) (by simp)).trans (by go_simp), (hW.frozen (p := ⟨w.heap.size + 1 + 1, 0, none⟩) (by simp)).trans (by go_simp), (hW.frozen (p := ⟨w.heap.size + 1 + 1, 1, none⟩) (by simp)).trans (by go_simp), (hW.frozen (p := ⟨w.heap.size + 1 + 1, 2, none⟩) (by simp)).trans (by go_simp)⟩
  have KS : Hid (∀ W x y z, Below W0.heap.size W0 W → (((W.setCell ⟨w.heap.size + 1 + 1, 0, none⟩ x).setCell ⟨w.heap.size + 1 + 1, 1, none⟩ y).setCell ⟨w.heap.size + 1 + 1, 2, none⟩ z).cell? ⟨w.heap.size, 0, none⟩ = some (.int .i64 d) ∧ (((W.setCell ⟨w.heap.size + 1 + 1, 0, none⟩ x).setCell ⟨w.heap.size + 1 + 1, 1, none⟩ y).setCell ⟨w.heap.size + 1 + 1, 2, none⟩ z).cell? ⟨w.heap.size, 1, none⟩ = some (.int .i64 n) ∧ (((W.setCell ⟨w.heap.size + 1 + 1, 0, none⟩ x).setCell ⟨w.heap.size + 1 + 1, 1, none⟩ y).setCell ⟨w.heap.size + 1 + 1, 2, none⟩ z).cell? ⟨w.heap.size, 2, none⟩ = some (.slice a ps.length cap) ∧ (((W.setCell ⟨w.heap.size + 1 + 1, 0, none⟩ x).setCell ⟨w.heap.size + 1 + 1, 1, none⟩ y).setCell ⟨w.heap.size + 1 + 1, 2, none⟩ z).cell? ⟨w.heap.size + 1, 0, none⟩ = some (.string pk) ∧ (((W.setCell ⟨w.heap.size + 1 + 1, 0, none⟩ x).setCell ⟨w.heap.size + 1 + 1, 1, none⟩ y).setCell ⟨w.heap.size + 1 + 1, 2, none⟩ z).cell? ⟨w.heap.size + 1, 1, none⟩ = some (.string pw)) := fun W x y z hW => by
    obtain ⟨c0, c1, c2, c3, c4⟩ := CL.out W hW
    have hB : Below (w.heap.size + 1 + 1) W (((W.setCell ⟨w.heap.size + 1 + 1, 0, none⟩ x).setCell ⟨w.heap.size + 1 + 1, 1, none⟩ y).setCell ⟨w.heap.size + 1 + 1, 2, none⟩ z) := (((Below.refl _ _).setCell (by simp) _).setCell (by simp) _).setCell (by simp) _
    exact ⟨(hB.cell (p := ⟨w.heap.size, 0, none⟩) (by simp; omega)).trans c0, (hB.cell (p := ⟨w.heap.size, 1, none⟩) (by simp; omega)).trans c1, (hB.cell (p := ⟨w.heap.size, 2, none⟩) (by simp; omega)).trans c2, (hB.cell (p := ⟨w.heap.size + 1, 0, none⟩) (by simp)).trans c3, (hB.cell (p := ⟨w.heap.size + 1, 1, none⟩) (by simp)).trans c4⟩
  have BX : Hid (∀ W, Below W0.heap.size W0 W → Boxed W (w.heap.size + 1) (pk, pw)) := fun W hW => by
    obtain ⟨_, _, _, c3, c4⟩ := CL.out W hW
    exact ⟨c3, c4, by have := hW.size; rw [hW0] at this; simp at this; omega⟩
  have TH : Hid (∀ W, Below W0.heap.size W0 W → Calls Try.prog 50 #[.slice a ps.length cap, .func (.func 51) #[] #[.pointer (some ⟨w.heap.size + 1, 0, none⟩)]] W fun e w' => ∃ v, e = .returned v ∧ OwnQ w' W.heap.size v (ps.filter fun q => !eqP q (pk, pw)) ∧ Below W.heap.size W w') := fun W hW => those_any 51 _ _ a cap ps W ((hp.below HB0.out).below hW) (asks51 (BX.out W hW)) hl hL hcl hcap
  generalize (ps.any fun q => eqP q (pk, pw)) = r at *
  generalize (ps.filter fun q => !eqP q (pk, pw)) = fs at *
  have HW0 : Hid (W0 = ((w.alloc (.cells #[.int .i64 d, .int .i64 n, .slice a ps.length cap] 28)).alloc (.cells #[.string pk, .string pw] 45)).alloc (.cells #[.int .i64 0, .int .i64 0, .slice none 0 0] 28)) := hW0
  clear hW0
  unfold bkv pv
  clear hp
  go_enter Try.func21, Try.ntmps21
  go_wp2_with fail
  rw [← HW0.out]
  obtain ⟨c0, c1, c2, c3, c4⟩ := CL.out _ (Below.refl _ _)
  go_region_held3 (fun W => W.cell? ⟨w.heap.size, 0, none⟩ = some (.int .i64 d) ∧ W.cell? ⟨w.heap.size, 1, none⟩ = some (.int .i64 n) ∧ W.cell? ⟨w.heap.size, 2, none⟩ = some (.slice a ps.length cap) ∧ W.cell? ⟨w.heap.size + 1, 0, none⟩ = some (.string pk) ∧ W.cell? ⟨w.heap.size + 1, 1, none⟩ = some (.string pw)) (first | exact CL.out _ (Below.refl _ _).drew | exact CL.out _ ((Below.refl _ _).drew.trans hb2) | exact CL.out _ (bt ((Below.refl _ _).drew.trans hb2) hb3) | exact CL.out _ (bt (bt ((Below.refl _ _).drew.trans hb2) hb3) hb4) | exact KS.out _ _ _ _ (bt (bt ((Below.refl _ _).drew.trans hb2) hb3) hb4)) (first | (go_at_call 50; refine (TH.out _ (Below.refl _ _).drew).mono ?_; rintro e w2 ⟨v, rfl, ho, hb2⟩; obtain ⟨b9, l9, c9, rfl⟩ := ho.isSlice) | (go_at_call 46; refine (HW.out _ _ ⟨_, _, _, rfl⟩).mono ?_; rintro e w3 ⟨rfl, hb3⟩) | (go_at_call 25; refine (HH.out _ (bt HB0.out (bt ((Below.refl _ _).drew.trans hb2) hb3))).mono ?_; rintro e w4 ⟨rfl, hb4⟩; obtain ⟨r0, r1, r2, f0, f1, f2⟩ := RL.out w4 (bt (bt ((Below.refl _ _).drew.trans hb2) hb3) hb4)))
  go_wp2
  have q2 : w.heap.size + 3 ≤ W0.heap.size := by rw [HW0.out]; simp
  refine bodyPost_ret (v := .tuple #[.agg #[.int .i64 d, .int .i64 n, .slice b9 l9 c9], .bool r]) (by simp [results, Try.results21, go_sem, r0, r1, r2]) rfl ⟨_, rfl, ?_, ?_⟩
  · exact own_set3 ((ho.below hb3).below hb4) (by show w.heap.size + 1 + 1 < W0.heap.size; omega) (by show w.heap.size ≤ W0.heap.size; omega)
  · exact (((bt HB0.out (bt (bt ((Below.refl _ _).drew.trans hb2) hb3) hb4)).setCell (by simp; omega) _).setCell (by simp; omega) _).setCell (by simp; omega) _
/-- A slice of strings of the call's own. -/
def OwnT (w : World) (base : Nat) (v : Value) (ts : List ByteArray) : Prop := w.ownsRow base 9 1 v ts.length (ts.map Value.string)
theorem OwnT.nil (w : World) (base : Nat) : OwnT w base (.slice none 0 0) [] := World.ownsRow_nil w base 9 1
theorem OwnT.below {w w' : World} {base : Nat} {v : Value} {ps : List ByteArray} (h : OwnT w base v ps) (hb : Below w.heap.size w w') : OwnT w' base v ps := by
  refine ⟨h.1, ?_⟩
  have hl := World.ownsRow.lt h
  rcases h.2 with hn | ⟨g, cap, cur, rfl, hbb, hg, rest⟩
  · exact .inl hn
  · exact .inr ⟨g, cap, cur, rfl, hbb, (hb.block g (hl g rfl).2).trans hg, rest⟩
theorem OwnT.len {w : World} {base : Nat} {v : Value} {ts : List ByteArray} (h : OwnT w base v ts) : ∃ a c, v = .slice a ts.length c := by
  rcases h.2 with ⟨rfl, h0⟩ | ⟨g, cap, cur, rfl, hb, hg, hc, hm, hs, ht⟩
  · exact ⟨none, 0, by rw [h0]⟩
  · exact ⟨_, cap, rfl⟩
theorem cell_of_rowb (w : World) (g i : Nat) (cs : Array Value) (e : TypeId) (fr : Nat × Nat) (hg : w.heap[g]? = some (.cells cs e fr)) : w.cell? ⟨g, i, none⟩ = cs[i]? := by
  simp [World.cell?, hg]
theorem Try.info9 : (Try.prog.info? 9).map (fun i => (i.zero, i.size, i.bytes)) = some (some (.string ByteArray.empty), 1, 16) := by kernel_rfl
theorem wp_appT {ops : Array Oper} {rest : List Oper} {o : Oper} {a : Act} {Q : Exit → Act → World → Prop} {w : World} (hgd : o.guard = none) (s x : Operand)
    (ho : o.op = .call { callee := .builtin .append, args := #[s, x], argTypes := #[50, 50] }) (base : Nat) (lv : Value) (ts : List ByteArray) (t : ByteArray) (hs : a.eval s = lv) (hown : OwnT w base lv ts)
    (g : Nat) (hx : a.eval x = .slice (some ⟨g, 0, none⟩) 1 1) (hg : w.cell? ⟨g, 0, none⟩ = some (.string t)) (hlen : ts.length ≤ 1000000) (hbase : base ≤ w.heap.size)
    (h : ∀ lv' w', OwnT w' base lv' (ts ++ [t]) → Below base w w' → wpList Try.prog ops Q rest (a.put o.dst lv') w') : wpList Try.prog ops Q (o :: rest) a w := by
  obtain ⟨i0, hi, hz0, hz1, hz2⟩ := info_parts Try.info9
  refine wpList_append_own w hgd s x 50 ho base 9 i0 (.string ByteArray.empty) 1 16 Try.underlying50 hi hz0 hz1 hz2 rfl (by decide) lv ts.length (ts.map Value.string) hs hown ⟨g, 0, none⟩ 1 1 [.string t] hx rfl ?_ (by simp [Value.oneCell']) (by unfold maxLen; omega) (by omega) hbase ?_
  · intro j u hu
    rw [add_plain, Nat.zero_add]
    match j, hu with
    | 0, hu => simp at hu; rw [hg, hu]
  · intro v' w' h1 h2 _
    refine h v' w' ?_ ((Below.refl base w).grown h2 hbase (fun k hk => (World.ownsRow.lt hown k hk).1))
    unfold OwnT
    rw [List.length_append, List.map_append]
    exact h1
theorem filter_le (q : PR → Bool) (ps : List PR) : (ps.filter q).length ≤ ps.length := List.length_filter_le _ _
set_option maxHeartbeats 4000000 in
theorem vals_any (d n : Int) (a : Option Addr) (cap : Nat) (ps : List PR) (k : ByteArray) (w : World) (hp : PV w a ps) (hl : ps.length ≤ 1000000) (hL : ∀ p ∈ ps, Lp p) (hcl : ps.length ≤ cap) (hcap : cap ≤ 9223372036854775807) :
    Calls Try.prog 23 #[bkv d n a ps.length cap, .string k] w fun e w' => ∃ a9 c9, e = .returned (.slice a9 (ps.filter (keyB k)).length c9) ∧ Below w.heap.size w w' := by
  obtain ⟨W0, hW0⟩ : ∃ W0, W0 = (w.alloc (.cells #[.int .i64 d, .int .i64 n, .slice a ps.length cap] 28)).alloc (.cells #[.string k] 9) := ⟨_, rfl⟩
  have HB0 : Hid (Below w.heap.size w W0) := by rw [hW0]; exact two_blocks _ _ _
  have HC : Hid (W0.cell? ⟨w.heap.size + 1, 0, none⟩ = some (.string k) ∧ w.heap.size + 1 < W0.heap.size) := by rw [hW0]; exact ⟨by go_simp, by simp⟩
  have TH : Hid (Calls Try.prog 50 #[.slice a ps.length cap, .func (.func 52) #[] #[.pointer (some ⟨w.heap.size + 1, 0, none⟩)]] W0 fun e w' => ∃ v, e = .returned v ∧ OwnQ w' W0.heap.size v (ps.filter (keyB k)) ∧ Below W0.heap.size W0 w') := those_any 52 _ _ a cap ps W0 (hp.below HB0.out) (asks52 HC.out.1 HC.out.2) hl hL hcl hcap
  have hfl := filter_le (keyB k) ps
  generalize ps.filter (keyB k) = fs at *
  unfold bkv
  clear hp
  go_enter Try.func23, Try.ntmps23
  go_wp2_with (go_at_call 50; rw [← hW0]; refine TH.out.mono ?_; rintro e w2 ⟨v, rfl, ho, hb2⟩; obtain ⟨a8, c8, rfl, _, hpv, _⟩ := ho.view)
  go_loopw [5, 13] (fun v i wr => ∃ (j : Nat) (ts : List ByteArray), j ≤ fs.length ∧ i = .int .i64 j ∧ Hid (ts.length = j) ∧ Hid (OwnT wr w2.heap.size v ts) ∧ Hid (Below w2.heap.size w2 wr)) (fun _ i _ => fs.length - (intOf i).toNat)
  case atStart => exact ⟨0, [], Nat.zero_le _, rfl, rfl, OwnT.nil _ _, Below.refl _ _⟩
  case round =>
    obtain ⟨j, ts, hj, rfl, HT, HO, HB⟩ := hrel
    by_cases hlt : j < fs.length
    · obtain h0 | ⟨b, off, rfl, hbl, hc⟩ := hpv.below HB.out
      · subst h0; simp at hlt
      obtain ⟨c0, c1⟩ := hc j hlt
      clear hc hpv ho
      generalize (fs.getD j default).1 = sk at *
      generalize (fs.getD j default).2 = sv at *
      go_wp2_with (at_builtin; refine wp_appT rfl _ _ rfl w2.heap.size _ ts sv rfl ((HO.out.below (one_block _ _)).below (one_block _ _)) _ rfl (by go_simp) (by have := HT.out; omega) (by have := HB.out.size; simp; omega) ?_; intro v' w3 ho3 hb3)
      go_roundw
      case rel => exact ⟨j + 1, ts ++ [sv], by omega, by go_num, by have := HT.out; simp [Hid, this], ho3, ((HB.out.alloc HB.out.size _).alloc (by have := HB.out.size; simp; omega) _).trans hb3⟩
      case measure => simp [intOf]; omega
    · have e1 : j = fs.length := by omega
      subst e1
      have hxx : ¬ ((fs.length : Int) < (fs.length : Int)) := by omega
      go_wp2
      obtain ⟨a9, c9, rfl⟩ := HO.out.len
      go_ret
      exact ⟨⟨a9, c9, by rw [← HT.out]; rfl⟩, bt HB0.out (bt hb2 HB.out)⟩
end Go.Proofs.Ytnnndkpmlpbpcaa
