/- The document's numbers: two bytes each. -/
import Derived.Test.YtadnflaocgmfgaaArg
namespace Go.Proofs.Ytadnflaocgmfgaa
open Go.RowKit
set_option linter.unusedVariables false
set_option linter.unusedSimpArgs false
/-- n numbers of two bytes each, from the place t on. -/
def numS (zs : List Int) (t n : Nat) : List Int := (List.range n).map fun i => 256 * zs.getD (t + 2 * i) 0 + zs.getD (t + 2 * i + 1) 0
theorem numS_len (zs : List Int) (t n : Nat) : (numS zs t n).length = n := by simp [numS]
theorem numS_succ (zs : List Int) (t n : Nat) : numS zs t (n + 1) = numS zs t n ++ [256 * zs.getD (t + 2 * n) 0 + zs.getD (t + 2 * n + 1) 0] := by simp [numS, List.range_succ]
theorem OwnI.below {w w' : World} {base : Nat} {v : Value} {zs : List Int} (h : OwnI w base v zs) (hb : Below w.heap.size w w') : OwnI w' base v zs := by
  refine ⟨h.1, ?_⟩
  have hl := World.ownsRow.lt h
  rcases h.2 with hn | ⟨g, cap, cur, rfl, hbb, hg, rest⟩
  · exact .inl hn
  · exact .inr ⟨g, cap, cur, rfl, hbb, (hb.block g (hl g rfl).2).trans hg, rest⟩
theorem wp_appI {ops : Array Oper} {rest : List Oper} {o : Oper} {a : Act} {Q : Exit → Act → World → Prop} {w : World} (hgd : o.guard = none) (s x : Operand)
    (ho : o.op = .call { callee := .builtin .append, args := #[s, x], argTypes := #[22, 22] }) (base : Nat) (lv : Value) (l : List Int) (n : Int) (hs : a.eval s = lv) (hown : OwnI w base lv l)
    (g : Nat) (hx : a.eval x = .slice (some ⟨g, 0, none⟩) 1 1) (hg : w.heap[g]? = some (.cells #[.int .i64 n] 3 (0, 0))) (hlen : l.length ≤ 1000000) (hbase : base ≤ w.heap.size)
    (h : ∀ lv' w', OwnI w' base lv' (l ++ [n]) → Below base w w' → wpList Try.prog ops Q rest (a.put o.dst lv') w') : wpList Try.prog ops Q (o :: rest) a w := by
  obtain ⟨i0, hi, hz0, hz1, hz2⟩ := info_parts Try.info3
  refine wpList_append_own w hgd s x 22 ho base 3 i0 (.int .i64 0) 1 8 Try.underlying22 hi hz0 hz1 hz2 rfl (by decide) lv l.length (l.map (Value.int .i64)) hs hown ⟨g, 0, none⟩ 1 1 [.int .i64 n] hx rfl ?_ (by simp [Value.oneCell']) (by unfold maxLen; omega) (by omega) hbase ?_
  · intro j u hu
    rw [add_plain, Nat.zero_add, cell_of_row _ _ _ _ _ _ hg]
    simpa using hu
  · intro v' w' h1 h2 _
    refine h v' w' ?_ ((Below.refl base w).grown h2 hbase (fun k hk => (World.ownsRow.lt hown k hk).1))
    unfold OwnI
    rw [List.length_append, List.map_append]
    exact h1
theorem wrap_sm {z : Int} (h0 : 0 ≤ z) (h1 : z ≤ 9223372036854775807) : IntKind.i64.wrap z = z := by rw [IntKind.wrap_i64]; omega
theorem byte_at {zs : List Int} (h : AllB zs) (i : Nat) : 0 ≤ zs.getD i 0 ∧ zs.getD i 0 ≤ 255 := by
  rw [List.getD_eq_getElem?_getD]
  cases e : zs[i]? with
  | none => simp
  | some z => have := h z (List.mem_of_getElem? e); simp; omega
set_option maxHeartbeats 800000 in
theorem nums_any (g off t n cap : Nat) (zs : List Int) (w : World) (hb : BV w (some ⟨g, off, none⟩) zs) (hl : t + 2 * n ≤ zs.length) (hm : zs.length ≤ 1000) (m : Nat) (hzm : zs.length = m) :
    Calls Try.prog 33 #[.slice (some ⟨g, off, none⟩) m cap, .int .i64 t, .int .i64 n] w fun e w' => ∃ v, e = .returned v ∧ OwnI w' w.heap.size v (numS zs t n) ∧ Below w.heap.size w w' := by
  have hby := byte_at hb.1
  have HC : Hid (∀ i, i < zs.length → g < w.heap.size ∧ w.cell? ⟨g, off + i, none⟩ = some (.int .u8 (zs.getD i 0))) := by
    intro i hi
    rcases hb.2 with rfl | ⟨b', off', e, h1, h2⟩
    · cases hi
    · obtain ⟨rfl, rfl⟩ : g = b' ∧ off = off' := by simpa using e
      exact ⟨h1, h2 i hi⟩
  have HL : Hid (zs.length = m) := hzm
  have hl' : t + 2 * n ≤ m := by omega
  have hm' : m ≤ 1000 := by omega
  clear hb hl hm hzm
  go_enter Try.func33, Try.ntmps33
  go_wp2
  go_loopw [7, 8] (fun lv iv wr => ∃ k : Nat, k ≤ n ∧ iv = .int .i64 k ∧ Hid (OwnI wr w.heap.size lv (numS zs t k)) ∧ Hid (Below w.heap.size w wr)) (fun _ iv _ => n - (intOf iv).toNat)
  case atStart => exact ⟨0, Nat.zero_le _, rfl, World.ownsRow_nil _ _ _ _, Below.refl _ _⟩
  case round =>
    obtain ⟨k, hk, rfl, HB, HW⟩ := hrel
    by_cases hlt : k < n
    · obtain ⟨hg, c0⟩ := HC.out (t + 2 * k) (by have := HL.out; omega)
      obtain ⟨_, c1⟩ := HC.out (t + 2 * k + 1) (by have := HL.out; omega)
      have HT : Hid (numS zs t (k + 1) = numS zs t k ++ [256 * zs.getD (t + 2 * k) 0 + zs.getD (t + 2 * k + 1) 0]) := numS_succ zs t k
      have HLE : Hid ((numS zs t k).length ≤ 1000000) := by
        have := numS_len zs t k
        show (numS zs t k).length ≤ 1000000
        omega
      have hws : w.heap.size ≤ wr.heap.size := HW.out.size
      have b0 := hby (t + 2 * k)
      have b1 := hby (t + 2 * k + 1)
      clear HC hby
      generalize zs.getD (t + 2 * k) 0 = x at *
      generalize zs.getD (t + 2 * k + 1) 0 = y at *
      go_wp2_with fail
      obtain ⟨i0, hi, hz0, hz1, hz2⟩ := info_parts Try.info3
      have e1 : IntKind.i64.wrap (2 * (k : Int)) = 2 * k := wrap_sm (by omega) (by omega)
      have e2 : IntKind.i64.wrap ((t : Int) + 2 * k) = t + 2 * k := wrap_sm (by omega) (by omega)
      have e3 : IntKind.i64.wrap ((t : Int) + 2 * k + 1) = t + 2 * k + 1 := wrap_sm (by omega) (by omega)
      have e4 : IntKind.i64.wrap x = x := wrap_sm (by omega) (by omega)
      have e5 : IntKind.i64.wrap (256 * x) = 256 * x := wrap_sm (by omega) (by omega)
      have e6 : IntKind.i64.wrap (256 * x + y) = 256 * x + y := wrap_sm (by omega) (by omega)
      have e7 : IntKind.i64.wrap y = y := wrap_sm (by omega) (by omega)
      have f1 : ((t : Int) + 2 * k).toNat = t + 2 * k := by omega
      have f2 : ((t : Int) + 2 * k + 1).toNat = t + 2 * k + 1 := by omega
      have i1 : (t : Int) + 2 * k < m := by omega
      have i2 : (t : Int) + 2 * k + 1 < m := by omega
      have i3 : 0 ≤ (t : Int) + 2 * k := by omega
      have i4 : 0 ≤ (t : Int) + 2 * k + 1 := by omega
      refine wp_region_noPanic ?_
      refine name_ops ?_
      intro O QQ HO HQ
      refine wp_region_held_drew (S := fun W' => Below w.heap.size w W') (by kernel_rfl) HW.out.drew (fun hS => ?_)
      rw [show O.size = 23 by rw [HO.out]; rfl]
      refine wpAnyH_take (i := 0) (v := u7) (by rw [HO.out]; simp only [List.getElem?_toArray, List.getElem?_cons_succ, List.getElem?_cons_zero]; rfl) (by rw [HO.out]; kernel_rfl) (by rw [HO.out]; kernel_rfl) (by rw [HO.out]; kernel_rfl) (by rw [HQ.out]; exact fun _ _ _ h => h) (Or.inl ⟨by rfl, ?_⟩) hS ?_
      · intro w' hSw
        go_simp
      try simp only [Act.put, List.setIfInBounds_toArray, List.set_cons_zero, List.set_cons_succ]
      refine wpAnyH_take (i := 1) (v := .slice (some ⟨g, off, none⟩) m cap) (by rw [HO.out]; simp only [List.getElem?_toArray, List.getElem?_cons_succ, List.getElem?_cons_zero]; rfl) (by rw [HO.out]; kernel_rfl) (by rw [HO.out]; kernel_rfl) (by rw [HO.out]; kernel_rfl) (by rw [HQ.out]; exact fun _ _ _ h => h) (Or.inl ⟨by rfl, ?_⟩) hS ?_
      · intro w' hSw
        go_simp
      try simp only [Act.put, List.setIfInBounds_toArray, List.set_cons_zero, List.set_cons_succ]
      refine wpAnyH_take (i := 2) (v := .int .i64 t) (by rw [HO.out]; simp only [List.getElem?_toArray, List.getElem?_cons_succ, List.getElem?_cons_zero]; rfl) (by rw [HO.out]; kernel_rfl) (by rw [HO.out]; kernel_rfl) (by rw [HO.out]; kernel_rfl) (by rw [HQ.out]; exact fun _ _ _ h => h) (Or.inl ⟨by rfl, ?_⟩) hS ?_
      · intro w' hSw
        go_simp
      try simp only [Act.put, List.setIfInBounds_toArray, List.set_cons_zero, List.set_cons_succ]
      refine wpAnyH_take (i := 3) (v := .int .i64 k) (by rw [HO.out]; simp only [List.getElem?_toArray, List.getElem?_cons_succ, List.getElem?_cons_zero]; rfl) (by rw [HO.out]; kernel_rfl) (by rw [HO.out]; kernel_rfl) (by rw [HO.out]; kernel_rfl) (by rw [HQ.out]; exact fun _ _ _ h => h) (Or.inl ⟨by rfl, ?_⟩) hS ?_
      · intro w' hSw
        go_simp
      try simp only [Act.put, List.setIfInBounds_toArray, List.set_cons_zero, List.set_cons_succ]
      refine wpAnyH_take (i := 4) (v := .int .i64 (2 * (k : Int))) (by rw [HO.out]; simp only [List.getElem?_toArray, List.getElem?_cons_succ, List.getElem?_cons_zero]; rfl) (by rw [HO.out]; kernel_rfl) (by rw [HO.out]; kernel_rfl) (by rw [HO.out]; kernel_rfl) (by rw [HQ.out]; exact fun _ _ _ h => h) (Or.inl ⟨by rfl, ?_⟩) hS ?_
      · intro w' hSw
        go_simp
      try simp only [Act.put, List.setIfInBounds_toArray, List.set_cons_zero, List.set_cons_succ]
      refine wpAnyH_take (i := 5) (v := .int .i64 ((t : Int) + 2 * k)) (by rw [HO.out]; simp only [List.getElem?_toArray, List.getElem?_cons_succ, List.getElem?_cons_zero]; rfl) (by rw [HO.out]; kernel_rfl) (by rw [HO.out]; kernel_rfl) (by rw [HO.out]; kernel_rfl) (by rw [HQ.out]; exact fun _ _ _ h => h) (Or.inl ⟨by rfl, ?_⟩) hS ?_
      · intro w' hSw
        go_simp
      try simp only [Act.put, List.setIfInBounds_toArray, List.set_cons_zero, List.set_cons_succ]
      refine wpAnyH_take (i := 6) (v := .pointer (some ⟨g, off + (t + 2 * k), none⟩)) (by rw [HO.out]; simp only [List.getElem?_toArray, List.getElem?_cons_succ, List.getElem?_cons_zero]; rfl) (by rw [HO.out]; kernel_rfl) (by rw [HO.out]; kernel_rfl) (by rw [HO.out]; kernel_rfl) (by rw [HQ.out]; exact fun _ _ _ h => h) (Or.inl ⟨by rfl, ?_⟩) hS ?_
      · intro w' hSw
        go_simp
      try simp only [Act.put, List.setIfInBounds_toArray, List.set_cons_zero, List.set_cons_succ]
      refine wpAnyH_take (i := 7) (v := .int .u8 x) (by rw [HO.out]; simp only [List.getElem?_toArray, List.getElem?_cons_succ, List.getElem?_cons_zero]; rfl) (by rw [HO.out]; kernel_rfl) (by rw [HO.out]; kernel_rfl) (by rw [HO.out]; kernel_rfl) (by rw [HQ.out]; exact fun _ _ _ h => h) (Or.inl ⟨by rfl, ?_⟩) hS ?_
      · intro w' hSw
        have q := (hSw.cell (p := ⟨g, off + (t + 2 * k), none⟩) hg).trans c0
        go_simp
      try simp only [Act.put, List.setIfInBounds_toArray, List.set_cons_zero, List.set_cons_succ]
      refine wpAnyH_take (i := 8) (v := .int .i64 x) (by rw [HO.out]; simp only [List.getElem?_toArray, List.getElem?_cons_succ, List.getElem?_cons_zero]; rfl) (by rw [HO.out]; kernel_rfl) (by rw [HO.out]; kernel_rfl) (by rw [HO.out]; kernel_rfl) (by rw [HQ.out]; exact fun _ _ _ h => h) (Or.inl ⟨by rfl, ?_⟩) hS ?_
      · intro w' hSw
        go_simp
      try simp only [Act.put, List.setIfInBounds_toArray, List.set_cons_zero, List.set_cons_succ]
      refine wpAnyH_take (i := 9) (v := .int .i64 (256 * x)) (by rw [HO.out]; simp only [List.getElem?_toArray, List.getElem?_cons_succ, List.getElem?_cons_zero]; rfl) (by rw [HO.out]; kernel_rfl) (by rw [HO.out]; kernel_rfl) (by rw [HO.out]; kernel_rfl) (by rw [HQ.out]; exact fun _ _ _ h => h) (Or.inl ⟨by rfl, ?_⟩) hS ?_
      · intro w' hSw
        go_simp
      try simp only [Act.put, List.setIfInBounds_toArray, List.set_cons_zero, List.set_cons_succ]
      refine wpAnyH_take (i := 10) (v := .slice (some ⟨g, off, none⟩) m cap) (by rw [HO.out]; simp only [List.getElem?_toArray, List.getElem?_cons_succ, List.getElem?_cons_zero]; rfl) (by rw [HO.out]; kernel_rfl) (by rw [HO.out]; kernel_rfl) (by rw [HO.out]; kernel_rfl) (by rw [HQ.out]; exact fun _ _ _ h => h) (Or.inl ⟨by rfl, ?_⟩) hS ?_
      · intro w' hSw
        go_simp
      try simp only [Act.put, List.setIfInBounds_toArray, List.set_cons_zero, List.set_cons_succ]
      refine wpAnyH_take (i := 11) (v := .int .i64 t) (by rw [HO.out]; simp only [List.getElem?_toArray, List.getElem?_cons_succ, List.getElem?_cons_zero]; rfl) (by rw [HO.out]; kernel_rfl) (by rw [HO.out]; kernel_rfl) (by rw [HO.out]; kernel_rfl) (by rw [HQ.out]; exact fun _ _ _ h => h) (Or.inl ⟨by rfl, ?_⟩) hS ?_
      · intro w' hSw
        go_simp
      try simp only [Act.put, List.setIfInBounds_toArray, List.set_cons_zero, List.set_cons_succ]
      refine wpAnyH_take (i := 12) (v := .int .i64 k) (by rw [HO.out]; simp only [List.getElem?_toArray, List.getElem?_cons_succ, List.getElem?_cons_zero]; rfl) (by rw [HO.out]; kernel_rfl) (by rw [HO.out]; kernel_rfl) (by rw [HO.out]; kernel_rfl) (by rw [HQ.out]; exact fun _ _ _ h => h) (Or.inl ⟨by rfl, ?_⟩) hS ?_
      · intro w' hSw
        go_simp
      try simp only [Act.put, List.setIfInBounds_toArray, List.set_cons_zero, List.set_cons_succ]
      refine wpAnyH_take (i := 13) (v := .int .i64 (2 * (k : Int))) (by rw [HO.out]; simp only [List.getElem?_toArray, List.getElem?_cons_succ, List.getElem?_cons_zero]; rfl) (by rw [HO.out]; kernel_rfl) (by rw [HO.out]; kernel_rfl) (by rw [HO.out]; kernel_rfl) (by rw [HQ.out]; exact fun _ _ _ h => h) (Or.inl ⟨by rfl, ?_⟩) hS ?_
      · intro w' hSw
        go_simp
      try simp only [Act.put, List.setIfInBounds_toArray, List.set_cons_zero, List.set_cons_succ]
      refine wpAnyH_take (i := 14) (v := .int .i64 ((t : Int) + 2 * k)) (by rw [HO.out]; simp only [List.getElem?_toArray, List.getElem?_cons_succ, List.getElem?_cons_zero]; rfl) (by rw [HO.out]; kernel_rfl) (by rw [HO.out]; kernel_rfl) (by rw [HO.out]; kernel_rfl) (by rw [HQ.out]; exact fun _ _ _ h => h) (Or.inl ⟨by rfl, ?_⟩) hS ?_
      · intro w' hSw
        go_simp
      try simp only [Act.put, List.setIfInBounds_toArray, List.set_cons_zero, List.set_cons_succ]
      refine wpAnyH_take (i := 15) (v := .int .i64 ((t : Int) + 2 * k + 1)) (by rw [HO.out]; simp only [List.getElem?_toArray, List.getElem?_cons_succ, List.getElem?_cons_zero]; rfl) (by rw [HO.out]; kernel_rfl) (by rw [HO.out]; kernel_rfl) (by rw [HO.out]; kernel_rfl) (by rw [HQ.out]; exact fun _ _ _ h => h) (Or.inl ⟨by rfl, ?_⟩) hS ?_
      · intro w' hSw
        go_simp
      try simp only [Act.put, List.setIfInBounds_toArray, List.set_cons_zero, List.set_cons_succ]
      refine wpAnyH_take (i := 16) (v := .pointer (some ⟨g, off + (t + 2 * k + 1), none⟩)) (by rw [HO.out]; simp only [List.getElem?_toArray, List.getElem?_cons_succ, List.getElem?_cons_zero]; rfl) (by rw [HO.out]; kernel_rfl) (by rw [HO.out]; kernel_rfl) (by rw [HO.out]; kernel_rfl) (by rw [HQ.out]; exact fun _ _ _ h => h) (Or.inl ⟨by rfl, ?_⟩) hS ?_
      · intro w' hSw
        go_simp
      try simp only [Act.put, List.setIfInBounds_toArray, List.set_cons_zero, List.set_cons_succ]
      refine wpAnyH_take (i := 17) (v := .int .u8 y) (by rw [HO.out]; simp only [List.getElem?_toArray, List.getElem?_cons_succ, List.getElem?_cons_zero]; rfl) (by rw [HO.out]; kernel_rfl) (by rw [HO.out]; kernel_rfl) (by rw [HO.out]; kernel_rfl) (by rw [HQ.out]; exact fun _ _ _ h => h) (Or.inl ⟨by rfl, ?_⟩) hS ?_
      · intro w' hSw
        have q := (hSw.cell (p := ⟨g, off + (t + 2 * k + 1), none⟩) hg).trans c1
        go_simp
      try simp only [Act.put, List.setIfInBounds_toArray, List.set_cons_zero, List.set_cons_succ]
      refine wpAnyH_take (i := 18) (v := .int .i64 y) (by rw [HO.out]; simp only [List.getElem?_toArray, List.getElem?_cons_succ, List.getElem?_cons_zero]; rfl) (by rw [HO.out]; kernel_rfl) (by rw [HO.out]; kernel_rfl) (by rw [HO.out]; kernel_rfl) (by rw [HQ.out]; exact fun _ _ _ h => h) (Or.inl ⟨by rfl, ?_⟩) hS ?_
      · intro w' hSw
        go_simp
      try simp only [Act.put, List.setIfInBounds_toArray, List.set_cons_zero, List.set_cons_succ]
      refine wpAnyH_take (i := 19) (v := .int .i64 (256 * x + y)) (by rw [HO.out]; simp only [List.getElem?_toArray, List.getElem?_cons_succ, List.getElem?_cons_zero]; rfl) (by rw [HO.out]; kernel_rfl) (by rw [HO.out]; kernel_rfl) (by rw [HO.out]; kernel_rfl) (by rw [HQ.out]; exact fun _ _ _ h => h) (Or.inl ⟨by rfl, ?_⟩) hS ?_
      · intro w' hSw
        go_simp
      try simp only [Act.put, List.setIfInBounds_toArray, List.set_cons_zero, List.set_cons_succ]
      refine wpAnyH_ready (rs := [20]) (by rw [HO.out]; kernel_rfl) (by simp) ?_
      refine AllReadyH.cons (o := _) (by rw [HO.out]; simp only [List.getElem?_toArray, List.getElem?_cons_succ, List.getElem?_cons_zero]; rfl) (fun K20 hK20 => ?_) AllReadyH.nil
      go_simp
      have hb1 : Below wr.heap.size wr (wr.drew.alloc (.cells #[.int .i64 (256 * x + y)] 3 (0, 0))) := (Below.refl _ _).drew.trans ((Below.refl _ _).alloc (by simp) _)
      refine hK20.out _ _ (HW.out.trans (hb1.mono hws)) (fun hS1 => ?_)
      try simp only [Act.put, List.setIfInBounds_toArray, List.set_cons_zero, List.set_cons_succ]
      refine wpAnyH_ready (rs := [21]) (by rw [HO.out]; kernel_rfl) (by simp) ?_
      refine AllReadyH.cons (o := _) (by rw [HO.out]; simp only [List.getElem?_toArray, List.getElem?_cons_succ, List.getElem?_cons_zero]; rfl) (fun K21 hK21 => ?_) AllReadyH.nil
      rw [if_pos (by rfl)]
      refine wp_append_own _ _ _ 22 rfl w.heap.size 3 i0 (.int .i64 0) 1 8 Try.underlying22 hi hz0 hz1 hz2 rfl (by decide) u7 (numS zs t k).length ((numS zs t k).map (Value.int .i64)) rfl (HB.out.below hb1) ⟨wr.drew.heap.size, 0, none⟩ 1 1 [.int .i64 (256 * x + y)] rfl rfl ?_ (by simp [Value.oneCell']) (by have := HLE.out; unfold maxLen; omega) (by have := HLE.out; omega) (by simp; omega) ?_
      · intro j u hu
        rw [add_plain, Nat.zero_add]
        show (wr.drew.alloc (.cells #[.int .i64 (256 * x + y)] 3 (0, 0))).cell? ⟨wr.drew.heap.size, j, none⟩ = some u
        rw [cell_of_row _ _ _ _ _ _ (heap_alloc_last _ _)]
        simpa using hu
      intro v' w2 ho2 hg2 _
      have HG2 : Hid (Below w.heap.size w w2) := HW.out.trans ((hb1.mono hws).trans ((Below.refl w.heap.size _).grown hg2 (by simp; omega) (fun j hj => (World.ownsRow.lt (HB.out) j hj).1)))
      have HO2 : Hid (OwnI w2 w.heap.size v' (numS zs t (k + 1))) := by
        rw [HT.out]
        show World.ownsRow _ _ _ _ _ _ _
        rw [List.length_append, List.map_append]
        exact ho2
      clear ho2 hg2
      refine hK21.out _ _ HG2.out (fun hS2 => ?_)
      try simp only [Act.put, List.setIfInBounds_toArray, List.set_cons_zero, List.set_cons_succ]
      refine wpAnyH_ready (rs := [22]) (by rw [HO.out]; kernel_rfl) (by simp) ?_
      refine AllReadyH.cons (o := _) (by rw [HO.out]; simp only [List.getElem?_toArray, List.getElem?_cons_succ, List.getElem?_cons_zero]; rfl) (fun K22 hK22 => ?_) AllReadyH.nil
      go_simp
      refine hK22.out _ _ hS2 (fun _ => ?_)
      refine wpAnyH_done (by rw [HO.out]; kernel_rfl) ?_ _
      rw [HQ.out]
      refine NoPanic.normal ?_
      go_wp2
      go_roundw
      case rel => exact ⟨k + 1, by omega, by go_num, HO2.out, HG2.out⟩
      case measure => simp [intOf]; omega
    · have e : k = n := by omega
      subst e
      go_wp2
      go_ret
      exact ⟨_, rfl, HB.out, HW.out⟩
end Go.Proofs.Ytadnflaocgmfgaa
