/- The document's two; append onto bytes that are not one's own. -/
import Derived.Test.YtadnflaocgmfgaaRChk
import Derived.Test.YtadnflaocgmfgaaPuts2
import Derived.ArgAppend
namespace Go.Proofs.Ytadnflaocgmfgaa
open Go.RowKit
set_option linter.unusedVariables false
theorem dig2 (n : Int) : dig n 2 = [n / 256 % 256, n % 256] := by
  rw [dig_cons, dig_cons]
  simp [dig]
theorem dig1 (n : Int) (h0 : 0 ≤ n) (h1 : n < 256) : dig n 1 = [n] := by
  rw [dig_cons]
  simp [dig]
  omega
set_option maxHeartbeats 400000 in
theorem two_any (n : Int) (w : World) (h0 : 0 ≤ n) (h1 : n < 65536) : Calls Try.prog 21 #[.int .i64 n] w fun e w' => Laid w w' e (dig n 2) := by
  have hb : BV (w.alloc (.cells #[.int .u8 (n / 256), .int .u8 (n % 256)] 5)) (some ⟨w.heap.size, 0, none⟩) [n / 256, n % 256] := bv_lit w [n / 256, n % 256] (by intro z hz; simp at hz; omega) (0, 0)
  have B0 : Below w.heap.size w (w.alloc (.cells #[.int .u8 (n / 256), .int .u8 (n % 256)] 5)) := (Below.refl _ _).alloc (Nat.le_refl _) _
  have e2 : dig n 2 = [n / 256, n % 256] := by rw [dig2, show n / 256 % 256 = n / 256 by omega]
  rw [e2]
  have t1 : Int.tdiv n 256 = n / 256 := Int.tdiv_eq_ediv_of_nonneg h0
  have t2 : Int.tmod n 256 = n % 256 := Int.tmod_eq_emod_of_nonneg h0
  have w1 : IntKind.u8.wrap (n / 256) = n / 256 := by show (n / 256) % 256 = n / 256; omega
  have w2 : IntKind.u8.wrap (n % 256) = n % 256 := by show (n % 256) % 256 = n % 256; omega
  go_enter Try.func21, Try.ntmps21
  go_wp2
  go_ret
  exact ⟨_, _, rfl, ⟨hb, by intro h; cases h⟩, B0⟩
theorem wp_app_arg {ops : Array Oper} {rest : List Oper} {o : Oper} {a : Act} {Q : Exit → Act → World → Prop} {w : World} (hgd : o.guard = none) (s x : Operand)
    (ho : o.op = .call { callee := .builtin .append, args := #[s, x], argTypes := #[27, 27] }) (b off n cap : Nat) (zs ys : List Int) (hs : a.eval s = .slice (some ⟨b, off, none⟩) n cap) (hb : BV w (some ⟨b, off, none⟩) zs) (hzl : zs.length = n)
    (ad : Option Addr) (m c : Nat) (hx : a.eval x = .slice ad m c) (hv : BV w ad ys) (hyl : ys.length = m) (hm : 0 < m) (hcap : cap < n + m) (hlen : n + m ≤ 1000000)
    (h : ∀ v' w', Own w' w.heap.size v' (zs ++ ys) → Below w.heap.size w w' → wpList Try.prog ops Q rest (a.put o.dst v') w') : wpList Try.prog ops Q (o :: rest) a w := by
  obtain ⟨i0, hi, hz0, hz1, hz2⟩ := info_parts Try.info5
  obtain ⟨_, hv0 | ⟨b2, off2, rfl, hb2, hc2⟩⟩ := hv
  · subst hv0; simp at hyl; omega
  have hcz : ∀ i, i < zs.length → w.cell? ⟨b, off + i, none⟩ = some (.int .u8 (zs.getD i 0)) := by
    obtain ⟨_, rfl | ⟨b', off', e, _, hc⟩⟩ := hb
    · intro i hi; simp at hi
    · simp at e
      rw [e.1, e.2]; exact hc
  refine wpList_append_arg w hgd s x 27 ho 5 i0 (.int .u8 0) 1 1 Try.underlying27 hi hz0 hz1 hz2 rfl (by decide) b off n cap (zs.map (Value.int .u8)) hs (by simp [hzl]) ?_ ⟨b2, off2, none⟩ m c (ys.map (Value.int .u8)) hx (by simp [hyl]) ?_ (u8row ys) (fun hr => by omega) (by unfold maxLen; omega) (by omega) (fun hr => by omega) ?_
  · intro j u hu
    have hj : j < zs.length := by
      have := (List.getElem?_eq_some_iff.1 hu).1
      simpa using this
    rw [hcz j hj]
    rw [List.getElem?_map, List.getElem?_eq_getElem hj] at hu
    simp at hu
    rw [← hu, List.getD_eq_getElem?_getD, List.getElem?_eq_getElem hj]; rfl
  · intro j u hu
    have hj : j < ys.length := by
      have := (List.getElem?_eq_some_iff.1 hu).1
      simpa using this
    rw [add_plain, hc2 j hj]
    rw [List.getElem?_map, List.getElem?_eq_getElem hj] at hu
    simp at hu
    rw [← hu, List.getD_eq_getElem?_getD, List.getElem?_eq_getElem hj]; rfl
  · intro _ v' w' h1 h2
    refine h v' w' ?_ ((Below.refl _ _).grown h2 (Nat.le_refl _) (by intro k hk; cases hk))
    unfold Own
    rw [List.length_append, List.map_append, hzl, hyl]
    exact h1
end Go.Proofs.Ytadnflaocgmfgaa
