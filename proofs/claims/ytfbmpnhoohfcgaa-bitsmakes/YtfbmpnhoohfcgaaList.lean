/- The list of a set's numbers, of the program; the document's looks at a set. -/
import Derived.Test.YtfbmpnhoohfcgaaLook
namespace Go.Proofs.Ytfbmpnhoohfcgaa
open Go.RowKit

theorem Try.info3 : (Try.prog.info? 3).map (fun i => (i.zero, i.size, i.bytes)) = some (some (.int .i64 0), 1, 8) := by kernel_rfl
/-- v is a new slice of these numbers. -/
def OwnN (w : World) (base : Nat) (v : Value) (l : List Nat) : Prop := w.ownsRow base 3 1 v l.length (l.map fun n : Nat => Value.int .i64 (n : Int))
theorem OwnN.below {w w' : World} {base : Nat} {v : Value} {l : List Nat} (h : OwnN w base v l) (hb : Below w.heap.size w w') : OwnN w' base v l := by
  refine ⟨h.1, ?_⟩
  have hl := World.ownsRow.lt h
  rcases h.2 with hn | ⟨g, cap, cur, rfl, hbb, hg, rest⟩
  · exact .inl hn
  · exact .inr ⟨g, cap, cur, rfl, hbb, (hb.block g (hl g rfl).2).trans hg, rest⟩
theorem heap_last (w : World) (o : Obj) : (w.alloc o).heap[w.heap.size]? = some o := by first | exact heap_alloc_new _ _ | exact heap_alloc_last _ _
theorem wp_appN {ops : Array Oper} {rest : List Oper} {o : Oper} {a : Act} {Q : Exit → Act → World → Prop} {w : World} (hgd : o.guard = none) (s x : Operand)
    (ho : o.op = .call { callee := .builtin .append, args := #[s, x], argTypes := #[28, 28] }) (base : Nat) (lv : Value) (l : List Nat) (n : Nat) (hs : a.eval s = lv) (hown : OwnN w base lv l)
    (g : Nat) (hx : a.eval x = .slice (some ⟨g, 0, none⟩) 1 1) (hg : w.heap[g]? = some (.cells #[.int .i64 (n : Int)] 3 (0, 0))) (hlen : l.length ≤ 10000000) (hbase : base ≤ w.heap.size)
    (h : ∀ lv' w', OwnN w' base lv' (l ++ [n]) → Below base w w' → wpList Try.prog ops Q rest (a.put o.dst lv') w') : wpList Try.prog ops Q (o :: rest) a w := by
  obtain ⟨i0, hi, hz0, hz1, hz2⟩ := info_parts Try.info3
  refine wpList_append_own w hgd s x 28 ho base 3 i0 (.int .i64 0) 1 8 Try.underlying28 hi hz0 hz1 hz2 rfl (by decide) lv l.length (l.map fun n : Nat => Value.int .i64 (n : Int)) hs hown ⟨g, 0, none⟩ 1 1 [.int .i64 (n : Int)] hx rfl ?_ (by simp [Value.oneCell']) (by unfold maxLen; omega) (by omega) hbase ?_
  · intro j u hu
    rw [add_plain, Nat.zero_add, cell_of_row _ _ _ _ _ _ hg]
    simpa using hu
  · intro v' w' h1 h2 _
    refine h v' w' ?_ ((Below.refl base w).grown h2 hbase (fun k hk => (World.ownsRow.lt hown k hk).1))
    unfold OwnN
    rw [List.length_append, List.map_append]
    exact h1
theorem has_c {a : Option Addr} {cap : Nat} {zs : List Int} (n : Nat) (W : World) (hb : BV W a zs) (hn : zs.length ≤ 1000000) :
    Calls Try.prog 11 #[.slice a zs.length cap, .int .i64 (n : Int)] W fun e w' => e = .returned (.bool (hasB zs n)) ∧ Below W.heap.size W w' := by
  have := has_any a cap zs (n : Int) W hb hn
  rw [hasI_nat] at this
  refine this.mono ?_
  rintro e w' ⟨rfl, k, rfl⟩
  exact ⟨rfl, below_drewN (Below.refl _ _) _⟩
set_option maxHeartbeats 800000 in
theorem list_any (a : Option Addr) (cap : Nat) (zs : List Int) (w : World) (hb : BV w a zs) (hn : zs.length ≤ 1000000) :
    Calls Try.prog 14 #[.slice a zs.length cap] w fun e w' => ∃ v, e = .returned v ∧ OwnN w' w.heap.size v (listS zs) ∧ Below w.heap.size w w' := by
  have HH : Hid (∀ (n : Nat) (W : World), Below w.heap.size w W → Calls Try.prog 11 #[.slice a zs.length cap, .int .i64 (n : Int)] W fun e w' => e = .returned (.bool (hasB zs n)) ∧ Below W.heap.size W w') := fun n W hW => has_c n W (hb.below hW) hn
  have HR : Hid (∀ w, Calls Try.prog 25 #[.slice a zs.length cap] w fun e w' => e = .returned (.int .i64 ((zs.length : Int) * 8)) ∧ w' = w) := fun w => room_any a zs.length cap w hn
  clear hb
  unfold listS
  go_enter Try.func14, Try.ntmps14
  go_wp2_with (first | (go_at_call 25; refine (HR.out _).mono ?_; rintro e w' ⟨rfl, hw⟩; obtain rfl := hw.symm) | fail)
  go_loopw [3, 7] (fun lv iv wr => ∃ k : Nat, k ≤ 8 * zs.length ∧ iv = .int .i64 k ∧ Hid (OwnN wr w.heap.size lv ((List.range k).filter (hasB zs))) ∧ Hid (Below w.heap.size w wr)) (fun _ iv _ => 8 * zs.length - (intOf iv).toNat)
  case atStart => exact ⟨0, Nat.zero_le _, rfl, World.ownsRow_nil _ _ _ _, Below.refl _ _⟩
  case round =>
    obtain ⟨k, hk, rfl, HO, HB⟩ := hrel
    by_cases hlt : k < 8 * zs.length
    · have hd : decide ((k : Int) < (zs.length : Int) * 8) = true := by simp; omega
      have HC := HH.out k wr HB.out
      have HN : Hid ((List.range (k + 1)).filter (hasB zs) = (List.range k).filter (hasB zs) ++ (if hasB zs k = true then [k] else [])) := range_filter _ k
      have HLE : Hid (((List.range k).filter (hasB zs)).length ≤ 10000000) := by
        have e := len_filter (hasB zs) k
        have : ((List.range k).filter (hasB zs)).length ≤ 10000000 := by omega
        exact this
      cases hh : hasB zs k
      · rw [hh] at HC
        rw [hh] at HN
        simp only [Bool.false_eq_true, if_false, List.append_nil] at HN
        go_wp2_with (first | (go_at_call 11; refine HC.mono ?_; rintro e w1 ⟨rfl, hb1⟩) | fail)
        go_roundw
        case rel => exact ⟨k + 1, by omega, by go_num, by rw [HN.out]; exact HO.out.below hb1, HB.out.trans (hb1.mono HB.out.size)⟩
        case measure => simp [intOf]; omega
      · rw [hh] at HC
        rw [hh] at HN
        simp only [if_true] at HN
        go_wp2_with (first
          | (go_at_call 11; refine HC.mono ?_; rintro e w1 ⟨rfl, hb1⟩)
          | (at_builtin; refine wp_appN rfl _ _ rfl w.heap.size _ ((List.range k).filter (hasB zs)) k rfl (HO.out.below (hb1.alloc (by have := hb1.size; omega) _)) _ rfl (heap_last _ _) HLE.out (by have := hb1.size; have := HB.out.size; simp; omega) ?_; intro lv' w2 hB2 hb2)
          | fail)
        go_roundw
        case rel => exact ⟨k + 1, by omega, by go_num, by rw [HN.out]; exact hB2, (HB.out.trans (hb1.mono HB.out.size)).trans (((Below.refl _ _).alloc (by have := hb1.size; have := HB.out.size; omega) _).trans hb2)⟩
        case measure => simp [intOf]; omega
    · have hd : decide ((k : Int) < (zs.length : Int) * 8) = false := by simp; omega
      have HE : Hid (OwnN wr w.heap.size u3 ((List.range (8 * zs.length)).filter (hasB zs))) := by
        have hk8 : 8 * zs.length = k := by omega
        rw [hk8]; exact HO.out
      go_wp2
      go_ret
      exact ⟨_, rfl, HE.out, HB.out⟩

/-! ### the document's -/
theorem half (k r : Nat) (h : k < r) (hr : r < 8) : ((2 ^ (7 - k) : Nat) : Int) / 2 = ((2 ^ (7 - (k + 1)) : Nat) : Int) := by
  have e : 7 - k = (7 - (k + 1)) + 1 := by omega
  have : 2 ^ (7 - k) = 2 ^ (7 - (k + 1)) * 2 := by rw [e, Nat.pow_succ]
  rw [this]; omega
set_option maxHeartbeats 800000 in
theorem power_any (n : Nat) (w : World) :
    Calls Try.prog 28 #[.int .i64 (n : Int)] w fun e w' => e = .returned (.int .u8 (pw n : Nat)) ∧ w' = w := by
  obtain ⟨r, hr, hr8⟩ : ∃ r, n % 8 = r ∧ r < 8 := ⟨_, rfl, by omega⟩
  have hm : ((n : Int) % 8) = (r : Int) := by omega
  have HP : Hid (2 ^ (7 - r) = pw n) := by have : 2 ^ (7 - r) = pw n := (by unfold pw; rw [hr]); exact this
  go_enter Try.func28, Try.ntmps28
  go_wp2
  go_loop [3, 4] (fun pv iv => ∃ k x : Nat, k ≤ r ∧ iv = .int .i64 k ∧ pv = .int .u8 x ∧ Hid (2 ^ (7 - k) = x)) (fun _ iv => r - (intOf iv).toNat)
  case atStart => exact ⟨0, 128, Nat.zero_le _, rfl, rfl, rfl⟩
  case round =>
    obtain ⟨k, x, hk, rfl, rfl, HX⟩ := hrel
    by_cases hlt : k < r
    · have hd : decide ((k : Int) < (r : Int)) = true := by simp; omega
      have hh := half k r hlt hr8
      rw [HX.out] at hh
      obtain ⟨y, hy⟩ : ∃ y, 2 ^ (7 - (k + 1)) = y := ⟨_, rfl⟩
      rw [hy] at hh
      have hx := pw_lt (7 - k) (by omega)
      rw [HX.out] at hx
      go_wp2
      go_round
      case rel => exact ⟨k + 1, y, by omega, by go_num, by rw [← hh], hy⟩
      case measure => simp [intOf]; omega
    · have hd : decide ((k : Int) < (r : Int)) = false := by simp; omega
      have hkr : k = r := by omega
      have HX2 : Hid (pw n = x) := by rw [← hkr] at HP; exact HP.out.symm.trans HX.out
      clear hkr
      go_wp2
      go_ret
      exact ⟨by rw [HX2.out]; rfl, rfl⟩
theorem rhas_eq (z k : Nat) : (((z : Int) / ((2 ^ k : Nat) : Int) % 2) == 1) = z.testBit k := by
  rw [Nat.testBit_eq_decide_div_mod_eq, ← Int.natCast_ediv]
  generalize z / 2 ^ k = q
  by_cases h : q % 2 = 1
  · simp [h]; omega
  · simp [h]; omega
set_option maxHeartbeats 800000 in
theorem rhas_any (a : Option Addr) (cap : Nat) (zs : List Int) (i : Int) (w : World) (hb : BV w a zs) (hn : zs.length ≤ 1000000) (hi : i ≤ 9223372036854775807) :
    Calls Try.prog 12 #[.slice a zs.length cap, .int .i64 i] w fun e w' => e = .returned (.bool (hasI zs i)) ∧ ∃ m, w' = w.drewN m := by
  by_cases h0 : 0 ≤ i
  · obtain ⟨n, rfl⟩ : ∃ n : Nat, i = (n : Int) := ⟨i.toNat, by omega⟩
    by_cases hn8 : n < 8 * zs.length
    · have HB := power_any n
      obtain ⟨b, off, rfl, hlt, hc⟩ := hb.at (n / 8) (by omega)
      have hz := hb.1.getD (n / 8)
      have hne := rhas_eq (byt zs n) (7 - n % 8)
      have hby : ((byt zs n : Nat) : Int) = zs.getD (n / 8) 0 := by unfold byt; omega
      rw [hby] at hne
      have HN : ((zs.getD (n / 8) 0) / ((pw n : Nat) : Int) % 2 == 1) = hasI zs n := by
        rw [hasI_nat]
        unfold hasB
        rw [← hne]
        rfl
      have hpw0 : (0 : Int) < (pw n : Nat) := by
        have : 0 < pw n := Nat.two_pow_pos _
        omega
      have hpw1 : ((pw n : Nat) : Int) < 256 := by
        have : pw n < 256 := pw_lt _ (by omega)
        omega
      generalize zs.getD (n / 8) 0 = z at *
      generalize pw n = p at *
      have hq2 : ((n : Int) / 8).toNat = n / 8 := by omega
      have hlq : (n : Int) / 8 < (zs.length : Int) := by omega
      have hdq : decide ((n : Int) / 8 < (zs.length : Int)) = true := by simpa using hlq
      have hlq0 : 0 ≤ (n : Int) / 8 := by omega
      have hpne : (((p : Nat) : Int) == 0) = false := by simp; omega
      rw [← Int.tmod_eq_emod_of_nonneg (Int.ediv_nonneg hz.1 (by omega))] at HN
      clear hne hby
      go_enter Try.func12, Try.ntmps12
      go_wp2
      go_quiet (first | (go_at_call 28; exact Calls.quiet_of_same (HB _)))
      go_wp2
      go_ret
      exact ⟨by rw [← HN]; rfl, _, rfl⟩
    · have hh : hasI zs n = false := by rw [hasI_nat]; exact hasB_out (by omega)
      rw [hh]
      have hdq : decide ((n : Int) / 8 < (zs.length : Int)) = false := by simp; omega
      have hwr : IntKind.i64.wrap ((n : Int) / 8) = (n : Int) / 8 := by rw [IntKind.wrap_i64]; omega
      go_enter Try.func12, Try.ntmps12
      go_wp2
      go_quiet (fail)
      go_wp2
      go_ret
      exact ⟨rfl, _, rfl⟩
  · have hh : hasI zs i = false := by unfold hasI; simp [h0]
    rw [hh]
    have hd : decide (0 ≤ i) = false := by simpa using h0
    go_enter Try.func12, Try.ntmps12
    go_wp2
    go_quiet (fail)
    go_wp2
    go_ret
    exact ⟨rfl, _, rfl⟩
end Go.Proofs.Ytfbmpnhoohfcgaa
