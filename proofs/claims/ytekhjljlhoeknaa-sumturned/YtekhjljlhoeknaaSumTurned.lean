/- For all bytes, every place and every change the call SumTurned of the statements returns true and its arguments read as they did: no condition. -/
import Derived.Test.YtekhjljlhoeknaaAwake
import Derived.Test.YtekhjljlhoeknaaRows
import Derived.WalkKit
import Derived.ProofKit
import Derived.OpenShut
import Derived.ShutString
import Derived.ChangeOld
import Derived.Below
namespace Go.Proofs.Ytekhjljlhoeknaa.sumTurned
open Go.ChangeShapes Go.WideShapes Go.ChangeAt Go.RowKit
open Go.ChangeMaps (open_string shut_string)
set_option linter.unusedVariables false

theorem own : ownKnob Try.prog.godebug = none := by kernel_rfl
theorem laidOut : laidOutB Try.prog = true := by kernel_rfl

/-- WHAT THE WALK IS TOLD OF A SLICE OF INTEGERS THAT CAME IN: it is nil; or it leads to a row of 'cap' cells, the numbers 'zs' (the first 'len' are its elements, the rest its spare room), each fitting its kind. -/
def IsRow (k : IntKind) (w : World) (a : Option Addr) (len cap : Nat) (zs : List Int) : Prop :=
  (a = none ∧ len = 0 ∧ cap = 0 ∧ zs = []) ∨
  ∃ x, a = some x ∧ len ≤ cap ∧ cap ≤ maxLen ∧ zs.length = cap ∧ (∀ i, i < zs.length → w.cell? (x.add i) = some (.int k (zs.getD i 0))) ∧ ∀ n ∈ zs, (Lit.int k n).wf = true

theorem row_bytes {w : World} {a : Option Addr} {len cap : Nat} {zs : List Int} (h : IsRow .u8 w a len cap zs) :
    ∃ ys : List Int, ys.length = len ∧ BV w a ys ∧ (a = none → cap = 0) ∧ len ≤ cap ∧ len ≤ 9223372036854775807 := by
  rcases h with ⟨rfl, rfl, rfl, rfl⟩ | ⟨x, rfl, hl, hm, hz, hcell, hwz⟩
  · exact ⟨[], rfl, ⟨AllB.nil, .inl rfl⟩, fun _ => rfl, Nat.le_refl _, by decide⟩
  · refine ⟨zs.take len, by simp; omega, ⟨?_, ?_⟩, (fun h => by cases h), hl, by unfold maxLen at hm; omega⟩
    · intro z hz'
      have := bounds_u8 (hwz z (List.mem_of_mem_take hz'))
      omega
    · by_cases h0 : len = 0
      · left; simp [h0]
      · right
        obtain ⟨b, off, spot⟩ := x
        have hc := hcell 0 (by omega)
        have hspot : spot = none := by simpa [Addr.add] using World.cell?_spot hc
        subst hspot
        refine ⟨b, off, rfl, ?_, ?_⟩
        · have := World.block_lt_of_cell? _ _ hc
          simpa [Addr.add] using this
        · intro i hi
          rw [List.length_take] at hi
          have := hcell i (by omega)
          rw [add_plain] at this
          rw [this, List.getD_eq_getElem?_getD, List.getD_eq_getElem?_getD, List.getElem?_take, if_pos (by omega)]

theorem conv_bv {w : World} {a : Option Addr} {cap : Nat} {zs : List Int} (hb : BV w a zs) (hn : a = none → cap = 0) : (convert 22 9 (.slice a zs.length cap)).run Try.prog w = .ok (.string (strOfNums zs)) w := by
  obtain ⟨hz, rfl | ⟨b, off, rfl, _, hc⟩⟩ := hb
  · cases a with
    | none => exact run_convert_bytes_nil (P := Try.prog) w 22 5 Try.underlying22 Try.underlying5 0 cap 9 Try.underlying9
    | some x =>
      show (convert 22 9 (.slice (some x) 0 cap)).run Try.prog w = _
      rw [run_convert_bytes_string w 22 9 5 _ 0 cap Try.underlying22 Try.underlying5 Try.underlying9, run_bytesToString w x 0 cap [] (by simp [loadCells, loadCellsFrom])]
      rfl
  · exact run_convert_bytes_arg (P := Try.prog) w 22 5 Try.underlying22 Try.underlying5 b off zs.length cap zs rfl hc 9 Try.underlying9
theorem turned {zs : List Int} (hz : AllB zs) (i : Nat) (hi : i < zs.length + 4) (z : Int) (h0 : 0 ≤ z) (h1 : z ≤ 255) (hne : z ≠ (zs ++ dig (more 0 zs) 4).getD i 0) : openE ((zs ++ dig (more 0 zs) 4).set i z) = 13 := by
  have h4 := dig_length 4 (more 0 zs)
  have hl : ((zs ++ dig (more 0 zs) 4).set i z).length = zs.length + 4 := by rw [List.length_set, List.length_append, h4]
  unfold openE
  rw [if_neg (by omega), if_neg]
  unfold Good
  rw [hl, Nat.add_sub_cancel]
  rcases Nat.lt_or_ge i zs.length with h | h
  · rw [List.set_append_left _ _ h, List.drop_left' (by simp), List.take_left' (by simp)]
    rw [List.getD_eq_getElem?_getD, List.getElem?_append_left h, ← List.getD_eq_getElem?_getD] at hne
    have hall : AllB (zs.set i z) := by
      intro y hy
      rcases List.mem_or_eq_of_mem_set hy with h' | rfl
      · exact hz y h'
      · exact ⟨h0, h1⟩
    intro he
    have hv := congrArg val he
    have m1 := more_lt (show 0 < 4294967296 by decide) hz
    have m2 := more_lt (show 0 < 4294967296 by decide) hall
    have p4 : (256 : Int) ^ 4 = 4294967296 := by decide
    rw [val_dig 4 _ (by omega) (by omega), val_dig 4 _ (by omega) (by omega)] at hv
    exact more_set hz i h h0 h1 hne (by omega)
  · rw [List.set_append_right _ _ h, List.drop_left, List.take_left]
    rw [List.getD_eq_getElem?_getD, List.getElem?_append_right h, ← List.getD_eq_getElem?_getD] at hne
    intro he
    apply hne
    rw [← he, List.getD_eq_getElem?_getD, List.getElem?_set_self (by omega)]
    rfl
theorem u8_turn (z y : Int) (h0 : 0 ≤ z) (h1 : z ≤ 255) (h2 : 0 ≤ y) (h3 : y ≤ 255) : bits .xor .u8 z y = ((z.toNat ^^^ y.toNat : Nat) : Int) := u8_xor z y h0 (by omega) h2 (by omega)
theorem turn_bounds (z y : Int) (h0 : 0 ≤ z) (h1 : z ≤ 255) (h2 : 1 ≤ y) (h3 : y ≤ 255) : (0 : Int) ≤ ((z.toNat ^^^ y.toNat : Nat) : Int) ∧ ((z.toNat ^^^ y.toNat : Nat) : Int) ≤ 255 ∧ ((z.toNat ^^^ y.toNat : Nat) : Int) ≠ z := by
  have h := Nat.xor_lt_two_pow (n := 8) (show z.toNat < 2 ^ 8 by omega) (show y.toNat < 2 ^ 8 by omega)
  refine ⟨by omega, by omega, fun e => ?_⟩
  have e2 : z.toNat ^^^ y.toNat = z.toNat ^^^ 0 := by rw [Nat.xor_zero]; omega
  have := xor_left_inj e2
  omega

set_option maxHeartbeats 800000 in
theorem walk_long (a : Option Addr) (len cap : Nat) (a1 a2 : Int) (w : World) (h : 2000 < len) :
    Calls Try.prog 5 #[.slice a len cap, .int .u16 a1, .int .u8 a2] w fun e w' => e = .returned (.bool true) ∧ Below w.heap.size w w' := by
  have HA := awake_any w
  go_enter Try.func5, Try.ntmps5
  go_wp2_with (go_at_call 8; refine HA.mono ?_; rintro e w1 ⟨rfl, hb⟩; clear HA)
  go_ret
  exact ⟨rfl, hb⟩
set_option maxHeartbeats 800000 in
theorem walk_short (a : Option Addr) (cap : Nat) (zs : List Int) (a1 a2 : Nat) (w : World) (h : zs.length ≤ 2000) (hbv : BV w a zs) (hn : a = none → cap = 0) (h1 : a1 ≤ 65535) (h2 : a2 ≤ 255) :
    Calls Try.prog 5 #[.slice a zs.length cap, .int .u16 a1, .int .u8 a2] w fun e w' => e = .returned (.bool true) ∧ Below w.heap.size w w' := by
  have hz := hbv.1
  have H1 := seal_any a cap zs w hbv (by omega) hn
  go_enter Try.func5, Try.ntmps5
  go_wp2_with fail
  refine H1.mono ?_
  rintro e w1 ⟨v, rfl, ho1, hb1⟩
  clear H1
  have hL : (zs ++ dig (more 0 zs) 4).length = zs.length + 4 := by rw [List.length_append, dig_length]
  obtain ⟨g, cap1, rfl, hc1, hg0, hg1⟩ := ho1.shape (zs.length + 4) hL (by omega)
  have H2 := open_any (some ⟨g, 0, none⟩) cap1 _ w1 (ho1.bv (seal_all hz)) (by omega) (by omega)
  rw [open_sealE, open_sealL, hL] at H2
  go_wp2_with fail
  refine H2.mono ?_
  rintro e w2 ⟨v, rfl, ho2, hb2⟩
  clear H2
  have B2 := hb1.trans (hb2.mono hb1.size)
  have s1 := conv_own ho2 hz
  have s2 := conv_bv (hbv.below B2) hn
  have ho3 := ho1.below hb2
  clear hb2 hb1 ho1 ho2
  obtain ⟨i, him, hi⟩ : ∃ i : Nat, (a1 : Int) % ((zs.length : Int) + 4) = i ∧ i < zs.length + 4 := ⟨a1 % (zs.length + 4), by simp, Nat.mod_lt _ (by omega)⟩
  obtain ⟨Z, hZ⟩ : ∃ Z, Z = (zs ++ dig (more 0 zs) 4).getD i 0 := ⟨_, rfl⟩
  have ho4 : w2.ownsRow w.heap.size 5 1 (.slice (some ⟨g, 0, none⟩) (zs.length + 4) cap1) (zs.length + 4) ((zs ++ dig (more 0 zs) 4).map (Value.int .u8)) := by
    have h := ho3
    unfold Own at h
    rwa [hL] at h
  have hfz := ho4.frozenAt i
  have hcl : w2.cell? ⟨g, i, none⟩ = some (.int .u8 Z) := by
    have hc := ho4.cellAt i (by omega)
    rw [hc, List.getElem?_map, List.getElem?_eq_getElem (by omega), hZ, List.getD_eq_getElem?_getD, List.getElem?_eq_getElem (by omega)]
    rfl
  have hZb := (seal_all hz).getD i
  rw [← hZ] at hZb
  obtain ⟨y, hy, hy1, hy2⟩ : ∃ y : Int, 1 + (a2 : Int) % 255 = y ∧ 1 ≤ y ∧ y ≤ 255 := ⟨_, rfl, by omega, by omega⟩
  have hX := u8_turn Z y hZb.1 hZb.2 (by omega) hy2
  obtain ⟨hx0, hx1, hx2⟩ := turn_bounds Z y hZb.1 hZb.2 hy1 hy2
  generalize ((Z.toNat ^^^ y.toNat : Nat) : Int) = X at *
  have hst := ho4.stored i (.int .u8 X)
  have HT := turned hz i hi X hx0 hx1 (by rw [← hZ]; exact hx2)
  have hL2 : ((zs ++ dig (more 0 zs) 4).set i X).length = zs.length + 4 := by rw [List.length_set, hL]
  have HO : Own (w2.setCell ⟨g, i, none⟩ (.int .u8 X)) w.heap.size (.slice (some ⟨g, 0, none⟩) (zs.length + 4) cap1) ((zs ++ dig (more 0 zs) 4).set i X) := by
    unfold Own
    rw [hL2, List.map_set]
    exact hst.1
  have hall : AllB ((zs ++ dig (more 0 zs) 4).set i X) := by
    intro u hu
    rcases List.mem_or_eq_of_mem_set hu with h' | rfl
    · exact seal_all hz u h'
    · exact ⟨hx0, hx1⟩
  have H5 := open_any (some ⟨g, 0, none⟩) cap1 _ _ (HO.bv hall) (by omega) (by omega)
  rw [HT, hL2] at H5
  have HB : Hid (Below w.heap.size w (w2.setCell ⟨g, i, none⟩ (.int .u8 X))) := B2.setCell hg0 _
  clear hZ hst HO HT hall ho3 ho4 hL2 hx2 B2 hbv
  go_wp2_with fail
  refine H5.mono ?_
  rintro e w3 ⟨v5, rfl, _, hb3⟩
  clear H5
  have B3 := HB.out.trans (hb3.mono HB.out.size)
  clear HB hb3
  have HA := awake_any w3
  go_wp2_with (go_at_call 8; refine HA.mono ?_; rintro e w4 ⟨rfl, hb4⟩; clear HA)
  go_ret
  exact ⟨rfl, B3.trans (hb4.mono B3.size)⟩
theorem walk (a0 : Option Addr) (len0 cap0 : Nat) (z0 : List Int) (a1 : Int) (a2 : Int) (w : World) (w0 : IsRow .u8 w a0 len0 cap0 z0) (w1 : (Lit.int .u16 a1).wf = true) (w2 : (Lit.int .u8 a2).wf = true) :
    Calls Try.prog 5 #[.slice a0 len0 cap0, .int .u16 a1, .int .u8 a2] w fun e w' => e = .returned (.bool true) ∧ Below w.heap.size w w' := by
  obtain ⟨zs, rfl, hv, hn, hlc, hm⟩ := row_bytes w0
  have hu1 := bounds_u16 w1
  have hu2 := bounds_u8 w2
  obtain ⟨x, rfl⟩ := Int.eq_ofNat_of_zero_le hu1.1
  obtain ⟨y, rfl⟩ := Int.eq_ofNat_of_zero_le hu2.1
  clear w0 w1 w2
  by_cases h : 2000 < zs.length
  · exact walk_long a0 zs.length cap0 x y w h
  · exact walk_short a0 cap0 zs x y w (by omega) hv hn (by omega) (by omega)

set_option maxRecDepth 100000 in
theorem lifted (os : Os) (started : os.Started) (H : Type) (enc : TypeId × Value → H) :
    ReturnsInHanded {} Try.checked os 5 .any (Rows.sumTurnedSpec.pre6 enc Try.prog Try.f5 Rows.sumTurnedRow.domain false) (Rows.sumTurnedSpec.post enc Try.prog Try.f5 false true false false) := by
  refine returnsInHanded_of_change (C := Try.checked) own started (by kernel_rfl) Try.func5
    (ChangeSpec.witness6 (enc := enc) (C := Try.checked) false ⟨#[], #[.slice none 0 0, .int .u16 0, .int .u8 0], []⟩ 8 (by kernel_rfl) (by kernel_rfl) (by kernel_rfl) (by kernel_rfl)) ?_
  intro W base args ds gs before hval0 hW hcnd _
  have hval : ∀ (j : Nat) t v, Try.f5.params[j]? = some t → args[j]? = some v → Value.okWide Try.prog W .any base t v := hval0
  have hW' := hW
  obtain ⟨p, q, hA0, hV, rfl, hfz, hnd⟩ := hW
  have hA : DataW.TrodAll enc Try.prog W 0 (fun _ => true) true Try.f5.params.toList args.toList ds p := hA0
  rw [Try.params5] at hA hval
  obtain ⟨v0, vs0, d0, ds0, p0, q0, hargs, rfl, rfl, h0, r0⟩ := trodAll_cons hA
  obtain ⟨v1, vs1, d1, ds1, p1, q1, rfl, rfl, rfl, h1, r1⟩ := trodAll_cons r0
  obtain ⟨v2, vs2, d2, ds2, p2, q2, rfl, rfl, rfl, h2, r2⟩ := trodAll_cons r1
  obtain ⟨rfl, rfl, rfl⟩ := trodAll_nil r2
  obtain rfl : args = #[v0, v1, v2] := by cases args; simp_all
  obtain ⟨rfl, rfl⟩ := trodVars_none hV
  obtain ⟨a0, len0, cap0, rfl⟩ := okWide_slice Try.underlying22 (hval 0 22 v0 rfl rfl)
  have k0 := h0
  have lt0 : ∀ x ∈ p0, x.block < W.heap.size := by obtain ⟨m, hm⟩ := k0; exact DataW.trod_lt m _ _ _ hm
  obtain ⟨z0, w0⟩ : ∃ zs, IsRow .u8 W a0 len0 cap0 zs := by
    obtain ⟨fuel, hf⟩ := h0
    rcases open_ints Try.underlying22 Try.underlying5 (by kernel_rfl) hf with ⟨hcs, _⟩ | ⟨x, l, c, zs, hcs, _, hl, hm, hz, _, hcell, hwz⟩
    · simp [Value.cells] at hcs
      obtain ⟨rfl, rfl, rfl⟩ := hcs
      exact ⟨[], .inl ⟨rfl, rfl, rfl, rfl⟩⟩
    · simp [Value.cells] at hcs
      obtain ⟨rfl, rfl, rfl⟩ := hcs
      exact ⟨zs, .inr ⟨_, rfl, hl, hm, by simpa using hz, hcell, hwz⟩⟩
  obtain ⟨a1, rfl, rfl, rfl, w1⟩ := open_int Try.underlying23 (hval 1 23 v1 rfl rfl) h1
  obtain ⟨a2, rfl, rfl, rfl, w2⟩ := open_int Try.underlying5 (hval 2 5 v2 rfl rfl) h2
  clear hA0 hval0
  refine (walk a0 len0 cap0 z0 a1 a2 W w0 w1 w2).mono fun e W' ⟨he, bel⟩ => ?_
  subst he
  exact ⟨_, rfl, _, _, _, [], _, [], hW', trodAll_mk1 (shut_bool Try.underlying4 _), (trodAll_cons_mk (Below.trod laidOut (by kernel_rfl) (of_decide_eq_true (by kernel_rfl)) k0 bel lt0) (trodAll_cons_mk (shut_int Try.underlying23 w1) (trodAll_cons_mk (shut_int Try.underlying5 w2) trodAll_mk0))), rfl, bel.frame _, fun h => by cases h⟩

theorem over : Rows.sumTurnedRow.holds Try.pinned (OpenSpec.ofChange Rows.sumTurnedSpec) :=
  OpenClaim.holds_of_wide 5 Try.f5 rfl rfl rfl rfl rfl rfl rfl ⟨rfl, rfl, rfl, rfl, rfl⟩ rfl rfl rfl rfl rfl (by kernel_rfl) Try.func5 (by kernel_rfl)
    (of_decide_eq_true (by kernel_rfl)) (by unfold Func.isWrapper; first | (rw [if_pos (by decide +kernel)]; kernel_rfl) | (rw [if_neg (by decide +kernel)]; exact ⟨rfl, rfl⟩))
    (fun os started H enc _ => lifted os started H enc)

end Go.Proofs.Ytekhjljlhoeknaa.sumTurned

namespace Go.Proofs.Ytekhjljlhoeknaa
theorem sumTurned_holds : Rows.SumTurnedSaid := sumTurned.over
#print axioms sumTurned_holds
end Go.Proofs.Ytekhjljlhoeknaa
