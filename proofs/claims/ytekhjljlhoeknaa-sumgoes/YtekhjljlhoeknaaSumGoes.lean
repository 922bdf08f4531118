/- For every sum and all bytes the call SumGoes of the statements returns true and its arguments read as they did: no condition. -/
import Derived.Test.YtekhjljlhoeknaaAwake
import Derived.Test.YtekhjljlhoeknaaRows
import Derived.WalkKit
import Derived.ProofKit
import Derived.OpenShut
import Derived.ShutString
import Derived.ChangeOld
import Derived.Below
namespace Go.Proofs.Ytekhjljlhoeknaa.sumGoes
open Go.ChangeShapes Go.WideShapes Go.ChangeAt Go.RowKit
open Go.ChangeMaps (open_string shut_string)
set_option linter.unusedVariables false

theorem own : ownKnob Try.prog.godebug = none := by kernel_rfl
theorem laidOut : laidOutB Try.prog = true := by kernel_rfl

/-- WHAT THE WALK IS TOLD OF A SLICE OF INTEGERS THAT CAME IN: it is nil; or it leads to a row of 'cap' cells, the numbers 'zs' (the first 'len' are its elements, the rest its spare room), each fitting its kind. -/
def IsRow (k : IntKind) (w : World) (a : Option Addr) (len cap : Nat) (zs : List Int) : Prop :=
  (a = none ∧ len = 0 ∧ cap = 0 ∧ zs = []) ∨
  ∃ x, a = some x ∧ len ≤ cap ∧ cap ≤ maxLen ∧ zs.length = cap ∧ (∀ i, i < zs.length → w.cell? (x.add i) = some (.int k (zs.getD i 0))) ∧ ∀ n ∈ zs, (Lit.int k n).wf = true

theorem row_bytes {w : World} {a : Option Addr} {len cap : Nat} {zs : List Int} (h : IsRow .u8 w a len cap zs) :
    ∃ ys : List Int, ys.length = len ∧ BV w a ys ∧ (a = none → cap = 0) ∧ len ≤ cap ∧ len ≤ 9223372036854775807 := by
  rcases h with ⟨rfl, rfl, rfl, rfl⟩ | ⟨x, rfl, hl, hm, hz, hcell, hwz⟩
  · exact ⟨[], rfl, ⟨AllB.nil, .inl rfl⟩, fun _ => rfl, Nat.le_refl _, by decide⟩
  · refine ⟨zs.take len, by simp; omega, ⟨?_, ?_⟩, (fun h => by cases h), hl, by unfold maxLen at hm; omega⟩
    · intro z hz'
      have := bounds_u8 (hwz z (List.mem_of_mem_take hz'))
      omega
    · by_cases h0 : len = 0
      · left; simp [h0]
      · right
        obtain ⟨b, off, spot⟩ := x
        have hc := hcell 0 (by omega)
        have hspot : spot = none := by simpa [Addr.add] using World.cell?_spot hc
        subst hspot
        refine ⟨b, off, rfl, ?_, ?_⟩
        · have := World.block_lt_of_cell? _ _ hc
          simpa [Addr.add] using this
        · intro i hi
          rw [List.length_take] at hi
          have := hcell i (by omega)
          rw [add_plain] at this
          rw [this, List.getD_eq_getElem?_getD, List.getD_eq_getElem?_getD, List.getElem?_take, if_pos (by omega)]

theorem bv_one {w : World} {b off : Nat} {zs : List Int} (h : BV w (some ⟨b, off, none⟩) zs) (k : Nat) (hk : k < zs.length) : BV w (some ⟨b, off + k, none⟩) [zs.getD k 0] := by
  have h1 := (h.drop k).take 1
  rw [List.drop_eq_getElem_cons hk, List.take_succ_cons, List.take_zero] at h1
  rw [List.getD_eq_getElem?_getD, List.getElem?_eq_getElem hk]
  exact h1

set_option maxHeartbeats 800000 in
theorem walk_long (c : Nat) (a : Option Addr) (len cap : Nat) (w : World) (h : 500 < len) :
    Calls Try.prog 6 #[.int .u32 c, .slice a len cap] w fun e w' => e = .returned (.bool true) ∧ Below w.heap.size w w' := by
  have HA := awake_any w
  go_enter Try.func6, Try.ntmps6
  go_wp2_with (go_at_call 8; refine HA.mono ?_; rintro e w1 ⟨rfl, hb⟩; clear HA)
  go_ret
  exact ⟨rfl, hb⟩
set_option maxHeartbeats 800000 in
theorem walk_zero (c : Nat) (a : Option Addr) (cap : Nat) (w : World) (hcl : c < 4294967296) :
    Calls Try.prog 6 #[.int .u32 c, .slice a 0 cap] w fun e w' => e = .returned (.bool true) ∧ Below w.heap.size w w' := by
  have HA := awake_any w
  have H1 := more_zero_ok c cap a w hcl
  have H2 := more_zero_ok c 0 none w hcl
  go_enter Try.func6, Try.ntmps6
  go_wp2
  go_loop [5, 6] (fun x i => i = .int .i64 0 ∧ x = .int .u32 c) (fun _ _ => 0)
  case atStart => exact ⟨rfl, rfl⟩
  case round =>
    obtain ⟨rfl, rfl⟩ := hrel
    go_wp2_with (first | (go_at_call 8; refine HA.mono ?_; rintro e w1 ⟨rfl, hb⟩; clear HA) | (go_at_call 11; refine H1.mono ?_; rintro e w' ⟨rfl, hw⟩; obtain rfl := hw.symm; clear H1) | (go_at_call 11; refine H2.mono ?_; rintro e w' ⟨rfl, hw⟩; obtain rfl := hw.symm; clear H2))
    go_ret
    exact ⟨rfl, hb⟩
set_option maxHeartbeats 800000 in
theorem walk_pos (c b off len cap : Nat) (zs : List Int) (w : World) (hcl : c < 4294967296) (hl : zs.length = len) (hlc : len ≤ cap) (h : len ≤ 500) (hbv : BV w (some ⟨b, off, none⟩) zs) :
    Calls Try.prog 6 #[.int .u32 c, .slice (some ⟨b, off, none⟩) len cap] w fun e w' => e = .returned (.bool true) ∧ Below w.heap.size w w' := by
  have HA := awake_any w
  have H1 := more_any c _ len cap zs w hcl hbv hl (by omega)
  have H2 := more_zero_ok c 0 none w hcl
  have HL : Hid (zs.length = len) := hl
  clear hl
  go_enter Try.func6, Try.ntmps6
  go_wp2
  go_loop [5, 6] (fun x i => ∃ k : Nat, k ≤ len ∧ i = .int .i64 k ∧ x = .int .u32 (more c (zs.take k) : Nat)) (fun _ i => len - (intOf i).toNat)
  case atStart => exact ⟨0, Nat.zero_le _, rfl, by rw [List.take_zero, more_nil]⟩
  case round =>
    obtain ⟨k, hk, rfl, rfl⟩ := hrel
    by_cases hlt : k < len
    · clear HA H1 H2
      have hb := more_lt hcl (hbv.1.take k)
      have hnx := more_take c zs k (by have := HL.out; omega)
      have hS := fun cc => more_any _ _ 1 cc _ w hb (bv_one hbv k (by have := HL.out; omega)) rfl (by decide)
      generalize more c (zs.take k) = x at *
      generalize zs.getD k 0 = z at *
      go_wp2_with fail
      refine (hS _).mono ?_
      rintro e w' ⟨rfl, hw⟩
      obtain rfl := hw.symm
      clear hS
      go_wp2
      go_round
      case rel => exact ⟨k + 1, by omega, by go_num, by rw [hnx]⟩
      case measure => simp [intOf]; omega
    · have : k = len := by omega
      subst this
      have hL := HL.out
      rw [List.take_of_length_le (by omega)]
      clear hbv
      generalize more c zs = x at *
      go_wp2_with (first | (go_at_call 8; refine HA.mono ?_; rintro e w1 ⟨rfl, hb⟩; clear HA) | (go_at_call 11; refine H1.mono ?_; rintro e w' ⟨rfl, hw⟩; obtain rfl := hw.symm; clear H1) | (go_at_call 11; refine H2.mono ?_; rintro e w' ⟨rfl, hw⟩; obtain rfl := hw.symm; clear H2))
      go_ret
      exact ⟨rfl, hb⟩
theorem walk (a0 : Int) (a1 : Option Addr) (len1 cap1 : Nat) (z1 : List Int) (w : World) (w0 : (Lit.int .u32 a0).wf = true) (w1 : IsRow .u8 w a1 len1 cap1 z1) :
    Calls Try.prog 6 #[.int .u32 a0, .slice a1 len1 cap1] w fun e w' => e = .returned (.bool true) ∧ Below w.heap.size w w' := by
  obtain ⟨zs, hl, hv, _, hlc, hm⟩ := row_bytes w1
  have hu := bounds_u32 w0
  obtain ⟨c, rfl⟩ := Int.eq_ofNat_of_zero_le hu.1
  clear w0 w1
  by_cases h : 500 < len1
  · exact walk_long c a1 len1 cap1 w h
  · have hv' := hv
    obtain ⟨_, rfl | ⟨b, off, rfl, _, _⟩⟩ := hv
    · subst hl
      exact walk_zero c a1 cap1 w (by omega)
    · exact walk_pos c b off len1 cap1 zs w (by omega) hl hlc (by omega) hv'

set_option maxRecDepth 100000 in
theorem lifted (os : Os) (started : os.Started) (H : Type) (enc : TypeId × Value → H) :
    ReturnsInHanded {} Try.checked os 6 .any (Rows.sumGoesSpec.pre6 enc Try.prog Try.f6 Rows.sumGoesRow.domain false) (Rows.sumGoesSpec.post enc Try.prog Try.f6 false true false false) := by
  refine returnsInHanded_of_change (C := Try.checked) own started (by kernel_rfl) Try.func6
    (ChangeSpec.witness6 (enc := enc) (C := Try.checked) false ⟨#[], #[.int .u32 0, .slice none 0 0], []⟩ 8 (by kernel_rfl) (by kernel_rfl) (by kernel_rfl) (by kernel_rfl)) ?_
  intro W base args ds gs before hval0 hW hcnd _
  have hval : ∀ (j : Nat) t v, Try.f6.params[j]? = some t → args[j]? = some v → Value.okWide Try.prog W .any base t v := hval0
  have hW' := hW
  obtain ⟨p, q, hA0, hV, rfl, hfz, hnd⟩ := hW
  have hA : DataW.TrodAll enc Try.prog W 0 (fun _ => true) true Try.f6.params.toList args.toList ds p := hA0
  rw [Try.params6] at hA hval
  obtain ⟨v0, vs0, d0, ds0, p0, q0, hargs, rfl, rfl, h0, r0⟩ := trodAll_cons hA
  obtain ⟨v1, vs1, d1, ds1, p1, q1, rfl, rfl, rfl, h1, r1⟩ := trodAll_cons r0
  obtain ⟨rfl, rfl, rfl⟩ := trodAll_nil r1
  obtain rfl : args = #[v0, v1] := by cases args; simp_all
  obtain ⟨rfl, rfl⟩ := trodVars_none hV
  obtain ⟨a0, rfl, rfl, rfl, w0⟩ := open_int Try.underlying25 (hval 0 25 v0 rfl rfl) h0
  obtain ⟨a1, len1, cap1, rfl⟩ := okWide_slice Try.underlying22 (hval 1 22 v1 rfl rfl)
  have k1 := h1
  have lt1 : ∀ x ∈ p1, x.block < W.heap.size := by obtain ⟨m, hm⟩ := k1; exact DataW.trod_lt m _ _ _ hm
  obtain ⟨z1, w1⟩ : ∃ zs, IsRow .u8 W a1 len1 cap1 zs := by
    obtain ⟨fuel, hf⟩ := h1
    rcases open_ints Try.underlying22 Try.underlying5 (by kernel_rfl) hf with ⟨hcs, _⟩ | ⟨x, l, c, zs, hcs, _, hl, hm, hz, _, hcell, hwz⟩
    · simp [Value.cells] at hcs
      obtain ⟨rfl, rfl, rfl⟩ := hcs
      exact ⟨[], .inl ⟨rfl, rfl, rfl, rfl⟩⟩
    · simp [Value.cells] at hcs
      obtain ⟨rfl, rfl, rfl⟩ := hcs
      exact ⟨zs, .inr ⟨_, rfl, hl, hm, by simpa using hz, hcell, hwz⟩⟩
  clear hA0 hval0
  refine (walk a0 a1 len1 cap1 z1 W w0 w1).mono fun e W' ⟨he, bel⟩ => ?_
  subst he
  exact ⟨_, rfl, _, _, _, [], _, [], hW', trodAll_mk1 (shut_bool Try.underlying4 _), (trodAll_cons_mk (shut_int Try.underlying25 w0) (trodAll_cons_mk (Below.trod laidOut (by kernel_rfl) (of_decide_eq_true (by kernel_rfl)) k1 bel lt1) trodAll_mk0)), rfl, bel.frame _, fun h => by cases h⟩

theorem over : Rows.sumGoesRow.holds Try.pinned (OpenSpec.ofChange Rows.sumGoesSpec) :=
  OpenClaim.holds_of_wide 6 Try.f6 rfl rfl rfl rfl rfl rfl rfl ⟨rfl, rfl, rfl, rfl, rfl⟩ rfl rfl rfl rfl rfl (by kernel_rfl) Try.func6 (by kernel_rfl)
    (of_decide_eq_true (by kernel_rfl)) (by unfold Func.isWrapper; first | (rw [if_pos (by decide +kernel)]; kernel_rfl) | (rw [if_neg (by decide +kernel)]; exact ⟨rfl, rfl⟩))
    (fun os started H enc _ => lifted os started H enc)

end Go.Proofs.Ytekhjljlhoeknaa.sumGoes

namespace Go.Proofs.Ytekhjljlhoeknaa
theorem sumGoes_holds : Rows.SumGoesSaid := sumGoes.over
#print axioms sumGoes_holds
end Go.Proofs.Ytekhjljlhoeknaa
