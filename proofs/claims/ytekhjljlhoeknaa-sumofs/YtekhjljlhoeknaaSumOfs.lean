/- For all bytes and every cut the call SumOfs of the statements returns true and its arguments read as they did: no condition. -/
import Derived.Test.YtekhjljlhoeknaaAwake
import Derived.Deep.RegionHeld3
import Derived.Test.YtekhjljlhoeknaaRows
import Derived.WalkKit
import Derived.ProofKit
import Derived.OpenShut
import Derived.ShutString
import Derived.ChangeOld
import Derived.Below
namespace Go.Proofs.Ytekhjljlhoeknaa.sumOfs
open Go.ChangeShapes Go.WideShapes Go.ChangeAt Go.RowKit
open Go.ChangeMaps (open_string shut_string)
set_option linter.unusedVariables false

theorem own : ownKnob Try.prog.godebug = none := by kernel_rfl
theorem laidOut : laidOutB Try.prog = true := by kernel_rfl

/-- WHAT THE WALK IS TOLD OF A SLICE OF INTEGERS THAT CAME IN: it is nil; or it leads to a row of 'cap' cells, the numbers 'zs' (the first 'len' are its elements, the rest its spare room), each fitting its kind. -/
def IsRow (k : IntKind) (w : World) (a : Option Addr) (len cap : Nat) (zs : List Int) : Prop :=
  (a = none ∧ len = 0 ∧ cap = 0 ∧ zs = []) ∨
  ∃ x, a = some x ∧ len ≤ cap ∧ cap ≤ maxLen ∧ zs.length = cap ∧ (∀ i, i < zs.length → w.cell? (x.add i) = some (.int k (zs.getD i 0))) ∧ ∀ n ∈ zs, (Lit.int k n).wf = true

theorem row_bytes {w : World} {a : Option Addr} {len cap : Nat} {zs : List Int} (h : IsRow .u8 w a len cap zs) :
    ∃ ys : List Int, ys.length = len ∧ BV w a ys ∧ (a = none → cap = 0) ∧ len ≤ cap ∧ len ≤ 9223372036854775807 := by
  rcases h with ⟨rfl, rfl, rfl, rfl⟩ | ⟨x, rfl, hl, hm, hz, hcell, hwz⟩
  · exact ⟨[], rfl, ⟨AllB.nil, .inl rfl⟩, fun _ => rfl, Nat.le_refl _, by decide⟩
  · refine ⟨zs.take len, by simp; omega, ⟨?_, ?_⟩, (fun h => by cases h), hl, by unfold maxLen at hm; omega⟩
    · intro z hz'
      have := bounds_u8 (hwz z (List.mem_of_mem_take hz'))
      omega
    · by_cases h0 : len = 0
      · left; simp [h0]
      · right
        obtain ⟨b, off, spot⟩ := x
        have hc := hcell 0 (by omega)
        have hspot : spot = none := by simpa [Addr.add] using World.cell?_spot hc
        subst hspot
        refine ⟨b, off, rfl, ?_, ?_⟩
        · have := World.block_lt_of_cell? _ _ hc
          simpa [Addr.add] using this
        · intro i hi
          rw [List.length_take] at hi
          have := hcell i (by omega)
          rw [add_plain] at this
          rw [this, List.getD_eq_getElem?_getD, List.getD_eq_getElem?_getD, List.getElem?_take, if_pos (by omega)]

set_option maxHeartbeats 800000 in
theorem walk_long (a : Option Addr) (len cap : Nat) (a1 : Int) (w : World) (h : 3000 < len) :
    Calls Try.prog 3 #[.slice a len cap, .int .u16 a1] w fun e w' => e = .returned (.bool true) ∧ Below w.heap.size w w' := by
  have HA := awake_any w
  go_enter Try.func3, Try.ntmps3
  go_wp2_with (go_at_call 8; refine HA.mono ?_; rintro e w1 ⟨rfl, hb⟩; clear HA)
  go_ret
  exact ⟨rfl, hb⟩
theorem of1 (a : Option Addr) (len cap : Nat) (zs : List Int) (w wx : World) (hl : zs.length = len) (hb : BV w a zs) (hn : a = none → cap = 0) (hm : len ≤ 3000) (hx : Below w.heap.size w wx) :
    Calls Try.prog 10 #[.slice (some ⟨wx.heap.size, 0, none⟩) 1 1] (wx.alloc (.cells #[.slice a len cap] 22)) fun e w' => e = .returned (.int .u32 (more 0 zs)) ∧ Below w.heap.size w w' := by
  subst hl
  refine (of_any wx.heap.size 0 1 1 [zs] _ rfl (by decide) (parts1 (hb.below hx) hn (by omega))).mono ?_
  rintro e w' ⟨rfl, rfl⟩
  exact ⟨rfl, hx.alloc hx.size _⟩
theorem of2 (a a' : Option Addr) (len cap len' cap' : Nat) (zs ys : List Int) (w wx : World) (hl : zs.length = len) (hb : BV w a zs) (hn : a = none → cap = 0) (hm : len ≤ 3000) (hl' : ys.length = len') (hb' : BV w a' ys) (hn' : a' = none → cap' = 0) (hm' : len' ≤ 3000) (hx : Below w.heap.size w wx) :
    Calls Try.prog 10 #[.slice (some ⟨wx.heap.size, 0, none⟩) 2 2] (wx.alloc (.cells #[.slice a len cap, .slice a' len' cap'] 22)) fun e w' => e = .returned (.int .u32 (more 0 (zs ++ ys))) ∧ Below w.heap.size w w' := by
  subst hl hl'
  refine (of_any wx.heap.size 0 2 2 [zs, ys] _ rfl (by decide) (parts2 (hb.below hx) hn (by omega) (hb'.below hx) hn' (by omega))).mono ?_
  rintro e w' ⟨rfl, rfl⟩
  refine ⟨?_, hx.alloc hx.size _⟩
  rw [more_append]; rfl
theorem mor (c : Nat) (a : Option Addr) (len cap : Nat) (zs : List Int) (w wx : World) (hc : c < 4294967296) (hl : zs.length = len) (hb : BV w a zs) (hm : len ≤ 3000) (hx : Below w.heap.size w wx) :
    Calls Try.prog 11 #[.int .u32 c, .slice a len cap] wx fun e w' => e = .returned (.int .u32 (more c zs)) ∧ Below w.heap.size w w' := by
  refine (more_any c a len cap zs wx hc (hb.below hx) hl (by omega)).mono ?_
  rintro e w' ⟨rfl, rfl⟩
  exact ⟨rfl, hx⟩
theorem balloc {w w' : World} (h : Below w.heap.size w w') (o : Obj) : Below w.heap.size w (w'.alloc o) := h.alloc h.size _
theorem awk (w wx : World) (hx : Below w.heap.size w wx) : Calls Try.prog 8 #[] wx fun e w' => e = .returned (.bool true) ∧ Below w.heap.size w w' := by
  refine (awake_any wx).mono ?_
  rintro e w' ⟨rfl, hb⟩
  exact ⟨rfl, hx.trans (hb.mono hx.size)⟩
set_option maxHeartbeats 800000 in
theorem walk_pos (b off len cap k : Nat) (zs : List Int) (a1 : Nat) (w : World) (hl : zs.length = len) (h : len ≤ 3000) (hbv : BV w (some ⟨b, off, none⟩) zs) (h1 : a1 ≤ 65535) (hkm : (a1 : Int) % ((len : Nat) + 1 : Int) = k) (hk : k ≤ len) (hlc : len ≤ cap) (hkc : k < cap) :
    Calls Try.prog 3 #[.slice (some ⟨b, off, none⟩) (len) (cap), .int .u16 a1] w fun e w' => e = .returned (.bool true) ∧ Below w.heap.size w w' := by
  have H0 := rof_any _ (len) (cap) zs w hbv hl (by omega)
  have hbt := hbv.take k
  have hlt : (zs.take k).length = k := by simp; omega
  have hbd := hbv.drop k
  have hld : (zs.drop k).length = len - k := by simp; omega
  have htd : zs.take k ++ zs.drop k = zs := List.take_append_drop k zs
  have hm0 := more_lt (show 0 < 4294967296 by decide) hbt.1
  have htm : more (more 0 (zs.take k)) (zs.drop k) = more 0 zs := by rw [← more_append, htd]
  have Q1 : Calls Try.prog 10 #[.slice (some ⟨w.heap.size, 0, none⟩) 1 1] (w.alloc (.cells #[.slice (some ⟨b, off, none⟩) (len) (cap)] 22)).drew _ := of1 (some ⟨b, off, none⟩) (len) (cap) zs w w.drew hl hbv (by intro h; cases h) h (Below.refl _ _).drew
  have Q2 : Hid (∀ wx, Below w.heap.size w wx → _) := fun wx hx => of2 (some ⟨b, off, none⟩) (some ⟨b, off + k, none⟩) k (cap) (len - k) (cap - k) (zs.take k) (zs.drop k) w wx hlt hbt (by intro h; cases h) (by omega) hld hbd (by intro h; cases h) (by omega) hx
  have Q3 : Hid (∀ wx, Below w.heap.size w wx → _) := fun wx hx => of1 (some ⟨b, off, none⟩) k (cap) (zs.take k) w wx hlt hbt (by intro h; cases h) (by omega) hx
  have Q4 : Hid (∀ wx, Below w.heap.size w wx → _) := fun wx hx => mor (more 0 (zs.take k)) (some ⟨b, off + k, none⟩) (len - k) (cap - k) (zs.drop k) w wx hm0 hld hbd (by omega) hx
  rw [htd] at Q2
  rw [htm] at Q4
  clear hbt hbd hlt hld htd htm hbv hl
  generalize more 0 zs = M at *
  generalize more 0 (zs.take k) = m at *
  go_enter Try.func3, Try.ntmps3
  go_wp2_with (first | (go_at_call 9; refine H0.mono ?_; rintro e w1 ⟨rfl, hw⟩; obtain rfl := hw.symm; clear H0))
  have i1 : (0 : Int) ≤ (k : Int) := by omega
  have i2 : (k : Int) ≤ (cap : Int) := by omega
  have i3 : (k : Int) ≤ (len : Int) := by omega
  have i4 : (len : Int) ≤ (cap : Int) := by omega
  have i5 : ¬ cap = k := by omega
  have i6 : ¬ cap = 0 := by omega
  have i7 : ((len : Int) - (k : Int)).toNat = len - k := by omega
  have i8 : ((cap : Int) - (k : Int)).toNat = cap - k := by omega
  go_region_held3 (fun w' => Below w.heap.size w w') (repeat (first | assumption | exact Below.refl _ _ | apply Below.drew | apply balloc)) (first | (go_at_call 10; refine Q1.mono ?_; rintro e w1 ⟨rfl, hb1⟩; clear Q1) | (go_at_call 10; refine (Q2.out _ (by assumption)).mono ?_; rintro e w2 ⟨rfl, hb2⟩; clear Q2) | (go_at_call 10; refine (Q3.out _ (by assumption)).mono ?_; rintro e w3 ⟨rfl, hb3⟩; clear Q3) | (go_at_call 11; refine (Q4.out _ (by assumption)).mono ?_; rintro e w4 ⟨rfl, hb4⟩; clear Q4) | (go_at_call 8; refine (awk w _ (by assumption)).mono ?_; rintro e w5 ⟨rfl, hb5⟩))
  go_wp2
  go_ret
  exact ⟨rfl, hb5⟩
set_option maxHeartbeats 800000 in
theorem walk_full (x : Addr) (k : Nat) (zs : List Int) (a1 : Nat) (w : World) (hl : zs.length = k) (h : k ≤ 3000) (hbv : BV w (some x) zs) (h1 : a1 ≤ 65535) (hkm : (a1 : Int) % ((k : Nat) + 1 : Int) = k) (hk : k ≤ k)  :
    Calls Try.prog 3 #[.slice (some x) (k) (k), .int .u16 a1] w fun e w' => e = .returned (.bool true) ∧ Below w.heap.size w w' := by
  have H0 := rof_any _ (k) (k) zs w hbv hl (by omega)
  have hbt := hbv.take k
  have hlt : (zs.take k).length = k := by simp; omega
  have hbd : BV w (some x) (zs.drop k) := ⟨hbv.1.drop k, .inl (List.drop_eq_nil_of_le (by omega))⟩
  have hld : (zs.drop k).length = 0 := by simp; omega
  have htd : zs.take k ++ zs.drop k = zs := List.take_append_drop k zs
  have hm0 := more_lt (show 0 < 4294967296 by decide) hbt.1
  have htm : more (more 0 (zs.take k)) (zs.drop k) = more 0 zs := by rw [← more_append, htd]
  have Q1 : Calls Try.prog 10 #[.slice (some ⟨w.heap.size, 0, none⟩) 1 1] (w.alloc (.cells #[.slice (some x) (k) (k)] 22)).drew _ := of1 (some x) (k) (k) zs w w.drew hl hbv (by intro h; cases h) h (Below.refl _ _).drew
  have Q2 : Hid (∀ wx, Below w.heap.size w wx → _) := fun wx hx => of2 (some x) (some x) k (k) (0) (0) (zs.take k) (zs.drop k) w wx hlt hbt (by intro h; cases h) (by omega) hld hbd (by intro h; cases h) (by omega) hx
  have Q3 : Hid (∀ wx, Below w.heap.size w wx → _) := fun wx hx => of1 (some x) k (k) (zs.take k) w wx hlt hbt (by intro h; cases h) (by omega) hx
  have Q4 : Hid (∀ wx, Below w.heap.size w wx → _) := fun wx hx => mor (more 0 (zs.take k)) (some x) (0) (0) (zs.drop k) w wx hm0 hld hbd (by omega) hx
  rw [htd] at Q2
  rw [htm] at Q4
  clear hbt hbd hlt hld htd htm hbv hl
  generalize more 0 zs = M at *
  generalize more 0 (zs.take k) = m at *
  go_enter Try.func3, Try.ntmps3
  go_wp2_with (first | (go_at_call 9; refine H0.mono ?_; rintro e w1 ⟨rfl, hw⟩; obtain rfl := hw.symm; clear H0))
  have i1 : (0 : Int) ≤ (k : Int) := by omega
  go_region_held3 (fun w' => Below w.heap.size w w') (repeat (first | assumption | exact Below.refl _ _ | apply Below.drew | apply balloc)) (first | (go_at_call 10; refine Q1.mono ?_; rintro e w1 ⟨rfl, hb1⟩; clear Q1) | (go_at_call 10; refine (Q2.out _ (by assumption)).mono ?_; rintro e w2 ⟨rfl, hb2⟩; clear Q2) | (go_at_call 10; refine (Q3.out _ (by assumption)).mono ?_; rintro e w3 ⟨rfl, hb3⟩; clear Q3) | (go_at_call 11; refine (Q4.out _ (by assumption)).mono ?_; rintro e w4 ⟨rfl, hb4⟩; clear Q4) | (go_at_call 8; refine (awk w _ (by assumption)).mono ?_; rintro e w5 ⟨rfl, hb5⟩))
  go_wp2
  go_ret
  exact ⟨rfl, hb5⟩
set_option maxHeartbeats 800000 in
theorem walk_nil (k : Nat) (zs : List Int) (a1 : Nat) (w : World) (hl : zs.length = 0) (h : 0 ≤ 3000) (hbv : BV w (none) zs) (h1 : a1 ≤ 65535) (hkm : (a1 : Int) % ((0 : Nat) + 1 : Int) = k) (hk : k ≤ 0)  :
    Calls Try.prog 3 #[.slice (none) (0) (0), .int .u16 a1] w fun e w' => e = .returned (.bool true) ∧ Below w.heap.size w w' := by
  have H0 := rof_any _ (0) (0) zs w hbv hl (by omega)
  have hbt := hbv.take k
  have hlt : (zs.take k).length = k := by simp; omega
  have hbd : BV w none (zs.drop k) := ⟨hbv.1.drop k, .inl (List.drop_eq_nil_of_le (by omega))⟩
  have hld : (zs.drop k).length = 0 := by simp; omega
  have htd : zs.take k ++ zs.drop k = zs := List.take_append_drop k zs
  have hm0 := more_lt (show 0 < 4294967296 by decide) hbt.1
  have htm : more (more 0 (zs.take k)) (zs.drop k) = more 0 zs := by rw [← more_append, htd]
  have Q1 : Calls Try.prog 10 #[.slice (some ⟨w.heap.size, 0, none⟩) 1 1] (w.alloc (.cells #[.slice (none) (0) (0)] 22)).drew _ := of1 (none) (0) (0) zs w w.drew hl hbv (fun _ => rfl) h (Below.refl _ _).drew
  have Q2 : Hid (∀ wx, Below w.heap.size w wx → _) := fun wx hx => of2 (none) (none) k (0) (0) (0) (zs.take k) (zs.drop k) w wx hlt hbt (fun _ => rfl) (by omega) hld hbd (fun _ => rfl) (by omega) hx
  have Q3 : Hid (∀ wx, Below w.heap.size w wx → _) := fun wx hx => of1 (none) k (0) (zs.take k) w wx hlt hbt (fun _ => rfl) (by omega) hx
  have Q4 : Hid (∀ wx, Below w.heap.size w wx → _) := fun wx hx => mor (more 0 (zs.take k)) (none) (0) (0) (zs.drop k) w wx hm0 hld hbd (by omega) hx
  rw [htd] at Q2
  rw [htm] at Q4
  clear hbt hbd hlt hld htd htm hbv hl
  generalize more 0 zs = M at *
  generalize more 0 (zs.take k) = m at *
  obtain rfl : k = 0 := by omega
  go_enter Try.func3, Try.ntmps3
  go_wp2_with (first | (go_at_call 9; refine H0.mono ?_; rintro e w1 ⟨rfl, hw⟩; obtain rfl := hw.symm; clear H0))

  go_region_held3 (fun w' => Below w.heap.size w w') (repeat (first | assumption | exact Below.refl _ _ | apply Below.drew | apply balloc)) (first | (go_at_call 10; refine Q1.mono ?_; rintro e w1 ⟨rfl, hb1⟩; clear Q1) | (go_at_call 10; refine (Q2.out _ (by assumption)).mono ?_; rintro e w2 ⟨rfl, hb2⟩; clear Q2) | (go_at_call 10; refine (Q3.out _ (by assumption)).mono ?_; rintro e w3 ⟨rfl, hb3⟩; clear Q3) | (go_at_call 11; refine (Q4.out _ (by assumption)).mono ?_; rintro e w4 ⟨rfl, hb4⟩; clear Q4) | (go_at_call 8; refine (awk w _ (by assumption)).mono ?_; rintro e w5 ⟨rfl, hb5⟩))
  go_wp2
  go_ret
  exact ⟨rfl, hb5⟩
theorem row_shape {w : World} {a : Option Addr} {len cap : Nat} {zs : List Int} (h : IsRow .u8 w a len cap zs) :
    (a = none ∧ len = 0 ∧ cap = 0) ∨ (∃ x, a = some x ∧ len = 0 ∧ cap = 0) ∨ ∃ b off, a = some ⟨b, off, none⟩ := by
  rcases h with ⟨rfl, rfl, rfl, rfl⟩ | ⟨x, rfl, hl, hm, hz, hcell, hwz⟩
  · exact .inl ⟨rfl, rfl, rfl⟩
  · by_cases h0 : cap = 0
    · exact .inr (.inl ⟨x, rfl, by omega, h0⟩)
    · obtain ⟨b, off, spot⟩ := x
      have hc := hcell 0 (by omega)
      have hspot : spot = none := by simpa [Addr.add] using World.cell?_spot hc
      subst hspot
      exact .inr (.inr ⟨b, off, rfl⟩)
theorem walk (a0 : Option Addr) (len0 cap0 : Nat) (z0 : List Int) (a1 : Int) (w : World) (w0 : IsRow .u8 w a0 len0 cap0 z0) (w1 : (Lit.int .u16 a1).wf = true) :
    Calls Try.prog 3 #[.slice a0 len0 cap0, .int .u16 a1] w fun e w' => e = .returned (.bool true) ∧ Below w.heap.size w w' := by
  obtain ⟨zs, hl, hv, hn, hlc, hm⟩ := row_bytes w0
  have hsh := row_shape w0
  have hu1 := bounds_u16 w1
  obtain ⟨x, rfl⟩ := Int.eq_ofNat_of_zero_le hu1.1
  clear w0 w1
  by_cases h : 3000 < len0
  · exact walk_long a0 len0 cap0 x w h
  · obtain ⟨k, hkm, hk⟩ : ∃ k : Nat, (x : Int) % ((len0 : Int) + 1) = k ∧ k ≤ len0 := ⟨x % (len0 + 1), by simp, by have := Nat.mod_lt x (show 0 < len0 + 1 by omega); omega⟩
    rcases hsh with ⟨rfl, rfl, rfl⟩ | ⟨ad, rfl, rfl, rfl⟩ | ⟨b, off, rfl⟩
    · exact walk_nil k zs x w hl (by omega) hv (by omega) hkm hk
    · obtain rfl : k = 0 := by omega
      exact walk_full ad 0 zs x w hl (by omega) hv (by omega) hkm hk
    · rcases Nat.lt_or_ge k cap0 with hc | hc
      · exact walk_pos b off len0 cap0 k zs x w hl (by omega) hv (by omega) hkm hk hlc hc
      · obtain rfl : k = len0 := by omega
        obtain rfl : k = cap0 := by omega
        exact walk_full ⟨b, off, none⟩ k zs x w hl (by omega) hv (by omega) hkm hk

set_option maxRecDepth 100000 in
theorem lifted (os : Os) (started : os.Started) (H : Type) (enc : TypeId × Value → H) :
    ReturnsInHanded {} Try.checked os 3 .any (Rows.sumOfsSpec.pre6 enc Try.prog Try.f3 Rows.sumOfsRow.domain false) (Rows.sumOfsSpec.post enc Try.prog Try.f3 false true false false) := by
  refine returnsInHanded_of_change (C := Try.checked) own started (by kernel_rfl) Try.func3
    (ChangeSpec.witness6 (enc := enc) (C := Try.checked) false ⟨#[], #[.slice none 0 0, .int .u16 0], []⟩ 8 (by kernel_rfl) (by kernel_rfl) (by kernel_rfl) (by kernel_rfl)) ?_
  intro W base args ds gs before hval0 hW hcnd _
  have hval : ∀ (j : Nat) t v, Try.f3.params[j]? = some t → args[j]? = some v → Value.okWide Try.prog W .any base t v := hval0
  have hW' := hW
  obtain ⟨p, q, hA0, hV, rfl, hfz, hnd⟩ := hW
  have hA : DataW.TrodAll enc Try.prog W 0 (fun _ => true) true Try.f3.params.toList args.toList ds p := hA0
  rw [Try.params3] at hA hval
  obtain ⟨v0, vs0, d0, ds0, p0, q0, hargs, rfl, rfl, h0, r0⟩ := trodAll_cons hA
  obtain ⟨v1, vs1, d1, ds1, p1, q1, rfl, rfl, rfl, h1, r1⟩ := trodAll_cons r0
  obtain ⟨rfl, rfl, rfl⟩ := trodAll_nil r1
  obtain rfl : args = #[v0, v1] := by cases args; simp_all
  obtain ⟨rfl, rfl⟩ := trodVars_none hV
  obtain ⟨a0, len0, cap0, rfl⟩ := okWide_slice Try.underlying22 (hval 0 22 v0 rfl rfl)
  have k0 := h0
  have lt0 : ∀ x ∈ p0, x.block < W.heap.size := by obtain ⟨m, hm⟩ := k0; exact DataW.trod_lt m _ _ _ hm
  obtain ⟨z0, w0⟩ : ∃ zs, IsRow .u8 W a0 len0 cap0 zs := by
    obtain ⟨fuel, hf⟩ := h0
    rcases open_ints Try.underlying22 Try.underlying5 (by kernel_rfl) hf with ⟨hcs, _⟩ | ⟨x, l, c, zs, hcs, _, hl, hm, hz, _, hcell, hwz⟩
    · simp [Value.cells] at hcs
      obtain ⟨rfl, rfl, rfl⟩ := hcs
      exact ⟨[], .inl ⟨rfl, rfl, rfl, rfl⟩⟩
    · simp [Value.cells] at hcs
      obtain ⟨rfl, rfl, rfl⟩ := hcs
      exact ⟨zs, .inr ⟨_, rfl, hl, hm, by simpa using hz, hcell, hwz⟩⟩
  obtain ⟨a1, rfl, rfl, rfl, w1⟩ := open_int Try.underlying23 (hval 1 23 v1 rfl rfl) h1
  clear hA0 hval0
  refine (walk a0 len0 cap0 z0 a1 W w0 w1).mono fun e W' ⟨he, bel⟩ => ?_
  subst he
  exact ⟨_, rfl, _, _, _, [], _, [], hW', trodAll_mk1 (shut_bool Try.underlying4 _), (trodAll_cons_mk (Below.trod laidOut (by kernel_rfl) (of_decide_eq_true (by kernel_rfl)) k0 bel lt0) (trodAll_cons_mk (shut_int Try.underlying23 w1) trodAll_mk0)), rfl, bel.frame _, fun h => by cases h⟩

theorem over : Rows.sumOfsRow.holds Try.pinned (OpenSpec.ofChange Rows.sumOfsSpec) :=
  OpenClaim.holds_of_wide 3 Try.f3 rfl rfl rfl rfl rfl rfl rfl ⟨rfl, rfl, rfl, rfl, rfl⟩ rfl rfl rfl rfl rfl (by kernel_rfl) Try.func3 (by kernel_rfl)
    (of_decide_eq_true (by kernel_rfl)) (by unfold Func.isWrapper; first | (rw [if_pos (by decide +kernel)]; kernel_rfl) | (rw [if_neg (by decide +kernel)]; exact ⟨rfl, rfl⟩))
    (fun os started H enc _ => lifted os started H enc)

end Go.Proofs.Ytekhjljlhoeknaa.sumOfs

namespace Go.Proofs.Ytekhjljlhoeknaa
theorem sumOfs_holds : Rows.SumOfsSaid := sumOfs.over
#print axioms sumOfs_holds
end Go.Proofs.Ytekhjljlhoeknaa
