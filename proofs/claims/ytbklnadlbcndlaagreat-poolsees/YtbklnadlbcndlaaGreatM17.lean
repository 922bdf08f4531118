import Derived.Test.YtbklnadlbcndlaaGreatM6
import Derived.Test.YtbklnadlbcndlaaGreatM9
import Derived.Test.YtbklnadlbcndlaaGreatM8
import Derived.Deep.DeepCutAuto
import Derived.StillTailTactics
import Derived.Lib.SlBytesConst
import Derived.Lib.SmallJoins
namespace Go.Proofs.YtbklnadlbcndlaaGreat.R
set_option maxRecDepth 20000
open Go.RowKit
set_option linter.unusedVariables false
set_option maxHeartbeats 400000 in
theorem wide_any (n x : Int) (w : World) : Calls Tryz.prog 214 #[.int .i64 n, .int .i64 x] w fun e w' => ∃ v, e = .returned v ∧ Own w' w.heap.size v (putL n x) ∧ Below w.heap.size w w' := by
  have HP := put_any n x w
  go_enter Tryz.func214, Tryz.ntmps214
  go_wp2_with (first | (go_at_call 176; refine HP.mono ?_; rintro e w1 ⟨v, rfl, ho, hb⟩) | fail)
  go_ret
  exact ⟨v, rfl, ho, hb⟩
def wides (x : Int) (zs : List Int) : List Int := zs.flatMap (fun z => putL z x)
theorem wides_take (x : Int) (zs : List Int) (k : Nat) (h : k < zs.length) : wides x (zs.take (k + 1)) = wides x (zs.take k) ++ putL (zs.getD k 0) x := by
  unfold wides
  rw [take_snoc zs k h, List.flatMap_append]
  simp
theorem putL_len (n x : Int) : (putL n x).length ≤ 6 := by
  unfold putL
  split
  · simp
  · split
    · simp
    · rw [dig_length]; omega
theorem wides_len (x : Int) : ∀ zs : List Int, (wides x zs).length ≤ 6 * zs.length
  | [] => by simp [wides]
  | z :: zs => by
    have h1 := wides_len x zs
    have h2 := putL_len z x
    show (putL z x ++ wides x zs).length ≤ _
    rw [List.length_append, List.length_cons]
    omega
theorem wides_all (x : Int) (zs : List Int) : AllB (wides x zs) := by
  intro z hz
  obtain ⟨y, _, hy⟩ := List.mem_flatMap.1 hz
  exact putL_all y x z hy
set_option maxHeartbeats 800000 in
theorem numbers1_ok (av : Value) (ab wb b off n c : Nat) (x : Int) (zs : List Int) (w : World) (hab : w.cell? ⟨ab, 0, none⟩ = some (.slice (some ⟨b, off, none⟩) n c)) (hwb : w.cell? ⟨wb, 0, none⟩ = some (.int .i64 x)) (hl : zs.length = n) (hn : n ≤ 100) (hbs : b < w.heap.size) (hws : wb < w.heap.size)
    (hz : ∀ i, i < zs.length → w.cell? ⟨b, off + i, none⟩ = some (.int .i64 (zs.getD i 0))) :
    Calls Tryz.prog 231 #[av, .pointer (some ⟨ab, 0, none⟩), .pointer (some ⟨wb, 0, none⟩)] w fun e w' => ∃ v, e = .returned v ∧ Own w' w.heap.size v (wides x zs) ∧ Below w.heap.size w w' := by
  have HL : Hid (zs.length = n) := hl
  have HZ : Hid (∀ i, i < n → w.cell? ⟨b, off + i, none⟩ = some (.int .i64 (zs.getD i 0))) := fun i hi => hz i (by omega)
  clear hl hz
  go_enter Tryz.func231, Tryz.ntmps231
  go_wp2
  go_loopw [5, 10] (fun bv iv wr => ∃ k : Nat, k ≤ n ∧ iv = .int .i64 k ∧ Hid (Own wr w.heap.size bv (wides x (zs.take k))) ∧ Hid (Below w.heap.size w wr)) (fun _ iv _ => n - (intOf iv).toNat)
  case atStart => exact ⟨0, Nat.zero_le _, rfl, Own.nil _ _, Below.refl _ _⟩
  case round =>
    obtain ⟨k, hk, rfl, HO, HW⟩ := hrel
    by_cases hlt : k < n
    · have hx := (HW.out.cell (p := ⟨b, off + k, none⟩) hbs).trans (HZ.out k hlt)
      have hwx := (HW.out.cell (p := ⟨wb, 0, none⟩) hws).trans hwb
      have HT : Hid (wides x (zs.take (k + 1)) = wides x (zs.take k) ++ putL (zs.getD k 0) x) := wides_take x zs k (by rw [HL.out]; exact hlt)
      have HLE : Hid ((wides x (zs.take k)).length ≤ 600) := by
        have h1 := wides_len x (zs.take k)
        have : (wides x (zs.take k)).length ≤ 600 := by rw [List.length_take] at h1; have := HL.out; omega
        exact this
      clear HZ
      generalize zs.getD k 0 = z at *
      have HWD : Hid (∀ W, Below wr.heap.size wr W → Calls Tryz.prog 214 #[.int .i64 z, .int .i64 x] W fun e w' => ∃ a cap, e = .returned (.slice a (putL z x).length cap) ∧ Hid (BV w' a (putL z x) ∧ (a = none → cap = 0) ∧ Own w' w.heap.size u5 (wides x (zs.take k)) ∧ Below w.heap.size w w')) := fun W hW => by
        refine (wide_any z x W).mono ?_
        rintro e w' ⟨v, rfl, ho, hb⟩
        obtain ⟨a, cap, rfl, h1, h2, h3, h4⟩ := ho.slice (putL_all z x)
        exact ⟨a, cap, rfl, h2, h1, (HO.out.below hW).below hb, HW.out.trans ((hW.mono HW.out.size).trans (hb.mono (Nat.le_trans HW.out.size hW.size)))⟩
      have HPL : Hid ((putL z x).length ≤ 6) := putL_len z x
      go_wp2_with (first
        | (go_at_call 214; refine (HWD.out _ (Below.refl _ _)).mono ?_; rintro e w1 ⟨pa, pc, rfl, H1⟩; clear HWD)
        | (at_builtin; refine wp_app_bv rfl _ _ rfl w.heap.size _ (wides x (zs.take k)) (putL z x) rfl H1.out.2.2.1 pa pc rfl H1.out.1 H1.out.2.1 (by have := HLE.out; have := HPL.out; omega) H1.out.2.2.2.size ?_; intro v2 w2 ho2 hb2)
        | fail)
      go_roundw
      case rel => exact ⟨k + 1, by omega, by go_num, by rw [HT.out]; exact ho2, H1.out.2.2.2.trans hb2⟩
      case measure => simp [intOf]; omega
    · have : k = n := by omega
      subst this
      have h := HO.out
      rw [List.take_of_length_le (by rw [HL.out]; exact Nat.le_refl _)] at h
      have HOF : Hid (Own wr w.heap.size _ (wides x zs)) := h
      clear h HO
      go_wp2
      go_ret
      exact ⟨_, rfl, HOF.out, HW.out⟩
set_option maxHeartbeats 400000 in
theorem numbers1_zero (av : Value) (a : Option Addr) (ab wb c : Nat) (x : Int) (w : World) (hab : w.cell? ⟨ab, 0, none⟩ = some (.slice a 0 c)) :
    Calls Tryz.prog 231 #[av, .pointer (some ⟨ab, 0, none⟩), .pointer (some ⟨wb, 0, none⟩)] w fun e w' => e = .returned (.slice none 0 0) ∧ w' = w := by
  go_enter Tryz.func231, Tryz.ntmps231
  go_wp2
  go_loop [5, 10] (fun b i => b = .slice none 0 0 ∧ i = .int .i64 0) (fun _ _ => 0)
  case atStart => exact ⟨rfl, rfl⟩
  case round =>
    obtain ⟨rfl, rfl⟩ := hrel
    go_wp2
    go_ret
    exact ⟨rfl, rfl⟩
theorem numbers1_any (av : Value) (a : Option Addr) (ab wb c : Nat) (x : Int) (zs : List Int) (w : World) (hab : w.cell? ⟨ab, 0, none⟩ = some (.slice a zs.length c)) (hwb : w.cell? ⟨wb, 0, none⟩ = some (.int .i64 x)) (hn : zs.length ≤ 100) (hws : wb < w.heap.size) (hz : IV w a zs) :
    Calls Tryz.prog 231 #[av, .pointer (some ⟨ab, 0, none⟩), .pointer (some ⟨wb, 0, none⟩)] w fun e w' => ∃ v, e = .returned v ∧ Own w' w.heap.size v (wides x zs) ∧ Below w.heap.size w w' := by
  rcases hz with rfl | ⟨b, off, rfl, hb, hcc⟩
  · refine (numbers1_zero av a ab wb c x w hab).mono ?_
    rintro e w' ⟨rfl, hw⟩
    obtain rfl := hw.symm
    exact ⟨_, rfl, Own.nil _ _, Below.refl _ _⟩
  · exact numbers1_ok av ab wb b off zs.length c x zs w hab hwb rfl hn hb hws hcc
set_option maxHeartbeats 400000 in
theorem numbers_any (x : Int) (a : Option Addr) (n c : Nat) (w : World) : Calls Tryz.prog 210 #[.int .i64 x, .slice a n c] w fun e w' => ∃ ab wb, e = .returned (.func (.func 231) #[] #[.pointer (some ⟨ab, 0, none⟩), .pointer (some ⟨wb, 0, none⟩)]) ∧ Hid (w'.cell? ⟨ab, 0, none⟩ = some (.slice a n c) ∧ w'.cell? ⟨wb, 0, none⟩ = some (.int .i64 x) ∧ ab < w'.heap.size ∧ wb < w'.heap.size) ∧ Below w.heap.size w w' := by
  have hmf : ∀ (fn : Fn) (first cap : Array Value) (w : World), (Instr.makeFunc fn first cap).run Tryz.prog w = .ok (.func fn first cap) w := fun _ _ _ _ => rfl
  have hF : Hid (∃ W, W = (w.alloc (.cells #[.int .i64 x] 3)).alloc (.cells #[.slice a n c] 52) ∧ W.cell? ⟨w.heap.size + 1, 0, none⟩ = some (.slice a n c) ∧ W.cell? ⟨w.heap.size, 0, none⟩ = some (.int .i64 x) ∧ w.heap.size + 1 < W.heap.size ∧ w.heap.size < W.heap.size ∧ Below w.heap.size w W) := ⟨_, rfl, by go_simp, by go_simp, by simp, by simp; omega, ((Below.refl _ _).alloc (Nat.le_refl _) _).alloc (by simp) _⟩
  obtain ⟨W, hW, h1, h2, h3, h4, h5⟩ := hF.out
  go_enter Tryz.func210, Tryz.ntmps210
  go_wp2
  go_ret
  rw [← hW]
  exact ⟨_, _, rfl, ⟨h1, h2, h3, h4⟩, h5⟩
def Laid (w w' : World) (e : Ending) (ys : List Int) : Prop := ∃ a cap, e = .returned (.slice a ys.length cap) ∧ Hid (BV w' a ys ∧ (a = none → cap = 0)) ∧ Below w.heap.size w w'
theorem Laid.of {w w' : World} {v : Value} {ys : List Int} (h : Own w' w.heap.size v ys) (hz : AllB ys) (hb : Below w.heap.size w w') : Laid w w' (.returned v) ys := by
  obtain ⟨a, cap, rfl, h1, h2, h3, h4⟩ := h.slice hz
  exact ⟨a, cap, rfl, ⟨h2, h1⟩, hb⟩
theorem root_all : AllB [114, 111, 111, 116] := by intro z hz; revert z; decide
set_option maxHeartbeats 400000 in
theorem layers1_any (av : Value) (w : World) : Calls Tryz.prog 211 #[av] w fun e w' => Laid w w' e [114, 111, 111, 116] := by
  have hc := Lib.run_convert_bytes_const (P := Tryz.prog) w 29 5 #[.int .u8 114, .int .u8 111, .int .u8 111, .int .u8 116] 4 4 Tryz.underlying29 Tryz.underlying5
  have hb : BV (w.alloc (.cells #[.int .u8 114, .int .u8 111, .int .u8 111, .int .u8 116] 5 (4, 5))) (some ⟨w.heap.size, 0, none⟩) [114, 111, 111, 116] := bv_lit w [114, 111, 111, 116] root_all (4, 5)
  have B0 : Below w.heap.size w (w.alloc (.cells #[.int .u8 114, .int .u8 111, .int .u8 111, .int .u8 116] 5 (4, 5))) := (Below.refl _ _).alloc (Nat.le_refl _) _
  go_enter Tryz.func211, Tryz.ntmps211
  go_wp2
  go_ret
  exact ⟨_, _, rfl, ⟨hb, by intro h; cases h⟩, B0⟩
set_option maxHeartbeats 400000 in
theorem layers2_any (a : Option Addr) (n c : Nat) (w : World) (hn : n ≤ 246) : Calls Tryz.prog 212 #[.slice a n c] w fun e w' => Laid w w' e (List.replicate (246 - n) 0) := by
  have hw : wrap64 (246 - (n : Int)) = ((246 - n : Nat) : Int) := by unfold wrap64; omega
  have hw2 : (246 : Int) - (n : Int) = ((246 - n : Nat) : Int) := by omega
  have HZ := zeros_all (246 - n)
  obtain ⟨i0, hi, hz0, hz1, hz2⟩ := info_parts Tryz.info5
  go_enter Tryz.func212, Tryz.ntmps212
  go_wp2_with (at_make; refine wpList_make_full _ rfl _ _ 29 rfl w.heap.size 5 i0 (.int .u8 0) 1 Tryz.underlying29 hi hz0 hz1 .i64 .i64 _ _ (246 - n) rfl rfl (by first | rfl | exact hw | exact hw2) (by first | rfl | exact hw | exact hw2) ?c2 ?c3 (Nat.le_refl _) ?_)
  case c2 => rw [hz2]; omega
  case c3 => unfold maxLen; omega
  intro w1 hown hg
  have hb1 : Below w.heap.size w w1 := (Below.refl _ _).grown hg (Nat.le_refl _) (by intro k hk; cases hk)
  have HO : Hid (Own w1 w.heap.size (.slice (some ⟨w.heap.size, 0, none⟩) (246 - n) (246 - n)) (List.replicate (246 - n) 0)) := by
    rw [toList_madeCells_one] at hown
    show World.ownsRow _ _ _ _ _ _ _
    rw [List.length_replicate, List.map_replicate]
    exact hown
  clear hown hg
  go_wp2
  go_ret
  exact Laid.of HO.out HZ hb1
theorem putL4 (M : Nat) (h : M < 4294967296) : putL (M : Int) 4 = dig M 4 := by
  unfold putL
  rw [if_neg (by omega), if_neg (by simp; omega)]
  rfl
set_option maxHeartbeats 400000 in
theorem layers3_any (a : Option Addr) (zs : List Int) (c : Nat) (w : World) (hb : BV w a zs) (hn : a = none → c = 0) (hl : zs.length ≤ 1000) : Calls Tryz.prog 213 #[.slice a zs.length c] w fun e w' => Laid w w' e (dig (more 0 zs) 4) := by
  have hM := more_lt (show 0 < 4294967296 by decide) hb.1
  have HO := of_any w.heap.size 0 1 1 [zs] (w.alloc (.cells #[.slice a zs.length c] 29)) rfl (by decide) (parts1 hb hn (by omega))
  rw [show mores 0 [zs] = more 0 zs from rfl] at HO
  have B0 : Below w.heap.size w (w.alloc (.cells #[.slice a zs.length c] 29)) := (Below.refl _ _).alloc (Nat.le_refl _) _
  have HWD := wide_any ((more 0 zs : Nat) : Int) 4 (w.alloc (.cells #[.slice a zs.length c] 29))
  rw [putL4 _ hM] at HWD
  have hwr : wrap64 ((more 0 zs : Nat) : Int) = ((more 0 zs : Nat) : Int) := by unfold wrap64; omega
  generalize more 0 zs = M at *
  clear hb
  go_enter Tryz.func213, Tryz.ntmps213
  go_wp2_with (first
    | (go_at_call 178; refine HO.mono ?_; rintro e w1 ⟨rfl, hw1⟩; obtain rfl := hw1.symm; clear HO)
    | (go_at_call 214; refine HWD.mono ?_; rintro e w2 ⟨v, rfl, ho2, hb2⟩; clear HWD)
    | fail)
  go_ret
  obtain ⟨a2, cap2, e2, h1, h2⟩ := Laid.of ho2 (dig_all 4 M) hb2
  exact ⟨a2, cap2, e2, h1, B0.trans (hb2.mono B0.size)⟩
end Go.Proofs.YtbklnadlbcndlaaGreat.R
