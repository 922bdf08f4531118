/- For every number, every width and all bytes the call NumBack of the statements returns true and its arguments read as they did: no condition. -/
import Derived.Test.YtfldbcolfdofaaaAwake
import Derived.Deep.RegionHeld3
import Derived.Test.YtfldbcolfdofaaaRows
import Derived.WalkKit
import Derived.ProofKit
import Derived.OpenShut
import Derived.ShutString
import Derived.ChangeOld
import Derived.Below
namespace Go.Proofs.Ytfldbcolfdofaaa.numBack
open Go.ChangeShapes Go.WideShapes Go.ChangeAt Go.RowKit
open Go.ChangeMaps (open_string shut_string)
set_option linter.unusedVariables false

theorem own : ownKnob Try.prog.godebug = none := by kernel_rfl
theorem laidOut : laidOutB Try.prog = true := by kernel_rfl

/-- WHAT THE WALK IS TOLD OF A SLICE OF INTEGERS THAT CAME IN: it is nil; or it leads to a row of 'cap' cells, the numbers 'zs' (the first 'len' are its elements, the rest its spare room), each fitting its kind. -/
def IsRow (k : IntKind) (w : World) (a : Option Addr) (len cap : Nat) (zs : List Int) : Prop :=
  (a = none ∧ len = 0 ∧ cap = 0 ∧ zs = []) ∨
  ∃ x, a = some x ∧ len ≤ cap ∧ cap ≤ maxLen ∧ zs.length = cap ∧ (∀ i, i < zs.length → w.cell? (x.add i) = some (.int k (zs.getD i 0))) ∧ ∀ n ∈ zs, (Lit.int k n).wf = true

theorem row_bytes {w : World} {a : Option Addr} {len cap : Nat} {zs : List Int} (h : IsRow .u8 w a len cap zs) :
    ∃ ys : List Int, ys.length = len ∧ BV w a ys ∧ (a = none → cap = 0) ∧ len ≤ cap ∧ len ≤ 9223372036854775807 := by
  rcases h with ⟨rfl, rfl, rfl, rfl⟩ | ⟨x, rfl, hl, hm, hz, hcell, hwz⟩
  · exact ⟨[], rfl, ⟨AllB.nil, .inl rfl⟩, fun _ => rfl, Nat.le_refl _, by decide⟩
  · refine ⟨zs.take len, by simp; omega, ⟨?_, ?_⟩, (fun h => by cases h), hl, by unfold maxLen at hm; omega⟩
    · intro z hz'
      have := bounds_u8 (hwz z (List.mem_of_mem_take hz'))
      omega
    · by_cases h0 : len = 0
      · left; simp [h0]
      · right
        obtain ⟨b, off, spot⟩ := x
        have hc := hcell 0 (by omega)
        have hspot : spot = none := by simpa [Addr.add] using World.cell?_spot hc
        subst hspot
        refine ⟨b, off, rfl, ?_, ?_⟩
        · have := World.block_lt_of_cell? _ _ hc
          simpa [Addr.add] using this
        · intro i hi
          rw [List.length_take] at hi
          have := hcell i (by omega)
          rw [add_plain] at this
          rw [this, List.getD_eq_getElem?_getD, List.getD_eq_getElem?_getD, List.getElem?_take, if_pos (by omega)]

theorem putE_cases (n x : Int) (h : putE n x = 0) : ∃ y : Nat, x = y ∧ 1 ≤ y ∧ y ≤ 6 ∧ 0 ≤ n ∧ n < 256 ^ y ∧ putL n x = dig n y := by
  unfold putE at h
  unfold putL
  split at h
  · cases h
  · rename_i h1
    split at h
    · cases h
    · rename_i h2
      obtain ⟨y, rfl⟩ := Int.eq_ofNat_of_zero_le (show 0 ≤ x by omega)
      rw [Int.toNat_natCast] at h2
      refine ⟨y, rfl, by omega, by omega, by omega, by omega, ?_⟩
      rw [if_neg h1, Int.toNat_natCast, if_neg h2]
theorem get_dig (n : Int) (y : Nat) (h1 : 1 ≤ y) (h6 : y ≤ 6) (h0 : 0 ≤ n) (hn : n < 256 ^ y) : getV (dig n y) y = n ∧ getE (dig n y) y = 0 := by
  have l := dig_length y n
  constructor
  · unfold getV
    rw [if_neg (by omega), if_neg (by omega), Int.toNat_natCast, List.take_of_length_le (by omega), val_dig y n h0 hn]
  · unfold getE
    rw [if_neg (by omega), if_neg (by omega)]
theorem put_val (zs : List Int) (y : Nat) (h1 : 1 ≤ y) (h6 : y ≤ 6) (hl : y ≤ zs.length) (hz : AllB zs) : putE (val (zs.take y)) y = 0 ∧ putL (val (zs.take y)) y = zs.take y := by
  have l : (zs.take y).length = y := by simp; omega
  have b := val_bound y (zs.take y) l (hz.take y)
  constructor
  · unfold putE
    rw [if_neg (by omega), Int.toNat_natCast, if_neg (by omega)]
  · unfold putL
    rw [if_neg (by omega), Int.toNat_natCast, if_neg (by omega), dig_val y (zs.take y) l (hz.take y)]

set_option maxHeartbeats 800000 in
theorem walk01 (n : Int) (y : Nat) (b off len cap : Nat) (zs : List Int) (w : World) (hp : putE n y ≠ 0) (h1 : 1 ≤ y) (h6 : y ≤ 6) (hy : y ≤ len) (hl : zs.length = len) (h3 : len ≤ 300) (hc : len ≤ cap) (hz : AllB zs) (hlt : b < w.heap.size)
    (hcell : ∀ i, i < zs.length → w.cell? ⟨b, off + i, none⟩ = some (.int .u8 (zs.getD i 0))) :
    Calls Try.prog 7 #[.int .i64 n, .int .i64 y, .slice (some ⟨b, off, none⟩) len cap] w fun e w' => e = .returned (.bool true) ∧ Below w.heap.size w w' := by
  have z1 := hz.take y
  obtain ⟨q1, q2⟩ := put_val zs y h1 h6 (by omega) hz
  have HL : Hid (zs.length = len) := hl
  have Q1 : Hid (putE (val (zs.take y)) y = 0) := q1
  have Q2 : Hid (putL (val (zs.take y)) y = zs.take y) := q2
  clear hl q1 q2
  have HP := put_any n y w
  have hpb : (putE n y == 0) = false := by simpa using hp
  generalize putE n y = pe at *
  clear hp
  go_enter Try.func7, Try.ntmps7
  go_wp2_with fail
  refine HP.mono ?_
  rintro e w1 ⟨v1, rfl, _, hb1⟩
  clear HP
  go_wp2_with fail
  refine (get_ok b off len cap zs y w1 h1 h6 hy (by omega) hz HL.out (fun i hi => (hb1.cell (p := ⟨b, off + i, none⟩) hlt).trans (hcell i hi))).mono ?_
  rintro e w' ⟨rfl, hw⟩
  obtain rfl := hw.symm
  go_wp2_with fail
  have HQ := put_any (val (zs.take y)) y w1
  rw [Q1.out, Q2.out] at HQ
  refine HQ.mono ?_
  rintro e w2 ⟨v2, rfl, ho2, hb2⟩
  clear HQ
  have hb := hb1.trans (hb2.mono hb1.size)
  have hcv : ∀ w', Below w2.heap.size w2 w' → Below w2.heap.size w2 w' ∧ (convert 22 9 v2).run Try.prog w' = .ok (.string (strOfNums (zs.take y))) w' ∧ (convert 22 9 (.slice (some ⟨b, off, none⟩) y cap)).run Try.prog w' = .ok (.string (strOfNums (zs.take y))) w' := by
    intro w' hw'
    refine ⟨hw', conv_own (ho2.below hw') z1, ?_⟩
    refine run_convert_bytes_arg (P := Try.prog) w' 22 5 Try.underlying22 Try.underlying5 b off y cap (zs.take y) (by have := HL.out; simp; omega) ?_ 9 Try.underlying9
    intro i hi
    have hil : i < zs.length := by have := HL.out; omega
    have hbb : Below w.heap.size w w' := hb.trans (hw'.mono hb.size)
    rw [(hbb.cell (p := ⟨b, off + i, none⟩) hlt), hcell i hil, List.getD_eq_getElem?_getD, List.getD_eq_getElem?_getD, List.getElem?_take, if_pos hi]
  have SL : Hid (∀ w', Below w2.heap.size w2 w' → Below w2.heap.size w2 w' ∧ (convert 22 9 v2).run Try.prog w' = .ok (.string (strOfNums (zs.take y))) w' ∧ (convert 22 9 (.slice (some ⟨b, off, none⟩) y cap)).run Try.prog w' = .ok (.string (strOfNums (zs.take y))) w') := hcv
  clear hcv ho2 hb1 hb2 hcell z1 hz
  generalize strOfNums (zs.take y) = st at *
  go_wp2_with fail
  have d0 : ((0 : Int) == 0) = true := rfl
  have hyc : (y : Int) ≤ (cap : Int) := by omega
  have hcp : ¬ cap = 0 := by omega
  go_region_held3 (fun w' => Below w2.heap.size w2 w' ∧ (convert 22 9 v2).run Try.prog w' = .ok (.string st) w' ∧ (convert 22 9 (.slice (some ⟨b, off, none⟩) y cap)).run Try.prog w' = .ok (.string st) w') (first | exact SL.out _ (Below.refl _ _).drew | exact SL.out _ ((Below.refl _ _).drew.trans hb3)) (first | (go_at_call 13; refine (awake_any _).mono ?_; rintro e w3 ⟨rfl, hb3⟩))
  go_wp2
  go_ret
  exact ⟨rfl, hb.trans (((Below.refl _ _).drew.trans hb3).mono hb.size)⟩

set_option maxHeartbeats 800000 in
theorem walk11 (n : Int) (y : Nat) (b off len cap : Nat) (zs : List Int) (w : World) (h0 : 0 ≤ n) (hn : n < 256 ^ y) (h1 : 1 ≤ y) (h6 : y ≤ 6) (hy : y ≤ len) (hl : zs.length = len) (h3 : len ≤ 300) (hc : len ≤ cap) (hz : AllB zs) (hlt : b < w.heap.size)
    (hcell : ∀ i, i < zs.length → w.cell? ⟨b, off + i, none⟩ = some (.int .u8 (zs.getD i 0))) :
    Calls Try.prog 7 #[.int .i64 n, .int .i64 y, .slice (some ⟨b, off, none⟩) len cap] w fun e w' => e = .returned (.bool true) ∧ Below w.heap.size w w' := by
  have z1 := hz.take y
  obtain ⟨q1, q2⟩ := put_val zs y h1 h6 (by omega) hz
  have HL : Hid (zs.length = len) := hl
  have Q1 : Hid (putE (val (zs.take y)) y = 0) := q1
  have Q2 : Hid (putL (val (zs.take y)) y = zs.take y) := q2
  clear hl q1 q2
  have HP := put_ok n y w h1 h6 h0 hn
  have HGD := get_dig n y h1 h6 h0 hn
  have zd := dig_all y n
  have ld := dig_length y n
  generalize dig n y = ds at *
  have L0 : Hid (ds.length = y) := ld
  have G0 : Hid (getV ds y = n ∧ getE ds y = 0) := HGD
  clear HGD ld hn
  go_enter Try.func7, Try.ntmps7
  go_wp2_with fail
  refine HP.mono ?_
  rintro e w1 ⟨v1, rfl, ho1', hb1⟩
  clear HP
  have ho1 : Own w1 w.heap.size v1 ds := by unfold Own; rw [L0.out]; exact ho1'
  obtain ⟨g1, p1, rfl, hp1, _, _⟩ := ho1.shape y L0.out (by omega)
  have HG := get_any (some ⟨g1, 0, none⟩) y p1 ds y w1 (ho1.bv zd) L0.out (by omega)
  rw [G0.out.1, G0.out.2] at HG
  clear ho1 ho1' zd
  go_wp2_with fail
  refine HG.mono ?_
  rintro e w' ⟨rfl, hw⟩
  obtain rfl := hw.symm
  clear HG
  go_wp2_with fail
  refine (get_cut _ (y - 1) p1 y w1 (by omega) (by omega) (by omega)).mono ?_
  rintro e w' ⟨rfl, hw⟩
  obtain rfl := hw.symm
  go_wp2_with fail
  refine (get_ok b off len cap zs y w1 h1 h6 hy (by omega) hz HL.out (fun i hi => (hb1.cell (p := ⟨b, off + i, none⟩) hlt).trans (hcell i hi))).mono ?_
  rintro e w' ⟨rfl, hw⟩
  obtain rfl := hw.symm
  go_wp2_with fail
  have HQ := put_any (val (zs.take y)) y w1
  rw [Q1.out, Q2.out] at HQ
  refine HQ.mono ?_
  rintro e w2 ⟨v2, rfl, ho2, hb2⟩
  clear HQ
  have hb := hb1.trans (hb2.mono hb1.size)
  have hcv : ∀ w', Below w2.heap.size w2 w' → Below w2.heap.size w2 w' ∧ (convert 22 9 v2).run Try.prog w' = .ok (.string (strOfNums (zs.take y))) w' ∧ (convert 22 9 (.slice (some ⟨b, off, none⟩) y cap)).run Try.prog w' = .ok (.string (strOfNums (zs.take y))) w' := by
    intro w' hw'
    refine ⟨hw', conv_own (ho2.below hw') z1, ?_⟩
    refine run_convert_bytes_arg (P := Try.prog) w' 22 5 Try.underlying22 Try.underlying5 b off y cap (zs.take y) (by have := HL.out; simp; omega) ?_ 9 Try.underlying9
    intro i hi
    have hil : i < zs.length := by have := HL.out; omega
    have hbb : Below w.heap.size w w' := hb.trans (hw'.mono hb.size)
    rw [(hbb.cell (p := ⟨b, off + i, none⟩) hlt), hcell i hil, List.getD_eq_getElem?_getD, List.getD_eq_getElem?_getD, List.getElem?_take, if_pos hi]
  have SL : Hid (∀ w', Below w2.heap.size w2 w' → Below w2.heap.size w2 w' ∧ (convert 22 9 v2).run Try.prog w' = .ok (.string (strOfNums (zs.take y))) w' ∧ (convert 22 9 (.slice (some ⟨b, off, none⟩) y cap)).run Try.prog w' = .ok (.string (strOfNums (zs.take y))) w') := hcv
  clear hcv ho2 hb1 hb2 hcell z1 hz
  generalize strOfNums (zs.take y) = st at *
  go_wp2_with fail
  have d0 : ((0 : Int) == 0) = true := rfl
  have hyc : (y : Int) ≤ (cap : Int) := by omega
  have hcp : ¬ cap = 0 := by omega
  go_region_held3 (fun w' => Below w2.heap.size w2 w' ∧ (convert 22 9 v2).run Try.prog w' = .ok (.string st) w' ∧ (convert 22 9 (.slice (some ⟨b, off, none⟩) y cap)).run Try.prog w' = .ok (.string st) w') (first | exact SL.out _ (Below.refl _ _).drew | exact SL.out _ ((Below.refl _ _).drew.trans hb3)) (first | (go_at_call 13; refine (awake_any _).mono ?_; rintro e w3 ⟨rfl, hb3⟩))
  go_wp2
  go_ret
  exact ⟨rfl, hb.trans (((Below.refl _ _).drew.trans hb3).mono hb.size)⟩

set_option maxHeartbeats 800000 in
theorem walk00 (n x : Int) (a : Option Addr) (len cap : Nat) (zs : List Int) (w : World) (hp : putE n x ≠ 0) (hg : getE zs x ≠ 0) (hl : zs.length = len) (h3 : len ≤ 300) (hv : BV w a zs) :
    Calls Try.prog 7 #[.int .i64 n, .int .i64 x, .slice a len cap] w fun e w' => e = .returned (.bool true) ∧ Below w.heap.size w w' := by
  have HP := put_any n x w
  have hpb : (putE n x == 0) = false := by simpa using hp
  generalize putE n x = pe at *
  clear hp
  go_enter Try.func7, Try.ntmps7
  go_wp2_with fail
  refine HP.mono ?_
  rintro e w1 ⟨v1, rfl, _, hb1⟩
  clear HP
  have HG := get_any a len cap zs x w1 (hv.below hb1) hl (by omega)
  rw [getE_cut zs x hg] at HG
  have hgb : (getE zs x == 0) = false := by simpa using hg
  generalize getE zs x = ge at *
  clear hv hl hg
  go_wp2_with fail
  refine HG.mono ?_
  rintro e w' ⟨rfl, hw⟩
  obtain rfl := hw.symm
  clear HG
  go_wp2_with fail
  refine (awake_any w1).mono ?_
  rintro e w3 ⟨rfl, hb3⟩
  go_wp2
  go_ret
  exact ⟨rfl, hb1.trans (hb3.mono hb1.size)⟩

set_option maxHeartbeats 800000 in
theorem walk10 (n : Int) (y : Nat) (a : Option Addr) (len cap : Nat) (zs : List Int) (w : World) (h0 : 0 ≤ n) (hn : n < 256 ^ y) (h1 : 1 ≤ y) (h6 : y ≤ 6) (hg : getE zs y ≠ 0) (hl : zs.length = len) (h3 : len ≤ 300) (hv : BV w a zs) :
    Calls Try.prog 7 #[.int .i64 n, .int .i64 y, .slice a len cap] w fun e w' => e = .returned (.bool true) ∧ Below w.heap.size w w' := by
  have HP := put_ok n y w h1 h6 h0 hn
  have HGD := get_dig n y h1 h6 h0 hn
  have zd := dig_all y n
  have ld := dig_length y n
  generalize dig n y = ds at *
  have L0 : Hid (ds.length = y) := ld
  have G0 : Hid (getV ds y = n ∧ getE ds y = 0) := HGD
  clear HGD ld hn
  go_enter Try.func7, Try.ntmps7
  go_wp2_with fail
  refine HP.mono ?_
  rintro e w1 ⟨v1, rfl, ho1', hb1⟩
  clear HP
  have ho1 : Own w1 w.heap.size v1 ds := by unfold Own; rw [L0.out]; exact ho1'
  obtain ⟨g1, p1, rfl, hp1, _, _⟩ := ho1.shape y L0.out (by omega)
  have HG := get_any (some ⟨g1, 0, none⟩) y p1 ds y w1 (ho1.bv zd) L0.out (by omega)
  rw [G0.out.1, G0.out.2] at HG
  clear ho1 ho1' zd
  go_wp2_with fail
  refine HG.mono ?_
  rintro e w' ⟨rfl, hw⟩
  obtain rfl := hw.symm
  clear HG
  go_wp2_with fail
  refine (get_cut _ (y - 1) p1 y w1 (by omega) (by omega) (by omega)).mono ?_
  rintro e w' ⟨rfl, hw⟩
  obtain rfl := hw.symm
  have HG := get_any a len cap zs y w1 (hv.below hb1) hl (by omega)
  rw [getE_cut zs y hg] at HG
  have hgb : (getE zs y == 0) = false := by simpa using hg
  generalize getE zs y = ge at *
  clear hv hl hg
  go_wp2_with fail
  refine HG.mono ?_
  rintro e w' ⟨rfl, hw⟩
  obtain rfl := hw.symm
  clear HG
  go_wp2_with fail
  refine (awake_any w1).mono ?_
  rintro e w3 ⟨rfl, hb3⟩
  go_wp2
  go_ret
  exact ⟨rfl, hb1.trans (hb3.mono hb1.size)⟩

set_option maxHeartbeats 800000 in
theorem walk (n : Int) (x : Int) (a : Option Addr) (len cap : Nat) (z2 : List Int) (w : World) (_w0 : (Lit.int .i64 n).wf = true) (_w1 : (Lit.int .i64 x).wf = true) (w2 : IsRow .u8 w a len cap z2) :
    Calls Try.prog 7 #[.int .i64 n, .int .i64 x, .slice a len cap] w fun e w' => e = .returned (.bool true) ∧ Below w.heap.size w w' := by
  obtain ⟨zs, hl, hv, _, hc, hm⟩ := row_bytes w2
  clear w2 z2
  by_cases h : 300 < len
  · have HA := awake_any w
    clear hv hl
    go_enter Try.func7, Try.ntmps7
    go_wp2_with (go_at_call 13; refine HA.mono ?_; rintro e w1 ⟨rfl, hb⟩; clear HA)
    go_ret
    exact ⟨rfl, hb⟩
  · by_cases hg : getE zs x = 0
    · obtain ⟨g1, g2, g3⟩ := getE_zero zs x hg
      obtain ⟨y, rfl⟩ := Int.eq_ofNat_of_zero_le (show 0 ≤ x by omega)
      obtain ⟨hz, h4 | ⟨b, off, rfl, hlt, hcell⟩⟩ := hv
      · subst h4; simp at g3; omega
      · by_cases hp : putE n y = 0
        · obtain ⟨y', e, p1, p2, p3, p4, _⟩ := putE_cases n y hp
          obtain rfl : y = y' := by omega
          exact walk11 n y b off len cap zs w p3 p4 p1 p2 (by omega) hl (by omega) hc hz hlt hcell
        · exact walk01 n y b off len cap zs w hp (by omega) (by omega) (by omega) hl (by omega) hc hz hlt hcell
    · by_cases hp : putE n x = 0
      · obtain ⟨y, rfl, p1, p2, p3, p4, _⟩ := putE_cases n x hp
        exact walk10 n y a len cap zs w p3 p4 p1 p2 hg hl (by omega) hv
      · exact walk00 n x a len cap zs w hp hg hl (by omega) hv

set_option maxRecDepth 100000 in
theorem lifted (os : Os) (started : os.Started) (H : Type) (enc : TypeId × Value → H) :
    ReturnsInHanded {} Try.checked os 7 .any (Rows.numBackSpec.pre6 enc Try.prog Try.f7 Rows.numBackRow.domain false) (Rows.numBackSpec.post enc Try.prog Try.f7 false true false false) := by
  refine returnsInHanded_of_change (C := Try.checked) own started (by kernel_rfl) Try.func7
    (ChangeSpec.witness6 (enc := enc) (C := Try.checked) false ⟨#[], #[.int .i64 0, .int .i64 0, .slice none 0 0], []⟩ 8 (by kernel_rfl) (by kernel_rfl) (by kernel_rfl) (by kernel_rfl)) ?_
  intro W base args ds gs before hval0 hW hcnd _
  have hval : ∀ (j : Nat) t v, Try.f7.params[j]? = some t → args[j]? = some v → Value.okWide Try.prog W .any base t v := hval0
  have hW' := hW
  obtain ⟨p, q, hA0, hV, rfl, hfz, hnd⟩ := hW
  have hA : DataW.TrodAll enc Try.prog W 0 (fun _ => true) true Try.f7.params.toList args.toList ds p := hA0
  rw [Try.params7] at hA hval
  obtain ⟨v0, vs0, d0, ds0, p0, q0, hargs, rfl, rfl, h0, r0⟩ := trodAll_cons hA
  obtain ⟨v1, vs1, d1, ds1, p1, q1, rfl, rfl, rfl, h1, r1⟩ := trodAll_cons r0
  obtain ⟨v2, vs2, d2, ds2, p2, q2, rfl, rfl, rfl, h2, r2⟩ := trodAll_cons r1
  obtain ⟨rfl, rfl, rfl⟩ := trodAll_nil r2
  obtain rfl : args = #[v0, v1, v2] := by cases args; simp_all
  obtain ⟨rfl, rfl⟩ := trodVars_none hV
  obtain ⟨a0, rfl, rfl, rfl, w0⟩ := open_int Try.underlying3 (hval 0 3 v0 rfl rfl) h0
  obtain ⟨a1, rfl, rfl, rfl, w1⟩ := open_int Try.underlying3 (hval 1 3 v1 rfl rfl) h1
  obtain ⟨a2, len2, cap2, rfl⟩ := okWide_slice Try.underlying22 (hval 2 22 v2 rfl rfl)
  have k2 := h2
  have lt2 : ∀ x ∈ p2, x.block < W.heap.size := by obtain ⟨m, hm⟩ := k2; exact DataW.trod_lt m _ _ _ hm
  obtain ⟨z2, w2⟩ : ∃ zs, IsRow .u8 W a2 len2 cap2 zs := by
    obtain ⟨fuel, hf⟩ := h2
    rcases open_ints Try.underlying22 Try.underlying5 (by kernel_rfl) hf with ⟨hcs, _⟩ | ⟨x, l, c, zs, hcs, _, hl, hm, hz, _, hcell, hwz⟩
    · simp [Value.cells] at hcs
      obtain ⟨rfl, rfl, rfl⟩ := hcs
      exact ⟨[], .inl ⟨rfl, rfl, rfl, rfl⟩⟩
    · simp [Value.cells] at hcs
      obtain ⟨rfl, rfl, rfl⟩ := hcs
      exact ⟨zs, .inr ⟨_, rfl, hl, hm, by simpa using hz, hcell, hwz⟩⟩
  clear hA0 hval0
  refine (walk a0 a1 a2 len2 cap2 z2 W w0 w1 w2).mono fun e W' ⟨he, bel⟩ => ?_
  subst he
  exact ⟨_, rfl, _, _, _, [], _, [], hW', trodAll_mk1 (shut_bool Try.underlying4 _), (trodAll_cons_mk (shut_int Try.underlying3 w0) (trodAll_cons_mk (shut_int Try.underlying3 w1) (trodAll_cons_mk (Below.trod laidOut (by kernel_rfl) (of_decide_eq_true (by kernel_rfl)) k2 bel lt2) trodAll_mk0))), rfl, bel.frame _, fun h => by cases h⟩

theorem over : Rows.numBackRow.holds Try.pinned (OpenSpec.ofChange Rows.numBackSpec) :=
  OpenClaim.holds_of_wide 7 Try.f7 rfl rfl rfl rfl rfl rfl rfl ⟨rfl, rfl, rfl, rfl, rfl⟩ rfl rfl rfl rfl rfl (by kernel_rfl) Try.func7 (by kernel_rfl)
    (of_decide_eq_true (by kernel_rfl)) (by unfold Func.isWrapper; first | (rw [if_pos (by decide +kernel)]; kernel_rfl) | (rw [if_neg (by decide +kernel)]; exact ⟨rfl, rfl⟩))
    (fun os started H enc _ => lifted os started H enc)

end Go.Proofs.Ytfldbcolfdofaaa.numBack

namespace Go.Proofs.Ytfldbcolfdofaaa
theorem numBack_holds : Rows.NumBackSaid := numBack.over
#print axioms numBack_holds
end Go.Proofs.Ytfldbcolfdofaaa
