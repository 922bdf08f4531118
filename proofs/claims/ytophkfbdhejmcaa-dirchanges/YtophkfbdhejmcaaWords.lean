/- page.Words at any ints: the contract of a single call. -/
import Derived.Test.YtophkfbdhejmcaaSpec
namespace Go.Proofs.Ytophkfbdhejmcaa
set_option maxRecDepth 20000
open Go.RowKit
set_option linter.unusedVariables false
set_option linter.unusedSimpArgs false
def wordB (n : Int) : Bool := decide (0 ≤ n) && decide (n ≤ 65535)
def wordsB (ns : List Int) : Bool := ns.all wordB
def wordsS (ns : List Int) : List Int := ns.flatMap (fun n => dig n 2)
def wordsE (ns : List Int) : Int := if wordsB ns then 0 else 12
def wordsL (ns : List Int) : List Int := if wordsB ns then wordsS ns else []
theorem wordsS_all : ∀ ns : List Int, AllB (wordsS ns)
  | [] => AllB.nil
  | n :: ns => (dig_all _ _).append (wordsS_all ns)
theorem wordsL_all (ns : List Int) : AllB (wordsL ns) := by
  unfold wordsL; split
  · exact wordsS_all _
  · exact AllB.nil
theorem wordsS_len : ∀ ns : List Int, (wordsS ns).length = 2 * ns.length
  | [] => rfl
  | n :: ns => by
    show (dig n 2 ++ wordsS ns).length = _
    rw [List.length_append, dig_length, wordsS_len ns, List.length_cons]; omega
theorem wordsS_take (ns : List Int) (k : Nat) (h : k < ns.length) : wordsS (ns.take (k + 1)) = wordsS (ns.take k) ++ dig (ns.getD k 0) 2 := by
  unfold wordsS
  rw [take_snoc ns k h, List.flatMap_append]; simp
theorem wordsB_take (ns : List Int) (k : Nat) (h : k < ns.length) : wordsB (ns.take (k + 1)) = (wordsB (ns.take k) && wordB (ns.getD k 0)) := by
  unfold wordsB
  rw [take_snoc ns k h, List.all_append]; simp
theorem wordsB_false {ns : List Int} {k : Nat} (h : k < ns.length) (hb : wordB (ns.getD k 0) = false) : wordsB ns = false := by
  cases h2 : wordsB ns with
  | false => rfl
  | true =>
    have := List.all_eq_true.1 h2 (ns.getD k 0) (by rw [List.getD_eq_getElem?_getD, List.getElem?_eq_getElem h]; simp)
    rw [hb] at this; cases this
set_option maxHeartbeats 800000 in
theorem words_nil (a : Option Addr) (cap : Nat) (w : World) :
    Calls Try.prog 31 #[.slice a 0 cap] w fun e w' => ∃ v, e = .returned (.tuple #[v, .int .i64 0]) ∧ Own w' w.heap.size v [] ∧ Below w.heap.size w w' := by
  obtain ⟨inf, hi, hz0, hz1, hz2⟩ := info_parts Try.info5
  go_enter Try.func31, Try.ntmps31
  go_wp2_with (at_make; refine wpList_make_own _ rfl _ _ 27 rfl w.heap.size 5 inf (.int .u8 0) 1 Try.underlying27 hi hz0 hz1 .i64 .i64 _ 0 rfl rfl rfl (by omega) (by decide) (Nat.le_refl _) ?_)
  intro w1 hown hg
  have HO : Hid (Own w1 w.heap.size (.slice (some ⟨w.heap.size, 0, none⟩) 0 0) []) := hown
  have HB : Hid (Below w.heap.size w w1) := (Below.refl _ _).grown hg (Nat.le_refl _) (by intro k hk; cases hk)
  clear hown hg
  go_wp2
  go_loop [4, 13] (fun bv i => bv = .slice (some ⟨w.heap.size, 0, none⟩) 0 0 ∧ i = .int .i64 0) (fun _ _ => 0)
  case atStart => exact ⟨rfl, rfl⟩
  case round =>
    obtain ⟨rfl, rfl⟩ := hrel
    go_wp2
    exact bodyPost_ret (v := .tuple #[.slice (some ⟨w.heap.size, 0, none⟩) 0 0, .int .i64 0]) (by simp [results, Try.results31, go_sem]) rfl ⟨_, rfl, HO.out, HB.out⟩
set_option maxHeartbeats 1600000 in
theorem words_ok (b off n cap : Nat) (ns : List Int) (w : World) (hl : ns.length = n) (hn : n ≤ 100000) (hblt : b < w.heap.size) (hc : ∀ i, i < ns.length → w.cell? ⟨b, off + i, none⟩ = some (.int .i64 (ns.getD i 0))) :
    Calls Try.prog 31 #[.slice (some ⟨b, off, none⟩) n cap] w fun e w' => ∃ v, e = .returned (.tuple #[v, .int .i64 (wordsE ns)]) ∧ Own w' w.heap.size v (wordsL ns) ∧ Below w.heap.size w w' := by
  obtain ⟨inf, hi, hz0, hz1, hz2⟩ := info_parts Try.info5
  have hw : wrap64 (2 * (n : Int)) = ((2 * n : Nat) : Int) := by unfold wrap64; omega
  have HW0 : Hid (wrap64 (2 * (n : Int)) = ((2 * n : Nat) : Int)) := hw
  have HW2 : Hid ((2 * (n : Int)) = ((2 * n : Nat) : Int)) := by show (2 * (n : Int)) = ((2 * n : Nat) : Int); omega
  have hw3 : wrap64 (2 * (n : Int)) = 2 * (n : Int) := by unfold wrap64; omega
  clear hw
  have HL : Hid (ns.length = n) := hl
  have HC : Hid (∀ i, i < ns.length → w.cell? ⟨b, off + i, none⟩ = some (.int .i64 (ns.getD i 0))) := hc
  clear hl hc
  go_enter Try.func31, Try.ntmps31
  go_wp2_with (at_make; refine wpList_make_own _ rfl _ _ 27 rfl w.heap.size 5 inf (.int .u8 0) 1 Try.underlying27 hi hz0 hz1 .i64 .i64 _ (2 * n) rfl rfl (by first | rfl | exact HW0.out | exact HW2.out) ?c2 ?c3 (Nat.le_refl _) ?_)
  case c2 => rw [hz2]; omega
  case c3 => unfold maxLen; omega
  intro w1 hown hg
  have HO1 : Hid (Own w1 w.heap.size (.slice (some ⟨w.heap.size, 0, none⟩) 0 (2 * n)) []) := hown
  have HB1 : Hid (Below w.heap.size w w1) := (Below.refl _ _).grown hg (Nat.le_refl _) (by intro k hk; cases hk)
  clear hown hg
  go_wp2
  go_loopw [4, 13] (fun bv iv wr => ∃ k : Nat, k ≤ n ∧ iv = .int .i64 k ∧ Hid (wordsB (ns.take k) = true) ∧ Hid (Own wr w.heap.size bv (wordsS (ns.take k))) ∧ Hid (Below w.heap.size w wr)) (fun _ iv _ => n - (intOf iv).toNat)
  case atStart => exact ⟨0, Nat.zero_le _, rfl, rfl, HO1.out, HB1.out⟩
  case round =>
    obtain ⟨k, hk, rfl, HK, HO, HB⟩ := hrel
    clear HO1 HB1
    by_cases hlt : k < n
    · have hck : wr.cell? ⟨b, off + k, none⟩ = some (.int .i64 (ns.getD k 0)) := by
        rw [HB.out.cell (p := ⟨b, off + k, none⟩) hblt]
        exact HC.out k (by have := HL.out; omega)
      have H1 : Hid (Calls Try.prog 45 #[.int .i64 (ns.getD k 0), .int .i64 0, .int .i64 65535] wr fun e w' => e = .returned (.bool (wordB (ns.getD k 0))) ∧ w' = wr) := within_any _ 0 65535 wr
      cases hwb : wordB (ns.getD k 0) with
      | false =>
        rw [hwb] at H1
        have HE : Hid (wordsB ns = false) := wordsB_false (by have := HL.out; omega) hwb
        generalize ns.getD k 0 = z at *
        clear hwb
        go_wp2_with (first | (go_at_call 45; refine H1.out.mono ?_; rintro e w' ⟨rfl, hw⟩; obtain rfl := hw.symm; clear H1) | fail)
        refine bodyPost_ret (v := .tuple #[.slice none 0 0, .int .i64 12]) (by simp [results, Try.results31, go_sem]) rfl ⟨.slice none 0 0, ?_, ?_, HB.out⟩
        · unfold wordsE; rw [HE.out]; rfl
        · unfold wordsL; rw [HE.out]; exact Own.nil _ _
      | true =>
        rw [hwb] at H1
        have HKn : Hid (wordsB (ns.take (k + 1)) = true) := by
          have := wordsB_take ns k (by have := HL.out; omega)
          rw [HK.out, hwb] at this
          exact this
        have HT : Hid (wordsS (ns.take (k + 1)) = wordsS (ns.take k) ++ dig (ns.getD k 0) 2) := wordsS_take ns k (by have := HL.out; omega)
        have HLE : Hid ((wordsS (ns.take k)).length ≤ 200000) := by
          have := wordsS_len (ns.take k)
          rw [List.length_take] at this
          show (wordsS (ns.take k)).length ≤ 200000
          omega
        have HW : Hid (Calls Try.prog 46 #[.int .i64 (ns.getD k 0), .int .i64 2] wr fun e w' => ∃ a' c', e = .returned (.slice a' (dig (ns.getD k 0) 2).length c') ∧ (a' = none → c' = 0) ∧ Hid (BV w' a' (dig (ns.getD k 0) 2)) ∧ Hid (Below wr.heap.size wr w')) := by
          have := wide_any (ns.getD k 0) 2 wr
          have hzz : 0 ≤ ns.getD k 0 ∧ ns.getD k 0 ≤ 65535 := by
            unfold wordB at hwb; simp only [Bool.and_eq_true, decide_eq_true_eq] at hwb; exact hwb
          rw [show putL (ns.getD k 0) 2 = dig (ns.getD k 0) 2 from putL_dig _ 2 (by decide) (by decide) (by omega) (by show ns.getD k 0 < 65536; omega)] at this
          refine this.mono ?_
          rintro e w' ⟨v, rfl, ho, hbl⟩
          obtain ⟨a', c', rfl, q1, q2, _, _⟩ := ho.slice (dig_all _ _)
          exact ⟨a', c', rfl, q1, q2, hbl⟩
        have HDL : Hid ((dig (ns.getD k 0) 2).length = 2) := dig_length _ _
        generalize dig (ns.getD k 0) 2 = ds at *
        generalize ns.getD k 0 = z at *
        clear hwb HK
        go_wp2_with (first
          | (go_at_call 45; refine H1.out.mono ?_; rintro e w' ⟨rfl, hw⟩; obtain rfl := hw.symm; clear H1)
          | (go_at_call 46; refine HW.out.mono ?_; rintro e w2 ⟨a2, c2, rfl, n2, V2, B2⟩; clear HW)
          | (at_builtin; refine wp_app_bv rfl _ _ rfl w.heap.size _ (wordsS (ns.take k)) ds rfl (HO.out.below B2.out) a2 c2 rfl V2.out n2 (by have := HDL.out; have := HLE.out; omega) (Nat.le_trans HB.out.size B2.out.size) ?_; intro v3 w3 o3 b3; have O3 : Hid (Own w3 w.heap.size v3 (wordsS (ns.take k) ++ ds)) := o3; have B3 : Hid (Below w.heap.size w w3) := (HB.out.trans (B2.out.mono HB.out.size)).trans b3; clear o3 b3)
          | fail)
        go_roundw
        case rel => exact ⟨k + 1, by omega, by go_num, HKn.out, by rw [HT.out]; exact O3.out, B3.out⟩
        case measure => simp [intOf]; omega
    · have : k = n := by omega
      subst this
      have h1 := HK.out
      have h2 := HO.out
      rw [List.take_of_length_le (by have := HL.out; omega)] at h1 h2
      have HE : Hid (wordsE ns = 0) := by unfold wordsE; rw [h1]; exact rfl
      have HF : Hid (wordsL ns = wordsS ns) := by unfold wordsL; rw [h1]; exact rfl
      have HO2 : Hid (Own wr w.heap.size u4 (wordsS ns)) := h2
      clear h1 h2 HK HO
      go_wp2
      exact bodyPost_ret (v := .tuple #[u4, .int .i64 0]) (by simp [results, Try.results31, go_sem]) rfl ⟨u4, by rw [HE.out], by rw [HF.out]; exact HO2.out, HB.out⟩
theorem words_any (a : Option Addr) (cap : Nat) (ns : List Int) (w : World) (hb : IV w a ns) (hm : ns.length ≤ 100000) :
    Calls Try.prog 31 #[.slice a ns.length cap] w fun e w' => ∃ v, e = .returned (.tuple #[v, .int .i64 (wordsE ns)]) ∧ Own w' w.heap.size v (wordsL ns) ∧ Below w.heap.size w w' := by
  rcases hb with rfl | ⟨b, off, rfl, hlt, hc⟩
  · exact words_nil a cap w
  · exact words_ok b off ns.length cap ns w rfl hm hlt hc
end Go.Proofs.Ytophkfbdhejmcaa
