/- page.Unwords. -/
import Derived.Test.YtophkfbdhejmcaaRUnw
import Derived.Test.YtophkfbdhejmcaaPOpen
namespace Go.Proofs.Ytophkfbdhejmcaa
set_option maxRecDepth 20000
open Go.RowKit
set_option linter.unusedVariables false
set_option linter.unusedSimpArgs false
set_option maxHeartbeats 400000 in
theorem unw_odd (a : Option Addr) (n cap : Nat) (w : World) (h : n % 2 ≠ 0) :
    Calls Try.prog 43 #[.slice a n cap] w fun e w' => e = .returned (.tuple #[.slice none 0 0, .int .i64 4]) ∧ w' = w := by
  have t1 : Int.tmod (n : Int) 2 = 1 := by rw [Int.tmod_eq_emod_of_nonneg (by omega)]; omega
  have t2 : (n : Int) % 2 = 1 := by omega
  go_enter Try.func43, Try.ntmps43
  go_wp2
  exact bodyPost_ret (v := .tuple #[.slice none 0 0, .int .i64 4]) (by simp [results, Try.results43, go_sem]) rfl ⟨rfl, rfl⟩
theorem it_drop (zs : List Int) : ∀ k : Nat, 2 * k ≤ zs.length → itN k (zs, 0) = (zs.drop (2 * k), 0)
  | 0, _ => rfl
  | k + 1, h => by
    show nstep 2 (itN k (zs, 0)) = _
    rw [it_drop zs k (by omega)]
    have := (num_at (ys := zs.drop (2 * k)) 2 (by decide) (by decide) (by rw [List.length_drop]; omega)).2
    rw [List.drop_drop] at this
    exact this
theorem val_two (x y : Int) : val [x, y] = 256 * x + y := by
  have h1 := val_snoc [x] y
  have h2 := val_snoc [] x
  rw [List.nil_append, val_nil] at h2
  rw [h2] at h1
  simpa using h1
theorem take_two (zs : List Int) (k : Nat) (h : k + 2 ≤ zs.length) : (zs.drop k).take 2 = [zs.getD k 0, zs.getD (k + 1) 0] := by
  apply List.ext_getElem?
  intro i
  rw [List.getElem?_take, List.getElem?_drop]
  rcases Nat.lt_or_ge i 1 with h0 | h0
  · obtain rfl : i = 0 := by omega
    rw [if_pos (by decide), Nat.add_zero, List.getElem?_eq_getElem (by omega)]
    simp [List.getD_eq_getElem?_getD, List.getElem?_eq_getElem (show k < zs.length by omega)]
  · rcases Nat.lt_or_ge i 2 with h1 | h1
    · obtain rfl : i = 1 := by omega
      rw [if_pos (by decide), List.getElem?_eq_getElem (by omega)]
      simp [List.getD_eq_getElem?_getD, List.getElem?_eq_getElem (show k + 1 < zs.length by omega)]
    · rw [if_neg (by omega)]
      simp; omega
theorem vals_un (zs : List Int) (n : Nat) (h : 2 * n ≤ zs.length) : vals n (zs, 0) = unS zs n := by
  unfold vals unS
  apply List.map_congr_left
  intro i hi
  have hi' : i < n := List.mem_range.1 hi
  rw [it_drop zs i (by omega)]
  have := (num_at (ys := zs.drop (2 * i)) 2 (by decide) (by decide) (by rw [List.length_drop]; omega)).1
  rw [take_two zs (2 * i) (by omega), val_two] at this
  exact this
set_option maxHeartbeats 1600000 in
theorem unw_main (a : Option Addr) (m n cap : Nat) (zs : List Int) (w : World) (hb : BV w a zs) (hn : a = none → cap = 0) (hl : zs.length = m) (hmn : m = 2 * n) (hm : m ≤ 1000) :
    Calls Try.prog 43 #[.slice a m cap] w fun e w' => ∃ v, e = .returned (.tuple #[v, .int .i64 0]) ∧ OwnI w' w.heap.size v (unS zs n) ∧ Below w.heap.size w w' := by
  obtain ⟨i0, hi, hz0, hz1, hz2⟩ := info_parts Try.info3
  have HV : Hid (vals n (zs, 0) = unS zs n) := vals_un zs n (by omega)
  have HN := rq_new a cap zs w hb (by omega) hn
  rw [hl] at HN
  have t1 : Int.tmod (m : Int) 2 = 0 := by rw [Int.tmod_eq_emod_of_nonneg (by omega)]; omega
  have t2 : (m : Int) % 2 = 0 := by omega
  have t3 : Int.tdiv (m : Int) 2 = n := by rw [Int.tdiv_eq_ediv_of_nonneg (by omega)]; omega
  have t4 : (m : Int) / 2 = n := by omega
  have hnn : n ≤ 500 := by omega
  clear hb hn hl hmn
  obtain ⟨p, hp⟩ : ∃ p : List Int × Int, p = (zs, 0) := ⟨_, rfl⟩
  rw [← hp] at HN HV
  clear hp
  go_enter Try.func43, Try.ntmps43
  go_wp2_with fail
  refine HN.mono ?_
  rintro e w1 ⟨rb, rfl, H1⟩
  have HR : Hid (w.heap.size ≤ rb) := H1.out.1
  have HQ0 : Hid (RQ w1.heap.size w1 rb p) := H1.out.2.1
  have HBW : Hid (Below w.heap.size w w1) := H1.out.2.2
  clear HN H1
  go_wp2_with (at_make; refine wpList_make_full _ rfl _ _ 22 rfl w1.heap.size 3 i0 (.int .i64 0) 1 Try.underlying22 hi hz0 hz1 .i64 .i64 _ _ n rfl rfl (by first | rfl | exact t3 | exact t4) (by first | rfl | exact t3 | exact t4) ?c2 ?c3 (Nat.le_refl _) ?_)
  case c2 => rw [hz2]; omega
  case c3 => unfold maxLen; omega
  intro w2 hown hg
  have hrb : rb < w1.heap.size := HQ0.out.2.1
  have HR1 : Hid (RQ w1.heap.size w2 rb p) := HQ0.out.keep ((Below.refl w1.heap.size w1).grown hg (Nat.le_refl _) (by intro k hk; cases hk))
  have HO1 : Hid (w2.ownsRow w1.heap.size 3 1 (.slice (some ⟨w1.heap.size, 0, none⟩) n n) n (rowI n 0 p)) := by
    rw [toList_madeCells_one] at hown; rw [rowI_zero]; exact hown
  have HG1 : Hid (w1.grownBy w2 (some rb)) := ⟨hg.os, hg.tape, hg.output, hg.size, fun k hk _ => hg.block k hk (by simp)⟩
  clear hown hg HQ0
  go_wp2
  clear t1 t2 t3 t4
  go_loopw [19] (fun iv wr => ∃ k : Nat, k ≤ n ∧ iv = .int .i64 k ∧ Hid (wr.ownsRow w1.heap.size 3 1 (.slice (some ⟨w1.heap.size, 0, none⟩) n n) n (rowI n k p)) ∧ Hid (RQ w1.heap.size wr rb (itN k p)) ∧ Hid (w1.grownBy wr (some rb))) (fun iv _ => n - (intOf iv).toNat)
  case atStart => exact ⟨0, Nat.zero_le _, rfl, HO1.out, HR1.out, HG1.out⟩
  case round =>
    obtain ⟨k, hk, rfl, HO, HR2, HG⟩ := hrel
    clear HO1 HR1 HG1
    by_cases hlt : k < n
    · have HN : Hid (Calls Try.prog 53 #[.pointer (some ⟨rb, 0, none⟩), .int .i64 2] wr fun e w' => e = .returned (.int .i64 (nval 2 (itN k p))) ∧ (∃ u, w'.cell? ⟨w1.heap.size, k, none⟩ = some u) ∧ w'.frozen? ⟨w1.heap.size, k, none⟩ = false ∧ Hid (RQ w1.heap.size w' rb (itN (k + 1) p) ∧ w'.ownsRow w1.heap.size 3 1 (.slice (some ⟨w1.heap.size, 0, none⟩) n n) n (rowI n k p) ∧ w1.grownBy w' (some rb))) := by
        refine (rq_num 2 HR2.out).mono ?_
        rintro e w' ⟨rfl, h1, h2⟩
        have hown : w'.ownsRow w1.heap.size 3 1 (.slice (some ⟨w1.heap.size, 0, none⟩) n n) n (rowI n k p) := HO.out.kept h2 (.inr (by simp [Value.ownBlock]; omega))
        refine ⟨rfl, ?_, hown.frozenAt k, h1, hown, ⟨h2.os.trans HG.out.os, h2.tape.trans HG.out.tape, h2.output.trans HG.out.output, Nat.le_trans HG.out.size h2.size, fun j hj hne => (h2.block j (Nat.lt_of_lt_of_le hj HG.out.size) hne).trans (HG.out.block j hj hne)⟩⟩
        rw [hown.cellAt k (by omega)]
        have : k < (rowI n k p).length := by rw [hown.1]; omega
        exact ⟨_, List.getElem?_eq_getElem this⟩
      clear HO HR2 HG
      go_wp2_with (first
        | (go_at_call 53; refine (HN.out).mono ?_; rintro e w3 ⟨rfl, ⟨u, hu⟩, hfz, H2⟩; clear HN)
        | fail)
      have HST : Hid (World.ownsRow (w3.setCell ⟨w1.heap.size, k, none⟩ (.int .i64 (nval 2 (itN k p)))) w1.heap.size 3 1 (.slice (some ⟨w1.heap.size, 0, none⟩) n n) n (rowI n (k + 1) p)) := by
        have h := (H2.out.2.1.stored k (.int .i64 (nval 2 (itN k p)))).1
        rw [rowI_set n k p hlt] at h
        exact h
      have HB : Hid (Below w1.heap.size w3 (w3.setCell ⟨w1.heap.size, k, none⟩ (.int .i64 (nval 2 (itN k p))))) := (Below.refl w1.heap.size w3).setCell (show w1.heap.size ≤ (⟨w1.heap.size, k, none⟩ : Addr).block from Nat.le_refl _) _
      have HGG : Hid (w1.grownBy (w3.setCell ⟨w1.heap.size, k, none⟩ (.int .i64 (nval 2 (itN k p)))) (some rb)) := by
        have h := H2.out.2.2
        exact ⟨HB.out.os.trans h.os, HB.out.tape.trans h.tape, HB.out.output.trans h.output, Nat.le_trans h.size HB.out.size, fun j hj hne => (HB.out.block j hj).trans (h.block j hj hne)⟩
      go_roundw
      case rel => exact ⟨k + 1, by omega, by go_num, HST.out, H2.out.1.keep HB.out, HGG.out⟩
      case measure => simp [intOf]; omega
    · have : k = n := by omega
      subst this
      have h := HO.out
      rw [rowI_full] at h
      have HF : Hid (OwnI wr w.heap.size (.slice (some ⟨w1.heap.size, 0, none⟩) k k) (unS zs k)) := by
        have h2 : OwnI wr w1.heap.size (.slice (some ⟨w1.heap.size, 0, none⟩) k k) (vals k p) := by
          show World.ownsRow _ _ _ _ _ _ _
          rw [vals_len]
          exact h
        rw [HV.out] at h2
        refine ⟨h2.1, ?_⟩
        rcases h2.2 with hn | ⟨g, cap, cur, e, hbb, rest⟩
        · exact .inl hn
        · exact .inr ⟨g, cap, cur, e, Nat.le_trans HBW.out.size hbb, rest⟩
      have HBF : Hid (Below w.heap.size w wr) := below_of_grown HBW.out HG.out HR.out
      clear h HO HV
      go_wp2
      exact bodyPost_ret (v := .tuple #[.slice (some ⟨w1.heap.size, 0, none⟩) k k, .int .i64 0]) (by simp [results, Try.results43, go_sem]) rfl ⟨_, rfl, HF.out, HBF.out⟩
theorem unw_even (a : Option Addr) (n cap : Nat) (zs : List Int) (w : World) (hb : BV w a zs) (hn : a = none → cap = 0) (hl : zs.length = 2 * n) (hm : zs.length ≤ 1000) :
    Calls Try.prog 43 #[.slice a (2 * n : Nat) cap] w fun e w' => ∃ v, e = .returned (.tuple #[v, .int .i64 0]) ∧ OwnI w' w.heap.size v (unS zs n) ∧ Below w.heap.size w w' := unw_main a _ n cap zs w hb hn hl rfl (by omega)
theorem unw_any (a : Option Addr) (cap : Nat) (zs : List Int) (w : World) (hb : BV w a zs) (hn : a = none → cap = 0) (hm : zs.length ≤ 1000) :
    Calls Try.prog 43 #[.slice a zs.length cap] w fun e w' => UnPost w zs e w' := by
  by_cases h : zs.length % 2 = 0
  · obtain ⟨n, hl⟩ : ∃ n, zs.length = 2 * n := ⟨zs.length / 2, by omega⟩
    rw [hl]
    refine (unw_even a n cap zs w hb hn hl (by omega)).mono ?_
    rintro e w' ⟨v, rfl, ho, hbl⟩
    exact UnPost.even hl ho hbl
  · refine (unw_odd a zs.length cap w h).mono ?_
    rintro e w' ⟨rfl, hw⟩
    obtain rfl := hw.symm
    exact UnPost.odd h
end Go.Proofs.Ytophkfbdhejmcaa
