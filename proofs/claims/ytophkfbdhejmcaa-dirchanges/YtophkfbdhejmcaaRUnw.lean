/- The document's Unwords. -/
import Derived.Test.YtophkfbdhejmcaaSpec
namespace Go.Proofs.Ytophkfbdhejmcaa
set_option maxRecDepth 20000
open Go.RowKit
set_option linter.unusedVariables false
set_option linter.unusedSimpArgs false
/-- n numbers of two bytes each. -/
def unS (zs : List Int) (n : Nat) : List Int := (List.range n).map fun i => 256 * zs.getD (2 * i) 0 + zs.getD (2 * i + 1) 0
theorem unS_len (zs : List Int) (n : Nat) : (unS zs n).length = n := by simp [unS]
theorem unS_succ (zs : List Int) (n : Nat) : unS zs (n + 1) = unS zs n ++ [256 * zs.getD (2 * n) 0 + zs.getD (2 * n + 1) 0] := by simp [unS, List.range_succ]
def unE (zs : List Int) : Int := if zs.length % 2 = 0 then 0 else 4
def unL (zs : List Int) : List Int := if zs.length % 2 = 0 then unS zs (zs.length / 2) else []
def UnPost (w : World) (zs : List Int) (e : Ending) (w' : World) : Prop := ∃ v, e = .returned (.tuple #[v, .int .i64 (unE zs)]) ∧ OwnI w' w.heap.size v (unL zs) ∧ Below w.heap.size w w'
theorem OwnI.nil (w : World) (base : Nat) : OwnI w base (.slice none 0 0) [] := World.ownsRow_nil _ _ _ _
theorem UnPost.odd {w : World} {zs : List Int} (h : zs.length % 2 ≠ 0) : UnPost w zs (.returned (.tuple #[.slice none 0 0, .int .i64 4])) w := by
  refine ⟨.slice none 0 0, ?_, ?_, Below.refl _ _⟩
  · unfold unE; rw [if_neg h]
  · unfold unL; rw [if_neg h]; exact OwnI.nil _ _
theorem UnPost.even {w w' : World} {zs : List Int} {v : Value} {n : Nat} (h : zs.length = 2 * n) (ho : OwnI w' w.heap.size v (unS zs n)) (hb : Below w.heap.size w w') : UnPost w zs (.returned (.tuple #[v, .int .i64 0])) w' := by
  refine ⟨v, ?_, ?_, hb⟩
  · unfold unE; rw [if_pos (by omega)]
  · unfold unL; rw [if_pos (by omega), show zs.length / 2 = n by omega]; exact ho
set_option maxHeartbeats 400000 in
theorem runw_odd (a : Option Addr) (n cap : Nat) (w : World) (h : n % 2 ≠ 0) :
    Calls Try.prog 44 #[.slice a n cap] w fun e w' => e = .returned (.tuple #[.slice none 0 0, .int .i64 4]) ∧ w' = w := by
  have t1 : Int.tmod (n : Int) 2 = 1 := by rw [Int.tmod_eq_emod_of_nonneg (by omega)]; omega
  have t2 : (n : Int) % 2 = 1 := by omega
  go_enter Try.func44, Try.ntmps44
  go_wp2
  exact bodyPost_ret (v := .tuple #[.slice none 0 0, .int .i64 4]) (by simp [results, Try.results44, go_sem]) rfl ⟨rfl, rfl⟩
set_option maxHeartbeats 1600000 in
theorem runw_nil (a : Option Addr) (cap : Nat) (w : World) : Calls Try.prog 44 #[.slice a 0 cap] w fun e w' => ∃ v, e = .returned (.tuple #[v, .int .i64 0]) ∧ OwnI w' w.heap.size v [] ∧ Below w.heap.size w w' := by
  go_enter Try.func44, Try.ntmps44
  go_wp2
  go_loop [4, 5] (fun bv i => bv = .slice none 0 0 ∧ i = .int .i64 0) (fun _ _ => 0)
  case atStart => exact ⟨rfl, rfl⟩
  case round =>
    obtain ⟨rfl, rfl⟩ := hrel
    go_wp2
    exact bodyPost_ret (v := .tuple #[.slice none 0 0, .int .i64 0]) (by simp [results, Try.results44, go_sem]) rfl ⟨_, rfl, OwnI.nil _ _, Below.refl _ _⟩
set_option maxHeartbeats 1600000 in
theorem runw_ok (g off n m cap : Nat) (zs : List Int) (w : World) (hl : zs.length = m) (hmn : m = 2 * n) (hm : m ≤ 1000) (hza : AllB zs) (hg : g < w.heap.size) (hc : ∀ i, i < zs.length → w.cell? ⟨g, off + i, none⟩ = some (.int .u8 (zs.getD i 0))) :
    Calls Try.prog 44 #[.slice (some ⟨g, off, none⟩) m cap] w fun e w' => ∃ v, e = .returned (.tuple #[v, .int .i64 0]) ∧ OwnI w' w.heap.size v (unS zs n) ∧ Below w.heap.size w w' := by
  have hby := byte_at hza
  have HC : Hid (∀ i, i < zs.length → w.cell? ⟨g, off + i, none⟩ = some (.int .u8 (zs.getD i 0))) := hc
  have HL : Hid (zs.length = m) := hl
  have HMN : Hid (m = 2 * n) := hmn
  have t1 : Int.tmod (m : Int) 2 = 0 := by rw [Int.tmod_eq_emod_of_nonneg (by omega)]; omega
  have t2 : (m : Int) % 2 = 0 := by omega
  clear hl hc hmn
  go_enter Try.func44, Try.ntmps44
  go_wp2
  clear t1 t2
  go_loopw [4, 5] (fun lv iv wr => ∃ k : Nat, k ≤ n ∧ iv = .int .i64 (2 * (k : Int)) ∧ Hid (OwnI wr w.heap.size lv (unS zs k)) ∧ Hid (Below w.heap.size w wr)) (fun _ iv _ => m - (intOf iv).toNat)
  case atStart => exact ⟨0, Nat.zero_le _, rfl, World.ownsRow_nil _ _ _ _, Below.refl _ _⟩
  case round =>
    obtain ⟨k, hk, rfl, HB, HW⟩ := hrel
    by_cases hlt : k < n
    · have c0 := HC.out (2 * k) (by have := HL.out; have := HMN.out; omega)
      have c1 := HC.out (2 * k + 1) (by have := HL.out; have := HMN.out; omega)
      have HT : Hid (unS zs (k + 1) = unS zs k ++ [256 * zs.getD (2 * k) 0 + zs.getD (2 * k + 1) 0]) := unS_succ zs k
      have hlm : 2 * k + 1 < m := by have := HMN.out; omega
      have HLE : Hid ((unS zs k).length ≤ 1000000) := by
        have := unS_len zs k
        show (unS zs k).length ≤ 1000000
        omega
      have hws : w.heap.size ≤ wr.heap.size := HW.out.size
      have b0 := hby (2 * k)
      have b1 := hby (2 * k + 1)
      clear HC hby
      generalize zs.getD (2 * k) 0 = x at *
      generalize zs.getD (2 * k + 1) 0 = y at *
      have i1 : 2 * (k : Int) < m := by omega
      have i2 : 2 * (k : Int) + 1 < m := by omega
      have i3 : 0 ≤ 2 * (k : Int) := by omega
      have i4 : 0 ≤ 2 * (k : Int) + 1 := by omega
      go_wp2_with fail
      obtain ⟨i0, hi, hz0, hz1, hz2⟩ := info_parts Try.info3
      have e3 : IntKind.i64.wrap (2 * (k : Int) + 1) = 2 * k + 1 := wrap_sm (by omega) (by omega)
      have e4 : IntKind.i64.wrap x = x := wrap_sm (by omega) (by omega)
      have e5 : IntKind.i64.wrap (256 * x) = 256 * x := wrap_sm (by omega) (by omega)
      have e6 : IntKind.i64.wrap (256 * x + y) = 256 * x + y := wrap_sm (by omega) (by omega)
      have e7 : IntKind.i64.wrap y = y := wrap_sm (by omega) (by omega)
      have f1 : (2 * (k : Int)).toNat = 2 * k := by omega
      have f2 : (2 * (k : Int) + 1).toNat = 2 * k + 1 := by omega
      have e8 : wrap64 (2 * (k : Int) + 2) = 2 * k + 2 := by unfold wrap64; omega
      refine wp_region_noPanic ?_
      refine name_ops ?_
      intro O QQ HO HQ
      refine wp_region_held_drew (S := fun W' => Below w.heap.size w W') (by kernel_rfl) HW.out.drew (fun hS => ?_)
      rw [show O.size = 17 by rw [HO.out]; rfl]
      refine wpAnyH_take (i := 0) (v := u4) (by rw [HO.out]; simp only [List.getElem?_toArray, List.getElem?_cons_succ, List.getElem?_cons_zero]; rfl) (by rw [HO.out]; kernel_rfl) (by rw [HO.out]; kernel_rfl) (by rw [HO.out]; kernel_rfl) (by rw [HQ.out]; exact fun _ _ _ h => h) (Or.inl ⟨by rfl, ?_⟩) hS ?_
      · intro w' hSw
        go_simp
      try simp only [Act.put, List.setIfInBounds_toArray, List.set_cons_zero, List.set_cons_succ]
      refine wpAnyH_take (i := 1) (v := .slice (some ⟨g, off, none⟩) m cap) (by rw [HO.out]; simp only [List.getElem?_toArray, List.getElem?_cons_succ, List.getElem?_cons_zero]; rfl) (by rw [HO.out]; kernel_rfl) (by rw [HO.out]; kernel_rfl) (by rw [HO.out]; kernel_rfl) (by rw [HQ.out]; exact fun _ _ _ h => h) (Or.inl ⟨by rfl, ?_⟩) hS ?_
      · intro w' hSw
        go_simp
      try simp only [Act.put, List.setIfInBounds_toArray, List.set_cons_zero, List.set_cons_succ]
      refine wpAnyH_take (i := 2) (v := .int .i64 (2 * (k : Int))) (by rw [HO.out]; simp only [List.getElem?_toArray, List.getElem?_cons_succ, List.getElem?_cons_zero]; rfl) (by rw [HO.out]; kernel_rfl) (by rw [HO.out]; kernel_rfl) (by rw [HO.out]; kernel_rfl) (by rw [HQ.out]; exact fun _ _ _ h => h) (Or.inl ⟨by rfl, ?_⟩) hS ?_
      · intro w' hSw
        go_simp
      try simp only [Act.put, List.setIfInBounds_toArray, List.set_cons_zero, List.set_cons_succ]
      refine wpAnyH_take (i := 3) (v := .pointer (some ⟨g, off + 2 * k, none⟩)) (by rw [HO.out]; simp only [List.getElem?_toArray, List.getElem?_cons_succ, List.getElem?_cons_zero]; rfl) (by rw [HO.out]; kernel_rfl) (by rw [HO.out]; kernel_rfl) (by rw [HO.out]; kernel_rfl) (by rw [HQ.out]; exact fun _ _ _ h => h) (Or.inl ⟨by rfl, ?_⟩) hS ?_
      · intro w' hSw
        go_simp
      try simp only [Act.put, List.setIfInBounds_toArray, List.set_cons_zero, List.set_cons_succ]
      refine wpAnyH_take (i := 4) (v := .int .u8 x) (by rw [HO.out]; simp only [List.getElem?_toArray, List.getElem?_cons_succ, List.getElem?_cons_zero]; rfl) (by rw [HO.out]; kernel_rfl) (by rw [HO.out]; kernel_rfl) (by rw [HO.out]; kernel_rfl) (by rw [HQ.out]; exact fun _ _ _ h => h) (Or.inl ⟨by rfl, ?_⟩) hS ?_
      · intro w' hSw
        have q := (hSw.cell (p := ⟨g, off + 2 * k, none⟩) hg).trans c0
        go_simp
      try simp only [Act.put, List.setIfInBounds_toArray, List.set_cons_zero, List.set_cons_succ]
      refine wpAnyH_take (i := 5) (v := .int .i64 x) (by rw [HO.out]; simp only [List.getElem?_toArray, List.getElem?_cons_succ, List.getElem?_cons_zero]; rfl) (by rw [HO.out]; kernel_rfl) (by rw [HO.out]; kernel_rfl) (by rw [HO.out]; kernel_rfl) (by rw [HQ.out]; exact fun _ _ _ h => h) (Or.inl ⟨by rfl, ?_⟩) hS ?_
      · intro w' hSw
        go_simp
      try simp only [Act.put, List.setIfInBounds_toArray, List.set_cons_zero, List.set_cons_succ]
      refine wpAnyH_take (i := 6) (v := .int .i64 (256 * x)) (by rw [HO.out]; simp only [List.getElem?_toArray, List.getElem?_cons_succ, List.getElem?_cons_zero]; rfl) (by rw [HO.out]; kernel_rfl) (by rw [HO.out]; kernel_rfl) (by rw [HO.out]; kernel_rfl) (by rw [HQ.out]; exact fun _ _ _ h => h) (Or.inl ⟨by rfl, ?_⟩) hS ?_
      · intro w' hSw
        go_simp
      try simp only [Act.put, List.setIfInBounds_toArray, List.set_cons_zero, List.set_cons_succ]
      refine wpAnyH_take (i := 7) (v := .slice (some ⟨g, off, none⟩) m cap) (by rw [HO.out]; simp only [List.getElem?_toArray, List.getElem?_cons_succ, List.getElem?_cons_zero]; rfl) (by rw [HO.out]; kernel_rfl) (by rw [HO.out]; kernel_rfl) (by rw [HO.out]; kernel_rfl) (by rw [HQ.out]; exact fun _ _ _ h => h) (Or.inl ⟨by rfl, ?_⟩) hS ?_
      · intro w' hSw
        go_simp
      try simp only [Act.put, List.setIfInBounds_toArray, List.set_cons_zero, List.set_cons_succ]
      refine wpAnyH_take (i := 8) (v := .int .i64 (2 * (k : Int))) (by rw [HO.out]; simp only [List.getElem?_toArray, List.getElem?_cons_succ, List.getElem?_cons_zero]; rfl) (by rw [HO.out]; kernel_rfl) (by rw [HO.out]; kernel_rfl) (by rw [HO.out]; kernel_rfl) (by rw [HQ.out]; exact fun _ _ _ h => h) (Or.inl ⟨by rfl, ?_⟩) hS ?_
      · intro w' hSw
        go_simp
      try simp only [Act.put, List.setIfInBounds_toArray, List.set_cons_zero, List.set_cons_succ]
      refine wpAnyH_take (i := 9) (v := .int .i64 (2 * (k : Int) + 1)) (by rw [HO.out]; simp only [List.getElem?_toArray, List.getElem?_cons_succ, List.getElem?_cons_zero]; rfl) (by rw [HO.out]; kernel_rfl) (by rw [HO.out]; kernel_rfl) (by rw [HO.out]; kernel_rfl) (by rw [HQ.out]; exact fun _ _ _ h => h) (Or.inl ⟨by rfl, ?_⟩) hS ?_
      · intro w' hSw
        go_simp
      try simp only [Act.put, List.setIfInBounds_toArray, List.set_cons_zero, List.set_cons_succ]
      refine wpAnyH_take (i := 10) (v := .pointer (some ⟨g, off + (2 * k + 1), none⟩)) (by rw [HO.out]; simp only [List.getElem?_toArray, List.getElem?_cons_succ, List.getElem?_cons_zero]; rfl) (by rw [HO.out]; kernel_rfl) (by rw [HO.out]; kernel_rfl) (by rw [HO.out]; kernel_rfl) (by rw [HQ.out]; exact fun _ _ _ h => h) (Or.inl ⟨by rfl, ?_⟩) hS ?_
      · intro w' hSw
        go_simp
      try simp only [Act.put, List.setIfInBounds_toArray, List.set_cons_zero, List.set_cons_succ]
      refine wpAnyH_take (i := 11) (v := .int .u8 y) (by rw [HO.out]; simp only [List.getElem?_toArray, List.getElem?_cons_succ, List.getElem?_cons_zero]; rfl) (by rw [HO.out]; kernel_rfl) (by rw [HO.out]; kernel_rfl) (by rw [HO.out]; kernel_rfl) (by rw [HQ.out]; exact fun _ _ _ h => h) (Or.inl ⟨by rfl, ?_⟩) hS ?_
      · intro w' hSw
        have q := (hSw.cell (p := ⟨g, off + (2 * k + 1), none⟩) hg).trans c1
        go_simp
      try simp only [Act.put, List.setIfInBounds_toArray, List.set_cons_zero, List.set_cons_succ]
      refine wpAnyH_take (i := 12) (v := .int .i64 y) (by rw [HO.out]; simp only [List.getElem?_toArray, List.getElem?_cons_succ, List.getElem?_cons_zero]; rfl) (by rw [HO.out]; kernel_rfl) (by rw [HO.out]; kernel_rfl) (by rw [HO.out]; kernel_rfl) (by rw [HQ.out]; exact fun _ _ _ h => h) (Or.inl ⟨by rfl, ?_⟩) hS ?_
      · intro w' hSw
        go_simp
      try simp only [Act.put, List.setIfInBounds_toArray, List.set_cons_zero, List.set_cons_succ]
      refine wpAnyH_take (i := 13) (v := .int .i64 (256 * x + y)) (by rw [HO.out]; simp only [List.getElem?_toArray, List.getElem?_cons_succ, List.getElem?_cons_zero]; rfl) (by rw [HO.out]; kernel_rfl) (by rw [HO.out]; kernel_rfl) (by rw [HO.out]; kernel_rfl) (by rw [HQ.out]; exact fun _ _ _ h => h) (Or.inl ⟨by rfl, ?_⟩) hS ?_
      · intro w' hSw
        go_simp
      try simp only [Act.put, List.setIfInBounds_toArray, List.set_cons_zero, List.set_cons_succ]
      refine wpAnyH_ready (rs := [14]) (by rw [HO.out]; kernel_rfl) (by simp) ?_
      refine AllReadyH.cons (o := _) (by rw [HO.out]; simp only [List.getElem?_toArray, List.getElem?_cons_succ, List.getElem?_cons_zero]; rfl) (fun K14 hK14 => ?_) AllReadyH.nil
      go_simp
      have hb1 : Below wr.heap.size wr (wr.drew.alloc (.cells #[.int .i64 (256 * x + y)] 3 (0, 0))) := (Below.refl _ _).drew.trans ((Below.refl _ _).alloc (by simp) _)
      refine hK14.out _ _ (HW.out.trans (hb1.mono hws)) (fun hS1 => ?_)
      try simp only [Act.put, List.setIfInBounds_toArray, List.set_cons_zero, List.set_cons_succ]
      refine wpAnyH_ready (rs := [15]) (by rw [HO.out]; kernel_rfl) (by simp) ?_
      refine AllReadyH.cons (o := _) (by rw [HO.out]; simp only [List.getElem?_toArray, List.getElem?_cons_succ, List.getElem?_cons_zero]; rfl) (fun K15 hK15 => ?_) AllReadyH.nil
      rw [if_pos (by rfl)]
      refine wp_append_own _ _ _ 22 rfl w.heap.size 3 i0 (.int .i64 0) 1 8 Try.underlying22 hi hz0 hz1 hz2 rfl (by decide) u4 (unS zs k).length ((unS zs k).map (Value.int .i64)) rfl (HB.out.below hb1) ⟨wr.drew.heap.size, 0, none⟩ 1 1 [.int .i64 (256 * x + y)] rfl rfl ?_ (by simp [Value.oneCell']) (by have := HLE.out; unfold maxLen; omega) (by have := HLE.out; omega) (by simp; omega) ?_
      · intro j u hu
        rw [add_plain, Nat.zero_add]
        show (wr.drew.alloc (.cells #[.int .i64 (256 * x + y)] 3 (0, 0))).cell? ⟨wr.drew.heap.size, j, none⟩ = some u
        rw [cell_of_row _ _ _ _ _ _ (heap_alloc_last _ _)]
        simpa using hu
      intro v' w2 ho2 hg2 _
      have HG2 : Hid (Below w.heap.size w w2) := HW.out.trans ((hb1.mono hws).trans ((Below.refl w.heap.size _).grown hg2 (by simp; omega) (fun j hj => (World.ownsRow.lt (HB.out) j hj).1)))
      have HO2 : Hid (OwnI w2 w.heap.size v' (unS zs (k + 1))) := by
        rw [HT.out]
        show World.ownsRow _ _ _ _ _ _ _
        rw [List.length_append, List.map_append]
        exact ho2
      clear ho2 hg2
      refine hK15.out _ _ HG2.out (fun hS2 => ?_)
      try simp only [Act.put, List.setIfInBounds_toArray, List.set_cons_zero, List.set_cons_succ]
      refine wpAnyH_ready (rs := [16]) (by rw [HO.out]; kernel_rfl) (by simp) ?_
      refine AllReadyH.cons (o := _) (by rw [HO.out]; simp only [List.getElem?_toArray, List.getElem?_cons_succ, List.getElem?_cons_zero]; rfl) (fun K16 hK16 => ?_) AllReadyH.nil
      go_simp
      refine hK16.out _ _ hS2 (fun _ => ?_)
      refine wpAnyH_done (by rw [HO.out]; kernel_rfl) ?_ _
      rw [HQ.out]
      refine NoPanic.normal ?_
      go_wp2
      go_roundw
      case rel => exact ⟨k + 1, by omega, by rw [show (((k + 1 : Nat) : Nat) : Int) = (k : Int) + 1 by omega]; first | (go_num) | (congr 1; omega), HO2.out, HG2.out⟩
      case measure => simp [intOf]; omega
    · have : k = n := by omega
      subst this
      have i1 : ¬ (2 * (k : Int) < m) := by have := HMN.out; omega
      have i5 : (m : Int) ≤ 2 * (k : Int) := by omega
      go_wp2
      exact bodyPost_ret (v := .tuple #[u4, .int .i64 0]) (by simp [results, Try.results44, go_sem]) rfl ⟨u4, rfl, HB.out, HW.out⟩
theorem runw_even (a : Option Addr) (n cap : Nat) (zs : List Int) (w : World) (hb : BV w a zs) (hn : a = none → cap = 0) (hl : zs.length = 2 * n) (hm : zs.length ≤ 1000) :
    Calls Try.prog 44 #[.slice a (2 * n : Nat) cap] w fun e w' => ∃ v, e = .returned (.tuple #[v, .int .i64 0]) ∧ OwnI w' w.heap.size v (unS zs n) ∧ Below w.heap.size w w' := by
  obtain ⟨hza, h | ⟨b, off, rfl, hlt, hc⟩⟩ := hb
  · subst h
    obtain rfl : n = 0 := by simp at hl; omega
    exact runw_nil a cap w
  · exact runw_ok b off n _ cap zs w hl rfl (by omega) hza hlt hc
theorem runw_any (a : Option Addr) (cap : Nat) (zs : List Int) (w : World) (hb : BV w a zs) (hn : a = none → cap = 0) (hm : zs.length ≤ 1000) :
    Calls Try.prog 44 #[.slice a zs.length cap] w fun e w' => UnPost w zs e w' := by
  by_cases h : zs.length % 2 = 0
  · obtain ⟨n, hl⟩ : ∃ n, zs.length = 2 * n := ⟨zs.length / 2, by omega⟩
    rw [hl]
    refine (runw_even a n cap zs w hb hn hl (by omega)).mono ?_
    rintro e w' ⟨v, rfl, ho, hbl⟩
    exact UnPost.even hl ho hbl
  · refine (runw_odd a zs.length cap w h).mono ?_
    rintro e w' ⟨rfl, hw⟩
    obtain rfl := hw.symm
    exact UnPost.odd h
end Go.Proofs.Ytophkfbdhejmcaa
