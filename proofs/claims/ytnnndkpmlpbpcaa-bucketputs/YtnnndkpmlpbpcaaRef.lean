/- The document's Reader, a value: contracts of single calls of its methods. -/
import Derived.Test.YtnnndkpmlpbpcaaRdt
import Derived.Test.YtnnndkpmlpbpcaaNew
import Derived.Test.YtnnndkpmlpbpcaaGets2
import Derived.Deep.QuietTactic
import Derived.BigQuiet
namespace Go.Proofs.Ytnnndkpmlpbpcaa
set_option maxRecDepth 20000
open Go.RowKit

/-- Whatever world has zs at a has ys at c. -/
def Sub (a : Option Addr) (zs : List Int) (c : Option Addr) (ys : List Int) : Prop := ∀ w : World, BV w a zs → BV w c ys
theorem Sub.refl (a : Option Addr) (zs : List Int) : Sub a zs a zs := fun _ h => h
theorem Sub.drop (b off : Nat) (zs : List Int) (n : Nat) : Sub (some ⟨b, off, none⟩) zs (some ⟨b, off + n, none⟩) (zs.drop n) := by
  rintro w ⟨hz, h⟩
  refine ⟨hz.drop n, ?_⟩
  rcases h with rfl | ⟨b', off', e, hlt, hc⟩
  · exact .inl (by simp)
  · obtain ⟨rfl, rfl⟩ : b = b' ∧ off = off' := by simpa using e
    refine .inr ⟨b, off + n, rfl, hlt, fun i hi => ?_⟩
    rw [Nat.add_assoc, hc (n + i) (by simp at hi; omega), getD_drop]
theorem Sub.tail (a c : Option Addr) (zs : List Int) (n : Nat) (h : zs.length ≤ n) : Sub a zs c (zs.drop n) := by
  rintro w ⟨hz, _⟩
  exact ⟨hz.drop n, .inl (by simpa using h)⟩


theorem two_new (w : World) (o p : Obj) : Below w.heap.size w ((w.alloc o).alloc p) := ((Below.refl _ _).alloc (Nat.le_refl _) _).alloc (by simp) _

set_option maxHeartbeats 400000 in
theorem rnum_no (a : Option Addr) (len cap : Nat) (er x : Int) (w : World) (he : er ≠ 0) :
    Calls Try.prog 39 #[.agg #[.slice a len cap, .int .i64 er], .int .i64 x] w fun r w' => r = .returned (.tuple #[.agg #[.slice a len cap, .int .i64 er], .int .i64 0]) ∧ Below w.heap.size w w' := by
  have hb : (er == 0) = false := by simpa using he
  go_enter Try.func39, Try.ntmps39
  go_wp2
  exact bodyPost_ret (v := .tuple #[.agg #[.slice a len cap, .int .i64 er], .int .i64 0]) (by simp [results, Try.results39, go_sem]) rfl ⟨rfl, two_new _ _ _⟩
set_option maxHeartbeats 400000 in
theorem rnum_err (a : Option Addr) (len cap : Nat) (zs : List Int) (x : Int) (w : World) (hv : BV w a zs) (hl : zs.length = len) (hm : len ≤ 9223372036854775807) (hg : getE zs x ≠ 0) :
    Calls Try.prog 39 #[.agg #[.slice a len cap, .int .i64 0], .int .i64 x] w fun r w' => r = .returned (.tuple #[.agg #[.slice a len cap, .int .i64 (getE zs x)], .int .i64 0]) ∧ Below w.heap.size w w' := by
  have HG : Hid (∀ o p, Calls Try.prog 63 #[.slice a len cap, .int .i64 x] ((w.alloc o).alloc p) fun e w' => e = .returned (.tuple #[.int .i64 0, .int .i64 (getE zs x)]) ∧ w' = (w.alloc o).alloc p) := by
    intro o p
    have h := rget_any a len cap zs x ((w.alloc o).alloc p) (hv.below (two_new _ _ _)) hl hm
    rw [getE_cut zs x hg] at h
    exact h
  have hb : (getE zs x == 0) = false := by simpa using hg
  generalize getE zs x = v at *
  clear hv hl hg
  go_enter Try.func39, Try.ntmps39
  go_wp2_with (go_at_call 63; refine (HG.out _ _).mono ?_; rintro e w' ⟨rfl, hw⟩; obtain rfl := hw.symm)
  exact bodyPost_ret (v := .tuple #[.agg #[.slice a len cap, .int .i64 v], .int .i64 0]) (by simp [results, Try.results39, go_sem]) rfl ⟨rfl, two_new _ _ _⟩
set_option maxHeartbeats 400000 in
theorem rnum_ok (b off len cap : Nat) (zs : List Int) (y : Nat) (w : World) (hv : BV w (some ⟨b, off, none⟩) zs) (hl : zs.length = len) (hm : len ≤ 9223372036854775807) (hg : getE zs y = 0) (hy : y ≤ len) (hc : len ≤ cap) :
    Calls Try.prog 39 #[.agg #[.slice (some ⟨b, off, none⟩) len cap, .int .i64 0], .int .i64 y] w fun r w' => ∃ c, r = .returned (.tuple #[.agg #[.slice c (len - y) (cap - y), .int .i64 0], .int .i64 (getV zs y)]) ∧ Sub (some ⟨b, off, none⟩) zs c (zs.drop y) ∧ Below w.heap.size w w' := by
  have HG : Hid (∀ o p, Calls Try.prog 63 #[.slice (some ⟨b, off, none⟩) len cap, .int .i64 y] ((w.alloc o).alloc p) fun e w' => e = .returned (.tuple #[.int .i64 (getV zs y), .int .i64 0]) ∧ w' = (w.alloc o).alloc p) := by
    intro o p
    have h := rget_any (some ⟨b, off, none⟩) len cap zs y ((w.alloc o).alloc p) (hv.below (two_new _ _ _)) hl hm
    rw [hg] at h
    exact h
  have HL : Hid (zs.length = len) := hl
  generalize getV zs y = v at *
  clear hv hl hg
  by_cases hcy : cap = y
  · subst hcy
    have hce : len = cap := by omega
    subst hce
    go_enter Try.func39, Try.ntmps39
    go_wp2_with (go_at_call 63; refine (HG.out _ _).mono ?_; rintro e w' ⟨rfl, hw⟩; obtain rfl := hw.symm)
    refine bodyPost_ret (v := .tuple #[.agg #[.slice (some ⟨b, off, none⟩) (len - len) (len - len), .int .i64 0], .int .i64 v]) (by simp [results, Try.results39, go_sem]) rfl ⟨_, rfl, Sub.tail _ _ _ _ (by have := HL.out; omega), two_new _ _ _⟩
  · go_enter Try.func39, Try.ntmps39
    go_wp2_with (go_at_call 63; refine (HG.out _ _).mono ?_; rintro e w' ⟨rfl, hw⟩; obtain rfl := hw.symm)
    refine bodyPost_ret (v := .tuple #[.agg #[.slice (some ⟨b, off + y, none⟩) (len - y) (cap - y), .int .i64 0], .int .i64 v]) (by simp [results, Try.results39, go_sem]) rfl ⟨_, rfl, Sub.drop _ _ _ _, two_new _ _ _⟩

theorem rnum_any (a : Option Addr) (cap : Nat) (zs : List Int) (er x : Int) (w : World) (hv : BV w a zs) (hm : zs.length ≤ 9223372036854775807) (hc : zs.length ≤ cap) :
    Calls Try.prog 39 #[.agg #[.slice a zs.length cap, .int .i64 er], .int .i64 x] w fun r w' => ∃ c cap', r = .returned (.tuple #[.agg #[.slice c (numZ zs er x).length cap', .int .i64 (numE zs er x)], .int .i64 (numV zs er x)]) ∧ (numZ zs er x).length ≤ cap' ∧ cap' ≤ cap ∧ Sub a zs c (numZ zs er x) ∧ Below w.heap.size w w' := by
  unfold numV numE numZ
  by_cases he : er = 0
  · subst he
    by_cases hg : getE zs x = 0
    · rw [if_pos rfl, if_pos rfl, if_pos ⟨rfl, hg⟩, hg]
      obtain ⟨h1, h2, h3⟩ := getE_zero zs x hg
      obtain ⟨y, rfl⟩ := Int.eq_ofNat_of_zero_le (show 0 ≤ x by omega)
      rw [Int.toNat_natCast]
      have hv' := hv
      obtain ⟨hz, h4 | ⟨b, off, rfl, hlt, hcell⟩⟩ := hv'
      · subst h4; simp at h3; omega
      · refine (rnum_ok b off zs.length cap zs y w hv rfl hm hg (by omega) hc).mono ?_
        rintro e w' ⟨c, rfl, hs, hb⟩
        refine ⟨c, cap - y, ?_, by simp; omega, by omega, hs, hb⟩
        rw [List.length_drop]
    · rw [if_pos rfl, if_pos rfl, if_neg (fun c => hg c.2), getE_cut zs x hg]
      refine (rnum_err a zs.length cap zs x w hv rfl hm hg).mono ?_
      rintro e w' ⟨rfl, hb⟩
      exact ⟨a, cap, rfl, hc, Nat.le_refl _, Sub.refl _ _, hb⟩
  · rw [if_neg he, if_neg he, if_neg (fun c => he c.1)]
    refine (rnum_no a zs.length cap er x w he).mono ?_
    rintro e w' ⟨rfl, hb⟩
    exact ⟨a, cap, rfl, hc, Nat.le_refl _, Sub.refl _ _, hb⟩

end Go.Proofs.Ytnnndkpmlpbpcaa
