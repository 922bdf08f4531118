import Derived.Test.YtpmhilaochfpaaaDoorV7
import Derived.Deep.QuietTactic
import Derived.BigQuiet
namespace Go.Proofs.YtpmhilaochfpaaaDoor
set_option maxRecDepth 20000
set_option maxRecDepth 20000
open Go.RowKit
def Sub (a : Option Addr) (zs : List Int) (c : Option Addr) (ys : List Int) : Prop := ∀ w : World, BV w a zs → BV w c ys
theorem Sub.refl (a : Option Addr) (zs : List Int) : Sub a zs a zs := fun _ h => h
theorem Sub.drop (b off : Nat) (zs : List Int) (n : Nat) : Sub (some ⟨b, off, none⟩) zs (some ⟨b, off + n, none⟩) (zs.drop n) := by
  rintro w ⟨hz, h⟩
  refine ⟨hz.drop n, ?_⟩
  rcases h with rfl | ⟨b', off', e, hlt, hc⟩
  · exact .inl (by simp)
  · obtain ⟨rfl, rfl⟩ : b = b' ∧ off = off' := by simpa using e
    refine .inr ⟨b, off + n, rfl, hlt, fun i hi => ?_⟩
    rw [Nat.add_assoc, hc (n + i) (by simp at hi; omega), getD_drop]
theorem Sub.tail (a c : Option Addr) (zs : List Int) (n : Nat) (h : zs.length ≤ n) : Sub a zs c (zs.drop n) := by
  rintro w ⟨hz, _⟩
  exact ⟨hz.drop n, .inl (by simpa using h)⟩


theorem two_new (w : World) (o p : Obj) : Below w.heap.size w ((w.alloc o).alloc p) := ((Below.refl _ _).alloc (Nat.le_refl _) _).alloc (by simp) _

set_option maxHeartbeats 400000 in
theorem rsgd_no (a : Option Addr) (len cap : Nat) (er : Int) (w : World) (he : er ≠ 0) :
    Calls Tryd.prog 44 #[.agg #[.slice a len cap, .int .i64 er]] w fun r w' => r = .returned (.tuple #[.agg #[.slice a len cap, .int .i64 er], .int .i64 0]) ∧ Below w.heap.size w w' := by
  have hb : (er == 0) = false := by simpa using he
  go_enter Tryd.func44, Tryd.ntmps44
  go_wp2
  exact bodyPost_ret (v := .tuple #[.agg #[.slice a len cap, .int .i64 er], .int .i64 0]) (by simp [results, Tryd.results44, go_sem]) rfl ⟨rfl, two_new _ _ _⟩
set_option maxHeartbeats 400000 in
theorem rsgd_err (a : Option Addr) (len cap : Nat) (zs : List Int) (w : World) (hv : BV w a zs) (hl : zs.length = len) (hm : len ≤ 9223372036854775807) (hg : sgE zs ≠ 0) :
    Calls Tryd.prog 44 #[.agg #[.slice a len cap, .int .i64 0]] w fun r w' => r = .returned (.tuple #[.agg #[.slice a len cap, .int .i64 (sgE zs)], .int .i64 0]) ∧ Below w.heap.size w w' := by
  have HG : Hid (∀ o p, Calls Tryd.prog 55 #[.slice a len cap] ((w.alloc o).alloc p) fun e w' => e = .returned (.tuple #[.int .i64 0, .int .i64 (sgE zs)]) ∧ w' = (w.alloc o).alloc p) := by
    intro o p
    have h := rsigned_any a len cap zs ((w.alloc o).alloc p) (hv.below (two_new _ _ _)) hl hm
    rw [sgE_cut zs hg] at h
    exact h
  have hb : (sgE zs == 0) = false := by simpa using hg
  generalize sgE zs = v at *
  clear hv hl hg
  go_enter Tryd.func44, Tryd.ntmps44
  go_wp2_with (go_at_call 55; refine (HG.out _ _).mono ?_; rintro e w' ⟨rfl, hw⟩; obtain rfl := hw.symm)
  exact bodyPost_ret (v := .tuple #[.agg #[.slice a len cap, .int .i64 v], .int .i64 0]) (by simp [results, Tryd.results44, go_sem]) rfl ⟨rfl, two_new _ _ _⟩
set_option maxHeartbeats 400000 in
theorem rsgd_ok (b off len cap : Nat) (zs : List Int) (w : World) (hv : BV w (some ⟨b, off, none⟩) zs) (hl : zs.length = len) (hm : len ≤ 9223372036854775807) (hg : sgE zs = 0) (hy : 6 ≤ len) (hc : len ≤ cap) :
    Calls Tryd.prog 44 #[.agg #[.slice (some ⟨b, off, none⟩) len cap, .int .i64 0]] w fun r w' => ∃ c, r = .returned (.tuple #[.agg #[.slice c (len - 6) (cap - 6), .int .i64 0], .int .i64 (sgV zs)]) ∧ Sub (some ⟨b, off, none⟩) zs c (zs.drop 6) ∧ Below w.heap.size w w' := by
  have HG : Hid (∀ o p, Calls Tryd.prog 55 #[.slice (some ⟨b, off, none⟩) len cap] ((w.alloc o).alloc p) fun e w' => e = .returned (.tuple #[.int .i64 (sgV zs), .int .i64 0]) ∧ w' = (w.alloc o).alloc p) := by
    intro o p
    have h := rsigned_any (some ⟨b, off, none⟩) len cap zs ((w.alloc o).alloc p) (hv.below (two_new _ _ _)) hl hm
    rw [hg] at h
    exact h
  have HL : Hid (zs.length = len) := hl
  generalize sgV zs = v at *
  clear hv hl hg
  by_cases hcy : cap = 6
  · subst hcy
    have hce : len = 6 := by omega
    subst hce
    go_enter Tryd.func44, Tryd.ntmps44
    go_wp2_with (go_at_call 55; refine (HG.out _ _).mono ?_; rintro e w' ⟨rfl, hw⟩; obtain rfl := hw.symm)
    refine bodyPost_ret (v := .tuple #[.agg #[.slice (some ⟨b, off, none⟩) 0 0, .int .i64 0], .int .i64 v]) (by simp [results, Tryd.results44, go_sem]) rfl ⟨_, rfl, Sub.tail _ _ _ _ (by have := HL.out; omega), two_new _ _ _⟩
  · go_enter Tryd.func44, Tryd.ntmps44
    go_wp2_with (go_at_call 55; refine (HG.out _ _).mono ?_; rintro e w' ⟨rfl, hw⟩; obtain rfl := hw.symm)
    refine bodyPost_ret (v := .tuple #[.agg #[.slice (some ⟨b, off + 6, none⟩) (len - 6) (cap - 6), .int .i64 0], .int .i64 v]) (by simp [results, Tryd.results44, go_sem]) rfl ⟨_, rfl, Sub.drop _ _ _ _, two_new _ _ _⟩

theorem rsgd_any (a : Option Addr) (cap : Nat) (zs : List Int) (er : Int) (w : World) (hv : BV w a zs) (hm : zs.length ≤ 9223372036854775807) (hc : zs.length ≤ cap) :
    Calls Tryd.prog 44 #[.agg #[.slice a zs.length cap, .int .i64 er]] w fun r w' => ∃ c cap', r = .returned (.tuple #[.agg #[.slice c (sgdZ zs er).length cap', .int .i64 (sgdE zs er)], .int .i64 (sgdV zs er)]) ∧ (sgdZ zs er).length ≤ cap' ∧ cap' ≤ cap ∧ Sub a zs c (sgdZ zs er) ∧ Below w.heap.size w w' := by
  unfold sgdV sgdE sgdZ
  by_cases he : er = 0
  · subst he
    by_cases hg : sgE zs = 0
    · rw [if_pos rfl, if_pos rfl, if_pos ⟨rfl, hg⟩, hg]
      have h3 := sgE_zero zs hg
      have hv' := hv
      obtain ⟨hz, h4 | ⟨b, off, rfl, hlt, hcell⟩⟩ := hv'
      · subst h4; simp at h3
      · refine (rsgd_ok b off zs.length cap zs w hv rfl hm hg h3 hc).mono ?_
        rintro e w' ⟨c, rfl, hs, hb⟩
        refine ⟨c, cap - 6, ?_, by simp; omega, by omega, hs, hb⟩
        rw [List.length_drop]
    · rw [if_pos rfl, if_pos rfl, if_neg (fun c => hg c.2), sgE_cut zs hg]
      refine (rsgd_err a zs.length cap zs w hv rfl hm hg).mono ?_
      rintro e w' ⟨rfl, hb⟩
      exact ⟨a, cap, rfl, hc, Nat.le_refl _, Sub.refl _ _, hb⟩
  · rw [if_neg he, if_neg he, if_neg (fun c => he c.1)]
    refine (rsgd_no a zs.length cap er w he).mono ?_
    rintro e w' ⟨rfl, hb⟩
    exact ⟨a, cap, rfl, hc, Nat.le_refl _, Sub.refl _ _, hb⟩

end Go.Proofs.YtpmhilaochfpaaaDoor
