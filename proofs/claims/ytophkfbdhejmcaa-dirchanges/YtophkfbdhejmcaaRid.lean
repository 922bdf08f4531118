/- IDs: the document's. -/
import Derived.Test.YtophkfbdhejmcaaId
namespace Go.Proofs.Ytophkfbdhejmcaa
open Go.RowKit
set_option linter.unusedVariables false
set_option maxRecDepth 20000

theorem box1_below {w W : World} {x y : Value} {t : Nat} (hb : Below (w.alloc (.cells #[x, y] t)).heap.size (w.alloc (.cells #[x, y] t)) W) : Below w.heap.size w W := bt (one_block _ _) hb
set_option maxHeartbeats 3200000 in
theorem rids_any (d : Int) (a : Option Addr) (cap : Nat) (zs : List Int) (w : World) (hp : IV w a zs) (hl : zs.length ≤ 100000) :
    Calls Try.prog 19 #[dv d a zs.length cap] w fun e w' => ∃ v, e = .returned v ∧ OwnI w' w.heap.size v (idsK zs zs.length) ∧ Below w.heap.size w w' := by
  obtain ⟨W0, hW0⟩ : ∃ W0, W0 = w.alloc (.cells #[.int .i64 d, .slice a zs.length cap] 24) := ⟨_, rfl⟩
  have HB0 : Hid (Below w.heap.size w W0) := by rw [hW0]; exact one_block _ _
  have CL : Hid (∀ W, Below W0.heap.size W0 W → W.cell? ⟨w.heap.size, 1, none⟩ = some (.slice a zs.length cap)) := fun W hW => by
    rw [hW0] at hW
    exact (box2 hW).2
  have HIV : Hid (IV w a zs) := hp
  clear hp
  unfold dv
  go_enter Try.func19, Try.ntmps19
  go_wp2
  rw [← hW0]
  clear hW0
  go_loopw [3, 4] (fun lv iv wr => ∃ k : Nat, k ≤ zs.length ∧ iv = .int .i64 k ∧ Hid (OwnI wr W0.heap.size lv (idsK zs k)) ∧ Hid (Below W0.heap.size W0 wr)) (fun _ iv _ => zs.length - (intOf iv).toNat)
  case atStart => exact ⟨0, Nat.zero_le _, rfl, OwnI.nil _ _, Below.refl _ _⟩
  case round =>
    obtain ⟨k, hk, rfl, HO, HB⟩ := hrel
    have c1 := CL.out _ HB.out
    by_cases hlt : k < zs.length
    · have hlt2 : (k : Int) < (zs.length : Int) := by omega
      obtain ⟨g, off, rfl, hgl, hc⟩ := HIV.out.cell hlt
      have HCK : Hid (w.cell? ⟨g, off + k, none⟩ = some (.int .i64 (zs.getD k 0))) := hc
      have HGL : Hid (g < w.heap.size) := hgl
      clear hc hgl
      go_wp2
      clear c1
      obtain ⟨wo, hwo⟩ : ∃ wo, wo = wr := ⟨_, rfl⟩
      subst hwo
      go_loopw [5, 6] (fun bv jv wx => ∃ j : Nat, j ≤ k ∧ jv = .int .i64 j ∧ bv = .bool (decide (zs.getD k 0 ∈ zs.take j)) ∧ Hid (Below wo.heap.size wo wx)) (fun _ jv _ => k - (intOf jv).toNat)
      case atStart => exact ⟨0, Nat.zero_le _, rfl, by simp, Below.refl _ _⟩
      case round =>
        obtain ⟨j, hj, rfl, rfl, HI⟩ := hrel
        have HBI : Hid (Below W0.heap.size W0 wr) := bt HB.out HI.out
        have c1 := CL.out _ HBI.out
        have hck : wr.cell? ⟨g, off + k, none⟩ = some (.int .i64 (zs.getD k 0)) := ((bt HB0.out HBI.out).cell (p := ⟨g, off + k, none⟩) HGL.out).trans HCK.out
        by_cases hjk : j < k
        · have hjk2 : (j : Int) < (k : Int) := by omega
          have hjz : (j : Int) < (zs.length : Int) := by omega
          obtain ⟨g', off', e2, _, hcj⟩ := (HIV.out.below (bt HB0.out HBI.out)).cell (show j < zs.length by omega)
          obtain ⟨rfl, rfl⟩ : g = g' ∧ off = off' := by simpa using e2
          clear e2
          by_cases hin : zs.getD k 0 ∈ zs.take j
          · have HM : Hid (decide (zs.getD k 0 ∈ zs.take (j + 1)) = true) := decide_eq_true ((mem_take_succ (by omega) _).2 (.inl hin))
            rw [decide_eq_true hin]
            clear hin
            go_wp2
            go_quiet (fail)
            go_wp2
            go_roundw
            case rel => exact ⟨j + 1, by omega, by go_num, by rw [HM.out], below_drewN HI.out _⟩
            case measure => simp [intOf]; omega
          · rw [decide_eq_false hin]
            by_cases he : zs.getD j 0 = zs.getD k 0
            · have HM : Hid (decide (zs.getD k 0 ∈ zs.take (j + 1)) = true) := decide_eq_true ((mem_take_succ (by omega) _).2 (.inr he.symm))
              rw [he] at hcj
              clear hin he
              generalize zs.getD k 0 = z at *
              go_wp2
              go_quiet (fail)
              go_wp2
              go_roundw
              case rel => exact ⟨j + 1, by omega, by go_num, by rw [HM.out], below_drewN HI.out _⟩
              case measure => simp [intOf]; omega
            · have HM : Hid (decide (zs.getD k 0 ∈ zs.take (j + 1)) = false) := decide_eq_false (fun h => ((mem_take_succ (by omega) _).1 h).elim hin (fun h => he h.symm))
              have hq : (zs.getD j 0 == zs.getD k 0) = false := by rw [beq_eq_false_iff_ne]; exact he
              clear hin
              generalize zs.getD k 0 = z at *
              generalize zs.getD j 0 = y at *
              go_wp2
              go_quiet (fail)
              go_wp2
              go_roundw
              case rel => exact ⟨j + 1, by omega, by go_num, by rw [HM.out], below_drewN HI.out _⟩
              case measure => simp [intOf]; omega
        · have : j = k := by omega
          subst this
          have hxx : ¬ ((j : Int) < (j : Int)) := by omega
          by_cases hin : zs.getD j 0 ∈ zs.take j
          · have HK : Hid (idsK zs (j + 1) = idsK zs j) := idsK_in hin
            rw [decide_eq_true hin]
            clear hin
            go_wp2
            go_roundw
            case rel => exact ⟨j + 1, by omega, by go_num, by rw [HK.out]; exact HO.out.below HI.out, HBI.out⟩
            case measure => simp [intOf]; omega
          · have HK : Hid (idsK zs (j + 1) = idsK zs j ++ [zs.getD j 0]) := idsK_new hin
            have HLN : Hid ((idsK zs j).length ≤ 300000) := by have := idsK_len zs j; show (idsK zs j).length ≤ 300000; omega
            rw [decide_eq_false hin]
            clear hin
            generalize zs.getD j 0 = z at *
            go_wp2_with (first
              | (at_builtin; refine wp_app_iv rfl _ _ rfl W0.heap.size _ (idsK zs j) [z] rfl ((HO.out.below HI.out).below (one_block _ _)) (some ⟨wr.heap.size, 0, none⟩) 1 rfl (iv_one _ z) (by intro h; cases h) (by have := HLN.out; simp; omega) (by have := HBI.out.size; simp; omega) ?_; intro v5 w5 o5 b5; have O5 : Hid (OwnI w5 W0.heap.size v5 (idsK zs (j + 1))) := (by rw [HK.out]; exact o5); have B5 : Hid (Below W0.heap.size W0 w5) := (bt HBI.out (one_block _ _)).trans b5; clear o5 b5))
            go_roundw
            case rel => exact ⟨j + 1, by omega, by go_num, O5.out, B5.out⟩
            case measure => simp [intOf]; omega
    · have : k = zs.length := by omega
      subst this
      have hxx : ¬ ((zs.length : Int) < (zs.length : Int)) := by omega
      go_wp2
      go_ret
      exact ⟨_, rfl, OwnI.mono HO.out HB0.out.size, bt HB0.out HB.out⟩
end Go.Proofs.Ytophkfbdhejmcaa
