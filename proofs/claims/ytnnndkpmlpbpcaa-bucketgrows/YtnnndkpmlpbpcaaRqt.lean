import Derived.Test.YtnnndkpmlpbpcaaRq
import Derived.Test.YtnnndkpmlpbpcaaRdt
namespace Go.Proofs.Ytnnndkpmlpbpcaa.Rq
set_option maxRecDepth 20000
open Go.RowKit
variable {Q : Nat → Prop}
set_option maxHeartbeats 400000 in
theorem rtx_any (rb : Nat) (zs : List Int) (er : Int) (w : World) (h : RdQ Q w rb zs er) :
    Calls Try.prog 62 #[.pointer (some ⟨rb, 0, none⟩)] w fun e w' => e = .returned (.string (rtxS zs er)) ∧ RdQ Q w' rb (rtxZ zs er) (rtxE zs er) ∧ w.grownBy w' (some rb) := by
  have HE := err_any rb zs er w h
  unfold rtxS rtxE rtxZ
  by_cases he : er = 0
  · subst he
    obtain ⟨a, cap, c0, hv, hm, hc⟩ := h.view
    by_cases hg : (zs.length : Int) < 1 + zs.getD 0 0 ∨ zs.length < 1
    · have e1 : txE zs = 3 := by unfold txE; rw [if_pos hg]
      have e2 : txS zs = ByteArray.empty := by unfold txS; rw [if_pos hg]
      rw [if_pos rfl, if_pos rfl, e1, e2, if_neg (fun c => by cases c.2)]
      have HG := text1_cut a cap zs w hv hm hg
      have HT := take_err rb zs 0 1 3 w h (by decide)
      clear hg h hv e1 e2
      go_enter Try.func62, Try.ntmps62
      go_wp2_with (first | (go_at_call 71; refine HE.mono ?_; rintro e w' ⟨rfl, hw⟩; obtain rfl := hw.symm; clear HE) | (go_at_call 74; refine HG.mono ?_; rintro e w' ⟨rfl, hw⟩; obtain rfl := hw.symm; clear HG) | (go_at_call 73; refine HT.mono ?_; rintro e w' ⟨rfl, hs, hgr⟩))
      go_ret
      exact ⟨rfl, hs, hgr⟩
    · have e1 : txE zs = 0 := by unfold txE; rw [if_neg hg]
      have e2 : txS zs = strOfNums (txL zs) := by unfold txS; rw [if_neg hg]
      rw [if_pos rfl, if_pos rfl, e1, e2, if_pos ⟨rfl, rfl⟩]
      have HG := text1_ok a cap zs w hv hm hc hg
      obtain ⟨z0, z1⟩ := hv.1.getD 0
      have es : (strOfNums (txL zs)).size = (zs.getD 0 0).toNat := by rw [strOfNums_size]; unfold txL; simp only [List.length_take, List.length_drop]; omega
      rw [← es]
      have HT := take_ok rb zs 0 (1 + (strOfNums (txL zs)).size) w h (by rw [es]; omega)
      generalize strOfNums (txL zs) = s at *
      have hsz : s.size ≤ 255 := by omega
      have e3 : ((1 + s.size : Nat) : Int) = 1 + (s.size : Int) := by omega
      rw [e3] at HT
      clear e3
      clear hg h hv e1 e2 es z0 z1
      go_enter Try.func62, Try.ntmps62
      go_wp2_with (first | (go_at_call 71; refine HE.mono ?_; rintro e w' ⟨rfl, hw⟩; obtain rfl := hw.symm; clear HE) | (go_at_call 74; refine HG.mono ?_; rintro e w' ⟨rfl, hw⟩; obtain rfl := hw.symm; clear HG) | (go_at_call 73; refine HT.mono ?_; rintro e w' ⟨rfl, hs, hgr⟩))
      go_ret
      exact ⟨rfl, hs, hgr⟩
  · rw [if_neg he, if_neg he, if_neg (fun c => he c.1)]
    have hb : (er == 0) = false := by simpa using he
    have H : Hid (RdQ Q w rb zs er) := h
    clear he h
    go_enter Try.func62, Try.ntmps62
    go_wp2_with (go_at_call 71; refine HE.mono ?_; rintro e w' ⟨rfl, hw⟩; obtain rfl := hw.symm; clear HE)
    go_ret
    exact ⟨rfl, H.out, ⟨rfl, rfl, rfl, Nat.le_refl _, fun _ _ _ => rfl⟩⟩
end Go.Proofs.Ytnnndkpmlpbpcaa.Rq
