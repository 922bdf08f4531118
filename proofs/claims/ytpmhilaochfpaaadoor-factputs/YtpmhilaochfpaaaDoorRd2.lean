/- num.Reader's Num, Signed, Text and Done at any state of a reader: contracts of single calls. -/
import Derived.Test.YtpmhilaochfpaaaDoorRd
namespace Go.Proofs.YtpmhilaochfpaaaDoor
set_option maxRecDepth 20000
set_option maxRecDepth 20000
open Go.RowKit

def numV (zs : List Int) (e x : Int) : Int := if e = 0 then getV zs x else 0
def numE (zs : List Int) (e x : Int) : Int := if e = 0 then getE zs x else e
def numZ (zs : List Int) (e x : Int) : List Int := if e = 0 ∧ getE zs x = 0 then zs.drop x.toNat else zs

theorem getE_zero (zs : List Int) (x : Int) (h : getE zs x = 0) : 1 ≤ x ∧ x ≤ 6 ∧ x ≤ zs.length := by
  unfold getE at h
  split at h
  · cases h
  · split at h
    · cases h
    · omega
theorem getE_cut (zs : List Int) (x : Int) (h : getE zs x ≠ 0) : getV zs x = 0 := by
  unfold getE at h
  unfold getV
  split
  · rfl
  · split
    · rfl
    · rename_i a b; rw [if_neg a, if_neg b] at h; exact absurd rfl h

theorem RdS.view {w : World} {rb : Nat} {zs : List Int} {e : Int} (h : RdS w rb zs e) : ∃ a cap, w.cell? ⟨rb, 0, none⟩ = some (.slice a zs.length cap) ∧ BV w a zs ∧ zs.length ≤ 9223372036854775807 ∧ zs.length ≤ cap := by
  obtain ⟨a, cap, hr, hc, hm, hz, hb⟩ := h
  refine ⟨a, cap, hr.c0, ⟨hz, ?_⟩, by unfold maxLen at hm; omega, hc⟩
  rcases hb with hb | ⟨b, off, rfl, _, hlt, hcell⟩
  · exact .inl hb
  · exact .inr ⟨b, off, rfl, hlt, hcell⟩

set_option maxHeartbeats 400000 in
theorem num_any (rb : Nat) (zs : List Int) (er x : Int) (w : World) (h : RdS w rb zs er) :
    Calls Tryd.prog 70 #[.pointer (some ⟨rb, 0, none⟩), .int .i64 x] w fun e w' => e = .returned (.int .i64 (numV zs er x)) ∧ RdS w' rb (numZ zs er x) (numE zs er x) ∧ w.grownBy w' (some rb) := by
  have HE := err_any rb zs er w h
  unfold numV numE numZ
  by_cases he : er = 0
  · subst he
    obtain ⟨a, cap, c0, hv, hm, _⟩ := h.view
    have HG := get_any a zs.length cap zs x w hv rfl hm
    by_cases hg : getE zs x = 0
    · rw [if_pos rfl, if_pos rfl, if_pos ⟨rfl, hg⟩]
      obtain ⟨h1, h2, h3⟩ := getE_zero zs x hg
      obtain ⟨y, rfl⟩ := Int.eq_ofNat_of_zero_le (show 0 ≤ x by omega)
      have HT := take_ok rb zs 0 y w h (by omega)
      rw [Int.toNat_natCast, hg]
      rw [hg] at HG
      generalize getV zs y = v at *
      clear hg h hv
      go_enter Tryd.func70, Tryd.ntmps70
      go_wp2_with (first | (go_at_call 64; refine HE.mono ?_; rintro e w' ⟨rfl, hw⟩; obtain rfl := hw.symm; clear HE) | (go_at_call 21; refine HG.mono ?_; rintro e w' ⟨rfl, hw⟩; obtain rfl := hw.symm; clear HG) | (go_at_call 74; refine HT.mono ?_; rintro e w' ⟨rfl, hs, hgr⟩))
      go_ret
      exact ⟨rfl, hs, hgr⟩
    · rw [if_pos rfl, if_pos rfl, if_neg (fun c => hg c.2)]
      rw [getE_cut zs x hg] at HG ⊢
      have HT := take_err rb zs 0 x (getE zs x) w h hg
      generalize getE zs x = v at *
      have hb : (v == 0) = false := by simpa using hg
      clear hg h hv
      go_enter Tryd.func70, Tryd.ntmps70
      go_wp2_with (first | (go_at_call 64; refine HE.mono ?_; rintro e w' ⟨rfl, hw⟩; obtain rfl := hw.symm; clear HE) | (go_at_call 21; refine HG.mono ?_; rintro e w' ⟨rfl, hw⟩; obtain rfl := hw.symm; clear HG) | (go_at_call 74; refine HT.mono ?_; rintro e w' ⟨rfl, hs, hgr⟩))
      go_ret
      exact ⟨rfl, hs, hgr⟩
  · rw [if_neg he, if_neg he, if_neg (fun c => he c.1)]
    have hb : (er == 0) = false := by simpa using he
    have H : Hid (RdS w rb zs er) := h
    clear he h
    go_enter Tryd.func70, Tryd.ntmps70
    go_wp2_with (go_at_call 64; refine HE.mono ?_; rintro e w' ⟨rfl, hw⟩; obtain rfl := hw.symm; clear HE)
    go_ret
    exact ⟨rfl, H.out, ⟨rfl, rfl, rfl, Nat.le_refl _, fun _ _ _ => rfl⟩⟩

def sgdV (zs : List Int) (e : Int) : Int := if e = 0 then sgV zs else 0
def sgdE (zs : List Int) (e : Int) : Int := if e = 0 then sgE zs else e
def sgdZ (zs : List Int) (e : Int) : List Int := if e = 0 ∧ sgE zs = 0 then zs.drop 6 else zs

theorem sgE_zero (zs : List Int) (h : sgE zs = 0) : 6 ≤ zs.length := by
  unfold sgE at h
  split at h
  · cases h
  · omega
theorem sgE_cut (zs : List Int) (h : sgE zs ≠ 0) : sgV zs = 0 := by
  unfold sgE at h
  unfold sgV
  split
  · rfl
  · split
    · rfl
    · rename_i a b; rw [if_neg a, if_neg b] at h; exact absurd rfl h

set_option maxHeartbeats 400000 in
theorem sgd_any (rb : Nat) (zs : List Int) (er : Int) (w : World) (h : RdS w rb zs er) :
    Calls Tryd.prog 71 #[.pointer (some ⟨rb, 0, none⟩)] w fun e w' => e = .returned (.int .i64 (sgdV zs er)) ∧ RdS w' rb (sgdZ zs er) (sgdE zs er) ∧ w.grownBy w' (some rb) := by
  have HE := err_any rb zs er w h
  unfold sgdV sgdE sgdZ
  by_cases he : er = 0
  · subst he
    obtain ⟨a, cap, c0, hv, hm, _⟩ := h.view
    have HG := signed_any a zs.length cap zs w hv rfl hm
    by_cases hg : sgE zs = 0
    · rw [if_pos rfl, if_pos rfl, if_pos ⟨rfl, hg⟩]
      have HT := take_ok rb zs 0 6 w h (sgE_zero zs hg)
      rw [hg]
      rw [hg] at HG
      generalize sgV zs = v at *
      clear hg h hv
      go_enter Tryd.func71, Tryd.ntmps71
      go_wp2_with (first | (go_at_call 64; refine HE.mono ?_; rintro e w' ⟨rfl, hw⟩; obtain rfl := hw.symm; clear HE) | (go_at_call 75; refine HG.mono ?_; rintro e w' ⟨rfl, hw⟩; obtain rfl := hw.symm; clear HG) | (go_at_call 74; refine HT.mono ?_; rintro e w' ⟨rfl, hs, hgr⟩))
      go_ret
      exact ⟨rfl, hs, hgr⟩
    · rw [if_pos rfl, if_pos rfl, if_neg (fun c => hg c.2)]
      rw [sgE_cut zs hg] at HG ⊢
      have HT := take_err rb zs 0 6 (sgE zs) w h hg
      generalize sgE zs = v at *
      have hb : (v == 0) = false := by simpa using hg
      clear hg h hv
      go_enter Tryd.func71, Tryd.ntmps71
      go_wp2_with (first | (go_at_call 64; refine HE.mono ?_; rintro e w' ⟨rfl, hw⟩; obtain rfl := hw.symm; clear HE) | (go_at_call 75; refine HG.mono ?_; rintro e w' ⟨rfl, hw⟩; obtain rfl := hw.symm; clear HG) | (go_at_call 74; refine HT.mono ?_; rintro e w' ⟨rfl, hs, hgr⟩))
      go_ret
      exact ⟨rfl, hs, hgr⟩
  · rw [if_neg he, if_neg he, if_neg (fun c => he c.1)]
    have hb : (er == 0) = false := by simpa using he
    have H : Hid (RdS w rb zs er) := h
    clear he h
    go_enter Tryd.func71, Tryd.ntmps71
    go_wp2_with (go_at_call 64; refine HE.mono ?_; rintro e w' ⟨rfl, hw⟩; obtain rfl := hw.symm; clear HE)
    go_ret
    exact ⟨rfl, H.out, ⟨rfl, rfl, rfl, Nat.le_refl _, fun _ _ _ => rfl⟩⟩

end Go.Proofs.YtpmhilaochfpaaaDoor
