/- num.Reader's Text at any state of a reader: contracts of single calls. -/
import Derived.Test.YtpmhilaochfpaaaDoorRd2
namespace Go.Proofs.YtpmhilaochfpaaaDoor
set_option maxRecDepth 20000
set_option maxRecDepth 20000
open Go.RowKit

def txE (zs : List Int) : Int := if (zs.length : Int) < 1 + zs.getD 0 0 ∨ zs.length < 1 then 3 else 0
def txL (zs : List Int) : List Int := (zs.drop 1).take (zs.getD 0 0).toNat
def txS (zs : List Int) : ByteArray := if (zs.length : Int) < 1 + zs.getD 0 0 ∨ zs.length < 1 then ByteArray.empty else strOfNums (txL zs)

theorem get1 (zs : List Int) (h : 1 ≤ zs.length) : getV zs 1 = zs.getD 0 0 ∧ getE zs 1 = 0 := by
  constructor
  · unfold getV
    rw [if_neg (by decide), if_neg (by omega)]
    have := val_take zs 0 (by omega)
    simpa [val] using this
  · unfold getE; rw [if_neg (by decide), if_neg (by omega)]
theorem get1_cut (zs : List Int) (h : zs.length < 1) : getV zs 1 = 0 ∧ getE zs 1 = 3 := by
  constructor
  · unfold getV; rw [if_neg (by decide), if_pos (by omega)]
  · unfold getE; rw [if_neg (by decide), if_pos (by omega)]

set_option maxHeartbeats 400000 in
theorem text1_cut (a : Option Addr) (cap : Nat) (zs : List Int) (w : World) (hb : BV w a zs) (hm : zs.length ≤ 9223372036854775807) (h : (zs.length : Int) < 1 + zs.getD 0 0 ∨ zs.length < 1) :
    Calls Tryd.prog 76 #[.slice a zs.length cap] w fun e w' => e = .returned (.tuple #[.string ByteArray.empty, .int .i64 3]) ∧ w' = w := by
  have hg := get_any a zs.length cap zs 1 w hb rfl hm
  by_cases h1 : zs.length < 1
  · obtain ⟨e1, e2⟩ := get1_cut zs h1
    rw [e1, e2] at hg
    clear hb h e1 e2
    go_enter Tryd.func76, Tryd.ntmps76
    go_wp2_with (go_at_call 21; refine hg.mono ?_; rintro e w' ⟨rfl, hw⟩; obtain rfl := hw.symm; clear hg)
    go_ret2
    exact ⟨rfl, rfl⟩
  · obtain ⟨e1, e2⟩ := get1 zs (by omega)
    rw [e1, e2] at hg
    obtain ⟨z0, z1⟩ := hb.1.getD 0
    have h2 : (zs.length : Int) < 1 + zs.getD 0 0 := by omega
    generalize zs.getD 0 0 = z at *
    clear hb h e1 e2
    go_enter Tryd.func76, Tryd.ntmps76
    go_wp2_with (go_at_call 21; refine hg.mono ?_; rintro e w' ⟨rfl, hw⟩; obtain rfl := hw.symm; clear hg)
    go_ret2
    exact ⟨rfl, rfl⟩

set_option maxHeartbeats 400000 in
theorem text1_ok (a : Option Addr) (cap : Nat) (zs : List Int) (w : World) (hb : BV w a zs) (hm : zs.length ≤ 9223372036854775807) (hc : zs.length ≤ cap) (h : ¬ ((zs.length : Int) < 1 + zs.getD 0 0 ∨ zs.length < 1)) :
    Calls Tryd.prog 76 #[.slice a zs.length cap] w fun e w' => e = .returned (.tuple #[.string (strOfNums (txL zs)), .int .i64 0]) ∧ w' = w := by
  have hg := get_any a zs.length cap zs 1 w hb rfl hm
  obtain ⟨e1, e2⟩ := get1 zs (by omega)
  rw [e1, e2] at hg
  obtain ⟨z0, z1⟩ := hb.1.getD 0
  unfold txL
  have h2 : 1 + zs.getD 0 0 ≤ (zs.length : Int) := by omega
  have h3 : 1 ≤ zs.length := by omega
  obtain ⟨hz, h4 | ⟨b, off, rfl, _, hcell⟩⟩ := hb
  · subst h4; simp at h3
  obtain ⟨n, hn⟩ := Int.eq_ofNat_of_zero_le z0
  rw [hn] at hg h2 z1 ⊢
  rw [Int.toNat_natCast]
  clear z0 h e1 e2 hn
  have hxl : ((zs.drop 1).take n).length = n := by simp; omega
  have hxc : ∀ i, i < n → w.cell? ⟨b, off + 1 + i, none⟩ = some (.int .u8 (((zs.drop 1).take n).getD i 0)) := by
    intro i hi
    rw [Nat.add_assoc, hcell (1 + i) (by omega), ← getD_drop, List.getD_eq_getElem?_getD, List.getD_eq_getElem?_getD, List.getElem?_take, if_pos hi]
  by_cases hc1 : cap = 1
  · have hn0 : n = 0 := by omega
    subst hn0
    subst hc1
    have hcv := run_convert_bytes_arg (P := Tryd.prog) w 53 5 Tryd.underlying53 Tryd.underlying5 b off 0 0 [] rfl (by intro i hi; omega) 9 Tryd.underlying9
    have e0 : (zs.drop 1).take 0 = [] := rfl
    rw [e0]
    clear hxl hxc hcell hz e0
    go_enter Tryd.func76, Tryd.ntmps76
    go_wp2_with (go_at_call 21; refine hg.mono ?_; rintro e w' ⟨rfl, hw⟩; obtain rfl := hw.symm; clear hg)
    go_ret2
    exact ⟨rfl, rfl⟩
  · have hcv := run_convert_bytes_arg (P := Tryd.prog) w 53 5 Tryd.underlying53 Tryd.underlying5 b (off + 1) n (cap - 1) ((zs.drop 1).take n) hxl hxc 9 Tryd.underlying9
    generalize strOfNums ((zs.drop 1).take n) = s at *
    have hcx : (cap == 1) = false := by simpa using hc1
    clear hxl hxc hcell hz
    go_enter Tryd.func76, Tryd.ntmps76
    go_wp2_with (go_at_call 21; refine hg.mono ?_; rintro e w' ⟨rfl, hw⟩; obtain rfl := hw.symm; clear hg)
    go_ret2
    exact ⟨rfl, rfl⟩

def rtxS (zs : List Int) (e : Int) : ByteArray := if e = 0 then txS zs else ByteArray.empty
def rtxE (zs : List Int) (e : Int) : Int := if e = 0 then txE zs else e
def rtxZ (zs : List Int) (e : Int) : List Int := if e = 0 ∧ txE zs = 0 then zs.drop (1 + (zs.getD 0 0).toNat) else zs

set_option maxHeartbeats 400000 in
theorem rtx_any (rb : Nat) (zs : List Int) (er : Int) (w : World) (h : RdS w rb zs er) :
    Calls Tryd.prog 72 #[.pointer (some ⟨rb, 0, none⟩)] w fun e w' => e = .returned (.string (rtxS zs er)) ∧ RdS w' rb (rtxZ zs er) (rtxE zs er) ∧ w.grownBy w' (some rb) := by
  have HE := err_any rb zs er w h
  unfold rtxS rtxE rtxZ
  by_cases he : er = 0
  · subst he
    obtain ⟨a, cap, c0, hv, hm, hc⟩ := h.view
    by_cases hg : (zs.length : Int) < 1 + zs.getD 0 0 ∨ zs.length < 1
    · have e1 : txE zs = 3 := by unfold txE; rw [if_pos hg]
      have e2 : txS zs = ByteArray.empty := by unfold txS; rw [if_pos hg]
      rw [if_pos rfl, if_pos rfl, e1, e2, if_neg (fun c => by cases c.2)]
      have HG := text1_cut a cap zs w hv hm hg
      have HT := take_err rb zs 0 1 3 w h (by decide)
      clear hg h hv e1 e2
      go_enter Tryd.func72, Tryd.ntmps72
      go_wp2_with (first | (go_at_call 64; refine HE.mono ?_; rintro e w' ⟨rfl, hw⟩; obtain rfl := hw.symm; clear HE) | (go_at_call 76; refine HG.mono ?_; rintro e w' ⟨rfl, hw⟩; obtain rfl := hw.symm; clear HG) | (go_at_call 74; refine HT.mono ?_; rintro e w' ⟨rfl, hs, hgr⟩))
      go_ret
      exact ⟨rfl, hs, hgr⟩
    · have e1 : txE zs = 0 := by unfold txE; rw [if_neg hg]
      have e2 : txS zs = strOfNums (txL zs) := by unfold txS; rw [if_neg hg]
      rw [if_pos rfl, if_pos rfl, e1, e2, if_pos ⟨rfl, rfl⟩]
      have HG := text1_ok a cap zs w hv hm hc hg
      obtain ⟨z0, z1⟩ := hv.1.getD 0
      have es : (strOfNums (txL zs)).size = (zs.getD 0 0).toNat := by rw [strOfNums_size]; unfold txL; simp only [List.length_take, List.length_drop]; omega
      rw [← es]
      have HT := take_ok rb zs 0 (1 + (strOfNums (txL zs)).size) w h (by rw [es]; omega)
      generalize strOfNums (txL zs) = s at *
      have hsz : s.size ≤ 255 := by omega
      have e3 : ((1 + s.size : Nat) : Int) = 1 + (s.size : Int) := by omega
      rw [e3] at HT
      clear e3
      clear hg h hv e1 e2 es z0 z1
      go_enter Tryd.func72, Tryd.ntmps72
      go_wp2_with (first | (go_at_call 64; refine HE.mono ?_; rintro e w' ⟨rfl, hw⟩; obtain rfl := hw.symm; clear HE) | (go_at_call 76; refine HG.mono ?_; rintro e w' ⟨rfl, hw⟩; obtain rfl := hw.symm; clear HG) | (go_at_call 74; refine HT.mono ?_; rintro e w' ⟨rfl, hs, hgr⟩))
      go_ret
      exact ⟨rfl, hs, hgr⟩
  · rw [if_neg he, if_neg he, if_neg (fun c => he c.1)]
    have hb : (er == 0) = false := by simpa using he
    have H : Hid (RdS w rb zs er) := h
    clear he h
    go_enter Tryd.func72, Tryd.ntmps72
    go_wp2_with (go_at_call 64; refine HE.mono ?_; rintro e w' ⟨rfl, hw⟩; obtain rfl := hw.symm; clear HE)
    go_ret
    exact ⟨rfl, H.out, ⟨rfl, rfl, rfl, Nat.le_refl _, fun _ _ _ => rfl⟩⟩
end Go.Proofs.YtpmhilaochfpaaaDoor
