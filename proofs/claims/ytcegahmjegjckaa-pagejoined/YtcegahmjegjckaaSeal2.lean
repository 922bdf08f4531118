/- sum.Seal. -/
import Derived.Test.YtcegahmjegjckaaSeal
namespace Go.Proofs.Ytcegahmjegjckaa
open Go.RowKit
set_option linter.unusedVariables false
theorem BV.alloc {w : World} {a : Option Addr} {zs : List Int} (h : BV w a zs) (o : Obj) : BV (w.alloc o) a zs := h.below ((Below.refl _ _).alloc (Nat.le_refl _) _)
theorem parts1 {w : World} {a : Option Addr} {cap : Nat} {zs : List Int} (hb : BV w a zs) (hn : a = none → cap = 0) (hm : zs.length ≤ 9223372036854775807) :
    Parts (w.alloc (.cells #[.slice a zs.length cap] 22)) w.heap.size 0 [zs] := by
  intro i hi
  obtain rfl : i = 0 := by simpa using hi
  exact ⟨a, cap, by go_simp, hn, hb.alloc _, hm⟩
theorem parts2 {w : World} {a b : Option Addr} {cap cap2 : Nat} {zs ys : List Int} (hb : BV w a zs) (hn : a = none → cap = 0) (hm : zs.length ≤ 9223372036854775807) (hb2 : BV w b ys) (hn2 : b = none → cap2 = 0) (hm2 : ys.length ≤ 9223372036854775807) :
    Parts (w.alloc (.cells #[.slice a zs.length cap, .slice b ys.length cap2] 22)) w.heap.size 0 [zs, ys] := by
  intro i hi
  rcases Nat.lt_or_ge i 1 with h | h
  · obtain rfl : i = 0 := by omega
    exact ⟨a, cap, by go_simp, hn, hb.alloc _, hm⟩
  · obtain rfl : i = 1 := by simp at hi; omega
    exact ⟨b, cap2, by go_simp, hn2, hb2.alloc _, hm2⟩
theorem Own.slice {w : World} {base : Nat} {v : Value} {zs : List Int} (h : Own w base v zs) (hz : AllB zs) : ∃ a cap, v = .slice a zs.length cap ∧ (a = none → cap = 0) ∧ BV w a zs ∧ zs.length ≤ cap ∧ cap ≤ maxLen := by
  obtain ⟨a, cap, rfl, h1, h2, _, h4⟩ := h.view hz
  refine ⟨a, cap, rfl, ?_, h.bv hz, h1, h2⟩
  rintro rfl
  rcases h.2 with ⟨e, _⟩ | ⟨g, c, cur, e, _⟩
  · exact (Value.slice.inj e).2.2
  · cases e
theorem Own.mono {w : World} {b1 b2 : Nat} {v : Value} {zs : List Int} (h : Own w b1 v zs) (hb : b2 ≤ b1) : Own w b2 v zs := by
  refine ⟨h.1, ?_⟩
  rcases h.2 with hn | ⟨g, cap, cur, rfl, hbb, hg, rest⟩
  · exact .inl hn
  · exact .inr ⟨g, cap, cur, rfl, Nat.le_trans hb hbb, hg, rest⟩
set_option maxHeartbeats 800000 in
theorem seal_any (a : Option Addr) (cap : Nat) (zs : List Int) (w : World) (hb : BV w a zs) (hm : zs.length ≤ 900000) (hn : a = none → cap = 0) :
    Calls Try.prog 22 #[.slice a zs.length cap] w fun e w' => ∃ v, e = .returned v ∧ Own w' w.heap.size v (zs ++ dig (more 0 zs) 4) ∧ Below w.heap.size w w' := by
  have hz := hb.1
  have H1 := of_any w.heap.size 0 1 1 [zs] _ rfl (by decide) (parts1 hb hn (by omega))
  have e1 : mores 0 [zs] = more 0 zs := rfl
  rw [e1] at H1
  clear e1
  have HL := fun wx => lay_any _ wx (more_lt (show 0 < 4294967296 by decide) hz)
  have B1 : Below w.heap.size w (w.alloc (.cells #[.slice a zs.length cap] 22)) := (Below.refl _ _).alloc (Nat.le_refl _) _
  go_enter Try.func22, Try.ntmps22
  go_wp2_with fail
  refine H1.mono ?_
  rintro e w1 ⟨rfl, hw⟩
  rw [← hw] at B1
  clear hw H1
  go_wp2_with fail
  refine (HL w1).mono ?_
  rintro e w2 ⟨v, rfl, ho, hb2⟩
  obtain ⟨a2, cap2, rfl, hn2, hbv2, hc1, hc2⟩ := ho.slice (dig_all _ _)
  clear HL ho
  have B2 := B1.trans (hb2.mono B1.size)
  have hl4 := dig_length 4 (more 0 zs)
  have H3 := concat_any w2.heap.size 0 2 2 [zs, dig (more 0 zs) 4] _ rfl (by decide) (parts2 (hb.below B2) hn (by omega) hbv2 hn2 (by omega)) (by simp) (by simp [hl4]) (by simp [hl4]; omega)
  have e1 : [zs, dig (more 0 zs) 4].flatten = zs ++ dig (more 0 zs) 4 := by simp
  rw [e1] at H3
  clear e1 hb2 hbv2 hb B1
  go_wp2_with fail
  refine H3.mono ?_
  rintro e w3 ⟨v, rfl, ho, hb3⟩
  clear H3
  have hsz : w2.heap.size ≤ (w2.alloc (.cells #[.slice a zs.length cap, .slice a2 (dig (more 0 zs) 4).length cap2] 22)).heap.size := by simp
  have B3 := (B2.alloc B2.size (.cells #[.slice a zs.length cap, .slice a2 (dig (more 0 zs) 4).length cap2] 22)).trans (hb3.mono (Nat.le_trans B2.size hsz))
  have HO := ho.mono (Nat.le_trans B2.size hsz)
  clear ho hb3 B2
  go_wp2
  go_ret
  exact ⟨_, rfl, HO, B3⟩
end Go.Proofs.Ytcegahmjegjckaa
