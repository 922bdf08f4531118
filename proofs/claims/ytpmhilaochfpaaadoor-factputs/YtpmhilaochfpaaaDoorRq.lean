/- num.Reader's methods at any state of a reader whose bytes lie in a block with any wanted property: contracts of single calls. -/
import Derived.Test.YtpmhilaochfpaaaDoorRd3
import Derived.Test.YtpmhilaochfpaaaDoorNew
namespace Go.Proofs.YtpmhilaochfpaaaDoor.Rq
set_option maxRecDepth 20000
set_option maxRecDepth 20000
open Go.RowKit

variable {Q : Nat → Prop}

/-- A reader in block rb has the bytes zs left, and the error e; its bytes lie elsewhere, in a block with Q. -/
def RdQ (Q : Nat → Prop) (w : World) (rb : Nat) (zs : List Int) (e : Int) : Prop :=
  ∃ a cap, Rd w rb a zs.length cap e ∧ zs.length ≤ cap ∧ cap ≤ maxLen ∧ AllB zs ∧ (zs = [] ∨ ∃ b off, a = some ⟨b, off, none⟩ ∧ b ≠ rb ∧ Q b ∧ b < w.heap.size ∧ ∀ i, i < zs.length → w.cell? ⟨b, off + i, none⟩ = some (.int .u8 (zs.getD i 0)))

theorem RdQ.err {w : World} {rb : Nat} {zs : List Int} {e e' : Int} (h : RdQ Q w rb zs e) : RdQ Q (w.setCell ⟨rb, 1, none⟩ (.int .i64 e')) rb zs e' := by
  obtain ⟨a, cap, hr, hc, hm, hz, hb⟩ := h
  refine ⟨a, cap, hr.set1, hc, hm, hz, ?_⟩
  rcases hb with hb | ⟨b, off, rfl, hne, hQ, hlt, hcell⟩
  · exact .inl hb
  · exact .inr ⟨b, off, rfl, hne, hQ, by simpa [World.setCell] using hlt, fun i hi => (cell_set_other _ _ _ _ _ _ hne).trans (hcell i hi)⟩
set_option maxHeartbeats 400000 in
theorem err_any (rb : Nat) (zs : List Int) (x : Int) (w : World) (h : RdQ Q w rb zs x) :
    Calls Tryd.prog 64 #[.pointer (some ⟨rb, 0, none⟩)] w fun e w' => e = .returned (.int .i64 x) ∧ w' = w := by
  obtain ⟨a, cap, ⟨c0, c1, f0, f1⟩, _⟩ := h
  go_enter Tryd.func64, Tryd.ntmps64
  go_wp2
  go_ret
  exact ⟨rfl, rfl⟩
set_option maxHeartbeats 400000 in
theorem left_any (rb : Nat) (zs : List Int) (x : Int) (w : World) (h : RdQ Q w rb zs x) :
    Calls Tryd.prog 65 #[.pointer (some ⟨rb, 0, none⟩)] w fun e w' => e = .returned (.int .i64 zs.length) ∧ w' = w := by
  obtain ⟨a, cap, ⟨c0, c1, f0, f1⟩, _⟩ := h
  go_enter Tryd.func65, Tryd.ntmps65
  go_wp2
  go_ret
  exact ⟨rfl, rfl⟩
set_option maxHeartbeats 400000 in
theorem take_err (rb : Nat) (zs : List Int) (x n er : Int) (w : World) (h : RdQ Q w rb zs x) (he : er ≠ 0) :
    Calls Tryd.prog 74 #[.pointer (some ⟨rb, 0, none⟩), .int .i64 n, .int .i64 er] w fun e w' => e = .returned (.tuple #[]) ∧ RdQ Q w' rb zs er ∧ w.grownBy w' (some rb) := by
  have HE := h.err (e' := er)
  obtain ⟨a, cap, ⟨c0, c1, f0, f1⟩, _⟩ := h
  have he' : (er == 0) = false := by simpa using he
  have H : Hid (RdQ Q (w.setCell ⟨rb, 1, none⟩ (.int .i64 er)) rb zs er) := HE
  clear HE
  go_enter Tryd.func74, Tryd.ntmps74
  go_wp2
  exact bodyPost_ret (v := .tuple #[]) (results_none rfl _ _ _) rfl ⟨rfl, H.out, grown_set _ _ _ _⟩
set_option maxHeartbeats 400000 in
theorem take_ok (rb : Nat) (zs : List Int) (x : Int) (n : Nat) (w : World) (h : RdQ Q w rb zs x) (hn : n ≤ zs.length) :
    Calls Tryd.prog 74 #[.pointer (some ⟨rb, 0, none⟩), .int .i64 n, .int .i64 0] w fun e w' => e = .returned (.tuple #[]) ∧ RdQ Q w' rb (zs.drop n) x ∧ w.grownBy w' (some rb) := by
  have h' := h
  obtain ⟨a, cap, hr, hc, hm, hz, hb⟩ := h
  obtain ⟨c0, c1, f0, f1⟩ := hr
  have HX : ∀ a' l' c', l' = zs.length - n → c' = cap - n → (zs.drop n = [] ∨ ∃ b off, a' = some ⟨b, off, none⟩ ∧ b ≠ rb ∧ Q b ∧ b < w.heap.size ∧ ∀ i, i < (zs.drop n).length → w.cell? ⟨b, off + i, none⟩ = some (.int .u8 ((zs.drop n).getD i 0))) → RdQ Q (w.setCell ⟨rb, 0, none⟩ (.slice a' l' c')) rb (zs.drop n) x := by
    rintro a' l' c' rfl rfl ha
    have hl : (zs.drop n).length = zs.length - n := by simp
    refine ⟨a', cap - n, ?_, by omega, by omega, hz.drop n, ?_⟩
    · rw [hl]; exact Rd.set0 ⟨c0, c1, f0, f1⟩
    · rcases ha with hb | ⟨b, off, rfl, hne, hQ, hlt, hcell⟩
      · exact .inl hb
      · exact .inr ⟨b, off, rfl, hne, hQ, by simpa [World.setCell] using hlt, fun i hi => (cell_set_other _ _ _ _ _ _ hne).trans (hcell i hi)⟩
  have H : Hid (∀ a' l' c', l' = zs.length - n → c' = cap - n → (zs.drop n = [] ∨ ∃ b off, a' = some ⟨b, off, none⟩ ∧ b ≠ rb ∧ Q b ∧ b < w.heap.size ∧ ∀ i, i < (zs.drop n).length → w.cell? ⟨b, off + i, none⟩ = some (.int .u8 ((zs.drop n).getD i 0))) → RdQ Q (w.setCell ⟨rb, 0, none⟩ (.slice a' l' c')) rb (zs.drop n) x) := HX
  clear HX
  rcases hb with rfl | ⟨b, off, rfl, hne, hQ, hlt, hcell⟩
  · have hn0 : n = 0 := by simpa using hn
    subst hn0
    clear h'
    go_enter Tryd.func74, Tryd.ntmps74
    go_wp2
    go_end0
    exact ⟨rfl, H.out _ _ _ rfl rfl (.inl rfl), grown_set _ _ _ _⟩
  · have HC : Hid (∀ i, i < (zs.drop n).length → w.cell? ⟨b, (off + n) + i, none⟩ = some (.int .u8 ((zs.drop n).getD i 0))) := by
      intro i hi
      rw [getD_drop, Nat.add_assoc]
      exact hcell (n + i) (by simp at hi; omega)
    clear hcell h'
    by_cases hcn : cap = n
    · have hd : zs.drop n = [] := by simp; omega
      subst hcn
      go_enter Tryd.func74, Tryd.ntmps74
      go_wp2
      go_end0
      exact ⟨rfl, H.out _ _ _ (by omega) (by omega) (.inl hd), grown_set _ _ _ _⟩
    · go_enter Tryd.func74, Tryd.ntmps74
      go_wp2
      go_end0
      exact ⟨rfl, H.out _ _ _ rfl rfl (.inr ⟨b, off + n, rfl, hne, hQ, hlt, HC.out⟩), grown_set _ _ _ _⟩
theorem RdQ.view {w : World} {rb : Nat} {zs : List Int} {e : Int} (h : RdQ Q w rb zs e) : ∃ a cap, w.cell? ⟨rb, 0, none⟩ = some (.slice a zs.length cap) ∧ BV w a zs ∧ zs.length ≤ 9223372036854775807 ∧ zs.length ≤ cap := by
  obtain ⟨a, cap, hr, hc, hm, hz, hb⟩ := h
  refine ⟨a, cap, hr.c0, ⟨hz, ?_⟩, by unfold maxLen at hm; omega, hc⟩
  rcases hb with hb | ⟨b, off, rfl, _, _, hlt, hcell⟩
  · exact .inl hb
  · exact .inr ⟨b, off, rfl, hlt, hcell⟩
set_option maxHeartbeats 400000 in
theorem num_any (rb : Nat) (zs : List Int) (er x : Int) (w : World) (h : RdQ Q w rb zs er) :
    Calls Tryd.prog 70 #[.pointer (some ⟨rb, 0, none⟩), .int .i64 x] w fun e w' => e = .returned (.int .i64 (numV zs er x)) ∧ RdQ Q w' rb (numZ zs er x) (numE zs er x) ∧ w.grownBy w' (some rb) := by
  have HE := err_any rb zs er w h
  unfold numV numE numZ
  by_cases he : er = 0
  · subst he
    obtain ⟨a, cap, c0, hv, hm, _⟩ := h.view
    have HG := get_any a zs.length cap zs x w hv rfl hm
    by_cases hg : getE zs x = 0
    · rw [if_pos rfl, if_pos rfl, if_pos ⟨rfl, hg⟩]
      obtain ⟨h1, h2, h3⟩ := getE_zero zs x hg
      obtain ⟨y, rfl⟩ := Int.eq_ofNat_of_zero_le (show 0 ≤ x by omega)
      have HT := take_ok rb zs 0 y w h (by omega)
      rw [Int.toNat_natCast, hg]
      rw [hg] at HG
      generalize getV zs y = v at *
      clear hg h hv
      go_enter Tryd.func70, Tryd.ntmps70
      go_wp2_with (first | (go_at_call 64; refine HE.mono ?_; rintro e w' ⟨rfl, hw⟩; obtain rfl := hw.symm; clear HE) | (go_at_call 21; refine HG.mono ?_; rintro e w' ⟨rfl, hw⟩; obtain rfl := hw.symm; clear HG) | (go_at_call 74; refine HT.mono ?_; rintro e w' ⟨rfl, hs, hgr⟩))
      go_ret
      exact ⟨rfl, hs, hgr⟩
    · rw [if_pos rfl, if_pos rfl, if_neg (fun c => hg c.2)]
      rw [getE_cut zs x hg] at HG ⊢
      have HT := take_err rb zs 0 x (getE zs x) w h hg
      generalize getE zs x = v at *
      have hb : (v == 0) = false := by simpa using hg
      clear hg h hv
      go_enter Tryd.func70, Tryd.ntmps70
      go_wp2_with (first | (go_at_call 64; refine HE.mono ?_; rintro e w' ⟨rfl, hw⟩; obtain rfl := hw.symm; clear HE) | (go_at_call 21; refine HG.mono ?_; rintro e w' ⟨rfl, hw⟩; obtain rfl := hw.symm; clear HG) | (go_at_call 74; refine HT.mono ?_; rintro e w' ⟨rfl, hs, hgr⟩))
      go_ret
      exact ⟨rfl, hs, hgr⟩
  · rw [if_neg he, if_neg he, if_neg (fun c => he c.1)]
    have hb : (er == 0) = false := by simpa using he
    have H : Hid (RdQ Q w rb zs er) := h
    clear he h
    go_enter Tryd.func70, Tryd.ntmps70
    go_wp2_with (go_at_call 64; refine HE.mono ?_; rintro e w' ⟨rfl, hw⟩; obtain rfl := hw.symm; clear HE)
    go_ret
    exact ⟨rfl, H.out, ⟨rfl, rfl, rfl, Nat.le_refl _, fun _ _ _ => rfl⟩⟩
set_option maxHeartbeats 400000 in
theorem sgd_any (rb : Nat) (zs : List Int) (er : Int) (w : World) (h : RdQ Q w rb zs er) :
    Calls Tryd.prog 71 #[.pointer (some ⟨rb, 0, none⟩)] w fun e w' => e = .returned (.int .i64 (sgdV zs er)) ∧ RdQ Q w' rb (sgdZ zs er) (sgdE zs er) ∧ w.grownBy w' (some rb) := by
  have HE := err_any rb zs er w h
  unfold sgdV sgdE sgdZ
  by_cases he : er = 0
  · subst he
    obtain ⟨a, cap, c0, hv, hm, _⟩ := h.view
    have HG := signed_any a zs.length cap zs w hv rfl hm
    by_cases hg : sgE zs = 0
    · rw [if_pos rfl, if_pos rfl, if_pos ⟨rfl, hg⟩]
      have HT := take_ok rb zs 0 6 w h (sgE_zero zs hg)
      rw [hg]
      rw [hg] at HG
      generalize sgV zs = v at *
      clear hg h hv
      go_enter Tryd.func71, Tryd.ntmps71
      go_wp2_with (first | (go_at_call 64; refine HE.mono ?_; rintro e w' ⟨rfl, hw⟩; obtain rfl := hw.symm; clear HE) | (go_at_call 75; refine HG.mono ?_; rintro e w' ⟨rfl, hw⟩; obtain rfl := hw.symm; clear HG) | (go_at_call 74; refine HT.mono ?_; rintro e w' ⟨rfl, hs, hgr⟩))
      go_ret
      exact ⟨rfl, hs, hgr⟩
    · rw [if_pos rfl, if_pos rfl, if_neg (fun c => hg c.2)]
      rw [sgE_cut zs hg] at HG ⊢
      have HT := take_err rb zs 0 6 (sgE zs) w h hg
      generalize sgE zs = v at *
      have hb : (v == 0) = false := by simpa using hg
      clear hg h hv
      go_enter Tryd.func71, Tryd.ntmps71
      go_wp2_with (first | (go_at_call 64; refine HE.mono ?_; rintro e w' ⟨rfl, hw⟩; obtain rfl := hw.symm; clear HE) | (go_at_call 75; refine HG.mono ?_; rintro e w' ⟨rfl, hw⟩; obtain rfl := hw.symm; clear HG) | (go_at_call 74; refine HT.mono ?_; rintro e w' ⟨rfl, hs, hgr⟩))
      go_ret
      exact ⟨rfl, hs, hgr⟩
  · rw [if_neg he, if_neg he, if_neg (fun c => he c.1)]
    have hb : (er == 0) = false := by simpa using he
    have H : Hid (RdQ Q w rb zs er) := h
    clear he h
    go_enter Tryd.func71, Tryd.ntmps71
    go_wp2_with (go_at_call 64; refine HE.mono ?_; rintro e w' ⟨rfl, hw⟩; obtain rfl := hw.symm; clear HE)
    go_ret
    exact ⟨rfl, H.out, ⟨rfl, rfl, rfl, Nat.le_refl _, fun _ _ _ => rfl⟩⟩
set_option maxHeartbeats 400000 in
theorem rtx_any (rb : Nat) (zs : List Int) (er : Int) (w : World) (h : RdQ Q w rb zs er) :
    Calls Tryd.prog 72 #[.pointer (some ⟨rb, 0, none⟩)] w fun e w' => e = .returned (.string (rtxS zs er)) ∧ RdQ Q w' rb (rtxZ zs er) (rtxE zs er) ∧ w.grownBy w' (some rb) := by
  have HE := err_any rb zs er w h
  unfold rtxS rtxE rtxZ
  by_cases he : er = 0
  · subst he
    obtain ⟨a, cap, c0, hv, hm, hc⟩ := h.view
    by_cases hg : (zs.length : Int) < 1 + zs.getD 0 0 ∨ zs.length < 1
    · have e1 : txE zs = 3 := by unfold txE; rw [if_pos hg]
      have e2 : txS zs = ByteArray.empty := by unfold txS; rw [if_pos hg]
      rw [if_pos rfl, if_pos rfl, e1, e2, if_neg (fun c => by cases c.2)]
      have HG := text1_cut a cap zs w hv hm hg
      have HT := take_err rb zs 0 1 3 w h (by decide)
      clear hg h hv e1 e2
      go_enter Tryd.func72, Tryd.ntmps72
      go_wp2_with (first | (go_at_call 64; refine HE.mono ?_; rintro e w' ⟨rfl, hw⟩; obtain rfl := hw.symm; clear HE) | (go_at_call 76; refine HG.mono ?_; rintro e w' ⟨rfl, hw⟩; obtain rfl := hw.symm; clear HG) | (go_at_call 74; refine HT.mono ?_; rintro e w' ⟨rfl, hs, hgr⟩))
      go_ret
      exact ⟨rfl, hs, hgr⟩
    · have e1 : txE zs = 0 := by unfold txE; rw [if_neg hg]
      have e2 : txS zs = strOfNums (txL zs) := by unfold txS; rw [if_neg hg]
      rw [if_pos rfl, if_pos rfl, e1, e2, if_pos ⟨rfl, rfl⟩]
      have HG := text1_ok a cap zs w hv hm hc hg
      obtain ⟨z0, z1⟩ := hv.1.getD 0
      have es : (strOfNums (txL zs)).size = (zs.getD 0 0).toNat := by rw [strOfNums_size]; unfold txL; simp only [List.length_take, List.length_drop]; omega
      rw [← es]
      have HT := take_ok rb zs 0 (1 + (strOfNums (txL zs)).size) w h (by rw [es]; omega)
      generalize strOfNums (txL zs) = s at *
      have hsz : s.size ≤ 255 := by omega
      have e3 : ((1 + s.size : Nat) : Int) = 1 + (s.size : Int) := by omega
      rw [e3] at HT
      clear e3
      clear hg h hv e1 e2 es z0 z1
      go_enter Tryd.func72, Tryd.ntmps72
      go_wp2_with (first | (go_at_call 64; refine HE.mono ?_; rintro e w' ⟨rfl, hw⟩; obtain rfl := hw.symm; clear HE) | (go_at_call 76; refine HG.mono ?_; rintro e w' ⟨rfl, hw⟩; obtain rfl := hw.symm; clear HG) | (go_at_call 74; refine HT.mono ?_; rintro e w' ⟨rfl, hs, hgr⟩))
      go_ret
      exact ⟨rfl, hs, hgr⟩
  · rw [if_neg he, if_neg he, if_neg (fun c => he c.1)]
    have hb : (er == 0) = false := by simpa using he
    have H : Hid (RdQ Q w rb zs er) := h
    clear he h
    go_enter Tryd.func72, Tryd.ntmps72
    go_wp2_with (go_at_call 64; refine HE.mono ?_; rintro e w' ⟨rfl, hw⟩; obtain rfl := hw.symm; clear HE)
    go_ret
    exact ⟨rfl, H.out, ⟨rfl, rfl, rfl, Nat.le_refl _, fun _ _ _ => rfl⟩⟩
end Go.Proofs.YtpmhilaochfpaaaDoor.Rq
