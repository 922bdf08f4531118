/- The reader. -/
import Derived.Test.YtophkfbdhejmcaaPuts
import Derived.Test.YtophkfbdhejmcaaOpen
import Derived.Laws.BytesArg
namespace Go.Proofs.Ytophkfbdhejmcaa
set_option maxRecDepth 20000
open Go.RowKit
set_option linter.unusedVariables false
/-- The two cells of a reader in block rb. -/
structure Rd (w : World) (rb : Nat) (a : Option Addr) (len cap : Nat) (e : Int) : Prop where
  c0 : w.cell? ⟨rb, 0, none⟩ = some (.slice a len cap)
  c1 : w.cell? ⟨rb, 1, none⟩ = some (.int .i64 e)
  f0 : w.frozen? ⟨rb, 0, none⟩ = false
  f1 : w.frozen? ⟨rb, 1, none⟩ = false
/-- A reader in block rb has the bytes zs left, and the error e; its bytes lie elsewhere. -/
def RdS (w : World) (rb : Nat) (zs : List Int) (e : Int) : Prop :=
  ∃ a cap, Rd w rb a zs.length cap e ∧ zs.length ≤ cap ∧ cap ≤ maxLen ∧ AllB zs ∧ (zs = [] ∨ ∃ b off, a = some ⟨b, off, none⟩ ∧ b ≠ rb ∧ b < w.heap.size ∧ ∀ i, i < zs.length → w.cell? ⟨b, off + i, none⟩ = some (.int .u8 (zs.getD i 0)))
theorem Rd.set0 {w : World} {rb : Nat} {a a' : Option Addr} {len cap len' cap' : Nat} {e : Int} (h : Rd w rb a len cap e) : Rd (w.setCell ⟨rb, 0, none⟩ (.slice a' len' cap')) rb a' len' cap' e := by
  obtain ⟨c0, c1, f0, f1⟩ := h
  refine ⟨?_, ?_, ?_, ?_⟩ <;> go_simp
theorem Rd.set1 {w : World} {rb : Nat} {a : Option Addr} {len cap : Nat} {e e' : Int} (h : Rd w rb a len cap e) : Rd (w.setCell ⟨rb, 1, none⟩ (.int .i64 e')) rb a len cap e' := by
  obtain ⟨c0, c1, f0, f1⟩ := h
  refine ⟨?_, ?_, ?_, ?_⟩ <;> go_simp
theorem grown_set (w : World) (b i : Nat) (v : Value) : w.grownBy (w.setCell ⟨b, i, none⟩ v) (some b) :=
  ⟨rfl, rfl, rfl, by simp [World.setCell], fun k _ hk => Below.heap_setCell _ _ _ _ (fun e => hk (by rw [e]))⟩
theorem cell_set_other (w : World) (b i c j : Nat) (v : Value) (h : c ≠ b) : (w.setCell ⟨b, i, none⟩ v).cell? ⟨c, j, none⟩ = w.cell? ⟨c, j, none⟩ :=
  World.cell?_of_block (w := w) (Below.heap_setCell _ _ _ _ h)
theorem RdS.err {w : World} {rb : Nat} {zs : List Int} {e e' : Int} (h : RdS w rb zs e) : RdS (w.setCell ⟨rb, 1, none⟩ (.int .i64 e')) rb zs e' := by
  obtain ⟨a, cap, hr, hc, hm, hz, hb⟩ := h
  refine ⟨a, cap, hr.set1, hc, hm, hz, ?_⟩
  rcases hb with hb | ⟨b, off, rfl, hne, hlt, hcell⟩
  · exact .inl hb
  · exact .inr ⟨b, off, rfl, hne, by simpa [World.setCell] using hlt, fun i hi => (cell_set_other _ _ _ _ _ _ hne).trans (hcell i hi)⟩
set_option maxHeartbeats 400000 in
theorem err_any (rb : Nat) (zs : List Int) (x : Int) (w : World) (h : RdS w rb zs x) :
    Calls Try.prog 57 #[.pointer (some ⟨rb, 0, none⟩)] w fun e w' => e = .returned (.int .i64 x) ∧ w' = w := by
  obtain ⟨a, cap, ⟨c0, c1, f0, f1⟩, _⟩ := h
  go_enter Try.func57, Try.ntmps57
  go_wp2
  go_ret
  exact ⟨rfl, rfl⟩
set_option maxHeartbeats 400000 in
theorem take_err (rb : Nat) (zs : List Int) (x n er : Int) (w : World) (h : RdS w rb zs x) (he : er ≠ 0) :
    Calls Try.prog 59 #[.pointer (some ⟨rb, 0, none⟩), .int .i64 n, .int .i64 er] w fun e w' => e = .returned (.tuple #[]) ∧ RdS w' rb zs er ∧ w.grownBy w' (some rb) := by
  have HE := h.err (e' := er)
  obtain ⟨a, cap, ⟨c0, c1, f0, f1⟩, _⟩ := h
  have he' : (er == 0) = false := by simpa using he
  have H : Hid (RdS (w.setCell ⟨rb, 1, none⟩ (.int .i64 er)) rb zs er) := HE
  clear HE
  go_enter Try.func59, Try.ntmps59
  go_wp2
  exact bodyPost_ret (v := .tuple #[]) (results_none rfl _ _ _) rfl ⟨rfl, H.out, grown_set _ _ _ _⟩
set_option maxHeartbeats 400000 in
theorem take_ok (rb : Nat) (zs : List Int) (x : Int) (n : Nat) (w : World) (h : RdS w rb zs x) (hn : n ≤ zs.length) :
    Calls Try.prog 59 #[.pointer (some ⟨rb, 0, none⟩), .int .i64 n, .int .i64 0] w fun e w' => e = .returned (.tuple #[]) ∧ RdS w' rb (zs.drop n) x ∧ w.grownBy w' (some rb) := by
  have h' := h
  obtain ⟨a, cap, hr, hc, hm, hz, hb⟩ := h
  obtain ⟨c0, c1, f0, f1⟩ := hr
  have HX : ∀ a' l' c', l' = zs.length - n → c' = cap - n → (zs.drop n = [] ∨ ∃ b off, a' = some ⟨b, off, none⟩ ∧ b ≠ rb ∧ b < w.heap.size ∧ ∀ i, i < (zs.drop n).length → w.cell? ⟨b, off + i, none⟩ = some (.int .u8 ((zs.drop n).getD i 0))) → RdS (w.setCell ⟨rb, 0, none⟩ (.slice a' l' c')) rb (zs.drop n) x := by
    rintro a' l' c' rfl rfl ha
    have hl : (zs.drop n).length = zs.length - n := by simp
    refine ⟨a', cap - n, ?_, by omega, by omega, hz.drop n, ?_⟩
    · rw [hl]; exact Rd.set0 ⟨c0, c1, f0, f1⟩
    · rcases ha with hb | ⟨b, off, rfl, hne, hlt, hcell⟩
      · exact .inl hb
      · exact .inr ⟨b, off, rfl, hne, by simpa [World.setCell] using hlt, fun i hi => (cell_set_other _ _ _ _ _ _ hne).trans (hcell i hi)⟩
  have H : Hid (∀ a' l' c', l' = zs.length - n → c' = cap - n → (zs.drop n = [] ∨ ∃ b off, a' = some ⟨b, off, none⟩ ∧ b ≠ rb ∧ b < w.heap.size ∧ ∀ i, i < (zs.drop n).length → w.cell? ⟨b, off + i, none⟩ = some (.int .u8 ((zs.drop n).getD i 0))) → RdS (w.setCell ⟨rb, 0, none⟩ (.slice a' l' c')) rb (zs.drop n) x) := HX
  clear HX
  rcases hb with rfl | ⟨b, off, rfl, hne, hlt, hcell⟩
  · have hn0 : n = 0 := by simpa using hn
    subst hn0
    clear h'
    go_enter Try.func59, Try.ntmps59
    go_wp2
    go_end0
    exact ⟨rfl, H.out _ _ _ rfl rfl (.inl rfl), grown_set _ _ _ _⟩
  · have HC : Hid (∀ i, i < (zs.drop n).length → w.cell? ⟨b, (off + n) + i, none⟩ = some (.int .u8 ((zs.drop n).getD i 0))) := by
      intro i hi
      rw [getD_drop, Nat.add_assoc]
      exact hcell (n + i) (by simp at hi; omega)
    clear hcell h'
    by_cases hcn : cap = n
    · have hd : zs.drop n = [] := by simp; omega
      subst hcn
      go_enter Try.func59, Try.ntmps59
      go_wp2
      go_end0
      exact ⟨rfl, H.out _ _ _ (by omega) (by omega) (.inl hd), grown_set _ _ _ _⟩
    · go_enter Try.func59, Try.ntmps59
      go_wp2
      go_end0
      exact ⟨rfl, H.out _ _ _ rfl rfl (.inr ⟨b, off + n, rfl, hne, hlt, HC.out⟩), grown_set _ _ _ _⟩
def numV (zs : List Int) (e x : Int) : Int := if e = 0 then getV zs x else 0
def numE (zs : List Int) (e x : Int) : Int := if e = 0 then getE zs x else e
def numZ (zs : List Int) (e x : Int) : List Int := if e = 0 ∧ getE zs x = 0 then zs.drop x.toNat else zs
theorem getE_zero (zs : List Int) (x : Int) (h : getE zs x = 0) : 1 ≤ x ∧ x ≤ 6 ∧ x ≤ zs.length := by
  unfold getE at h
  split at h
  · cases h
  · split at h
    · cases h
    · omega
theorem getE_cut (zs : List Int) (x : Int) (h : getE zs x ≠ 0) : getV zs x = 0 := by
  unfold getE at h
  unfold getV
  split
  · rfl
  · split
    · rfl
    · rename_i a b; rw [if_neg a, if_neg b] at h; exact absurd rfl h
theorem RdS.view {w : World} {rb : Nat} {zs : List Int} {e : Int} (h : RdS w rb zs e) : ∃ a cap, w.cell? ⟨rb, 0, none⟩ = some (.slice a zs.length cap) ∧ BV w a zs ∧ zs.length ≤ 9223372036854775807 ∧ zs.length ≤ cap := by
  obtain ⟨a, cap, hr, hc, hm, hz, hb⟩ := h
  refine ⟨a, cap, hr.c0, ⟨hz, ?_⟩, by unfold maxLen at hm; omega, hc⟩
  rcases hb with hb | ⟨b, off, rfl, _, hlt, hcell⟩
  · exact .inl hb
  · exact .inr ⟨b, off, rfl, hlt, hcell⟩
set_option maxHeartbeats 400000 in
theorem num_any (rb : Nat) (zs : List Int) (er x : Int) (w : World) (h : RdS w rb zs er) :
    Calls Try.prog 53 #[.pointer (some ⟨rb, 0, none⟩), .int .i64 x] w fun e w' => e = .returned (.int .i64 (numV zs er x)) ∧ RdS w' rb (numZ zs er x) (numE zs er x) ∧ w.grownBy w' (some rb) := by
  have HE := err_any rb zs er w h
  unfold numV numE numZ
  by_cases he : er = 0
  · subst he
    obtain ⟨a, cap, c0, hv, hm, _⟩ := h.view
    have HG := get_any a zs.length cap zs x w hv rfl hm
    by_cases hg : getE zs x = 0
    · rw [if_pos rfl, if_pos rfl, if_pos ⟨rfl, hg⟩]
      obtain ⟨h1, h2, h3⟩ := getE_zero zs x hg
      obtain ⟨y, rfl⟩ := Int.eq_ofNat_of_zero_le (show 0 ≤ x by omega)
      have HT := take_ok rb zs 0 y w h (by omega)
      rw [Int.toNat_natCast, hg]
      rw [hg] at HG
      generalize getV zs y = v at *
      clear hg h hv
      go_enter Try.func53, Try.ntmps53
      go_wp2_with (first | (go_at_call 57; refine HE.mono ?_; rintro e w' ⟨rfl, hw⟩; obtain rfl := hw.symm; clear HE) | (go_at_call 58; refine HG.mono ?_; rintro e w' ⟨rfl, hw⟩; obtain rfl := hw.symm; clear HG) | (go_at_call 59; refine HT.mono ?_; rintro e w' ⟨rfl, hs, hgr⟩))
      go_ret
      exact ⟨rfl, hs, hgr⟩
    · rw [if_pos rfl, if_pos rfl, if_neg (fun c => hg c.2)]
      rw [getE_cut zs x hg] at HG ⊢
      have HT := take_err rb zs 0 x (getE zs x) w h hg
      generalize getE zs x = v at *
      have hb : (v == 0) = false := by simpa using hg
      clear hg h hv
      go_enter Try.func53, Try.ntmps53
      go_wp2_with (first | (go_at_call 57; refine HE.mono ?_; rintro e w' ⟨rfl, hw⟩; obtain rfl := hw.symm; clear HE) | (go_at_call 58; refine HG.mono ?_; rintro e w' ⟨rfl, hw⟩; obtain rfl := hw.symm; clear HG) | (go_at_call 59; refine HT.mono ?_; rintro e w' ⟨rfl, hs, hgr⟩))
      go_ret
      exact ⟨rfl, hs, hgr⟩
  · rw [if_neg he, if_neg he, if_neg (fun c => he c.1)]
    have hb : (er == 0) = false := by simpa using he
    have H : Hid (RdS w rb zs er) := h
    clear he h
    go_enter Try.func53, Try.ntmps53
    go_wp2_with (go_at_call 57; refine HE.mono ?_; rintro e w' ⟨rfl, hw⟩; obtain rfl := hw.symm; clear HE)
    go_ret
    exact ⟨rfl, H.out, ⟨rfl, rfl, rfl, Nat.le_refl _, fun _ _ _ => rfl⟩⟩
end Go.Proofs.Ytophkfbdhejmcaa
