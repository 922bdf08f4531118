/- num.Reader's methods at any state of a reader: contracts of single calls. -/
import Derived.Test.YtpmhilaochfpaaaDoorTexts
import Derived.Laws.BytesArg
namespace Go.Proofs.YtpmhilaochfpaaaDoor
set_option maxRecDepth 20000
set_option maxRecDepth 20000
open Go.RowKit
/-- The two cells of a reader in block rb. -/
structure Rd (w : World) (rb : Nat) (a : Option Addr) (len cap : Nat) (e : Int) : Prop where
  c0 : w.cell? ⟨rb, 0, none⟩ = some (.slice a len cap)
  c1 : w.cell? ⟨rb, 1, none⟩ = some (.int .i64 e)
  f0 : w.frozen? ⟨rb, 0, none⟩ = false
  f1 : w.frozen? ⟨rb, 1, none⟩ = false
/-- A reader in block rb has the bytes zs left, and the error e; its bytes lie elsewhere. -/
def RdS (w : World) (rb : Nat) (zs : List Int) (e : Int) : Prop :=
  ∃ a cap, Rd w rb a zs.length cap e ∧ zs.length ≤ cap ∧ cap ≤ maxLen ∧ AllB zs ∧ (zs = [] ∨ ∃ b off, a = some ⟨b, off, none⟩ ∧ b ≠ rb ∧ b < w.heap.size ∧ ∀ i, i < zs.length → w.cell? ⟨b, off + i, none⟩ = some (.int .u8 (zs.getD i 0)))

theorem Rd.set0 {w : World} {rb : Nat} {a a' : Option Addr} {len cap len' cap' : Nat} {e : Int} (h : Rd w rb a len cap e) : Rd (w.setCell ⟨rb, 0, none⟩ (.slice a' len' cap')) rb a' len' cap' e := by
  obtain ⟨c0, c1, f0, f1⟩ := h
  refine ⟨?_, ?_, ?_, ?_⟩ <;> go_simp
theorem Rd.set1 {w : World} {rb : Nat} {a : Option Addr} {len cap : Nat} {e e' : Int} (h : Rd w rb a len cap e) : Rd (w.setCell ⟨rb, 1, none⟩ (.int .i64 e')) rb a len cap e' := by
  obtain ⟨c0, c1, f0, f1⟩ := h
  refine ⟨?_, ?_, ?_, ?_⟩ <;> go_simp
theorem grown_set (w : World) (b i : Nat) (v : Value) : w.grownBy (w.setCell ⟨b, i, none⟩ v) (some b) :=
  ⟨rfl, rfl, rfl, by simp [World.setCell], fun k _ hk => Below.heap_setCell _ _ _ _ (fun e => hk (by rw [e]))⟩
theorem cell_set_other (w : World) (b i c j : Nat) (v : Value) (h : c ≠ b) : (w.setCell ⟨b, i, none⟩ v).cell? ⟨c, j, none⟩ = w.cell? ⟨c, j, none⟩ :=
  World.cell?_of_block (w := w) (Below.heap_setCell _ _ _ _ h)

theorem RdS.err {w : World} {rb : Nat} {zs : List Int} {e e' : Int} (h : RdS w rb zs e) : RdS (w.setCell ⟨rb, 1, none⟩ (.int .i64 e')) rb zs e' := by
  obtain ⟨a, cap, hr, hc, hm, hz, hb⟩ := h
  refine ⟨a, cap, hr.set1, hc, hm, hz, ?_⟩
  rcases hb with hb | ⟨b, off, rfl, hne, hlt, hcell⟩
  · exact .inl hb
  · exact .inr ⟨b, off, rfl, hne, by simpa [World.setCell] using hlt, fun i hi => (cell_set_other _ _ _ _ _ _ hne).trans (hcell i hi)⟩
theorem getD_drop (zs : List Int) (n i : Nat) : (zs.drop n).getD i 0 = zs.getD (n + i) 0 := by
  rw [List.getD_eq_getElem?_getD, List.getD_eq_getElem?_getD, List.getElem?_drop]

set_option maxHeartbeats 400000 in
theorem err_any (rb : Nat) (zs : List Int) (x : Int) (w : World) (h : RdS w rb zs x) :
    Calls Tryd.prog 64 #[.pointer (some ⟨rb, 0, none⟩)] w fun e w' => e = .returned (.int .i64 x) ∧ w' = w := by
  obtain ⟨a, cap, ⟨c0, c1, f0, f1⟩, _⟩ := h
  go_enter Tryd.func64, Tryd.ntmps64
  go_wp2
  go_ret
  exact ⟨rfl, rfl⟩
set_option maxHeartbeats 400000 in
theorem left_any (rb : Nat) (zs : List Int) (x : Int) (w : World) (h : RdS w rb zs x) :
    Calls Tryd.prog 65 #[.pointer (some ⟨rb, 0, none⟩)] w fun e w' => e = .returned (.int .i64 zs.length) ∧ w' = w := by
  obtain ⟨a, cap, ⟨c0, c1, f0, f1⟩, _⟩ := h
  go_enter Tryd.func65, Tryd.ntmps65
  go_wp2
  go_ret
  exact ⟨rfl, rfl⟩
set_option maxHeartbeats 400000 in
theorem take_err (rb : Nat) (zs : List Int) (x n er : Int) (w : World) (h : RdS w rb zs x) (he : er ≠ 0) :
    Calls Tryd.prog 74 #[.pointer (some ⟨rb, 0, none⟩), .int .i64 n, .int .i64 er] w fun e w' => e = .returned (.tuple #[]) ∧ RdS w' rb zs er ∧ w.grownBy w' (some rb) := by
  have HE := h.err (e' := er)
  obtain ⟨a, cap, ⟨c0, c1, f0, f1⟩, _⟩ := h
  have he' : (er == 0) = false := by simpa using he
  have H : Hid (RdS (w.setCell ⟨rb, 1, none⟩ (.int .i64 er)) rb zs er) := HE
  clear HE
  go_enter Tryd.func74, Tryd.ntmps74
  go_wp2
  exact bodyPost_ret (v := .tuple #[]) (results_none rfl _ _ _) rfl ⟨rfl, H.out, grown_set _ _ _ _⟩
set_option maxHeartbeats 400000 in
theorem take_ok (rb : Nat) (zs : List Int) (x : Int) (n : Nat) (w : World) (h : RdS w rb zs x) (hn : n ≤ zs.length) :
    Calls Tryd.prog 74 #[.pointer (some ⟨rb, 0, none⟩), .int .i64 n, .int .i64 0] w fun e w' => e = .returned (.tuple #[]) ∧ RdS w' rb (zs.drop n) x ∧ w.grownBy w' (some rb) := by
  have h' := h
  obtain ⟨a, cap, hr, hc, hm, hz, hb⟩ := h
  obtain ⟨c0, c1, f0, f1⟩ := hr
  have HX : ∀ a' l' c', l' = zs.length - n → c' = cap - n → (zs.drop n = [] ∨ ∃ b off, a' = some ⟨b, off, none⟩ ∧ b ≠ rb ∧ b < w.heap.size ∧ ∀ i, i < (zs.drop n).length → w.cell? ⟨b, off + i, none⟩ = some (.int .u8 ((zs.drop n).getD i 0))) → RdS (w.setCell ⟨rb, 0, none⟩ (.slice a' l' c')) rb (zs.drop n) x := by
    rintro a' l' c' rfl rfl ha
    have hl : (zs.drop n).length = zs.length - n := by simp
    refine ⟨a', cap - n, ?_, by omega, by omega, hz.drop n, ?_⟩
    · rw [hl]; exact Rd.set0 ⟨c0, c1, f0, f1⟩
    · rcases ha with hb | ⟨b, off, rfl, hne, hlt, hcell⟩
      · exact .inl hb
      · exact .inr ⟨b, off, rfl, hne, by simpa [World.setCell] using hlt, fun i hi => (cell_set_other _ _ _ _ _ _ hne).trans (hcell i hi)⟩
  have H : Hid (∀ a' l' c', l' = zs.length - n → c' = cap - n → (zs.drop n = [] ∨ ∃ b off, a' = some ⟨b, off, none⟩ ∧ b ≠ rb ∧ b < w.heap.size ∧ ∀ i, i < (zs.drop n).length → w.cell? ⟨b, off + i, none⟩ = some (.int .u8 ((zs.drop n).getD i 0))) → RdS (w.setCell ⟨rb, 0, none⟩ (.slice a' l' c')) rb (zs.drop n) x) := HX
  clear HX
  rcases hb with rfl | ⟨b, off, rfl, hne, hlt, hcell⟩
  · have hn0 : n = 0 := by simpa using hn
    subst hn0
    clear h'
    go_enter Tryd.func74, Tryd.ntmps74
    go_wp2
    go_end0
    exact ⟨rfl, H.out _ _ _ rfl rfl (.inl rfl), grown_set _ _ _ _⟩
  · have HC : Hid (∀ i, i < (zs.drop n).length → w.cell? ⟨b, (off + n) + i, none⟩ = some (.int .u8 ((zs.drop n).getD i 0))) := by
      intro i hi
      rw [getD_drop, Nat.add_assoc]
      exact hcell (n + i) (by simp at hi; omega)
    clear hcell h'
    by_cases hcn : cap = n
    · have hd : zs.drop n = [] := by simp; omega
      subst hcn
      go_enter Tryd.func74, Tryd.ntmps74
      go_wp2
      go_end0
      exact ⟨rfl, H.out _ _ _ (by omega) (by omega) (.inl hd), grown_set _ _ _ _⟩
    · go_enter Tryd.func74, Tryd.ntmps74
      go_wp2
      go_end0
      exact ⟨rfl, H.out _ _ _ rfl rfl (.inr ⟨b, off + n, rfl, hne, hlt, HC.out⟩), grown_set _ _ _ _⟩
end Go.Proofs.YtpmhilaochfpaaaDoor
