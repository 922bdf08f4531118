/- What every right program lets be: true. -/
import Derived.Test.YtakibdkmgjpbhaaCd
namespace Go.Proofs.Ytakibdkmgjpbhaa
open Go.RowKit
set_option linter.unusedVariables false
set_option linter.unusedSimpArgs false
set_option maxRecDepth 20000

theorem one_row {n b : Nat} {W : World} {cs : List Value} (hb : b < W.heap.size) (h : ∀ j, j < n → W.cell? ⟨b, j, none⟩ = cs[j]?) : SlW n W (fun _ => True) (.slice (some ⟨b, 0, none⟩) 1 1) [cs] :=
  ⟨_, 1, rfl, Nat.le_refl _, by decide, .inr ⟨b, 0, rfl, hb, trivial, fun i j hi hj => by
    have hi0 : i = 0 := by simpa using hi
    subst hi0
    rw [Nat.zero_mul, Nat.zero_add, Nat.zero_add]; exact h j hj⟩⟩
def awC : List ClassD := [⟨[99], [[112]]⟩]
def awT (p : Int) : CondD := ⟨false, [99], [⟨[112], [], [⟨p, [120], v0⟩]⟩]⟩
/-- The law's own memory. -/
def AW (W : World) (a : Nat) (p : Int) : Prop := a + 4 < W.heap.size ∧ W.cell? ⟨a, 0, none⟩ = some (.string (st [112])) ∧ (W.cell? ⟨a + 1, 0, none⟩ = some (.string (st [99])) ∧ W.cell? ⟨a + 1, 1, none⟩ = some (.slice (some ⟨a, 0, none⟩) 1 1)) ∧
  (W.cell? ⟨a + 2, 0, none⟩ = some (.int .u8 p) ∧ W.cell? ⟨a + 2, 1, none⟩ = some (.string (st [120])) ∧ W.cell? ⟨a + 2, 2, none⟩ = some (.int .u8 0) ∧ W.cell? ⟨a + 2, 3, none⟩ = some (.int .i64 0) ∧ W.cell? ⟨a + 2, 4, none⟩ = some (.string (st []))) ∧
  (W.cell? ⟨a + 3, 0, none⟩ = some (.string (st [112])) ∧ W.cell? ⟨a + 3, 1, none⟩ = some (.slice none 0 0) ∧ W.cell? ⟨a + 3, 2, none⟩ = some (.slice (some ⟨a + 2, 0, none⟩) 1 1)) ∧
  (W.cell? ⟨a + 4, 0, none⟩ = some (.bool false) ∧ W.cell? ⟨a + 4, 1, none⟩ = some (.string (st [99])) ∧ W.cell? ⟨a + 4, 2, none⟩ = some (.slice (some ⟨a + 3, 0, none⟩) 1 1))
theorem AW.classes {W : World} {a : Nat} {p : Int} (h : AW W a p) : Row 2 (ReK fun _ _ => True) W (fun _ => True) (.slice (some ⟨a + 1, 0, none⟩) 1 1) awC := by
  obtain ⟨hs, h0, ⟨h1, h2⟩, -⟩ := h
  refine ⟨_, one_row (n := 2) (cs := [.string (st [99]), .slice (some ⟨a, 0, none⟩) 1 1]) (by omega) (fun j hj => ?_), ⟨_, rfl, one_row (n := 1) (cs := clS [112]) (by omega) fun j hj => ?_⟩, trivial⟩
  · match j, hj with
    | 0, _ => exact h1
    | 1, _ => exact h2
  · match j, hj with
    | 0, _ => exact h0
theorem AW.cond {W : World} {a : Nat} {p : Int} (h : AW W a p) : ReC (fun _ _ => True) W [.bool false, .string (st [99]), .slice (some ⟨a + 3, 0, none⟩) 1 1] (awT p) := by
  obtain ⟨hs, h0, -, ⟨t0, t1, t2, t3, t4⟩, ⟨s0, s1, s2⟩, -⟩ := h
  refine ⟨_, rfl, _, one_row (n := 3) (cs := [.string (st [112]), .slice none 0 0, .slice (some ⟨a + 2, 0, none⟩) 1 1]) (by omega) (fun j hj => ?_), ⟨_, _, rfl, ⟨none, 0, rfl, Nat.le_refl _, by decide, .inl rfl⟩, one_row (n := 5) (cs := clT ⟨p, [120], v0⟩) (by omega) fun j hj => ?_⟩, trivial⟩
  · match j, hj with
    | 0, _ => exact s0
    | 1, _ => exact s1
    | 2, _ => exact s2
  · match j, hj with
    | 0, _ => exact t0
    | 1, _ => exact t1
    | 2, _ => exact t2
    | 3, _ => exact t3
    | 4, _ => exact t4
theorem aw_ok : condR awC [] (awT 0) = .ok [[120]] := by rfl
theorem aw_no : condR awC [] (awT 4) = .error 20 := by rfl
theorem aw_pr : progE ⟨awC, []⟩ = 0 := by rfl
theorem aw_ru : ruleE awC ⟨[], [], []⟩ = 9 := by rfl
theorem awT_L (p : Int) : condL (awT p) := by
  refine ⟨by show 1 ≤ 60; decide, by show 1 ≤ 10; decide, fun y hy => ?_⟩
  obtain rfl := List.mem_singleton.1 hy
  refine ⟨by show 1 ≤ 60; decide, by show 0 ≤ 12; decide, by show 1 ≤ 12; decide, by simp, fun t ht => ?_⟩
  obtain rfl := List.mem_singleton.1 ht
  exact ⟨by show 1 ≤ 60; decide, by show 0 ≤ 60; decide⟩
theorem awC_L : ∀ c ∈ awC, classL c := by
  intro c hc
  obtain rfl := List.mem_singleton.1 hc
  exact ⟨by decide, by decide, by simp⟩
theorem AW.below {W W' : World} {a : Nat} {p : Int} (h : AW W a p) (hb : Below (a + 5) W W') : AW W' a p := by
  obtain ⟨hs, h0, ⟨h1, h2⟩, ⟨t0, t1, t2, t3, t4⟩, ⟨s0, s1, s2⟩, ⟨q0, q1, q2⟩⟩ := h
  have k : ∀ b o, b < a + 5 → W'.cell? ⟨b, o, none⟩ = W.cell? ⟨b, o, none⟩ := fun b o h => hb.cell (p := ⟨b, o, none⟩) h
  refine ⟨Nat.lt_of_lt_of_le hs hb.size, ?_, ⟨?_, ?_⟩, ⟨?_, ?_, ?_, ?_, ?_⟩, ⟨?_, ?_, ?_⟩, ⟨?_, ?_, ?_⟩⟩ <;> (rw [k _ _ (by omega)]; assumption)
theorem AW.set {W : World} {a : Nat} {p : Int} (h : AW W a p) (hf : W.frozen? ⟨a + 2, 0, none⟩ = false) : AW (W.setCell ⟨a + 2, 0, none⟩ (.int .u8 4)) a 4 := by
  obtain ⟨hs, h0, ⟨h1, h2⟩, ⟨t0, t1, t2, t3, t4⟩, ⟨s0, s1, s2⟩, ⟨q0, q1, q2⟩⟩ := h
  refine ⟨by simpa [World.setCell] using hs, ?_, ⟨?_, ?_⟩, ⟨?_, ?_, ?_, ?_, ?_⟩, ⟨?_, ?_, ?_⟩, ⟨?_, ?_, ?_⟩⟩ <;> go_simp
theorem aw_c20 {W : World} {a : Nat} {p : Int} (h : AW W a p) : Calls Try.prog 20 #[.slice (some ⟨a + 1, 0, none⟩) 1 1, .agg #[.bool false, .string ⟨#[99]⟩, .slice (some ⟨a + 3, 0, none⟩) 1 1], .slice none 0 0] W (CP W [] (condR awC [] (awT p))) :=
  condX_any (P := fun _ _ => True) (Q := fun _ => True) (R := fun _ => True) _ awC _ (awT p) _ [] W h.classes (by decide) awC_L h.cond (awT_L p) ⟨none, 0, rfl, Nat.le_refl _, by decide, .inl rfl⟩ (by decide) (by simp)
theorem aw_c12 {W : World} {a : Nat} {p : Int} (h : AW W a p) : Calls Try.prog 12 #[.agg #[.slice (some ⟨a + 1, 0, none⟩) 1 1, .slice none 0 0]] W fun e w' => e = .returned (.int .i64 0) ∧ Below W.heap.size W w' := by
  have := program_any (P := fun _ _ => True) [.slice (some ⟨a + 1, 0, none⟩) 1 1, .slice none 0 0] ⟨awC, []⟩ W ⟨_, _, rfl, h.classes, [], ⟨none, 0, rfl, Nat.le_refl _, by decide, .inl rfl⟩, trivial⟩ ⟨by show 1 ≤ 20; decide, by show 0 ≤ 6; decide, awC_L, by simp⟩ (by simp)
  rw [aw_pr] at this; exact this
theorem aw_c10 {W : World} {a : Nat} {p : Int} (h : AW W a p) : Calls Try.prog 10 #[.slice (some ⟨a + 1, 0, none⟩) 1 1, .agg #[.string ⟨#[]⟩, .slice none 0 0, .slice none 0 0]] W fun e w' => e = .returned (.int .i64 9) ∧ Below W.heap.size W w' := by
  have := ruleX_any (P := fun _ _ => True) (Q := fun _ => True) (.slice (some ⟨a + 1, 0, none⟩) 1 1) awC [.string (st []), .slice none 0 0, .slice none 0 0] ⟨[], [], []⟩ W h.classes (by decide) awC_L ⟨_, _, rfl, ⟨[], ⟨none, 0, rfl, Nat.le_refl _, by decide, .inl rfl⟩, trivial⟩, ⟨[], ⟨none, 0, rfl, Nat.le_refl _, by decide, .inl rfl⟩, trivial⟩⟩ ⟨by show 0 ≤ 60; decide, by show 0 ≤ 8; decide, by show 0 ≤ 12; decide, by simp, by simp⟩ (by simp)
  rw [aw_ru] at this; exact this
theorem aw_row {W : World} {B : Nat} {v : Value} (h : OwnS W B v [[120]]) : ∃ g c, v = .slice (some ⟨g, 0, none⟩) 1 c ∧ B ≤ g ∧ g < W.heap.size ∧ W.cell? ⟨g, 0, none⟩ = some (.string ⟨#[120]⟩) ∧ 1 ≤ c ∧ c ≤ 9223372036854775807 := by
  obtain ⟨a, cap, rfl, h1, h2, h3⟩ := h.cells
  obtain ⟨b, off, rfl, hb, hB, _, hc⟩ := h3 0 (by decide)
  rcases h.2 with ⟨e, _⟩ | ⟨g, cap', cur, e, hg, hcc, _⟩
  · cases e
  · obtain ⟨e1, -, -⟩ := Value.slice.inj e
    obtain ⟨rfl, rfl, -⟩ := Addr.mk.inj (Option.some.inj e1)
    exact ⟨b, cap, rfl, hB, hb, hc, h1, h2⟩
set_option maxHeartbeats 8000000 in
theorem awake_any (w : World) : Calls Try.prog 9 #[] w fun e w' => e = .returned (.bool true) ∧ Below w.heap.size w w' := by
  have tk1 : Hid True := trivial
  have tk2 : Hid True := trivial
  obtain ⟨W0, hW0⟩ : ∃ W0, W0 = (((((w.alloc (.cells #[.string ⟨#[112]⟩] 9)).alloc (.cells #[.string ⟨#[99]⟩, .slice (some ⟨w.heap.size, 0, none⟩) 1 1] 41)).alloc (.cells #[.int .u8 0, .string ⟨#[120]⟩, .int .u8 0, .int .i64 0, .string ⟨#[]⟩] 66)).alloc (.cells #[.string ⟨#[112]⟩, .slice none 0 0, .slice (some ⟨w.heap.size + 2, 0, none⟩) 1 1] 62)).alloc (.cells #[.bool false, .string ⟨#[99]⟩, .slice (some ⟨w.heap.size + 3, 0, none⟩) 1 1] 50)) := ⟨_, rfl⟩
  have H0 : Hid (AW W0 w.heap.size 0) := by
    subst hW0
    refine ⟨by simp, ?_, ⟨?_, ?_⟩, ⟨?_, ?_, ?_, ?_, ?_⟩, ⟨?_, ?_, ?_⟩, ⟨?_, ?_, ?_⟩⟩ <;> (go_simp; try rfl)
  have B0 : Hid (Below w.heap.size w W0) := by subst hW0; exact bt (bt (bt (bt (bxn _ _) (bxn _ _)) (bxn _ _)) (bxn _ _)) (bxn _ _)
  have F0 : Hid (W0.frozen? ⟨w.heap.size + 2, 0, none⟩ = false) := by subst hW0; show _ = _; go_simp
  have S0 : Hid (W0.heap.size = w.heap.size + 5) := by subst hW0; show _ = _; simp
  have C1 : Hid (Calls Try.prog 20 #[.slice (some ⟨w.heap.size + 1, 0, none⟩) 1 1, .agg #[.bool false, .string ⟨#[99]⟩, .slice (some ⟨w.heap.size + 3, 0, none⟩) 1 1], .slice none 0 0] W0 (CP W0 [] (.ok [[120]]))) := by
    rw [← aw_ok]; exact aw_c20 H0.out
  have C2 : Hid (∀ W, AW W w.heap.size 4 → Calls Try.prog 20 #[.slice (some ⟨w.heap.size + 1, 0, none⟩) 1 1, .agg #[.bool false, .string ⟨#[99]⟩, .slice (some ⟨w.heap.size + 3, 0, none⟩) 1 1], .slice none 0 0] W (CP W [] (.error 20))) := fun W hW => by
    rw [← aw_no]; exact aw_c20 hW
  rw [hW0] at C1
  go_enter Try.func9, Try.ntmps9
  go_wp2_with (first
    | (go_at_call 20; have tku := tk1; clear tku tk1; go_loud (refine C1.out.mono ?_; clear C1; rintro e w1 ⟨hb1, v, rfl, ho⟩; rw [← hW0] at hb1 ho)
       obtain ⟨g, yb, rfl, hg1, hg2, hgc, hc1, hc2⟩ := aw_row ho
       have B1 : Hid (Below w.heap.size w w1) := bt B0.out hb1
       have A1 : Hid (AW w1 w.heap.size 0) := H0.out.below (by have := S0.out; rw [← this]; exact hb1)
       have HG : Hid (w.heap.size + 5 ≤ g) := (by have := S0.out; show _ ≤ _; omega)
       have hfz : w1.frozen? ⟨w.heap.size + 1 + 1, 0, none⟩ = false := (hb1.frozen (p := ⟨w.heap.size + 2, 0, none⟩) (by have := S0.out; show w.heap.size + 2 < _; omega)).trans F0.out
       have S1 : Hid (w.heap.size + 5 ≤ w1.heap.size) := (by have := S0.out; have := hb1.size; show _ ≤ _; omega)
       have HGC : Hid (w1.cell? ⟨g, 0, none⟩ = some (.string ⟨#[120]⟩)) := hgc
       have k1 : w1.cell? ⟨w.heap.size + 1 + 1 + 1 + 1, 2, none⟩ = some (.slice (some ⟨w.heap.size + 1 + 1 + 1, 0, none⟩) 1 1) := A1.out.2.2.2.2.2.2.2
       have k2 : w1.cell? ⟨w.heap.size + 1 + 1 + 1, 2, none⟩ = some (.slice (some ⟨w.heap.size + 1 + 1, 0, none⟩) 1 1) := A1.out.2.2.2.2.1.2.2
       have k3 : w1.cell? ⟨w.heap.size + 1 + 1, 0, none⟩ = some (.int .u8 0) := A1.out.2.2.2.1.1
       have k4 : w1.cell? ⟨w.heap.size + 1 + 1 + 1 + 1, 0, none⟩ = some (.bool false) := A1.out.2.2.2.2.2.1
       have k5 : w1.cell? ⟨w.heap.size + 1 + 1 + 1 + 1, 1, none⟩ = some (.string ⟨#[99]⟩) := A1.out.2.2.2.2.2.2.1
       clear hb1 ho hg1 hgc)
    | (go_at_call 20; have tku := tk2; clear tku tk2; refine (C2.out _ (A1.out.set hfz)).mono ?_; clear C2; rintro e w2 ⟨hb2, rfl⟩
       have hsz2 : (w1.setCell ⟨w.heap.size + 2, 0, none⟩ (.int .u8 4)).heap.size = w1.heap.size := by simp [World.setCell]
       have B2 : Hid (Below w.heap.size w w2) := (B1.out.setCell (p := ⟨w.heap.size + 2, 0, none⟩) (by show w.heap.size ≤ w.heap.size + 2; omega) _).trans (hb2.mono (by rw [hsz2]; have := S1.out; omega))
       have A2 : Hid (AW w2 w.heap.size 4) := (A1.out.set hfz).below (hb2.mono (by rw [hsz2]; exact S1.out))
       have kg : w2.cell? ⟨g, 0, none⟩ = some (.string ⟨#[120]⟩) := (hb2.cell (p := ⟨g, 0, none⟩) (by rw [hsz2]; exact hg2)).trans ((World.cell?_of_block (a := ⟨g, 0, none⟩) (Below.heap_setCell w1 ⟨w.heap.size + 2, 0, none⟩ _ g (by have := HG.out; show g ≠ w.heap.size + 2; omega))).trans HGC.out)
       have C3 := aw_c12 A2.out
       clear hb2 hsz2)
    | (go_at_call 12; refine C3.mono ?_; rintro e w3 ⟨rfl, hb3⟩; have B3 : Hid (Below w.heap.size w w3) := bt B2.out hb3; have A3 : Hid (AW w3 w.heap.size 4) := A2.out.below (hb3.mono A2.out.1); have C4 := aw_c10 A3.out; clear C3 hb3)
    | (go_at_call 10; refine C4.mono ?_; rintro e w4 ⟨rfl, hb4⟩; have B4 : Hid (Below w.heap.size w w4) := bt B3.out hb4; clear C4 hb4))
  go_ret
  exact ⟨rfl, B4.out⟩
end Go.Proofs.Ytakibdkmgjpbhaa
