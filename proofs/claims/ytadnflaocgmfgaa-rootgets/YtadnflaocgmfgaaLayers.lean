/- layers: the functions that lay a root. -/
import Derived.Test.YtadnflaocgmfgaaLays
import Derived.Deep.WholeRow
import Derived.Deep.RegionHeld3
namespace Go.Proofs.Ytadnflaocgmfgaa
open Go.RowKit
set_option linter.unusedVariables false
set_option linter.unusedSimpArgs false
theorem name_ops {P : Program} {id : Nat} {ops : Array Oper} {Q : Exit → Act → World → Prop} {a : Act} {w : World} (h : ∀ (O : Array Oper) (QQ : Exit → Act → World → Prop), Hid (O = ops) → Hid (QQ = Q) → (Code.region id O true).wp P QQ a w) : (Code.region id ops true).wp P Q a w := h _ _ rfl rfl
/-- What a function that lays numbers has captured. -/
def NFc (w : World) (ab wb : Nat) (x : Int) (zs : List Int) : Prop := ∃ a c, w.cell? ⟨ab, 0, none⟩ = some (.slice a zs.length c) ∧ w.cell? ⟨wb, 0, none⟩ = some (.int .i64 x) ∧ ab < w.heap.size ∧ wb < w.heap.size ∧ IV w a zs
theorem NFc.below {w w' : World} {ab wb : Nat} {x : Int} {zs : List Int} (h : NFc w ab wb x zs) (hb : Below w.heap.size w w') : NFc w' ab wb x zs := by
  obtain ⟨a, c, h1, h2, h3, h4, h5⟩ := h
  exact ⟨a, c, (hb.cell (p := ⟨ab, 0, none⟩) h3).trans h1, (hb.cell (p := ⟨wb, 0, none⟩) h4).trans h2, Nat.lt_of_lt_of_le h3 hb.size, Nat.lt_of_lt_of_le h4 hb.size, h5.below hb⟩
theorem nf_call {w : World} {ab wb : Nat} {x : Int} {zs : List Int} (av : Value) (h : NFc w ab wb x zs) (hn : zs.length ≤ 100) : Calls Try.prog 50 #[av, .pointer (some ⟨ab, 0, none⟩), .pointer (some ⟨wb, 0, none⟩)] w fun e w' => Laid w w' e (wides x zs) := by
  obtain ⟨a, c, h1, h2, h3, h4, h5⟩ := h
  refine (numbers1_any av a ab wb c x zs w h1 h2 hn h4 h5).mono ?_
  rintro e w' ⟨v, rfl, ho, hb⟩
  exact Laid.of ho (wides_all x zs) hb
theorem nf_new (x : Int) (a : Option Addr) (c : Nat) (zs : List Int) (w : World) (hz : IV w a zs) : Calls Try.prog 34 #[.int .i64 x, .slice a zs.length c] w fun e w' => ∃ ab wb, e = .returned (.func (.func 50) #[] #[.pointer (some ⟨ab, 0, none⟩), .pointer (some ⟨wb, 0, none⟩)]) ∧ Hid (NFc w' ab wb x zs) ∧ Below w.heap.size w w' := by
  refine (numbers_any x a zs.length c w).mono ?_
  rintro e w' ⟨ab, wb, rfl, h, hb⟩
  exact ⟨ab, wb, rfl, ⟨a, c, h.out.1, h.out.2.1, h.out.2.2.1, h.out.2.2.2, hz.below hb⟩, hb⟩
theorem iv_lit (w : World) (zs : List Int) : IV (w.alloc (.cells (zs.map (Value.int .i64)).toArray 3)) (some ⟨w.heap.size, 0, none⟩) zs := by
  refine .inr ⟨w.heap.size, 0, rfl, by simp, fun i hi => ?_⟩
  rw [Nat.zero_add, World.cell?_alloc_mark]
  simp [List.getD_eq_getElem?_getD, List.getElem?_eq_getElem hi]
/-- The box of a root. -/
def BX (W : World) (bx : Nat) (r : RD) (ta : Option Addr) (tc : Nat) (ma : Option Addr) (mc : Nat) : Prop :=
  bx < W.heap.size ∧ W.cell? ⟨bx, 1, none⟩ = some (.int .i64 r.B) ∧ W.cell? ⟨bx, 2, none⟩ = some (.int .i64 r.N) ∧ W.cell? ⟨bx, 3, none⟩ = some (.int .i64 r.S) ∧ W.cell? ⟨bx, 4, none⟩ = some (.slice ta r.T.length tc) ∧ W.cell? ⟨bx, 5, none⟩ = some (.slice ma r.M.length mc)
theorem BX.below {W W' : World} {bx : Nat} {r : RD} {ta ma : Option Addr} {tc mc : Nat} (h : BX W bx r ta tc ma mc) (hb : Below W.heap.size W W') : BX W' bx r ta tc ma mc := by
  obtain ⟨h0, h1, h2, h3, h4, h5⟩ := h
  exact ⟨Nat.lt_of_lt_of_le h0 hb.size, (hb.cell (p := ⟨bx, 1, none⟩) h0).trans h1, (hb.cell (p := ⟨bx, 2, none⟩) h0).trans h2, (hb.cell (p := ⟨bx, 3, none⟩) h0).trans h3, (hb.cell (p := ⟨bx, 4, none⟩) h0).trans h4, (hb.cell (p := ⟨bx, 5, none⟩) h0).trans h5⟩
def LS (w W : World) (bx : Nat) (r : RD) (ta : Option Addr) (tc : Nat) (ma : Option Addr) (mc : Nat) (l : List (Nat × Nat × Int × List Int)) : Prop := Below w.heap.size w W ∧ BX W bx r ta tc ma mc ∧ Rt W r ta tc ma mc ∧ ∀ q ∈ l, NFc W q.1 q.2.1 q.2.2.1 q.2.2.2
theorem LS.below {w W W' : World} {bx : Nat} {r : RD} {ta ma : Option Addr} {tc mc : Nat} {l : List (Nat × Nat × Int × List Int)} (h : LS w W bx r ta tc ma mc l) (hb : Below W.heap.size W W') : LS w W' bx r ta tc ma mc l :=
  ⟨h.1.trans (hb.mono h.1.size), h.2.1.below hb, h.2.2.1.below hb, fun q hq => (h.2.2.2 q hq).below hb⟩
theorem LS.add {w W : World} {bx : Nat} {r : RD} {ta ma : Option Addr} {tc mc : Nat} {l : List (Nat × Nat × Int × List Int)} {ab wb : Nat} {x : Int} {zs : List Int} (h : LS w W bx r ta tc ma mc l) (hn : NFc W ab wb x zs) : LS w W bx r ta tc ma mc ((ab, wb, x, zs) :: l) :=
  ⟨h.1, h.2.1, h.2.2.1, fun q hq => by
    rcases List.mem_cons.1 hq with rfl | hq
    · exact hn
    · exact h.2.2.2 q hq⟩
def LayersPost (w : World) (r : RD) (e : Ending) (w' : World) : Prop := ∃ g a1 b1 a2 b2 a3 b3 a4 b4 a5 b5, e = .returned (.slice (some ⟨g, 0, none⟩) 9 9) ∧ Hid (w'.heap[g]? = some (.cells #[.func (.func 35) #[] #[], .func (.func 50) #[] #[.pointer (some ⟨a1, 0, none⟩), .pointer (some ⟨b1, 0, none⟩)], .func (.func 50) #[] #[.pointer (some ⟨a2, 0, none⟩), .pointer (some ⟨b2, 0, none⟩)], .func (.func 50) #[] #[.pointer (some ⟨a3, 0, none⟩), .pointer (some ⟨b3, 0, none⟩)], .func (.func 50) #[] #[.pointer (some ⟨a4, 0, none⟩), .pointer (some ⟨b4, 0, none⟩)], .func (.func 50) #[] #[.pointer (some ⟨a5, 0, none⟩), .pointer (some ⟨b5, 0, none⟩)], .func (.func 36) #[] #[], .func (.func 37) #[] #[], .func (.func 50) #[] #[.pointer (some ⟨a1, 0, none⟩), .pointer (some ⟨b1, 0, none⟩)]] 50 (0, 0)) ∧
      NFc w' a1 b1 6 [r.E] ∧ NFc w' a2 b2 2 [r.B, r.N, r.S] ∧ NFc w' a3 b3 1 [(r.T.length : Int), (r.M.length : Int)] ∧ NFc w' a4 b4 2 r.T ∧ NFc w' a5 b5 2 r.M) ∧ Below w.heap.size w w'
theorem layers_end {w W : World} {bx g : Nat} {r : RD} {ta ma : Option Addr} {tc mc : Nat} {a1 b1 a2 b2 a3 b3 a4 b4 a5 b5 : Nat} (h : LS w W bx r ta tc ma mc [(a5, b5, 2, r.M), (a4, b4, 2, r.T), (a3, b3, 1, [(r.T.length : Int), (r.M.length : Int)]), (a2, b2, 2, [r.B, r.N, r.S]), (a1, b1, 6, [r.E])]) (hg : W.heap[g]? = some (.cells #[.func (.func 35) #[] #[], .func (.func 50) #[] #[.pointer (some ⟨a1, 0, none⟩), .pointer (some ⟨b1, 0, none⟩)], .func (.func 50) #[] #[.pointer (some ⟨a2, 0, none⟩), .pointer (some ⟨b2, 0, none⟩)], .func (.func 50) #[] #[.pointer (some ⟨a3, 0, none⟩), .pointer (some ⟨b3, 0, none⟩)], .func (.func 50) #[] #[.pointer (some ⟨a4, 0, none⟩), .pointer (some ⟨b4, 0, none⟩)], .func (.func 50) #[] #[.pointer (some ⟨a5, 0, none⟩), .pointer (some ⟨b5, 0, none⟩)], .func (.func 36) #[] #[], .func (.func 37) #[] #[], .func (.func 50) #[] #[.pointer (some ⟨a1, 0, none⟩), .pointer (some ⟨b1, 0, none⟩)]] 50 (0, 0))) : LayersPost w r (.returned (.slice (some ⟨g, 0, none⟩) 9 9)) W :=
  ⟨g, a1, b1, a2, b2, a3, b3, a4, b4, a5, b5, rfl, ⟨hg, h.2.2.2 (a1, b1, 6, [r.E]) (by simp), h.2.2.2 (a2, b2, 2, [r.B, r.N, r.S]) (by simp), h.2.2.2 (a3, b3, 1, [(r.T.length : Int), (r.M.length : Int)]) (by simp), h.2.2.2 (a4, b4, 2, r.T) (by simp), h.2.2.2 (a5, b5, 2, r.M) (by simp)⟩, h.1⟩
set_option maxHeartbeats 1600000 in
theorem layers_any (r : RD) (ta ma : Option Addr) (tc mc : Nat) (w : World) (hr : Rt w r ta tc ma mc) :
    Calls Try.prog 18 #[rootV r ta tc ma mc] w fun e w' => LayersPost w r e w' := by
  have hmf : ∀ (fn : Fn) (first cap : Array Value) (w : World), (Instr.makeFunc fn first cap).run Try.prog w = .ok (.func fn first cap) w := fun _ _ _ _ => rfl
  obtain ⟨W, hW⟩ : ∃ W, W = w.alloc (.cells #[.int .i64 r.E, .int .i64 r.B, .int .i64 r.N, .int .i64 r.S, .slice ta r.T.length tc, .slice ma r.M.length mc] 31) := ⟨_, rfl⟩
  have hB : Below w.heap.size w W := by rw [hW]; exact (Below.refl _ _).alloc (Nat.le_refl _) _
  have HX : Hid (LS w W w.heap.size r ta tc ma mc []) := ⟨hB, ⟨by rw [hW]; simp, by rw [hW]; go_simp, by rw [hW]; go_simp, by rw [hW]; go_simp, by rw [hW]; go_simp, by rw [hW]; go_simp⟩, hr.below hB, fun q hq => by cases hq⟩
  have hsz : W.heap.size = w.heap.size + 1 := by rw [hW]; simp
  unfold rootV
  generalize hbx : w.heap.size = bx at *
  go_enter Try.func18, Try.ntmps18
  go_wp2_with fail
  rw [← hW]
  rw [← hsz]
  have hal : Below W.heap.size W (W.alloc (.cells #[.int .i64 r.E] 3)) := (Below.refl _ _).alloc (Nat.le_refl _) _
  refine (nf_new 6 (some ⟨W.heap.size, 0, none⟩) 1 [r.E] _ (iv_lit W [r.E])).mono ?_
  rintro e w1 ⟨a1, b1, rfl, HN1, hb1⟩
  have X0 : Hid (LS w w1 bx r ta tc ma mc [(a1, b1, 6, [r.E])]) := ((HX.out.below hal).below hb1).add HN1.out
  clear hW hB HX hsz hal hr HN1 hb1
  go_wp2_with fail
  refine wp_region_noPanic ?_
  refine name_ops ?_
  intro O QQ HO HQ
  have X1 : Hid (LS w w1.drew bx r ta tc ma mc [(a1, b1, 6, [r.E])]) := X0.out.below (Below.refl _ _).drew
  refine wp_region_held_drew (S := fun W' => ∃ l, LS w W' bx r ta tc ma mc l) (by kernel_rfl) ⟨_, X1.out⟩ (fun hS => ?_)
  clear hS
  rw [show O.size = 26 by rw [HO.out]; rfl]
  refine wpAnyH_take (i := 0) (v := .func (.func 50) #[] #[.pointer (some ⟨a1, 0, none⟩), .pointer (some ⟨b1, 0, none⟩)]) (by rw [HO.out]; simp only [List.getElem?_toArray, List.getElem?_cons_succ, List.getElem?_cons_zero]; rfl) (by rw [HO.out]; kernel_rfl) (by rw [HO.out]; kernel_rfl) (by rw [HO.out]; kernel_rfl) (by rw [HQ.out]; exact fun _ _ _ h => h) (Or.inl ⟨by rfl, ?_⟩) ⟨_, X1.out⟩ ?_
  · intro w' hSw
    go_simp
  try simp only [Act.put, List.setIfInBounds_toArray, List.set_cons_zero, List.set_cons_succ]
  refine wpAnyH_take (i := 1) (v := .pointer (some ⟨bx, 1, none⟩)) (by rw [HO.out]; simp only [List.getElem?_toArray, List.getElem?_cons_succ, List.getElem?_cons_zero]; rfl) (by rw [HO.out]; kernel_rfl) (by rw [HO.out]; kernel_rfl) (by rw [HO.out]; kernel_rfl) (by rw [HQ.out]; exact fun _ _ _ h => h) (Or.inl ⟨by rfl, ?_⟩) ⟨_, X1.out⟩ ?_
  · intro w' hSw
    go_simp
  try simp only [Act.put, List.setIfInBounds_toArray, List.set_cons_zero, List.set_cons_succ]
  refine wpAnyH_take (i := 2) (v := .int .i64 r.B) (by rw [HO.out]; simp only [List.getElem?_toArray, List.getElem?_cons_succ, List.getElem?_cons_zero]; rfl) (by rw [HO.out]; kernel_rfl) (by rw [HO.out]; kernel_rfl) (by rw [HO.out]; kernel_rfl) (by rw [HQ.out]; exact fun _ _ _ h => h) (Or.inl ⟨by rfl, ?_⟩) ⟨_, X1.out⟩ ?_
  · intro w' hSw
    obtain ⟨l, hSw⟩ := hSw
    obtain ⟨_, q1, q2, q3, q4, q5⟩ := hSw.2.1
    go_simp
  try simp only [Act.put, List.setIfInBounds_toArray, List.set_cons_zero, List.set_cons_succ]
  refine wpAnyH_take (i := 3) (v := .pointer (some ⟨bx, 2, none⟩)) (by rw [HO.out]; simp only [List.getElem?_toArray, List.getElem?_cons_succ, List.getElem?_cons_zero]; rfl) (by rw [HO.out]; kernel_rfl) (by rw [HO.out]; kernel_rfl) (by rw [HO.out]; kernel_rfl) (by rw [HQ.out]; exact fun _ _ _ h => h) (Or.inl ⟨by rfl, ?_⟩) ⟨_, X1.out⟩ ?_
  · intro w' hSw
    go_simp
  try simp only [Act.put, List.setIfInBounds_toArray, List.set_cons_zero, List.set_cons_succ]
  refine wpAnyH_take (i := 4) (v := .int .i64 r.N) (by rw [HO.out]; simp only [List.getElem?_toArray, List.getElem?_cons_succ, List.getElem?_cons_zero]; rfl) (by rw [HO.out]; kernel_rfl) (by rw [HO.out]; kernel_rfl) (by rw [HO.out]; kernel_rfl) (by rw [HQ.out]; exact fun _ _ _ h => h) (Or.inl ⟨by rfl, ?_⟩) ⟨_, X1.out⟩ ?_
  · intro w' hSw
    obtain ⟨l, hSw⟩ := hSw
    obtain ⟨_, q1, q2, q3, q4, q5⟩ := hSw.2.1
    go_simp
  try simp only [Act.put, List.setIfInBounds_toArray, List.set_cons_zero, List.set_cons_succ]
  refine wpAnyH_take (i := 5) (v := .pointer (some ⟨bx, 3, none⟩)) (by rw [HO.out]; simp only [List.getElem?_toArray, List.getElem?_cons_succ, List.getElem?_cons_zero]; rfl) (by rw [HO.out]; kernel_rfl) (by rw [HO.out]; kernel_rfl) (by rw [HO.out]; kernel_rfl) (by rw [HQ.out]; exact fun _ _ _ h => h) (Or.inl ⟨by rfl, ?_⟩) ⟨_, X1.out⟩ ?_
  · intro w' hSw
    go_simp
  try simp only [Act.put, List.setIfInBounds_toArray, List.set_cons_zero, List.set_cons_succ]
  refine wpAnyH_take (i := 6) (v := .int .i64 r.S) (by rw [HO.out]; simp only [List.getElem?_toArray, List.getElem?_cons_succ, List.getElem?_cons_zero]; rfl) (by rw [HO.out]; kernel_rfl) (by rw [HO.out]; kernel_rfl) (by rw [HO.out]; kernel_rfl) (by rw [HQ.out]; exact fun _ _ _ h => h) (Or.inl ⟨by rfl, ?_⟩) ⟨_, X1.out⟩ ?_
  · intro w' hSw
    obtain ⟨l, hSw⟩ := hSw
    obtain ⟨_, q1, q2, q3, q4, q5⟩ := hSw.2.1
    go_simp
  try simp only [Act.put, List.setIfInBounds_toArray, List.set_cons_zero, List.set_cons_succ]
  refine wpAnyH_take (i := 9) (v := .pointer (some ⟨bx, 4, none⟩)) (by rw [HO.out]; simp only [List.getElem?_toArray, List.getElem?_cons_succ, List.getElem?_cons_zero]; rfl) (by rw [HO.out]; kernel_rfl) (by rw [HO.out]; kernel_rfl) (by rw [HO.out]; kernel_rfl) (by rw [HQ.out]; exact fun _ _ _ h => h) (Or.inl ⟨by rfl, ?_⟩) ⟨_, X1.out⟩ ?_
  · intro w' hSw
    go_simp
  try simp only [Act.put, List.setIfInBounds_toArray, List.set_cons_zero, List.set_cons_succ]
  refine wpAnyH_take (i := 10) (v := .slice ta r.T.length tc) (by rw [HO.out]; simp only [List.getElem?_toArray, List.getElem?_cons_succ, List.getElem?_cons_zero]; rfl) (by rw [HO.out]; kernel_rfl) (by rw [HO.out]; kernel_rfl) (by rw [HO.out]; kernel_rfl) (by rw [HQ.out]; exact fun _ _ _ h => h) (Or.inl ⟨by rfl, ?_⟩) ⟨_, X1.out⟩ ?_
  · intro w' hSw
    obtain ⟨l, hSw⟩ := hSw
    obtain ⟨_, q1, q2, q3, q4, q5⟩ := hSw.2.1
    go_simp
  try simp only [Act.put, List.setIfInBounds_toArray, List.set_cons_zero, List.set_cons_succ]
  refine wpAnyH_take (i := 11) (v := .int .i64 r.T.length) (by rw [HO.out]; simp only [List.getElem?_toArray, List.getElem?_cons_succ, List.getElem?_cons_zero]; rfl) (by rw [HO.out]; kernel_rfl) (by rw [HO.out]; kernel_rfl) (by rw [HO.out]; kernel_rfl) (by rw [HQ.out]; exact fun _ _ _ h => h) (Or.inl ⟨by rfl, ?_⟩) ⟨_, X1.out⟩ ?_
  · intro w' hSw
    go_simp
  try simp only [Act.put, List.setIfInBounds_toArray, List.set_cons_zero, List.set_cons_succ]
  refine wpAnyH_take (i := 12) (v := .pointer (some ⟨bx, 5, none⟩)) (by rw [HO.out]; simp only [List.getElem?_toArray, List.getElem?_cons_succ, List.getElem?_cons_zero]; rfl) (by rw [HO.out]; kernel_rfl) (by rw [HO.out]; kernel_rfl) (by rw [HO.out]; kernel_rfl) (by rw [HQ.out]; exact fun _ _ _ h => h) (Or.inl ⟨by rfl, ?_⟩) ⟨_, X1.out⟩ ?_
  · intro w' hSw
    go_simp
  try simp only [Act.put, List.setIfInBounds_toArray, List.set_cons_zero, List.set_cons_succ]
  refine wpAnyH_take (i := 13) (v := .slice ma r.M.length mc) (by rw [HO.out]; simp only [List.getElem?_toArray, List.getElem?_cons_succ, List.getElem?_cons_zero]; rfl) (by rw [HO.out]; kernel_rfl) (by rw [HO.out]; kernel_rfl) (by rw [HO.out]; kernel_rfl) (by rw [HQ.out]; exact fun _ _ _ h => h) (Or.inl ⟨by rfl, ?_⟩) ⟨_, X1.out⟩ ?_
  · intro w' hSw
    obtain ⟨l, hSw⟩ := hSw
    obtain ⟨_, q1, q2, q3, q4, q5⟩ := hSw.2.1
    go_simp
  try simp only [Act.put, List.setIfInBounds_toArray, List.set_cons_zero, List.set_cons_succ]
  refine wpAnyH_take (i := 14) (v := .int .i64 r.M.length) (by rw [HO.out]; simp only [List.getElem?_toArray, List.getElem?_cons_succ, List.getElem?_cons_zero]; rfl) (by rw [HO.out]; kernel_rfl) (by rw [HO.out]; kernel_rfl) (by rw [HO.out]; kernel_rfl) (by rw [HQ.out]; exact fun _ _ _ h => h) (Or.inl ⟨by rfl, ?_⟩) ⟨_, X1.out⟩ ?_
  · intro w' hSw
    go_simp
  try simp only [Act.put, List.setIfInBounds_toArray, List.set_cons_zero, List.set_cons_succ]
  refine wpAnyH_take (i := 17) (v := .pointer (some ⟨bx, 4, none⟩)) (by rw [HO.out]; simp only [List.getElem?_toArray, List.getElem?_cons_succ, List.getElem?_cons_zero]; rfl) (by rw [HO.out]; kernel_rfl) (by rw [HO.out]; kernel_rfl) (by rw [HO.out]; kernel_rfl) (by rw [HQ.out]; exact fun _ _ _ h => h) (Or.inl ⟨by rfl, ?_⟩) ⟨_, X1.out⟩ ?_
  · intro w' hSw
    go_simp
  try simp only [Act.put, List.setIfInBounds_toArray, List.set_cons_zero, List.set_cons_succ]
  refine wpAnyH_take (i := 18) (v := .slice ta r.T.length tc) (by rw [HO.out]; simp only [List.getElem?_toArray, List.getElem?_cons_succ, List.getElem?_cons_zero]; rfl) (by rw [HO.out]; kernel_rfl) (by rw [HO.out]; kernel_rfl) (by rw [HO.out]; kernel_rfl) (by rw [HQ.out]; exact fun _ _ _ h => h) (Or.inl ⟨by rfl, ?_⟩) ⟨_, X1.out⟩ ?_
  · intro w' hSw
    obtain ⟨l, hSw⟩ := hSw
    obtain ⟨_, q1, q2, q3, q4, q5⟩ := hSw.2.1
    go_simp
  try simp only [Act.put, List.setIfInBounds_toArray, List.set_cons_zero, List.set_cons_succ]
  refine wpAnyH_take (i := 20) (v := .pointer (some ⟨bx, 5, none⟩)) (by rw [HO.out]; simp only [List.getElem?_toArray, List.getElem?_cons_succ, List.getElem?_cons_zero]; rfl) (by rw [HO.out]; kernel_rfl) (by rw [HO.out]; kernel_rfl) (by rw [HO.out]; kernel_rfl) (by rw [HQ.out]; exact fun _ _ _ h => h) (Or.inl ⟨by rfl, ?_⟩) ⟨_, X1.out⟩ ?_
  · intro w' hSw
    go_simp
  try simp only [Act.put, List.setIfInBounds_toArray, List.set_cons_zero, List.set_cons_succ]
  refine wpAnyH_take (i := 21) (v := .slice ma r.M.length mc) (by rw [HO.out]; simp only [List.getElem?_toArray, List.getElem?_cons_succ, List.getElem?_cons_zero]; rfl) (by rw [HO.out]; kernel_rfl) (by rw [HO.out]; kernel_rfl) (by rw [HO.out]; kernel_rfl) (by rw [HQ.out]; exact fun _ _ _ h => h) (Or.inl ⟨by rfl, ?_⟩) ⟨_, X1.out⟩ ?_
  · intro w' hSw
    obtain ⟨l, hSw⟩ := hSw
    obtain ⟨_, q1, q2, q3, q4, q5⟩ := hSw.2.1
    go_simp
  try simp only [Act.put, List.setIfInBounds_toArray, List.set_cons_zero, List.set_cons_succ]
  refine wpAnyH_take (i := 23) (v := .func (.func 50) #[] #[.pointer (some ⟨a1, 0, none⟩), .pointer (some ⟨b1, 0, none⟩)]) (by rw [HO.out]; simp only [List.getElem?_toArray, List.getElem?_cons_succ, List.getElem?_cons_zero]; rfl) (by rw [HO.out]; kernel_rfl) (by rw [HO.out]; kernel_rfl) (by rw [HO.out]; kernel_rfl) (by rw [HQ.out]; exact fun _ _ _ h => h) (Or.inl ⟨by rfl, ?_⟩) ⟨_, X1.out⟩ ?_
  · intro w' hSw
    go_simp
  try simp only [Act.put, List.setIfInBounds_toArray, List.set_cons_zero, List.set_cons_succ]
  refine wpAnyH_ready (rs := [7, 15]) (by rw [HO.out]; kernel_rfl) (by simp) ?_
  refine AllReadyH.cons (o := _) (by rw [HO.out]; simp only [List.getElem?_toArray, List.getElem?_cons_succ, List.getElem?_cons_zero]; rfl) (fun K7 hK7 => ?_) ?_
  · go_simp
    have hal7 : Below w1.drew.heap.size w1.drew (w1.drew.alloc (.cells #[.int .i64 r.B, .int .i64 r.N, .int .i64 r.S] 3)) := (Below.refl _ _).alloc (Nat.le_refl _) _
    have Y7 : Hid (LS w (w1.drew.alloc (.cells #[.int .i64 r.B, .int .i64 r.N, .int .i64 r.S] 3)) bx r ta tc ma mc [(a1, b1, 6, [r.E])]) := X1.out.below hal7
    have I7 : Hid (IV (w1.drew.alloc (.cells #[.int .i64 r.B, .int .i64 r.N, .int .i64 r.S] 3)) (some ⟨w1.drew.heap.size, 0, none⟩) [r.B, r.N, r.S]) := iv_lit w1.drew [r.B, r.N, r.S]
    refine hK7.out _ _ ⟨_, Y7.out⟩ (fun _ => ?_)
    try simp only [Act.put, List.setIfInBounds_toArray, List.set_cons_zero, List.set_cons_succ]
    refine wpAnyH_ready (rs := [8, 15]) (by rw [HO.out]; kernel_rfl) (by simp) ?_
    refine AllReadyH.cons (o := _) (by rw [HO.out]; simp only [List.getElem?_toArray, List.getElem?_cons_succ, List.getElem?_cons_zero]; rfl) (fun K8 hK8 => ?_) ?_
    · go_simp
      refine (nf_new 2 (some ⟨w1.heap.size, 0, none⟩) 3 [r.B, r.N, r.S] _ I7.out).mono ?_
      rintro e w2 ⟨a2, b2, rfl, HN2, hb2⟩
      have X2 : Hid (LS w w2 bx r ta tc ma mc [(a2, b2, 2, [r.B, r.N, r.S]), (a1, b1, 6, [r.E])]) := (Y7.out.below hb2).add HN2.out
      refine hK8.out _ _ ⟨_, X2.out⟩ (fun _ => ?_)
      try simp only [Act.put, List.setIfInBounds_toArray, List.set_cons_zero, List.set_cons_succ]
      refine wpAnyH_ready (rs := [15]) (by rw [HO.out]; kernel_rfl) (by simp) ?_
      refine AllReadyH.cons (o := _) (by rw [HO.out]; simp only [List.getElem?_toArray, List.getElem?_cons_succ, List.getElem?_cons_zero]; rfl) (fun K15 hK15 => ?_) ?_
      · go_simp
        have hal15 : Below w2.heap.size w2 (w2.alloc (.cells #[.int .i64 (r.T.length : Int), .int .i64 (r.M.length : Int)] 3)) := (Below.refl _ _).alloc (Nat.le_refl _) _
        have Y15 : Hid (LS w (w2.alloc (.cells #[.int .i64 (r.T.length : Int), .int .i64 (r.M.length : Int)] 3)) bx r ta tc ma mc [(a2, b2, 2, [r.B, r.N, r.S]), (a1, b1, 6, [r.E])]) := X2.out.below hal15
        have I15 : Hid (IV (w2.alloc (.cells #[.int .i64 (r.T.length : Int), .int .i64 (r.M.length : Int)] 3)) (some ⟨w2.heap.size, 0, none⟩) [(r.T.length : Int), (r.M.length : Int)]) := iv_lit w2 [(r.T.length : Int), (r.M.length : Int)]
        refine hK15.out _ _ ⟨_, Y15.out⟩ (fun _ => ?_)
        try simp only [Act.put, List.setIfInBounds_toArray, List.set_cons_zero, List.set_cons_succ]
        refine wpAnyH_ready (rs := [16]) (by rw [HO.out]; kernel_rfl) (by simp) ?_
        refine AllReadyH.cons (o := _) (by rw [HO.out]; simp only [List.getElem?_toArray, List.getElem?_cons_succ, List.getElem?_cons_zero]; rfl) (fun K16 hK16 => ?_) ?_
        · go_simp
          refine (nf_new 1 (some ⟨w2.heap.size, 0, none⟩) 2 [(r.T.length : Int), (r.M.length : Int)] _ I15.out).mono ?_
          rintro e w3 ⟨a3, b3, rfl, HN3, hb3⟩
          have X3 : Hid (LS w w3 bx r ta tc ma mc [(a3, b3, 1, [(r.T.length : Int), (r.M.length : Int)]), (a2, b2, 2, [r.B, r.N, r.S]), (a1, b1, 6, [r.E])]) := (Y15.out.below hb3).add HN3.out
          refine hK16.out _ _ ⟨_, X3.out⟩ (fun _ => ?_)
          try simp only [Act.put, List.setIfInBounds_toArray, List.set_cons_zero, List.set_cons_succ]
          refine wpAnyH_ready (rs := [19]) (by rw [HO.out]; kernel_rfl) (by simp) ?_
          refine AllReadyH.cons (o := _) (by rw [HO.out]; simp only [List.getElem?_toArray, List.getElem?_cons_succ, List.getElem?_cons_zero]; rfl) (fun K19 hK19 => ?_) ?_
          · go_simp
            refine (nf_new 2 ta tc r.T _ X3.out.2.2.1.t).mono ?_
            rintro e w4 ⟨a4, b4, rfl, HN4, hb4⟩
            have X4 : Hid (LS w w4 bx r ta tc ma mc [(a4, b4, 2, r.T), (a3, b3, 1, [(r.T.length : Int), (r.M.length : Int)]), (a2, b2, 2, [r.B, r.N, r.S]), (a1, b1, 6, [r.E])]) := (X3.out.below hb4).add HN4.out
            refine hK19.out _ _ ⟨_, X4.out⟩ (fun _ => ?_)
            try simp only [Act.put, List.setIfInBounds_toArray, List.set_cons_zero, List.set_cons_succ]
            refine wpAnyH_ready (rs := [22]) (by rw [HO.out]; kernel_rfl) (by simp) ?_
            refine AllReadyH.cons (o := _) (by rw [HO.out]; simp only [List.getElem?_toArray, List.getElem?_cons_succ, List.getElem?_cons_zero]; rfl) (fun K22 hK22 => ?_) ?_
            · go_simp
              refine (nf_new 2 ma mc r.M _ X4.out.2.2.1.m).mono ?_
              rintro e w5 ⟨a5, b5, rfl, HN5, hb5⟩
              have X5 : Hid (LS w w5 bx r ta tc ma mc [(a5, b5, 2, r.M), (a4, b4, 2, r.T), (a3, b3, 1, [(r.T.length : Int), (r.M.length : Int)]), (a2, b2, 2, [r.B, r.N, r.S]), (a1, b1, 6, [r.E])]) := (X4.out.below hb5).add HN5.out
              refine hK22.out _ _ ⟨_, X5.out⟩ (fun _ => ?_)
              try simp only [Act.put, List.setIfInBounds_toArray, List.set_cons_zero, List.set_cons_succ]
              refine wpAnyH_ready (rs := [24]) (by rw [HO.out]; kernel_rfl) (by simp) ?_
              refine AllReadyH.cons (o := _) (by rw [HO.out]; simp only [List.getElem?_toArray, List.getElem?_cons_succ, List.getElem?_cons_zero]; rfl) (fun K24 hK24 => ?_) ?_
              · go_simp
                have hal24 : Below w5.heap.size w5 (w5.alloc (.cells #[.func (.func 35) #[] #[], .func (.func 50) #[] #[.pointer (some ⟨a1, 0, none⟩), .pointer (some ⟨b1, 0, none⟩)], .func (.func 50) #[] #[.pointer (some ⟨a2, 0, none⟩), .pointer (some ⟨b2, 0, none⟩)], .func (.func 50) #[] #[.pointer (some ⟨a3, 0, none⟩), .pointer (some ⟨b3, 0, none⟩)], .func (.func 50) #[] #[.pointer (some ⟨a4, 0, none⟩), .pointer (some ⟨b4, 0, none⟩)], .func (.func 50) #[] #[.pointer (some ⟨a5, 0, none⟩), .pointer (some ⟨b5, 0, none⟩)], .func (.func 36) #[] #[], .func (.func 37) #[] #[], .func (.func 50) #[] #[.pointer (some ⟨a1, 0, none⟩), .pointer (some ⟨b1, 0, none⟩)]] 50)) := (Below.refl _ _).alloc (Nat.le_refl _) _
                have X6 : Hid (LS w _ bx r ta tc ma mc [(a5, b5, 2, r.M), (a4, b4, 2, r.T), (a3, b3, 1, [(r.T.length : Int), (r.M.length : Int)]), (a2, b2, 2, [r.B, r.N, r.S]), (a1, b1, 6, [r.E])]) := X5.out.below hal24
                refine hK24.out _ _ ⟨_, X6.out⟩ (fun _ => ?_)
                try simp only [Act.put, List.setIfInBounds_toArray, List.set_cons_zero, List.set_cons_succ]
                refine wpAnyH_ready (rs := [25]) (by rw [HO.out]; kernel_rfl) (by simp) ?_
                refine AllReadyH.cons (o := _) (by rw [HO.out]; simp only [List.getElem?_toArray, List.getElem?_cons_succ, List.getElem?_cons_zero]; rfl) (fun K25 hK25 => ?_) ?_
                · go_simp
                  refine hK25.out _ _ ⟨_, X6.out⟩ (fun _ => ?_)
                  try simp only [Act.put, List.setIfInBounds_toArray, List.set_cons_zero, List.set_cons_succ]
                  refine wpAnyH_done (by rw [HO.out]; kernel_rfl) ?_ _
                  rw [HQ.out]
                  refine NoPanic.normal ?_
                  go_wp2_with fail
                  go_ret
                  exact layers_end X6.out (heap_alloc_last _ _)
                exact AllReadyH.nil
              exact AllReadyH.nil
            exact AllReadyH.nil
          exact AllReadyH.nil
        exact AllReadyH.nil
      exact AllReadyH.nil
    refine AllReadyH.cons (o := _) (by rw [HO.out]; simp only [List.getElem?_toArray, List.getElem?_cons_succ, List.getElem?_cons_zero]; rfl) (fun K15 hK15 => ?_) ?_
    · go_simp
      have hal15 : Below (w1.drew.alloc (.cells #[.int .i64 r.B, .int .i64 r.N, .int .i64 r.S] 3)).heap.size (w1.drew.alloc (.cells #[.int .i64 r.B, .int .i64 r.N, .int .i64 r.S] 3)) ((w1.drew.alloc (.cells #[.int .i64 r.B, .int .i64 r.N, .int .i64 r.S] 3)).alloc (.cells #[.int .i64 (r.T.length : Int), .int .i64 (r.M.length : Int)] 3)) := (Below.refl _ _).alloc (Nat.le_refl _) _
      have Z15 : Hid (LS w ((w1.drew.alloc (.cells #[.int .i64 r.B, .int .i64 r.N, .int .i64 r.S] 3)).alloc (.cells #[.int .i64 (r.T.length : Int), .int .i64 (r.M.length : Int)] 3)) bx r ta tc ma mc [(a1, b1, 6, [r.E])]) := Y7.out.below hal15
      have J15 : Hid (IV ((w1.drew.alloc (.cells #[.int .i64 r.B, .int .i64 r.N, .int .i64 r.S] 3)).alloc (.cells #[.int .i64 (r.T.length : Int), .int .i64 (r.M.length : Int)] 3)) (some ⟨w1.heap.size + 1, 0, none⟩) [(r.T.length : Int), (r.M.length : Int)]) := by
        have h := iv_lit (w1.drew.alloc (.cells #[.int .i64 r.B, .int .i64 r.N, .int .i64 r.S] 3)) [(r.T.length : Int), (r.M.length : Int)]
        rw [World.size_alloc] at h
        exact h
      have I7b : Hid (IV ((w1.drew.alloc (.cells #[.int .i64 r.B, .int .i64 r.N, .int .i64 r.S] 3)).alloc (.cells #[.int .i64 (r.T.length : Int), .int .i64 (r.M.length : Int)] 3)) (some ⟨w1.heap.size, 0, none⟩) [r.B, r.N, r.S]) := I7.out.below hal15
      refine hK15.out _ _ ⟨_, Z15.out⟩ (fun _ => ?_)
      try simp only [Act.put, List.setIfInBounds_toArray, List.set_cons_zero, List.set_cons_succ]
      refine wpAnyH_ready (rs := [8]) (by rw [HO.out]; kernel_rfl) (by simp) ?_
      refine AllReadyH.cons (o := _) (by rw [HO.out]; simp only [List.getElem?_toArray, List.getElem?_cons_succ, List.getElem?_cons_zero]; rfl) (fun K8 hK8 => ?_) ?_
      · go_simp
        refine (nf_new 2 (some ⟨w1.heap.size, 0, none⟩) 3 [r.B, r.N, r.S] _ I7b.out).mono ?_
        rintro e w2 ⟨a2, b2, rfl, HN2, hb2⟩
        have X2 : Hid (LS w w2 bx r ta tc ma mc [(a2, b2, 2, [r.B, r.N, r.S]), (a1, b1, 6, [r.E])]) := (Z15.out.below hb2).add HN2.out
        have J2 : Hid (IV w2 (some ⟨w1.heap.size + 1, 0, none⟩) [(r.T.length : Int), (r.M.length : Int)]) := J15.out.below hb2
        refine hK8.out _ _ ⟨_, X2.out⟩ (fun _ => ?_)
        try simp only [Act.put, List.setIfInBounds_toArray, List.set_cons_zero, List.set_cons_succ]
        refine wpAnyH_ready (rs := [16]) (by rw [HO.out]; kernel_rfl) (by simp) ?_
        refine AllReadyH.cons (o := _) (by rw [HO.out]; simp only [List.getElem?_toArray, List.getElem?_cons_succ, List.getElem?_cons_zero]; rfl) (fun K16 hK16 => ?_) ?_
        · go_simp
          refine (nf_new 1 (some ⟨w1.heap.size + 1, 0, none⟩) 2 [(r.T.length : Int), (r.M.length : Int)] _ J2.out).mono ?_
          rintro e w3 ⟨a3, b3, rfl, HN3, hb3⟩
          have X3 : Hid (LS w w3 bx r ta tc ma mc [(a3, b3, 1, [(r.T.length : Int), (r.M.length : Int)]), (a2, b2, 2, [r.B, r.N, r.S]), (a1, b1, 6, [r.E])]) := (X2.out.below hb3).add HN3.out
          refine hK16.out _ _ ⟨_, X3.out⟩ (fun _ => ?_)
          try simp only [Act.put, List.setIfInBounds_toArray, List.set_cons_zero, List.set_cons_succ]
          refine wpAnyH_ready (rs := [19]) (by rw [HO.out]; kernel_rfl) (by simp) ?_
          refine AllReadyH.cons (o := _) (by rw [HO.out]; simp only [List.getElem?_toArray, List.getElem?_cons_succ, List.getElem?_cons_zero]; rfl) (fun K19 hK19 => ?_) ?_
          · go_simp
            refine (nf_new 2 ta tc r.T _ X3.out.2.2.1.t).mono ?_
            rintro e w4 ⟨a4, b4, rfl, HN4, hb4⟩
            have X4 : Hid (LS w w4 bx r ta tc ma mc [(a4, b4, 2, r.T), (a3, b3, 1, [(r.T.length : Int), (r.M.length : Int)]), (a2, b2, 2, [r.B, r.N, r.S]), (a1, b1, 6, [r.E])]) := (X3.out.below hb4).add HN4.out
            refine hK19.out _ _ ⟨_, X4.out⟩ (fun _ => ?_)
            try simp only [Act.put, List.setIfInBounds_toArray, List.set_cons_zero, List.set_cons_succ]
            refine wpAnyH_ready (rs := [22]) (by rw [HO.out]; kernel_rfl) (by simp) ?_
            refine AllReadyH.cons (o := _) (by rw [HO.out]; simp only [List.getElem?_toArray, List.getElem?_cons_succ, List.getElem?_cons_zero]; rfl) (fun K22 hK22 => ?_) ?_
            · go_simp
              refine (nf_new 2 ma mc r.M _ X4.out.2.2.1.m).mono ?_
              rintro e w5 ⟨a5, b5, rfl, HN5, hb5⟩
              have X5 : Hid (LS w w5 bx r ta tc ma mc [(a5, b5, 2, r.M), (a4, b4, 2, r.T), (a3, b3, 1, [(r.T.length : Int), (r.M.length : Int)]), (a2, b2, 2, [r.B, r.N, r.S]), (a1, b1, 6, [r.E])]) := (X4.out.below hb5).add HN5.out
              refine hK22.out _ _ ⟨_, X5.out⟩ (fun _ => ?_)
              try simp only [Act.put, List.setIfInBounds_toArray, List.set_cons_zero, List.set_cons_succ]
              refine wpAnyH_ready (rs := [24]) (by rw [HO.out]; kernel_rfl) (by simp) ?_
              refine AllReadyH.cons (o := _) (by rw [HO.out]; simp only [List.getElem?_toArray, List.getElem?_cons_succ, List.getElem?_cons_zero]; rfl) (fun K24 hK24 => ?_) ?_
              · go_simp
                have hal24 : Below w5.heap.size w5 (w5.alloc (.cells #[.func (.func 35) #[] #[], .func (.func 50) #[] #[.pointer (some ⟨a1, 0, none⟩), .pointer (some ⟨b1, 0, none⟩)], .func (.func 50) #[] #[.pointer (some ⟨a2, 0, none⟩), .pointer (some ⟨b2, 0, none⟩)], .func (.func 50) #[] #[.pointer (some ⟨a3, 0, none⟩), .pointer (some ⟨b3, 0, none⟩)], .func (.func 50) #[] #[.pointer (some ⟨a4, 0, none⟩), .pointer (some ⟨b4, 0, none⟩)], .func (.func 50) #[] #[.pointer (some ⟨a5, 0, none⟩), .pointer (some ⟨b5, 0, none⟩)], .func (.func 36) #[] #[], .func (.func 37) #[] #[], .func (.func 50) #[] #[.pointer (some ⟨a1, 0, none⟩), .pointer (some ⟨b1, 0, none⟩)]] 50)) := (Below.refl _ _).alloc (Nat.le_refl _) _
                have X6 : Hid (LS w _ bx r ta tc ma mc [(a5, b5, 2, r.M), (a4, b4, 2, r.T), (a3, b3, 1, [(r.T.length : Int), (r.M.length : Int)]), (a2, b2, 2, [r.B, r.N, r.S]), (a1, b1, 6, [r.E])]) := X5.out.below hal24
                refine hK24.out _ _ ⟨_, X6.out⟩ (fun _ => ?_)
                try simp only [Act.put, List.setIfInBounds_toArray, List.set_cons_zero, List.set_cons_succ]
                refine wpAnyH_ready (rs := [25]) (by rw [HO.out]; kernel_rfl) (by simp) ?_
                refine AllReadyH.cons (o := _) (by rw [HO.out]; simp only [List.getElem?_toArray, List.getElem?_cons_succ, List.getElem?_cons_zero]; rfl) (fun K25 hK25 => ?_) ?_
                · go_simp
                  refine hK25.out _ _ ⟨_, X6.out⟩ (fun _ => ?_)
                  try simp only [Act.put, List.setIfInBounds_toArray, List.set_cons_zero, List.set_cons_succ]
                  refine wpAnyH_done (by rw [HO.out]; kernel_rfl) ?_ _
                  rw [HQ.out]
                  refine NoPanic.normal ?_
                  go_wp2_with fail
                  go_ret
                  exact layers_end X6.out (heap_alloc_last _ _)
                exact AllReadyH.nil
              exact AllReadyH.nil
            exact AllReadyH.nil
          exact AllReadyH.nil
        exact AllReadyH.nil
      exact AllReadyH.nil
    exact AllReadyH.nil
  refine AllReadyH.cons (o := _) (by rw [HO.out]; simp only [List.getElem?_toArray, List.getElem?_cons_succ, List.getElem?_cons_zero]; rfl) (fun K15 hK15 => ?_) ?_
  · go_simp
    have hal15 : Below w1.drew.heap.size w1.drew (w1.drew.alloc (.cells #[.int .i64 (r.T.length : Int), .int .i64 (r.M.length : Int)] 3)) := (Below.refl _ _).alloc (Nat.le_refl _) _
    have U15h : Hid (LS w (w1.drew.alloc (.cells #[.int .i64 (r.T.length : Int), .int .i64 (r.M.length : Int)] 3)) bx r ta tc ma mc [(a1, b1, 6, [r.E])]) := X1.out.below hal15
    have K15h : Hid (IV (w1.drew.alloc (.cells #[.int .i64 (r.T.length : Int), .int .i64 (r.M.length : Int)] 3)) (some ⟨w1.drew.heap.size, 0, none⟩) [(r.T.length : Int), (r.M.length : Int)]) := iv_lit w1.drew [(r.T.length : Int), (r.M.length : Int)]
    refine hK15.out _ _ ⟨_, U15h.out⟩ (fun _ => ?_)
    try simp only [Act.put, List.setIfInBounds_toArray, List.set_cons_zero, List.set_cons_succ]
    refine wpAnyH_ready (rs := [7]) (by rw [HO.out]; kernel_rfl) (by simp) ?_
    refine AllReadyH.cons (o := _) (by rw [HO.out]; simp only [List.getElem?_toArray, List.getElem?_cons_succ, List.getElem?_cons_zero]; rfl) (fun K7 hK7 => ?_) ?_
    · go_simp
      have hal7 : Below (w1.drew.alloc (.cells #[.int .i64 (r.T.length : Int), .int .i64 (r.M.length : Int)] 3)).heap.size (w1.drew.alloc (.cells #[.int .i64 (r.T.length : Int), .int .i64 (r.M.length : Int)] 3)) ((w1.drew.alloc (.cells #[.int .i64 (r.T.length : Int), .int .i64 (r.M.length : Int)] 3)).alloc (.cells #[.int .i64 r.B, .int .i64 r.N, .int .i64 r.S] 3)) := (Below.refl _ _).alloc (Nat.le_refl _) _
      have U7h : Hid (LS w ((w1.drew.alloc (.cells #[.int .i64 (r.T.length : Int), .int .i64 (r.M.length : Int)] 3)).alloc (.cells #[.int .i64 r.B, .int .i64 r.N, .int .i64 r.S] 3)) bx r ta tc ma mc [(a1, b1, 6, [r.E])]) := U15h.out.below hal7
      have K7h : Hid (IV ((w1.drew.alloc (.cells #[.int .i64 (r.T.length : Int), .int .i64 (r.M.length : Int)] 3)).alloc (.cells #[.int .i64 r.B, .int .i64 r.N, .int .i64 r.S] 3)) (some ⟨w1.heap.size + 1, 0, none⟩) [r.B, r.N, r.S]) := by
        have h := iv_lit (w1.drew.alloc (.cells #[.int .i64 (r.T.length : Int), .int .i64 (r.M.length : Int)] 3)) [r.B, r.N, r.S]
        rw [World.size_alloc] at h
        exact h
      have K15b : Hid (IV ((w1.drew.alloc (.cells #[.int .i64 (r.T.length : Int), .int .i64 (r.M.length : Int)] 3)).alloc (.cells #[.int .i64 r.B, .int .i64 r.N, .int .i64 r.S] 3)) (some ⟨w1.heap.size, 0, none⟩) [(r.T.length : Int), (r.M.length : Int)]) := K15h.out.below hal7
      refine hK7.out _ _ ⟨_, U7h.out⟩ (fun _ => ?_)
      try simp only [Act.put, List.setIfInBounds_toArray, List.set_cons_zero, List.set_cons_succ]
      refine wpAnyH_ready (rs := [8]) (by rw [HO.out]; kernel_rfl) (by simp) ?_
      refine AllReadyH.cons (o := _) (by rw [HO.out]; simp only [List.getElem?_toArray, List.getElem?_cons_succ, List.getElem?_cons_zero]; rfl) (fun K8 hK8 => ?_) ?_
      · go_simp
        refine (nf_new 2 (some ⟨w1.heap.size + 1, 0, none⟩) 3 [r.B, r.N, r.S] _ K7h.out).mono ?_
        rintro e w2 ⟨a2, b2, rfl, HN2, hb2⟩
        have X2 : Hid (LS w w2 bx r ta tc ma mc [(a2, b2, 2, [r.B, r.N, r.S]), (a1, b1, 6, [r.E])]) := (U7h.out.below hb2).add HN2.out
        have J2 : Hid (IV w2 (some ⟨w1.heap.size, 0, none⟩) [(r.T.length : Int), (r.M.length : Int)]) := K15b.out.below hb2
        refine hK8.out _ _ ⟨_, X2.out⟩ (fun _ => ?_)
        try simp only [Act.put, List.setIfInBounds_toArray, List.set_cons_zero, List.set_cons_succ]
        refine wpAnyH_ready (rs := [16]) (by rw [HO.out]; kernel_rfl) (by simp) ?_
        refine AllReadyH.cons (o := _) (by rw [HO.out]; simp only [List.getElem?_toArray, List.getElem?_cons_succ, List.getElem?_cons_zero]; rfl) (fun K16 hK16 => ?_) ?_
        · go_simp
          refine (nf_new 1 (some ⟨w1.heap.size, 0, none⟩) 2 [(r.T.length : Int), (r.M.length : Int)] _ J2.out).mono ?_
          rintro e w3 ⟨a3, b3, rfl, HN3, hb3⟩
          have X3 : Hid (LS w w3 bx r ta tc ma mc [(a3, b3, 1, [(r.T.length : Int), (r.M.length : Int)]), (a2, b2, 2, [r.B, r.N, r.S]), (a1, b1, 6, [r.E])]) := (X2.out.below hb3).add HN3.out
          refine hK16.out _ _ ⟨_, X3.out⟩ (fun _ => ?_)
          try simp only [Act.put, List.setIfInBounds_toArray, List.set_cons_zero, List.set_cons_succ]
          refine wpAnyH_ready (rs := [19]) (by rw [HO.out]; kernel_rfl) (by simp) ?_
          refine AllReadyH.cons (o := _) (by rw [HO.out]; simp only [List.getElem?_toArray, List.getElem?_cons_succ, List.getElem?_cons_zero]; rfl) (fun K19 hK19 => ?_) ?_
          · go_simp
            refine (nf_new 2 ta tc r.T _ X3.out.2.2.1.t).mono ?_
            rintro e w4 ⟨a4, b4, rfl, HN4, hb4⟩
            have X4 : Hid (LS w w4 bx r ta tc ma mc [(a4, b4, 2, r.T), (a3, b3, 1, [(r.T.length : Int), (r.M.length : Int)]), (a2, b2, 2, [r.B, r.N, r.S]), (a1, b1, 6, [r.E])]) := (X3.out.below hb4).add HN4.out
            refine hK19.out _ _ ⟨_, X4.out⟩ (fun _ => ?_)
            try simp only [Act.put, List.setIfInBounds_toArray, List.set_cons_zero, List.set_cons_succ]
            refine wpAnyH_ready (rs := [22]) (by rw [HO.out]; kernel_rfl) (by simp) ?_
            refine AllReadyH.cons (o := _) (by rw [HO.out]; simp only [List.getElem?_toArray, List.getElem?_cons_succ, List.getElem?_cons_zero]; rfl) (fun K22 hK22 => ?_) ?_
            · go_simp
              refine (nf_new 2 ma mc r.M _ X4.out.2.2.1.m).mono ?_
              rintro e w5 ⟨a5, b5, rfl, HN5, hb5⟩
              have X5 : Hid (LS w w5 bx r ta tc ma mc [(a5, b5, 2, r.M), (a4, b4, 2, r.T), (a3, b3, 1, [(r.T.length : Int), (r.M.length : Int)]), (a2, b2, 2, [r.B, r.N, r.S]), (a1, b1, 6, [r.E])]) := (X4.out.below hb5).add HN5.out
              refine hK22.out _ _ ⟨_, X5.out⟩ (fun _ => ?_)
              try simp only [Act.put, List.setIfInBounds_toArray, List.set_cons_zero, List.set_cons_succ]
              refine wpAnyH_ready (rs := [24]) (by rw [HO.out]; kernel_rfl) (by simp) ?_
              refine AllReadyH.cons (o := _) (by rw [HO.out]; simp only [List.getElem?_toArray, List.getElem?_cons_succ, List.getElem?_cons_zero]; rfl) (fun K24 hK24 => ?_) ?_
              · go_simp
                have hal24 : Below w5.heap.size w5 (w5.alloc (.cells #[.func (.func 35) #[] #[], .func (.func 50) #[] #[.pointer (some ⟨a1, 0, none⟩), .pointer (some ⟨b1, 0, none⟩)], .func (.func 50) #[] #[.pointer (some ⟨a2, 0, none⟩), .pointer (some ⟨b2, 0, none⟩)], .func (.func 50) #[] #[.pointer (some ⟨a3, 0, none⟩), .pointer (some ⟨b3, 0, none⟩)], .func (.func 50) #[] #[.pointer (some ⟨a4, 0, none⟩), .pointer (some ⟨b4, 0, none⟩)], .func (.func 50) #[] #[.pointer (some ⟨a5, 0, none⟩), .pointer (some ⟨b5, 0, none⟩)], .func (.func 36) #[] #[], .func (.func 37) #[] #[], .func (.func 50) #[] #[.pointer (some ⟨a1, 0, none⟩), .pointer (some ⟨b1, 0, none⟩)]] 50)) := (Below.refl _ _).alloc (Nat.le_refl _) _
                have X6 : Hid (LS w _ bx r ta tc ma mc [(a5, b5, 2, r.M), (a4, b4, 2, r.T), (a3, b3, 1, [(r.T.length : Int), (r.M.length : Int)]), (a2, b2, 2, [r.B, r.N, r.S]), (a1, b1, 6, [r.E])]) := X5.out.below hal24
                refine hK24.out _ _ ⟨_, X6.out⟩ (fun _ => ?_)
                try simp only [Act.put, List.setIfInBounds_toArray, List.set_cons_zero, List.set_cons_succ]
                refine wpAnyH_ready (rs := [25]) (by rw [HO.out]; kernel_rfl) (by simp) ?_
                refine AllReadyH.cons (o := _) (by rw [HO.out]; simp only [List.getElem?_toArray, List.getElem?_cons_succ, List.getElem?_cons_zero]; rfl) (fun K25 hK25 => ?_) ?_
                · go_simp
                  refine hK25.out _ _ ⟨_, X6.out⟩ (fun _ => ?_)
                  try simp only [Act.put, List.setIfInBounds_toArray, List.set_cons_zero, List.set_cons_succ]
                  refine wpAnyH_done (by rw [HO.out]; kernel_rfl) ?_ _
                  rw [HQ.out]
                  refine NoPanic.normal ?_
                  go_wp2_with fail
                  go_ret
                  exact layers_end X6.out (heap_alloc_last _ _)
                exact AllReadyH.nil
              exact AllReadyH.nil
            exact AllReadyH.nil
          exact AllReadyH.nil
        exact AllReadyH.nil
      exact AllReadyH.nil
    exact AllReadyH.nil
  exact AllReadyH.nil
end Go.Proofs.Ytadnflaocgmfgaa
