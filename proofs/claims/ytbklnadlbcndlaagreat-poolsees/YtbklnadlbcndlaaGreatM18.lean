import Derived.Test.YtbklnadlbcndlaaGreatM17
import Derived.Test.YtbklnadlbcndlaaGreatM8
import Derived.Deep.WholeRow
import Derived.Deep.RegionHeld3
namespace Go.Proofs.YtbklnadlbcndlaaGreat.R
set_option maxRecDepth 20000
open Go.RowKit
set_option linter.unusedVariables false
set_option linter.unusedSimpArgs false
theorem name_ops {P : Program} {id : Nat} {ops : Array Oper} {Q : Exit → Act → World → Prop} {a : Act} {w : World} (h : ∀ (O : Array Oper) (QQ : Exit → Act → World → Prop), Hid (O = ops) → Hid (QQ = Q) → (Code.region id O true).wp P QQ a w) : (Code.region id ops true).wp P Q a w := h _ _ rfl rfl
def NFc (w : World) (ab wb : Nat) (x : Int) (zs : List Int) : Prop := ∃ a c, w.cell? ⟨ab, 0, none⟩ = some (.slice a zs.length c) ∧ w.cell? ⟨wb, 0, none⟩ = some (.int .i64 x) ∧ ab < w.heap.size ∧ wb < w.heap.size ∧ IV w a zs
theorem NFc.below {w w' : World} {ab wb : Nat} {x : Int} {zs : List Int} (h : NFc w ab wb x zs) (hb : Below w.heap.size w w') : NFc w' ab wb x zs := by
  obtain ⟨a, c, h1, h2, h3, h4, h5⟩ := h
  exact ⟨a, c, (hb.cell (p := ⟨ab, 0, none⟩) h3).trans h1, (hb.cell (p := ⟨wb, 0, none⟩) h4).trans h2, Nat.lt_of_lt_of_le h3 hb.size, Nat.lt_of_lt_of_le h4 hb.size, h5.below hb⟩
theorem nf_call {w : World} {ab wb : Nat} {x : Int} {zs : List Int} (av : Value) (h : NFc w ab wb x zs) (hn : zs.length ≤ 100) : Calls Tryz.prog 231 #[av, .pointer (some ⟨ab, 0, none⟩), .pointer (some ⟨wb, 0, none⟩)] w fun e w' => Laid w w' e (wides x zs) := by
  obtain ⟨a, c, h1, h2, h3, h4, h5⟩ := h
  refine (numbers1_any av a ab wb c x zs w h1 h2 hn h4 h5).mono ?_
  rintro e w' ⟨v, rfl, ho, hb⟩
  exact Laid.of ho (wides_all x zs) hb
theorem nf_new (x : Int) (a : Option Addr) (c : Nat) (zs : List Int) (w : World) (hz : IV w a zs) : Calls Tryz.prog 210 #[.int .i64 x, .slice a zs.length c] w fun e w' => ∃ ab wb, e = .returned (.func (.func 231) #[] #[.pointer (some ⟨ab, 0, none⟩), .pointer (some ⟨wb, 0, none⟩)]) ∧ Hid (NFc w' ab wb x zs) ∧ Below w.heap.size w w' := by
  refine (numbers_any x a zs.length c w).mono ?_
  rintro e w' ⟨ab, wb, rfl, h, hb⟩
  exact ⟨ab, wb, rfl, ⟨a, c, h.out.1, h.out.2.1, h.out.2.2.1, h.out.2.2.2, hz.below hb⟩, hb⟩
theorem iv_lit (w : World) (zs : List Int) : IV (w.alloc (.cells (zs.map (Value.int .i64)).toArray 3)) (some ⟨w.heap.size, 0, none⟩) zs := by
  refine .inr ⟨w.heap.size, 0, rfl, by simp, fun i hi => ?_⟩
  rw [Nat.zero_add, World.cell?_alloc_mark]
  simp [List.getD_eq_getElem?_getD, List.getElem?_eq_getElem hi]
def BX (W : World) (bx : Nat) (r : RD) (ta : Option Addr) (tc : Nat) (ma : Option Addr) (mc : Nat) : Prop :=
  bx < W.heap.size ∧ W.cell? ⟨bx, 1, none⟩ = some (.int .i64 r.B) ∧ W.cell? ⟨bx, 2, none⟩ = some (.int .i64 r.N) ∧ W.cell? ⟨bx, 3, none⟩ = some (.int .i64 r.S) ∧ W.cell? ⟨bx, 4, none⟩ = some (.slice ta r.T.length tc) ∧ W.cell? ⟨bx, 5, none⟩ = some (.slice ma r.M.length mc)
theorem BX.below {W W' : World} {bx : Nat} {r : RD} {ta ma : Option Addr} {tc mc : Nat} (h : BX W bx r ta tc ma mc) (hb : Below W.heap.size W W') : BX W' bx r ta tc ma mc := by
  obtain ⟨h0, h1, h2, h3, h4, h5⟩ := h
  exact ⟨Nat.lt_of_lt_of_le h0 hb.size, (hb.cell (p := ⟨bx, 1, none⟩) h0).trans h1, (hb.cell (p := ⟨bx, 2, none⟩) h0).trans h2, (hb.cell (p := ⟨bx, 3, none⟩) h0).trans h3, (hb.cell (p := ⟨bx, 4, none⟩) h0).trans h4, (hb.cell (p := ⟨bx, 5, none⟩) h0).trans h5⟩
def LS (w W : World) (bx : Nat) (r : RD) (ta : Option Addr) (tc : Nat) (ma : Option Addr) (mc : Nat) (l : List (Nat × Nat × Int × List Int)) : Prop := Below w.heap.size w W ∧ BX W bx r ta tc ma mc ∧ Rt W r ta tc ma mc ∧ ∀ q ∈ l, NFc W q.1 q.2.1 q.2.2.1 q.2.2.2
theorem LS.below {w W W' : World} {bx : Nat} {r : RD} {ta ma : Option Addr} {tc mc : Nat} {l : List (Nat × Nat × Int × List Int)} (h : LS w W bx r ta tc ma mc l) (hb : Below W.heap.size W W') : LS w W' bx r ta tc ma mc l :=
  ⟨h.1.trans (hb.mono h.1.size), h.2.1.below hb, h.2.2.1.below hb, fun q hq => (h.2.2.2 q hq).below hb⟩
theorem LS.add {w W : World} {bx : Nat} {r : RD} {ta ma : Option Addr} {tc mc : Nat} {l : List (Nat × Nat × Int × List Int)} {ab wb : Nat} {x : Int} {zs : List Int} (h : LS w W bx r ta tc ma mc l) (hn : NFc W ab wb x zs) : LS w W bx r ta tc ma mc ((ab, wb, x, zs) :: l) :=
  ⟨h.1, h.2.1, h.2.2.1, fun q hq => by
    rcases List.mem_cons.1 hq with rfl | hq
    · exact hn
    · exact h.2.2.2 q hq⟩
def LayersPost (w : World) (r : RD) (e : Ending) (w' : World) : Prop := ∃ g a1 b1 a2 b2 a3 b3 a4 b4 a5 b5, e = .returned (.slice (some ⟨g, 0, none⟩) 9 9) ∧ Hid (w'.heap[g]? = some (.cells #[.func (.func 211) #[] #[], .func (.func 231) #[] #[.pointer (some ⟨a1, 0, none⟩), .pointer (some ⟨b1, 0, none⟩)], .func (.func 231) #[] #[.pointer (some ⟨a2, 0, none⟩), .pointer (some ⟨b2, 0, none⟩)], .func (.func 231) #[] #[.pointer (some ⟨a3, 0, none⟩), .pointer (some ⟨b3, 0, none⟩)], .func (.func 231) #[] #[.pointer (some ⟨a4, 0, none⟩), .pointer (some ⟨b4, 0, none⟩)], .func (.func 231) #[] #[.pointer (some ⟨a5, 0, none⟩), .pointer (some ⟨b5, 0, none⟩)], .func (.func 212) #[] #[], .func (.func 213) #[] #[], .func (.func 231) #[] #[.pointer (some ⟨a1, 0, none⟩), .pointer (some ⟨b1, 0, none⟩)]] 107 (0, 0)) ∧
      NFc w' a1 b1 6 [r.E] ∧ NFc w' a2 b2 2 [r.B, r.N, r.S] ∧ NFc w' a3 b3 1 [(r.T.length : Int), (r.M.length : Int)] ∧ NFc w' a4 b4 2 r.T ∧ NFc w' a5 b5 2 r.M) ∧ Below w.heap.size w w'
theorem layers_end {w W : World} {bx g : Nat} {r : RD} {ta ma : Option Addr} {tc mc : Nat} {a1 b1 a2 b2 a3 b3 a4 b4 a5 b5 : Nat} (h : LS w W bx r ta tc ma mc [(a5, b5, 2, r.M), (a4, b4, 2, r.T), (a3, b3, 1, [(r.T.length : Int), (r.M.length : Int)]), (a2, b2, 2, [r.B, r.N, r.S]), (a1, b1, 6, [r.E])]) (hg : W.heap[g]? = some (.cells #[.func (.func 211) #[] #[], .func (.func 231) #[] #[.pointer (some ⟨a1, 0, none⟩), .pointer (some ⟨b1, 0, none⟩)], .func (.func 231) #[] #[.pointer (some ⟨a2, 0, none⟩), .pointer (some ⟨b2, 0, none⟩)], .func (.func 231) #[] #[.pointer (some ⟨a3, 0, none⟩), .pointer (some ⟨b3, 0, none⟩)], .func (.func 231) #[] #[.pointer (some ⟨a4, 0, none⟩), .pointer (some ⟨b4, 0, none⟩)], .func (.func 231) #[] #[.pointer (some ⟨a5, 0, none⟩), .pointer (some ⟨b5, 0, none⟩)], .func (.func 212) #[] #[], .func (.func 213) #[] #[], .func (.func 231) #[] #[.pointer (some ⟨a1, 0, none⟩), .pointer (some ⟨b1, 0, none⟩)]] 107 (0, 0))) : LayersPost w r (.returned (.slice (some ⟨g, 0, none⟩) 9 9)) W :=
  ⟨g, a1, b1, a2, b2, a3, b3, a4, b4, a5, b5, rfl, ⟨hg, h.2.2.2 (a1, b1, 6, [r.E]) (by simp), h.2.2.2 (a2, b2, 2, [r.B, r.N, r.S]) (by simp), h.2.2.2 (a3, b3, 1, [(r.T.length : Int), (r.M.length : Int)]) (by simp), h.2.2.2 (a4, b4, 2, r.T) (by simp), h.2.2.2 (a5, b5, 2, r.M) (by simp)⟩, h.1⟩
set_option maxHeartbeats 1600000 in
theorem layers_any (r : RD) (ta ma : Option Addr) (tc mc : Nat) (w : World) (hr : Rt w r ta tc ma mc) :
    Calls Tryz.prog 171 #[rootV r ta tc ma mc] w fun e w' => LayersPost w r e w' := by
  have hmf : ∀ (fn : Fn) (first cap : Array Value) (w : World), (Instr.makeFunc fn first cap).run Tryz.prog w = .ok (.func fn first cap) w := fun _ _ _ _ => rfl
  obtain ⟨W, hW⟩ : ∃ W, W = w.alloc (.cells #[.int .i64 r.E, .int .i64 r.B, .int .i64 r.N, .int .i64 r.S, .slice ta r.T.length tc, .slice ma r.M.length mc] 151) := ⟨_, rfl⟩
  have hB : Below w.heap.size w W := by rw [hW]; exact (Below.refl _ _).alloc (Nat.le_refl _) _
  have HX : Hid (LS w W w.heap.size r ta tc ma mc []) := ⟨hB, ⟨by rw [hW]; simp, by rw [hW]; go_simp, by rw [hW]; go_simp, by rw [hW]; go_simp, by rw [hW]; go_simp, by rw [hW]; go_simp⟩, hr.below hB, fun q hq => by cases hq⟩
  have hsz : W.heap.size = w.heap.size + 1 := by rw [hW]; simp
  unfold rootV
  generalize hbx : w.heap.size = bx at *
  go_enter Tryz.func171, Tryz.ntmps171
  go_wp2_with fail
  rw [← hW]
  rw [← hsz]
  have hal : Below W.heap.size W (W.alloc (.cells #[.int .i64 r.E] 3)) := (Below.refl _ _).alloc (Nat.le_refl _) _
  refine (nf_new 6 (some ⟨W.heap.size, 0, none⟩) 1 [r.E] _ (iv_lit W [r.E])).mono ?_
  rintro e w1 ⟨a1, b1, rfl, HN1, hb1⟩
  have X0 : Hid (LS w w1 bx r ta tc ma mc [(a1, b1, 6, [r.E])]) := ((HX.out.below hal).below hb1).add HN1.out
  clear hW hB HX hsz hal hr HN1 hb1
  go_wp2_with fail
  refine wp_region_noPanic ?_
  refine name_ops ?_
  intro O QQ HO HQ
  have X1 : Hid (LS w w1.drew bx r ta tc ma mc [(a1, b1, 6, [r.E])]) := X0.out.below (Below.refl _ _).drew
  refine wp_region_held_drew (S := fun W' => ∃ l, LS w W' bx r ta tc ma mc l) (by kernel_rfl) ⟨_, X1.out⟩ (fun hS => ?_)
  clear hS
  rw [show O.size = 26 by rw [HO.out]; rfl]
  refine wpAnyH_take (i := 0) (v := .func (.func 231) #[] #[.pointer (some ⟨a1, 0, none⟩), .pointer (some ⟨b1, 0, none⟩)]) (by rw [HO.out]; simp only [List.getElem?_toArray, List.getElem?_cons_succ, List.getElem?_cons_zero]; rfl) (by rw [HO.out]; kernel_rfl) (by rw [HO.out]; kernel_rfl) (by rw [HO.out]; kernel_rfl) (by rw [HQ.out]; exact fun _ _ _ h => h) (Or.inl ⟨by rfl, ?_⟩) ⟨_, X1.out⟩ ?_
  · intro w' hSw
    go_simp
  try simp only [Act.put, List.setIfInBounds_toArray, List.set_cons_zero, List.set_cons_succ]
  refine wpAnyH_take (i := 1) (v := .pointer (some ⟨bx, 1, none⟩)) (by rw [HO.out]; simp only [List.getElem?_toArray, List.getElem?_cons_succ, List.getElem?_cons_zero]; rfl) (by rw [HO.out]; kernel_rfl) (by rw [HO.out]; kernel_rfl) (by rw [HO.out]; kernel_rfl) (by rw [HQ.out]; exact fun _ _ _ h => h) (Or.inl ⟨by rfl, ?_⟩) ⟨_, X1.out⟩ ?_
  · intro w' hSw
    go_simp
  try simp only [Act.put, List.setIfInBounds_toArray, List.set_cons_zero, List.set_cons_succ]
  refine wpAnyH_take (i := 2) (v := .int .i64 r.B) (by rw [HO.out]; simp only [List.getElem?_toArray, List.getElem?_cons_succ, List.getElem?_cons_zero]; rfl) (by rw [HO.out]; kernel_rfl) (by rw [HO.out]; kernel_rfl) (by rw [HO.out]; kernel_rfl) (by rw [HQ.out]; exact fun _ _ _ h => h) (Or.inl ⟨by rfl, ?_⟩) ⟨_, X1.out⟩ ?_
  · intro w' hSw
    obtain ⟨l, hSw⟩ := hSw
    obtain ⟨_, q1, q2, q3, q4, q5⟩ := hSw.2.1
    go_simp
  try simp only [Act.put, List.setIfInBounds_toArray, List.set_cons_zero, List.set_cons_succ]
  refine wpAnyH_take (i := 3) (v := .pointer (some ⟨bx, 2, none⟩)) (by rw [HO.out]; simp only [List.getElem?_toArray, List.getElem?_cons_succ, List.getElem?_cons_zero]; rfl) (by rw [HO.out]; kernel_rfl) (by rw [HO.out]; kernel_rfl) (by rw [HO.out]; kernel_rfl) (by rw [HQ.out]; exact fun _ _ _ h => h) (Or.inl ⟨by rfl, ?_⟩) ⟨_, X1.out⟩ ?_
  · intro w' hSw
    go_simp
  try simp only [Act.put, List.setIfInBounds_toArray, List.set_cons_zero, List.set_cons_succ]
  refine wpAnyH_take (i := 4) (v := .int .i64 r.N) (by rw [HO.out]; simp only [List.getElem?_toArray, List.getElem?_cons_succ, List.getElem?_cons_zero]; rfl) (by rw [HO.out]; kernel_rfl) (by rw [HO.out]; kernel_rfl) (by rw [HO.out]; kernel_rfl) (by rw [HQ.out]; exact fun _ _ _ h => h) (Or.inl ⟨by rfl, ?_⟩) ⟨_, X1.out⟩ ?_
  · intro w' hSw
    obtain ⟨l, hSw⟩ := hSw
    obtain ⟨_, q1, q2, q3, q4, q5⟩ := hSw.2.1
    go_simp
  try simp only [Act.put, List.setIfInBounds_toArray, List.set_cons_zero, List.set_cons_succ]
  refine wpAnyH_take (i := 5) (v := .pointer (some ⟨bx, 3, none⟩)) (by rw [HO.out]; simp only [List.getElem?_toArray, List.getElem?_cons_succ, List.getElem?_cons_zero]; rfl) (by rw [HO.out]; kernel_rfl) (by rw [HO.out]; kernel_rfl) (by rw [HO.out]; kernel_rfl) (by rw [HQ.out]; exact fun _ _ _ h => h) (Or.inl ⟨by rfl, ?_⟩) ⟨_, X1.out⟩ ?_
  · intro w' hSw
    go_simp
  try simp only [Act.put, List.setIfInBounds_toArray, List.set_cons_zero, List.set_cons_succ]
  refine wpAnyH_take (i := 6) (v := .int .i64 r.S) (by rw [HO.out]; simp only [List.getElem?_toArray, List.getElem?_cons_succ, List.getElem?_cons_zero]; rfl) (by rw [HO.out]; kernel_rfl) (by rw [HO.out]; kernel_rfl) (by rw [HO.out]; kernel_rfl) (by rw [HQ.out]; exact fun _ _ _ h => h) (Or.inl ⟨by rfl, ?_⟩) ⟨_, X1.out⟩ ?_
  · intro w' hSw
    obtain ⟨l, hSw⟩ := hSw
    obtain ⟨_, q1, q2, q3, q4, q5⟩ := hSw.2.1
    go_simp
  try simp only [Act.put, List.setIfInBounds_toArray, List.set_cons_zero, List.set_cons_succ]
  refine wpAnyH_take (i := 9) (v := .pointer (some ⟨bx, 4, none⟩)) (by rw [HO.out]; simp only [List.getElem?_toArray, List.getElem?_cons_succ, List.getElem?_cons_zero]; rfl) (by rw [HO.out]; kernel_rfl) (by rw [HO.out]; kernel_rfl) (by rw [HO.out]; kernel_rfl) (by rw [HQ.out]; exact fun _ _ _ h => h) (Or.inl ⟨by rfl, ?_⟩) ⟨_, X1.out⟩ ?_
  · intro w' hSw
    go_simp
  try simp only [Act.put, List.setIfInBounds_toArray, List.set_cons_zero, List.set_cons_succ]
  refine wpAnyH_take (i := 10) (v := .slice ta r.T.length tc) (by rw [HO.out]; simp only [List.getElem?_toArray, List.getElem?_cons_succ, List.getElem?_cons_zero]; rfl) (by rw [HO.out]; kernel_rfl) (by rw [HO.out]; kernel_rfl) (by rw [HO.out]; kernel_rfl) (by rw [HQ.out]; exact fun _ _ _ h => h) (Or.inl ⟨by rfl, ?_⟩) ⟨_, X1.out⟩ ?_
  · intro w' hSw
    obtain ⟨l, hSw⟩ := hSw
    obtain ⟨_, q1, q2, q3, q4, q5⟩ := hSw.2.1
    go_simp
  try simp only [Act.put, List.setIfInBounds_toArray, List.set_cons_zero, List.set_cons_succ]
  refine wpAnyH_take (i := 11) (v := .int .i64 r.T.length) (by rw [HO.out]; simp only [List.getElem?_toArray, List.getElem?_cons_succ, List.getElem?_cons_zero]; rfl) (by rw [HO.out]; kernel_rfl) (by rw [HO.out]; kernel_rfl) (by rw [HO.out]; kernel_rfl) (by rw [HQ.out]; exact fun _ _ _ h => h) (Or.inl ⟨by rfl, ?_⟩) ⟨_, X1.out⟩ ?_
  · intro w' hSw
    go_simp
  try simp only [Act.put, List.setIfInBounds_toArray, List.set_cons_zero, List.set_cons_succ]
  refine wpAnyH_take (i := 12) (v := .pointer (some ⟨bx, 5, none⟩)) (by rw [HO.out]; simp only [List.getElem?_toArray, List.getElem?_cons_succ, List.getElem?_cons_zero]; rfl) (by rw [HO.out]; kernel_rfl) (by rw [HO.out]; kernel_rfl) (by rw [HO.out]; kernel_rfl) (by rw [HQ.out]; exact fun _ _ _ h => h) (Or.inl ⟨by rfl, ?_⟩) ⟨_, X1.out⟩ ?_
  · intro w' hSw
    go_simp
  try simp only [Act.put, List.setIfInBounds_toArray, List.set_cons_zero, List.set_cons_succ]
  refine wpAnyH_take (i := 13) (v := .slice ma r.M.length mc) (by rw [HO.out]; simp only [List.getElem?_toArray, List.getElem?_cons_succ, List.getElem?_cons_zero]; rfl) (by rw [HO.out]; kernel_rfl) (by rw [HO.out]; kernel_rfl) (by rw [HO.out]; kernel_rfl) (by rw [HQ.out]; exact fun _ _ _ h => h) (Or.inl ⟨by rfl, ?_⟩) ⟨_, X1.out⟩ ?_
  · intro w' hSw
    obtain ⟨l, hSw⟩ := hSw
    obtain ⟨_, q1, q2, q3, q4, q5⟩ := hSw.2.1
    go_simp
  try simp only [Act.put, List.setIfInBounds_toArray, List.set_cons_zero, List.set_cons_succ]
  refine wpAnyH_take (i := 14) (v := .int .i64 r.M.length) (by rw [HO.out]; simp only [List.getElem?_toArray, List.getElem?_cons_succ, List.getElem?_cons_zero]; rfl) (by rw [HO.out]; kernel_rfl) (by rw [HO.out]; kernel_rfl) (by rw [HO.out]; kernel_rfl) (by rw [HQ.out]; exact fun _ _ _ h => h) (Or.inl ⟨by rfl, ?_⟩) ⟨_, X1.out⟩ ?_
  · intro w' hSw
    go_simp
  try simp only [Act.put, List.setIfInBounds_toArray, List.set_cons_zero, List.set_cons_succ]
  refine wpAnyH_take (i := 17) (v := .pointer (some ⟨bx, 4, none⟩)) (by rw [HO.out]; simp only [List.getElem?_toArray, List.getElem?_cons_succ, List.getElem?_cons_zero]; rfl) (by rw [HO.out]; kernel_rfl) (by rw [HO.out]; kernel_rfl) (by rw [HO.out]; kernel_rfl) (by rw [HQ.out]; exact fun _ _ _ h => h) (Or.inl ⟨by rfl, ?_⟩) ⟨_, X1.out⟩ ?_
  · intro w' hSw
    go_simp
  try simp only [Act.put, List.setIfInBounds_toArray, List.set_cons_zero, List.set_cons_succ]
  refine wpAnyH_take (i := 18) (v := .slice ta r.T.length tc) (by rw [HO.out]; simp only [List.getElem?_toArray, List.getElem?_cons_succ, List.getElem?_cons_zero]; rfl) (by rw [HO.out]; kernel_rfl) (by rw [HO.out]; kernel_rfl) (by rw [HO.out]; kernel_rfl) (by rw [HQ.out]; exact fun _ _ _ h => h) (Or.inl ⟨by rfl, ?_⟩) ⟨_, X1.out⟩ ?_
  · intro w' hSw
    obtain ⟨l, hSw⟩ := hSw
    obtain ⟨_, q1, q2, q3, q4, q5⟩ := hSw.2.1
    go_simp
  try simp only [Act.put, List.setIfInBounds_toArray, List.set_cons_zero, List.set_cons_succ]
  refine wpAnyH_take (i := 20) (v := .pointer (some ⟨bx, 5, none⟩)) (by rw [HO.out]; simp only [List.getElem?_toArray, List.getElem?_cons_succ, List.getElem?_cons_zero]; rfl) (by rw [HO.out]; kernel_rfl) (by rw [HO.out]; kernel_rfl) (by rw [HO.out]; kernel_rfl) (by rw [HQ.out]; exact fun _ _ _ h => h) (Or.inl ⟨by rfl, ?_⟩) ⟨_, X1.out⟩ ?_
  · intro w' hSw
    go_simp
  try simp only [Act.put, List.setIfInBounds_toArray, List.set_cons_zero, List.set_cons_succ]
  refine wpAnyH_take (i := 21) (v := .slice ma r.M.length mc) (by rw [HO.out]; simp only [List.getElem?_toArray, List.getElem?_cons_succ, List.getElem?_cons_zero]; rfl) (by rw [HO.out]; kernel_rfl) (by rw [HO.out]; kernel_rfl) (by rw [HO.out]; kernel_rfl) (by rw [HQ.out]; exact fun _ _ _ h => h) (Or.inl ⟨by rfl, ?_⟩) ⟨_, X1.out⟩ ?_
  · intro w' hSw
    obtain ⟨l, hSw⟩ := hSw
    obtain ⟨_, q1, q2, q3, q4, q5⟩ := hSw.2.1
    go_simp
  try simp only [Act.put, List.setIfInBounds_toArray, List.set_cons_zero, List.set_cons_succ]
  refine wpAnyH_take (i := 23) (v := .func (.func 231) #[] #[.pointer (some ⟨a1, 0, none⟩), .pointer (some ⟨b1, 0, none⟩)]) (by rw [HO.out]; simp only [List.getElem?_toArray, List.getElem?_cons_succ, List.getElem?_cons_zero]; rfl) (by rw [HO.out]; kernel_rfl) (by rw [HO.out]; kernel_rfl) (by rw [HO.out]; kernel_rfl) (by rw [HQ.out]; exact fun _ _ _ h => h) (Or.inl ⟨by rfl, ?_⟩) ⟨_, X1.out⟩ ?_
  · intro w' hSw
    go_simp
  try simp only [Act.put, List.setIfInBounds_toArray, List.set_cons_zero, List.set_cons_succ]
  refine wpAnyH_ready (rs := [7, 15]) (by rw [HO.out]; kernel_rfl) (by simp) ?_
  refine AllReadyH.cons (o := _) (by rw [HO.out]; simp only [List.getElem?_toArray, List.getElem?_cons_succ, List.getElem?_cons_zero]; rfl) (fun K7 hK7 => ?_) ?_
  · go_simp
    have hal7 : Below w1.drew.heap.size w1.drew (w1.drew.alloc (.cells #[.int .i64 r.B, .int .i64 r.N, .int .i64 r.S] 3)) := (Below.refl _ _).alloc (Nat.le_refl _) _
    have Y7 : Hid (LS w (w1.drew.alloc (.cells #[.int .i64 r.B, .int .i64 r.N, .int .i64 r.S] 3)) bx r ta tc ma mc [(a1, b1, 6, [r.E])]) := X1.out.below hal7
    have I7 : Hid (IV (w1.drew.alloc (.cells #[.int .i64 r.B, .int .i64 r.N, .int .i64 r.S] 3)) (some ⟨w1.drew.heap.size, 0, none⟩) [r.B, r.N, r.S]) := iv_lit w1.drew [r.B, r.N, r.S]
    refine hK7.out _ _ ⟨_, Y7.out⟩ (fun _ => ?_)
    try simp only [Act.put, List.setIfInBounds_toArray, List.set_cons_zero, List.set_cons_succ]
    refine wpAnyH_ready (rs := [8, 15]) (by rw [HO.out]; kernel_rfl) (by simp) ?_
    refine AllReadyH.cons (o := _) (by rw [HO.out]; simp only [List.getElem?_toArray, List.getElem?_cons_succ, List.getElem?_cons_zero]; rfl) (fun K8 hK8 => ?_) ?_
    · go_simp
      refine (nf_new 2 (some ⟨w1.heap.size, 0, none⟩) 3 [r.B, r.N, r.S] _ I7.out).mono ?_
      rintro e w2 ⟨a2, b2, rfl, HN2, hb2⟩
      have X2 : Hid (LS w w2 bx r ta tc ma mc [(a2, b2, 2, [r.B, r.N, r.S]), (a1, b1, 6, [r.E])]) := (Y7.out.below hb2).add HN2.out
      refine hK8.out _ _ ⟨_, X2.out⟩ (fun _ => ?_)
      try simp only [Act.put, List.setIfInBounds_toArray, List.set_cons_zero, List.set_cons_succ]
      refine wpAnyH_ready (rs := [15]) (by rw [HO.out]; kernel_rfl) (by simp) ?_
      refine AllReadyH.cons (o := _) (by rw [HO.out]; simp only [List.getElem?_toArray, List.getElem?_cons_succ, List.getElem?_cons_zero]; rfl) (fun K15 hK15 => ?_) ?_
      · go_simp
        have hal15 : Below w2.heap.size w2 (w2.alloc (.cells #[.int .i64 (r.T.length : Int), .int .i64 (r.M.length : Int)] 3)) := (Below.refl _ _).alloc (Nat.le_refl _) _
        have Y15 : Hid (LS w (w2.alloc (.cells #[.int .i64 (r.T.length : Int), .int .i64 (r.M.length : Int)] 3)) bx r ta tc ma mc [(a2, b2, 2, [r.B, r.N, r.S]), (a1, b1, 6, [r.E])]) := X2.out.below hal15
        have I15 : Hid (IV (w2.alloc (.cells #[.int .i64 (r.T.length : Int), .int .i64 (r.M.length : Int)] 3)) (some ⟨w2.heap.size, 0, none⟩) [(r.T.length : Int), (r.M.length : Int)]) := iv_lit w2 [(r.T.length : Int), (r.M.length : Int)]
        refine hK15.out _ _ ⟨_, Y15.out⟩ (fun _ => ?_)
        try simp only [Act.put, List.setIfInBounds_toArray, List.set_cons_zero, List.set_cons_succ]
        refine wpAnyH_ready (rs := [16]) (by rw [HO.out]; kernel_rfl) (by simp) ?_
        refine AllReadyH.cons (o := _) (by rw [HO.out]; simp only [List.getElem?_toArray, List.getElem?_cons_succ, List.getElem?_cons_zero]; rfl) (fun K16 hK16 => ?_) ?_
        · go_simp
          refine (nf_new 1 (some ⟨w2.heap.size, 0, none⟩) 2 [(r.T.length : Int), (r.M.length : Int)] _ I15.out).mono ?_
          rintro e w3 ⟨a3, b3, rfl, HN3, hb3⟩
          have X3 : Hid (LS w w3 bx r ta tc ma mc [(a3, b3, 1, [(r.T.length : Int), (r.M.length : Int)]), (a2, b2, 2, [r.B, r.N, r.S]), (a1, b1, 6, [r.E])]) := (Y15.out.below hb3).add HN3.out
          refine hK16.out _ _ ⟨_, X3.out⟩ (fun _ => ?_)
          try simp only [Act.put, List.setIfInBounds_toArray, List.set_cons_zero, List.set_cons_succ]
          refine wpAnyH_ready (rs := [19]) (by rw [HO.out]; kernel_rfl) (by simp) ?_
          refine AllReadyH.cons (o := _) (by rw [HO.out]; simp only [List.getElem?_toArray, List.getElem?_cons_succ, List.getElem?_cons_zero]; rfl) (fun K19 hK19 => ?_) ?_
          · go_simp
            refine (nf_new 2 ta tc r.T _ X3.out.2.2.1.t).mono ?_
            rintro e w4 ⟨a4, b4, rfl, HN4, hb4⟩
            have X4 : Hid (LS w w4 bx r ta tc ma mc [(a4, b4, 2, r.T), (a3, b3, 1, [(r.T.length : Int), (r.M.length : Int)]), (a2, b2, 2, [r.B, r.N, r.S]), (a1, b1, 6, [r.E])]) := (X3.out.below hb4).add HN4.out
            refine hK19.out _ _ ⟨_, X4.out⟩ (fun _ => ?_)
            try simp only [Act.put, List.setIfInBounds_toArray, List.set_cons_zero, List.set_cons_succ]
            refine wpAnyH_ready (rs := [22]) (by rw [HO.out]; kernel_rfl) (by simp) ?_
            refine AllReadyH.cons (o := _) (by rw [HO.out]; simp only [List.getElem?_toArray, List.getElem?_cons_succ, List.getElem?_cons_zero]; rfl) (fun K22 hK22 => ?_) ?_
            · go_simp
              refine (nf_new 2 ma mc r.M _ X4.out.2.2.1.m).mono ?_
              rintro e w5 ⟨a5, b5, rfl, HN5, hb5⟩
              have X5 : Hid (LS w w5 bx r ta tc ma mc [(a5, b5, 2, r.M), (a4, b4, 2, r.T), (a3, b3, 1, [(r.T.length : Int), (r.M.length : Int)]), (a2, b2, 2, [r.B, r.N, r.S]), (a1, b1, 6, [r.E])]) := (X4.out.below hb5).add HN5.out
              refine hK22.out _ _ ⟨_, X5.out⟩ (fun _ => ?_)
              try simp only [Act.put, List.setIfInBounds_toArray, List.set_cons_zero, List.set_cons_succ]
              refine wpAnyH_ready (rs := [24]) (by rw [HO.out]; kernel_rfl) (by simp) ?_
              refine AllReadyH.cons (o := _) (by rw [HO.out]; simp only [List.getElem?_toArray, List.getElem?_cons_succ, List.getElem?_cons_zero]; rfl) (fun K24 hK24 => ?_) ?_
              · go_simp
                have hal24 : Below w5.heap.size w5 (w5.alloc (.cells #[.func (.func 211) #[] #[], .func (.func 231) #[] #[.pointer (some ⟨a1, 0, none⟩), .pointer (some ⟨b1, 0, none⟩)], .func (.func 231) #[] #[.pointer (some ⟨a2, 0, none⟩), .pointer (some ⟨b2, 0, none⟩)], .func (.func 231) #[] #[.pointer (some ⟨a3, 0, none⟩), .pointer (some ⟨b3, 0, none⟩)], .func (.func 231) #[] #[.pointer (some ⟨a4, 0, none⟩), .pointer (some ⟨b4, 0, none⟩)], .func (.func 231) #[] #[.pointer (some ⟨a5, 0, none⟩), .pointer (some ⟨b5, 0, none⟩)], .func (.func 212) #[] #[], .func (.func 213) #[] #[], .func (.func 231) #[] #[.pointer (some ⟨a1, 0, none⟩), .pointer (some ⟨b1, 0, none⟩)]] 107)) := (Below.refl _ _).alloc (Nat.le_refl _) _
                have X6 : Hid (LS w _ bx r ta tc ma mc [(a5, b5, 2, r.M), (a4, b4, 2, r.T), (a3, b3, 1, [(r.T.length : Int), (r.M.length : Int)]), (a2, b2, 2, [r.B, r.N, r.S]), (a1, b1, 6, [r.E])]) := X5.out.below hal24
                refine hK24.out _ _ ⟨_, X6.out⟩ (fun _ => ?_)
                try simp only [Act.put, List.setIfInBounds_toArray, List.set_cons_zero, List.set_cons_succ]
                refine wpAnyH_ready (rs := [25]) (by rw [HO.out]; kernel_rfl) (by simp) ?_
                refine AllReadyH.cons (o := _) (by rw [HO.out]; simp only [List.getElem?_toArray, List.getElem?_cons_succ, List.getElem?_cons_zero]; rfl) (fun K25 hK25 => ?_) ?_
                · go_simp
                  refine hK25.out _ _ ⟨_, X6.out⟩ (fun _ => ?_)
                  try simp only [Act.put, List.setIfInBounds_toArray, List.set_cons_zero, List.set_cons_succ]
                  refine wpAnyH_done (by rw [HO.out]; kernel_rfl) ?_ _
                  rw [HQ.out]
                  refine NoPanic.normal ?_
                  go_wp2_with fail
                  go_ret
                  exact layers_end X6.out (heap_alloc_last _ _)
                exact AllReadyH.nil
              exact AllReadyH.nil
            exact AllReadyH.nil
          exact AllReadyH.nil
        exact AllReadyH.nil
      exact AllReadyH.nil
    refine AllReadyH.cons (o := _) (by rw [HO.out]; simp only [List.getElem?_toArray, List.getElem?_cons_succ, List.getElem?_cons_zero]; rfl) (fun K15 hK15 => ?_) ?_
    · go_simp
      have hal15 : Below (w1.drew.alloc (.cells #[.int .i64 r.B, .int .i64 r.N, .int .i64 r.S] 3)).heap.size (w1.drew.alloc (.cells #[.int .i64 r.B, .int .i64 r.N, .int .i64 r.S] 3)) ((w1.drew.alloc (.cells #[.int .i64 r.B, .int .i64 r.N, .int .i64 r.S] 3)).alloc (.cells #[.int .i64 (r.T.length : Int), .int .i64 (r.M.length : Int)] 3)) := (Below.refl _ _).alloc (Nat.le_refl _) _
      have Z15 : Hid (LS w ((w1.drew.alloc (.cells #[.int .i64 r.B, .int .i64 r.N, .int .i64 r.S] 3)).alloc (.cells #[.int .i64 (r.T.length : Int), .int .i64 (r.M.length : Int)] 3)) bx r ta tc ma mc [(a1, b1, 6, [r.E])]) := Y7.out.below hal15
      have J15 : Hid (IV ((w1.drew.alloc (.cells #[.int .i64 r.B, .int .i64 r.N, .int .i64 r.S] 3)).alloc (.cells #[.int .i64 (r.T.length : Int), .int .i64 (r.M.length : Int)] 3)) (some ⟨w1.heap.size + 1, 0, none⟩) [(r.T.length : Int), (r.M.length : Int)]) := by
        have h := iv_lit (w1.drew.alloc (.cells #[.int .i64 r.B, .int .i64 r.N, .int .i64 r.S] 3)) [(r.T.length : Int), (r.M.length : Int)]
        rw [World.size_alloc] at h
        exact h
      have I7b : Hid (IV ((w1.drew.alloc (.cells #[.int .i64 r.B, .int .i64 r.N, .int .i64 r.S] 3)).alloc (.cells #[.int .i64 (r.T.length : Int), .int .i64 (r.M.length : Int)] 3)) (some ⟨w1.heap.size, 0, none⟩) [r.B, r.N, r.S]) := I7.out.below hal15
      refine hK15.out _ _ ⟨_, Z15.out⟩ (fun _ => ?_)
      try simp only [Act.put, List.setIfInBounds_toArray, List.set_cons_zero, List.set_cons_succ]
      refine wpAnyH_ready (rs := [8]) (by rw [HO.out]; kernel_rfl) (by simp) ?_
      refine AllReadyH.cons (o := _) (by rw [HO.out]; simp only [List.getElem?_toArray, List.getElem?_cons_succ, List.getElem?_cons_zero]; rfl) (fun K8 hK8 => ?_) ?_
      · go_simp
        refine (nf_new 2 (some ⟨w1.heap.size, 0, none⟩) 3 [r.B, r.N, r.S] _ I7b.out).mono ?_
        rintro e w2 ⟨a2, b2, rfl, HN2, hb2⟩
        have X2 : Hid (LS w w2 bx r ta tc ma mc [(a2, b2, 2, [r.B, r.N, r.S]), (a1, b1, 6, [r.E])]) := (Z15.out.below hb2).add HN2.out
        have J2 : Hid (IV w2 (some ⟨w1.heap.size + 1, 0, none⟩) [(r.T.length : Int), (r.M.length : Int)]) := J15.out.below hb2
        refine hK8.out _ _ ⟨_, X2.out⟩ (fun _ => ?_)
        try simp only [Act.put, List.setIfInBounds_toArray, List.set_cons_zero, List.set_cons_succ]
        refine wpAnyH_ready (rs := [16]) (by rw [HO.out]; kernel_rfl) (by simp) ?_
        refine AllReadyH.cons (o := _) (by rw [HO.out]; simp only [List.getElem?_toArray, List.getElem?_cons_succ, List.getElem?_cons_zero]; rfl) (fun K16 hK16 => ?_) ?_
        · go_simp
          refine (nf_new 1 (some ⟨w1.heap.size + 1, 0, none⟩) 2 [(r.T.length : Int), (r.M.length : Int)] _ J2.out).mono ?_
          rintro e w3 ⟨a3, b3, rfl, HN3, hb3⟩
          have X3 : Hid (LS w w3 bx r ta tc ma mc [(a3, b3, 1, [(r.T.length : Int), (r.M.length : Int)]), (a2, b2, 2, [r.B, r.N, r.S]), (a1, b1, 6, [r.E])]) := (X2.out.below hb3).add HN3.out
          refine hK16.out _ _ ⟨_, X3.out⟩ (fun _ => ?_)
          try simp only [Act.put, List.setIfInBounds_toArray, List.set_cons_zero, List.set_cons_succ]
          refine wpAnyH_ready (rs := [19]) (by rw [HO.out]; kernel_rfl) (by simp) ?_
          refine AllReadyH.cons (o := _) (by rw [HO.out]; simp only [List.getElem?_toArray, List.getElem?_cons_succ, List.getElem?_cons_zero]; rfl) (fun K19 hK19 => ?_) ?_
          · go_simp
            refine (nf_new 2 ta tc r.T _ X3.out.2.2.1.t).mono ?_
            rintro e w4 ⟨a4, b4, rfl, HN4, hb4⟩
            have X4 : Hid (LS w w4 bx r ta tc ma mc [(a4, b4, 2, r.T), (a3, b3, 1, [(r.T.length : Int), (r.M.length : Int)]), (a2, b2, 2, [r.B, r.N, r.S]), (a1, b1, 6, [r.E])]) := (X3.out.below hb4).add HN4.out
            refine hK19.out _ _ ⟨_, X4.out⟩ (fun _ => ?_)
            try simp only [Act.put, List.setIfInBounds_toArray, List.set_cons_zero, List.set_cons_succ]
            refine wpAnyH_ready (rs := [22]) (by rw [HO.out]; kernel_rfl) (by simp) ?_
            refine AllReadyH.cons (o := _) (by rw [HO.out]; simp only [List.getElem?_toArray, List.getElem?_cons_succ, List.getElem?_cons_zero]; rfl) (fun K22 hK22 => ?_) ?_
            · go_simp
              refine (nf_new 2 ma mc r.M _ X4.out.2.2.1.m).mono ?_
              rintro e w5 ⟨a5, b5, rfl, HN5, hb5⟩
              have X5 : Hid (LS w w5 bx r ta tc ma mc [(a5, b5, 2, r.M), (a4, b4, 2, r.T), (a3, b3, 1, [(r.T.length : Int), (r.M.length : Int)]), (a2, b2, 2, [r.B, r.N, r.S]), (a1, b1, 6, [r.E])]) := (X4.out.below hb5).add HN5.out
              refine hK22.out _ _ ⟨_, X5.out⟩ (fun _ => ?_)
              try simp only [Act.put, List.setIfInBounds_toArray, List.set_cons_zero, List.set_cons_succ]
              refine wpAnyH_ready (rs := [24]) (by rw [HO.out]; kernel_rfl) (by simp) ?_
              refine AllReadyH.cons (o := _) (by rw [HO.out]; simp only [List.getElem?_toArray, List.getElem?_cons_succ, List.getElem?_cons_zero]; rfl) (fun K24 hK24 => ?_) ?_
              · go_simp
                have hal24 : Below w5.heap.size w5 (w5.alloc (.cells #[.func (.func 211) #[] #[], .func (.func 231) #[] #[.pointer (some ⟨a1, 0, none⟩), .pointer (some ⟨b1, 0, none⟩)], .func (.func 231) #[] #[.pointer (some ⟨a2, 0, none⟩), .pointer (some ⟨b2, 0, none⟩)], .func (.func 231) #[] #[.pointer (some ⟨a3, 0, none⟩), .pointer (some ⟨b3, 0, none⟩)], .func (.func 231) #[] #[.pointer (some ⟨a4, 0, none⟩), .pointer (some ⟨b4, 0, none⟩)], .func (.func 231) #[] #[.pointer (some ⟨a5, 0, none⟩), .pointer (some ⟨b5, 0, none⟩)], .func (.func 212) #[] #[], .func (.func 213) #[] #[], .func (.func 231) #[] #[.pointer (some ⟨a1, 0, none⟩), .pointer (some ⟨b1, 0, none⟩)]] 107)) := (Below.refl _ _).alloc (Nat.le_refl _) _
                have X6 : Hid (LS w _ bx r ta tc ma mc [(a5, b5, 2, r.M), (a4, b4, 2, r.T), (a3, b3, 1, [(r.T.length : Int), (r.M.length : Int)]), (a2, b2, 2, [r.B, r.N, r.S]), (a1, b1, 6, [r.E])]) := X5.out.below hal24
                refine hK24.out _ _ ⟨_, X6.out⟩ (fun _ => ?_)
                try simp only [Act.put, List.setIfInBounds_toArray, List.set_cons_zero, List.set_cons_succ]
                refine wpAnyH_ready (rs := [25]) (by rw [HO.out]; kernel_rfl) (by simp) ?_
                refine AllReadyH.cons (o := _) (by rw [HO.out]; simp only [List.getElem?_toArray, List.getElem?_cons_succ, List.getElem?_cons_zero]; rfl) (fun K25 hK25 => ?_) ?_
                · go_simp
                  refine hK25.out _ _ ⟨_, X6.out⟩ (fun _ => ?_)
                  try simp only [Act.put, List.setIfInBounds_toArray, List.set_cons_zero, List.set_cons_succ]
                  refine wpAnyH_done (by rw [HO.out]; kernel_rfl) ?_ _
                  rw [HQ.out]
                  refine NoPanic.normal ?_
                  go_wp2_with fail
                  go_ret
                  exact layers_end X6.out (heap_alloc_last _ _)
                exact AllReadyH.nil
              exact AllReadyH.nil
            exact AllReadyH.nil
          exact AllReadyH.nil
        exact AllReadyH.nil
      exact AllReadyH.nil
    exact AllReadyH.nil
  refine AllReadyH.cons (o := _) (by rw [HO.out]; simp only [List.getElem?_toArray, List.getElem?_cons_succ, List.getElem?_cons_zero]; rfl) (fun K15 hK15 => ?_) ?_
  · go_simp
    have hal15 : Below w1.drew.heap.size w1.drew (w1.drew.alloc (.cells #[.int .i64 (r.T.length : Int), .int .i64 (r.M.length : Int)] 3)) := (Below.refl _ _).alloc (Nat.le_refl _) _
    have U15h : Hid (LS w (w1.drew.alloc (.cells #[.int .i64 (r.T.length : Int), .int .i64 (r.M.length : Int)] 3)) bx r ta tc ma mc [(a1, b1, 6, [r.E])]) := X1.out.below hal15
    have K15h : Hid (IV (w1.drew.alloc (.cells #[.int .i64 (r.T.length : Int), .int .i64 (r.M.length : Int)] 3)) (some ⟨w1.drew.heap.size, 0, none⟩) [(r.T.length : Int), (r.M.length : Int)]) := iv_lit w1.drew [(r.T.length : Int), (r.M.length : Int)]
    refine hK15.out _ _ ⟨_, U15h.out⟩ (fun _ => ?_)
    try simp only [Act.put, List.setIfInBounds_toArray, List.set_cons_zero, List.set_cons_succ]
    refine wpAnyH_ready (rs := [7]) (by rw [HO.out]; kernel_rfl) (by simp) ?_
    refine AllReadyH.cons (o := _) (by rw [HO.out]; simp only [List.getElem?_toArray, List.getElem?_cons_succ, List.getElem?_cons_zero]; rfl) (fun K7 hK7 => ?_) ?_
    · go_simp
      have hal7 : Below (w1.drew.alloc (.cells #[.int .i64 (r.T.length : Int), .int .i64 (r.M.length : Int)] 3)).heap.size (w1.drew.alloc (.cells #[.int .i64 (r.T.length : Int), .int .i64 (r.M.length : Int)] 3)) ((w1.drew.alloc (.cells #[.int .i64 (r.T.length : Int), .int .i64 (r.M.length : Int)] 3)).alloc (.cells #[.int .i64 r.B, .int .i64 r.N, .int .i64 r.S] 3)) := (Below.refl _ _).alloc (Nat.le_refl _) _
      have U7h : Hid (LS w ((w1.drew.alloc (.cells #[.int .i64 (r.T.length : Int), .int .i64 (r.M.length : Int)] 3)).alloc (.cells #[.int .i64 r.B, .int .i64 r.N, .int .i64 r.S] 3)) bx r ta tc ma mc [(a1, b1, 6, [r.E])]) := U15h.out.below hal7
      have K7h : Hid (IV ((w1.drew.alloc (.cells #[.int .i64 (r.T.length : Int), .int .i64 (r.M.length : Int)] 3)).alloc (.cells #[.int .i64 r.B, .int .i64 r.N, .int .i64 r.S] 3)) (some ⟨w1.heap.size + 1, 0, none⟩) [r.B, r.N, r.S]) := by
        have h := iv_lit (w1.drew.alloc (.cells #[.int .i64 (r.T.length : Int), .int .i64 (r.M.length : Int)] 3)) [r.B, r.N, r.S]
        rw [World.size_alloc] at h
        exact h
      have K15b : Hid (IV ((w1.drew.alloc (.cells #[.int .i64 (r.T.length : Int), .int .i64 (r.M.length : Int)] 3)).alloc (.cells #[.int .i64 r.B, .int .i64 r.N, .int .i64 r.S] 3)) (some ⟨w1.heap.size, 0, none⟩) [(r.T.length : Int), (r.M.length : Int)]) := K15h.out.below hal7
      refine hK7.out _ _ ⟨_, U7h.out⟩ (fun _ => ?_)
      try simp only [Act.put, List.setIfInBounds_toArray, List.set_cons_zero, List.set_cons_succ]
      refine wpAnyH_ready (rs := [8]) (by rw [HO.out]; kernel_rfl) (by simp) ?_
      refine AllReadyH.cons (o := _) (by rw [HO.out]; simp only [List.getElem?_toArray, List.getElem?_cons_succ, List.getElem?_cons_zero]; rfl) (fun K8 hK8 => ?_) ?_
      · go_simp
        refine (nf_new 2 (some ⟨w1.heap.size + 1, 0, none⟩) 3 [r.B, r.N, r.S] _ K7h.out).mono ?_
        rintro e w2 ⟨a2, b2, rfl, HN2, hb2⟩
        have X2 : Hid (LS w w2 bx r ta tc ma mc [(a2, b2, 2, [r.B, r.N, r.S]), (a1, b1, 6, [r.E])]) := (U7h.out.below hb2).add HN2.out
        have J2 : Hid (IV w2 (some ⟨w1.heap.size, 0, none⟩) [(r.T.length : Int), (r.M.length : Int)]) := K15b.out.below hb2
        refine hK8.out _ _ ⟨_, X2.out⟩ (fun _ => ?_)
        try simp only [Act.put, List.setIfInBounds_toArray, List.set_cons_zero, List.set_cons_succ]
        refine wpAnyH_ready (rs := [16]) (by rw [HO.out]; kernel_rfl) (by simp) ?_
        refine AllReadyH.cons (o := _) (by rw [HO.out]; simp only [List.getElem?_toArray, List.getElem?_cons_succ, List.getElem?_cons_zero]; rfl) (fun K16 hK16 => ?_) ?_
        · go_simp
          refine (nf_new 1 (some ⟨w1.heap.size, 0, none⟩) 2 [(r.T.length : Int), (r.M.length : Int)] _ J2.out).mono ?_
          rintro e w3 ⟨a3, b3, rfl, HN3, hb3⟩
          have X3 : Hid (LS w w3 bx r ta tc ma mc [(a3, b3, 1, [(r.T.length : Int), (r.M.length : Int)]), (a2, b2, 2, [r.B, r.N, r.S]), (a1, b1, 6, [r.E])]) := (X2.out.below hb3).add HN3.out
          refine hK16.out _ _ ⟨_, X3.out⟩ (fun _ => ?_)
          try simp only [Act.put, List.setIfInBounds_toArray, List.set_cons_zero, List.set_cons_succ]
          refine wpAnyH_ready (rs := [19]) (by rw [HO.out]; kernel_rfl) (by simp) ?_
          refine AllReadyH.cons (o := _) (by rw [HO.out]; simp only [List.getElem?_toArray, List.getElem?_cons_succ, List.getElem?_cons_zero]; rfl) (fun K19 hK19 => ?_) ?_
          · go_simp
            refine (nf_new 2 ta tc r.T _ X3.out.2.2.1.t).mono ?_
            rintro e w4 ⟨a4, b4, rfl, HN4, hb4⟩
            have X4 : Hid (LS w w4 bx r ta tc ma mc [(a4, b4, 2, r.T), (a3, b3, 1, [(r.T.length : Int), (r.M.length : Int)]), (a2, b2, 2, [r.B, r.N, r.S]), (a1, b1, 6, [r.E])]) := (X3.out.below hb4).add HN4.out
            refine hK19.out _ _ ⟨_, X4.out⟩ (fun _ => ?_)
            try simp only [Act.put, List.setIfInBounds_toArray, List.set_cons_zero, List.set_cons_succ]
            refine wpAnyH_ready (rs := [22]) (by rw [HO.out]; kernel_rfl) (by simp) ?_
            refine AllReadyH.cons (o := _) (by rw [HO.out]; simp only [List.getElem?_toArray, List.getElem?_cons_succ, List.getElem?_cons_zero]; rfl) (fun K22 hK22 => ?_) ?_
            · go_simp
              refine (nf_new 2 ma mc r.M _ X4.out.2.2.1.m).mono ?_
              rintro e w5 ⟨a5, b5, rfl, HN5, hb5⟩
              have X5 : Hid (LS w w5 bx r ta tc ma mc [(a5, b5, 2, r.M), (a4, b4, 2, r.T), (a3, b3, 1, [(r.T.length : Int), (r.M.length : Int)]), (a2, b2, 2, [r.B, r.N, r.S]), (a1, b1, 6, [r.E])]) := (X4.out.below hb5).add HN5.out
              refine hK22.out _ _ ⟨_, X5.out⟩ (fun _ => ?_)
              try simp only [Act.put, List.setIfInBounds_toArray, List.set_cons_zero, List.set_cons_succ]
              refine wpAnyH_ready (rs := [24]) (by rw [HO.out]; kernel_rfl) (by simp) ?_
              refine AllReadyH.cons (o := _) (by rw [HO.out]; simp only [List.getElem?_toArray, List.getElem?_cons_succ, List.getElem?_cons_zero]; rfl) (fun K24 hK24 => ?_) ?_
              · go_simp
                have hal24 : Below w5.heap.size w5 (w5.alloc (.cells #[.func (.func 211) #[] #[], .func (.func 231) #[] #[.pointer (some ⟨a1, 0, none⟩), .pointer (some ⟨b1, 0, none⟩)], .func (.func 231) #[] #[.pointer (some ⟨a2, 0, none⟩), .pointer (some ⟨b2, 0, none⟩)], .func (.func 231) #[] #[.pointer (some ⟨a3, 0, none⟩), .pointer (some ⟨b3, 0, none⟩)], .func (.func 231) #[] #[.pointer (some ⟨a4, 0, none⟩), .pointer (some ⟨b4, 0, none⟩)], .func (.func 231) #[] #[.pointer (some ⟨a5, 0, none⟩), .pointer (some ⟨b5, 0, none⟩)], .func (.func 212) #[] #[], .func (.func 213) #[] #[], .func (.func 231) #[] #[.pointer (some ⟨a1, 0, none⟩), .pointer (some ⟨b1, 0, none⟩)]] 107)) := (Below.refl _ _).alloc (Nat.le_refl _) _
                have X6 : Hid (LS w _ bx r ta tc ma mc [(a5, b5, 2, r.M), (a4, b4, 2, r.T), (a3, b3, 1, [(r.T.length : Int), (r.M.length : Int)]), (a2, b2, 2, [r.B, r.N, r.S]), (a1, b1, 6, [r.E])]) := X5.out.below hal24
                refine hK24.out _ _ ⟨_, X6.out⟩ (fun _ => ?_)
                try simp only [Act.put, List.setIfInBounds_toArray, List.set_cons_zero, List.set_cons_succ]
                refine wpAnyH_ready (rs := [25]) (by rw [HO.out]; kernel_rfl) (by simp) ?_
                refine AllReadyH.cons (o := _) (by rw [HO.out]; simp only [List.getElem?_toArray, List.getElem?_cons_succ, List.getElem?_cons_zero]; rfl) (fun K25 hK25 => ?_) ?_
                · go_simp
                  refine hK25.out _ _ ⟨_, X6.out⟩ (fun _ => ?_)
                  try simp only [Act.put, List.setIfInBounds_toArray, List.set_cons_zero, List.set_cons_succ]
                  refine wpAnyH_done (by rw [HO.out]; kernel_rfl) ?_ _
                  rw [HQ.out]
                  refine NoPanic.normal ?_
                  go_wp2_with fail
                  go_ret
                  exact layers_end X6.out (heap_alloc_last _ _)
                exact AllReadyH.nil
              exact AllReadyH.nil
            exact AllReadyH.nil
          exact AllReadyH.nil
        exact AllReadyH.nil
      exact AllReadyH.nil
    exact AllReadyH.nil
  exact AllReadyH.nil
end Go.Proofs.YtbklnadlbcndlaaGreat.R
namespace Go.Proofs.YtbklnadlbcndlaaGreat.R
set_option maxRecDepth 20000
open Go.RowKit
set_option linter.unusedVariables false
theorem putL_dig (n : Int) (x : Nat) (h1 : 1 ≤ x) (h6 : x ≤ 6) (h0 : 0 ≤ n) (hn : n < 256 ^ x) : putL n x = dig n x := by
  unfold putL
  rw [if_neg (by omega), Int.toNat_natCast, if_neg (by omega)]
theorem wides_two : ∀ zs : List Int, (∀ z ∈ zs, 0 ≤ z ∧ z < 65536) → wides 2 zs = twos zs
  | [], _ => rfl
  | z :: zs, h => by
    show putL z 2 ++ wides 2 zs = dig z 2 ++ twos zs
    rw [wides_two zs (fun y hy => h y (by simp [hy]))]
    have := h z (by simp)
    rw [show putL z 2 = dig z 2 from putL_dig z 2 (by decide) (by decide) this.1 this.2]
def pr (r : RD) : Nat → List Int
  | 0 => []
  | 1 => [114, 111, 111, 116]
  | 2 => [114, 111, 111, 116] ++ dig r.E 6
  | 3 => [114, 111, 111, 116] ++ dig r.E 6 ++ (dig r.B 2 ++ dig r.N 2 ++ dig r.S 2)
  | 4 => [114, 111, 111, 116] ++ dig r.E 6 ++ (dig r.B 2 ++ dig r.N 2 ++ dig r.S 2) ++ (dig r.T.length 1 ++ dig r.M.length 1)
  | 5 => [114, 111, 111, 116] ++ dig r.E 6 ++ (dig r.B 2 ++ dig r.N 2 ++ dig r.S 2) ++ (dig r.T.length 1 ++ dig r.M.length 1) ++ twos r.T
  | 6 => frontS r
  | 7 => bodyS r
  | 8 => bodyS r ++ dig (more 0 (bodyS r)) 4
  | _ => putS r
theorem four_all : AllB [114, 111, 111, 116] := by intro z hz; revert z; decide
theorem pr_all (r : RD) : ∀ k, AllB (pr r k)
  | 0 => AllB.nil
  | 1 => four_all
  | 2 => four_all.append (dig_all _ _)
  | 3 => (four_all.append (dig_all _ _)).append (((dig_all _ _).append (dig_all _ _)).append (dig_all _ _))
  | 4 => ((four_all.append (dig_all _ _)).append (((dig_all _ _).append (dig_all _ _)).append (dig_all _ _))).append ((dig_all _ _).append (dig_all _ _))
  | 5 => (((four_all.append (dig_all _ _)).append (((dig_all _ _).append (dig_all _ _)).append (dig_all _ _))).append ((dig_all _ _).append (dig_all _ _))).append (twos_all _)
  | 6 => front_all r
  | 7 => body_all r
  | 8 => (body_all r).append (dig_all _ _)
  | _ + 9 => put_all r
theorem pr_len {r : RD} (h : r.Ok) : ∀ k, (pr r k).length ≤ 256
  | 0 => by simp [pr]
  | 1 => by simp [pr]
  | 2 => by simp [pr, dig_length]
  | 3 => by simp [pr, dig_length]
  | 4 => by simp [pr, dig_length]
  | 5 => by have := h.t1; simp [pr, dig_length, twos_len]; omega
  | 6 => by have := h.t1; have := h.m1; show (frontS r).length ≤ _; rw [front_len]; omega
  | 7 => by show (bodyS r).length ≤ _; rw [body_len h]; omega
  | 8 => by show (bodyS r ++ _).length ≤ _; rw [List.length_append, body_len h, dig_length]; omega
  | _ + 9 => by show (putS r).length ≤ _; rw [put_len h]; omega
theorem laid_step {wL wr w' : World} {e : Ending} {bv : Value} {zs ys : List Int} (ho : Own wr wL.heap.size bv zs) (hb : Below wL.heap.size wL wr) (h : Laid wr w' e ys) : ∃ a c, e = .returned (.slice a ys.length c) ∧ Hid (BV w' a ys ∧ (a = none → c = 0) ∧ Own w' wL.heap.size bv zs ∧ Below wL.heap.size wL w') := by
  obtain ⟨a, c, rfl, h1, h2⟩ := h
  exact ⟨a, c, rfl, h1.out.1, h1.out.2, ho.below h2, hb.trans (h2.mono hb.size)⟩
theorem wides_6 {r : RD} (h : r.Ok) : wides 6 [r.E] = dig r.E 6 := by
  show putL r.E 6 ++ [] = _
  have := h.e0; have := h.e1
  rw [List.append_nil, show putL r.E 6 = dig r.E 6 from putL_dig r.E 6 (by decide) (by decide) (by omega) (by show r.E < 281474976710656; omega)]
theorem wides_3 {r : RD} (h : r.Ok) : wides 2 [r.B, r.N, r.S] = dig r.B 2 ++ dig r.N 2 ++ dig r.S 2 := by
  have := h.b0; have := h.b1; have := h.n0; have := h.n1; have := h.s0; have := h.s1
  rw [wides_two _ (fun z hz => by simp at hz; omega)]
  show dig r.B 2 ++ (dig r.N 2 ++ (dig r.S 2 ++ [])) = _
  rw [List.append_nil, List.append_assoc]
theorem wides_1 {r : RD} (h : r.Ok) : wides 1 [(r.T.length : Int), (r.M.length : Int)] = dig r.T.length 1 ++ dig r.M.length 1 := by
  have := h.t1; have := h.m1
  show putL (r.T.length : Int) 1 ++ (putL (r.M.length : Int) 1 ++ []) = _
  rw [List.append_nil, show putL (r.T.length : Int) 1 = dig r.T.length 1 from putL_dig _ 1 (by decide) (by decide) (by omega) (by show (r.T.length : Int) < 256; omega), show putL (r.M.length : Int) 1 = dig r.M.length 1 from putL_dig _ 1 (by decide) (by decide) (by omega) (by show (r.M.length : Int) < 256; omega)]
theorem wides_T {r : RD} (h : r.Ok) : wides 2 r.T = twos r.T := wides_two _ (fun z hz => by have := h.tb z hz; have := h.b1; omega)
theorem wides_M {r : RD} (h : r.Ok) : wides 2 r.M = twos r.M := wides_two _ (fun z hz => by have := h.mb z hz; have := h.b1; omega)
set_option maxHeartbeats 400000 in
theorem put_bad (r : RD) (ta ma : Option Addr) (tc mc : Nat) (w : World) (hr : Rt w r ta tc ma mc) (h : checkE r ≠ 0) :
    Calls Tryz.prog 107 #[rootV r ta tc ma mc] w fun e w' => e = .returned (.tuple #[.slice none 0 0, .int .i64 (checkE r)]) ∧ Below w.heap.size w w' := by
  obtain ⟨W, hW⟩ : ∃ W, W = w.alloc (.cells #[.int .i64 r.E, .int .i64 r.B, .int .i64 r.N, .int .i64 r.S, .slice ta r.T.length tc, .slice ma r.M.length mc] 151) := ⟨_, rfl⟩
  have hB : Below w.heap.size w W := by rw [hW]; exact (Below.refl _ _).alloc (Nat.le_refl _) _
  have hsz : w.heap.size < W.heap.size := by rw [hW]; simp
  have c0 : W.cell? ⟨w.heap.size, 0, none⟩ = some (.int .i64 r.E) := by rw [hW]; go_simp
  have c1 : W.cell? ⟨w.heap.size, 1, none⟩ = some (.int .i64 r.B) := by rw [hW]; go_simp
  have c2 : W.cell? ⟨w.heap.size, 2, none⟩ = some (.int .i64 r.N) := by rw [hW]; go_simp
  have c3 : W.cell? ⟨w.heap.size, 3, none⟩ = some (.int .i64 r.S) := by rw [hW]; go_simp
  have c4 : W.cell? ⟨w.heap.size, 4, none⟩ = some (.slice ta r.T.length tc) := by rw [hW]; go_simp
  have c5 : W.cell? ⟨w.heap.size, 5, none⟩ = some (.slice ma r.M.length mc) := by rw [hW]; go_simp
  have HC := check_any r ta ma tc mc W (hr.below hB)
  have hd : (checkE r == 0) = false := by simpa using h
  clear h hr
  generalize checkE r = c at *
  unfold rootV at *
  go_enter Tryz.func107, Tryz.ntmps107
  go_wp2_with fail
  rw [← hW]
  clear hW
  refine HC.mono ?_
  rintro e w1 ⟨rfl, hb1⟩
  clear HC
  go_wp2_with fail
  exact bodyPost_ret (v := .tuple #[.slice none 0 0, .int .i64 c]) (by simp [results, Tryz.results107, go_sem]) rfl ⟨rfl, hB.trans (hb1.mono hB.size)⟩
set_option maxHeartbeats 3200000 in
theorem put_good (r : RD) (ta ma : Option Addr) (tc mc : Nat) (w : World) (hr : Rt w r ta tc ma mc) (h : r.Ok) :
    Calls Tryz.prog 107 #[rootV r ta tc ma mc] w fun e w' => ∃ v, e = .returned (.tuple #[v, .int .i64 0]) ∧ Own w' w.heap.size v (putS r) ∧ Below w.heap.size w w' := by
  obtain ⟨W, hW⟩ : ∃ W, W = w.alloc (.cells #[.int .i64 r.E, .int .i64 r.B, .int .i64 r.N, .int .i64 r.S, .slice ta r.T.length tc, .slice ma r.M.length mc] 151) := ⟨_, rfl⟩
  have hB : Below w.heap.size w W := by rw [hW]; exact (Below.refl _ _).alloc (Nat.le_refl _) _
  have hsz : w.heap.size < W.heap.size := by rw [hW]; simp
  have c0 : W.cell? ⟨w.heap.size, 0, none⟩ = some (.int .i64 r.E) := by rw [hW]; go_simp
  have c1 : W.cell? ⟨w.heap.size, 1, none⟩ = some (.int .i64 r.B) := by rw [hW]; go_simp
  have c2 : W.cell? ⟨w.heap.size, 2, none⟩ = some (.int .i64 r.N) := by rw [hW]; go_simp
  have c3 : W.cell? ⟨w.heap.size, 3, none⟩ = some (.int .i64 r.S) := by rw [hW]; go_simp
  have c4 : W.cell? ⟨w.heap.size, 4, none⟩ = some (.slice ta r.T.length tc) := by rw [hW]; go_simp
  have c5 : W.cell? ⟨w.heap.size, 5, none⟩ = some (.slice ma r.M.length mc) := by rw [hW]; go_simp
  have HC := check_any r ta ma tc mc W (hr.below hB)
  rw [checkE_ok h] at HC
  have HLY : Hid (∀ W', Below W.heap.size W W' → Calls Tryz.prog 171 #[rootV r ta tc ma mc] W' fun e w' => LayersPost W' r e w') := fun W' hW' => layers_any r ta ma tc mc W' ((hr.below hB).below hW')
  have HOK : Hid (r.Ok) := h
  clear hr h
  unfold rootV at *
  go_enter Tryz.func107, Tryz.ntmps107
  go_wp2_with fail
  rw [← hW]
  clear hW
  refine HC.mono ?_
  rintro e w1 ⟨rfl, hb1⟩
  have d0 := (hb1.cell (p := ⟨w.heap.size, 0, none⟩) hsz).trans c0
  have d1 := (hb1.cell (p := ⟨w.heap.size, 1, none⟩) hsz).trans c1
  have d2 := (hb1.cell (p := ⟨w.heap.size, 2, none⟩) hsz).trans c2
  have d3 := (hb1.cell (p := ⟨w.heap.size, 3, none⟩) hsz).trans c3
  have d4 := (hb1.cell (p := ⟨w.heap.size, 4, none⟩) hsz).trans c4
  have d5 := (hb1.cell (p := ⟨w.heap.size, 5, none⟩) hsz).trans c5
  clear HC c0 c1 c2 c3 c4 c5
  go_wp2_with (first
    | (go_at_call 171; refine (HLY.out _ hb1).mono ?_; rintro e wL ⟨g, a1, b1, a2, b2, a3, b3, a4, b4, a5, b5, rfl, HL, hbL⟩; clear HLY)
    | fail)
  go_loopw [5, 16] (fun bv iv wr => ∃ k : Nat, k ≤ 9 ∧ iv = .int .i64 k ∧ Hid (Own wr wL.heap.size bv (pr r k)) ∧ Hid (Below wL.heap.size wL wr)) (fun _ iv _ => 9 - (intOf iv).toNat)
  case atStart => exact ⟨0, Nat.zero_le _, rfl, Own.nil _ _, Below.refl _ _⟩
  case round =>
    obtain ⟨k, hk, rfl, HO, HW⟩ := hrel
    clear d0 d1 d2 d3 d4 d5
    by_cases hlt : k < 9
    · have hbr := HW.out
      have hgs : g < wL.heap.size := (Array.getElem?_eq_some_iff.1 HL.out.1).1
      have HPL : Hid ((pr r k).length ≤ 256) := pr_len HOK.out k
      obtain ⟨xa, xc, hbe, hxn, hbv, _, _⟩ := HO.out.slice (pr_all r k)
      subst hbe
      have HOW : Hid (Own wr wL.heap.size (.slice xa (pr r k).length xc) (pr r k)) := HO.out
      have hk9 : k = 0 ∨ k = 1 ∨ k = 2 ∨ k = 3 ∨ k = 4 ∨ k = 5 ∨ k = 6 ∨ k = 7 ∨ k = 8 := by omega
      rcases hk9 with e | e | e | e | e | e | e | e | e
      · have hx : wr.cell? ⟨g, k, none⟩ = some (.func (.func 211) #[] #[]) := by
          rw [e, (hbr.cell (p := ⟨g, 0, none⟩) hgs), cell_of_row _ _ _ _ _ _ HL.out.1]; rfl
        have HCL : Hid (Calls Tryz.prog 211 #[.slice xa (pr r k).length xc] wr fun e w' => ∃ a c, e = .returned (.slice a ([114, 111, 111, 116] : List Int).length c) ∧ Hid (BV w' a ([114, 111, 111, 116] : List Int) ∧ (a = none → c = 0) ∧ Own w' wL.heap.size (.slice xa (pr r k).length xc) (pr r k) ∧ Below wL.heap.size wL w')) := by
          have hq : Calls Tryz.prog 211 #[.slice xa (pr r k).length xc] wr fun e w' => Laid wr w' e ([114, 111, 111, 116] : List Int) := layers1_any _ _
          exact hq.mono (fun e w' h => laid_step HOW.out hbr h)
        have HT : Hid (pr r (k + 1) = pr r k ++ [114, 111, 111, 116]) := by rw [e]; rfl
        have HYL : Hid (([114, 111, 111, 116] : List Int).length ≤ 300) := by
          have : ([114, 111, 111, 116] : List Int).length ≤ 300 := by simp
          exact this
        clear e hbv hxn
        generalize ([114, 111, 111, 116] : List Int) = ys at *
        go_wp2_with (first
          | (go_at_call 211; refine (HCL.out).mono ?_; rintro e w2 ⟨ya, yc, rfl, H2⟩; clear HCL)
          | (at_builtin; refine wp_app_bv rfl _ _ rfl wL.heap.size _ (pr r k) ys rfl H2.out.2.2.1 ya yc rfl H2.out.1 H2.out.2.1 (by have := HPL.out; have := HYL.out; omega) H2.out.2.2.2.size ?_; intro v3 w3 ho3 hb3)
          | fail)
        go_roundw
        case rel => exact ⟨k + 1, by omega, by go_num, by rw [HT.out]; exact ho3, H2.out.2.2.2.trans hb3⟩
        case measure => simp [intOf]; omega
      · have hx : wr.cell? ⟨g, k, none⟩ = some (.func (.func 231) #[] #[.pointer (some ⟨a1, 0, none⟩), .pointer (some ⟨b1, 0, none⟩)]) := by
          rw [e, (hbr.cell (p := ⟨g, 1, none⟩) hgs), cell_of_row _ _ _ _ _ _ HL.out.1]; rfl
        have HCL : Hid (Calls Tryz.prog 231 #[.slice xa (pr r k).length xc, .pointer (some ⟨a1, 0, none⟩), .pointer (some ⟨b1, 0, none⟩)] wr fun e w' => ∃ a c, e = .returned (.slice a (dig r.E 6).length c) ∧ Hid (BV w' a (dig r.E 6) ∧ (a = none → c = 0) ∧ Own w' wL.heap.size (.slice xa (pr r k).length xc) (pr r k) ∧ Below wL.heap.size wL w')) := by
          have hq : Calls Tryz.prog 231 #[.slice xa (pr r k).length xc, .pointer (some ⟨a1, 0, none⟩), .pointer (some ⟨b1, 0, none⟩)] wr fun e w' => Laid wr w' e (dig r.E 6) := by
              have hq := nf_call (.slice xa (pr r k).length xc) (HL.out.2.1.below hbr) (by simp)
              rw [wides_6 HOK.out] at hq
              exact hq
          exact hq.mono (fun e w' h => laid_step HOW.out hbr h)
        have HT : Hid (pr r (k + 1) = pr r k ++ dig r.E 6) := by rw [e]; rfl
        have HYL : Hid ((dig r.E 6).length ≤ 300) := by
          have : (dig r.E 6).length ≤ 300 := by rw [dig_length]; omega
          exact this
        clear e hbv hxn
        generalize (dig r.E 6) = ys at *
        go_wp2_with (first
          | (go_at_call 231; refine (HCL.out).mono ?_; rintro e w2 ⟨ya, yc, rfl, H2⟩; clear HCL)
          | (at_builtin; refine wp_app_bv rfl _ _ rfl wL.heap.size _ (pr r k) ys rfl H2.out.2.2.1 ya yc rfl H2.out.1 H2.out.2.1 (by have := HPL.out; have := HYL.out; omega) H2.out.2.2.2.size ?_; intro v3 w3 ho3 hb3)
          | fail)
        go_roundw
        case rel => exact ⟨k + 1, by omega, by go_num, by rw [HT.out]; exact ho3, H2.out.2.2.2.trans hb3⟩
        case measure => simp [intOf]; omega
      · have hx : wr.cell? ⟨g, k, none⟩ = some (.func (.func 231) #[] #[.pointer (some ⟨a2, 0, none⟩), .pointer (some ⟨b2, 0, none⟩)]) := by
          rw [e, (hbr.cell (p := ⟨g, 2, none⟩) hgs), cell_of_row _ _ _ _ _ _ HL.out.1]; rfl
        have HCL : Hid (Calls Tryz.prog 231 #[.slice xa (pr r k).length xc, .pointer (some ⟨a2, 0, none⟩), .pointer (some ⟨b2, 0, none⟩)] wr fun e w' => ∃ a c, e = .returned (.slice a (dig r.B 2 ++ dig r.N 2 ++ dig r.S 2).length c) ∧ Hid (BV w' a (dig r.B 2 ++ dig r.N 2 ++ dig r.S 2) ∧ (a = none → c = 0) ∧ Own w' wL.heap.size (.slice xa (pr r k).length xc) (pr r k) ∧ Below wL.heap.size wL w')) := by
          have hq : Calls Tryz.prog 231 #[.slice xa (pr r k).length xc, .pointer (some ⟨a2, 0, none⟩), .pointer (some ⟨b2, 0, none⟩)] wr fun e w' => Laid wr w' e (dig r.B 2 ++ dig r.N 2 ++ dig r.S 2) := by
              have hq := nf_call (.slice xa (pr r k).length xc) (HL.out.2.2.1.below hbr) (by simp)
              rw [wides_3 HOK.out] at hq
              exact hq
          exact hq.mono (fun e w' h => laid_step HOW.out hbr h)
        have HT : Hid (pr r (k + 1) = pr r k ++ (dig r.B 2 ++ dig r.N 2 ++ dig r.S 2)) := by rw [e]; rfl
        have HYL : Hid ((dig r.B 2 ++ dig r.N 2 ++ dig r.S 2).length ≤ 300) := by
          have : (dig r.B 2 ++ dig r.N 2 ++ dig r.S 2).length ≤ 300 := by rw [List.length_append, List.length_append, dig_length, dig_length, dig_length]; omega
          exact this
        clear e hbv hxn
        generalize (dig r.B 2 ++ dig r.N 2 ++ dig r.S 2) = ys at *
        go_wp2_with (first
          | (go_at_call 231; refine (HCL.out).mono ?_; rintro e w2 ⟨ya, yc, rfl, H2⟩; clear HCL)
          | (at_builtin; refine wp_app_bv rfl _ _ rfl wL.heap.size _ (pr r k) ys rfl H2.out.2.2.1 ya yc rfl H2.out.1 H2.out.2.1 (by have := HPL.out; have := HYL.out; omega) H2.out.2.2.2.size ?_; intro v3 w3 ho3 hb3)
          | fail)
        go_roundw
        case rel => exact ⟨k + 1, by omega, by go_num, by rw [HT.out]; exact ho3, H2.out.2.2.2.trans hb3⟩
        case measure => simp [intOf]; omega
      · have hx : wr.cell? ⟨g, k, none⟩ = some (.func (.func 231) #[] #[.pointer (some ⟨a3, 0, none⟩), .pointer (some ⟨b3, 0, none⟩)]) := by
          rw [e, (hbr.cell (p := ⟨g, 3, none⟩) hgs), cell_of_row _ _ _ _ _ _ HL.out.1]; rfl
        have HCL : Hid (Calls Tryz.prog 231 #[.slice xa (pr r k).length xc, .pointer (some ⟨a3, 0, none⟩), .pointer (some ⟨b3, 0, none⟩)] wr fun e w' => ∃ a c, e = .returned (.slice a (dig r.T.length 1 ++ dig r.M.length 1).length c) ∧ Hid (BV w' a (dig r.T.length 1 ++ dig r.M.length 1) ∧ (a = none → c = 0) ∧ Own w' wL.heap.size (.slice xa (pr r k).length xc) (pr r k) ∧ Below wL.heap.size wL w')) := by
          have hq : Calls Tryz.prog 231 #[.slice xa (pr r k).length xc, .pointer (some ⟨a3, 0, none⟩), .pointer (some ⟨b3, 0, none⟩)] wr fun e w' => Laid wr w' e (dig r.T.length 1 ++ dig r.M.length 1) := by
              have hq := nf_call (.slice xa (pr r k).length xc) (HL.out.2.2.2.1.below hbr) (by simp)
              rw [wides_1 HOK.out] at hq
              exact hq
          exact hq.mono (fun e w' h => laid_step HOW.out hbr h)
        have HT : Hid (pr r (k + 1) = pr r k ++ (dig r.T.length 1 ++ dig r.M.length 1)) := by rw [e]; rfl
        have HYL : Hid ((dig r.T.length 1 ++ dig r.M.length 1).length ≤ 300) := by
          have : (dig r.T.length 1 ++ dig r.M.length 1).length ≤ 300 := by rw [List.length_append, dig_length, dig_length]; omega
          exact this
        clear e hbv hxn
        generalize (dig r.T.length 1 ++ dig r.M.length 1) = ys at *
        go_wp2_with (first
          | (go_at_call 231; refine (HCL.out).mono ?_; rintro e w2 ⟨ya, yc, rfl, H2⟩; clear HCL)
          | (at_builtin; refine wp_app_bv rfl _ _ rfl wL.heap.size _ (pr r k) ys rfl H2.out.2.2.1 ya yc rfl H2.out.1 H2.out.2.1 (by have := HPL.out; have := HYL.out; omega) H2.out.2.2.2.size ?_; intro v3 w3 ho3 hb3)
          | fail)
        go_roundw
        case rel => exact ⟨k + 1, by omega, by go_num, by rw [HT.out]; exact ho3, H2.out.2.2.2.trans hb3⟩
        case measure => simp [intOf]; omega
      · have hx : wr.cell? ⟨g, k, none⟩ = some (.func (.func 231) #[] #[.pointer (some ⟨a4, 0, none⟩), .pointer (some ⟨b4, 0, none⟩)]) := by
          rw [e, (hbr.cell (p := ⟨g, 4, none⟩) hgs), cell_of_row _ _ _ _ _ _ HL.out.1]; rfl
        have HCL : Hid (Calls Tryz.prog 231 #[.slice xa (pr r k).length xc, .pointer (some ⟨a4, 0, none⟩), .pointer (some ⟨b4, 0, none⟩)] wr fun e w' => ∃ a c, e = .returned (.slice a (twos r.T).length c) ∧ Hid (BV w' a (twos r.T) ∧ (a = none → c = 0) ∧ Own w' wL.heap.size (.slice xa (pr r k).length xc) (pr r k) ∧ Below wL.heap.size wL w')) := by
          have hq : Calls Tryz.prog 231 #[.slice xa (pr r k).length xc, .pointer (some ⟨a4, 0, none⟩), .pointer (some ⟨b4, 0, none⟩)] wr fun e w' => Laid wr w' e (twos r.T) := by
              have hq := nf_call (.slice xa (pr r k).length xc) (HL.out.2.2.2.2.1.below hbr) (by have := HOK.out.t1; omega)
              rw [wides_T HOK.out] at hq
              exact hq
          exact hq.mono (fun e w' h => laid_step HOW.out hbr h)
        have HT : Hid (pr r (k + 1) = pr r k ++ twos r.T) := by rw [e]; rfl
        have HYL : Hid ((twos r.T).length ≤ 300) := by
          have : (twos r.T).length ≤ 300 := by rw [twos_len]; have := HOK.out.t1; omega
          exact this
        clear e hbv hxn
        generalize (twos r.T) = ys at *
        go_wp2_with (first
          | (go_at_call 231; refine (HCL.out).mono ?_; rintro e w2 ⟨ya, yc, rfl, H2⟩; clear HCL)
          | (at_builtin; refine wp_app_bv rfl _ _ rfl wL.heap.size _ (pr r k) ys rfl H2.out.2.2.1 ya yc rfl H2.out.1 H2.out.2.1 (by have := HPL.out; have := HYL.out; omega) H2.out.2.2.2.size ?_; intro v3 w3 ho3 hb3)
          | fail)
        go_roundw
        case rel => exact ⟨k + 1, by omega, by go_num, by rw [HT.out]; exact ho3, H2.out.2.2.2.trans hb3⟩
        case measure => simp [intOf]; omega
      · have hx : wr.cell? ⟨g, k, none⟩ = some (.func (.func 231) #[] #[.pointer (some ⟨a5, 0, none⟩), .pointer (some ⟨b5, 0, none⟩)]) := by
          rw [e, (hbr.cell (p := ⟨g, 5, none⟩) hgs), cell_of_row _ _ _ _ _ _ HL.out.1]; rfl
        have HCL : Hid (Calls Tryz.prog 231 #[.slice xa (pr r k).length xc, .pointer (some ⟨a5, 0, none⟩), .pointer (some ⟨b5, 0, none⟩)] wr fun e w' => ∃ a c, e = .returned (.slice a (twos r.M).length c) ∧ Hid (BV w' a (twos r.M) ∧ (a = none → c = 0) ∧ Own w' wL.heap.size (.slice xa (pr r k).length xc) (pr r k) ∧ Below wL.heap.size wL w')) := by
          have hq : Calls Tryz.prog 231 #[.slice xa (pr r k).length xc, .pointer (some ⟨a5, 0, none⟩), .pointer (some ⟨b5, 0, none⟩)] wr fun e w' => Laid wr w' e (twos r.M) := by
              have hq := nf_call (.slice xa (pr r k).length xc) (HL.out.2.2.2.2.2.below hbr) (by have := HOK.out.m1; omega)
              rw [wides_M HOK.out] at hq
              exact hq
          exact hq.mono (fun e w' h => laid_step HOW.out hbr h)
        have HT : Hid (pr r (k + 1) = pr r k ++ twos r.M) := by rw [e]; rfl
        have HYL : Hid ((twos r.M).length ≤ 300) := by
          have : (twos r.M).length ≤ 300 := by rw [twos_len]; have := HOK.out.m1; omega
          exact this
        clear e hbv hxn
        generalize (twos r.M) = ys at *
        go_wp2_with (first
          | (go_at_call 231; refine (HCL.out).mono ?_; rintro e w2 ⟨ya, yc, rfl, H2⟩; clear HCL)
          | (at_builtin; refine wp_app_bv rfl _ _ rfl wL.heap.size _ (pr r k) ys rfl H2.out.2.2.1 ya yc rfl H2.out.1 H2.out.2.1 (by have := HPL.out; have := HYL.out; omega) H2.out.2.2.2.size ?_; intro v3 w3 ho3 hb3)
          | fail)
        go_roundw
        case rel => exact ⟨k + 1, by omega, by go_num, by rw [HT.out]; exact ho3, H2.out.2.2.2.trans hb3⟩
        case measure => simp [intOf]; omega
      · have hx : wr.cell? ⟨g, k, none⟩ = some (.func (.func 212) #[] #[]) := by
          rw [e, (hbr.cell (p := ⟨g, 6, none⟩) hgs), cell_of_row _ _ _ _ _ _ HL.out.1]; rfl
        have HCL : Hid (Calls Tryz.prog 212 #[.slice xa (pr r k).length xc] wr fun e w' => ∃ a c, e = .returned (.slice a (List.replicate (246 - (pr r k).length) 0 : List Int).length c) ∧ Hid (BV w' a (List.replicate (246 - (pr r k).length) 0 : List Int) ∧ (a = none → c = 0) ∧ Own w' wL.heap.size (.slice xa (pr r k).length xc) (pr r k) ∧ Below wL.heap.size wL w')) := by
          have hq : Calls Tryz.prog 212 #[.slice xa (pr r k).length xc] wr fun e w' => Laid wr w' e (List.replicate (246 - (pr r k).length) 0 : List Int) := by
              refine layers2_any xa (pr r k).length xc wr ?_
              rw [e]
              have := HOK.out.t1; have := HOK.out.m1
              show (frontS r).length ≤ 246
              rw [front_len]; omega
          exact hq.mono (fun e w' h => laid_step HOW.out hbr h)
        have HT : Hid (pr r (k + 1) = pr r k ++ List.replicate (246 - (pr r k).length) 0) := by rw [e]; rfl
        have HYL : Hid ((List.replicate (246 - (pr r k).length) 0 : List Int).length ≤ 300) := by
          have : (List.replicate (246 - (pr r k).length) 0 : List Int).length ≤ 300 := by rw [List.length_replicate]; omega
          exact this
        clear e hbv hxn
        generalize (List.replicate (246 - (pr r k).length) 0 : List Int) = ys at *
        go_wp2_with (first
          | (go_at_call 212; refine (HCL.out).mono ?_; rintro e w2 ⟨ya, yc, rfl, H2⟩; clear HCL)
          | (at_builtin; refine wp_app_bv rfl _ _ rfl wL.heap.size _ (pr r k) ys rfl H2.out.2.2.1 ya yc rfl H2.out.1 H2.out.2.1 (by have := HPL.out; have := HYL.out; omega) H2.out.2.2.2.size ?_; intro v3 w3 ho3 hb3)
          | fail)
        go_roundw
        case rel => exact ⟨k + 1, by omega, by go_num, by rw [HT.out]; exact ho3, H2.out.2.2.2.trans hb3⟩
        case measure => simp [intOf]; omega
      · have hx : wr.cell? ⟨g, k, none⟩ = some (.func (.func 213) #[] #[]) := by
          rw [e, (hbr.cell (p := ⟨g, 7, none⟩) hgs), cell_of_row _ _ _ _ _ _ HL.out.1]; rfl
        have HCL : Hid (Calls Tryz.prog 213 #[.slice xa (pr r k).length xc] wr fun e w' => ∃ a c, e = .returned (.slice a (dig (more 0 (pr r k)) 4).length c) ∧ Hid (BV w' a (dig (more 0 (pr r k)) 4) ∧ (a = none → c = 0) ∧ Own w' wL.heap.size (.slice xa (pr r k).length xc) (pr r k) ∧ Below wL.heap.size wL w')) := by
          have hq : Calls Tryz.prog 213 #[.slice xa (pr r k).length xc] wr fun e w' => Laid wr w' e (dig (more 0 (pr r k)) 4) := layers3_any xa (pr r k) xc wr hbv hxn (by have := pr_len HOK.out k; omega)
          exact hq.mono (fun e w' h => laid_step HOW.out hbr h)
        have HT : Hid (pr r (k + 1) = pr r k ++ dig (more 0 (pr r k)) 4) := by rw [e]; rfl
        have HYL : Hid ((dig (more 0 (pr r k)) 4).length ≤ 300) := by
          have : (dig (more 0 (pr r k)) 4).length ≤ 300 := by rw [dig_length]; omega
          exact this
        clear e hbv hxn
        generalize (dig (more 0 (pr r k)) 4) = ys at *
        go_wp2_with (first
          | (go_at_call 213; refine (HCL.out).mono ?_; rintro e w2 ⟨ya, yc, rfl, H2⟩; clear HCL)
          | (at_builtin; refine wp_app_bv rfl _ _ rfl wL.heap.size _ (pr r k) ys rfl H2.out.2.2.1 ya yc rfl H2.out.1 H2.out.2.1 (by have := HPL.out; have := HYL.out; omega) H2.out.2.2.2.size ?_; intro v3 w3 ho3 hb3)
          | fail)
        go_roundw
        case rel => exact ⟨k + 1, by omega, by go_num, by rw [HT.out]; exact ho3, H2.out.2.2.2.trans hb3⟩
        case measure => simp [intOf]; omega
      · have hx : wr.cell? ⟨g, k, none⟩ = some (.func (.func 231) #[] #[.pointer (some ⟨a1, 0, none⟩), .pointer (some ⟨b1, 0, none⟩)]) := by
          rw [e, (hbr.cell (p := ⟨g, 8, none⟩) hgs), cell_of_row _ _ _ _ _ _ HL.out.1]; rfl
        have HCL : Hid (Calls Tryz.prog 231 #[.slice xa (pr r k).length xc, .pointer (some ⟨a1, 0, none⟩), .pointer (some ⟨b1, 0, none⟩)] wr fun e w' => ∃ a c, e = .returned (.slice a (dig r.E 6).length c) ∧ Hid (BV w' a (dig r.E 6) ∧ (a = none → c = 0) ∧ Own w' wL.heap.size (.slice xa (pr r k).length xc) (pr r k) ∧ Below wL.heap.size wL w')) := by
          have hq : Calls Tryz.prog 231 #[.slice xa (pr r k).length xc, .pointer (some ⟨a1, 0, none⟩), .pointer (some ⟨b1, 0, none⟩)] wr fun e w' => Laid wr w' e (dig r.E 6) := by
              have hq := nf_call (.slice xa (pr r k).length xc) (HL.out.2.1.below hbr) (by simp)
              rw [wides_6 HOK.out] at hq
              exact hq
          exact hq.mono (fun e w' h => laid_step HOW.out hbr h)
        have HT : Hid (pr r (k + 1) = pr r k ++ dig r.E 6) := by rw [e]; rfl
        have HYL : Hid ((dig r.E 6).length ≤ 300) := by
          have : (dig r.E 6).length ≤ 300 := by rw [dig_length]; omega
          exact this
        clear e hbv hxn
        generalize (dig r.E 6) = ys at *
        go_wp2_with (first
          | (go_at_call 231; refine (HCL.out).mono ?_; rintro e w2 ⟨ya, yc, rfl, H2⟩; clear HCL)
          | (at_builtin; refine wp_app_bv rfl _ _ rfl wL.heap.size _ (pr r k) ys rfl H2.out.2.2.1 ya yc rfl H2.out.1 H2.out.2.1 (by have := HPL.out; have := HYL.out; omega) H2.out.2.2.2.size ?_; intro v3 w3 ho3 hb3)
          | fail)
        go_roundw
        case rel => exact ⟨k + 1, by omega, by go_num, by rw [HT.out]; exact ho3, H2.out.2.2.2.trans hb3⟩
        case measure => simp [intOf]; omega
    · have HOF : Hid (Own wr wL.heap.size u5 (putS r)) := by
        have e : k = 9 := by omega
        have h := HO.out
        rw [e] at h
        exact h
      have HBF : Hid (Below w.heap.size w wr ∧ w.heap.size ≤ wL.heap.size) := by
        have q1 := hB.trans (hb1.mono hB.size)
        have q2 := q1.trans (hbL.mono q1.size)
        exact ⟨q2.trans (HW.out.mono q2.size), q2.size⟩
      clear HO
      go_wp2_with fail
      exact bodyPost_ret (v := .tuple #[u5, .int .i64 0]) (by simp [results, Tryz.results107, go_sem]) rfl ⟨u5, rfl, HOF.out.mono HBF.out.2, HBF.out.1⟩
end Go.Proofs.YtbklnadlbcndlaaGreat.R
