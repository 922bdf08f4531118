import Derived.Test.YtelhlikeefpjnaaGreatM17
import Derived.Test.YtelhlikeefpjnaaGreatM8
import Derived.Test.YtelhlikeefpjnaaGreatM18
import Derived.Test.YtelhlikeefpjnaaGreatM9
import Derived.Deep.WholeRow
import Derived.Deep.RegionHeld3
import Derived.ChangeSlices
import Derived.OpenShut
import Derived.ProofKit
namespace Go.Proofs.YtelhlikeefpjnaaGreat.R
set_option maxRecDepth 20000
open Go.RowKit
set_option linter.unusedVariables false
set_option linter.unusedSimpArgs false
theorem name_ops {P : Program} {id : Nat} {ops : Array Oper} {Q : Exit → Act → World → Prop} {a : Act} {w : World} (h : ∀ (O : Array Oper) (QQ : Exit → Act → World → Prop), Hid (O = ops) → Hid (QQ = Q) → (Code.region id O true).wp P QQ a w) : (Code.region id ops true).wp P Q a w := h _ _ rfl rfl
def NFc (w : World) (ab wb : Nat) (x : Int) (zs : List Int) : Prop := ∃ a c, w.cell? ⟨ab, 0, none⟩ = some (.slice a zs.length c) ∧ w.cell? ⟨wb, 0, none⟩ = some (.int .i64 x) ∧ ab < w.heap.size ∧ wb < w.heap.size ∧ IV w a zs
theorem NFc.below {w w' : World} {ab wb : Nat} {x : Int} {zs : List Int} (h : NFc w ab wb x zs) (hb : Below w.heap.size w w') : NFc w' ab wb x zs := by
  obtain ⟨a, c, h1, h2, h3, h4, h5⟩ := h
  exact ⟨a, c, (hb.cell (p := ⟨ab, 0, none⟩) h3).trans h1, (hb.cell (p := ⟨wb, 0, none⟩) h4).trans h2, Nat.lt_of_lt_of_le h3 hb.size, Nat.lt_of_lt_of_le h4 hb.size, h5.below hb⟩
theorem nf_call {w : World} {ab wb : Nat} {x : Int} {zs : List Int} (av : Value) (h : NFc w ab wb x zs) (hn : zs.length ≤ 100) : Calls Tryz.prog 221 #[av, .pointer (some ⟨ab, 0, none⟩), .pointer (some ⟨wb, 0, none⟩)] w fun e w' => Laid w w' e (wides x zs) := by
  obtain ⟨a, c, h1, h2, h3, h4, h5⟩ := h
  refine (numbers1_any av a ab wb c x zs w h1 h2 hn h4 h5).mono ?_
  rintro e w' ⟨v, rfl, ho, hb⟩
  exact Laid.of ho (wides_all x zs) hb
theorem nf_new (x : Int) (a : Option Addr) (c : Nat) (zs : List Int) (w : World) (hz : IV w a zs) : Calls Tryz.prog 200 #[.int .i64 x, .slice a zs.length c] w fun e w' => ∃ ab wb, e = .returned (.func (.func 221) #[] #[.pointer (some ⟨ab, 0, none⟩), .pointer (some ⟨wb, 0, none⟩)]) ∧ Hid (NFc w' ab wb x zs) ∧ Below w.heap.size w w' := by
  refine (numbers_any x a zs.length c w).mono ?_
  rintro e w' ⟨ab, wb, rfl, h, hb⟩
  exact ⟨ab, wb, rfl, ⟨a, c, h.out.1, h.out.2.1, h.out.2.2.1, h.out.2.2.2, hz.below hb⟩, hb⟩
theorem iv_lit (w : World) (zs : List Int) : IV (w.alloc (.cells (zs.map (Value.int .i64)).toArray 3)) (some ⟨w.heap.size, 0, none⟩) zs := by
  refine .inr ⟨w.heap.size, 0, rfl, by simp, fun i hi => ?_⟩
  rw [Nat.zero_add, World.cell?_alloc_mark]
  simp [List.getD_eq_getElem?_getD, List.getElem?_eq_getElem hi]
def BX (W : World) (bx : Nat) (r : RD) (ta : Option Addr) (tc : Nat) (ma : Option Addr) (mc : Nat) : Prop :=
  bx < W.heap.size ∧ W.cell? ⟨bx, 1, none⟩ = some (.int .i64 r.B) ∧ W.cell? ⟨bx, 2, none⟩ = some (.int .i64 r.N) ∧ W.cell? ⟨bx, 3, none⟩ = some (.int .i64 r.S) ∧ W.cell? ⟨bx, 4, none⟩ = some (.slice ta r.T.length tc) ∧ W.cell? ⟨bx, 5, none⟩ = some (.slice ma r.M.length mc)
theorem BX.below {W W' : World} {bx : Nat} {r : RD} {ta ma : Option Addr} {tc mc : Nat} (h : BX W bx r ta tc ma mc) (hb : Below W.heap.size W W') : BX W' bx r ta tc ma mc := by
  obtain ⟨h0, h1, h2, h3, h4, h5⟩ := h
  exact ⟨Nat.lt_of_lt_of_le h0 hb.size, (hb.cell (p := ⟨bx, 1, none⟩) h0).trans h1, (hb.cell (p := ⟨bx, 2, none⟩) h0).trans h2, (hb.cell (p := ⟨bx, 3, none⟩) h0).trans h3, (hb.cell (p := ⟨bx, 4, none⟩) h0).trans h4, (hb.cell (p := ⟨bx, 5, none⟩) h0).trans h5⟩
def LS (w W : World) (bx : Nat) (r : RD) (ta : Option Addr) (tc : Nat) (ma : Option Addr) (mc : Nat) (l : List (Nat × Nat × Int × List Int)) : Prop := Below w.heap.size w W ∧ BX W bx r ta tc ma mc ∧ Rt W r ta tc ma mc ∧ ∀ q ∈ l, NFc W q.1 q.2.1 q.2.2.1 q.2.2.2
theorem LS.below {w W W' : World} {bx : Nat} {r : RD} {ta ma : Option Addr} {tc mc : Nat} {l : List (Nat × Nat × Int × List Int)} (h : LS w W bx r ta tc ma mc l) (hb : Below W.heap.size W W') : LS w W' bx r ta tc ma mc l :=
  ⟨h.1.trans (hb.mono h.1.size), h.2.1.below hb, h.2.2.1.below hb, fun q hq => (h.2.2.2 q hq).below hb⟩
theorem LS.add {w W : World} {bx : Nat} {r : RD} {ta ma : Option Addr} {tc mc : Nat} {l : List (Nat × Nat × Int × List Int)} {ab wb : Nat} {x : Int} {zs : List Int} (h : LS w W bx r ta tc ma mc l) (hn : NFc W ab wb x zs) : LS w W bx r ta tc ma mc ((ab, wb, x, zs) :: l) :=
  ⟨h.1, h.2.1, h.2.2.1, fun q hq => by
    rcases List.mem_cons.1 hq with rfl | hq
    · exact hn
    · exact h.2.2.2 q hq⟩
def LayersPost (w : World) (r : RD) (e : Ending) (w' : World) : Prop := ∃ g a1 b1 a2 b2 a3 b3 a4 b4 a5 b5, e = .returned (.slice (some ⟨g, 0, none⟩) 9 9) ∧ Hid (w'.heap[g]? = some (.cells #[.func (.func 201) #[] #[], .func (.func 221) #[] #[.pointer (some ⟨a1, 0, none⟩), .pointer (some ⟨b1, 0, none⟩)], .func (.func 221) #[] #[.pointer (some ⟨a2, 0, none⟩), .pointer (some ⟨b2, 0, none⟩)], .func (.func 221) #[] #[.pointer (some ⟨a3, 0, none⟩), .pointer (some ⟨b3, 0, none⟩)], .func (.func 221) #[] #[.pointer (some ⟨a4, 0, none⟩), .pointer (some ⟨b4, 0, none⟩)], .func (.func 221) #[] #[.pointer (some ⟨a5, 0, none⟩), .pointer (some ⟨b5, 0, none⟩)], .func (.func 202) #[] #[], .func (.func 203) #[] #[], .func (.func 221) #[] #[.pointer (some ⟨a1, 0, none⟩), .pointer (some ⟨b1, 0, none⟩)]] 160 (0, 0)) ∧
      NFc w' a1 b1 6 [r.E] ∧ NFc w' a2 b2 2 [r.B, r.N, r.S] ∧ NFc w' a3 b3 1 [(r.T.length : Int), (r.M.length : Int)] ∧ NFc w' a4 b4 2 r.T ∧ NFc w' a5 b5 2 r.M) ∧ Below w.heap.size w w'
theorem layers_end {w W : World} {bx g : Nat} {r : RD} {ta ma : Option Addr} {tc mc : Nat} {a1 b1 a2 b2 a3 b3 a4 b4 a5 b5 : Nat} (h : LS w W bx r ta tc ma mc [(a5, b5, 2, r.M), (a4, b4, 2, r.T), (a3, b3, 1, [(r.T.length : Int), (r.M.length : Int)]), (a2, b2, 2, [r.B, r.N, r.S]), (a1, b1, 6, [r.E])]) (hg : W.heap[g]? = some (.cells #[.func (.func 201) #[] #[], .func (.func 221) #[] #[.pointer (some ⟨a1, 0, none⟩), .pointer (some ⟨b1, 0, none⟩)], .func (.func 221) #[] #[.pointer (some ⟨a2, 0, none⟩), .pointer (some ⟨b2, 0, none⟩)], .func (.func 221) #[] #[.pointer (some ⟨a3, 0, none⟩), .pointer (some ⟨b3, 0, none⟩)], .func (.func 221) #[] #[.pointer (some ⟨a4, 0, none⟩), .pointer (some ⟨b4, 0, none⟩)], .func (.func 221) #[] #[.pointer (some ⟨a5, 0, none⟩), .pointer (some ⟨b5, 0, none⟩)], .func (.func 202) #[] #[], .func (.func 203) #[] #[], .func (.func 221) #[] #[.pointer (some ⟨a1, 0, none⟩), .pointer (some ⟨b1, 0, none⟩)]] 160 (0, 0))) : LayersPost w r (.returned (.slice (some ⟨g, 0, none⟩) 9 9)) W :=
  ⟨g, a1, b1, a2, b2, a3, b3, a4, b4, a5, b5, rfl, ⟨hg, h.2.2.2 (a1, b1, 6, [r.E]) (by simp), h.2.2.2 (a2, b2, 2, [r.B, r.N, r.S]) (by simp), h.2.2.2 (a3, b3, 1, [(r.T.length : Int), (r.M.length : Int)]) (by simp), h.2.2.2 (a4, b4, 2, r.T) (by simp), h.2.2.2 (a5, b5, 2, r.M) (by simp)⟩, h.1⟩
set_option maxHeartbeats 1600000 in
theorem layers_any (r : RD) (ta ma : Option Addr) (tc mc : Nat) (w : World) (hr : Rt w r ta tc ma mc) :
    Calls Tryz.prog 173 #[rootV r ta tc ma mc] w fun e w' => LayersPost w r e w' := by
  have hmf : ∀ (fn : Fn) (first cap : Array Value) (w : World), (Instr.makeFunc fn first cap).run Tryz.prog w = .ok (.func fn first cap) w := fun _ _ _ _ => rfl
  obtain ⟨W, hW⟩ : ∃ W, W = w.alloc (.cells #[.int .i64 r.E, .int .i64 r.B, .int .i64 r.N, .int .i64 r.S, .slice ta r.T.length tc, .slice ma r.M.length mc] 94) := ⟨_, rfl⟩
  have hB : Below w.heap.size w W := by rw [hW]; exact (Below.refl _ _).alloc (Nat.le_refl _) _
  have HX : Hid (LS w W w.heap.size r ta tc ma mc []) := ⟨hB, ⟨by rw [hW]; simp, by rw [hW]; go_simp, by rw [hW]; go_simp, by rw [hW]; go_simp, by rw [hW]; go_simp, by rw [hW]; go_simp⟩, hr.below hB, fun q hq => by cases hq⟩
  have hsz : W.heap.size = w.heap.size + 1 := by rw [hW]; simp
  unfold rootV
  generalize hbx : w.heap.size = bx at *
  go_enter Tryz.func173, Tryz.ntmps173
  go_wp2_with fail
  rw [← hW]
  rw [← hsz]
  have hal : Below W.heap.size W (W.alloc (.cells #[.int .i64 r.E] 3)) := (Below.refl _ _).alloc (Nat.le_refl _) _
  refine (nf_new 6 (some ⟨W.heap.size, 0, none⟩) 1 [r.E] _ (iv_lit W [r.E])).mono ?_
  rintro e w1 ⟨a1, b1, rfl, HN1, hb1⟩
  have X0 : Hid (LS w w1 bx r ta tc ma mc [(a1, b1, 6, [r.E])]) := ((HX.out.below hal).below hb1).add HN1.out
  clear hW hB HX hsz hal hr HN1 hb1
  go_wp2_with fail
  refine wp_region_noPanic ?_
  refine name_ops ?_
  intro O QQ HO HQ
  have X1 : Hid (LS w w1.drew bx r ta tc ma mc [(a1, b1, 6, [r.E])]) := X0.out.below (Below.refl _ _).drew
  refine wp_region_held_drew (S := fun W' => ∃ l, LS w W' bx r ta tc ma mc l) (by kernel_rfl) ⟨_, X1.out⟩ (fun hS => ?_)
  clear hS
  rw [show O.size = 26 by rw [HO.out]; rfl]
  refine wpAnyH_take (i := 0) (v := .func (.func 221) #[] #[.pointer (some ⟨a1, 0, none⟩), .pointer (some ⟨b1, 0, none⟩)]) (by rw [HO.out]; simp only [List.getElem?_toArray, List.getElem?_cons_succ, List.getElem?_cons_zero]; rfl) (by rw [HO.out]; kernel_rfl) (by rw [HO.out]; kernel_rfl) (by rw [HO.out]; kernel_rfl) (by rw [HQ.out]; exact fun _ _ _ h => h) (Or.inl ⟨by rfl, ?_⟩) ⟨_, X1.out⟩ ?_
  · intro w' hSw
    go_simp
  try simp only [Act.put, List.setIfInBounds_toArray, List.set_cons_zero, List.set_cons_succ]
  refine wpAnyH_take (i := 1) (v := .pointer (some ⟨bx, 1, none⟩)) (by rw [HO.out]; simp only [List.getElem?_toArray, List.getElem?_cons_succ, List.getElem?_cons_zero]; rfl) (by rw [HO.out]; kernel_rfl) (by rw [HO.out]; kernel_rfl) (by rw [HO.out]; kernel_rfl) (by rw [HQ.out]; exact fun _ _ _ h => h) (Or.inl ⟨by rfl, ?_⟩) ⟨_, X1.out⟩ ?_
  · intro w' hSw
    go_simp
  try simp only [Act.put, List.setIfInBounds_toArray, List.set_cons_zero, List.set_cons_succ]
  refine wpAnyH_take (i := 2) (v := .int .i64 r.B) (by rw [HO.out]; simp only [List.getElem?_toArray, List.getElem?_cons_succ, List.getElem?_cons_zero]; rfl) (by rw [HO.out]; kernel_rfl) (by rw [HO.out]; kernel_rfl) (by rw [HO.out]; kernel_rfl) (by rw [HQ.out]; exact fun _ _ _ h => h) (Or.inl ⟨by rfl, ?_⟩) ⟨_, X1.out⟩ ?_
  · intro w' hSw
    obtain ⟨l, hSw⟩ := hSw
    obtain ⟨_, q1, q2, q3, q4, q5⟩ := hSw.2.1
    go_simp
  try simp only [Act.put, List.setIfInBounds_toArray, List.set_cons_zero, List.set_cons_succ]
  refine wpAnyH_take (i := 3) (v := .pointer (some ⟨bx, 2, none⟩)) (by rw [HO.out]; simp only [List.getElem?_toArray, List.getElem?_cons_succ, List.getElem?_cons_zero]; rfl) (by rw [HO.out]; kernel_rfl) (by rw [HO.out]; kernel_rfl) (by rw [HO.out]; kernel_rfl) (by rw [HQ.out]; exact fun _ _ _ h => h) (Or.inl ⟨by rfl, ?_⟩) ⟨_, X1.out⟩ ?_
  · intro w' hSw
    go_simp
  try simp only [Act.put, List.setIfInBounds_toArray, List.set_cons_zero, List.set_cons_succ]
  refine wpAnyH_take (i := 4) (v := .int .i64 r.N) (by rw [HO.out]; simp only [List.getElem?_toArray, List.getElem?_cons_succ, List.getElem?_cons_zero]; rfl) (by rw [HO.out]; kernel_rfl) (by rw [HO.out]; kernel_rfl) (by rw [HO.out]; kernel_rfl) (by rw [HQ.out]; exact fun _ _ _ h => h) (Or.inl ⟨by rfl, ?_⟩) ⟨_, X1.out⟩ ?_
  · intro w' hSw
    obtain ⟨l, hSw⟩ := hSw
    obtain ⟨_, q1, q2, q3, q4, q5⟩ := hSw.2.1
    go_simp
  try simp only [Act.put, List.setIfInBounds_toArray, List.set_cons_zero, List.set_cons_succ]
  refine wpAnyH_take (i := 5) (v := .pointer (some ⟨bx, 3, none⟩)) (by rw [HO.out]; simp only [List.getElem?_toArray, List.getElem?_cons_succ, List.getElem?_cons_zero]; rfl) (by rw [HO.out]; kernel_rfl) (by rw [HO.out]; kernel_rfl) (by rw [HO.out]; kernel_rfl) (by rw [HQ.out]; exact fun _ _ _ h => h) (Or.inl ⟨by rfl, ?_⟩) ⟨_, X1.out⟩ ?_
  · intro w' hSw
    go_simp
  try simp only [Act.put, List.setIfInBounds_toArray, List.set_cons_zero, List.set_cons_succ]
  refine wpAnyH_take (i := 6) (v := .int .i64 r.S) (by rw [HO.out]; simp only [List.getElem?_toArray, List.getElem?_cons_succ, List.getElem?_cons_zero]; rfl) (by rw [HO.out]; kernel_rfl) (by rw [HO.out]; kernel_rfl) (by rw [HO.out]; kernel_rfl) (by rw [HQ.out]; exact fun _ _ _ h => h) (Or.inl ⟨by rfl, ?_⟩) ⟨_, X1.out⟩ ?_
  · intro w' hSw
    obtain ⟨l, hSw⟩ := hSw
    obtain ⟨_, q1, q2, q3, q4, q5⟩ := hSw.2.1
    go_simp
  try simp only [Act.put, List.setIfInBounds_toArray, List.set_cons_zero, List.set_cons_succ]
  refine wpAnyH_take (i := 9) (v := .pointer (some ⟨bx, 4, none⟩)) (by rw [HO.out]; simp only [List.getElem?_toArray, List.getElem?_cons_succ, List.getElem?_cons_zero]; rfl) (by rw [HO.out]; kernel_rfl) (by rw [HO.out]; kernel_rfl) (by rw [HO.out]; kernel_rfl) (by rw [HQ.out]; exact fun _ _ _ h => h) (Or.inl ⟨by rfl, ?_⟩) ⟨_, X1.out⟩ ?_
  · intro w' hSw
    go_simp
  try simp only [Act.put, List.setIfInBounds_toArray, List.set_cons_zero, List.set_cons_succ]
  refine wpAnyH_take (i := 10) (v := .slice ta r.T.length tc) (by rw [HO.out]; simp only [List.getElem?_toArray, List.getElem?_cons_succ, List.getElem?_cons_zero]; rfl) (by rw [HO.out]; kernel_rfl) (by rw [HO.out]; kernel_rfl) (by rw [HO.out]; kernel_rfl) (by rw [HQ.out]; exact fun _ _ _ h => h) (Or.inl ⟨by rfl, ?_⟩) ⟨_, X1.out⟩ ?_
  · intro w' hSw
    obtain ⟨l, hSw⟩ := hSw
    obtain ⟨_, q1, q2, q3, q4, q5⟩ := hSw.2.1
    go_simp
  try simp only [Act.put, List.setIfInBounds_toArray, List.set_cons_zero, List.set_cons_succ]
  refine wpAnyH_take (i := 11) (v := .int .i64 r.T.length) (by rw [HO.out]; simp only [List.getElem?_toArray, List.getElem?_cons_succ, List.getElem?_cons_zero]; rfl) (by rw [HO.out]; kernel_rfl) (by rw [HO.out]; kernel_rfl) (by rw [HO.out]; kernel_rfl) (by rw [HQ.out]; exact fun _ _ _ h => h) (Or.inl ⟨by rfl, ?_⟩) ⟨_, X1.out⟩ ?_
  · intro w' hSw
    go_simp
  try simp only [Act.put, List.setIfInBounds_toArray, List.set_cons_zero, List.set_cons_succ]
  refine wpAnyH_take (i := 12) (v := .pointer (some ⟨bx, 5, none⟩)) (by rw [HO.out]; simp only [List.getElem?_toArray, List.getElem?_cons_succ, List.getElem?_cons_zero]; rfl) (by rw [HO.out]; kernel_rfl) (by rw [HO.out]; kernel_rfl) (by rw [HO.out]; kernel_rfl) (by rw [HQ.out]; exact fun _ _ _ h => h) (Or.inl ⟨by rfl, ?_⟩) ⟨_, X1.out⟩ ?_
  · intro w' hSw
    go_simp
  try simp only [Act.put, List.setIfInBounds_toArray, List.set_cons_zero, List.set_cons_succ]
  refine wpAnyH_take (i := 13) (v := .slice ma r.M.length mc) (by rw [HO.out]; simp only [List.getElem?_toArray, List.getElem?_cons_succ, List.getElem?_cons_zero]; rfl) (by rw [HO.out]; kernel_rfl) (by rw [HO.out]; kernel_rfl) (by rw [HO.out]; kernel_rfl) (by rw [HQ.out]; exact fun _ _ _ h => h) (Or.inl ⟨by rfl, ?_⟩) ⟨_, X1.out⟩ ?_
  · intro w' hSw
    obtain ⟨l, hSw⟩ := hSw
    obtain ⟨_, q1, q2, q3, q4, q5⟩ := hSw.2.1
    go_simp
  try simp only [Act.put, List.setIfInBounds_toArray, List.set_cons_zero, List.set_cons_succ]
  refine wpAnyH_take (i := 14) (v := .int .i64 r.M.length) (by rw [HO.out]; simp only [List.getElem?_toArray, List.getElem?_cons_succ, List.getElem?_cons_zero]; rfl) (by rw [HO.out]; kernel_rfl) (by rw [HO.out]; kernel_rfl) (by rw [HO.out]; kernel_rfl) (by rw [HQ.out]; exact fun _ _ _ h => h) (Or.inl ⟨by rfl, ?_⟩) ⟨_, X1.out⟩ ?_
  · intro w' hSw
    go_simp
  try simp only [Act.put, List.setIfInBounds_toArray, List.set_cons_zero, List.set_cons_succ]
  refine wpAnyH_take (i := 17) (v := .pointer (some ⟨bx, 4, none⟩)) (by rw [HO.out]; simp only [List.getElem?_toArray, List.getElem?_cons_succ, List.getElem?_cons_zero]; rfl) (by rw [HO.out]; kernel_rfl) (by rw [HO.out]; kernel_rfl) (by rw [HO.out]; kernel_rfl) (by rw [HQ.out]; exact fun _ _ _ h => h) (Or.inl ⟨by rfl, ?_⟩) ⟨_, X1.out⟩ ?_
  · intro w' hSw
    go_simp
  try simp only [Act.put, List.setIfInBounds_toArray, List.set_cons_zero, List.set_cons_succ]
  refine wpAnyH_take (i := 18) (v := .slice ta r.T.length tc) (by rw [HO.out]; simp only [List.getElem?_toArray, List.getElem?_cons_succ, List.getElem?_cons_zero]; rfl) (by rw [HO.out]; kernel_rfl) (by rw [HO.out]; kernel_rfl) (by rw [HO.out]; kernel_rfl) (by rw [HQ.out]; exact fun _ _ _ h => h) (Or.inl ⟨by rfl, ?_⟩) ⟨_, X1.out⟩ ?_
  · intro w' hSw
    obtain ⟨l, hSw⟩ := hSw
    obtain ⟨_, q1, q2, q3, q4, q5⟩ := hSw.2.1
    go_simp
  try simp only [Act.put, List.setIfInBounds_toArray, List.set_cons_zero, List.set_cons_succ]
  refine wpAnyH_take (i := 20) (v := .pointer (some ⟨bx, 5, none⟩)) (by rw [HO.out]; simp only [List.getElem?_toArray, List.getElem?_cons_succ, List.getElem?_cons_zero]; rfl) (by rw [HO.out]; kernel_rfl) (by rw [HO.out]; kernel_rfl) (by rw [HO.out]; kernel_rfl) (by rw [HQ.out]; exact fun _ _ _ h => h) (Or.inl ⟨by rfl, ?_⟩) ⟨_, X1.out⟩ ?_
  · intro w' hSw
    go_simp
  try simp only [Act.put, List.setIfInBounds_toArray, List.set_cons_zero, List.set_cons_succ]
  refine wpAnyH_take (i := 21) (v := .slice ma r.M.length mc) (by rw [HO.out]; simp only [List.getElem?_toArray, List.getElem?_cons_succ, List.getElem?_cons_zero]; rfl) (by rw [HO.out]; kernel_rfl) (by rw [HO.out]; kernel_rfl) (by rw [HO.out]; kernel_rfl) (by rw [HQ.out]; exact fun _ _ _ h => h) (Or.inl ⟨by rfl, ?_⟩) ⟨_, X1.out⟩ ?_
  · intro w' hSw
    obtain ⟨l, hSw⟩ := hSw
    obtain ⟨_, q1, q2, q3, q4, q5⟩ := hSw.2.1
    go_simp
  try simp only [Act.put, List.setIfInBounds_toArray, List.set_cons_zero, List.set_cons_succ]
  refine wpAnyH_take (i := 23) (v := .func (.func 221) #[] #[.pointer (some ⟨a1, 0, none⟩), .pointer (some ⟨b1, 0, none⟩)]) (by rw [HO.out]; simp only [List.getElem?_toArray, List.getElem?_cons_succ, List.getElem?_cons_zero]; rfl) (by rw [HO.out]; kernel_rfl) (by rw [HO.out]; kernel_rfl) (by rw [HO.out]; kernel_rfl) (by rw [HQ.out]; exact fun _ _ _ h => h) (Or.inl ⟨by rfl, ?_⟩) ⟨_, X1.out⟩ ?_
  · intro w' hSw
    go_simp
  try simp only [Act.put, List.setIfInBounds_toArray, List.set_cons_zero, List.set_cons_succ]
  refine wpAnyH_ready (rs := [7, 15]) (by rw [HO.out]; kernel_rfl) (by simp) ?_
  refine AllReadyH.cons (o := _) (by rw [HO.out]; simp only [List.getElem?_toArray, List.getElem?_cons_succ, List.getElem?_cons_zero]; rfl) (fun K7 hK7 => ?_) ?_
  · go_simp
    have hal7 : Below w1.drew.heap.size w1.drew (w1.drew.alloc (.cells #[.int .i64 r.B, .int .i64 r.N, .int .i64 r.S] 3)) := (Below.refl _ _).alloc (Nat.le_refl _) _
    have Y7 : Hid (LS w (w1.drew.alloc (.cells #[.int .i64 r.B, .int .i64 r.N, .int .i64 r.S] 3)) bx r ta tc ma mc [(a1, b1, 6, [r.E])]) := X1.out.below hal7
    have I7 : Hid (IV (w1.drew.alloc (.cells #[.int .i64 r.B, .int .i64 r.N, .int .i64 r.S] 3)) (some ⟨w1.drew.heap.size, 0, none⟩) [r.B, r.N, r.S]) := iv_lit w1.drew [r.B, r.N, r.S]
    refine hK7.out _ _ ⟨_, Y7.out⟩ (fun _ => ?_)
    try simp only [Act.put, List.setIfInBounds_toArray, List.set_cons_zero, List.set_cons_succ]
    refine wpAnyH_ready (rs := [8, 15]) (by rw [HO.out]; kernel_rfl) (by simp) ?_
    refine AllReadyH.cons (o := _) (by rw [HO.out]; simp only [List.getElem?_toArray, List.getElem?_cons_succ, List.getElem?_cons_zero]; rfl) (fun K8 hK8 => ?_) ?_
    · go_simp
      refine (nf_new 2 (some ⟨w1.heap.size, 0, none⟩) 3 [r.B, r.N, r.S] _ I7.out).mono ?_
      rintro e w2 ⟨a2, b2, rfl, HN2, hb2⟩
      have X2 : Hid (LS w w2 bx r ta tc ma mc [(a2, b2, 2, [r.B, r.N, r.S]), (a1, b1, 6, [r.E])]) := (Y7.out.below hb2).add HN2.out
      refine hK8.out _ _ ⟨_, X2.out⟩ (fun _ => ?_)
      try simp only [Act.put, List.setIfInBounds_toArray, List.set_cons_zero, List.set_cons_succ]
      refine wpAnyH_ready (rs := [15]) (by rw [HO.out]; kernel_rfl) (by simp) ?_
      refine AllReadyH.cons (o := _) (by rw [HO.out]; simp only [List.getElem?_toArray, List.getElem?_cons_succ, List.getElem?_cons_zero]; rfl) (fun K15 hK15 => ?_) ?_
      · go_simp
        have hal15 : Below w2.heap.size w2 (w2.alloc (.cells #[.int .i64 (r.T.length : Int), .int .i64 (r.M.length : Int)] 3)) := (Below.refl _ _).alloc (Nat.le_refl _) _
        have Y15 : Hid (LS w (w2.alloc (.cells #[.int .i64 (r.T.length : Int), .int .i64 (r.M.length : Int)] 3)) bx r ta tc ma mc [(a2, b2, 2, [r.B, r.N, r.S]), (a1, b1, 6, [r.E])]) := X2.out.below hal15
        have I15 : Hid (IV (w2.alloc (.cells #[.int .i64 (r.T.length : Int), .int .i64 (r.M.length : Int)] 3)) (some ⟨w2.heap.size, 0, none⟩) [(r.T.length : Int), (r.M.length : Int)]) := iv_lit w2 [(r.T.length : Int), (r.M.length : Int)]
        refine hK15.out _ _ ⟨_, Y15.out⟩ (fun _ => ?_)
        try simp only [Act.put, List.setIfInBounds_toArray, List.set_cons_zero, List.set_cons_succ]
        refine wpAnyH_ready (rs := [16]) (by rw [HO.out]; kernel_rfl) (by simp) ?_
        refine AllReadyH.cons (o := _) (by rw [HO.out]; simp only [List.getElem?_toArray, List.getElem?_cons_succ, List.getElem?_cons_zero]; rfl) (fun K16 hK16 => ?_) ?_
        · go_simp
          refine (nf_new 1 (some ⟨w2.heap.size, 0, none⟩) 2 [(r.T.length : Int), (r.M.length : Int)] _ I15.out).mono ?_
          rintro e w3 ⟨a3, b3, rfl, HN3, hb3⟩
          have X3 : Hid (LS w w3 bx r ta tc ma mc [(a3, b3, 1, [(r.T.length : Int), (r.M.length : Int)]), (a2, b2, 2, [r.B, r.N, r.S]), (a1, b1, 6, [r.E])]) := (Y15.out.below hb3).add HN3.out
          refine hK16.out _ _ ⟨_, X3.out⟩ (fun _ => ?_)
          try simp only [Act.put, List.setIfInBounds_toArray, List.set_cons_zero, List.set_cons_succ]
          refine wpAnyH_ready (rs := [19]) (by rw [HO.out]; kernel_rfl) (by simp) ?_
          refine AllReadyH.cons (o := _) (by rw [HO.out]; simp only [List.getElem?_toArray, List.getElem?_cons_succ, List.getElem?_cons_zero]; rfl) (fun K19 hK19 => ?_) ?_
          · go_simp
            refine (nf_new 2 ta tc r.T _ X3.out.2.2.1.t).mono ?_
            rintro e w4 ⟨a4, b4, rfl, HN4, hb4⟩
            have X4 : Hid (LS w w4 bx r ta tc ma mc [(a4, b4, 2, r.T), (a3, b3, 1, [(r.T.length : Int), (r.M.length : Int)]), (a2, b2, 2, [r.B, r.N, r.S]), (a1, b1, 6, [r.E])]) := (X3.out.below hb4).add HN4.out
            refine hK19.out _ _ ⟨_, X4.out⟩ (fun _ => ?_)
            try simp only [Act.put, List.setIfInBounds_toArray, List.set_cons_zero, List.set_cons_succ]
            refine wpAnyH_ready (rs := [22]) (by rw [HO.out]; kernel_rfl) (by simp) ?_
            refine AllReadyH.cons (o := _) (by rw [HO.out]; simp only [List.getElem?_toArray, List.getElem?_cons_succ, List.getElem?_cons_zero]; rfl) (fun K22 hK22 => ?_) ?_
            · go_simp
              refine (nf_new 2 ma mc r.M _ X4.out.2.2.1.m).mono ?_
              rintro e w5 ⟨a5, b5, rfl, HN5, hb5⟩
              have X5 : Hid (LS w w5 bx r ta tc ma mc [(a5, b5, 2, r.M), (a4, b4, 2, r.T), (a3, b3, 1, [(r.T.length : Int), (r.M.length : Int)]), (a2, b2, 2, [r.B, r.N, r.S]), (a1, b1, 6, [r.E])]) := (X4.out.below hb5).add HN5.out
              refine hK22.out _ _ ⟨_, X5.out⟩ (fun _ => ?_)
              try simp only [Act.put, List.setIfInBounds_toArray, List.set_cons_zero, List.set_cons_succ]
              refine wpAnyH_ready (rs := [24]) (by rw [HO.out]; kernel_rfl) (by simp) ?_
              refine AllReadyH.cons (o := _) (by rw [HO.out]; simp only [List.getElem?_toArray, List.getElem?_cons_succ, List.getElem?_cons_zero]; rfl) (fun K24 hK24 => ?_) ?_
              · go_simp
                have hal24 : Below w5.heap.size w5 (w5.alloc (.cells #[.func (.func 201) #[] #[], .func (.func 221) #[] #[.pointer (some ⟨a1, 0, none⟩), .pointer (some ⟨b1, 0, none⟩)], .func (.func 221) #[] #[.pointer (some ⟨a2, 0, none⟩), .pointer (some ⟨b2, 0, none⟩)], .func (.func 221) #[] #[.pointer (some ⟨a3, 0, none⟩), .pointer (some ⟨b3, 0, none⟩)], .func (.func 221) #[] #[.pointer (some ⟨a4, 0, none⟩), .pointer (some ⟨b4, 0, none⟩)], .func (.func 221) #[] #[.pointer (some ⟨a5, 0, none⟩), .pointer (some ⟨b5, 0, none⟩)], .func (.func 202) #[] #[], .func (.func 203) #[] #[], .func (.func 221) #[] #[.pointer (some ⟨a1, 0, none⟩), .pointer (some ⟨b1, 0, none⟩)]] 160)) := (Below.refl _ _).alloc (Nat.le_refl _) _
                have X6 : Hid (LS w _ bx r ta tc ma mc [(a5, b5, 2, r.M), (a4, b4, 2, r.T), (a3, b3, 1, [(r.T.length : Int), (r.M.length : Int)]), (a2, b2, 2, [r.B, r.N, r.S]), (a1, b1, 6, [r.E])]) := X5.out.below hal24
                refine hK24.out _ _ ⟨_, X6.out⟩ (fun _ => ?_)
                try simp only [Act.put, List.setIfInBounds_toArray, List.set_cons_zero, List.set_cons_succ]
                refine wpAnyH_ready (rs := [25]) (by rw [HO.out]; kernel_rfl) (by simp) ?_
                refine AllReadyH.cons (o := _) (by rw [HO.out]; simp only [List.getElem?_toArray, List.getElem?_cons_succ, List.getElem?_cons_zero]; rfl) (fun K25 hK25 => ?_) ?_
                · go_simp
                  refine hK25.out _ _ ⟨_, X6.out⟩ (fun _ => ?_)
                  try simp only [Act.put, List.setIfInBounds_toArray, List.set_cons_zero, List.set_cons_succ]
                  refine wpAnyH_done (by rw [HO.out]; kernel_rfl) ?_ _
                  rw [HQ.out]
                  refine NoPanic.normal ?_
                  go_wp2_with fail
                  go_ret
                  exact layers_end X6.out (heap_alloc_last _ _)
                exact AllReadyH.nil
              exact AllReadyH.nil
            exact AllReadyH.nil
          exact AllReadyH.nil
        exact AllReadyH.nil
      exact AllReadyH.nil
    refine AllReadyH.cons (o := _) (by rw [HO.out]; simp only [List.getElem?_toArray, List.getElem?_cons_succ, List.getElem?_cons_zero]; rfl) (fun K15 hK15 => ?_) ?_
    · go_simp
      have hal15 : Below (w1.drew.alloc (.cells #[.int .i64 r.B, .int .i64 r.N, .int .i64 r.S] 3)).heap.size (w1.drew.alloc (.cells #[.int .i64 r.B, .int .i64 r.N, .int .i64 r.S] 3)) ((w1.drew.alloc (.cells #[.int .i64 r.B, .int .i64 r.N, .int .i64 r.S] 3)).alloc (.cells #[.int .i64 (r.T.length : Int), .int .i64 (r.M.length : Int)] 3)) := (Below.refl _ _).alloc (Nat.le_refl _) _
      have Z15 : Hid (LS w ((w1.drew.alloc (.cells #[.int .i64 r.B, .int .i64 r.N, .int .i64 r.S] 3)).alloc (.cells #[.int .i64 (r.T.length : Int), .int .i64 (r.M.length : Int)] 3)) bx r ta tc ma mc [(a1, b1, 6, [r.E])]) := Y7.out.below hal15
      have J15 : Hid (IV ((w1.drew.alloc (.cells #[.int .i64 r.B, .int .i64 r.N, .int .i64 r.S] 3)).alloc (.cells #[.int .i64 (r.T.length : Int), .int .i64 (r.M.length : Int)] 3)) (some ⟨w1.heap.size + 1, 0, none⟩) [(r.T.length : Int), (r.M.length : Int)]) := by
        have h := iv_lit (w1.drew.alloc (.cells #[.int .i64 r.B, .int .i64 r.N, .int .i64 r.S] 3)) [(r.T.length : Int), (r.M.length : Int)]
        rw [World.size_alloc] at h
        exact h
      have I7b : Hid (IV ((w1.drew.alloc (.cells #[.int .i64 r.B, .int .i64 r.N, .int .i64 r.S] 3)).alloc (.cells #[.int .i64 (r.T.length : Int), .int .i64 (r.M.length : Int)] 3)) (some ⟨w1.heap.size, 0, none⟩) [r.B, r.N, r.S]) := I7.out.below hal15
      refine hK15.out _ _ ⟨_, Z15.out⟩ (fun _ => ?_)
      try simp only [Act.put, List.setIfInBounds_toArray, List.set_cons_zero, List.set_cons_succ]
      refine wpAnyH_ready (rs := [8]) (by rw [HO.out]; kernel_rfl) (by simp) ?_
      refine AllReadyH.cons (o := _) (by rw [HO.out]; simp only [List.getElem?_toArray, List.getElem?_cons_succ, List.getElem?_cons_zero]; rfl) (fun K8 hK8 => ?_) ?_
      · go_simp
        refine (nf_new 2 (some ⟨w1.heap.size, 0, none⟩) 3 [r.B, r.N, r.S] _ I7b.out).mono ?_
        rintro e w2 ⟨a2, b2, rfl, HN2, hb2⟩
        have X2 : Hid (LS w w2 bx r ta tc ma mc [(a2, b2, 2, [r.B, r.N, r.S]), (a1, b1, 6, [r.E])]) := (Z15.out.below hb2).add HN2.out
        have J2 : Hid (IV w2 (some ⟨w1.heap.size + 1, 0, none⟩) [(r.T.length : Int), (r.M.length : Int)]) := J15.out.below hb2
        refine hK8.out _ _ ⟨_, X2.out⟩ (fun _ => ?_)
        try simp only [Act.put, List.setIfInBounds_toArray, List.set_cons_zero, List.set_cons_succ]
        refine wpAnyH_ready (rs := [16]) (by rw [HO.out]; kernel_rfl) (by simp) ?_
        refine AllReadyH.cons (o := _) (by rw [HO.out]; simp only [List.getElem?_toArray, List.getElem?_cons_succ, List.getElem?_cons_zero]; rfl) (fun K16 hK16 => ?_) ?_
        · go_simp
          refine (nf_new 1 (some ⟨w1.heap.size + 1, 0, none⟩) 2 [(r.T.length : Int), (r.M.length : Int)] _ J2.out).mono ?_
          rintro e w3 ⟨a3, b3, rfl, HN3, hb3⟩
          have X3 : Hid (LS w w3 bx r ta tc ma mc [(a3, b3, 1, [(r.T.length : Int), (r.M.length : Int)]), (a2, b2, 2, [r.B, r.N, r.S]), (a1, b1, 6, [r.E])]) := (X2.out.below hb3).add HN3.out
          refine hK16.out _ _ ⟨_, X3.out⟩ (fun _ => ?_)
          try simp only [Act.put, List.setIfInBounds_toArray, List.set_cons_zero, List.set_cons_succ]
          refine wpAnyH_ready (rs := [19]) (by rw [HO.out]; kernel_rfl) (by simp) ?_
          refine AllReadyH.cons (o := _) (by rw [HO.out]; simp only [List.getElem?_toArray, List.getElem?_cons_succ, List.getElem?_cons_zero]; rfl) (fun K19 hK19 => ?_) ?_
          · go_simp
            refine (nf_new 2 ta tc r.T _ X3.out.2.2.1.t).mono ?_
            rintro e w4 ⟨a4, b4, rfl, HN4, hb4⟩
            have X4 : Hid (LS w w4 bx r ta tc ma mc [(a4, b4, 2, r.T), (a3, b3, 1, [(r.T.length : Int), (r.M.length : Int)]), (a2, b2, 2, [r.B, r.N, r.S]), (a1, b1, 6, [r.E])]) := (X3.out.below hb4).add HN4.out
            refine hK19.out _ _ ⟨_, X4.out⟩ (fun _ => ?_)
            try simp only [Act.put, List.setIfInBounds_toArray, List.set_cons_zero, List.set_cons_succ]
            refine wpAnyH_ready (rs := [22]) (by rw [HO.out]; kernel_rfl) (by simp) ?_
            refine AllReadyH.cons (o := _) (by rw [HO.out]; simp only [List.getElem?_toArray, List.getElem?_cons_succ, List.getElem?_cons_zero]; rfl) (fun K22 hK22 => ?_) ?_
            · go_simp
              refine (nf_new 2 ma mc r.M _ X4.out.2.2.1.m).mono ?_
              rintro e w5 ⟨a5, b5, rfl, HN5, hb5⟩
              have X5 : Hid (LS w w5 bx r ta tc ma mc [(a5, b5, 2, r.M), (a4, b4, 2, r.T), (a3, b3, 1, [(r.T.length : Int), (r.M.length : Int)]), (a2, b2, 2, [r.B, r.N, r.S]), (a1, b1, 6, [r.E])]) := (X4.out.below hb5).add HN5.out
              refine hK22.out _ _ ⟨_, X5.out⟩ (fun _ => ?_)
              try simp only [Act.put, List.setIfInBounds_toArray, List.set_cons_zero, List.set_cons_succ]
              refine wpAnyH_ready (rs := [24]) (by rw [HO.out]; kernel_rfl) (by simp) ?_
              refine AllReadyH.cons (o := _) (by rw [HO.out]; simp only [List.getElem?_toArray, List.getElem?_cons_succ, List.getElem?_cons_zero]; rfl) (fun K24 hK24 => ?_) ?_
              · go_simp
                have hal24 : Below w5.heap.size w5 (w5.alloc (.cells #[.func (.func 201) #[] #[], .func (.func 221) #[] #[.pointer (some ⟨a1, 0, none⟩), .pointer (some ⟨b1, 0, none⟩)], .func (.func 221) #[] #[.pointer (some ⟨a2, 0, none⟩), .pointer (some ⟨b2, 0, none⟩)], .func (.func 221) #[] #[.pointer (some ⟨a3, 0, none⟩), .pointer (some ⟨b3, 0, none⟩)], .func (.func 221) #[] #[.pointer (some ⟨a4, 0, none⟩), .pointer (some ⟨b4, 0, none⟩)], .func (.func 221) #[] #[.pointer (some ⟨a5, 0, none⟩), .pointer (some ⟨b5, 0, none⟩)], .func (.func 202) #[] #[], .func (.func 203) #[] #[], .func (.func 221) #[] #[.pointer (some ⟨a1, 0, none⟩), .pointer (some ⟨b1, 0, none⟩)]] 160)) := (Below.refl _ _).alloc (Nat.le_refl _) _
                have X6 : Hid (LS w _ bx r ta tc ma mc [(a5, b5, 2, r.M), (a4, b4, 2, r.T), (a3, b3, 1, [(r.T.length : Int), (r.M.length : Int)]), (a2, b2, 2, [r.B, r.N, r.S]), (a1, b1, 6, [r.E])]) := X5.out.below hal24
                refine hK24.out _ _ ⟨_, X6.out⟩ (fun _ => ?_)
                try simp only [Act.put, List.setIfInBounds_toArray, List.set_cons_zero, List.set_cons_succ]
                refine wpAnyH_ready (rs := [25]) (by rw [HO.out]; kernel_rfl) (by simp) ?_
                refine AllReadyH.cons (o := _) (by rw [HO.out]; simp only [List.getElem?_toArray, List.getElem?_cons_succ, List.getElem?_cons_zero]; rfl) (fun K25 hK25 => ?_) ?_
                · go_simp
                  refine hK25.out _ _ ⟨_, X6.out⟩ (fun _ => ?_)
                  try simp only [Act.put, List.setIfInBounds_toArray, List.set_cons_zero, List.set_cons_succ]
                  refine wpAnyH_done (by rw [HO.out]; kernel_rfl) ?_ _
                  rw [HQ.out]
                  refine NoPanic.normal ?_
                  go_wp2_with fail
                  go_ret
                  exact layers_end X6.out (heap_alloc_last _ _)
                exact AllReadyH.nil
              exact AllReadyH.nil
            exact AllReadyH.nil
          exact AllReadyH.nil
        exact AllReadyH.nil
      exact AllReadyH.nil
    exact AllReadyH.nil
  refine AllReadyH.cons (o := _) (by rw [HO.out]; simp only [List.getElem?_toArray, List.getElem?_cons_succ, List.getElem?_cons_zero]; rfl) (fun K15 hK15 => ?_) ?_
  · go_simp
    have hal15 : Below w1.drew.heap.size w1.drew (w1.drew.alloc (.cells #[.int .i64 (r.T.length : Int), .int .i64 (r.M.length : Int)] 3)) := (Below.refl _ _).alloc (Nat.le_refl _) _
    have U15h : Hid (LS w (w1.drew.alloc (.cells #[.int .i64 (r.T.length : Int), .int .i64 (r.M.length : Int)] 3)) bx r ta tc ma mc [(a1, b1, 6, [r.E])]) := X1.out.below hal15
    have K15h : Hid (IV (w1.drew.alloc (.cells #[.int .i64 (r.T.length : Int), .int .i64 (r.M.length : Int)] 3)) (some ⟨w1.drew.heap.size, 0, none⟩) [(r.T.length : Int), (r.M.length : Int)]) := iv_lit w1.drew [(r.T.length : Int), (r.M.length : Int)]
    refine hK15.out _ _ ⟨_, U15h.out⟩ (fun _ => ?_)
    try simp only [Act.put, List.setIfInBounds_toArray, List.set_cons_zero, List.set_cons_succ]
    refine wpAnyH_ready (rs := [7]) (by rw [HO.out]; kernel_rfl) (by simp) ?_
    refine AllReadyH.cons (o := _) (by rw [HO.out]; simp only [List.getElem?_toArray, List.getElem?_cons_succ, List.getElem?_cons_zero]; rfl) (fun K7 hK7 => ?_) ?_
    · go_simp
      have hal7 : Below (w1.drew.alloc (.cells #[.int .i64 (r.T.length : Int), .int .i64 (r.M.length : Int)] 3)).heap.size (w1.drew.alloc (.cells #[.int .i64 (r.T.length : Int), .int .i64 (r.M.length : Int)] 3)) ((w1.drew.alloc (.cells #[.int .i64 (r.T.length : Int), .int .i64 (r.M.length : Int)] 3)).alloc (.cells #[.int .i64 r.B, .int .i64 r.N, .int .i64 r.S] 3)) := (Below.refl _ _).alloc (Nat.le_refl _) _
      have U7h : Hid (LS w ((w1.drew.alloc (.cells #[.int .i64 (r.T.length : Int), .int .i64 (r.M.length : Int)] 3)).alloc (.cells #[.int .i64 r.B, .int .i64 r.N, .int .i64 r.S] 3)) bx r ta tc ma mc [(a1, b1, 6, [r.E])]) := U15h.out.below hal7
      have K7h : Hid (IV ((w1.drew.alloc (.cells #[.int .i64 (r.T.length : Int), .int .i64 (r.M.length : Int)] 3)).alloc (.cells #[.int .i64 r.B, .int .i64 r.N, .int .i64 r.S] 3)) (some ⟨w1.heap.size + 1, 0, none⟩) [r.B, r.N, r.S]) := by
        have h := iv_lit (w1.drew.alloc (.cells #[.int .i64 (r.T.length : Int), .int .i64 (r.M.length : Int)] 3)) [r.B, r.N, r.S]
        rw [World.size_alloc] at h
        exact h
      have K15b : Hid (IV ((w1.drew.alloc (.cells #[.int .i64 (r.T.length : Int), .int .i64 (r.M.length : Int)] 3)).alloc (.cells #[.int .i64 r.B, .int .i64 r.N, .int .i64 r.S] 3)) (some ⟨w1.heap.size, 0, none⟩) [(r.T.length : Int), (r.M.length : Int)]) := K15h.out.below hal7
      refine hK7.out _ _ ⟨_, U7h.out⟩ (fun _ => ?_)
      try simp only [Act.put, List.setIfInBounds_toArray, List.set_cons_zero, List.set_cons_succ]
      refine wpAnyH_ready (rs := [8]) (by rw [HO.out]; kernel_rfl) (by simp) ?_
      refine AllReadyH.cons (o := _) (by rw [HO.out]; simp only [List.getElem?_toArray, List.getElem?_cons_succ, List.getElem?_cons_zero]; rfl) (fun K8 hK8 => ?_) ?_
      · go_simp
        refine (nf_new 2 (some ⟨w1.heap.size + 1, 0, none⟩) 3 [r.B, r.N, r.S] _ K7h.out).mono ?_
        rintro e w2 ⟨a2, b2, rfl, HN2, hb2⟩
        have X2 : Hid (LS w w2 bx r ta tc ma mc [(a2, b2, 2, [r.B, r.N, r.S]), (a1, b1, 6, [r.E])]) := (U7h.out.below hb2).add HN2.out
        have J2 : Hid (IV w2 (some ⟨w1.heap.size, 0, none⟩) [(r.T.length : Int), (r.M.length : Int)]) := K15b.out.below hb2
        refine hK8.out _ _ ⟨_, X2.out⟩ (fun _ => ?_)
        try simp only [Act.put, List.setIfInBounds_toArray, List.set_cons_zero, List.set_cons_succ]
        refine wpAnyH_ready (rs := [16]) (by rw [HO.out]; kernel_rfl) (by simp) ?_
        refine AllReadyH.cons (o := _) (by rw [HO.out]; simp only [List.getElem?_toArray, List.getElem?_cons_succ, List.getElem?_cons_zero]; rfl) (fun K16 hK16 => ?_) ?_
        · go_simp
          refine (nf_new 1 (some ⟨w1.heap.size, 0, none⟩) 2 [(r.T.length : Int), (r.M.length : Int)] _ J2.out).mono ?_
          rintro e w3 ⟨a3, b3, rfl, HN3, hb3⟩
          have X3 : Hid (LS w w3 bx r ta tc ma mc [(a3, b3, 1, [(r.T.length : Int), (r.M.length : Int)]), (a2, b2, 2, [r.B, r.N, r.S]), (a1, b1, 6, [r.E])]) := (X2.out.below hb3).add HN3.out
          refine hK16.out _ _ ⟨_, X3.out⟩ (fun _ => ?_)
          try simp only [Act.put, List.setIfInBounds_toArray, List.set_cons_zero, List.set_cons_succ]
          refine wpAnyH_ready (rs := [19]) (by rw [HO.out]; kernel_rfl) (by simp) ?_
          refine AllReadyH.cons (o := _) (by rw [HO.out]; simp only [List.getElem?_toArray, List.getElem?_cons_succ, List.getElem?_cons_zero]; rfl) (fun K19 hK19 => ?_) ?_
          · go_simp
            refine (nf_new 2 ta tc r.T _ X3.out.2.2.1.t).mono ?_
            rintro e w4 ⟨a4, b4, rfl, HN4, hb4⟩
            have X4 : Hid (LS w w4 bx r ta tc ma mc [(a4, b4, 2, r.T), (a3, b3, 1, [(r.T.length : Int), (r.M.length : Int)]), (a2, b2, 2, [r.B, r.N, r.S]), (a1, b1, 6, [r.E])]) := (X3.out.below hb4).add HN4.out
            refine hK19.out _ _ ⟨_, X4.out⟩ (fun _ => ?_)
            try simp only [Act.put, List.setIfInBounds_toArray, List.set_cons_zero, List.set_cons_succ]
            refine wpAnyH_ready (rs := [22]) (by rw [HO.out]; kernel_rfl) (by simp) ?_
            refine AllReadyH.cons (o := _) (by rw [HO.out]; simp only [List.getElem?_toArray, List.getElem?_cons_succ, List.getElem?_cons_zero]; rfl) (fun K22 hK22 => ?_) ?_
            · go_simp
              refine (nf_new 2 ma mc r.M _ X4.out.2.2.1.m).mono ?_
              rintro e w5 ⟨a5, b5, rfl, HN5, hb5⟩
              have X5 : Hid (LS w w5 bx r ta tc ma mc [(a5, b5, 2, r.M), (a4, b4, 2, r.T), (a3, b3, 1, [(r.T.length : Int), (r.M.length : Int)]), (a2, b2, 2, [r.B, r.N, r.S]), (a1, b1, 6, [r.E])]) := (X4.out.below hb5).add HN5.out
              refine hK22.out _ _ ⟨_, X5.out⟩ (fun _ => ?_)
              try simp only [Act.put, List.setIfInBounds_toArray, List.set_cons_zero, List.set_cons_succ]
              refine wpAnyH_ready (rs := [24]) (by rw [HO.out]; kernel_rfl) (by simp) ?_
              refine AllReadyH.cons (o := _) (by rw [HO.out]; simp only [List.getElem?_toArray, List.getElem?_cons_succ, List.getElem?_cons_zero]; rfl) (fun K24 hK24 => ?_) ?_
              · go_simp
                have hal24 : Below w5.heap.size w5 (w5.alloc (.cells #[.func (.func 201) #[] #[], .func (.func 221) #[] #[.pointer (some ⟨a1, 0, none⟩), .pointer (some ⟨b1, 0, none⟩)], .func (.func 221) #[] #[.pointer (some ⟨a2, 0, none⟩), .pointer (some ⟨b2, 0, none⟩)], .func (.func 221) #[] #[.pointer (some ⟨a3, 0, none⟩), .pointer (some ⟨b3, 0, none⟩)], .func (.func 221) #[] #[.pointer (some ⟨a4, 0, none⟩), .pointer (some ⟨b4, 0, none⟩)], .func (.func 221) #[] #[.pointer (some ⟨a5, 0, none⟩), .pointer (some ⟨b5, 0, none⟩)], .func (.func 202) #[] #[], .func (.func 203) #[] #[], .func (.func 221) #[] #[.pointer (some ⟨a1, 0, none⟩), .pointer (some ⟨b1, 0, none⟩)]] 160)) := (Below.refl _ _).alloc (Nat.le_refl _) _
                have X6 : Hid (LS w _ bx r ta tc ma mc [(a5, b5, 2, r.M), (a4, b4, 2, r.T), (a3, b3, 1, [(r.T.length : Int), (r.M.length : Int)]), (a2, b2, 2, [r.B, r.N, r.S]), (a1, b1, 6, [r.E])]) := X5.out.below hal24
                refine hK24.out _ _ ⟨_, X6.out⟩ (fun _ => ?_)
                try simp only [Act.put, List.setIfInBounds_toArray, List.set_cons_zero, List.set_cons_succ]
                refine wpAnyH_ready (rs := [25]) (by rw [HO.out]; kernel_rfl) (by simp) ?_
                refine AllReadyH.cons (o := _) (by rw [HO.out]; simp only [List.getElem?_toArray, List.getElem?_cons_succ, List.getElem?_cons_zero]; rfl) (fun K25 hK25 => ?_) ?_
                · go_simp
                  refine hK25.out _ _ ⟨_, X6.out⟩ (fun _ => ?_)
                  try simp only [Act.put, List.setIfInBounds_toArray, List.set_cons_zero, List.set_cons_succ]
                  refine wpAnyH_done (by rw [HO.out]; kernel_rfl) ?_ _
                  rw [HQ.out]
                  refine NoPanic.normal ?_
                  go_wp2_with fail
                  go_ret
                  exact layers_end X6.out (heap_alloc_last _ _)
                exact AllReadyH.nil
              exact AllReadyH.nil
            exact AllReadyH.nil
          exact AllReadyH.nil
        exact AllReadyH.nil
      exact AllReadyH.nil
    exact AllReadyH.nil
  exact AllReadyH.nil
end Go.Proofs.YtelhlikeefpjnaaGreat.R
namespace Go.Proofs.YtelhlikeefpjnaaGreat.R
set_option maxRecDepth 20000
open Go.RowKit
set_option linter.unusedVariables false
theorem putL_dig (n : Int) (x : Nat) (h1 : 1 ≤ x) (h6 : x ≤ 6) (h0 : 0 ≤ n) (hn : n < 256 ^ x) : putL n x = dig n x := by
  unfold putL
  rw [if_neg (by omega), Int.toNat_natCast, if_neg (by omega)]
theorem wides_two : ∀ zs : List Int, (∀ z ∈ zs, 0 ≤ z ∧ z < 65536) → wides 2 zs = twos zs
  | [], _ => rfl
  | z :: zs, h => by
    show putL z 2 ++ wides 2 zs = dig z 2 ++ twos zs
    rw [wides_two zs (fun y hy => h y (by simp [hy]))]
    have := h z (by simp)
    rw [show putL z 2 = dig z 2 from putL_dig z 2 (by decide) (by decide) this.1 this.2]
def pr (r : RD) : Nat → List Int
  | 0 => []
  | 1 => [114, 111, 111, 116]
  | 2 => [114, 111, 111, 116] ++ dig r.E 6
  | 3 => [114, 111, 111, 116] ++ dig r.E 6 ++ (dig r.B 2 ++ dig r.N 2 ++ dig r.S 2)
  | 4 => [114, 111, 111, 116] ++ dig r.E 6 ++ (dig r.B 2 ++ dig r.N 2 ++ dig r.S 2) ++ (dig r.T.length 1 ++ dig r.M.length 1)
  | 5 => [114, 111, 111, 116] ++ dig r.E 6 ++ (dig r.B 2 ++ dig r.N 2 ++ dig r.S 2) ++ (dig r.T.length 1 ++ dig r.M.length 1) ++ twos r.T
  | 6 => frontS r
  | 7 => bodyS r
  | 8 => bodyS r ++ dig (more 0 (bodyS r)) 4
  | _ => putS r
theorem four_all : AllB [114, 111, 111, 116] := by intro z hz; revert z; decide
theorem pr_all (r : RD) : ∀ k, AllB (pr r k)
  | 0 => AllB.nil
  | 1 => four_all
  | 2 => four_all.append (dig_all _ _)
  | 3 => (four_all.append (dig_all _ _)).append (((dig_all _ _).append (dig_all _ _)).append (dig_all _ _))
  | 4 => ((four_all.append (dig_all _ _)).append (((dig_all _ _).append (dig_all _ _)).append (dig_all _ _))).append ((dig_all _ _).append (dig_all _ _))
  | 5 => (((four_all.append (dig_all _ _)).append (((dig_all _ _).append (dig_all _ _)).append (dig_all _ _))).append ((dig_all _ _).append (dig_all _ _))).append (twos_all _)
  | 6 => front_all r
  | 7 => body_all r
  | 8 => (body_all r).append (dig_all _ _)
  | _ + 9 => put_all r
theorem pr_len {r : RD} (h : r.Ok) : ∀ k, (pr r k).length ≤ 256
  | 0 => by simp [pr]
  | 1 => by simp [pr]
  | 2 => by simp [pr, dig_length]
  | 3 => by simp [pr, dig_length]
  | 4 => by simp [pr, dig_length]
  | 5 => by have := h.t1; simp [pr, dig_length, twos_len]; omega
  | 6 => by have := h.t1; have := h.m1; show (frontS r).length ≤ _; rw [front_len]; omega
  | 7 => by show (bodyS r).length ≤ _; rw [body_len h]; omega
  | 8 => by show (bodyS r ++ _).length ≤ _; rw [List.length_append, body_len h, dig_length]; omega
  | _ + 9 => by show (putS r).length ≤ _; rw [put_len h]; omega
theorem laid_step {wL wr w' : World} {e : Ending} {bv : Value} {zs ys : List Int} (ho : Own wr wL.heap.size bv zs) (hb : Below wL.heap.size wL wr) (h : Laid wr w' e ys) : ∃ a c, e = .returned (.slice a ys.length c) ∧ Hid (BV w' a ys ∧ (a = none → c = 0) ∧ Own w' wL.heap.size bv zs ∧ Below wL.heap.size wL w') := by
  obtain ⟨a, c, rfl, h1, h2⟩ := h
  exact ⟨a, c, rfl, h1.out.1, h1.out.2, ho.below h2, hb.trans (h2.mono hb.size)⟩
theorem wides_6 {r : RD} (h : r.Ok) : wides 6 [r.E] = dig r.E 6 := by
  show putL r.E 6 ++ [] = _
  have := h.e0; have := h.e1
  rw [List.append_nil, show putL r.E 6 = dig r.E 6 from putL_dig r.E 6 (by decide) (by decide) (by omega) (by show r.E < 281474976710656; omega)]
theorem wides_3 {r : RD} (h : r.Ok) : wides 2 [r.B, r.N, r.S] = dig r.B 2 ++ dig r.N 2 ++ dig r.S 2 := by
  have := h.b0; have := h.b1; have := h.n0; have := h.n1; have := h.s0; have := h.s1
  rw [wides_two _ (fun z hz => by simp at hz; omega)]
  show dig r.B 2 ++ (dig r.N 2 ++ (dig r.S 2 ++ [])) = _
  rw [List.append_nil, List.append_assoc]
theorem wides_1 {r : RD} (h : r.Ok) : wides 1 [(r.T.length : Int), (r.M.length : Int)] = dig r.T.length 1 ++ dig r.M.length 1 := by
  have := h.t1; have := h.m1
  show putL (r.T.length : Int) 1 ++ (putL (r.M.length : Int) 1 ++ []) = _
  rw [List.append_nil, show putL (r.T.length : Int) 1 = dig r.T.length 1 from putL_dig _ 1 (by decide) (by decide) (by omega) (by show (r.T.length : Int) < 256; omega), show putL (r.M.length : Int) 1 = dig r.M.length 1 from putL_dig _ 1 (by decide) (by decide) (by omega) (by show (r.M.length : Int) < 256; omega)]
theorem wides_T {r : RD} (h : r.Ok) : wides 2 r.T = twos r.T := wides_two _ (fun z hz => by have := h.tb z hz; have := h.b1; omega)
theorem wides_M {r : RD} (h : r.Ok) : wides 2 r.M = twos r.M := wides_two _ (fun z hz => by have := h.mb z hz; have := h.b1; omega)
set_option maxHeartbeats 400000 in
theorem put_bad (r : RD) (ta ma : Option Addr) (tc mc : Nat) (w : World) (hr : Rt w r ta tc ma mc) (h : checkE r ≠ 0) :
    Calls Tryz.prog 118 #[rootV r ta tc ma mc] w fun e w' => e = .returned (.tuple #[.slice none 0 0, .int .i64 (checkE r)]) ∧ Below w.heap.size w w' := by
  obtain ⟨W, hW⟩ : ∃ W, W = w.alloc (.cells #[.int .i64 r.E, .int .i64 r.B, .int .i64 r.N, .int .i64 r.S, .slice ta r.T.length tc, .slice ma r.M.length mc] 94) := ⟨_, rfl⟩
  have hB : Below w.heap.size w W := by rw [hW]; exact (Below.refl _ _).alloc (Nat.le_refl _) _
  have hsz : w.heap.size < W.heap.size := by rw [hW]; simp
  have c0 : W.cell? ⟨w.heap.size, 0, none⟩ = some (.int .i64 r.E) := by rw [hW]; go_simp
  have c1 : W.cell? ⟨w.heap.size, 1, none⟩ = some (.int .i64 r.B) := by rw [hW]; go_simp
  have c2 : W.cell? ⟨w.heap.size, 2, none⟩ = some (.int .i64 r.N) := by rw [hW]; go_simp
  have c3 : W.cell? ⟨w.heap.size, 3, none⟩ = some (.int .i64 r.S) := by rw [hW]; go_simp
  have c4 : W.cell? ⟨w.heap.size, 4, none⟩ = some (.slice ta r.T.length tc) := by rw [hW]; go_simp
  have c5 : W.cell? ⟨w.heap.size, 5, none⟩ = some (.slice ma r.M.length mc) := by rw [hW]; go_simp
  have HC := check_any r ta ma tc mc W (hr.below hB)
  have hd : (checkE r == 0) = false := by simpa using h
  clear h hr
  generalize checkE r = c at *
  unfold rootV at *
  go_enter Tryz.func118, Tryz.ntmps118
  go_wp2_with fail
  rw [← hW]
  clear hW
  refine HC.mono ?_
  rintro e w1 ⟨rfl, hb1⟩
  clear HC
  go_wp2_with fail
  exact bodyPost_ret (v := .tuple #[.slice none 0 0, .int .i64 c]) (by simp [results, Tryz.results118, go_sem]) rfl ⟨rfl, hB.trans (hb1.mono hB.size)⟩
set_option maxHeartbeats 3200000 in
theorem put_good (r : RD) (ta ma : Option Addr) (tc mc : Nat) (w : World) (hr : Rt w r ta tc ma mc) (h : r.Ok) :
    Calls Tryz.prog 118 #[rootV r ta tc ma mc] w fun e w' => ∃ v, e = .returned (.tuple #[v, .int .i64 0]) ∧ Own w' w.heap.size v (putS r) ∧ Below w.heap.size w w' := by
  obtain ⟨W, hW⟩ : ∃ W, W = w.alloc (.cells #[.int .i64 r.E, .int .i64 r.B, .int .i64 r.N, .int .i64 r.S, .slice ta r.T.length tc, .slice ma r.M.length mc] 94) := ⟨_, rfl⟩
  have hB : Below w.heap.size w W := by rw [hW]; exact (Below.refl _ _).alloc (Nat.le_refl _) _
  have hsz : w.heap.size < W.heap.size := by rw [hW]; simp
  have c0 : W.cell? ⟨w.heap.size, 0, none⟩ = some (.int .i64 r.E) := by rw [hW]; go_simp
  have c1 : W.cell? ⟨w.heap.size, 1, none⟩ = some (.int .i64 r.B) := by rw [hW]; go_simp
  have c2 : W.cell? ⟨w.heap.size, 2, none⟩ = some (.int .i64 r.N) := by rw [hW]; go_simp
  have c3 : W.cell? ⟨w.heap.size, 3, none⟩ = some (.int .i64 r.S) := by rw [hW]; go_simp
  have c4 : W.cell? ⟨w.heap.size, 4, none⟩ = some (.slice ta r.T.length tc) := by rw [hW]; go_simp
  have c5 : W.cell? ⟨w.heap.size, 5, none⟩ = some (.slice ma r.M.length mc) := by rw [hW]; go_simp
  have HC := check_any r ta ma tc mc W (hr.below hB)
  rw [checkE_ok h] at HC
  have HLY : Hid (∀ W', Below W.heap.size W W' → Calls Tryz.prog 173 #[rootV r ta tc ma mc] W' fun e w' => LayersPost W' r e w') := fun W' hW' => layers_any r ta ma tc mc W' ((hr.below hB).below hW')
  have HOK : Hid (r.Ok) := h
  clear hr h
  unfold rootV at *
  go_enter Tryz.func118, Tryz.ntmps118
  go_wp2_with fail
  rw [← hW]
  clear hW
  refine HC.mono ?_
  rintro e w1 ⟨rfl, hb1⟩
  have d0 := (hb1.cell (p := ⟨w.heap.size, 0, none⟩) hsz).trans c0
  have d1 := (hb1.cell (p := ⟨w.heap.size, 1, none⟩) hsz).trans c1
  have d2 := (hb1.cell (p := ⟨w.heap.size, 2, none⟩) hsz).trans c2
  have d3 := (hb1.cell (p := ⟨w.heap.size, 3, none⟩) hsz).trans c3
  have d4 := (hb1.cell (p := ⟨w.heap.size, 4, none⟩) hsz).trans c4
  have d5 := (hb1.cell (p := ⟨w.heap.size, 5, none⟩) hsz).trans c5
  clear HC c0 c1 c2 c3 c4 c5
  go_wp2_with (first
    | (go_at_call 173; refine (HLY.out _ hb1).mono ?_; rintro e wL ⟨g, a1, b1, a2, b2, a3, b3, a4, b4, a5, b5, rfl, HL, hbL⟩; clear HLY)
    | fail)
  go_loopw [5, 16] (fun bv iv wr => ∃ k : Nat, k ≤ 9 ∧ iv = .int .i64 k ∧ Hid (Own wr wL.heap.size bv (pr r k)) ∧ Hid (Below wL.heap.size wL wr)) (fun _ iv _ => 9 - (intOf iv).toNat)
  case atStart => exact ⟨0, Nat.zero_le _, rfl, Own.nil _ _, Below.refl _ _⟩
  case round =>
    obtain ⟨k, hk, rfl, HO, HW⟩ := hrel
    clear d0 d1 d2 d3 d4 d5
    by_cases hlt : k < 9
    · have hbr := HW.out
      have hgs : g < wL.heap.size := (Array.getElem?_eq_some_iff.1 HL.out.1).1
      have HPL : Hid ((pr r k).length ≤ 256) := pr_len HOK.out k
      obtain ⟨xa, xc, hbe, hxn, hbv, _, _⟩ := HO.out.slice (pr_all r k)
      subst hbe
      have HOW : Hid (Own wr wL.heap.size (.slice xa (pr r k).length xc) (pr r k)) := HO.out
      have hk9 : k = 0 ∨ k = 1 ∨ k = 2 ∨ k = 3 ∨ k = 4 ∨ k = 5 ∨ k = 6 ∨ k = 7 ∨ k = 8 := by omega
      rcases hk9 with e | e | e | e | e | e | e | e | e
      · have hx : wr.cell? ⟨g, k, none⟩ = some (.func (.func 201) #[] #[]) := by
          rw [e, (hbr.cell (p := ⟨g, 0, none⟩) hgs), cell_of_row _ _ _ _ _ _ HL.out.1]; rfl
        have HCL : Hid (Calls Tryz.prog 201 #[.slice xa (pr r k).length xc] wr fun e w' => ∃ a c, e = .returned (.slice a ([114, 111, 111, 116] : List Int).length c) ∧ Hid (BV w' a ([114, 111, 111, 116] : List Int) ∧ (a = none → c = 0) ∧ Own w' wL.heap.size (.slice xa (pr r k).length xc) (pr r k) ∧ Below wL.heap.size wL w')) := by
          have hq : Calls Tryz.prog 201 #[.slice xa (pr r k).length xc] wr fun e w' => Laid wr w' e ([114, 111, 111, 116] : List Int) := layers1_any _ _
          exact hq.mono (fun e w' h => laid_step HOW.out hbr h)
        have HT : Hid (pr r (k + 1) = pr r k ++ [114, 111, 111, 116]) := by rw [e]; rfl
        have HYL : Hid (([114, 111, 111, 116] : List Int).length ≤ 300) := by
          have : ([114, 111, 111, 116] : List Int).length ≤ 300 := by simp
          exact this
        clear e hbv hxn
        generalize ([114, 111, 111, 116] : List Int) = ys at *
        go_wp2_with (first
          | (go_at_call 201; refine (HCL.out).mono ?_; rintro e w2 ⟨ya, yc, rfl, H2⟩; clear HCL)
          | (at_builtin; refine wp_app_bv rfl _ _ rfl wL.heap.size _ (pr r k) ys rfl H2.out.2.2.1 ya yc rfl H2.out.1 H2.out.2.1 (by have := HPL.out; have := HYL.out; omega) H2.out.2.2.2.size ?_; intro v3 w3 ho3 hb3)
          | fail)
        go_roundw
        case rel => exact ⟨k + 1, by omega, by go_num, by rw [HT.out]; exact ho3, H2.out.2.2.2.trans hb3⟩
        case measure => simp [intOf]; omega
      · have hx : wr.cell? ⟨g, k, none⟩ = some (.func (.func 221) #[] #[.pointer (some ⟨a1, 0, none⟩), .pointer (some ⟨b1, 0, none⟩)]) := by
          rw [e, (hbr.cell (p := ⟨g, 1, none⟩) hgs), cell_of_row _ _ _ _ _ _ HL.out.1]; rfl
        have HCL : Hid (Calls Tryz.prog 221 #[.slice xa (pr r k).length xc, .pointer (some ⟨a1, 0, none⟩), .pointer (some ⟨b1, 0, none⟩)] wr fun e w' => ∃ a c, e = .returned (.slice a (dig r.E 6).length c) ∧ Hid (BV w' a (dig r.E 6) ∧ (a = none → c = 0) ∧ Own w' wL.heap.size (.slice xa (pr r k).length xc) (pr r k) ∧ Below wL.heap.size wL w')) := by
          have hq : Calls Tryz.prog 221 #[.slice xa (pr r k).length xc, .pointer (some ⟨a1, 0, none⟩), .pointer (some ⟨b1, 0, none⟩)] wr fun e w' => Laid wr w' e (dig r.E 6) := by
              have hq := nf_call (.slice xa (pr r k).length xc) (HL.out.2.1.below hbr) (by simp)
              rw [wides_6 HOK.out] at hq
              exact hq
          exact hq.mono (fun e w' h => laid_step HOW.out hbr h)
        have HT : Hid (pr r (k + 1) = pr r k ++ dig r.E 6) := by rw [e]; rfl
        have HYL : Hid ((dig r.E 6).length ≤ 300) := by
          have : (dig r.E 6).length ≤ 300 := by rw [dig_length]; omega
          exact this
        clear e hbv hxn
        generalize (dig r.E 6) = ys at *
        go_wp2_with (first
          | (go_at_call 221; refine (HCL.out).mono ?_; rintro e w2 ⟨ya, yc, rfl, H2⟩; clear HCL)
          | (at_builtin; refine wp_app_bv rfl _ _ rfl wL.heap.size _ (pr r k) ys rfl H2.out.2.2.1 ya yc rfl H2.out.1 H2.out.2.1 (by have := HPL.out; have := HYL.out; omega) H2.out.2.2.2.size ?_; intro v3 w3 ho3 hb3)
          | fail)
        go_roundw
        case rel => exact ⟨k + 1, by omega, by go_num, by rw [HT.out]; exact ho3, H2.out.2.2.2.trans hb3⟩
        case measure => simp [intOf]; omega
      · have hx : wr.cell? ⟨g, k, none⟩ = some (.func (.func 221) #[] #[.pointer (some ⟨a2, 0, none⟩), .pointer (some ⟨b2, 0, none⟩)]) := by
          rw [e, (hbr.cell (p := ⟨g, 2, none⟩) hgs), cell_of_row _ _ _ _ _ _ HL.out.1]; rfl
        have HCL : Hid (Calls Tryz.prog 221 #[.slice xa (pr r k).length xc, .pointer (some ⟨a2, 0, none⟩), .pointer (some ⟨b2, 0, none⟩)] wr fun e w' => ∃ a c, e = .returned (.slice a (dig r.B 2 ++ dig r.N 2 ++ dig r.S 2).length c) ∧ Hid (BV w' a (dig r.B 2 ++ dig r.N 2 ++ dig r.S 2) ∧ (a = none → c = 0) ∧ Own w' wL.heap.size (.slice xa (pr r k).length xc) (pr r k) ∧ Below wL.heap.size wL w')) := by
          have hq : Calls Tryz.prog 221 #[.slice xa (pr r k).length xc, .pointer (some ⟨a2, 0, none⟩), .pointer (some ⟨b2, 0, none⟩)] wr fun e w' => Laid wr w' e (dig r.B 2 ++ dig r.N 2 ++ dig r.S 2) := by
              have hq := nf_call (.slice xa (pr r k).length xc) (HL.out.2.2.1.below hbr) (by simp)
              rw [wides_3 HOK.out] at hq
              exact hq
          exact hq.mono (fun e w' h => laid_step HOW.out hbr h)
        have HT : Hid (pr r (k + 1) = pr r k ++ (dig r.B 2 ++ dig r.N 2 ++ dig r.S 2)) := by rw [e]; rfl
        have HYL : Hid ((dig r.B 2 ++ dig r.N 2 ++ dig r.S 2).length ≤ 300) := by
          have : (dig r.B 2 ++ dig r.N 2 ++ dig r.S 2).length ≤ 300 := by rw [List.length_append, List.length_append, dig_length, dig_length, dig_length]; omega
          exact this
        clear e hbv hxn
        generalize (dig r.B 2 ++ dig r.N 2 ++ dig r.S 2) = ys at *
        go_wp2_with (first
          | (go_at_call 221; refine (HCL.out).mono ?_; rintro e w2 ⟨ya, yc, rfl, H2⟩; clear HCL)
          | (at_builtin; refine wp_app_bv rfl _ _ rfl wL.heap.size _ (pr r k) ys rfl H2.out.2.2.1 ya yc rfl H2.out.1 H2.out.2.1 (by have := HPL.out; have := HYL.out; omega) H2.out.2.2.2.size ?_; intro v3 w3 ho3 hb3)
          | fail)
        go_roundw
        case rel => exact ⟨k + 1, by omega, by go_num, by rw [HT.out]; exact ho3, H2.out.2.2.2.trans hb3⟩
        case measure => simp [intOf]; omega
      · have hx : wr.cell? ⟨g, k, none⟩ = some (.func (.func 221) #[] #[.pointer (some ⟨a3, 0, none⟩), .pointer (some ⟨b3, 0, none⟩)]) := by
          rw [e, (hbr.cell (p := ⟨g, 3, none⟩) hgs), cell_of_row _ _ _ _ _ _ HL.out.1]; rfl
        have HCL : Hid (Calls Tryz.prog 221 #[.slice xa (pr r k).length xc, .pointer (some ⟨a3, 0, none⟩), .pointer (some ⟨b3, 0, none⟩)] wr fun e w' => ∃ a c, e = .returned (.slice a (dig r.T.length 1 ++ dig r.M.length 1).length c) ∧ Hid (BV w' a (dig r.T.length 1 ++ dig r.M.length 1) ∧ (a = none → c = 0) ∧ Own w' wL.heap.size (.slice xa (pr r k).length xc) (pr r k) ∧ Below wL.heap.size wL w')) := by
          have hq : Calls Tryz.prog 221 #[.slice xa (pr r k).length xc, .pointer (some ⟨a3, 0, none⟩), .pointer (some ⟨b3, 0, none⟩)] wr fun e w' => Laid wr w' e (dig r.T.length 1 ++ dig r.M.length 1) := by
              have hq := nf_call (.slice xa (pr r k).length xc) (HL.out.2.2.2.1.below hbr) (by simp)
              rw [wides_1 HOK.out] at hq
              exact hq
          exact hq.mono (fun e w' h => laid_step HOW.out hbr h)
        have HT : Hid (pr r (k + 1) = pr r k ++ (dig r.T.length 1 ++ dig r.M.length 1)) := by rw [e]; rfl
        have HYL : Hid ((dig r.T.length 1 ++ dig r.M.length 1).length ≤ 300) := by
          have : (dig r.T.length 1 ++ dig r.M.length 1).length ≤ 300 := by rw [List.length_append, dig_length, dig_length]; omega
          exact this
        clear e hbv hxn
        generalize (dig r.T.length 1 ++ dig r.M.length 1) = ys at *
        go_wp2_with (first
          | (go_at_call 221; refine (HCL.out).mono ?_; rintro e w2 ⟨ya, yc, rfl, H2⟩; clear HCL)
          | (at_builtin; refine wp_app_bv rfl _ _ rfl wL.heap.size _ (pr r k) ys rfl H2.out.2.2.1 ya yc rfl H2.out.1 H2.out.2.1 (by have := HPL.out; have := HYL.out; omega) H2.out.2.2.2.size ?_; intro v3 w3 ho3 hb3)
          | fail)
        go_roundw
        case rel => exact ⟨k + 1, by omega, by go_num, by rw [HT.out]; exact ho3, H2.out.2.2.2.trans hb3⟩
        case measure => simp [intOf]; omega
      · have hx : wr.cell? ⟨g, k, none⟩ = some (.func (.func 221) #[] #[.pointer (some ⟨a4, 0, none⟩), .pointer (some ⟨b4, 0, none⟩)]) := by
          rw [e, (hbr.cell (p := ⟨g, 4, none⟩) hgs), cell_of_row _ _ _ _ _ _ HL.out.1]; rfl
        have HCL : Hid (Calls Tryz.prog 221 #[.slice xa (pr r k).length xc, .pointer (some ⟨a4, 0, none⟩), .pointer (some ⟨b4, 0, none⟩)] wr fun e w' => ∃ a c, e = .returned (.slice a (twos r.T).length c) ∧ Hid (BV w' a (twos r.T) ∧ (a = none → c = 0) ∧ Own w' wL.heap.size (.slice xa (pr r k).length xc) (pr r k) ∧ Below wL.heap.size wL w')) := by
          have hq : Calls Tryz.prog 221 #[.slice xa (pr r k).length xc, .pointer (some ⟨a4, 0, none⟩), .pointer (some ⟨b4, 0, none⟩)] wr fun e w' => Laid wr w' e (twos r.T) := by
              have hq := nf_call (.slice xa (pr r k).length xc) (HL.out.2.2.2.2.1.below hbr) (by have := HOK.out.t1; omega)
              rw [wides_T HOK.out] at hq
              exact hq
          exact hq.mono (fun e w' h => laid_step HOW.out hbr h)
        have HT : Hid (pr r (k + 1) = pr r k ++ twos r.T) := by rw [e]; rfl
        have HYL : Hid ((twos r.T).length ≤ 300) := by
          have : (twos r.T).length ≤ 300 := by rw [twos_len]; have := HOK.out.t1; omega
          exact this
        clear e hbv hxn
        generalize (twos r.T) = ys at *
        go_wp2_with (first
          | (go_at_call 221; refine (HCL.out).mono ?_; rintro e w2 ⟨ya, yc, rfl, H2⟩; clear HCL)
          | (at_builtin; refine wp_app_bv rfl _ _ rfl wL.heap.size _ (pr r k) ys rfl H2.out.2.2.1 ya yc rfl H2.out.1 H2.out.2.1 (by have := HPL.out; have := HYL.out; omega) H2.out.2.2.2.size ?_; intro v3 w3 ho3 hb3)
          | fail)
        go_roundw
        case rel => exact ⟨k + 1, by omega, by go_num, by rw [HT.out]; exact ho3, H2.out.2.2.2.trans hb3⟩
        case measure => simp [intOf]; omega
      · have hx : wr.cell? ⟨g, k, none⟩ = some (.func (.func 221) #[] #[.pointer (some ⟨a5, 0, none⟩), .pointer (some ⟨b5, 0, none⟩)]) := by
          rw [e, (hbr.cell (p := ⟨g, 5, none⟩) hgs), cell_of_row _ _ _ _ _ _ HL.out.1]; rfl
        have HCL : Hid (Calls Tryz.prog 221 #[.slice xa (pr r k).length xc, .pointer (some ⟨a5, 0, none⟩), .pointer (some ⟨b5, 0, none⟩)] wr fun e w' => ∃ a c, e = .returned (.slice a (twos r.M).length c) ∧ Hid (BV w' a (twos r.M) ∧ (a = none → c = 0) ∧ Own w' wL.heap.size (.slice xa (pr r k).length xc) (pr r k) ∧ Below wL.heap.size wL w')) := by
          have hq : Calls Tryz.prog 221 #[.slice xa (pr r k).length xc, .pointer (some ⟨a5, 0, none⟩), .pointer (some ⟨b5, 0, none⟩)] wr fun e w' => Laid wr w' e (twos r.M) := by
              have hq := nf_call (.slice xa (pr r k).length xc) (HL.out.2.2.2.2.2.below hbr) (by have := HOK.out.m1; omega)
              rw [wides_M HOK.out] at hq
              exact hq
          exact hq.mono (fun e w' h => laid_step HOW.out hbr h)
        have HT : Hid (pr r (k + 1) = pr r k ++ twos r.M) := by rw [e]; rfl
        have HYL : Hid ((twos r.M).length ≤ 300) := by
          have : (twos r.M).length ≤ 300 := by rw [twos_len]; have := HOK.out.m1; omega
          exact this
        clear e hbv hxn
        generalize (twos r.M) = ys at *
        go_wp2_with (first
          | (go_at_call 221; refine (HCL.out).mono ?_; rintro e w2 ⟨ya, yc, rfl, H2⟩; clear HCL)
          | (at_builtin; refine wp_app_bv rfl _ _ rfl wL.heap.size _ (pr r k) ys rfl H2.out.2.2.1 ya yc rfl H2.out.1 H2.out.2.1 (by have := HPL.out; have := HYL.out; omega) H2.out.2.2.2.size ?_; intro v3 w3 ho3 hb3)
          | fail)
        go_roundw
        case rel => exact ⟨k + 1, by omega, by go_num, by rw [HT.out]; exact ho3, H2.out.2.2.2.trans hb3⟩
        case measure => simp [intOf]; omega
      · have hx : wr.cell? ⟨g, k, none⟩ = some (.func (.func 202) #[] #[]) := by
          rw [e, (hbr.cell (p := ⟨g, 6, none⟩) hgs), cell_of_row _ _ _ _ _ _ HL.out.1]; rfl
        have HCL : Hid (Calls Tryz.prog 202 #[.slice xa (pr r k).length xc] wr fun e w' => ∃ a c, e = .returned (.slice a (List.replicate (246 - (pr r k).length) 0 : List Int).length c) ∧ Hid (BV w' a (List.replicate (246 - (pr r k).length) 0 : List Int) ∧ (a = none → c = 0) ∧ Own w' wL.heap.size (.slice xa (pr r k).length xc) (pr r k) ∧ Below wL.heap.size wL w')) := by
          have hq : Calls Tryz.prog 202 #[.slice xa (pr r k).length xc] wr fun e w' => Laid wr w' e (List.replicate (246 - (pr r k).length) 0 : List Int) := by
              refine layers2_any xa (pr r k).length xc wr ?_
              rw [e]
              have := HOK.out.t1; have := HOK.out.m1
              show (frontS r).length ≤ 246
              rw [front_len]; omega
          exact hq.mono (fun e w' h => laid_step HOW.out hbr h)
        have HT : Hid (pr r (k + 1) = pr r k ++ List.replicate (246 - (pr r k).length) 0) := by rw [e]; rfl
        have HYL : Hid ((List.replicate (246 - (pr r k).length) 0 : List Int).length ≤ 300) := by
          have : (List.replicate (246 - (pr r k).length) 0 : List Int).length ≤ 300 := by rw [List.length_replicate]; omega
          exact this
        clear e hbv hxn
        generalize (List.replicate (246 - (pr r k).length) 0 : List Int) = ys at *
        go_wp2_with (first
          | (go_at_call 202; refine (HCL.out).mono ?_; rintro e w2 ⟨ya, yc, rfl, H2⟩; clear HCL)
          | (at_builtin; refine wp_app_bv rfl _ _ rfl wL.heap.size _ (pr r k) ys rfl H2.out.2.2.1 ya yc rfl H2.out.1 H2.out.2.1 (by have := HPL.out; have := HYL.out; omega) H2.out.2.2.2.size ?_; intro v3 w3 ho3 hb3)
          | fail)
        go_roundw
        case rel => exact ⟨k + 1, by omega, by go_num, by rw [HT.out]; exact ho3, H2.out.2.2.2.trans hb3⟩
        case measure => simp [intOf]; omega
      · have hx : wr.cell? ⟨g, k, none⟩ = some (.func (.func 203) #[] #[]) := by
          rw [e, (hbr.cell (p := ⟨g, 7, none⟩) hgs), cell_of_row _ _ _ _ _ _ HL.out.1]; rfl
        have HCL : Hid (Calls Tryz.prog 203 #[.slice xa (pr r k).length xc] wr fun e w' => ∃ a c, e = .returned (.slice a (dig (more 0 (pr r k)) 4).length c) ∧ Hid (BV w' a (dig (more 0 (pr r k)) 4) ∧ (a = none → c = 0) ∧ Own w' wL.heap.size (.slice xa (pr r k).length xc) (pr r k) ∧ Below wL.heap.size wL w')) := by
          have hq : Calls Tryz.prog 203 #[.slice xa (pr r k).length xc] wr fun e w' => Laid wr w' e (dig (more 0 (pr r k)) 4) := layers3_any xa (pr r k) xc wr hbv hxn (by have := pr_len HOK.out k; omega)
          exact hq.mono (fun e w' h => laid_step HOW.out hbr h)
        have HT : Hid (pr r (k + 1) = pr r k ++ dig (more 0 (pr r k)) 4) := by rw [e]; rfl
        have HYL : Hid ((dig (more 0 (pr r k)) 4).length ≤ 300) := by
          have : (dig (more 0 (pr r k)) 4).length ≤ 300 := by rw [dig_length]; omega
          exact this
        clear e hbv hxn
        generalize (dig (more 0 (pr r k)) 4) = ys at *
        go_wp2_with (first
          | (go_at_call 203; refine (HCL.out).mono ?_; rintro e w2 ⟨ya, yc, rfl, H2⟩; clear HCL)
          | (at_builtin; refine wp_app_bv rfl _ _ rfl wL.heap.size _ (pr r k) ys rfl H2.out.2.2.1 ya yc rfl H2.out.1 H2.out.2.1 (by have := HPL.out; have := HYL.out; omega) H2.out.2.2.2.size ?_; intro v3 w3 ho3 hb3)
          | fail)
        go_roundw
        case rel => exact ⟨k + 1, by omega, by go_num, by rw [HT.out]; exact ho3, H2.out.2.2.2.trans hb3⟩
        case measure => simp [intOf]; omega
      · have hx : wr.cell? ⟨g, k, none⟩ = some (.func (.func 221) #[] #[.pointer (some ⟨a1, 0, none⟩), .pointer (some ⟨b1, 0, none⟩)]) := by
          rw [e, (hbr.cell (p := ⟨g, 8, none⟩) hgs), cell_of_row _ _ _ _ _ _ HL.out.1]; rfl
        have HCL : Hid (Calls Tryz.prog 221 #[.slice xa (pr r k).length xc, .pointer (some ⟨a1, 0, none⟩), .pointer (some ⟨b1, 0, none⟩)] wr fun e w' => ∃ a c, e = .returned (.slice a (dig r.E 6).length c) ∧ Hid (BV w' a (dig r.E 6) ∧ (a = none → c = 0) ∧ Own w' wL.heap.size (.slice xa (pr r k).length xc) (pr r k) ∧ Below wL.heap.size wL w')) := by
          have hq : Calls Tryz.prog 221 #[.slice xa (pr r k).length xc, .pointer (some ⟨a1, 0, none⟩), .pointer (some ⟨b1, 0, none⟩)] wr fun e w' => Laid wr w' e (dig r.E 6) := by
              have hq := nf_call (.slice xa (pr r k).length xc) (HL.out.2.1.below hbr) (by simp)
              rw [wides_6 HOK.out] at hq
              exact hq
          exact hq.mono (fun e w' h => laid_step HOW.out hbr h)
        have HT : Hid (pr r (k + 1) = pr r k ++ dig r.E 6) := by rw [e]; rfl
        have HYL : Hid ((dig r.E 6).length ≤ 300) := by
          have : (dig r.E 6).length ≤ 300 := by rw [dig_length]; omega
          exact this
        clear e hbv hxn
        generalize (dig r.E 6) = ys at *
        go_wp2_with (first
          | (go_at_call 221; refine (HCL.out).mono ?_; rintro e w2 ⟨ya, yc, rfl, H2⟩; clear HCL)
          | (at_builtin; refine wp_app_bv rfl _ _ rfl wL.heap.size _ (pr r k) ys rfl H2.out.2.2.1 ya yc rfl H2.out.1 H2.out.2.1 (by have := HPL.out; have := HYL.out; omega) H2.out.2.2.2.size ?_; intro v3 w3 ho3 hb3)
          | fail)
        go_roundw
        case rel => exact ⟨k + 1, by omega, by go_num, by rw [HT.out]; exact ho3, H2.out.2.2.2.trans hb3⟩
        case measure => simp [intOf]; omega
    · have HOF : Hid (Own wr wL.heap.size u5 (putS r)) := by
        have e : k = 9 := by omega
        have h := HO.out
        rw [e] at h
        exact h
      have HBF : Hid (Below w.heap.size w wr ∧ w.heap.size ≤ wL.heap.size) := by
        have q1 := hB.trans (hb1.mono hB.size)
        have q2 := q1.trans (hbL.mono q1.size)
        exact ⟨q2.trans (HW.out.mono q2.size), q2.size⟩
      clear HO
      go_wp2_with fail
      exact bodyPost_ret (v := .tuple #[u5, .int .i64 0]) (by simp [results, Tryz.results118, go_sem]) rfl ⟨u5, rfl, HOF.out.mono HBF.out.2, HBF.out.1⟩
end Go.Proofs.YtelhlikeefpjnaaGreat.R
namespace Go.Proofs.YtelhlikeefpjnaaGreat.R
set_option maxRecDepth 20000
open Go.RowKit
set_option linter.unusedVariables false
set_option linter.unusedSimpArgs false
def zero : RD := ⟨0, 0, 0, 0, [], []⟩
open Classical in
noncomputable def getS (zs : List Int) : RD × Int :=
  if zs.length ≠ 256 then (zero, 2) else if zs.drop 250 ≠ (zs.drop 4).take 6 then (zero, 3) else if ¬ Good (zs.take 250) then (zero, 13) else
  if checkE (readS (zs.take 246)) = 0 ∧ putS (readS (zs.take 246)) = zs then (readS (zs.take 246), 0) else (zero, 4)
def GetPost (w : World) (g : RD × Int) (e : Ending) (w' : World) : Prop := ∃ ta tc ma mc, e = .returned (.tuple #[rootV g.1 ta tc ma mc, .int .i64 g.2]) ∧ Hid (Rt w' g.1 ta tc ma mc ∧ Below w.heap.size w w' ∧ IVh w.heap.size w' ta g.1.T ∧ IVh w.heap.size w' ma g.1.M)
theorem rt_zero (w : World) : Rt w zero none 0 none 0 := ⟨.inl rfl, .inl rfl, fun _ => rfl, fun _ => rfl, Nat.le_refl _, Nat.le_refl _, by decide, by decide⟩
theorem post_zero {w w' : World} (c : Int) (hb : Below w.heap.size w w') : GetPost w (zero, c) (.returned (.tuple #[.agg #[.int .i64 0, .int .i64 0, .int .i64 0, .int .i64 0, .slice none 0 0, .slice none 0 0], .int .i64 c])) w' := ⟨none, 0, none, 0, rfl, rt_zero _, hb, .inl rfl, .inl rfl⟩
set_option maxHeartbeats 400000 in
theorem get_arg1 (a : Option Addr) (n cap : Nat) (w : World) (h : n ≠ 256) : Calls Tryz.prog 168 #[.slice a n cap] w fun e w' => GetPost w (zero, 2) e w' := by
  have hd : ((n : Int) == 256) = false := by simp; omega
  have B0 : Below w.heap.size w (w.alloc (.cells #[.int .i64 0, .int .i64 0, .int .i64 0, .int .i64 0, .slice none 0 0, .slice none 0 0] 94)) := (Below.refl _ _).alloc (Nat.le_refl _) _
  go_enter Tryz.func168, Tryz.ntmps168
  go_wp2
  exact bodyPost_ret (v := .tuple #[.agg #[.int .i64 0, .int .i64 0, .int .i64 0, .int .i64 0, .slice none 0 0, .slice none 0 0], .int .i64 2]) (by simp [results, Tryz.results168, go_sem]) rfl (post_zero 2 B0)
theorem set6_below {w W : World} (h : Below w.heap.size w W) (u0 u1 u2 u3 u4 u5 : Value) : Below w.heap.size w ((((((W.setCell ⟨w.heap.size, 0, none⟩ u0).setCell ⟨w.heap.size, 1, none⟩ u1).setCell ⟨w.heap.size, 2, none⟩ u2).setCell ⟨w.heap.size, 3, none⟩ u3).setCell ⟨w.heap.size, 4, none⟩ u4).setCell ⟨w.heap.size, 5, none⟩ u5) :=
  (((((h.setCell (p := ⟨w.heap.size, 0, none⟩) (Nat.le_refl _) _).setCell (p := ⟨w.heap.size, 1, none⟩) (Nat.le_refl _) _).setCell (p := ⟨w.heap.size, 2, none⟩) (Nat.le_refl _) _).setCell (p := ⟨w.heap.size, 3, none⟩) (Nat.le_refl _) _).setCell (p := ⟨w.heap.size, 4, none⟩) (Nat.le_refl _) _).setCell (p := ⟨w.heap.size, 5, none⟩) (Nat.le_refl _) _
theorem IVh.below {K : Nat} {w w' : World} {a : Option Addr} {zs : List Int} (h : IVh K w a zs) (hb : Below w.heap.size w w') : IVh K w' a zs := h.keep (fun k _ hl => hb.block k hl) hb.size
theorem IVh.set6 {w W : World} {a : Option Addr} {zs : List Int} (h : IVh (w.heap.size + 1) W a zs) (u0 u1 u2 u3 u4 u5 : Value) : IVh (w.heap.size + 1) ((((((W.setCell ⟨w.heap.size, 0, none⟩ u0).setCell ⟨w.heap.size, 1, none⟩ u1).setCell ⟨w.heap.size, 2, none⟩ u2).setCell ⟨w.heap.size, 3, none⟩ u3).setCell ⟨w.heap.size, 4, none⟩ u4).setCell ⟨w.heap.size, 5, none⟩ u5) a zs :=
  (((((h.set (i := 0) u0 (Nat.lt_succ_self _)).set (i := 1) u1 (Nat.lt_succ_self _)).set (i := 2) u2 (Nat.lt_succ_self _)).set (i := 3) u3 (Nat.lt_succ_self _)).set (i := 4) u4 (Nat.lt_succ_self _)).set (i := 5) u5 (Nat.lt_succ_self _)
theorem rt_set6 {w W : World} {r : RD} {ta ma : Option Addr} {tc mc : Nat} (h : Rt W r ta tc ma mc) (ht : IVh (w.heap.size + 1) W ta r.T) (hm : IVh (w.heap.size + 1) W ma r.M) (u0 u1 u2 u3 u4 u5 : Value) : Rt ((((((W.setCell ⟨w.heap.size, 0, none⟩ u0).setCell ⟨w.heap.size, 1, none⟩ u1).setCell ⟨w.heap.size, 2, none⟩ u2).setCell ⟨w.heap.size, 3, none⟩ u3).setCell ⟨w.heap.size, 4, none⟩ u4).setCell ⟨w.heap.size, 5, none⟩ u5) r ta tc ma mc :=
  ⟨(ht.set6 u0 u1 u2 u3 u4 u5).iv, (hm.set6 u0 u1 u2 u3 u4 u5).iv, h.tn, h.mn, h.tl, h.ml, h.th, h.mh⟩
theorem good250 {zs : List Int} (hl : zs.length = 256) : openE (zs.take 250) = (if Good (zs.take 250) then 0 else 13) ∧ (Good (zs.take 250) → openL (zs.take 250) = zs.take 246) := by
  have h1 : (zs.take 250).length = 250 := by rw [List.length_take]; omega
  refine ⟨?_, fun hg => ?_⟩
  · unfold openE; rw [if_neg (by omega)]
  · unfold openL
    rw [if_neg (by omega), if_pos hg, h1, List.take_take]
    rfl
set_option maxHeartbeats 3200000 in
theorem get_all (b off cap : Nat) (zs : List Int) (w : World) (hb : BV w (some ⟨b, off, none⟩) zs) (hl : zs.length = 256) (hc : 256 ≤ cap) (hcm : cap ≤ 9223372036854775807) : Calls Tryz.prog 168 #[.slice (some ⟨b, off, none⟩) 256 cap] w fun e w' => GetPost w (getS zs) e w' := by
  obtain ⟨gs, hgs⟩ : ∃ gs, gs = getS zs := ⟨_, rfl⟩
  rw [← hgs]
  have HGZ : Hid (gs = getS zs) := hgs
  clear hgs
  obtain ⟨q, hq⟩ : ∃ q, q = decide (zs.drop 250 = (zs.drop 4).take 6) := ⟨_, rfl⟩
  have HEQ : Hid (∀ W, Below w.heap.size w W → Calls Tryz.prog 114 #[.slice (some ⟨b, off + 250, none⟩) 6 (cap - 250), .slice (some ⟨b, off + 4, none⟩) 6 (cap - 4)] W fun e w' => e = .returned (.bool q) ∧ Below W.heap.size W w') := fun W hW => by
    have h := beq_any (some ⟨b, off + 250, none⟩) (some ⟨b, off + 4, none⟩) (cap - 250) (cap - 4) (zs.drop 250) ((zs.drop 4).take 6) W ((hb.below hW).drop 250) (((hb.below hW).drop 4).take 6) (by intro h; cases h) (by intro h; cases h)
    rw [List.length_drop, List.length_take, List.length_drop, hl, ← hq] at h
    exact h
  have HOP : Hid (∀ W, Below w.heap.size w W → Calls Tryz.prog 129 #[.slice (some ⟨b, off, none⟩) 250 cap] W fun e w' => ∃ v, e = .returned (.tuple #[v, .int .i64 (openE (zs.take 250))]) ∧ Own w' W.heap.size v (openL (zs.take 250)) ∧ Below W.heap.size W w') := fun W hW => by
    have h := open_any (some ⟨b, off, none⟩) cap (zs.take 250) W ((hb.below hW).take 250) (by rw [List.length_take]; omega) (by rw [List.length_take]; omega)
    rw [List.length_take, hl] at h
    exact h
  have HBV : Hid (BV w (some ⟨b, off, none⟩) zs) := hb
  have HLZ : Hid (zs.length = 256) := hl
  obtain ⟨W0, hW0⟩ : ∃ W, W = w.alloc (.cells #[.int .i64 0, .int .i64 0, .int .i64 0, .int .i64 0, .slice none 0 0, .slice none 0 0] 94) := ⟨_, rfl⟩
  have hB0 : Below w.heap.size w W0 := by rw [hW0]; exact (Below.refl _ _).alloc (Nat.le_refl _) _
  have HX0 : Hid (W0.drew.heap[w.heap.size]? = some (.cells #[.int .i64 0, .int .i64 0, .int .i64 0, .int .i64 0, .slice none 0 0, .slice none 0 0] 94 (0, 0))) := by
    have : W0.heap[w.heap.size]? = some (.cells #[.int .i64 0, .int .i64 0, .int .i64 0, .int .i64 0, .slice none 0 0, .slice none 0 0] 94 (0, 0)) := by rw [hW0]; exact heap_alloc_last _ _
    exact this
  have hWs : w.heap.size < W0.drew.heap.size := (Array.getElem?_eq_some_iff.1 HX0.out).1
  have HQD : Hid (q = decide (zs.drop 250 = (zs.drop 4).take 6)) := hq
  have hc10 : (10 : Int) ≤ (cap : Int) := by omega
  have hc4 : ¬ cap = 4 := by omega
  have hc250 : ¬ cap = 250 := by omega
  clear hb hl hq
  go_enter Tryz.func168, Tryz.ntmps168
  go_wp2_with fail
  rw [← hW0]
  clear hW0
  refine wp_region_noPanic ?_
  refine name_ops ?_
  intro O QQ HO HQ
  refine wp_region_held_drew (S := fun W' => Below w.heap.size w W') (by kernel_rfl) hB0.drew (fun hS => ?_)
  rw [show O.size = 6 by rw [HO.out]; rfl]
  refine wpAnyH_take (i := 0) (v := .slice (some ⟨b, off, none⟩) 256 cap) (by rw [HO.out]; simp only [List.getElem?_toArray, List.getElem?_cons_succ, List.getElem?_cons_zero]; rfl) (by rw [HO.out]; kernel_rfl) (by rw [HO.out]; kernel_rfl) (by rw [HO.out]; kernel_rfl) (by rw [HQ.out]; exact fun _ _ _ h => h) (Or.inl ⟨by rfl, ?_⟩) hS ?_
  · intro w' hSw
    go_simp
  try simp only [Act.put, List.setIfInBounds_toArray, List.set_cons_zero, List.set_cons_succ]
  refine wpAnyH_take (i := 1) (v := .slice (some ⟨b, off + 250, none⟩) 6 (cap - 250)) (by rw [HO.out]; simp only [List.getElem?_toArray, List.getElem?_cons_succ, List.getElem?_cons_zero]; rfl) (by rw [HO.out]; kernel_rfl) (by rw [HO.out]; kernel_rfl) (by rw [HO.out]; kernel_rfl) (by rw [HQ.out]; exact fun _ _ _ h => h) (Or.inl ⟨by rfl, ?_⟩) hS ?_
  · intro w' hSw
    go_simp
  try simp only [Act.put, List.setIfInBounds_toArray, List.set_cons_zero, List.set_cons_succ]
  refine wpAnyH_take (i := 2) (v := .slice (some ⟨b, off, none⟩) 256 cap) (by rw [HO.out]; simp only [List.getElem?_toArray, List.getElem?_cons_succ, List.getElem?_cons_zero]; rfl) (by rw [HO.out]; kernel_rfl) (by rw [HO.out]; kernel_rfl) (by rw [HO.out]; kernel_rfl) (by rw [HQ.out]; exact fun _ _ _ h => h) (Or.inl ⟨by rfl, ?_⟩) hS ?_
  · intro w' hSw
    go_simp
  try simp only [Act.put, List.setIfInBounds_toArray, List.set_cons_zero, List.set_cons_succ]
  refine wpAnyH_take (i := 3) (v := .slice (some ⟨b, off + 4, none⟩) 6 (cap - 4)) (by rw [HO.out]; simp only [List.getElem?_toArray, List.getElem?_cons_succ, List.getElem?_cons_zero]; rfl) (by rw [HO.out]; kernel_rfl) (by rw [HO.out]; kernel_rfl) (by rw [HO.out]; kernel_rfl) (by rw [HQ.out]; exact fun _ _ _ h => h) (Or.inl ⟨by rfl, ?_⟩) hS ?_
  · intro w' hSw
    go_simp
  try simp only [Act.put, List.setIfInBounds_toArray, List.set_cons_zero, List.set_cons_succ]
  refine wpAnyH_ready (rs := [4]) (by rw [HO.out]; kernel_rfl) (by simp) ?_
  refine AllReadyH.cons (o := _) (by rw [HO.out]; simp only [List.getElem?_toArray, List.getElem?_cons_succ, List.getElem?_cons_zero]; rfl) (fun K4 hK4 => ?_) ?_
  · go_simp
    refine (HEQ.out _ hS).mono ?_
    rintro e w1 ⟨rfl, hb1⟩
    have HB1 : Hid (Below w.heap.size w w1) := hS.trans (hb1.mono hS.size)
    have HX1 : Hid (w1.heap[w.heap.size]? = some (.cells #[.int .i64 0, .int .i64 0, .int .i64 0, .int .i64 0, .slice none 0 0, .slice none 0 0] 94 (0, 0))) := (hb1.block w.heap.size hWs).trans HX0.out
    refine hK4.out _ _ HB1.out (fun hS1 => ?_)
    try simp only [Act.put, List.setIfInBounds_toArray, List.set_cons_zero, List.set_cons_succ]
    refine wpAnyH_take (i := 5) (v := .bool (!q)) (by rw [HO.out]; simp only [List.getElem?_toArray, List.getElem?_cons_succ, List.getElem?_cons_zero]; rfl) (by rw [HO.out]; kernel_rfl) (by rw [HO.out]; kernel_rfl) (by rw [HO.out]; kernel_rfl) (by rw [HQ.out]; exact fun _ _ _ h => h) (Or.inl ⟨by rfl, ?_⟩) HB1.out ?_
    · intro w' hSw
      go_simp
    try simp only [Act.put, List.setIfInBounds_toArray, List.set_cons_zero, List.set_cons_succ]
    refine wpAnyH_done (by rw [HO.out]; kernel_rfl) ?_ _
    rw [HQ.out]
    refine NoPanic.normal ?_
    clear hS hS1 HEQ hB0 HX0 hb1
    obtain ⟨z0, z1, z2, z3, z4, z5, v0, v1, v2, v3, v4, v5⟩ := RX.of HX1.out
    cases q
    · have HG : Hid (gs = (zero, 3)) := by
        have hne : zs.drop 250 ≠ (zs.drop 4).take 6 := by have := HQD.out; simpa using this.symm
        rw [HGZ.out]
        show _ = _
        unfold getS
        rw [if_neg (by rw [HLZ.out]; simp), if_pos hne]
      go_wp2_with fail
      exact bodyPost_ret (v := .tuple #[.agg #[.int .i64 0, .int .i64 0, .int .i64 0, .int .i64 0, .slice none 0 0, .slice none 0 0], .int .i64 3]) (by simp [results, Tryz.results168, go_sem, *]) rfl (by rw [HG.out]; exact post_zero 3 (set6_below HB1.out _ _ _ _ _ _))
    · have hqt : zs.drop 250 = (zs.drop 4).take 6 := by have := HQD.out; simpa using this.symm
      clear z0 z1 z2 z3 z4 z5 v0 v1 v2 v3 v4 v5
      go_wp2_with fail
      refine (HOP.out _ HB1.out).mono ?_
      rintro e w2 ⟨v, rfl, ho2, hb2⟩
      have HB2 : Hid (Below w.heap.size w w2) := HB1.out.trans (hb2.mono HB1.out.size)
      have HX2 : Hid (w2.heap[w.heap.size]? = some (.cells #[.int .i64 0, .int .i64 0, .int .i64 0, .int .i64 0, .slice none 0 0, .slice none 0 0] 94 (0, 0))) := (hb2.block w.heap.size (Array.getElem?_eq_some_iff.1 HX1.out).1).trans HX1.out
      have hgE := (good250 HLZ.out).1
      by_cases hg : Good (zs.take 250)
      · have HOL : Hid (Own w2 w1.heap.size v (zs.take 246)) := by
          have h := ho2
          rw [(good250 HLZ.out).2 hg] at h
          exact h
        have hE : openE (zs.take 250) = 0 := by rw [hgE, if_pos hg]
        have hl246 : (zs.take 246).length = 246 := by rw [List.length_take, HLZ.out]; rfl
        obtain ⟨ga, gc, rfl, hgn, hgb, hgl, hgm⟩ := HOL.out.slice (HBV.out.1.take 246)
        rw [hl246] at hgl ⊢
        have HRE : Hid (Calls Tryz.prog 193 #[.slice ga 246 gc] w2 fun e w' => ∃ ta tc ma mc, e = .returned (rootV (readS (zs.take 246)) ta tc ma mc) ∧ Rt w' (readS (zs.take 246)) ta tc ma mc ∧ (IVh w2.heap.size w' ta (readS (zs.take 246)).T ∧ IVh w2.heap.size w' ma (readS (zs.take 246)).M) ∧ Below w2.heap.size w2 w') := by
          have h := read_any ga gc (zs.take 246) w2 hgb hl246 (by rw [hl246]; exact hgl)
          rw [hl246] at h
          exact h
        have HG1 : Hid (checkE (readS (zs.take 246)) = 0 ∧ putS (readS (zs.take 246)) = zs → gs = (readS (zs.take 246), 0)) := fun h0 => by
          rw [HGZ.out]
          unfold getS
          rw [if_neg (by rw [HLZ.out]; simp), if_neg (fun h => h hqt), if_neg (fun h => h hg), if_pos h0]
        have HG2 : Hid (¬ (checkE (readS (zs.take 246)) = 0 ∧ putS (readS (zs.take 246)) = zs) → gs = (zero, 4)) := fun h0 => by
          rw [HGZ.out]
          unfold getS
          rw [if_neg (by rw [HLZ.out]; simp), if_neg (fun h => h hqt), if_neg (fun h => h hg), if_neg h0]
        rw [hE]
        clear HOP hgE hE hg hgb ho2 HOL hqt HQD hb2 HB1 HX1
        generalize readS (zs.take 246) = r at *
        go_wp2_with (first
          | (go_at_call 193; refine HRE.out.mono ?_; rintro e w3 ⟨ta, tc, ma, mc, rfl, hr3, hrt3, hb3⟩; unfold rootV; clear HRE)
          | fail)
        obtain ⟨W4, hW4⟩ : ∃ W, W = w3.alloc (.cells #[.int .i64 r.E, .int .i64 r.B, .int .i64 r.N, .int .i64 r.S, .slice ta r.T.length tc, .slice ma r.M.length mc] 94) := ⟨_, rfl⟩
        rw [← hW4]
        have hb34 : Below w3.heap.size w3 W4 := by rw [hW4]; exact (Below.refl _ _).alloc (Nat.le_refl _) _
        have HB4 : Hid (Below w.heap.size w W4) := (HB2.out.trans (hb3.mono HB2.out.size)).trans (hb34.mono (Nat.le_trans HB2.out.size hb3.size))
        have HX4 : Hid (W4.heap[w.heap.size]? = some (.cells #[.int .i64 0, .int .i64 0, .int .i64 0, .int .i64 0, .slice none 0 0, .slice none 0 0] 94 (0, 0))) := (hb34.block w.heap.size (Nat.lt_of_lt_of_le (Array.getElem?_eq_some_iff.1 HX2.out).1 hb3.size)).trans ((hb3.block w.heap.size (Array.getElem?_eq_some_iff.1 HX2.out).1).trans HX2.out)
        have HR4 : Hid (Rt W4 r ta tc ma mc) := hr3.below hb34
        have HY4 : Hid (W4.heap[w3.heap.size]? = some (.cells #[.int .i64 r.E, .int .i64 r.B, .int .i64 r.N, .int .i64 r.S, .slice ta r.T.length tc, .slice ma r.M.length mc] 94 (0, 0))) := by rw [hW4]; exact heap_alloc_last _ _
        have hk2 : w.heap.size + 1 ≤ w2.heap.size := (Array.getElem?_eq_some_iff.1 HX2.out).1
        have HRT : Hid (IVh (w.heap.size + 1) W4 ta r.T ∧ IVh (w.heap.size + 1) W4 ma r.M) := ⟨(hrt3.1.mono hk2).below hb34, (hrt3.2.mono hk2).below hb34⟩
        clear hrt3 hk2
        clear hW4 hb34 hr3 HB2
        have HNE : Hid (w.heap.size ≠ w3.heap.size) := by have h1 := (Array.getElem?_eq_some_iff.1 HX2.out).1; have h2 := hb3.size; exact (by omega : w.heap.size ≠ w3.heap.size)
        clear hb3 HX2
        generalize w3.heap.size = xb at *
        have HFIN : Hid (∀ W, Below w.heap.size w W → Rt W r ta tc ma mc → IVh (w.heap.size + 1) W ta r.T → IVh (w.heap.size + 1) W ma r.M → GetPost w (r, 0) (.returned (.tuple #[.agg #[.int .i64 r.E, .int .i64 r.B, .int .i64 r.N, .int .i64 r.S, .slice ta r.T.length tc, .slice ma r.M.length mc], .int .i64 0])) W) := fun W h1 h2 h3 h4 => ⟨ta, tc, ma, mc, rfl, h2, h1, h3.mono (Nat.le_succ _), h4.mono (Nat.le_succ _)⟩
        by_cases hck : checkE r = 0
        · have hok := ok_checkE hck
          have HPU : Hid (Calls Tryz.prog 118 #[rootV r ta tc ma mc] W4 fun e w' => ∃ pa pc, e = .returned (.tuple #[.slice pa 256 pc, .int .i64 0]) ∧ Hid (BV w' pa (putS r) ∧ (pa = none → pc = 0) ∧ Below W4.heap.size W4 w')) := by
            refine (put_good r ta ma tc mc W4 HR4.out hok).mono ?_
            rintro e w' ⟨v, rfl, ho, hb⟩
            obtain ⟨pa, pc, rfl, q1, q2, q3, q4⟩ := ho.slice (put_all r)
            rw [put_len hok]
            exact ⟨pa, pc, rfl, q2, q1, hb⟩
          unfold rootV at HPU
          obtain ⟨x0, x1, x2, x3, x4, x5, _⟩ := RX.of HY4.out
          obtain ⟨q, hq⟩ : ∃ q, q = decide (putS r = zs) := ⟨_, rfl⟩
          have HEQ : Hid (∀ W pa pc, BV W pa (putS r) → (pa = none → pc = 0) → Below w.heap.size w W → Calls Tryz.prog 114 #[.slice pa 256 pc, .slice (some ⟨b, off, none⟩) 256 cap] W fun e w' => e = .returned (.bool q) ∧ Below W.heap.size W w') := fun W pa pc h1 h2 h3 => by
            have h := beq_any pa (some ⟨b, off, none⟩) pc cap (putS r) zs W h1 (HBV.out.below h3) h2 (by intro h; cases h)
            rw [put_len hok, HLZ.out, ← hq] at h
            exact h
          have HQ2 : Hid (q = decide (putS r = zs)) := hq
          have HCK : Hid (checkE r = 0) := hck
          clear hq hok hck
          have hne : w.heap.size ≠ xb := HNE.out
          have hne2 : xb ≠ w.heap.size := fun e => hne e.symm
          cases q
          · have HG : Hid (gs = (zero, 4)) := HG2.out (fun h => by have := HQ2.out; simp at this; exact this h.2)
            go_wp2_with (first
              | (go_at_call 118; refine HPU.out.mono ?_; rintro e w5 ⟨pa, pc, rfl, H5⟩; have HB5 : Hid (Below w.heap.size w w5) := HB4.out.trans (H5.out.2.2.mono HB4.out.size); clear HPU x0 x1 x2 x3 x4 x5)
              | (go_at_call 114; refine (HEQ.out _ pa pc H5.out.1 H5.out.2.1 HB5.out).mono ?_; rintro e w6 ⟨rfl, hb6⟩; have HB6 : Hid (Below W4.heap.size W4 w6) := H5.out.2.2.trans (hb6.mono H5.out.2.2.size); obtain ⟨z0, z1, z2, z3, z4, z5, v0, v1, v2, v3, v4, v5⟩ := RX.of ((HB6.out.block w.heap.size (Array.getElem?_eq_some_iff.1 HX4.out).1).trans HX4.out); obtain ⟨y0, y1, y2, y3, y4, y5, _⟩ := RX.of ((HB6.out.block xb (Array.getElem?_eq_some_iff.1 HY4.out).1).trans HY4.out); clear HEQ hb6)
              | fail)
            have HW6 : Hid (Below w.heap.size w w6 ∧ Rt w6 r ta tc ma mc) := ⟨HB4.out.trans (HB6.out.mono HB4.out.size), HR4.out.below HB6.out⟩
            exact bodyPost_ret (v := .tuple #[.agg #[.int .i64 0, .int .i64 0, .int .i64 0, .int .i64 0, .slice none 0 0, .slice none 0 0], .int .i64 4]) (by simp [results, Tryz.results168, go_sem, *]) rfl (by rw [HG.out]; exact post_zero 4 (set6_below HW6.out.1 _ _ _ _ _ _))
          · have HG : Hid (gs = (r, 0)) := HG1.out ⟨HCK.out, by have := HQ2.out; simpa using this.symm⟩
            go_wp2_with (first
              | (go_at_call 118; refine HPU.out.mono ?_; rintro e w5 ⟨pa, pc, rfl, H5⟩; have HB5 : Hid (Below w.heap.size w w5) := HB4.out.trans (H5.out.2.2.mono HB4.out.size); clear HPU x0 x1 x2 x3 x4 x5)
              | (go_at_call 114; refine (HEQ.out _ pa pc H5.out.1 H5.out.2.1 HB5.out).mono ?_; rintro e w6 ⟨rfl, hb6⟩; have HB6 : Hid (Below W4.heap.size W4 w6) := H5.out.2.2.trans (hb6.mono H5.out.2.2.size); obtain ⟨z0, z1, z2, z3, z4, z5, v0, v1, v2, v3, v4, v5⟩ := RX.of ((HB6.out.block w.heap.size (Array.getElem?_eq_some_iff.1 HX4.out).1).trans HX4.out); obtain ⟨y0, y1, y2, y3, y4, y5, _⟩ := RX.of ((HB6.out.block xb (Array.getElem?_eq_some_iff.1 HY4.out).1).trans HY4.out); clear HEQ hb6)
              | fail)
            have HW6 : Hid (Below w.heap.size w w6 ∧ Rt w6 r ta tc ma mc) := ⟨HB4.out.trans (HB6.out.mono HB4.out.size), HR4.out.below HB6.out⟩
            exact bodyPost_ret (v := .tuple #[.agg #[.int .i64 r.E, .int .i64 r.B, .int .i64 r.N, .int .i64 r.S, .slice ta r.T.length tc, .slice ma r.M.length mc], .int .i64 0]) (by simp [results, Tryz.results168, go_sem, *]) rfl (by rw [HG.out]; exact HFIN.out _ (set6_below HW6.out.1 _ _ _ _ _ _) (rt_set6 HW6.out.2 (HRT.out.1.below HB6.out) (HRT.out.2.below HB6.out) _ _ _ _ _ _) ((HRT.out.1.below HB6.out).set6 _ _ _ _ _ _) ((HRT.out.2.below HB6.out).set6 _ _ _ _ _ _))
        · have HG : Hid (gs = (zero, 4)) := HG2.out (fun h => hck h.1)
          have HPU : Hid (Calls Tryz.prog 118 #[rootV r ta tc ma mc] W4 fun e w' => e = .returned (.tuple #[.slice none 0 0, .int .i64 (checkE r)]) ∧ Below W4.heap.size W4 w') := put_bad r ta ma tc mc W4 HR4.out hck
          unfold rootV at HPU
          have hce : (checkE r == 0) = false := by simpa using hck
          obtain ⟨x0, x1, x2, x3, x4, x5, _⟩ := RX.of HY4.out
          clear HG1 HG2
          generalize checkE r = ce at *
          go_wp2_with (first
            | (go_at_call 118; refine HPU.out.mono ?_; rintro e w5 ⟨rfl, hb5⟩; have HB5 : Hid (Below w.heap.size w w5) := HB4.out.trans (hb5.mono HB4.out.size); obtain ⟨z0, z1, z2, z3, z4, z5, v0, v1, v2, v3, v4, v5⟩ := RX.of ((hb5.block w.heap.size (Array.getElem?_eq_some_iff.1 HX4.out).1).trans HX4.out); clear HPU x0 x1 x2 x3 x4 x5)
            | fail)
          exact bodyPost_ret (v := .tuple #[.agg #[.int .i64 0, .int .i64 0, .int .i64 0, .int .i64 0, .slice none 0 0, .slice none 0 0], .int .i64 4]) (by simp [results, Tryz.results168, go_sem, *]) rfl (by rw [HG.out]; exact post_zero 4 (set6_below HB5.out _ _ _ _ _ _))
      · have hE : openE (zs.take 250) = 13 := by rw [hgE, if_neg hg]
        have HG : Hid (gs = (zero, 13)) := by
          rw [HGZ.out]
          show _ = _
          unfold getS
          rw [if_neg (by rw [HLZ.out]; simp), if_neg (fun h => h hqt), if_pos hg]
        rw [hE]
        obtain ⟨z0, z1, z2, z3, z4, z5, v0, v1, v2, v3, v4, v5⟩ := RX.of HX2.out
        clear HOP hgE hE hg ho2 hqt HQD hb2 HB1 HX1
        go_wp2_with fail
        exact bodyPost_ret (v := .tuple #[.agg #[.int .i64 0, .int .i64 0, .int .i64 0, .int .i64 0, .slice none 0 0, .slice none 0 0], .int .i64 13]) (by simp [results, Tryz.results168, go_sem, *]) rfl (by rw [HG.out]; exact post_zero 13 (set6_below HB2.out _ _ _ _ _ _))
  exact AllReadyH.nil
theorem groot_any (a : Option Addr) (cap : Nat) (zs : List Int) (w : World) (hb : BV w a zs) (hc : zs.length ≤ cap) (hcm : cap ≤ 9223372036854775807) : Calls Tryz.prog 168 #[.slice a zs.length cap] w fun e w' => GetPost w (getS zs) e w' := by
  by_cases h : zs.length = 256
  · rw [h]
    have hb0 := hb
    obtain ⟨_, rfl | ⟨b, off, rfl, _, _⟩⟩ := hb
    · simp at h
    · exact get_all b off cap zs w hb0 h (by omega) hcm
  · have e : getS zs = (zero, 2) := by
      unfold getS
      rw [if_pos h]
    rw [e]
    exact get_arg1 a zs.length cap w h
end Go.Proofs.YtelhlikeefpjnaaGreat.R
namespace Go.Proofs.YtelhlikeefpjnaaGreat.R
set_option maxRecDepth 20000
open Go.RowKit
set_option linter.unusedVariables false
structure CS where
  r : RD
  n : Int
  e : Int
open Classical in
noncomputable def pick (i : Int) (zs : List Int) (c : CS) : CS :=
  if (getS zs).2 ≠ 0 ∨ (getS zs).1.E.tmod 2 ≠ i then c else if c.e ≠ 0 ∨ c.r.E < (getS zs).1.E then ⟨(getS zs).1, i, 0⟩ else c
noncomputable def chS (xs ys : List Int) : Nat → CS
  | 0 => ⟨zero, 0, 4⟩
  | 1 => pick 0 xs ⟨zero, 0, 4⟩
  | _ => pick 1 ys (pick 0 xs ⟨zero, 0, 4⟩)
def ChoosePost (w : World) (c : CS) (e : Ending) (w' : World) : Prop := ∃ ta tc ma mc, e = .returned (.tuple #[rootV c.r ta tc ma mc, .int .i64 c.n, .int .i64 c.e]) ∧ Hid (Rt w' c.r ta tc ma mc ∧ Below w.heap.size w w' ∧ IVh w.heap.size w' ta c.r.T ∧ IVh w.heap.size w' ma c.r.M)
structure CB (w W : World) (xs ys : List Int) (a : Option Addr) (ca : Nat) (b : Option Addr) (cb : Nat) (c : CS) (ta : Option Addr) (tc : Nat) (ma : Option Addr) (mc : Nat) : Prop where
  o : W.heap[w.heap.size]? = some (.cells #[.int .i64 0, .int .i64 0, .int .i64 0, .int .i64 0, .slice none 0 0, .slice none 0 0] 94 (0, 0))
  x : W.heap[w.heap.size + 1]? = some (.cells #[.int .i64 c.r.E, .int .i64 c.r.B, .int .i64 c.r.N, .int .i64 c.r.S, .slice ta c.r.T.length tc, .slice ma c.r.M.length mc] 94 (0, 0))
  l : W.heap[w.heap.size + 2]? = some (.cells #[.slice a xs.length ca, .slice b ys.length cb] 29 (0, 0))
  rt : Rt W c.r ta tc ma mc
  it : IVh (w.heap.size + 3) W ta c.r.T
  im : IVh (w.heap.size + 3) W ma c.r.M
  bl : Below w.heap.size w W
theorem CB.size {w W : World} {xs ys : List Int} {a b ta ma : Option Addr} {ca cb tc mc : Nat} {c : CS} (h : CB w W xs ys a ca b cb c ta tc ma mc) : w.heap.size + 3 ≤ W.heap.size := (Array.getElem?_eq_some_iff.1 h.l).1
theorem CB.below {w W W' : World} {xs ys : List Int} {a b ta ma : Option Addr} {ca cb tc mc : Nat} {c : CS} (h : CB w W xs ys a ca b cb c ta tc ma mc) (hb : Below W.heap.size W W') : CB w W' xs ys a ca b cb c ta tc ma mc := by
  have hs := h.size
  exact ⟨(hb.block _ (by omega)).trans h.o, (hb.block _ (by omega)).trans h.x, (hb.block _ (by omega)).trans h.l, h.rt.below hb, h.it.below hb, h.im.below hb, h.bl.trans (hb.mono (by omega))⟩
theorem RX.set6 {W : World} {p : Nat} {c0 c1 c2 c3 c4 c5 : Value} (h : W.heap[p]? = some (.cells #[c0, c1, c2, c3, c4, c5] 94 (0, 0))) (u0 u1 u2 u3 u4 u5 : Value) : ((((((W.setCell ⟨p, 0, none⟩ u0).setCell ⟨p, 1, none⟩ u1).setCell ⟨p, 2, none⟩ u2).setCell ⟨p, 3, none⟩ u3).setCell ⟨p, 4, none⟩ u4).setCell ⟨p, 5, none⟩ u5).heap[p]? = some (.cells #[u0, u1, u2, u3, u4, u5] 94 (0, 0)) := by
  have h0 := heap_setCell_same W p 0 _ 94 u0 h
  have h1 := heap_setCell_same _ p 1 _ 94 u1 h0
  have h2 := heap_setCell_same _ p 2 _ 94 u2 h1
  have h3 := heap_setCell_same _ p 3 _ 94 u3 h2
  have h4 := heap_setCell_same _ p 4 _ 94 u4 h3
  have h5 := heap_setCell_same _ p 5 _ 94 u5 h4
  exact h5
theorem block_set6 {W : World} {p k : Nat} (h : k ≠ p) (u0 u1 u2 u3 u4 u5 : Value) : ((((((W.setCell ⟨p, 0, none⟩ u0).setCell ⟨p, 1, none⟩ u1).setCell ⟨p, 2, none⟩ u2).setCell ⟨p, 3, none⟩ u3).setCell ⟨p, 4, none⟩ u4).setCell ⟨p, 5, none⟩ u5).heap[k]? = W.heap[k]? :=
  (heap_setCell_other _ ⟨p, 5, none⟩ k _ h).trans ((heap_setCell_other _ ⟨p, 4, none⟩ k _ h).trans ((heap_setCell_other _ ⟨p, 3, none⟩ k _ h).trans ((heap_setCell_other _ ⟨p, 2, none⟩ k _ h).trans ((heap_setCell_other _ ⟨p, 1, none⟩ k _ h).trans (heap_setCell_other _ ⟨p, 0, none⟩ k _ h)))))
theorem below_set6 {n p : Nat} {w W : World} (h : Below n w W) (hp : n ≤ p) (u0 u1 u2 u3 u4 u5 : Value) : Below n w ((((((W.setCell ⟨p, 0, none⟩ u0).setCell ⟨p, 1, none⟩ u1).setCell ⟨p, 2, none⟩ u2).setCell ⟨p, 3, none⟩ u3).setCell ⟨p, 4, none⟩ u4).setCell ⟨p, 5, none⟩ u5) :=
  (((((h.setCell (p := ⟨p, 0, none⟩) hp _).setCell (p := ⟨p, 1, none⟩) hp _).setCell (p := ⟨p, 2, none⟩) hp _).setCell (p := ⟨p, 3, none⟩) hp _).setCell (p := ⟨p, 4, none⟩) hp _).setCell (p := ⟨p, 5, none⟩) hp _
theorem ivh_set6 {K p : Nat} {W : World} {a : Option Addr} {zs : List Int} (h : IVh K W a zs) (hp : p < K) (u0 u1 u2 u3 u4 u5 : Value) : IVh K ((((((W.setCell ⟨p, 0, none⟩ u0).setCell ⟨p, 1, none⟩ u1).setCell ⟨p, 2, none⟩ u2).setCell ⟨p, 3, none⟩ u3).setCell ⟨p, 4, none⟩ u4).setCell ⟨p, 5, none⟩ u5) a zs :=
  (((((h.set (i := 0) u0 hp).set (i := 1) u1 hp).set (i := 2) u2 hp).set (i := 3) u3 hp).set (i := 4) u4 hp).set (i := 5) u5 hp
theorem CB.set {w W : World} {xs ys : List Int} {a b ta ma ua va : Option Addr} {ca cb tc mc uc vc : Nat} {c : CS} {g : RD} (h : CB w W xs ys a ca b cb c ta tc ma mc) (hr : Rt W g ua uc va vc) (h1 : IVh (w.heap.size + 3) W ua g.T) (h2 : IVh (w.heap.size + 3) W va g.M) (n e : Int) :
    CB w ((((((W.setCell ⟨w.heap.size + 1, 0, none⟩ (.int .i64 g.E)).setCell ⟨w.heap.size + 1, 1, none⟩ (.int .i64 g.B)).setCell ⟨w.heap.size + 1, 2, none⟩ (.int .i64 g.N)).setCell ⟨w.heap.size + 1, 3, none⟩ (.int .i64 g.S)).setCell ⟨w.heap.size + 1, 4, none⟩ (.slice ua g.T.length uc)).setCell ⟨w.heap.size + 1, 5, none⟩ (.slice va g.M.length vc)) xs ys a ca b cb ⟨g, n, e⟩ ua uc va vc :=
  have q1 := ivh_set6 (p := w.heap.size + 1) h1 (by omega) (.int .i64 g.E) (.int .i64 g.B) (.int .i64 g.N) (.int .i64 g.S) (.slice ua g.T.length uc) (.slice va g.M.length vc)
  have q2 := ivh_set6 (p := w.heap.size + 1) h2 (by omega) (.int .i64 g.E) (.int .i64 g.B) (.int .i64 g.N) (.int .i64 g.S) (.slice ua g.T.length uc) (.slice va g.M.length vc)
  ⟨(block_set6 (by omega) _ _ _ _ _ _).trans h.o, RX.set6 h.x _ _ _ _ _ _, (block_set6 (by omega) _ _ _ _ _ _).trans h.l, ⟨q1.iv, q2.iv, hr.tn, hr.mn, hr.tl, hr.ml, hr.th, hr.mh⟩, q1, q2, below_set6 h.bl (by omega) _ _ _ _ _ _⟩
theorem pick_skip1 {i : Int} {zs : List Int} {c : CS} (h : (getS zs).2 ≠ 0) : pick i zs c = c := by unfold pick; rw [if_pos (Or.inl h)]
theorem pick_skip2 {i : Int} {zs : List Int} {c : CS} (h : (getS zs).1.E.tmod 2 ≠ i) : pick i zs c = c := by unfold pick; rw [if_pos (Or.inr h)]
theorem pick_take {i : Int} {zs : List Int} {c : CS} (h0 : (getS zs).2 = 0) (h1 : (getS zs).1.E.tmod 2 = i) (h2 : c.e ≠ 0 ∨ c.r.E < (getS zs).1.E) : pick i zs c = ⟨(getS zs).1, i, 0⟩ := by
  unfold pick; rw [if_neg (by rintro (h | h); exact h h0; exact h h1), if_pos h2]
theorem pick_keep {i : Int} {zs : List Int} {c : CS} (h2 : ¬ (c.e ≠ 0 ∨ c.r.E < (getS zs).1.E)) : pick i zs c = c := by
  unfold pick
  by_cases h : (getS zs).2 ≠ 0 ∨ (getS zs).1.E.tmod 2 ≠ i
  · rw [if_pos h]
  · rw [if_neg h, if_neg h2]
set_option maxHeartbeats 3200000 in
theorem choose_any (a b : Option Addr) (ca cb : Nat) (xs ys : List Int) (w : World) (ha : BV w a xs) (hb : BV w b ys) (hca : xs.length ≤ ca) (hcb : ys.length ≤ cb) (hma : ca ≤ 9223372036854775807) (hmb : cb ≤ 9223372036854775807) :
    Calls Tryz.prog 111 #[.slice a xs.length ca, .slice b ys.length cb] w fun e w' => ChoosePost w (chS xs ys 2) e w' := by
  have HGA : Hid (∀ W, Below w.heap.size w W → Calls Tryz.prog 168 #[.slice a xs.length ca] W fun e w' => GetPost W (getS xs) e w') := fun W hW => groot_any a ca xs W (ha.below hW) hca hma
  have HGB : Hid (∀ W, Below w.heap.size w W → Calls Tryz.prog 168 #[.slice b ys.length cb] W fun e w' => GetPost W (getS ys) e w') := fun W hW => groot_any b cb ys W (hb.below hW) hcb hmb
  obtain ⟨W0, hW0⟩ : ∃ W, W = ((w.alloc (.cells #[.int .i64 0, .int .i64 0, .int .i64 0, .int .i64 0, .slice none 0 0, .slice none 0 0] 94)).alloc (.cells #[.int .i64 0, .int .i64 0, .int .i64 0, .int .i64 0, .slice none 0 0, .slice none 0 0] 94)).alloc (.cells #[.slice a xs.length ca, .slice b ys.length cb] 29) := ⟨_, rfl⟩
  have HC0 : Hid (CB w W0 xs ys a ca b cb ⟨zero, 0, 4⟩ none 0 none 0) := by
    have l1 := heap_alloc_last w (.cells #[.int .i64 0, .int .i64 0, .int .i64 0, .int .i64 0, .slice none 0 0, .slice none 0 0] 94 (0, 0))
    have l2 := heap_alloc_last (w.alloc (.cells #[.int .i64 0, .int .i64 0, .int .i64 0, .int .i64 0, .slice none 0 0, .slice none 0 0] 94)) (.cells #[.int .i64 0, .int .i64 0, .int .i64 0, .int .i64 0, .slice none 0 0, .slice none 0 0] 94 (0, 0))
    have l3 := heap_alloc_last ((w.alloc (.cells #[.int .i64 0, .int .i64 0, .int .i64 0, .int .i64 0, .slice none 0 0, .slice none 0 0] 94)).alloc (.cells #[.int .i64 0, .int .i64 0, .int .i64 0, .int .i64 0, .slice none 0 0, .slice none 0 0] 94)) (.cells #[.slice a xs.length ca, .slice b ys.length cb] 29 (0, 0))
    have b1 : Below (w.heap.size + 1) (w.alloc (.cells #[.int .i64 0, .int .i64 0, .int .i64 0, .int .i64 0, .slice none 0 0, .slice none 0 0] 94)) W0 := by rw [hW0]; exact ((Below.refl _ _).alloc (by simp) _).alloc (by simp) _
    have b2 : Below (w.heap.size + 2) ((w.alloc (.cells #[.int .i64 0, .int .i64 0, .int .i64 0, .int .i64 0, .slice none 0 0, .slice none 0 0] 94)).alloc (.cells #[.int .i64 0, .int .i64 0, .int .i64 0, .int .i64 0, .slice none 0 0, .slice none 0 0] 94)) W0 := by rw [hW0]; exact (Below.refl _ _).alloc (by simp) _
    simp only [World.size_alloc] at l2 l3
    refine ⟨(b1.block _ (by omega)).trans l1, (b2.block _ (by omega)).trans l2, ?_, rt_zero _, .inl rfl, .inl rfl, ?_⟩
    · rw [hW0]; exact l3
    · rw [hW0]; exact (((Below.refl _ _).alloc (Nat.le_refl _) _).alloc (by simp) _).alloc (by simp; omega) _
  clear ha hb
  go_enter Tryz.func111, Tryz.ntmps111
  go_wp2_with fail
  rw [← hW0]
  clear hW0
  go_loopw [8, 9, 19] (fun nv ev iv wr => ∃ (k : Nat) (c : CS) (ta : Option Addr) (tc : Nat) (ma : Option Addr) (mc : Nat), k ≤ 2 ∧ iv = .int .i64 k ∧ nv = .int .i64 c.n ∧ ev = .int .i64 c.e ∧ Hid (c = chS xs ys k) ∧ Hid (CB w wr xs ys a ca b cb c ta tc ma mc)) (fun _ _ iv _ => 2 - (intOf iv).toNat)
  case atStart => exact ⟨0, ⟨zero, 0, 4⟩, none, 0, none, 0, Nat.zero_le _, rfl, rfl, rfl, rfl, HC0.out⟩
  case round =>
    obtain ⟨k, c, ta, tc, ma, mc, hk, rfl, rfl, rfl, HCQ, HCB⟩ := hrel
    clear HC0
    by_cases hlt : k < 2
    · obtain ⟨sa, sc, zs, hcell, HG, HPK⟩ : ∃ (sa : Option Addr) (sc : Nat) (zs : List Int), wr.cell? ⟨w.heap.size + 1 + 1, k, none⟩ = some (.slice sa zs.length sc) ∧ Hid (∀ W, Below w.heap.size w W → Calls Tryz.prog 168 #[.slice sa zs.length sc] W fun e w' => GetPost W (getS zs) e w') ∧ Hid (chS xs ys (k + 1) = pick k zs c) := by
        have hk2 : k = 0 ∨ k = 1 := by omega
        rcases hk2 with e | e
        · exact ⟨a, ca, xs, by rw [e, cell_of_row _ _ _ _ _ _ HCB.out.l]; rfl, HGA.out, by rw [e, HCQ.out, e]; rfl⟩
        · exact ⟨b, cb, ys, by rw [e, cell_of_row _ _ _ _ _ _ HCB.out.l]; rfl, HGB.out, by rw [e, HCQ.out, e]; rfl⟩
      have hK : w.heap.size + 3 ≤ wr.heap.size := HCB.out.size
      have HP1 := @pick_skip1 k zs c
      have HP2 := @pick_skip2 k zs c
      have HP3 := @pick_take k zs c
      have HP4 := @pick_keep k zs c
      have HPP : Hid (((getS zs).2 ≠ 0 → pick k zs c = c) ∧ ((getS zs).1.E.tmod 2 ≠ k → pick k zs c = c) ∧ ((getS zs).2 = 0 → (getS zs).1.E.tmod 2 = k → c.e ≠ 0 ∨ c.r.E < (getS zs).1.E → pick k zs c = ⟨(getS zs).1, k, 0⟩) ∧ (¬ (c.e ≠ 0 ∨ c.r.E < (getS zs).1.E) → pick k zs c = c)) := ⟨HP1, HP2, HP3, HP4⟩
      clear HP1 HP2 HP3 HP4 HGA HGB HCQ
      generalize getS zs = gg at *
      obtain ⟨g1, g2⟩ := gg
      simp only at HPP
      by_cases h0 : g2 = 0
      · subst h0
        by_cases h1 : g1.E.tmod 2 = k
        · by_cases h2 : c.e = 0
          · by_cases h3 : c.r.E < g1.E
            · have HEQ : Hid (⟨g1, k, 0⟩ = chS xs ys (k + 1)) := (HPK.out.trans (HPP.out.2.2.1 rfl h1 (Or.inr h3))).symm
              have hq3 : decide (c.r.E < g1.E) = true := by simpa using h3
              go_wp2_with (first
                | (go_at_call 168; refine (HG.out _ HCB.out.bl).mono ?_; rintro e w2 ⟨ua, uc, va, vc, rfl, H2⟩; unfold rootV; have HC2 : Hid (CB w w2 xs ys a ca b cb c ta tc ma mc) := HCB.out.below H2.out.2.1; clear HG HCB; obtain ⟨x0, x1, x2, x3, x4, x5, y0, y1, y2, y3, y4, y5⟩ := RX.of (HC2.out.below ((Below.refl _ _).alloc (Nat.le_refl _) (.cells #[.int .i64 g1.E, .int .i64 g1.B, .int .i64 g1.N, .int .i64 g1.S, .slice ua g1.T.length uc, .slice va g1.M.length vc] 94))).x)
                | fail)
              have HC3 : Hid (∃ W3, W3 = w2.alloc (.cells #[.int .i64 g1.E, .int .i64 g1.B, .int .i64 g1.N, .int .i64 g1.S, .slice ua g1.T.length uc, .slice va g1.M.length vc] 94) ∧ CB w W3 xs ys a ca b cb c ta tc ma mc ∧ Rt W3 g1 ua uc va vc ∧ IVh (w.heap.size + 3) W3 ua g1.T ∧ IVh (w.heap.size + 3) W3 va g1.M) := ⟨_, rfl, HC2.out.below ((Below.refl _ _).alloc (Nat.le_refl _) _), H2.out.1.below ((Below.refl _ _).alloc (Nat.le_refl _) _), (H2.out.2.2.1.mono hK).below ((Below.refl _ _).alloc (Nat.le_refl _) _), (H2.out.2.2.2.mono hK).below ((Below.refl _ _).alloc (Nat.le_refl _) _)⟩
              obtain ⟨W3, hW3, HC4⟩ := HC3.out
              have HC5 : Hid (CB w _ xs ys a ca b cb ⟨g1, k, 0⟩ ua uc va vc) := HC4.1.set HC4.2.1 HC4.2.2.1 HC4.2.2.2 k 0
              rw [hW3] at HC5
              go_roundw
              case rel => exact ⟨k + 1, ⟨g1, k, 0⟩, ua, uc, va, vc, by omega, by go_num, rfl, rfl, HEQ.out, HC5.out⟩
              case measure => simp [intOf]; omega
            · have HEQ : Hid (c = chS xs ys (k + 1)) := (HPK.out.trans (HPP.out.2.2.2 (by rintro (h | h); exact h h2; exact h3 h))).symm
              have hq3 : decide (c.r.E < g1.E) = false := by simpa using h3
              go_wp2_with (first
                | (go_at_call 168; refine (HG.out _ HCB.out.bl).mono ?_; rintro e w2 ⟨ua, uc, va, vc, rfl, H2⟩; unfold rootV; have HC2 : Hid (CB w w2 xs ys a ca b cb c ta tc ma mc) := HCB.out.below H2.out.2.1; clear HG HCB; obtain ⟨x0, x1, x2, x3, x4, x5, y0, y1, y2, y3, y4, y5⟩ := RX.of (HC2.out.below ((Below.refl _ _).alloc (Nat.le_refl _) (.cells #[.int .i64 g1.E, .int .i64 g1.B, .int .i64 g1.N, .int .i64 g1.S, .slice ua g1.T.length uc, .slice va g1.M.length vc] 94))).x)
                | fail)
              have HC3 : Hid (CB w (w2.alloc (.cells #[.int .i64 g1.E, .int .i64 g1.B, .int .i64 g1.N, .int .i64 g1.S, .slice ua g1.T.length uc, .slice va g1.M.length vc] 94)) xs ys a ca b cb c ta tc ma mc) := HC2.out.below ((Below.refl _ _).alloc (Nat.le_refl _) _)
              go_roundw
              case rel => exact ⟨k + 1, c, ta, tc, ma, mc, by omega, by go_num, rfl, by rw [h2], HEQ.out, HC3.out⟩
              case measure => simp [intOf]; omega
          · have HEQ : Hid (⟨g1, k, 0⟩ = chS xs ys (k + 1)) := (HPK.out.trans (HPP.out.2.2.1 rfl h1 (Or.inl h2))).symm
            have hq2 : (c.e == 0) = false := by simpa using h2
            go_wp2_with (first
              | (go_at_call 168; refine (HG.out _ HCB.out.bl).mono ?_; rintro e w2 ⟨ua, uc, va, vc, rfl, H2⟩; unfold rootV; have HC2 : Hid (CB w w2 xs ys a ca b cb c ta tc ma mc) := HCB.out.below H2.out.2.1; clear HG HCB; obtain ⟨x0, x1, x2, x3, x4, x5, y0, y1, y2, y3, y4, y5⟩ := RX.of (HC2.out.below ((Below.refl _ _).alloc (Nat.le_refl _) (.cells #[.int .i64 g1.E, .int .i64 g1.B, .int .i64 g1.N, .int .i64 g1.S, .slice ua g1.T.length uc, .slice va g1.M.length vc] 94))).x)
              | fail)
            have HC3 : Hid (∃ W3, W3 = w2.alloc (.cells #[.int .i64 g1.E, .int .i64 g1.B, .int .i64 g1.N, .int .i64 g1.S, .slice ua g1.T.length uc, .slice va g1.M.length vc] 94) ∧ CB w W3 xs ys a ca b cb c ta tc ma mc ∧ Rt W3 g1 ua uc va vc ∧ IVh (w.heap.size + 3) W3 ua g1.T ∧ IVh (w.heap.size + 3) W3 va g1.M) := ⟨_, rfl, HC2.out.below ((Below.refl _ _).alloc (Nat.le_refl _) _), H2.out.1.below ((Below.refl _ _).alloc (Nat.le_refl _) _), (H2.out.2.2.1.mono hK).below ((Below.refl _ _).alloc (Nat.le_refl _) _), (H2.out.2.2.2.mono hK).below ((Below.refl _ _).alloc (Nat.le_refl _) _)⟩
            obtain ⟨W3, hW3, HC4⟩ := HC3.out
            have HC5 : Hid (CB w _ xs ys a ca b cb ⟨g1, k, 0⟩ ua uc va vc) := HC4.1.set HC4.2.1 HC4.2.2.1 HC4.2.2.2 k 0
            rw [hW3] at HC5
            go_roundw
            case rel => exact ⟨k + 1, ⟨g1, k, 0⟩, ua, uc, va, vc, by omega, by go_num, rfl, rfl, HEQ.out, HC5.out⟩
            case measure => simp [intOf]; omega
        · have HEQ : Hid (c = chS xs ys (k + 1)) := (HPK.out.trans (HPP.out.2.1 h1)).symm
          have hq1 : (g1.E.tmod 2 == (k : Int)) = false := by simpa using h1
          go_wp2_with (first
            | (go_at_call 168; refine (HG.out _ HCB.out.bl).mono ?_; rintro e w2 ⟨ua, uc, va, vc, rfl, H2⟩; unfold rootV; have HC2 : Hid (CB w w2 xs ys a ca b cb c ta tc ma mc) := HCB.out.below H2.out.2.1; clear HG HCB; obtain ⟨x0, x1, x2, x3, x4, x5, y0, y1, y2, y3, y4, y5⟩ := RX.of (HC2.out.below ((Below.refl _ _).alloc (Nat.le_refl _) (.cells #[.int .i64 g1.E, .int .i64 g1.B, .int .i64 g1.N, .int .i64 g1.S, .slice ua g1.T.length uc, .slice va g1.M.length vc] 94))).x)
            | fail)
          have HC3 : Hid (CB w (w2.alloc (.cells #[.int .i64 g1.E, .int .i64 g1.B, .int .i64 g1.N, .int .i64 g1.S, .slice ua g1.T.length uc, .slice va g1.M.length vc] 94)) xs ys a ca b cb c ta tc ma mc) := HC2.out.below ((Below.refl _ _).alloc (Nat.le_refl _) _)
          go_roundw
          case rel => exact ⟨k + 1, c, ta, tc, ma, mc, by omega, by go_num, rfl, rfl, HEQ.out, HC3.out⟩
          case measure => simp [intOf]; omega
      · have HEQ : Hid (c = chS xs ys (k + 1)) := (HPK.out.trans (HPP.out.1 h0)).symm
        have hq0 : (g2 == 0) = false := by simpa using h0
        go_wp2_with (first
          | (go_at_call 168; refine (HG.out _ HCB.out.bl).mono ?_; rintro e w2 ⟨ua, uc, va, vc, rfl, H2⟩; unfold rootV; have HC2 : Hid (CB w w2 xs ys a ca b cb c ta tc ma mc) := HCB.out.below H2.out.2.1; clear HG HCB; obtain ⟨x0, x1, x2, x3, x4, x5, y0, y1, y2, y3, y4, y5⟩ := RX.of (HC2.out.below ((Below.refl _ _).alloc (Nat.le_refl _) (.cells #[.int .i64 g1.E, .int .i64 g1.B, .int .i64 g1.N, .int .i64 g1.S, .slice ua g1.T.length uc, .slice va g1.M.length vc] 94))).x)
          | fail)
        have HC3 : Hid (CB w (w2.alloc (.cells #[.int .i64 g1.E, .int .i64 g1.B, .int .i64 g1.N, .int .i64 g1.S, .slice ua g1.T.length uc, .slice va g1.M.length vc] 94)) xs ys a ca b cb c ta tc ma mc) := HC2.out.below ((Below.refl _ _).alloc (Nat.le_refl _) _)
        go_roundw
        case rel => exact ⟨k + 1, c, ta, tc, ma, mc, by omega, by go_num, rfl, rfl, HEQ.out, HC3.out⟩
        case measure => simp [intOf]; omega
    · have HCE : Hid (c = chS xs ys 2) := by
        have e : k = 2 := by omega
        have h := HCQ.out
        rw [e] at h
        exact h
      obtain ⟨x0, x1, x2, x3, x4, x5, _⟩ := RX.of HCB.out.x
      obtain ⟨z0, z1, z2, z3, z4, z5, v0, v1, v2, v3, v4, v5⟩ := RX.of HCB.out.o
      clear HGA HGB HCQ
      go_wp2_with fail
      exact bodyPost_ret (v := .tuple #[.agg #[.int .i64 c.r.E, .int .i64 c.r.B, .int .i64 c.r.N, .int .i64 c.r.S, .slice ta c.r.T.length tc, .slice ma c.r.M.length mc], .int .i64 c.n, .int .i64 c.e]) (by simp [results, Tryz.results111, go_sem, *]) rfl (by rw [← HCE.out]; exact ⟨ta, tc, ma, mc, rfl, ⟨(ivh_set6 (p := w.heap.size) HCB.out.it (by omega) _ _ _ _ _ _).iv, (ivh_set6 (p := w.heap.size) HCB.out.im (by omega) _ _ _ _ _ _).iv, HCB.out.rt.tn, HCB.out.rt.mn, HCB.out.rt.tl, HCB.out.rt.ml, HCB.out.rt.th, HCB.out.rt.mh⟩, set6_below HCB.out.bl _ _ _ _ _ _, (ivh_set6 (p := w.heap.size) HCB.out.it (by omega) _ _ _ _ _ _).mono (by omega), (ivh_set6 (p := w.heap.size) HCB.out.im (by omega) _ _ _ _ _ _).mono (by omega)⟩)
end Go.Proofs.YtelhlikeefpjnaaGreat.R
namespace Go.Proofs.YtelhlikeefpjnaaGreat.R
set_option maxRecDepth 20000
open Go.RowKit
set_option linter.unusedVariables false
theorem nrun (x : Nat) (d rest : List Int) (h1 : 1 ≤ x) (h6 : x ≤ 6) (hd : d.length = x) : nval x (d ++ rest, 0) = val d ∧ nstep x (d ++ rest, 0) = (rest, 0) := by
  have hE : getE (d ++ rest) x = 0 := by
    unfold getE
    rw [if_neg (by omega), if_neg (by rw [List.length_append]; omega)]
  have hV : getV (d ++ rest) x = val d := by
    unfold getV
    rw [if_neg (by omega), if_neg (by rw [List.length_append]; omega), Int.toNat_natCast, ← hd, List.take_left]
  refine ⟨?_, ?_⟩
  · show numV (d ++ rest) 0 x = _
    unfold numV
    rw [if_pos rfl, hV]
  · show (numZ (d ++ rest) 0 x, numE (d ++ rest) 0 x) = _
    unfold numZ numE
    rw [if_pos ⟨rfl, hE⟩, if_pos rfl, hE, Int.toNat_natCast, ← hd, List.drop_left]
theorem two_run (z : Int) (rest : List Int) (h0 : 0 ≤ z) (h1 : z < 65536) : nval 2 (dig z 2 ++ rest, 0) = z ∧ nstep 2 (dig z 2 ++ rest, 0) = (rest, 0) := by
  have h := nrun 2 (dig z 2) rest (by decide) (by decide) (dig_length 2 z)
  rw [val_dig 2 z h0 h1] at h
  exact h
theorem it_twos : ∀ (zs rest : List Int), (∀ z ∈ zs, 0 ≤ z ∧ z < 65536) → ∀ k, k ≤ zs.length → itN k (twos zs ++ rest, 0) = (twos (zs.drop k) ++ rest, 0)
  | zs, rest, h, 0, _ => rfl
  | zs, rest, h, k + 1, hk => by
    show nstep 2 (itN k (twos zs ++ rest, 0)) = _
    rw [it_twos zs rest h k (by omega), List.drop_eq_getElem_cons (show k < zs.length by omega)]
    have hz := h zs[k] (List.getElem_mem _)
    show nstep 2 ((dig zs[k] 2 ++ twos (zs.drop (k + 1))) ++ rest, 0) = _
    rw [List.append_assoc]
    exact (two_run zs[k] _ hz.1 hz.2).2
theorem vals_twos (zs rest : List Int) (h : ∀ z ∈ zs, 0 ≤ z ∧ z < 65536) : vals zs.length (twos zs ++ rest, 0) = zs := by
  show List.map (fun j => nval 2 (itN j (twos zs ++ rest, 0))) (List.range zs.length) = zs
  refine List.ext_getElem (by simp) (fun k h1 h2 => ?_)
  rw [List.getElem_map, List.getElem_range, it_twos zs rest h k (by omega), List.drop_eq_getElem_cons (show k < zs.length by omega)]
  have hz := h zs[k] (List.getElem_mem _)
  show nval 2 ((dig zs[k] 2 ++ twos (zs.drop (k + 1))) ++ rest, 0) = _
  rw [List.append_assoc]
  exact (two_run zs[k] _ hz.1 hz.2).1
theorem read_body {r : RD} (h : r.Ok) : readS (bodyS r) = r := by
  have e0 := h.e0; have e1 := h.e1; have b0 := h.b0; have b1 := h.b1; have n0 := h.n0; have n1 := h.n1; have s0 := h.s0; have s1 := h.s1; have t1 := h.t1; have m1 := h.m1
  have hT : ∀ z ∈ r.T, 0 ≤ z ∧ z < 65536 := fun z hz => by have := h.tb z hz; omega
  have hM : ∀ z ∈ r.M, 0 ≤ z ∧ z < 65536 := fun z hz => by have := h.mb z hz; omega
  obtain ⟨Q, hQ⟩ : ∃ Q : List Int, Q = List.replicate (246 - (frontS r).length) 0 := ⟨_, rfl⟩
  have p0 : readP (bodyS r) 0 = (dig r.E 6 ++ (dig r.B 2 ++ (dig r.N 2 ++ (dig r.S 2 ++ (dig r.T.length 1 ++ (dig r.M.length 1 ++ (twos r.T ++ (twos r.M ++ Q))))))), 0) := by
    show ((bodyS r).drop 4, (0 : Int)) = _
    unfold bodyS
    rw [← hQ]
    unfold frontS
    simp only [List.append_assoc]
    rfl
  have q0 := nrun 6 (dig r.E 6) (dig r.B 2 ++ (dig r.N 2 ++ (dig r.S 2 ++ (dig r.T.length 1 ++ (dig r.M.length 1 ++ (twos r.T ++ (twos r.M ++ Q))))))) (by decide) (by decide) (dig_length 6 _)
  rw [← p0] at q0
  have p1 : readP (bodyS r) 1 = _ := q0.2
  have q1 := two_run r.B (dig r.N 2 ++ (dig r.S 2 ++ (dig r.T.length 1 ++ (dig r.M.length 1 ++ (twos r.T ++ (twos r.M ++ Q)))))) (by omega) (by omega)
  rw [← p1] at q1
  have p2 : readP (bodyS r) 2 = _ := q1.2
  have q2 := two_run r.N (dig r.S 2 ++ (dig r.T.length 1 ++ (dig r.M.length 1 ++ (twos r.T ++ (twos r.M ++ Q))))) (by omega) (by omega)
  rw [← p2] at q2
  have p3 : readP (bodyS r) 3 = _ := q2.2
  have q3 := two_run r.S (dig r.T.length 1 ++ (dig r.M.length 1 ++ (twos r.T ++ (twos r.M ++ Q)))) (by omega) (by omega)
  rw [← p3] at q3
  have p4 : readP (bodyS r) 4 = _ := q3.2
  have q4 := nrun 1 (dig r.T.length 1) (dig r.M.length 1 ++ (twos r.T ++ (twos r.M ++ Q))) (by decide) (by decide) (dig_length 1 _)
  rw [← p4] at q4
  have p5 : readP (bodyS r) 5 = _ := q4.2
  have q5 := nrun 1 (dig r.M.length 1) (twos r.T ++ (twos r.M ++ Q)) (by decide) (by decide) (dig_length 1 _)
  rw [← p5] at q5
  have p6 : readP (bodyS r) 6 = _ := q5.2
  have vE := val_dig 6 r.E e0 (show r.E < 281474976710656 by omega)
  have vT := val_dig 1 (r.T.length : Int) (by omega) (show (r.T.length : Int) < 256 by omega)
  have vM := val_dig 1 (r.M.length : Int) (by omega) (show (r.M.length : Int) < 256 by omega)
  have tn : readTn (bodyS r) = r.T.length := by
    unfold readTn
    have : nval 1 (readP (bodyS r) 4) = (r.T.length : Int) := q4.1.trans vT
    rw [this, Int.toNat_natCast]
  have mn : readMn (bodyS r) = r.M.length := by
    unfold readMn
    have : nval 1 (readP (bodyS r) 5) = (r.M.length : Int) := q5.1.trans vM
    rw [this, Int.toNat_natCast]
  have g0 : nval 6 (readP (bodyS r) 0) = r.E := q0.1.trans vE
  have it := it_twos r.T (twos r.M ++ Q) hT r.T.length (Nat.le_refl _)
  rw [List.drop_length] at it
  unfold readS
  rw [tn, mn, g0, q1.1, q2.1, q3.1, p6, vals_twos r.T _ hT, it]
  rw [show (twos [] ++ (twos r.M ++ Q), (0 : Int)) = (twos r.M ++ Q, 0) from rfl, vals_twos r.M _ hM]
theorem put_take {r : RD} (h : r.Ok) : (putS r).take 246 = bodyS r ∧ (putS r).take 250 = bodyS r ++ dig (more 0 (bodyS r)) 4 ∧ (putS r).drop 250 = dig r.E 6 ∧ ((putS r).drop 4).take 6 = dig r.E 6 := by
  have hb := body_len h
  refine ⟨?_, ?_, ?_, ?_⟩
  · unfold putS
    rw [List.append_assoc, List.take_append_of_le_length (by omega), List.take_of_length_le (by omega)]
  · unfold putS
    rw [List.take_append_of_le_length (by rw [List.length_append, dig_length]; omega), List.take_of_length_le (by rw [List.length_append, dig_length]; omega)]
  · unfold putS
    rw [List.drop_append_of_le_length (by rw [List.length_append, dig_length]; omega), List.drop_of_length_le (by rw [List.length_append, dig_length]; omega), List.nil_append]
  · have e : putS r = [114, 111, 111, 116] ++ (dig r.E 6 ++ ((dig r.B 2 ++ dig r.N 2 ++ dig r.S 2) ++ ((dig r.T.length 1 ++ dig r.M.length 1) ++ (twos r.T ++ (twos r.M ++ (List.replicate (246 - (frontS r).length) 0 ++ (dig (more 0 (bodyS r)) 4 ++ dig r.E 6))))))) := by
      rw [show putS r = (frontS r ++ List.replicate (246 - (frontS r).length) 0) ++ dig (more 0 (bodyS r)) 4 ++ dig r.E 6 from rfl]
      rw [show frontS r = [114, 111, 111, 116] ++ dig r.E 6 ++ (dig r.B 2 ++ dig r.N 2 ++ dig r.S 2) ++ (dig r.T.length 1 ++ dig r.M.length 1) ++ twos r.T ++ twos r.M from rfl]
      simp only [List.append_assoc]
    rw [e]
    rw [show ([114, 111, 111, 116] : List Int) = [114, 111, 111, 116] from rfl, List.drop_left' (by rfl), List.take_left' (dig_length 6 _)]
theorem good_body {r : RD} (h : r.Ok) : Good ((putS r).take 250) := by
  have hl : ((putS r).take 250).length = 246 + 4 := by rw [List.length_take, put_len h]; rfl
  rw [good_split hl, List.take_take, show min 246 250 = 246 from rfl, (put_take h).1, (put_take h).2.1]
theorem get_put {r : RD} (h : r.Ok) : getS (putS r) = (r, 0) := by
  unfold getS
  rw [if_neg (by rw [put_len h]; simp), if_neg (by rw [(put_take h).2.2.1, (put_take h).2.2.2]; simp), if_neg (fun hg => hg (good_body h)), (put_take h).1, read_body h, if_pos ⟨checkE_ok h, rfl⟩]
theorem gets_ok {zs : List Int} (h : (getS zs).2 = 0) : (getS zs).1.Ok ∧ putS (getS zs).1 = zs := by
  unfold getS at h ⊢
  split at h
  · cases h
  · split at h
    · cases h
    · split at h
      · cases h
      · split at h
        · rename_i h1 h2 h3 h4
          rw [if_neg h1, if_neg h2, if_neg h3, if_pos h4]
          exact ⟨ok_checkE h4.1, h4.2⟩
        · cases h
end Go.Proofs.YtelhlikeefpjnaaGreat.R
namespace Go.Proofs.YtelhlikeefpjnaaGreat.R
set_option maxRecDepth 20000
open Go.RowKit
set_option linter.unusedVariables false
def r0 : RD := ⟨5, 9, 1, 1, [2], [3]⟩
theorem put_front (r : RD) : (putS r).take (frontS r).length = frontS r := by
  rw [show putS r = (frontS r ++ List.replicate (246 - (frontS r).length) 0) ++ dig (more 0 (bodyS r)) 4 ++ dig r.E 6 from rfl, List.append_assoc, List.append_assoc, List.take_left]
end Go.Proofs.YtelhlikeefpjnaaGreat.R
namespace Go.Proofs.YtelhlikeefpjnaaGreat.R
set_option maxRecDepth 20000
open Go.RowKit
set_option linter.unusedVariables false
theorem ext_getD {a b : List Int} (h : a.length = b.length) (hi : ∀ i, i < a.length → a.getD i 0 = b.getD i 0) : a = b := by
  refine List.ext_getElem h (fun i h1 h2 => ?_)
  have := hi i h1
  rw [List.getD_eq_getElem?_getD, List.getD_eq_getElem?_getD, List.getElem?_eq_getElem h1, List.getElem?_eq_getElem h2] at this
  exact this
theorem torn_at (a b : List Int) (k i : Nat) (ha : a.length = 256) (hb : b.length = 256) (hk : k ≤ 256) (hi : i < 256) : (a.take k ++ b.drop k).getD i 0 = if i < k then a.getD i 0 else b.getD i 0 := by
  rw [List.getD_eq_getElem?_getD, List.getElem?_append]
  have hl : (a.take k).length = k := by rw [List.length_take]; omega
  rw [hl]
  by_cases h : i < k
  · rw [if_pos h, if_pos h, List.getElem?_take, if_pos h, ← List.getD_eq_getElem?_getD]
  · rw [if_neg h, if_neg h, List.getElem?_drop, show k + (i - k) = i by omega, ← List.getD_eq_getElem?_getD]
theorem torn_len (a b : List Int) (k : Nat) (ha : a.length = 256) (hb : b.length = 256) (hk : k ≤ 256) : (a.take k ++ b.drop k).length = 256 := by
  rw [List.length_append, List.length_take, List.length_drop]; omega
theorem ends {r : RD} (h : r.Ok) : ∀ j, j < 6 → (putS r).getD (250 + j) 0 = (putS r).getD (4 + j) 0 := by
  intro j hj
  have h1 := (put_take h).2.2.1
  have h2 := (put_take h).2.2.2
  have e1 : (putS r).getD (250 + j) 0 = (dig r.E 6).getD j 0 := by rw [← h1, getD_drop]
  have e2 : (putS r).getD (4 + j) 0 = (dig r.E 6).getD j 0 := by rw [← h2, getD_take _ _ _ hj, getD_drop]
  rw [e1, e2]
theorem mark_at {r : RD} (h : r.Ok) : ∀ i, i < 4 → (putS r).getD i 0 = ([114, 111, 111, 116] : List Int).getD i 0 := by
  intro i hi
  have e : (putS r).take 4 = [114, 111, 111, 116] := by
    have h1 := put_front r
    have h2 : ((putS r).take (frontS r).length).take 4 = (frontS r).take 4 := by rw [h1]
    rw [List.take_take, show min 4 (frontS r).length = 4 by rw [front_len]; omega] at h2
    rw [h2]
    unfold frontS
    simp only [List.append_assoc]
    rfl
  rw [← e, getD_take _ _ _ hi]
end Go.Proofs.YtelhlikeefpjnaaGreat.R
namespace Go.Proofs.YtelhlikeefpjnaaGreat
set_option maxRecDepth 20000
open Go.RowKit
set_option linter.unusedVariables false
def epD (ep : Int) (j : Nat) : Int := (dig ep 6).getD j 0
theorem put_ep {r : R.RD} (h : r.Ok) (j : Nat) (hj : j < 6) : (R.putS r).getD (4 + j) 0 = epD r.E j ∧ (R.putS r).getD (250 + j) 0 = epD r.E j := by
  have h2 := (R.put_take h).2.2.2
  have e2 : (R.putS r).getD (4 + j) 0 = epD r.E j := by unfold epD; rw [← h2, getD_take _ _ _ hj, getD_drop]
  exact ⟨e2, (R.ends h j hj).trans e2⟩
theorem epD_inj {a b : Int} (ha : 0 ≤ a) (ha2 : a ≤ 1099511627777) (hb : 0 ≤ b) (hb2 : b ≤ 1099511627777) (h : ∀ j, j < 6 → epD a j = epD b j) : a = b := by
  have e : dig a 6 = dig b 6 := R.ext_getD (by rw [dig_length, dig_length]) (fun j hj => by rw [dig_length] at hj; exact h j hj)
  have v1 := val_dig 6 a ha (by show a < 281474976710656; omega)
  have v2 := val_dig 6 b hb (by show b < 281474976710656; omega)
  rw [e, v2] at v1
  exact v1.symm
theorem epD_zero (j : Nat) (hj : j < 6) : epD 0 j = 0 := by
  have : j = 0 ∨ j = 1 ∨ j = 2 ∨ j = 3 ∨ j = 4 ∨ j = 5 := by omega
  rcases this with rfl | rfl | rfl | rfl | rfl | rfl <;> decide
def Elder (X : List Int) (ep : Int) : Prop :=
  (∃ o : R.RD, o.Ok ∧ X = R.putS o ∧ o.E < ep) ∨ (∀ i, 4 ≤ i → i < 256 → X.getD i 0 = 0) ∨ ∃ j, j < 6 ∧ X.getD (4 + j) 0 = epD (ep + 1) j ∧ X.getD (250 + j) 0 ≠ epD (ep + 1) j
theorem elder_torn {X : List Int} {ep : Int} {r : R.RD} (hX : X.length = 256) (he : Elder X ep) (hr : r.Ok) (hE : r.E = ep + 1) (h0 : 0 ≤ ep) (k : Nat) (hk : k ≤ 256) : (R.putS r).take k ++ X.drop k = R.putS r ∨ Elder ((R.putS r).take k ++ X.drop k) ep := by
  have la := R.put_len hr
  have at' := fun i hi => R.torn_at (R.putS r) X k i la hX hk hi
  have len := R.torn_len (R.putS r) X k la hX hk
  have h1 := hr.e1
  have hN := fun j hj => put_ep hr j hj
  rw [hE] at hN
  by_cases hk2 : 250 < k
  · by_cases hx : ∃ j, j < 6 ∧ k ≤ 250 + j ∧ X.getD (250 + j) 0 ≠ epD (ep + 1) j
    · obtain ⟨j, hj, h2, h3⟩ := hx
      refine .inr (.inr (.inr ⟨j, hj, ?_, ?_⟩))
      · rw [at' _ (by omega), if_pos (by omega)]; exact (hN j hj).1
      · rw [at' _ (by omega), if_neg (by omega)]; exact h3
    · left
      refine R.ext_getD (by rw [len, la]) (fun i hi => ?_)
      rw [len] at hi
      rw [at' i hi]
      by_cases hik : i < k
      · rw [if_pos hik]
      · rw [if_neg hik]
        have e := (hN (i - 250) (by omega)).2
        rw [show 250 + (i - 250) = i by omega] at e
        rw [e]
        by_cases h4 : X.getD i 0 = epD (ep + 1) (i - 250)
        · exact h4
        · exact absurd ⟨i - 250, by omega, by omega, by rw [show 250 + (i - 250) = i by omega]; exact h4⟩ hx
  · right
    rcases he with ⟨o, ho, hXo, hlt⟩ | hz | ⟨j, hj, h2, h3⟩
    · by_cases hx : ∃ j, j < 6 ∧ 4 + j < k ∧ epD o.E j ≠ epD (ep + 1) j
      · obtain ⟨j, hj, h2, h3⟩ := hx
        refine .inr (.inr ⟨j, hj, ?_, ?_⟩)
        · rw [at' _ (by omega), if_pos (by omega)]; exact (hN j hj).1
        · rw [at' _ (by omega), if_neg (by omega), hXo, (put_ep ho j hj).2]; exact h3
      · refine .inl ⟨o, ho, ?_, hlt⟩
        rw [← hXo]
        have hq : ∀ j, j < 6 → 4 + j < k → epD o.E j = epD (ep + 1) j := fun j hj hjk => by
          by_cases e : epD o.E j = epD (ep + 1) j
          · exact e
          · exact absurd ⟨j, hj, hjk, e⟩ hx
        refine R.ext_getD (by rw [len, hX]) (fun i hi => ?_)
        rw [len] at hi
        rw [at' i hi]
        by_cases hik : i < k
        · rw [if_pos hik]
          by_cases h4 : i < 4
          · rw [R.mark_at hr i h4, hXo, R.mark_at ho i h4]
          · by_cases h10 : i < 10
            · have e1 := (hN (i - 4) (by omega)).1
              have e2 := (put_ep ho (i - 4) (by omega)).1
              rw [show 4 + (i - 4) = i by omega] at e1 e2
              rw [e1, hXo, e2, hq (i - 4) (by omega) (by omega)]
            · have := epD_inj ho.e0 (by omega) (by omega) (by omega) (fun j hj => hq j hj (by omega))
              omega
        · rw [if_neg hik]
    · by_cases hx : ∃ j, j < 6 ∧ 4 + j < k ∧ epD (ep + 1) j ≠ 0
      · obtain ⟨j, hj, h2, h3⟩ := hx
        refine .inr (.inr ⟨j, hj, ?_, ?_⟩)
        · rw [at' _ (by omega), if_pos (by omega)]; exact (hN j hj).1
        · rw [at' _ (by omega), if_neg (by omega), hz _ (by omega) (by omega)]; exact fun e => h3 e.symm
      · have hq : ∀ j, j < 6 → 4 + j < k → epD (ep + 1) j = 0 := fun j hj hjk => by
          by_cases e : epD (ep + 1) j = 0
          · exact e
          · exact absurd ⟨j, hj, hjk, e⟩ hx
        refine .inr (.inl fun i hi4 hi => ?_)
        rw [at' i hi]
        by_cases hik : i < k
        · rw [if_pos hik]
          by_cases h10 : i < 10
          · have e1 := (hN (i - 4) (by omega)).1
            rw [show 4 + (i - 4) = i by omega] at e1
            rw [e1, hq (i - 4) (by omega) (by omega)]
          · have := epD_inj (a := ep + 1) (b := 0) (by omega) (by omega) (by omega) (by omega) (fun j hj => by rw [hq j hj (by omega), epD_zero j hj])
            omega
        · rw [if_neg hik]; exact hz i hi4 hi
    · refine .inr (.inr ⟨j, hj, ?_, ?_⟩)
      · rw [at' _ (by omega)]
        split
        · exact (hN j hj).1
        · exact h2
      · rw [at' _ (by omega), if_neg (by omega)]; exact h3
theorem put_bl {r : R.RD} (h : r.Ok) : ((R.putS r).drop 10).take 2 = dig r.B 2 := by
  have e : R.putS r = ([114, 111, 111, 116] ++ dig r.E 6) ++ (dig r.B 2 ++ (dig r.N 2 ++ dig r.S 2 ++ ((dig r.T.length 1 ++ dig r.M.length 1) ++ (R.twos r.T ++ (R.twos r.M ++ (List.replicate (246 - (R.frontS r).length) 0 ++ (dig (more 0 (R.bodyS r)) 4 ++ dig r.E 6))))))) := by
    rw [show R.putS r = (R.frontS r ++ List.replicate (246 - (R.frontS r).length) 0) ++ dig (more 0 (R.bodyS r)) 4 ++ dig r.E 6 from rfl]
    rw [show R.frontS r = [114, 111, 111, 116] ++ dig r.E 6 ++ (dig r.B 2 ++ dig r.N 2 ++ dig r.S 2) ++ (dig r.T.length 1 ++ dig r.M.length 1) ++ R.twos r.T ++ R.twos r.M from rfl]
    simp only [List.append_assoc]
  rw [e, List.drop_left' (by rw [List.length_append, dig_length]; rfl), List.take_left' (dig_length 2 _)]
theorem elder_get {X : List Int} {ep : Int} (he : Elder X ep) (h : (R.getS X).2 = 0) : (R.getS X).1.E < ep := by
  obtain ⟨hok, hput⟩ := R.gets_ok h
  rcases he with ⟨o, ho, hXo, hlt⟩ | hz | ⟨j, hj, h2, h3⟩
  · rw [hXo, R.get_put ho]; exact hlt
  · have hb := put_bl hok
    rw [hput] at hb
    have hl : X.length = 256 := by rw [← hput]; exact R.put_len hok
    have e : ((X.drop 10).take 2) = [0, 0] := by
      refine R.ext_getD (by rw [List.length_take, List.length_drop]; simp; omega) (fun i hi => ?_)
      rw [List.length_take, List.length_drop] at hi
      rw [getD_take _ _ _ (by omega), getD_drop, hz _ (by omega) (by omega)]
      have : i = 0 ∨ i = 1 := by omega
      rcases this with rfl | rfl <;> rfl
    have v := val_dig 2 (R.getS X).1.B (by have := hok.b0; omega) (by have := hok.b1; show _ < (65536 : Int); omega)
    rw [← hb, e] at v
    have := hok.b0
    rw [← v] at this
    exact absurd this (by decide)
  · have := R.ends hok j hj
    rw [hput, h2] at this
    exact absurd this h3
theorem choose_even {A0 A1 : List Int} {m : R.RD} (hm : m.Ok) (hp : m.E.tmod 2 = 0) (ha : A0 = R.putS m) (he : (R.getS A1).2 = 0 → (R.getS A1).1.E < m.E) : (R.chS A0 A1 2).e = 0 ∧ (R.chS A0 A1 2).r = m := by
  have hg := R.get_put hm
  rw [← ha] at hg
  have e1 : R.pick 0 A0 ⟨R.zero, 0, 4⟩ = ⟨m, 0, 0⟩ := by
    unfold R.pick
    rw [hg, if_neg (by rintro (q | q); exact q rfl; exact q hp), if_pos (Or.inl (by decide))]
  have e2 : R.chS A0 A1 2 = R.pick 1 A1 ⟨m, 0, 0⟩ := by show R.pick 1 A1 (R.pick 0 A0 ⟨R.zero, 0, 4⟩) = _; rw [e1]
  rw [e2]
  unfold R.pick
  split
  · exact ⟨rfl, rfl⟩
  · rename_i hc
    rw [if_neg]
    · exact ⟨rfl, rfl⟩
    · rintro (q | q)
      · exact q rfl
      · have := he (Decidable.byContradiction fun h => hc (Or.inl h))
        have q' : m.E < (R.getS A1).1.E := q
        omega
theorem choose_odd {A0 A1 : List Int} {m : R.RD} (hm : m.Ok) (hp : m.E.tmod 2 = 1) (ha : A1 = R.putS m) (he : (R.getS A0).2 = 0 → (R.getS A0).1.E < m.E) : (R.chS A0 A1 2).e = 0 ∧ (R.chS A0 A1 2).r = m := by
  have hg := R.get_put hm
  rw [← ha] at hg
  have e2 : R.chS A0 A1 2 = R.pick 1 A1 (R.pick 0 A0 ⟨R.zero, 0, 4⟩) := rfl
  have e3 : R.pick 1 A1 (R.pick 0 A0 ⟨R.zero, 0, 4⟩) = ⟨m, 1, 0⟩ := by
    generalize hc : R.pick 0 A0 ⟨R.zero, 0, 4⟩ = c
    have hlt : c.e ≠ 0 ∨ c.r.E < m.E := by
      unfold R.pick at hc
      split at hc
      · rw [← hc]; exact .inl (by decide)
      · rename_i h1
        rw [if_pos (Or.inl (by decide))] at hc
        rw [← hc]
        exact .inr (he (Decidable.byContradiction fun h => h1 (Or.inl h)))
    unfold R.pick
    rw [hg, if_neg (by rintro (q | q); exact q rfl; exact q hp), if_pos hlt]
  rw [e2, e3]
  exact ⟨rfl, rfl⟩
end Go.Proofs.YtelhlikeefpjnaaGreat
