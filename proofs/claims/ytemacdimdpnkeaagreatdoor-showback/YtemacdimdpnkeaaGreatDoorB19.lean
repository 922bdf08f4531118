import Derived.Test.YtemacdimdpnkeaaGreatDoorB11
import Derived.Test.YtemacdimdpnkeaaGreatDoorB10
import Derived.Test.YtemacdimdpnkeaaGreatDoorB18
import Derived.Test.YtemacdimdpnkeaaGreatDoorB2
import Derived.Deep.RegionWith
import Derived.StillTailTactics
import Derived.WalkLawsBesides
namespace Go.Proofs.YtemacdimdpnkeaaGreatDoor
set_option maxRecDepth 20000
open Go.RowKit
set_option linter.unusedVariables false
set_option linter.unusedSimpArgs false
def tkA (x : TA) : Value := .agg #[.int .u8 x.1.k, .string (st x.1.nm), .int .u8 x.1.p, .int .u8 x.1.vk, .int .i64 x.1.vn, .string (st x.1.vs), .int .i64 x.2]
def Toks (w : World) (P : Nat → Prop) (v : Value) (l : List TA) : Prop := SlW 7 w P v (l.map cl7)
theorem Toks.below {w w' : World} {P : Nat → Prop} {v : Value} {l : List TA} (h : Toks w P v l) (hb : Below w.heap.size w w') : Toks w' P v l := SlW.keep (P := fun _ => P) (k := 0) (Stays.below hb) h
theorem Toks.open {w : World} {P : Nat → Prop} {v : Value} {x : TA} {l : List TA} (h : Toks w P v (x :: l)) : ∃ b off cap, v = .slice (some ⟨b, off, none⟩) (l.length + 1) cap ∧ l.length + 1 ≤ cap ∧ cap ≤ 9223372036854775807 ∧ b < w.heap.size ∧ (∀ j, j < 7 → w.cell? ⟨b, off + j, none⟩ = (cl7 x)[j]?) ∧ Toks w P (.slice (some ⟨b, off + 7, none⟩) l.length (cap - 1)) l ∧ (l = [] → Toks w P (.slice (some ⟨b, off, none⟩) 0 0) l) := by
  obtain ⟨a, cap, h1, h2, h3, h4⟩ := h
  simp only [List.map_cons, List.length_cons, List.length_map] at h1 h2
  rcases h4 with h4 | ⟨b, off, rfl, hb, hp, hc⟩
  · simp at h4
  · refine ⟨b, off, cap, h1, h2, h3, hb, fun j hj => ?_, ?_, ?_⟩
    · have := hc 0 j (by simp) hj
      rw [Nat.zero_mul, Nat.zero_add] at this
      exact this
    · refine ⟨_, _, by rw [List.length_map], by rw [List.length_map]; omega, by omega, ?_⟩
      by_cases hl : l = []
      · left; rw [hl]; rfl
      · refine .inr ⟨b, off + 7, rfl, hb, hp, fun i j hi hj => ?_⟩
        have := hc (i + 1) j (by simpa using hi) hj
        rw [show off + ((i + 1) * 7 + j) = off + 7 + (i * 7 + j) by omega] at this
        rw [this]
        rfl
    · intro hl
      subst hl
      exact ⟨_, 0, rfl, Nat.le_refl _, by decide, .inl rfl⟩
theorem Toks.shape {w : World} {P : Nat → Prop} {v : Value} {l : List TA} (h : Toks w P v l) : ∃ a cap, v = .slice a l.length cap := by
  obtain ⟨a, cap, h1, _⟩ := h; rw [List.length_map] at h1; exact ⟨a, cap, h1⟩
end Go.Proofs.YtemacdimdpnkeaaGreatDoor
namespace Go.Proofs.YtemacdimdpnkeaaGreatDoor
set_option maxRecDepth 20000
open Go.RowKit
set_option linter.unusedVariables false
set_option linter.unusedSimpArgs false
structure Fr (r B : Nat) (w w' : World) : Prop where
  os : w'.os = w.os
  tape : w'.tape = w.tape
  output : w'.output = w.output
  size : w.heap.size ≤ w'.heap.size
  block : ∀ k, k < B → k ≠ r → w'.heap[k]? = w.heap[k]?
theorem Fr.refl (r B : Nat) (w : World) : Fr r B w w := ⟨rfl, rfl, rfl, Nat.le_refl _, fun _ _ _ => rfl⟩
theorem Fr.trans {r B : Nat} {a b c : World} (h : Fr r B a b) (k : Fr r B b c) : Fr r B a c :=
  ⟨k.os.trans h.os, k.tape.trans h.tape, k.output.trans h.output, Nat.le_trans h.size k.size, fun i hi hn => (k.block i hi hn).trans (h.block i hi hn)⟩
theorem Fr.mono {r B C : Nat} {a b : World} (h : Fr r B a b) (hc : C ≤ B) : Fr r C a b :=
  ⟨h.os, h.tape, h.output, h.size, fun i hi hn => h.block i (Nat.lt_of_lt_of_le hi hc) hn⟩
theorem Fr.of {r B : Nat} {a b : World} (h : Below B a b) : Fr r B a b := ⟨h.os, h.tape, h.output, h.size, fun i hi _ => h.block i hi⟩
theorem Fr.set {r B : Nat} (w : World) (i : Nat) (v : Value) : Fr r B w (w.setCell ⟨r, i, none⟩ v) :=
  ⟨rfl, rfl, rfl, by simp [World.setCell], fun k _ hk => Below.heap_setCell _ _ _ _ hk⟩
theorem Fr.alloc {r B : Nat} (w : World) (o : Obj) (hb : B ≤ w.heap.size) : Fr r B w (w.alloc o) := Fr.of ((Below.refl _ _).alloc hb _)
theorem Fr.cell {r B : Nat} {w w' : World} (h : Fr r B w w') {b : Nat} (i : Nat) (hb : b < B) (hn : b ≠ r) : w'.cell? ⟨b, i, none⟩ = w.cell? ⟨b, i, none⟩ := World.cell?_of_block (a := ⟨b, i, none⟩) (h.block b hb hn)
theorem Fr.froz {r B : Nat} {w w' : World} (h : Fr r B w w') {b : Nat} (i : Nat) (hb : b < B) (hn : b ≠ r) : w'.frozen? ⟨b, i, none⟩ = w.frozen? ⟨b, i, none⟩ := World.frozen?_of_block (a := ⟨b, i, none⟩) (h.block b hb hn)
theorem Toks.fr {r : Nat} {w w' : World} {v : Value} {l : List TA} (h : Toks w (· < r) v l) (hr : r ≤ w.heap.size) (hf : Fr r r w w') : Toks w' (· < r) v l :=
  SlW.keep (P := fun _ => (· < r)) (k := 0) ⟨hf.size, fun _ b hb _ => hf.block b hb (by omega)⟩ h
structure Rs (w : World) (r : Nat) (v : Value) (l : List TA) (o : Bool) : Prop where
  c0 : w.cell? ⟨r, 0, none⟩ = some v
  c1 : w.cell? ⟨r, 1, none⟩ = some (.bool o)
  f0 : w.frozen? ⟨r, 0, none⟩ = false
  f1 : w.frozen? ⟨r, 1, none⟩ = false
  ty : ∃ cs, w.heap[r]? = some (.cells cs 78)
  tk : Toks w (· < r) v l
theorem Rs.lt {w : World} {r : Nat} {v : Value} {l : List TA} {o : Bool} (h : Rs w r v l o) : r < w.heap.size := by
  obtain ⟨cs, hc⟩ := h.ty
  exact (Array.getElem?_eq_some_iff.1 hc).1
theorem Rs.below {w w' : World} {r : Nat} {v : Value} {l : List TA} {o : Bool} (h : Rs w r v l o) (hb : Below w.heap.size w w') : Rs w' r v l o := by
  have hl := h.lt
  have hk := hb.block r hl
  exact ⟨(World.cell?_of_block (a := ⟨r, 0, none⟩) hk).trans h.c0, (World.cell?_of_block (a := ⟨r, 1, none⟩) hk).trans h.c1, (World.frozen?_of_block (a := ⟨r, 0, none⟩) hk).trans h.f0, (World.frozen?_of_block (a := ⟨r, 1, none⟩) hk).trans h.f1, hk ▸ h.ty, h.tk.below hb⟩
theorem setCell_ty {w : World} {r i t : Nat} {v : Value} (h : ∃ cs, w.heap[r]? = some (.cells cs t)) : ∃ cs, (w.setCell ⟨r, i, none⟩ v).heap[r]? = some (.cells cs t) := by
  obtain ⟨cs, hc⟩ := h
  have hl := (Array.getElem?_eq_some_iff.1 hc).1
  refine ⟨cs.setIfInBounds i v, ?_⟩
  simp [World.setCell, Array.getElem?_modify, hc]
theorem Rs.set0 {w : World} {r : Nat} {v v' : Value} {l l' : List TA} {o : Bool} (h : Rs w r v l o) (hv : Toks w (· < r) v' l') : Rs (w.setCell ⟨r, 0, none⟩ v') r v' l' o := by
  have hl := h.lt
  have ht := setCell_ty (i := 0) (v := v') h.ty
  have hk : Toks (w.setCell ⟨r, 0, none⟩ v') (· < r) v' l' := hv.fr (by omega) (Fr.set _ _ _)
  obtain ⟨c0, c1, f0, f1, _, _⟩ := h
  refine ⟨?_, ?_, ?_, ?_, ht, hk⟩ <;> go_simp
theorem Rs.set1 {w : World} {r : Nat} {v : Value} {l : List TA} {o o' : Bool} (h : Rs w r v l o) : Rs (w.setCell ⟨r, 1, none⟩ (.bool o')) r v l o' := by
  have hl := h.lt
  have ht := setCell_ty (i := 1) (v := .bool o') h.ty
  have hk : Toks (w.setCell ⟨r, 1, none⟩ (.bool o')) (· < r) v l := h.tk.fr (by omega) (Fr.set _ _ _)
  obtain ⟨c0, c1, f0, f1, _, _⟩ := h
  refine ⟨?_, ?_, ?_, ?_, ht, hk⟩ <;> go_simp
end Go.Proofs.YtemacdimdpnkeaaGreatDoor
namespace Go.Proofs.YtemacdimdpnkeaaGreatDoor
set_option maxRecDepth 20000
open Go.RowKit
set_option linter.unusedVariables false
set_option linter.unusedSimpArgs false
def tyK : Nat → Nat
  | 1 => 9 | 2 => 36 | 3 => 42 | 4 => 38 | 5 => 130 | 6 => 39 | 7 => 46 | 8 => 95 | 9 => 100 | 10 => 61 | 11 => 51 | _ => 0
theorem tyK_ne {k K : Nat} (h : k < K) (hK : K < 12) : tyK k ≠ tyK K := by
  have : ∀ K, K < 12 → ∀ k, k < K → tyK k ≠ tyK K := by decide
  exact this K hK k h
def Blk (w : World) (base K k b : Nat) : Prop := k < K ∧ base ≤ b ∧ ∃ cs fz, w.heap[b]? = some (.cells cs (tyK k) fz)
theorem Blk.lt {w : World} {base K k b : Nat} (h : Blk w base K k b) : b < w.heap.size := by
  obtain ⟨_, _, cs, fz, hc⟩ := h
  exact (Array.getElem?_eq_some_iff.1 hc).1
section mono
variable {P Q : Nat → Nat → Prop}
theorem Row.imp {α : Type} {n : Nat} {R S : World → List Value → α → Prop} {w : World} {p q : Nat → Prop} {v : Value} {xs : List α} (hpq : ∀ b, p b → q b) (hR : ∀ cs x, R w cs x → S w cs x) (h : Row n R w p v xs) : Row n S w q v xs := by
  obtain ⟨css, h1, h2⟩ := h
  exact ⟨css, h1.mono hpq, h2.map hR⟩
theorem ReA.mono {w : World} {cs : List Value} {x : AttrD} (hpq : ∀ k b, P k b → Q k b) (h : ReA P w cs x) : ReA Q w cs x := by
  obtain ⟨v1, v2, h1, h2, h3⟩ := h
  exact ⟨v1, v2, h1, h2.mono (hpq 2), h3.mono (hpq 3)⟩
theorem ReC.mono {w : World} {cs : List Value} {x : CondD} (hpq : ∀ k b, P k b → Q k b) (h : ReC P w cs x) : ReC Q w cs x := by
  obtain ⟨v, h1, h2⟩ := h
  exact ⟨v, h1, h2.imp (hpq 7) fun _ _ => ReA.mono hpq⟩
theorem ReS.mono {w : World} {cs : List Value} {x : SetD} (hpq : ∀ k b, P k b → Q k b) (h : ReS P w cs x) : ReS Q w cs x := by
  obtain ⟨v, h1, h2⟩ := h
  exact ⟨v, h1, h2.mono (hpq 4)⟩
theorem ReE.mono {w : World} {cs : List Value} {x : List ItemD} (hpq : ∀ k b, P k b → Q k b) (h : ReE P w cs x) : ReE Q w cs x := by
  obtain ⟨v, h1, h2⟩ := h
  exact ⟨v, h1, h2.mono (hpq 4)⟩
theorem ReT.mono {w : World} {cs : List Value} {x : ActD} (hpq : ∀ k b, P k b → Q k b) (h : ReT P w cs x) : ReT Q w cs x := by
  obtain ⟨v1, v2, h1, h2, h3⟩ := h
  exact ⟨v1, v2, h1, h2.imp (hpq 5) (fun _ _ => ReS.mono hpq), h3.imp (hpq 6) fun _ _ => ReE.mono hpq⟩
theorem ReR.mono {w : World} {cs : List Value} {x : RuleD} (hpq : ∀ k b, P k b → Q k b) (h : ReR P w cs x) : ReR Q w cs x := by
  obtain ⟨v1, v2, h1, h2, h3⟩ := h
  exact ⟨v1, v2, h1, h2.imp (hpq 8) (fun _ _ => ReC.mono hpq), h3.imp (hpq 9) fun _ _ => ReT.mono hpq⟩
theorem ReK.mono {w : World} {cs : List Value} {x : ClassD} (hpq : ∀ k b, P k b → Q k b) (h : ReK P w cs x) : ReK Q w cs x := by
  obtain ⟨v, h1, h2⟩ := h
  exact ⟨v, h1, h2.mono (hpq 1)⟩
theorem ReP.mono {w : World} {cs : List Value} {x : ProgD} (hpq : ∀ k b, P k b → Q k b) (h : ReP P w cs x) : ReP Q w cs x := by
  obtain ⟨v1, v2, h1, h2, h3⟩ := h
  exact ⟨v1, v2, h1, h2.imp (hpq 10) (fun _ _ => ReK.mono hpq), h3.imp (hpq 11) fun _ _ => ReR.mono hpq⟩
end mono
structure Part {α : Type} (K n : Nat) (R : World → Nat → List Value → α → Prop) : Prop where
  keep : ∀ {w w' : World} {base : Nat} {cs : List Value} {x : α}, R w base cs x → w.heap.size ≤ w'.heap.size → (∀ k b, Blk w base K k b → w'.heap[b]? = w.heap[b]?) → R w' base cs x
  low : ∀ {w : World} {b b' : Nat} {cs : List Value} {x : α}, R w b cs x → b' ≤ b → R w b' cs x
  len : ∀ {w : World} {b : Nat} {cs : List Value} {x : α}, R w b cs x → cs.length = n
  one : ∀ {w : World} {b : Nat} {cs : List Value} {x : α}, R w b cs x → ∀ u ∈ cs, u.oneCell' = true
theorem blk_stays {w w' : World} {base K : Nat} (hs : w.heap.size ≤ w'.heap.size) (h : ∀ k b, Blk w base K k b → w'.heap[b]? = w.heap[b]?) : Stays (Blk w base K) w w' := ⟨hs, fun k b hb _ => h k b hb⟩
theorem blk_mono {w w' : World} {base K : Nat} (h : ∀ k b, Blk w base K k b → w'.heap[b]? = w.heap[b]?) : ∀ k b, Blk w base K k b → Blk w' base K k b := fun k b hb => ⟨hb.1, hb.2.1, by rw [h k b hb]; exact hb.2.2⟩
theorem blk_low {w : World} {K b0 b1 : Nat} (h : b1 ≤ b0) : ∀ k b, Blk w b0 K k b → Blk w b1 K k b := fun k b hb => ⟨hb.1, Nat.le_trans h hb.2.1, hb.2.2⟩
theorem blk_more {w : World} {K J b0 : Nat} (h : K ≤ J) : ∀ k b, Blk w b0 K k b → Blk w b0 J k b := fun k b hb => ⟨Nat.lt_of_lt_of_le hb.1 h, hb.2⟩
def RStr (w : World) (b : Nat) (cs : List Value) (x : Str) : Prop := cs = clS x
def RVal (w : World) (b : Nat) (cs : List Value) (x : VD) : Prop := cs = clV x
def RTest (w : World) (b : Nat) (cs : List Value) (x : TestD) : Prop := cs = clT x
def RItem (w : World) (b : Nat) (cs : List Value) (x : ItemD) : Prop := cs = clI x
def RSet (w : World) (b : Nat) (cs : List Value) (x : SetD × Nat) : Prop := ReS (Blk w b 5) w cs x.1
def RExpr (w : World) (b : Nat) (cs : List Value) (x : List ItemD × Nat) : Prop := ReE (Blk w b 6) w cs x.1
def RAttr (w : World) (b : Nat) (cs : List Value) (x : AttrD) : Prop := ReA (Blk w b 7) w cs x
def RCond (w : World) (b : Nat) (cs : List Value) (x : CondD) : Prop := ReC (Blk w b 8) w cs x
def RAct (w : World) (b : Nat) (cs : List Value) (x : ActD × Nat) : Prop := ReT (Blk w b 9) w cs x.1
def RClass (w : World) (b : Nat) (cs : List Value) (x : ClassD) : Prop := ReK (Blk w b 10) w cs x
theorem slW_one {n : Nat} {w : World} {Q : Nat → Prop} {v : Value} {css : List (List Value)} (h : SlW n w Q v css) : v.oneCell' = true := by
  obtain ⟨a, cap, rfl⟩ := h.shape; rfl
theorem row_one {α : Type} {n : Nat} {R : World → List Value → α → Prop} {w : World} {Q : Nat → Prop} {v : Value} {xs : List α} (h : Row n R w Q v xs) : v.oneCell' = true := by
  obtain ⟨css, h1, _⟩ := h; exact slW_one h1
theorem part_str : Part 1 1 RStr := ⟨fun h _ _ => h, fun h _ => h, fun h => by rw [h]; rfl, fun h u hu => by rw [h] at hu; simp [clS] at hu; rw [hu]; rfl⟩
theorem part_val : Part 2 3 RVal := ⟨fun h _ _ => h, fun h _ => h, fun h => by rw [h]; rfl, fun h u hu => by rw [h] at hu; simp [clV] at hu; rcases hu with rfl | rfl | rfl <;> rfl⟩
theorem part_test : Part 3 5 RTest := ⟨fun h _ _ => h, fun h _ => h, fun h => by rw [h]; rfl, fun h u hu => by rw [h] at hu; simp [clT] at hu; rcases hu with rfl | rfl | rfl | rfl | rfl <;> rfl⟩
theorem part_item : Part 4 5 RItem := ⟨fun h _ _ => h, fun h _ => h, fun h => by rw [h]; rfl, fun h u hu => by rw [h] at hu; simp [clI] at hu; rcases hu with rfl | rfl | rfl | rfl | rfl <;> rfl⟩
theorem part_set : Part 5 2 RSet := ⟨fun h hs hb => (ReS.keep (blk_stays hs hb) h).mono (blk_mono hb), fun h hl => h.mono (blk_low hl), fun h => by obtain ⟨v, rfl, _⟩ := h; rfl, fun h u hu => by
  obtain ⟨v, rfl, h2⟩ := h
  simp at hu
  rcases hu with rfl | rfl
  · rfl
  · exact slW_one h2⟩
theorem part_expr : Part 6 1 RExpr := ⟨fun h hs hb => (ReE.keep (blk_stays hs hb) h).mono (blk_mono hb), fun h hl => h.mono (blk_low hl), fun h => by obtain ⟨v, rfl, _⟩ := h; rfl, fun h u hu => by
  obtain ⟨v, rfl, h2⟩ := h
  simp at hu
  rw [hu]; exact slW_one h2⟩
theorem part_attr : Part 7 3 RAttr := ⟨fun h hs hb => (ReA.keep (blk_stays hs hb) h).mono (blk_mono hb), fun h hl => h.mono (blk_low hl), fun h => by obtain ⟨v1, v2, rfl, _⟩ := h; rfl, fun h u hu => by
  obtain ⟨v1, v2, rfl, h2, h3⟩ := h
  simp at hu
  rcases hu with rfl | rfl | rfl
  · rfl
  · exact slW_one h2
  · exact slW_one h3⟩
theorem part_cond : Part 8 3 RCond := ⟨fun h hs hb => (ReC.keep (blk_stays hs hb) h).mono (blk_mono hb), fun h hl => h.mono (blk_low hl), fun h => by obtain ⟨v, rfl, _⟩ := h; rfl, fun h u hu => by
  obtain ⟨v, rfl, h2⟩ := h
  simp at hu
  rcases hu with rfl | rfl | rfl
  · rfl
  · rfl
  · exact row_one h2⟩
theorem part_act : Part 9 6 RAct := ⟨fun h hs hb => (ReT.keep (blk_stays hs hb) h).mono (blk_mono hb), fun h hl => h.mono (blk_low hl), fun h => by obtain ⟨v1, v2, h1, _⟩ := h; rw [h1]; rfl, fun h u hu => by
  obtain ⟨v1, v2, h1, h2, h3⟩ := h
  rw [h1] at hu
  simp at hu
  rcases hu with rfl | rfl | rfl | rfl | rfl | rfl
  · rfl
  · rfl
  · rfl
  · rfl
  · exact row_one h2
  · exact row_one h3⟩
theorem part_class : Part 10 2 RClass := ⟨fun h hs hb => (ReK.keep (blk_stays hs hb) h).mono (blk_mono hb), fun h hl => h.mono (blk_low hl), fun h => by obtain ⟨v, rfl, _⟩ := h; rfl, fun h u hu => by
  obtain ⟨v, rfl, h2⟩ := h
  simp at hu
  rcases hu with rfl | rfl
  · rfl
  · exact slW_one h2⟩
theorem flat_get {n : Nat} : ∀ {css : List (List Value)}, (∀ c ∈ css, c.length = n) → ∀ i j, i < css.length → j < n → css.flatten[i * n + j]? = (css.getD i [])[j]?
  | [], _, i, j, hi, _ => by simp at hi
  | c :: css, h, 0, j, _, hj => by
    rw [List.flatten_cons, Nat.zero_mul, Nat.zero_add, List.getElem?_append_left (by rw [h c (List.mem_cons_self ..)]; exact hj)]; rfl
  | c :: css, h, i + 1, j, hi, hj => by
    have hc := h c (List.mem_cons_self ..)
    rw [List.flatten_cons, List.getElem?_append_right (by rw [hc, Nat.add_mul]; omega), hc, show (i + 1) * n + j - n = i * n + j by rw [Nat.add_mul]; omega]
    exact flat_get (fun d hd => h d (List.mem_cons_of_mem _ hd)) i j (by simpa using hi) hj
def OwnG (K n : Nat) (w : World) (base : Nat) (v : Value) (css : List (List Value)) : Prop := (∀ c ∈ css, c.length = n) ∧ w.ownsRow base (tyK K) n v css.length css.flatten
theorem OwnG.nil (K n : Nat) (w : World) (base : Nat) : OwnG K n w base (.slice none 0 0) [] := ⟨by simp, World.ownsRow_nil w base _ n⟩
theorem OwnG.shape {K n : Nat} {w : World} {base : Nat} {v : Value} {css : List (List Value)} (h : OwnG K n w base v css) : ∃ a cap, v = .slice a css.length cap := by
  rcases h.2.2 with ⟨rfl, h0⟩ | ⟨g, cap, cur, rfl, _⟩
  · exact ⟨none, 0, by rw [h0]⟩
  · exact ⟨_, cap, rfl⟩
theorem OwnG.move {K n : Nat} {w w' : World} {base : Nat} {v : Value} {css : List (List Value)} (h : OwnG K n w base v css) (hb : ∀ g, base ≤ g → g < w.heap.size → w'.heap[g]? = w.heap[g]?) : OwnG K n w' base v css := by
  refine ⟨h.1, h.2.1, ?_⟩
  rcases h.2.2 with hn | ⟨g, cap, cur, rfl, hbb, hg, rest⟩
  · exact .inl hn
  · exact .inr ⟨g, cap, cur, rfl, hbb, (hb g hbb (Array.getElem?_eq_some_iff.1 hg).1).trans hg, rest⟩
theorem OwnG.fr {K n r : Nat} {w w' : World} {base : Nat} {v : Value} {css : List (List Value)} (h : OwnG K n w base v css) (hr : r < base) (hf : Fr r w.heap.size w w') : OwnG K n w' base v css := h.move fun g h1 h2 => hf.block g h2 (by omega)
theorem OwnG.below {K n : Nat} {w w' : World} {base : Nat} {v : Value} {css : List (List Value)} (h : OwnG K n w base v css) (hf : Below w.heap.size w w') : OwnG K n w' base v css := h.move fun g h1 h2 => hf.block g h2
theorem OwnG.sl {K n : Nat} {w : World} {base : Nat} {v : Value} {css : List (List Value)} (h : OwnG K n w base v css) : SlW n w (fun b => base ≤ b ∧ ∃ cs fz, w.heap[b]? = some (.cells cs (tyK K) fz)) v css := by
  have h' := h.2
  rcases h.2.2 with ⟨rfl, h0⟩ | ⟨g, cap, cur, rfl, hb, hg, hc, hm, hs, ht⟩
  · have : css = [] := List.eq_nil_of_length_eq_zero h0
    subst this
    exact ⟨none, 0, rfl, Nat.le_refl _, by decide, .inl rfl⟩
  · refine ⟨_, cap, rfl, hc, by unfold maxLen at hm; omega, .inr ⟨g, 0, rfl, (Array.getElem?_eq_some_iff.1 hg).1, ⟨hb, cur, _, hg⟩, fun i j hi hj => ?_⟩⟩
    rw [Nat.zero_add]
    have : i * n + j < css.length * n := Nat.lt_of_lt_of_le (Nat.add_lt_add_left hj _) (by rw [← Nat.succ_mul]; exact Nat.mul_le_mul_right n hi)
    exact (World.ownsRow.cellAt (g := g) h' (i * n + j) this).trans (flat_get h.1 i j hi hj)
theorem wp_app_g {sl : TypeId} {K n bytes : Nat} {z : Value} (hsl : Tryz.prog.underlying sl = some (.slice (tyK K))) (hinfo : (Tryz.prog.info? (tyK K)).map (fun i => (i.zero, i.size, i.bytes)) = some (some z, n, bytes)) (hzs : z.cells.size = n) (hn : 0 < n) (hby : bytes ≤ 96) {ops : Array Oper} {rest : List Oper} {o : Oper} {a : Act} {Q : Exit → Act → World → Prop} {w : World} (hgd : o.guard = none) (s x : Operand)
    (ho : o.op = .call { callee := .builtin .append, args := #[s, x], argTypes := #[sl, sl] }) (base : Nat) (v : Value) (css : List (List Value)) (c : List Value) (hs : a.eval s = v) (hown : OwnG K n w base v css)
    (ad : Addr) (cap : Nat) (hx : a.eval x = .slice (some ad) 1 cap) (hcl : c.length = n) (hv : ∀ j u, c[j]? = some u → w.cell? (ad.add j) = some u) (hone : ∀ u ∈ c, u.oneCell' = true) (hlen : css.length ≤ 1000000) (hbase : base ≤ w.heap.size)
    (h : ∀ v' w', OwnG K n w' base v' (css ++ [c]) → w.grownBy w' v.ownBlock → Below base w w' → wpList Tryz.prog ops Q rest (a.put o.dst v') w') : wpList Tryz.prog ops Q (o :: rest) a w := by
  obtain ⟨i0, hi, hz0, hz1, hz2⟩ := info_parts hinfo
  refine wpList_append_own w hgd s x sl ho base (tyK K) i0 z n bytes hsl hi hz0 hz1 hz2 hzs hn v css.length css.flatten hs hown.2 ad 1 cap c hx (by rw [hcl, Nat.one_mul]) hv hone (by unfold maxLen; omega) (Nat.le_trans (Nat.mul_le_mul_left _ hby) (by omega)) hbase ?_
  intro v' w' h1 h2 _
  have ho' : OwnG K n w' base v' (css ++ [c]) := by
    refine ⟨fun d hd => ?_, ?_⟩
    · rcases List.mem_append.1 hd with hd | hd
      · exact hown.1 d hd
      · rw [List.mem_singleton.1 hd]; exact hcl
    · rw [List.length_append, List.flatten_append]
      simpa using h1
  exact h v' w' ho' h2 ((Below.refl base w).grown h2 hbase (fun k hk => (World.ownsRow.lt hown.2 k hk).1))
theorem blk_grown {K n base : Nat} {w w' : World} {v : Value} {css : List (List Value)} (hK : K < 12) (hown : OwnG K n w base v css) (hg : w.grownBy w' v.ownBlock) : ∀ k b, Blk w base K k b → w'.heap[b]? = w.heap[b]? := by
  intro k b hb
  refine hg.block b hb.lt ?_
  rcases hown.2.2 with ⟨rfl, _⟩ | ⟨g, cap, cur, rfl, hbb, hg, _⟩
  · simp [Value.ownBlock]
  · intro e
    have e' : g = b := (by simpa [Value.ownBlock] using e : b = g).symm
    subst e'
    obtain ⟨h1, _, cs, fz, h2⟩ := hb
    rw [hg] at h2
    have := Obj.cells.inj (Option.some.inj h2)
    exact tyK_ne h1 hK this.2.1.symm
theorem blk_fr {K base r : Nat} {w w' : World} (hr : r < base) (hf : Fr r w.heap.size w w') : ∀ k b, Blk w base K k b → w'.heap[b]? = w.heap[b]? := fun k b hb => hf.block b hb.lt (by have := hb.2.1; omega)
theorem blk_below {K base : Nat} {w w' : World} (hf : Below w.heap.size w w') : ∀ k b, Blk w base K k b → w'.heap[b]? = w.heap[b]? := fun k b hb => hf.block b hb.lt
theorem Part.all {α : Type} {K n : Nat} {R : World → Nat → List Value → α → Prop} (hp : Part K n R) {w w' : World} {base : Nat} {css : List (List Value)} {xs : List α} (h : All2 (R w base) css xs) (hs : w.heap.size ≤ w'.heap.size) (hb : ∀ k b, Blk w base K k b → w'.heap[b]? = w.heap[b]?) : All2 (R w' base) css xs := h.map fun _ _ hr => hp.keep hr hs hb
def RowP {α : Type} (K n : Nat) (R : World → Nat → List Value → α → Prop) (w : World) (base : Nat) (v : Value) (xs : List α) : Prop :=
  ∃ css, SlW n w (fun b => base ≤ b ∧ ∃ cs fz, w.heap[b]? = some (.cells cs (tyK K) fz)) v css ∧ All2 (R w base) css xs
theorem RowP.shape {α : Type} {K n : Nat} {R : World → Nat → List Value → α → Prop} {w : World} {base : Nat} {v : Value} {xs : List α} (h : RowP K n R w base v xs) : ∃ a cap, v = .slice a xs.length cap := by
  obtain ⟨css, h1, h2⟩ := h
  obtain ⟨a, cap, e⟩ := h1.shape
  exact ⟨a, cap, by rw [e, h2.len]⟩
theorem RowP.keep {α : Type} {K n : Nat} {R : World → Nat → List Value → α → Prop} (hp : Part K n R) {w w' : World} {base : Nat} {v : Value} {xs : List α} (h : RowP K n R w base v xs) (hs : w.heap.size ≤ w'.heap.size) (hb : ∀ k b, Blk w base (K + 1) k b → w'.heap[b]? = w.heap[b]?) : RowP K n R w' base v xs := by
  obtain ⟨css, h1, h2⟩ := h
  refine ⟨css, ?_, hp.all h2 hs fun k b hbk => hb k b (blk_more (Nat.le_succ _) k b hbk)⟩
  have h3 := SlW.keep (P := fun k b => base ≤ b ∧ ∃ cs fz, w.heap[b]? = some (.cells cs (tyK K) fz)) (k := K) (w' := w') ⟨hs, fun _ b hbk _ => hb K b ⟨Nat.lt_succ_self _, hbk.1, hbk.2⟩⟩ h1
  exact h3.mono fun b hbk => ⟨hbk.1, by rw [hb K b ⟨Nat.lt_succ_self _, hbk.1, hbk.2⟩]; exact hbk.2⟩
def flt (n : Int) : Ending := .panicked [{ v := .iface 74 (.int .i64 n), recovered := false }]
def Ans {α : Type} (R : World → Nat → Value → α → Prop) (f : Rdr α) (ov : α → Bool) (r : Nat) (w : World) (l : List TA) (o : Bool) (e : Ending) (w' : World) : Prop :=
  Fr r w.heap.size w w' ∧
  ((∃ x rest val v', f (l.map Prod.fst) = some (x, rest.map Prod.fst) ∧ rest.length ≤ l.length ∧ e = .returned val ∧ R w' w.heap.size val x ∧ Rs w' r v' rest (o || ov x)) ∨
   (f (l.map Prod.fst) = none ∧ e = flt 17))
theorem Ans.use {α : Type} {R : World → Nat → Value → α → Prop} {f : Rdr α} {ov : α → Bool} {r : Nat} {w : World} {l : List TA} {o : Bool} {k : FuncId} {args : Array Value} {Q : Ending → World → Prop}
    (C : Calls Tryz.prog k args w (Ans R f ov r w l o)) (hp : ∀ w', Fr r w.heap.size w w' → f (l.map Prod.fst) = none → Q (flt 17) w')
    (hr : ∀ x rest val v' w', Fr r w.heap.size w w' → f (l.map Prod.fst) = some (x, rest.map Prod.fst) → rest.length ≤ l.length → R w' w.heap.size val x → Rs w' r v' rest (o || ov x) → Q (.returned val) w') : Calls Tryz.prog k args w Q := by
  refine C.mono ?_
  rintro e w' ⟨hf, ⟨x, rest, val, v', h1, h2, rfl, h3, h4⟩ | ⟨h1, rfl⟩⟩
  · exact hr x rest val v' w' hf h1 h2 h3 h4
  · exact hp w' hf h1
theorem Ans.no {α : Type} {R : World → Nat → Value → α → Prop} {f : Rdr α} {ov : α → Bool} {r : Nat} {w w' : World} {l : List TA} {o : Bool} (hf : Fr r w.heap.size w w') (h : f (l.map Prod.fst) = none) : Ans R f ov r w l o (flt 17) w' := ⟨hf, .inr ⟨h, rfl⟩⟩
theorem Ans.yes {α : Type} {R : World → Nat → Value → α → Prop} {f : Rdr α} {ov : α → Bool} {r : Nat} {w w' : World} {l : List TA} {o o' : Bool} {x : α} {rest : List TA} {val v' : Value} (hf : Fr r w.heap.size w w') (h : f (l.map Prod.fst) = some (x, rest.map Prod.fst)) (hl : rest.length ≤ l.length) (hR : R w' w.heap.size val x) (hs : Rs w' r v' rest o') (ho : o' = (o || ov x)) : Ans R f ov r w l o (.returned val) w' := ⟨hf, .inl ⟨x, rest, val, v', h, hl, rfl, hR, ho ▸ hs⟩⟩
theorem Rs.move {w w' : World} {r : Nat} {v : Value} {l : List TA} {o : Bool} (h : Rs w r v l o) (hs : w.heap.size ≤ w'.heap.size) (hb : ∀ k, k ≤ r → w'.heap[k]? = w.heap[k]?) : Rs w' r v l o := by
  have hk := hb r (Nat.le_refl _)
  refine ⟨(World.cell?_of_block (a := ⟨r, 0, none⟩) hk).trans h.c0, (World.cell?_of_block (a := ⟨r, 1, none⟩) hk).trans h.c1, (World.frozen?_of_block (a := ⟨r, 0, none⟩) hk).trans h.f0, (World.frozen?_of_block (a := ⟨r, 1, none⟩) hk).trans h.f1, hk ▸ h.ty, ?_⟩
  exact SlW.keep (P := fun _ => (· < r)) (k := 0) ⟨hs, fun _ b hb' _ => hb b (Nat.le_of_lt hb')⟩ h.tk
theorem Rs.bel {w w' : World} {r B : Nat} {v : Value} {l : List TA} {o : Bool} (h : Rs w r v l o) (hr : r < B) (hb : Below B w w') : Rs w' r v l o := h.move hb.size fun k hk => hb.block k (by omega)
def RTok (w : World) (b : Nat) (val : Value) (t : Tk) : Prop := ∃ p : Nat, val = .agg #[.int .u8 t.k, .string (st t.nm), .int .u8 t.p, .int .u8 t.vk, .int .i64 t.vn, .string (st t.vs), .int .i64 p]
def RAgg {α : Type} (R : World → Nat → List Value → α → Prop) (w : World) (b : Nat) (val : Value) (x : α) : Prop := ∃ cs, val = .agg cs.toArray ∧ R w b cs x
def no1 {α : Type} (_ : α) : Bool := false
end Go.Proofs.YtemacdimdpnkeaaGreatDoor
namespace Go.Proofs.YtemacdimdpnkeaaGreatDoor
set_option maxRecDepth 20000
open Go.RowKit
set_option linter.unusedVariables false
set_option linter.unusedSimpArgs false
abbrev pR (r : Nat) : Value := .pointer (some ⟨r, 0, none⟩)
theorem rnext_any (r : Nat) (k : Int) (l : List TA) (v : Value) (o : Bool) (w : World) (h : Rs w r v l o) :
    Calls Tryz.prog 83 #[pR r, .int .u8 k] w fun e w' => e = .returned (.bool (isK k (l.map Prod.fst))) ∧ w' = w := by
  obtain ⟨A, hA⟩ : ∃ A, A = isK k (l.map Prod.fst) := ⟨_, rfl⟩
  rw [← hA]
  have c0 := h.c0
  cases l with
  | nil =>
    have HA : Hid (A = false) := hA
    clear hA
    obtain ⟨a, cap, rfl⟩ := h.tk.shape
    clear h
    go_enter Tryz.func83, Tryz.ntmps83
    go_wp2
    go_ret
    exact ⟨ret_bool HA.out.symm, rfl⟩
  | cons x l =>
    obtain ⟨b, off, cap, rfl, h2, h3, hb, hc, -, -⟩ := h.tk.open
    have q0 : w.cell? ⟨b, off, none⟩ = some (.int .u8 x.1.k) := hc 0 (by decide)
    have hlz : (0 : Int) < (l.length : Int) + 1 := by omega
    by_cases hk : x.1.k = k
    · have HA : Hid (A = true) := by show _ = _; rw [hA]; simp [isK, hk]
      have hk' : (x.1.k == k) = true := by rw [hk]; simp
      clear hA hc hk h
      go_enter Tryz.func83, Tryz.ntmps83
      go_wp2
      all_goals first | (go_ret; exact ⟨ret_bool HA.out.symm, rfl⟩) | (exfalso; simp_all)
    · have HA : Hid (A = false) := by show _ = _; rw [hA]; simp [isK, hk]
      have hk' : (x.1.k == k) = false := by rw [beq_eq_false_iff_ne]; exact hk
      clear hA hc hk h
      go_enter Tryz.func83, Tryz.ntmps83
      go_wp2
      all_goals first | (go_ret; exact ⟨ret_bool HA.out.symm, rfl⟩) | (exfalso; simp_all)
theorem take_no (r : Nat) (k : Int) (l : List TA) (v : Value) (o : Bool) (w : World) (h : Rs w r v l o) (hk : isK k (l.map Prod.fst) = false) :
    Calls Tryz.prog 58 #[pR r, .int .u8 k] w fun e w' => e = flt 17 ∧ Below w.heap.size w w' := by
  have CN := fun W hW => rnext_any r k l v o W (h.below hW)
  rw [hk] at CN
  clear h hk
  unfold flt
  go_enter Tryz.func58, Tryz.ntmps58
  go_wp2_with (go_at_call 83; refine (CN _ (bxn _ _)).mono ?_; rintro e w1 ⟨rfl, rfl⟩; clear CN)
  exact ⟨rfl, rfl, bxn _ _⟩
theorem rs2 {w : World} {r : Nat} {v : Value} {l : List TA} {o : Bool} (h : Rs w r v l o) (a b : Obj) : Rs ((w.alloc a).alloc b) r v l o := (h.below (bxn _ _)).below (bxn _ _)
theorem set_size (w : World) (p : Addr) (v : Value) : (w.setCell p v).heap.size = w.heap.size := by simp [World.setCell]
theorem fr2 (w : World) (r : Nat) (v : Value) (a b : Obj) : Fr r w.heap.size w (((w.setCell ⟨r, 0, none⟩ v).alloc a).alloc b) := by
  refine ((Fr.set w 0 v).trans (Fr.alloc _ _ (by rw [set_size]; exact Nat.le_refl _))).trans (Fr.alloc _ _ ?_)
  have := (bxn (w.setCell ⟨r, 0, none⟩ v) a).size
  rw [set_size] at this
  exact this
set_option maxHeartbeats 1000000 in
theorem take_yes (r : Nat) (x : TA) (l : List TA) (v : Value) (o : Bool) (w : World) (h : Rs w r v (x :: l) o) :
    Calls Tryz.prog 58 #[pR r, .int .u8 x.1.k] w fun e w' => e = .returned (tkA x) ∧ (∃ v', Rs w' r v' l o) ∧ Fr r w.heap.size w w' := by
  have CN := fun W hW => rnext_any r x.1.k (x :: l) v o W (h.below hW)
  rw [show isK x.1.k ((x :: l).map Prod.fst) = true by simp [isK]] at CN
  obtain ⟨b, off, cap, rfl, h2, h3, hb, hcx, ht1, ht2⟩ := h.tk.open
  have k0 : w.cell? ⟨b, off, none⟩ = some (.int .u8 x.1.k) := hcx 0 (by decide)
  have k1 : w.cell? ⟨b, off + 1, none⟩ = some (.string (st x.1.nm)) := hcx 1 (by decide)
  have k2 : w.cell? ⟨b, off + 2, none⟩ = some (.int .u8 x.1.p) := hcx 2 (by decide)
  have k3 : w.cell? ⟨b, off + 3, none⟩ = some (.int .u8 x.1.vk) := hcx 3 (by decide)
  have k4 : w.cell? ⟨b, off + 4, none⟩ = some (.int .i64 x.1.vn) := hcx 4 (by decide)
  have k5 : w.cell? ⟨b, off + 5, none⟩ = some (.string (st x.1.vs)) := hcx 5 (by decide)
  have k6 : w.cell? ⟨b, off + 6, none⟩ = some (.int .i64 x.2) := hcx 6 (by decide)
  have hlz : (0 : Int) < (l.length : Int) + 1 := by omega
  have hlz2 : (1 : Int) ≤ (l.length : Int) + 1 := by omega
  have c0 := h.c0
  have f0 := h.f0
  have hr := h.lt
  have HS : Hid (Rs w r (.slice (some ⟨b, off, none⟩) (l.length + 1) cap) (x :: l) o) := h
  clear hcx h
  by_cases hcap : cap = 1
  · subst hcap
    obtain rfl : l = [] := List.length_eq_zero_iff.1 (by omega)
    have ht2' := ht2 rfl
    clear ht1 ht2
    go_enter Tryz.func58, Tryz.ntmps58
    go_wp2_with (go_at_call 83; refine (CN _ (bxn _ _)).mono ?_; rintro e w1 ⟨rfl, rfl⟩; clear CN)
    refine bodyPost_ret (v := tkA x) (by simp [results, Tryz.results58, go_sem, tkA] <;> rfl) rfl ⟨rfl, ⟨_, rs2 (HS.out.set0 ht2') _ _⟩, fr2 w r _ _ _⟩
  · clear ht2
    go_enter Tryz.func58, Tryz.ntmps58
    go_wp2_with (go_at_call 83; refine (CN _ (bxn _ _)).mono ?_; rintro e w1 ⟨rfl, rfl⟩; clear CN)
    refine bodyPost_ret (v := tkA x) (by simp [results, Tryz.results58, go_sem, tkA] <;> rfl) rfl ⟨rfl, ⟨_, rs2 (HS.out.set0 ht1) _ _⟩, fr2 w r _ _ _⟩
theorem take_ans (r : Nat) (k : Int) (l : List TA) (v : Value) (o : Bool) (w : World) (h : Rs w r v l o) :
    Calls Tryz.prog 58 #[pR r, .int .u8 k] w (Ans RTok (nxt k) no1 r w l o) := by
  cases hk : isK k (l.map Prod.fst) with
  | false =>
    refine (take_no r k l v o w h hk).mono ?_
    rintro e w' ⟨rfl, hb⟩
    exact Ans.no (Fr.of hb) (nxt_isK hk)
  | true =>
    obtain ⟨t, m, e1, rfl, e2⟩ := nxt_yes hk
    cases l with
    | nil => cases e1
    | cons x l =>
      obtain ⟨rfl, rfl⟩ := List.cons.inj e1
      refine (take_yes r x l v o w h).mono ?_
      rintro e w' ⟨rfl, ⟨v', h1⟩, h2⟩
      exact Ans.yes h2 e2 (Nat.le_succ _) ⟨x.2, rfl⟩ h1 (by simp [no1])
end Go.Proofs.YtemacdimdpnkeaaGreatDoor
namespace Go.Proofs.YtemacdimdpnkeaaGreatDoor
set_option maxRecDepth 20000
open Go.RowKit
set_option linter.unusedVariables false
set_option linter.unusedSimpArgs false
theorem ft {r : Nat} {w w1 w2 : World} (h : Fr r w.heap.size w w1) (k : Fr r w1.heap.size w1 w2) : Fr r w.heap.size w w2 := h.trans (k.mono h.size)
theorem fb {r : Nat} {w w1 w2 : World} (h : Below w.heap.size w w1) (k : Fr r w1.heap.size w1 w2) : Fr r w.heap.size w w2 := ft (Fr.of h) k
theorem fo {r : Nat} {w w1 w2 : World} (h : Fr r w.heap.size w w1) (k : Below w1.heap.size w1 w2) : Fr r w.heap.size w w2 := ft h (Fr.of k)
theorem pass_no (r : Nat) (k : Int) (l : List TA) (v : Value) (o : Bool) (w : World) (h : Rs w r v l o) (hk : isK k (l.map Prod.fst) = false) :
    Calls Tryz.prog 102 #[pR r, .int .u8 k] w fun e w' => e = .returned (.bool false) ∧ w' = w := by
  have CN := rnext_any r k l v o w h
  rw [hk] at CN
  clear h hk
  go_enter Tryz.func102, Tryz.ntmps102
  go_wp2_with (go_at_call 83; refine CN.mono ?_; rintro e w1 ⟨rfl, hw⟩; obtain rfl := hw.symm; clear CN)
  go_ret
  exact ⟨rfl, rfl⟩
theorem pass_yes (r : Nat) (x : TA) (l : List TA) (v : Value) (o : Bool) (w : World) (h : Rs w r v (x :: l) o) :
    Calls Tryz.prog 102 #[pR r, .int .u8 x.1.k] w fun e w' => e = .returned (.bool true) ∧ (∃ v', Rs w' r v' l o) ∧ Fr r w.heap.size w w' := by
  have CN := rnext_any r x.1.k (x :: l) v o w h
  rw [show isK x.1.k ((x :: l).map Prod.fst) = true by simp [isK]] at CN
  have CT := take_yes r x l v o w h
  clear h
  unfold tkA at CT
  go_enter Tryz.func102, Tryz.ntmps102
  go_wp2_with (first | (go_at_call 83; refine CN.mono ?_; rintro e w1 ⟨rfl, hw⟩; obtain rfl := hw.symm; clear CN) | (go_at_call 58; refine CT.mono ?_; rintro e w2 ⟨rfl, hS, hF⟩; clear CT))
  go_ret
  exact ⟨rfl, hS, hF⟩
theorem isK_cons {k : Int} {l : List TA} (h : isK k (l.map Prod.fst) = true) : ∃ x m, l = x :: m ∧ x.1.k = k := by
  cases l with
  | nil => cases h
  | cons x m => exact ⟨x, m, rfl, by simpa [isK] using h⟩
theorem fr_box {r : Nat} {W w1 : World} (h : Fr r W.heap.size W w1) : (∀ b o, b < W.heap.size → b ≠ r → w1.cell? ⟨b, o, none⟩ = W.cell? ⟨b, o, none⟩) ∧ (∀ b o, b < W.heap.size → b ≠ r → w1.frozen? ⟨b, o, none⟩ = W.frozen? ⟨b, o, none⟩) :=
  ⟨fun b o hb hn => h.cell o hb hn, fun b o hb hn => h.froz o hb hn⟩
structure Bx (C : Nat → Prop) (w w' : World) : Prop where
  os : w'.os = w.os
  tape : w'.tape = w.tape
  output : w'.output = w.output
  size : w.heap.size ≤ w'.heap.size
  block : ∀ k, k < w.heap.size → ¬ C k → w'.heap[k]? = w.heap[k]?
theorem Bx.refl (C : Nat → Prop) (w : World) : Bx C w w := ⟨rfl, rfl, rfl, Nat.le_refl _, fun _ _ _ => rfl⟩
theorem Bx.setCell {C : Nat → Prop} {w w' : World} (h : Bx C w w') {b i : Nat} (hb : C b) (v : Value) : Bx C w (w'.setCell ⟨b, i, none⟩ v) :=
  ⟨h.os, h.tape, h.output, by rw [set_size]; exact h.size, fun k hk hn => (Below.heap_setCell _ _ _ _ (fun e => hn (by show C k; have e' : k = b := e; rw [e']; exact hb))).trans (h.block k hk hn)⟩
theorem Bx.alloc {C : Nat → Prop} {w w' : World} (h : Bx C w w') (o : Obj) : Bx C w (w'.alloc o) :=
  ⟨h.os, h.tape, h.output, by have := h.size; simp; omega, fun k hk hn => (@heap_alloc_old _ _ _ (Nat.lt_of_lt_of_le hk h.size)).trans (h.block k hk hn)⟩
def Bt (B T : Nat) (k : Nat) : Prop := B ≤ k ∧ k < T
theorem bt_of {B T k : Nat} (h1 : B ≤ k) (h2 : k < T) : Bt B T k := ⟨h1, h2⟩
theorem Bx.fr {r B T : Nat} {w w' : World} (h : Bx (Bt B T) w w') (hB : B ≤ w.heap.size) : Fr r B w w' := ⟨h.os, h.tape, h.output, h.size, fun k hk _ => h.block k (by omega) (fun hc => by have := hc.1; omega)⟩
theorem Rs.bx {r B T : Nat} {w w' : World} {v : Value} {l : List TA} {o : Bool} (h : Rs w r v l o) (hr : r < B) (hb : Bx (Bt B T) w w') : Rs w' r v l o := h.move hb.size fun k hk => hb.block k (by have := h.lt; omega) (fun hc => by have := hc.1; omega)
theorem RowP.bx {α : Type} {K n : Nat} {R : World → Nat → List Value → α → Prop} (hp : Part K n R) {w w' : World} {B T base : Nat} {v : Value} {xs : List α} (h : RowP K n R w base v xs) (hb : Bx (Bt B T) w w') (hT : T ≤ base) : RowP K n R w' base v xs :=
  h.keep hp hb.size fun k b hk => hb.block b hk.lt (fun hc => by have h1 := hc.2; have h2 := hk.2.1; omega)
theorem RowP.fr {α : Type} {K n : Nat} {R : World → Nat → List Value → α → Prop} (hp : Part K n R) {w w' : World} {r base : Nat} {v : Value} {xs : List α} (h : RowP K n R w base v xs) (hr : r < base) (hf : Fr r w.heap.size w w') : RowP K n R w' base v xs :=
  h.keep hp hf.size (blk_fr hr hf)
theorem field43 (a b c d e f g : Value) (w : World) : Sem.run Tryz.prog (Instr.field 71 (.agg #[a, b, c, d, e, f, g]) 3) w = .ok (.agg #[d, e, f]) w := by kernel_rfl
theorem field43a (a b c d e f g : Value) (w : World) : Sem.run Tryz.prog (Instr.field 71 (.agg #[a, b, c, d, e, f, g]) 1) w = .ok b w := by kernel_rfl
theorem field43b (a b c d e f g : Value) (w : World) : Sem.run Tryz.prog (Instr.field 71 (.agg #[a, b, c, d, e, f, g]) 2) w = .ok c w := by kernel_rfl
theorem field41a (a b c : Value) (w : World) : Sem.run Tryz.prog (Instr.field 36 (.agg #[a, b, c]) 1) w = .ok b w := by kernel_rfl
theorem field41b (a b c : Value) (w : World) : Sem.run Tryz.prog (Instr.field 36 (.agg #[a, b, c]) 2) w = .ok c w := by kernel_rfl
theorem fin_w {r B T : Nat} {w w1 W : World} (hr : r < B) (hF : Fr r B w w1) (hB : B ≤ w.heap.size) (hX : Bx (Bt B T) w1 W) : Fr r B w W := hF.trans (hX.fr (Nat.le_trans hB hF.size))
theorem fin_ans {α : Type} {R : World → Nat → Value → α → Prop} {f : Rdr α} {ov : α → Bool} {r T : Nat} {w w1 W : World} {l : List TA} {o o' : Bool} {x : α} {rest : List TA} {val v' : Value} (hr : r < w.heap.size) (hF : Fr r w.heap.size w w1) (hX : Bx (Bt w.heap.size T) w1 W) (h : f (l.map Prod.fst) = some (x, rest.map Prod.fst)) (hl : rest.length ≤ l.length) (hR : Bx (Bt w.heap.size T) w1 W → R W w.heap.size val x) (hs : Rs w1 r v' rest o') (ho : o' = (o || ov x)) : Ans R f ov r w l o (.returned val) W :=
  Ans.yes (fin_w hr hF (Nat.le_refl _) hX) h hl (hR hX) (hs.bx hr hX) ho
set_option maxHeartbeats 1000000 in
theorem val_ans (r : Nat) (l : List TA) (v : Value) (o : Bool) (w : World) (h : Rs w r v l o) :
    Calls Tryz.prog 99 #[pR r] w (Ans (RAgg RVal) valR no1 r w l o) := by
  have CT := fun W hW => take_ans r 11 l v o W (h.below hW)
  have hr := h.lt
  have F43 := field43
  clear h
  go_enter Tryz.func99, Tryz.ntmps99
  go_wp2_with (go_at_call 58; refine Ans.use (CT _ (bxn _ _)) (fun w' hf hn => ⟨rfl, Ans.no (fb (bxn _ _) hf) (thn_none hn)⟩) ?_; rintro t rest val v' w1 hF hx hl ⟨p, rfl⟩ hS; clear CT; obtain ⟨hc, hz⟩ := fr_box hF; have s0 : w1.cell? ⟨w.heap.size, 0, none⟩ = some (.int .u8 0) := (by rw [hc _ _ (by simp) (by omega)]; go_simp); have s1 : w1.cell? ⟨w.heap.size, 1, none⟩ = some (.int .i64 0) := (by rw [hc _ _ (by simp) (by omega)]; go_simp); have s2 : w1.cell? ⟨w.heap.size, 2, none⟩ = some (.string ⟨#[]⟩) := (by rw [hc _ _ (by simp) (by omega)]; go_simp); have z0 : w1.frozen? ⟨w.heap.size, 0, none⟩ = false := (by rw [hz _ _ (by simp) (by omega)]; go_simp); have z1 : w1.frozen? ⟨w.heap.size, 1, none⟩ = false := (by rw [hz _ _ (by simp) (by omega)]; go_simp); have z2 : w1.frozen? ⟨w.heap.size, 2, none⟩ = false := (by rw [hz _ _ (by simp) (by omega)]; go_simp); clear hc hz)
  refine bodyPost_ret (v := .agg #[.int .u8 t.vk, .int .i64 t.vn, .string (st t.vs)]) (by simp [results, Tryz.results99, go_sem, s0, s1, s2] <;> rfl) rfl ?_
  have HF : Fr r w.heap.size w w1 := fb (bxn _ _) hF
  refine fin_ans (T := w.heap.size + 1) hr HF ?_ (thn_of hx) hl (fun _ => ⟨_, rfl, rfl⟩) hS rfl
  repeat (first | with_reducible exact Bx.refl _ _ | with_reducible refine Bx.setCell ?_ (bt_of (by omega) (by omega)) _ | with_reducible refine Bx.alloc ?_ _ | with_reducible refine Bx.drew ?_)
theorem name_is (l : List Tk) : nameR l = (thn valR (fun x => if x.k = 2 then ret x else bad) l).map fun p => (p.1.s, p.2) := by
  unfold nameR valR
  rw [thn_assoc]
  unfold thn
  cases nxt 11 l with
  | none => rfl
  | some p =>
    dsimp only [ret, vdT]
    by_cases h : p.1.vk = 2
    · rw [if_pos h, if_pos h]; rfl
    · rw [if_neg h, if_neg h]; rfl
theorem num_is (l : List Tk) : numR l = (thn valR (fun x => if x.k = 1 then ret x else bad) l).map fun p => (p.1.n, p.2) := by
  unfold numR valR
  rw [thn_assoc]
  unfold thn
  cases nxt 11 l with
  | none => rfl
  | some p =>
    dsimp only [ret, vdT]
    by_cases h : p.1.vk = 1
    · rw [if_pos h, if_pos h]; rfl
    · rw [if_neg h, if_neg h]; rfl
theorem name_no {l : List Tk} (h : thn valR (fun x => if x.k = 2 then ret x else bad) l = none) : nameR l = none := by rw [name_is, h]; rfl
theorem name_yes {l r : List Tk} {x : VD} (h : thn valR (fun x => if x.k = 2 then ret x else bad) l = some (x, r)) : nameR l = some (x.s, r) := by rw [name_is, h]; rfl
theorem num_no {l : List Tk} (h : thn valR (fun x => if x.k = 1 then ret x else bad) l = none) : numR l = none := by rw [num_is, h]; rfl
theorem num_yes {l r : List Tk} {x : VD} (h : thn valR (fun x => if x.k = 1 then ret x else bad) l = some (x, r)) : numR l = some (x.n, r) := by rw [num_is, h]; rfl
set_option maxHeartbeats 1000000 in
theorem valOf_ans (r : Nat) (k : Int) (l : List TA) (v : Value) (o : Bool) (w : World) (h : Rs w r v l o) :
    Calls Tryz.prog 84 #[pR r, .int .u8 k] w (Ans (RAgg RVal) (thn valR fun x => if x.k = k then ret x else bad) no1 r w l o) := by
  have CV := fun W hW => val_ans r l v o W (h.below hW)
  have hr := h.lt
  clear h
  go_enter Tryz.func84, Tryz.ntmps84
  go_wp2_with (go_at_call 99; refine Ans.use (CV _ (bxn _ _)) (fun w' hf hn => ⟨rfl, Ans.no (fb (bxn _ _) hf) (thn_none hn)⟩) ?_; rintro x rest val v' w1 hF hx hl ⟨cs, rfl, hcs⟩ hS; have hcs' : cs = [.int .u8 x.k, .int .i64 x.n, .string (st x.s)] := hcs; clear hcs; subst hcs'; clear CV; have hz1 : w.heap.size < w1.heap.size := (by have := hF.size; simp at this; omega); obtain ⟨hc, hz⟩ := fr_box hF; have s0 : w1.cell? ⟨w.heap.size, 0, none⟩ = some (.int .u8 0) := (by rw [hc _ _ (by simp) (by omega)]; go_simp); have s1 : w1.cell? ⟨w.heap.size, 1, none⟩ = some (.int .i64 0) := (by rw [hc _ _ (by simp) (by omega)]; go_simp); have s2 : w1.cell? ⟨w.heap.size, 2, none⟩ = some (.string ⟨#[]⟩) := (by rw [hc _ _ (by simp) (by omega)]; go_simp); have z0 : w1.frozen? ⟨w.heap.size, 0, none⟩ = false := (by rw [hz _ _ (by simp) (by omega)]; go_simp); have z1 : w1.frozen? ⟨w.heap.size, 1, none⟩ = false := (by rw [hz _ _ (by simp) (by omega)]; go_simp); have z2 : w1.frozen? ⟨w.heap.size, 2, none⟩ = false := (by rw [hz _ _ (by simp) (by omega)]; go_simp); clear hc hz)
  · have hk' : ¬ x.k = k := by simpa using ‹(x.k != k) = true›
    exact ⟨rfl, Ans.no (fo (fb (bxn _ _) hF) (bxn _ _)) (by rw [thn_of hx, if_neg hk']; rfl)⟩
  · have hk' : x.k = k := by simpa using ‹(x.k != k) = false›
    refine bodyPost_ret (v := .agg #[.int .u8 x.k, .int .i64 x.n, .string (st x.s)]) (by simp [results, Tryz.results84, go_sem, hz1, s0, s1, s2] <;> rfl) rfl ?_
    have HF : Fr r w.heap.size w w1 := fb (bxn _ _) hF
    refine fin_ans (T := w.heap.size + 1) hr HF ?_ (by rw [thn_of hx, if_pos hk']; rfl) hl (fun _ => ⟨_, rfl, rfl⟩) hS rfl
    repeat (first | with_reducible exact Bx.refl _ _ | with_reducible refine Bx.setCell ?_ (bt_of (by omega) (by omega)) _ | with_reducible refine Bx.alloc ?_ _ | with_reducible refine Bx.drew ?_)
theorem name_ans (r : Nat) (l : List TA) (v : Value) (o : Bool) (w : World) (h : Rs w r v l o) :
    Calls Tryz.prog 59 #[pR r] w (Ans (fun _ _ val x => val = .string (st x)) nameR no1 r w l o) := by
  have CV := valOf_ans r 2 l v o w h
  have F41 := field41b
  clear h
  go_enter Tryz.func59, Tryz.ntmps59
  go_wp2_with (go_at_call 84; refine Ans.use CV (fun w' hf hn => ⟨rfl, Ans.no hf (name_no hn)⟩) ?_; rintro x rest val v' w1 hF hx hl ⟨cs, rfl, hcs⟩ hS; have hcs' : cs = [.int .u8 x.k, .int .i64 x.n, .string (st x.s)] := hcs; clear hcs; subst hcs'; clear CV)
  refine bodyPost_ret (v := .string (st x.s)) (by simp [results, Tryz.results59, go_sem] <;> rfl) rfl ?_
  exact Ans.yes hF (name_yes hx) hl rfl hS rfl
theorem number_ans (r : Nat) (l : List TA) (v : Value) (o : Bool) (w : World) (h : Rs w r v l o) :
    Calls Tryz.prog 106 #[pR r] w (Ans (fun _ _ val x => val = .int .i64 x) numR no1 r w l o) := by
  have CV := valOf_ans r 1 l v o w h
  have F41 := field41a
  clear h
  go_enter Tryz.func106, Tryz.ntmps106
  go_wp2_with (go_at_call 84; refine Ans.use CV (fun w' hf hn => ⟨rfl, Ans.no hf (num_no hn)⟩) ?_; rintro x rest val v' w1 hF hx hl ⟨cs, rfl, hcs⟩ hS; have hcs' : cs = [.int .u8 x.k, .int .i64 x.n, .string (st x.s)] := hcs; clear hcs; subst hcs'; clear CV)
  refine bodyPost_ret (v := .int .i64 x.n) (by simp [results, Tryz.results106, go_sem] <;> rfl) rfl ?_
  exact Ans.yes hF (num_yes hx) hl rfl hS rfl
theorem atMost_any (r : Nat) (m n : Int) (l : List TA) (v : Value) (o : Bool) (w : World) (h : Rs w r v l o) :
    Calls Tryz.prog 62 #[pR r, .int .i64 m, .int .i64 n] w fun e w' => e = .returned (.tuple #[]) ∧ Rs w' r v l (o || decide (m < n)) ∧ Fr r w.heap.size w w' := by
  have c1 := h.c1
  have f1 := h.f1
  have HS : Hid (Rs w r v l o) := h
  clear h
  by_cases hm : m < n
  · go_enter Tryz.func62, Tryz.ntmps62
    go_wp2
    go_end0
    exact ⟨rfl, by rw [decide_eq_true hm, Bool.or_true]; exact HS.out.set1, Fr.set _ _ _⟩
  · go_enter Tryz.func62, Tryz.ntmps62
    go_wp2
    go_end0
    exact ⟨rfl, by rw [decide_eq_false (by omega : ¬ m < n), Bool.or_false]; exact HS.out, Fr.refl _ _ _⟩
theorem kept_no (r : Nat) (l : List TA) (v : Value) (w : World) (h : Rs w r v l true) :
    Calls Tryz.prog 63 #[pR r] w fun e w' => e = flt 21 ∧ w' = w := by
  have c1 := h.c1
  clear h
  unfold flt
  go_enter Tryz.func63, Tryz.ntmps63
  go_wp2
  exact ⟨rfl, rfl, rfl⟩
theorem kept_yes (r : Nat) (l : List TA) (v : Value) (w : World) (h : Rs w r v l false) :
    Calls Tryz.prog 63 #[pR r] w fun e w' => e = .returned (.tuple #[]) ∧ w' = w := by
  have c1 := h.c1
  clear h
  go_enter Tryz.func63, Tryz.ntmps63
  go_wp2
  go_end0
  exact ⟨rfl, rfl⟩
end Go.Proofs.YtemacdimdpnkeaaGreatDoor
namespace Go.Proofs.YtemacdimdpnkeaaGreatDoor
set_option maxRecDepth 20000
open Go.RowKit
set_option linter.unusedVariables false
set_option linter.unusedSimpArgs false
def tokLen (w : World) (r : Nat) : Nat := match w.cell? ⟨r, 0, none⟩ with
  | some (.slice _ n _) => n
  | _ => 0
theorem Rs.toks {w : World} {r : Nat} {v : Value} {l : List TA} {o : Bool} (h : Rs w r v l o) : tokLen w r = l.length := by
  obtain ⟨a, cap, e⟩ := h.tk.shape
  unfold tokLen
  rw [h.c0, e]
theorem lit_cells (w : World) (c : List Value) (ty : TypeId) : ∀ j u, c[j]? = some u → (w.alloc (.cells c.toArray ty)).cell? ((⟨w.heap.size, 0, none⟩ : Addr).add j) = some u := by
  intro j u hu
  rw [add_plain, Nat.zero_add]
  simp [hu]
def SlLike (v : Value) : Prop := ∃ a n c, v = .slice a n c
theorem SlW.like {n : Nat} {w : World} {Q : Nat → Prop} {v : Value} {css : List (List Value)} (h : SlW n w Q v css) : SlLike v := by
  obtain ⟨a, c, e⟩ := h.shape; exact ⟨a, _, c, e⟩
theorem Row.like {α : Type} {n : Nat} {R : World → List Value → α → Prop} {w : World} {Q : Nat → Prop} {v : Value} {xs : List α} (h : Row n R w Q v xs) : SlLike v := by
  obtain ⟨css, h1, _⟩ := h; exact h1.like
theorem RowP.like {α : Type} {K n : Nat} {R : World → Nat → List Value → α → Prop} {w : World} {base : Nat} {v : Value} {xs : List α} (h : RowP K n R w base v xs) : SlLike v := by
  obtain ⟨css, h1, _⟩ := h; exact h1.like
theorem infoStr : (Tryz.prog.info? (tyK 1)).map (fun i => (i.zero, i.size, i.bytes)) = some (some (.string ByteArray.empty), 1, 16) := by kernel_rfl
set_option maxHeartbeats 4000000 in
theorem sevStr (r : Nat) (e : Int) (most : Nat) (l : List TA) (v : Value) (o : Bool) (w : World) (h : Rs w r v l o) (hl : l.length ≤ 100000) :
    Calls Tryz.prog 100 #[pR r, .int .u8 e, .int .i64 most, .func (.func 59) #[pR r] #[]] w (Ans (RowP 1 1 RStr) (sevL e nameR) (fun xs => xs.any no1 || decide (most < xs.length)) r w l o) := by
  have hr := h.lt
  have HL : Hid (l.length ≤ 100000) := hl
  have H0 : Hid (Rs w r v l o) := h
  clear h hl
  go_enter Tryz.func100, Tryz.ntmps100
  go_wp2
  go_loopw [9] (fun v9 wr => ∃ (css : List (List Value)) (xs : List Str) (m : List TA) (v' : Value), OwnG 1 1 wr w.heap.size v9 css ∧ All2 (RStr wr w.heap.size) css xs ∧ Rs wr r v' m (o || xs.any no1) ∧ Fr r w.heap.size w wr ∧ m.length + xs.length ≤ l.length ∧ sevL e nameR (l.map Prod.fst) = (sevL e nameR (m.map Prod.fst)).map fun p => (xs ++ p.1, p.2)) (fun _ wr => tokLen wr r)
  case atStart => exact ⟨[], [], l, v, OwnG.nil _ _ _ _, trivial, by rw [List.any_nil, Bool.or_false]; exact H0.out, Fr.refl _ _ _, by simp, sev_start _ _ _⟩
  case round =>
    obtain ⟨css, xs, m, v', hown, hall, hS, hF, hlen, heq⟩ := hrel
    have HC : Hid (css.length = xs.length) := hall.len
    have HO : Hid (OwnG 1 1 wr w.heap.size u9 css) := hown
    have HA : Hid (All2 (RStr wr w.heap.size) css xs) := hall
    have HE : Hid (sevL e nameR (l.map Prod.fst) = (sevL e nameR (m.map Prod.fst)).map fun p => (xs ++ p.1, p.2)) := heq
    have HS : Hid (Rs wr r v' m (o || xs.any no1)) := hS
    have HF : Hid (Fr r w.heap.size w wr) := hF
    obtain ⟨a9, c9, rfl⟩ := hown.shape
    have hwz : w.heap.size ≤ wr.heap.size := hF.size
    clear hown hall heq hS hF H0
    cases hk : isK e (m.map Prod.fst) with
    | true =>
      obtain ⟨x, m', rfl, rfl⟩ := isK_cons hk
      have CP := pass_yes r x m' v' _ wr HS.out
      have HQ : Hid (sevL x.1.k nameR (l.map Prod.fst) = some (xs, m'.map Prod.fst)) := sev_stop HE.out hk
      have CM := fun W v'' oo hh => atMost_any r most css.length m' v'' oo W hh
      go_wp2_with (first | (go_at_call 102; refine CP.mono ?_; rintro e w1 ⟨rfl, ⟨v1, hS1⟩, hF1⟩; clear CP; have HS1 : Hid (Rs w1 r v1 m' (o || xs.any no1)) := hS1; clear hS1) | (go_at_call 62; refine (CM _ _ _ HS1.out).mono ?_; rintro e w2 ⟨rfl, hS2, hF2⟩; clear CM; have HS2 : Hid (Rs w2 r v1 m' ((o || xs.any no1) || decide ((most : Int) < css.length))) := hS2; clear hS2))
      refine bodyPost_ret (v := .slice a9 css.length c9) (by simp [results, Tryz.results100, go_sem] <;> rfl) rfl ?_
      have F2 : Fr r wr.heap.size wr w2 := ft hF1 hF2
      refine Ans.yes (ft HF.out F2) HQ.out ?_ ⟨css, ((HO.out.fr hr F2).sl), part_str.all HA.out F2.size (blk_fr hr F2)⟩ HS2.out ?_
      · simp at hlen; omega
      · rw [Bool.or_assoc]; congr 2; rw [HC.out]; exact decide_eq_decide.2 (by omega)
    | false =>
      have CP := pass_no r e m v' _ wr HS.out hk
      have CQ := name_ans r m v' _ wr HS.out
      have HK : Hid (isK e (m.map Prod.fst) = false) := hk
      clear hk
      have hfn : ∀ w, Sem.run Tryz.prog (callFunc 63 #[pR r]) w = .ok (.enter 63 #[pR r]) w := fun _ => rfl
      go_wp2_with (first | (go_at_call 102; refine CP.mono ?_; rintro e w1 ⟨rfl, hw⟩; obtain rfl := hw.symm; clear CP) | (go_at_call 59; refine Ans.use CQ (fun w' hf hn => ⟨rfl, Ans.no (ft HF.out hf) (sev_fail HE.out HK.out hn)⟩) ?_; rintro x rest val v2 w2 hF2 hx hl2 rfl hS2; have HR : Hid (RStr w2 wr.heap.size (clS x) x) := (rfl : clS x = clS x); clear CQ) | (at_builtin; refine wp_app_g (K := 1) Tryz.underlying59 infoStr rfl (by decide) (by decide) rfl _ _ rfl w.heap.size (.slice a9 css.length c9) css (clS x) rfl ((HO.out.fr hr hF2).below (bxn _ _)) ⟨_, 0, none⟩ 1 rfl (part_str.len HR.out) (lit_cells _ _ _) (part_str.one HR.out) (by have := HL.out; have := HC.out; omega) (Nat.le_trans (Nat.le_trans hwz hF2.size) (bxn _ _).size) ?_; rintro v3 w3 ho3 hg3 hb3; have HO3 : Hid (OwnG 1 1 w3 w.heap.size v3 (css ++ [(clS x)])) := ho3; have HG3 : Hid (∀ k b, Blk _ w.heap.size 1 k b → w3.heap[b]? = _) := blk_grown (by decide) ((HO.out.fr hr hF2).below (bxn _ _)) hg3; have HB3 : Hid (Below w.heap.size _ w3) := hb3; clear ho3 hg3 hb3))
      go_roundw
      case rel =>
        refine ⟨css ++ [(clS x)], xs ++ [x], rest, v2, HO3.out, ?_, ?_, ?_, ?_, sev_step nameR_eats HE.out HK.out hx⟩
        · refine All2.snoc (part_str.keep (part_str.keep (part_str.low HR.out hwz) (bxn _ _).size (blk_below (bxn _ _))) HB3.out.size HG3.out) (part_str.all (part_str.all (part_str.all HA.out hF2.size (blk_fr hr hF2)) (bxn _ _).size (blk_below (bxn _ _))) HB3.out.size HG3.out)
        · rw [List.any_append, ← Bool.or_assoc]
          have := (hS2.below (bxn _ _)).bel hr HB3.out
          simpa using this
        · exact (ft HF.out (fo hF2 (bxn _ _))).trans (Fr.of HB3.out)
        · have := nameR_eats.len hx; simp at this ⊢; omega
      case measure =>
        have h1 := HS.out
        have h2 : Rs w3 r v2 rest _ := (hS2.below (bxn _ _)).bel hr HB3.out
        rw [h1.toks, h2.toks]
        have := nameR_eats.len hx
        simp at this; omega
theorem somStr (r : Nat) (e : Int) (most : Nat) (l : List TA) (v : Value) (o : Bool) (w : World) (h : Rs w r v l o) (hl : l.length ≤ 100000) :
    Calls Tryz.prog 85 #[pR r, .int .u8 e, .int .i64 most, .func (.func 59) #[pR r] #[]] w (Ans (RowP 1 1 RStr) (somL e nameR) (fun xs => xs.any no1 || decide (most < xs.length)) r w l o) := by
  have CS := sevStr r e most l v o w h hl
  clear h hl
  go_enter Tryz.func85, Tryz.ntmps85
  go_wp2_with (go_at_call 100; refine Ans.use CS (fun w' hf hn => ⟨rfl, Ans.no hf (som_none hn)⟩) ?_; rintro xs rest val v2 w2 hF2 hx hl2 hR hS2; have HR : Hid (RowP 1 1 RStr w2 w.heap.size val xs) := hR; obtain ⟨a9, c9, rfl⟩ := hR.shape; clear CS hR)
  · have hn : xs = [] := List.eq_nil_of_length_eq_zero (by have := ‹((xs.length : Int) == 0) = true›; simpa using this)
    subst hn
    exact ⟨rfl, Ans.no hF2 (som_nil hx)⟩
  · have hn : xs ≠ [] := by
      intro e
      have := ‹((xs.length : Int) == 0) = false›
      rw [e] at this; simp at this
    refine bodyPost_ret (v := .slice a9 xs.length c9) (by simp [results, Tryz.results85, go_sem] <;> rfl) rfl ?_
    exact Ans.yes hF2 (som_cons hn hx) hl2 HR.out hS2 rfl
theorem infoVal : (Tryz.prog.info? (tyK 2)).map (fun i => (i.zero, i.size, i.bytes)) = some (some (.agg #[.int .u8 0, .int .i64 0, .string ByteArray.empty]), 3, 32) := by kernel_rfl
set_option maxHeartbeats 4000000 in
theorem sevVal (r : Nat) (e : Int) (most : Nat) (l : List TA) (v : Value) (o : Bool) (w : World) (h : Rs w r v l o) (hl : l.length ≤ 100000) :
    Calls Tryz.prog 130 #[pR r, .int .u8 e, .int .i64 most, .func (.func 99) #[pR r] #[]] w (Ans (RowP 2 3 RVal) (sevL e valR) (fun xs => xs.any no1 || decide (most < xs.length)) r w l o) := by
  have hr := h.lt
  have HL : Hid (l.length ≤ 100000) := hl
  have H0 : Hid (Rs w r v l o) := h
  clear h hl
  go_enter Tryz.func130, Tryz.ntmps130
  go_wp2
  go_loopw [9] (fun v9 wr => ∃ (css : List (List Value)) (xs : List VD) (m : List TA) (v' : Value), OwnG 2 3 wr w.heap.size v9 css ∧ All2 (RVal wr w.heap.size) css xs ∧ Rs wr r v' m (o || xs.any no1) ∧ Fr r w.heap.size w wr ∧ m.length + xs.length ≤ l.length ∧ sevL e valR (l.map Prod.fst) = (sevL e valR (m.map Prod.fst)).map fun p => (xs ++ p.1, p.2)) (fun _ wr => tokLen wr r)
  case atStart => exact ⟨[], [], l, v, OwnG.nil _ _ _ _, trivial, by rw [List.any_nil, Bool.or_false]; exact H0.out, Fr.refl _ _ _, by simp, sev_start _ _ _⟩
  case round =>
    obtain ⟨css, xs, m, v', hown, hall, hS, hF, hlen, heq⟩ := hrel
    have HC : Hid (css.length = xs.length) := hall.len
    have HO : Hid (OwnG 2 3 wr w.heap.size u9 css) := hown
    have HA : Hid (All2 (RVal wr w.heap.size) css xs) := hall
    have HE : Hid (sevL e valR (l.map Prod.fst) = (sevL e valR (m.map Prod.fst)).map fun p => (xs ++ p.1, p.2)) := heq
    have HS : Hid (Rs wr r v' m (o || xs.any no1)) := hS
    have HF : Hid (Fr r w.heap.size w wr) := hF
    obtain ⟨a9, c9, rfl⟩ := hown.shape
    have hwz : w.heap.size ≤ wr.heap.size := hF.size
    clear hown hall heq hS hF H0
    cases hk : isK e (m.map Prod.fst) with
    | true =>
      obtain ⟨x, m', rfl, rfl⟩ := isK_cons hk
      have CP := pass_yes r x m' v' _ wr HS.out
      have HQ : Hid (sevL x.1.k valR (l.map Prod.fst) = some (xs, m'.map Prod.fst)) := sev_stop HE.out hk
      have CM := fun W v'' oo hh => atMost_any r most css.length m' v'' oo W hh
      go_wp2_with (first | (go_at_call 102; refine CP.mono ?_; rintro e w1 ⟨rfl, ⟨v1, hS1⟩, hF1⟩; clear CP; have HS1 : Hid (Rs w1 r v1 m' (o || xs.any no1)) := hS1; clear hS1) | (go_at_call 62; refine (CM _ _ _ HS1.out).mono ?_; rintro e w2 ⟨rfl, hS2, hF2⟩; clear CM; have HS2 : Hid (Rs w2 r v1 m' ((o || xs.any no1) || decide ((most : Int) < css.length))) := hS2; clear hS2))
      refine bodyPost_ret (v := .slice a9 css.length c9) (by simp [results, Tryz.results130, go_sem] <;> rfl) rfl ?_
      have F2 : Fr r wr.heap.size wr w2 := ft hF1 hF2
      refine Ans.yes (ft HF.out F2) HQ.out ?_ ⟨css, ((HO.out.fr hr F2).sl), part_val.all HA.out F2.size (blk_fr hr F2)⟩ HS2.out ?_
      · simp at hlen; omega
      · rw [Bool.or_assoc]; congr 2; rw [HC.out]; exact decide_eq_decide.2 (by omega)
    | false =>
      have CP := pass_no r e m v' _ wr HS.out hk
      have CQ := val_ans r m v' _ wr HS.out
      have HK : Hid (isK e (m.map Prod.fst) = false) := hk
      clear hk
      have hfn : ∀ w, Sem.run Tryz.prog (callFunc 116 #[pR r]) w = .ok (.enter 116 #[pR r]) w := fun _ => rfl
      go_wp2_with (first | (go_at_call 102; refine CP.mono ?_; rintro e w1 ⟨rfl, hw⟩; obtain rfl := hw.symm; clear CP) | (go_at_call 99; refine Ans.use CQ (fun w' hf hn => ⟨rfl, Ans.no (ft HF.out hf) (sev_fail HE.out HK.out hn)⟩) ?_; rintro x rest val v2 w2 hF2 hx hl2 ⟨cs, rfl, hR⟩ hS2; have hcs : cs = [.int .u8 x.k, .int .i64 x.n, .string (st x.s)] := hR; have HR : Hid (RVal w2 wr.heap.size (clV x) x) := (rfl : (clV x) = (clV x)); clear hR; subst hcs; clear CQ) | (at_builtin; refine wp_app_g (K := 2) Tryz.underlying44 infoVal rfl (by decide) (by decide) rfl _ _ rfl w.heap.size (.slice a9 css.length c9) css (clV x) rfl ((HO.out.fr hr hF2).below (bxn _ _)) ⟨_, 0, none⟩ 1 rfl (part_val.len HR.out) (lit_cells _ _ _) (part_val.one HR.out) (by have := HL.out; have := HC.out; omega) (Nat.le_trans (Nat.le_trans hwz hF2.size) (bxn _ _).size) ?_; rintro v3 w3 ho3 hg3 hb3; have HO3 : Hid (OwnG 2 3 w3 w.heap.size v3 (css ++ [(clV x)])) := ho3; have HG3 : Hid (∀ k b, Blk _ w.heap.size 2 k b → w3.heap[b]? = _) := blk_grown (by decide) ((HO.out.fr hr hF2).below (bxn _ _)) hg3; have HB3 : Hid (Below w.heap.size _ w3) := hb3; clear ho3 hg3 hb3))
      go_roundw
      case rel =>
        refine ⟨css ++ [(clV x)], xs ++ [x], rest, v2, HO3.out, ?_, ?_, ?_, ?_, sev_step valR_eats HE.out HK.out hx⟩
        · refine All2.snoc (part_val.keep (part_val.keep (part_val.low HR.out hwz) (bxn _ _).size (blk_below (bxn _ _))) HB3.out.size HG3.out) (part_val.all (part_val.all (part_val.all HA.out hF2.size (blk_fr hr hF2)) (bxn _ _).size (blk_below (bxn _ _))) HB3.out.size HG3.out)
        · rw [List.any_append, ← Bool.or_assoc]
          have := (hS2.below (bxn _ _)).bel hr HB3.out
          simpa using this
        · exact (ft HF.out (fo hF2 (bxn _ _))).trans (Fr.of HB3.out)
        · have := valR_eats.len hx; simp at this ⊢; omega
      case measure =>
        have h1 := HS.out
        have h2 : Rs w3 r v2 rest _ := (hS2.below (bxn _ _)).bel hr HB3.out
        rw [h1.toks, h2.toks]
        have := valR_eats.len hx
        simp at this; omega
theorem somVal (r : Nat) (e : Int) (most : Nat) (l : List TA) (v : Value) (o : Bool) (w : World) (h : Rs w r v l o) (hl : l.length ≤ 100000) :
    Calls Tryz.prog 117 #[pR r, .int .u8 e, .int .i64 most, .func (.func 99) #[pR r] #[]] w (Ans (RowP 2 3 RVal) (somL e valR) (fun xs => xs.any no1 || decide (most < xs.length)) r w l o) := by
  have CS := sevVal r e most l v o w h hl
  clear h hl
  go_enter Tryz.func117, Tryz.ntmps117
  go_wp2_with (go_at_call 130; refine Ans.use CS (fun w' hf hn => ⟨rfl, Ans.no hf (som_none hn)⟩) ?_; rintro xs rest val v2 w2 hF2 hx hl2 hR hS2; have HR : Hid (RowP 2 3 RVal w2 w.heap.size val xs) := hR; obtain ⟨a9, c9, rfl⟩ := hR.shape; clear CS hR)
  · have hn : xs = [] := List.eq_nil_of_length_eq_zero (by have := ‹((xs.length : Int) == 0) = true›; simpa using this)
    subst hn
    exact ⟨rfl, Ans.no hF2 (som_nil hx)⟩
  · have hn : xs ≠ [] := by
      intro e
      have := ‹((xs.length : Int) == 0) = false›
      rw [e] at this; simp at this
    refine bodyPost_ret (v := .slice a9 xs.length c9) (by simp [results, Tryz.results117, go_sem] <;> rfl) rfl ?_
    exact Ans.yes hF2 (som_cons hn hx) hl2 HR.out hS2 rfl
end Go.Proofs.YtemacdimdpnkeaaGreatDoor
namespace Go.Proofs.YtemacdimdpnkeaaGreatDoor
set_option maxRecDepth 20000
open Go.RowKit
set_option linter.unusedVariables false
set_option linter.unusedSimpArgs false
theorem single_pred {l : List Tk} (h : isK 10 l = true) : singleR l = thn (nxt 10) (fun t => varR t.p) l := if_pos h
theorem single_none {l : List Tk} (h : isK 10 l = false) : singleR l = varR 0 l := if_neg (by rw [h]; decide)
theorem varR_yes {p : Int} {l : List Tk} (h : isK 9 l = true) : varR p l = thn (nxt 9) (fun t => ret ⟨p, t.nm, v0⟩) l := if_pos h
theorem varR_no {p : Int} {l : List Tk} (h : isK 9 l = false) : varR p l = thn valR (fun x => ret ⟨p, [], x⟩) l := by
  rw [show varR p l = _ from if_neg (by rw [h]; decide)]
  unfold valR
  rw [thn_assoc]; rfl
theorem nxt_cons (x : TA) (m : List TA) : nxt x.1.k ((x :: m).map Prod.fst) = some (x.1, m.map Prod.fst) := by
  show (if _ then _ else _) = _
  rw [if_pos rfl]
set_option maxHeartbeats 2000000 in
theorem test_pv (r : Nat) (x : TA) (y : TA) (m : List TA) (v : Value) (o : Bool) (w : World) (h : Rs w r v (x :: y :: m) o) (hk : x.1.k = 10) (hv : y.1.k = 9) :
    Calls Tryz.prog 119 #[pR r] w (Ans (RAgg RTest) singleR no1 r w (x :: y :: m) o) := by
  have hr := h.lt
  have F43a := field43a
  have F43b := field43b
  have HH : Hid (Rs w r v (x :: y :: m) o) := h
  have k10 : isK 10 ((x :: y :: m).map Prod.fst) = true := by simp [isK, hk]
  have k9 : isK 9 ((y :: m).map Prod.fst) = true := by simp [isK, hv]
  have K10 : Hid (isK 10 ((x :: y :: m).map Prod.fst) = true) := k10
  have K9 : Hid (isK 9 ((y :: m).map Prod.fst) = true) := k9
  have CN := fun W hW => rnext_any r 10 (x :: y :: m) v o W (h.below hW)
  rw [k10] at CN
  have CT := fun W hW => take_yes r x (y :: m) v o W (h.below hW)
  rw [hk] at CT
  unfold tkA at CT
  clear h hk hv k10
  have CY := fun W vv hh => take_yes r y m vv o W hh
  rw [(by have := K9.out; simpa [isK] using this : y.1.k = 9)] at CY
  unfold tkA at CY
  go_enter Tryz.func119, Tryz.ntmps119
  go_wp2_with (first | (go_at_call 83; refine (CN _ (bt (bxn _ _) (bxn _ _))).mono ?_; rintro e w1 ⟨rfl, hw⟩; obtain rfl := hw; clear CN) | (go_at_call 58; refine (CT _ (bt (bxn _ _) (bxn _ _))).mono ?_; rintro e w1 ⟨rfl, ⟨v1, hS1⟩, hF1⟩; clear CT; have y1 : w.heap.size + 1 + 1 ≤ w1.heap.size := (by have := hF1.size; simp at this; omega); obtain ⟨hc, hz⟩ := fr_box hF1; have a1s0 : w1.cell? ⟨w.heap.size, 0, none⟩ = some (.int .u8 0) := (by rw [hc _ _ (by simp <;> omega) (by omega)]; go_simp); have a1z0 : w1.frozen? ⟨w.heap.size, 0, none⟩ = false := (by rw [hz _ _ (by simp <;> omega) (by omega)]; go_simp); have a1s1 : w1.cell? ⟨w.heap.size, 1, none⟩ = some (.string ⟨#[]⟩) := (by rw [hc _ _ (by simp <;> omega) (by omega)]; go_simp); have a1z1 : w1.frozen? ⟨w.heap.size, 1, none⟩ = false := (by rw [hz _ _ (by simp <;> omega) (by omega)]; go_simp); have a1s2 : w1.cell? ⟨w.heap.size, 2, none⟩ = some (.int .u8 0) := (by rw [hc _ _ (by simp <;> omega) (by omega)]; go_simp); have a1z2 : w1.frozen? ⟨w.heap.size, 2, none⟩ = false := (by rw [hz _ _ (by simp <;> omega) (by omega)]; go_simp); have a1s3 : w1.cell? ⟨w.heap.size, 3, none⟩ = some (.int .i64 0) := (by rw [hc _ _ (by simp <;> omega) (by omega)]; go_simp); have a1z3 : w1.frozen? ⟨w.heap.size, 3, none⟩ = false := (by rw [hz _ _ (by simp <;> omega) (by omega)]; go_simp); have a1s4 : w1.cell? ⟨w.heap.size, 4, none⟩ = some (.string ⟨#[]⟩) := (by rw [hc _ _ (by simp <;> omega) (by omega)]; go_simp); have a1z4 : w1.frozen? ⟨w.heap.size, 4, none⟩ = false := (by rw [hz _ _ (by simp <;> omega) (by omega)]; go_simp); have b1s0 : w1.cell? ⟨(w.heap.size + 1), 0, none⟩ = some (.int .u8 0) := (by rw [hc _ _ (by simp <;> omega) (by omega)]; go_simp); have b1z0 : w1.frozen? ⟨(w.heap.size + 1), 0, none⟩ = false := (by rw [hz _ _ (by simp <;> omega) (by omega)]; go_simp); have b1s1 : w1.cell? ⟨(w.heap.size + 1), 1, none⟩ = some (.string ⟨#[]⟩) := (by rw [hc _ _ (by simp <;> omega) (by omega)]; go_simp); have b1z1 : w1.frozen? ⟨(w.heap.size + 1), 1, none⟩ = false := (by rw [hz _ _ (by simp <;> omega) (by omega)]; go_simp); have b1s2 : w1.cell? ⟨(w.heap.size + 1), 2, none⟩ = some (.int .u8 0) := (by rw [hc _ _ (by simp <;> omega) (by omega)]; go_simp); have b1z2 : w1.frozen? ⟨(w.heap.size + 1), 2, none⟩ = false := (by rw [hz _ _ (by simp <;> omega) (by omega)]; go_simp); have b1s3 : w1.cell? ⟨(w.heap.size + 1), 3, none⟩ = some (.int .i64 0) := (by rw [hc _ _ (by simp <;> omega) (by omega)]; go_simp); have b1z3 : w1.frozen? ⟨(w.heap.size + 1), 3, none⟩ = false := (by rw [hz _ _ (by simp <;> omega) (by omega)]; go_simp); have b1s4 : w1.cell? ⟨(w.heap.size + 1), 4, none⟩ = some (.string ⟨#[]⟩) := (by rw [hc _ _ (by simp <;> omega) (by omega)]; go_simp); have b1z4 : w1.frozen? ⟨(w.heap.size + 1), 4, none⟩ = false := (by rw [hz _ _ (by simp <;> omega) (by omega)]; go_simp); clear hc hz; have HS1 : Hid (Rs w1 r v1 (y :: m) o) := hS1; have G1 : Hid (Fr r w.heap.size w w1) := fb (bt (bxn _ _) (bxn _ _)) hF1; clear hS1) | (go_at_call 83; refine (rnext_any r 9 (y :: m) v1 o _ (HS1.out.bx (T := w.heap.size + 2) hr (by repeat (first | with_reducible exact Bx.refl _ _ | with_reducible refine Bx.setCell ?_ (bt_of (by omega) (by omega)) _ | with_reducible refine Bx.alloc ?_ _ | with_reducible refine Bx.drew ?_)))).mono ?_; rw [k9]; rintro e w7 ⟨rfl, hw⟩; obtain rfl := hw; clear k9) | (go_at_call 58; refine (CY _ v1 (HS1.out.bx (T := w.heap.size + 2) hr (by repeat (first | with_reducible exact Bx.refl _ _ | with_reducible refine Bx.setCell ?_ (bt_of (by omega) (by omega)) _ | with_reducible refine Bx.alloc ?_ _ | with_reducible refine Bx.drew ?_)))).mono ?_; rintro e w2 ⟨rfl, ⟨v2, hS2⟩, hF2⟩; clear CY; have y2 : w1.heap.size ≤ w2.heap.size := (by have := hF2.size; simp at this; omega); obtain ⟨hc, hz⟩ := fr_box hF2; have a2s0 : w2.cell? ⟨w.heap.size, 0, none⟩ = some (.int .u8 0) := (by rw [hc _ _ (by simp <;> omega) (by omega)]; go_simp); have a2z0 : w2.frozen? ⟨w.heap.size, 0, none⟩ = false := (by rw [hz _ _ (by simp <;> omega) (by omega)]; go_simp); have a2s1 : w2.cell? ⟨w.heap.size, 1, none⟩ = some (.string ⟨#[]⟩) := (by rw [hc _ _ (by simp <;> omega) (by omega)]; go_simp); have a2z1 : w2.frozen? ⟨w.heap.size, 1, none⟩ = false := (by rw [hz _ _ (by simp <;> omega) (by omega)]; go_simp); have a2s2 : w2.cell? ⟨w.heap.size, 2, none⟩ = some (.int .u8 0) := (by rw [hc _ _ (by simp <;> omega) (by omega)]; go_simp); have a2z2 : w2.frozen? ⟨w.heap.size, 2, none⟩ = false := (by rw [hz _ _ (by simp <;> omega) (by omega)]; go_simp); have a2s3 : w2.cell? ⟨w.heap.size, 3, none⟩ = some (.int .i64 0) := (by rw [hc _ _ (by simp <;> omega) (by omega)]; go_simp); have a2z3 : w2.frozen? ⟨w.heap.size, 3, none⟩ = false := (by rw [hz _ _ (by simp <;> omega) (by omega)]; go_simp); have a2s4 : w2.cell? ⟨w.heap.size, 4, none⟩ = some (.string ⟨#[]⟩) := (by rw [hc _ _ (by simp <;> omega) (by omega)]; go_simp); have a2z4 : w2.frozen? ⟨w.heap.size, 4, none⟩ = false := (by rw [hz _ _ (by simp <;> omega) (by omega)]; go_simp); have b2s0 : w2.cell? ⟨(w.heap.size + 1), 0, none⟩ = some (.int .u8 x.1.p) := (by rw [hc _ _ (by simp <;> omega) (by omega)]; go_simp); have b2z0 : w2.frozen? ⟨(w.heap.size + 1), 0, none⟩ = false := (by rw [hz _ _ (by simp <;> omega) (by omega)]; go_simp); have b2s1 : w2.cell? ⟨(w.heap.size + 1), 1, none⟩ = some (.string ⟨#[]⟩) := (by rw [hc _ _ (by simp <;> omega) (by omega)]; go_simp); have b2z1 : w2.frozen? ⟨(w.heap.size + 1), 1, none⟩ = false := (by rw [hz _ _ (by simp <;> omega) (by omega)]; go_simp); have b2s2 : w2.cell? ⟨(w.heap.size + 1), 2, none⟩ = some (.int .u8 0) := (by rw [hc _ _ (by simp <;> omega) (by omega)]; go_simp); have b2z2 : w2.frozen? ⟨(w.heap.size + 1), 2, none⟩ = false := (by rw [hz _ _ (by simp <;> omega) (by omega)]; go_simp); have b2s3 : w2.cell? ⟨(w.heap.size + 1), 3, none⟩ = some (.int .i64 0) := (by rw [hc _ _ (by simp <;> omega) (by omega)]; go_simp); have b2z3 : w2.frozen? ⟨(w.heap.size + 1), 3, none⟩ = false := (by rw [hz _ _ (by simp <;> omega) (by omega)]; go_simp); have b2s4 : w2.cell? ⟨(w.heap.size + 1), 4, none⟩ = some (.string ⟨#[]⟩) := (by rw [hc _ _ (by simp <;> omega) (by omega)]; go_simp); have b2z4 : w2.frozen? ⟨(w.heap.size + 1), 4, none⟩ = false := (by rw [hz _ _ (by simp <;> omega) (by omega)]; go_simp); clear hc hz; have HS2 : Hid (Rs w2 r v2 m o) := hS2; have G2 : Hid (Fr r w.heap.size w w2) := (ft (fin_w (T := w.heap.size + 2) hr G1.out (Nat.le_refl _) (by repeat (first | with_reducible exact Bx.refl _ _ | with_reducible refine Bx.setCell ?_ (bt_of (by omega) (by omega)) _ | with_reducible refine Bx.alloc ?_ _ | with_reducible refine Bx.drew ?_))) hF2); clear hS2))
  refine bodyPost_ret (v := .agg #[.int .u8 x.1.p, .string (st y.1.nm), .int .u8 0, .int .i64 0, .string ⟨#[]⟩]) (by simp [results, Tryz.results119, go_sem, a2s0, a2s1, a2s2, a2s3, a2s4, b2s0, b2s1, b2s2, b2s3, b2s4] <;> rfl) rfl ?_
  refine fin_ans (x := (⟨x.1.p, y.1.nm, v0⟩ : TestD)) (T := w.heap.size + 2) (rest := m) hr G2.out ?_ (by rw [single_pred K10.out, thn_of (by have := nxt_cons x (y :: m); rwa [(by have := K10.out; simpa [isK] using this : x.1.k = 10)] at this), varR_yes K9.out, thn_of (by have := nxt_cons y m; rwa [(by have := K9.out; simpa [isK] using this : y.1.k = 9)] at this)]; rfl) (by simp <;> omega) (fun _ => ⟨_, rfl, rfl⟩) HS2.out (by simp [no1])
  repeat (first | with_reducible exact Bx.refl _ _ | with_reducible refine Bx.setCell ?_ (bt_of (by omega) (by omega)) _ | with_reducible refine Bx.alloc ?_ _ | with_reducible refine Bx.drew ?_)
set_option maxHeartbeats 2000000 in
theorem test_pn (r : Nat) (x : TA) (m : List TA) (v : Value) (o : Bool) (w : World) (h : Rs w r v (x :: m) o) (hk : x.1.k = 10) (hv : isK 9 ((m).map Prod.fst) = false) :
    Calls Tryz.prog 119 #[pR r] w (Ans (RAgg RTest) singleR no1 r w (x :: m) o) := by
  have hr := h.lt
  have F43a := field43a
  have F43b := field43b
  have HH : Hid (Rs w r v (x :: m) o) := h
  have k10 : isK 10 ((x :: m).map Prod.fst) = true := by simp [isK, hk]
  have k9 : isK 9 ((m).map Prod.fst) = false := hv
  have K10 : Hid (isK 10 ((x :: m).map Prod.fst) = true) := k10
  have K9 : Hid (isK 9 ((m).map Prod.fst) = false) := k9
  have CN := fun W hW => rnext_any r 10 (x :: m) v o W (h.below hW)
  rw [k10] at CN
  have CT := fun W hW => take_yes r x (m) v o W (h.below hW)
  rw [hk] at CT
  unfold tkA at CT
  clear h hk hv k10
  go_enter Tryz.func119, Tryz.ntmps119
  go_wp2_with (first | (go_at_call 83; refine (CN _ (bt (bxn _ _) (bxn _ _))).mono ?_; rintro e w1 ⟨rfl, hw⟩; obtain rfl := hw; clear CN) | (go_at_call 58; refine (CT _ (bt (bxn _ _) (bxn _ _))).mono ?_; rintro e w1 ⟨rfl, ⟨v1, hS1⟩, hF1⟩; clear CT; have y1 : w.heap.size + 1 + 1 ≤ w1.heap.size := (by have := hF1.size; simp at this; omega); obtain ⟨hc, hz⟩ := fr_box hF1; have a1s0 : w1.cell? ⟨w.heap.size, 0, none⟩ = some (.int .u8 0) := (by rw [hc _ _ (by simp <;> omega) (by omega)]; go_simp); have a1z0 : w1.frozen? ⟨w.heap.size, 0, none⟩ = false := (by rw [hz _ _ (by simp <;> omega) (by omega)]; go_simp); have a1s1 : w1.cell? ⟨w.heap.size, 1, none⟩ = some (.string ⟨#[]⟩) := (by rw [hc _ _ (by simp <;> omega) (by omega)]; go_simp); have a1z1 : w1.frozen? ⟨w.heap.size, 1, none⟩ = false := (by rw [hz _ _ (by simp <;> omega) (by omega)]; go_simp); have a1s2 : w1.cell? ⟨w.heap.size, 2, none⟩ = some (.int .u8 0) := (by rw [hc _ _ (by simp <;> omega) (by omega)]; go_simp); have a1z2 : w1.frozen? ⟨w.heap.size, 2, none⟩ = false := (by rw [hz _ _ (by simp <;> omega) (by omega)]; go_simp); have a1s3 : w1.cell? ⟨w.heap.size, 3, none⟩ = some (.int .i64 0) := (by rw [hc _ _ (by simp <;> omega) (by omega)]; go_simp); have a1z3 : w1.frozen? ⟨w.heap.size, 3, none⟩ = false := (by rw [hz _ _ (by simp <;> omega) (by omega)]; go_simp); have a1s4 : w1.cell? ⟨w.heap.size, 4, none⟩ = some (.string ⟨#[]⟩) := (by rw [hc _ _ (by simp <;> omega) (by omega)]; go_simp); have a1z4 : w1.frozen? ⟨w.heap.size, 4, none⟩ = false := (by rw [hz _ _ (by simp <;> omega) (by omega)]; go_simp); have b1s0 : w1.cell? ⟨(w.heap.size + 1), 0, none⟩ = some (.int .u8 0) := (by rw [hc _ _ (by simp <;> omega) (by omega)]; go_simp); have b1z0 : w1.frozen? ⟨(w.heap.size + 1), 0, none⟩ = false := (by rw [hz _ _ (by simp <;> omega) (by omega)]; go_simp); have b1s1 : w1.cell? ⟨(w.heap.size + 1), 1, none⟩ = some (.string ⟨#[]⟩) := (by rw [hc _ _ (by simp <;> omega) (by omega)]; go_simp); have b1z1 : w1.frozen? ⟨(w.heap.size + 1), 1, none⟩ = false := (by rw [hz _ _ (by simp <;> omega) (by omega)]; go_simp); have b1s2 : w1.cell? ⟨(w.heap.size + 1), 2, none⟩ = some (.int .u8 0) := (by rw [hc _ _ (by simp <;> omega) (by omega)]; go_simp); have b1z2 : w1.frozen? ⟨(w.heap.size + 1), 2, none⟩ = false := (by rw [hz _ _ (by simp <;> omega) (by omega)]; go_simp); have b1s3 : w1.cell? ⟨(w.heap.size + 1), 3, none⟩ = some (.int .i64 0) := (by rw [hc _ _ (by simp <;> omega) (by omega)]; go_simp); have b1z3 : w1.frozen? ⟨(w.heap.size + 1), 3, none⟩ = false := (by rw [hz _ _ (by simp <;> omega) (by omega)]; go_simp); have b1s4 : w1.cell? ⟨(w.heap.size + 1), 4, none⟩ = some (.string ⟨#[]⟩) := (by rw [hc _ _ (by simp <;> omega) (by omega)]; go_simp); have b1z4 : w1.frozen? ⟨(w.heap.size + 1), 4, none⟩ = false := (by rw [hz _ _ (by simp <;> omega) (by omega)]; go_simp); clear hc hz; have HS1 : Hid (Rs w1 r v1 (m) o) := hS1; have G1 : Hid (Fr r w.heap.size w w1) := fb (bt (bxn _ _) (bxn _ _)) hF1; clear hS1) | (go_at_call 83; refine (rnext_any r 9 (m) v1 o _ (HS1.out.bx (T := w.heap.size + 2) hr (by repeat (first | with_reducible exact Bx.refl _ _ | with_reducible refine Bx.setCell ?_ (bt_of (by omega) (by omega)) _ | with_reducible refine Bx.alloc ?_ _ | with_reducible refine Bx.drew ?_)))).mono ?_; rw [k9]; rintro e w7 ⟨rfl, hw⟩; obtain rfl := hw; clear k9) | (go_at_call 99; refine Ans.use (val_ans r m v1 o _ (HS1.out.bx (T := w.heap.size + 2) hr (by repeat (first | with_reducible exact Bx.refl _ _ | with_reducible refine Bx.setCell ?_ (bt_of (by omega) (by omega)) _ | with_reducible refine Bx.alloc ?_ _ | with_reducible refine Bx.drew ?_)))) (fun w' hf hn => ⟨rfl, Ans.no (ft (fin_w (T := w.heap.size + 2) hr G1.out (Nat.le_refl _) (by repeat (first | with_reducible exact Bx.refl _ _ | with_reducible refine Bx.setCell ?_ (bt_of (by omega) (by omega)) _ | with_reducible refine Bx.alloc ?_ _ | with_reducible refine Bx.drew ?_))) hf) (by rw [single_pred K10.out, thn_of (by have := nxt_cons x (m); rwa [(by have := K10.out; simpa [isK] using this : x.1.k = 10)] at this), varR_no K9.out, thn_none hn])⟩) ?_; rintro d rest val v2 w2 hF2 hx hl ⟨cs, rfl, hR⟩ hS2; have hcs : cs = [.int .u8 d.k, .int .i64 d.n, .string (st d.s)] := hR; clear hR; subst hcs; have y2 : w1.heap.size ≤ w2.heap.size := (by have := hF2.size; simp at this; omega); obtain ⟨hc, hz⟩ := fr_box hF2; have a2s0 : w2.cell? ⟨w.heap.size, 0, none⟩ = some (.int .u8 0) := (by rw [hc _ _ (by simp <;> omega) (by omega)]; go_simp); have a2z0 : w2.frozen? ⟨w.heap.size, 0, none⟩ = false := (by rw [hz _ _ (by simp <;> omega) (by omega)]; go_simp); have a2s1 : w2.cell? ⟨w.heap.size, 1, none⟩ = some (.string ⟨#[]⟩) := (by rw [hc _ _ (by simp <;> omega) (by omega)]; go_simp); have a2z1 : w2.frozen? ⟨w.heap.size, 1, none⟩ = false := (by rw [hz _ _ (by simp <;> omega) (by omega)]; go_simp); have a2s2 : w2.cell? ⟨w.heap.size, 2, none⟩ = some (.int .u8 0) := (by rw [hc _ _ (by simp <;> omega) (by omega)]; go_simp); have a2z2 : w2.frozen? ⟨w.heap.size, 2, none⟩ = false := (by rw [hz _ _ (by simp <;> omega) (by omega)]; go_simp); have a2s3 : w2.cell? ⟨w.heap.size, 3, none⟩ = some (.int .i64 0) := (by rw [hc _ _ (by simp <;> omega) (by omega)]; go_simp); have a2z3 : w2.frozen? ⟨w.heap.size, 3, none⟩ = false := (by rw [hz _ _ (by simp <;> omega) (by omega)]; go_simp); have a2s4 : w2.cell? ⟨w.heap.size, 4, none⟩ = some (.string ⟨#[]⟩) := (by rw [hc _ _ (by simp <;> omega) (by omega)]; go_simp); have a2z4 : w2.frozen? ⟨w.heap.size, 4, none⟩ = false := (by rw [hz _ _ (by simp <;> omega) (by omega)]; go_simp); have b2s0 : w2.cell? ⟨(w.heap.size + 1), 0, none⟩ = some (.int .u8 x.1.p) := (by rw [hc _ _ (by simp <;> omega) (by omega)]; go_simp); have b2z0 : w2.frozen? ⟨(w.heap.size + 1), 0, none⟩ = false := (by rw [hz _ _ (by simp <;> omega) (by omega)]; go_simp); have b2s1 : w2.cell? ⟨(w.heap.size + 1), 1, none⟩ = some (.string ⟨#[]⟩) := (by rw [hc _ _ (by simp <;> omega) (by omega)]; go_simp); have b2z1 : w2.frozen? ⟨(w.heap.size + 1), 1, none⟩ = false := (by rw [hz _ _ (by simp <;> omega) (by omega)]; go_simp); have b2s2 : w2.cell? ⟨(w.heap.size + 1), 2, none⟩ = some (.int .u8 0) := (by rw [hc _ _ (by simp <;> omega) (by omega)]; go_simp); have b2z2 : w2.frozen? ⟨(w.heap.size + 1), 2, none⟩ = false := (by rw [hz _ _ (by simp <;> omega) (by omega)]; go_simp); have b2s3 : w2.cell? ⟨(w.heap.size + 1), 3, none⟩ = some (.int .i64 0) := (by rw [hc _ _ (by simp <;> omega) (by omega)]; go_simp); have b2z3 : w2.frozen? ⟨(w.heap.size + 1), 3, none⟩ = false := (by rw [hz _ _ (by simp <;> omega) (by omega)]; go_simp); have b2s4 : w2.cell? ⟨(w.heap.size + 1), 4, none⟩ = some (.string ⟨#[]⟩) := (by rw [hc _ _ (by simp <;> omega) (by omega)]; go_simp); have b2z4 : w2.frozen? ⟨(w.heap.size + 1), 4, none⟩ = false := (by rw [hz _ _ (by simp <;> omega) (by omega)]; go_simp); clear hc hz; have HS2 : Hid (Rs w2 r v2 rest (o || no1 d)) := hS2; have G2 : Hid (Fr r w.heap.size w w2) := (ft (fin_w (T := w.heap.size + 2) hr G1.out (Nat.le_refl _) (by repeat (first | with_reducible exact Bx.refl _ _ | with_reducible refine Bx.setCell ?_ (bt_of (by omega) (by omega)) _ | with_reducible refine Bx.alloc ?_ _ | with_reducible refine Bx.drew ?_))) hF2); clear hS2))
  refine bodyPost_ret (v := .agg #[.int .u8 x.1.p, .string ⟨#[]⟩, .int .u8 d.k, .int .i64 d.n, .string (st d.s)]) (by simp [results, Tryz.results119, go_sem, a2s0, a2s1, a2s2, a2s3, a2s4, b2s0, b2s1, b2s2, b2s3, b2s4] <;> rfl) rfl ?_
  refine fin_ans (x := (⟨x.1.p, [], d⟩ : TestD)) (T := w.heap.size + 2) (rest := rest) hr G2.out ?_ (by rw [single_pred K10.out, thn_of (by have := nxt_cons x (m); rwa [(by have := K10.out; simpa [isK] using this : x.1.k = 10)] at this), varR_no K9.out, thn_of hx]; rfl) (by first | exact hl | (simp; omega)) (fun _ => ⟨_, rfl, rfl⟩) HS2.out (by simp [no1])
  repeat (first | with_reducible exact Bx.refl _ _ | with_reducible refine Bx.setCell ?_ (bt_of (by omega) (by omega)) _ | with_reducible refine Bx.alloc ?_ _ | with_reducible refine Bx.drew ?_)
set_option maxHeartbeats 2000000 in
theorem test_nv (r : Nat) (y : TA) (m : List TA) (v : Value) (o : Bool) (w : World) (h : Rs w r v (y :: m) o) (hk : isK 10 ((y :: m).map Prod.fst) = false) (hv : y.1.k = 9) :
    Calls Tryz.prog 119 #[pR r] w (Ans (RAgg RTest) singleR no1 r w (y :: m) o) := by
  have hr := h.lt
  have F43a := field43a
  have F43b := field43b
  have HH : Hid (Rs w r v (y :: m) o) := h
  have k10 : isK 10 ((y :: m).map Prod.fst) = false := hk
  have k9 : isK 9 ((y :: m).map Prod.fst) = true := by simp [isK, hv]
  have K10 : Hid (isK 10 ((y :: m).map Prod.fst) = false) := k10
  have K9 : Hid (isK 9 ((y :: m).map Prod.fst) = true) := k9
  have CN := fun W hW => rnext_any r 10 (y :: m) v o W (h.below hW)
  rw [k10] at CN
  clear h hk hv k10
  have CY := fun W vv hh => take_yes r y m vv o W hh
  rw [(by have := K9.out; simpa [isK] using this : y.1.k = 9)] at CY
  unfold tkA at CY
  go_enter Tryz.func119, Tryz.ntmps119
  go_wp2_with (first | (go_at_call 83; refine (CN _ (bt (bxn _ _) (bxn _ _))).mono ?_; rintro e w1 ⟨rfl, hw⟩; obtain rfl := hw; clear CN) | (go_at_call 83; refine (rnext_any r 9 (y :: m) v o _ (HH.out.below (bt (bxn _ _) (bxn _ _)))).mono ?_; rw [k9]; rintro e w7 ⟨rfl, hw⟩; obtain rfl := hw; clear k9) | (go_at_call 58; refine (CY _ v (HH.out.below (bt (bxn _ _) (bxn _ _)))).mono ?_; rintro e w1 ⟨rfl, ⟨v1, hS1⟩, hF1⟩; clear CY; have y1 : w.heap.size + 1 + 1 ≤ w1.heap.size := (by have := hF1.size; simp at this; omega); obtain ⟨hc, hz⟩ := fr_box hF1; have a1s0 : w1.cell? ⟨w.heap.size, 0, none⟩ = some (.int .u8 0) := (by rw [hc _ _ (by simp <;> omega) (by omega)]; go_simp); have a1z0 : w1.frozen? ⟨w.heap.size, 0, none⟩ = false := (by rw [hz _ _ (by simp <;> omega) (by omega)]; go_simp); have a1s1 : w1.cell? ⟨w.heap.size, 1, none⟩ = some (.string ⟨#[]⟩) := (by rw [hc _ _ (by simp <;> omega) (by omega)]; go_simp); have a1z1 : w1.frozen? ⟨w.heap.size, 1, none⟩ = false := (by rw [hz _ _ (by simp <;> omega) (by omega)]; go_simp); have a1s2 : w1.cell? ⟨w.heap.size, 2, none⟩ = some (.int .u8 0) := (by rw [hc _ _ (by simp <;> omega) (by omega)]; go_simp); have a1z2 : w1.frozen? ⟨w.heap.size, 2, none⟩ = false := (by rw [hz _ _ (by simp <;> omega) (by omega)]; go_simp); have a1s3 : w1.cell? ⟨w.heap.size, 3, none⟩ = some (.int .i64 0) := (by rw [hc _ _ (by simp <;> omega) (by omega)]; go_simp); have a1z3 : w1.frozen? ⟨w.heap.size, 3, none⟩ = false := (by rw [hz _ _ (by simp <;> omega) (by omega)]; go_simp); have a1s4 : w1.cell? ⟨w.heap.size, 4, none⟩ = some (.string ⟨#[]⟩) := (by rw [hc _ _ (by simp <;> omega) (by omega)]; go_simp); have a1z4 : w1.frozen? ⟨w.heap.size, 4, none⟩ = false := (by rw [hz _ _ (by simp <;> omega) (by omega)]; go_simp); have b1s0 : w1.cell? ⟨(w.heap.size + 1), 0, none⟩ = some (.int .u8 0) := (by rw [hc _ _ (by simp <;> omega) (by omega)]; go_simp); have b1z0 : w1.frozen? ⟨(w.heap.size + 1), 0, none⟩ = false := (by rw [hz _ _ (by simp <;> omega) (by omega)]; go_simp); have b1s1 : w1.cell? ⟨(w.heap.size + 1), 1, none⟩ = some (.string ⟨#[]⟩) := (by rw [hc _ _ (by simp <;> omega) (by omega)]; go_simp); have b1z1 : w1.frozen? ⟨(w.heap.size + 1), 1, none⟩ = false := (by rw [hz _ _ (by simp <;> omega) (by omega)]; go_simp); have b1s2 : w1.cell? ⟨(w.heap.size + 1), 2, none⟩ = some (.int .u8 0) := (by rw [hc _ _ (by simp <;> omega) (by omega)]; go_simp); have b1z2 : w1.frozen? ⟨(w.heap.size + 1), 2, none⟩ = false := (by rw [hz _ _ (by simp <;> omega) (by omega)]; go_simp); have b1s3 : w1.cell? ⟨(w.heap.size + 1), 3, none⟩ = some (.int .i64 0) := (by rw [hc _ _ (by simp <;> omega) (by omega)]; go_simp); have b1z3 : w1.frozen? ⟨(w.heap.size + 1), 3, none⟩ = false := (by rw [hz _ _ (by simp <;> omega) (by omega)]; go_simp); have b1s4 : w1.cell? ⟨(w.heap.size + 1), 4, none⟩ = some (.string ⟨#[]⟩) := (by rw [hc _ _ (by simp <;> omega) (by omega)]; go_simp); have b1z4 : w1.frozen? ⟨(w.heap.size + 1), 4, none⟩ = false := (by rw [hz _ _ (by simp <;> omega) (by omega)]; go_simp); clear hc hz; have HS1 : Hid (Rs w1 r v1 m o) := hS1; have G1 : Hid (Fr r w.heap.size w w1) := (fb (bt (bxn _ _) (bxn _ _)) hF1); clear hS1))
  refine bodyPost_ret (v := .agg #[.int .u8 0, .string (st y.1.nm), .int .u8 0, .int .i64 0, .string ⟨#[]⟩]) (by simp [results, Tryz.results119, go_sem, a1s0, a1s1, a1s2, a1s3, a1s4, b1s0, b1s1, b1s2, b1s3, b1s4] <;> rfl) rfl ?_
  refine fin_ans (x := (⟨0, y.1.nm, v0⟩ : TestD)) (T := w.heap.size + 2) (rest := m) hr G1.out ?_ (by rw [single_none K10.out, varR_yes K9.out, thn_of (by have := nxt_cons y m; rwa [(by have := K9.out; simpa [isK] using this : y.1.k = 9)] at this)]; rfl) (by simp <;> omega) (fun _ => ⟨_, rfl, rfl⟩) HS1.out (by simp [no1])
  repeat (first | with_reducible exact Bx.refl _ _ | with_reducible refine Bx.setCell ?_ (bt_of (by omega) (by omega)) _ | with_reducible refine Bx.alloc ?_ _ | with_reducible refine Bx.drew ?_)
set_option maxHeartbeats 2000000 in
theorem test_nn (r : Nat) (m : List TA) (v : Value) (o : Bool) (w : World) (h : Rs w r v (m) o) (hk : isK 10 ((m).map Prod.fst) = false) (hv : isK 9 ((m).map Prod.fst) = false) :
    Calls Tryz.prog 119 #[pR r] w (Ans (RAgg RTest) singleR no1 r w (m) o) := by
  have hr := h.lt
  have F43a := field43a
  have F43b := field43b
  have HH : Hid (Rs w r v (m) o) := h
  have k10 : isK 10 ((m).map Prod.fst) = false := hk
  have k9 : isK 9 ((m).map Prod.fst) = false := hv
  have K10 : Hid (isK 10 ((m).map Prod.fst) = false) := k10
  have K9 : Hid (isK 9 ((m).map Prod.fst) = false) := k9
  have CN := fun W hW => rnext_any r 10 (m) v o W (h.below hW)
  rw [k10] at CN
  clear h hk hv k10
  go_enter Tryz.func119, Tryz.ntmps119
  go_wp2_with (first | (go_at_call 83; refine (CN _ (bt (bxn _ _) (bxn _ _))).mono ?_; rintro e w1 ⟨rfl, hw⟩; obtain rfl := hw; clear CN) | (go_at_call 83; refine (rnext_any r 9 (m) v o _ (HH.out.below (bt (bxn _ _) (bxn _ _)))).mono ?_; rw [k9]; rintro e w7 ⟨rfl, hw⟩; obtain rfl := hw; clear k9) | (go_at_call 99; refine Ans.use (val_ans r m v o _ (HH.out.below (bt (bxn _ _) (bxn _ _)))) (fun w' hf hn => ⟨rfl, Ans.no (fb (bt (bxn _ _) (bxn _ _)) hf) (by rw [single_none K10.out, varR_no K9.out, thn_none hn])⟩) ?_; rintro d rest val v1 w1 hF1 hx hl ⟨cs, rfl, hR⟩ hS1; have hcs : cs = [.int .u8 d.k, .int .i64 d.n, .string (st d.s)] := hR; clear hR; subst hcs; have y1 : w.heap.size + 1 + 1 ≤ w1.heap.size := (by have := hF1.size; simp at this; omega); obtain ⟨hc, hz⟩ := fr_box hF1; have a1s0 : w1.cell? ⟨w.heap.size, 0, none⟩ = some (.int .u8 0) := (by rw [hc _ _ (by simp <;> omega) (by omega)]; go_simp); have a1z0 : w1.frozen? ⟨w.heap.size, 0, none⟩ = false := (by rw [hz _ _ (by simp <;> omega) (by omega)]; go_simp); have a1s1 : w1.cell? ⟨w.heap.size, 1, none⟩ = some (.string ⟨#[]⟩) := (by rw [hc _ _ (by simp <;> omega) (by omega)]; go_simp); have a1z1 : w1.frozen? ⟨w.heap.size, 1, none⟩ = false := (by rw [hz _ _ (by simp <;> omega) (by omega)]; go_simp); have a1s2 : w1.cell? ⟨w.heap.size, 2, none⟩ = some (.int .u8 0) := (by rw [hc _ _ (by simp <;> omega) (by omega)]; go_simp); have a1z2 : w1.frozen? ⟨w.heap.size, 2, none⟩ = false := (by rw [hz _ _ (by simp <;> omega) (by omega)]; go_simp); have a1s3 : w1.cell? ⟨w.heap.size, 3, none⟩ = some (.int .i64 0) := (by rw [hc _ _ (by simp <;> omega) (by omega)]; go_simp); have a1z3 : w1.frozen? ⟨w.heap.size, 3, none⟩ = false := (by rw [hz _ _ (by simp <;> omega) (by omega)]; go_simp); have a1s4 : w1.cell? ⟨w.heap.size, 4, none⟩ = some (.string ⟨#[]⟩) := (by rw [hc _ _ (by simp <;> omega) (by omega)]; go_simp); have a1z4 : w1.frozen? ⟨w.heap.size, 4, none⟩ = false := (by rw [hz _ _ (by simp <;> omega) (by omega)]; go_simp); have b1s0 : w1.cell? ⟨(w.heap.size + 1), 0, none⟩ = some (.int .u8 0) := (by rw [hc _ _ (by simp <;> omega) (by omega)]; go_simp); have b1z0 : w1.frozen? ⟨(w.heap.size + 1), 0, none⟩ = false := (by rw [hz _ _ (by simp <;> omega) (by omega)]; go_simp); have b1s1 : w1.cell? ⟨(w.heap.size + 1), 1, none⟩ = some (.string ⟨#[]⟩) := (by rw [hc _ _ (by simp <;> omega) (by omega)]; go_simp); have b1z1 : w1.frozen? ⟨(w.heap.size + 1), 1, none⟩ = false := (by rw [hz _ _ (by simp <;> omega) (by omega)]; go_simp); have b1s2 : w1.cell? ⟨(w.heap.size + 1), 2, none⟩ = some (.int .u8 0) := (by rw [hc _ _ (by simp <;> omega) (by omega)]; go_simp); have b1z2 : w1.frozen? ⟨(w.heap.size + 1), 2, none⟩ = false := (by rw [hz _ _ (by simp <;> omega) (by omega)]; go_simp); have b1s3 : w1.cell? ⟨(w.heap.size + 1), 3, none⟩ = some (.int .i64 0) := (by rw [hc _ _ (by simp <;> omega) (by omega)]; go_simp); have b1z3 : w1.frozen? ⟨(w.heap.size + 1), 3, none⟩ = false := (by rw [hz _ _ (by simp <;> omega) (by omega)]; go_simp); have b1s4 : w1.cell? ⟨(w.heap.size + 1), 4, none⟩ = some (.string ⟨#[]⟩) := (by rw [hc _ _ (by simp <;> omega) (by omega)]; go_simp); have b1z4 : w1.frozen? ⟨(w.heap.size + 1), 4, none⟩ = false := (by rw [hz _ _ (by simp <;> omega) (by omega)]; go_simp); clear hc hz; have HS1 : Hid (Rs w1 r v1 rest (o || no1 d)) := hS1; have G1 : Hid (Fr r w.heap.size w w1) := (fb (bt (bxn _ _) (bxn _ _)) hF1); clear hS1))
  refine bodyPost_ret (v := .agg #[.int .u8 0, .string ⟨#[]⟩, .int .u8 d.k, .int .i64 d.n, .string (st d.s)]) (by simp [results, Tryz.results119, go_sem, a1s0, a1s1, a1s2, a1s3, a1s4, b1s0, b1s1, b1s2, b1s3, b1s4] <;> rfl) rfl ?_
  refine fin_ans (x := (⟨0, [], d⟩ : TestD)) (T := w.heap.size + 2) (rest := rest) hr G1.out ?_ (by rw [single_none K10.out, varR_no K9.out, thn_of hx]; rfl) (by first | exact hl | (simp; omega)) (fun _ => ⟨_, rfl, rfl⟩) HS1.out (by simp [no1])
  repeat (first | with_reducible exact Bx.refl _ _ | with_reducible refine Bx.setCell ?_ (bt_of (by omega) (by omega)) _ | with_reducible refine Bx.alloc ?_ _ | with_reducible refine Bx.drew ?_)
theorem test_ans (r : Nat) (l : List TA) (v : Value) (o : Bool) (w : World) (h : Rs w r v l o) :
    Calls Tryz.prog 119 #[pR r] w (Ans (RAgg RTest) singleR no1 r w l o) := by
  cases hk : isK 10 (l.map Prod.fst) with
  | true =>
    obtain ⟨x, m, rfl, hx⟩ := isK_cons hk
    cases hv : isK 9 (m.map Prod.fst) with
    | true =>
      obtain ⟨y, m, rfl, hy⟩ := isK_cons hv
      exact test_pv r x y m v o w h hx hy
    | false => exact test_pn r x m v o w h hx hv
  | false =>
    cases hv : isK 9 (l.map Prod.fst) with
    | true =>
      obtain ⟨y, m, rfl, hy⟩ := isK_cons hv
      exact test_nv r y m v o w h hk hy
    | false => exact test_nn r l v o w h hk hv
end Go.Proofs.YtemacdimdpnkeaaGreatDoor
namespace Go.Proofs.YtemacdimdpnkeaaGreatDoor
set_option maxRecDepth 20000
open Go.RowKit
set_option linter.unusedVariables false
set_option linter.unusedSimpArgs false
theorem infoTest : (Tryz.prog.info? (tyK 3)).map (fun i => (i.zero, i.size, i.bytes)) = some (some (.agg #[.int .u8 0, .string ByteArray.empty, .int .u8 0, .int .i64 0, .string ByteArray.empty]), 5, 56) := by kernel_rfl
set_option maxHeartbeats 4000000 in
theorem sevTest (r : Nat) (e : Int) (most : Nat) (l : List TA) (v : Value) (o : Bool) (w : World) (h : Rs w r v l o) (hl : l.length ≤ 100000) :
    Calls Tryz.prog 131 #[pR r, .int .u8 e, .int .i64 most, .func (.func 119) #[pR r] #[]] w (Ans (RowP 3 5 RTest) (sevL e singleR) (fun xs => xs.any no1 || decide (most < xs.length)) r w l o) := by
  have hr := h.lt
  have HL : Hid (l.length ≤ 100000) := hl
  have H0 : Hid (Rs w r v l o) := h
  clear h hl
  go_enter Tryz.func131, Tryz.ntmps131
  go_wp2
  go_loopw [9] (fun v9 wr => ∃ (css : List (List Value)) (xs : List TestD) (m : List TA) (v' : Value), OwnG 3 5 wr w.heap.size v9 css ∧ All2 (RTest wr w.heap.size) css xs ∧ Rs wr r v' m (o || xs.any no1) ∧ Fr r w.heap.size w wr ∧ m.length + xs.length ≤ l.length ∧ sevL e singleR (l.map Prod.fst) = (sevL e singleR (m.map Prod.fst)).map fun p => (xs ++ p.1, p.2)) (fun _ wr => tokLen wr r)
  case atStart => exact ⟨[], [], l, v, OwnG.nil _ _ _ _, trivial, by rw [List.any_nil, Bool.or_false]; exact H0.out, Fr.refl _ _ _, by simp, sev_start _ _ _⟩
  case round =>
    obtain ⟨css, xs, m, v', hown, hall, hS, hF, hlen, heq⟩ := hrel
    have HC : Hid (css.length = xs.length) := hall.len
    have HO : Hid (OwnG 3 5 wr w.heap.size u9 css) := hown
    have HA : Hid (All2 (RTest wr w.heap.size) css xs) := hall
    have HE : Hid (sevL e singleR (l.map Prod.fst) = (sevL e singleR (m.map Prod.fst)).map fun p => (xs ++ p.1, p.2)) := heq
    have HS : Hid (Rs wr r v' m (o || xs.any no1)) := hS
    have HF : Hid (Fr r w.heap.size w wr) := hF
    obtain ⟨a9, c9, rfl⟩ := hown.shape
    have hwz : w.heap.size ≤ wr.heap.size := hF.size
    clear hown hall heq hS hF H0
    cases hk : isK e (m.map Prod.fst) with
    | true =>
      obtain ⟨x, m', rfl, rfl⟩ := isK_cons hk
      have CP := pass_yes r x m' v' _ wr HS.out
      have HQ : Hid (sevL x.1.k singleR (l.map Prod.fst) = some (xs, m'.map Prod.fst)) := sev_stop HE.out hk
      have CM := fun W v'' oo hh => atMost_any r most css.length m' v'' oo W hh
      go_wp2_with (first | (go_at_call 102; refine CP.mono ?_; rintro e w1 ⟨rfl, ⟨v1, hS1⟩, hF1⟩; clear CP; have HS1 : Hid (Rs w1 r v1 m' (o || xs.any no1)) := hS1; clear hS1) | (go_at_call 62; refine (CM _ _ _ HS1.out).mono ?_; rintro e w2 ⟨rfl, hS2, hF2⟩; clear CM; have HS2 : Hid (Rs w2 r v1 m' ((o || xs.any no1) || decide ((most : Int) < css.length))) := hS2; clear hS2))
      refine bodyPost_ret (v := .slice a9 css.length c9) (by simp [results, Tryz.results131, go_sem] <;> rfl) rfl ?_
      have F2 : Fr r wr.heap.size wr w2 := ft hF1 hF2
      refine Ans.yes (ft HF.out F2) HQ.out ?_ ⟨css, ((HO.out.fr hr F2).sl), part_test.all HA.out F2.size (blk_fr hr F2)⟩ HS2.out ?_
      · simp at hlen; omega
      · rw [Bool.or_assoc]; congr 2; rw [HC.out]; exact decide_eq_decide.2 (by omega)
    | false =>
      have CP := pass_no r e m v' _ wr HS.out hk
      have CQ := test_ans r m v' _ wr HS.out
      have HK : Hid (isK e (m.map Prod.fst) = false) := hk
      clear hk
      have hfn : ∀ w, Sem.run Tryz.prog (callFunc 137 #[pR r]) w = .ok (.enter 137 #[pR r]) w := fun _ => rfl
      go_wp2_with (first | (go_at_call 102; refine CP.mono ?_; rintro e w1 ⟨rfl, hw⟩; obtain rfl := hw.symm; clear CP) | (go_at_call 119; refine Ans.use CQ (fun w' hf hn => ⟨rfl, Ans.no (ft HF.out hf) (sev_fail HE.out HK.out hn)⟩) ?_; rintro x rest val v2 w2 hF2 hx hl2 ⟨cs, rfl, hR⟩ hS2; have hcs : cs = [.int .u8 x.p, .string (st x.v), .int .u8 x.x.k, .int .i64 x.x.n, .string (st x.x.s)] := hR; have HR : Hid (RTest w2 wr.heap.size (clT x) x) := (rfl : (clT x) = (clT x)); clear hR; subst hcs; clear CQ) | (at_builtin; refine wp_app_g (K := 3) Tryz.underlying43 infoTest rfl (by decide) (by decide) rfl _ _ rfl w.heap.size (.slice a9 css.length c9) css (clT x) rfl ((HO.out.fr hr hF2).below (bxn _ _)) ⟨_, 0, none⟩ 1 rfl (part_test.len HR.out) (lit_cells _ _ _) (part_test.one HR.out) (by have := HL.out; have := HC.out; omega) (Nat.le_trans (Nat.le_trans hwz hF2.size) (bxn _ _).size) ?_; rintro v3 w3 ho3 hg3 hb3; have HO3 : Hid (OwnG 3 5 w3 w.heap.size v3 (css ++ [(clT x)])) := ho3; have HG3 : Hid (∀ k b, Blk _ w.heap.size 3 k b → w3.heap[b]? = _) := blk_grown (by decide) ((HO.out.fr hr hF2).below (bxn _ _)) hg3; have HB3 : Hid (Below w.heap.size _ w3) := hb3; clear ho3 hg3 hb3))
      go_roundw
      case rel =>
        refine ⟨css ++ [(clT x)], xs ++ [x], rest, v2, HO3.out, ?_, ?_, ?_, ?_, sev_step singleR_eats HE.out HK.out hx⟩
        · refine All2.snoc (part_test.keep (part_test.keep (part_test.low HR.out hwz) (bxn _ _).size (blk_below (bxn _ _))) HB3.out.size HG3.out) (part_test.all (part_test.all (part_test.all HA.out hF2.size (blk_fr hr hF2)) (bxn _ _).size (blk_below (bxn _ _))) HB3.out.size HG3.out)
        · rw [List.any_append, ← Bool.or_assoc]
          have := (hS2.below (bxn _ _)).bel hr HB3.out
          simpa using this
        · exact (ft HF.out (fo hF2 (bxn _ _))).trans (Fr.of HB3.out)
        · have := singleR_eats.len hx; simp at this ⊢; omega
      case measure =>
        have h1 := HS.out
        have h2 : Rs w3 r v2 rest _ := (hS2.below (bxn _ _)).bel hr HB3.out
        rw [h1.toks, h2.toks]
        have := singleR_eats.len hx
        simp at this; omega
theorem somTest (r : Nat) (e : Int) (most : Nat) (l : List TA) (v : Value) (o : Bool) (w : World) (h : Rs w r v l o) (hl : l.length ≤ 100000) :
    Calls Tryz.prog 118 #[pR r, .int .u8 e, .int .i64 most, .func (.func 119) #[pR r] #[]] w (Ans (RowP 3 5 RTest) (somL e singleR) (fun xs => xs.any no1 || decide (most < xs.length)) r w l o) := by
  have CS := sevTest r e most l v o w h hl
  clear h hl
  go_enter Tryz.func118, Tryz.ntmps118
  go_wp2_with (go_at_call 131; refine Ans.use CS (fun w' hf hn => ⟨rfl, Ans.no hf (som_none hn)⟩) ?_; rintro xs rest val v2 w2 hF2 hx hl2 hR hS2; have HR : Hid (RowP 3 5 RTest w2 w.heap.size val xs) := hR; obtain ⟨a9, c9, rfl⟩ := hR.shape; clear CS hR)
  · have hn : xs = [] := List.eq_nil_of_length_eq_zero (by have := ‹((xs.length : Int) == 0) = true›; simpa using this)
    subst hn
    exact ⟨rfl, Ans.no hF2 (som_nil hx)⟩
  · have hn : xs ≠ [] := by
      intro e
      have := ‹((xs.length : Int) == 0) = false›
      rw [e] at this; simp at this
    refine bodyPost_ret (v := .slice a9 xs.length c9) (by simp [results, Tryz.results118, go_sem] <;> rfl) rfl ?_
    exact Ans.yes hF2 (som_cons hn hx) hl2 HR.out hS2 rfl
theorem all2_map {α β : Type} {f : α → β} : ∀ {bs : List β} {as_ : List α}, All2 (fun b a => b = f a) bs as_ → bs = as_.map f
  | [], [], _ => rfl
  | _ :: _, _ :: _, h => by rw [List.map_cons, ← all2_map h.2, ← h.1]
  | [], _ :: _, h => h.elim
  | _ :: _, [], h => h.elim
theorem all2_fst {α β γ : Type} {R : β → α → Prop} : ∀ {bs : List β} {as_ : List (α × γ)}, All2 (fun b a => R b a.1) bs as_ → All2 R bs (as_.map Prod.fst)
  | [], [], _ => trivial
  | _ :: _, _ :: _, h => ⟨h.1, all2_fst h.2⟩
  | [], _ :: _, h => h.elim
  | _ :: _, [], h => h.elim
theorem sl_nil (n : Nat) (w : World) (Q : Nat → Prop) : SlW n w Q (.slice none 0 0) [] := ⟨none, 0, rfl, Nat.le_refl _, by decide, .inl rfl⟩
theorem row_nil {α : Type} (n : Nat) (R : World → List Value → α → Prop) (w : World) (Q : Nat → Prop) : Row n R w Q (.slice none 0 0) [] := ⟨[], sl_nil _ _ _, trivial⟩
section
variable {W : World} {B b J : Nat} {v : Value}
theorem blk_row {K : Nat} (hJ : K < J) (hb : B ≤ b) : ∀ k, (b ≤ k ∧ ∃ cs fz, W.heap[k]? = some (.cells cs (tyK K) fz)) → Blk W B J K k := fun k h => ⟨hJ, Nat.le_trans hb h.1, h.2⟩
theorem row_str {xs : List Str} (hJ : 1 < J) (h : RowP 1 1 RStr W b v xs) (hb : B ≤ b) : SlW 1 W (Blk W B J 1) v (xs.map clS) := by
  obtain ⟨css, h1, h2⟩ := h
  rw [← all2_map h2]; exact h1.mono (blk_row hJ hb)
theorem row_val {xs : List VD} (hJ : 2 < J) (h : RowP 2 3 RVal W b v xs) (hb : B ≤ b) : SlW 3 W (Blk W B J 2) v (xs.map clV) := by
  obtain ⟨css, h1, h2⟩ := h
  rw [← all2_map h2]; exact h1.mono (blk_row hJ hb)
theorem row_test {xs : List TestD} (hJ : 3 < J) (h : RowP 3 5 RTest W b v xs) (hb : B ≤ b) : SlW 5 W (Blk W B J 3) v (xs.map clT) := by
  obtain ⟨css, h1, h2⟩ := h
  rw [← all2_map h2]; exact h1.mono (blk_row hJ hb)
theorem blk_up {K : Nat} (hJ : K ≤ J) (hb : B ≤ b) : ∀ k c, Blk W b K k c → Blk W B J k c := fun k c h => ⟨Nat.lt_of_lt_of_le h.1 hJ, Nat.le_trans hb h.2.1, h.2.2⟩
theorem row_attr {xs : List AttrD} (hJ : 7 < J) (h : RowP 7 3 RAttr W b v xs) (hb : B ≤ b) : Row 3 (ReA (Blk W B J)) W (Blk W B J 7) v xs := by
  obtain ⟨css, h1, h2⟩ := h
  exact ⟨css, h1.mono (blk_row hJ hb), h2.map fun _ _ => ReA.mono (blk_up (by omega) hb)⟩
theorem row_cond {xs : List CondD} (hJ : 8 < J) (h : RowP 8 3 RCond W b v xs) (hb : B ≤ b) : Row 3 (ReC (Blk W B J)) W (Blk W B J 8) v xs := by
  obtain ⟨css, h1, h2⟩ := h
  exact ⟨css, h1.mono (blk_row hJ hb), h2.map fun _ _ => ReC.mono (blk_up (by omega) hb)⟩
theorem row_class {xs : List ClassD} (hJ : 10 < J) (h : RowP 10 2 RClass W b v xs) (hb : B ≤ b) : Row 2 (ReK (Blk W B J)) W (Blk W B J 10) v xs := by
  obtain ⟨css, h1, h2⟩ := h
  exact ⟨css, h1.mono (blk_row hJ hb), h2.map fun _ _ => ReK.mono (blk_up (by omega) hb)⟩
theorem row_set {xs : List (SetD × Nat)} (hJ : 5 < J) (h : RowP 5 2 RSet W b v xs) (hb : B ≤ b) : Row 2 (ReS (Blk W B J)) W (Blk W B J 5) v (xs.map Prod.fst) := by
  obtain ⟨css, h1, h2⟩ := h
  exact ⟨css, h1.mono (blk_row hJ hb), all2_fst (h2.map fun _ _ => ReS.mono (blk_up (by omega) hb))⟩
theorem row_expr {xs : List (List ItemD × Nat)} (hJ : 6 < J) (h : RowP 6 1 RExpr W b v xs) (hb : B ≤ b) : Row 1 (ReE (Blk W B J)) W (Blk W B J 6) v (xs.map Prod.fst) := by
  obtain ⟨css, h1, h2⟩ := h
  exact ⟨css, h1.mono (blk_row hJ hb), all2_fst (h2.map fun _ _ => ReE.mono (blk_up (by omega) hb))⟩
theorem row_act {xs : List (ActD × Nat)} (hJ : 9 < J) (h : RowP 9 6 RAct W b v xs) (hb : B ≤ b) : Row 6 (ReT (Blk W B J)) W (Blk W B J 9) v (xs.map Prod.fst) := by
  obtain ⟨css, h1, h2⟩ := h
  exact ⟨css, h1.mono (blk_row hJ hb), all2_fst (h2.map fun _ _ => ReT.mono (blk_up (by omega) hb))⟩
end
theorem rowP_lit {α : Type} {K n : Nat} {R : World → Nat → List Value → α → Prop} (hp : Part K n R) {w : World} {base : Nat} {c : List Value} {x : α} (hR : R w base c x) (hb : base ≤ w.heap.size) : RowP K n R (w.alloc (.cells c.toArray (tyK K))) base (.slice (some ⟨w.heap.size, 0, none⟩) 1 1) [x] := by
  refine ⟨[c], ⟨_, 1, rfl, Nat.le_refl _, by decide, .inr ⟨w.heap.size, 0, rfl, by simp, ⟨hb, _, _, heap_alloc_new w _⟩, fun i j hi hj => ?_⟩⟩, ⟨hp.keep hR (bxn _ _).size (blk_below (bxn _ _)), trivial⟩⟩
  obtain rfl : i = 0 := by simpa using hi
  have hl := hp.len hR
  rw [Nat.zero_add, Nat.zero_mul, Nat.zero_add]
  have := lit_cells w c (tyK K) j (c[j]'(by omega)) (by simp)
  rw [add_plain, Nat.zero_add] at this
  rw [this]; simp
end Go.Proofs.YtemacdimdpnkeaaGreatDoor
namespace Go.Proofs.YtemacdimdpnkeaaGreatDoor
set_option maxRecDepth 20000
open Go.RowKit
set_option linter.unusedVariables false
set_option linter.unusedSimpArgs false
def ovL {α : Type} (ov : α → Bool) (m : Nat) (xs : List α) : Bool := xs.any ov || decide (m < xs.length)
theorem any_no1 {α : Type} (xs : List α) : xs.any no1 = false := by
  rw [List.any_eq_false]; intro x _; simp [no1]
theorem nxt_at {k : Int} {x : TA} {m : List TA} (h : x.1.k = k) : nxt k ((x :: m).map Prod.fst) = some (x.1, m.map Prod.fst) := by rw [← h]; exact nxt_cons x m
theorem isK_at {k : Int} {x : TA} {m : List TA} (h : x.1.k = k) : isK k ((x :: m).map Prod.fst) = true := by simp [isK, h]
theorem attr_p {x : TA} {m : List TA} (h : x.1.k = 8) : attrR ((x :: m).map Prod.fst) = askP x.1.nm (m.map Prod.fst) := by
  unfold attrR; rw [thn_of (nxt_at h), askR_is]
theorem ask_ones {a : Str} {y : TA} {m : List TA} (h : y.1.k = 4) : askP a ((y :: m).map Prod.fst) = thn (somL 5 valR) (fun vs => ret ⟨a, vs, []⟩) (m.map Prod.fst) := by
  unfold askP; rw [if_pos (isK_at h), thn_of (nxt_at h)]
theorem ask_tests {a : Str} {y : TA} {m : List TA} (h : y.1.k = 2) : askP a ((y :: m).map Prod.fst) = thn (somL 3 singleR) (fun xs => ret ⟨a, [], xs⟩) (m.map Prod.fst) := by
  unfold askP; rw [if_neg (by rw [isK_two (isK_at h) (by decide)]; decide), if_pos (isK_at h), thn_of (nxt_at h)]
theorem ask_one {a : Str} {l : List Tk} (h4 : isK 4 l = false) (h2 : isK 2 l = false) : askP a l = thn singleR (fun x => ret ⟨a, [], [x]⟩) l := by
  unfold askP; rw [if_neg (by rw [h4]; decide), if_neg (by rw [h2]; decide)]
theorem rowP_lit2 {α : Type} {K n N : Nat} {R : World → Nat → List Value → α → Prop} (hp : Part K n R) {w : World} {base : Nat} {c : List Value} {x : α} (hN : w.heap.size = N) (hR : R w base c x) (hb : base ≤ N) : RowP K n R (w.alloc (.cells c.toArray (tyK K))) base (.slice (some ⟨N, 0, none⟩) 1 1) [x] := by
  subst hN; exact rowP_lit hp hR hb
set_option maxHeartbeats 4000000 in
theorem attr_ones (r : Nat) (x y : TA) (m : List TA) (v : Value) (o : Bool) (w : World) (h : Rs w r v (x :: y :: m) o) (hl : (x :: y :: m).length ≤ 100000) (hx : x.1.k = 8) (hy : y.1.k = 4) :
    Calls Tryz.prog 104 #[pR r] w (Ans (RAgg RAttr) attrR ovA r w (x :: y :: m) o) := by
  have hr := h.lt
  have F43 := field43
  have F43a := field43a
  have F43b := field43b
  have HH : Hid (Rs w r v (x :: y :: m) o) := h
  have HL : Hid ((x :: y :: m).length ≤ 100000) := hl
  have HX8 : Hid (x.1.k = 8) := hx
  have HY : Hid (y.1.k = 4) := hy
  have CT1 := fun W vv hh => take_yes r x (y :: m) vv (o) W hh
  rw [hx] at CT1
  unfold tkA at CT1
  have CT2 := fun W vv hh => pass_yes r y (m) vv (o) W hh
  rw [hy] at CT2
  clear h hl
  clear hx hy
  go_enter Tryz.func104, Tryz.ntmps104
  go_wp2_with (first | (go_at_call 58; refine (CT1 _ v (HH.out.below (bxn _ _))).mono ?_; rintro e w1 ⟨rfl, ⟨v1, hS1⟩, hF1⟩; clear CT1; have y1 : w.heap.size + 1 ≤ w1.heap.size := (by have := hF1.size; first | omega | (simp at this; omega)); obtain ⟨hc, hz⟩ := fr_box hF1; have al1 : w.heap.size < w1.heap.size := (by omega); have a1s0 : w1.cell? ⟨w.heap.size, 0, none⟩ = some (.string ⟨#[]⟩) := (by rw [hc _ _ (by first | omega | (simp <;> omega)) (by omega)]; go_simp); have a1z0 : w1.frozen? ⟨w.heap.size, 0, none⟩ = false := (by rw [hz _ _ (by first | omega | (simp <;> omega)) (by omega)]; go_simp); have a1s1 : w1.cell? ⟨w.heap.size, 1, none⟩ = some (.slice none 0 0) := (by rw [hc _ _ (by first | omega | (simp <;> omega)) (by omega)]; go_simp); have a1z1 : w1.frozen? ⟨w.heap.size, 1, none⟩ = false := (by rw [hz _ _ (by first | omega | (simp <;> omega)) (by omega)]; go_simp); have a1s2 : w1.cell? ⟨w.heap.size, 2, none⟩ = some (.slice none 0 0) := (by rw [hc _ _ (by first | omega | (simp <;> omega)) (by omega)]; go_simp); have a1z2 : w1.frozen? ⟨w.heap.size, 2, none⟩ = false := (by rw [hz _ _ (by first | omega | (simp <;> omega)) (by omega)]; go_simp); clear hc hz; have HS1 : Hid (Rs w1 r v1 (y :: m) (o)) := hS1; have G1 : Hid (Fr r w.heap.size w w1) := (fb (bxn _ _) hF1); clear hS1) | (go_at_call 102; refine (CT2 _ v1 (HS1.out.bx (T := w1.heap.size + 1) hr (by repeat (first | with_reducible exact Bx.refl _ _ | with_reducible refine Bx.setCell ?_ (bt_of (by omega) (by omega)) _ | with_reducible refine Bx.alloc ?_ _ | with_reducible refine Bx.drew ?_)))).mono ?_; rintro e w2 ⟨rfl, ⟨v2, hS2⟩, hF2⟩; clear CT2; have y2 : w1.heap.size + 1 ≤ w2.heap.size := (by have := hF2.size; first | omega | (simp at this; omega)); obtain ⟨hc, hz⟩ := fr_box hF2; have al2 : w.heap.size < w2.heap.size := (by omega); have bl2 : w1.heap.size < w2.heap.size := (by omega); have a2s0 : w2.cell? ⟨w.heap.size, 0, none⟩ = some (.string ⟨#[]⟩) := (by rw [hc _ _ (by first | omega | (simp <;> omega)) (by omega)]; go_simp); have a2z0 : w2.frozen? ⟨w.heap.size, 0, none⟩ = false := (by rw [hz _ _ (by first | omega | (simp <;> omega)) (by omega)]; go_simp); have a2s1 : w2.cell? ⟨w.heap.size, 1, none⟩ = some (.slice none 0 0) := (by rw [hc _ _ (by first | omega | (simp <;> omega)) (by omega)]; go_simp); have a2z1 : w2.frozen? ⟨w.heap.size, 1, none⟩ = false := (by rw [hz _ _ (by first | omega | (simp <;> omega)) (by omega)]; go_simp); have a2s2 : w2.cell? ⟨w.heap.size, 2, none⟩ = some (.slice none 0 0) := (by rw [hc _ _ (by first | omega | (simp <;> omega)) (by omega)]; go_simp); have a2z2 : w2.frozen? ⟨w.heap.size, 2, none⟩ = false := (by rw [hz _ _ (by first | omega | (simp <;> omega)) (by omega)]; go_simp); have b2s0 : w2.cell? ⟨w1.heap.size, 0, none⟩ = some (.string (st x.1.nm)) := (by rw [hc _ _ (by first | omega | (simp <;> omega)) (by omega)]; go_simp); have b2z0 : w2.frozen? ⟨w1.heap.size, 0, none⟩ = false := (by rw [hz _ _ (by first | omega | (simp <;> omega)) (by omega)]; go_simp); have b2s1 : w2.cell? ⟨w1.heap.size, 1, none⟩ = some (.slice none 0 0) := (by rw [hc _ _ (by first | omega | (simp <;> omega)) (by omega)]; go_simp); have b2z1 : w2.frozen? ⟨w1.heap.size, 1, none⟩ = false := (by rw [hz _ _ (by first | omega | (simp <;> omega)) (by omega)]; go_simp); have b2s2 : w2.cell? ⟨w1.heap.size, 2, none⟩ = some (.slice none 0 0) := (by rw [hc _ _ (by first | omega | (simp <;> omega)) (by omega)]; go_simp); have b2z2 : w2.frozen? ⟨w1.heap.size, 2, none⟩ = false := (by rw [hz _ _ (by first | omega | (simp <;> omega)) (by omega)]; go_simp); clear hc hz; have HS2 : Hid (Rs w2 r v2 (m) (o)) := hS2; have G2 : Hid (Fr r w.heap.size w w2) := (ft (fin_w (T := w1.heap.size + 1) hr G1.out (Nat.le_refl _) (by repeat (first | with_reducible exact Bx.refl _ _ | with_reducible refine Bx.setCell ?_ (bt_of (by omega) (by omega)) _ | with_reducible refine Bx.alloc ?_ _ | with_reducible refine Bx.drew ?_))) hF2); clear hS2) | (go_at_call 117; refine Ans.use (somVal r 5 8 (m) v2 (o) _ (HS2.out.bx (T := w1.heap.size + 1) hr (by repeat (first | with_reducible exact Bx.refl _ _ | with_reducible refine Bx.setCell ?_ (bt_of (by omega) (by omega)) _ | with_reducible refine Bx.alloc ?_ _ | with_reducible refine Bx.drew ?_))) (by have := HL.out; simp at this; omega)) (fun w' hf hn => ⟨rfl, Ans.no (ft (fin_w (T := w1.heap.size + 1) hr G2.out (Nat.le_refl _) (by repeat (first | with_reducible exact Bx.refl _ _ | with_reducible refine Bx.setCell ?_ (bt_of (by omega) (by omega)) _ | with_reducible refine Bx.alloc ?_ _ | with_reducible refine Bx.drew ?_))) hf) (by rw [attr_p HX8.out, ask_ones HY.out, thn_none hn])⟩) ?_; rintro xs q3 val3 v3 w3 hF3 hx3 hl3 hR hS3; obtain ⟨ba3, hbE, hba3⟩ : ∃ ba, ba = _ ∧ RowP 2 3 RVal w3 ba val3 xs := ⟨_, rfl, hR⟩; have R3_3 : Hid (RowP 2 3 RVal w3 ba3 val3 xs) := hba3; obtain ⟨a3, n3, c3, rfl⟩ := hR.like; have yb3 : w2.heap.size ≤ ba3 := (by rw [hbE]; first | omega | (simp <;> omega)); clear hR hba3 hbE; have y3 : w2.heap.size ≤ w3.heap.size := (by have := hF3.size; first | omega | (simp at this; omega)); obtain ⟨hc, hz⟩ := fr_box hF3; have al3 : w.heap.size < w3.heap.size := (by omega); have bl3 : w1.heap.size < w3.heap.size := (by omega); have a3s0 : w3.cell? ⟨w.heap.size, 0, none⟩ = some (.string ⟨#[]⟩) := (by rw [hc _ _ (by first | omega | (simp <;> omega)) (by omega)]; go_simp); have a3z0 : w3.frozen? ⟨w.heap.size, 0, none⟩ = false := (by rw [hz _ _ (by first | omega | (simp <;> omega)) (by omega)]; go_simp); have a3s1 : w3.cell? ⟨w.heap.size, 1, none⟩ = some (.slice none 0 0) := (by rw [hc _ _ (by first | omega | (simp <;> omega)) (by omega)]; go_simp); have a3z1 : w3.frozen? ⟨w.heap.size, 1, none⟩ = false := (by rw [hz _ _ (by first | omega | (simp <;> omega)) (by omega)]; go_simp); have a3s2 : w3.cell? ⟨w.heap.size, 2, none⟩ = some (.slice none 0 0) := (by rw [hc _ _ (by first | omega | (simp <;> omega)) (by omega)]; go_simp); have a3z2 : w3.frozen? ⟨w.heap.size, 2, none⟩ = false := (by rw [hz _ _ (by first | omega | (simp <;> omega)) (by omega)]; go_simp); have b3s0 : w3.cell? ⟨w1.heap.size, 0, none⟩ = some (.string (st x.1.nm)) := (by rw [hc _ _ (by first | omega | (simp <;> omega)) (by omega)]; go_simp); have b3z0 : w3.frozen? ⟨w1.heap.size, 0, none⟩ = false := (by rw [hz _ _ (by first | omega | (simp <;> omega)) (by omega)]; go_simp); have b3s1 : w3.cell? ⟨w1.heap.size, 1, none⟩ = some (.slice none 0 0) := (by rw [hc _ _ (by first | omega | (simp <;> omega)) (by omega)]; go_simp); have b3z1 : w3.frozen? ⟨w1.heap.size, 1, none⟩ = false := (by rw [hz _ _ (by first | omega | (simp <;> omega)) (by omega)]; go_simp); have b3s2 : w3.cell? ⟨w1.heap.size, 2, none⟩ = some (.slice none 0 0) := (by rw [hc _ _ (by first | omega | (simp <;> omega)) (by omega)]; go_simp); have b3z2 : w3.frozen? ⟨w1.heap.size, 2, none⟩ = false := (by rw [hz _ _ (by first | omega | (simp <;> omega)) (by omega)]; go_simp); clear hc hz; have HS3 : Hid (Rs w3 r v3 q3 ((o) || ovL no1 8 xs)) := hS3; have G3 : Hid (Fr r w.heap.size w w3) := (ft (fin_w (T := w1.heap.size + 1) hr G2.out (Nat.le_refl _) (by repeat (first | with_reducible exact Bx.refl _ _ | with_reducible refine Bx.setCell ?_ (bt_of (by omega) (by omega)) _ | with_reducible refine Bx.alloc ?_ _ | with_reducible refine Bx.drew ?_))) hF3); clear hS3))
  refine bodyPost_ret (v := .agg #[.string (st x.1.nm), .slice a3 n3 c3, .slice none 0 0]) (by simp [results, Tryz.results104, go_sem, a3s0, a3s1, a3s2, b3s0, b3s1, b3s2, y1, y2, y3] <;> rfl) rfl ?_
  refine fin_ans (x := (⟨x.1.nm, xs, []⟩ : AttrD)) (T := w1.heap.size + 1) (rest := q3) hr G3.out ?_ (by rw [attr_p HX8.out, ask_ones HY.out, thn_of hx3]; rfl) (by simp at hl3 ⊢; omega) (fun HX => ⟨_, rfl, _, _, rfl, row_val (by decide) (RowP.bx part_val R3_3.out HX (by omega)) (by omega), sl_nil _ _ _⟩) HS3.out (by simp [ovL, ovA, any_no1])
  repeat (first | with_reducible exact Bx.refl _ _ | with_reducible refine Bx.setCell ?_ (bt_of (by omega) (by omega)) _ | with_reducible refine Bx.alloc ?_ _ | with_reducible refine Bx.drew ?_)
set_option maxHeartbeats 4000000 in
theorem attr_tests (r : Nat) (x y : TA) (m : List TA) (v : Value) (o : Bool) (w : World) (h : Rs w r v (x :: y :: m) o) (hl : (x :: y :: m).length ≤ 100000) (hx : x.1.k = 8) (hy : y.1.k = 2) :
    Calls Tryz.prog 104 #[pR r] w (Ans (RAgg RAttr) attrR ovA r w (x :: y :: m) o) := by
  have hr := h.lt
  have F43 := field43
  have F43a := field43a
  have F43b := field43b
  have HH : Hid (Rs w r v (x :: y :: m) o) := h
  have HL : Hid ((x :: y :: m).length ≤ 100000) := hl
  have HX8 : Hid (x.1.k = 8) := hx
  have HY : Hid (y.1.k = 2) := hy
  have CT1 := fun W vv hh => take_yes r x (y :: m) vv (o) W hh
  rw [hx] at CT1
  unfold tkA at CT1
  have KN1 : isK 4 ((y :: m).map Prod.fst) = false := isK_two (isK_at HY.out) (by decide)
  have CT2 := fun W vv hh => pass_yes r y (m) vv (o) W hh
  rw [hy] at CT2
  clear h hl
  clear hx hy
  go_enter Tryz.func104, Tryz.ntmps104
  go_wp2_with (first | (go_at_call 58; refine (CT1 _ v (HH.out.below (bxn _ _))).mono ?_; rintro e w1 ⟨rfl, ⟨v1, hS1⟩, hF1⟩; clear CT1; have y1 : w.heap.size + 1 ≤ w1.heap.size := (by have := hF1.size; first | omega | (simp at this; omega)); obtain ⟨hc, hz⟩ := fr_box hF1; have al1 : w.heap.size < w1.heap.size := (by omega); have a1s0 : w1.cell? ⟨w.heap.size, 0, none⟩ = some (.string ⟨#[]⟩) := (by rw [hc _ _ (by first | omega | (simp <;> omega)) (by omega)]; go_simp); have a1z0 : w1.frozen? ⟨w.heap.size, 0, none⟩ = false := (by rw [hz _ _ (by first | omega | (simp <;> omega)) (by omega)]; go_simp); have a1s1 : w1.cell? ⟨w.heap.size, 1, none⟩ = some (.slice none 0 0) := (by rw [hc _ _ (by first | omega | (simp <;> omega)) (by omega)]; go_simp); have a1z1 : w1.frozen? ⟨w.heap.size, 1, none⟩ = false := (by rw [hz _ _ (by first | omega | (simp <;> omega)) (by omega)]; go_simp); have a1s2 : w1.cell? ⟨w.heap.size, 2, none⟩ = some (.slice none 0 0) := (by rw [hc _ _ (by first | omega | (simp <;> omega)) (by omega)]; go_simp); have a1z2 : w1.frozen? ⟨w.heap.size, 2, none⟩ = false := (by rw [hz _ _ (by first | omega | (simp <;> omega)) (by omega)]; go_simp); clear hc hz; have HS1 : Hid (Rs w1 r v1 (y :: m) (o)) := hS1; have G1 : Hid (Fr r w.heap.size w w1) := (fb (bxn _ _) hF1); clear hS1) | (go_at_call 102; refine (pass_no r 4 (y :: m) v1 o _ (HS1.out.bx (T := w1.heap.size + 1) hr (by repeat (first | with_reducible exact Bx.refl _ _ | with_reducible refine Bx.setCell ?_ (bt_of (by omega) (by omega)) _ | with_reducible refine Bx.alloc ?_ _ | with_reducible refine Bx.drew ?_))) KN1).mono ?_; rintro e w7 ⟨rfl, hw⟩; obtain rfl := hw; clear KN1) | (go_at_call 102; refine (CT2 _ v1 (HS1.out.bx (T := w1.heap.size + 1) hr (by repeat (first | with_reducible exact Bx.refl _ _ | with_reducible refine Bx.setCell ?_ (bt_of (by omega) (by omega)) _ | with_reducible refine Bx.alloc ?_ _ | with_reducible refine Bx.drew ?_)))).mono ?_; rintro e w2 ⟨rfl, ⟨v2, hS2⟩, hF2⟩; clear CT2; have y2 : w1.heap.size + 1 ≤ w2.heap.size := (by have := hF2.size; first | omega | (simp at this; omega)); obtain ⟨hc, hz⟩ := fr_box hF2; have al2 : w.heap.size < w2.heap.size := (by omega); have bl2 : w1.heap.size < w2.heap.size := (by omega); have a2s0 : w2.cell? ⟨w.heap.size, 0, none⟩ = some (.string ⟨#[]⟩) := (by rw [hc _ _ (by first | omega | (simp <;> omega)) (by omega)]; go_simp); have a2z0 : w2.frozen? ⟨w.heap.size, 0, none⟩ = false := (by rw [hz _ _ (by first | omega | (simp <;> omega)) (by omega)]; go_simp); have a2s1 : w2.cell? ⟨w.heap.size, 1, none⟩ = some (.slice none 0 0) := (by rw [hc _ _ (by first | omega | (simp <;> omega)) (by omega)]; go_simp); have a2z1 : w2.frozen? ⟨w.heap.size, 1, none⟩ = false := (by rw [hz _ _ (by first | omega | (simp <;> omega)) (by omega)]; go_simp); have a2s2 : w2.cell? ⟨w.heap.size, 2, none⟩ = some (.slice none 0 0) := (by rw [hc _ _ (by first | omega | (simp <;> omega)) (by omega)]; go_simp); have a2z2 : w2.frozen? ⟨w.heap.size, 2, none⟩ = false := (by rw [hz _ _ (by first | omega | (simp <;> omega)) (by omega)]; go_simp); have b2s0 : w2.cell? ⟨w1.heap.size, 0, none⟩ = some (.string (st x.1.nm)) := (by rw [hc _ _ (by first | omega | (simp <;> omega)) (by omega)]; go_simp); have b2z0 : w2.frozen? ⟨w1.heap.size, 0, none⟩ = false := (by rw [hz _ _ (by first | omega | (simp <;> omega)) (by omega)]; go_simp); have b2s1 : w2.cell? ⟨w1.heap.size, 1, none⟩ = some (.slice none 0 0) := (by rw [hc _ _ (by first | omega | (simp <;> omega)) (by omega)]; go_simp); have b2z1 : w2.frozen? ⟨w1.heap.size, 1, none⟩ = false := (by rw [hz _ _ (by first | omega | (simp <;> omega)) (by omega)]; go_simp); have b2s2 : w2.cell? ⟨w1.heap.size, 2, none⟩ = some (.slice none 0 0) := (by rw [hc _ _ (by first | omega | (simp <;> omega)) (by omega)]; go_simp); have b2z2 : w2.frozen? ⟨w1.heap.size, 2, none⟩ = false := (by rw [hz _ _ (by first | omega | (simp <;> omega)) (by omega)]; go_simp); clear hc hz; have HS2 : Hid (Rs w2 r v2 (m) (o)) := hS2; have G2 : Hid (Fr r w.heap.size w w2) := (ft (fin_w (T := w1.heap.size + 1) hr G1.out (Nat.le_refl _) (by repeat (first | with_reducible exact Bx.refl _ _ | with_reducible refine Bx.setCell ?_ (bt_of (by omega) (by omega)) _ | with_reducible refine Bx.alloc ?_ _ | with_reducible refine Bx.drew ?_))) hF2); clear hS2) | (go_at_call 118; refine Ans.use (somTest r 3 8 (m) v2 (o) _ (HS2.out.bx (T := w1.heap.size + 1) hr (by repeat (first | with_reducible exact Bx.refl _ _ | with_reducible refine Bx.setCell ?_ (bt_of (by omega) (by omega)) _ | with_reducible refine Bx.alloc ?_ _ | with_reducible refine Bx.drew ?_))) (by have := HL.out; simp at this; omega)) (fun w' hf hn => ⟨rfl, Ans.no (ft (fin_w (T := w1.heap.size + 1) hr G2.out (Nat.le_refl _) (by repeat (first | with_reducible exact Bx.refl _ _ | with_reducible refine Bx.setCell ?_ (bt_of (by omega) (by omega)) _ | with_reducible refine Bx.alloc ?_ _ | with_reducible refine Bx.drew ?_))) hf) (by rw [attr_p HX8.out, ask_tests HY.out, thn_none hn])⟩) ?_; rintro xs q3 val3 v3 w3 hF3 hx3 hl3 hR hS3; obtain ⟨ba3, hbE, hba3⟩ : ∃ ba, ba = _ ∧ RowP 3 5 RTest w3 ba val3 xs := ⟨_, rfl, hR⟩; have R3_3 : Hid (RowP 3 5 RTest w3 ba3 val3 xs) := hba3; obtain ⟨a3, n3, c3, rfl⟩ := hR.like; have yb3 : w2.heap.size ≤ ba3 := (by rw [hbE]; first | omega | (simp <;> omega)); clear hR hba3 hbE; have y3 : w2.heap.size ≤ w3.heap.size := (by have := hF3.size; first | omega | (simp at this; omega)); obtain ⟨hc, hz⟩ := fr_box hF3; have al3 : w.heap.size < w3.heap.size := (by omega); have bl3 : w1.heap.size < w3.heap.size := (by omega); have a3s0 : w3.cell? ⟨w.heap.size, 0, none⟩ = some (.string ⟨#[]⟩) := (by rw [hc _ _ (by first | omega | (simp <;> omega)) (by omega)]; go_simp); have a3z0 : w3.frozen? ⟨w.heap.size, 0, none⟩ = false := (by rw [hz _ _ (by first | omega | (simp <;> omega)) (by omega)]; go_simp); have a3s1 : w3.cell? ⟨w.heap.size, 1, none⟩ = some (.slice none 0 0) := (by rw [hc _ _ (by first | omega | (simp <;> omega)) (by omega)]; go_simp); have a3z1 : w3.frozen? ⟨w.heap.size, 1, none⟩ = false := (by rw [hz _ _ (by first | omega | (simp <;> omega)) (by omega)]; go_simp); have a3s2 : w3.cell? ⟨w.heap.size, 2, none⟩ = some (.slice none 0 0) := (by rw [hc _ _ (by first | omega | (simp <;> omega)) (by omega)]; go_simp); have a3z2 : w3.frozen? ⟨w.heap.size, 2, none⟩ = false := (by rw [hz _ _ (by first | omega | (simp <;> omega)) (by omega)]; go_simp); have b3s0 : w3.cell? ⟨w1.heap.size, 0, none⟩ = some (.string (st x.1.nm)) := (by rw [hc _ _ (by first | omega | (simp <;> omega)) (by omega)]; go_simp); have b3z0 : w3.frozen? ⟨w1.heap.size, 0, none⟩ = false := (by rw [hz _ _ (by first | omega | (simp <;> omega)) (by omega)]; go_simp); have b3s1 : w3.cell? ⟨w1.heap.size, 1, none⟩ = some (.slice none 0 0) := (by rw [hc _ _ (by first | omega | (simp <;> omega)) (by omega)]; go_simp); have b3z1 : w3.frozen? ⟨w1.heap.size, 1, none⟩ = false := (by rw [hz _ _ (by first | omega | (simp <;> omega)) (by omega)]; go_simp); have b3s2 : w3.cell? ⟨w1.heap.size, 2, none⟩ = some (.slice none 0 0) := (by rw [hc _ _ (by first | omega | (simp <;> omega)) (by omega)]; go_simp); have b3z2 : w3.frozen? ⟨w1.heap.size, 2, none⟩ = false := (by rw [hz _ _ (by first | omega | (simp <;> omega)) (by omega)]; go_simp); clear hc hz; have HS3 : Hid (Rs w3 r v3 q3 ((o) || ovL no1 8 xs)) := hS3; have G3 : Hid (Fr r w.heap.size w w3) := (ft (fin_w (T := w1.heap.size + 1) hr G2.out (Nat.le_refl _) (by repeat (first | with_reducible exact Bx.refl _ _ | with_reducible refine Bx.setCell ?_ (bt_of (by omega) (by omega)) _ | with_reducible refine Bx.alloc ?_ _ | with_reducible refine Bx.drew ?_))) hF3); clear hS3))
  refine bodyPost_ret (v := .agg #[.string (st x.1.nm), .slice none 0 0, .slice a3 n3 c3]) (by simp [results, Tryz.results104, go_sem, a3s0, a3s1, a3s2, b3s0, b3s1, b3s2, y1, y2, y3] <;> rfl) rfl ?_
  refine fin_ans (x := (⟨x.1.nm, [], xs⟩ : AttrD)) (T := w1.heap.size + 1) (rest := q3) hr G3.out ?_ (by rw [attr_p HX8.out, ask_tests HY.out, thn_of hx3]; rfl) (by simp at hl3 ⊢; omega) (fun HX => ⟨_, rfl, _, _, rfl, sl_nil _ _ _, row_test (by decide) (RowP.bx part_test R3_3.out HX (by omega)) (by omega)⟩) HS3.out (by simp [ovL, ovA, any_no1])
  repeat (first | with_reducible exact Bx.refl _ _ | with_reducible refine Bx.setCell ?_ (bt_of (by omega) (by omega)) _ | with_reducible refine Bx.alloc ?_ _ | with_reducible refine Bx.drew ?_)
set_option maxHeartbeats 4000000 in
theorem attr_one (r : Nat) (x : TA) (m : List TA) (v : Value) (o : Bool) (w : World) (h : Rs w r v (x :: m) o) (hl : (x :: m).length ≤ 100000) (hx : x.1.k = 8) (h4 : isK 4 (m.map Prod.fst) = false) (h2 : isK 2 (m.map Prod.fst) = false) :
    Calls Tryz.prog 104 #[pR r] w (Ans (RAgg RAttr) attrR ovA r w (x :: m) o) := by
  have hr := h.lt
  have F43 := field43
  have F43a := field43a
  have F43b := field43b
  have HH : Hid (Rs w r v (x :: m) o) := h
  have HL : Hid ((x :: m).length ≤ 100000) := hl
  have HX8 : Hid (x.1.k = 8) := hx
  have H4 : Hid (isK 4 (m.map Prod.fst) = false) := h4
  have H2 : Hid (isK 2 (m.map Prod.fst) = false) := h2
  have CT1 := fun W vv hh => take_yes r x (m) vv (o) W hh
  rw [hx] at CT1
  unfold tkA at CT1
  have KN1 : isK 4 ((m).map Prod.fst) = false := h4
  have KN2 : isK 2 ((m).map Prod.fst) = false := h2
  clear h hl
  clear hx h4 h2
  go_enter Tryz.func104, Tryz.ntmps104
  go_wp2_with (first | (go_at_call 58; refine (CT1 _ v (HH.out.below (bxn _ _))).mono ?_; rintro e w1 ⟨rfl, ⟨v1, hS1⟩, hF1⟩; clear CT1; have y1 : w.heap.size + 1 ≤ w1.heap.size := (by have := hF1.size; first | omega | (simp at this; omega)); obtain ⟨hc, hz⟩ := fr_box hF1; have al1 : w.heap.size < w1.heap.size := (by omega); have a1s0 : w1.cell? ⟨w.heap.size, 0, none⟩ = some (.string ⟨#[]⟩) := (by rw [hc _ _ (by first | omega | (simp <;> omega)) (by omega)]; go_simp); have a1z0 : w1.frozen? ⟨w.heap.size, 0, none⟩ = false := (by rw [hz _ _ (by first | omega | (simp <;> omega)) (by omega)]; go_simp); have a1s1 : w1.cell? ⟨w.heap.size, 1, none⟩ = some (.slice none 0 0) := (by rw [hc _ _ (by first | omega | (simp <;> omega)) (by omega)]; go_simp); have a1z1 : w1.frozen? ⟨w.heap.size, 1, none⟩ = false := (by rw [hz _ _ (by first | omega | (simp <;> omega)) (by omega)]; go_simp); have a1s2 : w1.cell? ⟨w.heap.size, 2, none⟩ = some (.slice none 0 0) := (by rw [hc _ _ (by first | omega | (simp <;> omega)) (by omega)]; go_simp); have a1z2 : w1.frozen? ⟨w.heap.size, 2, none⟩ = false := (by rw [hz _ _ (by first | omega | (simp <;> omega)) (by omega)]; go_simp); clear hc hz; have HS1 : Hid (Rs w1 r v1 (m) (o)) := hS1; have G1 : Hid (Fr r w.heap.size w w1) := (fb (bxn _ _) hF1); clear hS1) | (go_at_call 102; refine (pass_no r 4 (m) v1 o _ (HS1.out.bx (T := w1.heap.size + 1) hr (by repeat (first | with_reducible exact Bx.refl _ _ | with_reducible refine Bx.setCell ?_ (bt_of (by omega) (by omega)) _ | with_reducible refine Bx.alloc ?_ _ | with_reducible refine Bx.drew ?_))) KN1).mono ?_; rintro e w7 ⟨rfl, hw⟩; obtain rfl := hw; clear KN1) | (go_at_call 102; refine (pass_no r 2 (m) v1 o _ (HS1.out.bx (T := w1.heap.size + 1) hr (by repeat (first | with_reducible exact Bx.refl _ _ | with_reducible refine Bx.setCell ?_ (bt_of (by omega) (by omega)) _ | with_reducible refine Bx.alloc ?_ _ | with_reducible refine Bx.drew ?_))) KN2).mono ?_; rintro e w7 ⟨rfl, hw⟩; obtain rfl := hw; clear KN2) | (go_at_call 119; refine Ans.use (test_ans r (m) v1 (o) _ (HS1.out.bx (T := w1.heap.size + 1) hr (by repeat (first | with_reducible exact Bx.refl _ _ | with_reducible refine Bx.setCell ?_ (bt_of (by omega) (by omega)) _ | with_reducible refine Bx.alloc ?_ _ | with_reducible refine Bx.drew ?_)))) (fun w' hf hn => ⟨rfl, Ans.no (ft (fin_w (T := w1.heap.size + 1) hr G1.out (Nat.le_refl _) (by repeat (first | with_reducible exact Bx.refl _ _ | with_reducible refine Bx.setCell ?_ (bt_of (by omega) (by omega)) _ | with_reducible refine Bx.alloc ?_ _ | with_reducible refine Bx.drew ?_))) hf) (by rw [attr_p HX8.out, ask_one H4.out H2.out, thn_none hn])⟩) ?_; rintro t q2 val2 v2 w2 hF2 hx2 hl2 ⟨cs, rfl, hR⟩ hS2; have hcs : cs = [.int .u8 t.p, .string (st t.v), .int .u8 t.x.k, .int .i64 t.x.n, .string (st t.x.s)] := hR; clear hR; subst hcs; have y2 : w1.heap.size + 1 ≤ w2.heap.size := (by have := hF2.size; first | omega | (simp at this; omega)); obtain ⟨hc, hz⟩ := fr_box hF2; have al2 : w.heap.size < w2.heap.size := (by omega); have bl2 : w1.heap.size < w2.heap.size := (by omega); have a2s0 : w2.cell? ⟨w.heap.size, 0, none⟩ = some (.string ⟨#[]⟩) := (by rw [hc _ _ (by first | omega | (simp <;> omega)) (by omega)]; go_simp); have a2z0 : w2.frozen? ⟨w.heap.size, 0, none⟩ = false := (by rw [hz _ _ (by first | omega | (simp <;> omega)) (by omega)]; go_simp); have a2s1 : w2.cell? ⟨w.heap.size, 1, none⟩ = some (.slice none 0 0) := (by rw [hc _ _ (by first | omega | (simp <;> omega)) (by omega)]; go_simp); have a2z1 : w2.frozen? ⟨w.heap.size, 1, none⟩ = false := (by rw [hz _ _ (by first | omega | (simp <;> omega)) (by omega)]; go_simp); have a2s2 : w2.cell? ⟨w.heap.size, 2, none⟩ = some (.slice none 0 0) := (by rw [hc _ _ (by first | omega | (simp <;> omega)) (by omega)]; go_simp); have a2z2 : w2.frozen? ⟨w.heap.size, 2, none⟩ = false := (by rw [hz _ _ (by first | omega | (simp <;> omega)) (by omega)]; go_simp); have b2s0 : w2.cell? ⟨w1.heap.size, 0, none⟩ = some (.string (st x.1.nm)) := (by rw [hc _ _ (by first | omega | (simp <;> omega)) (by omega)]; go_simp); have b2z0 : w2.frozen? ⟨w1.heap.size, 0, none⟩ = false := (by rw [hz _ _ (by first | omega | (simp <;> omega)) (by omega)]; go_simp); have b2s1 : w2.cell? ⟨w1.heap.size, 1, none⟩ = some (.slice none 0 0) := (by rw [hc _ _ (by first | omega | (simp <;> omega)) (by omega)]; go_simp); have b2z1 : w2.frozen? ⟨w1.heap.size, 1, none⟩ = false := (by rw [hz _ _ (by first | omega | (simp <;> omega)) (by omega)]; go_simp); have b2s2 : w2.cell? ⟨w1.heap.size, 2, none⟩ = some (.slice none 0 0) := (by rw [hc _ _ (by first | omega | (simp <;> omega)) (by omega)]; go_simp); have b2z2 : w2.frozen? ⟨w1.heap.size, 2, none⟩ = false := (by rw [hz _ _ (by first | omega | (simp <;> omega)) (by omega)]; go_simp); clear hc hz; have HS2 : Hid (Rs w2 r v2 q2 ((o) || no1 t)) := hS2; have G2 : Hid (Fr r w.heap.size w w2) := (ft (fin_w (T := w1.heap.size + 1) hr G1.out (Nat.le_refl _) (by repeat (first | with_reducible exact Bx.refl _ _ | with_reducible refine Bx.setCell ?_ (bt_of (by omega) (by omega)) _ | with_reducible refine Bx.alloc ?_ _ | with_reducible refine Bx.drew ?_))) hF2); clear hS2))
  refine bodyPost_ret (v := .agg #[.string (st x.1.nm), .slice none 0 0, .slice (some ⟨w2.heap.size, 0, none⟩) 1 1]) (by simp [results, Tryz.results104, go_sem, a2s0, a2s1, a2s2, b2s0, b2s1, b2s2, y1, y2, al2, bl2, al1] <;> rfl) rfl ?_
  refine fin_ans (x := (⟨x.1.nm, [], [t]⟩ : AttrD)) (T := w1.heap.size + 1) (rest := q2) hr G2.out ?_ (by rw [attr_p HX8.out, ask_one H4.out H2.out, thn_of hx2]; rfl) (by simp at hl2 ⊢; omega) (fun HX => ⟨_, rfl, _, _, rfl, sl_nil _ _ _, row_test (by decide) (rowP_lit2 (base := w.heap.size) part_test (x := t) (c := clT t) (by simp [set_size]) rfl (by omega)) (by omega)⟩) HS2.out (by simp [no1, ovA])
  repeat (first | with_reducible exact Bx.refl _ _ | with_reducible refine Bx.setCell ?_ (bt_of (by omega) (by omega)) _ | with_reducible refine Bx.alloc ?_ _ | with_reducible refine Bx.drew ?_)
end Go.Proofs.YtemacdimdpnkeaaGreatDoor
namespace Go.Proofs.YtemacdimdpnkeaaGreatDoor
set_option maxRecDepth 20000
open Go.RowKit
set_option linter.unusedVariables false
set_option linter.unusedSimpArgs false
theorem attr_no (r : Nat) (l : List TA) (v : Value) (o : Bool) (w : World) (h : Rs w r v l o) (hk : isK 8 (l.map Prod.fst) = false) :
    Calls Tryz.prog 104 #[pR r] w (Ans (RAgg RAttr) attrR ovA r w l o) := by
  have CT := fun W hW => take_ans r 8 l v o W (h.below hW)
  have HN : Hid (attrR (l.map Prod.fst) = none) := attrR_no _ hk
  have HK : Hid (isK 8 (l.map Prod.fst) = false) := hk
  clear h hk
  go_enter Tryz.func104, Tryz.ntmps104
  go_wp2_with (go_at_call 58; refine Ans.use (CT _ (bxn _ _)) (fun w' hf hn => ⟨rfl, Ans.no (fb (bxn _ _) hf) HN.out⟩) ?_; intro t rest val v' w1 hF hx; exfalso; rw [nxt_isK HK.out] at hx; cases hx)
theorem attr_ans (r : Nat) (l : List TA) (v : Value) (o : Bool) (w : World) (h : Rs w r v l o) (hl : l.length ≤ 100000) :
    Calls Tryz.prog 104 #[pR r] w (Ans (RAgg RAttr) attrR ovA r w l o) := by
  cases hk : isK 8 (l.map Prod.fst) with
  | false => exact attr_no r l v o w h hk
  | true =>
    obtain ⟨x, m, rfl, hx⟩ := isK_cons hk
    cases h4 : isK 4 (m.map Prod.fst) with
    | true =>
      obtain ⟨y, m, rfl, hy⟩ := isK_cons h4
      exact attr_ones r x y m v o w h hl hx hy
    | false =>
      cases h2 : isK 2 (m.map Prod.fst) with
      | true =>
        obtain ⟨y, m, rfl, hy⟩ := isK_cons h2
        exact attr_tests r x y m v o w h hl hx hy
      | false => exact attr_one r x m v o w h hl hx h4 h2
theorem infoAttr : (Tryz.prog.info? (tyK 7)).map (fun i => (i.zero, i.size, i.bytes)) = some (some (.agg #[.string ByteArray.empty, .slice none 0 0, .slice none 0 0]), 3, 64) := by kernel_rfl
set_option maxHeartbeats 4000000 in
theorem sevAttr (r : Nat) (e : Int) (most : Nat) (l : List TA) (v : Value) (o : Bool) (w : World) (h : Rs w r v l o) (hl : l.length ≤ 100000) :
    Calls Tryz.prog 103 #[pR r, .int .u8 e, .int .i64 most, .func (.func 104) #[pR r] #[]] w (Ans (RowP 7 3 RAttr) (sevL e attrR) (fun xs => xs.any ovA || decide (most < xs.length)) r w l o) := by
  have hr := h.lt
  have HL : Hid (l.length ≤ 100000) := hl
  have H0 : Hid (Rs w r v l o) := h
  clear h hl
  go_enter Tryz.func103, Tryz.ntmps103
  go_wp2
  go_loopw [9] (fun v9 wr => ∃ (css : List (List Value)) (xs : List AttrD) (m : List TA) (v' : Value), OwnG 7 3 wr w.heap.size v9 css ∧ All2 (RAttr wr w.heap.size) css xs ∧ Rs wr r v' m (o || xs.any ovA) ∧ Fr r w.heap.size w wr ∧ m.length + xs.length ≤ l.length ∧ sevL e attrR (l.map Prod.fst) = (sevL e attrR (m.map Prod.fst)).map fun p => (xs ++ p.1, p.2)) (fun _ wr => tokLen wr r)
  case atStart => exact ⟨[], [], l, v, OwnG.nil _ _ _ _, trivial, by rw [List.any_nil, Bool.or_false]; exact H0.out, Fr.refl _ _ _, by simp, sev_start _ _ _⟩
  case round =>
    obtain ⟨css, xs, m, v', hown, hall, hS, hF, hlen, heq⟩ := hrel
    have HC : Hid (css.length = xs.length) := hall.len
    have HO : Hid (OwnG 7 3 wr w.heap.size u9 css) := hown
    have HA : Hid (All2 (RAttr wr w.heap.size) css xs) := hall
    have HE : Hid (sevL e attrR (l.map Prod.fst) = (sevL e attrR (m.map Prod.fst)).map fun p => (xs ++ p.1, p.2)) := heq
    have HS : Hid (Rs wr r v' m (o || xs.any ovA)) := hS
    have HF : Hid (Fr r w.heap.size w wr) := hF
    obtain ⟨a9, c9, rfl⟩ := hown.shape
    have hwz : w.heap.size ≤ wr.heap.size := hF.size
    clear hown hall heq hS hF H0
    cases hk : isK e (m.map Prod.fst) with
    | true =>
      obtain ⟨x, m', rfl, rfl⟩ := isK_cons hk
      have CP := pass_yes r x m' v' _ wr HS.out
      have HQ : Hid (sevL x.1.k attrR (l.map Prod.fst) = some (xs, m'.map Prod.fst)) := sev_stop HE.out hk
      have CM := fun W v'' oo hh => atMost_any r most css.length m' v'' oo W hh
      go_wp2_with (first | (go_at_call 102; refine CP.mono ?_; rintro e w1 ⟨rfl, ⟨v1, hS1⟩, hF1⟩; clear CP; have HS1 : Hid (Rs w1 r v1 m' (o || xs.any ovA)) := hS1; clear hS1) | (go_at_call 62; refine (CM _ _ _ HS1.out).mono ?_; rintro e w2 ⟨rfl, hS2, hF2⟩; clear CM; have HS2 : Hid (Rs w2 r v1 m' ((o || xs.any ovA) || decide ((most : Int) < css.length))) := hS2; clear hS2))
      refine bodyPost_ret (v := .slice a9 css.length c9) (by simp [results, Tryz.results103, go_sem] <;> rfl) rfl ?_
      have F2 : Fr r wr.heap.size wr w2 := ft hF1 hF2
      refine Ans.yes (ft HF.out F2) HQ.out ?_ ⟨css, ((HO.out.fr hr F2).sl), part_attr.all HA.out F2.size (blk_fr hr F2)⟩ HS2.out ?_
      · simp at hlen; omega
      · rw [Bool.or_assoc]; congr 2; rw [HC.out]; exact decide_eq_decide.2 (by omega)
    | false =>
      have CP := pass_no r e m v' _ wr HS.out hk
      have CQ := attr_ans r m v' _ wr HS.out (by have := HL.out; omega)
      have HK : Hid (isK e (m.map Prod.fst) = false) := hk
      clear hk
      have hfn : ∀ w, Sem.run Tryz.prog (callFunc 121 #[pR r]) w = .ok (.enter 121 #[pR r]) w := fun _ => rfl
      go_wp2_with (first | (go_at_call 102; refine CP.mono ?_; rintro e w1 ⟨rfl, hw⟩; obtain rfl := hw.symm; clear CP) | (go_at_call 104; refine Ans.use CQ (fun w' hf hn => ⟨rfl, Ans.no (ft HF.out hf) (sev_fail HE.out HK.out hn)⟩) ?_; rintro x rest val v2 w2 hF2 hx hl2 ⟨cs, rfl, hR⟩ hS2; have hR' := hR; obtain ⟨va, vb, hcs, h1, h2⟩ := hR'; obtain ⟨a1, n1, c1, e1⟩ := h1.like; obtain ⟨a2, n2, c2, e2⟩ := h2.like; subst e1; subst e2; subst hcs; have HR : Hid (RAttr w2 wr.heap.size _ x) := hR; clear hR h1 h2; clear CQ) | (at_builtin; refine wp_app_g (K := 7) Tryz.underlying93 infoAttr rfl (by decide) (by decide) rfl _ _ rfl w.heap.size (.slice a9 css.length c9) css [.string (st x.a), .slice a1 n1 c1, .slice a2 n2 c2] rfl ((HO.out.fr hr hF2).below (bxn _ _)) ⟨_, 0, none⟩ 1 rfl (part_attr.len HR.out) (lit_cells _ _ _) (part_attr.one HR.out) (by have := HL.out; have := HC.out; omega) (Nat.le_trans (Nat.le_trans hwz hF2.size) (bxn _ _).size) ?_; rintro v3 w3 ho3 hg3 hb3; have HO3 : Hid (OwnG 7 3 w3 w.heap.size v3 (css ++ [[.string (st x.a), .slice a1 n1 c1, .slice a2 n2 c2]])) := ho3; have HG3 : Hid (∀ k b, Blk _ w.heap.size 7 k b → w3.heap[b]? = _) := blk_grown (by decide) ((HO.out.fr hr hF2).below (bxn _ _)) hg3; have HB3 : Hid (Below w.heap.size _ w3) := hb3; clear ho3 hg3 hb3))
      go_roundw
      case rel =>
        refine ⟨css ++ [[.string (st x.a), .slice a1 n1 c1, .slice a2 n2 c2]], xs ++ [x], rest, v2, HO3.out, ?_, ?_, ?_, ?_, sev_step attrR_eats HE.out HK.out hx⟩
        · refine All2.snoc (part_attr.keep (part_attr.keep (part_attr.low HR.out hwz) (bxn _ _).size (blk_below (bxn _ _))) HB3.out.size HG3.out) (part_attr.all (part_attr.all (part_attr.all HA.out hF2.size (blk_fr hr hF2)) (bxn _ _).size (blk_below (bxn _ _))) HB3.out.size HG3.out)
        · rw [List.any_append, ← Bool.or_assoc]
          have := (hS2.below (bxn _ _)).bel hr HB3.out
          simpa using this
        · exact (ft HF.out (fo hF2 (bxn _ _))).trans (Fr.of HB3.out)
        · have := attrR_eats.len hx; simp at this ⊢; omega
      case measure =>
        have h1 := HS.out
        have h2 : Rs w3 r v2 rest _ := (hS2.below (bxn _ _)).bel hr HB3.out
        rw [h1.toks, h2.toks]
        have := attrR_eats.len hx
        simp at this; omega
end Go.Proofs.YtemacdimdpnkeaaGreatDoor
namespace Go.Proofs.YtemacdimdpnkeaaGreatDoor
set_option maxRecDepth 20000
open Go.RowKit
set_option linter.unusedVariables false
set_option linter.unusedSimpArgs false
set_option maxHeartbeats 4000000 in
theorem cond_neg (r : Nat) (n : TA) (m : List TA) (v : Value) (o : Bool) (w : World) (h : Rs w r v (n :: m) o) (hl : (n :: m).length ≤ 100000) (hx : n.1.k = 7) :
    Calls Tryz.prog 87 #[pR r] w (Ans (RAgg RCond) condR ovC r w (n :: m) o) := by
  have hr := h.lt
  have F43 := field43
  have F43a := field43a
  have F43b := field43b
  have HH : Hid (Rs w r v (n :: m) o) := h
  have HL : Hid ((n :: m).length ≤ 100000) := hl
  have HP : Hid (condR ((n :: m).map Prod.fst) = cond2R true (m.map Prod.fst)) := by show _ = _; unfold condR; rw [if_pos (isK_at hx), thn_of (nxt_at hx)]
  have CT1 := fun W vv hh => pass_yes r n (m) vv (o) W hh
  rw [hx] at CT1
  clear h hl
  clear hx
  go_enter Tryz.func87, Tryz.ntmps87
  go_wp2_with (first | (go_at_call 102; refine (CT1 _ v (HH.out.below (bxn _ _))).mono ?_; rintro e w1 ⟨rfl, ⟨v1, hS1⟩, hF1⟩; clear CT1; have y1 : w.heap.size + 1 ≤ w1.heap.size := (by have := hF1.size; first | omega | (simp at this; omega)); obtain ⟨hc, hz⟩ := fr_box hF1; have al1 : w.heap.size < w1.heap.size := (by omega); have a1s0 : w1.cell? ⟨w.heap.size, 0, none⟩ = some (.bool false) := (by rw [hc _ _ (by first | omega | (simp <;> omega)) (by omega)]; go_simp); have a1z0 : w1.frozen? ⟨w.heap.size, 0, none⟩ = false := (by rw [hz _ _ (by first | omega | (simp <;> omega)) (by omega)]; go_simp); have a1s1 : w1.cell? ⟨w.heap.size, 1, none⟩ = some (.string ⟨#[]⟩) := (by rw [hc _ _ (by first | omega | (simp <;> omega)) (by omega)]; go_simp); have a1z1 : w1.frozen? ⟨w.heap.size, 1, none⟩ = false := (by rw [hz _ _ (by first | omega | (simp <;> omega)) (by omega)]; go_simp); have a1s2 : w1.cell? ⟨w.heap.size, 2, none⟩ = some (.slice none 0 0) := (by rw [hc _ _ (by first | omega | (simp <;> omega)) (by omega)]; go_simp); have a1z2 : w1.frozen? ⟨w.heap.size, 2, none⟩ = false := (by rw [hz _ _ (by first | omega | (simp <;> omega)) (by omega)]; go_simp); clear hc hz; have HS1 : Hid (Rs w1 r v1 (m) (o)) := hS1; have G1 : Hid (Fr r w.heap.size w w1) := (fb (bxn _ _) hF1); clear hS1) | (go_at_call 58; refine Ans.use (take_ans r 0 (m) v1 (o) _ (HS1.out.bx (T := w1.heap.size + 1) hr (by repeat (first | with_reducible exact Bx.refl _ _ | with_reducible refine Bx.setCell ?_ (bt_of (by omega) (by omega)) _ | with_reducible refine Bx.alloc ?_ _ | with_reducible refine Bx.drew ?_)))) (fun w' hf hn => ⟨rfl, Ans.no (ft (fin_w (T := w1.heap.size + 1) hr G1.out (Nat.le_refl _) (by repeat (first | with_reducible exact Bx.refl _ _ | with_reducible refine Bx.setCell ?_ (bt_of (by omega) (by omega)) _ | with_reducible refine Bx.alloc ?_ _ | with_reducible refine Bx.drew ?_))) hf) (by rw [HP.out, cond2R_is, thn_none hn])⟩) ?_; rintro t q2 val2 v2 w2 hF2 hx2 hl2 ⟨p, rfl⟩ hS2; have y2 : w1.heap.size + 1 ≤ w2.heap.size := (by have := hF2.size; first | omega | (simp at this; omega)); obtain ⟨hc, hz⟩ := fr_box hF2; have al2 : w.heap.size < w2.heap.size := (by omega); have bl2 : w1.heap.size < w2.heap.size := (by omega); have a2s0 : w2.cell? ⟨w.heap.size, 0, none⟩ = some (.bool false) := (by rw [hc _ _ (by first | omega | (simp <;> omega)) (by omega)]; go_simp); have a2z0 : w2.frozen? ⟨w.heap.size, 0, none⟩ = false := (by rw [hz _ _ (by first | omega | (simp <;> omega)) (by omega)]; go_simp); have a2s1 : w2.cell? ⟨w.heap.size, 1, none⟩ = some (.string ⟨#[]⟩) := (by rw [hc _ _ (by first | omega | (simp <;> omega)) (by omega)]; go_simp); have a2z1 : w2.frozen? ⟨w.heap.size, 1, none⟩ = false := (by rw [hz _ _ (by first | omega | (simp <;> omega)) (by omega)]; go_simp); have a2s2 : w2.cell? ⟨w.heap.size, 2, none⟩ = some (.slice none 0 0) := (by rw [hc _ _ (by first | omega | (simp <;> omega)) (by omega)]; go_simp); have a2z2 : w2.frozen? ⟨w.heap.size, 2, none⟩ = false := (by rw [hz _ _ (by first | omega | (simp <;> omega)) (by omega)]; go_simp); have b2s0 : w2.cell? ⟨w1.heap.size, 0, none⟩ = some (.bool true) := (by rw [hc _ _ (by first | omega | (simp <;> omega)) (by omega)]; go_simp); have b2z0 : w2.frozen? ⟨w1.heap.size, 0, none⟩ = false := (by rw [hz _ _ (by first | omega | (simp <;> omega)) (by omega)]; go_simp); have b2s1 : w2.cell? ⟨w1.heap.size, 1, none⟩ = some (.string ⟨#[]⟩) := (by rw [hc _ _ (by first | omega | (simp <;> omega)) (by omega)]; go_simp); have b2z1 : w2.frozen? ⟨w1.heap.size, 1, none⟩ = false := (by rw [hz _ _ (by first | omega | (simp <;> omega)) (by omega)]; go_simp); have b2s2 : w2.cell? ⟨w1.heap.size, 2, none⟩ = some (.slice none 0 0) := (by rw [hc _ _ (by first | omega | (simp <;> omega)) (by omega)]; go_simp); have b2z2 : w2.frozen? ⟨w1.heap.size, 2, none⟩ = false := (by rw [hz _ _ (by first | omega | (simp <;> omega)) (by omega)]; go_simp); clear hc hz; have HS2 : Hid (Rs w2 r v2 q2 ((o) || no1 t)) := hS2; have G2 : Hid (Fr r w.heap.size w w2) := (ft (fin_w (T := w1.heap.size + 1) hr G1.out (Nat.le_refl _) (by repeat (first | with_reducible exact Bx.refl _ _ | with_reducible refine Bx.setCell ?_ (bt_of (by omega) (by omega)) _ | with_reducible refine Bx.alloc ?_ _ | with_reducible refine Bx.drew ?_))) hF2); clear hS2) | (go_at_call 59; refine Ans.use (name_ans r (q2) v2 ((o) || no1 t) _ (HS2.out.bx (T := w1.heap.size + 1) hr (by repeat (first | with_reducible exact Bx.refl _ _ | with_reducible refine Bx.setCell ?_ (bt_of (by omega) (by omega)) _ | with_reducible refine Bx.alloc ?_ _ | with_reducible refine Bx.drew ?_)))) (fun w' hf hn => ⟨rfl, Ans.no (ft (fin_w (T := w1.heap.size + 1) hr G2.out (Nat.le_refl _) (by repeat (first | with_reducible exact Bx.refl _ _ | with_reducible refine Bx.setCell ?_ (bt_of (by omega) (by omega)) _ | with_reducible refine Bx.alloc ?_ _ | with_reducible refine Bx.drew ?_))) hf) (by rw [HP.out, cond2R_is, thn_of hx2, thn_none hn])⟩) ?_; rintro c q3 val3 v3 w3 hF3 hx3 hl3 rfl hS3; have y3 : w2.heap.size ≤ w3.heap.size := (by have := hF3.size; first | omega | (simp at this; omega)); obtain ⟨hc, hz⟩ := fr_box hF3; have al3 : w.heap.size < w3.heap.size := (by omega); have bl3 : w1.heap.size < w3.heap.size := (by omega); have a3s0 : w3.cell? ⟨w.heap.size, 0, none⟩ = some (.bool false) := (by rw [hc _ _ (by first | omega | (simp <;> omega)) (by omega)]; go_simp); have a3z0 : w3.frozen? ⟨w.heap.size, 0, none⟩ = false := (by rw [hz _ _ (by first | omega | (simp <;> omega)) (by omega)]; go_simp); have a3s1 : w3.cell? ⟨w.heap.size, 1, none⟩ = some (.string ⟨#[]⟩) := (by rw [hc _ _ (by first | omega | (simp <;> omega)) (by omega)]; go_simp); have a3z1 : w3.frozen? ⟨w.heap.size, 1, none⟩ = false := (by rw [hz _ _ (by first | omega | (simp <;> omega)) (by omega)]; go_simp); have a3s2 : w3.cell? ⟨w.heap.size, 2, none⟩ = some (.slice none 0 0) := (by rw [hc _ _ (by first | omega | (simp <;> omega)) (by omega)]; go_simp); have a3z2 : w3.frozen? ⟨w.heap.size, 2, none⟩ = false := (by rw [hz _ _ (by first | omega | (simp <;> omega)) (by omega)]; go_simp); have b3s0 : w3.cell? ⟨w1.heap.size, 0, none⟩ = some (.bool true) := (by rw [hc _ _ (by first | omega | (simp <;> omega)) (by omega)]; go_simp); have b3z0 : w3.frozen? ⟨w1.heap.size, 0, none⟩ = false := (by rw [hz _ _ (by first | omega | (simp <;> omega)) (by omega)]; go_simp); have b3s1 : w3.cell? ⟨w1.heap.size, 1, none⟩ = some (.string ⟨#[]⟩) := (by rw [hc _ _ (by first | omega | (simp <;> omega)) (by omega)]; go_simp); have b3z1 : w3.frozen? ⟨w1.heap.size, 1, none⟩ = false := (by rw [hz _ _ (by first | omega | (simp <;> omega)) (by omega)]; go_simp); have b3s2 : w3.cell? ⟨w1.heap.size, 2, none⟩ = some (.slice none 0 0) := (by rw [hc _ _ (by first | omega | (simp <;> omega)) (by omega)]; go_simp); have b3z2 : w3.frozen? ⟨w1.heap.size, 2, none⟩ = false := (by rw [hz _ _ (by first | omega | (simp <;> omega)) (by omega)]; go_simp); clear hc hz; have HS3 : Hid (Rs w3 r v3 q3 (((o) || no1 t) || no1 c)) := hS3; have G3 : Hid (Fr r w.heap.size w w3) := (ft (fin_w (T := w1.heap.size + 1) hr G2.out (Nat.le_refl _) (by repeat (first | with_reducible exact Bx.refl _ _ | with_reducible refine Bx.setCell ?_ (bt_of (by omega) (by omega)) _ | with_reducible refine Bx.alloc ?_ _ | with_reducible refine Bx.drew ?_))) hF3); clear hS3) | (go_at_call 103; refine Ans.use (sevAttr r 1 6 (q3) v3 (((o) || no1 t) || no1 c) _ (HS3.out.bx (T := w1.heap.size + 1) hr (by repeat (first | with_reducible exact Bx.refl _ _ | with_reducible refine Bx.setCell ?_ (bt_of (by omega) (by omega)) _ | with_reducible refine Bx.alloc ?_ _ | with_reducible refine Bx.drew ?_))) (by have := HL.out; first | omega | (simp at this; omega))) (fun w' hf hn => ⟨rfl, Ans.no (ft (fin_w (T := w1.heap.size + 1) hr G3.out (Nat.le_refl _) (by repeat (first | with_reducible exact Bx.refl _ _ | with_reducible refine Bx.setCell ?_ (bt_of (by omega) (by omega)) _ | with_reducible refine Bx.alloc ?_ _ | with_reducible refine Bx.drew ?_))) hf) (by rw [HP.out, cond2R_is, thn_of hx2, thn_of hx3, thn_none hn])⟩) ?_; rintro xs q4 val4 v4 w4 hF4 hx4 hl4 hR hS4; obtain ⟨ba4, hbE, hba4⟩ : ∃ ba, ba = _ ∧ RowP 7 3 RAttr w4 ba val4 xs := ⟨_, rfl, hR⟩; have R4_4 : Hid (RowP 7 3 RAttr w4 ba4 val4 xs) := hba4; obtain ⟨a4, n4, c4, rfl⟩ := hR.like; have yb4 : w3.heap.size ≤ ba4 := (by rw [hbE]; first | omega | (simp <;> omega)); clear hR hba4 hbE; have y4 : w3.heap.size ≤ w4.heap.size := (by have := hF4.size; first | omega | (simp at this; omega)); obtain ⟨hc, hz⟩ := fr_box hF4; have al4 : w.heap.size < w4.heap.size := (by omega); have bl4 : w1.heap.size < w4.heap.size := (by omega); have a4s0 : w4.cell? ⟨w.heap.size, 0, none⟩ = some (.bool false) := (by rw [hc _ _ (by first | omega | (simp <;> omega)) (by omega)]; go_simp); have a4z0 : w4.frozen? ⟨w.heap.size, 0, none⟩ = false := (by rw [hz _ _ (by first | omega | (simp <;> omega)) (by omega)]; go_simp); have a4s1 : w4.cell? ⟨w.heap.size, 1, none⟩ = some (.string ⟨#[]⟩) := (by rw [hc _ _ (by first | omega | (simp <;> omega)) (by omega)]; go_simp); have a4z1 : w4.frozen? ⟨w.heap.size, 1, none⟩ = false := (by rw [hz _ _ (by first | omega | (simp <;> omega)) (by omega)]; go_simp); have a4s2 : w4.cell? ⟨w.heap.size, 2, none⟩ = some (.slice none 0 0) := (by rw [hc _ _ (by first | omega | (simp <;> omega)) (by omega)]; go_simp); have a4z2 : w4.frozen? ⟨w.heap.size, 2, none⟩ = false := (by rw [hz _ _ (by first | omega | (simp <;> omega)) (by omega)]; go_simp); have b4s0 : w4.cell? ⟨w1.heap.size, 0, none⟩ = some (.bool true) := (by rw [hc _ _ (by first | omega | (simp <;> omega)) (by omega)]; go_simp); have b4z0 : w4.frozen? ⟨w1.heap.size, 0, none⟩ = false := (by rw [hz _ _ (by first | omega | (simp <;> omega)) (by omega)]; go_simp); have b4s1 : w4.cell? ⟨w1.heap.size, 1, none⟩ = some (.string (st c)) := (by rw [hc _ _ (by first | omega | (simp <;> omega)) (by omega)]; go_simp); have b4z1 : w4.frozen? ⟨w1.heap.size, 1, none⟩ = false := (by rw [hz _ _ (by first | omega | (simp <;> omega)) (by omega)]; go_simp); have b4s2 : w4.cell? ⟨w1.heap.size, 2, none⟩ = some (.slice none 0 0) := (by rw [hc _ _ (by first | omega | (simp <;> omega)) (by omega)]; go_simp); have b4z2 : w4.frozen? ⟨w1.heap.size, 2, none⟩ = false := (by rw [hz _ _ (by first | omega | (simp <;> omega)) (by omega)]; go_simp); clear hc hz; have HS4 : Hid (Rs w4 r v4 q4 ((((o) || no1 t) || no1 c) || ovL ovA 6 xs)) := hS4; have G4 : Hid (Fr r w.heap.size w w4) := (ft (fin_w (T := w1.heap.size + 1) hr G3.out (Nat.le_refl _) (by repeat (first | with_reducible exact Bx.refl _ _ | with_reducible refine Bx.setCell ?_ (bt_of (by omega) (by omega)) _ | with_reducible refine Bx.alloc ?_ _ | with_reducible refine Bx.drew ?_))) hF4); clear hS4))
  refine bodyPost_ret (v := .agg #[.bool true, .string (st c), .slice a4 n4 c4]) (by simp [results, Tryz.results87, go_sem, a4s0, a4s1, a4s2, b4s0, b4s1, b4s2, al4, bl4] <;> rfl) rfl ?_
  refine fin_ans (x := (⟨true, c, xs⟩ : CondD)) (T := w1.heap.size + 1) (rest := q4) hr G4.out ?_ (by rw [HP.out, cond2R_is, thn_of hx2, thn_of hx3, thn_of hx4]; rfl) (by first | omega | (simp; omega)) (fun HX => ⟨_, rfl, _, rfl, row_attr (by decide) (RowP.bx part_attr R4_4.out HX (by omega)) (by omega)⟩) HS4.out (by simp [no1, ovL, ovC])
  repeat (first | with_reducible exact Bx.refl _ _ | with_reducible refine Bx.setCell ?_ (bt_of (by omega) (by omega)) _ | with_reducible refine Bx.alloc ?_ _ | with_reducible refine Bx.drew ?_)
set_option maxHeartbeats 4000000 in
theorem cond_pos (r : Nat) (m : List TA) (v : Value) (o : Bool) (w : World) (h : Rs w r v (m) o) (hl : (m).length ≤ 100000) (hk : isK 7 (m.map Prod.fst) = false) :
    Calls Tryz.prog 87 #[pR r] w (Ans (RAgg RCond) condR ovC r w (m) o) := by
  have hr := h.lt
  have F43 := field43
  have F43a := field43a
  have F43b := field43b
  have HH : Hid (Rs w r v (m) o) := h
  have HL : Hid ((m).length ≤ 100000) := hl
  have HP : Hid (condR (m.map Prod.fst) = cond2R false (m.map Prod.fst)) := by show _ = _; unfold condR; rw [if_neg (by rw [hk]; decide)]
  have KN1 : isK 7 ((m).map Prod.fst) = false := hk
  clear h hl
  clear hk
  go_enter Tryz.func87, Tryz.ntmps87
  go_wp2_with (first | (go_at_call 102; refine (pass_no r 7 (m) v o _ (HH.out.below (bxn _ _)) KN1).mono ?_; rintro e w7 ⟨rfl, hw⟩; obtain rfl := hw; clear KN1) | (go_at_call 58; refine Ans.use (take_ans r 0 (m) v (o) _ (HH.out.below (bt (bxn _ _) (bxn _ _)))) (fun w' hf hn => ⟨rfl, Ans.no (fb (bt (bxn _ _) (bxn _ _)) hf) (by rw [HP.out, cond2R_is, thn_none hn])⟩) ?_; rintro t q1 val1 v1 w1 hF1 hx1 hl1 ⟨p, rfl⟩ hS1; have y1 : w.heap.size + 1 + 1 ≤ w1.heap.size := (by have := hF1.size; first | omega | (simp at this; omega)); obtain ⟨hc, hz⟩ := fr_box hF1; have al1 : w.heap.size < w1.heap.size := (by omega); have bl1 : (w.heap.size + 1) < w1.heap.size := (by omega); have a1s0 : w1.cell? ⟨w.heap.size, 0, none⟩ = some (.bool false) := (by rw [hc _ _ (by first | omega | (simp <;> omega)) (by omega)]; go_simp); have a1z0 : w1.frozen? ⟨w.heap.size, 0, none⟩ = false := (by rw [hz _ _ (by first | omega | (simp <;> omega)) (by omega)]; go_simp); have a1s1 : w1.cell? ⟨w.heap.size, 1, none⟩ = some (.string ⟨#[]⟩) := (by rw [hc _ _ (by first | omega | (simp <;> omega)) (by omega)]; go_simp); have a1z1 : w1.frozen? ⟨w.heap.size, 1, none⟩ = false := (by rw [hz _ _ (by first | omega | (simp <;> omega)) (by omega)]; go_simp); have a1s2 : w1.cell? ⟨w.heap.size, 2, none⟩ = some (.slice none 0 0) := (by rw [hc _ _ (by first | omega | (simp <;> omega)) (by omega)]; go_simp); have a1z2 : w1.frozen? ⟨w.heap.size, 2, none⟩ = false := (by rw [hz _ _ (by first | omega | (simp <;> omega)) (by omega)]; go_simp); have b1s0 : w1.cell? ⟨(w.heap.size + 1), 0, none⟩ = some (.bool false) := (by rw [hc _ _ (by first | omega | (simp <;> omega)) (by omega)]; go_simp); have b1z0 : w1.frozen? ⟨(w.heap.size + 1), 0, none⟩ = false := (by rw [hz _ _ (by first | omega | (simp <;> omega)) (by omega)]; go_simp); have b1s1 : w1.cell? ⟨(w.heap.size + 1), 1, none⟩ = some (.string ⟨#[]⟩) := (by rw [hc _ _ (by first | omega | (simp <;> omega)) (by omega)]; go_simp); have b1z1 : w1.frozen? ⟨(w.heap.size + 1), 1, none⟩ = false := (by rw [hz _ _ (by first | omega | (simp <;> omega)) (by omega)]; go_simp); have b1s2 : w1.cell? ⟨(w.heap.size + 1), 2, none⟩ = some (.slice none 0 0) := (by rw [hc _ _ (by first | omega | (simp <;> omega)) (by omega)]; go_simp); have b1z2 : w1.frozen? ⟨(w.heap.size + 1), 2, none⟩ = false := (by rw [hz _ _ (by first | omega | (simp <;> omega)) (by omega)]; go_simp); clear hc hz; have HS1 : Hid (Rs w1 r v1 q1 ((o) || no1 t)) := hS1; have G1 : Hid (Fr r w.heap.size w w1) := (fb (bt (bxn _ _) (bxn _ _)) hF1); clear hS1) | (go_at_call 59; refine Ans.use (name_ans r (q1) v1 ((o) || no1 t) _ (HS1.out.bx (T := w.heap.size + 2) hr (by repeat (first | with_reducible exact Bx.refl _ _ | with_reducible refine Bx.setCell ?_ (bt_of (by omega) (by omega)) _ | with_reducible refine Bx.alloc ?_ _ | with_reducible refine Bx.drew ?_)))) (fun w' hf hn => ⟨rfl, Ans.no (ft (fin_w (T := w.heap.size + 2) hr G1.out (Nat.le_refl _) (by repeat (first | with_reducible exact Bx.refl _ _ | with_reducible refine Bx.setCell ?_ (bt_of (by omega) (by omega)) _ | with_reducible refine Bx.alloc ?_ _ | with_reducible refine Bx.drew ?_))) hf) (by rw [HP.out, cond2R_is, thn_of hx1, thn_none hn])⟩) ?_; rintro c q2 val2 v2 w2 hF2 hx2 hl2 rfl hS2; have y2 : w1.heap.size ≤ w2.heap.size := (by have := hF2.size; first | omega | (simp at this; omega)); obtain ⟨hc, hz⟩ := fr_box hF2; have al2 : w.heap.size < w2.heap.size := (by omega); have bl2 : (w.heap.size + 1) < w2.heap.size := (by omega); have a2s0 : w2.cell? ⟨w.heap.size, 0, none⟩ = some (.bool false) := (by rw [hc _ _ (by first | omega | (simp <;> omega)) (by omega)]; go_simp); have a2z0 : w2.frozen? ⟨w.heap.size, 0, none⟩ = false := (by rw [hz _ _ (by first | omega | (simp <;> omega)) (by omega)]; go_simp); have a2s1 : w2.cell? ⟨w.heap.size, 1, none⟩ = some (.string ⟨#[]⟩) := (by rw [hc _ _ (by first | omega | (simp <;> omega)) (by omega)]; go_simp); have a2z1 : w2.frozen? ⟨w.heap.size, 1, none⟩ = false := (by rw [hz _ _ (by first | omega | (simp <;> omega)) (by omega)]; go_simp); have a2s2 : w2.cell? ⟨w.heap.size, 2, none⟩ = some (.slice none 0 0) := (by rw [hc _ _ (by first | omega | (simp <;> omega)) (by omega)]; go_simp); have a2z2 : w2.frozen? ⟨w.heap.size, 2, none⟩ = false := (by rw [hz _ _ (by first | omega | (simp <;> omega)) (by omega)]; go_simp); have b2s0 : w2.cell? ⟨(w.heap.size + 1), 0, none⟩ = some (.bool false) := (by rw [hc _ _ (by first | omega | (simp <;> omega)) (by omega)]; go_simp); have b2z0 : w2.frozen? ⟨(w.heap.size + 1), 0, none⟩ = false := (by rw [hz _ _ (by first | omega | (simp <;> omega)) (by omega)]; go_simp); have b2s1 : w2.cell? ⟨(w.heap.size + 1), 1, none⟩ = some (.string ⟨#[]⟩) := (by rw [hc _ _ (by first | omega | (simp <;> omega)) (by omega)]; go_simp); have b2z1 : w2.frozen? ⟨(w.heap.size + 1), 1, none⟩ = false := (by rw [hz _ _ (by first | omega | (simp <;> omega)) (by omega)]; go_simp); have b2s2 : w2.cell? ⟨(w.heap.size + 1), 2, none⟩ = some (.slice none 0 0) := (by rw [hc _ _ (by first | omega | (simp <;> omega)) (by omega)]; go_simp); have b2z2 : w2.frozen? ⟨(w.heap.size + 1), 2, none⟩ = false := (by rw [hz _ _ (by first | omega | (simp <;> omega)) (by omega)]; go_simp); clear hc hz; have HS2 : Hid (Rs w2 r v2 q2 (((o) || no1 t) || no1 c)) := hS2; have G2 : Hid (Fr r w.heap.size w w2) := (ft (fin_w (T := w.heap.size + 2) hr G1.out (Nat.le_refl _) (by repeat (first | with_reducible exact Bx.refl _ _ | with_reducible refine Bx.setCell ?_ (bt_of (by omega) (by omega)) _ | with_reducible refine Bx.alloc ?_ _ | with_reducible refine Bx.drew ?_))) hF2); clear hS2) | (go_at_call 103; refine Ans.use (sevAttr r 1 6 (q2) v2 (((o) || no1 t) || no1 c) _ (HS2.out.bx (T := w.heap.size + 2) hr (by repeat (first | with_reducible exact Bx.refl _ _ | with_reducible refine Bx.setCell ?_ (bt_of (by omega) (by omega)) _ | with_reducible refine Bx.alloc ?_ _ | with_reducible refine Bx.drew ?_))) (by have := HL.out; first | omega | (simp at this; omega))) (fun w' hf hn => ⟨rfl, Ans.no (ft (fin_w (T := w.heap.size + 2) hr G2.out (Nat.le_refl _) (by repeat (first | with_reducible exact Bx.refl _ _ | with_reducible refine Bx.setCell ?_ (bt_of (by omega) (by omega)) _ | with_reducible refine Bx.alloc ?_ _ | with_reducible refine Bx.drew ?_))) hf) (by rw [HP.out, cond2R_is, thn_of hx1, thn_of hx2, thn_none hn])⟩) ?_; rintro xs q3 val3 v3 w3 hF3 hx3 hl3 hR hS3; obtain ⟨ba3, hbE, hba3⟩ : ∃ ba, ba = _ ∧ RowP 7 3 RAttr w3 ba val3 xs := ⟨_, rfl, hR⟩; have R3_3 : Hid (RowP 7 3 RAttr w3 ba3 val3 xs) := hba3; obtain ⟨a3, n3, c3, rfl⟩ := hR.like; have yb3 : w2.heap.size ≤ ba3 := (by rw [hbE]; first | omega | (simp <;> omega)); clear hR hba3 hbE; have y3 : w2.heap.size ≤ w3.heap.size := (by have := hF3.size; first | omega | (simp at this; omega)); obtain ⟨hc, hz⟩ := fr_box hF3; have al3 : w.heap.size < w3.heap.size := (by omega); have bl3 : (w.heap.size + 1) < w3.heap.size := (by omega); have a3s0 : w3.cell? ⟨w.heap.size, 0, none⟩ = some (.bool false) := (by rw [hc _ _ (by first | omega | (simp <;> omega)) (by omega)]; go_simp); have a3z0 : w3.frozen? ⟨w.heap.size, 0, none⟩ = false := (by rw [hz _ _ (by first | omega | (simp <;> omega)) (by omega)]; go_simp); have a3s1 : w3.cell? ⟨w.heap.size, 1, none⟩ = some (.string ⟨#[]⟩) := (by rw [hc _ _ (by first | omega | (simp <;> omega)) (by omega)]; go_simp); have a3z1 : w3.frozen? ⟨w.heap.size, 1, none⟩ = false := (by rw [hz _ _ (by first | omega | (simp <;> omega)) (by omega)]; go_simp); have a3s2 : w3.cell? ⟨w.heap.size, 2, none⟩ = some (.slice none 0 0) := (by rw [hc _ _ (by first | omega | (simp <;> omega)) (by omega)]; go_simp); have a3z2 : w3.frozen? ⟨w.heap.size, 2, none⟩ = false := (by rw [hz _ _ (by first | omega | (simp <;> omega)) (by omega)]; go_simp); have b3s0 : w3.cell? ⟨(w.heap.size + 1), 0, none⟩ = some (.bool false) := (by rw [hc _ _ (by first | omega | (simp <;> omega)) (by omega)]; go_simp); have b3z0 : w3.frozen? ⟨(w.heap.size + 1), 0, none⟩ = false := (by rw [hz _ _ (by first | omega | (simp <;> omega)) (by omega)]; go_simp); have b3s1 : w3.cell? ⟨(w.heap.size + 1), 1, none⟩ = some (.string (st c)) := (by rw [hc _ _ (by first | omega | (simp <;> omega)) (by omega)]; go_simp); have b3z1 : w3.frozen? ⟨(w.heap.size + 1), 1, none⟩ = false := (by rw [hz _ _ (by first | omega | (simp <;> omega)) (by omega)]; go_simp); have b3s2 : w3.cell? ⟨(w.heap.size + 1), 2, none⟩ = some (.slice none 0 0) := (by rw [hc _ _ (by first | omega | (simp <;> omega)) (by omega)]; go_simp); have b3z2 : w3.frozen? ⟨(w.heap.size + 1), 2, none⟩ = false := (by rw [hz _ _ (by first | omega | (simp <;> omega)) (by omega)]; go_simp); clear hc hz; have HS3 : Hid (Rs w3 r v3 q3 ((((o) || no1 t) || no1 c) || ovL ovA 6 xs)) := hS3; have G3 : Hid (Fr r w.heap.size w w3) := (ft (fin_w (T := w.heap.size + 2) hr G2.out (Nat.le_refl _) (by repeat (first | with_reducible exact Bx.refl _ _ | with_reducible refine Bx.setCell ?_ (bt_of (by omega) (by omega)) _ | with_reducible refine Bx.alloc ?_ _ | with_reducible refine Bx.drew ?_))) hF3); clear hS3))
  refine bodyPost_ret (v := .agg #[.bool false, .string (st c), .slice a3 n3 c3]) (by simp [results, Tryz.results87, go_sem, a3s0, a3s1, a3s2, b3s0, b3s1, b3s2, al3, bl3] <;> rfl) rfl ?_
  refine fin_ans (x := (⟨false, c, xs⟩ : CondD)) (T := w.heap.size + 2) (rest := q3) hr G3.out ?_ (by rw [HP.out, cond2R_is, thn_of hx1, thn_of hx2, thn_of hx3]; rfl) (by first | omega | (simp; omega)) (fun HX => ⟨_, rfl, _, rfl, row_attr (by decide) (RowP.bx part_attr R3_3.out HX (by omega)) (by omega)⟩) HS3.out (by simp [no1, ovL, ovC])
  repeat (first | with_reducible exact Bx.refl _ _ | with_reducible refine Bx.setCell ?_ (bt_of (by omega) (by omega)) _ | with_reducible refine Bx.alloc ?_ _ | with_reducible refine Bx.drew ?_)
theorem cond_ans (r : Nat) (l : List TA) (v : Value) (o : Bool) (w : World) (h : Rs w r v l o) (hl : l.length ≤ 100000) :
    Calls Tryz.prog 87 #[pR r] w (Ans (RAgg RCond) condR ovC r w l o) := by
  cases hk : isK 7 (l.map Prod.fst) with
  | true =>
    obtain ⟨x, m, rfl, hx⟩ := isK_cons hk
    exact cond_neg r x m v o w h hl hx
  | false => exact cond_pos r l v o w h hl hk
end Go.Proofs.YtemacdimdpnkeaaGreatDoor
namespace Go.Proofs.YtemacdimdpnkeaaGreatDoor
set_option maxRecDepth 20000
open Go.RowKit
set_option linter.unusedVariables false
set_option linter.unusedSimpArgs false
theorem strE (s : Str) (k : List UInt8) : ((st s).toList == k) = decide (s = k) := by
  rw [Go.ByteArray.toList_eq, st_list]
  by_cases h : s = k
  · rw [h]; simp
  · rw [decide_eq_false h]; simpa using h
set_option maxHeartbeats 1000000 in
theorem sign_any (s : Str) (w : World) : Calls Tryz.prog 132 #[.string (st s)] w fun e w' => w' = w ∧ ((opK s ≠ 0 ∧ e = .returned (.int .u8 (opK s))) ∨ (opK s = 0 ∧ e = flt 17)) := by
  have tb := strE s
  obtain ⟨K, hK⟩ : ∃ K, K = opK s := ⟨_, rfl⟩
  have HK : Hid (K = opK s) := hK
  rw [← hK]
  clear hK
  by_cases h1 : s = [43]
  · have b43 : ((st s).toList == [43]) = true := (tb [43]).trans (by rw [h1]; decide)
    have : K = 2 := by rw [HK.out, h1]; rfl
    subst this
    clear HK tb h1
    go_enter Tryz.func132, Tryz.ntmps132
    go_wp2
    go_ret
    exact ⟨rfl, .inl ⟨by decide, rfl⟩⟩
  have b43 : ((st s).toList == [43]) = false := (tb [43]).trans (by simp [h1])
  by_cases h2 : s = [45]
  · have b45 : ((st s).toList == [45]) = true := (tb [45]).trans (by rw [h2]; decide)
    have : K = 3 := by rw [HK.out, h2]; rfl
    subst this
    clear HK tb h1 h2
    go_enter Tryz.func132, Tryz.ntmps132
    go_wp2
    go_ret
    exact ⟨rfl, .inl ⟨by decide, rfl⟩⟩
  have b45 : ((st s).toList == [45]) = false := (tb [45]).trans (by simp [h2])
  by_cases h3 : s = [42]
  · have b42 : ((st s).toList == [42]) = true := (tb [42]).trans (by rw [h3]; decide)
    have : K = 4 := by rw [HK.out, h3]; rfl
    subst this
    clear HK tb h1 h2 h3
    go_enter Tryz.func132, Tryz.ntmps132
    go_wp2
    go_ret
    exact ⟨rfl, .inl ⟨by decide, rfl⟩⟩
  have b42 : ((st s).toList == [42]) = false := (tb [42]).trans (by simp [h3])
  have : K = 0 := by rw [HK.out, opK, if_neg h1, if_neg h2, if_neg h3]
  subst this
  clear HK tb h1 h2 h3
  unfold flt
  go_enter Tryz.func132, Tryz.ntmps132
  go_wp2
  first | exact ⟨rfl, rfl, .inr ⟨rfl, rfl⟩⟩ | (refine ⟨rfl, ?_⟩; simp)
theorem sign_use {s : Str} {w : World} {Q : Ending → World → Prop} (hp : opK s = 0 → Q (flt 17) w) (hr : opK s ≠ 0 → Q (.returned (.int .u8 (opK s))) w) : Calls Tryz.prog 132 #[.string (st s)] w Q := by
  refine (sign_any s w).mono ?_
  rintro e w' ⟨rfl, ⟨h, rfl⟩ | ⟨h, rfl⟩⟩
  · exact hr h
  · exact hp h
def AnsI (n r : Nat) (w : World) (l : List TA) (o : Bool) (base : Nat) (css : List (List Value)) (d : Int) (e : Ending) (w' : World) : Prop :=
  Fr r base w w' ∧
  ((∃ x rest val v', exprR n (l.map Prod.fst) = some (x, rest.map Prod.fst) ∧ rest.length ≤ l.length ∧ e = .returned val ∧ OwnG 4 5 w' base val (css ++ x.1.map clI) ∧ Rs w' r v' rest (o || decide (8 < d + (x.2 : Int)))) ∨
   (exprR n (l.map Prod.fst) = none ∧ e = flt 17))
theorem AnsI.use {n r : Nat} {w : World} {l : List TA} {o : Bool} {base : Nat} {css : List (List Value)} {d : Int} {k : FuncId} {args : Array Value} {Q : Ending → World → Prop}
    (C : Calls Tryz.prog k args w (AnsI n r w l o base css d)) (hp : ∀ w', Fr r base w w' → exprR n (l.map Prod.fst) = none → Q (flt 17) w')
    (hr : ∀ x rest val v' w', Fr r base w w' → exprR n (l.map Prod.fst) = some (x, rest.map Prod.fst) → rest.length ≤ l.length → OwnG 4 5 w' base val (css ++ x.1.map clI) → Rs w' r v' rest (o || decide (8 < d + (x.2 : Int))) → Q (.returned val) w') : Calls Tryz.prog k args w Q := by
  refine C.mono ?_
  rintro e w' ⟨hf, ⟨x, rest, val, v', h1, h2, rfl, h3, h4⟩ | ⟨h1, rfl⟩⟩
  · exact hr x rest val v' w' hf h1 h2 h3 h4
  · exact hp w' hf h1
theorem AnsI.no {n r : Nat} {w w' : World} {l : List TA} {o : Bool} {base : Nat} {css : List (List Value)} {d : Int} (hf : Fr r base w w') (h : exprR n (l.map Prod.fst) = none) : AnsI n r w l o base css d (flt 17) w' := ⟨hf, .inr ⟨h, rfl⟩⟩
theorem AnsI.yes {n r : Nat} {w w' : World} {l : List TA} {o o' : Bool} {base : Nat} {css : List (List Value)} {d : Int} {x : List ItemD × Nat} {rest : List TA} {val v' : Value} (hf : Fr r base w w') (h : exprR n (l.map Prod.fst) = some (x, rest.map Prod.fst)) (hl : rest.length ≤ l.length) (hR : OwnG 4 5 w' base val (css ++ x.1.map clI)) (hs : Rs w' r v' rest o') (ho : o' = (o || decide (8 < d + (x.2 : Int)))) : AnsI n r w l o base css d (.returned val) w' := ⟨hf, .inl ⟨x, rest, val, v', h, hl, rfl, hR, ho ▸ hs⟩⟩
theorem exprR_len : ∀ (n : Nat) (l : List Tk) (x : List ItemD × Nat) (r : List Tk), exprR n l = some (x, r) → x.1.length + r.length ≤ l.length ∧ x.2 + r.length ≤ l.length
  | 0, l, x, r, h => by cases h
  | n + 1, l, x, r, h => by
    unfold exprR at h
    split at h
    · obtain ⟨t, s, h1, h2⟩ := thn_is h
      obtain ⟨rfl, rfl⟩ := Prod.mk.inj (Option.some.inj h2)
      have := (nxt_eats _).len h1
      simp; omega
    · split at h
      · obtain ⟨t, s, h1, h2⟩ := thn_is h
        obtain ⟨rfl, rfl⟩ := Prod.mk.inj (Option.some.inj h2)
        have := (nxt_eats _).len h1
        simp; omega
      · obtain ⟨t, s, h1, h2⟩ := thn_is h
        obtain ⟨nm, s2, h3, h4⟩ := thn_is h2
        have e1 := (nxt_eats _).len h1
        have e2 := nameR_eats.len h3
        split at h4
        · cases h4
        · obtain ⟨a, s3, h5, h6⟩ := thn_is h4
          obtain ⟨b, s4, h7, h8⟩ := thn_is h6
          obtain ⟨c, s5, h9, h10⟩ := thn_is h8
          obtain ⟨rfl, rfl⟩ := Prod.mk.inj (Option.some.inj h10)
          have e3 := exprR_len n _ _ _ h5
          have e4 := exprR_len n _ _ _ h7
          have e5 := (nxt_eats _).len h9
          simp
          omega
theorem infoItem : (Tryz.prog.info? (tyK 4)).map (fun i => (i.zero, i.size, i.bytes)) = some (some (.agg #[.int .u8 0, .int .u8 0, .int .i64 0, .string ByteArray.empty, .string ByteArray.empty]), 5, 56) := by kernel_rfl
theorem ex_var {n : Nat} {x : TA} {m : List TA} (h : x.1.k = 9) : exprR (n + 1) ((x :: m).map Prod.fst) = some (([⟨1, v0, x.1.nm⟩], 0), m.map Prod.fst) := by
  unfold exprR; rw [if_pos (isK_at h), thn_of (nxt_at h)]; rfl
theorem ex_val {n : Nat} {l : List Tk} (h9 : isK 9 l = false) (h0 : isK 0 l = false) : exprR (n + 1) l = thn valR (fun x => ret ([⟨0, x, []⟩], 0)) l := by
  unfold exprR
  rw [if_neg (by rw [h9]; decide)]
  unfold valR
  rw [thn_assoc]
  split
  · rfl
  · rename_i h11
    rw [thn_none (nxt_isK h0), thn_none (nxt_isK (by simpa using h11))]
theorem ex_op {n : Nat} {x : TA} {m : List TA} (h : x.1.k = 0) : exprR (n + 1) ((x :: m).map Prod.fst) = thn nameR (fun s => if opK s = 0 then bad else thn (exprR n) fun a => thn (exprR n) fun b => thn (nxt 1) fun _ => ret (a.1 ++ b.1 ++ [⟨opK s, v0, []⟩], 1 + max a.2 b.2)) (m.map Prod.fst) := by
  conv => lhs; unfold exprR
  rw [if_neg (by rw [isK_two (isK_at h) (by decide)]; decide), if_neg (by rw [isK_two (isK_at h) (by decide)]; decide), thn_of (nxt_at h)]
theorem over_node (o : Bool) (d : Int) (a b : Nat) (hd : 0 ≤ d) : ((((o || decide (8 < d)) || decide (8 < d + 1 + (a : Int))) || decide (8 < d + 1 + (b : Int)))) = (o || decide (8 < d + ((1 + max a b : Nat) : Int))) := by
  have e : decide (8 < d + ((1 + max a b : Nat) : Int)) = ((decide (8 < d) || decide (8 < d + 1 + (a : Int))) || decide (8 < d + 1 + (b : Int))) := by
    rw [Bool.eq_iff_iff]
    simp only [decide_eq_true_eq, Bool.or_eq_true]
    omega
  rw [e, Bool.or_assoc, Bool.or_assoc, Bool.or_assoc]
def ItemsC (n : Nat) : Prop := ∀ (r : Nat) (l : List TA) (v : Value) (o : Bool) (w : World) (base : Nat) (lv : Value) (css : List (List Value)) (d : Int), Rs w r v l o → r < base → base ≤ w.heap.size → OwnG 4 5 w base lv css → l.length < n → css.length + l.length ≤ 100000 → 0 ≤ d → d + l.length ≤ 1000000 → Calls Tryz.prog 122 #[pR r, lv, .int .i64 d] w (AnsI n r w l o base css d)
theorem fi {r base : Nat} {w w1 w2 : World} (h : Fr r base w w1) (hb : base ≤ w.heap.size) (k : Fr r w1.heap.size w1 w2) : Fr r base w w2 := h.trans (k.mono (Nat.le_trans hb h.size))
theorem fo' {r base : Nat} {w w1 w2 : World} (h : Fr r base w w1) (hb : base ≤ w.heap.size) (k : Below w1.heap.size w1 w2) : Fr r base w w2 := fi h hb (Fr.of k)
theorem fj {r base : Nat} {w w1 w2 : World} (h : Fr r base w w1) (k : Below base w1 w2) : Fr r base w w2 := h.trans (Fr.of k)
set_option maxHeartbeats 2000000 in
theorem items_var (n r : Nat) (x : TA) (m : List TA) (v : Value) (o : Bool) (w : World) (base : Nat) (lv : Value) (css : List (List Value)) (d : Int) (h : Rs w r v (x :: m) o) (hr : r < base) (hB : base ≤ w.heap.size) (hO : OwnG 4 5 w base lv css) (hc : css.length + (x :: m).length ≤ 100000) (hx : x.1.k = 9) :
    Calls Tryz.prog 122 #[pR r, lv, .int .i64 d] w (AnsI (n + 1) r w (x :: m) o base css d) := by
  have CM := atMost_any r 8 d (x :: m) v o w h
  have CT := fun W oo hh => take_yes r x m v oo W hh
  have HX : Hid (x.1.k = 9) := hx
  rw [hx] at CT
  unfold tkA at CT
  have HO : Hid (OwnG 4 5 w base lv css) := hO
  obtain ⟨a, c, rfl⟩ := hO.shape
  have F43a := field43a
  clear h hO hx
  go_enter Tryz.func122, Tryz.ntmps122
  go_wp2_with (first | (go_at_call 62; refine CM.mono ?_; rintro e w1 ⟨rfl, hS1, hF1⟩; clear CM; have HS1 : Hid (Rs w1 r v (x :: m) (o || decide (8 < d))) := hS1; clear hS1) | (go_at_call 83; refine (rnext_any r 9 (x :: m) v _ w1 HS1.out).mono ?_; rw [isK_at HX.out]; rintro e w7 ⟨rfl, hw⟩; obtain rfl := hw.symm) | (go_at_call 58; refine (CT _ _ HS1.out).mono ?_; rintro e w2 ⟨rfl, ⟨v2, hS2⟩, hF2⟩; clear CT; have HS2 : Hid (Rs w2 r v2 m (o || decide (8 < d))) := hS2; clear hS2) | (at_builtin; refine wp_app_g (K := 4) Tryz.underlying39 infoItem rfl (by decide) (by decide) rfl _ _ rfl base (.slice a css.length c) css (clI ⟨1, v0, x.1.nm⟩) rfl (((HO.out.fr hr hF1).fr hr hF2).below (bxn _ _)) ⟨_, 0, none⟩ 1 rfl rfl (lit_cells _ _ _) (part_item.one (w := w) (b := 0) (x := ⟨1, v0, x.1.nm⟩) rfl) (by simp at hc; omega) (Nat.le_trans hB (Nat.le_trans hF1.size (Nat.le_trans hF2.size (bxn _ _).size))) ?_; rintro v3 w3 ho3 hg3 hb3))
  refine bodyPost_ret (v := v3) (by simp [results, Tryz.results122, go_sem] <;> rfl) rfl ?_
  refine AnsI.yes (x := ([⟨1, v0, x.1.nm⟩], 0)) (rest := m) (v' := v2) (fj (fi (hF1.mono hB) hB (fo hF2 (bxn _ _))) hb3) (ex_var HX.out) (by simp) ho3 ((HS2.out.below (bxn _ _)).bel hr hb3) (by simp)
set_option maxHeartbeats 2000000 in
theorem items_val (n r : Nat) (m : List TA) (v : Value) (o : Bool) (w : World) (base : Nat) (lv : Value) (css : List (List Value)) (d : Int) (h : Rs w r v m o) (hr : r < base) (hB : base ≤ w.heap.size) (hO : OwnG 4 5 w base lv css) (hc : css.length + m.length ≤ 100000) (h9 : isK 9 (m.map Prod.fst) = false) (h0 : isK 0 (m.map Prod.fst) = false) :
    Calls Tryz.prog 122 #[pR r, lv, .int .i64 d] w (AnsI (n + 1) r w m o base css d) := by
  have CM := atMost_any r 8 d m v o w h
  have H9 : Hid (isK 9 (m.map Prod.fst) = false) := h9
  have H0 : Hid (isK 0 (m.map Prod.fst) = false) := h0
  have HO : Hid (OwnG 4 5 w base lv css) := hO
  obtain ⟨a, c, rfl⟩ := hO.shape
  clear h hO h9 h0
  go_enter Tryz.func122, Tryz.ntmps122
  go_wp2_with (first | (go_at_call 62; refine CM.mono ?_; rintro e w1 ⟨rfl, hS1, hF1⟩; clear CM; have HS1 : Hid (Rs w1 r v m (o || decide (8 < d))) := hS1; clear hS1) | (go_at_call 83; refine (rnext_any r 9 m v _ w1 HS1.out).mono ?_; rw [H9.out]; rintro e w7 ⟨rfl, hw⟩; obtain rfl := hw.symm) | (go_at_call 102; refine (pass_no r 0 m v _ w1 HS1.out H0.out).mono ?_; rintro e w7 ⟨rfl, hw⟩; obtain rfl := hw.symm) | (go_at_call 99; refine Ans.use (val_ans r m v _ _ HS1.out) (fun w' hf hn => ⟨rfl, AnsI.no (fi (hF1.mono hB) hB hf) (by rw [ex_val H9.out H0.out, thn_none hn])⟩) ?_; rintro x q val v2 w2 hF2 hx hl ⟨cs, rfl, hR⟩ hS2; have hcs : cs = [.int .u8 x.k, .int .i64 x.n, .string (st x.s)] := hR; clear hR; subst hcs; have HS2 : Hid (Rs w2 r v2 q ((o || decide (8 < d)) || no1 x)) := hS2; clear hS2) | (at_builtin; refine wp_app_g (K := 4) Tryz.underlying39 infoItem rfl (by decide) (by decide) rfl _ _ rfl base (.slice a css.length c) css (clI ⟨0, x, []⟩) rfl (((HO.out.fr hr hF1).fr hr hF2).below (bxn _ _)) ⟨_, 0, none⟩ 1 rfl rfl (lit_cells _ _ _) (part_item.one (w := w) (b := 0) (x := ⟨0, x, []⟩) rfl) (by omega) (Nat.le_trans hB (Nat.le_trans hF1.size (Nat.le_trans hF2.size (bxn _ _).size))) ?_; rintro v3 w3 ho3 hg3 hb3))
  refine bodyPost_ret (v := v3) (by simp [results, Tryz.results122, go_sem] <;> rfl) rfl ?_
  refine AnsI.yes (x := ([⟨0, x, []⟩], 0)) (rest := q) (v' := v2) (fj (fi (hF1.mono hB) hB (fo hF2 (bxn _ _))) hb3) (by rw [ex_val H9.out H0.out, thn_of hx]; rfl) hl ho3 ((HS2.out.below (bxn _ _)).bel hr hb3) (by simp [no1])
set_option maxHeartbeats 4000000 in
theorem items_op (n r : Nat) (IH : ItemsC n) (x : TA) (m : List TA) (v : Value) (o : Bool) (w : World) (base : Nat) (lv : Value) (css : List (List Value)) (d : Int) (h : Rs w r v (x :: m) o) (hr : r < base) (hB : base ≤ w.heap.size) (hO : OwnG 4 5 w base lv css) (hn : m.length < n) (hc : css.length + (x :: m).length ≤ 100000) (hd : 0 ≤ d) (hd2 : d + (x :: m).length ≤ 1000000) (hx : x.1.k = 0) :
    Calls Tryz.prog 122 #[pR r, lv, .int .i64 d] w (AnsI (n + 1) r w (x :: m) o base css d) := by
  have CM := atMost_any r 8 d (x :: m) v o w h
  have CT := fun W oo hh => pass_yes r x m v oo W hh
  have HX : Hid (x.1.k = 0) := hx
  rw [hx] at CT
  have HO : Hid (OwnG 4 5 w base lv css) := hO
  obtain ⟨a, c, rfl⟩ := hO.shape
  have HI : Hid (ItemsC n) := IH
  have hd3 : d ≤ 1000000 := by omega
  have HC : Hid (css.length + (x :: m).length ≤ 100000) := hc
  have HD : Hid (d + (x :: m).length ≤ 1000000) := hd2
  have HN : Hid (m.length < n) := hn
  clear h hO hx IH hc hd2 hn
  go_enter Tryz.func122, Tryz.ntmps122
  go_wp2_with (first | (go_at_call 62; refine CM.mono ?_; rintro e w1 ⟨rfl, hS1, hF1⟩; clear CM; have HS1 : Hid (Rs w1 r v (x :: m) (o || decide (8 < d))) := hS1; clear hS1) | (go_at_call 83; refine (rnext_any r 9 (x :: m) v _ w1 HS1.out).mono ?_; rw [isK_two (isK_at HX.out) (by decide)]; rintro e w7 ⟨rfl, hw⟩; obtain rfl := hw.symm) | (go_at_call 102; refine (CT _ _ HS1.out).mono ?_; rintro e w2 ⟨rfl, ⟨v2, hS2⟩, hF2⟩; clear CT; have HS2 : Hid (Rs w2 r v2 m (o || decide (8 < d))) := hS2; have G2 : Hid (Fr r base w w2) := fi (hF1.mono hB) hB hF2; have HO2 : Hid (OwnG 4 5 w2 base (.slice a css.length c) css) := (HO.out.fr hr hF1).fr hr hF2; clear hS2) | (go_at_call 59; refine Ans.use (name_ans r m v2 _ _ HS2.out) (fun w' hf hn => ⟨rfl, AnsI.no (fi G2.out hB hf) (by rw [ex_op HX.out, thn_none hn])⟩) ?_; rintro s q3 val v3 w3 hF3 hx3 hl3 rfl hS3; have HS3 : Hid (Rs w3 r v3 q3 ((o || decide (8 < d)) || no1 s)) := hS3; have G3 : Hid (Fr r base w w3) := fi G2.out hB hF3; have HO3 : Hid (OwnG 4 5 w3 base (.slice a css.length c) css) := HO2.out.fr hr hF3; clear hS3) | (go_at_call 132; refine sign_use (fun hs => ⟨rfl, AnsI.no G3.out (by rw [ex_op HX.out, thn_of hx3, if_pos hs]; rfl)⟩) ?_; intro hs; have HSg : Hid (opK s ≠ 0) := hs; clear hs) | (go_at_call 122; refine AnsI.use (HI.out r q3 v3 _ _ base _ css (d + 1) HS3.out hr (Nat.le_trans hB G3.out.size) HO3.out (by have := HN.out; omega) (by have := HC.out; simp at this; omega) (by omega) (by have := HD.out; simp at this; omega)) (fun w' hf hn => ⟨rfl, AnsI.no (G3.out.trans hf) (by rw [ex_op HX.out, thn_of hx3, if_neg HSg.out, thn_none hn])⟩) ?_; rintro xa q4 val v4 w4 hF4 hx4 hl4 hO4 hS4; generalize hcss4 : css ++ xa.1.map clI = css4 at hO4; have HQ4 : Hid (css ++ xa.1.map clI = css4) := hcss4; clear hcss4; have HS4 : Hid (Rs w4 r v4 q4 _) := hS4; have G4 : Hid (Fr r base w w4) := G3.out.trans hF4; have HO4 : Hid (OwnG 4 5 w4 base val css4) := hO4; obtain ⟨a4, c4, rfl⟩ := hO4.shape; clear hS4 hO4 HO3 HS3) | (go_at_call 122; refine AnsI.use (HI.out r q4 v4 _ _ base _ css4 (d + 1) HS4.out hr (Nat.le_trans hB G4.out.size) HO4.out (by have := HN.out; omega) (by have h1 := HC.out; have h2 := exprR_len _ _ _ _ hx4; have h3 := congrArg List.length HQ4.out; simp at h1 h2 h3; omega) (by omega) (by have := HD.out; simp at this; omega)) (fun w' hf hn => ⟨rfl, AnsI.no (G4.out.trans hf) (by rw [ex_op HX.out, thn_of hx3, if_neg HSg.out, thn_of hx4, thn_none hn])⟩) ?_; rintro xb q5 val v5 w5 hF5 hx5 hl5 hO5 hS5; generalize hcss5 : css4 ++ xb.1.map clI = css5 at hO5; have HQ5 : Hid (css4 ++ xb.1.map clI = css5) := hcss5; clear hcss5; have HS5 : Hid (Rs w5 r v5 q5 _) := hS5; have G5 : Hid (Fr r base w w5) := G4.out.trans hF5; have HO5 : Hid (OwnG 4 5 w5 base val css5) := hO5; obtain ⟨a5, c5, rfl⟩ := hO5.shape; clear hS5 hO5) | (go_at_call 58; refine Ans.use (take_ans r 1 q5 v5 _ _ HS5.out) (fun w' hf hn => ⟨rfl, AnsI.no (fi G5.out hB hf) (by rw [ex_op HX.out, thn_of hx3, if_neg HSg.out, thn_of hx4, thn_of hx5, thn_none hn])⟩) ?_; rintro t q6 val v6 w6 hF6 hx6 hl6 ⟨p, rfl⟩ hS6; have HS6 : Hid (Rs w6 r v6 q6 _) := hS6; have G6 : Hid (Fr r base w w6) := fi G5.out hB hF6; have HO6 : Hid (OwnG 4 5 w6 base (.slice a5 css5.length c5) css5) := HO5.out.fr hr hF6; clear hS6) | (at_builtin; refine wp_app_g (K := 4) Tryz.underlying39 infoItem rfl (by decide) (by decide) rfl _ _ rfl base (.slice a5 css5.length c5) css5 (clI ⟨opK s, v0, []⟩) rfl (HO6.out.below (bxn _ _)) ⟨_, 0, none⟩ 1 rfl rfl (lit_cells _ _ _) (part_item.one (w := w) (b := 0) (x := ⟨opK s, v0, []⟩) rfl) (by have h1 := HC.out; have h2 := exprR_len _ _ _ _ hx4; have h3 := congrArg List.length HQ4.out; have h4 := exprR_len _ _ _ _ hx5; have h5 := congrArg List.length HQ5.out; simp at h1 h2 h3 h4 h5; omega) (Nat.le_trans hB (Nat.le_trans G6.out.size (bxn _ _).size)) ?_; rintro v8 w8 ho8 hg8 hb8))
  refine bodyPost_ret (v := v8) (by simp [results, Tryz.results122, go_sem] <;> rfl) rfl ?_
  refine AnsI.yes (x := (xa.1 ++ xb.1 ++ [⟨opK s, v0, []⟩], 1 + max xa.2 xb.2)) (rest := q6) (v' := v6) (fj (fo' G6.out hB (bxn _ _)) hb8) (by rw [ex_op HX.out, thn_of hx3, if_neg HSg.out, thn_of hx4, thn_of hx5, thn_of hx6]; rfl) (by simp; omega) ?_ ((HS6.out.below (bxn _ _)).bel hr hb8) (by have := over_node o d xa.2 xb.2 hd; rw [← this]; simp [no1])
  have e : css ++ (xa.1 ++ xb.1 ++ [(⟨opK s, v0, []⟩ : ItemD)]).map clI = css5 ++ [clI ⟨opK s, v0, []⟩] := by rw [← HQ5.out, ← HQ4.out]; simp
  rw [e]; exact ho8
theorem items_ans : ∀ n, ItemsC n
  | 0 => fun r l v o w base lv css d h hr hB hO hn => by omega
  | n + 1 => fun r l v o w base lv css d h hr hB hO hn hc hd hd2 => by
    cases h9 : isK 9 (l.map Prod.fst) with
    | true =>
      obtain ⟨x, m, rfl, hx⟩ := isK_cons h9
      exact items_var n r x m v o w base lv css d h hr hB hO hc hx
    | false =>
      cases h0 : isK 0 (l.map Prod.fst) with
      | true =>
        obtain ⟨x, m, rfl, hx⟩ := isK_cons h0
        exact items_op n r (items_ans n) x m v o w base lv css d h hr hB hO (by simp at hn; omega) hc hd hd2 hx
      | false => exact items_val n r l v o w base lv css d h hr hB hO hc h9 h0
end Go.Proofs.YtemacdimdpnkeaaGreatDoor
namespace Go.Proofs.YtemacdimdpnkeaaGreatDoor
set_option maxRecDepth 20000
open Go.RowKit
set_option linter.unusedVariables false
set_option linter.unusedSimpArgs false
theorem expr_ans (r : Nat) (l : List TA) (v : Value) (o : Bool) (w : World) (h : Rs w r v l o) (hl : l.length ≤ 100000) :
    Calls Tryz.prog 107 #[pR r] w (Ans (fun w b val x => RExpr w b [val] x) exR ovN r w l o) := by
  have CI := items_ans (l.length + 1) r l v o w w.heap.size (.slice none 0 0) [] 0 h h.lt (Nat.le_refl _) (OwnG.nil _ _ _ _) (Nat.lt_succ_self _) (by simp; omega) (by decide) (by omega)
  have he : exR (l.map Prod.fst) = exprR (l.length + 1) (l.map Prod.fst) := by unfold exR; rw [List.length_map]
  have HE : Hid (exR (l.map Prod.fst) = exprR (l.length + 1) (l.map Prod.fst)) := he
  clear h he hl
  go_enter Tryz.func107, Tryz.ntmps107
  go_wp2_with (go_at_call 122; refine AnsI.use CI (fun w' hf hn => ⟨rfl, Ans.no hf (HE.out.trans hn)⟩) ?_; rintro x q val v1 w1 hF hx hl hO hS; clear CI; have HO : Hid (OwnG 4 5 w1 w.heap.size val ([] ++ x.1.map clI)) := hO; obtain ⟨a, c, rfl⟩ := hO.shape; clear hO)
  refine bodyPost_ret (v := .slice a ([] ++ x.1.map clI).length c) (by simp [results, Tryz.results107, go_sem] <;> rfl) rfl ?_
  refine Ans.yes hF (HE.out.trans hx) hl ⟨_, rfl, ?_⟩ hS ?_
  · exact HO.out.sl.mono (blk_row (by decide) (Nat.le_refl _))
  · unfold ovN; congr 1; exact decide_eq_decide.2 (by omega)
theorem infoExpr : (Tryz.prog.info? (tyK 6)).map (fun i => (i.zero, i.size, i.bytes)) = some (some (.slice none 0 0), 1, 24) := by kernel_rfl
set_option maxHeartbeats 4000000 in
theorem sevExpr (r : Nat) (e : Int) (most : Nat) (l : List TA) (v : Value) (o : Bool) (w : World) (h : Rs w r v l o) (hl : l.length ≤ 100000) :
    Calls Tryz.prog 108 #[pR r, .int .u8 e, .int .i64 most, .func (.func 107) #[pR r] #[]] w (Ans (RowP 6 1 RExpr) (sevL e exR) (fun xs => xs.any ovN || decide (most < xs.length)) r w l o) := by
  have hr := h.lt
  have HL : Hid (l.length ≤ 100000) := hl
  have H0 : Hid (Rs w r v l o) := h
  clear h hl
  go_enter Tryz.func108, Tryz.ntmps108
  go_wp2
  go_loopw [9] (fun v9 wr => ∃ (css : List (List Value)) (xs : List (List ItemD × Nat)) (m : List TA) (v' : Value), OwnG 6 1 wr w.heap.size v9 css ∧ All2 (RExpr wr w.heap.size) css xs ∧ Rs wr r v' m (o || xs.any ovN) ∧ Fr r w.heap.size w wr ∧ m.length + xs.length ≤ l.length ∧ sevL e exR (l.map Prod.fst) = (sevL e exR (m.map Prod.fst)).map fun p => (xs ++ p.1, p.2)) (fun _ wr => tokLen wr r)
  case atStart => exact ⟨[], [], l, v, OwnG.nil _ _ _ _, trivial, by rw [List.any_nil, Bool.or_false]; exact H0.out, Fr.refl _ _ _, by simp, sev_start _ _ _⟩
  case round =>
    obtain ⟨css, xs, m, v', hown, hall, hS, hF, hlen, heq⟩ := hrel
    have HC : Hid (css.length = xs.length) := hall.len
    have HO : Hid (OwnG 6 1 wr w.heap.size u9 css) := hown
    have HA : Hid (All2 (RExpr wr w.heap.size) css xs) := hall
    have HE : Hid (sevL e exR (l.map Prod.fst) = (sevL e exR (m.map Prod.fst)).map fun p => (xs ++ p.1, p.2)) := heq
    have HS : Hid (Rs wr r v' m (o || xs.any ovN)) := hS
    have HF : Hid (Fr r w.heap.size w wr) := hF
    obtain ⟨a9, c9, rfl⟩ := hown.shape
    have hwz : w.heap.size ≤ wr.heap.size := hF.size
    clear hown hall heq hS hF H0
    cases hk : isK e (m.map Prod.fst) with
    | true =>
      obtain ⟨x, m', rfl, rfl⟩ := isK_cons hk
      have CP := pass_yes r x m' v' _ wr HS.out
      have HQ : Hid (sevL x.1.k exR (l.map Prod.fst) = some (xs, m'.map Prod.fst)) := sev_stop HE.out hk
      have CM := fun W v'' oo hh => atMost_any r most css.length m' v'' oo W hh
      go_wp2_with (first | (go_at_call 102; refine CP.mono ?_; rintro e w1 ⟨rfl, ⟨v1, hS1⟩, hF1⟩; clear CP; have HS1 : Hid (Rs w1 r v1 m' (o || xs.any ovN)) := hS1; clear hS1) | (go_at_call 62; refine (CM _ _ _ HS1.out).mono ?_; rintro e w2 ⟨rfl, hS2, hF2⟩; clear CM; have HS2 : Hid (Rs w2 r v1 m' ((o || xs.any ovN) || decide ((most : Int) < css.length))) := hS2; clear hS2))
      refine bodyPost_ret (v := .slice a9 css.length c9) (by simp [results, Tryz.results108, go_sem] <;> rfl) rfl ?_
      have F2 : Fr r wr.heap.size wr w2 := ft hF1 hF2
      refine Ans.yes (ft HF.out F2) HQ.out ?_ ⟨css, ((HO.out.fr hr F2).sl), part_expr.all HA.out F2.size (blk_fr hr F2)⟩ HS2.out ?_
      · simp at hlen; omega
      · rw [Bool.or_assoc]; congr 2; rw [HC.out]; exact decide_eq_decide.2 (by omega)
    | false =>
      have CP := pass_no r e m v' _ wr HS.out hk
      have CQ := expr_ans r m v' _ wr HS.out (by have := HL.out; omega)
      have HK : Hid (isK e (m.map Prod.fst) = false) := hk
      clear hk
      have hfn : ∀ w, Sem.run Tryz.prog (callFunc 124 #[pR r]) w = .ok (.enter 124 #[pR r]) w := fun _ => rfl
      go_wp2_with (first | (go_at_call 102; refine CP.mono ?_; rintro e w1 ⟨rfl, hw⟩; obtain rfl := hw.symm; clear CP) | (go_at_call 107; refine Ans.use CQ (fun w' hf hn => ⟨rfl, Ans.no (ft HF.out hf) (sev_fail HE.out HK.out hn)⟩) ?_; rintro x rest val v2 w2 hF2 hx hl2 hR hS2; have hR' := hR; obtain ⟨va, hcs, h1⟩ := hR'; obtain ⟨a1, n1, c1, e1⟩ := h1.like; have hv : val = va := (List.cons.inj hcs).1; subst e1; subst hv; have HR : Hid (RExpr w2 wr.heap.size _ x) := hR; clear hR h1 hcs; clear CQ) | (at_builtin; refine wp_app_g (K := 6) Tryz.underlying98 infoExpr rfl (by decide) (by decide) rfl _ _ rfl w.heap.size (.slice a9 css.length c9) css [.slice a1 n1 c1] rfl ((HO.out.fr hr hF2).below (bxn _ _)) ⟨_, 0, none⟩ 1 rfl (part_expr.len HR.out) (lit_cells _ _ _) (part_expr.one HR.out) (by have := HL.out; have := HC.out; omega) (Nat.le_trans (Nat.le_trans hwz hF2.size) (bxn _ _).size) ?_; rintro v3 w3 ho3 hg3 hb3; have HO3 : Hid (OwnG 6 1 w3 w.heap.size v3 (css ++ [[.slice a1 n1 c1]])) := ho3; have HG3 : Hid (∀ k b, Blk _ w.heap.size 6 k b → w3.heap[b]? = _) := blk_grown (by decide) ((HO.out.fr hr hF2).below (bxn _ _)) hg3; have HB3 : Hid (Below w.heap.size _ w3) := hb3; clear ho3 hg3 hb3))
      go_roundw
      case rel =>
        refine ⟨css ++ [[.slice a1 n1 c1]], xs ++ [x], rest, v2, HO3.out, ?_, ?_, ?_, ?_, sev_step exR_eats HE.out HK.out hx⟩
        · refine All2.snoc (part_expr.keep (part_expr.keep (part_expr.low HR.out hwz) (bxn _ _).size (blk_below (bxn _ _))) HB3.out.size HG3.out) (part_expr.all (part_expr.all (part_expr.all HA.out hF2.size (blk_fr hr hF2)) (bxn _ _).size (blk_below (bxn _ _))) HB3.out.size HG3.out)
        · rw [List.any_append, ← Bool.or_assoc]
          have := (hS2.below (bxn _ _)).bel hr HB3.out
          simpa using this
        · exact (ft HF.out (fo hF2 (bxn _ _))).trans (Fr.of HB3.out)
        · have := exR_eats.len hx; simp at this ⊢; omega
      case measure =>
        have h1 := HS.out
        have h2 : Rs w3 r v2 rest _ := (hS2.below (bxn _ _)).bel hr HB3.out
        rw [h1.toks, h2.toks]
        have := exR_eats.len hx
        simp at this; omega
theorem Part.bx {α : Type} {K n : Nat} {R : World → Nat → List Value → α → Prop} (hp : Part K n R) {w w' : World} {B T base : Nat} {cs : List Value} {x : α} (h : R w base cs x) (hb : Bx (Bt B T) w w') (hT : T ≤ base) : R w' base cs x :=
  hp.keep h hb.size fun k b hk => hb.block b hk.lt (fun hc => by have h1 := hc.2; have h2 := hk.2.1; omega)
set_option maxHeartbeats 4000000 in
theorem set_ans (r : Nat) (m : List TA) (v : Value) (o : Bool) (w : World) (h : Rs w r v (m) o) (hl : (m).length ≤ 100000) :
    Calls Tryz.prog 121 #[pR r] w (Ans (RAgg RSet) setR ovN r w (m) o) := by
  have hr := h.lt
  have F43 := field43
  have F43a := field43a
  have F43b := field43b
  have HH : Hid (Rs w r v (m) o) := h
  have HL : Hid ((m).length ≤ 100000) := hl
  have HP : Hid (setR = thn (nxt 8) fun t => thn exR fun x => ret ((⟨t.nm, x.1⟩ : SetD), x.2)) := (rfl : setR = _)
  clear h hl
  go_enter Tryz.func121, Tryz.ntmps121
  go_wp2_with (first | (go_at_call 58; refine Ans.use (take_ans r 8 (m) v (o) _ (HH.out.below (bxn _ _))) (fun w' hf hn => ⟨rfl, Ans.no (fb (bxn _ _) hf) (by rw [HP.out, thn_none hn])⟩) ?_; rintro t q1 val1 v1 w1 hF1 hx1 hl1 ⟨p, rfl⟩ hS1; have y1 : w.heap.size + 1 ≤ w1.heap.size := (by have := hF1.size; first | omega | (simp at this; omega)); obtain ⟨hc, hz⟩ := fr_box hF1; have al1 : w.heap.size < w1.heap.size := (by omega); have a1s0 : w1.cell? ⟨w.heap.size, 0, none⟩ = some (.string ⟨#[]⟩) := (by rw [hc _ _ (by first | omega | (simp <;> omega)) (by omega)]; go_simp); have a1z0 : w1.frozen? ⟨w.heap.size, 0, none⟩ = false := (by rw [hz _ _ (by first | omega | (simp <;> omega)) (by omega)]; go_simp); have a1s1 : w1.cell? ⟨w.heap.size, 1, none⟩ = some (.slice none 0 0) := (by rw [hc _ _ (by first | omega | (simp <;> omega)) (by omega)]; go_simp); have a1z1 : w1.frozen? ⟨w.heap.size, 1, none⟩ = false := (by rw [hz _ _ (by first | omega | (simp <;> omega)) (by omega)]; go_simp); clear hc hz; have HS1 : Hid (Rs w1 r v1 q1 ((o) || no1 t)) := hS1; have G1 : Hid (Fr r w.heap.size w w1) := (fb (bxn _ _) hF1); clear hS1) | (go_at_call 107; refine Ans.use (expr_ans r (q1) v1 ((o) || no1 t) _ (HS1.out.bx (T := w1.heap.size + 1) hr (by repeat (first | with_reducible exact Bx.refl _ _ | with_reducible refine Bx.setCell ?_ (bt_of (by omega) (by omega)) _ | with_reducible refine Bx.alloc ?_ _ | with_reducible refine Bx.drew ?_))) (by have := HL.out; first | omega | (simp at this; omega))) (fun w' hf hn => ⟨rfl, Ans.no (ft (fin_w (T := w1.heap.size + 1) hr G1.out (Nat.le_refl _) (by repeat (first | with_reducible exact Bx.refl _ _ | with_reducible refine Bx.setCell ?_ (bt_of (by omega) (by omega)) _ | with_reducible refine Bx.alloc ?_ _ | with_reducible refine Bx.drew ?_))) hf) (by rw [HP.out, thn_of hx1, thn_none hn])⟩) ?_; rintro x q2 val2 v2 w2 hF2 hx2 hl2 hR hS2; obtain ⟨ba2, hbE, hba⟩ : ∃ ba, ba = _ ∧ RExpr w2 ba [val2] x := ⟨_, rfl, hR⟩; have E2 : Hid (RExpr w2 ba2 [val2] x) := hba; have yb2 : w1.heap.size + 1 ≤ ba2 := (by rw [hbE]; first | omega | (simp <;> omega)); have hR' := hR; obtain ⟨va, hcs, h1⟩ := hR'; obtain ⟨a2, n2, c2, e1⟩ := h1.like; have hv : val2 = va := (List.cons.inj hcs).1; subst e1; subst hv; clear hR h1 hcs hba hbE; have y2 : w1.heap.size + 1 ≤ w2.heap.size := (by have := hF2.size; first | omega | (simp at this; omega)); obtain ⟨hc, hz⟩ := fr_box hF2; have al2 : w.heap.size < w2.heap.size := (by omega); have bl2 : w1.heap.size < w2.heap.size := (by omega); have a2s0 : w2.cell? ⟨w.heap.size, 0, none⟩ = some (.string ⟨#[]⟩) := (by rw [hc _ _ (by first | omega | (simp <;> omega)) (by omega)]; go_simp); have a2z0 : w2.frozen? ⟨w.heap.size, 0, none⟩ = false := (by rw [hz _ _ (by first | omega | (simp <;> omega)) (by omega)]; go_simp); have a2s1 : w2.cell? ⟨w.heap.size, 1, none⟩ = some (.slice none 0 0) := (by rw [hc _ _ (by first | omega | (simp <;> omega)) (by omega)]; go_simp); have a2z1 : w2.frozen? ⟨w.heap.size, 1, none⟩ = false := (by rw [hz _ _ (by first | omega | (simp <;> omega)) (by omega)]; go_simp); have b2s0 : w2.cell? ⟨w1.heap.size, 0, none⟩ = some (.string (st t.nm)) := (by rw [hc _ _ (by first | omega | (simp <;> omega)) (by omega)]; go_simp); have b2z0 : w2.frozen? ⟨w1.heap.size, 0, none⟩ = false := (by rw [hz _ _ (by first | omega | (simp <;> omega)) (by omega)]; go_simp); have b2s1 : w2.cell? ⟨w1.heap.size, 1, none⟩ = some (.slice none 0 0) := (by rw [hc _ _ (by first | omega | (simp <;> omega)) (by omega)]; go_simp); have b2z1 : w2.frozen? ⟨w1.heap.size, 1, none⟩ = false := (by rw [hz _ _ (by first | omega | (simp <;> omega)) (by omega)]; go_simp); clear hc hz; have HS2 : Hid (Rs w2 r v2 q2 (((o) || no1 t) || ovN x)) := hS2; have G2 : Hid (Fr r w.heap.size w w2) := (ft (fin_w (T := w1.heap.size + 1) hr G1.out (Nat.le_refl _) (by repeat (first | with_reducible exact Bx.refl _ _ | with_reducible refine Bx.setCell ?_ (bt_of (by omega) (by omega)) _ | with_reducible refine Bx.alloc ?_ _ | with_reducible refine Bx.drew ?_))) hF2); clear hS2))
  refine bodyPost_ret (v := .agg #[.string (st t.nm), .slice a2 n2 c2]) (by simp [results, Tryz.results121, go_sem, a2s0, a2s1, b2s0, b2s1, al2, bl2] <;> rfl) rfl ?_
  refine fin_ans (x := ((⟨t.nm, x.1⟩ : SetD), x.2)) (T := w1.heap.size + 1) (rest := q2) hr G2.out ?_ (by rw [HP.out, thn_of hx1, thn_of hx2]; rfl) (by first | omega | (simp; omega)) (fun HX => ⟨_, rfl, by have := part_expr.bx E2.out HX (by omega); obtain ⟨va, hcs, h1⟩ := this; have hv := (List.cons.inj hcs).1; subst hv; exact ⟨_, rfl, h1.mono fun b hb => ⟨by decide, Nat.le_trans (by omega) hb.2.1, hb.2.2⟩⟩⟩) HS2.out (by simp [no1, ovN])
  repeat (first | with_reducible exact Bx.refl _ _ | with_reducible refine Bx.setCell ?_ (bt_of (by omega) (by omega)) _ | with_reducible refine Bx.alloc ?_ _ | with_reducible refine Bx.drew ?_)
end Go.Proofs.YtemacdimdpnkeaaGreatDoor
namespace Go.Proofs.YtemacdimdpnkeaaGreatDoor
set_option maxRecDepth 20000
open Go.RowKit
set_option linter.unusedVariables false
set_option linter.unusedSimpArgs false
theorem infoSet : (Tryz.prog.info? (tyK 5)).map (fun i => (i.zero, i.size, i.bytes)) = some (some (.agg #[.string ByteArray.empty, .slice none 0 0]), 2, 40) := by kernel_rfl
set_option maxHeartbeats 4000000 in
theorem sevSet (r : Nat) (e : Int) (most : Nat) (l : List TA) (v : Value) (o : Bool) (w : World) (h : Rs w r v l o) (hl : l.length ≤ 100000) :
    Calls Tryz.prog 120 #[pR r, .int .u8 e, .int .i64 most, .func (.func 121) #[pR r] #[]] w (Ans (RowP 5 2 RSet) (sevL e setR) (fun xs => xs.any ovN || decide (most < xs.length)) r w l o) := by
  have hr := h.lt
  have HL : Hid (l.length ≤ 100000) := hl
  have H0 : Hid (Rs w r v l o) := h
  clear h hl
  go_enter Tryz.func120, Tryz.ntmps120
  go_wp2
  go_loopw [9] (fun v9 wr => ∃ (css : List (List Value)) (xs : List (SetD × Nat)) (m : List TA) (v' : Value), OwnG 5 2 wr w.heap.size v9 css ∧ All2 (RSet wr w.heap.size) css xs ∧ Rs wr r v' m (o || xs.any ovN) ∧ Fr r w.heap.size w wr ∧ m.length + xs.length ≤ l.length ∧ sevL e setR (l.map Prod.fst) = (sevL e setR (m.map Prod.fst)).map fun p => (xs ++ p.1, p.2)) (fun _ wr => tokLen wr r)
  case atStart => exact ⟨[], [], l, v, OwnG.nil _ _ _ _, trivial, by rw [List.any_nil, Bool.or_false]; exact H0.out, Fr.refl _ _ _, by simp, sev_start _ _ _⟩
  case round =>
    obtain ⟨css, xs, m, v', hown, hall, hS, hF, hlen, heq⟩ := hrel
    have HC : Hid (css.length = xs.length) := hall.len
    have HO : Hid (OwnG 5 2 wr w.heap.size u9 css) := hown
    have HA : Hid (All2 (RSet wr w.heap.size) css xs) := hall
    have HE : Hid (sevL e setR (l.map Prod.fst) = (sevL e setR (m.map Prod.fst)).map fun p => (xs ++ p.1, p.2)) := heq
    have HS : Hid (Rs wr r v' m (o || xs.any ovN)) := hS
    have HF : Hid (Fr r w.heap.size w wr) := hF
    obtain ⟨a9, c9, rfl⟩ := hown.shape
    have hwz : w.heap.size ≤ wr.heap.size := hF.size
    clear hown hall heq hS hF H0
    cases hk : isK e (m.map Prod.fst) with
    | true =>
      obtain ⟨x, m', rfl, rfl⟩ := isK_cons hk
      have CP := pass_yes r x m' v' _ wr HS.out
      have HQ : Hid (sevL x.1.k setR (l.map Prod.fst) = some (xs, m'.map Prod.fst)) := sev_stop HE.out hk
      have CM := fun W v'' oo hh => atMost_any r most css.length m' v'' oo W hh
      go_wp2_with (first | (go_at_call 102; refine CP.mono ?_; rintro e w1 ⟨rfl, ⟨v1, hS1⟩, hF1⟩; clear CP; have HS1 : Hid (Rs w1 r v1 m' (o || xs.any ovN)) := hS1; clear hS1) | (go_at_call 62; refine (CM _ _ _ HS1.out).mono ?_; rintro e w2 ⟨rfl, hS2, hF2⟩; clear CM; have HS2 : Hid (Rs w2 r v1 m' ((o || xs.any ovN) || decide ((most : Int) < css.length))) := hS2; clear hS2))
      refine bodyPost_ret (v := .slice a9 css.length c9) (by simp [results, Tryz.results120, go_sem] <;> rfl) rfl ?_
      have F2 : Fr r wr.heap.size wr w2 := ft hF1 hF2
      refine Ans.yes (ft HF.out F2) HQ.out ?_ ⟨css, ((HO.out.fr hr F2).sl), part_set.all HA.out F2.size (blk_fr hr F2)⟩ HS2.out ?_
      · simp at hlen; omega
      · rw [Bool.or_assoc]; congr 2; rw [HC.out]; exact decide_eq_decide.2 (by omega)
    | false =>
      have CP := pass_no r e m v' _ wr HS.out hk
      have CQ := set_ans r m v' _ wr HS.out (by have := HL.out; omega)
      have HK : Hid (isK e (m.map Prod.fst) = false) := hk
      clear hk
      have hfn : ∀ w, Sem.run Tryz.prog (callFunc 139 #[pR r]) w = .ok (.enter 139 #[pR r]) w := fun _ => rfl
      go_wp2_with (first | (go_at_call 102; refine CP.mono ?_; rintro e w1 ⟨rfl, hw⟩; obtain rfl := hw.symm; clear CP) | (go_at_call 121; refine Ans.use CQ (fun w' hf hn => ⟨rfl, Ans.no (ft HF.out hf) (sev_fail HE.out HK.out hn)⟩) ?_; rintro x rest val v2 w2 hF2 hx hl2 ⟨cs, rfl, hR⟩ hS2; have hR' := hR; obtain ⟨va, hcs, h1⟩ := hR'; obtain ⟨a1, n1, c1, e1⟩ := h1.like; subst e1; subst hcs; have HR : Hid (RSet w2 wr.heap.size _ x) := hR; clear hR h1; clear CQ) | (at_builtin; refine wp_app_g (K := 5) Tryz.underlying97 infoSet rfl (by decide) (by decide) rfl _ _ rfl w.heap.size (.slice a9 css.length c9) css [.string (st x.1.a), .slice a1 n1 c1] rfl ((HO.out.fr hr hF2).below (bxn _ _)) ⟨_, 0, none⟩ 1 rfl (part_set.len HR.out) (lit_cells _ _ _) (part_set.one HR.out) (by have := HL.out; have := HC.out; omega) (Nat.le_trans (Nat.le_trans hwz hF2.size) (bxn _ _).size) ?_; rintro v3 w3 ho3 hg3 hb3; have HO3 : Hid (OwnG 5 2 w3 w.heap.size v3 (css ++ [[.string (st x.1.a), .slice a1 n1 c1]])) := ho3; have HG3 : Hid (∀ k b, Blk _ w.heap.size 5 k b → w3.heap[b]? = _) := blk_grown (by decide) ((HO.out.fr hr hF2).below (bxn _ _)) hg3; have HB3 : Hid (Below w.heap.size _ w3) := hb3; clear ho3 hg3 hb3))
      go_roundw
      case rel =>
        refine ⟨css ++ [[.string (st x.1.a), .slice a1 n1 c1]], xs ++ [x], rest, v2, HO3.out, ?_, ?_, ?_, ?_, sev_step setR_eats HE.out HK.out hx⟩
        · refine All2.snoc (part_set.keep (part_set.keep (part_set.low HR.out hwz) (bxn _ _).size (blk_below (bxn _ _))) HB3.out.size HG3.out) (part_set.all (part_set.all (part_set.all HA.out hF2.size (blk_fr hr hF2)) (bxn _ _).size (blk_below (bxn _ _))) HB3.out.size HG3.out)
        · rw [List.any_append, ← Bool.or_assoc]
          have := (hS2.below (bxn _ _)).bel hr HB3.out
          simpa using this
        · exact (ft HF.out (fo hF2 (bxn _ _))).trans (Fr.of HB3.out)
        · have := setR_eats.len hx; simp at this ⊢; omega
      case measure =>
        have h1 := HS.out
        have h2 : Rs w3 r v2 rest _ := (hS2.below (bxn _ _)).bel hr HB3.out
        rw [h1.toks, h2.toks]
        have := setR_eats.len hx
        simp at this; omega
theorem sets_ans (r : Nat) (l : List TA) (v : Value) (o : Bool) (w : World) (h : Rs w r v l o) (hl : l.length ≤ 100000) :
    Calls Tryz.prog 105 #[pR r] w (Ans (RowP 5 2 RSet) (sevL 1 setR) (ovL ovN 6) r w l o) := by
  have CS := sevSet r 1 6 l v o w h hl
  clear h hl
  go_enter Tryz.func105, Tryz.ntmps105
  go_wp2_with (go_at_call 120; refine Ans.use CS (fun w' hf hn => ⟨rfl, Ans.no hf hn⟩) ?_; rintro xs q val v1 w1 hF hx hl hR hS; clear CS; have HR : Hid (RowP 5 2 RSet w1 w.heap.size val xs) := hR; obtain ⟨a, n, c, rfl⟩ := hR.like; clear hR)
  refine bodyPost_ret (v := .slice a n c) (by simp [results, Tryz.results105, go_sem] <;> rfl) rfl ?_
  exact Ans.yes hF hx hl HR.out hS rfl
end Go.Proofs.YtemacdimdpnkeaaGreatDoor
