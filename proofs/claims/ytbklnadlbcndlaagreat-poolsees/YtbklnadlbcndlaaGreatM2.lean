import Derived.Test.YtbklnadlbcndlaaGreatM1
import Derived.Test.YtbklnadlbcndlaaGreatProg
import Derived.ProofKit
import Derived.WalkKit
import Derived.WalkSpells
import Derived.WalkLawsBesides
import Derived.Maps.OwnSet
import Derived.Maps.Range
import Derived.Lib.SlKeysI
import Derived.Deep.WholeRow
namespace Go.Proofs.YtbklnadlbcndlaaGreat.D
set_option maxRecDepth 20000
open Go.RowKit Go.Maps Go.MapKept Go.ChangeMaps Go.WideShapes
structure Off (X : List Nat) (w w' : World) : Prop where
  os : w'.os = w.os
  tape : w'.tape = w.tape
  output : w'.output = w.output
  size : w.heap.size ≤ w'.heap.size
  block : ∀ k, k < w.heap.size → k ∉ X → w'.heap[k]? = w.heap[k]?

theorem Off.refl (X : List Nat) (w : World) : Off X w w := ⟨rfl, rfl, rfl, Nat.le_refl _, fun _ _ _ => rfl⟩
theorem Off.trans {X : List Nat} {a b c : World} (h : Off X a b) (k : Off X b c) : Off X a c :=
  ⟨k.os.trans h.os, k.tape.trans h.tape, k.output.trans h.output, Nat.le_trans h.size k.size, fun i hi hx => (k.block i (Nat.lt_of_lt_of_le hi h.size) hx).trans (h.block i hi hx)⟩
theorem Off.of_below {X : List Nat} {w w' : World} (h : Below w.heap.size w w') : Off X w w' := ⟨h.os, h.tape, h.output, h.size, fun k hk _ => h.block k hk⟩
theorem Off.below {X : List Nat} {B : Nat} {w w' : World} (h : Off X w w') (hB : B ≤ w.heap.size) (hX : ∀ x ∈ X, B ≤ x) : Below B w w' :=
  ⟨h.os, h.tape, h.output, h.size, fun k hk => h.block k (Nat.lt_of_lt_of_le hk hB) (fun hm => by have := hX k hm; omega)⟩
theorem Off.mono {X Y : List Nat} {w w' : World} (h : Off X w w') (hs : ∀ x ∈ X, x ∈ Y) : Off Y w w' := ⟨h.os, h.tape, h.output, h.size, fun k hk hx => h.block k hk (fun hm => hx (hs k hm))⟩
theorem Off.alloc {X : List Nat} {a w : World} (h : Off X a w) (o : Obj) : Off X a (w.alloc o) :=
  h.trans (Off.of_below ((Below.refl _ _).alloc (Nat.le_refl _) o))
theorem Off.setCell {X : List Nat} {a w : World} (h : Off X a w) {p : Addr} (hp : p.block ∈ X) (u : Value) : Off X a (w.setCell p u) :=
  h.trans ⟨rfl, rfl, rfl, by simp [World.setCell], fun k _ hk => Below.heap_setCell _ _ _ _ (fun e => hk (by rw [e]; exact hp))⟩
theorem Off.setRow {X : List Nat} {a w : World} (h : Off X a w) {g : Nat} (hp : g ∈ X) (cs : Array Value) : Off X a (w.setRow g cs) :=
  h.trans ⟨rfl, rfl, rfl, by simp [World.setRow], fun k _ hk => setRow_other w g k cs (fun e => hk (by rw [e]; exact hp))⟩
theorem Off.grown {X : List Nat} {a w w' : World} {b : Nat} (h : Off X a w) (hg : w.grownBy w' (some b)) (hb : b ∈ X) : Off X a w' :=
  h.trans ⟨hg.os, hg.tape, hg.output, hg.size, fun k hk hx => hg.block k hk (fun e => hx (by cases e; exact hb))⟩
theorem Off.drew {X : List Nat} {a w : World} (h : Off X a w) : Off X a w.drew := ⟨h.os, h.tape, h.output, h.size, h.block⟩
def rv (v : Value) : Option (DataW Value × List MemPlace) := some (.held v, [])
def zs256 : List Int := List.replicate 256 0
def blkA (zs : List Int) : Array Value := (zs.map (Value.int .u8)).toArray
def blkV (zs : List Int) : Value := .agg (blkA zs)

theorem key3 : Keyed Tryz.prog 3 := int_keyed Tryz.underlying3
theorem zero71 : (∀ w, (zeroValue 182).run Tryz.prog w = .ok (blkV zs256) w) ∧ (Tryz.prog.info? 182).map (·.size) = some 256 := zero_of_info (v := blkV zs256) (by kernel_rfl)

def Mp (w : World) (mb room : Nat) (L : Nat → Bool) (S : Nat → List Int) : Prop :=
  ∃ D : DataW Value, w.ownsMap Tryz.prog 3 rv mb (Maps.size D) D ∧ (intKeys D).Perm (((List.range room).filter L).map Int.ofNat) ∧ ∀ n, n < room → L n = true → D.atKey (.int .i64 n) .nil = .held (blkV (S n))

theorem owns_exact {w : World} {mb n : Nat} {D : DataW Value} (h : w.ownsMap Tryz.prog 3 rv mb n D) : w.ownsMap Tryz.prog 3 rv mb (Maps.size D) D := by
  obtain ⟨es, clock, hb, F, hs, hD⟩ := h
  refine ⟨es, clock, hb, F, ?_, hD⟩
  subst hD
  simp [Maps.size, length_sorted]

theorem Mp.lt {w : World} {mb room : Nat} {L : Nat → Bool} {S : Nat → List Int} (h : Mp w mb room L S) : mb < w.heap.size := by
  obtain ⟨D, hown, _⟩ := h
  exact hown.lt
theorem Mp.off {w w' : World} {mb room : Nat} {L : Nat → Bool} {S : Nat → List Int} {X : List Nat} (h : Mp w mb room L S) (ho : Off X w w') (hx : mb ∉ X) : Mp w' mb room L S := by
  have hlt := h.lt
  obtain ⟨D, ⟨es, clock, hb, r⟩, r2⟩ := h
  exact ⟨D, ⟨es, clock, (ho.block mb hlt hx).trans hb, r⟩, r2⟩
theorem Mp.congr {w : World} {mb room : Nat} {L L' : Nat → Bool} {S S' : Nat → List Int} (h : Mp w mb room L S) (hL : ∀ n, n < room → L' n = L n) (hS : ∀ n, n < room → L n = true → S' n = S n) : Mp w mb room L' S' := by
  obtain ⟨D, h1, h2, h3⟩ := h
  have e : (List.range room).filter L' = (List.range room).filter L := List.filter_congr (fun n hn => hL n (by simpa using hn))
  refine ⟨D, h1, by rw [e]; exact h2, fun n hn hl => ?_⟩
  rw [hL n hn] at hl
  rw [h3 n hn hl, hS n hn hl]

theorem size_keys {w : World} {mb n : Nat} {D : DataW Value} (h : w.ownsMap Tryz.prog 3 rv mb n D) : Maps.size D = (intKeys D).length := by
  obtain ⟨es, rfl⟩ := h.isMap
  simp [Maps.size, intKeys]
theorem has_keys {w : World} {mb n : Nat} {D : DataW Value} (h : w.ownsMap Tryz.prog 3 rv mb n D) (x : Int) : Maps.has D (.int .i64 x) = true ↔ x ∈ intKeys D := by
  obtain ⟨es, clock, _, F, _, rfl⟩ := h
  have hk : ∀ p ∈ (es.toList.map (WideElems.rg Tryz.prog 3 rv)).foldr DataW.insert [], ∃ y, p.1 = .int .i64 y := by
    intro p hp
    obtain ⟨e, he, rfl⟩ := List.mem_map.1 ((WideShapes.sorted_perm _).mem_iff.1 hp)
    obtain ⟨y, hy⟩ := F.reads e he
    rw [WideElems.rg_of hy]
    obtain ⟨z, _, hz, _⟩ := Maps.keyOf_i64 Tryz.underlying3 (WideElems.rd_key hy)
    exact ⟨z, hz⟩
  rw [has_eq, List.any_eq_true]
  show _ ↔ x ∈ List.map (fun (p : Lit × DataW Value) => Go.intOf p.1) _
  rw [List.mem_map]
  constructor
  · rintro ⟨p, hp, hs⟩
    obtain ⟨a, ha⟩ := hk p hp
    rw [ha] at hs
    exact ⟨p, hp, by rw [ha]; simpa [Lit.sameKey, Go.intOf] using hs⟩
  · rintro ⟨p, hp, rfl⟩
    obtain ⟨a, ha⟩ := hk p hp
    exact ⟨p, hp, by rw [ha]; simp [Lit.sameKey, Go.intOf]⟩
theorem Mp.has_of {w : World} {mb room : Nat} {L : Nat → Bool} {D : DataW Value} (h1 : w.ownsMap Tryz.prog 3 rv mb (Maps.size D) D) (h2 : (intKeys D).Perm (((List.range room).filter L).map Int.ofNat)) {n : Nat} (hn : n < room) : Maps.has D (.int .i64 n) = L n := by
  have e : Maps.has D (.int .i64 n) = true ↔ L n = true := by
    rw [has_keys h1, h2.mem_iff, List.mem_map]
    constructor
    · rintro ⟨k, hk, e⟩
      obtain rfl : k = n := Int.ofNat.inj e
      exact (List.mem_filter.1 hk).2
    · intro hl
      exact ⟨n, List.mem_filter.2 ⟨by simpa using hn, hl⟩, rfl⟩
  cases hl : L n
  · cases hd : Maps.has D (.int .i64 n)
    · rfl
    · rw [hl] at e; exact absurd (e.1 hd) (by simp)
  · exact e.2 hl
theorem key_n (n : Nat) (hn : n ≤ 4096) : keyOf Tryz.prog 3 (.int .i64 (n : Int)) = some (.int .i64 (n : Int)) := keyOf_int_mk Tryz.underlying3 (WalkArith.wf_i64 (by omega))

theorem atKey_zd {D : DataW Value} {k : Lit} {z z' : DataW Value} (h : Maps.has D k = true) : D.atKey k z = D.atKey k z' := by
  cases D <;> try (simp [Maps.has] at h; done)
  rename_i es
  rw [has_eq, List.any_eq_true] at h
  simp only [DataW.atKey]
  cases hf : es.find? (fun p => p.1.sameKey k) with
  | none =>
    obtain ⟨p, hp, hs⟩ := h
    exact absurd hs (by simpa using List.find?_eq_none.1 hf p hp)
  | some p => rfl
theorem rv_inv {v : Value} {d : DataW Value} {ps : List MemPlace} (h : rv v = some (d, ps)) : d = .held v := by
  simp [rv] at h
  exact h.1.symm

theorem Mp.look_ok {w : World} {mb room : Nat} {L : Nat → Bool} {S : Nat → List Int} (h : Mp w mb room L S) {n : Nat} (hn : n < room) (hr : room ≤ 4096) :
    (Instr.lookup 94 (.map (some mb)) (.int .i64 (n : Int)) true).run Tryz.prog w = .ok (.tuple #[blkV (if L n = true then S n else zs256), .bool (L n)]) w := by
  obtain ⟨D, h1, h2, h3⟩ := h
  have hh := Mp.has_of h1 h2 hn
  obtain ⟨v, ps, hrun, hv⟩ := h1.look_ok key3 Tryz.underlying94 (zero71.1 w) (zd := .held (blkV zs256)) (zp := []) rfl (key_n n (by omega))
  have e := rv_inv hv
  rw [hrun, hh]
  cases hl : L n
  · rw [hl] at hh
    rw [atKey_of_not_has hh] at e
    rw [← DataW.held.inj e]; simp
  · rw [hl] at hh
    rw [atKey_zd hh (z' := .nil), h3 n hn hl] at e
    rw [← DataW.held.inj e]; simp
theorem Mp.size_le {w : World} {mb room : Nat} {L : Nat → Bool} {D : DataW Value} (h1 : w.ownsMap Tryz.prog 3 rv mb (Maps.size D) D) (h2 : (intKeys D).Perm (((List.range room).filter L).map Int.ofNat)) : Maps.size D ≤ room := by
  rw [size_keys h1, h2.length_eq, List.length_map]
  exact Nat.le_trans (List.length_filter_le _ _) (by simp)

theorem filter_upd (L : Nat → Bool) (n : Nat) (hl : L n = false) : ∀ (l : List Nat), l.Nodup → n ∈ l → (l.filter (upd L n true)).Perm (n :: l.filter L)
  | [], _, h => by cases h
  | m :: l, hd, h => by
    have hd2 := List.nodup_cons.1 hd
    by_cases e : m = n
    · subst e
      have e1 : l.filter (upd L m true) = l.filter L := List.filter_congr (fun k hk => upd_other _ _ (fun e => hd2.1 (by rw [← e]; exact hk)))
      rw [List.filter_cons_of_pos (by rw [upd_same]), List.filter_cons_of_neg (by simp [hl]), e1]
    · have ih := filter_upd L n hl l hd2.2 (by rcases List.mem_cons.1 h with h | h; exact absurd h.symm e; exact h)
      cases hm : L m
      · rw [List.filter_cons_of_neg (by rw [upd_other _ _ e]; simp [hm]), List.filter_cons_of_neg (by simp [hm])]
        exact ih
      · rw [List.filter_cons_of_pos (by rw [upd_other _ _ e]; simp [hm]), List.filter_cons_of_pos (by simp [hm])]
        exact (ih.cons m).trans (List.Perm.swap n m _)
theorem put_keys {w : World} {mb k : Nat} {D : DataW Value} (h : w.ownsMap Tryz.prog 3 rv mb k D) {x : Int} (d : DataW Value) (hh : Maps.has D (.int .i64 x) = false) : (intKeys (D.put (.int .i64 x) d)).Perm (x :: intKeys D) := by
  obtain ⟨es, rfl⟩ := h.isMap
  have e : es.filter (fun p => !p.1.sameKey (.int .i64 x)) = es := by
    rw [List.filter_eq_self]
    intro p hp
    rw [has_eq, List.any_eq_false] at hh
    simpa using hh p hp
  show (List.map (fun p => Go.intOf p.1) (DataW.insert (.int .i64 x, d) (es.filter (fun p => !p.1.sameKey (.int .i64 x))))).Perm _
  rw [e]
  have : (DataW.insert ((.int .i64 x, d) : Lit × DataW Value) es).Perm ((.int .i64 x, d) :: es) := WideShapes.insert_perm _ _
  exact this.map _
theorem Mp.store {w : World} {mb room : Nat} {L : Nat → Bool} {S : Nat → List Int} (h : Mp w mb room L S) {n : Nat} (hn : n < room) (hr : room ≤ 4096) (hl : L n = false) (zs : List Int) :
    ∃ w', (Instr.mapUpdate 94 (.map (some mb)) (.int .i64 (n : Int)) (blkV zs)).run Tryz.prog w = .ok () w' ∧ Mp w' mb room (upd L n true) (upd S n zs) ∧ w.grownBy w' (some mb) := by
  obtain ⟨D, h1, h2, h3⟩ := h
  have hh := Mp.has_of h1 h2 hn
  rw [hl] at hh
  have hs := Mp.size_le h1 h2
  obtain ⟨w', hrun, hown, hg⟩ := h1.update key3 Tryz.underlying94 (by unfold maxLen; omega) (key_n n (by omega)) (d := .held (blkV zs)) (ps := []) (val := blkV zs) rfl
  refine ⟨w', hrun, ⟨_, owns_exact hown, ?_, ?_⟩, hg⟩
  · refine (put_keys h1 _ hh).trans (((h2.cons _).trans ?_))
    exact ((filter_upd L n hl (List.range room) List.nodup_range (by simpa using hn)).map Int.ofNat).symm
  · intro k hk hlk
    by_cases e : k = n
    · subst e
      rw [atKey_put_same h1.isMap (key3.key (key_n k (by omega))), upd_same]
    · rw [upd_other _ _ e] at hlk
      rw [upd_other _ _ e, atKey_put_other (by intro e2; apply e; have := (Lit.int.inj e2).2; omega)]
      exact h3 k hk hlk
theorem Mp.clear {w : World} {mb room : Nat} {L : Nat → Bool} {S : Nat → List Int} (h : Mp w mb room L S) (S' : Nat → List Int) :
    ∃ w', (∀ ty, (Builtin.clear_ #[94] ty #[.map (some mb)]).run Tryz.prog w = .ok (.tuple #[]) w') ∧ Mp w' mb room (fun _ => false) S' ∧ w.grownBy w' (some mb) := by
  obtain ⟨D, ⟨es, clock, hb, F, hs, hD⟩, h2, h3⟩ := h
  refine ⟨setBlock w mb (.map #[] clock), fun ty => ?_, ⟨.map [], ⟨#[], clock, heap_setBlock_same hb _, ⟨by simp, stamped_empty clock, by simp⟩, Nat.le_refl _, rfl⟩, ?_, ?_⟩, ⟨rfl, rfl, rfl, by simp [setBlock], fun i _ hi => heap_setBlock_other hb _ (fun e => hi (by rw [e]))⟩⟩
  · simp [Builtin.clear_, run_underlying Tryz.underlying94, MapKept.run_getObj_map hb, MapKept.run_setObj_map _ hb, Result.andThen, setBlock]
  · have : (List.range room).filter (fun _ => false) = [] := by simp
    rw [this]; exact List.Perm.refl _
  · intro n _ hl; cases hl
theorem Mp.made (w : World) (room : Nat) (S : Nat → List Int) : Mp (w.alloc (.map #[] 0)) w.heap.size room (fun _ => false) S := by
  refine ⟨.map [], World.ownsMap_made w Tryz.prog 3 rv, ?_, ?_⟩
  · have : (List.range room).filter (fun _ => false) = [] := by simp
    rw [this]; exact List.Perm.refl _
  · intro n _ hl; cases hl
end Go.Proofs.YtbklnadlbcndlaaGreat.D
