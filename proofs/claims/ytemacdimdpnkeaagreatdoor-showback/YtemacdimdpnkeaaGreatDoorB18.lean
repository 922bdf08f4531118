import Derived.Test.YtemacdimdpnkeaaGreatDoorB6
import Derived.Test.YtemacdimdpnkeaaGreatDoorB10
import Derived.Laws.AppendOwnNone
import Derived.Lib.SmallJoins
namespace Go.Proofs.YtemacdimdpnkeaaGreatDoor
set_option maxRecDepth 20000
open Go.RowKit
set_option linter.unusedVariables false
theorem add_plain (b off i : Nat) : (⟨b, off, none⟩ : Addr).add i = ⟨b, off + i, none⟩ := by simp [Addr.add]
abbrev TA := Tk × Nat
def ta0 : TA := (tok0 0, 0)
def cl7 (x : TA) : List Value := [.int .u8 x.1.k, .string (st x.1.nm), .int .u8 x.1.p, .int .u8 x.1.vk, .int .i64 x.1.vn, .string (st x.1.vs), .int .i64 x.2]
def flatT (ts : List TA) : List Value := ts.flatMap cl7
theorem flatT_cons (x : TA) (ts : List TA) : flatT (x :: ts) = cl7 x ++ flatT ts := rfl
theorem flatT_append (a b : List TA) : flatT (a ++ b) = flatT a ++ flatT b := by simp [flatT]
theorem flatT_len (ts : List TA) : (flatT ts).length = ts.length * 7 := by
  induction ts with
  | nil => rfl
  | cons p ps ih => rw [flatT_cons, List.length_append, ih]; simp [cl7]; omega
theorem flatT_get (ts : List TA) (i j : Nat) (hi : i < ts.length) (hj : j < 7) : (flatT ts)[i * 7 + j]? = (cl7 (ts.getD i ta0))[j]? := by
  induction ts generalizing i with
  | nil => simp at hi
  | cons p ps ih =>
    rw [flatT_cons]
    cases i with
    | zero => rw [Nat.zero_mul, Nat.zero_add, List.getElem?_append_left (by simp [cl7]; omega)]; rfl
    | succ i =>
      rw [List.getElem?_append_right (by simp [cl7]; omega)]
      have := ih i (by simpa using hi)
      rw [show (i + 1) * 7 + j - (cl7 p).length = i * 7 + j by simp [cl7]; omega, this]
      rfl
theorem flatT_one (ts : List TA) : ∀ u ∈ flatT ts, u.oneCell' = true := by
  intro u hu
  obtain ⟨p, _, h⟩ := List.mem_flatMap.1 hu
  simp [cl7] at h
  rcases h with rfl | rfl | rfl | rfl | rfl | rfl | rfl <;> rfl
def TV (w : World) (a : Option Addr) (ts : List TA) : Prop :=
  ts = [] ∨ ∃ b off, a = some ⟨b, off, none⟩ ∧ b < w.heap.size ∧ ∀ i j, i < ts.length → j < 7 → w.cell? ⟨b, off + (i * 7 + j), none⟩ = (cl7 (ts.getD i ta0))[j]?
theorem TV.cells {w : World} {ad : Addr} {ts : List TA} (hv : TV w (some ad) ts) : ∀ j u, (flatT ts)[j]? = some u → w.cell? (ad.add j) = some u := by
  intro j u hu
  have hj := (List.getElem?_eq_some_iff.1 hu).1
  rw [flatT_len] at hj
  rcases hv with h1 | ⟨b, off, hx, hlt, hc⟩
  · subst h1; simp at hj
  · obtain rfl := Option.some.inj hx
    have e : j = j / 7 * 7 + j % 7 := by omega
    rw [add_plain]
    have hi : j / 7 < ts.length := by omega
    rw [e] at hu ⊢
    rw [flatT_get ts _ _ hi (Nat.mod_lt _ (by decide))] at hu
    rw [hc _ _ hi (Nat.mod_lt _ (by decide)), hu]
def OwnK (ty : TypeId) (w : World) (base : Nat) (v : Value) (ts : List TA) : Prop := w.ownsRow base ty 7 v ts.length (flatT ts)
theorem OwnK.nil (ty : TypeId) (w : World) (base : Nat) : OwnK ty w base (.slice none 0 0) [] := World.ownsRow_nil w base ty 7
theorem OwnK.below {ty : TypeId} {w w' : World} {base : Nat} {v : Value} {ts : List TA} (h : OwnK ty w base v ts) (hb : Below w.heap.size w w') : OwnK ty w' base v ts := by
  refine ⟨h.1, ?_⟩
  have hl := World.ownsRow.lt h
  rcases h.2 with hn | ⟨g, cap, cur, rfl, hbb, hg, rest⟩
  · exact .inl hn
  · exact .inr ⟨g, cap, cur, rfl, hbb, (hb.block g (hl g rfl).2).trans hg, rest⟩
theorem OwnK.view {ty : TypeId} {w : World} {base : Nat} {v : Value} {ts : List TA} (h : OwnK ty w base v ts) : ∃ a cap, v = .slice a ts.length cap ∧ (a = none → cap = 0) ∧ TV w a ts ∧ ts.length ≤ cap ∧ cap ≤ 9223372036854775807 ∧ (a = none ∨ ∃ b, a = some ⟨b, 0, none⟩ ∧ base ≤ b ∧ b < w.heap.size) := by
  have hl := World.ownsRow.lt h
  have h' := h
  rcases h.2 with ⟨rfl, h0⟩ | ⟨g, cap, cur, rfl, hb, hg, hc, hm, hs, ht⟩
  · have : ts = [] := List.eq_nil_of_length_eq_zero h0
    subst this
    exact ⟨none, 0, rfl, fun _ => rfl, .inl rfl, Nat.le_refl _, by decide, .inl rfl⟩
  · refine ⟨_, cap, rfl, (by intro h; cases h), .inr ⟨g, 0, rfl, (hl g rfl).2, fun i j hi hj => ?_⟩, hc, by unfold maxLen at hm; omega, .inr ⟨g, rfl, hb, (hl g rfl).2⟩⟩
    rw [Nat.zero_add]
    exact (World.ownsRow.cellAt (g := g) h' (i * 7 + j) (by omega)).trans (flatT_get ts i j hi hj)
def zAgg : Value := .agg #[.int .u8 0, .string ByteArray.empty, .int .u8 0, .int .u8 0, .int .i64 0, .string ByteArray.empty, .int .i64 0]
theorem infoT34 : (Tryz.prog.info? 71).map (fun i => (i.zero, i.size, i.bytes)) = some (some zAgg, 7, 72) := by kernel_rfl
theorem wp_app_tk {sl ty : TypeId} (hsl : Tryz.prog.underlying sl = some (.slice ty)) (hinfo : (Tryz.prog.info? ty).map (fun i => (i.zero, i.size, i.bytes)) = some (some zAgg, 7, 72)) {ops : Array Oper} {rest : List Oper} {o : Oper} {a : Act} {Q : Exit → Act → World → Prop} {w : World} (hgd : o.guard = none) (s x : Operand)
    (ho : o.op = .call { callee := .builtin .append, args := #[s, x], argTypes := #[sl, sl] }) (base : Nat) (v : Value) (zs ys : List TA) (hs : a.eval s = v) (hown : OwnK ty w base v zs)
    (ad : Addr) (n cap : Nat) (hn : ys.length = n) (hx : a.eval x = .slice (some ad) n cap) (hv : TV w (some ad) ys) (hlen : zs.length + ys.length ≤ 1000000) (hbase : base ≤ w.heap.size)
    (h : ∀ v' w', OwnK ty w' base v' (zs ++ ys) → Below base w w' → wpList Tryz.prog ops Q rest (a.put o.dst v') w') : wpList Tryz.prog ops Q (o :: rest) a w := by
  obtain ⟨i0, hi, hz0, hz1, hz2⟩ := info_parts hinfo
  refine wpList_append_own w hgd s x sl ho base ty i0 zAgg 7 72 hsl hi hz0 hz1 hz2 rfl (by decide) v zs.length (flatT zs) hs hown ad n cap (flatT ys) hx (by rw [flatT_len, hn]) hv.cells (flatT_one ys) (by unfold maxLen; omega) (by omega) hbase ?_
  intro v' w' h1 h2 _
  have ho' : OwnK ty w' base v' (zs ++ ys) := by
    unfold OwnK
    rw [List.length_append, flatT_append, hn]
    exact h1
  refine h v' w' ho' ?_
  exact (Below.refl base w).grown h2 hbase (fun k hk => (World.ownsRow.lt hown k hk).1)
theorem tv_lit (w : World) (x : TA) (ty : TypeId) : TV (w.alloc (.cells #[.int .u8 x.1.k, .string (st x.1.nm), .int .u8 x.1.p, .int .u8 x.1.vk, .int .i64 x.1.vn, .string (st x.1.vs), .int .i64 x.2] ty)) (some ⟨w.heap.size, 0, none⟩) [x] := by
  refine .inr ⟨w.heap.size, 0, rfl, by simp, fun i j hi hj => ?_⟩
  obtain rfl : i = 0 := by simpa using hi
  obtain h | h | h | h | h | h | h : j = 0 ∨ j = 1 ∨ j = 2 ∨ j = 3 ∨ j = 4 ∨ j = 5 ∨ j = 6 := by omega
  all_goals
    subst h
    simp [cl7]
theorem scan_at {l : List UInt8} {a : Nat} {t : Tk} {k : Nat} (ha : a < l.length) (h : oneL (l.drop a) = some (t, k)) :
    scanGo l.length a (l.drop a) = ((t, a) :: (scanGo l.length (a + k + whN (l.drop (a + k))) (l.drop (a + k + whN (l.drop (a + k))))).1, (scanGo l.length (a + k + whN (l.drop (a + k))) (l.drop (a + k + whN (l.drop (a + k))))).2) := by
  have hne : l.drop a ≠ [] := fun e => by have := congrArg List.length e; rw [List.length_drop] at this; simp at this; omega
  obtain ⟨n, hn⟩ : ∃ n, l.length = n + 1 := ⟨l.length - 1, by omega⟩
  rw [hn]
  have hk := (one_is hne h).2.1
  conv => lhs; unfold scanGo
  rw [if_neg hne, h]
  simp only [List.drop_drop]
  rw [scanGo_fuel n (n + 1) _ _ (by rw [List.length_drop]; omega) (by rw [List.length_drop]; omega)]
theorem scan_bad {l : List UInt8} {a : Nat} (ha : a < l.length) (h : oneL (l.drop a) = none) : scanGo l.length a (l.drop a) = ([], a, 16) := by
  have hne : l.drop a ≠ [] := fun e => by have := congrArg List.length e; rw [List.length_drop] at this; simp at this; omega
  obtain ⟨n, hn⟩ : ∃ n, l.length = n + 1 := ⟨l.length - 1, by omega⟩
  rw [hn]
  conv => lhs; unfold scanGo
  rw [if_neg hne, h]
theorem scan_end {l : List UInt8} {a : Nat} (ha : l.length ≤ a) : scanGo l.length a (l.drop a) = ([], 0, 0) := by
  rw [List.drop_eq_nil_of_le ha, scanGo_nil]
end Go.Proofs.YtemacdimdpnkeaaGreatDoor
