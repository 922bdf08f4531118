import Derived.Test.YtemacdimdpnkeaaGreatDoorB2
import Derived.Test.YtemacdimdpnkeaaGreatDoorB6
import Derived.Test.YtemacdimdpnkeaaGreatDoorB7
import Derived.Test.YtemacdimdpnkeaaGreatDoorB8
import Derived.Test.YtemacdimdpnkeaaGreatDoorB10
import Derived.Deep.RegionHeld3
import Derived.Deep.LoopGhost
import Derived.Deep.RegionWith
namespace Go.Proofs.YtemacdimdpnkeaaGreatDoor
set_option maxRecDepth 20000
open Go.RowKit
set_option linter.unusedVariables false
theorem qa1 {α : Type} (l : List α) (i : Nat) : l.toArray[i]? = l[i]? := by simp
theorem qa2 {α : Type} {a : α} {l : List α} {i : Nat} : (a :: l)[i + 1]? = l[i]? := List.getElem?_cons_succ
theorem qa3 {α : Type} {a : α} {l : List α} : (a :: l)[0]? = some a := List.getElem?_cons_zero
theorem qb1 {α : Type} (l : List α) (i : Nat) (a : α) : l.toArray.setIfInBounds i a = (l.set i a).toArray := by simp
theorem qb2 {α : Type} {x : α} {xs : List α} {a : α} : (x :: xs).set 0 a = a :: xs := List.set_cons_zero
theorem qb3 {α : Type} {x : α} {xs : List α} {i : Nat} {a : α} : (x :: xs).set (i + 1) a = x :: xs.set i a := List.set_cons_succ
theorem qwt {P : Program} {md : Region.Mode} {O ops : Array Oper} {QQ Q : Exit → Act → World → Prop} {S : World → Prop} {i : Nat} {oi : Oper} {v : Value} {fuel : Nat} {listed : Array Bool} {a : Act} {w : World} (HO : Hid (O = ops)) (HQ : Hid (QQ = Q)) (hi : ops[i]? = some oi) (hs : Region.noSelect ops = true) (hf : Region.free md ops listed i = true) (hr : (Region.ready md ops listed).contains i = true) (hQ : ∀ c a w, Q (.panic c) (a.put oi.dst v) w → Q (.panic c) a w) (hy : YieldsIf P O S oi v a) (hS : S w) (h : wpAnyH P md O QQ S fuel (listed.setIfInBounds i true) (a.put oi.dst v) w) : wpAnyH P md O QQ S (fuel + 1) listed a w := by
  have h1 : O = ops := HO
  have h2 : QQ = Q := HQ
  subst h1; subst h2
  exact wpAnyH_take hi hs hf hr hQ hy hS h
def clS (s : Str) : List Value := [.string (st s)]
def clV (x : VD) : List Value := [.int .u8 x.k, .int .i64 x.n, .string (st x.s)]
def clT (x : TestD) : List Value := [.int .u8 x.p, .string (st x.v), .int .u8 x.x.k, .int .i64 x.x.n, .string (st x.x.s)]
def clI (x : ItemD) : List Value := [.int .u8 x.k, .int .u8 x.x.k, .int .i64 x.x.n, .string (st x.x.s), .string (st x.v)]
def SlW (n : Nat) (w : World) (P : Nat → Prop) (v : Value) (css : List (List Value)) : Prop :=
  ∃ a cap, v = .slice a css.length cap ∧ css.length ≤ cap ∧ cap ≤ 9223372036854775807 ∧
    (css = [] ∨ ∃ b off, a = some ⟨b, off, none⟩ ∧ b < w.heap.size ∧ P b ∧ ∀ i j, i < css.length → j < n → w.cell? ⟨b, off + (i * n + j), none⟩ = (css.getD i [])[j]?)
def Stays (P : Nat → Nat → Prop) (w w' : World) : Prop := w.heap.size ≤ w'.heap.size ∧ ∀ k b, P k b → b < w.heap.size → w'.heap[b]? = w.heap[b]?
theorem Stays.below {P : Nat → Nat → Prop} {w w' : World} (h : Below w.heap.size w w') : Stays P w w' := ⟨h.size, fun k b _ hb => h.block b hb⟩
theorem SlW.keep {n k : Nat} {w w' : World} {P : Nat → Nat → Prop} {v : Value} {css : List (List Value)} (hs : Stays P w w') (h : SlW n w (P k) v css) : SlW n w' (P k) v css := by
  obtain ⟨a, cap, h1, h2, h3, h4⟩ := h
  refine ⟨a, cap, h1, h2, h3, ?_⟩
  rcases h4 with h4 | ⟨b, off, e, hb, hp, hc⟩
  · exact .inl h4
  · refine .inr ⟨b, off, e, Nat.lt_of_lt_of_le hb hs.1, hp, fun i j hi hj => ?_⟩
    rw [← hc i j hi hj]
    have := hs.2 k b hp hb
    simp [World.cell?, this]
theorem SlW.mono {n : Nat} {w : World} {P Q : Nat → Prop} {v : Value} {css : List (List Value)} (hpq : ∀ b, P b → Q b) (h : SlW n w P v css) : SlW n w Q v css := by
  obtain ⟨a, cap, h1, h2, h3, h4⟩ := h
  refine ⟨a, cap, h1, h2, h3, ?_⟩
  rcases h4 with h4 | ⟨b, off, e, hb, hp, hc⟩
  · exact .inl h4
  · exact .inr ⟨b, off, e, hb, hpq b hp, hc⟩
def All2 {α β : Type} (R : α → β → Prop) : List α → List β → Prop
  | [], [] => True
  | a :: as_, b :: bs => R a b ∧ All2 R as_ bs
  | _, _ => False
theorem All2.len {α β : Type} {R : α → β → Prop} : ∀ {as_ : List α} {bs : List β}, All2 R as_ bs → as_.length = bs.length
  | [], [], _ => rfl
  | _ :: _, _ :: _, h => by simp [All2.len h.2]
  | [], _ :: _, h => h.elim
  | _ :: _, [], h => h.elim
theorem All2.at {α β : Type} {R : α → β → Prop} : ∀ {as_ : List α} {bs : List β}, All2 R as_ bs → ∀ i (x : α) (y : β), i < bs.length → R (as_.getD i x) (bs.getD i y)
  | [], [], _, i, x, y, hi => by simp at hi
  | a :: as_, b :: bs, h, 0, x, y, _ => h.1
  | a :: as_, b :: bs, h, i + 1, x, y, hi => All2.at h.2 i x y (by simpa using hi)
  | [], _ :: _, h, _, _, _, _ => h.elim
  | _ :: _, [], h, _, _, _, _ => h.elim
theorem All2.map {α β : Type} {R S : α → β → Prop} (f : ∀ a b, R a b → S a b) : ∀ {as_ : List α} {bs : List β}, All2 R as_ bs → All2 S as_ bs
  | [], [], _ => trivial
  | _ :: _, _ :: _, h => ⟨f _ _ h.1, All2.map f h.2⟩
  | [], _ :: _, h => h.elim
  | _ :: _, [], h => h.elim
theorem All2.snoc {α β : Type} {R : α → β → Prop} {a : α} {b : β} (hr : R a b) : ∀ {as_ : List α} {bs : List β}, All2 R as_ bs → All2 R (as_ ++ [a]) (bs ++ [b])
  | [], [], _ => ⟨hr, trivial⟩
  | _ :: _, _ :: _, h => ⟨h.1, All2.snoc hr h.2⟩
  | [], _ :: _, h => h.elim
  | _ :: _, [], h => h.elim
def Row {α : Type} (n : Nat) (R : World → List Value → α → Prop) (w : World) (P : Nat → Prop) (v : Value) (xs : List α) : Prop := ∃ css, SlW n w P v css ∧ All2 (R w) css xs
variable (P : Nat → Nat → Prop)
def ReA (w : World) (cs : List Value) (x : AttrD) : Prop := ∃ v1 v2, cs = [.string (st x.a), v1, v2] ∧ SlW 3 w (P 2) v1 (x.ones.map clV) ∧ SlW 5 w (P 3) v2 (x.tests.map clT)
def ReC (w : World) (cs : List Value) (x : CondD) : Prop := ∃ v, cs = [.bool x.neg, .string (st x.c), v] ∧ Row 3 (ReA P) w (P 7) v x.attrs
def ReS (w : World) (cs : List Value) (x : SetD) : Prop := ∃ v, cs = [.string (st x.a), v] ∧ SlW 5 w (P 4) v (x.e.map clI)
def ReE (w : World) (cs : List Value) (x : List ItemD) : Prop := ∃ v, cs = [v] ∧ SlW 5 w (P 4) v (x.map clI)
def ReT (w : World) (cs : List Value) (x : ActD) : Prop := ∃ v1 v2, cs = [.int .u8 x.k, .string (st x.c), .int .i64 x.n, .string (st x.v), v1, v2] ∧ Row 2 (ReS P) w (P 5) v1 x.sets ∧ Row 1 (ReE P) w (P 6) v2 x.exprs
def ReR (w : World) (cs : List Value) (x : RuleD) : Prop := ∃ v1 v2, cs = [.string (st x.nm), v1, v2] ∧ Row 3 (ReC P) w (P 8) v1 x.conds ∧ Row 6 (ReT P) w (P 9) v2 x.acts
def ReK (w : World) (cs : List Value) (x : ClassD) : Prop := ∃ v, cs = [.string (st x.nm), v] ∧ SlW 1 w (P 1) v (x.attrs.map clS)
def ReP (w : World) (cs : List Value) (x : ProgD) : Prop := ∃ v1 v2, cs = [v1, v2] ∧ Row 2 (ReK P) w (P 10) v1 x.cs ∧ Row 3 (ReR P) w (P 11) v2 x.rs
variable {P}
theorem Row.keep {α : Type} {n k : Nat} {R : World → List Value → α → Prop} {w w' : World} {v : Value} {xs : List α} (hs : Stays P w w') (hR : ∀ cs x, R w cs x → R w' cs x) (h : Row n R w (P k) v xs) : Row n R w' (P k) v xs := by
  obtain ⟨css, h1, h2⟩ := h
  exact ⟨css, h1.keep hs, h2.map hR⟩
theorem ReA.keep {w w' : World} {cs : List Value} {x : AttrD} (hs : Stays P w w') (h : ReA P w cs x) : ReA P w' cs x := by
  obtain ⟨v1, v2, h1, h2, h3⟩ := h
  exact ⟨v1, v2, h1, h2.keep hs, h3.keep hs⟩
theorem ReC.keep {w w' : World} {cs : List Value} {x : CondD} (hs : Stays P w w') (h : ReC P w cs x) : ReC P w' cs x := by
  obtain ⟨v, h1, h2⟩ := h
  exact ⟨v, h1, h2.keep hs fun _ _ => ReA.keep hs⟩
theorem ReS.keep {w w' : World} {cs : List Value} {x : SetD} (hs : Stays P w w') (h : ReS P w cs x) : ReS P w' cs x := by
  obtain ⟨v, h1, h2⟩ := h
  exact ⟨v, h1, h2.keep hs⟩
theorem ReE.keep {w w' : World} {cs : List Value} {x : List ItemD} (hs : Stays P w w') (h : ReE P w cs x) : ReE P w' cs x := by
  obtain ⟨v, h1, h2⟩ := h
  exact ⟨v, h1, h2.keep hs⟩
theorem ReT.keep {w w' : World} {cs : List Value} {x : ActD} (hs : Stays P w w') (h : ReT P w cs x) : ReT P w' cs x := by
  obtain ⟨v1, v2, h1, h2, h3⟩ := h
  exact ⟨v1, v2, h1, h2.keep hs (fun _ _ => ReS.keep hs), h3.keep hs fun _ _ => ReE.keep hs⟩
theorem ReR.keep {w w' : World} {cs : List Value} {x : RuleD} (hs : Stays P w w') (h : ReR P w cs x) : ReR P w' cs x := by
  obtain ⟨v1, v2, h1, h2, h3⟩ := h
  exact ⟨v1, v2, h1, h2.keep hs (fun _ _ => ReC.keep hs), h3.keep hs fun _ _ => ReT.keep hs⟩
theorem ReK.keep {w w' : World} {cs : List Value} {x : ClassD} (hs : Stays P w w') (h : ReK P w cs x) : ReK P w' cs x := by
  obtain ⟨v, h1, h2⟩ := h
  exact ⟨v, h1, h2.keep hs⟩
theorem ReP.keep {w w' : World} {cs : List Value} {x : ProgD} (hs : Stays P w w') (h : ReP P w cs x) : ReP P w' cs x := by
  obtain ⟨v1, v2, h1, h2, h3⟩ := h
  exact ⟨v1, v2, h1, h2.keep hs (fun _ _ => ReK.keep hs), h3.keep hs fun _ _ => ReR.keep hs⟩
theorem SlW.row {n : Nat} {w : World} {Q : Nat → Prop} {a : Option Addr} {m cap : Nat} {css : List (List Value)} (h : SlW n w Q (.slice a m cap) css) : m = css.length ∧ css.length ≤ cap ∧ cap ≤ 9223372036854775807 ∧ (∀ i, i < css.length → ∃ b off, a = some ⟨b, off, none⟩ ∧ b < w.heap.size ∧ ∀ j, j < n → w.cell? ⟨b, off + (i * n + j), none⟩ = (css.getD i [])[j]?) := by
  obtain ⟨a', cap', h1, h2, h3, h4⟩ := h
  obtain ⟨rfl, rfl, rfl⟩ := Value.slice.inj h1
  refine ⟨rfl, h2, h3, fun i hi => ?_⟩
  rcases h4 with rfl | ⟨b, off, e, hb, _, hc⟩
  · simp at hi
  · exact ⟨b, off, e, hb, fun j hj => hc i j hi hj⟩
theorem SlW.shape {n : Nat} {w : World} {Q : Nat → Prop} {v : Value} {css : List (List Value)} (h : SlW n w Q v css) : ∃ a cap, v = .slice a css.length cap := by
  obtain ⟨a, cap, h1, _⟩ := h; exact ⟨a, cap, h1⟩
theorem getD_map {α : Type} (f : α → List Value) (l : List α) (i : Nat) (d : α) (h : i < l.length) : (l.map f).getD i [] = f (l.getD i d) := by
  rw [List.getD_eq_getElem?_getD, List.getD_eq_getElem?_getD, List.getElem?_map, List.getElem?_eq_getElem h]; rfl
theorem eq_go {α : Type} [DecidableEq α] (d : α) {l m : List α} (hl : l.length = m.length) {i : Nat} (hi : ∀ j, j < i → l.getD j d = m.getD j d) (h : i = l.length) : l = m := by
  apply List.ext_getElem? 
  intro j
  by_cases hj : j < l.length
  · have := hi j (by omega)
    rw [List.getD_eq_getElem?_getD, List.getD_eq_getElem?_getD, List.getElem?_eq_getElem hj, List.getElem?_eq_getElem (by omega)] at this
    rw [List.getElem?_eq_getElem hj, List.getElem?_eq_getElem (by omega)]
    simpa using this
  · rw [List.getElem?_eq_none (by omega), List.getElem?_eq_none (by omega)]
theorem ne_go {α : Type} (d : α) {l m : List α} {i : Nat} (hi : l.getD i d ≠ m.getD i d) : l ≠ m := fun e => hi (by rw [e])
end Go.Proofs.YtemacdimdpnkeaaGreatDoor
namespace Go.Proofs.YtemacdimdpnkeaaGreatDoor
set_option maxRecDepth 20000
open Go.RowKit
set_option linter.unusedVariables false
set_option linter.unusedSimpArgs false
theorem ub (a : Nat) (b : Int) (h : b = a) : UInt8.ofNat a = b.toNat.toUInt8 := by subst h; rfl
theorem enc_is (c : Nat) : (Utf8.encode (c : Int)).data.toList = Lib.encodeRune c := by
  have hv : Utf8.valid (c : Int) = decide (c < 55296 ∨ (57343 < c ∧ c ≤ 1114111)) := by
    unfold Utf8.valid
    rw [Bool.eq_iff_iff]
    simp
    omega
  unfold Utf8.encode Lib.encodeRune
  rw [hv]
  dsimp only
  by_cases hg : c < 55296 ∨ (57343 < c ∧ c ≤ 1114111)
  · rw [if_pos (decide_eq_true hg), Int.toNat_natCast]
    by_cases h1 : c < 128
    · rw [Lib.encodeRuneZ_one (by omega) (by omega), if_pos h1]
      show [UInt8.ofNat c] = [_]
      rw [ub c c rfl]
    rw [if_neg h1]
    by_cases h2 : c < 2048
    · rw [Lib.encodeRuneZ_two (by omega) (by omega), if_pos h2]
      show [UInt8.ofNat _, UInt8.ofNat _] = [_, _]
      rw [ub (192 + c / 64) (192 + (c : Int) / 64) (by omega), ub (128 + c % 64) (128 + (c : Int) % 64) (by omega)]
    rw [if_neg h2]
    by_cases h3 : c < 65536
    · rw [Lib.encodeRuneZ_three (by omega), if_pos h3]
      show [UInt8.ofNat _, UInt8.ofNat _, UInt8.ofNat _] = [_, _, _]
      rw [ub (224 + c / 4096) (224 + (c : Int) / 4096) (by omega), ub (128 + c / 64 % 64) (128 + (c : Int) / 64 % 64) (by omega), ub (128 + c % 64) (128 + (c : Int) % 64) (by omega)]
    · rw [Lib.encodeRuneZ_four (by omega) (by omega), if_neg h3]
      show [UInt8.ofNat _, UInt8.ofNat _, UInt8.ofNat _, UInt8.ofNat _] = [_, _, _, _]
      rw [ub (240 + c / 262144) (240 + (c : Int) / 262144) (by omega), ub (128 + c / 4096 % 64) (128 + (c : Int) / 4096 % 64) (by omega), ub (128 + c / 64 % 64) (128 + (c : Int) / 64 % 64) (by omega), ub (128 + c % 64) (128 + (c : Int) % 64) (by omega)]
  · rw [Lib.encodeRuneZ_bad (by omega)]
    simp only [decide_eq_false hg, Bool.false_eq_true, if_false, Utf8.runeError]
    rfl
theorem ext_all (s : ByteArray) : s.extract 0 s.size = s := by
  rw [← st_of (s.extract 0 s.size), take_list, List.take_of_length_le (by rw [lenL]; exact Nat.le_refl _), st_of]
theorem ok_one {l : List UInt8} (hl : l ≠ []) (hb : badR l = false) : okR (l.take (Lib.decodeL l).2) = stands (Lib.decodeL l).1 := by
  have hd := dec_take (Lib.decodeL l).2 hl hb (Nat.le_refl _)
  have hw := Lib.decodeL_width l
  have hlp : 0 < l.length := List.length_pos_iff.2 hl
  have hne : l.take (Lib.decodeL l).2 ≠ [] := by
    intro e
    have := congrArg List.length e
    rw [List.length_take, List.length_nil] at this
    omega
  rw [okR_step _ hne, bad_same hd, hd, hb, List.drop_eq_nil_of_le (by rw [List.length_take]; omega), okR_nil]
  simp
theorem dec_le4 (l : List UInt8) : (Lib.decodeL l).2 ≤ 4 := by
  rw [Lib.decodeL_N]
  unfold Lib.decodeN
  repeat' split
  all_goals simp
theorem run_cond {l : List UInt8} (hl : l ≠ []) : (wordB (Utf8.encode ((Lib.decodeL l).1 : Int)).data.toList && preB (Utf8.encode ((Lib.decodeL l).1 : Int)).data.toList l) = (!badR l && stands (Lib.decodeL l).1) := by
  rw [enc_is]
  cases hb : badR l with
  | false =>
    have h0 := of_decide_eq_false (show decide ((Lib.decodeL l).1 = 65533 ∧ (Lib.decodeL l).2 = 1) = false from hb)
    rw [Lib.encode_decode l hl h0]
    have hw := Lib.decodeL_width l
    have hle := dl_le l hl
    have h4 := dec_le4 l
    have hlen : (l.take (Lib.decodeL l).2).length = (Lib.decodeL l).2 := by rw [List.length_take]; omega
    have hp : preB (l.take (Lib.decodeL l).2) l = true := by unfold preB; rw [hlen]; simp
    rw [hp]
    unfold wordB
    rw [hlen, ok_one hl hb, decide_eq_true (by omega)]
    simp
  | true =>
    obtain ⟨h1, h2⟩ := of_decide_eq_true (show decide ((Lib.decodeL l).1 = 65533 ∧ (Lib.decodeL l).2 = 1) = true from hb)
    rw [h1]
    have he : Lib.encodeRune ((65533 : Nat) : Int) = [239, 191, 189] := by decide
    rw [he]
    have hp : preB [239, 191, 189] l = false := by
      cases hq : preB [239, 191, 189] l with
      | false => rfl
      | true =>
        exfalso
        have h3 := pre_len hq
        have e := of_decide_eq_true (show decide (l.take 3 = [239, 191, 189]) = true from hq)
        match l, h3 with
        | a :: b :: c :: t, _ =>
          simp at e
          obtain ⟨rfl, rfl, rfl⟩ := e
          have := Lib.decodeL_N ((239 : UInt8) :: 191 :: 189 :: t)
          rw [this] at h2
          have e0 : ((239 : UInt8) :: 191 :: 189 :: t).getD 0 0 = 239 := rfl
          have e1 : ((239 : UInt8) :: 191 :: 189 :: t).getD 1 0 = 191 := rfl
          have e2 : ((239 : UInt8) :: 191 :: 189 :: t).getD 2 0 = 189 := rfl
          rw [e0, e1, e2, rr3 _ _ _ _ _ (by decide) (by decide) (by decide) (by decide)] at h2
          rw [if_neg] at h2
          · simp at h2
          · simp
    rw [hp]; simp
set_option maxHeartbeats 2000000 in
theorem run_any (s : ByteArray) (w : World) (hs : s.size ≤ 1000000) (hV : Vars w) :
    Calls Tryz.prog 81 #[.string s] w fun e w' => e = .returned (.string (s.extract 0 (runN s.data.toList))) ∧ Below w.heap.size w w' := by
  obtain ⟨A, hA⟩ : ∃ A, A = runN s.data.toList := ⟨_, rfl⟩
  rw [← hA]
  have HA : Hid (0 + runN (s.data.toList.drop 0) = A) := by show _ = _; rw [hA, List.drop_zero, Nat.zero_add]
  clear hA
  have hk0 : (w.iter s 0).heap[w.heap.size]? = some (.stringIter s 0) := by simpa using World.iter_heap w s 0
  have hb0 : Below w.heap.size w (w.iter s 0) := (Below.refl _ _).alloc (Nat.le_refl _) _
  go_enter Tryz.func81, Tryz.ntmps81
  go_wp2
  go_loopw [8] (fun _ wr => ∃ (pos : Nat), pos ≤ s.size ∧ wr.heap[w.heap.size]? = some (.stringIter s pos) ∧ Below w.heap.size w wr ∧ pos + runN (s.data.toList.drop pos) = A) (fun _ wr => s.size - wr.iterPos w.heap.size)
  case atStart => exact ⟨0, Nat.zero_le _, hk0, hb0, HA.out⟩
  case round =>
    obtain ⟨pos, hps, hk, hbw, hal⟩ := hrel
    have HT : Hid (pos + runN (s.data.toList.drop pos) = A) := hal
    clear hal hk0 hb0 HA
    by_cases hp : pos < s.size
    · have hnx : ∀ ty, (Instr.next (.pointer (some ⟨w.heap.size, 0, none⟩)) true ty).run Tryz.prog wr = _ := fun ty => Lib.run_next_any_at wr w.heap.size s pos ty hk hp
      have hit2 := Lib.iterAt_heap wr w.heap.size s pos (pos + (Utf8.decode s pos).2) hk
      have hbw2 := Lib.below_iterAt hbw (k := w.heap.size) (Nat.le_refl _) s (pos + (Utf8.decode s pos).2)
      have hmu : wr.iterPos w.heap.size = pos := by simp [World.iterPos, hk]
      have hne : s.data.toList.drop pos ≠ [] := drop_ne (by rw [lenL]; exact hp)
      have hw1 := Lib.decodeL_width (s.data.toList.drop pos)
      have hwl := dl_le _ hne
      have h4 := dec_le4 (s.data.toList.drop pos)
      rw [List.length_drop, lenL] at hwl
      have HCn := run_cond hne
      obtain ⟨c, n, hcn⟩ : ∃ c n, Utf8.decode s pos = (c, n) := ⟨_, _, rfl⟩
      have hd : Lib.decodeL (s.data.toList.drop pos) = (c, n) := by rw [Lib.decodeL_drop, hcn]
      have HD : Hid (Lib.decodeL (s.data.toList.drop pos) = (c, n)) := hd
      rw [hd] at hw1 hwl h4 HCn
      rw [hcn] at hnx hit2 hbw2
      dsimp only at hnx hit2 hbw2 hw1 hwl HCn
      generalize wr.iterAt w.heap.size s (pos + n) = W1 at hnx hit2 hbw2
      have hmu2 : W1.iterPos w.heap.size = pos + n := by simp [World.iterPos, hit2]
      have HN : Hid (s.data.toList.drop pos ≠ []) := hne
      have hpz : (pos : Int) ≤ s.size := by omega
      obtain ⟨p, hpp⟩ : ∃ p, Utf8.encode (c : Int) = p := ⟨_, rfl⟩
      have hp4 : p.size ≤ 4 := by rw [← hpp]; exact encode_size_le _
      obtain ⟨t, ht⟩ : ∃ t, s.extract pos s.size = t := ⟨_, rfl⟩
      have htl : t.data.toList = s.data.toList.drop pos := by rw [← ht, ext_list]
      have hts : t.size ≤ 1000000 := by rw [← lenL, htl, List.length_drop, lenL]; omega
      have hcv : (convert 21 9 (.int .i32 c)).run Tryz.prog W1 = .ok (.string p) W1 := by rw [← hpp]; go_simp
      have CW := word_any p W1 (by omega) (hV.below hbw2)
      have CP := fun W => hp_any t p W hts (by omega)
      rw [htl] at CP
      rw [hpp] at HCn
      clear hne hd hcn htl hts
      cases hw : wordB p.data.toList with
      | false =>
        rw [hw] at CW
        have HE : Hid (A = pos) := by
          show _ = _
          rw [hw, Bool.false_and] at HCn
          rw [← HT.out, runN_stop]
          · rfl
          · rw [HD.out]
            cases hb : badR (s.data.toList.drop pos) with
            | true => exact .inl rfl
            | false => rw [hb] at HCn; exact .inr (by simpa using HCn.symm)
        clear HCn HT HD hw CP
        go_wp2_with (first | (go_at_call 95; refine CW.mono ?_; rintro e w2 ⟨rfl, hb2⟩; clear CW))
        go_ret
        exact ⟨ret_bs (by rw [HE.out]), bt hbw2 hb2⟩
      | true =>
        rw [hw] at CW
        rw [hw, Bool.true_and] at HCn
        rw [HCn] at CP
        cases hq : (!badR (s.data.toList.drop pos) && stands c) with
        | false =>
          rw [hq] at CP
          have HE : Hid (A = pos) := by
            show _ = _
            rw [← HT.out, runN_stop]
            · rfl
            · rw [HD.out]
              cases hb : badR (s.data.toList.drop pos) with
              | true => exact .inl rfl
              | false => rw [hb] at hq; exact .inr (by simpa using hq)
          clear HCn HT HD hw hq
          go_wp2_with (first | (go_at_call 95; refine CW.mono ?_; rintro e w2 ⟨rfl, hb2⟩; clear CW) | (go_at_call 79; refine (CP _).mono ?_; rintro e w' ⟨rfl, hw⟩; obtain rfl := hw.symm; clear CP))
          go_ret
          exact ⟨ret_bs (by rw [HE.out]), bt hbw2 hb2⟩
        | true =>
          rw [hq] at CP
          have HX : Hid (pos + n + runN (s.data.toList.drop (pos + n)) = A) := by
            show _ = _
            simp only [Bool.and_eq_true, Bool.not_eq_true'] at hq
            have := runN_step HN.out hq.1 (by rw [HD.out]; exact hq.2)
            rw [HD.out, List.drop_drop] at this
            dsimp only at this
            rw [← HT.out, this]; omega
          clear HCn HT HD hw hq
          go_wp2_with (first | (go_at_call 95; refine CW.mono ?_; rintro e w2 ⟨rfl, hb2⟩; clear CW) | (go_at_call 79; refine (CP _).mono ?_; rintro e w' ⟨rfl, hw⟩; obtain rfl := hw.symm; clear CP))
          have hk3 : w2.heap[w.heap.size]? = some (.stringIter s (pos + n)) := by
            rw [hb2.block _ (by have := Array.getElem?_eq_some_iff.1 hit2; exact this.1)]; exact hit2
          go_roundw
          case rel => exact ⟨pos + n, by omega, hk3, bt hbw2 hb2, HX.out⟩
          case measure => rw [hmu, show w2.iterPos w.heap.size = pos + n by simp [World.iterPos, hk3]]; omega
    · have hnx : ∀ ty, (Instr.next (.pointer (some ⟨w.heap.size, 0, none⟩)) true ty).run Tryz.prog wr = _ := fun ty => Lib.run_next_end_at wr w.heap.size s pos ty hk hp
      have HE : Hid (s.extract 0 A = s) := by
        show _ = _
        rw [← HT.out, List.drop_eq_nil_of_le (by rw [lenL]; omega), runN_nil, show pos + 0 = s.size by omega, ext_all]
      clear HT
      go_wp2
      go_ret
      exact ⟨ret_bs HE.out.symm, hbw⟩
end Go.Proofs.YtemacdimdpnkeaaGreatDoor
namespace Go.Proofs.YtemacdimdpnkeaaGreatDoor
set_option maxRecDepth 20000
open Go.RowKit
set_option linter.unusedVariables false
set_option linter.unusedSimpArgs false
theorem set7 {B : Nat} {w w1 : World} (h : Below B w w1) (b : Nat) (hb : B ≤ b) (x0 x1 x2 x3 x4 x5 x6 : Value) : Below B w (((((((w1.setCell ⟨b, 0, none⟩ x0).setCell ⟨b, 1, none⟩ x1).setCell ⟨b, 2, none⟩ x2).setCell ⟨b, 3, none⟩ x3).setCell ⟨b, 4, none⟩ x4).setCell ⟨b, 5, none⟩ x5).setCell ⟨b, 6, none⟩ x6) :=
  (((((((h.setCell hb _).setCell hb _).setCell hb _).setCell hb _).setCell hb _).setCell hb _).setCell hb _)
set_option maxHeartbeats 4000000 in
theorem tnamed_any (s a b : ByteArray) (k : Int) (w : World) (hs : s.size ≤ 1000000) (ha : a.size ≤ 4) (hb : b.size ≤ 4) (hV : Vars w) :
    Calls Tryz.prog 54 #[.string s, .int .u8 k, .string a, .string b] w fun e w' => e = .returned (tkV (nmL s.data.toList k a.data.toList b.data.toList)) ∧ Below w.heap.size w w' := by
  have CC := fun W => cp_any s a W hs (by omega)
  obtain ⟨A, hA⟩ : ∃ A, A = nmL s.data.toList k a.data.toList b.data.toList := ⟨_, rfl⟩
  rw [← hA]
  have hN := hA
  unfold nmL at hN
  cases hp : preB a.data.toList s.data.toList with
  | false =>
    rw [hp] at CC hN
    rw [if_pos rfl] at hN
    simp only [Bool.false_eq_true, if_false] at CC
    have HE : Hid (A = none) := hN
    clear hN hA hp
    go_enter Tryz.func54, Tryz.ntmps54
    go_wp2_with (first | (go_at_call 80; refine (CC _).mono ?_; rintro e w' ⟨rfl, hw⟩; obtain rfl := hw.symm; clear CC))
    exact bodyPost_ret (v := tkV none) (by simp [results, Tryz.results54, go_sem, tkV, tv, st, tok0] <;> rfl) rfl ⟨by rw [HE.out], bxn _ _⟩
  | true =>
    have hpl := pre_len hp
    rw [lenL, lenL] at hpl
    rw [hp] at CC hN
    rw [if_neg (by simp)] at hN
    simp only [if_true] at CC
    obtain ⟨r, hr⟩ : ∃ r, s.extract a.size s.size = r := ⟨_, rfl⟩
    have hrl : r.data.toList = s.data.toList.drop a.size := by rw [← hr, ext_list]
    have hrs : r.size + a.size = s.size := by rw [← lenL r, hrl, List.length_drop, lenL]; omega
    rw [hr] at CC
    have CR := fun W hv => run_any r W (by omega) hv
    rw [lenL, ← hrl] at hN
    have hRle := runN_le _ r.data.toList (Nat.le_refl _)
    rw [lenL] at hRle
    obtain ⟨R, hR⟩ : ∃ R, runN r.data.toList = R := ⟨_, rfl⟩
    rw [hR] at CR hN hRle
    obtain ⟨nm, hnm⟩ : ∃ nm, r.extract 0 R = nm := ⟨_, rfl⟩
    have hnl : nm.data.toList = r.data.toList.take R := by rw [← hnm, take_list]
    have hns : nm.size = R := by rw [← lenL nm, hnl, List.length_take, lenL]; omega
    rw [hnm] at CR
    by_cases hR0 : R = 0
    · rw [if_pos (.inl hR0)] at hN
      have hne : nm = ByteArray.empty := emp_eq (List.eq_nil_of_length_eq_zero (by rw [lenL]; omega))
      have HE : Hid (A = none) := hN
      clear hN hA hp hrl hnl hnm hR hr
      subst hne
      go_enter Tryz.func54, Tryz.ntmps54
      go_wp2_with (first | (go_at_call 80; refine (CC _).mono ?_; rintro e w' ⟨rfl, hw⟩; obtain rfl := hw.symm; clear CC) | (go_at_call 81; refine (CR _ (hV.below (bxn _ _))).mono ?_; rintro e w1 ⟨rfl, hb1⟩; clear CR; obtain ⟨hc, hf⟩ := bcell hb1; have hz : w.heap.size < w1.heap.size := by { have := hb1.size; simp at this; omega }))
      refine bodyPost_ret (v := tkV none) (by simp [results, Tryz.results54, go_sem, tkV, tv, st, tok0, hc, hz] <;> rfl) rfl ⟨by rw [HE.out], ?_⟩
      exact set7 (up1 hb1) _ (Nat.le_refl _) _ _ _ _ _ _ _
    · have hem : nm.toList.isEmpty = false := emp_ne (fun e => by rw [← lenL, e] at hns; simp at hns; omega)
      obtain ⟨q, hq⟩ : ∃ q, r.extract R r.size = q := ⟨_, rfl⟩
      have hql : q.data.toList = s.data.toList.drop (a.size + R) := by rw [← hq, ext_list, hrl, List.drop_drop]
      have hqs : q.size ≤ 1000000 := by rw [← lenL, hql, List.length_drop, lenL]; omega
      have CP := fun W => hp_any q b W hqs (by omega)
      rw [hql] at CP
      have hRz : (R : Int) ≤ r.size := by omega
      have hnz : (nm.size : Int) = R := by omega
      cases hpb : preB b.data.toList (s.data.toList.drop (a.size + R)) with
      | false =>
        rw [hpb] at CP hN
        rw [if_pos (.inr rfl)] at hN
        have HE : Hid (A = none) := hN
        clear hN hA hp hrl hnl hnm hR hr hql hpb
        go_enter Tryz.func54, Tryz.ntmps54
        go_wp2_with (first | (go_at_call 80; refine (CC _).mono ?_; rintro e w' ⟨rfl, hw⟩; obtain rfl := hw.symm; clear CC) | (go_at_call 81; refine (CR _ (hV.below (bxn _ _))).mono ?_; rintro e w1 ⟨rfl, hb1⟩; clear CR; obtain ⟨hc, hf⟩ := bcell hb1; have hz : w.heap.size < w1.heap.size := by { have := hb1.size; simp at this; omega }) | (go_at_call 79; refine (CP _).mono ?_; rintro e w' ⟨rfl, hw⟩; obtain rfl := hw.symm; clear CP))
        refine bodyPost_ret (v := tkV none) (by simp [results, Tryz.results54, go_sem, tkV, tv, st, tok0, hc, hz] <;> rfl) rfl ⟨by rw [HE.out], ?_⟩
        exact set7 (up1 hb1) _ (Nat.le_refl _) _ _ _ _ _ _ _
      | true =>
        rw [hpb] at CP hN
        rw [if_neg (by rintro (h | h); exact hR0 h; cases h), ← hnl, lenL] at hN
        have HE : Hid (tkV A = .tuple #[.agg #[.int .u8 k, .string nm, .int .u8 0, .int .u8 0, .int .i64 0, .string ⟨#[]⟩, .int .i64 0], .int .i64 ((a.size : Int) + R + b.size)]) := by
          show _ = _
          rw [hN]
          unfold tkV tv tokN
          simp only [st_of]
          push_cast
          rfl
        clear hN hA hp hrl hnl hnm hR hr hql hpb
        go_enter Tryz.func54, Tryz.ntmps54
        go_wp2_with (first | (go_at_call 80; refine (CC _).mono ?_; rintro e w' ⟨rfl, hw⟩; obtain rfl := hw.symm; clear CC) | (go_at_call 81; refine (CR _ (hV.below (bxn _ _))).mono ?_; rintro e w1 ⟨rfl, hb1⟩; clear CR; obtain ⟨hc, hf⟩ := bcell hb1; have hz : w.heap.size < w1.heap.size := by { have := hb1.size; simp at this; omega }) | (go_at_call 79; refine (CP _).mono ?_; rintro e w' ⟨rfl, hw⟩; obtain rfl := hw.symm; clear CP))
        refine bodyPost_ret (v := .tuple #[.agg #[.int .u8 k, .string nm, .int .u8 0, .int .u8 0, .int .i64 0, .string ⟨#[]⟩, .int .i64 0], .int .i64 ((a.size : Int) + R + b.size)]) (by simp [results, Tryz.results54, go_sem, hc, hz] <;> rfl) rfl ⟨by rw [HE.out], ?_⟩
        exact set7 (up1 hb1) _ (Nat.le_refl _) _ _ _ _ _ _ _
end Go.Proofs.YtemacdimdpnkeaaGreatDoor
namespace Go.Proofs.YtemacdimdpnkeaaGreatDoor
set_option maxRecDepth 20000
open Go.RowKit
set_option linter.unusedVariables false
set_option linter.unusedSimpArgs false
theorem st_eq {a b : Str} (h : (st a).toList = (st b).toList) : a = b := by
  rw [Go.ByteArray.toList_eq, Go.ByteArray.toList_eq, st_list, st_list] at h; exact h
theorem neI {x y : ItemD} (h : x ≠ y) : x.k = y.k → x.x.k = y.x.k → x.x.n = y.x.n → (st x.x.s).toList = (st y.x.s).toList → ¬ (st x.v).toList = (st y.v).toList := fun h1 h2 h3 h4 h5 => h (by obtain ⟨k, ⟨a, n, s⟩, v⟩ := x; obtain ⟨k', ⟨a', n', s'⟩, v'⟩ := y; simp only [ItemD.mk.injEq, VD.mk.injEq]; exact ⟨h1, ⟨h2, h3, st_eq h4⟩, st_eq h5⟩)
def i0Q : ItemD := (⟨0, v0, []⟩ : ItemD)
theorem neV {x y : VD} (h : x ≠ y) : x.k = y.k → x.n = y.n → ¬ (st x.s).toList = (st y.s).toList := fun h1 h2 h3 => h (by obtain ⟨a, n, s⟩ := x; obtain ⟨a', n', s'⟩ := y; simp only [VD.mk.injEq]; exact ⟨h1, h2, st_eq h3⟩)
theorem neT {x y : TestD} (h : x ≠ y) : x.p = y.p → (st x.v).toList = (st y.v).toList → x.x.k = y.x.k → x.x.n = y.x.n → ¬ (st x.x.s).toList = (st y.x.s).toList := fun h1 h2 h3 h4 h5 => h (by obtain ⟨k, v, ⟨a, n, s⟩⟩ := x; obtain ⟨k', v', ⟨a', n', s'⟩⟩ := y; simp only [TestD.mk.injEq, VD.mk.injEq]; exact ⟨h1, st_eq h2, h3, h4, st_eq h5⟩)
def t0 : TestD := (⟨0, [], v0⟩ : TestD)
theorem neS {x y : Str} (h : x ≠ y) : ¬ (st x).toList = (st y).toList := fun h1 => h (st_eq h1)
def s0 : Str := ([] : Str)
set_option maxHeartbeats 4000000 in
theorem sameItems_any {Q1 Q2 : Nat → Prop} (v1 v2 : Value) (xs ys : List ItemD) (w : World) (h1 : SlW 5 w Q1 v1 (xs.map clI)) (h2 : SlW 5 w Q2 v2 (ys.map clI)) :
    Calls Tryz.prog 68 #[v1, v2] w fun e w' => e = .returned (.bool (decide (xs = ys))) ∧ Below w.heap.size w w' := by
  obtain ⟨a1, c1, rfl⟩ := h1.shape
  obtain ⟨a2, c2, rfl⟩ := h2.shape
  obtain ⟨-, l1, m1, r1⟩ := h1.row
  obtain ⟨-, l2, m2, r2⟩ := h2.row
  simp only [List.length_map] at *
  have R1 : Hid (∀ i, i < xs.length → ∃ b off, a1 = some ⟨b, off, none⟩ ∧ b < w.heap.size ∧ ∀ j, j < 5 → w.cell? ⟨b, off + (i * 5 + j), none⟩ = ((xs.map clI).getD i [])[j]?) := r1
  have R2 : Hid (∀ i, i < ys.length → ∃ b off, a2 = some ⟨b, off, none⟩ ∧ b < w.heap.size ∧ ∀ j, j < 5 → w.cell? ⟨b, off + (i * 5 + j), none⟩ = ((ys.map clI).getD i [])[j]?) := r2
  obtain ⟨A, hA⟩ : ∃ A, A = decide (xs = ys) := ⟨_, rfl⟩
  rw [← hA]
  have HA : Hid (A = decide (xs = ys)) := hA
  clear hA r1 r2 h1 h2
  by_cases hl : xs.length = ys.length
  · rw [← hl] at l2 ⊢
    have hnn : (xs.length : Int) ≤ 9223372036854775807 := by omega
    go_enter Tryz.func68, Tryz.ntmps68
    go_wp2
    go_loopw [5] (fun v wr => ∃ i : Nat, v = .int .i64 i ∧ i ≤ xs.length ∧ (∀ j, j < i → xs.getD j i0Q = ys.getD j i0Q) ∧ Below w.heap.size w wr) (fun v _ => (xs.length - intOf v).toNat)
    case atStart => exact ⟨0, rfl, Nat.zero_le _, fun j hj => absurd hj (Nat.not_lt_zero _), Below.refl _ _⟩
    case round =>
      obtain ⟨i, rfl, hi, hall, hbr⟩ := hrel
      by_cases hlt : i < xs.length
      · have hiz : (i : Int) < xs.length := by omega
        obtain ⟨b1, o1, rfl, hb1, q1⟩ := R1.out i hlt
        obtain ⟨b2, o2, rfl, hb2, q2⟩ := R2.out i (by omega)
        rw [getD_map clI xs i i0Q hlt] at q1
        rw [getD_map clI ys i i0Q (by omega)] at q2
        by_cases heq : xs.getD i i0Q = ys.getD i i0Q
        · have HALL : Hid (∀ j, j < i + 1 → xs.getD j i0Q = ys.getD j i0Q) := fun j hj => by
            rcases Nat.lt_or_ge j i with h | h
            · exact hall j h
            · obtain rfl : j = i := by omega
              exact heq
          rw [← heq] at q2
          generalize xs.getD i i0Q = x at *
          have SL : Hid (∀ W, Below wr.heap.size wr W → (∀ j, j < 5 → W.cell? ⟨b1, o1 + (i * 5 + j), none⟩ = (clI x)[j]?) ∧ (∀ j, j < 5 → W.cell? ⟨b2, o2 + (i * 5 + j), none⟩ = (clI x)[j]?)) := fun W hW => ⟨fun j hj => ((bt hbr hW).cell (p := ⟨b1, o1 + (i * 5 + j), none⟩) hb1).trans (q1 j hj), fun j hj => ((bt hbr hW).cell (p := ⟨b2, o2 + (i * 5 + j), none⟩) hb2).trans (q2 j hj)⟩
          clear q1 q2 heq hall
          go_wp2_with fail
          refine wp_region_noPanic ?_
          refine name_ops ?_
          intro O QQ HO HQ
          refine wp_region_held_drew (S := fun W => Below wr.heap.size wr W) (by kernel_rfl) (Below.refl _ _).drew (fun hS => ?_)
          rw [show O.size = 9 by rw [HO.out]; rfl]
          refine qwt (i := 0) (v := .slice (some ⟨b1, o1, none⟩) xs.length c1) HO HQ (by simp only [qa1, qa2, qa3]; rfl) (by kernel_rfl) (by kernel_rfl) (by kernel_rfl) (fun _ _ _ h => h) (Or.inl ⟨by first | rfl | (rw [HO.out]; kernel_rfl), ?_⟩) hS ?_
          · intro w' hSw
            go_simp
          try simp only [Act.put, qb1, qb2, qb3]
          refine qwt (i := 1) (v := .int .i64 i) HO HQ (by simp only [qa1, qa2, qa3]; rfl) (by kernel_rfl) (by kernel_rfl) (by kernel_rfl) (fun _ _ _ h => h) (Or.inl ⟨by first | rfl | (rw [HO.out]; kernel_rfl), ?_⟩) hS ?_
          · intro w' hSw
            go_simp
          try simp only [Act.put, qb1, qb2, qb3]
          refine qwt (i := 2) (v := .pointer (some ⟨b1, o1 + i * 5, none⟩)) HO HQ (by simp only [qa1, qa2, qa3]; rfl) (by kernel_rfl) (by kernel_rfl) (by kernel_rfl) (fun _ _ _ h => h) (Or.inl ⟨by first | rfl | (rw [HO.out]; kernel_rfl), ?_⟩) hS ?_
          · intro w' hSw
            go_simp
          try simp only [Act.put, qb1, qb2, qb3]
          refine qwt (i := 3) (v := .agg #[.int .u8 x.k, .int .u8 x.x.k, .int .i64 x.x.n, .string (st x.x.s), .string (st x.v)]) HO HQ (by simp only [qa1, qa2, qa3]; rfl) (by kernel_rfl) (by kernel_rfl) (by kernel_rfl) (fun _ _ _ h => h) (Or.inl ⟨by first | rfl | (rw [HO.out]; kernel_rfl), ?_⟩) hS ?_
          · intro w' hSw
            obtain ⟨e1, e2⟩ := SL.out _ hSw
            have q0 : w'.cell? ⟨b1, o1 + i * 5, none⟩ = some (.int .u8 x.k) := e1 0 (by decide)
            have q1 : w'.cell? ⟨b1, o1 + i * 5 + 1, none⟩ = some (.int .u8 x.x.k) := e1 1 (by decide)
            have q2 : w'.cell? ⟨b1, o1 + i * 5 + 2, none⟩ = some (.int .i64 x.x.n) := e1 2 (by decide)
            have q3 : w'.cell? ⟨b1, o1 + i * 5 + 3, none⟩ = some (.string (st x.x.s)) := e1 3 (by decide)
            have q4 : w'.cell? ⟨b1, o1 + i * 5 + 4, none⟩ = some (.string (st x.v)) := e1 4 (by decide)
            clear e1 e2
            go_simp
          try simp only [Act.put, qb1, qb2, qb3]
          refine qwt (i := 4) (v := .slice (some ⟨b2, o2, none⟩) xs.length c2) HO HQ (by simp only [qa1, qa2, qa3]; rfl) (by kernel_rfl) (by kernel_rfl) (by kernel_rfl) (fun _ _ _ h => h) (Or.inl ⟨by first | rfl | (rw [HO.out]; kernel_rfl), ?_⟩) hS ?_
          · intro w' hSw
            go_simp
          try simp only [Act.put, qb1, qb2, qb3]
          refine qwt (i := 5) (v := .int .i64 i) HO HQ (by simp only [qa1, qa2, qa3]; rfl) (by kernel_rfl) (by kernel_rfl) (by kernel_rfl) (fun _ _ _ h => h) (Or.inl ⟨by first | rfl | (rw [HO.out]; kernel_rfl), ?_⟩) hS ?_
          · intro w' hSw
            go_simp
          try simp only [Act.put, qb1, qb2, qb3]
          refine qwt (i := 6) (v := .pointer (some ⟨b2, o2 + i * 5, none⟩)) HO HQ (by simp only [qa1, qa2, qa3]; rfl) (by kernel_rfl) (by kernel_rfl) (by kernel_rfl) (fun _ _ _ h => h) (Or.inl ⟨by first | rfl | (rw [HO.out]; kernel_rfl), ?_⟩) hS ?_
          · intro w' hSw
            go_simp
          try simp only [Act.put, qb1, qb2, qb3]
          refine qwt (i := 7) (v := .agg #[.int .u8 x.k, .int .u8 x.x.k, .int .i64 x.x.n, .string (st x.x.s), .string (st x.v)]) HO HQ (by simp only [qa1, qa2, qa3]; rfl) (by kernel_rfl) (by kernel_rfl) (by kernel_rfl) (fun _ _ _ h => h) (Or.inl ⟨by first | rfl | (rw [HO.out]; kernel_rfl), ?_⟩) hS ?_
          · intro w' hSw
            obtain ⟨e1, e2⟩ := SL.out _ hSw
            have q0 : w'.cell? ⟨b2, o2 + i * 5, none⟩ = some (.int .u8 x.k) := e2 0 (by decide)
            have q1 : w'.cell? ⟨b2, o2 + i * 5 + 1, none⟩ = some (.int .u8 x.x.k) := e2 1 (by decide)
            have q2 : w'.cell? ⟨b2, o2 + i * 5 + 2, none⟩ = some (.int .i64 x.x.n) := e2 2 (by decide)
            have q3 : w'.cell? ⟨b2, o2 + i * 5 + 3, none⟩ = some (.string (st x.x.s)) := e2 3 (by decide)
            have q4 : w'.cell? ⟨b2, o2 + i * 5 + 4, none⟩ = some (.string (st x.v)) := e2 4 (by decide)
            clear e1 e2
            go_simp
          try simp only [Act.put, qb1, qb2, qb3]
          refine qwt (i := 8) (v := .bool false) HO HQ (by simp only [qa1, qa2, qa3]; rfl) (by kernel_rfl) (by kernel_rfl) (by kernel_rfl) (fun _ _ _ h => h) (Or.inl ⟨by first | rfl | (rw [HO.out]; kernel_rfl), ?_⟩) hS ?_
          · intro w' hSw
            go_simp
          try simp only [Act.put, qb1, qb2, qb3]
          refine wpAnyH_done (by rw [HO.out]; kernel_rfl) ?_ _
          rw [HQ.out]
          refine NoPanic.normal ?_
          go_wp2
          go_roundw
          case rel => exact ⟨i + 1, by simp, by omega, HALL.out, bt hbr hS⟩
          case measure => simp [intOf]; omega
        · have HN : Hid (A = false) := by show _ = _; rw [HA.out]; exact decide_eq_false (ne_go i0Q heq)
          have hne := neI heq
          generalize xs.getD i i0Q = x at *
          generalize ys.getD i i0Q = y at *
          have SL : Hid (∀ W, Below wr.heap.size wr W → (∀ j, j < 5 → W.cell? ⟨b1, o1 + (i * 5 + j), none⟩ = (clI x)[j]?) ∧ (∀ j, j < 5 → W.cell? ⟨b2, o2 + (i * 5 + j), none⟩ = (clI y)[j]?)) := fun W hW => ⟨fun j hj => ((bt hbr hW).cell (p := ⟨b1, o1 + (i * 5 + j), none⟩) hb1).trans (q1 j hj), fun j hj => ((bt hbr hW).cell (p := ⟨b2, o2 + (i * 5 + j), none⟩) hb2).trans (q2 j hj)⟩
          clear q1 q2 heq hall
          go_wp2_with fail
          refine wp_region_noPanic ?_
          refine name_ops ?_
          intro O QQ HO HQ
          refine wp_region_held_drew (S := fun W => Below wr.heap.size wr W) (by kernel_rfl) (Below.refl _ _).drew (fun hS => ?_)
          rw [show O.size = 9 by rw [HO.out]; rfl]
          refine qwt (i := 0) (v := .slice (some ⟨b1, o1, none⟩) xs.length c1) HO HQ (by simp only [qa1, qa2, qa3]; rfl) (by kernel_rfl) (by kernel_rfl) (by kernel_rfl) (fun _ _ _ h => h) (Or.inl ⟨by first | rfl | (rw [HO.out]; kernel_rfl), ?_⟩) hS ?_
          · intro w' hSw
            go_simp
          try simp only [Act.put, qb1, qb2, qb3]
          refine qwt (i := 1) (v := .int .i64 i) HO HQ (by simp only [qa1, qa2, qa3]; rfl) (by kernel_rfl) (by kernel_rfl) (by kernel_rfl) (fun _ _ _ h => h) (Or.inl ⟨by first | rfl | (rw [HO.out]; kernel_rfl), ?_⟩) hS ?_
          · intro w' hSw
            go_simp
          try simp only [Act.put, qb1, qb2, qb3]
          refine qwt (i := 2) (v := .pointer (some ⟨b1, o1 + i * 5, none⟩)) HO HQ (by simp only [qa1, qa2, qa3]; rfl) (by kernel_rfl) (by kernel_rfl) (by kernel_rfl) (fun _ _ _ h => h) (Or.inl ⟨by first | rfl | (rw [HO.out]; kernel_rfl), ?_⟩) hS ?_
          · intro w' hSw
            go_simp
          try simp only [Act.put, qb1, qb2, qb3]
          refine qwt (i := 3) (v := .agg #[.int .u8 x.k, .int .u8 x.x.k, .int .i64 x.x.n, .string (st x.x.s), .string (st x.v)]) HO HQ (by simp only [qa1, qa2, qa3]; rfl) (by kernel_rfl) (by kernel_rfl) (by kernel_rfl) (fun _ _ _ h => h) (Or.inl ⟨by first | rfl | (rw [HO.out]; kernel_rfl), ?_⟩) hS ?_
          · intro w' hSw
            obtain ⟨e1, e2⟩ := SL.out _ hSw
            have q0 : w'.cell? ⟨b1, o1 + i * 5, none⟩ = some (.int .u8 x.k) := e1 0 (by decide)
            have q1 : w'.cell? ⟨b1, o1 + i * 5 + 1, none⟩ = some (.int .u8 x.x.k) := e1 1 (by decide)
            have q2 : w'.cell? ⟨b1, o1 + i * 5 + 2, none⟩ = some (.int .i64 x.x.n) := e1 2 (by decide)
            have q3 : w'.cell? ⟨b1, o1 + i * 5 + 3, none⟩ = some (.string (st x.x.s)) := e1 3 (by decide)
            have q4 : w'.cell? ⟨b1, o1 + i * 5 + 4, none⟩ = some (.string (st x.v)) := e1 4 (by decide)
            clear e1 e2
            go_simp
          try simp only [Act.put, qb1, qb2, qb3]
          refine qwt (i := 4) (v := .slice (some ⟨b2, o2, none⟩) xs.length c2) HO HQ (by simp only [qa1, qa2, qa3]; rfl) (by kernel_rfl) (by kernel_rfl) (by kernel_rfl) (fun _ _ _ h => h) (Or.inl ⟨by first | rfl | (rw [HO.out]; kernel_rfl), ?_⟩) hS ?_
          · intro w' hSw
            go_simp
          try simp only [Act.put, qb1, qb2, qb3]
          refine qwt (i := 5) (v := .int .i64 i) HO HQ (by simp only [qa1, qa2, qa3]; rfl) (by kernel_rfl) (by kernel_rfl) (by kernel_rfl) (fun _ _ _ h => h) (Or.inl ⟨by first | rfl | (rw [HO.out]; kernel_rfl), ?_⟩) hS ?_
          · intro w' hSw
            go_simp
          try simp only [Act.put, qb1, qb2, qb3]
          refine qwt (i := 6) (v := .pointer (some ⟨b2, o2 + i * 5, none⟩)) HO HQ (by simp only [qa1, qa2, qa3]; rfl) (by kernel_rfl) (by kernel_rfl) (by kernel_rfl) (fun _ _ _ h => h) (Or.inl ⟨by first | rfl | (rw [HO.out]; kernel_rfl), ?_⟩) hS ?_
          · intro w' hSw
            go_simp
          try simp only [Act.put, qb1, qb2, qb3]
          refine qwt (i := 7) (v := .agg #[.int .u8 y.k, .int .u8 y.x.k, .int .i64 y.x.n, .string (st y.x.s), .string (st y.v)]) HO HQ (by simp only [qa1, qa2, qa3]; rfl) (by kernel_rfl) (by kernel_rfl) (by kernel_rfl) (fun _ _ _ h => h) (Or.inl ⟨by first | rfl | (rw [HO.out]; kernel_rfl), ?_⟩) hS ?_
          · intro w' hSw
            obtain ⟨e1, e2⟩ := SL.out _ hSw
            have q0 : w'.cell? ⟨b2, o2 + i * 5, none⟩ = some (.int .u8 y.k) := e2 0 (by decide)
            have q1 : w'.cell? ⟨b2, o2 + i * 5 + 1, none⟩ = some (.int .u8 y.x.k) := e2 1 (by decide)
            have q2 : w'.cell? ⟨b2, o2 + i * 5 + 2, none⟩ = some (.int .i64 y.x.n) := e2 2 (by decide)
            have q3 : w'.cell? ⟨b2, o2 + i * 5 + 3, none⟩ = some (.string (st y.x.s)) := e2 3 (by decide)
            have q4 : w'.cell? ⟨b2, o2 + i * 5 + 4, none⟩ = some (.string (st y.v)) := e2 4 (by decide)
            clear e1 e2
            go_simp
          try simp only [Act.put, qb1, qb2, qb3]
          refine qwt (i := 8) (v := .bool true) HO HQ (by simp only [qa1, qa2, qa3]; rfl) (by kernel_rfl) (by kernel_rfl) (by kernel_rfl) (fun _ _ _ h => h) (Or.inl ⟨by first | rfl | (rw [HO.out]; kernel_rfl), ?_⟩) hS ?_
          · intro w' hSw
            go_simp
            exact hne
          try simp only [Act.put, qb1, qb2, qb3]
          refine wpAnyH_done (by rw [HO.out]; kernel_rfl) ?_ _
          rw [HQ.out]
          refine NoPanic.normal ?_
          go_wp2
          go_ret
          exact ⟨ret_bool HN.out.symm, bt hbr hS⟩
      · have hiz : ¬ (i : Int) < xs.length := by omega
        have HN : Hid (A = true) := by show _ = _; rw [HA.out]; exact decide_eq_true (eq_go i0Q hl hall (by omega))
        clear hall
        go_wp2
        go_ret
        exact ⟨ret_bool HN.out.symm, hbr⟩
  · have hlz : ((xs.length : Int) == ys.length) = false := by rw [beq_eq_false_iff_ne]; omega
    have HN : Hid (A = false) := by show _ = _; rw [HA.out]; exact decide_eq_false (fun e => hl (by rw [e]))
    clear hl HA
    go_enter Tryz.func68, Tryz.ntmps68
    go_wp2
    go_ret
    exact ⟨ret_bool HN.out.symm, Below.refl _ _⟩
end Go.Proofs.YtemacdimdpnkeaaGreatDoor
namespace Go.Proofs.YtemacdimdpnkeaaGreatDoor
set_option maxRecDepth 20000
open Go.RowKit
set_option linter.unusedVariables false
set_option linter.unusedSimpArgs false
theorem bxn2t (w : World) (o o' : Obj) : Below w.heap.size w ((w.alloc o).alloc o') := bt (bxn _ _) (bxn _ _)
theorem extClassD {x y : ClassD} (h1 : x.nm = y.nm) (h2 : x.attrs = y.attrs) : x = y := by cases x; cases y; simp_all
theorem extAttrD {x y : AttrD} (h1 : x.a = y.a) (h2 : x.ones = y.ones) (h3 : x.tests = y.tests) : x = y := by cases x; cases y; simp_all
set_option maxHeartbeats 8000000 in
theorem sameClass_any {P1 P2 : Nat → Nat → Prop} (cs1 cs2 : List Value) (x y : ClassD) (w : World) (h1 : ReK P1 w cs1 x) (h2 : ReK P2 w cs2 y) :
    Calls Tryz.prog 15 #[.agg cs1.toArray, .agg cs2.toArray] w fun e w' => e = .returned (.bool (decide (x = y))) ∧ Below w.heap.size w w' := by
  obtain ⟨v10, rfl, r10⟩ := h1
  obtain ⟨v20, rfl, r20⟩ := h2
  obtain ⟨a10, c10, rfl⟩ := r10.shape
  obtain ⟨-, l10, m10, z10⟩ := r10.row
  simp only [List.length_map] at l10 z10 ⊢
  obtain ⟨a20, c20, rfl⟩ := r20.shape
  obtain ⟨-, l20, m20, z20⟩ := r20.row
  simp only [List.length_map] at l20 z20 ⊢
  have R10 : Hid (∀ i, i < x.attrs.length → ∃ b off, a10 = some ⟨b, off, none⟩ ∧ b < w.heap.size ∧ ∀ j, j < 1 → w.cell? ⟨b, off + (i * 1 + j), none⟩ = ((x.attrs.map clS).getD i [])[j]?) := z10
  have R20 : Hid (∀ i, i < y.attrs.length → ∃ b off, a20 = some ⟨b, off, none⟩ ∧ b < w.heap.size ∧ ∀ j, j < 1 → w.cell? ⟨b, off + (i * 1 + j), none⟩ = ((y.attrs.map clS).getD i [])[j]?) := z20
  obtain ⟨A, hA⟩ : ∃ A, A = decide (x = y) := ⟨_, rfl⟩
  rw [← hA]
  have HA : Hid (A = decide (x = y)) := hA
  clear hA z10 r10 z20 r20
  by_cases hnm : ¬ (x.nm = y.nm)
  · have hznm : ((st x.nm).toList == (st y.nm).toList) = false := by rw [beq_eq_false_iff_ne]; exact fun e => hnm (st_eq e)
    have HN : Hid (A = false) := by show _ = _; rw [HA.out]; exact decide_eq_false (fun e => hnm (by rw [e]))
    clear HA hnm
    go_enter Tryz.func15, Tryz.ntmps15
    go_wp2
    go_ret
    exact ⟨ret_bool HN.out.symm, bxn2t _ _ _⟩
  replace hnm := Classical.not_not.1 hnm
  rw [← hnm]
  have Hnm : Hid (x.nm = y.nm) := hnm
  clear hnm
  by_cases hattrs : ¬ (x.attrs.length = y.attrs.length)
  · have hzattrs : ((x.attrs.length : Int) == y.attrs.length) = false := by rw [beq_eq_false_iff_ne]; omega
    have HN : Hid (A = false) := by show _ = _; rw [HA.out]; exact decide_eq_false (fun e => hattrs (by rw [e]))
    clear HA hattrs
    go_enter Tryz.func15, Tryz.ntmps15
    go_wp2
    go_ret
    exact ⟨ret_bool HN.out.symm, bxn2t _ _ _⟩
  replace hattrs := Classical.not_not.1 hattrs
  rw [← hattrs] at l20 ⊢
  have Hattrs : Hid (x.attrs.length = y.attrs.length) := hattrs
  clear hattrs
  have hnn0 : (x.attrs.length : Int) ≤ 9223372036854775807 := by omega
  go_enter Tryz.func15, Tryz.ntmps15
  go_wp2
  go_loopw [5] (fun v wr => ∃ i : Nat, v = .int .i64 i ∧ i ≤ x.attrs.length ∧ (∀ j, j < i → x.attrs.getD j s0 = y.attrs.getD j s0) ∧ Below ((w.alloc (.cells #[.string (st x.nm), .slice a10 x.attrs.length c10] 61)).alloc (.cells #[.string (st x.nm), .slice a20 x.attrs.length c20] 61)).heap.size ((w.alloc (.cells #[.string (st x.nm), .slice a10 x.attrs.length c10] 61)).alloc (.cells #[.string (st x.nm), .slice a20 x.attrs.length c20] 61)) wr) (fun v _ => (x.attrs.length - intOf v).toNat)
  case atStart => exact ⟨0, rfl, Nat.zero_le _, fun j hj => absurd hj (Nat.not_lt_zero _), Below.refl _ _⟩
  case round =>
    obtain ⟨i0Q, rfl, hi0, hall0, hbr0⟩ := hrel
    obtain ⟨wq0, hwq⟩ : ∃ wq, wq = wr := ⟨_, rfl⟩
    subst hwq
    have BW0 : Hid (Below w.heap.size w wq0) := bt (bxn2t _ _ _) hbr0
    have p10 : wq0.cell? ⟨w.heap.size, 0, none⟩ = some (.string (st x.nm)) := by rw [hbr0.cell (p := ⟨w.heap.size, 0, none⟩) (by simp <;> omega)]; go_simp
    have p11 : wq0.cell? ⟨w.heap.size, 1, none⟩ = some (.slice a10 x.attrs.length c10) := by rw [hbr0.cell (p := ⟨w.heap.size, 1, none⟩) (by simp <;> omega)]; go_simp
    have p20 : wq0.cell? ⟨w.heap.size + 1, 0, none⟩ = some (.string (st x.nm)) := by rw [hbr0.cell (p := ⟨w.heap.size + 1, 0, none⟩) (by simp <;> omega)]; go_simp
    have p21 : wq0.cell? ⟨w.heap.size + 1, 1, none⟩ = some (.slice a20 x.attrs.length c20) := by rw [hbr0.cell (p := ⟨w.heap.size + 1, 1, none⟩) (by simp <;> omega)]; go_simp
    by_cases hlt0 : i0Q < x.attrs.length
    · have hiz : (i0Q : Int) < x.attrs.length := by omega
      obtain ⟨b1, o1, rfl, hb1, q1⟩ := R10.out i0Q hlt0
      obtain ⟨b2, o2, rfl, hb2, q2⟩ := R20.out i0Q (by have := Hattrs.out; omega)
      rw [getD_map clS x.attrs i0Q s0 hlt0] at q1
      rw [getD_map clS y.attrs i0Q s0 (by have := Hattrs.out; omega)] at q2
      by_cases heq : x.attrs.getD i0Q s0 = y.attrs.getD i0Q s0
      · have HALL : Hid (∀ j, j < i0Q + 1 → x.attrs.getD j s0 = y.attrs.getD j s0) := fun j hj => by
          rcases Nat.lt_or_ge j i0Q with h | h
          · exact hall0 j h
          · obtain rfl : j = i0Q := by omega
            exact heq
        generalize x.attrs.getD i0Q s0 = x' at *
        generalize y.attrs.getD i0Q s0 = y' at *
        subst heq
        have SL : Hid (∀ W, Below wq0.heap.size wq0 W → (W.cell? ⟨b1, o1 + i0Q, none⟩ = some (.string (st x'))) ∧ (W.cell? ⟨b2, o2 + i0Q, none⟩ = some (.string (st x'))) ∧ W.cell? ⟨w.heap.size, 0, none⟩ = some (.string (st x.nm)) ∧ W.cell? ⟨w.heap.size, 1, none⟩ = some (.slice (some ⟨b1, o1, none⟩) x.attrs.length c10) ∧ W.cell? ⟨w.heap.size + 1, 0, none⟩ = some (.string (st x.nm)) ∧ W.cell? ⟨w.heap.size + 1, 1, none⟩ = some (.slice (some ⟨b2, o2, none⟩) x.attrs.length c20)) := fun W hW => ⟨((bt BW0.out hW).cell (p := ⟨b1, o1 + i0Q, none⟩) hb1).trans (by have := q1 0 (by decide); rw [Nat.mul_one, Nat.add_zero] at this; exact this), ((bt BW0.out hW).cell (p := ⟨b2, o2 + i0Q, none⟩) hb2).trans (by have := q2 0 (by decide); rw [Nat.mul_one, Nat.add_zero] at this; exact this), (hW.cell (p := ⟨w.heap.size, 0, none⟩) (by have := hbr0.size; simp at this; show w.heap.size < _; omega)).trans p10, (hW.cell (p := ⟨w.heap.size, 1, none⟩) (by have := hbr0.size; simp at this; show w.heap.size < _; omega)).trans p11, (hW.cell (p := ⟨w.heap.size + 1, 0, none⟩) (by have := hbr0.size; simp at this; show w.heap.size + 1 < _; omega)).trans p20, (hW.cell (p := ⟨w.heap.size + 1, 1, none⟩) (by have := hbr0.size; simp at this; show w.heap.size + 1 < _; omega)).trans p21⟩
        clear q1 q2 hall0
        go_wp2_with fail
        refine wp_region_noPanic ?_
        refine name_ops ?_
        intro O QQ HO HQ
        refine wp_region_held_drew (S := fun W => Below wq0.heap.size wq0 W) (by kernel_rfl) (Below.refl _ _).drew (fun hS => ?_)
        rw [show O.size = 11 by rw [HO.out]; rfl]
        refine qwt (i := 0) (v := .pointer (some ⟨w.heap.size, 1, none⟩)) HO HQ (by simp only [qa1, qa2, qa3]; rfl) (by kernel_rfl) (by kernel_rfl) (by kernel_rfl) (fun _ _ _ h => h) (Or.inl ⟨by first | rfl | (rw [HO.out]; kernel_rfl), ?_⟩) hS ?_
        · intro w' hSw
          go_simp
        try simp only [Act.put, qb1, qb2, qb3]
        refine qwt (i := 1) (v := .slice (some ⟨b1, o1, none⟩) x.attrs.length c10) HO HQ (by simp only [qa1, qa2, qa3]; rfl) (by kernel_rfl) (by kernel_rfl) (by kernel_rfl) (fun _ _ _ h => h) (Or.inl ⟨by first | rfl | (rw [HO.out]; kernel_rfl), ?_⟩) hS ?_
        · intro w' hSw
          obtain ⟨q10, q20, p10, p11, p20, p21⟩ := SL.out _ hSw
          go_simp
        try simp only [Act.put, qb1, qb2, qb3]
        refine qwt (i := 2) (v := .int .i64 i0Q) HO HQ (by simp only [qa1, qa2, qa3]; rfl) (by kernel_rfl) (by kernel_rfl) (by kernel_rfl) (fun _ _ _ h => h) (Or.inl ⟨by first | rfl | (rw [HO.out]; kernel_rfl), ?_⟩) hS ?_
        · intro w' hSw
          go_simp
        try simp only [Act.put, qb1, qb2, qb3]
        refine qwt (i := 3) (v := .pointer (some ⟨b1, o1 + i0Q, none⟩)) HO HQ (by simp only [qa1, qa2, qa3]; rfl) (by kernel_rfl) (by kernel_rfl) (by kernel_rfl) (fun _ _ _ h => h) (Or.inl ⟨by first | rfl | (rw [HO.out]; kernel_rfl), ?_⟩) hS ?_
        · intro w' hSw
          go_simp
        try simp only [Act.put, qb1, qb2, qb3]
        refine qwt (i := 4) (v := .string (st x')) HO HQ (by simp only [qa1, qa2, qa3]; rfl) (by kernel_rfl) (by kernel_rfl) (by kernel_rfl) (fun _ _ _ h => h) (Or.inl ⟨by first | rfl | (rw [HO.out]; kernel_rfl), ?_⟩) hS ?_
        · intro w' hSw
          obtain ⟨q10, q20, p10, p11, p20, p21⟩ := SL.out _ hSw
          go_simp
        try simp only [Act.put, qb1, qb2, qb3]
        refine qwt (i := 5) (v := .pointer (some ⟨w.heap.size + 1, 1, none⟩)) HO HQ (by simp only [qa1, qa2, qa3]; rfl) (by kernel_rfl) (by kernel_rfl) (by kernel_rfl) (fun _ _ _ h => h) (Or.inl ⟨by first | rfl | (rw [HO.out]; kernel_rfl), ?_⟩) hS ?_
        · intro w' hSw
          go_simp
        try simp only [Act.put, qb1, qb2, qb3]
        refine qwt (i := 6) (v := .slice (some ⟨b2, o2, none⟩) x.attrs.length c20) HO HQ (by simp only [qa1, qa2, qa3]; rfl) (by kernel_rfl) (by kernel_rfl) (by kernel_rfl) (fun _ _ _ h => h) (Or.inl ⟨by first | rfl | (rw [HO.out]; kernel_rfl), ?_⟩) hS ?_
        · intro w' hSw
          obtain ⟨q10, q20, p10, p11, p20, p21⟩ := SL.out _ hSw
          go_simp
        try simp only [Act.put, qb1, qb2, qb3]
        refine qwt (i := 7) (v := .int .i64 i0Q) HO HQ (by simp only [qa1, qa2, qa3]; rfl) (by kernel_rfl) (by kernel_rfl) (by kernel_rfl) (fun _ _ _ h => h) (Or.inl ⟨by first | rfl | (rw [HO.out]; kernel_rfl), ?_⟩) hS ?_
        · intro w' hSw
          go_simp
        try simp only [Act.put, qb1, qb2, qb3]
        refine qwt (i := 8) (v := .pointer (some ⟨b2, o2 + i0Q, none⟩)) HO HQ (by simp only [qa1, qa2, qa3]; rfl) (by kernel_rfl) (by kernel_rfl) (by kernel_rfl) (fun _ _ _ h => h) (Or.inl ⟨by first | rfl | (rw [HO.out]; kernel_rfl), ?_⟩) hS ?_
        · intro w' hSw
          go_simp
        try simp only [Act.put, qb1, qb2, qb3]
        refine qwt (i := 9) (v := .string (st x')) HO HQ (by simp only [qa1, qa2, qa3]; rfl) (by kernel_rfl) (by kernel_rfl) (by kernel_rfl) (fun _ _ _ h => h) (Or.inl ⟨by first | rfl | (rw [HO.out]; kernel_rfl), ?_⟩) hS ?_
        · intro w' hSw
          obtain ⟨q10, q20, p10, p11, p20, p21⟩ := SL.out _ hSw
          go_simp
        try simp only [Act.put, qb1, qb2, qb3]
        refine qwt (i := 10) (v := .bool false) HO HQ (by simp only [qa1, qa2, qa3]; rfl) (by kernel_rfl) (by kernel_rfl) (by kernel_rfl) (fun _ _ _ h => h) (Or.inl ⟨by first | rfl | (rw [HO.out]; kernel_rfl), ?_⟩) hS ?_
        · intro w' hSw
          go_simp
        try simp only [Act.put, qb1, qb2, qb3]
        refine wpAnyH_done (by rw [HO.out]; kernel_rfl) ?_ _
        rw [HQ.out]
        refine NoPanic.normal ?_
        go_wp2
        go_roundw
        case rel => exact ⟨i0Q + 1, by simp, by omega, HALL.out, bt hbr0 hS⟩
        case measure => simp [intOf]; omega
      · have HN : Hid (A = false) := by show _ = _; rw [HA.out]; exact decide_eq_false (fun e => heq (by rw [e]))
        have hne := neS heq
        generalize x.attrs.getD i0Q s0 = x' at *
        generalize y.attrs.getD i0Q s0 = y' at *
        have SL : Hid (∀ W, Below wq0.heap.size wq0 W → (W.cell? ⟨b1, o1 + i0Q, none⟩ = some (.string (st x'))) ∧ (W.cell? ⟨b2, o2 + i0Q, none⟩ = some (.string (st y'))) ∧ W.cell? ⟨w.heap.size, 0, none⟩ = some (.string (st x.nm)) ∧ W.cell? ⟨w.heap.size, 1, none⟩ = some (.slice (some ⟨b1, o1, none⟩) x.attrs.length c10) ∧ W.cell? ⟨w.heap.size + 1, 0, none⟩ = some (.string (st x.nm)) ∧ W.cell? ⟨w.heap.size + 1, 1, none⟩ = some (.slice (some ⟨b2, o2, none⟩) x.attrs.length c20)) := fun W hW => ⟨((bt BW0.out hW).cell (p := ⟨b1, o1 + i0Q, none⟩) hb1).trans (by have := q1 0 (by decide); rw [Nat.mul_one, Nat.add_zero] at this; exact this), ((bt BW0.out hW).cell (p := ⟨b2, o2 + i0Q, none⟩) hb2).trans (by have := q2 0 (by decide); rw [Nat.mul_one, Nat.add_zero] at this; exact this), (hW.cell (p := ⟨w.heap.size, 0, none⟩) (by have := hbr0.size; simp at this; show w.heap.size < _; omega)).trans p10, (hW.cell (p := ⟨w.heap.size, 1, none⟩) (by have := hbr0.size; simp at this; show w.heap.size < _; omega)).trans p11, (hW.cell (p := ⟨w.heap.size + 1, 0, none⟩) (by have := hbr0.size; simp at this; show w.heap.size + 1 < _; omega)).trans p20, (hW.cell (p := ⟨w.heap.size + 1, 1, none⟩) (by have := hbr0.size; simp at this; show w.heap.size + 1 < _; omega)).trans p21⟩
        clear q1 q2 hall0 heq
        go_wp2_with fail
        refine wp_region_noPanic ?_
        refine name_ops ?_
        intro O QQ HO HQ
        refine wp_region_held_drew (S := fun W => Below wq0.heap.size wq0 W) (by kernel_rfl) (Below.refl _ _).drew (fun hS => ?_)
        rw [show O.size = 11 by rw [HO.out]; rfl]
        refine qwt (i := 0) (v := .pointer (some ⟨w.heap.size, 1, none⟩)) HO HQ (by simp only [qa1, qa2, qa3]; rfl) (by kernel_rfl) (by kernel_rfl) (by kernel_rfl) (fun _ _ _ h => h) (Or.inl ⟨by first | rfl | (rw [HO.out]; kernel_rfl), ?_⟩) hS ?_
        · intro w' hSw
          go_simp
        try simp only [Act.put, qb1, qb2, qb3]
        refine qwt (i := 1) (v := .slice (some ⟨b1, o1, none⟩) x.attrs.length c10) HO HQ (by simp only [qa1, qa2, qa3]; rfl) (by kernel_rfl) (by kernel_rfl) (by kernel_rfl) (fun _ _ _ h => h) (Or.inl ⟨by first | rfl | (rw [HO.out]; kernel_rfl), ?_⟩) hS ?_
        · intro w' hSw
          obtain ⟨q10, q20, p10, p11, p20, p21⟩ := SL.out _ hSw
          go_simp
        try simp only [Act.put, qb1, qb2, qb3]
        refine qwt (i := 2) (v := .int .i64 i0Q) HO HQ (by simp only [qa1, qa2, qa3]; rfl) (by kernel_rfl) (by kernel_rfl) (by kernel_rfl) (fun _ _ _ h => h) (Or.inl ⟨by first | rfl | (rw [HO.out]; kernel_rfl), ?_⟩) hS ?_
        · intro w' hSw
          go_simp
        try simp only [Act.put, qb1, qb2, qb3]
        refine qwt (i := 3) (v := .pointer (some ⟨b1, o1 + i0Q, none⟩)) HO HQ (by simp only [qa1, qa2, qa3]; rfl) (by kernel_rfl) (by kernel_rfl) (by kernel_rfl) (fun _ _ _ h => h) (Or.inl ⟨by first | rfl | (rw [HO.out]; kernel_rfl), ?_⟩) hS ?_
        · intro w' hSw
          go_simp
        try simp only [Act.put, qb1, qb2, qb3]
        refine qwt (i := 4) (v := .string (st x')) HO HQ (by simp only [qa1, qa2, qa3]; rfl) (by kernel_rfl) (by kernel_rfl) (by kernel_rfl) (fun _ _ _ h => h) (Or.inl ⟨by first | rfl | (rw [HO.out]; kernel_rfl), ?_⟩) hS ?_
        · intro w' hSw
          obtain ⟨q10, q20, p10, p11, p20, p21⟩ := SL.out _ hSw
          go_simp
        try simp only [Act.put, qb1, qb2, qb3]
        refine qwt (i := 5) (v := .pointer (some ⟨w.heap.size + 1, 1, none⟩)) HO HQ (by simp only [qa1, qa2, qa3]; rfl) (by kernel_rfl) (by kernel_rfl) (by kernel_rfl) (fun _ _ _ h => h) (Or.inl ⟨by first | rfl | (rw [HO.out]; kernel_rfl), ?_⟩) hS ?_
        · intro w' hSw
          go_simp
        try simp only [Act.put, qb1, qb2, qb3]
        refine qwt (i := 6) (v := .slice (some ⟨b2, o2, none⟩) x.attrs.length c20) HO HQ (by simp only [qa1, qa2, qa3]; rfl) (by kernel_rfl) (by kernel_rfl) (by kernel_rfl) (fun _ _ _ h => h) (Or.inl ⟨by first | rfl | (rw [HO.out]; kernel_rfl), ?_⟩) hS ?_
        · intro w' hSw
          obtain ⟨q10, q20, p10, p11, p20, p21⟩ := SL.out _ hSw
          go_simp
        try simp only [Act.put, qb1, qb2, qb3]
        refine qwt (i := 7) (v := .int .i64 i0Q) HO HQ (by simp only [qa1, qa2, qa3]; rfl) (by kernel_rfl) (by kernel_rfl) (by kernel_rfl) (fun _ _ _ h => h) (Or.inl ⟨by first | rfl | (rw [HO.out]; kernel_rfl), ?_⟩) hS ?_
        · intro w' hSw
          go_simp
        try simp only [Act.put, qb1, qb2, qb3]
        refine qwt (i := 8) (v := .pointer (some ⟨b2, o2 + i0Q, none⟩)) HO HQ (by simp only [qa1, qa2, qa3]; rfl) (by kernel_rfl) (by kernel_rfl) (by kernel_rfl) (fun _ _ _ h => h) (Or.inl ⟨by first | rfl | (rw [HO.out]; kernel_rfl), ?_⟩) hS ?_
        · intro w' hSw
          go_simp
        try simp only [Act.put, qb1, qb2, qb3]
        refine qwt (i := 9) (v := .string (st y')) HO HQ (by simp only [qa1, qa2, qa3]; rfl) (by kernel_rfl) (by kernel_rfl) (by kernel_rfl) (fun _ _ _ h => h) (Or.inl ⟨by first | rfl | (rw [HO.out]; kernel_rfl), ?_⟩) hS ?_
        · intro w' hSw
          obtain ⟨q10, q20, p10, p11, p20, p21⟩ := SL.out _ hSw
          go_simp
        try simp only [Act.put, qb1, qb2, qb3]
        refine qwt (i := 10) (v := .bool true) HO HQ (by simp only [qa1, qa2, qa3]; rfl) (by kernel_rfl) (by kernel_rfl) (by kernel_rfl) (fun _ _ _ h => h) (Or.inl ⟨by first | rfl | (rw [HO.out]; kernel_rfl), ?_⟩) hS ?_
        · intro w' hSw
          go_simp
          all_goals exact hne
        try simp only [Act.put, qb1, qb2, qb3]
        refine wpAnyH_done (by rw [HO.out]; kernel_rfl) ?_ _
        rw [HQ.out]
        refine NoPanic.normal ?_
        go_wp2
        go_ret
        exact ⟨ret_bool HN.out.symm, bt BW0.out hS⟩
    · have hiz : ¬ (i0Q : Int) < x.attrs.length := by omega
      have E0 : Hid (x.attrs = y.attrs) := eq_go s0 Hattrs.out hall0 (by omega)
      clear hall0
      have HN : Hid (A = true) := by
        show _ = _
        rw [HA.out]
        exact decide_eq_true (extClassD (Hnm.out) (E0.out))
      go_wp2
      go_ret
      exact ⟨ret_bool HN.out.symm, BW0.out⟩
end Go.Proofs.YtemacdimdpnkeaaGreatDoor
namespace Go.Proofs.YtemacdimdpnkeaaGreatDoor
set_option maxRecDepth 20000
open Go.RowKit
set_option linter.unusedVariables false
set_option linter.unusedSimpArgs false
set_option maxHeartbeats 8000000 in
theorem sameAttr_any {P1 P2 : Nat → Nat → Prop} (cs1 cs2 : List Value) (x y : AttrD) (w : World) (h1 : ReA P1 w cs1 x) (h2 : ReA P2 w cs2 y) :
    Calls Tryz.prog 67 #[.agg cs1.toArray, .agg cs2.toArray] w fun e w' => e = .returned (.bool (decide (x = y))) ∧ Below w.heap.size w w' := by
  obtain ⟨v10, v11, rfl, r10, r11⟩ := h1
  obtain ⟨v20, v21, rfl, r20, r21⟩ := h2
  obtain ⟨a10, c10, rfl⟩ := r10.shape
  obtain ⟨-, l10, m10, z10⟩ := r10.row
  simp only [List.length_map] at l10 z10 ⊢
  obtain ⟨a11, c11, rfl⟩ := r11.shape
  obtain ⟨-, l11, m11, z11⟩ := r11.row
  simp only [List.length_map] at l11 z11 ⊢
  obtain ⟨a20, c20, rfl⟩ := r20.shape
  obtain ⟨-, l20, m20, z20⟩ := r20.row
  simp only [List.length_map] at l20 z20 ⊢
  obtain ⟨a21, c21, rfl⟩ := r21.shape
  obtain ⟨-, l21, m21, z21⟩ := r21.row
  simp only [List.length_map] at l21 z21 ⊢
  have R10 : Hid (∀ i, i < x.ones.length → ∃ b off, a10 = some ⟨b, off, none⟩ ∧ b < w.heap.size ∧ ∀ j, j < 3 → w.cell? ⟨b, off + (i * 3 + j), none⟩ = ((x.ones.map clV).getD i [])[j]?) := z10
  have R11 : Hid (∀ i, i < x.tests.length → ∃ b off, a11 = some ⟨b, off, none⟩ ∧ b < w.heap.size ∧ ∀ j, j < 5 → w.cell? ⟨b, off + (i * 5 + j), none⟩ = ((x.tests.map clT).getD i [])[j]?) := z11
  have R20 : Hid (∀ i, i < y.ones.length → ∃ b off, a20 = some ⟨b, off, none⟩ ∧ b < w.heap.size ∧ ∀ j, j < 3 → w.cell? ⟨b, off + (i * 3 + j), none⟩ = ((y.ones.map clV).getD i [])[j]?) := z20
  have R21 : Hid (∀ i, i < y.tests.length → ∃ b off, a21 = some ⟨b, off, none⟩ ∧ b < w.heap.size ∧ ∀ j, j < 5 → w.cell? ⟨b, off + (i * 5 + j), none⟩ = ((y.tests.map clT).getD i [])[j]?) := z21
  obtain ⟨A, hA⟩ : ∃ A, A = decide (x = y) := ⟨_, rfl⟩
  rw [← hA]
  have HA : Hid (A = decide (x = y)) := hA
  clear hA z10 r10 z11 r11 z20 r20 z21 r21
  by_cases ha : ¬ (x.a = y.a)
  · have hza : ((st x.a).toList == (st y.a).toList) = false := by rw [beq_eq_false_iff_ne]; exact fun e => ha (st_eq e)
    have HN : Hid (A = false) := by show _ = _; rw [HA.out]; exact decide_eq_false (fun e => ha (by rw [e]))
    clear HA ha
    go_enter Tryz.func67, Tryz.ntmps67
    go_wp2
    go_ret
    exact ⟨ret_bool HN.out.symm, bxn2t _ _ _⟩
  replace ha := Classical.not_not.1 ha
  rw [← ha]
  have Ha : Hid (x.a = y.a) := ha
  clear ha
  by_cases hones : ¬ (x.ones.length = y.ones.length)
  · have hzones : ((x.ones.length : Int) == y.ones.length) = false := by rw [beq_eq_false_iff_ne]; omega
    have HN : Hid (A = false) := by show _ = _; rw [HA.out]; exact decide_eq_false (fun e => hones (by rw [e]))
    clear HA hones
    go_enter Tryz.func67, Tryz.ntmps67
    go_wp2
    go_ret
    exact ⟨ret_bool HN.out.symm, bxn2t _ _ _⟩
  replace hones := Classical.not_not.1 hones
  rw [← hones] at l20 ⊢
  have Hones : Hid (x.ones.length = y.ones.length) := hones
  clear hones
  by_cases htests : ¬ (x.tests.length = y.tests.length)
  · have hztests : ((x.tests.length : Int) == y.tests.length) = false := by rw [beq_eq_false_iff_ne]; omega
    have HN : Hid (A = false) := by show _ = _; rw [HA.out]; exact decide_eq_false (fun e => htests (by rw [e]))
    clear HA htests
    go_enter Tryz.func67, Tryz.ntmps67
    go_wp2
    go_ret
    exact ⟨ret_bool HN.out.symm, bxn2t _ _ _⟩
  replace htests := Classical.not_not.1 htests
  rw [← htests] at l21 ⊢
  have Htests : Hid (x.tests.length = y.tests.length) := htests
  clear htests
  have hnn0 : (x.ones.length : Int) ≤ 9223372036854775807 := by omega
  have hnn1 : (x.tests.length : Int) ≤ 9223372036854775807 := by omega
  go_enter Tryz.func67, Tryz.ntmps67
  go_wp2
  go_loopw [5] (fun v wr => ∃ i : Nat, v = .int .i64 i ∧ i ≤ x.ones.length ∧ (∀ j, j < i → x.ones.getD j v0 = y.ones.getD j v0) ∧ Below ((w.alloc (.cells #[.string (st x.a), .slice a10 x.ones.length c10, .slice a11 x.tests.length c11] 46)).alloc (.cells #[.string (st x.a), .slice a20 x.ones.length c20, .slice a21 x.tests.length c21] 46)).heap.size ((w.alloc (.cells #[.string (st x.a), .slice a10 x.ones.length c10, .slice a11 x.tests.length c11] 46)).alloc (.cells #[.string (st x.a), .slice a20 x.ones.length c20, .slice a21 x.tests.length c21] 46)) wr) (fun v _ => (x.ones.length - intOf v).toNat)
  case atStart => exact ⟨0, rfl, Nat.zero_le _, fun j hj => absurd hj (Nat.not_lt_zero _), Below.refl _ _⟩
  case round =>
    obtain ⟨i0Q, rfl, hi0, hall0, hbr0⟩ := hrel
    obtain ⟨wq0, hwq⟩ : ∃ wq, wq = wr := ⟨_, rfl⟩
    subst hwq
    have BW0 : Hid (Below w.heap.size w wq0) := bt (bxn2t _ _ _) hbr0
    have p10 : wq0.cell? ⟨w.heap.size, 0, none⟩ = some (.string (st x.a)) := by rw [hbr0.cell (p := ⟨w.heap.size, 0, none⟩) (by simp <;> omega)]; go_simp
    have p11 : wq0.cell? ⟨w.heap.size, 1, none⟩ = some (.slice a10 x.ones.length c10) := by rw [hbr0.cell (p := ⟨w.heap.size, 1, none⟩) (by simp <;> omega)]; go_simp
    have p12 : wq0.cell? ⟨w.heap.size, 2, none⟩ = some (.slice a11 x.tests.length c11) := by rw [hbr0.cell (p := ⟨w.heap.size, 2, none⟩) (by simp <;> omega)]; go_simp
    have p20 : wq0.cell? ⟨w.heap.size + 1, 0, none⟩ = some (.string (st x.a)) := by rw [hbr0.cell (p := ⟨w.heap.size + 1, 0, none⟩) (by simp <;> omega)]; go_simp
    have p21 : wq0.cell? ⟨w.heap.size + 1, 1, none⟩ = some (.slice a20 x.ones.length c20) := by rw [hbr0.cell (p := ⟨w.heap.size + 1, 1, none⟩) (by simp <;> omega)]; go_simp
    have p22 : wq0.cell? ⟨w.heap.size + 1, 2, none⟩ = some (.slice a21 x.tests.length c21) := by rw [hbr0.cell (p := ⟨w.heap.size + 1, 2, none⟩) (by simp <;> omega)]; go_simp
    by_cases hlt0 : i0Q < x.ones.length
    · have hiz : (i0Q : Int) < x.ones.length := by omega
      obtain ⟨b1, o1, rfl, hb1, q1⟩ := R10.out i0Q hlt0
      obtain ⟨b2, o2, rfl, hb2, q2⟩ := R20.out i0Q (by have := Hones.out; omega)
      rw [getD_map clV x.ones i0Q v0 hlt0] at q1
      rw [getD_map clV y.ones i0Q v0 (by have := Hones.out; omega)] at q2
      by_cases heq : x.ones.getD i0Q v0 = y.ones.getD i0Q v0
      · have HALL : Hid (∀ j, j < i0Q + 1 → x.ones.getD j v0 = y.ones.getD j v0) := fun j hj => by
          rcases Nat.lt_or_ge j i0Q with h | h
          · exact hall0 j h
          · obtain rfl : j = i0Q := by omega
            exact heq
        generalize x.ones.getD i0Q v0 = x' at *
        generalize y.ones.getD i0Q v0 = y' at *
        subst heq
        have SL : Hid (∀ W, Below wq0.heap.size wq0 W → (W.cell? ⟨b1, o1 + i0Q * 3, none⟩ = some (.int .u8 x'.k) ∧ W.cell? ⟨b1, o1 + i0Q * 3 + 1, none⟩ = some (.int .i64 x'.n) ∧ W.cell? ⟨b1, o1 + i0Q * 3 + 2, none⟩ = some (.string (st x'.s))) ∧ (W.cell? ⟨b2, o2 + i0Q * 3, none⟩ = some (.int .u8 x'.k) ∧ W.cell? ⟨b2, o2 + i0Q * 3 + 1, none⟩ = some (.int .i64 x'.n) ∧ W.cell? ⟨b2, o2 + i0Q * 3 + 2, none⟩ = some (.string (st x'.s))) ∧ W.cell? ⟨w.heap.size, 0, none⟩ = some (.string (st x.a)) ∧ W.cell? ⟨w.heap.size, 1, none⟩ = some (.slice (some ⟨b1, o1, none⟩) x.ones.length c10) ∧ W.cell? ⟨w.heap.size, 2, none⟩ = some (.slice a11 x.tests.length c11) ∧ W.cell? ⟨w.heap.size + 1, 0, none⟩ = some (.string (st x.a)) ∧ W.cell? ⟨w.heap.size + 1, 1, none⟩ = some (.slice (some ⟨b2, o2, none⟩) x.ones.length c20) ∧ W.cell? ⟨w.heap.size + 1, 2, none⟩ = some (.slice a21 x.tests.length c21)) := fun W hW => ⟨⟨((bt BW0.out hW).cell (p := ⟨b1, o1 + i0Q * 3, none⟩) hb1).trans (q1 0 (by decide)), ((bt BW0.out hW).cell (p := ⟨b1, o1 + i0Q * 3 + 1, none⟩) hb1).trans (q1 1 (by decide)), ((bt BW0.out hW).cell (p := ⟨b1, o1 + i0Q * 3 + 2, none⟩) hb1).trans (q1 2 (by decide))⟩, ⟨((bt BW0.out hW).cell (p := ⟨b2, o2 + i0Q * 3, none⟩) hb2).trans (q2 0 (by decide)), ((bt BW0.out hW).cell (p := ⟨b2, o2 + i0Q * 3 + 1, none⟩) hb2).trans (q2 1 (by decide)), ((bt BW0.out hW).cell (p := ⟨b2, o2 + i0Q * 3 + 2, none⟩) hb2).trans (q2 2 (by decide))⟩, (hW.cell (p := ⟨w.heap.size, 0, none⟩) (by have := hbr0.size; simp at this; show w.heap.size < _; omega)).trans p10, (hW.cell (p := ⟨w.heap.size, 1, none⟩) (by have := hbr0.size; simp at this; show w.heap.size < _; omega)).trans p11, (hW.cell (p := ⟨w.heap.size, 2, none⟩) (by have := hbr0.size; simp at this; show w.heap.size < _; omega)).trans p12, (hW.cell (p := ⟨w.heap.size + 1, 0, none⟩) (by have := hbr0.size; simp at this; show w.heap.size + 1 < _; omega)).trans p20, (hW.cell (p := ⟨w.heap.size + 1, 1, none⟩) (by have := hbr0.size; simp at this; show w.heap.size + 1 < _; omega)).trans p21, (hW.cell (p := ⟨w.heap.size + 1, 2, none⟩) (by have := hbr0.size; simp at this; show w.heap.size + 1 < _; omega)).trans p22⟩
        clear q1 q2 hall0
        go_wp2_with fail
        refine wp_region_noPanic ?_
        refine name_ops ?_
        intro O QQ HO HQ
        refine wp_region_held_drew (S := fun W => Below wq0.heap.size wq0 W) (by kernel_rfl) (Below.refl _ _).drew (fun hS => ?_)
        rw [show O.size = 11 by rw [HO.out]; rfl]
        refine qwt (i := 0) (v := .pointer (some ⟨w.heap.size, 1, none⟩)) HO HQ (by simp only [qa1, qa2, qa3]; rfl) (by kernel_rfl) (by kernel_rfl) (by kernel_rfl) (fun _ _ _ h => h) (Or.inl ⟨by first | rfl | (rw [HO.out]; kernel_rfl), ?_⟩) hS ?_
        · intro w' hSw
          go_simp
        try simp only [Act.put, qb1, qb2, qb3]
        refine qwt (i := 1) (v := .slice (some ⟨b1, o1, none⟩) x.ones.length c10) HO HQ (by simp only [qa1, qa2, qa3]; rfl) (by kernel_rfl) (by kernel_rfl) (by kernel_rfl) (fun _ _ _ h => h) (Or.inl ⟨by first | rfl | (rw [HO.out]; kernel_rfl), ?_⟩) hS ?_
        · intro w' hSw
          obtain ⟨⟨q10, q11, q12⟩, ⟨q20, q21, q22⟩, p10, p11, p12, p20, p21, p22⟩ := SL.out _ hSw
          go_simp
        try simp only [Act.put, qb1, qb2, qb3]
        refine qwt (i := 2) (v := .int .i64 i0Q) HO HQ (by simp only [qa1, qa2, qa3]; rfl) (by kernel_rfl) (by kernel_rfl) (by kernel_rfl) (fun _ _ _ h => h) (Or.inl ⟨by first | rfl | (rw [HO.out]; kernel_rfl), ?_⟩) hS ?_
        · intro w' hSw
          go_simp
        try simp only [Act.put, qb1, qb2, qb3]
        refine qwt (i := 3) (v := .pointer (some ⟨b1, o1 + i0Q * 3, none⟩)) HO HQ (by simp only [qa1, qa2, qa3]; rfl) (by kernel_rfl) (by kernel_rfl) (by kernel_rfl) (fun _ _ _ h => h) (Or.inl ⟨by first | rfl | (rw [HO.out]; kernel_rfl), ?_⟩) hS ?_
        · intro w' hSw
          go_simp
        try simp only [Act.put, qb1, qb2, qb3]
        refine qwt (i := 4) (v := .agg #[.int .u8 x'.k, .int .i64 x'.n, .string (st x'.s)]) HO HQ (by simp only [qa1, qa2, qa3]; rfl) (by kernel_rfl) (by kernel_rfl) (by kernel_rfl) (fun _ _ _ h => h) (Or.inl ⟨by first | rfl | (rw [HO.out]; kernel_rfl), ?_⟩) hS ?_
        · intro w' hSw
          obtain ⟨⟨q10, q11, q12⟩, ⟨q20, q21, q22⟩, p10, p11, p12, p20, p21, p22⟩ := SL.out _ hSw
          go_simp
        try simp only [Act.put, qb1, qb2, qb3]
        refine qwt (i := 5) (v := .pointer (some ⟨w.heap.size + 1, 1, none⟩)) HO HQ (by simp only [qa1, qa2, qa3]; rfl) (by kernel_rfl) (by kernel_rfl) (by kernel_rfl) (fun _ _ _ h => h) (Or.inl ⟨by first | rfl | (rw [HO.out]; kernel_rfl), ?_⟩) hS ?_
        · intro w' hSw
          go_simp
        try simp only [Act.put, qb1, qb2, qb3]
        refine qwt (i := 6) (v := .slice (some ⟨b2, o2, none⟩) x.ones.length c20) HO HQ (by simp only [qa1, qa2, qa3]; rfl) (by kernel_rfl) (by kernel_rfl) (by kernel_rfl) (fun _ _ _ h => h) (Or.inl ⟨by first | rfl | (rw [HO.out]; kernel_rfl), ?_⟩) hS ?_
        · intro w' hSw
          obtain ⟨⟨q10, q11, q12⟩, ⟨q20, q21, q22⟩, p10, p11, p12, p20, p21, p22⟩ := SL.out _ hSw
          go_simp
        try simp only [Act.put, qb1, qb2, qb3]
        refine qwt (i := 7) (v := .int .i64 i0Q) HO HQ (by simp only [qa1, qa2, qa3]; rfl) (by kernel_rfl) (by kernel_rfl) (by kernel_rfl) (fun _ _ _ h => h) (Or.inl ⟨by first | rfl | (rw [HO.out]; kernel_rfl), ?_⟩) hS ?_
        · intro w' hSw
          go_simp
        try simp only [Act.put, qb1, qb2, qb3]
        refine qwt (i := 8) (v := .pointer (some ⟨b2, o2 + i0Q * 3, none⟩)) HO HQ (by simp only [qa1, qa2, qa3]; rfl) (by kernel_rfl) (by kernel_rfl) (by kernel_rfl) (fun _ _ _ h => h) (Or.inl ⟨by first | rfl | (rw [HO.out]; kernel_rfl), ?_⟩) hS ?_
        · intro w' hSw
          go_simp
        try simp only [Act.put, qb1, qb2, qb3]
        refine qwt (i := 9) (v := .agg #[.int .u8 x'.k, .int .i64 x'.n, .string (st x'.s)]) HO HQ (by simp only [qa1, qa2, qa3]; rfl) (by kernel_rfl) (by kernel_rfl) (by kernel_rfl) (fun _ _ _ h => h) (Or.inl ⟨by first | rfl | (rw [HO.out]; kernel_rfl), ?_⟩) hS ?_
        · intro w' hSw
          obtain ⟨⟨q10, q11, q12⟩, ⟨q20, q21, q22⟩, p10, p11, p12, p20, p21, p22⟩ := SL.out _ hSw
          go_simp
        try simp only [Act.put, qb1, qb2, qb3]
        refine qwt (i := 10) (v := .bool false) HO HQ (by simp only [qa1, qa2, qa3]; rfl) (by kernel_rfl) (by kernel_rfl) (by kernel_rfl) (fun _ _ _ h => h) (Or.inl ⟨by first | rfl | (rw [HO.out]; kernel_rfl), ?_⟩) hS ?_
        · intro w' hSw
          go_simp
        try simp only [Act.put, qb1, qb2, qb3]
        refine wpAnyH_done (by rw [HO.out]; kernel_rfl) ?_ _
        rw [HQ.out]
        refine NoPanic.normal ?_
        go_wp2
        go_roundw
        case rel => exact ⟨i0Q + 1, by simp, by omega, HALL.out, bt hbr0 hS⟩
        case measure => simp [intOf]; omega
      · have HN : Hid (A = false) := by show _ = _; rw [HA.out]; exact decide_eq_false (fun e => heq (by rw [e]))
        have hne := neV heq
        generalize x.ones.getD i0Q v0 = x' at *
        generalize y.ones.getD i0Q v0 = y' at *
        have SL : Hid (∀ W, Below wq0.heap.size wq0 W → (W.cell? ⟨b1, o1 + i0Q * 3, none⟩ = some (.int .u8 x'.k) ∧ W.cell? ⟨b1, o1 + i0Q * 3 + 1, none⟩ = some (.int .i64 x'.n) ∧ W.cell? ⟨b1, o1 + i0Q * 3 + 2, none⟩ = some (.string (st x'.s))) ∧ (W.cell? ⟨b2, o2 + i0Q * 3, none⟩ = some (.int .u8 y'.k) ∧ W.cell? ⟨b2, o2 + i0Q * 3 + 1, none⟩ = some (.int .i64 y'.n) ∧ W.cell? ⟨b2, o2 + i0Q * 3 + 2, none⟩ = some (.string (st y'.s))) ∧ W.cell? ⟨w.heap.size, 0, none⟩ = some (.string (st x.a)) ∧ W.cell? ⟨w.heap.size, 1, none⟩ = some (.slice (some ⟨b1, o1, none⟩) x.ones.length c10) ∧ W.cell? ⟨w.heap.size, 2, none⟩ = some (.slice a11 x.tests.length c11) ∧ W.cell? ⟨w.heap.size + 1, 0, none⟩ = some (.string (st x.a)) ∧ W.cell? ⟨w.heap.size + 1, 1, none⟩ = some (.slice (some ⟨b2, o2, none⟩) x.ones.length c20) ∧ W.cell? ⟨w.heap.size + 1, 2, none⟩ = some (.slice a21 x.tests.length c21)) := fun W hW => ⟨⟨((bt BW0.out hW).cell (p := ⟨b1, o1 + i0Q * 3, none⟩) hb1).trans (q1 0 (by decide)), ((bt BW0.out hW).cell (p := ⟨b1, o1 + i0Q * 3 + 1, none⟩) hb1).trans (q1 1 (by decide)), ((bt BW0.out hW).cell (p := ⟨b1, o1 + i0Q * 3 + 2, none⟩) hb1).trans (q1 2 (by decide))⟩, ⟨((bt BW0.out hW).cell (p := ⟨b2, o2 + i0Q * 3, none⟩) hb2).trans (q2 0 (by decide)), ((bt BW0.out hW).cell (p := ⟨b2, o2 + i0Q * 3 + 1, none⟩) hb2).trans (q2 1 (by decide)), ((bt BW0.out hW).cell (p := ⟨b2, o2 + i0Q * 3 + 2, none⟩) hb2).trans (q2 2 (by decide))⟩, (hW.cell (p := ⟨w.heap.size, 0, none⟩) (by have := hbr0.size; simp at this; show w.heap.size < _; omega)).trans p10, (hW.cell (p := ⟨w.heap.size, 1, none⟩) (by have := hbr0.size; simp at this; show w.heap.size < _; omega)).trans p11, (hW.cell (p := ⟨w.heap.size, 2, none⟩) (by have := hbr0.size; simp at this; show w.heap.size < _; omega)).trans p12, (hW.cell (p := ⟨w.heap.size + 1, 0, none⟩) (by have := hbr0.size; simp at this; show w.heap.size + 1 < _; omega)).trans p20, (hW.cell (p := ⟨w.heap.size + 1, 1, none⟩) (by have := hbr0.size; simp at this; show w.heap.size + 1 < _; omega)).trans p21, (hW.cell (p := ⟨w.heap.size + 1, 2, none⟩) (by have := hbr0.size; simp at this; show w.heap.size + 1 < _; omega)).trans p22⟩
        clear q1 q2 hall0 heq
        go_wp2_with fail
        refine wp_region_noPanic ?_
        refine name_ops ?_
        intro O QQ HO HQ
        refine wp_region_held_drew (S := fun W => Below wq0.heap.size wq0 W) (by kernel_rfl) (Below.refl _ _).drew (fun hS => ?_)
        rw [show O.size = 11 by rw [HO.out]; rfl]
        refine qwt (i := 0) (v := .pointer (some ⟨w.heap.size, 1, none⟩)) HO HQ (by simp only [qa1, qa2, qa3]; rfl) (by kernel_rfl) (by kernel_rfl) (by kernel_rfl) (fun _ _ _ h => h) (Or.inl ⟨by first | rfl | (rw [HO.out]; kernel_rfl), ?_⟩) hS ?_
        · intro w' hSw
          go_simp
        try simp only [Act.put, qb1, qb2, qb3]
        refine qwt (i := 1) (v := .slice (some ⟨b1, o1, none⟩) x.ones.length c10) HO HQ (by simp only [qa1, qa2, qa3]; rfl) (by kernel_rfl) (by kernel_rfl) (by kernel_rfl) (fun _ _ _ h => h) (Or.inl ⟨by first | rfl | (rw [HO.out]; kernel_rfl), ?_⟩) hS ?_
        · intro w' hSw
          obtain ⟨⟨q10, q11, q12⟩, ⟨q20, q21, q22⟩, p10, p11, p12, p20, p21, p22⟩ := SL.out _ hSw
          go_simp
        try simp only [Act.put, qb1, qb2, qb3]
        refine qwt (i := 2) (v := .int .i64 i0Q) HO HQ (by simp only [qa1, qa2, qa3]; rfl) (by kernel_rfl) (by kernel_rfl) (by kernel_rfl) (fun _ _ _ h => h) (Or.inl ⟨by first | rfl | (rw [HO.out]; kernel_rfl), ?_⟩) hS ?_
        · intro w' hSw
          go_simp
        try simp only [Act.put, qb1, qb2, qb3]
        refine qwt (i := 3) (v := .pointer (some ⟨b1, o1 + i0Q * 3, none⟩)) HO HQ (by simp only [qa1, qa2, qa3]; rfl) (by kernel_rfl) (by kernel_rfl) (by kernel_rfl) (fun _ _ _ h => h) (Or.inl ⟨by first | rfl | (rw [HO.out]; kernel_rfl), ?_⟩) hS ?_
        · intro w' hSw
          go_simp
        try simp only [Act.put, qb1, qb2, qb3]
        refine qwt (i := 4) (v := .agg #[.int .u8 x'.k, .int .i64 x'.n, .string (st x'.s)]) HO HQ (by simp only [qa1, qa2, qa3]; rfl) (by kernel_rfl) (by kernel_rfl) (by kernel_rfl) (fun _ _ _ h => h) (Or.inl ⟨by first | rfl | (rw [HO.out]; kernel_rfl), ?_⟩) hS ?_
        · intro w' hSw
          obtain ⟨⟨q10, q11, q12⟩, ⟨q20, q21, q22⟩, p10, p11, p12, p20, p21, p22⟩ := SL.out _ hSw
          go_simp
        try simp only [Act.put, qb1, qb2, qb3]
        refine qwt (i := 5) (v := .pointer (some ⟨w.heap.size + 1, 1, none⟩)) HO HQ (by simp only [qa1, qa2, qa3]; rfl) (by kernel_rfl) (by kernel_rfl) (by kernel_rfl) (fun _ _ _ h => h) (Or.inl ⟨by first | rfl | (rw [HO.out]; kernel_rfl), ?_⟩) hS ?_
        · intro w' hSw
          go_simp
        try simp only [Act.put, qb1, qb2, qb3]
        refine qwt (i := 6) (v := .slice (some ⟨b2, o2, none⟩) x.ones.length c20) HO HQ (by simp only [qa1, qa2, qa3]; rfl) (by kernel_rfl) (by kernel_rfl) (by kernel_rfl) (fun _ _ _ h => h) (Or.inl ⟨by first | rfl | (rw [HO.out]; kernel_rfl), ?_⟩) hS ?_
        · intro w' hSw
          obtain ⟨⟨q10, q11, q12⟩, ⟨q20, q21, q22⟩, p10, p11, p12, p20, p21, p22⟩ := SL.out _ hSw
          go_simp
        try simp only [Act.put, qb1, qb2, qb3]
        refine qwt (i := 7) (v := .int .i64 i0Q) HO HQ (by simp only [qa1, qa2, qa3]; rfl) (by kernel_rfl) (by kernel_rfl) (by kernel_rfl) (fun _ _ _ h => h) (Or.inl ⟨by first | rfl | (rw [HO.out]; kernel_rfl), ?_⟩) hS ?_
        · intro w' hSw
          go_simp
        try simp only [Act.put, qb1, qb2, qb3]
        refine qwt (i := 8) (v := .pointer (some ⟨b2, o2 + i0Q * 3, none⟩)) HO HQ (by simp only [qa1, qa2, qa3]; rfl) (by kernel_rfl) (by kernel_rfl) (by kernel_rfl) (fun _ _ _ h => h) (Or.inl ⟨by first | rfl | (rw [HO.out]; kernel_rfl), ?_⟩) hS ?_
        · intro w' hSw
          go_simp
        try simp only [Act.put, qb1, qb2, qb3]
        refine qwt (i := 9) (v := .agg #[.int .u8 y'.k, .int .i64 y'.n, .string (st y'.s)]) HO HQ (by simp only [qa1, qa2, qa3]; rfl) (by kernel_rfl) (by kernel_rfl) (by kernel_rfl) (fun _ _ _ h => h) (Or.inl ⟨by first | rfl | (rw [HO.out]; kernel_rfl), ?_⟩) hS ?_
        · intro w' hSw
          obtain ⟨⟨q10, q11, q12⟩, ⟨q20, q21, q22⟩, p10, p11, p12, p20, p21, p22⟩ := SL.out _ hSw
          go_simp
        try simp only [Act.put, qb1, qb2, qb3]
        refine qwt (i := 10) (v := .bool true) HO HQ (by simp only [qa1, qa2, qa3]; rfl) (by kernel_rfl) (by kernel_rfl) (by kernel_rfl) (fun _ _ _ h => h) (Or.inl ⟨by first | rfl | (rw [HO.out]; kernel_rfl), ?_⟩) hS ?_
        · intro w' hSw
          go_simp
          all_goals exact hne
        try simp only [Act.put, qb1, qb2, qb3]
        refine wpAnyH_done (by rw [HO.out]; kernel_rfl) ?_ _
        rw [HQ.out]
        refine NoPanic.normal ?_
        go_wp2
        go_ret
        exact ⟨ret_bool HN.out.symm, bt BW0.out hS⟩
    · have hiz : ¬ (i0Q : Int) < x.ones.length := by omega
      have E0 : Hid (x.ones = y.ones) := eq_go v0 Hones.out hall0 (by omega)
      clear hall0
      go_wp2_with fail
      go_loopw [6] (fun v wr => ∃ i : Nat, v = .int .i64 i ∧ i ≤ x.tests.length ∧ (∀ j, j < i → x.tests.getD j t0 = y.tests.getD j t0) ∧ Below ((w.alloc (.cells #[.string (st x.a), .slice a10 x.ones.length c10, .slice a11 x.tests.length c11] 46)).alloc (.cells #[.string (st x.a), .slice a20 x.ones.length c20, .slice a21 x.tests.length c21] 46)).heap.size ((w.alloc (.cells #[.string (st x.a), .slice a10 x.ones.length c10, .slice a11 x.tests.length c11] 46)).alloc (.cells #[.string (st x.a), .slice a20 x.ones.length c20, .slice a21 x.tests.length c21] 46)) wr) (fun v _ => (x.tests.length - intOf v).toNat)
      case atStart => exact ⟨0, rfl, Nat.zero_le _, fun j hj => absurd hj (Nat.not_lt_zero _), hbr0⟩
      case round =>
        obtain ⟨i1, rfl, hi1, hall1, hbr1⟩ := hrel
        obtain ⟨wq1, hwq⟩ : ∃ wq, wq = wr := ⟨_, rfl⟩
        subst hwq
        have BW1 : Hid (Below w.heap.size w wq1) := bt (bxn2t _ _ _) hbr1
        have p10 : wq1.cell? ⟨w.heap.size, 0, none⟩ = some (.string (st x.a)) := by rw [hbr1.cell (p := ⟨w.heap.size, 0, none⟩) (by simp <;> omega)]; go_simp
        have p11 : wq1.cell? ⟨w.heap.size, 1, none⟩ = some (.slice a10 x.ones.length c10) := by rw [hbr1.cell (p := ⟨w.heap.size, 1, none⟩) (by simp <;> omega)]; go_simp
        have p12 : wq1.cell? ⟨w.heap.size, 2, none⟩ = some (.slice a11 x.tests.length c11) := by rw [hbr1.cell (p := ⟨w.heap.size, 2, none⟩) (by simp <;> omega)]; go_simp
        have p20 : wq1.cell? ⟨w.heap.size + 1, 0, none⟩ = some (.string (st x.a)) := by rw [hbr1.cell (p := ⟨w.heap.size + 1, 0, none⟩) (by simp <;> omega)]; go_simp
        have p21 : wq1.cell? ⟨w.heap.size + 1, 1, none⟩ = some (.slice a20 x.ones.length c20) := by rw [hbr1.cell (p := ⟨w.heap.size + 1, 1, none⟩) (by simp <;> omega)]; go_simp
        have p22 : wq1.cell? ⟨w.heap.size + 1, 2, none⟩ = some (.slice a21 x.tests.length c21) := by rw [hbr1.cell (p := ⟨w.heap.size + 1, 2, none⟩) (by simp <;> omega)]; go_simp
        by_cases hlt1 : i1 < x.tests.length
        · have hiz : (i1 : Int) < x.tests.length := by omega
          obtain ⟨b1, o1, rfl, hb1, q1⟩ := R11.out i1 hlt1
          obtain ⟨b2, o2, rfl, hb2, q2⟩ := R21.out i1 (by have := Htests.out; omega)
          rw [getD_map clT x.tests i1 t0 hlt1] at q1
          rw [getD_map clT y.tests i1 t0 (by have := Htests.out; omega)] at q2
          by_cases heq : x.tests.getD i1 t0 = y.tests.getD i1 t0
          · have HALL : Hid (∀ j, j < i1 + 1 → x.tests.getD j t0 = y.tests.getD j t0) := fun j hj => by
              rcases Nat.lt_or_ge j i1 with h | h
              · exact hall1 j h
              · obtain rfl : j = i1 := by omega
                exact heq
            generalize x.tests.getD i1 t0 = x' at *
            generalize y.tests.getD i1 t0 = y' at *
            subst heq
            have SL : Hid (∀ W, Below wq1.heap.size wq1 W → (W.cell? ⟨b1, o1 + i1 * 5, none⟩ = some (.int .u8 x'.p) ∧ W.cell? ⟨b1, o1 + i1 * 5 + 1, none⟩ = some (.string (st x'.v)) ∧ W.cell? ⟨b1, o1 + i1 * 5 + 2, none⟩ = some (.int .u8 x'.x.k) ∧ W.cell? ⟨b1, o1 + i1 * 5 + 3, none⟩ = some (.int .i64 x'.x.n) ∧ W.cell? ⟨b1, o1 + i1 * 5 + 4, none⟩ = some (.string (st x'.x.s))) ∧ (W.cell? ⟨b2, o2 + i1 * 5, none⟩ = some (.int .u8 x'.p) ∧ W.cell? ⟨b2, o2 + i1 * 5 + 1, none⟩ = some (.string (st x'.v)) ∧ W.cell? ⟨b2, o2 + i1 * 5 + 2, none⟩ = some (.int .u8 x'.x.k) ∧ W.cell? ⟨b2, o2 + i1 * 5 + 3, none⟩ = some (.int .i64 x'.x.n) ∧ W.cell? ⟨b2, o2 + i1 * 5 + 4, none⟩ = some (.string (st x'.x.s))) ∧ W.cell? ⟨w.heap.size, 0, none⟩ = some (.string (st x.a)) ∧ W.cell? ⟨w.heap.size, 1, none⟩ = some (.slice a10 x.ones.length c10) ∧ W.cell? ⟨w.heap.size, 2, none⟩ = some (.slice (some ⟨b1, o1, none⟩) x.tests.length c11) ∧ W.cell? ⟨w.heap.size + 1, 0, none⟩ = some (.string (st x.a)) ∧ W.cell? ⟨w.heap.size + 1, 1, none⟩ = some (.slice a20 x.ones.length c20) ∧ W.cell? ⟨w.heap.size + 1, 2, none⟩ = some (.slice (some ⟨b2, o2, none⟩) x.tests.length c21)) := fun W hW => ⟨⟨((bt BW1.out hW).cell (p := ⟨b1, o1 + i1 * 5, none⟩) hb1).trans (q1 0 (by decide)), ((bt BW1.out hW).cell (p := ⟨b1, o1 + i1 * 5 + 1, none⟩) hb1).trans (q1 1 (by decide)), ((bt BW1.out hW).cell (p := ⟨b1, o1 + i1 * 5 + 2, none⟩) hb1).trans (q1 2 (by decide)), ((bt BW1.out hW).cell (p := ⟨b1, o1 + i1 * 5 + 3, none⟩) hb1).trans (q1 3 (by decide)), ((bt BW1.out hW).cell (p := ⟨b1, o1 + i1 * 5 + 4, none⟩) hb1).trans (q1 4 (by decide))⟩, ⟨((bt BW1.out hW).cell (p := ⟨b2, o2 + i1 * 5, none⟩) hb2).trans (q2 0 (by decide)), ((bt BW1.out hW).cell (p := ⟨b2, o2 + i1 * 5 + 1, none⟩) hb2).trans (q2 1 (by decide)), ((bt BW1.out hW).cell (p := ⟨b2, o2 + i1 * 5 + 2, none⟩) hb2).trans (q2 2 (by decide)), ((bt BW1.out hW).cell (p := ⟨b2, o2 + i1 * 5 + 3, none⟩) hb2).trans (q2 3 (by decide)), ((bt BW1.out hW).cell (p := ⟨b2, o2 + i1 * 5 + 4, none⟩) hb2).trans (q2 4 (by decide))⟩, (hW.cell (p := ⟨w.heap.size, 0, none⟩) (by have := hbr1.size; simp at this; show w.heap.size < _; omega)).trans p10, (hW.cell (p := ⟨w.heap.size, 1, none⟩) (by have := hbr1.size; simp at this; show w.heap.size < _; omega)).trans p11, (hW.cell (p := ⟨w.heap.size, 2, none⟩) (by have := hbr1.size; simp at this; show w.heap.size < _; omega)).trans p12, (hW.cell (p := ⟨w.heap.size + 1, 0, none⟩) (by have := hbr1.size; simp at this; show w.heap.size + 1 < _; omega)).trans p20, (hW.cell (p := ⟨w.heap.size + 1, 1, none⟩) (by have := hbr1.size; simp at this; show w.heap.size + 1 < _; omega)).trans p21, (hW.cell (p := ⟨w.heap.size + 1, 2, none⟩) (by have := hbr1.size; simp at this; show w.heap.size + 1 < _; omega)).trans p22⟩
            clear q1 q2 hall1
            go_wp2_with fail
            refine wp_region_noPanic ?_
            refine name_ops ?_
            intro O QQ HO HQ
            refine wp_region_held_drew (S := fun W => Below wq1.heap.size wq1 W) (by kernel_rfl) (Below.refl _ _).drew (fun hS => ?_)
            rw [show O.size = 11 by rw [HO.out]; rfl]
            refine qwt (i := 0) (v := .pointer (some ⟨w.heap.size, 2, none⟩)) HO HQ (by simp only [qa1, qa2, qa3]; rfl) (by kernel_rfl) (by kernel_rfl) (by kernel_rfl) (fun _ _ _ h => h) (Or.inl ⟨by first | rfl | (rw [HO.out]; kernel_rfl), ?_⟩) hS ?_
            · intro w' hSw
              go_simp
            try simp only [Act.put, qb1, qb2, qb3]
            refine qwt (i := 1) (v := .slice (some ⟨b1, o1, none⟩) x.tests.length c11) HO HQ (by simp only [qa1, qa2, qa3]; rfl) (by kernel_rfl) (by kernel_rfl) (by kernel_rfl) (fun _ _ _ h => h) (Or.inl ⟨by first | rfl | (rw [HO.out]; kernel_rfl), ?_⟩) hS ?_
            · intro w' hSw
              obtain ⟨⟨q10, q11, q12, q13, q14⟩, ⟨q20, q21, q22, q23, q24⟩, p10, p11, p12, p20, p21, p22⟩ := SL.out _ hSw
              go_simp
            try simp only [Act.put, qb1, qb2, qb3]
            refine qwt (i := 2) (v := .int .i64 i1) HO HQ (by simp only [qa1, qa2, qa3]; rfl) (by kernel_rfl) (by kernel_rfl) (by kernel_rfl) (fun _ _ _ h => h) (Or.inl ⟨by first | rfl | (rw [HO.out]; kernel_rfl), ?_⟩) hS ?_
            · intro w' hSw
              go_simp
            try simp only [Act.put, qb1, qb2, qb3]
            refine qwt (i := 3) (v := .pointer (some ⟨b1, o1 + i1 * 5, none⟩)) HO HQ (by simp only [qa1, qa2, qa3]; rfl) (by kernel_rfl) (by kernel_rfl) (by kernel_rfl) (fun _ _ _ h => h) (Or.inl ⟨by first | rfl | (rw [HO.out]; kernel_rfl), ?_⟩) hS ?_
            · intro w' hSw
              go_simp
            try simp only [Act.put, qb1, qb2, qb3]
            refine qwt (i := 4) (v := .agg #[.int .u8 x'.p, .string (st x'.v), .int .u8 x'.x.k, .int .i64 x'.x.n, .string (st x'.x.s)]) HO HQ (by simp only [qa1, qa2, qa3]; rfl) (by kernel_rfl) (by kernel_rfl) (by kernel_rfl) (fun _ _ _ h => h) (Or.inl ⟨by first | rfl | (rw [HO.out]; kernel_rfl), ?_⟩) hS ?_
            · intro w' hSw
              obtain ⟨⟨q10, q11, q12, q13, q14⟩, ⟨q20, q21, q22, q23, q24⟩, p10, p11, p12, p20, p21, p22⟩ := SL.out _ hSw
              go_simp
            try simp only [Act.put, qb1, qb2, qb3]
            refine qwt (i := 5) (v := .pointer (some ⟨w.heap.size + 1, 2, none⟩)) HO HQ (by simp only [qa1, qa2, qa3]; rfl) (by kernel_rfl) (by kernel_rfl) (by kernel_rfl) (fun _ _ _ h => h) (Or.inl ⟨by first | rfl | (rw [HO.out]; kernel_rfl), ?_⟩) hS ?_
            · intro w' hSw
              go_simp
            try simp only [Act.put, qb1, qb2, qb3]
            refine qwt (i := 6) (v := .slice (some ⟨b2, o2, none⟩) x.tests.length c21) HO HQ (by simp only [qa1, qa2, qa3]; rfl) (by kernel_rfl) (by kernel_rfl) (by kernel_rfl) (fun _ _ _ h => h) (Or.inl ⟨by first | rfl | (rw [HO.out]; kernel_rfl), ?_⟩) hS ?_
            · intro w' hSw
              obtain ⟨⟨q10, q11, q12, q13, q14⟩, ⟨q20, q21, q22, q23, q24⟩, p10, p11, p12, p20, p21, p22⟩ := SL.out _ hSw
              go_simp
            try simp only [Act.put, qb1, qb2, qb3]
            refine qwt (i := 7) (v := .int .i64 i1) HO HQ (by simp only [qa1, qa2, qa3]; rfl) (by kernel_rfl) (by kernel_rfl) (by kernel_rfl) (fun _ _ _ h => h) (Or.inl ⟨by first | rfl | (rw [HO.out]; kernel_rfl), ?_⟩) hS ?_
            · intro w' hSw
              go_simp
            try simp only [Act.put, qb1, qb2, qb3]
            refine qwt (i := 8) (v := .pointer (some ⟨b2, o2 + i1 * 5, none⟩)) HO HQ (by simp only [qa1, qa2, qa3]; rfl) (by kernel_rfl) (by kernel_rfl) (by kernel_rfl) (fun _ _ _ h => h) (Or.inl ⟨by first | rfl | (rw [HO.out]; kernel_rfl), ?_⟩) hS ?_
            · intro w' hSw
              go_simp
            try simp only [Act.put, qb1, qb2, qb3]
            refine qwt (i := 9) (v := .agg #[.int .u8 x'.p, .string (st x'.v), .int .u8 x'.x.k, .int .i64 x'.x.n, .string (st x'.x.s)]) HO HQ (by simp only [qa1, qa2, qa3]; rfl) (by kernel_rfl) (by kernel_rfl) (by kernel_rfl) (fun _ _ _ h => h) (Or.inl ⟨by first | rfl | (rw [HO.out]; kernel_rfl), ?_⟩) hS ?_
            · intro w' hSw
              obtain ⟨⟨q10, q11, q12, q13, q14⟩, ⟨q20, q21, q22, q23, q24⟩, p10, p11, p12, p20, p21, p22⟩ := SL.out _ hSw
              go_simp
            try simp only [Act.put, qb1, qb2, qb3]
            refine qwt (i := 10) (v := .bool false) HO HQ (by simp only [qa1, qa2, qa3]; rfl) (by kernel_rfl) (by kernel_rfl) (by kernel_rfl) (fun _ _ _ h => h) (Or.inl ⟨by first | rfl | (rw [HO.out]; kernel_rfl), ?_⟩) hS ?_
            · intro w' hSw
              go_simp
            try simp only [Act.put, qb1, qb2, qb3]
            refine wpAnyH_done (by rw [HO.out]; kernel_rfl) ?_ _
            rw [HQ.out]
            refine NoPanic.normal ?_
            go_wp2
            go_roundw
            case rel => exact ⟨i1 + 1, by simp, by omega, HALL.out, bt hbr1 hS⟩
            case measure => simp [intOf]; omega
          · have HN : Hid (A = false) := by show _ = _; rw [HA.out]; exact decide_eq_false (fun e => heq (by rw [e]))
            have hne := neT heq
            generalize x.tests.getD i1 t0 = x' at *
            generalize y.tests.getD i1 t0 = y' at *
            have SL : Hid (∀ W, Below wq1.heap.size wq1 W → (W.cell? ⟨b1, o1 + i1 * 5, none⟩ = some (.int .u8 x'.p) ∧ W.cell? ⟨b1, o1 + i1 * 5 + 1, none⟩ = some (.string (st x'.v)) ∧ W.cell? ⟨b1, o1 + i1 * 5 + 2, none⟩ = some (.int .u8 x'.x.k) ∧ W.cell? ⟨b1, o1 + i1 * 5 + 3, none⟩ = some (.int .i64 x'.x.n) ∧ W.cell? ⟨b1, o1 + i1 * 5 + 4, none⟩ = some (.string (st x'.x.s))) ∧ (W.cell? ⟨b2, o2 + i1 * 5, none⟩ = some (.int .u8 y'.p) ∧ W.cell? ⟨b2, o2 + i1 * 5 + 1, none⟩ = some (.string (st y'.v)) ∧ W.cell? ⟨b2, o2 + i1 * 5 + 2, none⟩ = some (.int .u8 y'.x.k) ∧ W.cell? ⟨b2, o2 + i1 * 5 + 3, none⟩ = some (.int .i64 y'.x.n) ∧ W.cell? ⟨b2, o2 + i1 * 5 + 4, none⟩ = some (.string (st y'.x.s))) ∧ W.cell? ⟨w.heap.size, 0, none⟩ = some (.string (st x.a)) ∧ W.cell? ⟨w.heap.size, 1, none⟩ = some (.slice a10 x.ones.length c10) ∧ W.cell? ⟨w.heap.size, 2, none⟩ = some (.slice (some ⟨b1, o1, none⟩) x.tests.length c11) ∧ W.cell? ⟨w.heap.size + 1, 0, none⟩ = some (.string (st x.a)) ∧ W.cell? ⟨w.heap.size + 1, 1, none⟩ = some (.slice a20 x.ones.length c20) ∧ W.cell? ⟨w.heap.size + 1, 2, none⟩ = some (.slice (some ⟨b2, o2, none⟩) x.tests.length c21)) := fun W hW => ⟨⟨((bt BW1.out hW).cell (p := ⟨b1, o1 + i1 * 5, none⟩) hb1).trans (q1 0 (by decide)), ((bt BW1.out hW).cell (p := ⟨b1, o1 + i1 * 5 + 1, none⟩) hb1).trans (q1 1 (by decide)), ((bt BW1.out hW).cell (p := ⟨b1, o1 + i1 * 5 + 2, none⟩) hb1).trans (q1 2 (by decide)), ((bt BW1.out hW).cell (p := ⟨b1, o1 + i1 * 5 + 3, none⟩) hb1).trans (q1 3 (by decide)), ((bt BW1.out hW).cell (p := ⟨b1, o1 + i1 * 5 + 4, none⟩) hb1).trans (q1 4 (by decide))⟩, ⟨((bt BW1.out hW).cell (p := ⟨b2, o2 + i1 * 5, none⟩) hb2).trans (q2 0 (by decide)), ((bt BW1.out hW).cell (p := ⟨b2, o2 + i1 * 5 + 1, none⟩) hb2).trans (q2 1 (by decide)), ((bt BW1.out hW).cell (p := ⟨b2, o2 + i1 * 5 + 2, none⟩) hb2).trans (q2 2 (by decide)), ((bt BW1.out hW).cell (p := ⟨b2, o2 + i1 * 5 + 3, none⟩) hb2).trans (q2 3 (by decide)), ((bt BW1.out hW).cell (p := ⟨b2, o2 + i1 * 5 + 4, none⟩) hb2).trans (q2 4 (by decide))⟩, (hW.cell (p := ⟨w.heap.size, 0, none⟩) (by have := hbr1.size; simp at this; show w.heap.size < _; omega)).trans p10, (hW.cell (p := ⟨w.heap.size, 1, none⟩) (by have := hbr1.size; simp at this; show w.heap.size < _; omega)).trans p11, (hW.cell (p := ⟨w.heap.size, 2, none⟩) (by have := hbr1.size; simp at this; show w.heap.size < _; omega)).trans p12, (hW.cell (p := ⟨w.heap.size + 1, 0, none⟩) (by have := hbr1.size; simp at this; show w.heap.size + 1 < _; omega)).trans p20, (hW.cell (p := ⟨w.heap.size + 1, 1, none⟩) (by have := hbr1.size; simp at this; show w.heap.size + 1 < _; omega)).trans p21, (hW.cell (p := ⟨w.heap.size + 1, 2, none⟩) (by have := hbr1.size; simp at this; show w.heap.size + 1 < _; omega)).trans p22⟩
            clear q1 q2 hall1 heq
            go_wp2_with fail
            refine wp_region_noPanic ?_
            refine name_ops ?_
            intro O QQ HO HQ
            refine wp_region_held_drew (S := fun W => Below wq1.heap.size wq1 W) (by kernel_rfl) (Below.refl _ _).drew (fun hS => ?_)
            rw [show O.size = 11 by rw [HO.out]; rfl]
            refine qwt (i := 0) (v := .pointer (some ⟨w.heap.size, 2, none⟩)) HO HQ (by simp only [qa1, qa2, qa3]; rfl) (by kernel_rfl) (by kernel_rfl) (by kernel_rfl) (fun _ _ _ h => h) (Or.inl ⟨by first | rfl | (rw [HO.out]; kernel_rfl), ?_⟩) hS ?_
            · intro w' hSw
              go_simp
            try simp only [Act.put, qb1, qb2, qb3]
            refine qwt (i := 1) (v := .slice (some ⟨b1, o1, none⟩) x.tests.length c11) HO HQ (by simp only [qa1, qa2, qa3]; rfl) (by kernel_rfl) (by kernel_rfl) (by kernel_rfl) (fun _ _ _ h => h) (Or.inl ⟨by first | rfl | (rw [HO.out]; kernel_rfl), ?_⟩) hS ?_
            · intro w' hSw
              obtain ⟨⟨q10, q11, q12, q13, q14⟩, ⟨q20, q21, q22, q23, q24⟩, p10, p11, p12, p20, p21, p22⟩ := SL.out _ hSw
              go_simp
            try simp only [Act.put, qb1, qb2, qb3]
            refine qwt (i := 2) (v := .int .i64 i1) HO HQ (by simp only [qa1, qa2, qa3]; rfl) (by kernel_rfl) (by kernel_rfl) (by kernel_rfl) (fun _ _ _ h => h) (Or.inl ⟨by first | rfl | (rw [HO.out]; kernel_rfl), ?_⟩) hS ?_
            · intro w' hSw
              go_simp
            try simp only [Act.put, qb1, qb2, qb3]
            refine qwt (i := 3) (v := .pointer (some ⟨b1, o1 + i1 * 5, none⟩)) HO HQ (by simp only [qa1, qa2, qa3]; rfl) (by kernel_rfl) (by kernel_rfl) (by kernel_rfl) (fun _ _ _ h => h) (Or.inl ⟨by first | rfl | (rw [HO.out]; kernel_rfl), ?_⟩) hS ?_
            · intro w' hSw
              go_simp
            try simp only [Act.put, qb1, qb2, qb3]
            refine qwt (i := 4) (v := .agg #[.int .u8 x'.p, .string (st x'.v), .int .u8 x'.x.k, .int .i64 x'.x.n, .string (st x'.x.s)]) HO HQ (by simp only [qa1, qa2, qa3]; rfl) (by kernel_rfl) (by kernel_rfl) (by kernel_rfl) (fun _ _ _ h => h) (Or.inl ⟨by first | rfl | (rw [HO.out]; kernel_rfl), ?_⟩) hS ?_
            · intro w' hSw
              obtain ⟨⟨q10, q11, q12, q13, q14⟩, ⟨q20, q21, q22, q23, q24⟩, p10, p11, p12, p20, p21, p22⟩ := SL.out _ hSw
              go_simp
            try simp only [Act.put, qb1, qb2, qb3]
            refine qwt (i := 5) (v := .pointer (some ⟨w.heap.size + 1, 2, none⟩)) HO HQ (by simp only [qa1, qa2, qa3]; rfl) (by kernel_rfl) (by kernel_rfl) (by kernel_rfl) (fun _ _ _ h => h) (Or.inl ⟨by first | rfl | (rw [HO.out]; kernel_rfl), ?_⟩) hS ?_
            · intro w' hSw
              go_simp
            try simp only [Act.put, qb1, qb2, qb3]
            refine qwt (i := 6) (v := .slice (some ⟨b2, o2, none⟩) x.tests.length c21) HO HQ (by simp only [qa1, qa2, qa3]; rfl) (by kernel_rfl) (by kernel_rfl) (by kernel_rfl) (fun _ _ _ h => h) (Or.inl ⟨by first | rfl | (rw [HO.out]; kernel_rfl), ?_⟩) hS ?_
            · intro w' hSw
              obtain ⟨⟨q10, q11, q12, q13, q14⟩, ⟨q20, q21, q22, q23, q24⟩, p10, p11, p12, p20, p21, p22⟩ := SL.out _ hSw
              go_simp
            try simp only [Act.put, qb1, qb2, qb3]
            refine qwt (i := 7) (v := .int .i64 i1) HO HQ (by simp only [qa1, qa2, qa3]; rfl) (by kernel_rfl) (by kernel_rfl) (by kernel_rfl) (fun _ _ _ h => h) (Or.inl ⟨by first | rfl | (rw [HO.out]; kernel_rfl), ?_⟩) hS ?_
            · intro w' hSw
              go_simp
            try simp only [Act.put, qb1, qb2, qb3]
            refine qwt (i := 8) (v := .pointer (some ⟨b2, o2 + i1 * 5, none⟩)) HO HQ (by simp only [qa1, qa2, qa3]; rfl) (by kernel_rfl) (by kernel_rfl) (by kernel_rfl) (fun _ _ _ h => h) (Or.inl ⟨by first | rfl | (rw [HO.out]; kernel_rfl), ?_⟩) hS ?_
            · intro w' hSw
              go_simp
            try simp only [Act.put, qb1, qb2, qb3]
            refine qwt (i := 9) (v := .agg #[.int .u8 y'.p, .string (st y'.v), .int .u8 y'.x.k, .int .i64 y'.x.n, .string (st y'.x.s)]) HO HQ (by simp only [qa1, qa2, qa3]; rfl) (by kernel_rfl) (by kernel_rfl) (by kernel_rfl) (fun _ _ _ h => h) (Or.inl ⟨by first | rfl | (rw [HO.out]; kernel_rfl), ?_⟩) hS ?_
            · intro w' hSw
              obtain ⟨⟨q10, q11, q12, q13, q14⟩, ⟨q20, q21, q22, q23, q24⟩, p10, p11, p12, p20, p21, p22⟩ := SL.out _ hSw
              go_simp
            try simp only [Act.put, qb1, qb2, qb3]
            refine qwt (i := 10) (v := .bool true) HO HQ (by simp only [qa1, qa2, qa3]; rfl) (by kernel_rfl) (by kernel_rfl) (by kernel_rfl) (fun _ _ _ h => h) (Or.inl ⟨by first | rfl | (rw [HO.out]; kernel_rfl), ?_⟩) hS ?_
            · intro w' hSw
              go_simp
              all_goals exact hne
            try simp only [Act.put, qb1, qb2, qb3]
            refine wpAnyH_done (by rw [HO.out]; kernel_rfl) ?_ _
            rw [HQ.out]
            refine NoPanic.normal ?_
            go_wp2
            go_ret
            exact ⟨ret_bool HN.out.symm, bt BW1.out hS⟩
        · have hiz : ¬ (i1 : Int) < x.tests.length := by omega
          have E1 : Hid (x.tests = y.tests) := eq_go t0 Htests.out hall1 (by omega)
          clear hall1
          have HN : Hid (A = true) := by
            show _ = _
            rw [HA.out]
            exact decide_eq_true (extAttrD (Ha.out) (E0.out) (E1.out))
          go_wp2
          go_ret
          exact ⟨ret_bool HN.out.symm, BW1.out⟩
end Go.Proofs.YtemacdimdpnkeaaGreatDoor
namespace Go.Proofs.YtemacdimdpnkeaaGreatDoor
set_option maxRecDepth 20000
open Go.RowKit
set_option linter.unusedVariables false
set_option linter.unusedSimpArgs false
theorem extCondD {x y : CondD} (h1 : x.neg = y.neg) (h2 : x.c = y.c) (h3 : x.attrs = y.attrs) : x = y := by cases x; cases y; simp_all
theorem extRuleD {x y : RuleD} (h1 : x.nm = y.nm) (h2 : x.conds = y.conds) (h3 : x.acts = y.acts) : x = y := by cases x; cases y; simp_all
theorem extProgD {x y : ProgD} (h1 : x.cs = y.cs) (h2 : x.rs = y.rs) : x = y := by cases x; cases y; simp_all
theorem extActD {x y : ActD} (h1 : x.k = y.k) (h2 : x.c = y.c) (h3 : x.n = y.n) (h4 : x.v = y.v) (h5 : x.sets = y.sets) (h6 : x.exprs = y.exprs) : x = y := by cases x; cases y; simp_all
def a0 : AttrD := ⟨[], [], []⟩
def cd0 : CondD := ⟨false, [], []⟩
def ac0 : ActD := ⟨0, [], 0, [], [], []⟩
def k0 : ClassD := ⟨[], []⟩
def ru0 : RuleD := ⟨[], [], []⟩
def se0 : SetD := ⟨[], []⟩
def ex0 : List ItemD := []
set_option maxHeartbeats 8000000 in
theorem sameCond_any {P1 P2 : Nat → Nat → Prop} (cs1 cs2 : List Value) (x y : CondD) (w : World) (h1 : ReC P1 w cs1 x) (h2 : ReC P2 w cs2 y) :
    Calls Tryz.prog 31 #[.agg cs1.toArray, .agg cs2.toArray] w fun e w' => e = .returned (.bool (decide (x = y))) ∧ Below w.heap.size w w' := by
  obtain ⟨v10, rfl, r10⟩ := h1
  obtain ⟨v20, rfl, r20⟩ := h2
  obtain ⟨css10, r10, hh10⟩ := r10
  have HH10 := hh10
  have le10 := hh10.len
  obtain ⟨a10, c10, rfl⟩ := r10.shape
  obtain ⟨-, l10, m10, z10⟩ := r10.row
  rw [le10] at l10 z10 ⊢
  obtain ⟨css20, r20, hh20⟩ := r20
  have HH20 := hh20
  have le20 := hh20.len
  obtain ⟨a20, c20, rfl⟩ := r20.shape
  obtain ⟨-, l20, m20, z20⟩ := r20.row
  rw [le20] at l20 z20 ⊢
  have R10 : Hid (∀ i, i < x.attrs.length → ∃ b off, a10 = some ⟨b, off, none⟩ ∧ b < w.heap.size ∧ ∀ j, j < 3 → w.cell? ⟨b, off + (i * 3 + j), none⟩ = (css10.getD i [])[j]?) := z10
  have G10 : Hid (All2 (ReA P1 w) css10 x.attrs) := HH10
  clear HH10 hh10 le10
  have R20 : Hid (∀ i, i < y.attrs.length → ∃ b off, a20 = some ⟨b, off, none⟩ ∧ b < w.heap.size ∧ ∀ j, j < 3 → w.cell? ⟨b, off + (i * 3 + j), none⟩ = (css20.getD i [])[j]?) := z20
  have G20 : Hid (All2 (ReA P2 w) css20 y.attrs) := HH20
  clear HH20 hh20 le20
  obtain ⟨A, hA⟩ : ∃ A, A = decide (x = y) := ⟨_, rfl⟩
  rw [← hA]
  have HA : Hid (A = decide (x = y)) := hA
  clear hA z10 r10 z20 r20
  by_cases hneg : ¬ (x.neg = y.neg)
  · have hzneg : (x.neg == y.neg) = false := by rw [beq_eq_false_iff_ne]; exact hneg
    have HN : Hid (A = false) := by show _ = _; rw [HA.out]; exact decide_eq_false (fun e => hneg (by rw [e]))
    clear HA hneg
    go_enter Tryz.func31, Tryz.ntmps31
    go_wp2
    go_ret
    exact ⟨ret_bool HN.out.symm, bxn2t _ _ _⟩
  replace hneg := Classical.not_not.1 hneg
  rw [← hneg]
  have Hneg : Hid (x.neg = y.neg) := hneg
  clear hneg
  by_cases hc : ¬ (x.c = y.c)
  · have hzc : ((st x.c).toList == (st y.c).toList) = false := by rw [beq_eq_false_iff_ne]; exact fun e => hc (st_eq e)
    have HN : Hid (A = false) := by show _ = _; rw [HA.out]; exact decide_eq_false (fun e => hc (by rw [e]))
    clear HA hc
    go_enter Tryz.func31, Tryz.ntmps31
    go_wp2
    go_ret
    exact ⟨ret_bool HN.out.symm, bxn2t _ _ _⟩
  replace hc := Classical.not_not.1 hc
  rw [← hc]
  have Hc : Hid (x.c = y.c) := hc
  clear hc
  by_cases hattrs : ¬ (x.attrs.length = y.attrs.length)
  · have hzattrs : ((x.attrs.length : Int) == y.attrs.length) = false := by rw [beq_eq_false_iff_ne]; omega
    have HN : Hid (A = false) := by show _ = _; rw [HA.out]; exact decide_eq_false (fun e => hattrs (by rw [e]))
    clear HA hattrs
    go_enter Tryz.func31, Tryz.ntmps31
    go_wp2
    go_ret
    exact ⟨ret_bool HN.out.symm, bxn2t _ _ _⟩
  replace hattrs := Classical.not_not.1 hattrs
  rw [← hattrs] at l20 ⊢
  have Hattrs : Hid (x.attrs.length = y.attrs.length) := hattrs
  clear hattrs
  have hnn0 : (x.attrs.length : Int) ≤ 9223372036854775807 := by omega
  go_enter Tryz.func31, Tryz.ntmps31
  go_wp2
  go_loopw [5] (fun v wr => ∃ i : Nat, v = .int .i64 i ∧ i ≤ x.attrs.length ∧ (∀ j, j < i → x.attrs.getD j a0 = y.attrs.getD j a0) ∧ Below ((w.alloc (.cells #[.bool x.neg, .string (st x.c), .slice a10 x.attrs.length c10] 95)).alloc (.cells #[.bool x.neg, .string (st x.c), .slice a20 x.attrs.length c20] 95)).heap.size ((w.alloc (.cells #[.bool x.neg, .string (st x.c), .slice a10 x.attrs.length c10] 95)).alloc (.cells #[.bool x.neg, .string (st x.c), .slice a20 x.attrs.length c20] 95)) wr) (fun v _ => (x.attrs.length - intOf v).toNat)
  case atStart => exact ⟨0, rfl, Nat.zero_le _, fun j hj => absurd hj (Nat.not_lt_zero _), Below.refl _ _⟩
  case round =>
    obtain ⟨i0Q, rfl, hi0, hall0, hbr0⟩ := hrel
    obtain ⟨wq0, hwq⟩ : ∃ wq, wq = wr := ⟨_, rfl⟩
    subst hwq
    have BW0 : Hid (Below w.heap.size w wq0) := bt (bxn2t _ _ _) hbr0
    have p10 : wq0.cell? ⟨w.heap.size, 0, none⟩ = some (.bool x.neg) := by rw [hbr0.cell (p := ⟨w.heap.size, 0, none⟩) (by simp <;> omega)]; go_simp
    have p11 : wq0.cell? ⟨w.heap.size, 1, none⟩ = some (.string (st x.c)) := by rw [hbr0.cell (p := ⟨w.heap.size, 1, none⟩) (by simp <;> omega)]; go_simp
    have p12 : wq0.cell? ⟨w.heap.size, 2, none⟩ = some (.slice a10 x.attrs.length c10) := by rw [hbr0.cell (p := ⟨w.heap.size, 2, none⟩) (by simp <;> omega)]; go_simp
    have p20 : wq0.cell? ⟨w.heap.size + 1, 0, none⟩ = some (.bool x.neg) := by rw [hbr0.cell (p := ⟨w.heap.size + 1, 0, none⟩) (by simp <;> omega)]; go_simp
    have p21 : wq0.cell? ⟨w.heap.size + 1, 1, none⟩ = some (.string (st x.c)) := by rw [hbr0.cell (p := ⟨w.heap.size + 1, 1, none⟩) (by simp <;> omega)]; go_simp
    have p22 : wq0.cell? ⟨w.heap.size + 1, 2, none⟩ = some (.slice a20 x.attrs.length c20) := by rw [hbr0.cell (p := ⟨w.heap.size + 1, 2, none⟩) (by simp <;> omega)]; go_simp
    by_cases hlt0 : i0Q < x.attrs.length
    · have hiz : (i0Q : Int) < x.attrs.length := by omega
      obtain ⟨b1, o1, rfl, hb1, q1⟩ := R10.out i0Q hlt0
      obtain ⟨b2, o2, rfl, hb2, q2⟩ := R20.out i0Q (by have := Hattrs.out; omega)
      have e1 := G10.out.at i0Q [] a0 hlt0
      have e2 := G20.out.at i0Q [] a0 (by have := Hattrs.out; omega)
      by_cases heq : x.attrs.getD i0Q a0 = y.attrs.getD i0Q a0
      · have HALL : Hid (∀ j, j < i0Q + 1 → x.attrs.getD j a0 = y.attrs.getD j a0) := fun j hj => by
          rcases Nat.lt_or_ge j i0Q with h | h
          · exact hall0 j h
          · obtain rfl : j = i0Q := by omega
            exact heq
        generalize x.attrs.getD i0Q a0 = x' at *
        generalize y.attrs.getD i0Q a0 = y' at *
        subst heq
        have e1' := e1
        have e2' := e2
        obtain ⟨u1, u2, ec1, ku1, ku2⟩ := e1
        obtain ⟨t1, t2, ec2, kt1, kt2⟩ := e2
        rw [ec1] at q1 e1'
        rw [ec2] at q2 e2'
        have SL : Hid (∀ W, Below wq0.heap.size wq0 W → (W.cell? ⟨b1, o1 + i0Q * 3, none⟩ = some (.string (st x'.a)) ∧ W.cell? ⟨b1, o1 + i0Q * 3 + 1, none⟩ = some (u1) ∧ W.cell? ⟨b1, o1 + i0Q * 3 + 2, none⟩ = some (u2)) ∧ (W.cell? ⟨b2, o2 + i0Q * 3, none⟩ = some (.string (st x'.a)) ∧ W.cell? ⟨b2, o2 + i0Q * 3 + 1, none⟩ = some (t1) ∧ W.cell? ⟨b2, o2 + i0Q * 3 + 2, none⟩ = some (t2)) ∧ W.cell? ⟨w.heap.size, 0, none⟩ = some (.bool x.neg) ∧ W.cell? ⟨w.heap.size, 1, none⟩ = some (.string (st x.c)) ∧ W.cell? ⟨w.heap.size, 2, none⟩ = some (.slice (some ⟨b1, o1, none⟩) x.attrs.length c10) ∧ W.cell? ⟨w.heap.size + 1, 0, none⟩ = some (.bool x.neg) ∧ W.cell? ⟨w.heap.size + 1, 1, none⟩ = some (.string (st x.c)) ∧ W.cell? ⟨w.heap.size + 1, 2, none⟩ = some (.slice (some ⟨b2, o2, none⟩) x.attrs.length c20)) := fun W hW => ⟨⟨((bt BW0.out hW).cell (p := ⟨b1, o1 + i0Q * 3, none⟩) hb1).trans (q1 0 (by decide)), ((bt BW0.out hW).cell (p := ⟨b1, o1 + i0Q * 3 + 1, none⟩) hb1).trans (q1 1 (by decide)), ((bt BW0.out hW).cell (p := ⟨b1, o1 + i0Q * 3 + 2, none⟩) hb1).trans (q1 2 (by decide))⟩, ⟨((bt BW0.out hW).cell (p := ⟨b2, o2 + i0Q * 3, none⟩) hb2).trans (q2 0 (by decide)), ((bt BW0.out hW).cell (p := ⟨b2, o2 + i0Q * 3 + 1, none⟩) hb2).trans (q2 1 (by decide)), ((bt BW0.out hW).cell (p := ⟨b2, o2 + i0Q * 3 + 2, none⟩) hb2).trans (q2 2 (by decide))⟩, (hW.cell (p := ⟨w.heap.size, 0, none⟩) (by have := hbr0.size; simp at this; show w.heap.size < _; omega)).trans p10, (hW.cell (p := ⟨w.heap.size, 1, none⟩) (by have := hbr0.size; simp at this; show w.heap.size < _; omega)).trans p11, (hW.cell (p := ⟨w.heap.size, 2, none⟩) (by have := hbr0.size; simp at this; show w.heap.size < _; omega)).trans p12, (hW.cell (p := ⟨w.heap.size + 1, 0, none⟩) (by have := hbr0.size; simp at this; show w.heap.size + 1 < _; omega)).trans p20, (hW.cell (p := ⟨w.heap.size + 1, 1, none⟩) (by have := hbr0.size; simp at this; show w.heap.size + 1 < _; omega)).trans p21, (hW.cell (p := ⟨w.heap.size + 1, 2, none⟩) (by have := hbr0.size; simp at this; show w.heap.size + 1 < _; omega)).trans p22⟩
        have CC : ∀ W, Below wq0.heap.size wq0 W → Calls Tryz.prog 67 #[.agg #[.string (st x'.a), u1, u2], .agg #[.string (st x'.a), t1, t2]] W fun e w' => e = .returned (.bool true) ∧ Below W.heap.size W w' := fun W hW => (sameAttr_any _ _ x' x' W (e1'.keep (Stays.below (bt BW0.out hW))) (e2'.keep (Stays.below (bt BW0.out hW)))).mono (by rintro e w' ⟨rfl, hb⟩; exact ⟨by rw [decide_eq_true rfl], hb⟩); clear e1' e2' ec1 ec2 ku1 kt1 ku2 kt2
        clear q1 q2 hall0
        go_wp2_with fail
        refine wp_region_noPanic ?_
        refine name_ops ?_
        intro O QQ HO HQ
        refine wp_region_held_drew (S := fun W => Below wq0.heap.size wq0 W) (by kernel_rfl) (Below.refl _ _).drew (fun hS => ?_)
        rw [show O.size = 12 by rw [HO.out]; rfl]
        refine qwt (i := 0) (v := .pointer (some ⟨w.heap.size, 2, none⟩)) HO HQ (by simp only [qa1, qa2, qa3]; rfl) (by kernel_rfl) (by kernel_rfl) (by kernel_rfl) (fun _ _ _ h => h) (Or.inl ⟨by first | rfl | (rw [HO.out]; kernel_rfl), ?_⟩) hS ?_
        · intro w' hSw
          go_simp
        try simp only [Act.put, qb1, qb2, qb3]
        refine qwt (i := 1) (v := .slice (some ⟨b1, o1, none⟩) x.attrs.length c10) HO HQ (by simp only [qa1, qa2, qa3]; rfl) (by kernel_rfl) (by kernel_rfl) (by kernel_rfl) (fun _ _ _ h => h) (Or.inl ⟨by first | rfl | (rw [HO.out]; kernel_rfl), ?_⟩) hS ?_
        · intro w' hSw
          obtain ⟨⟨q10, q11, q12⟩, ⟨q20, q21, q22⟩, p10, p11, p12, p20, p21, p22⟩ := SL.out _ hSw
          go_simp
        try simp only [Act.put, qb1, qb2, qb3]
        refine qwt (i := 2) (v := .int .i64 i0Q) HO HQ (by simp only [qa1, qa2, qa3]; rfl) (by kernel_rfl) (by kernel_rfl) (by kernel_rfl) (fun _ _ _ h => h) (Or.inl ⟨by first | rfl | (rw [HO.out]; kernel_rfl), ?_⟩) hS ?_
        · intro w' hSw
          go_simp
        try simp only [Act.put, qb1, qb2, qb3]
        refine qwt (i := 3) (v := .pointer (some ⟨b1, o1 + i0Q * 3, none⟩)) HO HQ (by simp only [qa1, qa2, qa3]; rfl) (by kernel_rfl) (by kernel_rfl) (by kernel_rfl) (fun _ _ _ h => h) (Or.inl ⟨by first | rfl | (rw [HO.out]; kernel_rfl), ?_⟩) hS ?_
        · intro w' hSw
          go_simp
        try simp only [Act.put, qb1, qb2, qb3]
        refine qwt (i := 4) (v := .agg #[.string (st x'.a), u1, u2]) HO HQ (by simp only [qa1, qa2, qa3]; rfl) (by kernel_rfl) (by kernel_rfl) (by kernel_rfl) (fun _ _ _ h => h) (Or.inl ⟨by first | rfl | (rw [HO.out]; kernel_rfl), ?_⟩) hS ?_
        · intro w' hSw
          obtain ⟨⟨q10, q11, q12⟩, ⟨q20, q21, q22⟩, p10, p11, p12, p20, p21, p22⟩ := SL.out _ hSw
          go_simp
        try simp only [Act.put, qb1, qb2, qb3]
        refine qwt (i := 5) (v := .pointer (some ⟨w.heap.size + 1, 2, none⟩)) HO HQ (by simp only [qa1, qa2, qa3]; rfl) (by kernel_rfl) (by kernel_rfl) (by kernel_rfl) (fun _ _ _ h => h) (Or.inl ⟨by first | rfl | (rw [HO.out]; kernel_rfl), ?_⟩) hS ?_
        · intro w' hSw
          go_simp
        try simp only [Act.put, qb1, qb2, qb3]
        refine qwt (i := 6) (v := .slice (some ⟨b2, o2, none⟩) x.attrs.length c20) HO HQ (by simp only [qa1, qa2, qa3]; rfl) (by kernel_rfl) (by kernel_rfl) (by kernel_rfl) (fun _ _ _ h => h) (Or.inl ⟨by first | rfl | (rw [HO.out]; kernel_rfl), ?_⟩) hS ?_
        · intro w' hSw
          obtain ⟨⟨q10, q11, q12⟩, ⟨q20, q21, q22⟩, p10, p11, p12, p20, p21, p22⟩ := SL.out _ hSw
          go_simp
        try simp only [Act.put, qb1, qb2, qb3]
        refine qwt (i := 7) (v := .int .i64 i0Q) HO HQ (by simp only [qa1, qa2, qa3]; rfl) (by kernel_rfl) (by kernel_rfl) (by kernel_rfl) (fun _ _ _ h => h) (Or.inl ⟨by first | rfl | (rw [HO.out]; kernel_rfl), ?_⟩) hS ?_
        · intro w' hSw
          go_simp
        try simp only [Act.put, qb1, qb2, qb3]
        refine qwt (i := 8) (v := .pointer (some ⟨b2, o2 + i0Q * 3, none⟩)) HO HQ (by simp only [qa1, qa2, qa3]; rfl) (by kernel_rfl) (by kernel_rfl) (by kernel_rfl) (fun _ _ _ h => h) (Or.inl ⟨by first | rfl | (rw [HO.out]; kernel_rfl), ?_⟩) hS ?_
        · intro w' hSw
          go_simp
        try simp only [Act.put, qb1, qb2, qb3]
        refine qwt (i := 9) (v := .agg #[.string (st x'.a), t1, t2]) HO HQ (by simp only [qa1, qa2, qa3]; rfl) (by kernel_rfl) (by kernel_rfl) (by kernel_rfl) (fun _ _ _ h => h) (Or.inl ⟨by first | rfl | (rw [HO.out]; kernel_rfl), ?_⟩) hS ?_
        · intro w' hSw
          obtain ⟨⟨q10, q11, q12⟩, ⟨q20, q21, q22⟩, p10, p11, p12, p20, p21, p22⟩ := SL.out _ hSw
          go_simp
        try simp only [Act.put, qb1, qb2, qb3]
        refine wpAnyH_one (i := 10) (x := 44) (R := fun v _ => v = .bool true) (by rw [HO.out]; simp only [qa1, qa2, qa3]; rfl) (by rw [HO.out]; kernel_rfl) hS ?_ ?_
        · intro K hK
          simp only [Act.put, qb1, qb2, qb3] at hK
          unfold Steps
          rw [if_pos (by rw [HO.out]; kernel_rfl)]
          go_simp
          refine (CC _ hS).mono ?_
          rintro e w9 ⟨rfl, hb9⟩
          exact hK _ _ rfl hb9
        rintro v9 w9 hv9 hb9 hS9
        obtain rfl := hv9
        clear hb9
        replace hS := hS9
        clear hS9
        try simp only [Act.put, qb1, qb2, qb3]
        refine qwt (i := 11) (v := .bool false) HO HQ (by simp only [qa1, qa2, qa3]; rfl) (by kernel_rfl) (by kernel_rfl) (by kernel_rfl) (fun _ _ _ h => h) (Or.inl ⟨by first | rfl | (rw [HO.out]; kernel_rfl), ?_⟩) hS ?_
        · intro w' hSw
          go_simp
        try simp only [Act.put, qb1, qb2, qb3]
        refine wpAnyH_done (by rw [HO.out]; kernel_rfl) ?_ _
        rw [HQ.out]
        refine NoPanic.normal ?_
        go_wp2
        go_roundw
        case rel => exact ⟨i0Q + 1, by simp, by omega, HALL.out, bt hbr0 hS⟩
        case measure => simp [intOf]; omega
      · have HN : Hid (A = false) := by show _ = _; rw [HA.out]; exact decide_eq_false (fun e => heq (by rw [e]))
        generalize x.attrs.getD i0Q a0 = x' at *
        generalize y.attrs.getD i0Q a0 = y' at *
        have e1' := e1
        have e2' := e2
        obtain ⟨u1, u2, ec1, ku1, ku2⟩ := e1
        obtain ⟨t1, t2, ec2, kt1, kt2⟩ := e2
        rw [ec1] at q1 e1'
        rw [ec2] at q2 e2'
        have SL : Hid (∀ W, Below wq0.heap.size wq0 W → (W.cell? ⟨b1, o1 + i0Q * 3, none⟩ = some (.string (st x'.a)) ∧ W.cell? ⟨b1, o1 + i0Q * 3 + 1, none⟩ = some (u1) ∧ W.cell? ⟨b1, o1 + i0Q * 3 + 2, none⟩ = some (u2)) ∧ (W.cell? ⟨b2, o2 + i0Q * 3, none⟩ = some (.string (st y'.a)) ∧ W.cell? ⟨b2, o2 + i0Q * 3 + 1, none⟩ = some (t1) ∧ W.cell? ⟨b2, o2 + i0Q * 3 + 2, none⟩ = some (t2)) ∧ W.cell? ⟨w.heap.size, 0, none⟩ = some (.bool x.neg) ∧ W.cell? ⟨w.heap.size, 1, none⟩ = some (.string (st x.c)) ∧ W.cell? ⟨w.heap.size, 2, none⟩ = some (.slice (some ⟨b1, o1, none⟩) x.attrs.length c10) ∧ W.cell? ⟨w.heap.size + 1, 0, none⟩ = some (.bool x.neg) ∧ W.cell? ⟨w.heap.size + 1, 1, none⟩ = some (.string (st x.c)) ∧ W.cell? ⟨w.heap.size + 1, 2, none⟩ = some (.slice (some ⟨b2, o2, none⟩) x.attrs.length c20)) := fun W hW => ⟨⟨((bt BW0.out hW).cell (p := ⟨b1, o1 + i0Q * 3, none⟩) hb1).trans (q1 0 (by decide)), ((bt BW0.out hW).cell (p := ⟨b1, o1 + i0Q * 3 + 1, none⟩) hb1).trans (q1 1 (by decide)), ((bt BW0.out hW).cell (p := ⟨b1, o1 + i0Q * 3 + 2, none⟩) hb1).trans (q1 2 (by decide))⟩, ⟨((bt BW0.out hW).cell (p := ⟨b2, o2 + i0Q * 3, none⟩) hb2).trans (q2 0 (by decide)), ((bt BW0.out hW).cell (p := ⟨b2, o2 + i0Q * 3 + 1, none⟩) hb2).trans (q2 1 (by decide)), ((bt BW0.out hW).cell (p := ⟨b2, o2 + i0Q * 3 + 2, none⟩) hb2).trans (q2 2 (by decide))⟩, (hW.cell (p := ⟨w.heap.size, 0, none⟩) (by have := hbr0.size; simp at this; show w.heap.size < _; omega)).trans p10, (hW.cell (p := ⟨w.heap.size, 1, none⟩) (by have := hbr0.size; simp at this; show w.heap.size < _; omega)).trans p11, (hW.cell (p := ⟨w.heap.size, 2, none⟩) (by have := hbr0.size; simp at this; show w.heap.size < _; omega)).trans p12, (hW.cell (p := ⟨w.heap.size + 1, 0, none⟩) (by have := hbr0.size; simp at this; show w.heap.size + 1 < _; omega)).trans p20, (hW.cell (p := ⟨w.heap.size + 1, 1, none⟩) (by have := hbr0.size; simp at this; show w.heap.size + 1 < _; omega)).trans p21, (hW.cell (p := ⟨w.heap.size + 1, 2, none⟩) (by have := hbr0.size; simp at this; show w.heap.size + 1 < _; omega)).trans p22⟩
        have CC : ∀ W, Below wq0.heap.size wq0 W → Calls Tryz.prog 67 #[.agg #[.string (st x'.a), u1, u2], .agg #[.string (st y'.a), t1, t2]] W fun e w' => e = .returned (.bool false) ∧ Below W.heap.size W w' := fun W hW => (sameAttr_any _ _ x' y' W (e1'.keep (Stays.below (bt BW0.out hW))) (e2'.keep (Stays.below (bt BW0.out hW)))).mono (by rintro e w' ⟨rfl, hb⟩; exact ⟨by rw [decide_eq_false heq], hb⟩); clear e1' e2' ec1 ec2 ku1 kt1 ku2 kt2
        clear q1 q2 hall0 heq
        go_wp2_with fail
        refine wp_region_noPanic ?_
        refine name_ops ?_
        intro O QQ HO HQ
        refine wp_region_held_drew (S := fun W => Below wq0.heap.size wq0 W) (by kernel_rfl) (Below.refl _ _).drew (fun hS => ?_)
        rw [show O.size = 12 by rw [HO.out]; rfl]
        refine qwt (i := 0) (v := .pointer (some ⟨w.heap.size, 2, none⟩)) HO HQ (by simp only [qa1, qa2, qa3]; rfl) (by kernel_rfl) (by kernel_rfl) (by kernel_rfl) (fun _ _ _ h => h) (Or.inl ⟨by first | rfl | (rw [HO.out]; kernel_rfl), ?_⟩) hS ?_
        · intro w' hSw
          go_simp
        try simp only [Act.put, qb1, qb2, qb3]
        refine qwt (i := 1) (v := .slice (some ⟨b1, o1, none⟩) x.attrs.length c10) HO HQ (by simp only [qa1, qa2, qa3]; rfl) (by kernel_rfl) (by kernel_rfl) (by kernel_rfl) (fun _ _ _ h => h) (Or.inl ⟨by first | rfl | (rw [HO.out]; kernel_rfl), ?_⟩) hS ?_
        · intro w' hSw
          obtain ⟨⟨q10, q11, q12⟩, ⟨q20, q21, q22⟩, p10, p11, p12, p20, p21, p22⟩ := SL.out _ hSw
          go_simp
        try simp only [Act.put, qb1, qb2, qb3]
        refine qwt (i := 2) (v := .int .i64 i0Q) HO HQ (by simp only [qa1, qa2, qa3]; rfl) (by kernel_rfl) (by kernel_rfl) (by kernel_rfl) (fun _ _ _ h => h) (Or.inl ⟨by first | rfl | (rw [HO.out]; kernel_rfl), ?_⟩) hS ?_
        · intro w' hSw
          go_simp
        try simp only [Act.put, qb1, qb2, qb3]
        refine qwt (i := 3) (v := .pointer (some ⟨b1, o1 + i0Q * 3, none⟩)) HO HQ (by simp only [qa1, qa2, qa3]; rfl) (by kernel_rfl) (by kernel_rfl) (by kernel_rfl) (fun _ _ _ h => h) (Or.inl ⟨by first | rfl | (rw [HO.out]; kernel_rfl), ?_⟩) hS ?_
        · intro w' hSw
          go_simp
        try simp only [Act.put, qb1, qb2, qb3]
        refine qwt (i := 4) (v := .agg #[.string (st x'.a), u1, u2]) HO HQ (by simp only [qa1, qa2, qa3]; rfl) (by kernel_rfl) (by kernel_rfl) (by kernel_rfl) (fun _ _ _ h => h) (Or.inl ⟨by first | rfl | (rw [HO.out]; kernel_rfl), ?_⟩) hS ?_
        · intro w' hSw
          obtain ⟨⟨q10, q11, q12⟩, ⟨q20, q21, q22⟩, p10, p11, p12, p20, p21, p22⟩ := SL.out _ hSw
          go_simp
        try simp only [Act.put, qb1, qb2, qb3]
        refine qwt (i := 5) (v := .pointer (some ⟨w.heap.size + 1, 2, none⟩)) HO HQ (by simp only [qa1, qa2, qa3]; rfl) (by kernel_rfl) (by kernel_rfl) (by kernel_rfl) (fun _ _ _ h => h) (Or.inl ⟨by first | rfl | (rw [HO.out]; kernel_rfl), ?_⟩) hS ?_
        · intro w' hSw
          go_simp
        try simp only [Act.put, qb1, qb2, qb3]
        refine qwt (i := 6) (v := .slice (some ⟨b2, o2, none⟩) x.attrs.length c20) HO HQ (by simp only [qa1, qa2, qa3]; rfl) (by kernel_rfl) (by kernel_rfl) (by kernel_rfl) (fun _ _ _ h => h) (Or.inl ⟨by first | rfl | (rw [HO.out]; kernel_rfl), ?_⟩) hS ?_
        · intro w' hSw
          obtain ⟨⟨q10, q11, q12⟩, ⟨q20, q21, q22⟩, p10, p11, p12, p20, p21, p22⟩ := SL.out _ hSw
          go_simp
        try simp only [Act.put, qb1, qb2, qb3]
        refine qwt (i := 7) (v := .int .i64 i0Q) HO HQ (by simp only [qa1, qa2, qa3]; rfl) (by kernel_rfl) (by kernel_rfl) (by kernel_rfl) (fun _ _ _ h => h) (Or.inl ⟨by first | rfl | (rw [HO.out]; kernel_rfl), ?_⟩) hS ?_
        · intro w' hSw
          go_simp
        try simp only [Act.put, qb1, qb2, qb3]
        refine qwt (i := 8) (v := .pointer (some ⟨b2, o2 + i0Q * 3, none⟩)) HO HQ (by simp only [qa1, qa2, qa3]; rfl) (by kernel_rfl) (by kernel_rfl) (by kernel_rfl) (fun _ _ _ h => h) (Or.inl ⟨by first | rfl | (rw [HO.out]; kernel_rfl), ?_⟩) hS ?_
        · intro w' hSw
          go_simp
        try simp only [Act.put, qb1, qb2, qb3]
        refine qwt (i := 9) (v := .agg #[.string (st y'.a), t1, t2]) HO HQ (by simp only [qa1, qa2, qa3]; rfl) (by kernel_rfl) (by kernel_rfl) (by kernel_rfl) (fun _ _ _ h => h) (Or.inl ⟨by first | rfl | (rw [HO.out]; kernel_rfl), ?_⟩) hS ?_
        · intro w' hSw
          obtain ⟨⟨q10, q11, q12⟩, ⟨q20, q21, q22⟩, p10, p11, p12, p20, p21, p22⟩ := SL.out _ hSw
          go_simp
        try simp only [Act.put, qb1, qb2, qb3]
        refine wpAnyH_one (i := 10) (x := 44) (R := fun v _ => v = .bool false) (by rw [HO.out]; simp only [qa1, qa2, qa3]; rfl) (by rw [HO.out]; kernel_rfl) hS ?_ ?_
        · intro K hK
          simp only [Act.put, qb1, qb2, qb3] at hK
          unfold Steps
          rw [if_pos (by rw [HO.out]; kernel_rfl)]
          go_simp
          refine (CC _ hS).mono ?_
          rintro e w9 ⟨rfl, hb9⟩
          exact hK _ _ rfl hb9
        rintro v9 w9 hv9 hb9 hS9
        obtain rfl := hv9
        clear hb9
        replace hS := hS9
        clear hS9
        try simp only [Act.put, qb1, qb2, qb3]
        refine qwt (i := 11) (v := .bool true) HO HQ (by simp only [qa1, qa2, qa3]; rfl) (by kernel_rfl) (by kernel_rfl) (by kernel_rfl) (fun _ _ _ h => h) (Or.inl ⟨by first | rfl | (rw [HO.out]; kernel_rfl), ?_⟩) hS ?_
        · intro w' hSw
          go_simp
        try simp only [Act.put, qb1, qb2, qb3]
        refine wpAnyH_done (by rw [HO.out]; kernel_rfl) ?_ _
        rw [HQ.out]
        refine NoPanic.normal ?_
        go_wp2
        go_ret
        exact ⟨ret_bool HN.out.symm, bt BW0.out hS⟩
    · have hiz : ¬ (i0Q : Int) < x.attrs.length := by omega
      have E0 : Hid (x.attrs = y.attrs) := eq_go a0 Hattrs.out hall0 (by omega)
      clear hall0
      have HN : Hid (A = true) := by
        show _ = _
        rw [HA.out]
        exact decide_eq_true (extCondD (Hneg.out) (Hc.out) (E0.out))
      go_wp2
      go_ret
      exact ⟨ret_bool HN.out.symm, BW0.out⟩
end Go.Proofs.YtemacdimdpnkeaaGreatDoor
namespace Go.Proofs.YtemacdimdpnkeaaGreatDoor
set_option maxRecDepth 20000
open Go.RowKit
set_option linter.unusedVariables false
set_option linter.unusedSimpArgs false
set_option maxHeartbeats 8000000 in
theorem sameAct_any {P1 P2 : Nat → Nat → Prop} (cs1 cs2 : List Value) (x y : ActD) (w : World) (h1 : ReT P1 w cs1 x) (h2 : ReT P2 w cs2 y) :
    Calls Tryz.prog 32 #[.agg cs1.toArray, .agg cs2.toArray] w fun e w' => e = .returned (.bool (decide (x = y))) ∧ Below w.heap.size w w' := by
  obtain ⟨v10, v11, rfl, r10, r11⟩ := h1
  obtain ⟨v20, v21, rfl, r20, r21⟩ := h2
  obtain ⟨css10, r10, hh10⟩ := r10
  have HH10 := hh10
  have le10 := hh10.len
  obtain ⟨a10, c10, rfl⟩ := r10.shape
  obtain ⟨-, l10, m10, z10⟩ := r10.row
  rw [le10] at l10 z10 ⊢
  obtain ⟨css11, r11, hh11⟩ := r11
  have HH11 := hh11
  have le11 := hh11.len
  obtain ⟨a11, c11, rfl⟩ := r11.shape
  obtain ⟨-, l11, m11, z11⟩ := r11.row
  rw [le11] at l11 z11 ⊢
  obtain ⟨css20, r20, hh20⟩ := r20
  have HH20 := hh20
  have le20 := hh20.len
  obtain ⟨a20, c20, rfl⟩ := r20.shape
  obtain ⟨-, l20, m20, z20⟩ := r20.row
  rw [le20] at l20 z20 ⊢
  obtain ⟨css21, r21, hh21⟩ := r21
  have HH21 := hh21
  have le21 := hh21.len
  obtain ⟨a21, c21, rfl⟩ := r21.shape
  obtain ⟨-, l21, m21, z21⟩ := r21.row
  rw [le21] at l21 z21 ⊢
  have R10 : Hid (∀ i, i < x.sets.length → ∃ b off, a10 = some ⟨b, off, none⟩ ∧ b < w.heap.size ∧ ∀ j, j < 2 → w.cell? ⟨b, off + (i * 2 + j), none⟩ = (css10.getD i [])[j]?) := z10
  have G10 : Hid (All2 (ReS P1 w) css10 x.sets) := HH10
  clear HH10 hh10 le10
  have R11 : Hid (∀ i, i < x.exprs.length → ∃ b off, a11 = some ⟨b, off, none⟩ ∧ b < w.heap.size ∧ ∀ j, j < 1 → w.cell? ⟨b, off + (i * 1 + j), none⟩ = (css11.getD i [])[j]?) := z11
  have G11 : Hid (All2 (ReE P1 w) css11 x.exprs) := HH11
  clear HH11 hh11 le11
  have R20 : Hid (∀ i, i < y.sets.length → ∃ b off, a20 = some ⟨b, off, none⟩ ∧ b < w.heap.size ∧ ∀ j, j < 2 → w.cell? ⟨b, off + (i * 2 + j), none⟩ = (css20.getD i [])[j]?) := z20
  have G20 : Hid (All2 (ReS P2 w) css20 y.sets) := HH20
  clear HH20 hh20 le20
  have R21 : Hid (∀ i, i < y.exprs.length → ∃ b off, a21 = some ⟨b, off, none⟩ ∧ b < w.heap.size ∧ ∀ j, j < 1 → w.cell? ⟨b, off + (i * 1 + j), none⟩ = (css21.getD i [])[j]?) := z21
  have G21 : Hid (All2 (ReE P2 w) css21 y.exprs) := HH21
  clear HH21 hh21 le21
  obtain ⟨A, hA⟩ : ∃ A, A = decide (x = y) := ⟨_, rfl⟩
  rw [← hA]
  have HA : Hid (A = decide (x = y)) := hA
  clear hA z10 r10 z11 r11 z20 r20 z21 r21
  by_cases hk : ¬ (x.k = y.k)
  · have hzk : (x.k == y.k) = false := by rw [beq_eq_false_iff_ne]; exact hk
    have HN : Hid (A = false) := by show _ = _; rw [HA.out]; exact decide_eq_false (fun e => hk (by rw [e]))
    clear HA
    go_enter Tryz.func32, Tryz.ntmps32
    go_wp2
    go_ret
    exact ⟨ret_bool HN.out.symm, bxn2t _ _ _⟩
  replace hk := Classical.not_not.1 hk
  rw [← hk]
  have Hk : Hid (x.k = y.k) := hk
  clear hk
  by_cases hc : ¬ (x.c = y.c)
  · have hzc : ((st x.c).toList == (st y.c).toList) = false := by rw [beq_eq_false_iff_ne]; exact fun e => hc (st_eq e)
    have HN : Hid (A = false) := by show _ = _; rw [HA.out]; exact decide_eq_false (fun e => hc (by rw [e]))
    clear HA hc
    go_enter Tryz.func32, Tryz.ntmps32
    go_wp2
    go_ret
    exact ⟨ret_bool HN.out.symm, bxn2t _ _ _⟩
  replace hc := Classical.not_not.1 hc
  rw [← hc]
  have Hc : Hid (x.c = y.c) := hc
  clear hc
  by_cases hn : ¬ (x.n = y.n)
  · have hzn : (x.n == y.n) = false := by rw [beq_eq_false_iff_ne]; exact hn
    have HN : Hid (A = false) := by show _ = _; rw [HA.out]; exact decide_eq_false (fun e => hn (by rw [e]))
    clear HA
    go_enter Tryz.func32, Tryz.ntmps32
    go_wp2
    go_ret
    exact ⟨ret_bool HN.out.symm, bxn2t _ _ _⟩
  replace hn := Classical.not_not.1 hn
  rw [← hn]
  have Hn : Hid (x.n = y.n) := hn
  clear hn
  by_cases hv : ¬ (x.v = y.v)
  · have hzv : ((st x.v).toList == (st y.v).toList) = false := by rw [beq_eq_false_iff_ne]; exact fun e => hv (st_eq e)
    have HN : Hid (A = false) := by show _ = _; rw [HA.out]; exact decide_eq_false (fun e => hv (by rw [e]))
    clear HA hv
    go_enter Tryz.func32, Tryz.ntmps32
    go_wp2
    go_ret
    exact ⟨ret_bool HN.out.symm, bxn2t _ _ _⟩
  replace hv := Classical.not_not.1 hv
  rw [← hv]
  have Hv : Hid (x.v = y.v) := hv
  clear hv
  by_cases hsets : ¬ (x.sets.length = y.sets.length)
  · have hzsets : ((x.sets.length : Int) == y.sets.length) = false := by rw [beq_eq_false_iff_ne]; omega
    have HN : Hid (A = false) := by show _ = _; rw [HA.out]; exact decide_eq_false (fun e => hsets (by rw [e]))
    clear HA hsets
    go_enter Tryz.func32, Tryz.ntmps32
    go_wp2
    go_ret
    exact ⟨ret_bool HN.out.symm, bxn2t _ _ _⟩
  replace hsets := Classical.not_not.1 hsets
  rw [← hsets] at l20 ⊢
  have Hsets : Hid (x.sets.length = y.sets.length) := hsets
  clear hsets
  by_cases hexprs : ¬ (x.exprs.length = y.exprs.length)
  · have hzexprs : ((x.exprs.length : Int) == y.exprs.length) = false := by rw [beq_eq_false_iff_ne]; omega
    have HN : Hid (A = false) := by show _ = _; rw [HA.out]; exact decide_eq_false (fun e => hexprs (by rw [e]))
    clear HA hexprs
    go_enter Tryz.func32, Tryz.ntmps32
    go_wp2
    go_ret
    exact ⟨ret_bool HN.out.symm, bxn2t _ _ _⟩
  replace hexprs := Classical.not_not.1 hexprs
  rw [← hexprs] at l21 ⊢
  have Hexprs : Hid (x.exprs.length = y.exprs.length) := hexprs
  clear hexprs
  have hnn0 : (x.sets.length : Int) ≤ 9223372036854775807 := by omega
  have hnn1 : (x.exprs.length : Int) ≤ 9223372036854775807 := by omega
  go_enter Tryz.func32, Tryz.ntmps32
  go_wp2
  go_loopw [5] (fun v wr => ∃ i : Nat, v = .int .i64 i ∧ i ≤ x.sets.length ∧ (∀ j, j < i → x.sets.getD j se0 = y.sets.getD j se0) ∧ Below ((w.alloc (.cells #[.int .u8 x.k, .string (st x.c), .int .i64 x.n, .string (st x.v), .slice a10 x.sets.length c10, .slice a11 x.exprs.length c11] 100)).alloc (.cells #[.int .u8 x.k, .string (st x.c), .int .i64 x.n, .string (st x.v), .slice a20 x.sets.length c20, .slice a21 x.exprs.length c21] 100)).heap.size ((w.alloc (.cells #[.int .u8 x.k, .string (st x.c), .int .i64 x.n, .string (st x.v), .slice a10 x.sets.length c10, .slice a11 x.exprs.length c11] 100)).alloc (.cells #[.int .u8 x.k, .string (st x.c), .int .i64 x.n, .string (st x.v), .slice a20 x.sets.length c20, .slice a21 x.exprs.length c21] 100)) wr) (fun v _ => (x.sets.length - intOf v).toNat)
  case atStart => exact ⟨0, rfl, Nat.zero_le _, fun j hj => absurd hj (Nat.not_lt_zero _), Below.refl _ _⟩
  case round =>
    obtain ⟨i0Q, rfl, hi0, hall0, hbr0⟩ := hrel
    obtain ⟨wq0, hwq⟩ : ∃ wq, wq = wr := ⟨_, rfl⟩
    subst hwq
    have BW0 : Hid (Below w.heap.size w wq0) := bt (bxn2t _ _ _) hbr0
    have p10 : wq0.cell? ⟨w.heap.size, 0, none⟩ = some (.int .u8 x.k) := by rw [hbr0.cell (p := ⟨w.heap.size, 0, none⟩) (by simp <;> omega)]; go_simp
    have p11 : wq0.cell? ⟨w.heap.size, 1, none⟩ = some (.string (st x.c)) := by rw [hbr0.cell (p := ⟨w.heap.size, 1, none⟩) (by simp <;> omega)]; go_simp
    have p12 : wq0.cell? ⟨w.heap.size, 2, none⟩ = some (.int .i64 x.n) := by rw [hbr0.cell (p := ⟨w.heap.size, 2, none⟩) (by simp <;> omega)]; go_simp
    have p13 : wq0.cell? ⟨w.heap.size, 3, none⟩ = some (.string (st x.v)) := by rw [hbr0.cell (p := ⟨w.heap.size, 3, none⟩) (by simp <;> omega)]; go_simp
    have p14 : wq0.cell? ⟨w.heap.size, 4, none⟩ = some (.slice a10 x.sets.length c10) := by rw [hbr0.cell (p := ⟨w.heap.size, 4, none⟩) (by simp <;> omega)]; go_simp
    have p15 : wq0.cell? ⟨w.heap.size, 5, none⟩ = some (.slice a11 x.exprs.length c11) := by rw [hbr0.cell (p := ⟨w.heap.size, 5, none⟩) (by simp <;> omega)]; go_simp
    have p20 : wq0.cell? ⟨w.heap.size + 1, 0, none⟩ = some (.int .u8 x.k) := by rw [hbr0.cell (p := ⟨w.heap.size + 1, 0, none⟩) (by simp <;> omega)]; go_simp
    have p21 : wq0.cell? ⟨w.heap.size + 1, 1, none⟩ = some (.string (st x.c)) := by rw [hbr0.cell (p := ⟨w.heap.size + 1, 1, none⟩) (by simp <;> omega)]; go_simp
    have p22 : wq0.cell? ⟨w.heap.size + 1, 2, none⟩ = some (.int .i64 x.n) := by rw [hbr0.cell (p := ⟨w.heap.size + 1, 2, none⟩) (by simp <;> omega)]; go_simp
    have p23 : wq0.cell? ⟨w.heap.size + 1, 3, none⟩ = some (.string (st x.v)) := by rw [hbr0.cell (p := ⟨w.heap.size + 1, 3, none⟩) (by simp <;> omega)]; go_simp
    have p24 : wq0.cell? ⟨w.heap.size + 1, 4, none⟩ = some (.slice a20 x.sets.length c20) := by rw [hbr0.cell (p := ⟨w.heap.size + 1, 4, none⟩) (by simp <;> omega)]; go_simp
    have p25 : wq0.cell? ⟨w.heap.size + 1, 5, none⟩ = some (.slice a21 x.exprs.length c21) := by rw [hbr0.cell (p := ⟨w.heap.size + 1, 5, none⟩) (by simp <;> omega)]; go_simp
    by_cases hlt0 : i0Q < x.sets.length
    · have hiz : (i0Q : Int) < x.sets.length := by omega
      obtain ⟨b1, o1, rfl, hb1, q1⟩ := R10.out i0Q hlt0
      obtain ⟨b2, o2, rfl, hb2, q2⟩ := R20.out i0Q (by have := Hsets.out; omega)
      have e1 := G10.out.at i0Q [] se0 hlt0
      have e2 := G20.out.at i0Q [] se0 (by have := Hsets.out; omega)
      by_cases heq : x.sets.getD i0Q se0 = y.sets.getD i0Q se0
      · have HALL : Hid (∀ j, j < i0Q + 1 → x.sets.getD j se0 = y.sets.getD j se0) := fun j hj => by
          rcases Nat.lt_or_ge j i0Q with h | h
          · exact hall0 j h
          · obtain rfl : j = i0Q := by omega
            exact heq
        generalize x.sets.getD i0Q se0 = x' at *
        generalize y.sets.getD i0Q se0 = y' at *
        subst heq
        obtain ⟨u1, ec1, ku1⟩ := e1
        obtain ⟨t1, ec2, kt1⟩ := e2
        rw [ec1] at q1
        rw [ec2] at q2
        have SL : Hid (∀ W, Below wq0.heap.size wq0 W → (W.cell? ⟨b1, o1 + i0Q * 2, none⟩ = some (.string (st x'.a)) ∧ W.cell? ⟨b1, o1 + i0Q * 2 + 1, none⟩ = some (u1)) ∧ (W.cell? ⟨b2, o2 + i0Q * 2, none⟩ = some (.string (st x'.a)) ∧ W.cell? ⟨b2, o2 + i0Q * 2 + 1, none⟩ = some (t1)) ∧ W.cell? ⟨w.heap.size, 0, none⟩ = some (.int .u8 x.k) ∧ W.cell? ⟨w.heap.size, 1, none⟩ = some (.string (st x.c)) ∧ W.cell? ⟨w.heap.size, 2, none⟩ = some (.int .i64 x.n) ∧ W.cell? ⟨w.heap.size, 3, none⟩ = some (.string (st x.v)) ∧ W.cell? ⟨w.heap.size, 4, none⟩ = some (.slice (some ⟨b1, o1, none⟩) x.sets.length c10) ∧ W.cell? ⟨w.heap.size, 5, none⟩ = some (.slice a11 x.exprs.length c11) ∧ W.cell? ⟨w.heap.size + 1, 0, none⟩ = some (.int .u8 x.k) ∧ W.cell? ⟨w.heap.size + 1, 1, none⟩ = some (.string (st x.c)) ∧ W.cell? ⟨w.heap.size + 1, 2, none⟩ = some (.int .i64 x.n) ∧ W.cell? ⟨w.heap.size + 1, 3, none⟩ = some (.string (st x.v)) ∧ W.cell? ⟨w.heap.size + 1, 4, none⟩ = some (.slice (some ⟨b2, o2, none⟩) x.sets.length c20) ∧ W.cell? ⟨w.heap.size + 1, 5, none⟩ = some (.slice a21 x.exprs.length c21)) := fun W hW => ⟨⟨((bt BW0.out hW).cell (p := ⟨b1, o1 + i0Q * 2, none⟩) hb1).trans (q1 0 (by decide)), ((bt BW0.out hW).cell (p := ⟨b1, o1 + i0Q * 2 + 1, none⟩) hb1).trans (q1 1 (by decide))⟩, ⟨((bt BW0.out hW).cell (p := ⟨b2, o2 + i0Q * 2, none⟩) hb2).trans (q2 0 (by decide)), ((bt BW0.out hW).cell (p := ⟨b2, o2 + i0Q * 2 + 1, none⟩) hb2).trans (q2 1 (by decide))⟩, (hW.cell (p := ⟨w.heap.size, 0, none⟩) (by have := hbr0.size; simp at this; show w.heap.size < _; omega)).trans p10, (hW.cell (p := ⟨w.heap.size, 1, none⟩) (by have := hbr0.size; simp at this; show w.heap.size < _; omega)).trans p11, (hW.cell (p := ⟨w.heap.size, 2, none⟩) (by have := hbr0.size; simp at this; show w.heap.size < _; omega)).trans p12, (hW.cell (p := ⟨w.heap.size, 3, none⟩) (by have := hbr0.size; simp at this; show w.heap.size < _; omega)).trans p13, (hW.cell (p := ⟨w.heap.size, 4, none⟩) (by have := hbr0.size; simp at this; show w.heap.size < _; omega)).trans p14, (hW.cell (p := ⟨w.heap.size, 5, none⟩) (by have := hbr0.size; simp at this; show w.heap.size < _; omega)).trans p15, (hW.cell (p := ⟨w.heap.size + 1, 0, none⟩) (by have := hbr0.size; simp at this; show w.heap.size + 1 < _; omega)).trans p20, (hW.cell (p := ⟨w.heap.size + 1, 1, none⟩) (by have := hbr0.size; simp at this; show w.heap.size + 1 < _; omega)).trans p21, (hW.cell (p := ⟨w.heap.size + 1, 2, none⟩) (by have := hbr0.size; simp at this; show w.heap.size + 1 < _; omega)).trans p22, (hW.cell (p := ⟨w.heap.size + 1, 3, none⟩) (by have := hbr0.size; simp at this; show w.heap.size + 1 < _; omega)).trans p23, (hW.cell (p := ⟨w.heap.size + 1, 4, none⟩) (by have := hbr0.size; simp at this; show w.heap.size + 1 < _; omega)).trans p24, (hW.cell (p := ⟨w.heap.size + 1, 5, none⟩) (by have := hbr0.size; simp at this; show w.heap.size + 1 < _; omega)).trans p25⟩
        have CC : ∀ W, Below wq0.heap.size wq0 W → Calls Tryz.prog 68 #[u1, t1] W fun e w' => e = .returned (.bool true) ∧ Below W.heap.size W w' := fun W hW => (sameItems_any u1 t1 x'.e x'.e W (ku1.keep (Stays.below (bt BW0.out hW))) (kt1.keep (Stays.below (bt BW0.out hW)))).mono (by rintro e w' ⟨rfl, hb⟩; exact ⟨by rw [decide_eq_true rfl], hb⟩); clear ec1 ec2 ku1 kt1
        clear q1 q2 hall0
        go_wp2_with fail
        refine wp_region_noPanic ?_
        refine name_ops ?_
        intro O QQ HO HQ
        refine wp_region_held_drew (S := fun W => Below wq0.heap.size wq0 W) (by kernel_rfl) (Below.refl _ _).drew (fun hS => ?_)
        rw [show O.size = 29 by rw [HO.out]; rfl]
        refine qwt (i := 0) (v := .pointer (some ⟨w.heap.size, 4, none⟩)) HO HQ (by simp only [qa1, qa2, qa3]; rfl) (by kernel_rfl) (by kernel_rfl) (by kernel_rfl) (fun _ _ _ h => h) (Or.inl ⟨by first | rfl | (rw [HO.out]; kernel_rfl), ?_⟩) hS ?_
        · intro w' hSw
          go_simp
        try simp only [Act.put, qb1, qb2, qb3]
        refine qwt (i := 1) (v := .slice (some ⟨b1, o1, none⟩) x.sets.length c10) HO HQ (by simp only [qa1, qa2, qa3]; rfl) (by kernel_rfl) (by kernel_rfl) (by kernel_rfl) (fun _ _ _ h => h) (Or.inl ⟨by first | rfl | (rw [HO.out]; kernel_rfl), ?_⟩) hS ?_
        · intro w' hSw
          obtain ⟨⟨q10, q11⟩, ⟨q20, q21⟩, p10, p11, p12, p13, p14, p15, p20, p21, p22, p23, p24, p25⟩ := SL.out _ hSw
          go_simp
        try simp only [Act.put, qb1, qb2, qb3]
        refine qwt (i := 2) (v := .int .i64 i0Q) HO HQ (by simp only [qa1, qa2, qa3]; rfl) (by kernel_rfl) (by kernel_rfl) (by kernel_rfl) (fun _ _ _ h => h) (Or.inl ⟨by first | rfl | (rw [HO.out]; kernel_rfl), ?_⟩) hS ?_
        · intro w' hSw
          go_simp
        try simp only [Act.put, qb1, qb2, qb3]
        refine qwt (i := 3) (v := .pointer (some ⟨b1, o1 + i0Q * 2, none⟩)) HO HQ (by simp only [qa1, qa2, qa3]; rfl) (by kernel_rfl) (by kernel_rfl) (by kernel_rfl) (fun _ _ _ h => h) (Or.inl ⟨by first | rfl | (rw [HO.out]; kernel_rfl), ?_⟩) hS ?_
        · intro w' hSw
          go_simp
        try simp only [Act.put, qb1, qb2, qb3]
        refine qwt (i := 4) (v := .pointer (some ⟨b1, o1 + i0Q * 2, none⟩)) HO HQ (by simp only [qa1, qa2, qa3]; rfl) (by kernel_rfl) (by kernel_rfl) (by kernel_rfl) (fun _ _ _ h => h) (Or.inl ⟨by first | rfl | (rw [HO.out]; kernel_rfl), ?_⟩) hS ?_
        · intro w' hSw
          go_simp
        try simp only [Act.put, qb1, qb2, qb3]
        refine qwt (i := 5) (v := .string (st x'.a)) HO HQ (by simp only [qa1, qa2, qa3]; rfl) (by kernel_rfl) (by kernel_rfl) (by kernel_rfl) (fun _ _ _ h => h) (Or.inl ⟨by first | rfl | (rw [HO.out]; kernel_rfl), ?_⟩) hS ?_
        · intro w' hSw
          obtain ⟨⟨q10, q11⟩, ⟨q20, q21⟩, p10, p11, p12, p13, p14, p15, p20, p21, p22, p23, p24, p25⟩ := SL.out _ hSw
          go_simp
        try simp only [Act.put, qb1, qb2, qb3]
        refine qwt (i := 6) (v := .pointer (some ⟨w.heap.size + 1, 4, none⟩)) HO HQ (by simp only [qa1, qa2, qa3]; rfl) (by kernel_rfl) (by kernel_rfl) (by kernel_rfl) (fun _ _ _ h => h) (Or.inl ⟨by first | rfl | (rw [HO.out]; kernel_rfl), ?_⟩) hS ?_
        · intro w' hSw
          go_simp
        try simp only [Act.put, qb1, qb2, qb3]
        refine qwt (i := 7) (v := .slice (some ⟨b2, o2, none⟩) x.sets.length c20) HO HQ (by simp only [qa1, qa2, qa3]; rfl) (by kernel_rfl) (by kernel_rfl) (by kernel_rfl) (fun _ _ _ h => h) (Or.inl ⟨by first | rfl | (rw [HO.out]; kernel_rfl), ?_⟩) hS ?_
        · intro w' hSw
          obtain ⟨⟨q10, q11⟩, ⟨q20, q21⟩, p10, p11, p12, p13, p14, p15, p20, p21, p22, p23, p24, p25⟩ := SL.out _ hSw
          go_simp
        try simp only [Act.put, qb1, qb2, qb3]
        refine qwt (i := 8) (v := .int .i64 i0Q) HO HQ (by simp only [qa1, qa2, qa3]; rfl) (by kernel_rfl) (by kernel_rfl) (by kernel_rfl) (fun _ _ _ h => h) (Or.inl ⟨by first | rfl | (rw [HO.out]; kernel_rfl), ?_⟩) hS ?_
        · intro w' hSw
          go_simp
        try simp only [Act.put, qb1, qb2, qb3]
        refine qwt (i := 9) (v := .pointer (some ⟨b2, o2 + i0Q * 2, none⟩)) HO HQ (by simp only [qa1, qa2, qa3]; rfl) (by kernel_rfl) (by kernel_rfl) (by kernel_rfl) (fun _ _ _ h => h) (Or.inl ⟨by first | rfl | (rw [HO.out]; kernel_rfl), ?_⟩) hS ?_
        · intro w' hSw
          go_simp
        try simp only [Act.put, qb1, qb2, qb3]
        refine qwt (i := 10) (v := .pointer (some ⟨b2, o2 + i0Q * 2, none⟩)) HO HQ (by simp only [qa1, qa2, qa3]; rfl) (by kernel_rfl) (by kernel_rfl) (by kernel_rfl) (fun _ _ _ h => h) (Or.inl ⟨by first | rfl | (rw [HO.out]; kernel_rfl), ?_⟩) hS ?_
        · intro w' hSw
          go_simp
        try simp only [Act.put, qb1, qb2, qb3]
        refine qwt (i := 11) (v := .string (st x'.a)) HO HQ (by simp only [qa1, qa2, qa3]; rfl) (by kernel_rfl) (by kernel_rfl) (by kernel_rfl) (fun _ _ _ h => h) (Or.inl ⟨by first | rfl | (rw [HO.out]; kernel_rfl), ?_⟩) hS ?_
        · intro w' hSw
          obtain ⟨⟨q10, q11⟩, ⟨q20, q21⟩, p10, p11, p12, p13, p14, p15, p20, p21, p22, p23, p24, p25⟩ := SL.out _ hSw
          go_simp
        try simp only [Act.put, qb1, qb2, qb3]
        refine qwt (i := 12) (v := .bool false) HO HQ (by simp only [qa1, qa2, qa3]; rfl) (by kernel_rfl) (by kernel_rfl) (by kernel_rfl) (fun _ _ _ h => h) (Or.inl ⟨by first | rfl | (rw [HO.out]; kernel_rfl), ?_⟩) hS ?_
        · intro w' hSw
          go_simp
        try simp only [Act.put, qb1, qb2, qb3]
        refine qwt (i := 13) (v := .bool false) HO HQ (by simp only [qa1, qa2, qa3]; rfl) (by kernel_rfl) (by kernel_rfl) (by kernel_rfl) (fun _ _ _ h => h) (Or.inl ⟨by first | rfl | (rw [HO.out]; kernel_rfl), ?_⟩) hS ?_
        · intro w' hSw
          go_simp
        try simp only [Act.put, qb1, qb2, qb3]
        refine qwt (i := 14) (v := .pointer (some ⟨w.heap.size, 4, none⟩)) HO HQ (by simp only [qa1, qa2, qa3]; rfl) (by kernel_rfl) (by kernel_rfl) (by kernel_rfl) (fun _ _ _ h => h) (Or.inl ⟨by first | rfl | (rw [HO.out]; kernel_rfl), ?_⟩) hS ?_
        · intro w' hSw
          go_simp
        try simp only [Act.put, qb1, qb2, qb3]
        refine qwt (i := 15) (v := .slice (some ⟨b1, o1, none⟩) x.sets.length c10) HO HQ (by simp only [qa1, qa2, qa3]; rfl) (by kernel_rfl) (by kernel_rfl) (by kernel_rfl) (fun _ _ _ h => h) (Or.inl ⟨by first | rfl | (rw [HO.out]; kernel_rfl), ?_⟩) hS ?_
        · intro w' hSw
          obtain ⟨⟨q10, q11⟩, ⟨q20, q21⟩, p10, p11, p12, p13, p14, p15, p20, p21, p22, p23, p24, p25⟩ := SL.out _ hSw
          go_simp
        try simp only [Act.put, qb1, qb2, qb3]
        refine qwt (i := 16) (v := .int .i64 i0Q) HO HQ (by simp only [qa1, qa2, qa3]; rfl) (by kernel_rfl) (by kernel_rfl) (by kernel_rfl) (fun _ _ _ h => h) (Or.inl ⟨by first | rfl | (rw [HO.out]; kernel_rfl), ?_⟩) hS ?_
        · intro w' hSw
          go_simp
        try simp only [Act.put, qb1, qb2, qb3]
        refine qwt (i := 17) (v := .pointer (some ⟨b1, o1 + i0Q * 2, none⟩)) HO HQ (by simp only [qa1, qa2, qa3]; rfl) (by kernel_rfl) (by kernel_rfl) (by kernel_rfl) (fun _ _ _ h => h) (Or.inl ⟨by first | rfl | (rw [HO.out]; kernel_rfl), ?_⟩) hS ?_
        · intro w' hSw
          go_simp
        try simp only [Act.put, qb1, qb2, qb3]
        refine qwt (i := 18) (v := .pointer (some ⟨b1, o1 + i0Q * 2 + 1, none⟩)) HO HQ (by simp only [qa1, qa2, qa3]; rfl) (by kernel_rfl) (by kernel_rfl) (by kernel_rfl) (fun _ _ _ h => h) (Or.inl ⟨by first | rfl | (rw [HO.out]; kernel_rfl), ?_⟩) hS ?_
        · intro w' hSw
          go_simp
        try simp only [Act.put, qb1, qb2, qb3]
        refine qwt (i := 19) (v := u1) HO HQ (by simp only [qa1, qa2, qa3]; rfl) (by kernel_rfl) (by kernel_rfl) (by kernel_rfl) (fun _ _ _ h => h) (Or.inl ⟨by first | rfl | (rw [HO.out]; kernel_rfl), ?_⟩) hS ?_
        · intro w' hSw
          obtain ⟨⟨q10, q11⟩, ⟨q20, q21⟩, p10, p11, p12, p13, p14, p15, p20, p21, p22, p23, p24, p25⟩ := SL.out _ hSw
          go_simp
        try simp only [Act.put, qb1, qb2, qb3]
        refine qwt (i := 20) (v := .pointer (some ⟨w.heap.size + 1, 4, none⟩)) HO HQ (by simp only [qa1, qa2, qa3]; rfl) (by kernel_rfl) (by kernel_rfl) (by kernel_rfl) (fun _ _ _ h => h) (Or.inl ⟨by first | rfl | (rw [HO.out]; kernel_rfl), ?_⟩) hS ?_
        · intro w' hSw
          go_simp
        try simp only [Act.put, qb1, qb2, qb3]
        refine qwt (i := 21) (v := .slice (some ⟨b2, o2, none⟩) x.sets.length c20) HO HQ (by simp only [qa1, qa2, qa3]; rfl) (by kernel_rfl) (by kernel_rfl) (by kernel_rfl) (fun _ _ _ h => h) (Or.inl ⟨by first | rfl | (rw [HO.out]; kernel_rfl), ?_⟩) hS ?_
        · intro w' hSw
          obtain ⟨⟨q10, q11⟩, ⟨q20, q21⟩, p10, p11, p12, p13, p14, p15, p20, p21, p22, p23, p24, p25⟩ := SL.out _ hSw
          go_simp
        try simp only [Act.put, qb1, qb2, qb3]
        refine qwt (i := 22) (v := .int .i64 i0Q) HO HQ (by simp only [qa1, qa2, qa3]; rfl) (by kernel_rfl) (by kernel_rfl) (by kernel_rfl) (fun _ _ _ h => h) (Or.inl ⟨by first | rfl | (rw [HO.out]; kernel_rfl), ?_⟩) hS ?_
        · intro w' hSw
          go_simp
        try simp only [Act.put, qb1, qb2, qb3]
        refine qwt (i := 23) (v := .pointer (some ⟨b2, o2 + i0Q * 2, none⟩)) HO HQ (by simp only [qa1, qa2, qa3]; rfl) (by kernel_rfl) (by kernel_rfl) (by kernel_rfl) (fun _ _ _ h => h) (Or.inl ⟨by first | rfl | (rw [HO.out]; kernel_rfl), ?_⟩) hS ?_
        · intro w' hSw
          go_simp
        try simp only [Act.put, qb1, qb2, qb3]
        refine qwt (i := 24) (v := .pointer (some ⟨b2, o2 + i0Q * 2 + 1, none⟩)) HO HQ (by simp only [qa1, qa2, qa3]; rfl) (by kernel_rfl) (by kernel_rfl) (by kernel_rfl) (fun _ _ _ h => h) (Or.inl ⟨by first | rfl | (rw [HO.out]; kernel_rfl), ?_⟩) hS ?_
        · intro w' hSw
          go_simp
        try simp only [Act.put, qb1, qb2, qb3]
        refine qwt (i := 25) (v := t1) HO HQ (by simp only [qa1, qa2, qa3]; rfl) (by kernel_rfl) (by kernel_rfl) (by kernel_rfl) (fun _ _ _ h => h) (Or.inl ⟨by first | rfl | (rw [HO.out]; kernel_rfl), ?_⟩) hS ?_
        · intro w' hSw
          obtain ⟨⟨q10, q11⟩, ⟨q20, q21⟩, p10, p11, p12, p13, p14, p15, p20, p21, p22, p23, p24, p25⟩ := SL.out _ hSw
          go_simp
        try simp only [Act.put, qb1, qb2, qb3]
        refine wpAnyH_one (i := 26) (x := 84) (R := fun v _ => v = .bool true) (by rw [HO.out]; simp only [qa1, qa2, qa3]; rfl) (by rw [HO.out]; kernel_rfl) hS ?_ ?_
        · intro K hK
          simp only [Act.put, qb1, qb2, qb3] at hK
          unfold Steps
          rw [if_pos (by rw [HO.out]; kernel_rfl)]
          go_simp
          refine (CC _ hS).mono ?_
          rintro e w9 ⟨rfl, hb9⟩
          exact hK _ _ rfl hb9
        rintro v9 w9 hv9 hb9 hS9
        obtain rfl := hv9
        clear hb9
        replace hS := hS9
        clear hS9
        try simp only [Act.put, qb1, qb2, qb3]
        refine qwt (i := 27) (v := .bool false) HO HQ (by simp only [qa1, qa2, qa3]; rfl) (by kernel_rfl) (by kernel_rfl) (by kernel_rfl) (fun _ _ _ h => h) (Or.inl ⟨by first | rfl | (rw [HO.out]; kernel_rfl), ?_⟩) hS ?_
        · intro w' hSw
          go_simp
        try simp only [Act.put, qb1, qb2, qb3]
        refine qwt (i := 28) (v := .bool false) HO HQ (by simp only [qa1, qa2, qa3]; rfl) (by kernel_rfl) (by kernel_rfl) (by kernel_rfl) (fun _ _ _ h => h) (Or.inl ⟨by first | rfl | (rw [HO.out]; kernel_rfl), ?_⟩) hS ?_
        · intro w' hSw
          go_simp
        try simp only [Act.put, qb1, qb2, qb3]
        refine wpAnyH_done (by rw [HO.out]; kernel_rfl) ?_ _
        rw [HQ.out]
        refine NoPanic.normal ?_
        go_wp2
        go_roundw
        case rel => exact ⟨i0Q + 1, by simp, by omega, HALL.out, bt hbr0 hS⟩
        case measure => simp [intOf]; omega
      · have HN : Hid (A = false) := by show _ = _; rw [HA.out]; exact decide_eq_false (fun e => heq (by rw [e]))
        generalize x.sets.getD i0Q se0 = x' at *
        generalize y.sets.getD i0Q se0 = y' at *
        obtain ⟨u1, ec1, ku1⟩ := e1
        obtain ⟨t1, ec2, kt1⟩ := e2
        rw [ec1] at q1
        rw [ec2] at q2
        by_cases ha : ¬ x'.a = y'.a
        · have hza : ((st x'.a).toList == (st y'.a).toList) = false := by rw [beq_eq_false_iff_ne]; exact fun e => ha (st_eq e)
          have SL : Hid (∀ W, Below wq0.heap.size wq0 W → (W.cell? ⟨b1, o1 + i0Q * 2, none⟩ = some (.string (st x'.a)) ∧ W.cell? ⟨b1, o1 + i0Q * 2 + 1, none⟩ = some (u1)) ∧ (W.cell? ⟨b2, o2 + i0Q * 2, none⟩ = some (.string (st y'.a)) ∧ W.cell? ⟨b2, o2 + i0Q * 2 + 1, none⟩ = some (t1)) ∧ W.cell? ⟨w.heap.size, 0, none⟩ = some (.int .u8 x.k) ∧ W.cell? ⟨w.heap.size, 1, none⟩ = some (.string (st x.c)) ∧ W.cell? ⟨w.heap.size, 2, none⟩ = some (.int .i64 x.n) ∧ W.cell? ⟨w.heap.size, 3, none⟩ = some (.string (st x.v)) ∧ W.cell? ⟨w.heap.size, 4, none⟩ = some (.slice (some ⟨b1, o1, none⟩) x.sets.length c10) ∧ W.cell? ⟨w.heap.size, 5, none⟩ = some (.slice a11 x.exprs.length c11) ∧ W.cell? ⟨w.heap.size + 1, 0, none⟩ = some (.int .u8 x.k) ∧ W.cell? ⟨w.heap.size + 1, 1, none⟩ = some (.string (st x.c)) ∧ W.cell? ⟨w.heap.size + 1, 2, none⟩ = some (.int .i64 x.n) ∧ W.cell? ⟨w.heap.size + 1, 3, none⟩ = some (.string (st x.v)) ∧ W.cell? ⟨w.heap.size + 1, 4, none⟩ = some (.slice (some ⟨b2, o2, none⟩) x.sets.length c20) ∧ W.cell? ⟨w.heap.size + 1, 5, none⟩ = some (.slice a21 x.exprs.length c21)) := fun W hW => ⟨⟨((bt BW0.out hW).cell (p := ⟨b1, o1 + i0Q * 2, none⟩) hb1).trans (q1 0 (by decide)), ((bt BW0.out hW).cell (p := ⟨b1, o1 + i0Q * 2 + 1, none⟩) hb1).trans (q1 1 (by decide))⟩, ⟨((bt BW0.out hW).cell (p := ⟨b2, o2 + i0Q * 2, none⟩) hb2).trans (q2 0 (by decide)), ((bt BW0.out hW).cell (p := ⟨b2, o2 + i0Q * 2 + 1, none⟩) hb2).trans (q2 1 (by decide))⟩, (hW.cell (p := ⟨w.heap.size, 0, none⟩) (by have := hbr0.size; simp at this; show w.heap.size < _; omega)).trans p10, (hW.cell (p := ⟨w.heap.size, 1, none⟩) (by have := hbr0.size; simp at this; show w.heap.size < _; omega)).trans p11, (hW.cell (p := ⟨w.heap.size, 2, none⟩) (by have := hbr0.size; simp at this; show w.heap.size < _; omega)).trans p12, (hW.cell (p := ⟨w.heap.size, 3, none⟩) (by have := hbr0.size; simp at this; show w.heap.size < _; omega)).trans p13, (hW.cell (p := ⟨w.heap.size, 4, none⟩) (by have := hbr0.size; simp at this; show w.heap.size < _; omega)).trans p14, (hW.cell (p := ⟨w.heap.size, 5, none⟩) (by have := hbr0.size; simp at this; show w.heap.size < _; omega)).trans p15, (hW.cell (p := ⟨w.heap.size + 1, 0, none⟩) (by have := hbr0.size; simp at this; show w.heap.size + 1 < _; omega)).trans p20, (hW.cell (p := ⟨w.heap.size + 1, 1, none⟩) (by have := hbr0.size; simp at this; show w.heap.size + 1 < _; omega)).trans p21, (hW.cell (p := ⟨w.heap.size + 1, 2, none⟩) (by have := hbr0.size; simp at this; show w.heap.size + 1 < _; omega)).trans p22, (hW.cell (p := ⟨w.heap.size + 1, 3, none⟩) (by have := hbr0.size; simp at this; show w.heap.size + 1 < _; omega)).trans p23, (hW.cell (p := ⟨w.heap.size + 1, 4, none⟩) (by have := hbr0.size; simp at this; show w.heap.size + 1 < _; omega)).trans p24, (hW.cell (p := ⟨w.heap.size + 1, 5, none⟩) (by have := hbr0.size; simp at this; show w.heap.size + 1 < _; omega)).trans p25⟩
          clear ec1 ec2 ku1 kt1 ha
          clear q1 q2 hall0 heq
          go_wp2_with fail
          refine wp_region_noPanic ?_
          refine name_ops ?_
          intro O QQ HO HQ
          refine wp_region_held_drew (S := fun W => Below wq0.heap.size wq0 W) (by kernel_rfl) (Below.refl _ _).drew (fun hS => ?_)
          rw [show O.size = 29 by rw [HO.out]; rfl]
          refine qwt (i := 0) (v := .pointer (some ⟨w.heap.size, 4, none⟩)) HO HQ (by simp only [qa1, qa2, qa3]; rfl) (by kernel_rfl) (by kernel_rfl) (by kernel_rfl) (fun _ _ _ h => h) (Or.inl ⟨by first | rfl | (rw [HO.out]; kernel_rfl), ?_⟩) hS ?_
          · intro w' hSw
            go_simp
          try simp only [Act.put, qb1, qb2, qb3]
          refine qwt (i := 1) (v := .slice (some ⟨b1, o1, none⟩) x.sets.length c10) HO HQ (by simp only [qa1, qa2, qa3]; rfl) (by kernel_rfl) (by kernel_rfl) (by kernel_rfl) (fun _ _ _ h => h) (Or.inl ⟨by first | rfl | (rw [HO.out]; kernel_rfl), ?_⟩) hS ?_
          · intro w' hSw
            obtain ⟨⟨q10, q11⟩, ⟨q20, q21⟩, p10, p11, p12, p13, p14, p15, p20, p21, p22, p23, p24, p25⟩ := SL.out _ hSw
            go_simp
          try simp only [Act.put, qb1, qb2, qb3]
          refine qwt (i := 2) (v := .int .i64 i0Q) HO HQ (by simp only [qa1, qa2, qa3]; rfl) (by kernel_rfl) (by kernel_rfl) (by kernel_rfl) (fun _ _ _ h => h) (Or.inl ⟨by first | rfl | (rw [HO.out]; kernel_rfl), ?_⟩) hS ?_
          · intro w' hSw
            go_simp
          try simp only [Act.put, qb1, qb2, qb3]
          refine qwt (i := 3) (v := .pointer (some ⟨b1, o1 + i0Q * 2, none⟩)) HO HQ (by simp only [qa1, qa2, qa3]; rfl) (by kernel_rfl) (by kernel_rfl) (by kernel_rfl) (fun _ _ _ h => h) (Or.inl ⟨by first | rfl | (rw [HO.out]; kernel_rfl), ?_⟩) hS ?_
          · intro w' hSw
            go_simp
          try simp only [Act.put, qb1, qb2, qb3]
          refine qwt (i := 4) (v := .pointer (some ⟨b1, o1 + i0Q * 2, none⟩)) HO HQ (by simp only [qa1, qa2, qa3]; rfl) (by kernel_rfl) (by kernel_rfl) (by kernel_rfl) (fun _ _ _ h => h) (Or.inl ⟨by first | rfl | (rw [HO.out]; kernel_rfl), ?_⟩) hS ?_
          · intro w' hSw
            go_simp
          try simp only [Act.put, qb1, qb2, qb3]
          refine qwt (i := 5) (v := .string (st x'.a)) HO HQ (by simp only [qa1, qa2, qa3]; rfl) (by kernel_rfl) (by kernel_rfl) (by kernel_rfl) (fun _ _ _ h => h) (Or.inl ⟨by first | rfl | (rw [HO.out]; kernel_rfl), ?_⟩) hS ?_
          · intro w' hSw
            obtain ⟨⟨q10, q11⟩, ⟨q20, q21⟩, p10, p11, p12, p13, p14, p15, p20, p21, p22, p23, p24, p25⟩ := SL.out _ hSw
            go_simp
          try simp only [Act.put, qb1, qb2, qb3]
          refine qwt (i := 6) (v := .pointer (some ⟨w.heap.size + 1, 4, none⟩)) HO HQ (by simp only [qa1, qa2, qa3]; rfl) (by kernel_rfl) (by kernel_rfl) (by kernel_rfl) (fun _ _ _ h => h) (Or.inl ⟨by first | rfl | (rw [HO.out]; kernel_rfl), ?_⟩) hS ?_
          · intro w' hSw
            go_simp
          try simp only [Act.put, qb1, qb2, qb3]
          refine qwt (i := 7) (v := .slice (some ⟨b2, o2, none⟩) x.sets.length c20) HO HQ (by simp only [qa1, qa2, qa3]; rfl) (by kernel_rfl) (by kernel_rfl) (by kernel_rfl) (fun _ _ _ h => h) (Or.inl ⟨by first | rfl | (rw [HO.out]; kernel_rfl), ?_⟩) hS ?_
          · intro w' hSw
            obtain ⟨⟨q10, q11⟩, ⟨q20, q21⟩, p10, p11, p12, p13, p14, p15, p20, p21, p22, p23, p24, p25⟩ := SL.out _ hSw
            go_simp
          try simp only [Act.put, qb1, qb2, qb3]
          refine qwt (i := 8) (v := .int .i64 i0Q) HO HQ (by simp only [qa1, qa2, qa3]; rfl) (by kernel_rfl) (by kernel_rfl) (by kernel_rfl) (fun _ _ _ h => h) (Or.inl ⟨by first | rfl | (rw [HO.out]; kernel_rfl), ?_⟩) hS ?_
          · intro w' hSw
            go_simp
          try simp only [Act.put, qb1, qb2, qb3]
          refine qwt (i := 9) (v := .pointer (some ⟨b2, o2 + i0Q * 2, none⟩)) HO HQ (by simp only [qa1, qa2, qa3]; rfl) (by kernel_rfl) (by kernel_rfl) (by kernel_rfl) (fun _ _ _ h => h) (Or.inl ⟨by first | rfl | (rw [HO.out]; kernel_rfl), ?_⟩) hS ?_
          · intro w' hSw
            go_simp
          try simp only [Act.put, qb1, qb2, qb3]
          refine qwt (i := 10) (v := .pointer (some ⟨b2, o2 + i0Q * 2, none⟩)) HO HQ (by simp only [qa1, qa2, qa3]; rfl) (by kernel_rfl) (by kernel_rfl) (by kernel_rfl) (fun _ _ _ h => h) (Or.inl ⟨by first | rfl | (rw [HO.out]; kernel_rfl), ?_⟩) hS ?_
          · intro w' hSw
            go_simp
          try simp only [Act.put, qb1, qb2, qb3]
          refine qwt (i := 11) (v := .string (st y'.a)) HO HQ (by simp only [qa1, qa2, qa3]; rfl) (by kernel_rfl) (by kernel_rfl) (by kernel_rfl) (fun _ _ _ h => h) (Or.inl ⟨by first | rfl | (rw [HO.out]; kernel_rfl), ?_⟩) hS ?_
          · intro w' hSw
            obtain ⟨⟨q10, q11⟩, ⟨q20, q21⟩, p10, p11, p12, p13, p14, p15, p20, p21, p22, p23, p24, p25⟩ := SL.out _ hSw
            go_simp
          try simp only [Act.put, qb1, qb2, qb3]
          refine qwt (i := 12) (v := .bool true) HO HQ (by simp only [qa1, qa2, qa3]; rfl) (by kernel_rfl) (by kernel_rfl) (by kernel_rfl) (fun _ _ _ h => h) (Or.inl ⟨by first | rfl | (rw [HO.out]; kernel_rfl), ?_⟩) hS ?_
          · intro w' hSw
            go_simp
          try simp only [Act.put, qb1, qb2, qb3]
          refine qwt (i := 13) (v := .bool true) HO HQ (by simp only [qa1, qa2, qa3]; rfl) (by kernel_rfl) (by kernel_rfl) (by kernel_rfl) (fun _ _ _ h => h) (Or.inl ⟨by first | rfl | (rw [HO.out]; kernel_rfl), ?_⟩) hS ?_
          · intro w' hSw
            go_simp
          try simp only [Act.put, qb1, qb2, qb3]
          refine qwt (i := 14) (v := undef) HO HQ (by simp only [qa1, qa2, qa3]; rfl) (by kernel_rfl) (by kernel_rfl) (by kernel_rfl) (fun _ _ _ h => h) (Or.inr ⟨by first | rfl | (rw [HO.out]; kernel_rfl), rfl⟩) hS ?_
          try simp only [Act.put, qb1, qb2, qb3]
          refine qwt (i := 15) (v := undef) HO HQ (by simp only [qa1, qa2, qa3]; rfl) (by kernel_rfl) (by kernel_rfl) (by kernel_rfl) (fun _ _ _ h => h) (Or.inr ⟨by first | rfl | (rw [HO.out]; kernel_rfl), rfl⟩) hS ?_
          try simp only [Act.put, qb1, qb2, qb3]
          refine qwt (i := 16) (v := undef) HO HQ (by simp only [qa1, qa2, qa3]; rfl) (by kernel_rfl) (by kernel_rfl) (by kernel_rfl) (fun _ _ _ h => h) (Or.inr ⟨by first | rfl | (rw [HO.out]; kernel_rfl), rfl⟩) hS ?_
          try simp only [Act.put, qb1, qb2, qb3]
          refine qwt (i := 17) (v := undef) HO HQ (by simp only [qa1, qa2, qa3]; rfl) (by kernel_rfl) (by kernel_rfl) (by kernel_rfl) (fun _ _ _ h => h) (Or.inr ⟨by first | rfl | (rw [HO.out]; kernel_rfl), rfl⟩) hS ?_
          try simp only [Act.put, qb1, qb2, qb3]
          refine qwt (i := 18) (v := undef) HO HQ (by simp only [qa1, qa2, qa3]; rfl) (by kernel_rfl) (by kernel_rfl) (by kernel_rfl) (fun _ _ _ h => h) (Or.inr ⟨by first | rfl | (rw [HO.out]; kernel_rfl), rfl⟩) hS ?_
          try simp only [Act.put, qb1, qb2, qb3]
          refine qwt (i := 19) (v := undef) HO HQ (by simp only [qa1, qa2, qa3]; rfl) (by kernel_rfl) (by kernel_rfl) (by kernel_rfl) (fun _ _ _ h => h) (Or.inr ⟨by first | rfl | (rw [HO.out]; kernel_rfl), rfl⟩) hS ?_
          try simp only [Act.put, qb1, qb2, qb3]
          refine qwt (i := 20) (v := undef) HO HQ (by simp only [qa1, qa2, qa3]; rfl) (by kernel_rfl) (by kernel_rfl) (by kernel_rfl) (fun _ _ _ h => h) (Or.inr ⟨by first | rfl | (rw [HO.out]; kernel_rfl), rfl⟩) hS ?_
          try simp only [Act.put, qb1, qb2, qb3]
          refine qwt (i := 21) (v := undef) HO HQ (by simp only [qa1, qa2, qa3]; rfl) (by kernel_rfl) (by kernel_rfl) (by kernel_rfl) (fun _ _ _ h => h) (Or.inr ⟨by first | rfl | (rw [HO.out]; kernel_rfl), rfl⟩) hS ?_
          try simp only [Act.put, qb1, qb2, qb3]
          refine qwt (i := 22) (v := undef) HO HQ (by simp only [qa1, qa2, qa3]; rfl) (by kernel_rfl) (by kernel_rfl) (by kernel_rfl) (fun _ _ _ h => h) (Or.inr ⟨by first | rfl | (rw [HO.out]; kernel_rfl), rfl⟩) hS ?_
          try simp only [Act.put, qb1, qb2, qb3]
          refine qwt (i := 23) (v := undef) HO HQ (by simp only [qa1, qa2, qa3]; rfl) (by kernel_rfl) (by kernel_rfl) (by kernel_rfl) (fun _ _ _ h => h) (Or.inr ⟨by first | rfl | (rw [HO.out]; kernel_rfl), rfl⟩) hS ?_
          try simp only [Act.put, qb1, qb2, qb3]
          refine qwt (i := 24) (v := undef) HO HQ (by simp only [qa1, qa2, qa3]; rfl) (by kernel_rfl) (by kernel_rfl) (by kernel_rfl) (fun _ _ _ h => h) (Or.inr ⟨by first | rfl | (rw [HO.out]; kernel_rfl), rfl⟩) hS ?_
          try simp only [Act.put, qb1, qb2, qb3]
          refine qwt (i := 25) (v := undef) HO HQ (by simp only [qa1, qa2, qa3]; rfl) (by kernel_rfl) (by kernel_rfl) (by kernel_rfl) (fun _ _ _ h => h) (Or.inr ⟨by first | rfl | (rw [HO.out]; kernel_rfl), rfl⟩) hS ?_
          try simp only [Act.put, qb1, qb2, qb3]
          refine qwt (i := 26) (v := undef) HO HQ (by simp only [qa1, qa2, qa3]; rfl) (by kernel_rfl) (by kernel_rfl) (by kernel_rfl) (fun _ _ _ h => h) (Or.inr ⟨by first | rfl | (rw [HO.out]; kernel_rfl), rfl⟩) hS ?_
          try simp only [Act.put, qb1, qb2, qb3]
          refine qwt (i := 27) (v := undef) HO HQ (by simp only [qa1, qa2, qa3]; rfl) (by kernel_rfl) (by kernel_rfl) (by kernel_rfl) (fun _ _ _ h => h) (Or.inr ⟨by first | rfl | (rw [HO.out]; kernel_rfl), rfl⟩) hS ?_
          try simp only [Act.put, qb1, qb2, qb3]
          refine qwt (i := 28) (v := .bool true) HO HQ (by simp only [qa1, qa2, qa3]; rfl) (by kernel_rfl) (by kernel_rfl) (by kernel_rfl) (fun _ _ _ h => h) (Or.inl ⟨by first | rfl | (rw [HO.out]; kernel_rfl), ?_⟩) hS ?_
          · intro w' hSw
            go_simp
          try simp only [Act.put, qb1, qb2, qb3]
          refine wpAnyH_done (by rw [HO.out]; kernel_rfl) ?_ _
          rw [HQ.out]
          refine NoPanic.normal ?_
          go_wp2
          go_ret
          exact ⟨ret_bool HN.out.symm, bt BW0.out hS⟩
        replace ha := Classical.not_not.1 ha
        rw [← ha] at q2
        have hxe : x'.e ≠ y'.e := fun e => heq (by cases x'; cases y'; simp_all)
        clear ha
        have SL : Hid (∀ W, Below wq0.heap.size wq0 W → (W.cell? ⟨b1, o1 + i0Q * 2, none⟩ = some (.string (st x'.a)) ∧ W.cell? ⟨b1, o1 + i0Q * 2 + 1, none⟩ = some (u1)) ∧ (W.cell? ⟨b2, o2 + i0Q * 2, none⟩ = some (.string (st x'.a)) ∧ W.cell? ⟨b2, o2 + i0Q * 2 + 1, none⟩ = some (t1)) ∧ W.cell? ⟨w.heap.size, 0, none⟩ = some (.int .u8 x.k) ∧ W.cell? ⟨w.heap.size, 1, none⟩ = some (.string (st x.c)) ∧ W.cell? ⟨w.heap.size, 2, none⟩ = some (.int .i64 x.n) ∧ W.cell? ⟨w.heap.size, 3, none⟩ = some (.string (st x.v)) ∧ W.cell? ⟨w.heap.size, 4, none⟩ = some (.slice (some ⟨b1, o1, none⟩) x.sets.length c10) ∧ W.cell? ⟨w.heap.size, 5, none⟩ = some (.slice a11 x.exprs.length c11) ∧ W.cell? ⟨w.heap.size + 1, 0, none⟩ = some (.int .u8 x.k) ∧ W.cell? ⟨w.heap.size + 1, 1, none⟩ = some (.string (st x.c)) ∧ W.cell? ⟨w.heap.size + 1, 2, none⟩ = some (.int .i64 x.n) ∧ W.cell? ⟨w.heap.size + 1, 3, none⟩ = some (.string (st x.v)) ∧ W.cell? ⟨w.heap.size + 1, 4, none⟩ = some (.slice (some ⟨b2, o2, none⟩) x.sets.length c20) ∧ W.cell? ⟨w.heap.size + 1, 5, none⟩ = some (.slice a21 x.exprs.length c21)) := fun W hW => ⟨⟨((bt BW0.out hW).cell (p := ⟨b1, o1 + i0Q * 2, none⟩) hb1).trans (q1 0 (by decide)), ((bt BW0.out hW).cell (p := ⟨b1, o1 + i0Q * 2 + 1, none⟩) hb1).trans (q1 1 (by decide))⟩, ⟨((bt BW0.out hW).cell (p := ⟨b2, o2 + i0Q * 2, none⟩) hb2).trans (q2 0 (by decide)), ((bt BW0.out hW).cell (p := ⟨b2, o2 + i0Q * 2 + 1, none⟩) hb2).trans (q2 1 (by decide))⟩, (hW.cell (p := ⟨w.heap.size, 0, none⟩) (by have := hbr0.size; simp at this; show w.heap.size < _; omega)).trans p10, (hW.cell (p := ⟨w.heap.size, 1, none⟩) (by have := hbr0.size; simp at this; show w.heap.size < _; omega)).trans p11, (hW.cell (p := ⟨w.heap.size, 2, none⟩) (by have := hbr0.size; simp at this; show w.heap.size < _; omega)).trans p12, (hW.cell (p := ⟨w.heap.size, 3, none⟩) (by have := hbr0.size; simp at this; show w.heap.size < _; omega)).trans p13, (hW.cell (p := ⟨w.heap.size, 4, none⟩) (by have := hbr0.size; simp at this; show w.heap.size < _; omega)).trans p14, (hW.cell (p := ⟨w.heap.size, 5, none⟩) (by have := hbr0.size; simp at this; show w.heap.size < _; omega)).trans p15, (hW.cell (p := ⟨w.heap.size + 1, 0, none⟩) (by have := hbr0.size; simp at this; show w.heap.size + 1 < _; omega)).trans p20, (hW.cell (p := ⟨w.heap.size + 1, 1, none⟩) (by have := hbr0.size; simp at this; show w.heap.size + 1 < _; omega)).trans p21, (hW.cell (p := ⟨w.heap.size + 1, 2, none⟩) (by have := hbr0.size; simp at this; show w.heap.size + 1 < _; omega)).trans p22, (hW.cell (p := ⟨w.heap.size + 1, 3, none⟩) (by have := hbr0.size; simp at this; show w.heap.size + 1 < _; omega)).trans p23, (hW.cell (p := ⟨w.heap.size + 1, 4, none⟩) (by have := hbr0.size; simp at this; show w.heap.size + 1 < _; omega)).trans p24, (hW.cell (p := ⟨w.heap.size + 1, 5, none⟩) (by have := hbr0.size; simp at this; show w.heap.size + 1 < _; omega)).trans p25⟩
        have CC : ∀ W, Below wq0.heap.size wq0 W → Calls Tryz.prog 68 #[u1, t1] W fun e w' => e = .returned (.bool false) ∧ Below W.heap.size W w' := fun W hW => (sameItems_any u1 t1 x'.e y'.e W (ku1.keep (Stays.below (bt BW0.out hW))) (kt1.keep (Stays.below (bt BW0.out hW)))).mono (by rintro e w' ⟨rfl, hb⟩; exact ⟨by rw [decide_eq_false hxe], hb⟩); clear ec1 ec2 ku1 kt1
        clear q1 q2 hall0 heq
        go_wp2_with fail
        refine wp_region_noPanic ?_
        refine name_ops ?_
        intro O QQ HO HQ
        refine wp_region_held_drew (S := fun W => Below wq0.heap.size wq0 W) (by kernel_rfl) (Below.refl _ _).drew (fun hS => ?_)
        rw [show O.size = 29 by rw [HO.out]; rfl]
        refine qwt (i := 0) (v := .pointer (some ⟨w.heap.size, 4, none⟩)) HO HQ (by simp only [qa1, qa2, qa3]; rfl) (by kernel_rfl) (by kernel_rfl) (by kernel_rfl) (fun _ _ _ h => h) (Or.inl ⟨by first | rfl | (rw [HO.out]; kernel_rfl), ?_⟩) hS ?_
        · intro w' hSw
          go_simp
        try simp only [Act.put, qb1, qb2, qb3]
        refine qwt (i := 1) (v := .slice (some ⟨b1, o1, none⟩) x.sets.length c10) HO HQ (by simp only [qa1, qa2, qa3]; rfl) (by kernel_rfl) (by kernel_rfl) (by kernel_rfl) (fun _ _ _ h => h) (Or.inl ⟨by first | rfl | (rw [HO.out]; kernel_rfl), ?_⟩) hS ?_
        · intro w' hSw
          obtain ⟨⟨q10, q11⟩, ⟨q20, q21⟩, p10, p11, p12, p13, p14, p15, p20, p21, p22, p23, p24, p25⟩ := SL.out _ hSw
          go_simp
        try simp only [Act.put, qb1, qb2, qb3]
        refine qwt (i := 2) (v := .int .i64 i0Q) HO HQ (by simp only [qa1, qa2, qa3]; rfl) (by kernel_rfl) (by kernel_rfl) (by kernel_rfl) (fun _ _ _ h => h) (Or.inl ⟨by first | rfl | (rw [HO.out]; kernel_rfl), ?_⟩) hS ?_
        · intro w' hSw
          go_simp
        try simp only [Act.put, qb1, qb2, qb3]
        refine qwt (i := 3) (v := .pointer (some ⟨b1, o1 + i0Q * 2, none⟩)) HO HQ (by simp only [qa1, qa2, qa3]; rfl) (by kernel_rfl) (by kernel_rfl) (by kernel_rfl) (fun _ _ _ h => h) (Or.inl ⟨by first | rfl | (rw [HO.out]; kernel_rfl), ?_⟩) hS ?_
        · intro w' hSw
          go_simp
        try simp only [Act.put, qb1, qb2, qb3]
        refine qwt (i := 4) (v := .pointer (some ⟨b1, o1 + i0Q * 2, none⟩)) HO HQ (by simp only [qa1, qa2, qa3]; rfl) (by kernel_rfl) (by kernel_rfl) (by kernel_rfl) (fun _ _ _ h => h) (Or.inl ⟨by first | rfl | (rw [HO.out]; kernel_rfl), ?_⟩) hS ?_
        · intro w' hSw
          go_simp
        try simp only [Act.put, qb1, qb2, qb3]
        refine qwt (i := 5) (v := .string (st x'.a)) HO HQ (by simp only [qa1, qa2, qa3]; rfl) (by kernel_rfl) (by kernel_rfl) (by kernel_rfl) (fun _ _ _ h => h) (Or.inl ⟨by first | rfl | (rw [HO.out]; kernel_rfl), ?_⟩) hS ?_
        · intro w' hSw
          obtain ⟨⟨q10, q11⟩, ⟨q20, q21⟩, p10, p11, p12, p13, p14, p15, p20, p21, p22, p23, p24, p25⟩ := SL.out _ hSw
          go_simp
        try simp only [Act.put, qb1, qb2, qb3]
        refine qwt (i := 6) (v := .pointer (some ⟨w.heap.size + 1, 4, none⟩)) HO HQ (by simp only [qa1, qa2, qa3]; rfl) (by kernel_rfl) (by kernel_rfl) (by kernel_rfl) (fun _ _ _ h => h) (Or.inl ⟨by first | rfl | (rw [HO.out]; kernel_rfl), ?_⟩) hS ?_
        · intro w' hSw
          go_simp
        try simp only [Act.put, qb1, qb2, qb3]
        refine qwt (i := 7) (v := .slice (some ⟨b2, o2, none⟩) x.sets.length c20) HO HQ (by simp only [qa1, qa2, qa3]; rfl) (by kernel_rfl) (by kernel_rfl) (by kernel_rfl) (fun _ _ _ h => h) (Or.inl ⟨by first | rfl | (rw [HO.out]; kernel_rfl), ?_⟩) hS ?_
        · intro w' hSw
          obtain ⟨⟨q10, q11⟩, ⟨q20, q21⟩, p10, p11, p12, p13, p14, p15, p20, p21, p22, p23, p24, p25⟩ := SL.out _ hSw
          go_simp
        try simp only [Act.put, qb1, qb2, qb3]
        refine qwt (i := 8) (v := .int .i64 i0Q) HO HQ (by simp only [qa1, qa2, qa3]; rfl) (by kernel_rfl) (by kernel_rfl) (by kernel_rfl) (fun _ _ _ h => h) (Or.inl ⟨by first | rfl | (rw [HO.out]; kernel_rfl), ?_⟩) hS ?_
        · intro w' hSw
          go_simp
        try simp only [Act.put, qb1, qb2, qb3]
        refine qwt (i := 9) (v := .pointer (some ⟨b2, o2 + i0Q * 2, none⟩)) HO HQ (by simp only [qa1, qa2, qa3]; rfl) (by kernel_rfl) (by kernel_rfl) (by kernel_rfl) (fun _ _ _ h => h) (Or.inl ⟨by first | rfl | (rw [HO.out]; kernel_rfl), ?_⟩) hS ?_
        · intro w' hSw
          go_simp
        try simp only [Act.put, qb1, qb2, qb3]
        refine qwt (i := 10) (v := .pointer (some ⟨b2, o2 + i0Q * 2, none⟩)) HO HQ (by simp only [qa1, qa2, qa3]; rfl) (by kernel_rfl) (by kernel_rfl) (by kernel_rfl) (fun _ _ _ h => h) (Or.inl ⟨by first | rfl | (rw [HO.out]; kernel_rfl), ?_⟩) hS ?_
        · intro w' hSw
          go_simp
        try simp only [Act.put, qb1, qb2, qb3]
        refine qwt (i := 11) (v := .string (st x'.a)) HO HQ (by simp only [qa1, qa2, qa3]; rfl) (by kernel_rfl) (by kernel_rfl) (by kernel_rfl) (fun _ _ _ h => h) (Or.inl ⟨by first | rfl | (rw [HO.out]; kernel_rfl), ?_⟩) hS ?_
        · intro w' hSw
          obtain ⟨⟨q10, q11⟩, ⟨q20, q21⟩, p10, p11, p12, p13, p14, p15, p20, p21, p22, p23, p24, p25⟩ := SL.out _ hSw
          go_simp
        try simp only [Act.put, qb1, qb2, qb3]
        refine qwt (i := 12) (v := .bool false) HO HQ (by simp only [qa1, qa2, qa3]; rfl) (by kernel_rfl) (by kernel_rfl) (by kernel_rfl) (fun _ _ _ h => h) (Or.inl ⟨by first | rfl | (rw [HO.out]; kernel_rfl), ?_⟩) hS ?_
        · intro w' hSw
          go_simp
        try simp only [Act.put, qb1, qb2, qb3]
        refine qwt (i := 13) (v := .bool false) HO HQ (by simp only [qa1, qa2, qa3]; rfl) (by kernel_rfl) (by kernel_rfl) (by kernel_rfl) (fun _ _ _ h => h) (Or.inl ⟨by first | rfl | (rw [HO.out]; kernel_rfl), ?_⟩) hS ?_
        · intro w' hSw
          go_simp
        try simp only [Act.put, qb1, qb2, qb3]
        refine qwt (i := 14) (v := .pointer (some ⟨w.heap.size, 4, none⟩)) HO HQ (by simp only [qa1, qa2, qa3]; rfl) (by kernel_rfl) (by kernel_rfl) (by kernel_rfl) (fun _ _ _ h => h) (Or.inl ⟨by first | rfl | (rw [HO.out]; kernel_rfl), ?_⟩) hS ?_
        · intro w' hSw
          go_simp
        try simp only [Act.put, qb1, qb2, qb3]
        refine qwt (i := 15) (v := .slice (some ⟨b1, o1, none⟩) x.sets.length c10) HO HQ (by simp only [qa1, qa2, qa3]; rfl) (by kernel_rfl) (by kernel_rfl) (by kernel_rfl) (fun _ _ _ h => h) (Or.inl ⟨by first | rfl | (rw [HO.out]; kernel_rfl), ?_⟩) hS ?_
        · intro w' hSw
          obtain ⟨⟨q10, q11⟩, ⟨q20, q21⟩, p10, p11, p12, p13, p14, p15, p20, p21, p22, p23, p24, p25⟩ := SL.out _ hSw
          go_simp
        try simp only [Act.put, qb1, qb2, qb3]
        refine qwt (i := 16) (v := .int .i64 i0Q) HO HQ (by simp only [qa1, qa2, qa3]; rfl) (by kernel_rfl) (by kernel_rfl) (by kernel_rfl) (fun _ _ _ h => h) (Or.inl ⟨by first | rfl | (rw [HO.out]; kernel_rfl), ?_⟩) hS ?_
        · intro w' hSw
          go_simp
        try simp only [Act.put, qb1, qb2, qb3]
        refine qwt (i := 17) (v := .pointer (some ⟨b1, o1 + i0Q * 2, none⟩)) HO HQ (by simp only [qa1, qa2, qa3]; rfl) (by kernel_rfl) (by kernel_rfl) (by kernel_rfl) (fun _ _ _ h => h) (Or.inl ⟨by first | rfl | (rw [HO.out]; kernel_rfl), ?_⟩) hS ?_
        · intro w' hSw
          go_simp
        try simp only [Act.put, qb1, qb2, qb3]
        refine qwt (i := 18) (v := .pointer (some ⟨b1, o1 + i0Q * 2 + 1, none⟩)) HO HQ (by simp only [qa1, qa2, qa3]; rfl) (by kernel_rfl) (by kernel_rfl) (by kernel_rfl) (fun _ _ _ h => h) (Or.inl ⟨by first | rfl | (rw [HO.out]; kernel_rfl), ?_⟩) hS ?_
        · intro w' hSw
          go_simp
        try simp only [Act.put, qb1, qb2, qb3]
        refine qwt (i := 19) (v := u1) HO HQ (by simp only [qa1, qa2, qa3]; rfl) (by kernel_rfl) (by kernel_rfl) (by kernel_rfl) (fun _ _ _ h => h) (Or.inl ⟨by first | rfl | (rw [HO.out]; kernel_rfl), ?_⟩) hS ?_
        · intro w' hSw
          obtain ⟨⟨q10, q11⟩, ⟨q20, q21⟩, p10, p11, p12, p13, p14, p15, p20, p21, p22, p23, p24, p25⟩ := SL.out _ hSw
          go_simp
        try simp only [Act.put, qb1, qb2, qb3]
        refine qwt (i := 20) (v := .pointer (some ⟨w.heap.size + 1, 4, none⟩)) HO HQ (by simp only [qa1, qa2, qa3]; rfl) (by kernel_rfl) (by kernel_rfl) (by kernel_rfl) (fun _ _ _ h => h) (Or.inl ⟨by first | rfl | (rw [HO.out]; kernel_rfl), ?_⟩) hS ?_
        · intro w' hSw
          go_simp
        try simp only [Act.put, qb1, qb2, qb3]
        refine qwt (i := 21) (v := .slice (some ⟨b2, o2, none⟩) x.sets.length c20) HO HQ (by simp only [qa1, qa2, qa3]; rfl) (by kernel_rfl) (by kernel_rfl) (by kernel_rfl) (fun _ _ _ h => h) (Or.inl ⟨by first | rfl | (rw [HO.out]; kernel_rfl), ?_⟩) hS ?_
        · intro w' hSw
          obtain ⟨⟨q10, q11⟩, ⟨q20, q21⟩, p10, p11, p12, p13, p14, p15, p20, p21, p22, p23, p24, p25⟩ := SL.out _ hSw
          go_simp
        try simp only [Act.put, qb1, qb2, qb3]
        refine qwt (i := 22) (v := .int .i64 i0Q) HO HQ (by simp only [qa1, qa2, qa3]; rfl) (by kernel_rfl) (by kernel_rfl) (by kernel_rfl) (fun _ _ _ h => h) (Or.inl ⟨by first | rfl | (rw [HO.out]; kernel_rfl), ?_⟩) hS ?_
        · intro w' hSw
          go_simp
        try simp only [Act.put, qb1, qb2, qb3]
        refine qwt (i := 23) (v := .pointer (some ⟨b2, o2 + i0Q * 2, none⟩)) HO HQ (by simp only [qa1, qa2, qa3]; rfl) (by kernel_rfl) (by kernel_rfl) (by kernel_rfl) (fun _ _ _ h => h) (Or.inl ⟨by first | rfl | (rw [HO.out]; kernel_rfl), ?_⟩) hS ?_
        · intro w' hSw
          go_simp
        try simp only [Act.put, qb1, qb2, qb3]
        refine qwt (i := 24) (v := .pointer (some ⟨b2, o2 + i0Q * 2 + 1, none⟩)) HO HQ (by simp only [qa1, qa2, qa3]; rfl) (by kernel_rfl) (by kernel_rfl) (by kernel_rfl) (fun _ _ _ h => h) (Or.inl ⟨by first | rfl | (rw [HO.out]; kernel_rfl), ?_⟩) hS ?_
        · intro w' hSw
          go_simp
        try simp only [Act.put, qb1, qb2, qb3]
        refine qwt (i := 25) (v := t1) HO HQ (by simp only [qa1, qa2, qa3]; rfl) (by kernel_rfl) (by kernel_rfl) (by kernel_rfl) (fun _ _ _ h => h) (Or.inl ⟨by first | rfl | (rw [HO.out]; kernel_rfl), ?_⟩) hS ?_
        · intro w' hSw
          obtain ⟨⟨q10, q11⟩, ⟨q20, q21⟩, p10, p11, p12, p13, p14, p15, p20, p21, p22, p23, p24, p25⟩ := SL.out _ hSw
          go_simp
        try simp only [Act.put, qb1, qb2, qb3]
        refine wpAnyH_one (i := 26) (x := 84) (R := fun v _ => v = .bool false) (by rw [HO.out]; simp only [qa1, qa2, qa3]; rfl) (by rw [HO.out]; kernel_rfl) hS ?_ ?_
        · intro K hK
          simp only [Act.put, qb1, qb2, qb3] at hK
          unfold Steps
          rw [if_pos (by rw [HO.out]; kernel_rfl)]
          go_simp
          refine (CC _ hS).mono ?_
          rintro e w9 ⟨rfl, hb9⟩
          exact hK _ _ rfl hb9
        rintro v9 w9 hv9 hb9 hS9
        obtain rfl := hv9
        clear hb9
        replace hS := hS9
        clear hS9
        try simp only [Act.put, qb1, qb2, qb3]
        refine qwt (i := 27) (v := .bool true) HO HQ (by simp only [qa1, qa2, qa3]; rfl) (by kernel_rfl) (by kernel_rfl) (by kernel_rfl) (fun _ _ _ h => h) (Or.inl ⟨by first | rfl | (rw [HO.out]; kernel_rfl), ?_⟩) hS ?_
        · intro w' hSw
          go_simp
        try simp only [Act.put, qb1, qb2, qb3]
        refine qwt (i := 28) (v := .bool true) HO HQ (by simp only [qa1, qa2, qa3]; rfl) (by kernel_rfl) (by kernel_rfl) (by kernel_rfl) (fun _ _ _ h => h) (Or.inl ⟨by first | rfl | (rw [HO.out]; kernel_rfl), ?_⟩) hS ?_
        · intro w' hSw
          go_simp
        try simp only [Act.put, qb1, qb2, qb3]
        refine wpAnyH_done (by rw [HO.out]; kernel_rfl) ?_ _
        rw [HQ.out]
        refine NoPanic.normal ?_
        go_wp2
        go_ret
        exact ⟨ret_bool HN.out.symm, bt BW0.out hS⟩
    · have hiz : ¬ (i0Q : Int) < x.sets.length := by omega
      have E0 : Hid (x.sets = y.sets) := eq_go se0 Hsets.out hall0 (by omega)
      clear hall0
      go_wp2_with fail
      go_loopw [6] (fun v wr => ∃ i : Nat, v = .int .i64 i ∧ i ≤ x.exprs.length ∧ (∀ j, j < i → x.exprs.getD j ex0 = y.exprs.getD j ex0) ∧ Below ((w.alloc (.cells #[.int .u8 x.k, .string (st x.c), .int .i64 x.n, .string (st x.v), .slice a10 x.sets.length c10, .slice a11 x.exprs.length c11] 100)).alloc (.cells #[.int .u8 x.k, .string (st x.c), .int .i64 x.n, .string (st x.v), .slice a20 x.sets.length c20, .slice a21 x.exprs.length c21] 100)).heap.size ((w.alloc (.cells #[.int .u8 x.k, .string (st x.c), .int .i64 x.n, .string (st x.v), .slice a10 x.sets.length c10, .slice a11 x.exprs.length c11] 100)).alloc (.cells #[.int .u8 x.k, .string (st x.c), .int .i64 x.n, .string (st x.v), .slice a20 x.sets.length c20, .slice a21 x.exprs.length c21] 100)) wr) (fun v _ => (x.exprs.length - intOf v).toNat)
      case atStart => exact ⟨0, rfl, Nat.zero_le _, fun j hj => absurd hj (Nat.not_lt_zero _), hbr0⟩
      case round =>
        obtain ⟨i1, rfl, hi1, hall1, hbr1⟩ := hrel
        obtain ⟨wq1, hwq⟩ : ∃ wq, wq = wr := ⟨_, rfl⟩
        subst hwq
        have BW1 : Hid (Below w.heap.size w wq1) := bt (bxn2t _ _ _) hbr1
        have p10 : wq1.cell? ⟨w.heap.size, 0, none⟩ = some (.int .u8 x.k) := by rw [hbr1.cell (p := ⟨w.heap.size, 0, none⟩) (by simp <;> omega)]; go_simp
        have p11 : wq1.cell? ⟨w.heap.size, 1, none⟩ = some (.string (st x.c)) := by rw [hbr1.cell (p := ⟨w.heap.size, 1, none⟩) (by simp <;> omega)]; go_simp
        have p12 : wq1.cell? ⟨w.heap.size, 2, none⟩ = some (.int .i64 x.n) := by rw [hbr1.cell (p := ⟨w.heap.size, 2, none⟩) (by simp <;> omega)]; go_simp
        have p13 : wq1.cell? ⟨w.heap.size, 3, none⟩ = some (.string (st x.v)) := by rw [hbr1.cell (p := ⟨w.heap.size, 3, none⟩) (by simp <;> omega)]; go_simp
        have p14 : wq1.cell? ⟨w.heap.size, 4, none⟩ = some (.slice a10 x.sets.length c10) := by rw [hbr1.cell (p := ⟨w.heap.size, 4, none⟩) (by simp <;> omega)]; go_simp
        have p15 : wq1.cell? ⟨w.heap.size, 5, none⟩ = some (.slice a11 x.exprs.length c11) := by rw [hbr1.cell (p := ⟨w.heap.size, 5, none⟩) (by simp <;> omega)]; go_simp
        have p20 : wq1.cell? ⟨w.heap.size + 1, 0, none⟩ = some (.int .u8 x.k) := by rw [hbr1.cell (p := ⟨w.heap.size + 1, 0, none⟩) (by simp <;> omega)]; go_simp
        have p21 : wq1.cell? ⟨w.heap.size + 1, 1, none⟩ = some (.string (st x.c)) := by rw [hbr1.cell (p := ⟨w.heap.size + 1, 1, none⟩) (by simp <;> omega)]; go_simp
        have p22 : wq1.cell? ⟨w.heap.size + 1, 2, none⟩ = some (.int .i64 x.n) := by rw [hbr1.cell (p := ⟨w.heap.size + 1, 2, none⟩) (by simp <;> omega)]; go_simp
        have p23 : wq1.cell? ⟨w.heap.size + 1, 3, none⟩ = some (.string (st x.v)) := by rw [hbr1.cell (p := ⟨w.heap.size + 1, 3, none⟩) (by simp <;> omega)]; go_simp
        have p24 : wq1.cell? ⟨w.heap.size + 1, 4, none⟩ = some (.slice a20 x.sets.length c20) := by rw [hbr1.cell (p := ⟨w.heap.size + 1, 4, none⟩) (by simp <;> omega)]; go_simp
        have p25 : wq1.cell? ⟨w.heap.size + 1, 5, none⟩ = some (.slice a21 x.exprs.length c21) := by rw [hbr1.cell (p := ⟨w.heap.size + 1, 5, none⟩) (by simp <;> omega)]; go_simp
        by_cases hlt1 : i1 < x.exprs.length
        · have hiz : (i1 : Int) < x.exprs.length := by omega
          obtain ⟨b1, o1, rfl, hb1, q1⟩ := R11.out i1 hlt1
          obtain ⟨b2, o2, rfl, hb2, q2⟩ := R21.out i1 (by have := Hexprs.out; omega)
          have e1 := G11.out.at i1 [] ex0 hlt1
          have e2 := G21.out.at i1 [] ex0 (by have := Hexprs.out; omega)
          by_cases heq : x.exprs.getD i1 ex0 = y.exprs.getD i1 ex0
          · have HALL : Hid (∀ j, j < i1 + 1 → x.exprs.getD j ex0 = y.exprs.getD j ex0) := fun j hj => by
              rcases Nat.lt_or_ge j i1 with h | h
              · exact hall1 j h
              · obtain rfl : j = i1 := by omega
                exact heq
            generalize x.exprs.getD i1 ex0 = x' at *
            generalize y.exprs.getD i1 ex0 = y' at *
            subst heq
            have e1' := e1
            have e2' := e2
            obtain ⟨u1, ec1, ku1⟩ := e1
            obtain ⟨t1, ec2, kt1⟩ := e2
            rw [ec1] at q1 e1'
            rw [ec2] at q2 e2'
            have SL : Hid (∀ W, Below wq1.heap.size wq1 W → (W.cell? ⟨b1, o1 + i1, none⟩ = some (u1)) ∧ (W.cell? ⟨b2, o2 + i1, none⟩ = some (t1)) ∧ W.cell? ⟨w.heap.size, 0, none⟩ = some (.int .u8 x.k) ∧ W.cell? ⟨w.heap.size, 1, none⟩ = some (.string (st x.c)) ∧ W.cell? ⟨w.heap.size, 2, none⟩ = some (.int .i64 x.n) ∧ W.cell? ⟨w.heap.size, 3, none⟩ = some (.string (st x.v)) ∧ W.cell? ⟨w.heap.size, 4, none⟩ = some (.slice a10 x.sets.length c10) ∧ W.cell? ⟨w.heap.size, 5, none⟩ = some (.slice (some ⟨b1, o1, none⟩) x.exprs.length c11) ∧ W.cell? ⟨w.heap.size + 1, 0, none⟩ = some (.int .u8 x.k) ∧ W.cell? ⟨w.heap.size + 1, 1, none⟩ = some (.string (st x.c)) ∧ W.cell? ⟨w.heap.size + 1, 2, none⟩ = some (.int .i64 x.n) ∧ W.cell? ⟨w.heap.size + 1, 3, none⟩ = some (.string (st x.v)) ∧ W.cell? ⟨w.heap.size + 1, 4, none⟩ = some (.slice a20 x.sets.length c20) ∧ W.cell? ⟨w.heap.size + 1, 5, none⟩ = some (.slice (some ⟨b2, o2, none⟩) x.exprs.length c21)) := fun W hW => ⟨((bt BW1.out hW).cell (p := ⟨b1, o1 + i1, none⟩) hb1).trans (by have := q1 0 (by decide); rw [Nat.mul_one, Nat.add_zero] at this; exact this), ((bt BW1.out hW).cell (p := ⟨b2, o2 + i1, none⟩) hb2).trans (by have := q2 0 (by decide); rw [Nat.mul_one, Nat.add_zero] at this; exact this), (hW.cell (p := ⟨w.heap.size, 0, none⟩) (by have := hbr1.size; simp at this; show w.heap.size < _; omega)).trans p10, (hW.cell (p := ⟨w.heap.size, 1, none⟩) (by have := hbr1.size; simp at this; show w.heap.size < _; omega)).trans p11, (hW.cell (p := ⟨w.heap.size, 2, none⟩) (by have := hbr1.size; simp at this; show w.heap.size < _; omega)).trans p12, (hW.cell (p := ⟨w.heap.size, 3, none⟩) (by have := hbr1.size; simp at this; show w.heap.size < _; omega)).trans p13, (hW.cell (p := ⟨w.heap.size, 4, none⟩) (by have := hbr1.size; simp at this; show w.heap.size < _; omega)).trans p14, (hW.cell (p := ⟨w.heap.size, 5, none⟩) (by have := hbr1.size; simp at this; show w.heap.size < _; omega)).trans p15, (hW.cell (p := ⟨w.heap.size + 1, 0, none⟩) (by have := hbr1.size; simp at this; show w.heap.size + 1 < _; omega)).trans p20, (hW.cell (p := ⟨w.heap.size + 1, 1, none⟩) (by have := hbr1.size; simp at this; show w.heap.size + 1 < _; omega)).trans p21, (hW.cell (p := ⟨w.heap.size + 1, 2, none⟩) (by have := hbr1.size; simp at this; show w.heap.size + 1 < _; omega)).trans p22, (hW.cell (p := ⟨w.heap.size + 1, 3, none⟩) (by have := hbr1.size; simp at this; show w.heap.size + 1 < _; omega)).trans p23, (hW.cell (p := ⟨w.heap.size + 1, 4, none⟩) (by have := hbr1.size; simp at this; show w.heap.size + 1 < _; omega)).trans p24, (hW.cell (p := ⟨w.heap.size + 1, 5, none⟩) (by have := hbr1.size; simp at this; show w.heap.size + 1 < _; omega)).trans p25⟩
            have CC : ∀ W, Below wq1.heap.size wq1 W → Calls Tryz.prog 68 #[u1, t1] W fun e w' => e = .returned (.bool true) ∧ Below W.heap.size W w' := fun W hW => (sameItems_any u1 t1 x' x' W (ku1.keep (Stays.below (bt BW1.out hW))) (kt1.keep (Stays.below (bt BW1.out hW)))).mono (by rintro e w' ⟨rfl, hb⟩; exact ⟨by rw [decide_eq_true rfl], hb⟩); clear e1' e2' ec1 ec2 ku1 kt1
            clear q1 q2 hall1
            go_wp2_with fail
            refine wp_region_noPanic ?_
            refine name_ops ?_
            intro O QQ HO HQ
            refine wp_region_held_drew (S := fun W => Below wq1.heap.size wq1 W) (by kernel_rfl) (Below.refl _ _).drew (fun hS => ?_)
            rw [show O.size = 12 by rw [HO.out]; rfl]
            refine qwt (i := 0) (v := .pointer (some ⟨w.heap.size, 5, none⟩)) HO HQ (by simp only [qa1, qa2, qa3]; rfl) (by kernel_rfl) (by kernel_rfl) (by kernel_rfl) (fun _ _ _ h => h) (Or.inl ⟨by first | rfl | (rw [HO.out]; kernel_rfl), ?_⟩) hS ?_
            · intro w' hSw
              go_simp
            try simp only [Act.put, qb1, qb2, qb3]
            refine qwt (i := 1) (v := .slice (some ⟨b1, o1, none⟩) x.exprs.length c11) HO HQ (by simp only [qa1, qa2, qa3]; rfl) (by kernel_rfl) (by kernel_rfl) (by kernel_rfl) (fun _ _ _ h => h) (Or.inl ⟨by first | rfl | (rw [HO.out]; kernel_rfl), ?_⟩) hS ?_
            · intro w' hSw
              obtain ⟨q10, q20, p10, p11, p12, p13, p14, p15, p20, p21, p22, p23, p24, p25⟩ := SL.out _ hSw
              go_simp
            try simp only [Act.put, qb1, qb2, qb3]
            refine qwt (i := 2) (v := .int .i64 i1) HO HQ (by simp only [qa1, qa2, qa3]; rfl) (by kernel_rfl) (by kernel_rfl) (by kernel_rfl) (fun _ _ _ h => h) (Or.inl ⟨by first | rfl | (rw [HO.out]; kernel_rfl), ?_⟩) hS ?_
            · intro w' hSw
              go_simp
            try simp only [Act.put, qb1, qb2, qb3]
            refine qwt (i := 3) (v := .pointer (some ⟨b1, o1 + i1, none⟩)) HO HQ (by simp only [qa1, qa2, qa3]; rfl) (by kernel_rfl) (by kernel_rfl) (by kernel_rfl) (fun _ _ _ h => h) (Or.inl ⟨by first | rfl | (rw [HO.out]; kernel_rfl), ?_⟩) hS ?_
            · intro w' hSw
              go_simp
            try simp only [Act.put, qb1, qb2, qb3]
            refine qwt (i := 4) (v := u1) HO HQ (by simp only [qa1, qa2, qa3]; rfl) (by kernel_rfl) (by kernel_rfl) (by kernel_rfl) (fun _ _ _ h => h) (Or.inl ⟨by first | rfl | (rw [HO.out]; kernel_rfl), ?_⟩) hS ?_
            · intro w' hSw
              obtain ⟨q10, q20, p10, p11, p12, p13, p14, p15, p20, p21, p22, p23, p24, p25⟩ := SL.out _ hSw
              go_simp
            try simp only [Act.put, qb1, qb2, qb3]
            refine qwt (i := 5) (v := .pointer (some ⟨w.heap.size + 1, 5, none⟩)) HO HQ (by simp only [qa1, qa2, qa3]; rfl) (by kernel_rfl) (by kernel_rfl) (by kernel_rfl) (fun _ _ _ h => h) (Or.inl ⟨by first | rfl | (rw [HO.out]; kernel_rfl), ?_⟩) hS ?_
            · intro w' hSw
              go_simp
            try simp only [Act.put, qb1, qb2, qb3]
            refine qwt (i := 6) (v := .slice (some ⟨b2, o2, none⟩) x.exprs.length c21) HO HQ (by simp only [qa1, qa2, qa3]; rfl) (by kernel_rfl) (by kernel_rfl) (by kernel_rfl) (fun _ _ _ h => h) (Or.inl ⟨by first | rfl | (rw [HO.out]; kernel_rfl), ?_⟩) hS ?_
            · intro w' hSw
              obtain ⟨q10, q20, p10, p11, p12, p13, p14, p15, p20, p21, p22, p23, p24, p25⟩ := SL.out _ hSw
              go_simp
            try simp only [Act.put, qb1, qb2, qb3]
            refine qwt (i := 7) (v := .int .i64 i1) HO HQ (by simp only [qa1, qa2, qa3]; rfl) (by kernel_rfl) (by kernel_rfl) (by kernel_rfl) (fun _ _ _ h => h) (Or.inl ⟨by first | rfl | (rw [HO.out]; kernel_rfl), ?_⟩) hS ?_
            · intro w' hSw
              go_simp
            try simp only [Act.put, qb1, qb2, qb3]
            refine qwt (i := 8) (v := .pointer (some ⟨b2, o2 + i1, none⟩)) HO HQ (by simp only [qa1, qa2, qa3]; rfl) (by kernel_rfl) (by kernel_rfl) (by kernel_rfl) (fun _ _ _ h => h) (Or.inl ⟨by first | rfl | (rw [HO.out]; kernel_rfl), ?_⟩) hS ?_
            · intro w' hSw
              go_simp
            try simp only [Act.put, qb1, qb2, qb3]
            refine qwt (i := 9) (v := t1) HO HQ (by simp only [qa1, qa2, qa3]; rfl) (by kernel_rfl) (by kernel_rfl) (by kernel_rfl) (fun _ _ _ h => h) (Or.inl ⟨by first | rfl | (rw [HO.out]; kernel_rfl), ?_⟩) hS ?_
            · intro w' hSw
              obtain ⟨q10, q20, p10, p11, p12, p13, p14, p15, p20, p21, p22, p23, p24, p25⟩ := SL.out _ hSw
              go_simp
            try simp only [Act.put, qb1, qb2, qb3]
            refine wpAnyH_one (i := 10) (x := 104) (R := fun v _ => v = .bool true) (by rw [HO.out]; simp only [qa1, qa2, qa3]; rfl) (by rw [HO.out]; kernel_rfl) hS ?_ ?_
            · intro K hK
              simp only [Act.put, qb1, qb2, qb3] at hK
              unfold Steps
              rw [if_pos (by rw [HO.out]; kernel_rfl)]
              go_simp
              refine (CC _ hS).mono ?_
              rintro e w9 ⟨rfl, hb9⟩
              exact hK _ _ rfl hb9
            rintro v9 w9 hv9 hb9 hS9
            obtain rfl := hv9
            clear hb9
            replace hS := hS9
            clear hS9
            try simp only [Act.put, qb1, qb2, qb3]
            refine qwt (i := 11) (v := .bool false) HO HQ (by simp only [qa1, qa2, qa3]; rfl) (by kernel_rfl) (by kernel_rfl) (by kernel_rfl) (fun _ _ _ h => h) (Or.inl ⟨by first | rfl | (rw [HO.out]; kernel_rfl), ?_⟩) hS ?_
            · intro w' hSw
              go_simp
            try simp only [Act.put, qb1, qb2, qb3]
            refine wpAnyH_done (by rw [HO.out]; kernel_rfl) ?_ _
            rw [HQ.out]
            refine NoPanic.normal ?_
            go_wp2
            go_roundw
            case rel => exact ⟨i1 + 1, by simp, by omega, HALL.out, bt hbr1 hS⟩
            case measure => simp [intOf]; omega
          · have HN : Hid (A = false) := by show _ = _; rw [HA.out]; exact decide_eq_false (fun e => heq (by rw [e]))
            generalize x.exprs.getD i1 ex0 = x' at *
            generalize y.exprs.getD i1 ex0 = y' at *
            have e1' := e1
            have e2' := e2
            obtain ⟨u1, ec1, ku1⟩ := e1
            obtain ⟨t1, ec2, kt1⟩ := e2
            rw [ec1] at q1 e1'
            rw [ec2] at q2 e2'
            have SL : Hid (∀ W, Below wq1.heap.size wq1 W → (W.cell? ⟨b1, o1 + i1, none⟩ = some (u1)) ∧ (W.cell? ⟨b2, o2 + i1, none⟩ = some (t1)) ∧ W.cell? ⟨w.heap.size, 0, none⟩ = some (.int .u8 x.k) ∧ W.cell? ⟨w.heap.size, 1, none⟩ = some (.string (st x.c)) ∧ W.cell? ⟨w.heap.size, 2, none⟩ = some (.int .i64 x.n) ∧ W.cell? ⟨w.heap.size, 3, none⟩ = some (.string (st x.v)) ∧ W.cell? ⟨w.heap.size, 4, none⟩ = some (.slice a10 x.sets.length c10) ∧ W.cell? ⟨w.heap.size, 5, none⟩ = some (.slice (some ⟨b1, o1, none⟩) x.exprs.length c11) ∧ W.cell? ⟨w.heap.size + 1, 0, none⟩ = some (.int .u8 x.k) ∧ W.cell? ⟨w.heap.size + 1, 1, none⟩ = some (.string (st x.c)) ∧ W.cell? ⟨w.heap.size + 1, 2, none⟩ = some (.int .i64 x.n) ∧ W.cell? ⟨w.heap.size + 1, 3, none⟩ = some (.string (st x.v)) ∧ W.cell? ⟨w.heap.size + 1, 4, none⟩ = some (.slice a20 x.sets.length c20) ∧ W.cell? ⟨w.heap.size + 1, 5, none⟩ = some (.slice (some ⟨b2, o2, none⟩) x.exprs.length c21)) := fun W hW => ⟨((bt BW1.out hW).cell (p := ⟨b1, o1 + i1, none⟩) hb1).trans (by have := q1 0 (by decide); rw [Nat.mul_one, Nat.add_zero] at this; exact this), ((bt BW1.out hW).cell (p := ⟨b2, o2 + i1, none⟩) hb2).trans (by have := q2 0 (by decide); rw [Nat.mul_one, Nat.add_zero] at this; exact this), (hW.cell (p := ⟨w.heap.size, 0, none⟩) (by have := hbr1.size; simp at this; show w.heap.size < _; omega)).trans p10, (hW.cell (p := ⟨w.heap.size, 1, none⟩) (by have := hbr1.size; simp at this; show w.heap.size < _; omega)).trans p11, (hW.cell (p := ⟨w.heap.size, 2, none⟩) (by have := hbr1.size; simp at this; show w.heap.size < _; omega)).trans p12, (hW.cell (p := ⟨w.heap.size, 3, none⟩) (by have := hbr1.size; simp at this; show w.heap.size < _; omega)).trans p13, (hW.cell (p := ⟨w.heap.size, 4, none⟩) (by have := hbr1.size; simp at this; show w.heap.size < _; omega)).trans p14, (hW.cell (p := ⟨w.heap.size, 5, none⟩) (by have := hbr1.size; simp at this; show w.heap.size < _; omega)).trans p15, (hW.cell (p := ⟨w.heap.size + 1, 0, none⟩) (by have := hbr1.size; simp at this; show w.heap.size + 1 < _; omega)).trans p20, (hW.cell (p := ⟨w.heap.size + 1, 1, none⟩) (by have := hbr1.size; simp at this; show w.heap.size + 1 < _; omega)).trans p21, (hW.cell (p := ⟨w.heap.size + 1, 2, none⟩) (by have := hbr1.size; simp at this; show w.heap.size + 1 < _; omega)).trans p22, (hW.cell (p := ⟨w.heap.size + 1, 3, none⟩) (by have := hbr1.size; simp at this; show w.heap.size + 1 < _; omega)).trans p23, (hW.cell (p := ⟨w.heap.size + 1, 4, none⟩) (by have := hbr1.size; simp at this; show w.heap.size + 1 < _; omega)).trans p24, (hW.cell (p := ⟨w.heap.size + 1, 5, none⟩) (by have := hbr1.size; simp at this; show w.heap.size + 1 < _; omega)).trans p25⟩
            have CC : ∀ W, Below wq1.heap.size wq1 W → Calls Tryz.prog 68 #[u1, t1] W fun e w' => e = .returned (.bool false) ∧ Below W.heap.size W w' := fun W hW => (sameItems_any u1 t1 x' y' W (ku1.keep (Stays.below (bt BW1.out hW))) (kt1.keep (Stays.below (bt BW1.out hW)))).mono (by rintro e w' ⟨rfl, hb⟩; exact ⟨by rw [decide_eq_false heq], hb⟩); clear e1' e2' ec1 ec2 ku1 kt1
            clear q1 q2 hall1 heq
            go_wp2_with fail
            refine wp_region_noPanic ?_
            refine name_ops ?_
            intro O QQ HO HQ
            refine wp_region_held_drew (S := fun W => Below wq1.heap.size wq1 W) (by kernel_rfl) (Below.refl _ _).drew (fun hS => ?_)
            rw [show O.size = 12 by rw [HO.out]; rfl]
            refine qwt (i := 0) (v := .pointer (some ⟨w.heap.size, 5, none⟩)) HO HQ (by simp only [qa1, qa2, qa3]; rfl) (by kernel_rfl) (by kernel_rfl) (by kernel_rfl) (fun _ _ _ h => h) (Or.inl ⟨by first | rfl | (rw [HO.out]; kernel_rfl), ?_⟩) hS ?_
            · intro w' hSw
              go_simp
            try simp only [Act.put, qb1, qb2, qb3]
            refine qwt (i := 1) (v := .slice (some ⟨b1, o1, none⟩) x.exprs.length c11) HO HQ (by simp only [qa1, qa2, qa3]; rfl) (by kernel_rfl) (by kernel_rfl) (by kernel_rfl) (fun _ _ _ h => h) (Or.inl ⟨by first | rfl | (rw [HO.out]; kernel_rfl), ?_⟩) hS ?_
            · intro w' hSw
              obtain ⟨q10, q20, p10, p11, p12, p13, p14, p15, p20, p21, p22, p23, p24, p25⟩ := SL.out _ hSw
              go_simp
            try simp only [Act.put, qb1, qb2, qb3]
            refine qwt (i := 2) (v := .int .i64 i1) HO HQ (by simp only [qa1, qa2, qa3]; rfl) (by kernel_rfl) (by kernel_rfl) (by kernel_rfl) (fun _ _ _ h => h) (Or.inl ⟨by first | rfl | (rw [HO.out]; kernel_rfl), ?_⟩) hS ?_
            · intro w' hSw
              go_simp
            try simp only [Act.put, qb1, qb2, qb3]
            refine qwt (i := 3) (v := .pointer (some ⟨b1, o1 + i1, none⟩)) HO HQ (by simp only [qa1, qa2, qa3]; rfl) (by kernel_rfl) (by kernel_rfl) (by kernel_rfl) (fun _ _ _ h => h) (Or.inl ⟨by first | rfl | (rw [HO.out]; kernel_rfl), ?_⟩) hS ?_
            · intro w' hSw
              go_simp
            try simp only [Act.put, qb1, qb2, qb3]
            refine qwt (i := 4) (v := u1) HO HQ (by simp only [qa1, qa2, qa3]; rfl) (by kernel_rfl) (by kernel_rfl) (by kernel_rfl) (fun _ _ _ h => h) (Or.inl ⟨by first | rfl | (rw [HO.out]; kernel_rfl), ?_⟩) hS ?_
            · intro w' hSw
              obtain ⟨q10, q20, p10, p11, p12, p13, p14, p15, p20, p21, p22, p23, p24, p25⟩ := SL.out _ hSw
              go_simp
            try simp only [Act.put, qb1, qb2, qb3]
            refine qwt (i := 5) (v := .pointer (some ⟨w.heap.size + 1, 5, none⟩)) HO HQ (by simp only [qa1, qa2, qa3]; rfl) (by kernel_rfl) (by kernel_rfl) (by kernel_rfl) (fun _ _ _ h => h) (Or.inl ⟨by first | rfl | (rw [HO.out]; kernel_rfl), ?_⟩) hS ?_
            · intro w' hSw
              go_simp
            try simp only [Act.put, qb1, qb2, qb3]
            refine qwt (i := 6) (v := .slice (some ⟨b2, o2, none⟩) x.exprs.length c21) HO HQ (by simp only [qa1, qa2, qa3]; rfl) (by kernel_rfl) (by kernel_rfl) (by kernel_rfl) (fun _ _ _ h => h) (Or.inl ⟨by first | rfl | (rw [HO.out]; kernel_rfl), ?_⟩) hS ?_
            · intro w' hSw
              obtain ⟨q10, q20, p10, p11, p12, p13, p14, p15, p20, p21, p22, p23, p24, p25⟩ := SL.out _ hSw
              go_simp
            try simp only [Act.put, qb1, qb2, qb3]
            refine qwt (i := 7) (v := .int .i64 i1) HO HQ (by simp only [qa1, qa2, qa3]; rfl) (by kernel_rfl) (by kernel_rfl) (by kernel_rfl) (fun _ _ _ h => h) (Or.inl ⟨by first | rfl | (rw [HO.out]; kernel_rfl), ?_⟩) hS ?_
            · intro w' hSw
              go_simp
            try simp only [Act.put, qb1, qb2, qb3]
            refine qwt (i := 8) (v := .pointer (some ⟨b2, o2 + i1, none⟩)) HO HQ (by simp only [qa1, qa2, qa3]; rfl) (by kernel_rfl) (by kernel_rfl) (by kernel_rfl) (fun _ _ _ h => h) (Or.inl ⟨by first | rfl | (rw [HO.out]; kernel_rfl), ?_⟩) hS ?_
            · intro w' hSw
              go_simp
            try simp only [Act.put, qb1, qb2, qb3]
            refine qwt (i := 9) (v := t1) HO HQ (by simp only [qa1, qa2, qa3]; rfl) (by kernel_rfl) (by kernel_rfl) (by kernel_rfl) (fun _ _ _ h => h) (Or.inl ⟨by first | rfl | (rw [HO.out]; kernel_rfl), ?_⟩) hS ?_
            · intro w' hSw
              obtain ⟨q10, q20, p10, p11, p12, p13, p14, p15, p20, p21, p22, p23, p24, p25⟩ := SL.out _ hSw
              go_simp
            try simp only [Act.put, qb1, qb2, qb3]
            refine wpAnyH_one (i := 10) (x := 104) (R := fun v _ => v = .bool false) (by rw [HO.out]; simp only [qa1, qa2, qa3]; rfl) (by rw [HO.out]; kernel_rfl) hS ?_ ?_
            · intro K hK
              simp only [Act.put, qb1, qb2, qb3] at hK
              unfold Steps
              rw [if_pos (by rw [HO.out]; kernel_rfl)]
              go_simp
              refine (CC _ hS).mono ?_
              rintro e w9 ⟨rfl, hb9⟩
              exact hK _ _ rfl hb9
            rintro v9 w9 hv9 hb9 hS9
            obtain rfl := hv9
            clear hb9
            replace hS := hS9
            clear hS9
            try simp only [Act.put, qb1, qb2, qb3]
            refine qwt (i := 11) (v := .bool true) HO HQ (by simp only [qa1, qa2, qa3]; rfl) (by kernel_rfl) (by kernel_rfl) (by kernel_rfl) (fun _ _ _ h => h) (Or.inl ⟨by first | rfl | (rw [HO.out]; kernel_rfl), ?_⟩) hS ?_
            · intro w' hSw
              go_simp
            try simp only [Act.put, qb1, qb2, qb3]
            refine wpAnyH_done (by rw [HO.out]; kernel_rfl) ?_ _
            rw [HQ.out]
            refine NoPanic.normal ?_
            go_wp2
            go_ret
            exact ⟨ret_bool HN.out.symm, bt BW1.out hS⟩
        · have hiz : ¬ (i1 : Int) < x.exprs.length := by omega
          have E1 : Hid (x.exprs = y.exprs) := eq_go ex0 Hexprs.out hall1 (by omega)
          clear hall1
          have HN : Hid (A = true) := by
            show _ = _
            rw [HA.out]
            exact decide_eq_true (extActD (Hk.out) (Hc.out) (Hn.out) (Hv.out) (E0.out) (E1.out))
          go_wp2
          go_ret
          exact ⟨ret_bool HN.out.symm, BW1.out⟩
end Go.Proofs.YtemacdimdpnkeaaGreatDoor
