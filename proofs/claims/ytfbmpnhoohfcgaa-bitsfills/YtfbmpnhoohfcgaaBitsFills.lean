/- For every set of up to 20 bytes, taken one by one, the lowest first, all numbers of its room come to be in, each once. -/
import Derived.Test.YtfbmpnhoohfcgaaAwake
import Derived.Deep.RegionHeld3
import Derived.Test.YtfbmpnhoohfcgaaRows
import Derived.WalkKit
import Derived.ProofKit
import Derived.OpenShut
import Derived.ShutString
import Derived.ChangeOld
import Derived.Below
namespace Go.Proofs.Ytfbmpnhoohfcgaa.bitsFills
open Go.ChangeShapes Go.WideShapes Go.ChangeAt Go.RowKit
open Go.ChangeMaps (open_string shut_string)
set_option linter.unusedVariables false

theorem own : ownKnob Try.prog.godebug = none := by kernel_rfl
theorem laidOut : laidOutB Try.prog = true := by kernel_rfl

/-- WHAT THE WALK IS TOLD OF A SLICE OF INTEGERS THAT CAME IN: it is nil; or it leads to a row of 'cap' cells, the numbers 'zs' (the first 'len' are its elements, the rest its spare room), each fitting its kind. -/
def IsRow (k : IntKind) (w : World) (a : Option Addr) (len cap : Nat) (zs : List Int) : Prop :=
  (a = none ∧ len = 0 ∧ cap = 0 ∧ zs = []) ∨
  ∃ x, a = some x ∧ len ≤ cap ∧ cap ≤ maxLen ∧ zs.length = cap ∧ (∀ i, i < zs.length → w.cell? (x.add i) = some (.int k (zs.getD i 0))) ∧ ∀ n ∈ zs, (Lit.int k n).wf = true

theorem row_bytes {w : World} {a : Option Addr} {len cap : Nat} {zs : List Int} (h : IsRow .u8 w a len cap zs) :
    ∃ ys : List Int, ys.length = len ∧ BV w a ys ∧ (a = none → cap = 0) ∧ len ≤ cap ∧ len ≤ 9223372036854775807 := by
  rcases h with ⟨rfl, rfl, rfl, rfl⟩ | ⟨x, rfl, hl, hm, hz, hcell, hwz⟩
  · exact ⟨[], rfl, ⟨AllB.nil, .inl rfl⟩, fun _ => rfl, Nat.le_refl _, by decide⟩
  · refine ⟨zs.take len, by simp; omega, ⟨?_, ?_⟩, (fun h => by cases h), hl, by unfold maxLen at hm; omega⟩
    · intro z hz'
      have := bounds_u8 (hwz z (List.mem_of_mem_take hz'))
      omega
    · by_cases h0 : len = 0
      · left; simp [h0]
      · right
        obtain ⟨b, off, spot⟩ := x
        have hc := hcell 0 (by omega)
        have hspot : spot = none := by simpa [Addr.add] using World.cell?_spot hc
        subst hspot
        refine ⟨b, off, rfl, ?_, ?_⟩
        · have := World.block_lt_of_cell? _ _ hc
          simpa [Addr.add] using this
        · intro i hi
          rw [List.length_take] at hi
          have := hcell i (by omega)
          rw [add_plain] at this
          rw [this, List.getD_eq_getElem?_getD, List.getD_eq_getElem?_getD, List.getElem?_take, if_pos (by omega)]
/-- What the turns have come to: the set is the first one's with numbers up to last put in. -/
structure Turn (zs xs : List Int) (last : Int) (n : Nat) : Prop where
  len : xs.length = zs.length
  all : AllB xs
  lo : -1 ≤ last
  hi : last < 8 * zs.length
  inn : ∀ k : Nat, (k : Int) ≤ last → hasB xs k = true
  more : ∀ k, hasB zs k = true → hasB xs k = true
  rest : ∀ k : Nat, last < (k : Int) → hasB xs k = hasB zs k
  cnt : (listS xs).length = n
theorem Turn.start {zs : List Int} (h : AllB zs) : Turn zs zs (-1) (listS zs).length := ⟨rfl, h, by omega, by omega, fun k h => by omega, fun _ h => h, fun _ _ => rfl, rfl⟩
theorem Turn.step {zs xs : List Int} {last : Int} {n i : Nat} (h : Turn zs xs last n) (hf : IsFirst xs 0 i true) : last < (i : Int) ∧ hasB zs i = false ∧ i < 8 * zs.length ∧ Turn zs (setB xs i true) (i : Int) (n + 1) := by
  rcases hf with ⟨_, _, h2, h3, h4⟩ | ⟨h, _⟩
  · rw [h.len] at h2
    have hl : last < (i : Int) := by
      by_cases e : (i : Int) ≤ last
      · rw [h.inn i e] at h3; cases h3
      · omega
    have hz : hasB zs i = false := by rw [← h.rest i hl]; exact h3
    have hi8 : i / 8 < xs.length := by have := h.len; omega
    refine ⟨hl, hz, h2, ⟨by rw [setB_length]; exact h.len, setB_all h.all _ _, by omega, by omega, fun k hk => ?_, fun k hk => ?_, fun k hk => ?_, ?_⟩⟩
    · rw [hasB_setB i k true hi8]
      by_cases e : k = i
      · rw [if_pos e]
      · rw [if_neg e]; exact h4 k (Nat.zero_le _) (by omega)
    · rw [hasB_setB i k true hi8]
      by_cases e : k = i
      · rw [if_pos e]
      · rw [if_neg e]; exact h.more k hk
    · rw [hasB_setB i k true hi8, if_neg (by omega)]
      exact h.rest k (by omega)
    · rw [count_set (by have := h.len; omega) h3, h.cnt]
  · cases h
theorem Turn.done {zs xs : List Int} {last : Int} {n i : Nat} (h : Turn zs xs last n) (hf : IsFirst xs 0 i false) : n = 8 * zs.length := by
  rcases hf with ⟨h, _⟩ | ⟨_, _, h2⟩
  · cases h
  · rw [← h.cnt, ← h.len]
    exact count_full (fun k hk => h2 k (Nat.zero_le _) hk)
theorem less_self {xs zs : List Int} (h : IsLess xs xs zs) : listS zs = [] := count_none (fun n _ => by rw [h.2.2 n]; cases hasB xs n <;> rfl)
theorem join_more {zs xs js : List Int} {last : Int} {n : Nat} (h : Turn zs xs last n) (hj : IsJoin xs zs js) : js = xs := by
  refine set_ext hj.2.1 h.all (by rw [hj.1]; have := h.len; omega) (fun k _ => ?_)
  rw [hj.2.2 k]
  cases e : hasB zs k
  · simp
  · rw [h.more k e]; rfl
set_option maxHeartbeats 800000 in
theorem walk_long (a : Option Addr) (len cap : Nat) (w : World) (h : 20 < len) :
    Calls Try.prog 6 #[.slice a len cap] w fun e w' => e = .returned (.bool true) ∧ Below w.heap.size w w' := by
  have HA := awake_any w
  have hd : decide ((20 : Int) < (len : Int)) = true := by simp; omega
  go_enter Try.func6, Try.ntmps6
  go_wp2_with (first | (go_at_call 8; refine HA.mono ?_; rintro e w1 ⟨rfl, hb⟩; clear HA) | fail)
  go_ret
  exact ⟨rfl, hb⟩
set_option maxHeartbeats 3200000 in
theorem walk_some (a : Option Addr) (cap : Nat) (zs : List Int) (w : World) (hb : BV w a zs) (hnil : a = none → cap = 0) (h20 : zs.length ≤ 20) :
    Calls Try.prog 6 #[.slice a zs.length cap] w fun e w' => e = .returned (.bool true) ∧ Below w.heap.size w w' := by
  obtain ⟨len, hlen⟩ : ∃ len, zs.length = len := ⟨_, rfl⟩
  rw [hlen]
  have HC : Hid (∀ W ax cx xs, BV W ax xs → xs.length = len → Calls Try.prog 16 #[.slice ax len cx] W fun e w' => e = .returned (.int .i64 ((listS xs).length : Nat)) ∧ Below W.heap.size W w') := fun W ax cx xs hx hl => by
    have := count_any ax cx xs W hx (by omega)
    rw [hl] at this
    refine this.mono ?_
    rintro e w' ⟨rfl, m, rfl⟩
    exact ⟨rfl, below_drewN (Below.refl _ _) _⟩
  have HF : Hid (∀ W ax cx xs last n, BV W ax xs → Turn zs xs last n → Calls Try.prog 9 #[.slice ax len cx, .int .i64 0] W fun e w' => ∃ (i : Nat) (ok : Bool), e = .returned (.tuple #[.int .i64 (i : Int), .bool ok]) ∧ IsFirst xs 0 i ok ∧ Below W.heap.size W w') := fun W ax cx xs last n hx ht => by
    have := first_any ax cx xs 0 W hx (by have := ht.len; omega) (by decide)
    rw [ht.len, hlen] at this
    refine this.mono ?_
    rintro e w' ⟨k, ok, rfl, hf, m, rfl⟩
    exact ⟨k, ok, rfl, hf, below_drewN (Below.refl _ _) _⟩
  have HM : Hid (∀ (k : Nat) (W : World), Below w.heap.size w W → Calls Try.prog 11 #[.slice a len cap, .int .i64 (k : Int)] W fun e w' => e = .returned (.bool (hasB zs k)) ∧ Below W.heap.size W w') := fun k W hW => by
    have := has_c (cap := cap) k W (hb.below hW) (by omega)
    rw [hlen] at this
    exact this
  have HW : Hid (∀ W ax cx xs last n (i : Nat), BV W ax xs → (ax = none → cx = 0) → Turn zs xs last n → i < 8 * zs.length → Calls Try.prog 19 #[.slice ax len cx, .int .i64 (i : Int), .bool true] W fun e w' => ∃ ay cy, e = .returned (.slice ay len cy) ∧ BV w' ay (setB xs i true) ∧ (ay = none → cy = 0) ∧ Below W.heap.size W w') := fun W ax cx xs last n i hx hn ht hi => by
    have := with_any ax cx xs (i : Int) true W hx (by have := ht.len; omega) hn
    rw [withI_in true (by have := ht.len; omega), ht.len, hlen] at this
    refine this.mono ?_
    rintro e w' ⟨v, rfl, ho, hbb⟩
    obtain ⟨ay, cy, e, h1, h2⟩ := ho.split (setB_all ht.all _ _)
    rw [setB_length, ht.len, hlen] at e
    exact ⟨ay, cy, by rw [e], h1, h2, hbb⟩
  have HL : Hid (∀ W ax cx xs last n, BV W ax xs → Turn zs xs last n → Calls Try.prog 21 #[.slice ax len cx, .slice ax len cx] W fun e w' => ∃ ay cy ys, e = .returned (.slice ay len cy) ∧ BV w' ay ys ∧ ys.length = len ∧ listS ys = [] ∧ Below W.heap.size W w') := fun W ax cx xs last n hx ht => by
    have := less_any ax ax cx cx xs xs W hx hx (by have := ht.len; omega) (by have := ht.len; omega)
    rw [ht.len, hlen] at this
    refine this.mono ?_
    rintro e w' ⟨v, ys, rfl, ho, hj, hbb⟩
    obtain ⟨ay, cy, e, h1, h2⟩ := ho.split hj.2.1
    have hyl : ys.length = len := by rw [hj.1, ht.len, hlen]; omega
    rw [hyl] at e
    exact ⟨ay, cy, ys, by rw [e], h1, hyl, less_self hj, hbb⟩
  have HJ : Hid (∀ W ax cx xs last n, BV W ax xs → Turn zs xs last n → Below w.heap.size w W → Calls Try.prog 20 #[.slice ax len cx, .slice a len cap] W fun e w' => ∃ ay cy, e = .returned (.slice ay len cy) ∧ BV w' ay xs ∧ Below W.heap.size W w') := fun W ax cx xs last n hx ht hW => by
    have := join_any ax a cx cap xs zs W hx (hb.below hW) (by have := ht.len; omega) (by omega)
    rw [ht.len, hlen] at this
    refine this.mono ?_
    rintro e w' ⟨v, ys, rfl, ho, hj, hbb⟩
    obtain ⟨ay, cy, e, h1, h2⟩ := ho.split hj.2.1
    have hy := join_more ht hj
    subst hy
    rw [ht.len, hlen] at e
    exact ⟨ay, cy, by rw [e], h1, hbb⟩
  have HA : Hid (∀ w, Calls Try.prog 8 #[] w fun e w' => e = .returned (.bool true) ∧ Below w.heap.size w w') := fun w => awake_any w
  have HST : Hid (Turn zs zs (-1) (listS zs).length) := Turn.start hb.1
  have HB0 : Hid (∀ W, Below w.heap.size w W → BV W a zs) := fun W hW => hb.below hW
  have hcl := len_filter (hasB zs) (8 * zs.length)
  have HCN : Hid (∀ W, Below w.heap.size w W → Calls Try.prog 16 #[.slice a len cap] W fun e w' => e = .returned (.int .i64 ((listS zs).length : Nat)) ∧ Below W.heap.size W w') := fun W hW => HC.out W a cap zs (hb.below hW) hlen
  have hcl2 : (listS zs).length ≤ 160 := by unfold listS; omega
  have HLEN : Hid (zs.length = len) := hlen
  have hd : decide ((20 : Int) < (len : Int)) = false := by simp; omega
  have hm8 : wrap64 (8 * (len : Int)) = 8 * (len : Int) := by unfold wrap64; omega
  have h20' : len ≤ 20 := by omega
  generalize hn0 : (listS zs).length = n0 at *
  clear hb hlen hcl h20 hn0
  go_enter Try.func6, Try.ntmps6
  go_wp2_with (first | (go_at_call 16; refine (HCN.out _ (Below.refl _ _)).mono ?_; rintro e w1 ⟨rfl, hb1⟩; have HB1 : Hid (Below w.heap.size w w1) := hb1; clear hb1 HCN) | fail)
  go_loopw [3, 4, 5, 6] (fun nv xv lv tv wr => ∃ (n t : Nat) (last : Int) (xs : List Int) (ax : Option Addr) (cx : Nat), nv = .int .i64 n ∧ xv = .slice ax len cx ∧ lv = .int .i64 last ∧ tv = .int .i64 t ∧ -1 ≤ last ∧ last < 160 ∧ (t : Int) ≤ last + 1 ∧ n ≤ 160 + t ∧ Hid (BV wr ax xs) ∧ (ax = none → cx = 0) ∧ Hid (Turn zs xs last n) ∧ Hid (Below w.heap.size w wr)) (fun _ _ _ tv _ => 200 - (intOf tv).toNat)
  case atStart => exact ⟨n0, 0, -1, zs, a, cap, rfl, rfl, rfl, rfl, by omega, by omega, by omega, by omega, HB0.out _ HB1.out, hnil, HST.out, HB1.out⟩
  case round =>
    obtain ⟨n, t, last, xs, ax, cx, rfl, rfl, rfl, rfl, hl1, hl2, htl, hnt, HX, hnx, HT, HB⟩ := hrel
    have hdt : decide ((t : Int) < 200) = true := by simp; omega
    have CF := HF.out wr ax cx xs last n HX.out HT.out
    clear HST HB0 hnil
    go_wp2_with fail
    refine CF.mono ?_
    clear CF HF
    rintro e w2 ⟨i, ok, rfl, hf, hb2⟩
    have HB2 : Hid (Below w.heap.size w w2) := HB.out.trans (hb2.mono HB.out.size)
    have HX2 : Hid (BV w2 ax xs) := HX.out.below hb2
    cases ok
    · have hn8 : n = 8 * len := by have := HT.out.done hf; rw [HLEN.out] at this; exact this
      have hxl : xs.length = len := HT.out.len.trans HLEN.out
      have hq : ((n : Int) == 8 * (len : Int)) = true := by rw [hn8]; simp
      have hw8 : IntKind.i64.wrap (8 * (len : Int)) = 8 * (len : Int) := by rw [IntKind.wrap_i64]; omega
      have hq8 : ((n : Int) == IntKind.i64.wrap (8 * (len : Int))) = true := by rw [hw8]; exact hq
      have SL : Hid (∀ W, Below w2.heap.size w2 W → Below w2.heap.size w2 W ∧ (convert 22 9 (.slice ax len cx)).run Try.prog W = .ok (.string (strOfNums xs)) W) := fun W hW => ⟨hW, conv_bv (HX2.out.below hW) hxl⟩
      have Q3 : Hid (∀ W, Below w2.heap.size w2 W → Calls Try.prog 16 #[.slice ax len cx] W fun e w' => e = .returned (.int .i64 (n : Int)) ∧ Below w2.heap.size w2 w') := fun W hW => by
        have := HC.out W ax cx xs (HX2.out.below hW) hxl
        rw [HT.out.cnt] at this
        refine this.mono ?_
        rintro e w' ⟨rfl, hbb⟩
        exact ⟨rfl, hW.trans (hbb.mono hW.size)⟩
      have Q4 : Hid (∀ W, Below w2.heap.size w2 W → Calls Try.prog 21 #[.slice ax len cx, .slice ax len cx] W fun e w' => ∃ ay cy, e = .returned (.slice ay len cy) ∧ (∀ W', Below w'.heap.size w' W' → Calls Try.prog 16 #[.slice ay len cy] W' fun e w'' => e = .returned (.int .i64 0) ∧ Below w2.heap.size w2 w'') ∧ Below w2.heap.size w2 w') := fun W hW => by
        refine (HL.out W ax cx xs last n (HX2.out.below hW) HT.out).mono ?_
        rintro e w' ⟨ay, cy, ys, rfl, hy, hyl, hy0, hbb⟩
        refine ⟨ay, cy, rfl, fun W' hW' => ?_, hW.trans (hbb.mono hW.size)⟩
        have := HC.out W' ay cy ys (hy.below hW') hyl
        rw [hy0] at this
        refine this.mono ?_
        rintro e w'' ⟨rfl, hbb2⟩
        have b1 := hW.trans (hbb.mono hW.size)
        have b2 := b1.trans (hW'.mono b1.size)
        exact ⟨rfl, b2.trans (hbb2.mono b2.size)⟩
      have Q5 : Hid (∀ W, Below w2.heap.size w2 W → Calls Try.prog 20 #[.slice ax len cx, .slice a len cap] W fun e w' => ∃ ay cy, e = .returned (.slice ay len cy) ∧ (convert 22 9 (.slice ay len cy)).run Try.prog w' = .ok (.string (strOfNums xs)) w' ∧ Below w2.heap.size w2 w') := fun W hW => by
        refine (HJ.out W ax cx xs last n (HX2.out.below hW) HT.out (HB2.out.trans (hW.mono HB2.out.size))).mono ?_
        rintro e w' ⟨ay, cy, rfl, hy, hbb⟩
        exact ⟨ay, cy, rfl, conv_bv hy hxl, hW.trans (hbb.mono hW.size)⟩
      have Q7 : Hid (∀ W, Below w2.heap.size w2 W → Calls Try.prog 8 #[] W fun e w' => e = .returned (.bool true) ∧ Below w2.heap.size w2 w') := fun W hW => by
        refine (HA.out W).mono ?_
        rintro e w' ⟨rfl, hbb⟩
        exact ⟨rfl, hW.trans (hbb.mono hW.size)⟩
      have hnn : ((n : Int) == (n : Int)) = true := by simp
      generalize strOfNums xs = st at *
      clear HC HM HW HL HJ HA HLEN HX HX2 HT hxl hn8 hf hb2
      go_wp2_with fail
      go_region_held (fun w' => Below w2.heap.size w2 w' ∧ (convert 22 9 (.slice ax len cx)).run Try.prog w' = .ok (.string st) w') (first | exact SL.out _ (Below.refl _ _).drew | exact SL.out _ (by assumption)) (first
        | (go_at_call_of 16 ax; refine (Q3.out _ (by first | exact (Below.refl _ _).drew | assumption)).mono ?_; rintro e w3 ⟨rfl, hb3⟩; clear Q3)
        | (go_at_call 21; refine (Q4.out _ (by assumption)).mono ?_; rintro e w4 ⟨ay, cy, rfl, hc4, hb4⟩; have Q4c : Hid (∀ W', Below w4.heap.size w4 W' → Calls Try.prog 16 #[.slice ay len cy] W' fun e w'' => e = .returned (.int .i64 0) ∧ Below w2.heap.size w2 w'') := hc4; clear Q4 hc4)
        | (go_at_call_of 16 ay; refine (Q4c.out _ (Below.refl _ _)).mono ?_; rintro e w5 ⟨rfl, hb5⟩; clear Q4c)
        | (go_at_call 20; refine (Q5.out _ (by assumption)).mono ?_; rintro e w6 ⟨az, cz, rfl, s6, hb6⟩; clear Q5)
        | (go_at_call 8; refine (Q7.out _ (by assumption)).mono ?_; rintro e w7 ⟨rfl, hb7⟩; clear Q7))
      all_goals (go_wp2; go_ret; exact ⟨rfl, HB2.out.trans (hb7.mono HB2.out.size)⟩)
    · obtain ⟨hli, hzi, hi8, ht2⟩ := HT.out.step hf
      have HT2 : Hid (Turn zs (setB xs i true) (i : Int) (n + 1)) := ht2
      have CM := HM.out i w2 HB2.out
      rw [hzi] at CM
      have hi160 : i < 160 := by rw [HLEN.out] at hi8; omega
      have CW : Hid (∀ W, Below w2.heap.size w2 W → Calls Try.prog 19 #[.slice ax len cx, .int .i64 (i : Int), .bool true] W fun e w' => ∃ ay cy, e = .returned (.slice ay len cy) ∧ BV w' ay (setB xs i true) ∧ (ay = none → cy = 0) ∧ Below W.heap.size W w') := fun W hW => HW.out W ax cx xs last n i (HX2.out.below hW) hnx HT.out hi8
      have hdl : decide ((i : Int) ≤ last) = false := by simp; omega
      clear HC HM HW HL HJ HA HLEN HX HX2 HT hf hb2 ht2 hzi hi8
      go_wp2_with (first
        | (go_at_call 11; refine CM.mono ?_; rintro e w3 ⟨rfl, hb3⟩; have HB3 : Hid (Below w2.heap.size w2 w3) := hb3; clear CM hb3)
        | (go_at_call 19; refine (CW.out _ HB3.out).mono ?_; rintro e w4 ⟨ay, cy, rfl, hy4, hn4, hb4⟩; have HY4 : Hid (BV w4 ay (setB xs i true) ∧ (ay = none → cy = 0) ∧ Below w.heap.size w w4) := ⟨hy4, hn4, (HB2.out.trans (HB3.out.mono HB2.out.size)).trans (hb4.mono (by have := HB2.out.size; have := HB3.out.size; omega))⟩; clear hy4 hn4 hb4 CW)
        | fail)
      go_roundw
      case rel => exact ⟨n + 1, t + 1, (i : Int), setB xs i true, ay, cy, by go_num, rfl, rfl, by go_num, by omega, by omega, by omega, by omega, HY4.out.1, HY4.out.2.1, HT2.out, HY4.out.2.2⟩
      case measure => simp [intOf]; omega
theorem walk (a0 : Option Addr) (len0 cap0 : Nat) (z0 : List Int) (w : World) (w0 : IsRow .u8 w a0 len0 cap0 z0) :
    Calls Try.prog 6 #[.slice a0 len0 cap0] w fun e w' => e = .returned (.bool true) ∧ Below w.heap.size w w' := by
  obtain ⟨ys, rfl, hb, hn, _, _⟩ := row_bytes w0
  by_cases h20 : 20 < ys.length
  · exact walk_long a0 ys.length cap0 w h20
  · exact walk_some a0 cap0 ys w hb hn (by omega)

set_option maxRecDepth 100000 in
theorem lifted (os : Os) (started : os.Started) (H : Type) (enc : TypeId × Value → H) :
    ReturnsInHanded {} Try.checked os 6 .any (Rows.bitsFillsSpec.pre6 enc Try.prog Try.f6 Rows.bitsFillsRow.domain false) (Rows.bitsFillsSpec.post enc Try.prog Try.f6 false true false false) := by
  refine returnsInHanded_of_change (C := Try.checked) own started (by kernel_rfl) Try.func6
    (ChangeSpec.witness6 (enc := enc) (C := Try.checked) false ⟨#[], #[.slice none 0 0], []⟩ 8 (by kernel_rfl) (by kernel_rfl) (by kernel_rfl) (by kernel_rfl)) ?_
  intro W base args ds gs before hval0 hW hcnd _
  have hval : ∀ (j : Nat) t v, Try.f6.params[j]? = some t → args[j]? = some v → Value.okWide Try.prog W .any base t v := hval0
  have hW' := hW
  obtain ⟨p, q, hA0, hV, rfl, hfz, hnd⟩ := hW
  have hA : DataW.TrodAll enc Try.prog W 0 (fun _ => true) true Try.f6.params.toList args.toList ds p := hA0
  rw [Try.params6] at hA hval
  obtain ⟨v0, vs0, d0, ds0, p0, q0, hargs, rfl, rfl, h0, r0⟩ := trodAll_cons hA
  obtain ⟨rfl, rfl, rfl⟩ := trodAll_nil r0
  obtain rfl : args = #[v0] := by cases args; simp_all
  obtain ⟨rfl, rfl⟩ := trodVars_none hV
  obtain ⟨a0, len0, cap0, rfl⟩ := okWide_slice Try.underlying22 (hval 0 22 v0 rfl rfl)
  have k0 := h0
  have lt0 : ∀ x ∈ p0, x.block < W.heap.size := by obtain ⟨m, hm⟩ := k0; exact DataW.trod_lt m _ _ _ hm
  obtain ⟨z0, w0⟩ : ∃ zs, IsRow .u8 W a0 len0 cap0 zs := by
    obtain ⟨fuel, hf⟩ := h0
    rcases open_ints Try.underlying22 Try.underlying5 (by kernel_rfl) hf with ⟨hcs, _⟩ | ⟨x, l, c, zs, hcs, _, hl, hm, hz, _, hcell, hwz⟩
    · simp [Value.cells] at hcs
      obtain ⟨rfl, rfl, rfl⟩ := hcs
      exact ⟨[], .inl ⟨rfl, rfl, rfl, rfl⟩⟩
    · simp [Value.cells] at hcs
      obtain ⟨rfl, rfl, rfl⟩ := hcs
      exact ⟨zs, .inr ⟨_, rfl, hl, hm, by simpa using hz, hcell, hwz⟩⟩
  clear hA0 hval0
  refine (walk a0 len0 cap0 z0 W w0).mono fun e W' ⟨he, bel⟩ => ?_
  subst he
  exact ⟨_, rfl, _, _, _, [], _, [], hW', trodAll_mk1 (shut_bool Try.underlying4 _), (trodAll_cons_mk (Below.trod laidOut (by kernel_rfl) (of_decide_eq_true (by kernel_rfl)) k0 bel lt0) trodAll_mk0), rfl, bel.frame _, fun h => by cases h⟩

theorem over : Rows.bitsFillsRow.holds Try.pinned (OpenSpec.ofChange Rows.bitsFillsSpec) :=
  OpenClaim.holds_of_wide 6 Try.f6 rfl rfl rfl rfl rfl rfl rfl ⟨rfl, rfl, rfl, rfl, rfl⟩ rfl rfl rfl rfl rfl (by kernel_rfl) Try.func6 (by kernel_rfl)
    (of_decide_eq_true (by kernel_rfl)) (by unfold Func.isWrapper; first | (rw [if_pos (by decide +kernel)]; kernel_rfl) | (rw [if_neg (by decide +kernel)]; exact ⟨rfl, rfl⟩))
    (fun os started H enc _ => lifted os started H enc)

end Go.Proofs.Ytfbmpnhoohfcgaa.bitsFills

namespace Go.Proofs.Ytfbmpnhoohfcgaa
theorem bitsFills_holds : Rows.BitsFillsSaid := bitsFills.over
#print axioms bitsFills_holds
end Go.Proofs.Ytfbmpnhoohfcgaa
