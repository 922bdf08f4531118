/- For any two sets of up to 60 bytes each and any number, With, Join and Less are as the document says, and what is handed out is the caller's own. -/
import Derived.Test.YtfbmpnhoohfcgaaAwake
import Derived.Deep.RegionHeld3
import Derived.Deep.DeepCutAuto
import Derived.Test.YtfbmpnhoohfcgaaRows
import Derived.WalkKit
import Derived.ProofKit
import Derived.OpenShut
import Derived.ShutString
import Derived.ChangeOld
import Derived.Below
namespace Go.Proofs.Ytfbmpnhoohfcgaa.bitsMakes
open Go.ChangeShapes Go.WideShapes Go.ChangeAt Go.RowKit
open Go.ChangeMaps (open_string shut_string)
set_option linter.unusedVariables false

theorem own : ownKnob Try.prog.godebug = none := by kernel_rfl
theorem laidOut : laidOutB Try.prog = true := by kernel_rfl

/-- WHAT THE WALK IS TOLD OF A SLICE OF INTEGERS THAT CAME IN: it is nil; or it leads to a row of 'cap' cells, the numbers 'zs' (the first 'len' are its elements, the rest its spare room), each fitting its kind. -/
def IsRow (k : IntKind) (w : World) (a : Option Addr) (len cap : Nat) (zs : List Int) : Prop :=
  (a = none ∧ len = 0 ∧ cap = 0 ∧ zs = []) ∨
  ∃ x, a = some x ∧ len ≤ cap ∧ cap ≤ maxLen ∧ zs.length = cap ∧ (∀ i, i < zs.length → w.cell? (x.add i) = some (.int k (zs.getD i 0))) ∧ ∀ n ∈ zs, (Lit.int k n).wf = true

theorem row_bytes {w : World} {a : Option Addr} {len cap : Nat} {zs : List Int} (h : IsRow .u8 w a len cap zs) :
    ∃ ys : List Int, ys.length = len ∧ BV w a ys ∧ (a = none → cap = 0) ∧ len ≤ cap ∧ len ≤ 9223372036854775807 := by
  rcases h with ⟨rfl, rfl, rfl, rfl⟩ | ⟨x, rfl, hl, hm, hz, hcell, hwz⟩
  · exact ⟨[], rfl, ⟨AllB.nil, .inl rfl⟩, fun _ => rfl, Nat.le_refl _, by decide⟩
  · refine ⟨zs.take len, by simp; omega, ⟨?_, ?_⟩, (fun h => by cases h), hl, by unfold maxLen at hm; omega⟩
    · intro z hz'
      have := bounds_u8 (hwz z (List.mem_of_mem_take hz'))
      omega
    · by_cases h0 : len = 0
      · left; simp [h0]
      · right
        obtain ⟨b, off, spot⟩ := x
        have hc := hcell 0 (by omega)
        have hspot : spot = none := by simpa [Addr.add] using World.cell?_spot hc
        subst hspot
        refine ⟨b, off, rfl, ?_, ?_⟩
        · have := World.block_lt_of_cell? _ _ hc
          simpa [Addr.add] using this
        · intro i hi
          rw [List.length_take] at hi
          have := hcell i (by omega)
          rw [add_plain] at this
          rw [this, List.getD_eq_getElem?_getD, List.getD_eq_getElem?_getD, List.getElem?_take, if_pos (by omega)]
set_option maxHeartbeats 800000 in
theorem walk_long (a b : Option Addr) (l1 c1 l2 c2 : Nat) (i : Int) (w : World) (h : 60 < l1 ∨ 60 < l2) :
    Calls Try.prog 4 #[.slice a l1 c1, .slice b l2 c2, .int .i64 i] w fun e w' => e = .returned (.bool true) ∧ Below w.heap.size w w' := by
  have HA := awake_any w
  by_cases h1 : 60 < l1
  · have hd : decide ((60 : Int) < (l1 : Int)) = true := by simp; omega
    go_enter Try.func4, Try.ntmps4
    go_wp2_with (first | (go_at_call 8; refine HA.mono ?_; rintro e w1 ⟨rfl, hb⟩; clear HA) | fail)
    go_ret
    exact ⟨rfl, hb⟩
  · have hd : decide ((60 : Int) < (l1 : Int)) = false := by simp; omega
    have hd2 : decide ((60 : Int) < (l2 : Int)) = true := by simp; omega
    go_enter Try.func4, Try.ntmps4
    go_wp2_with (first | (go_at_call 8; refine HA.mono ?_; rintro e w1 ⟨rfl, hb⟩; clear HA) | fail)
    go_ret
    exact ⟨rfl, hb⟩
theorem withI_all {zs : List Int} (h : AllB zs) (i : Int) (on : Bool) : AllB (withI zs i on) := by
  unfold withI
  split
  · exact setB_all h _ _
  · exact h
theorem withI_length (zs : List Int) (i : Int) (on : Bool) : (withI zs i on).length = zs.length := by
  unfold withI
  split
  · exact setB_length _ _ _
  · rfl
/-- A slice of the call's own, of n bytes; its cells may be written. -/
def Mine (w : World) (base : Nat) (a : Option Addr) (n cap : Nat) : Prop := ∃ zs : List Int, AllB zs ∧ zs.length = n ∧ Own w base (.slice a n cap) zs
theorem Mine.below {w w' : World} {base : Nat} {a : Option Addr} {n cap : Nat} (h : Mine w base a n cap) (hb : Below w.heap.size w w') : Mine w' base a n cap := by
  obtain ⟨zs, h1, h2, h3⟩ := h
  exact ⟨zs, h1, h2, h3.below hb⟩
theorem Mine.at {w : World} {base : Nat} {a : Option Addr} {n cap : Nat} (h : Mine w base a n cap) (k : Nat) (hk : k < n) : ∃ g z, a = some ⟨g, 0, none⟩ ∧ base ≤ g ∧ g < w.heap.size ∧ 0 ≤ z ∧ z ≤ 255 ∧ w.cell? ⟨g, k, none⟩ = some (.int .u8 z) ∧ w.frozen? ⟨g, k, none⟩ = false ∧ ∀ u, 0 ≤ u → u ≤ 255 → Mine (w.setCell ⟨g, k, none⟩ (.int .u8 u)) base a n cap := by
  obtain ⟨zs, h1, h2, h3⟩ := h
  obtain ⟨g, c, e, _, h5, h6, h7, h8⟩ := h3.pos h1 (by omega)
  obtain ⟨rfl, rfl⟩ : a = some ⟨g, 0, none⟩ ∧ cap = c := by simp at e; exact ⟨e.1, e.2.2⟩
  have hz := h1.getD k
  exact ⟨g, zs.getD k 0, rfl, h5, h6, hz.1, hz.2, h7 k (by omega), h8 k, fun u hu0 hu1 => ⟨zs.set k u, h1.set k hu0 hu1, by rw [List.length_set]; exact h2, h3.stored k u⟩⟩
theorem Mine.other {w : World} {base : Nat} {a : Option Addr} {n cap : Nat} (h : Mine w base a n cap) {p : Addr} (hp : ∀ g, a = some ⟨g, 0, none⟩ → g ≠ p.block) (u : Value) : Mine (w.setCell p u) base a n cap := by
  obtain ⟨zs, h1, h2, h3⟩ := h
  refine ⟨zs, h1, h2, ?_⟩
  refine ownsRow_setCell_other h3 ?_ u
  intro e
  rcases h3.2 with ⟨e2, _⟩ | ⟨g, c, cur, e2, _⟩
  · rw [e2] at e; cases e
  · rw [e2] at e
    have e3 : g = p.block := by simpa [Value.ownBlock] using e
    obtain ⟨rfl, _⟩ : a = some ⟨g, 0, none⟩ ∧ True := by simp at e2; exact ⟨e2.1, trivial⟩
    exact hp g rfl e3
theorem Mine.base {w : World} {base : Nat} {a : Option Addr} {n cap : Nat} (h : Mine w base a n cap) (g : Nat) (hg : a = some ⟨g, 0, none⟩) : base ≤ g ∧ g < w.heap.size := by
  obtain ⟨zs, h1, h2, h3⟩ := h
  subst hg
  exact World.ownsRow.lt h3 g rfl
/-- The three slices, in blocks of their own. -/
def Three (w wr : World) (B0 B1 B2 : Nat) (ax ay az : Option Addr) (lx N cx cy cz : Nat) : Prop :=
  Mine wr B0 ax lx cx ∧ Mine wr B1 ay N cy ∧ Mine wr B2 az N cz ∧ Below B0 w wr ∧ B0 ≤ B1 ∧ B1 ≤ B2 ∧ (∀ g, ax = some ⟨g, 0, none⟩ → g < B1) ∧ (∀ g, ay = some ⟨g, 0, none⟩ → g < B2)
theorem Three.x {w wr : World} {B0 B1 B2 : Nat} {ax ay az : Option Addr} {lx N cx cy cz : Nat} (h : Three w wr B0 B1 B2 ax ay az lx N cx cy cz) (k : Nat) (hk : k < lx) : ∃ g z, ax = some ⟨g, 0, none⟩ ∧ 0 ≤ z ∧ z ≤ 255 ∧ wr.cell? ⟨g, k, none⟩ = some (.int .u8 z) ∧ wr.frozen? ⟨g, k, none⟩ = false ∧ ∀ u, 0 ≤ u → u ≤ 255 → Three w (wr.setCell ⟨g, k, none⟩ (.int .u8 u)) B0 B1 B2 ax ay az lx N cx cy cz := by
  obtain ⟨h1, h2, h3, h4, h5, h6, h7, h8⟩ := h
  obtain ⟨g, z, rfl, hg1, hg2, hz0, hz1, hc, hf, hs⟩ := h1.at k hk
  refine ⟨g, z, rfl, hz0, hz1, hc, hf, fun u hu0 hu1 => ⟨hs u hu0 hu1, h2.other (fun g' e => ?_) _, h3.other (fun g' e => ?_) _, h4.setCell hg1 _, h5, h6, h7, h8⟩⟩
  · have := (h2.base g' e).1; have := h7 g rfl; show g' ≠ g; omega
  · have := (h3.base g' e).1; have := h7 g rfl; show g' ≠ g; omega
theorem Three.y {w wr : World} {B0 B1 B2 : Nat} {ax ay az : Option Addr} {lx N cx cy cz : Nat} (h : Three w wr B0 B1 B2 ax ay az lx N cx cy cz) (k : Nat) (hk : k < N) : ∃ g z, ay = some ⟨g, 0, none⟩ ∧ 0 ≤ z ∧ z ≤ 255 ∧ wr.cell? ⟨g, k, none⟩ = some (.int .u8 z) ∧ wr.frozen? ⟨g, k, none⟩ = false ∧ ∀ u, 0 ≤ u → u ≤ 255 → Three w (wr.setCell ⟨g, k, none⟩ (.int .u8 u)) B0 B1 B2 ax ay az lx N cx cy cz := by
  obtain ⟨h1, h2, h3, h4, h5, h6, h7, h8⟩ := h
  obtain ⟨g, z, rfl, hg1, hg2, hz0, hz1, hc, hf, hs⟩ := h2.at k hk
  refine ⟨g, z, rfl, hz0, hz1, hc, hf, fun u hu0 hu1 => ⟨h1.other (fun g' e => ?_) _, hs u hu0 hu1, h3.other (fun g' e => ?_) _, h4.setCell (Nat.le_trans h5 hg1) _, h5, h6, h7, h8⟩⟩
  · have := h7 g' e; show g' ≠ g; omega
  · have := (h3.base g' e).1; have := h8 g rfl; show g' ≠ g; omega
theorem Three.z {w wr : World} {B0 B1 B2 : Nat} {ax ay az : Option Addr} {lx N cx cy cz : Nat} (h : Three w wr B0 B1 B2 ax ay az lx N cx cy cz) (k : Nat) (hk : k < N) : ∃ g z, az = some ⟨g, 0, none⟩ ∧ 0 ≤ z ∧ z ≤ 255 ∧ wr.cell? ⟨g, k, none⟩ = some (.int .u8 z) ∧ wr.frozen? ⟨g, k, none⟩ = false ∧ ∀ u, 0 ≤ u → u ≤ 255 → Three w (wr.setCell ⟨g, k, none⟩ (.int .u8 u)) B0 B1 B2 ax ay az lx N cx cy cz := by
  obtain ⟨h1, h2, h3, h4, h5, h6, h7, h8⟩ := h
  obtain ⟨g, z, rfl, hg1, hg2, hz0, hz1, hc, hf, hs⟩ := h3.at k hk
  refine ⟨g, z, rfl, hz0, hz1, hc, hf, fun u hu0 hu1 => ⟨h1.other (fun g' e => ?_) _, h2.other (fun g' e => ?_) _, hs u hu0 hu1, h4.setCell (Nat.le_trans h5 (Nat.le_trans h6 hg1)) _, h5, h6, h7, h8⟩⟩
  · have := h7 g' e; show g' ≠ g; omega
  · have := h8 g' e; show g' ≠ g; omega
theorem Three.below {w wr w' : World} {B0 B1 B2 : Nat} {ax ay az : Option Addr} {lx N cx cy cz : Nat} (h : Three w wr B0 B1 B2 ax ay az lx N cx cy cz) (hb : Below wr.heap.size wr w') (hB : B0 ≤ wr.heap.size) : Three w w' B0 B1 B2 ax ay az lx N cx cy cz :=
  ⟨h.1.below hb, h.2.1.below hb, h.2.2.1.below hb, h.2.2.2.1.trans (hb.mono hB), h.2.2.2.2⟩
set_option maxRecDepth 50000 in
set_option maxHeartbeats 6400000 in
theorem walk_some (a b : Option Addr) (c1 c2 : Nat) (xs ys : List Int) (i : Int) (w : World) (ha : BV w a xs) (hb : BV w b ys) (hna : a = none → c1 = 0) (h1 : xs.length ≤ 60) (h2 : ys.length ≤ 60) (hi : i ≤ 9223372036854775807) :
    Calls Try.prog 4 #[.slice a xs.length c1, .slice b ys.length c2, .int .i64 i] w fun e w' => e = .returned (.bool true) ∧ Below w.heap.size w w' := by
  obtain ⟨N, hN⟩ : ∃ N, max xs.length ys.length = N := ⟨_, rfl⟩
  obtain ⟨m, hm⟩ : ∃ m, xs.length = m := ⟨_, rfl⟩
  obtain ⟨m2, hm2⟩ : ∃ m2, ys.length = m2 := ⟨_, rfl⟩
  obtain ⟨sa, hsa⟩ : ∃ s, strOfNums xs = s := ⟨_, rfl⟩
  obtain ⟨sb, hsb⟩ : ∃ s, strOfNums ys = s := ⟨_, rfl⟩
  have CA : Hid (∀ W, Below w.heap.size w W → (convert 22 9 (.slice a m c1)).run Try.prog W = .ok (.string sa) W ∧ (convert 22 9 (.slice b m2 c2)).run Try.prog W = .ok (.string sb) W) := fun W hW => ⟨by rw [← hsa]; exact conv_bv (ha.below hW) hm, by rw [← hsb]; exact conv_bv (hb.below hW) hm2⟩
  obtain ⟨sT, hsT⟩ : ∃ s, strOfNums (withI xs i true) = s := ⟨_, rfl⟩
  obtain ⟨sF, hsF⟩ : ∃ s, strOfNums (withI xs i false) = s := ⟨_, rfl⟩
  have HW : Hid (∀ W (on : Bool), Below w.heap.size w W → Calls Try.prog 19 #[.slice a m c1, .int .i64 i, .bool on] W fun e w' => ∃ ax cx, e = .returned (.slice ax m cx) ∧ Mine w' W.heap.size ax m cx ∧ Hid (∀ W', Below w'.heap.size w' W' → (convert 22 9 (.slice ax m cx)).run Try.prog W' = .ok (.string (if on then sT else sF)) W') ∧ Below W.heap.size W w' ∧ Below w.heap.size w w') := fun W on hW => by
    have := with_any a c1 xs i on W (ha.below hW) (by omega) hna
    rw [hm] at this
    refine this.mono ?_
    rintro e w' ⟨v, rfl, ho, hbb⟩
    have hal := withI_all ha.1 i on
    obtain ⟨ax, cx, e, h3, h4⟩ := ho.split hal
    rw [withI_length, hm] at e
    subst e
    refine ⟨ax, cx, rfl, ⟨_, hal, by rw [withI_length]; exact hm, ho⟩, fun W' hW' => ?_, hbb, hW.trans (hbb.mono hW.size)⟩
    rw [conv_bv (h3.below hW') (by rw [withI_length]; exact hm)]
    cases on
    · rw [hsF]; rfl
    · rw [hsT]; rfl
  have HRW : Hid (∀ W (on : Bool), Below w.heap.size w W → Calls Try.prog 22 #[.slice a m c1, .int .i64 i, .bool on] W fun e w' => ∃ ax cx, e = .returned (.slice ax m cx) ∧ Hid (∀ W', Below w'.heap.size w' W' → (convert 22 9 (.slice ax m cx)).run Try.prog W' = .ok (.string (if on then sT else sF)) W') ∧ Below W.heap.size W w' ∧ Below w.heap.size w w') := fun W on hW => by
    have := rwith_any a c1 xs i on W (ha.below hW) (by omega) hna hi
    rw [hm] at this
    refine this.mono ?_
    rintro e w' ⟨v, rfl, ho, hbb⟩
    have hal := withI_all ha.1 i on
    obtain ⟨ax, cx, e, h3, h4⟩ := ho.split hal
    rw [withI_length, hm] at e
    subst e
    refine ⟨ax, cx, rfl, fun W' hW' => ?_, hbb, hW.trans (hbb.mono hW.size)⟩
    rw [conv_bv (h3.below hW') (by rw [withI_length]; exact hm)]
    cases on
    · rw [hsF]; rfl
    · rw [hsT]; rfl
  have HJ : Hid (∀ W, Below w.heap.size w W → Calls Try.prog 20 #[.slice a m c1, .slice b m2 c2] W fun e w' => ∃ ay cy js, e = .returned (.slice ay N cy) ∧ Mine w' W.heap.size ay N cy ∧ IsJoin xs ys js ∧ Hid (∀ W', Below w'.heap.size w' W' → (convert 22 9 (.slice ay N cy)).run Try.prog W' = .ok (.string (strOfNums js)) W') ∧ Below W.heap.size W w' ∧ Below w.heap.size w w') := fun W hW => by
    have := join_any a b c1 c2 xs ys W (ha.below hW) (hb.below hW) (by omega) (by omega)
    rw [hm, hm2] at this
    refine this.mono ?_
    rintro e w' ⟨v, zs, rfl, ho, hj, hbb⟩
    obtain ⟨ax, cx, e, h3, h4⟩ := ho.split hj.2.1
    rw [hj.1, hN] at e
    subst e
    exact ⟨ax, cx, zs, rfl, ⟨_, hj.2.1, hj.1.trans hN, ho⟩, hj, fun W' hW' => conv_bv (h3.below hW') (hj.1.trans hN), hbb, hW.trans (hbb.mono hW.size)⟩
  have HL : Hid (∀ W, Below w.heap.size w W → Calls Try.prog 21 #[.slice a m c1, .slice b m2 c2] W fun e w' => ∃ ay cy js, e = .returned (.slice ay N cy) ∧ Mine w' W.heap.size ay N cy ∧ IsLess xs ys js ∧ Hid (∀ W', Below w'.heap.size w' W' → (convert 22 9 (.slice ay N cy)).run Try.prog W' = .ok (.string (strOfNums js)) W') ∧ Below W.heap.size W w' ∧ Below w.heap.size w w') := fun W hW => by
    have := less_any a b c1 c2 xs ys W (ha.below hW) (hb.below hW) (by omega) (by omega)
    rw [hm, hm2] at this
    refine this.mono ?_
    rintro e w' ⟨v, zs, rfl, ho, hj, hbb⟩
    obtain ⟨ax, cx, e, h3, h4⟩ := ho.split hj.2.1
    rw [hj.1, hN] at e
    subst e
    exact ⟨ax, cx, zs, rfl, ⟨_, hj.2.1, hj.1.trans hN, ho⟩, hj, fun W' hW' => conv_bv (h3.below hW') (hj.1.trans hN), hbb, hW.trans (hbb.mono hW.size)⟩
  have HRJ : Hid (∀ W js, IsJoin xs ys js → Below w.heap.size w W → Calls Try.prog 23 #[.slice a m c1, .slice b m2 c2] W fun e w' => ∃ v, e = .returned v ∧ Hid (∀ W', Below w'.heap.size w' W' → (convert 22 9 v).run Try.prog W' = .ok (.string (strOfNums js)) W') ∧ Below W.heap.size W w' ∧ Below w.heap.size w w') := fun W js hjs hW => by
    have := rjoin_any a b c1 c2 xs ys W (ha.below hW) (hb.below hW) (by omega) (by omega)
    rw [hm, hm2] at this
    refine this.mono ?_
    rintro e w' ⟨v, zs, rfl, ho, hj, hbb⟩
    obtain rfl := hj.one hjs
    exact ⟨v, rfl, fun W' hW' => conv_own (ho.below hW') hj.2.1, hbb, hW.trans (hbb.mono hW.size)⟩
  have HRL : Hid (∀ W js, IsLess xs ys js → Below w.heap.size w W → Calls Try.prog 24 #[.slice a m c1, .slice b m2 c2] W fun e w' => ∃ v, e = .returned v ∧ Hid (∀ W', Below w'.heap.size w' W' → (convert 22 9 v).run Try.prog W' = .ok (.string (strOfNums js)) W') ∧ Below W.heap.size W w' ∧ Below w.heap.size w w') := fun W js hjs hW => by
    have := rless_any a b c1 c2 xs ys W (ha.below hW) (hb.below hW) (by omega) (by omega)
    rw [hm, hm2] at this
    refine this.mono ?_
    rintro e w' ⟨v, zs, rfl, ho, hj, hbb⟩
    obtain rfl := hj.one hjs
    exact ⟨v, rfl, fun W' hW' => conv_own (ho.below hW') hj.2.1, hbb, hW.trans (hbb.mono hW.size)⟩
  have H8 : Hid (∀ W, Below w.heap.size w W → Calls Try.prog 8 #[] W fun e w' => e = .returned (.bool true) ∧ Below w.heap.size w w') := fun W hW => by
    refine (awake_any W).mono ?_
    rintro e w' ⟨rfl, hbb⟩
    exact ⟨rfl, hW.trans (hbb.mono hW.size)⟩
  have hd1 : decide ((60 : Int) < (m : Int)) = false := by simp; omega
  have hd2 : decide ((60 : Int) < (m2 : Int)) = false := by simp; omega
  rw [hm, hm2]
  have hN60 : N ≤ 60 := by omega
  have hm60 : m ≤ 60 := by omega
  have hss : ¬ 9223372036854775807 < sa.size + sb.size := by rw [← hsa, ← hsb, strOfNums_size, strOfNums_size]; omega
  have HSS : Hid (¬ 9223372036854775807 < sa.size + sb.size) := hss
  obtain ⟨ca0, cb0⟩ := CA.out w (Below.refl _ _)
  clear ha hb hN hm hm2 h1 h2 hi hna hsa hsb hsT hsF
  go_enter Try.func4, Try.ntmps4
  go_wp2_with (first
    | (go_at_call 19; refine (HW.out _ true (Below.refl _ _)).mono ?_; rintro e w1 ⟨ax, cx, rfl, mx, sx, _, hb1⟩; have HX1 : Hid (Mine w1 w.heap.size ax m cx ∧ Below w.heap.size w w1 ∧ ∀ W', Below w1.heap.size w1 W' → (convert 22 9 (.slice ax m cx)).run Try.prog W' = .ok (.string sT) W') := ⟨mx, hb1, sx.out⟩; clear mx sx hb1 ca0 cb0 hss)
    | (go_at_call 20; refine (HJ.out _ HX1.out.2.1).mono ?_; rintro e w2 ⟨ay, cy, js, rfl, my, hjs, sy, hs2, hb2⟩; have HY1 : Hid (Mine w2 w1.heap.size ay N cy ∧ IsJoin xs ys js ∧ (∀ W', Below w2.heap.size w2 W' → (convert 22 9 (.slice ay N cy)).run Try.prog W' = .ok (.string (strOfNums js)) W') ∧ Below w1.heap.size w1 w2 ∧ Below w.heap.size w w2) := ⟨my, hjs, sy.out, hs2, hb2⟩; clear my hjs sy hs2 hb2 HJ)
    | (go_at_call 21; refine (HL.out _ HY1.out.2.2.2.2).mono ?_; rintro e w3 ⟨az, cz, ls, rfl, mz, hls, sz, hs3, hb3⟩; have HZ1 : Hid (Mine w3 w2.heap.size az N cz ∧ IsLess xs ys ls ∧ (∀ W', Below w3.heap.size w3 W' → (convert 22 9 (.slice az N cz)).run Try.prog W' = .ok (.string (strOfNums ls)) W') ∧ Below w2.heap.size w2 w3 ∧ Below w.heap.size w w3) := ⟨mz, hls, sz.out, hs3, hb3⟩; clear mz hls sz hs3 hb3 HL)
    | fail)
  obtain ⟨mx, hb1, sx⟩ := HX1.out
  obtain ⟨my, hjs, sy, hs2, hb2⟩ := HY1.out
  obtain ⟨mz, hls, sz, hs3, hb3⟩ := HZ1.out
  have HTH : Hid (Three w w3 w.heap.size w1.heap.size w2.heap.size ax ay az m N cx cy cz) := ⟨(mx.below hs2).below hs3, my.below hs3, mz, hb3, hb1.size, hs2.size, fun g e => (mx.base g e).2, fun g e => (my.base g e).2⟩
  have SL : Hid (∀ W, Below w3.heap.size w3 W → Below w3.heap.size w3 W ∧ (convert 22 9 (.slice ax m cx)).run Try.prog W = .ok (.string sT) W ∧ (convert 22 9 (.slice ay N cy)).run Try.prog W = .ok (.string (strOfNums js)) W ∧ (convert 22 9 (.slice az N cz)).run Try.prog W = .ok (.string (strOfNums ls)) W) := fun W hW => ⟨hW, sx W (hs2.trans ((hs3.mono hs2.size).trans (hW.mono (by have := hs2.size; have := hs3.size; omega)))), sy W (hs3.trans (hW.mono hs3.size)), sz W hW⟩
  have QT : Hid (∀ W, Below w3.heap.size w3 W → Calls Try.prog 22 #[.slice a m c1, .int .i64 i, .bool true] W fun e w' => ∃ a4 c4, e = .returned (.slice a4 m c4) ∧ (convert 22 9 (.slice a4 m c4)).run Try.prog w' = .ok (.string sT) w' ∧ Below w3.heap.size w3 w') := fun W hW => by
    refine (HRW.out W true (hb3.trans (hW.mono hb3.size))).mono ?_
    rintro e w' ⟨a4, c4, rfl, s4, hs4, _⟩
    exact ⟨a4, c4, rfl, s4.out _ (Below.refl _ _), hW.trans (hs4.mono hW.size)⟩
  have QF : Hid (∀ W, Below w3.heap.size w3 W → Calls Try.prog 19 #[.slice a m c1, .int .i64 i, .bool false] W fun e w' => ∃ a4 c4, e = .returned (.slice a4 m c4) ∧ Hid (∀ W', Below w'.heap.size w' W' → (convert 22 9 (.slice a4 m c4)).run Try.prog W' = .ok (.string sF) W') ∧ Below W.heap.size W w' ∧ Below w3.heap.size w3 w') := fun W hW => by
    refine (HW.out W false (hb3.trans (hW.mono hb3.size))).mono ?_
    rintro e w' ⟨a4, c4, rfl, _, s4, hs4, _⟩
    exact ⟨a4, c4, rfl, s4, hs4, hW.trans (hs4.mono hW.size)⟩
  have QR : Hid (∀ W, Below w3.heap.size w3 W → Calls Try.prog 22 #[.slice a m c1, .int .i64 i, .bool false] W fun e w' => ∃ a4 c4, e = .returned (.slice a4 m c4) ∧ Hid (∀ W', Below w'.heap.size w' W' → (convert 22 9 (.slice a4 m c4)).run Try.prog W' = .ok (.string sF) W') ∧ Below W.heap.size W w' ∧ Below w3.heap.size w3 w') := fun W hW => by
    refine (HRW.out W false (hb3.trans (hW.mono hb3.size))).mono ?_
    rintro e w' ⟨a4, c4, rfl, s4, hs4, _⟩
    exact ⟨a4, c4, rfl, s4, hs4, hW.trans (hs4.mono hW.size)⟩
  have QJ : Hid (∀ W, Below w3.heap.size w3 W → Calls Try.prog 23 #[.slice a m c1, .slice b m2 c2] W fun e w' => ∃ v, e = .returned v ∧ (convert 22 9 v).run Try.prog w' = .ok (.string (strOfNums js)) w' ∧ Below w3.heap.size w3 w') := fun W hW => by
    refine (HRJ.out W js hjs (hb3.trans (hW.mono hb3.size))).mono ?_
    rintro e w' ⟨v, rfl, s4, hs4, _⟩
    exact ⟨v, rfl, s4.out _ (Below.refl _ _), hW.trans (hs4.mono hW.size)⟩
  have QL : Hid (∀ W, Below w3.heap.size w3 W → Calls Try.prog 24 #[.slice a m c1, .slice b m2 c2] W fun e w' => ∃ v, e = .returned v ∧ (convert 22 9 v).run Try.prog w' = .ok (.string (strOfNums ls)) w' ∧ Below w3.heap.size w3 w') := fun W hW => by
    refine (HRL.out W ls hls (hb3.trans (hW.mono hb3.size))).mono ?_
    rintro e w' ⟨v, rfl, s4, hs4, _⟩
    exact ⟨v, rfl, s4.out _ (Below.refl _ _), hW.trans (hs4.mono hW.size)⟩
  have HT3 : Hid (∀ W, Below w3.heap.size w3 W → Three w W w.heap.size w1.heap.size w2.heap.size ax ay az m N cx cy cz) := fun W hW => HTH.out.below hW hb3.size
  generalize strOfNums js = sj at *
  generalize strOfNums ls = sl at *
  clear HX1 HY1 HZ1 mx hb1 sx my hjs sy hs2 hb2 mz hls sz hs3 hb3 HTH HW HRW HRJ HRL
  generalize w1.heap.size = B1 at *
  generalize w2.heap.size = B2 at *
  go_cut [11] (fun ok wx => ok = .bool true ∧ Hid (Below w3.heap.size w3 wx))
  case first =>
    go_region_held (fun w' => Below w3.heap.size w3 w' ∧ (convert 22 9 (.slice ax m cx)).run Try.prog w' = .ok (.string sT) w' ∧ (convert 22 9 (.slice ay N cy)).run Try.prog w' = .ok (.string sj) w' ∧ (convert 22 9 (.slice az N cz)).run Try.prog w' = .ok (.string sl) w') (first | exact SL.out _ (Below.refl _ _).drew | exact SL.out _ (by assumption)) (first
      | (go_at_call_of 22 true; refine (QT.out _ (by first | exact (Below.refl _ _).drew | assumption)).mono ?_; rintro e w4 ⟨a4, c4, rfl, s4, hb4⟩; clear QT)
      | (go_at_call 19; refine (QF.out _ (by assumption)).mono ?_; rintro e w5 ⟨a5, c5, rfl, s5, hs5, hb5⟩; have t5 := s5.out _ (Below.refl _ _); (try have t6' := s6.out _ hs5); clear QF)
      | (go_at_call_of 22 false; refine (QR.out _ (by assumption)).mono ?_; rintro e w6 ⟨a6, c6, rfl, s6, hs6, hb6⟩; have t6 := s6.out _ (Below.refl _ _); (try have t5' := s5.out _ hs6); clear QR)
      | (go_at_call 23; refine (QJ.out _ (by assumption)).mono ?_; rintro e w7 ⟨v7, rfl, s7, hb7⟩; clear QJ)
      | (go_at_call 24; refine (QL.out _ (by assumption)).mono ?_; rintro e w8 ⟨v8, rfl, s8, hb8⟩; clear QL))
    all_goals (
      go_wp2_with fail
      go_meet
      case rel => exact ⟨rfl, hb8⟩)
  case rest =>
    obtain ⟨rfl, HBC⟩ := hcut
    have HTC : Hid (Three w wc w.heap.size B1 B2 ax ay az m N cx cy cz) := HT3.out _ HBC.out
    clear QT QF QR QJ QL SL HT3 HBC
    go_wp2_with fail
    go_loopw [12] (fun iv wr => ∃ k : Nat, k ≤ m ∧ iv = .int .i64 k ∧ Hid (Three w wr w.heap.size B1 B2 ax ay az m N cx cy cz)) (fun iv _ => m - (intOf iv).toNat)
    case atStart => exact ⟨0, Nat.zero_le _, rfl, HTC.out⟩
    case round =>
      obtain ⟨k, hk, rfl, HT⟩ := hrel
      by_cases hlt : k < m
      · obtain ⟨g, z, rfl, hz0, hz1, hc, hf, hs⟩ := HT.out.x k hlt
        have HS : Hid (Three w (wr.setCell ⟨g, k, none⟩ (.int .u8 ((z + 1) % 256))) w.heap.size B1 B2 (some ⟨g, 0, none⟩) ay az m N cx cy cz) := hs _ (by omega) (by omega)
        have hdk : decide ((k : Int) < (m : Int)) = true := by simp; omega
        clear hs HTC HT
        go_wp2
        go_roundw
        case rel => exact ⟨k + 1, by omega, by go_num, HS.out⟩
        case measure => simp [intOf]; omega
      · have hdk : decide ((k : Int) < (m : Int)) = false := by simp; omega
        clear HTC
        go_wp2_with fail
        go_loopw [13] (fun iv wr => ∃ k : Nat, k ≤ N ∧ iv = .int .i64 k ∧ Hid (Three w wr w.heap.size B1 B2 ax ay az m N cx cy cz)) (fun iv _ => N - (intOf iv).toNat)
        case atStart => exact ⟨0, Nat.zero_le _, rfl, HT.out⟩
        case round =>
          obtain ⟨k2, hk2, rfl, HT2⟩ := hrel
          by_cases hlt2 : k2 < N
          · obtain ⟨g, z, rfl, hz0, hz1, hc, hf, hs⟩ := HT2.out.y k2 hlt2
            have HS : Hid (Three w (wr.setCell ⟨g, k2, none⟩ (.int .u8 ((z + 1) % 256))) w.heap.size B1 B2 ax (some ⟨g, 0, none⟩) az m N cx cy cz) := hs _ (by omega) (by omega)
            obtain ⟨g2, z2, rfl, hy0, hy1, hc2, hf2, hs2⟩ := HS.out.z k2 hlt2
            have HS2 : Hid (Three w ((wr.setCell ⟨g, k2, none⟩ (.int .u8 ((z + 1) % 256))).setCell ⟨g2, k2, none⟩ (.int .u8 ((z2 + 1) % 256))) w.heap.size B1 B2 ax (some ⟨g, 0, none⟩) (some ⟨g2, 0, none⟩) m N cx cy cz) := hs2 _ (by omega) (by omega)
            have hdk : decide ((k2 : Int) < (N : Int)) = true := by simp; omega
            obtain ⟨W1, hW1⟩ : ∃ W1, W1 = wr.setCell ⟨g, k2, none⟩ (.int .u8 ((z + 1) % 256)) := ⟨_, rfl⟩
            clear hs HT HT2 hs2 HS
            go_wp2
            go_roundw
            case rel => exact ⟨k2 + 1, by omega, by go_num, HS2.out⟩
            case measure => simp [intOf]; omega
          · have hdk : decide ((k2 : Int) < (N : Int)) = false := by simp; omega
            have HBF : Hid (Below w.heap.size w wr) := HT2.out.2.2.2.1
            obtain ⟨ca0, cb0⟩ := CA.out _ HBF.out
            have hss := HSS.out
            clear HT HT2 CA
            go_wp2_with (first | (go_at_call 8; refine (H8.out _ HBF.out).mono ?_; rintro e w9 ⟨rfl, hb9⟩; clear H8) | fail)
            go_ret
            exact ⟨rfl, hb9⟩
theorem walk (a0 : Option Addr) (len0 cap0 : Nat) (z0 : List Int) (a1 : Option Addr) (len1 cap1 : Nat) (z1 : List Int) (a2 : Int) (w : World) (w0 : IsRow .u8 w a0 len0 cap0 z0) (w1 : IsRow .u8 w a1 len1 cap1 z1) (w2 : (Lit.int .i64 a2).wf = true) :
    Calls Try.prog 4 #[.slice a0 len0 cap0, .slice a1 len1 cap1, .int .i64 a2] w fun e w' => e = .returned (.bool true) ∧ Below w.heap.size w w' := by
  obtain ⟨xs, hl, hb, hn, _, _⟩ := row_bytes w0
  obtain ⟨ys, hl2, hb2, hn2, _, _⟩ := row_bytes w1
  have hu := bounds_i64 w2
  by_cases h60 : 60 < len0 ∨ 60 < len1
  · exact walk_long a0 a1 len0 cap0 len1 cap1 a2 w h60
  · subst hl; subst hl2
    exact walk_some a0 a1 cap0 cap1 xs ys a2 w hb hb2 hn (by omega) (by omega) (by omega)

set_option maxRecDepth 100000 in
theorem lifted (os : Os) (started : os.Started) (H : Type) (enc : TypeId × Value → H) :
    ReturnsInHanded {} Try.checked os 4 .any (Rows.bitsMakesSpec.pre6 enc Try.prog Try.f4 Rows.bitsMakesRow.domain false) (Rows.bitsMakesSpec.post enc Try.prog Try.f4 false true false false) := by
  refine returnsInHanded_of_change (C := Try.checked) own started (by kernel_rfl) Try.func4
    (ChangeSpec.witness6 (enc := enc) (C := Try.checked) false ⟨#[], #[.slice none 0 0, .slice none 0 0, .int .i64 0], []⟩ 8 (by kernel_rfl) (by kernel_rfl) (by kernel_rfl) (by kernel_rfl)) ?_
  intro W base args ds gs before hval0 hW hcnd _
  have hval : ∀ (j : Nat) t v, Try.f4.params[j]? = some t → args[j]? = some v → Value.okWide Try.prog W .any base t v := hval0
  have hW' := hW
  obtain ⟨p, q, hA0, hV, rfl, hfz, hnd⟩ := hW
  have hA : DataW.TrodAll enc Try.prog W 0 (fun _ => true) true Try.f4.params.toList args.toList ds p := hA0
  rw [Try.params4] at hA hval
  obtain ⟨v0, vs0, d0, ds0, p0, q0, hargs, rfl, rfl, h0, r0⟩ := trodAll_cons hA
  obtain ⟨v1, vs1, d1, ds1, p1, q1, rfl, rfl, rfl, h1, r1⟩ := trodAll_cons r0
  obtain ⟨v2, vs2, d2, ds2, p2, q2, rfl, rfl, rfl, h2, r2⟩ := trodAll_cons r1
  obtain ⟨rfl, rfl, rfl⟩ := trodAll_nil r2
  obtain rfl : args = #[v0, v1, v2] := by cases args; simp_all
  obtain ⟨rfl, rfl⟩ := trodVars_none hV
  obtain ⟨a0, len0, cap0, rfl⟩ := okWide_slice Try.underlying22 (hval 0 22 v0 rfl rfl)
  have k0 := h0
  have lt0 : ∀ x ∈ p0, x.block < W.heap.size := by obtain ⟨m, hm⟩ := k0; exact DataW.trod_lt m _ _ _ hm
  obtain ⟨z0, w0⟩ : ∃ zs, IsRow .u8 W a0 len0 cap0 zs := by
    obtain ⟨fuel, hf⟩ := h0
    rcases open_ints Try.underlying22 Try.underlying5 (by kernel_rfl) hf with ⟨hcs, _⟩ | ⟨x, l, c, zs, hcs, _, hl, hm, hz, _, hcell, hwz⟩
    · simp [Value.cells] at hcs
      obtain ⟨rfl, rfl, rfl⟩ := hcs
      exact ⟨[], .inl ⟨rfl, rfl, rfl, rfl⟩⟩
    · simp [Value.cells] at hcs
      obtain ⟨rfl, rfl, rfl⟩ := hcs
      exact ⟨zs, .inr ⟨_, rfl, hl, hm, by simpa using hz, hcell, hwz⟩⟩
  obtain ⟨a1, len1, cap1, rfl⟩ := okWide_slice Try.underlying22 (hval 1 22 v1 rfl rfl)
  have k1 := h1
  have lt1 : ∀ x ∈ p1, x.block < W.heap.size := by obtain ⟨m, hm⟩ := k1; exact DataW.trod_lt m _ _ _ hm
  obtain ⟨z1, w1⟩ : ∃ zs, IsRow .u8 W a1 len1 cap1 zs := by
    obtain ⟨fuel, hf⟩ := h1
    rcases open_ints Try.underlying22 Try.underlying5 (by kernel_rfl) hf with ⟨hcs, _⟩ | ⟨x, l, c, zs, hcs, _, hl, hm, hz, _, hcell, hwz⟩
    · simp [Value.cells] at hcs
      obtain ⟨rfl, rfl, rfl⟩ := hcs
      exact ⟨[], .inl ⟨rfl, rfl, rfl, rfl⟩⟩
    · simp [Value.cells] at hcs
      obtain ⟨rfl, rfl, rfl⟩ := hcs
      exact ⟨zs, .inr ⟨_, rfl, hl, hm, by simpa using hz, hcell, hwz⟩⟩
  obtain ⟨a2, rfl, rfl, rfl, w2⟩ := open_int Try.underlying3 (hval 2 3 v2 rfl rfl) h2
  clear hA0 hval0
  refine (walk a0 len0 cap0 z0 a1 len1 cap1 z1 a2 W w0 w1 w2).mono fun e W' ⟨he, bel⟩ => ?_
  subst he
  exact ⟨_, rfl, _, _, _, [], _, [], hW', trodAll_mk1 (shut_bool Try.underlying4 _), (trodAll_cons_mk (Below.trod laidOut (by kernel_rfl) (of_decide_eq_true (by kernel_rfl)) k0 bel lt0) (trodAll_cons_mk (Below.trod laidOut (by kernel_rfl) (of_decide_eq_true (by kernel_rfl)) k1 bel lt1) (trodAll_cons_mk (shut_int Try.underlying3 w2) trodAll_mk0))), rfl, bel.frame _, fun h => by cases h⟩

theorem over : Rows.bitsMakesRow.holds Try.pinned (OpenSpec.ofChange Rows.bitsMakesSpec) :=
  OpenClaim.holds_of_wide 4 Try.f4 rfl rfl rfl rfl rfl rfl rfl ⟨rfl, rfl, rfl, rfl, rfl⟩ rfl rfl rfl rfl rfl (by kernel_rfl) Try.func4 (by kernel_rfl)
    (of_decide_eq_true (by kernel_rfl)) (by unfold Func.isWrapper; first | (rw [if_pos (by decide +kernel)]; kernel_rfl) | (rw [if_neg (by decide +kernel)]; exact ⟨rfl, rfl⟩))
    (fun os started H enc _ => lifted os started H enc)

end Go.Proofs.Ytfbmpnhoohfcgaa.bitsMakes

namespace Go.Proofs.Ytfbmpnhoohfcgaa
theorem bitsMakes_holds : Rows.BitsMakesSaid := bitsMakes.over
#print axioms bitsMakes_holds
end Go.Proofs.Ytfbmpnhoohfcgaa
