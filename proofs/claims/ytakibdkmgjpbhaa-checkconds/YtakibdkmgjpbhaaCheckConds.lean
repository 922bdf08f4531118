/- For every program, every row of names and every name the call CheckConds of the statements returns true and its arguments read as they did: no condition. -/
import Derived.Test.YtakibdkmgjpbhaaRows
import Derived.Test.YtakibdkmgjpbhaaArg
import Derived.Test.YtakibdkmgjpbhaaAw
import Derived.WalkKit
import Derived.ProofKit
import Derived.OpenShut
import Derived.ShutString
import Derived.ChangeOld
import Derived.Below
import Derived.Test.YtakibdkmgjpbhaaLpa
import Derived.Test.YtakibdkmgjpbhaaRc
import Derived.Test.YtakibdkmgjpbhaaFn
namespace Go.Proofs.Ytakibdkmgjpbhaa.checkConds
open Go.ChangeShapes Go.WideShapes Go.ChangeAt Go.RowKit
set_option linter.unusedVariables false
set_option linter.unusedSimpArgs false
set_option maxRecDepth 20000

theorem own : ownKnob Try.prog.godebug = none := by kernel_rfl
theorem laidOut : laidOutB Try.prog = true := by kernel_rfl
abbrev r00 : RuleD := ⟨[], [], []⟩
abbrev c00 : CondD := ⟨false, [], []⟩
abbrev k00 : ClassD := ⟨[], []⟩
theorem getD_mem' {α : Type} (l : List α) (i : Nat) (d : α) (h : i < l.length) : l.getD i d ∈ l := by rw [List.getD_eq_getElem?_getD, List.getElem?_eq_getElem h]; exact List.getElem_mem h
theorem own_sl {w : World} {B : Nat} {v : Value} {ss : List Str} (h : OwnS w B v ss) : SlW 1 w (fun b => B ≤ b) v (ss.map clS) := h.sl
theorem nil_sl (w : World) : SlW 1 w (fun _ => True) (.slice none 0 0) (([] : List Str).map clS) := ⟨none, 0, rfl, Nat.le_refl _, by decide, .inl rfl⟩
def fnm (r : Option ClassD) : Str := match r with | none => [] | some k => k.nm
def fln (r : Option ClassD) : Nat := match r with | none => 0 | some k => k.attrs.length
def fis (r : Option ClassD) : Bool := match r with | none => false | some k => true
def FQ (W : World) (r : Option ClassD) (e : Ending) (w' : World) : Prop := Below W.heap.size W w' ∧ ∃ a c, e = .returned (.tuple #[.agg #[.string (st (fnm r)), .slice a (fln r) c], .bool (fis r)])
theorem FP.fq {W : World} {r : Option ClassD} {e : Ending} {w' : World} (h : FP W r e w') : FQ W r e w' := by
  obtain ⟨hb, h⟩ := h
  cases r with
  | none => exact ⟨hb, none, 0, h⟩
  | some k => obtain ⟨a, c, he, -⟩ := h; exact ⟨hb, a, c, he⟩
/-- Both Conds' answers are the same names. -/
def Sam (w : World) (v1 v2 : Value) : Prop := ∃ ss : List Str, (∃ P, SlW 1 w P v1 (ss.map clS)) ∧ ∃ Q, SlW 1 w Q v2 (ss.map clS)
theorem same_of {w : World} {v1 v2 : Value} (h : Sam w v1 v2) : Calls Try.prog 22 #[v1, v2] w fun e w' => e = .returned (.bool true) ∧ Below w.heap.size w w' := by
  obtain ⟨ss, ⟨P, h1⟩, ⟨Q, h2⟩⟩ := h
  exact same_any v1 v2 ss w h1 h2
def CQ (w : World) (zs : List Str) (r : Except Int (List Str)) (v : Value) (n : Int) (w' : World) : Prop := Below w.heap.size w w' ∧ match r with
  | .error er => v = .slice none 0 0 ∧ n = er
  | .ok f => n = 0 ∧ OwnS w' w.heap.size v (zs ++ f)
theorem CP.cq {w : World} {zs : List Str} {r : Except Int (List Str)} {e : Ending} {w' : World} (h : CP w zs r e w') : ∃ v n, e = .returned (.tuple #[v, .int .i64 n]) ∧ CQ w zs r v n w' := by
  obtain ⟨hb, h⟩ := h
  cases r with
  | error er => exact ⟨_, _, h, hb, rfl, rfl⟩
  | ok f => obtain ⟨v, he, ho⟩ := h; exact ⟨v, 0, he, hb, rfl, ho⟩
theorem CQ.sam {w w1 w2 w3 : World} {zs : List Str} {r : Except Int (List Str)} {v1 v2 : Value} {n1 n2 : Int} (h1 : CQ w zs r v1 n1 w1) (h2 : CQ w2 zs r v2 n2 w3) (hw : Below w1.heap.size w1 w3) : n1 = n2 ∧ Sam w3 v1 v2 := by
  obtain ⟨hb1, h1⟩ := h1
  obtain ⟨hb2, h2⟩ := h2
  cases r with
  | error er =>
    obtain ⟨rfl, rfl⟩ := h1
    obtain ⟨rfl, rfl⟩ := h2
    exact ⟨rfl, [], ⟨_, nil_sl _⟩, ⟨_, nil_sl _⟩⟩
  | ok f =>
    obtain ⟨rfl, h1⟩ := h1
    obtain ⟨rfl, h2⟩ := h2
    exact ⟨rfl, zs ++ f, ⟨_, own_sl (h1.below hw)⟩, ⟨_, own_sl h2⟩⟩
set_option maxHeartbeats 16000000 in
theorem core (a1 a2 a3 : Option Addr) (c1 c2 c3 : Nat) (p : ProgD) (zs : List Str) (s : Str) (w : World) (h1 : Row 2 (ReK fun _ _ => True) w (fun _ => True) (.slice a1 p.cs.length c1) p.cs) (h2 : Row 3 (ReR fun _ _ => True) w (fun _ => True) (.slice a2 p.rs.length c2) p.rs) (h3 : SlW 1 w (fun _ => True) (.slice a3 zs.length c3) (zs.map clS)) (hzl : ∀ x ∈ zs, x.length ≤ 9223372036854775807) (hsl : s.length ≤ 9223372036854775807) :
    Calls Try.prog 4 #[.agg #[.slice a1 p.cs.length c1, .slice a2 p.rs.length c2], .slice a3 zs.length c3, .string (st s)] w fun e w' => e = .returned (.bool true) ∧ Below w.heap.size w w' := by
  have HA : Hid (∀ W, Below w.heap.size w W → Calls Try.prog 9 #[] W fun e w' => e = .returned (.bool true) ∧ Below W.heap.size W w') := fun W _ => awake_any W
  have C8 : Hid (∀ W, Below w.heap.size w W → Calls Try.prog 8 #[.agg #[.slice a1 p.cs.length c1, .slice a2 p.rs.length c2]] W (SomeL (progL p) W)) := fun W hW => lightB_any (P := fun _ _ => True) [.slice a1 p.cs.length c1, .slice a2 p.rs.length c2] p W (ReP.keep (Stays.below hW) ⟨_, _, rfl, h1, h2⟩)
  have KR : Hid (∀ W, Below w.heap.size w W → Row 2 (ReK fun _ _ => True) W (fun _ => True) (.slice a1 p.cs.length c1) p.cs) := fun W hW => Row.keep (P := fun _ _ => True) (k := 0) (Stays.below hW) (fun _ _ => ReK.keep (Stays.below hW)) h1
  have H3 : Hid (SlW 1 w (fun _ => True) (.slice a3 zs.length c3) (zs.map clS)) := h3
  have HX : Hid (∀ W, Below (w.alloc (.cells #[.slice a1 p.cs.length c1, .slice a2 p.rs.length c2] 25)).heap.size (w.alloc (.cells #[.slice a1 p.cs.length c1, .slice a2 p.rs.length c2] 25)) W → W.cell? ⟨w.heap.size, 0, none⟩ = some (.slice a1 p.cs.length c1) ∧ W.cell? ⟨w.heap.size, 1, none⟩ = some (.slice a2 p.rs.length c2) ∧ w.heap.size < W.heap.size) := fun W hW =>
    ⟨by rw [hW.cell (p := ⟨w.heap.size, 0, none⟩) (by simp)]; simp, by rw [hW.cell (p := ⟨w.heap.size, 1, none⟩) (by simp)]; simp, by have := hW.size; simp at this; omega⟩
  have BX : Hid (Below w.heap.size w (w.alloc (.cells #[.slice a1 p.cs.length c1, .slice a2 p.rs.length c2] 25))) := bxn _ _
  obtain ⟨css2, hs2, hh2⟩ := h2
  have le2 := hh2.len
  obtain ⟨-, l2, m2, r2⟩ := hs2.row
  rw [le2] at l2 r2
  have R2 : Hid (∀ i, i < p.rs.length → ∃ b off, a2 = some ⟨b, off, none⟩ ∧ b < w.heap.size ∧ ∀ j, j < 3 → w.cell? ⟨b, off + (i * 3 + j), none⟩ = (css2.getD i [])[j]?) := r2
  have G2 : Hid (All2 (ReR (fun _ _ => True) w) css2 p.rs) := hh2
  clear hs2 hh2 r2 le2
  obtain ⟨css1, hs1, hh1⟩ := h1
  have le1 := hh1.len
  obtain ⟨-, l1, m1, r1⟩ := hs1.row
  rw [le1] at l1 r1
  have R1 : Hid (∀ i, i < p.cs.length → ∃ b off, a1 = some ⟨b, off, none⟩ ∧ b < w.heap.size ∧ ∀ j, j < 2 → w.cell? ⟨b, off + (i * 2 + j), none⟩ = (css1.getD i [])[j]?) := r1
  have G1 : Hid (All2 (ReK (fun _ _ => True) w) css1 p.cs) := hh1
  clear hs1 hh1 r1 le1 h3
  have hn1 : (p.cs.length : Int) ≤ 9223372036854775807 := by omega
  have hn2 : (p.rs.length : Int) ≤ 9223372036854775807 := by omega
  have HZL : Hid (∀ x ∈ zs, x.length ≤ 9223372036854775807) := hzl
  have hsz := st_size s
  clear hzl
  by_cases hz : zs.length ≤ 30
  · have hz1 : (zs.length : Int) ≤ 30 := by omega
    by_cases hs : s.length ≤ 60
    · have hs1 : (s.length : Int) ≤ 60 := by omega
      have CF : Hid (progL p → ∀ W, Below w.heap.size w W → Calls Try.prog 16 #[.slice a1 p.cs.length c1, .string (st s)] W (fun e w' => FQ W (findC p.cs s) e w')) := fun hL W hW => (find_any _ p.cs s W (KR.out W hW) (fun c hc => by have := (hL.2.2.1 c hc).2.1; omega)).mono fun e w' h => FP.fq h
      have CG : Hid (∀ W, Below w.heap.size w W → Calls Try.prog 17 #[.slice a1 p.cs.length c1, .string (st s)] W (fun e w' => FQ W (findC p.cs s) e w')) := fun W hW => (rfind_any _ p.cs s W (KR.out W hW)).mono fun e w' h => FP.fq h
      unfold FQ at CF CG
      have HY : Hid (∀ W, Below (w.alloc (.cells #[.slice a1 p.cs.length c1, .slice a2 p.rs.length c2] 25)).heap.size (w.alloc (.cells #[.slice a1 p.cs.length c1, .slice a2 p.rs.length c2] 25)) W → Below w.heap.size w W) := fun W hW => bt BX.out hW
      generalize fnm (findC p.cs s) = fn at CF CG
      generalize fln (findC p.cs s) = fl at CF CG
      generalize fis (findC p.cs s) = fb at CF CG
      go_enter Try.func4, Try.ntmps4
      go_wp2_with (first
        | (go_at_call 8; refine (C8.out _ BX.out).mono ?_; rintro e wl ⟨bb, rfl, hLL, hb2⟩; have HLL : Hid (bb = true → progL p) := hLL; have BL : Hid (Below (w.alloc (.cells #[.slice a1 p.cs.length c1, .slice a2 p.rs.length c2] 25)).heap.size (w.alloc (.cells #[.slice a1 p.cs.length c1, .slice a2 p.rs.length c2] 25)) wl) := hb2; obtain ⟨k0, k1, k2⟩ := HX.out wl hb2; clear C8 hb2 hLL)
        | (go_at_call 9; refine (HA.out _ (bt BX.out BL.out)).mono ?_; rintro e w4 ⟨rfl, hb4⟩; have B4 : Hid (Below w.heap.size w w4) := bt (bt BX.out BL.out) hb4)
        | (go_at_call 16; refine (CF.out (HLL.out (by first | assumption | rfl | simp_all)) _ (HY.out _ BL.out)).mono ?_; rintro e wm ⟨hb3, am, cm, rfl⟩; have HPL : Hid (progL p) := HLL.out (by first | assumption | rfl | simp_all); have BM : Hid (Below (w.alloc (.cells #[.slice a1 p.cs.length c1, .slice a2 p.rs.length c2] 25)).heap.size (w.alloc (.cells #[.slice a1 p.cs.length c1, .slice a2 p.rs.length c2] 25)) (wm.alloc (.cells #[.string (st fn), .slice am fl cm] 41))) := bt (bt BL.out hb3) (bxn _ _); obtain ⟨n0, n1, n2⟩ := HX.out _ BM.out; clear hb3)
        | (go_at_call 17; refine (CG.out _ (HY.out _ BM.out)).mono ?_; rintro e wn ⟨hb4, an, cn, rfl⟩; have BN : Hid (Below (w.alloc (.cells #[.slice a1 p.cs.length c1, .slice a2 p.rs.length c2] 25)).heap.size (w.alloc (.cells #[.slice a1 p.cs.length c1, .slice a2 p.rs.length c2] 25)) (wn.alloc (.cells #[.string (st fn), .slice an fl cn] 41))) := bt (bt BM.out hb4) (bxn _ _); have hzm : wm.heap.size < wn.heap.size := (by have := hb4.size; simp at this; omega); have m0 : wn.cell? ⟨wm.heap.size, 0, none⟩ = some (.string (st fn)) := (hb4.cell (p := ⟨wm.heap.size, 0, none⟩) (by simp)).trans (by go_simp); have m1 : wn.cell? ⟨wm.heap.size, 1, none⟩ = some (.slice am fl cm) := (hb4.cell (p := ⟨wm.heap.size, 1, none⟩) (by simp)).trans (by go_simp); clear hb4))
      all_goals try (go_ret; exact ⟨rfl, B4.out⟩)
      clear CF CG
      go_loopw [11] (fun v11 wr => ∃ i : Nat, v11 = .int .i64 i ∧ i ≤ p.cs.length ∧ Hid (Below (w.alloc (.cells #[.slice a1 p.cs.length c1, .slice a2 p.rs.length c2] 25)).heap.size (w.alloc (.cells #[.slice a1 p.cs.length c1, .slice a2 p.rs.length c2] 25)) wr)) (fun v11 _ => (p.cs.length - intOf v11).toNat)
      case atStart => exact ⟨0, rfl, Nat.zero_le _, BN.out⟩
      case round =>
        obtain ⟨i, rfl, hi, HB⟩ := hrel
        obtain ⟨x0, x1, x2⟩ := HX.out wr HB.out
        have HW : Hid (Below w.heap.size w wr) := HY.out _ HB.out
        by_cases hlt : i < p.cs.length
        · have hiz : (i : Int) < p.cs.length := by omega
          obtain ⟨b1, o1, rfl, hb1, q1⟩ := R1.out i hlt
          have e1 := G1.out.at i [] k00 hlt
          generalize p.cs.getD i k00 = c at q1 e1
          obtain ⟨u, ec, hu⟩ := e1
          obtain ⟨au, cu, rfl⟩ := hu.shape
          simp only [List.length_map] at ec hu
          rw [ec] at q1
          have q0 : wr.cell? ⟨b1, o1 + i * 2, none⟩ = some (.string (st c.nm)) := (HW.out.cell (p := ⟨b1, o1 + i * 2, none⟩) hb1).trans (q1 0 (by decide))
          have q2 : wr.cell? ⟨b1, o1 + i * 2 + 1, none⟩ = some (.slice au c.attrs.length cu) := (HW.out.cell (p := ⟨b1, o1 + i * 2 + 1, none⟩) hb1).trans (q1 1 (by decide))
          have HU : Hid (SlW 1 w (fun _ => True) (.slice au c.attrs.length cu) (c.attrs.map clS)) := hu
          have C18 := attr_any c.nm au c.attrs.length cu c.attrs s wr (hu.bl HW.out)
          have C19 : Hid (∀ W, Below w.heap.size w W → _) := fun W hW => rattr_any c.nm au c.attrs.length cu c.attrs s W (HU.out.bl hW)
          generalize max (idxS c.attrs s) 0 = mx at C18 C19
          generalize decide (0 ≤ idxS c.attrs s) = db at C18 C19
          have QQ : Hid (∀ W, Below wr.heap.size wr W → W.cell? ⟨w.heap.size, 0, none⟩ = some (.slice (some ⟨b1, o1, none⟩) p.cs.length c1) ∧ W.cell? ⟨b1, o1 + i * 2, none⟩ = some (.string (st c.nm)) ∧ W.cell? ⟨b1, o1 + i * 2 + 1, none⟩ = some (.slice au c.attrs.length cu)) := fun W hW => ⟨(hW.cell (p := ⟨w.heap.size, 0, none⟩) x2).trans x0, (hW.cell (p := ⟨b1, o1 + i * 2, none⟩) (by have := HW.out.size; show b1 < _; omega)).trans q0, (hW.cell (p := ⟨b1, o1 + i * 2 + 1, none⟩) (by have := HW.out.size; show b1 < _; omega)).trans q2⟩
          clear q1 ec hu
          go_wp2_with (first
            | (go_at_call 18; refine C18.mono ?_; rintro e w5 ⟨rfl, hb5⟩; have B5 : Hid (Below (w.alloc (.cells #[.slice (some ⟨b1, o1, none⟩) p.cs.length c1, .slice a2 p.rs.length c2] 25)).heap.size (w.alloc (.cells #[.slice (some ⟨b1, o1, none⟩) p.cs.length c1, .slice a2 p.rs.length c2] 25)) w5) := bt HB.out hb5; obtain ⟨y0, y1, y2⟩ := QQ.out w5 hb5; clear C18 hb5)
            | (go_at_call 19; refine (C19.out _ (HY.out _ B5.out)).mono ?_; rintro e w6 ⟨rfl, hb6⟩; have B6 : Hid (Below (w.alloc (.cells #[.slice (some ⟨b1, o1, none⟩) p.cs.length c1, .slice a2 p.rs.length c2] 25)).heap.size (w.alloc (.cells #[.slice (some ⟨b1, o1, none⟩) p.cs.length c1, .slice a2 p.rs.length c2] 25)) w6) := bt B5.out hb6; clear hb6))
          go_roundw
          case rel => exact ⟨i + 1, by simp, by omega, B6.out⟩
          case measure => simp [intOf]; omega
        · have hiz : ¬ (i : Int) < p.cs.length := by omega
          have HBO : Hid (Below (w.alloc (.cells #[.slice a1 p.cs.length c1, .slice a2 p.rs.length c2] 25)).heap.size (w.alloc (.cells #[.slice a1 p.cs.length c1, .slice a2 p.rs.length c2] 25)) wr) := HB.out
          go_wp2
          go_loopw [16, 17] (fun v16 _ wr => ∃ i : Nat, v16 = .int .i64 i ∧ i ≤ p.rs.length ∧ Hid (Below (w.alloc (.cells #[.slice a1 p.cs.length c1, .slice a2 p.rs.length c2] 25)).heap.size (w.alloc (.cells #[.slice a1 p.cs.length c1, .slice a2 p.rs.length c2] 25)) wr)) (fun v16 _ _ => (p.rs.length - intOf v16).toNat)
          case atStart => exact ⟨0, rfl, Nat.zero_le _, HBO.out⟩
          case round =>
            clear HB HBO HW x0 x1 x2
            obtain ⟨i, rfl, hi, HB⟩ := hrel
            obtain ⟨x0, x1, x2⟩ := HX.out wr HB.out
            by_cases hlt : i < p.rs.length
            · have hiz : (i : Int) < p.rs.length := by omega
              obtain ⟨b1, o1, rfl, hb1, q1⟩ := R2.out i hlt
              have e1 := G2.out.at i [] r00 hlt
              have HRL : Hid (ruleL (p.rs.getD i r00)) := HPL.out.2.2.2 _ (getD_mem' _ _ _ hlt)
              generalize p.rs.getD i r00 = x at q1 e1 HRL
              obtain ⟨u, u', ec, ⟨cssu, hsu, hhu⟩, -⟩ := e1
              obtain ⟨xa, ya, rfl⟩ := hsu.shape
              obtain ⟨-, l3, m3, r3⟩ := hsu.row
              have leu := hhu.len
              rw [leu] at l3 r3 ec
              have R3 : Hid (∀ i, i < x.conds.length → ∃ b off, xa = some ⟨b, off, none⟩ ∧ b < w.heap.size ∧ ∀ j, j < 3 → w.cell? ⟨b, off + (i * 3 + j), none⟩ = (cssu.getD i [])[j]?) := r3
              have G3 : Hid (All2 (ReC (fun _ _ => True) w) cssu x.conds) := hhu
              have hcl : x.conds.length ≤ 8 := HRL.out.2.1
              clear hsu hhu r3 leu
              rw [ec] at q1
              have HQ2 : Hid (∀ W, Below (w.alloc (.cells #[.slice a1 p.cs.length c1, .slice (some ⟨b1, o1, none⟩) p.rs.length c2] 25)).heap.size (w.alloc (.cells #[.slice a1 p.cs.length c1, .slice (some ⟨b1, o1, none⟩) p.rs.length c2] 25)) W → W.cell? ⟨b1, o1 + i * 3 + 1, none⟩ = some (.slice xa x.conds.length ya)) := fun W hW => ((HY.out W hW).cell (p := ⟨b1, o1 + i * 3 + 1, none⟩) hb1).trans (q1 1 (by decide))
              clear q1 ec
              go_wp2
              go_loopw [17] (fun v17 wr => ∃ k : Nat, v17 = .int .i64 k ∧ k ≤ x.conds.length ∧ Hid (Below (w.alloc (.cells #[.slice a1 p.cs.length c1, .slice (some ⟨b1, o1, none⟩) p.rs.length c2] 25)).heap.size (w.alloc (.cells #[.slice a1 p.cs.length c1, .slice (some ⟨b1, o1, none⟩) p.rs.length c2] 25)) wr)) (fun v17 _ => (x.conds.length - intOf v17).toNat)
              case atStart => exact ⟨0, rfl, Nat.zero_le _, HB.out⟩
              case round =>
                clear HB x0 x1 x2
                obtain ⟨k, rfl, hk, HB⟩ := hrel
                obtain ⟨x0, x1, x2⟩ := HX.out wr HB.out
                have q2 := HQ2.out wr HB.out
                by_cases hkt : k < x.conds.length
                · have hkz : (k : Int) < x.conds.length := by omega
                  obtain ⟨b2, o2, rfl, hb2, q3⟩ := R3.out k hkt
                  have e2 := G3.out.at k [] c00 hkt
                  have HCL : Hid (condL (x.conds.getD k c00)) := HRL.out.2.2.2.1 _ (getD_mem' _ _ _ hkt)
                  generalize x.conds.getD k c00 = c at q3 e2 HCL
                  have HRC : Hid (ReC (fun _ _ => True) w (cssu.getD k []) c) := e2
                  obtain ⟨u3, ec, ⟨cssa, hsa, -⟩⟩ := e2
                  rw [ec] at q3 HRC
                  obtain ⟨xc, yc, rfl⟩ := hsa.shape
                  generalize cssa.length = nc at *
                  clear hsa
                  have SK : ∀ W, Below (w.alloc (.cells #[.slice a1 p.cs.length c1, .slice (some ⟨b1, o1, none⟩) p.rs.length c2] 25)).heap.size (w.alloc (.cells #[.slice a1 p.cs.length c1, .slice (some ⟨b1, o1, none⟩) p.rs.length c2] 25)) W → W.cell? ⟨w.heap.size, 0, none⟩ = some (.slice a1 p.cs.length c1) ∧ W.cell? ⟨w.heap.size, 1, none⟩ = some (.slice (some ⟨b1, o1, none⟩) p.rs.length c2) ∧ W.cell? ⟨b1, o1 + i * 3 + 1, none⟩ = some (.slice (some ⟨b2, o2, none⟩) x.conds.length ya) ∧ W.cell? ⟨b2, o2 + k * 3, none⟩ = some (.bool c.neg) ∧ W.cell? ⟨b2, o2 + k * 3 + 1, none⟩ = some (.string (st c.c)) ∧ W.cell? ⟨b2, o2 + k * 3 + 2, none⟩ = some (.slice xc nc yc) ∧ Below (w.alloc (.cells #[.slice a1 p.cs.length c1, .slice (some ⟨b1, o1, none⟩) p.rs.length c2] 25)).heap.size (w.alloc (.cells #[.slice a1 p.cs.length c1, .slice (some ⟨b1, o1, none⟩) p.rs.length c2] 25)) W := fun W hW => ⟨(HX.out W hW).1, (HX.out W hW).2.1, HQ2.out W hW, ((HY.out W hW).cell (p := ⟨b2, o2 + k * 3, none⟩) hb2).trans (q3 0 (by decide)), ((HY.out W hW).cell (p := ⟨b2, o2 + k * 3 + 1, none⟩) hb2).trans (q3 1 (by decide)), ((HY.out W hW).cell (p := ⟨b2, o2 + k * 3 + 2, none⟩) hb2).trans (q3 2 (by decide)), hW⟩
                  have C20 : ∀ W, Below (w.alloc (.cells #[.slice a1 p.cs.length c1, .slice (some ⟨b1, o1, none⟩) p.rs.length c2] 25)).heap.size (w.alloc (.cells #[.slice a1 p.cs.length c1, .slice (some ⟨b1, o1, none⟩) p.rs.length c2] 25)) W → Calls Try.prog 20 #[.slice a1 p.cs.length c1, .agg #[.bool c.neg, .string (st c.c), .slice xc nc yc], .slice a3 zs.length c3] W fun e w' => ∃ v n, e = .returned (.tuple #[v, .int .i64 n]) ∧ CQ W zs (condR p.cs zs c) v n w' := fun W hW => (condX_any (P := fun _ _ => True) (Q := fun _ => True) (R := fun _ => True) _ p.cs _ c _ zs W (KR.out W (HY.out W hW)) HPL.out.1 HPL.out.2.2.1 (HRC.out.keep (Stays.below (HY.out W hW))) HCL.out (H3.out.bl (HY.out W hW)) hz HZL.out).mono fun e w' h => CP.cq h
                  have C21 : ∀ W, Below (w.alloc (.cells #[.slice a1 p.cs.length c1, .slice (some ⟨b1, o1, none⟩) p.rs.length c2] 25)).heap.size (w.alloc (.cells #[.slice a1 p.cs.length c1, .slice (some ⟨b1, o1, none⟩) p.rs.length c2] 25)) W → Calls Try.prog 21 #[.slice a1 p.cs.length c1, .agg #[.bool c.neg, .string (st c.c), .slice xc nc yc], .slice a3 zs.length c3] W fun e w' => ∃ v n, e = .returned (.tuple #[v, .int .i64 n]) ∧ CQ W zs (condR p.cs zs c) v n w' := fun W hW => (rcond_any (P := fun _ _ => True) (P2 := fun _ _ => True) (Q := fun _ => True) (R := fun _ => True) _ p.cs _ c _ zs W (KR.out W (HY.out W hW)) (HRC.out.keep (Stays.below (HY.out W hW))) HCL.out (H3.out.bl (HY.out W hW)) hz).mono fun e w' h => CP.cq h
                  clear q3 ec
                  go_wp2
                  go_region_held3 (fun W => W.cell? ⟨w.heap.size, 0, none⟩ = some (.slice a1 p.cs.length c1) ∧ W.cell? ⟨w.heap.size, 1, none⟩ = some (.slice (some ⟨b1, o1, none⟩) p.rs.length c2) ∧ W.cell? ⟨b1, o1 + i * 3 + 1, none⟩ = some (.slice (some ⟨b2, o2, none⟩) x.conds.length ya) ∧ W.cell? ⟨b2, o2 + k * 3, none⟩ = some (.bool c.neg) ∧ W.cell? ⟨b2, o2 + k * 3 + 1, none⟩ = some (.string (st c.c)) ∧ W.cell? ⟨b2, o2 + k * 3 + 2, none⟩ = some (.slice xc nc yc) ∧ Below (w.alloc (.cells #[.slice a1 p.cs.length c1, .slice (some ⟨b1, o1, none⟩) p.rs.length c2] 25)).heap.size (w.alloc (.cells #[.slice a1 p.cs.length c1, .slice (some ⟨b1, o1, none⟩) p.rs.length c2] 25)) W) (first | (refine SK _ ?_; first | assumption | exact HB.out.drew) | go_keep) (first | (go_at_call 20; refine (C20 _ (And.right (And.right (And.right (And.right (And.right (And.right (by assumption)))))))).mono ?_; rintro e w5 ⟨v5, n5, rfl, hq5⟩; have B5 : Below (w.alloc (.cells #[.slice a1 p.cs.length c1, .slice (some ⟨b1, o1, none⟩) p.rs.length c2] 25)).heap.size (w.alloc (.cells #[.slice a1 p.cs.length c1, .slice (some ⟨b1, o1, none⟩) p.rs.length c2] 25)) w5 := bt (And.right (And.right (And.right (And.right (And.right (And.right (by assumption))))))) hq5.1))
                  all_goals
                    have hB5 : Below (w.alloc (.cells #[.slice a1 p.cs.length c1, .slice (some ⟨b1, o1, none⟩) p.rs.length c2] 25)).heap.size (w.alloc (.cells #[.slice a1 p.cs.length c1, .slice (some ⟨b1, o1, none⟩) p.rs.length c2] 25)) w5 := B5
                    obtain ⟨x0', x1', q2', g0, g1, g2, -⟩ := SK w5 B5
                    clear x0 x1 q2
                    go_wp2
                    go_region_held3 (fun W => W.cell? ⟨w.heap.size, 0, none⟩ = some (.slice a1 p.cs.length c1) ∧ W.cell? ⟨w.heap.size, 1, none⟩ = some (.slice (some ⟨b1, o1, none⟩) p.rs.length c2) ∧ W.cell? ⟨b1, o1 + i * 3 + 1, none⟩ = some (.slice (some ⟨b2, o2, none⟩) x.conds.length ya) ∧ W.cell? ⟨b2, o2 + k * 3, none⟩ = some (.bool c.neg) ∧ W.cell? ⟨b2, o2 + k * 3 + 1, none⟩ = some (.string (st c.c)) ∧ W.cell? ⟨b2, o2 + k * 3 + 2, none⟩ = some (.slice xc nc yc) ∧ Below (w.alloc (.cells #[.slice a1 p.cs.length c1, .slice (some ⟨b1, o1, none⟩) p.rs.length c2] 25)).heap.size (w.alloc (.cells #[.slice a1 p.cs.length c1, .slice (some ⟨b1, o1, none⟩) p.rs.length c2] 25)) W) (first | (refine SK _ ?_; first | assumption | exact hB5.drew) | go_keep) (first | (go_at_call 21; refine (C21 _ (And.right (And.right (And.right (And.right (And.right (And.right (by assumption)))))))).mono ?_; rintro e w6 ⟨v6, n6, rfl, hq6⟩; have B6 : Below (w.alloc (.cells #[.slice a1 p.cs.length c1, .slice (some ⟨b1, o1, none⟩) p.rs.length c2] 25)).heap.size (w.alloc (.cells #[.slice a1 p.cs.length c1, .slice (some ⟨b1, o1, none⟩) p.rs.length c2] 25)) w6 := bt (And.right (And.right (And.right (And.right (And.right (And.right (by assumption))))))) hq6.1))
                    all_goals
                      have hBB : Below w5.heap.size w5 w6 := by first | exact (Below.refl _ _).drew.trans (hq6.1.mono (by simp)) | exact hq6.1
                      obtain ⟨hnn, hsam⟩ := CQ.sam hq5 hq6 hBB
                      subst hnn
                      have CS := same_of hsam
                      have HB6 : Hid (Below (w.alloc (.cells #[.slice a1 p.cs.length c1, .slice (some ⟨b1, o1, none⟩) p.rs.length c2] 25)).heap.size (w.alloc (.cells #[.slice a1 p.cs.length c1, .slice (some ⟨b1, o1, none⟩) p.rs.length c2] 25)) w6) := B6
                      clear hq5 hq6 hBB hsam SK C20 C21
                      go_wp2_with (go_at_call 22; refine CS.mono ?_; rintro e w7 ⟨rfl, hb7⟩; have B7 : Hid (Below (w.alloc (.cells #[.slice a1 p.cs.length c1, .slice (some ⟨b1, o1, none⟩) p.rs.length c2] 25)).heap.size (w.alloc (.cells #[.slice a1 p.cs.length c1, .slice (some ⟨b1, o1, none⟩) p.rs.length c2] 25)) w7) := bt HB6.out hb7; clear CS hb7)
                      go_roundw
                      case rel => exact ⟨k + 1, by simp, by omega, B7.out⟩
                      case measure => simp [intOf]; omega
                · have hkz : ¬ (k : Int) < x.conds.length := by omega
                  go_wp2
                  go_roundw
                  case rel => exact ⟨i + 1, by simp, by omega, HB.out⟩
                  case measure => simp [intOf]; omega
            · have hiz : ¬ (i : Int) < p.rs.length := by omega
              go_wp2_with (go_at_call 9; refine (HA.out _ (bt BX.out HB.out)).mono ?_; rintro e w4 ⟨rfl, hb4⟩; have B4 : Hid (Below w.heap.size w w4) := bt (bt BX.out HB.out) hb4)
              go_ret
              exact ⟨rfl, B4.out⟩
    · have hs1 : ¬ (s.length : Int) ≤ 60 := by omega
      have hs2 : 60 < (s.length : Int) := by omega
      clear KR H3 R1 R2 G1 G2
      go_enter Try.func4, Try.ntmps4
      go_wp2_with (first
        | (go_at_call 8; refine (C8.out _ BX.out).mono ?_; rintro e wl ⟨bb, rfl, -, hb2⟩; have BL : Hid (Below (w.alloc (.cells #[.slice a1 p.cs.length c1, .slice a2 p.rs.length c2] 25)).heap.size (w.alloc (.cells #[.slice a1 p.cs.length c1, .slice a2 p.rs.length c2] 25)) wl) := hb2; clear C8 hb2)
        | (go_at_call 9; refine (HA.out _ (bt BX.out BL.out)).mono ?_; rintro e w4 ⟨rfl, hb4⟩; have B4 : Hid (Below w.heap.size w w4) := bt (bt BX.out BL.out) hb4))
      all_goals (go_ret; exact ⟨rfl, B4.out⟩)
  · have hz1 : ¬ (zs.length : Int) ≤ 30 := by omega
    have hz2 : 30 < (zs.length : Int) := by omega
    clear KR H3 R1 R2 G1 G2
    go_enter Try.func4, Try.ntmps4
    go_wp2_with (first
      | (go_at_call 8; refine (C8.out _ BX.out).mono ?_; rintro e wl ⟨bb, rfl, -, hb2⟩; have BL : Hid (Below (w.alloc (.cells #[.slice a1 p.cs.length c1, .slice a2 p.rs.length c2] 25)).heap.size (w.alloc (.cells #[.slice a1 p.cs.length c1, .slice a2 p.rs.length c2] 25)) wl) := hb2; clear C8 hb2)
      | (go_at_call 9; refine (HA.out _ (bt BX.out BL.out)).mono ?_; rintro e w4 ⟨rfl, hb4⟩; have B4 : Hid (Below w.heap.size w w4) := bt (bt BX.out BL.out) hb4))
    all_goals (go_ret; exact ⟨rfl, B4.out⟩)
theorem walk (cs0 : List Value) (x0 : ProgD) (v1 : Value) (x1 : List Str) (x2 : Str) (w : World) (w0 : ReP (fun _ _ => True) w cs0 x0 ∧ x0.Ok) (w1 : SlW 1 w (fun _ => True) v1 (x1.map clS) ∧ ∀ y ∈ x1, okS y) (w2 : okS x2) : Calls Try.prog 4 #[.agg cs0.toArray, v1, .string (st x2)] w fun e w' => e = .returned (.bool true) ∧ Below w.heap.size w w' := by
  obtain ⟨w0, ok0⟩ := w0
  obtain ⟨v1', v2', rfl, h1, h2⟩ := w0
  obtain ⟨w1, ok1⟩ := w1
  have h1' := h1
  have h2' := h2
  obtain ⟨css1, hs1, hh1⟩ := h1'
  obtain ⟨a1, c1, rfl⟩ := hs1.shape
  obtain ⟨css2, hs2, hh2⟩ := h2'
  obtain ⟨a2, c2, rfl⟩ := hs2.shape
  obtain ⟨a3, c3, rfl⟩ := w1.shape
  simp only [List.length_map] at *
  rw [hh1.len] at h1 ⊢
  rw [hh2.len] at h2 ⊢
  exact core a1 a2 a3 c1 c2 c3 x0 x1 x2 w h1 h2 w1 (fun y hy => by have := ok1 y hy; unfold okS maxLen at this; omega) (by have := w2; unfold okS maxLen at this; omega)
set_option maxRecDepth 100000 in
theorem lifted (os : Os) (started : os.Started) (H : Type) (enc : TypeId × Value → H) :
    ReturnsInHanded {} Try.checked os 4 .any (Rows.checkCondsSpec.pre6 enc Try.prog Try.f4 Rows.checkCondsRow.domain false) (Rows.checkCondsSpec.post enc Try.prog Try.f4 false true false false) := by
  refine returnsInHanded_of_change (C := Try.checked) own started (by kernel_rfl) Try.func4
    (ChangeSpec.witness6 (enc := enc) (C := Try.checked) false ⟨#[], #[.agg #[.slice none 0 0, .slice none 0 0], .slice none 0 0, .string ByteArray.empty], []⟩ 8 (by kernel_rfl) (by kernel_rfl) (by kernel_rfl) (by kernel_rfl)) ?_
  intro W base args ds gs before hval0 hW hcnd _
  have hval : ∀ (j : Nat) t v, Try.f4.params[j]? = some t → args[j]? = some v → Value.okWide Try.prog W .any base t v := hval0
  have hW' := hW
  obtain ⟨p, q, hA0, hV, rfl, hfz, hnd⟩ := hW
  have hA : DataW.TrodAll enc Try.prog W 0 (fun _ => true) true Try.f4.params.toList args.toList ds p := hA0
  rw [Try.params4] at hA hval
  obtain ⟨v0, vs0, d'0, ds0, q0, r'0, hargs, rfl, rfl, h0, r0⟩ := trodAll_cons hA
  obtain ⟨v1, vs1, d'1, ds1, q1, r'1, rfl, rfl, rfl, h1, r1⟩ := trodAll_cons r0
  obtain ⟨v2, vs2, d'2, ds2, q2, r'2, rfl, rfl, rfl, h2, r2⟩ := trodAll_cons r1
  obtain ⟨rfl, rfl, rfl⟩ := trodAll_nil r2
  obtain rfl : args = #[v0, v1, v2] := by cases args; simp_all
  obtain ⟨rfl, rfl⟩ := trodVars_none hV
  have k0' := h0
  have lt0 : ∀ x ∈ q0, x.block < W.heap.size := by obtain ⟨m, hm⟩ := k0'; exact DataW.trod_lt m _ _ _ hm
  obtain ⟨cs0, x0, rfl, w0⟩ := arg_prog (hval 0 25 v0 rfl rfl) h0
  have k1' := h1
  have lt1 : ∀ x ∈ q1, x.block < W.heap.size := by obtain ⟨m, hm⟩ := k1'; exact DataW.trod_lt m _ _ _ hm
  obtain ⟨x1, w1⟩ := arg_names (hval 1 39 v1 rfl rfl) h1
  have k2' := h2
  have lt2 : ∀ x ∈ q2, x.block < W.heap.size := by obtain ⟨m, hm⟩ := k2'; exact DataW.trod_lt m _ _ _ hm
  obtain ⟨x2, rfl, w2⟩ := arg_str (hval 2 9 v2 rfl rfl) h2
  clear hA0 hval0
  refine (walk cs0 x0 v1 x1 x2 W w0 w1 w2).mono fun e W' ⟨he, bel⟩ => ?_
  subst he
  exact ⟨_, rfl, _, _, _, [], _, [], hW', trodAll_mk1 (shut_bool Try.underlying4 _), (trodAll_cons_mk (Below.trod laidOut (by kernel_rfl) (of_decide_eq_true (by kernel_rfl)) k0' bel lt0) (trodAll_cons_mk (Below.trod laidOut (by kernel_rfl) (of_decide_eq_true (by kernel_rfl)) k1' bel lt1) (trodAll_cons_mk (Below.trod laidOut (by kernel_rfl) (of_decide_eq_true (by kernel_rfl)) k2' bel lt2) trodAll_mk0))), rfl, bel.frame _, fun h => by cases h⟩

theorem over : Rows.checkCondsRow.holds Try.pinned (OpenSpec.ofChange Rows.checkCondsSpec) :=
  OpenClaim.holds_of_wide 4 Try.f4 rfl rfl rfl rfl rfl rfl rfl ⟨rfl, rfl, rfl, rfl, rfl⟩ rfl rfl rfl rfl rfl (by kernel_rfl) Try.func4 (by kernel_rfl)
    (of_decide_eq_true (by kernel_rfl)) (by unfold Func.isWrapper; first | (rw [if_pos (by decide +kernel)]; kernel_rfl) | (rw [if_neg (by decide +kernel)]; exact ⟨rfl, rfl⟩))
    (fun os started H enc _ => lifted os started H enc)
end Go.Proofs.Ytakibdkmgjpbhaa.checkConds

namespace Go.Proofs.Ytakibdkmgjpbhaa
theorem checkConds_holds : Rows.CheckCondsSaid := checkConds.over
#print axioms checkConds_holds
end Go.Proofs.Ytakibdkmgjpbhaa
