/- For every program the call CheckBinds of the statements returns true and its argument reads as it did: no condition. -/
import Derived.Test.YtakibdkmgjpbhaaRows
import Derived.Test.YtakibdkmgjpbhaaArg
import Derived.Test.YtakibdkmgjpbhaaAw
import Derived.WalkKit
import Derived.ProofKit
import Derived.OpenShut
import Derived.ShutString
import Derived.ChangeOld
import Derived.Below
import Derived.Test.YtakibdkmgjpbhaaLpa
namespace Go.Proofs.Ytakibdkmgjpbhaa.checkBinds
open Go.ChangeShapes Go.WideShapes Go.ChangeAt Go.RowKit
set_option linter.unusedVariables false
set_option linter.unusedSimpArgs false
set_option maxRecDepth 20000

theorem own : ownKnob Try.prog.godebug = none := by kernel_rfl
theorem laidOut : laidOutB Try.prog = true := by kernel_rfl
def tnm (t : TestD) : List Str := if t.p = 0 ∧ t.v ≠ [] then [t.v] else []
def anm (a : AttrD) : List Str := a.tests.flatMap tnm
def cnm (c : CondD) : List Str := if c.neg = true then [] else c.attrs.flatMap anm
def bnm (a : ActD) : List Str := if a.k = 3 then [a.v] else []
theorem flat_next {α : Type} (f : α → List Str) (l : List α) (k : Nat) (d : α) (h : k < l.length) : (l.take (k + 1)).flatMap f = (l.take k).flatMap f ++ f (l.getD k d) := by
  rw [take_snocD l k d h, List.flatMap_append]; simp
theorem flat_len {α : Type} (f : α → List Str) (c : Nat) : ∀ (l : List α), (∀ x ∈ l, (f x).length ≤ c) → (l.flatMap f).length ≤ c * l.length
  | [], _ => by simp
  | x :: l, h => by
    have h1 := flat_len f c l (fun y hy => h y (List.mem_cons_of_mem _ hy))
    have h2 := h x (List.mem_cons_self ..)
    rw [List.flatMap_cons, List.length_append, List.length_cons, Nat.mul_add]; omega
theorem tnm_len (t : TestD) : (tnm t).length ≤ 1 := by unfold tnm; split <;> simp
theorem anm_len {a : AttrD} (h : attrL a) : (anm a).length ≤ 12 := by
  have := flat_len tnm 1 a.tests (fun t _ => tnm_len t)
  have := h.2.2.1
  unfold anm; omega
theorem cnm_len {c : CondD} (h : condL c) : (cnm c).length ≤ 120 := by
  unfold cnm; split
  · simp
  · have := flat_len anm 12 c.attrs (fun a ha => anm_len (h.2.2 a ha))
    have := h.2.1
    omega
theorem bnm_len (a : ActD) : (bnm a).length ≤ 1 := by unfold bnm; split <;> simp
theorem take_len {α : Type} (f : α → List Str) (c : Nat) (l : List α) (k : Nat) (h : ∀ x ∈ l, (f x).length ≤ c) : ((l.take k).flatMap f).length ≤ c * k := by
  have h1 := flat_len f c (l.take k) (fun x hx => h x (List.mem_of_mem_take hx))
  rw [List.length_take] at h1
  exact Nat.le_trans h1 (Nat.mul_le_mul_left _ (Nat.min_le_left ..))
/-- What is bound is named. -/
theorem exE_mono {zs ys : List Str} (h : ∀ x ∈ zs, x ∈ ys) {e : List ItemD} (he : exE zs e = 0) : exE ys e = 0 := by
  unfold exE at *
  split at he
  · cases he
  · rename_i hn
    rw [if_neg]
    intro hc
    apply hn
    rw [List.any_eq_true] at hc ⊢
    obtain ⟨x, hx, hp⟩ := hc
    refine ⟨x, hx, ?_⟩
    unfold itemE at *
    simp only [Bool.and_eq_true, decide_eq_true_eq] at *
    exact ⟨hp.1, fun hm => hp.2 (h _ hm)⟩
theorem conds_named {cs : List ClassD} {l : List CondD} {zs : List Str} (h : runE (condS cs) [] l = .ok zs) : ∀ x ∈ zs, x ∈ l.flatMap cnm :=
  runE_inv (step := condS cs) (P := fun zs => ∀ x ∈ zs, x ∈ l.flatMap cnm) (by simp) (fun s c s' hc h0 hs => by
    obtain ⟨f, hf, h2⟩ := bindE_ok hs
    injection h2 with h2
    subst h2
    intro x hx
    rcases List.mem_append.1 hx with hx | hx
    · exact h0 x hx
    · obtain ⟨_, hn, a, ha, t, ht, e, hp, hv⟩ := condR_new hf x hx
      refine List.mem_flatMap.2 ⟨c, hc, ?_⟩
      unfold cnm; rw [if_neg (by simp [hn])]
      refine List.mem_flatMap.2 ⟨a, ha, List.mem_flatMap.2 ⟨t, ht, ?_⟩⟩
      unfold tnm; rw [if_pos ⟨hp, hv⟩, e]; simp) h
theorem runE_each {σ α : Type} {step : σ → α → Except Int σ} {l : List α} {s t : σ} (h : runE step s l = .ok t) (j : Nat) (d : α) (hj : j < l.length) : ∃ s1 s2, runE step s (l.take j) = .ok s1 ∧ step s1 (l.getD j d) = .ok s2 := by
  have h1 := h
  rw [← List.take_append_drop j l, runE_app] at h1
  obtain ⟨s1, h2, h3⟩ := bindE_ok h1
  have h4 := h
  rw [← List.take_append_drop (j + 1) l, runE_app] at h4
  obtain ⟨s2, h5, h6⟩ := bindE_ok h4
  rw [runE_next d hj h2] at h5
  exact ⟨s1, s2, h2, h5⟩
theorem acts_named {cs : List ClassD} {conds : List CondD} {l : List ActD} {zs : List Str} {zt : List Str} {ns : List Str} (hz : ∀ x ∈ zs, x ∈ ns) (h : runE (actR cs conds) zs l = .ok zt) (j : Nat) (hj : j ≤ l.length) {zj : List Str} (hr : runE (actR cs conds) zs (l.take j) = .ok zj) : ∀ x ∈ zj, x ∈ ns ++ (l.take j).flatMap bnm :=
  runE_inv (step := actR cs conds) (l := l.take j) (P := fun zj => ∀ x ∈ zj, x ∈ ns ++ (l.take j).flatMap bnm) (fun x hx => List.mem_append_left _ (hz x hx)) (fun s a s' ha h0 hs => by
    obtain ⟨_, _, hs⟩ := bindE_ok hs
    obtain ⟨_, _, hs⟩ := bindE_ok hs
    obtain ⟨_, _, hs⟩ := bindE_ok hs
    injection hs with hs
    subst hs
    intro x hx
    split at hx
    · rename_i hk
      rcases List.mem_append.1 hx with hx | hx
      · exact h0 x hx
      · obtain rfl := List.mem_singleton.1 hx
        refine List.mem_append_right _ (List.mem_flatMap.2 ⟨a, ha, ?_⟩)
        unfold bnm; rw [if_pos hk]; simp
    · exact h0 x hx) hr
/-- P17.6 in plain words. -/
theorem binds {cs : List ClassD} {r : RuleD} (h : ruleE cs r = 0) (j : Nat) (hj : j < r.acts.length) :
    (∀ x ∈ (r.acts.getD j ⟨0, [], 0, [], [], []⟩).sets, exE (r.conds.flatMap cnm ++ (r.acts.take j).flatMap bnm) x.e = 0) ∧ (∀ e ∈ (r.acts.getD j ⟨0, [], 0, [], [], []⟩).exprs, exE (r.conds.flatMap cnm ++ (r.acts.take j).flatMap bnm) e = 0) := by
  unfold ruleE at h
  split at h
  · cases h
  · cases hc : runE (condS cs) [] r.conds with
    | error e =>
      rw [hc] at h
      have he : e = 0 := h
      obtain ⟨_, _, _, hb⟩ := runE_bad hc
      exact absurd he (condS_bad hb)
    | ok zs =>
      rw [hc] at h
      have h : errE (runE (actR cs r.conds) zs r.acts) = 0 := h
      cases ha : runE (actR cs r.conds) zs r.acts with
      | error e =>
        rw [ha] at h
        have he : e = 0 := h
        obtain ⟨_, _, _, hb⟩ := runE_bad ha
        exact absurd he (actR_bad hb)
      | ok zt =>
        obtain ⟨zj, z2, h1, h2⟩ := runE_each ha j ⟨0, [], 0, [], [], []⟩ hj
        have hm := acts_named (conds_named hc) ha j (by omega) h1
        generalize r.acts.getD j ⟨0, [], 0, [], [], []⟩ = a at h2 ⊢
        obtain ⟨s, _, h2⟩ := bindE_ok h2
        obtain ⟨mm, hsets, h2⟩ := bindE_ok h2
        obtain ⟨u, hex, _⟩ := bindE_ok h2
        constructor
        · intro x hx
          obtain ⟨i, hi, rfl⟩ := List.mem_iff_getElem.1 hx
          obtain ⟨s1, s2, _, h4⟩ := runE_each hsets i ⟨[], []⟩ hi
          rw [List.getD_eq_getElem?_getD, List.getElem?_eq_getElem hi] at h4
          refine exE_mono hm ?_
          unfold setS at h4
          split at h4
          · cases h4
          · split at h4
            · cases h4
            · rename_i hh; exact Classical.not_not.1 hh
        · intro e he
          obtain ⟨i, hi, rfl⟩ := List.mem_iff_getElem.1 he
          obtain ⟨s1, s2, _, h4⟩ := runE_each hex i [] hi
          rw [List.getD_eq_getElem?_getD, List.getElem?_eq_getElem hi] at h4
          refine exE_mono hm ?_
          unfold exprS at h4
          split at h4
          · cases h4
          · rename_i hh; exact Classical.not_not.1 hh
theorem rules_ok {p : ProgD} (h : progE p = 0) (i : Nat) (hi : i < p.rs.length) : ruleE p.cs (p.rs.getD i ⟨[], [], []⟩) = 0 := by
  unfold progE at h
  split at h
  · rename_i hn; exact absurd h hn
  · cases hr : runE (progS p.cs) [] p.rs with
    | error e =>
      rw [hr] at h
      have he : e = 0 := h
      obtain ⟨s, x, _, hx⟩ := runE_bad hr
      exfalso
      unfold progS at hx
      split at hx
      · injection hx with hx; omega
      · split at hx
        · rename_i hh; injection hx with hx; exact hh (by rw [hx]; exact he)
        · cases hx
    | ok t =>
      obtain ⟨s1, s2, _, h4⟩ := runE_each hr i ⟨[], [], []⟩ hi
      unfold progS at h4
      split at h4
      · cases h4
      · split at h4
        · cases h4
        · rename_i hh; exact Classical.not_not.1 hh
theorem sl_own {w : World} {B : Nat} {v : Value} {ss : List Str} (h : OwnS w B v ss) : SlW 1 w (fun b => B ≤ b) v (ss.map clS) := h.sl
theorem len_add {α β : Type} {f : α → List Str} {g : β → List Str} {a b : Nat} (l : List α) (m : List β) (h1 : (l.flatMap f).length ≤ a) (h2 : (m.flatMap g).length ≤ b) : (l.flatMap f ++ m.flatMap g).length ≤ a + b := by rw [List.length_append]; omega
abbrev r00 : RuleD := ⟨[], [], []⟩
abbrev c00 : CondD := ⟨false, [], []⟩
abbrev a00 : AttrD := ⟨[], [], []⟩
abbrev t00 : ActD := ⟨0, [], 0, [], [], []⟩
abbrev d00 : TestD := ⟨0, [], v0⟩
abbrev s00 : SetD := ⟨[], []⟩
theorem getD_mem' {α : Type} (l : List α) (i : Nat) (d : α) (h : i < l.length) : l.getD i d ∈ l := by rw [List.getD_eq_getElem?_getD, List.getElem?_eq_getElem h]; exact List.getElem_mem h
set_option maxHeartbeats 16000000 in
theorem core (a1 a2 : Option Addr) (c1 c2 : Nat) (p : ProgD) (w : World) (h1 : Row 2 (ReK fun _ _ => True) w (fun _ => True) (.slice a1 p.cs.length c1) p.cs) (h2 : Row 3 (ReR fun _ _ => True) w (fun _ => True) (.slice a2 p.rs.length c2) p.rs) (hI : ∀ r ∈ p.rs, ∀ a ∈ r.acts, okI a) :
    Calls Try.prog 6 #[.agg #[.slice a1 p.cs.length c1, .slice a2 p.rs.length c2]] w fun e w' => e = .returned (.bool true) ∧ Below w.heap.size w w' := by
  have HA : Hid (∀ W, Below w.heap.size w W → Calls Try.prog 9 #[] W fun e w' => e = .returned (.bool true) ∧ Below W.heap.size W w') := fun W _ => awake_any W
  have C8 : Hid (∀ W, Below w.heap.size w W → Calls Try.prog 8 #[.agg #[.slice a1 p.cs.length c1, .slice a2 p.rs.length c2]] W (SomeL (progL p) W)) := fun W hW => lightB_any (P := fun _ _ => True) [.slice a1 p.cs.length c1, .slice a2 p.rs.length c2] p W (ReP.keep (Stays.below hW) ⟨_, _, rfl, h1, h2⟩)
  have C12 : Hid (progL p → ∀ W, Below w.heap.size w W → Calls Try.prog 12 #[.agg #[.slice a1 p.cs.length c1, .slice a2 p.rs.length c2]] W fun e w' => e = .returned (.int .i64 (progE p)) ∧ Below W.heap.size W w') := fun hL W hW => program_any (P := fun _ _ => True) [.slice a1 p.cs.length c1, .slice a2 p.rs.length c2] p W (ReP.keep (Stays.below hW) ⟨_, _, rfl, h1, h2⟩) hL hI
  obtain ⟨css2, hs2, hh2⟩ := h2
  have le2 := hh2.len
  obtain ⟨-, l2, m2, r2⟩ := hs2.row
  rw [le2] at l2 r2
  have R2 : Hid (∀ i, i < p.rs.length → ∃ b off, a2 = some ⟨b, off, none⟩ ∧ b < w.heap.size ∧ ∀ j, j < 3 → w.cell? ⟨b, off + (i * 3 + j), none⟩ = (css2.getD i [])[j]?) := r2
  have G2 : Hid (All2 (ReR (fun _ _ => True) w) css2 p.rs) := hh2
  clear h1 hI hs2 hh2 r2 le2
  have hnn : (p.rs.length : Int) ≤ 9223372036854775807 := by omega
  by_cases hp : progE p = 0
  · have FW : Hid (∀ i, i < p.rs.length → ruleE p.cs (p.rs.getD i r00) = 0) := fun i hi => rules_ok hp i hi
    rw [hp] at C12
    clear hp
    go_enter Try.func6, Try.ntmps6
    go_wp2_with (first
      | (go_at_call 8; refine (C8.out _ (bxn _ _)).mono ?_; rintro e w2 ⟨bb, rfl, hLL, hb2⟩; have HLL : Hid (bb = true → progL p) := hLL; have B2 : Hid (Below w.heap.size w w2) := bt (bxn _ _) hb2
         have k0 : w2.cell? ⟨w.heap.size, 0, none⟩ = some (.slice a1 p.cs.length c1) := (hb2.cell (p := ⟨w.heap.size, 0, none⟩) (by simp)).trans (by go_simp)
         have k1 : w2.cell? ⟨w.heap.size, 1, none⟩ = some (.slice a2 p.rs.length c2) := (hb2.cell (p := ⟨w.heap.size, 1, none⟩) (by simp)).trans (by go_simp)
         have z2 : w.heap.size < w2.heap.size := (by (have := hb2.size; simp at this; omega))
         clear C8 hb2 hLL)
      | (go_at_call 12; refine (C12.out (HLL.out (by first | assumption | rfl | simp_all)) _ B2.out).mono ?_; rintro e w3 ⟨rfl, hb3⟩; have HL3 : Hid (progL p) := HLL.out (by first | assumption | rfl | simp_all); have B3 : Hid (Below w.heap.size w w3) := bt B2.out hb3
         have j1 : w3.cell? ⟨w.heap.size, 1, none⟩ = some (.slice a2 p.rs.length c2) := (hb3.cell (p := ⟨w.heap.size, 1, none⟩) (by show w.heap.size < _; omega)).trans k1
         have z3 : w.heap.size < w3.heap.size := Nat.lt_of_lt_of_le z2 hb3.size
         clear hb3)
      | (go_at_call 9; refine (HA.out _ B2.out).mono ?_; rintro e w4 ⟨rfl, hb4⟩; have B4 : Hid (Below w.heap.size w w4) := bt B2.out hb4))
    all_goals try (go_ret; exact ⟨rfl, B4.out⟩)
    go_loopw [3, 4, 5, 6, 7, 8, 9, 10, 11, 12, 13] (fun v3 _ _ _ _ _ _ _ _ _ _ wr => ∃ i : Nat, v3 = .int .i64 i ∧ i ≤ p.rs.length ∧ Hid (Below w3.heap.size w3 wr)) (fun v3 _ _ _ _ _ _ _ _ _ _ _ => (p.rs.length - intOf v3).toNat)
    case atStart => exact ⟨0, rfl, Nat.zero_le _, Below.refl _ _⟩
    case round =>
      clear k0 k1
      obtain ⟨i, rfl, hi, HB⟩ := hrel
      have HW : Hid (Below w.heap.size w wr) := bt B3.out HB.out
      have x1 : wr.cell? ⟨w.heap.size, 1, none⟩ = some (.slice a2 p.rs.length c2) := (HB.out.cell (p := ⟨w.heap.size, 1, none⟩) z3).trans j1
      by_cases hlt : i < p.rs.length
      · have hiz : (i : Int) < p.rs.length := by omega
        obtain ⟨b1, o1, rfl, hb1, q1⟩ := R2.out i hlt
        have e1 := G2.out.at i [] r00 hlt
        have HRL : Hid (ruleL (p.rs.getD i r00)) := HL3.out.2.2.2 _ (getD_mem' _ _ _ hlt)
        have HRE := FW.out i hlt
        generalize p.rs.getD i r00 = x at q1 e1 HRL HRE
        have HRE : Hid (ruleE p.cs x = 0) := HRE
        obtain ⟨u, u', ec, ⟨cssu, hsu, hhu⟩, ⟨cssv, hsv, hhv⟩⟩ := e1
        obtain ⟨xa, ya, rfl⟩ := hsu.shape
        obtain ⟨xb, yb, rfl⟩ := hsv.shape
        obtain ⟨-, l3, m3, r3⟩ := hsu.row
        obtain ⟨-, l4, m4, r4⟩ := hsv.row
        have leu := hhu.len
        have lev := hhv.len
        rw [leu] at l3 r3 ec
        rw [lev] at l4 r4 ec
        have R3 : Hid (∀ i, i < x.conds.length → ∃ b off, xa = some ⟨b, off, none⟩ ∧ b < w.heap.size ∧ ∀ j, j < 3 → w.cell? ⟨b, off + (i * 3 + j), none⟩ = (cssu.getD i [])[j]?) := r3
        have R4 : Hid (∀ i, i < x.acts.length → ∃ b off, xb = some ⟨b, off, none⟩ ∧ b < w.heap.size ∧ ∀ j, j < 6 → w.cell? ⟨b, off + (i * 6 + j), none⟩ = (cssv.getD i [])[j]?) := r4
        have G3 : Hid (All2 (ReC (fun _ _ => True) w) cssu x.conds) := hhu
        have G4 : Hid (All2 (ReT (fun _ _ => True) w) cssv x.acts) := hhv
        clear hsu hsv hhu hhv r3 r4 leu lev
        have hcl : x.conds.length ≤ 8 := HRL.out.2.1
        have hal : x.acts.length ≤ 12 := HRL.out.2.2.1
        rw [ec] at q1
        have qq : ∀ j v, (([.string (st x.nm), .slice xa x.conds.length ya, .slice xb x.acts.length yb] : List Value)[j]? = some v) → j < 3 → wr.cell? ⟨b1, o1 + (i * 3 + j), none⟩ = some v := fun j v h hj => (HW.out.cell (p := ⟨b1, o1 + (i * 3 + j), none⟩) hb1).trans (by rw [q1 j hj]; exact h)
        have q0 : wr.cell? ⟨b1, o1 + i * 3, none⟩ = some (.string (st x.nm)) := qq 0 _ rfl (by decide)
        have q2 : wr.cell? ⟨b1, o1 + i * 3 + 1, none⟩ = some (.slice xa x.conds.length ya) := qq 1 _ rfl (by decide)
        have q3 : wr.cell? ⟨b1, o1 + i * 3 + 2, none⟩ = some (.slice xb x.acts.length yb) := qq 2 _ rfl (by decide)
        clear q1 qq ec
        go_wp2
        have BA : Hid (Below w3.heap.size w3 (wr.alloc (.cells #[.string (st x.nm), .slice xa x.conds.length ya, .slice xb x.acts.length yb] 33))) := bt HB.out (bxn _ _)
        have HX3 : Hid (∀ W, Below (wr.alloc (.cells #[.string (st x.nm), .slice xa x.conds.length ya, .slice xb x.acts.length yb] 33)).heap.size (wr.alloc (.cells #[.string (st x.nm), .slice xa x.conds.length ya, .slice xb x.acts.length yb] 33)) W → W.cell? ⟨wr.heap.size, 1, none⟩ = some (.slice xa x.conds.length ya) ∧ W.cell? ⟨wr.heap.size, 2, none⟩ = some (.slice xb x.acts.length yb)) := fun W hW =>
          ⟨by rw [hW.cell (p := ⟨wr.heap.size, 1, none⟩) (by simp)]; simp, by rw [hW.cell (p := ⟨wr.heap.size, 2, none⟩) (by simp)]; simp⟩
        generalize wr.alloc (.cells #[.string (st x.nm), .slice xa x.conds.length ya, .slice xb x.acts.length yb] 33) = wA at *
        obtain ⟨rr, hrr⟩ : ∃ rr, rr = wr.heap.size := ⟨_, rfl⟩
        rw [← hrr] at HX3 ⊢
        clear hrr q0 q2 q3 HB HW x1
        have HWA : Hid (Below w.heap.size w wA) := bt B3.out BA.out
        go_loopw [5, 6, 7, 8, 9] (fun v5 v6 _ _ _ wr => ∃ k : Nat, v6 = .int .i64 k ∧ k ≤ x.conds.length ∧ Hid (Below wA.heap.size wA wr) ∧ Hid (OwnS wr wA.heap.size v5 ((x.conds.take k).flatMap cnm))) (fun _ v6 _ _ _ _ => (x.conds.length - intOf v6).toNat)
        case atStart => exact ⟨0, rfl, Nat.zero_le _, Below.refl _ _, OwnS.nil _ _⟩
        case round =>
          obtain ⟨k, rfl, hk, HB, HO⟩ := hrel
          obtain ⟨y1, y2⟩ := HX3.out _ HB.out
          by_cases hkt : k < x.conds.length
          · have hkz : (k : Int) < x.conds.length := by omega
            obtain ⟨b2, o2, rfl, hb2, q2⟩ := R3.out k hkt
            have e2 := G3.out.at k [] c00 hkt
            have HCL : Hid (condL (x.conds.getD k c00)) := HRL.out.2.2.2.1 _ (getD_mem' _ _ _ hkt)
            have hnl : ((x.conds.take k).flatMap cnm).length ≤ 120 * k := take_len cnm 120 _ _ (fun c hc => cnm_len (HRL.out.2.2.2.1 c hc))
            have HNX : Hid ((x.conds.take (k + 1)).flatMap cnm = (x.conds.take k).flatMap cnm ++ cnm (x.conds.getD k c00)) := flat_next cnm _ _ _ hkt
            generalize (x.conds.take k).flatMap cnm = zs at HO hnl HNX
            generalize x.conds.getD k c00 = c at e2 HCL HNX
            obtain ⟨u, ec, ⟨cssa, hsa, hha⟩⟩ := e2
            obtain ⟨a3, c3, rfl⟩ := hsa.shape
            obtain ⟨-, l5, m5, r5⟩ := hsa.row
            have lea := hha.len
            rw [lea] at l5 r5 ec
            have R5 : Hid (∀ i, i < c.attrs.length → ∃ b off, a3 = some ⟨b, off, none⟩ ∧ b < w.heap.size ∧ ∀ j, j < 3 → w.cell? ⟨b, off + (i * 3 + j), none⟩ = (cssa.getD i [])[j]?) := r5
            have G5 : Hid (All2 (ReA (fun _ _ => True) w) cssa c.attrs) := hha
            clear hsa hha r5 lea
            have hatl : c.attrs.length ≤ 10 := HCL.out.2.1
            rw [ec] at q2
            have HQ2 : Hid (∀ W, Below wA.heap.size wA W → W.cell? ⟨b2, o2 + k * 3, none⟩ = some (.bool c.neg) ∧ W.cell? ⟨b2, o2 + k * 3 + 2, none⟩ = some (.slice a3 c.attrs.length c3)) := fun W hW => ⟨((bt HWA.out hW).cell (p := ⟨b2, o2 + k * 3, none⟩) hb2).trans (q2 0 (by decide)), ((bt HWA.out hW).cell (p := ⟨b2, o2 + k * 3 + 2, none⟩) hb2).trans (q2 2 (by decide))⟩
            clear q2 ec
            obtain ⟨p0, p2⟩ := HQ2.out _ HB.out
            generalize hcn : c.neg = ng at *
            go_wp2
            go_loopw [5, 7, 8, 9] (fun v5 v7 _ _ wr => ∃ n : Nat, v7 = .int .i64 n ∧ n ≤ c.attrs.length ∧ Hid (Below wA.heap.size wA wr) ∧ Hid (OwnS wr wA.heap.size v5 (zs ++ (if ng = true then [] else (c.attrs.take n).flatMap anm)))) (fun _ v7 _ _ _ => (c.attrs.length - intOf v7).toNat)
            case atStart => exact ⟨0, rfl, Nat.zero_le _, HB.out, by have := HO.out; show OwnS _ _ _ _; simpa using this⟩
            case round =>
              clear HO HB y1 y2 p0 p2
              obtain ⟨n, rfl, hn, HB, HO⟩ := hrel
              obtain ⟨y1, y2⟩ := HX3.out _ HB.out
              obtain ⟨p0, p2⟩ := HQ2.out _ HB.out
              by_cases hnt : n < c.attrs.length
              · have hnz : (n : Int) < c.attrs.length := by omega
                cases ng with
                | true =>
                  have HO2 : Hid (OwnS wr wA.heap.size u5 ((x.conds.take (k + 1)).flatMap cnm)) := by
                    rw [HNX.out]
                    have := HO.out
                    rw [if_pos rfl] at this
                    unfold cnm; rw [if_pos hcn]; exact this
                  clear HO
                  go_wp2
                  go_roundw
                  case rel => exact ⟨k + 1, by simp, by omega, HB.out, HO2.out⟩
                  case measure => simp [intOf]; omega
                | false =>
                  rw [if_neg (by decide)] at HO
                  obtain ⟨b3, o3, rfl, hb3, q3⟩ := R5.out n hnt
                  have e3 := G5.out.at n [] a00 hnt
                  have HAL : Hid (attrL (c.attrs.getD n a00)) := HCL.out.2.2 _ (getD_mem' _ _ _ hnt)
                  have hnl2 : ((c.attrs.take n).flatMap anm).length ≤ 12 * n := take_len anm 12 _ _ (fun a ha => anm_len (HCL.out.2.2 a ha))
                  have HNY : Hid ((c.attrs.take (n + 1)).flatMap anm = (c.attrs.take n).flatMap anm ++ anm (c.attrs.getD n a00)) := flat_next anm _ _ _ hnt
                  generalize (c.attrs.take n).flatMap anm = zs2 at HO hnl2 HNY
                  generalize c.attrs.getD n a00 = a at e3 HAL HNY
                  obtain ⟨u, u', ec, -, hst⟩ := e3
                  obtain ⟨a4, c4, rfl⟩ := hst.shape
                  obtain ⟨-, l6, m6, r6⟩ := hst.row
                  simp only [List.length_map] at l6 m6 r6 ec
                  have R6 : Hid (∀ i, i < a.tests.length → ∃ b off, a4 = some ⟨b, off, none⟩ ∧ b < w.heap.size ∧ ∀ j, j < 5 → w.cell? ⟨b, off + (i * 5 + j), none⟩ = ((a.tests.map clT).getD i [])[j]?) := r6
                  clear hst r6
                  rw [ec] at q3
                  have p3 : wr.cell? ⟨b3, o3 + n * 3 + 2, none⟩ = some (.slice a4 a.tests.length c4) := ((bt HWA.out HB.out).cell (p := ⟨b3, o3 + n * 3 + 2, none⟩) hb3).trans (q3 2 (by decide))
                  clear q3 ec
                  have htl : a.tests.length ≤ 12 := HAL.out.2.2.1
                  go_wp2
                  go_loopw [5, 9] (fun v5 v9 wr => ∃ m : Nat, v9 = .int .i64 m ∧ m ≤ a.tests.length ∧ Hid (Below wA.heap.size wA wr) ∧ Hid (OwnS wr wA.heap.size v5 (zs ++ (zs2 ++ (a.tests.take m).flatMap tnm)))) (fun _ v9 _ => (a.tests.length - intOf v9).toNat)
                  case atStart => exact ⟨0, rfl, Nat.zero_le _, HB.out, by have := HO.out; show OwnS _ _ _ _; simpa using this⟩
                  case round =>
                    clear HO HB y1 y2 p0 p2 p3
                    obtain ⟨m, rfl, hm, HB, HO⟩ := hrel
                    by_cases hmt : m < a.tests.length
                    · have hmz : (m : Int) < a.tests.length := by omega
                      obtain ⟨b4, o4, rfl, hb4, q4⟩ := R6.out m hmt
                      rw [getD_map clT a.tests m d00 hmt] at q4
                      have hnl3 : ((a.tests.take m).flatMap tnm).length ≤ 1 * m := take_len tnm 1 _ _ (fun t _ => tnm_len t)
                      have HNZ : Hid ((a.tests.take (m + 1)).flatMap tnm = (a.tests.take m).flatMap tnm ++ tnm (a.tests.getD m d00)) := flat_next tnm _ _ _ hmt
                      generalize (a.tests.take m).flatMap tnm = zs3 at HO hnl3 HNZ
                      generalize a.tests.getD m d00 = t at q4 HNZ
                      have g0 : wr.cell? ⟨b4, o4 + m * 5, none⟩ = some (.int .u8 t.p) := ((bt HWA.out HB.out).cell (p := ⟨b4, o4 + m * 5, none⟩) hb4).trans (q4 0 (by decide))
                      have g1 : wr.cell? ⟨b4, o4 + m * 5 + 1, none⟩ = some (.string (st t.v)) := ((bt HWA.out HB.out).cell (p := ⟨b4, o4 + m * 5 + 1, none⟩) hb4).trans (q4 1 (by decide))
                      clear q4
                      have hse := st_nil t.v
                      by_cases htp : t.p = 0
                      · rw [htp] at g0
                        by_cases h0 : t.v = []
                        · rw [decide_eq_true h0] at hse
                          have HO2 : Hid (OwnS wr wA.heap.size u5 (zs ++ (zs2 ++ (a.tests.take (m + 1)).flatMap tnm))) := by
                            rw [HNZ.out, show tnm t = [] from if_neg (fun h => h.2 h0), List.append_nil]; exact HO.out
                          clear htp h0 HO
                          go_wp2
                          go_roundw
                          case rel => exact ⟨m + 1, by simp, by omega, HB.out, HO2.out⟩
                          case measure => simp [intOf]; omega
                        · rw [decide_eq_false h0] at hse
                          have HT : Hid (tnm t = [t.v]) := if_pos ⟨htp, h0⟩
                          have HNZ2 : Hid ((zs ++ (zs2 ++ (a.tests.take (m + 1)).flatMap tnm)) = (zs ++ (zs2 ++ zs3)) ++ [t.v]) := by show _ = _; rw [HNZ.out, HT.out]; simp [List.append_assoc]
                          have hzl : (zs ++ (zs2 ++ zs3)).length ≤ 3000 := by rw [List.length_append, List.length_append]; omega
                          generalize zs ++ (zs2 ++ zs3) = Z at HO HNZ2 hzl
                          have hBs := HB.out.size
                          clear htp h0
                          go_wp2_with (at_builtin; refine wp_app_ss rfl _ _ rfl wA.heap.size _ Z [t.v] rfl (HO.out.below (bxn _ _)) _ rfl (one_s _ _) (by simp; omega) (by simp; omega) ?_; intro v5 w5 o5 g5 b5)
                          have HB5 : Hid (Below wA.heap.size wA w5) := HB.out.trans (((bxn _ _).mono hBs).trans b5)
                          go_roundw
                          case rel => exact ⟨m + 1, by simp, by omega, HB5.out, by rw [HNZ2.out]; exact o5⟩
                          case measure => simp [intOf]; omega
                      · have HO2 : Hid (OwnS wr wA.heap.size u5 (zs ++ (zs2 ++ (a.tests.take (m + 1)).flatMap tnm))) := by
                          rw [HNZ.out, show tnm t = [] from if_neg (fun h => htp h.1), List.append_nil]; exact HO.out
                        clear HO
                        go_wp2
                        go_roundw
                        case rel => exact ⟨m + 1, by simp, by omega, HB.out, HO2.out⟩
                        case measure => simp [intOf]; omega
                    · have hmz : ¬ (m : Int) < a.tests.length := by omega
                      obtain rfl : m = a.tests.length := by omega
                      have HO2 : Hid (OwnS wr wA.heap.size u5 (zs ++ (c.attrs.take (n + 1)).flatMap anm)) := by
                        have := HO.out
                        rw [List.take_length] at this
                        rw [HNY.out]; exact this
                      clear HO
                      go_wp2
                      go_roundw
                      case rel => exact ⟨n + 1, by simp, by omega, HB.out, HO2.out⟩
                      case measure => simp [intOf]; omega
              · have hnz : ¬ (n : Int) < c.attrs.length := by omega
                obtain rfl : n = c.attrs.length := by omega
                have HO2 : Hid (OwnS wr wA.heap.size u5 ((x.conds.take (k + 1)).flatMap cnm)) := by
                  rw [HNX.out]
                  have := HO.out
                  rw [List.take_length] at this
                  unfold cnm; rw [hcn]; exact this
                clear HO
                go_wp2
                go_roundw
                case rel => exact ⟨k + 1, by simp, by omega, HB.out, HO2.out⟩
                case measure => simp [intOf]; omega
          · have hkz : ¬ (k : Int) < x.conds.length := by omega
            obtain rfl : k = x.conds.length := by omega
            have HO1 : Hid (OwnS wr wA.heap.size u5 (x.conds.flatMap cnm ++ (x.acts.take 0).flatMap bnm)) := by
              have := HO.out
              rw [List.take_length] at this
              show OwnS _ _ _ _
              simpa using this
            have hcn : (x.conds.flatMap cnm).length ≤ 120 * x.conds.length := flat_len cnm 120 _ (fun c hc => cnm_len (HRL.out.2.2.2.1 c hc))
            have HZC : Hid (∀ j, j < x.acts.length → (∀ s ∈ (x.acts.getD j t00).sets, exE (x.conds.flatMap cnm ++ (x.acts.take j).flatMap bnm) s.e = 0) ∧ (∀ e ∈ (x.acts.getD j t00).exprs, exE (x.conds.flatMap cnm ++ (x.acts.take j).flatMap bnm) e = 0)) := fun j hj => binds HRE.out j hj
            generalize x.conds.flatMap cnm = zc at HO1 hcn HZC
            clear HO
            go_wp2
            have HB1 : Hid (Below wA.heap.size wA wr) := HB.out
            go_loopw [5, 10, 11, 12, 13] (fun v5 v10 _ _ _ wr => ∃ j : Nat, v10 = .int .i64 j ∧ j ≤ x.acts.length ∧ Hid (Below wA.heap.size wA wr) ∧ Hid (OwnS wr wA.heap.size v5 (zc ++ (x.acts.take j).flatMap bnm))) (fun _ v10 _ _ _ _ => (x.acts.length - intOf v10).toNat)
            case atStart => exact ⟨0, rfl, Nat.zero_le _, HB1.out, HO1.out⟩
            case round =>
              clear HO1 HB1 HB y1 y2
              obtain ⟨j, rfl, hj, HB, HO⟩ := hrel
              obtain ⟨y1, y2⟩ := HX3.out _ HB.out
              by_cases hjt : j < x.acts.length
              · have hjz : (j : Int) < x.acts.length := by omega
                obtain ⟨b5, o5, rfl, hb5, q5⟩ := R4.out j hjt
                have e5 := G4.out.at j [] t00 hjt
                obtain ⟨hZ1, hZ2⟩ := HZC.out j hjt
                have hnl : ((x.acts.take j).flatMap bnm).length ≤ 1 * j := take_len bnm 1 _ _ (fun a _ => bnm_len a)
                have HNX : Hid (zc ++ (x.acts.take (j + 1)).flatMap bnm = (zc ++ (x.acts.take j).flatMap bnm) ++ bnm (x.acts.getD j t00)) := by show _ = _; rw [flat_next bnm _ _ t00 hjt, List.append_assoc]
                have hzl : (zc ++ (x.acts.take j).flatMap bnm).length ≤ 3000 := by rw [List.length_append]; omega
                have HAL : Hid (actL (x.acts.getD j t00)) := HRL.out.2.2.2.2 _ (getD_mem' _ _ _ hjt)
                generalize zc ++ (x.acts.take j).flatMap bnm = Z at HO HNX hzl hZ1 hZ2
                generalize x.acts.getD j t00 = t at e5 hZ1 hZ2 HNX HAL
                have HZ1 : Hid (∀ s ∈ t.sets, exE Z s.e = 0) := hZ1
                have HZ2 : Hid (∀ e ∈ t.exprs, exE Z e = 0) := hZ2
                obtain ⟨u, u', ec, ⟨csss, hss, hhs⟩, ⟨csse, hse, hhe⟩⟩ := e5
                obtain ⟨a6, c6, rfl⟩ := hss.shape
                obtain ⟨a7, c7, rfl⟩ := hse.shape
                obtain ⟨-, l6, m6, r6⟩ := hss.row
                obtain ⟨-, l7, m7, r7⟩ := hse.row
                have les := hhs.len
                have lee := hhe.len
                rw [les] at l6 r6 ec
                rw [lee] at l7 r7 ec
                have R6 : Hid (∀ i, i < t.sets.length → ∃ b off, a6 = some ⟨b, off, none⟩ ∧ b < w.heap.size ∧ ∀ j, j < 2 → w.cell? ⟨b, off + (i * 2 + j), none⟩ = (csss.getD i [])[j]?) := r6
                have R7 : Hid (∀ i, i < t.exprs.length → ∃ b off, a7 = some ⟨b, off, none⟩ ∧ b < w.heap.size ∧ ∀ j, j < 1 → w.cell? ⟨b, off + (i * 1 + j), none⟩ = (csse.getD i [])[j]?) := r7
                have G6 : Hid (All2 (ReS (fun _ _ => True) w) csss t.sets) := hhs
                have G7 : Hid (All2 (ReE (fun _ _ => True) w) csse t.exprs) := hhe
                clear hss hse hhs hhe r6 r7 les lee hZ1 hZ2
                rw [ec] at q5
                have qq : ∀ i v, (([.int .u8 t.k, .string (st t.c), .int .i64 t.n, .string (st t.v), .slice a6 t.sets.length c6, .slice a7 t.exprs.length c7] : List Value)[i]? = some v) → i < 6 → wr.cell? ⟨b5, o5 + (j * 6 + i), none⟩ = some v := fun i v h hi => ((bt HWA.out HB.out).cell (p := ⟨b5, o5 + (j * 6 + i), none⟩) hb5).trans (by rw [q5 i hi]; exact h)
                have f0 : wr.cell? ⟨b5, o5 + j * 6, none⟩ = some (.int .u8 t.k) := qq 0 _ rfl (by decide)
                have f1 : wr.cell? ⟨b5, o5 + j * 6 + 1, none⟩ = some (.string (st t.c)) := qq 1 _ rfl (by decide)
                have f2 : wr.cell? ⟨b5, o5 + j * 6 + 2, none⟩ = some (.int .i64 t.n) := qq 2 _ rfl (by decide)
                have f3 : wr.cell? ⟨b5, o5 + j * 6 + 3, none⟩ = some (.string (st t.v)) := qq 3 _ rfl (by decide)
                have f4 : wr.cell? ⟨b5, o5 + j * 6 + 4, none⟩ = some (.slice a6 t.sets.length c6) := qq 4 _ rfl (by decide)
                have f5 : wr.cell? ⟨b5, o5 + j * 6 + 5, none⟩ = some (.slice a7 t.exprs.length c7) := qq 5 _ rfl (by decide)
                clear q5 qq ec
                have hn6 : (t.sets.length : Int) ≤ 9223372036854775807 := by omega
                have hn7 : (t.exprs.length : Int) ≤ 9223372036854775807 := by omega
                go_wp2
                have HBB : Hid (Below wA.heap.size wA (wr.alloc (.cells #[.int .u8 t.k, .string (st t.c), .int .i64 t.n, .string (st t.v), .slice a6 t.sets.length c6, .slice a7 t.exprs.length c7] 70))) := bt HB.out (bxn _ _)
                have HOB : Hid (OwnS (wr.alloc (.cells #[.int .u8 t.k, .string (st t.c), .int .i64 t.n, .string (st t.v), .slice a6 t.sets.length c6, .slice a7 t.exprs.length c7] 70)) wA.heap.size u5 Z) := HO.out.below (bxn _ _)
                have HX5 : Hid (∀ W, Below (wr.alloc (.cells #[.int .u8 t.k, .string (st t.c), .int .i64 t.n, .string (st t.v), .slice a6 t.sets.length c6, .slice a7 t.exprs.length c7] 70)).heap.size (wr.alloc (.cells #[.int .u8 t.k, .string (st t.c), .int .i64 t.n, .string (st t.v), .slice a6 t.sets.length c6, .slice a7 t.exprs.length c7] 70)) W → W.cell? ⟨wr.heap.size, 0, none⟩ = some (.int .u8 t.k) ∧ W.cell? ⟨wr.heap.size, 3, none⟩ = some (.string (st t.v)) ∧ W.cell? ⟨wr.heap.size, 4, none⟩ = some (.slice a6 t.sets.length c6) ∧ W.cell? ⟨wr.heap.size, 5, none⟩ = some (.slice a7 t.exprs.length c7)) := fun W hW =>
                  ⟨by rw [hW.cell (p := ⟨wr.heap.size, 0, none⟩) (by simp)]; simp, by rw [hW.cell (p := ⟨wr.heap.size, 3, none⟩) (by simp)]; simp, by rw [hW.cell (p := ⟨wr.heap.size, 4, none⟩) (by simp)]; simp, by rw [hW.cell (p := ⟨wr.heap.size, 5, none⟩) (by simp)]; simp⟩
                generalize wr.alloc (.cells #[.int .u8 t.k, .string (st t.c), .int .i64 t.n, .string (st t.v), .slice a6 t.sets.length c6, .slice a7 t.exprs.length c7] 70) = wB at *
                obtain ⟨rs, hrs⟩ : ∃ rs, rs = wr.heap.size := ⟨_, rfl⟩
                rw [← hrs] at HX5 ⊢
                clear hrs f0 f1 f2 f3 f4 f5 y1 y2 HB HO
                have hBs := HBB.out.size
                go_loopw [12] (fun v12 wr => ∃ n : Nat, v12 = .int .i64 n ∧ n ≤ t.sets.length ∧ Hid (Below wB.heap.size wB wr)) (fun v12 _ => (t.sets.length - intOf v12).toNat)
                case atStart => exact ⟨0, rfl, Nat.zero_le _, Below.refl _ _⟩
                case round =>
                  obtain ⟨n, rfl, hn, HB⟩ := hrel
                  obtain ⟨y0, y3, y4, y5⟩ := HX5.out _ HB.out
                  by_cases hnt : n < t.sets.length
                  · have hnz : (n : Int) < t.sets.length := by omega
                    obtain ⟨b6, o6, rfl, hb6, q6⟩ := R6.out n hnt
                    have e6 := G6.out.at n [] s00 hnt
                    have hz0 := HZ1.out _ (getD_mem' t.sets n s00 hnt)
                    generalize t.sets.getD n s00 = s at e6 hz0
                    obtain ⟨ue, ec, hsi⟩ := e6
                    rw [ec] at q6
                    have g1 : wr.cell? ⟨b6, o6 + n * 2 + 1, none⟩ = some ue := ((bt HWA.out (bt HBB.out HB.out)).cell (p := ⟨b6, o6 + n * 2 + 1, none⟩) hb6).trans (q6 1 (by decide))
                    have CT := told_any _ _ s.e Z wr (hsi.bl (bt HWA.out (bt HBB.out HB.out))) (sl_own (HOB.out.below HB.out))
                    rw [hz0, decide_eq_true rfl] at CT
                    obtain ⟨au, cu, rfl⟩ := hsi.shape
                    simp only [List.length_map] at g1 CT
                    clear q6 ec hsi hz0
                    go_wp2_with (go_at_call 25; refine CT.mono ?_; rintro e w6 ⟨rfl, hb⟩; have B6 : Hid (Below wB.heap.size wB w6) := bt HB.out hb; clear CT hb)
                    go_roundw
                    case rel => exact ⟨n + 1, by simp, by omega, B6.out⟩
                    case measure => simp [intOf]; omega
                  · have hnz : ¬ (n : Int) < t.sets.length := by omega
                    have HB6 : Hid (Below wB.heap.size wB wr) := HB.out
                    go_wp2
                    go_loopw [13] (fun v13 wr => ∃ n : Nat, v13 = .int .i64 n ∧ n ≤ t.exprs.length ∧ Hid (Below wB.heap.size wB wr)) (fun v13 _ => (t.exprs.length - intOf v13).toNat)
                    case atStart => exact ⟨0, rfl, Nat.zero_le _, HB6.out⟩
                    case round =>
                      clear HB HB6 y0 y3 y4 y5
                      obtain ⟨n, rfl, hn, HB⟩ := hrel
                      obtain ⟨y0, y3, y4, y5⟩ := HX5.out _ HB.out
                      by_cases hnt : n < t.exprs.length
                      · have hnz : (n : Int) < t.exprs.length := by omega
                        obtain ⟨b7, o7, rfl, hb7, q7⟩ := R7.out n hnt
                        have e7 := G7.out.at n [] [] hnt
                        have hz0 := HZ2.out _ (getD_mem' t.exprs n [] hnt)
                        generalize t.exprs.getD n [] = s at e7 hz0
                        obtain ⟨ue, ec, hsi⟩ := e7
                        rw [ec] at q7
                        have g1 : wr.cell? ⟨b7, o7 + n, none⟩ = some ue := ((bt HWA.out (bt HBB.out HB.out)).cell (p := ⟨b7, o7 + n, none⟩) hb7).trans (by have := q7 0 (by decide); rwa [Nat.mul_one, Nat.add_zero] at this)
                        have CT := told_any _ _ s Z wr (hsi.bl (bt HWA.out (bt HBB.out HB.out))) (sl_own (HOB.out.below HB.out))
                        rw [hz0, decide_eq_true rfl] at CT
                        obtain ⟨au, cu, rfl⟩ := hsi.shape
                        simp only [List.length_map] at g1 CT
                        clear q7 ec hsi hz0
                        go_wp2_with (go_at_call 25; refine CT.mono ?_; rintro e w6 ⟨rfl, hb⟩; have B6 : Hid (Below wB.heap.size wB w6) := bt HB.out hb; clear CT hb)
                        go_roundw
                        case rel => exact ⟨n + 1, by simp, by omega, B6.out⟩
                        case measure => simp [intOf]; omega
                      · have hnz : ¬ (n : Int) < t.exprs.length := by omega
                        have HOC : Hid (OwnS wr wA.heap.size u5 Z) := HOB.out.below HB.out
                        have HBC : Hid (Below wA.heap.size wA wr) := bt HBB.out HB.out
                        have hBs2 := HB.out.size
                        by_cases hk3 : t.k = 3
                        · rw [hk3] at y0
                          have HN2 : Hid (zc ++ (x.acts.take (j + 1)).flatMap bnm = Z ++ [t.v]) := by show _ = _; rw [HNX.out, show bnm t = [t.v] from if_pos hk3]
                          clear hk3
                          go_wp2_with (at_builtin; refine wp_app_ss rfl _ _ rfl wA.heap.size _ Z [t.v] rfl (HOC.out.below (bxn _ _)) _ rfl (one_s _ _) (by simp; omega) (by simp; omega) ?_; intro v5 w5 o5 g5 b5)
                          have HB5 : Hid (Below wA.heap.size wA w5) := HBC.out.trans (((bxn _ _).mono (by omega)).trans b5)
                          go_roundw
                          case rel => exact ⟨j + 1, by simp, by omega, HB5.out, by rw [HN2.out]; exact o5⟩
                          case measure => simp [intOf]; omega
                        · have HN2 : Hid (zc ++ (x.acts.take (j + 1)).flatMap bnm = Z) := by show _ = _; rw [HNX.out, show bnm t = [] from if_neg hk3, List.append_nil]
                          go_wp2
                          go_roundw
                          case rel => exact ⟨j + 1, by simp, by omega, HBC.out, by rw [HN2.out]; exact HOC.out⟩
                          case measure => simp [intOf]; omega
              · have hjz : ¬ (j : Int) < x.acts.length := by omega
                have HBZ : Hid (Below w3.heap.size w3 wr) := bt BA.out HB.out
                go_wp2
                go_roundw
                case rel => exact ⟨i + 1, by simp, by omega, HBZ.out⟩
                case measure => simp [intOf]; omega
      · have hiz : ¬ (i : Int) < p.rs.length := by omega
        go_wp2_with (go_at_call 9; refine (HA.out _ HW.out).mono ?_; rintro e w4 ⟨rfl, hb4⟩; have B4 : Hid (Below w.heap.size w w4) := bt HW.out hb4)
        go_ret
        exact ⟨rfl, B4.out⟩
  · generalize progE p = pe at C12 hp
    clear R2 G2
    go_enter Try.func6, Try.ntmps6
    go_wp2_with (first
      | (go_at_call 8; refine (C8.out _ (bxn _ _)).mono ?_; rintro e w2 ⟨bb, rfl, hLL, hb2⟩; have HLL : Hid (bb = true → progL p) := hLL; have B2 : Hid (Below w.heap.size w w2) := bt (bxn _ _) hb2
         have k0 : w2.cell? ⟨w.heap.size, 0, none⟩ = some (.slice a1 p.cs.length c1) := (hb2.cell (p := ⟨w.heap.size, 0, none⟩) (by simp)).trans (by go_simp)
         have k1 : w2.cell? ⟨w.heap.size, 1, none⟩ = some (.slice a2 p.rs.length c2) := (hb2.cell (p := ⟨w.heap.size, 1, none⟩) (by simp)).trans (by go_simp)
         clear C8 hb2 hLL)
      | (go_at_call 12; refine (C12.out (HLL.out (by first | assumption | rfl | simp_all)) _ B2.out).mono ?_; rintro e w3 ⟨rfl, hb3⟩; have B3 : Hid (Below w.heap.size w w3) := bt B2.out hb3; clear hb3)
      | (go_at_call 9; refine (HA.out _ (by first | exact B3.out | exact B2.out)).mono ?_; rintro e w4 ⟨rfl, hb4⟩; have B4 : Hid (Below w.heap.size w w4) := (by first | exact bt B3.out hb4 | exact bt B2.out hb4)))
    all_goals (go_ret; exact ⟨rfl, B4.out⟩)
theorem walk (cs0 : List Value) (x0 : ProgD) (w : World) (w0 : ReP (fun _ _ => True) w cs0 x0 ∧ x0.Ok) : Calls Try.prog 6 #[.agg cs0.toArray] w fun e w' => e = .returned (.bool true) ∧ Below w.heap.size w w' := by
  obtain ⟨w0, ok0⟩ := w0
  obtain ⟨v1, v2, rfl, h1, h2⟩ := w0
  have h1' := h1
  have h2' := h2
  obtain ⟨css1, hs1, hh1⟩ := h1'
  obtain ⟨a1, c1, rfl⟩ := hs1.shape
  obtain ⟨css2, hs2, hh2⟩ := h2'
  obtain ⟨a2, c2, rfl⟩ := hs2.shape
  rw [hh1.len] at h1 ⊢
  rw [hh2.len] at h2 ⊢
  exact core a1 a2 c1 c2 x0 w h1 h2 (fun r hr a ha => ((ok0.2 r hr).2.2 a ha).2.2.1)
set_option maxRecDepth 100000 in
theorem lifted (os : Os) (started : os.Started) (H : Type) (enc : TypeId × Value → H) :
    ReturnsInHanded {} Try.checked os 6 .any (Rows.checkBindsSpec.pre6 enc Try.prog Try.f6 Rows.checkBindsRow.domain false) (Rows.checkBindsSpec.post enc Try.prog Try.f6 false true false false) := by
  refine returnsInHanded_of_change (C := Try.checked) own started (by kernel_rfl) Try.func6
    (ChangeSpec.witness6 (enc := enc) (C := Try.checked) false ⟨#[], #[.agg #[.slice none 0 0, .slice none 0 0]], []⟩ 8 (by kernel_rfl) (by kernel_rfl) (by kernel_rfl) (by kernel_rfl)) ?_
  intro W base args ds gs before hval0 hW hcnd _
  have hval : ∀ (j : Nat) t v, Try.f6.params[j]? = some t → args[j]? = some v → Value.okWide Try.prog W .any base t v := hval0
  have hW' := hW
  obtain ⟨p, q, hA0, hV, rfl, hfz, hnd⟩ := hW
  have hA : DataW.TrodAll enc Try.prog W 0 (fun _ => true) true Try.f6.params.toList args.toList ds p := hA0
  rw [Try.params6] at hA hval
  obtain ⟨v0, vs0, d'0, ds0, q0, r'0, hargs, rfl, rfl, h0, r0⟩ := trodAll_cons hA
  obtain ⟨rfl, rfl, rfl⟩ := trodAll_nil r0
  obtain rfl : args = #[v0] := by cases args; simp_all
  obtain ⟨rfl, rfl⟩ := trodVars_none hV
  have k0' := h0
  have lt0 : ∀ x ∈ q0, x.block < W.heap.size := by obtain ⟨m, hm⟩ := k0'; exact DataW.trod_lt m _ _ _ hm
  obtain ⟨cs0, x0, rfl, w0⟩ := arg_prog (hval 0 25 v0 rfl rfl) h0
  clear hA0 hval0
  refine (walk cs0 x0 W w0).mono fun e W' ⟨he, bel⟩ => ?_
  subst he
  exact ⟨_, rfl, _, _, _, [], _, [], hW', trodAll_mk1 (shut_bool Try.underlying4 _), (trodAll_cons_mk (Below.trod laidOut (by kernel_rfl) (of_decide_eq_true (by kernel_rfl)) k0' bel lt0) trodAll_mk0), rfl, bel.frame _, fun h => by cases h⟩

theorem over : Rows.checkBindsRow.holds Try.pinned (OpenSpec.ofChange Rows.checkBindsSpec) :=
  OpenClaim.holds_of_wide 6 Try.f6 rfl rfl rfl rfl rfl rfl rfl ⟨rfl, rfl, rfl, rfl, rfl⟩ rfl rfl rfl rfl rfl (by kernel_rfl) Try.func6 (by kernel_rfl)
    (of_decide_eq_true (by kernel_rfl)) (by unfold Func.isWrapper; first | (rw [if_pos (by decide +kernel)]; kernel_rfl) | (rw [if_neg (by decide +kernel)]; exact ⟨rfl, rfl⟩))
    (fun os started H enc _ => lifted os started H enc)
end Go.Proofs.Ytakibdkmgjpbhaa.checkBinds

namespace Go.Proofs.Ytakibdkmgjpbhaa
theorem checkBinds_holds : Rows.CheckBindsSaid := checkBinds.over
#print axioms checkBinds_holds
end Go.Proofs.Ytakibdkmgjpbhaa
