import Derived.Test.YtemacdimdpnkeaaDoorP17
import Derived.Test.YtemacdimdpnkeaaDoorP9
import Derived.Test.YtemacdimdpnkeaaDoorP18
import Derived.Test.YtemacdimdpnkeaaDoorP2
namespace Go.Proofs.YtemacdimdpnkeaaDoor
open Go.RowKit
set_option linter.unusedVariables false
set_option linter.unusedSimpArgs false
set_option maxRecDepth 20000
theorem spJ_len {m : Nat} : ∀ {l : List Str}, (∀ s ∈ l, s.length ≤ m) → (spJ l).length ≤ l.length * (m + 1)
  | [], _ => by simp [spJ_nil]
  | x :: l, h => by
    have h1 := spJ_len (l := l) fun s hs => h s (List.mem_cons_of_mem _ hs)
    have h2 := h x (List.mem_cons_self ..)
    rw [spJ_cons, List.cons_append, List.length_cons, List.length_append, List.length_cons, Nat.add_mul]
    omega
theorem spJ_map {α : Type} {m n : Nat} {f : α → Str} {l : List α} (hl : l.length ≤ n) (h : ∀ x ∈ l, (f x).length ≤ m) : (spJ (l.map f)).length ≤ n * (m + 1) := by
  have h1 := spJ_len (m := m) (l := l.map f) fun s hs => by
    obtain ⟨x, hx, rfl⟩ := List.mem_map.1 hs
    exact h x hx
  rw [List.length_map] at h1
  exact Nat.le_trans h1 (Nat.mul_le_mul_right _ hl)
theorem flat_map {α : Type} {m n : Nat} {f : α → Str} : ∀ {l : List α}, l.length ≤ n → (∀ x ∈ l, (f x).length ≤ m) → ((l.map f).flatten).length ≤ n * m
  | [], _, _ => by simp
  | x :: l, hl, h => by
    have h1 := flat_map (l := l) (n := n - 1) (by simp at hl; omega) fun y hy => h y (List.mem_cons_of_mem _ hy)
    have h2 := h x (List.mem_cons_self ..)
    have h3 : n = (n - 1) + 1 := by simp at hl; omega
    rw [List.map_cons, List.flatten_cons, List.length_append, h3, Nat.add_mul]
    omega
theorem svd_len (x : VD) (h : x.s.length ≤ 60) : (svd x).length ≤ 60 := by
  unfold svd txtS
  split
  · simp [nilS]
  · rename_i h0
    split
    · have hc : chkE x.k x.n (st x.s).data.toList = 0 := by simpa using h0
      obtain ⟨-, h1, h2, -⟩ := chk0 hc
      have := (itoa_len x.n h1 h2).2
      show ((⟨(Lib.itoa x.n).toArray⟩ : ByteArray).data.toList).length ≤ 60
      rw [show (⟨(Lib.itoa x.n).toArray⟩ : ByteArray).data.toList = Lib.itoa x.n by simp]
      omega
    · split
      · rw [st_list]; exact h
      · simp [nilS]
theorem sgnL_len (p : Int) : (sgnL p).length ≤ 2 := by unfold sgnL; (repeat' split) <;> simp
theorem single_len {x : TestD} (h : testL x) : (shSingle svd x).length ≤ 70 := by
  have h1 := svd_len x.x h.2
  have h2 := sgnL_len x.p
  have h3 := h.1
  unfold shSingle
  rw [List.length_append]
  have a1 : (if x.p ≠ 0 then sgnL x.p ++ [32] else []).length ≤ 3 := by
    split
    · simp only [List.length_append, List.length_cons, List.length_nil]; omega
    · simp
  have a2 : (if x.v ≠ [] then 60 :: (x.v ++ [62]) else svd x.x).length ≤ 62 := by
    split
    · simp only [List.length_append, List.length_cons, List.length_nil]; omega
    · omega
  omega
theorem test_len {a : AttrD} (h : attrL a) : (shTest svd a).length ≤ 2000 := by
  obtain ⟨h1, h2, h3, h4, h5⟩ := h
  have a1 := spJ_map (f := svd) (m := 60) h2 fun x hx => svd_len x (h4 x hx)
  have a2 := spJ_map (f := shSingle svd) (m := 70) h3 fun x hx => single_len (h5 x hx)
  unfold shTest
  rw [List.cons_append, List.length_cons, List.length_append]
  have a3 : (if a.ones ≠ [] then [32, 60, 60] ++ spJ (a.ones.map svd) ++ [32, 62, 62] else if a.tests.length = 1 then spJ (a.tests.map (shSingle svd)) else [32, 123] ++ spJ (a.tests.map (shSingle svd)) ++ [32, 125]).length ≤ 1500 := by
    split
    · simp only [List.length_append, List.length_cons, List.length_nil]; omega
    · split
      · omega
      · simp only [List.length_append, List.length_cons, List.length_nil]; omega
  omega
theorem cond_len {c : CondD} (h : condL c) : (shCond svd c).length ≤ 30000 := by
  obtain ⟨h1, h2, h3⟩ := h
  have a1 := spJ_map (f := shTest svd) (m := 2000) h2 fun x hx => test_len (h3 x hx)
  unfold shCond
  have a2 : (if c.neg = true then [45, 40] else [40] : Str).length ≤ 2 := by split <;> simp
  simp only [List.length_append, List.length_cons, List.length_nil]
  omega
def totS (P : List Str) : Nat := (P.map List.length).sum
theorem totS_app (P Q : List Str) : totS (P ++ Q) = totS P + totS Q := by simp [totS]
theorem totS_one (x : Str) : totS [x] = x.length := by simp [totS]
theorem sgS_len (k : Int) : (sgS k).length ≤ 1 := by unfold sgS; (repeat' split) <;> simp
theorem pile_len : ∀ (l : List ItemD) (P Q : List Str), (∀ x ∈ l, itemL x) → shPile svd P l = some Q → totS Q ≤ totS P + 70 * l.length
  | [], P, Q, _, h => by cases h; simp
  | it :: l, P, Q, hl, h => by
    have hi := hl it (List.mem_cons_self ..)
    have hr : ∀ x ∈ l, itemL x := fun x hx => hl x (List.mem_cons_of_mem _ hx)
    unfold shPile at h
    rw [List.length_cons]
    split at h
    · have := pile_len l _ Q hr h
      rw [totS_app, totS_one] at this
      have := svd_len it.x hi.2
      omega
    · split at h
      · have := pile_len l _ Q hr h
        rw [totS_app, totS_one] at this
        have := hi.1
        simp only [List.length_cons, List.length_append, List.length_nil] at *
        omega
      · split at h
        · cases h
        · rename_i _ _ h2
          have h3 := pile_len l _ Q hr h
          rw [totS_app, totS_one] at h3
          have h2' : ¬ P.length < 2 := fun e => h2 (.inr e)
          obtain ⟨P0, a, b, rfl⟩ := last_two P h2'
          have e1 : (P0 ++ [b, a]).getD ((P0 ++ [b, a]).length - 2) [] = b := by simp
          have e2 : (P0 ++ [b, a]).getD ((P0 ++ [b, a]).length - 1) [] = a := by simp
          have e3 : (P0 ++ [b, a]).take ((P0 ++ [b, a]).length - 2) = P0 := by
            rw [List.take_append_of_le_length (by simp), List.take_of_length_le (by simp)]
          rw [e1, e2, e3] at h3
          rw [totS_app, show [b, a] = [b] ++ [a] from rfl, totS_app, totS_one, totS_one]
          have := sgS_len it.k
          simp only [List.length_cons, List.length_append, List.length_nil] at h3
          omega
theorem expr_len {l : List ItemD} (h : itemsL l) : (shE svd l).length ≤ 2800 := by
  unfold shE
  cases hx : shExpr svd l with
  | none => simp
  | some s =>
    unfold shExpr at hx
    split at hx
    · rename_i x hp
      cases hx
      have := pile_len l [] _ h.2 hp
      rw [totS_one] at this
      have h1 := h.1
      show s.length ≤ 2800
      simp [totS] at this
      omega
    · cases hx
theorem set_len {x : SetD} (h : setL x) : (shSet svd x).length ≤ 3000 := by
  have h1 := expr_len h.2
  have h2 := h.1
  unfold shSet
  simp only [List.length_append, List.length_cons, List.length_nil]
  omega
theorem act_len {a : ActD} (h : actL a) (h0 : -1099511627776 ≤ a.n) (h1 : a.n ≤ 1099511627776) : (shAct svd a).length ≤ 80000 := by
  obtain ⟨b1, b2, b3, b4, b5, b6⟩ := h
  have a1 := spJ_map (f := shSet svd) (m := 3000) b3 fun x hx => set_len (b5 x hx)
  have a2 := spJ_map (f := shE svd) (m := 2800) b4 fun x hx => expr_len (b6 x hx)
  have a3 := (itoa_len a.n h0 h1).2
  have a4 : (Lib.itoa a.n).length ≤ 22 := a3
  unfold shAct
  simp only [sMake, sModify, sRemove, sBind, sWrite, sHalt]
  (repeat' split) <;> simp only [List.length_append, List.length_cons, List.length_nil] <;> omega
theorem rule_len {r : RuleD} (h : ruleL r) (hn : ∀ a ∈ r.acts, -1099511627776 ≤ a.n ∧ a.n ≤ 1099511627776) : (shRule svd r).length ≤ 2000000 := by
  obtain ⟨b1, b2, b3, b4, b5⟩ := h
  have a1 := spJ_map (f := shCond svd) (m := 30000) b2 fun x hx => cond_len (b4 x hx)
  have a2 := spJ_map (f := shAct svd) (m := 80000) b3 fun x hx => act_len (b5 x hx) (hn x hx).1 (hn x hx).2
  unfold shRule
  simp only [sP, List.length_append, List.length_cons, List.length_nil]
  omega
theorem class_len {c : ClassD} (h : classL c) : (shClass c).length ≤ 2000 := by
  obtain ⟨b1, b2, b3⟩ := h
  have a1 := spJ_map (f := fun s : Str => s) (m := 60) b2 fun x hx => b3 x hx
  rw [List.map_id'] at a1
  unfold shClass
  simp only [sLit, List.length_append, List.length_cons, List.length_nil]
  omega
def actsN (p : ProgD) : Prop := ∀ r ∈ p.rs, ∀ a ∈ r.acts, -1099511627776 ≤ a.n ∧ a.n ≤ 1099511627776
theorem text_len {p : ProgD} (h : progL p) (hn : actsN p) : (shText svd p).length ≤ 20000000 := by
  obtain ⟨b1, b2, b3, b4⟩ := h
  have a1 := flat_map (f := fun c => shClass c ++ [10]) (m := 2001) b1 fun x hx => by
    have := class_len (b3 x hx)
    simp only [List.length_append, List.length_cons, List.length_nil]; omega
  have a2 := flat_map (f := fun r => shRule svd r ++ [10]) (m := 2000001) b2 fun x hx => by
    have := rule_len (b4 x hx) (hn x hx)
    simp only [List.length_append, List.length_cons, List.length_nil]; omega
  unfold shText
  rw [List.length_append]
  omega
theorem fV_of {x : VD} (h : x.Ok) (hl : x.s.length ≤ 60) : fV x := ⟨h.1.1, h.1.2, by omega⟩
theorem gE_of {l : List ItemD} (h : ∀ x ∈ l, x.Ok) (hl : itemsL l) : gE l := ⟨fun x hx => fV_of (h x hx).2.1 (hl.2 x hx).2, by have := hl.1; omega⟩
theorem fA_of {a : AttrD} (h : a.Ok) (hl : testsL a) : fA a := ⟨fun x hx => fV_of (h.2.1 x hx) (hl.1 x hx), fun x hx => fV_of (h.2.2 x hx).2.2 (hl.2 x hx).2⟩
theorem fC_of {c : CondD} (h : c.Ok) (hl : condL c) : fC c := fun x hx => fA_of (h.2 x hx) (hl.2.2 x hx).2.2.2
theorem gAct_of {a : ActD} (h : a.Ok) (hl : actL a) (hn : -1099511627776 ≤ a.n ∧ a.n ≤ 1099511627776) : gAct a :=
  ⟨hn.1, hn.2, fun x hx => gE_of (h.2.2.2.2.1 x hx).2 (hl.2.2.2.2.1 x hx).2, fun x hx => gE_of (h.2.2.2.2.2 x hx) (hl.2.2.2.2.2 x hx)⟩
theorem gR_of {r : RuleD} (h : r.Ok) (hl : ruleL r) (hn : ∀ a ∈ r.acts, -1099511627776 ≤ a.n ∧ a.n ≤ 1099511627776) : gR r :=
  ⟨fun x hx => fC_of (h.2.1 x hx) (hl.2.2.2.1 x hx), fun x hx => gAct_of (h.2.2 x hx) (hl.2.2.2.2 x hx) (hn x hx)⟩
theorem gP_of {p : ProgD} (h : p.Ok) (hl : progL p) (hn : actsN p) : gP p := fun x hx => gR_of (h.2 x hx) (hl.2.2.2 x hx) (hn x hx)
end Go.Proofs.YtemacdimdpnkeaaDoor
namespace Go.Proofs.YtemacdimdpnkeaaDoor
open Go.RowKit
set_option linter.unusedVariables false
set_option linter.unusedSimpArgs false
set_option maxRecDepth 20000
def okA2 (a : ActD) : Prop := -1099511627776 ≤ a.n ∧ a.n ≤ 1099511627776
def a0D : ActD := ⟨0, [], 0, [], [], []⟩
def r0D : RuleD := ⟨[], [], []⟩
set_option maxHeartbeats 4000000 in
theorem plain_any {P : Nat → Nat → Prop} (cs : List Value) (p : ProgD) (w : World) (h : ReP P w cs p) :
    Calls Tryd.prog 10 #[.agg cs.toArray] w (SomeL (actsN p) w) := by
  obtain ⟨v1, v2, rfl, h1, ⟨css2, h2, r2⟩⟩ := h
  obtain ⟨a1, n1, c1, rfl⟩ := h1.isSl
  obtain ⟨a2, c2, rfl⟩ := h2.shape
  obtain ⟨-, l2, m2, rr2⟩ := h2.row
  have HL : Hid (css2.length = p.rs.length) := r2.len
  have R2 : Hid (∀ i, i < css2.length → ∃ b off, a2 = some ⟨b, off, none⟩ ∧ b < w.heap.size ∧ ∀ j, j < 3 → w.cell? ⟨b, off + (i * 3 + j), none⟩ = (css2.getD i [])[j]?) := rr2
  have S2 : Hid (∀ i, i < css2.length → ReR P w (css2.getD i []) (p.rs.getD i r0D)) := fun i hi => r2.at i [] _ (by have := HL.out; omega)
  have hnn : (css2.length : Int) ≤ 9223372036854775807 := by omega
  have HB0 : Hid (Below w.heap.size w (w.alloc (.cells #[.slice a1 n1 c1, .slice a2 css2.length c2] 34))) := bxn _ _
  clear rr2 h1 h2 r2
  go_enter Tryd.func10, Tryd.ntmps10
  go_wp2
  go_loopw [3] (fun v wr => ∃ i : Nat, v = .int .i64 i ∧ i ≤ css2.length ∧ wr = w.alloc (.cells #[.slice a1 n1 c1, .slice a2 css2.length c2] 34) ∧ ∀ j, j < i → ∀ a ∈ (p.rs.getD j r0D).acts, okA2 a) (fun v _ => (css2.length - intOf v).toNat)
  case atStart => exact ⟨0, rfl, Nat.zero_le _, rfl, fun j hj => by omega⟩
  case round =>
    obtain ⟨i, rfl, hi, hwr, hall⟩ := hrel
    subst hwr
    have HA : Hid (∀ j, j < i → ∀ a ∈ (p.rs.getD j r0D).acts, okA2 a) := hall
    clear hall
    by_cases hlt : i < css2.length
    · have hiz : (i : Int) < css2.length := by omega
      obtain ⟨b1, o1, rfl, hb1, q1⟩ := R2.out i hlt
      obtain ⟨va, vb, e, -, ⟨cs3, h3, r3⟩⟩ := S2.out i hlt
      obtain ⟨a3, c3, rfl⟩ := h3.shape
      obtain ⟨-, l3, m3, rr3⟩ := h3.row
      rw [e] at q1
      have p2 : w.cell? ⟨b1, o1 + i * 3 + 2, none⟩ = some (.slice a3 cs3.length c3) := by simpa [Nat.add_assoc] using q1 2 (by decide)
      have hl3 := r3.len
      obtain ⟨y, hy⟩ : ∃ y, y = (p.rs.getD i r0D).acts := ⟨_, rfl⟩
      rw [← hy] at hl3 r3
      have HY : Hid (y = (p.rs.getD i r0D).acts) := hy
      have HL3 : Hid (cs3.length = y.length) := hl3
      have R3 : Hid (∀ i, i < cs3.length → ∃ b off, a3 = some ⟨b, off, none⟩ ∧ b < w.heap.size ∧ ∀ j, j < 6 → w.cell? ⟨b, off + (i * 6 + j), none⟩ = (cs3.getD i [])[j]?) := rr3
      have S3 : Hid (∀ i, i < cs3.length → ReT P w (cs3.getD i []) (y.getD i a0D)) := fun i hi => r3.at i [] _ (by omega)
      have hnn3 : (cs3.length : Int) ≤ 9223372036854775807 := by omega
      clear q1 e h3 r3 rr3 hl3 hy
      go_wp2
      go_loopw [4] (fun v wr => ∃ k : Nat, v = .int .i64 k ∧ k ≤ cs3.length ∧ wr = w.alloc (.cells #[.slice a1 n1 c1, .slice (some ⟨b1, o1, none⟩) css2.length c2] 34) ∧ ∀ q, q < k → okA2 (y.getD q a0D)) (fun v _ => (cs3.length - intOf v).toNat)
      case atStart => exact ⟨0, rfl, Nat.zero_le _, rfl, fun j hj => by omega⟩
      case round =>
        obtain ⟨k, rfl, hk, hwr, hall⟩ := hrel
        subst hwr
        have HK : Hid (∀ q, q < k → okA2 (y.getD q a0D)) := hall
        clear hall
        by_cases hlt3 : k < cs3.length
        · have hkz : (k : Int) < cs3.length := by omega
          obtain ⟨b3, o3, rfl, hb3, q3⟩ := R3.out k hlt3
          obtain ⟨vc, vd, e3, -, -⟩ := S3.out k hlt3
          rw [e3] at q3
          obtain ⟨x, hx⟩ : ∃ x, x = (y.getD k a0D).n := ⟨_, rfl⟩
          have p3 : w.cell? ⟨b3, o3 + k * 6 + 2, none⟩ = some (.int .i64 x) := by rw [hx]; simpa [Nat.add_assoc] using q3 2 (by decide)
          have HX : Hid (x = (y.getD k a0D).n) := hx
          clear q3 e3 hx
          by_cases n0 : x < -1099511627776
          · go_wp2
            go_ret
            exact ⟨_, rfl, (fun h => by cases h), HB0.out⟩
          · by_cases n1 : 1099511627776 < x
            · go_wp2
              go_ret
              exact ⟨_, rfl, (fun h => by cases h), HB0.out⟩
            · go_wp2
              go_roundw
              case rel =>
                refine ⟨k + 1, by simp, by omega, (by first | rfl | trivial), fun q hq => ?_⟩
                by_cases hqk : q < k
                · exact HK.out q hqk
                · obtain rfl : q = k := by omega
                  have := HX.out
                  exact ⟨by omega, by omega⟩
              case measure => simp [intOf]; omega
        · have hkz : ¬ (k : Int) < cs3.length := by omega
          obtain rfl : k = cs3.length := by omega
          go_wp2
          go_roundw
          case rel =>
            refine ⟨i + 1, by simp, by omega, (by first | rfl | trivial), fun j hj a ha => ?_⟩
            by_cases hji : j < i
            · exact HA.out j hji a ha
            · obtain rfl : j = i := by omega
              rw [← HY.out] at ha
              exact all_idx a0D (fun q hq => HK.out q (by rw [HL3.out]; exact hq)) a ha
          case measure => simp [intOf]; omega
    · have hiz : ¬ (i : Int) < css2.length := by omega
      obtain rfl : i = css2.length := by omega
      go_wp2
      go_ret
      refine ⟨_, rfl, fun _ => ?_, HB0.out⟩
      exact all_idx r0D fun j hj => HA.out j (by rw [HL.out]; exact hj)
end Go.Proofs.YtemacdimdpnkeaaDoor
