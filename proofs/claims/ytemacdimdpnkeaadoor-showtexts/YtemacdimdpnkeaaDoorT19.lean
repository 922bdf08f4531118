import Derived.Test.YtemacdimdpnkeaaDoorT17
import Derived.Test.YtemacdimdpnkeaaDoorT9
import Derived.Test.YtemacdimdpnkeaaDoorT18
import Derived.Test.YtemacdimdpnkeaaDoorT2
import Derived.Deep.AppendLies
import Derived.Deep.RegionHeld3
import Derived.Deep.QuietTactic
import Derived.BigQuiet
namespace Go.Proofs.YtemacdimdpnkeaaDoor
open Go.RowKit
set_option linter.unusedVariables false
set_option linter.unusedSimpArgs false
set_option maxRecDepth 20000
theorem spJ_len {m : Nat} : ∀ {l : List Str}, (∀ s ∈ l, s.length ≤ m) → (spJ l).length ≤ l.length * (m + 1)
  | [], _ => by simp [spJ_nil]
  | x :: l, h => by
    have h1 := spJ_len (l := l) fun s hs => h s (List.mem_cons_of_mem _ hs)
    have h2 := h x (List.mem_cons_self ..)
    rw [spJ_cons, List.cons_append, List.length_cons, List.length_append, List.length_cons, Nat.add_mul]
    omega
theorem spJ_map {α : Type} {m n : Nat} {f : α → Str} {l : List α} (hl : l.length ≤ n) (h : ∀ x ∈ l, (f x).length ≤ m) : (spJ (l.map f)).length ≤ n * (m + 1) := by
  have h1 := spJ_len (m := m) (l := l.map f) fun s hs => by
    obtain ⟨x, hx, rfl⟩ := List.mem_map.1 hs
    exact h x hx
  rw [List.length_map] at h1
  exact Nat.le_trans h1 (Nat.mul_le_mul_right _ hl)
theorem flat_map {α : Type} {m n : Nat} {f : α → Str} : ∀ {l : List α}, l.length ≤ n → (∀ x ∈ l, (f x).length ≤ m) → ((l.map f).flatten).length ≤ n * m
  | [], _, _ => by simp
  | x :: l, hl, h => by
    have h1 := flat_map (l := l) (n := n - 1) (by simp at hl; omega) fun y hy => h y (List.mem_cons_of_mem _ hy)
    have h2 := h x (List.mem_cons_self ..)
    have h3 : n = (n - 1) + 1 := by simp at hl; omega
    rw [List.map_cons, List.flatten_cons, List.length_append, h3, Nat.add_mul]
    omega
theorem svd_len (x : VD) (h : x.s.length ≤ 60) : (svd x).length ≤ 60 := by
  unfold svd txtS
  split
  · simp [nilS]
  · rename_i h0
    split
    · have hc : chkE x.k x.n (st x.s).data.toList = 0 := by simpa using h0
      obtain ⟨-, h1, h2, -⟩ := chk0 hc
      have := (itoa_len x.n h1 h2).2
      show ((⟨(Lib.itoa x.n).toArray⟩ : ByteArray).data.toList).length ≤ 60
      rw [show (⟨(Lib.itoa x.n).toArray⟩ : ByteArray).data.toList = Lib.itoa x.n by simp]
      omega
    · split
      · rw [st_list]; exact h
      · simp [nilS]
theorem sgnL_len (p : Int) : (sgnL p).length ≤ 2 := by unfold sgnL; (repeat' split) <;> simp
theorem single_len {x : TestD} (h : testL x) : (shSingle svd x).length ≤ 70 := by
  have h1 := svd_len x.x h.2
  have h2 := sgnL_len x.p
  have h3 := h.1
  unfold shSingle
  rw [List.length_append]
  have a1 : (if x.p ≠ 0 then sgnL x.p ++ [32] else []).length ≤ 3 := by
    split
    · simp only [List.length_append, List.length_cons, List.length_nil]; omega
    · simp
  have a2 : (if x.v ≠ [] then 60 :: (x.v ++ [62]) else svd x.x).length ≤ 62 := by
    split
    · simp only [List.length_append, List.length_cons, List.length_nil]; omega
    · omega
  omega
theorem test_len {a : AttrD} (h : attrL a) : (shTest svd a).length ≤ 2000 := by
  obtain ⟨h1, h2, h3, h4, h5⟩ := h
  have a1 := spJ_map (f := svd) (m := 60) h2 fun x hx => svd_len x (h4 x hx)
  have a2 := spJ_map (f := shSingle svd) (m := 70) h3 fun x hx => single_len (h5 x hx)
  unfold shTest
  rw [List.cons_append, List.length_cons, List.length_append]
  have a3 : (if a.ones ≠ [] then [32, 60, 60] ++ spJ (a.ones.map svd) ++ [32, 62, 62] else if a.tests.length = 1 then spJ (a.tests.map (shSingle svd)) else [32, 123] ++ spJ (a.tests.map (shSingle svd)) ++ [32, 125]).length ≤ 1500 := by
    split
    · simp only [List.length_append, List.length_cons, List.length_nil]; omega
    · split
      · omega
      · simp only [List.length_append, List.length_cons, List.length_nil]; omega
  omega
theorem cond_len {c : CondD} (h : condL c) : (shCond svd c).length ≤ 30000 := by
  obtain ⟨h1, h2, h3⟩ := h
  have a1 := spJ_map (f := shTest svd) (m := 2000) h2 fun x hx => test_len (h3 x hx)
  unfold shCond
  have a2 : (if c.neg = true then [45, 40] else [40] : Str).length ≤ 2 := by split <;> simp
  simp only [List.length_append, List.length_cons, List.length_nil]
  omega
def totS (P : List Str) : Nat := (P.map List.length).sum
theorem totS_app (P Q : List Str) : totS (P ++ Q) = totS P + totS Q := by simp [totS]
theorem totS_one (x : Str) : totS [x] = x.length := by simp [totS]
theorem sgS_len (k : Int) : (sgS k).length ≤ 1 := by unfold sgS; (repeat' split) <;> simp
theorem pile_len : ∀ (l : List ItemD) (P Q : List Str), (∀ x ∈ l, itemL x) → shPile svd P l = some Q → totS Q ≤ totS P + 70 * l.length
  | [], P, Q, _, h => by cases h; simp
  | it :: l, P, Q, hl, h => by
    have hi := hl it (List.mem_cons_self ..)
    have hr : ∀ x ∈ l, itemL x := fun x hx => hl x (List.mem_cons_of_mem _ hx)
    unfold shPile at h
    rw [List.length_cons]
    split at h
    · have := pile_len l _ Q hr h
      rw [totS_app, totS_one] at this
      have := svd_len it.x hi.2
      omega
    · split at h
      · have := pile_len l _ Q hr h
        rw [totS_app, totS_one] at this
        have := hi.1
        simp only [List.length_cons, List.length_append, List.length_nil] at *
        omega
      · split at h
        · cases h
        · rename_i _ _ h2
          have h3 := pile_len l _ Q hr h
          rw [totS_app, totS_one] at h3
          have h2' : ¬ P.length < 2 := fun e => h2 (.inr e)
          obtain ⟨P0, a, b, rfl⟩ := last_two P h2'
          have e1 : (P0 ++ [b, a]).getD ((P0 ++ [b, a]).length - 2) [] = b := by simp
          have e2 : (P0 ++ [b, a]).getD ((P0 ++ [b, a]).length - 1) [] = a := by simp
          have e3 : (P0 ++ [b, a]).take ((P0 ++ [b, a]).length - 2) = P0 := by
            rw [List.take_append_of_le_length (by simp), List.take_of_length_le (by simp)]
          rw [e1, e2, e3] at h3
          rw [totS_app, show [b, a] = [b] ++ [a] from rfl, totS_app, totS_one, totS_one]
          have := sgS_len it.k
          simp only [List.length_cons, List.length_append, List.length_nil] at h3
          omega
theorem expr_len {l : List ItemD} (h : itemsL l) : (shE svd l).length ≤ 2800 := by
  unfold shE
  cases hx : shExpr svd l with
  | none => simp
  | some s =>
    unfold shExpr at hx
    split at hx
    · rename_i x hp
      cases hx
      have := pile_len l [] _ h.2 hp
      rw [totS_one] at this
      have h1 := h.1
      show s.length ≤ 2800
      simp [totS] at this
      omega
    · cases hx
theorem set_len {x : SetD} (h : setL x) : (shSet svd x).length ≤ 3000 := by
  have h1 := expr_len h.2
  have h2 := h.1
  unfold shSet
  simp only [List.length_append, List.length_cons, List.length_nil]
  omega
theorem act_len {a : ActD} (h : actL a) (h0 : -1099511627776 ≤ a.n) (h1 : a.n ≤ 1099511627776) : (shAct svd a).length ≤ 80000 := by
  obtain ⟨b1, b2, b3, b4, b5, b6⟩ := h
  have a1 := spJ_map (f := shSet svd) (m := 3000) b3 fun x hx => set_len (b5 x hx)
  have a2 := spJ_map (f := shE svd) (m := 2800) b4 fun x hx => expr_len (b6 x hx)
  have a3 := (itoa_len a.n h0 h1).2
  have a4 : (Lib.itoa a.n).length ≤ 22 := a3
  unfold shAct
  simp only [sMake, sModify, sRemove, sBind, sWrite, sHalt]
  (repeat' split) <;> simp only [List.length_append, List.length_cons, List.length_nil] <;> omega
theorem rule_len {r : RuleD} (h : ruleL r) (hn : ∀ a ∈ r.acts, -1099511627776 ≤ a.n ∧ a.n ≤ 1099511627776) : (shRule svd r).length ≤ 2000000 := by
  obtain ⟨b1, b2, b3, b4, b5⟩ := h
  have a1 := spJ_map (f := shCond svd) (m := 30000) b2 fun x hx => cond_len (b4 x hx)
  have a2 := spJ_map (f := shAct svd) (m := 80000) b3 fun x hx => act_len (b5 x hx) (hn x hx).1 (hn x hx).2
  unfold shRule
  simp only [sP, List.length_append, List.length_cons, List.length_nil]
  omega
theorem class_len {c : ClassD} (h : classL c) : (shClass c).length ≤ 2000 := by
  obtain ⟨b1, b2, b3⟩ := h
  have a1 := spJ_map (f := fun s : Str => s) (m := 60) b2 fun x hx => b3 x hx
  rw [List.map_id'] at a1
  unfold shClass
  simp only [sLit, List.length_append, List.length_cons, List.length_nil]
  omega
def actsN (p : ProgD) : Prop := ∀ r ∈ p.rs, ∀ a ∈ r.acts, -1099511627776 ≤ a.n ∧ a.n ≤ 1099511627776
theorem text_len {p : ProgD} (h : progL p) (hn : actsN p) : (shText svd p).length ≤ 20000000 := by
  obtain ⟨b1, b2, b3, b4⟩ := h
  have a1 := flat_map (f := fun c => shClass c ++ [10]) (m := 2001) b1 fun x hx => by
    have := class_len (b3 x hx)
    simp only [List.length_append, List.length_cons, List.length_nil]; omega
  have a2 := flat_map (f := fun r => shRule svd r ++ [10]) (m := 2000001) b2 fun x hx => by
    have := rule_len (b4 x hx) (hn x hx)
    simp only [List.length_append, List.length_cons, List.length_nil]; omega
  unfold shText
  rw [List.length_append]
  omega
theorem fV_of {x : VD} (h : x.Ok) (hl : x.s.length ≤ 60) : fV x := ⟨h.1.1, h.1.2, by omega⟩
theorem gE_of {l : List ItemD} (h : ∀ x ∈ l, x.Ok) (hl : itemsL l) : gE l := ⟨fun x hx => fV_of (h x hx).2.1 (hl.2 x hx).2, by have := hl.1; omega⟩
theorem fA_of {a : AttrD} (h : a.Ok) (hl : testsL a) : fA a := ⟨fun x hx => fV_of (h.2.1 x hx) (hl.1 x hx), fun x hx => fV_of (h.2.2 x hx).2.2 (hl.2 x hx).2⟩
theorem fC_of {c : CondD} (h : c.Ok) (hl : condL c) : fC c := fun x hx => fA_of (h.2 x hx) (hl.2.2 x hx).2.2.2
theorem gAct_of {a : ActD} (h : a.Ok) (hl : actL a) (hn : -1099511627776 ≤ a.n ∧ a.n ≤ 1099511627776) : gAct a :=
  ⟨hn.1, hn.2, fun x hx => gE_of (h.2.2.2.2.1 x hx).2 (hl.2.2.2.2.1 x hx).2, fun x hx => gE_of (h.2.2.2.2.2 x hx) (hl.2.2.2.2.2 x hx)⟩
theorem gR_of {r : RuleD} (h : r.Ok) (hl : ruleL r) (hn : ∀ a ∈ r.acts, -1099511627776 ≤ a.n ∧ a.n ≤ 1099511627776) : gR r :=
  ⟨fun x hx => fC_of (h.2.1 x hx) (hl.2.2.2.1 x hx), fun x hx => gAct_of (h.2.2 x hx) (hl.2.2.2.2 x hx) (hn x hx)⟩
theorem gP_of {p : ProgD} (h : p.Ok) (hl : progL p) (hn : actsN p) : gP p := fun x hx => gR_of (h.2 x hx) (hl.2.2.2 x hx) (hn x hx)
end Go.Proofs.YtemacdimdpnkeaaDoor
namespace Go.Proofs.YtemacdimdpnkeaaDoor
open Go.RowKit
set_option linter.unusedVariables false
set_option linter.unusedSimpArgs false
set_option maxRecDepth 20000
def okA2 (a : ActD) : Prop := -1099511627776 ≤ a.n ∧ a.n ≤ 1099511627776
def a0D : ActD := ⟨0, [], 0, [], [], []⟩
def r0D : RuleD := ⟨[], [], []⟩
set_option maxHeartbeats 4000000 in
theorem plain_any {P : Nat → Nat → Prop} (cs : List Value) (p : ProgD) (w : World) (h : ReP P w cs p) :
    Calls Tryd.prog 10 #[.agg cs.toArray] w (SomeL (actsN p) w) := by
  obtain ⟨v1, v2, rfl, h1, ⟨css2, h2, r2⟩⟩ := h
  obtain ⟨a1, n1, c1, rfl⟩ := h1.isSl
  obtain ⟨a2, c2, rfl⟩ := h2.shape
  obtain ⟨-, l2, m2, rr2⟩ := h2.row
  have HL : Hid (css2.length = p.rs.length) := r2.len
  have R2 : Hid (∀ i, i < css2.length → ∃ b off, a2 = some ⟨b, off, none⟩ ∧ b < w.heap.size ∧ ∀ j, j < 3 → w.cell? ⟨b, off + (i * 3 + j), none⟩ = (css2.getD i [])[j]?) := rr2
  have S2 : Hid (∀ i, i < css2.length → ReR P w (css2.getD i []) (p.rs.getD i r0D)) := fun i hi => r2.at i [] _ (by have := HL.out; omega)
  have hnn : (css2.length : Int) ≤ 9223372036854775807 := by omega
  have HB0 : Hid (Below w.heap.size w (w.alloc (.cells #[.slice a1 n1 c1, .slice a2 css2.length c2] 34))) := bxn _ _
  clear rr2 h1 h2 r2
  go_enter Tryd.func10, Tryd.ntmps10
  go_wp2
  go_loopw [3] (fun v wr => ∃ i : Nat, v = .int .i64 i ∧ i ≤ css2.length ∧ wr = w.alloc (.cells #[.slice a1 n1 c1, .slice a2 css2.length c2] 34) ∧ ∀ j, j < i → ∀ a ∈ (p.rs.getD j r0D).acts, okA2 a) (fun v _ => (css2.length - intOf v).toNat)
  case atStart => exact ⟨0, rfl, Nat.zero_le _, rfl, fun j hj => by omega⟩
  case round =>
    obtain ⟨i, rfl, hi, hwr, hall⟩ := hrel
    subst hwr
    have HA : Hid (∀ j, j < i → ∀ a ∈ (p.rs.getD j r0D).acts, okA2 a) := hall
    clear hall
    by_cases hlt : i < css2.length
    · have hiz : (i : Int) < css2.length := by omega
      obtain ⟨b1, o1, rfl, hb1, q1⟩ := R2.out i hlt
      obtain ⟨va, vb, e, -, ⟨cs3, h3, r3⟩⟩ := S2.out i hlt
      obtain ⟨a3, c3, rfl⟩ := h3.shape
      obtain ⟨-, l3, m3, rr3⟩ := h3.row
      rw [e] at q1
      have p2 : w.cell? ⟨b1, o1 + i * 3 + 2, none⟩ = some (.slice a3 cs3.length c3) := by simpa [Nat.add_assoc] using q1 2 (by decide)
      have hl3 := r3.len
      obtain ⟨y, hy⟩ : ∃ y, y = (p.rs.getD i r0D).acts := ⟨_, rfl⟩
      rw [← hy] at hl3 r3
      have HY : Hid (y = (p.rs.getD i r0D).acts) := hy
      have HL3 : Hid (cs3.length = y.length) := hl3
      have R3 : Hid (∀ i, i < cs3.length → ∃ b off, a3 = some ⟨b, off, none⟩ ∧ b < w.heap.size ∧ ∀ j, j < 6 → w.cell? ⟨b, off + (i * 6 + j), none⟩ = (cs3.getD i [])[j]?) := rr3
      have S3 : Hid (∀ i, i < cs3.length → ReT P w (cs3.getD i []) (y.getD i a0D)) := fun i hi => r3.at i [] _ (by omega)
      have hnn3 : (cs3.length : Int) ≤ 9223372036854775807 := by omega
      clear q1 e h3 r3 rr3 hl3 hy
      go_wp2
      go_loopw [4] (fun v wr => ∃ k : Nat, v = .int .i64 k ∧ k ≤ cs3.length ∧ wr = w.alloc (.cells #[.slice a1 n1 c1, .slice (some ⟨b1, o1, none⟩) css2.length c2] 34) ∧ ∀ q, q < k → okA2 (y.getD q a0D)) (fun v _ => (cs3.length - intOf v).toNat)
      case atStart => exact ⟨0, rfl, Nat.zero_le _, rfl, fun j hj => by omega⟩
      case round =>
        obtain ⟨k, rfl, hk, hwr, hall⟩ := hrel
        subst hwr
        have HK : Hid (∀ q, q < k → okA2 (y.getD q a0D)) := hall
        clear hall
        by_cases hlt3 : k < cs3.length
        · have hkz : (k : Int) < cs3.length := by omega
          obtain ⟨b3, o3, rfl, hb3, q3⟩ := R3.out k hlt3
          obtain ⟨vc, vd, e3, -, -⟩ := S3.out k hlt3
          rw [e3] at q3
          obtain ⟨x, hx⟩ : ∃ x, x = (y.getD k a0D).n := ⟨_, rfl⟩
          have p3 : w.cell? ⟨b3, o3 + k * 6 + 2, none⟩ = some (.int .i64 x) := by rw [hx]; simpa [Nat.add_assoc] using q3 2 (by decide)
          have HX : Hid (x = (y.getD k a0D).n) := hx
          clear q3 e3 hx
          by_cases n0 : x < -1099511627776
          · go_wp2
            go_ret
            exact ⟨_, rfl, (fun h => by cases h), HB0.out⟩
          · by_cases n1 : 1099511627776 < x
            · go_wp2
              go_ret
              exact ⟨_, rfl, (fun h => by cases h), HB0.out⟩
            · go_wp2
              go_roundw
              case rel =>
                refine ⟨k + 1, by simp, by omega, (by first | rfl | trivial), fun q hq => ?_⟩
                by_cases hqk : q < k
                · exact HK.out q hqk
                · obtain rfl : q = k := by omega
                  have := HX.out
                  exact ⟨by omega, by omega⟩
              case measure => simp [intOf]; omega
        · have hkz : ¬ (k : Int) < cs3.length := by omega
          obtain rfl : k = cs3.length := by omega
          go_wp2
          go_roundw
          case rel =>
            refine ⟨i + 1, by simp, by omega, (by first | rfl | trivial), fun j hj a ha => ?_⟩
            by_cases hji : j < i
            · exact HA.out j hji a ha
            · obtain rfl : j = i := by omega
              rw [← HY.out] at ha
              exact all_idx a0D (fun q hq => HK.out q (by rw [HL3.out]; exact hq)) a ha
          case measure => simp [intOf]; omega
    · have hiz : ¬ (i : Int) < css2.length := by omega
      obtain rfl : i = css2.length := by omega
      go_wp2
      go_ret
      refine ⟨_, rfl, fun _ => ?_, HB0.out⟩
      exact all_idx r0D fun j hj => HA.out j (by rw [HL.out]; exact hj)
end Go.Proofs.YtemacdimdpnkeaaDoor
namespace Go.Proofs.YtemacdimdpnkeaaDoor
open Go.RowKit
set_option linter.unusedVariables false
set_option linter.unusedSimpArgs false
set_option maxRecDepth 20000
set_option maxHeartbeats 1000000 in
theorem rsgn_any (k : Int) (w : World) : Calls Tryd.prog 24 #[.int .u8 k] w fun e w' => e = .returned (.string (st (sgS k))) ∧ w' = w := by
  by_cases h2 : k = 2
  · subst h2
    go_enter Tryd.func24, Tryd.ntmps24
    go_wp2
    go_ret
    exact ⟨rfl, rfl⟩
  · by_cases h3 : k = 3
    · subst h3
      go_enter Tryd.func24, Tryd.ntmps24
      go_wp2
      go_ret
      exact ⟨rfl, rfl⟩
    · by_cases h4 : k = 4
      · subst h4
        go_enter Tryd.func24, Tryd.ntmps24
        go_wp2
        go_ret
        exact ⟨rfl, rfl⟩
      · have HS : Hid (sgS k = []) := sgS_no (by omega)
        go_enter Tryd.func24, Tryd.ntmps24
        go_wp2
        go_ret
        exact ⟨ret_sg HS.out.symm, rfl⟩
theorem infoStr9 : (Tryd.prog.info? 9).map (fun i => (i.zero, i.size, i.bytes)) = some (some (.string ByteArray.empty), 1, 16) := by kernel_rfl
theorem st_app2 (a b : Str) : st a ++ st b = st (a ++ b) := by
  rw [← st_of (st a ++ st b)]; congr 1
abbrev strs (X : List Str) : List Value := X.map fun s => Value.string (st s)
theorem getD_strs (X : List Str) (j : Nat) (h : j < X.length) : (strs X)[j]? = some (.string (st (X.getD j []))) := by
  unfold strs
  rw [List.getElem?_map, List.getD_eq_getElem?_getD, List.getElem?_eq_getElem h]; rfl
theorem pile_c {L : List ItemD} {i : Nat} {X : List Str} (h : i < L.length) {x : ItemD} (hx : x = L.getD i i0) (hk : x.k = 0) : shPile svd X (L.drop i) = shPile svd (X ++ [svd x.x]) (L.drop (i + 1)) := by
  rw [drop_at h, ← hx, shPile, if_pos hk]
theorem pile_v {L : List ItemD} {i : Nat} {X : List Str} (h : i < L.length) {x : ItemD} (hx : x = L.getD i i0) (hk : x.k = 1) : shPile svd X (L.drop i) = shPile svd (X ++ [60 :: (x.v ++ [62])]) (L.drop (i + 1)) := by
  rw [drop_at h, ← hx, shPile, if_neg (by omega), if_pos hk]
theorem pile_no {L : List ItemD} {i : Nat} {X : List Str} (h : i < L.length) {x : ItemD} (hx : x = L.getD i i0) (h0 : ¬ x.k = 0) (h1 : ¬ x.k = 1) (hk : sgS x.k = [] ∨ X.length < 2) : shPile svd X (L.drop i) = none := by
  rw [drop_at h, ← hx, shPile, if_neg h0, if_neg h1, if_pos hk]
theorem pile_o {L : List ItemD} {i : Nat} {X : List Str} (h : i < L.length) {x : ItemD} (hx : x = L.getD i i0) (h0 : ¬ x.k = 0) (h1 : ¬ x.k = 1) (hk : ¬ (sgS x.k = [] ∨ X.length < 2)) : shPile svd X (L.drop i) = shPile svd (X.take (X.length - 2) ++ [40 :: (sgS x.k ++ 32 :: (X.getD (X.length - 2) [] ++ 32 :: (X.getD (X.length - 1) [] ++ [41])))]) (L.drop (i + 1)) := by
  rw [drop_at h, ← hx, shPile, if_neg h0, if_neg h1, if_neg hk]
def ExPost (w : World) (L : List ItemD) (e : Ending) (w' : World) : Prop := e = .returned (.tuple #[.string (st (shE svd L)), .bool (shExpr svd L).isSome]) ∧ Below w.heap.size w w'
theorem ExPost.no {w w' : World} {L : List ItemD} (hb : Below w.heap.size w w') (h : shExpr svd L = none) : ExPost w L (.returned (.tuple #[.string (st []), .bool false])) w' := by
  refine ⟨?_, hb⟩
  unfold shE
  rw [h]; rfl
theorem ExPost.yes {w w' : World} {L : List ItemD} {x : Str} (hb : Below w.heap.size w w') (h : shExpr svd L = some x) : ExPost w L (.returned (.tuple #[.string (st x), .bool true])) w' := by
  refine ⟨?_, hb⟩
  unfold shE
  rw [h]; rfl
theorem ex_none {L : List ItemD} (h : shPile svd [] L = none) : shExpr svd L = none := by unfold shExpr; rw [h]
theorem ex_one {L : List ItemD} {x : Str} (h : shPile svd [] L = some [x]) : shExpr svd L = some x := by unfold shExpr; rw [h]
theorem ex_more {L : List ItemD} {X : List Str} (h : shPile svd [] L = some X) (hl : X.length ≠ 1) : shExpr svd L = none := by
  unfold shExpr; rw [h]
  match X, hl with
  | [], _ => rfl
  | [x], hl => exact absurd rfl hl
  | _ :: _ :: _, _ => rfl
theorem tot_mem : ∀ {X : List Str} {s : Str}, s ∈ X → s.length ≤ totS X
  | x :: X, s, h => by
    rcases List.mem_cons.1 h with rfl | h
    · simp [totS]
    · have := tot_mem h
      simp [totS] at *
      omega
theorem getD_memS (X : List Str) (j : Nat) (h : j < X.length) : X.getD j [] ∈ X := by
  rw [List.getD_eq_getElem?_getD, List.getElem?_eq_getElem h]; exact List.getElem_mem h
theorem own_first {w : World} {B n m c : Nat} {a : Option Addr} {e : TypeId} {xs : List Value} (h : w.ownsRow B e 1 (.slice a n c) n xs) (hn : 1 ≤ n) (hm : m ≤ n) : w.ownsRow B e 1 (.slice a m c) m (xs.take m) := by
  obtain ⟨h1, h2⟩ := h
  refine ⟨by rw [List.length_take]; omega, ?_⟩
  rcases h2 with ⟨e, h0⟩ | ⟨g, cap, cur, e, hb, hg, hnc, hcm, hcs, ht⟩
  · omega
  · obtain ⟨rfl, -, rfl⟩ := Value.slice.inj e
    refine .inr ⟨g, c, cur, rfl, hb, hg, by omega, hcm, hcs, ?_⟩
    rw [← ht, List.take_take]; congr 1; omega
theorem own_base {w : World} {B B' n : Nat} {e : TypeId} {v : Value} {xs : List Value} (hb : B' ≤ B) (h : w.ownsRow B e 1 v n xs) : w.ownsRow B' e 1 v n xs := by
  obtain ⟨h1, h2⟩ := h
  refine ⟨h1, ?_⟩
  rcases h2 with h2 | ⟨g, cap, cur, e, hg, rest⟩
  · exact .inl h2
  · exact .inr ⟨g, cap, cur, e, Nat.le_trans hb hg, rest⟩
set_option maxHeartbeats 4000000 in
theorem rexp_any {Q1 : Nat → Prop} (v1 : Value) (L : List ItemD) (w : World) (h1 : SlW 5 w Q1 v1 (L.map clI)) (hl : itemsL L) (hf : fE L) :
    Calls Tryd.prog 8 #[v1] w (ExPost w L) := by
  obtain ⟨a1, c1, rfl⟩ := h1.shape
  obtain ⟨-, l1, m1, r1⟩ := h1.row
  simp only [List.length_map] at *
  have R1 : Hid (∀ i, i < L.length → ∃ b off, a1 = some ⟨b, off, none⟩ ∧ b < w.heap.size ∧ ∀ j, j < 5 → w.cell? ⟨b, off + (i * 5 + j), none⟩ = ((L.map clI).getD i [])[j]?) := r1
  have HL : Hid (itemsL L) := hl
  have HF : Hid (fE L) := hf
  obtain ⟨i9, hi9, hz9, hz91, hz92⟩ := info_parts infoStr9
  have hl40 : L.length ≤ 40 := hl.1
  clear r1 h1 hl hf
  have hnn : (L.length : Int) ≤ 9223372036854775807 := by omega
  go_enter Tryd.func8, Tryd.ntmps8
  go_wp2
  go_loopw [4, 5] (fun v4 v5 wr => ∃ (i : Nat) (X : List Str), v5 = .int .i64 i ∧ i ≤ L.length ∧ wr.ownsRow w.heap.size 9 1 v4 X.length (strs X) ∧ Below w.heap.size w wr ∧ X.length ≤ i ∧ totS X ≤ 70 * i ∧ shPile svd [] L = shPile svd X (L.drop i)) (fun _ v5 _ => (L.length - intOf v5).toNat)
  case atStart => exact ⟨0, [], rfl, Nat.zero_le _, ⟨rfl, .inl ⟨rfl, rfl⟩⟩, Below.refl _ _, Nat.le_refl _, by simp [totS], by rw [List.drop_zero]⟩
  case round =>
    obtain ⟨i, X, rfl, hi, hown, hbl, hxl, htot, heq⟩ := hrel
    have HO : Hid (wr.ownsRow w.heap.size 9 1 u4 X.length (strs X)) := hown
    have HB : Hid (Below w.heap.size w wr) := hbl
    have HE : Hid (shPile svd [] L = shPile svd X (L.drop i)) := heq
    have HXL : Hid (X.length ≤ i) := hxl
    have HT : Hid (totS X ≤ 70 * i) := htot
    have hsz := hbl.size
    have hx40 : X.length ≤ 40 := by omega
    obtain ⟨a4, c4, rfl⟩ : ∃ a4 c4, u4 = .slice a4 X.length c4 := by
      rcases hown.2 with ⟨e, h0⟩ | ⟨g, cap, cur, e, -⟩
      · exact ⟨none, 0, by rw [e, h0]⟩
      · exact ⟨_, cap, e⟩
    clear hown hbl heq hxl htot
    by_cases hlt : i < L.length
    · have hiz : (i : Int) < L.length := by omega
      obtain ⟨b1, o1, rfl, hb1, q1⟩ := R1.out i hlt
      rw [getD_map clI L i i0 hlt] at q1
      obtain ⟨x, hx⟩ : ∃ x, x = L.getD i i0 := ⟨_, rfl⟩
      rw [← hx] at q1
      have hm : x ∈ L := by rw [hx]; exact getD_mem L i i0 hlt
      have hfx : fV x.x := HF.out x hm
      have hlx : itemL x := HL.out.2 x hm
      have HX : Hid (x = L.getD i i0) := hx
      clear hx hm
      have p0 : wr.cell? ⟨b1, o1 + i * 5, none⟩ = some (.int .u8 x.k) := (HB.out.cell (p := ⟨b1, o1 + i * 5, none⟩) hb1).trans (q1 0 (by decide))
      have p1 : wr.cell? ⟨b1, o1 + i * 5 + 1, none⟩ = some (.int .u8 x.x.k) := (HB.out.cell (p := ⟨b1, o1 + i * 5 + 1, none⟩) hb1).trans (q1 1 (by decide))
      have p2 : wr.cell? ⟨b1, o1 + i * 5 + 2, none⟩ = some (.int .i64 x.x.n) := (HB.out.cell (p := ⟨b1, o1 + i * 5 + 2, none⟩) hb1).trans (q1 2 (by decide))
      have p3 : wr.cell? ⟨b1, o1 + i * 5 + 3, none⟩ = some (.string (st x.x.s)) := (HB.out.cell (p := ⟨b1, o1 + i * 5 + 3, none⟩) hb1).trans (q1 3 (by decide))
      have p4 : wr.cell? ⟨b1, o1 + i * 5 + 4, none⟩ = some (.string (st x.v)) := (HB.out.cell (p := ⟨b1, o1 + i * 5 + 4, none⟩) hb1).trans (q1 4 (by decide))
      clear q1
      obtain ⟨kx, xx, vx⟩ := x
      dsimp only at p0 p1 p2 p3 p4 hfx
      by_cases k0 : kx = 0
      · subst k0
        have HE2 : Hid (shPile svd [] L = shPile svd (X ++ [svd xx]) (L.drop (i + 1))) := HE.out.trans (pile_c hlt HX.out rfl)
        have CT := fun W => rtext_sv xx W hfx
        have hsv := svd_len xx hlx.2
        go_wp2_with (first | (go_at_call 23; refine (CT _).mono ?_; rintro e w2 ⟨rfl, hb2⟩; have H2 : Hid (Below wr.heap.size wr w2) := hb2; have hs2 := hb2.size; clear hb2) | (at_builtin; refine wpList_append_lies (P := Tryd.prog) _ rfl _ _ 60 rfl w.heap.size 9 i9 (.string ByteArray.empty) 1 16 Tryd.underlying60 hi9 hz9 hz91 hz92 rfl (by decide) _ X.length (strs X) rfl (World.ownsRow.alloc (HO.out.kept (grown_of H2.out) (by cases hv : (Value.slice a4 X.length c4).ownBlock <;> simp)) _) ⟨w2.heap.size, 0, none⟩ 1 1 [.string (st (svd xx))] rfl rfl (World.news_of_block (cs := #[.string (st (svd xx))]) (t := 9) (fr := (0, 0)) (new_at (by simp))) (by simp [Value.oneCell']) (by decide) (by unfold maxLen; omega) (by omega) (by simp; omega) _ rfl ?_; intro g5 cap5 w5 ho5 hg5 hw5 hlt5; have HO5 : Hid (w5.ownsRow w.heap.size 9 1 (.slice (some ⟨g5, 0, none⟩) (X.length + 1) cap5) (X.length + 1) (strs X ++ [.string (st (svd xx))])) := ho5; have HG5 : Hid (World.grownBy _ w5 _) := hg5; clear ho5 hg5 hw5))
        go_roundw
        case rel =>
          have h2 := HO.out.kept (grown_of H2.out) (by cases hv : (Value.slice a4 X.length c4).ownBlock <;> simp)
          refine ⟨i + 1, X ++ [svd xx], by simp, by omega, ?_, ?_, by have := HXL.out; simp; omega, by have := HT.out; rw [totS_app, totS_one]; omega, HE2.out⟩
          · rw [List.length_append, show strs (X ++ [svd xx]) = strs X ++ [.string (st (svd xx))] by simp [strs]]; exact HO5.out
          · exact ((HB.out.trans (H2.out.mono hsz)).alloc (by omega) _).grown HG5.out (by simp; omega) (fun k hk => ((h2.alloc (.cells #[.string (st (svd xx))] 9)).lt k hk).1)
        case measure => simp [intOf]; omega
      · by_cases k1 : kx = 1
        · subst k1
          have HE2 : Hid (shPile svd [] L = shPile svd (X ++ [60 :: (vx ++ [62])]) (L.drop (i + 1))) := HE.out.trans (pile_v hlt HX.out rfl)
          have hvx : vx.length ≤ 60 := hlx.1
          have hs1 := st_size vx
          have HST : Hid (({ data := #[60] } : ByteArray) ++ st vx ++ { data := #[62] } = st (60 :: (vx ++ [62]))) := by
            show _ = _
            rw [show ({ data := #[60] } : ByteArray) = st [60] from rfl, show ({ data := #[62] } : ByteArray) = st [62] from rfl, st_app2, st_app2]; rfl
          go_wp2_with (first | (at_builtin; refine wpList_append_lies (P := Tryd.prog) _ rfl _ _ 60 rfl w.heap.size 9 i9 (.string ByteArray.empty) 1 16 Tryd.underlying60 hi9 hz9 hz91 hz92 rfl (by decide) _ X.length (strs X) rfl (HO.out.alloc _) ⟨wr.heap.size, 0, none⟩ 1 1 [.string (({ data := #[60] } : ByteArray) ++ st vx ++ { data := #[62] })] rfl rfl (World.news_of_block (cs := #[.string (({ data := #[60] } : ByteArray) ++ st vx ++ { data := #[62] })]) (t := 9) (fr := (0, 0)) (new_at (by simp))) (by simp [Value.oneCell']) (by decide) (by unfold maxLen; omega) (by omega) (by simp; omega) _ rfl ?_; intro g5 cap5 w5 ho5 hg5 hw5 hlt5; have HO5 : Hid (w5.ownsRow w.heap.size 9 1 (.slice (some ⟨g5, 0, none⟩) (X.length + 1) cap5) (X.length + 1) (strs X ++ [.string (({ data := #[60] } : ByteArray) ++ st vx ++ { data := #[62] })])) := ho5; have HG5 : Hid (World.grownBy _ w5 _) := hg5; clear ho5 hg5 hw5))
          go_roundw
          case rel =>
            refine ⟨i + 1, X ++ [60 :: (vx ++ [62])], by simp, by omega, ?_, ?_, by have := HXL.out; simp; omega, by have := HT.out; rw [totS_app, totS_one]; simp; omega, HE2.out⟩
            · rw [List.length_append, show strs (X ++ [60 :: (vx ++ [62])]) = strs X ++ [.string (st (60 :: (vx ++ [62])))] by simp [strs], ← HST.out]; exact HO5.out
            · exact (HB.out.alloc hsz _).grown HG5.out (by simp; omega) (fun k hk => ((HO.out.alloc (.cells #[.string (({ data := #[60] } : ByteArray) ++ st vx ++ { data := #[62] })] 9)).lt k hk).1)
          case measure => simp [intOf]; omega
        · have CS := fun W => rsgn_any kx W
          by_cases hsg : sgS kx = []
          · have HN : Hid (shExpr svd L = none) := ex_none (HE.out.trans (pile_no hlt HX.out k0 k1 (.inl hsg)))
            have hs1 : (st (sgS kx)).toList.isEmpty = true := by rw [st_emp, hsg]; rfl
            generalize sgS kx = sg at *
            clear hsg
            go_wp2_with (go_at_call 24; refine (CS _).mono ?_; rintro e w' ⟨rfl, hw'⟩; obtain rfl := hw'.symm; clear CS)
            refine bodyPost_ret (v := .tuple #[.string (st []), .bool false]) (by simp [results, Tryd.results8, go_sem] <;> rfl) rfl ?_
            exact ExPost.no HB.out HN.out
          · have hs1 : (st (sgS kx)).toList.isEmpty = false := by rw [st_emp]; cases h : sgS kx with | nil => exact absurd h hsg | cons _ _ => rfl
            by_cases h2 : X.length < 2
            · have HN : Hid (shExpr svd L = none) := ex_none (HE.out.trans (pile_no hlt HX.out k0 k1 (.inr h2)))
              have h2i : (X.length : Int) < 2 := by omega
              generalize sgS kx = sg at *
              clear hsg h2
              go_wp2_with (go_at_call 24; refine (CS _).mono ?_; rintro e w' ⟨rfl, hw'⟩; obtain rfl := hw'.symm; clear CS)
              refine bodyPost_ret (v := .tuple #[.string (st []), .bool false]) (by simp [results, Tryd.results8, go_sem] <;> rfl) rfl ?_
              exact ExPost.no HB.out HN.out
            · have HK := pile_o (X := X) hlt HX.out k0 k1 (fun e => e.elim hsg h2)
              obtain ⟨m, hm⟩ : ∃ m, X.length = m + 2 := ⟨X.length - 2, by omega⟩
              have hm40 : m ≤ 40 := by omega
              rw [show X.length - 2 = m by omega, show X.length - 1 = m + 1 by omega] at HK
              have HE2 : Hid (shPile svd [] L = shPile svd (X.take m ++ [40 :: (sgS kx ++ 32 :: (X.getD m [] ++ 32 :: (X.getD (m + 1) [] ++ [41])))]) (L.drop (i + 1))) := HE.out.trans HK
              have HM : Hid ((strs X).length = m + 2) := by show (strs X).length = _; rw [← hm]; simp [strs]
              obtain ⟨g4, c6, e5, hg4b, hg4l⟩ := HO.out.form (by omega)
              obtain ⟨rfl, -, rfl⟩ := Value.slice.inj e5
              have pm : wr.cell? ⟨g4, m, none⟩ = some (.string (st (X.getD m []))) := by
                have := HO.out.cells (g := g4) rfl m _ (getD_strs X m (by omega))
                rw [addr_add] at this; exact this
              have pn : wr.cell? ⟨g4, m + 1, none⟩ = some (.string (st (X.getD (m + 1) []))) := by
                have := HO.out.cells (g := g4) rfl (m + 1) _ (getD_strs X (m + 1) (by omega))
                rw [addr_add] at this; exact this
              have hc6 : (m : Int) ≤ c4 := by
                rcases HO.out.2 with ⟨e, h0⟩ | ⟨g, cap, cur, e, _, _, hnc, _⟩
                · omega
                · obtain ⟨-, -, e3⟩ := Value.slice.inj e
                  omega
              have hc7 : (c4 : Int) ≤ 9223372036854775807 := by
                rcases HO.out.2 with ⟨e, h0⟩ | ⟨g, cap, cur, e, _, _, hnc, hcm, _⟩
                · omega
                · obtain ⟨-, -, e3⟩ := Value.slice.inj e
                  unfold maxLen at hcm
                  omega
              have hb1 : (st (X.getD m [])).size ≤ 2800 := by rw [st_size]; have h1 := tot_mem (getD_memS X m (by omega)); have h2 := HT.out; omega
              have hb2 : (st (X.getD (m + 1) [])).size ≤ 2800 := by rw [st_size]; have h1 := tot_mem (getD_memS X (m + 1) (by omega)); have h2 := HT.out; omega
              have hb3 : (st (sgS kx)).size ≤ 1 := by rw [st_size]; exact sgS_len kx
              have HTX : Hid (({ data := #[40] } : ByteArray) ++ st (sgS kx) ++ { data := #[32] } ++ st (X.getD m []) ++ { data := #[32] } ++ st (X.getD (m + 1) []) ++ { data := #[41] } = st (40 :: (sgS kx ++ 32 :: (X.getD m [] ++ 32 :: (X.getD (m + 1) [] ++ [41]))))) := by
                show _ = _
                rw [show ({ data := #[40] } : ByteArray) = st [40] from rfl, show ({ data := #[41] } : ByteArray) = st [41] from rfl, show ({ data := #[32] } : ByteArray) = st [32] from rfl]
                simp only [st_app2]
                congr 1
                simp
              have HTOT : Hid (totS (X.take m ++ [40 :: (sgS kx ++ 32 :: (X.getD m [] ++ 32 :: (X.getD (m + 1) [] ++ [41])))]) ≤ 70 * (i + 1)) := by
                have h1 := HT.out
                obtain ⟨P0, a, b, e⟩ := last_two X h2
                have hP0 : P0.length = m := by have := congrArg List.length e; simp at this; omega
                have ea : X.getD (m + 1) [] = a := by rw [e, ← hP0]; simp
                have eb : X.getD m [] = b := by rw [e, ← hP0]; simp
                have et : X.take m = P0 := by rw [e, ← hP0, List.take_append_of_le_length (Nat.le_refl _), List.take_of_length_le (Nat.le_refl _)]
                have h3 := sgS_len kx
                show totS _ ≤ _
                rw [et, ea, eb, totS_app, totS_one]
                rw [e, totS_app, show [b, a] = [b] ++ [a] from rfl, totS_app, totS_one, totS_one] at h1
                simp only [List.length_cons, List.length_append, List.length_nil]
                omega
              have HH2 : Hid (¬ X.length < 2) := h2
              clear HK e5
              generalize st (X.getD m []) = tb at *
              generalize st (X.getD (m + 1) []) = ta at *
              generalize st (sgS kx) = ts at *
              clear hsg
              rw [hm] at *
              clear hm h2
              have tok1 : Hid True := trivial
              have tok2 : Hid True := trivial
              go_wp2_with (go_at_call 24; refine (CS _).mono ?_; rintro e w' ⟨rfl, hw'⟩; obtain rfl := hw'.symm; clear CS)
              have hw1 : wrap64 ((m : Int) + 2 - 1) = m + 1 := by rw [show (m : Int) + 2 - 1 = m + 1 by omega]; unfold wrap64; omega
              have hw2 : ((m : Int) + 1).toNat = m + 1 := by omega
              go_quiet (fail)
              obtain ⟨tx, htx⟩ : ∃ tx : ByteArray, tx = ({ data := #[40] } ++ ts ++ { data := #[32] } ++ tb ++ { data := #[32] } ++ ta ++ { data := #[41] }) := ⟨_, rfl⟩
              rw [← htx]
              have HTX2 : Hid (tx = st (40 :: (sgS kx ++ 32 :: (X.getD m [] ++ 32 :: (X.getD (m + 1) [] ++ [41]))))) := htx.trans HTX.out
              clear htx HTX
              have HOf : Hid (wr.drew.ownsRow w.heap.size 9 1 (.slice (some ⟨g4, 0, none⟩) m c4) m ((strs X).take m)) := own_first HO.out (by omega) (by omega)
              have hcs : ∀ j u, ((strs X).take m)[j]? = some u → (wr.drew.alloc (.cells #[] 9)).cell? ((⟨g4, 0, none⟩ : Addr).add j) = some u := fun j u hu => (HOf.out.alloc (.cells #[] 9)).cells (g := g4) rfl j u hu
              have HCS : Hid (∀ j u, ((strs X).take m)[j]? = some u → (wr.drew.alloc (.cells #[] 9)).cell? ((⟨g4, 0, none⟩ : Addr).add j) = some u) := hcs
              have HNEW : Hid ((wr.drew.alloc (.cells #[] 9)).ownsRow wr.heap.size 9 1 (.slice (some ⟨wr.heap.size, 0, none⟩) 0 0) 0 []) := World.ownsRow_lit wr.drew #[] 0 (Nat.le_refl _) (by decide) rfl
              have hlt1 : ((strs X).take m).length = m * 1 := by rw [List.length_take]; have := HM.out; omega
              have HLT1 : Hid (((strs X).take m).length = m * 1) := hlt1
              have HONE : Hid (∀ u ∈ (strs X).take m, u.oneCell' = true) := fun u hu => by
                have := List.mem_of_mem_take hu
                obtain ⟨s, -, rfl⟩ := List.mem_map.1 this
                rfl
              clear hcs hlt1 hb1 hb2 hb3
              go_wp2_with (first | (at_builtin; have tku := tok1; clear tku tok1; go_loud (refine wpList_append_own (P := Tryd.prog) _ rfl _ _ 60 rfl wr.heap.size 9 i9 (.string ByteArray.empty) 1 16 Tryd.underlying60 hi9 hz9 hz91 hz92 rfl (by decide) _ 0 [] rfl HNEW.out ⟨g4, 0, none⟩ m c4 ((strs X).take m) rfl HLT1.out HCS.out HONE.out (by unfold maxLen; omega) (by omega) (by simp) ?_; intro v7 w7 ho7 hg7 hn7); have HO7 : Hid (w7.ownsRow wr.heap.size 9 1 v7 (0 + m) ([] ++ (strs X).take m)) := ho7; have HG7 : Hid (World.grownBy _ w7 _) := hg7; clear hn7 ho7 hg7) | (at_builtin; have tku := tok2; clear tku tok2; refine wpList_append_lies (P := Tryd.prog) _ rfl _ _ 60 rfl wr.heap.size 9 i9 (.string ByteArray.empty) 1 16 Tryd.underlying60 hi9 hz9 hz91 hz92 rfl (by decide) _ (0 + m) ([] ++ (strs X).take m) rfl (HO7.out.alloc _) ⟨w7.heap.size, 0, none⟩ 1 1 [.string tx] rfl rfl (World.news_of_block (cs := #[.string tx]) (t := 9) (fr := (0, 0)) (new_at (by simp))) (by simp [Value.oneCell']) (by decide) (by unfold maxLen; omega) (by omega) (by have h := HG7.out.size; simp at h ⊢; omega) _ rfl ?_; intro g8 cap8 w8 ho8 hg8 hw8 hlt8; have HO8 : Hid (w8.ownsRow wr.heap.size 9 1 (.slice (some ⟨g8, 0, none⟩) (0 + m + 1) cap8) (0 + m + 1) (([] ++ (strs X).take m) ++ [.string tx])) := ho8; have HG8 : Hid (World.grownBy _ w8 _) := hg8; clear ho8 hg8 hw8))
              go_roundw
              case rel =>
                refine ⟨i + 1, X.take m ++ [40 :: (sgS kx ++ 32 :: (X.getD m [] ++ 32 :: (X.getD (m + 1) [] ++ [41])))], by simp, by omega, ?_, ?_, ?_, HTOT.out, HE2.out⟩
                · have e1 : strs (X.take m ++ [40 :: (sgS kx ++ 32 :: (X.getD m [] ++ 32 :: (X.getD (m + 1) [] ++ [41])))]) = ([] ++ (strs X).take m) ++ [.string tx] := by rw [HTX2.out]; simp [strs, List.map_take]
                  have e2 : (X.take m ++ [40 :: (sgS kx ++ 32 :: (X.getD m [] ++ 32 :: (X.getD (m + 1) [] ++ [41])))]).length = m + 1 := by rw [List.length_append, List.length_take]; have := HM.out; simp [strs] at this; simp; omega
                  have h9 := own_base hsz HO8.out
                  rw [Nat.zero_add] at h9
                  rw [e1, e2]
                  exact h9
                · have g0 : ∀ n, Below w.heap.size w (wr.drewN n) := fun n => ⟨HB.out.1, HB.out.2, HB.out.3, HB.out.size, HB.out.block⟩
                  have g1 : Below w.heap.size w w7 := ((g0 _).alloc hsz (.cells #[] 9)).grown HG7.out (by simp; omega) (fun k hk => by have := (HNEW.out.lt k hk).1; omega)
                  exact (g1.alloc g1.size (.cells #[.string tx] 9)).grown HG8.out (by have := g1.size; simp; omega) (fun k hk => by have := ((HO7.out.alloc (.cells #[.string tx] 9)).lt k hk).1; omega)
                · rw [List.length_append, List.length_take]; have h1 := HXL.out; have h2 := HM.out; simp [strs] at h2; simp; omega
              case measure => simp [intOf]; omega
    · have hiz : ¬ (i : Int) < L.length := by omega
      obtain rfl : i = L.length := by omega
      have HEN : Hid (shPile svd [] L = some X) := by have := HE.out; rw [List.drop_length] at this; exact this
      by_cases h1 : X.length = 1
      · obtain ⟨x, hx⟩ := List.length_eq_one_iff.1 h1
        subst hx
        obtain ⟨g4, c6, e5, hg4b, hg4l⟩ := HO.out.form (by simp)
        obtain ⟨rfl, -, rfl⟩ := Value.slice.inj e5
        have pm : wr.cell? ⟨g4, 0, none⟩ = some (.string (st x)) := by
          have := HO.out.cells (g := g4) rfl 0 (.string (st x)) rfl
          rw [addr_add] at this; exact this
        have hl1 : ([x] : List Str).length = 1 := rfl
        clear h1 e5
        go_wp2
        refine bodyPost_ret (v := .tuple #[.string (st x), .bool true]) (by simp [results, Tryd.results8, go_sem] <;> rfl) rfl ?_
        exact ExPost.yes HB.out (ex_one HEN.out)
      · have hp1 : ¬ (X.length : Int) = 1 := by omega
        have HN : Hid (shExpr svd L = none) := ex_more HEN.out h1
        clear h1
        go_wp2
        refine bodyPost_ret (v := .tuple #[.string (st []), .bool false]) (by simp [results, Tryd.results8, go_sem, hp1] <;> rfl) rfl ?_
        exact ExPost.no HB.out HN.out

end Go.Proofs.YtemacdimdpnkeaaDoor
namespace Go.Proofs.YtemacdimdpnkeaaDoor
open Go.RowKit
set_option linter.unusedVariables false
set_option linter.unusedSimpArgs false
set_option maxRecDepth 20000
set_option maxHeartbeats 2000000 in
theorem rsingle_a (x : TestD) (w : World) (hf : fV x.x) (hl : testL x) (hv : (st x.v).toList.isEmpty = false) : Calls Tryd.prog 32 #[.agg #[.int .u8 0, .string (st x.v), .int .u8 x.x.k, .int .i64 x.x.n, .string (st x.x.s)]] w fun e w' => e = .returned (.string (st (60 :: (x.v ++ [62])))) ∧ Below w.heap.size w w' := by
  have hsv := svd_len x.x hl.2
  have h1 : x.v.length ≤ 60 := hl.1
  have h2 := st_size x.v
  have h3 := sgnL_len x.p
  have h4 := st_size (sgnL x.p)
  have h5 := st_size (svd x.x)
  have HX : Hid (∀ W, Below (w.alloc (.cells #[.int .u8 0, .string (st x.v), .int .u8 x.x.k, .int .i64 x.x.n, .string (st x.x.s)] 57)).heap.size (w.alloc (.cells #[.int .u8 0, .string (st x.v), .int .u8 x.x.k, .int .i64 x.x.n, .string (st x.x.s)] 57)) W → W.cell? ⟨w.heap.size, 0, none⟩ = some (.int .u8 0) ∧ W.cell? ⟨w.heap.size, 1, none⟩ = some (.string (st x.v)) ∧ W.cell? ⟨w.heap.size, 2, none⟩ = some (.int .u8 x.x.k) ∧ W.cell? ⟨w.heap.size, 3, none⟩ = some (.int .i64 x.x.n) ∧ W.cell? ⟨w.heap.size, 4, none⟩ = some (.string (st x.x.s))) := fun W hW =>
    ⟨by rw [hW.cell (p := ⟨w.heap.size, 0, none⟩) (by simp)]; simp, by rw [hW.cell (p := ⟨w.heap.size, 1, none⟩) (by simp)]; simp, by rw [hW.cell (p := ⟨w.heap.size, 2, none⟩) (by simp)]; simp, by rw [hW.cell (p := ⟨w.heap.size, 3, none⟩) (by simp)]; simp, by rw [hW.cell (p := ⟨w.heap.size, 4, none⟩) (by simp)]; simp⟩
  go_enter Tryd.func32, Tryd.ntmps32
  go_wp2_with (first | (go_at_call 58; refine (rsign_sv x.p _).mono ?_; rintro e w1 ⟨rfl, rfl⟩) | (go_at_call 23; refine (rtext_sv x.x _ hf).mono ?_; rintro e w2 ⟨rfl, hb2⟩; have H2 : Hid (Below (w.alloc (.cells #[.int .u8 0, .string (st x.v), .int .u8 x.x.k, .int .i64 x.x.n, .string (st x.x.s)] 57)).heap.size (w.alloc (.cells #[.int .u8 0, .string (st x.v), .int .u8 x.x.k, .int .i64 x.x.n, .string (st x.x.s)] 57)) w2) := hb2; clear hb2))
  go_ret
  refine ⟨?_, bxn _ _⟩
  congr 2
set_option maxHeartbeats 2000000 in
theorem rsingle_b (x : TestD) (w : World) (hf : fV x.x) (hl : testL x) (hv : (st x.v).toList.isEmpty = true) : Calls Tryd.prog 32 #[.agg #[.int .u8 0, .string (st x.v), .int .u8 x.x.k, .int .i64 x.x.n, .string (st x.x.s)]] w fun e w' => e = .returned (.string (st (svd x.x))) ∧ Below w.heap.size w w' := by
  have hsv := svd_len x.x hl.2
  have h1 : x.v.length ≤ 60 := hl.1
  have h2 := st_size x.v
  have h3 := sgnL_len x.p
  have h4 := st_size (sgnL x.p)
  have h5 := st_size (svd x.x)
  have HX : Hid (∀ W, Below (w.alloc (.cells #[.int .u8 0, .string (st x.v), .int .u8 x.x.k, .int .i64 x.x.n, .string (st x.x.s)] 57)).heap.size (w.alloc (.cells #[.int .u8 0, .string (st x.v), .int .u8 x.x.k, .int .i64 x.x.n, .string (st x.x.s)] 57)) W → W.cell? ⟨w.heap.size, 0, none⟩ = some (.int .u8 0) ∧ W.cell? ⟨w.heap.size, 1, none⟩ = some (.string (st x.v)) ∧ W.cell? ⟨w.heap.size, 2, none⟩ = some (.int .u8 x.x.k) ∧ W.cell? ⟨w.heap.size, 3, none⟩ = some (.int .i64 x.x.n) ∧ W.cell? ⟨w.heap.size, 4, none⟩ = some (.string (st x.x.s))) := fun W hW =>
    ⟨by rw [hW.cell (p := ⟨w.heap.size, 0, none⟩) (by simp)]; simp, by rw [hW.cell (p := ⟨w.heap.size, 1, none⟩) (by simp)]; simp, by rw [hW.cell (p := ⟨w.heap.size, 2, none⟩) (by simp)]; simp, by rw [hW.cell (p := ⟨w.heap.size, 3, none⟩) (by simp)]; simp, by rw [hW.cell (p := ⟨w.heap.size, 4, none⟩) (by simp)]; simp⟩
  go_enter Tryd.func32, Tryd.ntmps32
  go_wp2_with (first | (go_at_call 58; refine (rsign_sv x.p _).mono ?_; rintro e w1 ⟨rfl, rfl⟩) | (go_at_call 23; refine (rtext_sv x.x _ hf).mono ?_; rintro e w2 ⟨rfl, hb2⟩; have H2 : Hid (Below (w.alloc (.cells #[.int .u8 0, .string (st x.v), .int .u8 x.x.k, .int .i64 x.x.n, .string (st x.x.s)] 57)).heap.size (w.alloc (.cells #[.int .u8 0, .string (st x.v), .int .u8 x.x.k, .int .i64 x.x.n, .string (st x.x.s)] 57)) w2) := hb2; clear hb2))
  go_ret
  refine ⟨?_, bt (bxn _ _) H2.out⟩
  congr 2
set_option maxHeartbeats 2000000 in
theorem rsingle_c (x : TestD) (w : World) (hf : fV x.x) (hl : testL x) (hp : ¬ x.p = 0) (hv : (st x.v).toList.isEmpty = false) : Calls Tryd.prog 32 #[.agg #[.int .u8 x.p, .string (st x.v), .int .u8 x.x.k, .int .i64 x.x.n, .string (st x.x.s)]] w fun e w' => e = .returned (.string (st ((sgnL x.p ++ [32]) ++ 60 :: (x.v ++ [62])))) ∧ Below w.heap.size w w' := by
  have hsv := svd_len x.x hl.2
  have h1 : x.v.length ≤ 60 := hl.1
  have h2 := st_size x.v
  have h3 := sgnL_len x.p
  have h4 := st_size (sgnL x.p)
  have h5 := st_size (svd x.x)
  have HX : Hid (∀ W, Below (w.alloc (.cells #[.int .u8 x.p, .string (st x.v), .int .u8 x.x.k, .int .i64 x.x.n, .string (st x.x.s)] 57)).heap.size (w.alloc (.cells #[.int .u8 x.p, .string (st x.v), .int .u8 x.x.k, .int .i64 x.x.n, .string (st x.x.s)] 57)) W → W.cell? ⟨w.heap.size, 0, none⟩ = some (.int .u8 x.p) ∧ W.cell? ⟨w.heap.size, 1, none⟩ = some (.string (st x.v)) ∧ W.cell? ⟨w.heap.size, 2, none⟩ = some (.int .u8 x.x.k) ∧ W.cell? ⟨w.heap.size, 3, none⟩ = some (.int .i64 x.x.n) ∧ W.cell? ⟨w.heap.size, 4, none⟩ = some (.string (st x.x.s))) := fun W hW =>
    ⟨by rw [hW.cell (p := ⟨w.heap.size, 0, none⟩) (by simp)]; simp, by rw [hW.cell (p := ⟨w.heap.size, 1, none⟩) (by simp)]; simp, by rw [hW.cell (p := ⟨w.heap.size, 2, none⟩) (by simp)]; simp, by rw [hW.cell (p := ⟨w.heap.size, 3, none⟩) (by simp)]; simp, by rw [hW.cell (p := ⟨w.heap.size, 4, none⟩) (by simp)]; simp⟩
  go_enter Tryd.func32, Tryd.ntmps32
  go_wp2_with (first | (go_at_call 58; refine (rsign_sv x.p _).mono ?_; rintro e w1 ⟨rfl, rfl⟩) | (go_at_call 23; refine (rtext_sv x.x _ hf).mono ?_; rintro e w2 ⟨rfl, hb2⟩; have H2 : Hid (Below (w.alloc (.cells #[.int .u8 x.p, .string (st x.v), .int .u8 x.x.k, .int .i64 x.x.n, .string (st x.x.s)] 57)).heap.size (w.alloc (.cells #[.int .u8 x.p, .string (st x.v), .int .u8 x.x.k, .int .i64 x.x.n, .string (st x.x.s)] 57)) w2) := hb2; clear hb2))
  go_ret
  refine ⟨?_, bxn _ _⟩
  rw [show ({ data := #[60] } : ByteArray) = st [60] from rfl, show ({ data := #[62] } : ByteArray) = st [62] from rfl, show ({ data := #[32] } : ByteArray) = st [32] from rfl]
  simp only [st_app2, List.append_assoc, List.cons_append, List.nil_append]
  rfl
set_option maxHeartbeats 2000000 in
theorem rsingle_d (x : TestD) (w : World) (hf : fV x.x) (hl : testL x) (hp : ¬ x.p = 0) (hv : (st x.v).toList.isEmpty = true) : Calls Tryd.prog 32 #[.agg #[.int .u8 x.p, .string (st x.v), .int .u8 x.x.k, .int .i64 x.x.n, .string (st x.x.s)]] w fun e w' => e = .returned (.string (st ((sgnL x.p ++ [32]) ++ svd x.x))) ∧ Below w.heap.size w w' := by
  have hsv := svd_len x.x hl.2
  have h1 : x.v.length ≤ 60 := hl.1
  have h2 := st_size x.v
  have h3 := sgnL_len x.p
  have h4 := st_size (sgnL x.p)
  have h5 := st_size (svd x.x)
  have HX : Hid (∀ W, Below (w.alloc (.cells #[.int .u8 x.p, .string (st x.v), .int .u8 x.x.k, .int .i64 x.x.n, .string (st x.x.s)] 57)).heap.size (w.alloc (.cells #[.int .u8 x.p, .string (st x.v), .int .u8 x.x.k, .int .i64 x.x.n, .string (st x.x.s)] 57)) W → W.cell? ⟨w.heap.size, 0, none⟩ = some (.int .u8 x.p) ∧ W.cell? ⟨w.heap.size, 1, none⟩ = some (.string (st x.v)) ∧ W.cell? ⟨w.heap.size, 2, none⟩ = some (.int .u8 x.x.k) ∧ W.cell? ⟨w.heap.size, 3, none⟩ = some (.int .i64 x.x.n) ∧ W.cell? ⟨w.heap.size, 4, none⟩ = some (.string (st x.x.s))) := fun W hW =>
    ⟨by rw [hW.cell (p := ⟨w.heap.size, 0, none⟩) (by simp)]; simp, by rw [hW.cell (p := ⟨w.heap.size, 1, none⟩) (by simp)]; simp, by rw [hW.cell (p := ⟨w.heap.size, 2, none⟩) (by simp)]; simp, by rw [hW.cell (p := ⟨w.heap.size, 3, none⟩) (by simp)]; simp, by rw [hW.cell (p := ⟨w.heap.size, 4, none⟩) (by simp)]; simp⟩
  go_enter Tryd.func32, Tryd.ntmps32
  go_wp2_with (first | (go_at_call 58; refine (rsign_sv x.p _).mono ?_; rintro e w1 ⟨rfl, rfl⟩) | (go_at_call 23; refine (rtext_sv x.x _ hf).mono ?_; rintro e w2 ⟨rfl, hb2⟩; have H2 : Hid (Below (w.alloc (.cells #[.int .u8 x.p, .string (st x.v), .int .u8 x.x.k, .int .i64 x.x.n, .string (st x.x.s)] 57)).heap.size (w.alloc (.cells #[.int .u8 x.p, .string (st x.v), .int .u8 x.x.k, .int .i64 x.x.n, .string (st x.x.s)] 57)) w2) := hb2; clear hb2))
  go_ret
  refine ⟨?_, bt (bxn _ _) H2.out⟩
  congr 2
theorem rsingle_any (x : TestD) (w : World) (hf : fV x.x) (hl : testL x) : Calls Tryd.prog 32 #[.agg (clT x).toArray] w fun e w' => e = .returned (.string (st (shSingle svd x))) ∧ Below w.heap.size w w' := by
  unfold shSingle
  obtain ⟨p, v, x⟩ := x
  by_cases hp : p = 0
  · subst hp
    rw [if_neg (by simp), List.nil_append]
    by_cases hv : v = []
    · subst hv
      rw [if_neg (by simp)]
      exact rsingle_b ⟨0, [], x⟩ w hf hl (by rw [st_emp]; rfl)
    · rw [if_pos hv]
      exact rsingle_a ⟨0, v, x⟩ w hf hl (by rw [st_emp]; cases v with | nil => exact absurd rfl hv | cons _ _ => rfl)
  · rw [if_pos hp]
    by_cases hv : v = []
    · subst hv
      rw [if_neg (by simp)]
      exact rsingle_d ⟨p, [], x⟩ w hf hl hp (by rw [st_emp]; rfl)
    · rw [if_pos hv]
      exact rsingle_c ⟨p, v, x⟩ w hf hl hp (by rw [st_emp]; cases v with | nil => exact absurd rfl hv | cons _ _ => rfl)
theorem rsingle_lit (x : TestD) (w : World) (hf : fV x.x) (hl : testL x) : Calls Tryd.prog 32 #[.agg #[.int .u8 x.p, .string (st x.v), .int .u8 x.x.k, .int .i64 x.x.n, .string (st x.x.s)]] w fun e w' => e = .returned (.string (st (shSingle svd x))) ∧ Below w.heap.size w w' := rsingle_any x w hf hl
set_option maxHeartbeats 4000000 in
theorem rtest_a {P : Nat → Nat → Prop} (cs : List Value) (x : AttrD) (w : World) (h : ReA P w cs x) (hl : attrL x) (hf : fA x) (hn : 0 < x.ones.length) : Calls Tryd.prog 16 #[.agg cs.toArray] w fun e w' => e = .returned (.string (st ((94 :: x.a ++ [32, 60, 60]) ++ spJ (x.ones.map svd) ++ [32, 62, 62]))) ∧ Below w.heap.size w w' := by
  obtain ⟨v1, v2, rfl, s1, s2⟩ := h
  obtain ⟨a1, c1, rfl⟩ := s1.shape
  obtain ⟨a2, c2, rfl⟩ := s2.shape
  obtain ⟨-, l1, m1, r1⟩ := s1.row
  obtain ⟨-, l2, m2, r2⟩ := s2.row
  simp only [List.length_map] at *
  have R1 : Hid (∀ i, i < x.ones.length → ∃ b off, a1 = some ⟨b, off, none⟩ ∧ b < w.heap.size ∧ ∀ j, j < 3 → w.cell? ⟨b, off + (i * 3 + j), none⟩ = ((x.ones.map clV).getD i [])[j]?) := r1
  have R2 : Hid (∀ i, i < x.tests.length → ∃ b off, a2 = some ⟨b, off, none⟩ ∧ b < w.heap.size ∧ ∀ j, j < 5 → w.cell? ⟨b, off + (i * 5 + j), none⟩ = ((x.tests.map clT).getD i [])[j]?) := r2
  have hnn : (x.ones.length : Int) ≤ 9223372036854775807 := by omega
  have hnn2 : (x.tests.length : Int) ≤ 9223372036854775807 := by omega
  obtain ⟨q1, q2, q3, q4, q5⟩ := hl
  have Q4 : Hid (∀ y ∈ x.ones, y.s.length ≤ 60) := q4
  have Q5 : Hid (∀ y ∈ x.tests, testL y) := q5
  have F1 : Hid (∀ y ∈ x.ones, fV y) := hf.1
  have F2 : Hid (∀ y ∈ x.tests, fV y.x) := hf.2
  have hsa := st_size x.a
  clear r1 r2 s1 s2 q4 q5 hf
  have hn1 : (0 : Int) < x.ones.length := by omega
  clear hn
  have HX : Hid (∀ W, Below (w.alloc (.cells #[.string (st x.a), .slice a1 x.ones.length c1, .slice a2 x.tests.length c2] 49)).heap.size (w.alloc (.cells #[.string (st x.a), .slice a1 x.ones.length c1, .slice a2 x.tests.length c2] 49)) W → W.cell? ⟨w.heap.size, 0, none⟩ = some (.string (st x.a)) ∧ W.cell? ⟨w.heap.size, 1, none⟩ = some (.slice a1 x.ones.length c1) ∧ W.cell? ⟨w.heap.size, 2, none⟩ = some (.slice a2 x.tests.length c2) ∧ w.heap.size < W.heap.size) := fun W hW =>
    ⟨by rw [hW.cell (p := ⟨w.heap.size, 0, none⟩) (by simp)]; simp, by rw [hW.cell (p := ⟨w.heap.size, 1, none⟩) (by simp)]; simp, by rw [hW.cell (p := ⟨w.heap.size, 2, none⟩) (by simp)]; simp, by have := hW.size; simp at this; omega⟩
  go_enter Tryd.func16, Tryd.ntmps16
  go_wp2
  have hd : decide (0 < x.ones.length) = true := decide_eq_true (by omega)
  simp only [hd]
  go_loopw [3, 4] (fun v3 v4 wr => ∃ i : Nat, v4 = .int .i64 i ∧ i ≤ x.ones.length ∧ v3 = .string (st ((94 :: x.a ++ [32, 60, 60]) ++ spJ ((x.ones.map svd).take i))) ∧ Below (w.alloc (.cells #[.string (st x.a), .slice a1 x.ones.length c1, .slice a2 x.tests.length c2] 49)).heap.size (w.alloc (.cells #[.string (st x.a), .slice a1 x.ones.length c1, .slice a2 x.tests.length c2] 49)) wr) (fun _ v4 _ => (x.ones.length - intOf v4).toNat)
  case atStart => exact ⟨0, rfl, Nat.zero_le _, by rw [List.take_zero, show spJ [] = [] from rfl, List.append_nil, show ({ data := #[94] } : ByteArray) = st [94] from rfl, show ({ data := #[32, 60, 60] } : ByteArray) = st [32, 60, 60] from rfl, st_app2, st_app2]; rfl, Below.refl _ _⟩
  case round =>
    obtain ⟨i, rfl, hi, rfl, hbr⟩ := hrel
    have HBR : Hid (Below (w.alloc (.cells #[.string (st x.a), .slice a1 x.ones.length c1, .slice a2 x.tests.length c2] 49)).heap.size (w.alloc (.cells #[.string (st x.a), .slice a1 x.ones.length c1, .slice a2 x.tests.length c2] 49)) wr) := hbr
    obtain ⟨y0, y1, y2, y3⟩ := HX.out _ hbr
    clear hbr
    by_cases hlt : i < x.ones.length
    · have hiz : (i : Int) < x.ones.length := by omega
      obtain ⟨b1, o1, rfl, hb1, u1⟩ := R1.out i hlt
      rw [getD_map clV x.ones i v0 hlt] at u1
      obtain ⟨y, hy⟩ : ∃ y, y = x.ones.getD i v0 := ⟨_, rfl⟩
      rw [← hy] at u1
      have hm : y ∈ x.ones := by rw [hy]; exact getD_mem _ _ _ hlt
      have hfy := F1.out y hm
      have hqy := Q4.out y hm
      have HW : Hid (Below w.heap.size w wr) := bt (bxn _ _) HBR.out
      have p0 : wr.cell? ⟨b1, o1 + i * 3, none⟩ = some (.int .u8 y.k) := (HW.out.cell (p := ⟨b1, o1 + i * 3, none⟩) hb1).trans (u1 0 (by decide))
      have p1 : wr.cell? ⟨b1, o1 + i * 3 + 1, none⟩ = some (.int .i64 y.n) := (HW.out.cell (p := ⟨b1, o1 + i * 3 + 1, none⟩) hb1).trans (u1 1 (by decide))
      have p2 : wr.cell? ⟨b1, o1 + i * 3 + 2, none⟩ = some (.string (st y.s)) := (HW.out.cell (p := ⟨b1, o1 + i * 3 + 2, none⟩) hb1).trans (u1 2 (by decide))
      have HNX : Hid (((94 :: x.a ++ [32, 60, 60]) ++ spJ ((x.ones.map svd).take i)) ++ (32 :: svd y) = (94 :: x.a ++ [32, 60, 60]) ++ spJ ((x.ones.map svd).take (i + 1))) := by
        show _ = _
        rw [spJ_take _ (by simpa using hlt), show (x.ones.map svd).getD i [] = svd y by rw [hy]; rw [List.getD_eq_getElem?_getD, List.getElem?_map, List.getD_eq_getElem?_getD, List.getElem?_eq_getElem hlt]; rfl, List.append_assoc]; rfl
      have hle : ((94 :: x.a ++ [32, 60, 60]) ++ spJ ((x.ones.map svd).take i)).length ≤ 2000 := by
        have h1 := spJ_le (x.ones.map svd) i
        have h2 := spJ_map (f := svd) (m := 60) (n := 12) (by omega) fun z hz => svd_len z (Q4.out z hz)
        simp only [List.length_append, List.length_cons, List.length_nil] at *
        omega
      have hfl : (svd y).length ≤ 60 := svd_len y hqy
      have hsz1 : (st ((94 :: x.a ++ [32, 60, 60]) ++ spJ ((x.ones.map svd).take i))).size ≤ 2000 := by rw [st_size]; exact hle
      have hsz2 : (st (svd y)).size ≤ 60 := by rw [st_size]; exact hfl
      clear hle hfl
      have CT := fun W => rtext_sv y W hfy
      have HAP : Hid ((st ((94 :: x.a ++ [32, 60, 60]) ++ spJ ((x.ones.map svd).take i)) ++ { data := #[32] }) ++ st (svd y) = st ((94 :: x.a ++ [32, 60, 60]) ++ spJ ((x.ones.map svd).take (i + 1)))) := by
        show _ = _
        rw [show ({ data := #[32] } : ByteArray) = st [32] from rfl, st_app2, st_app2, ← HNX.out, List.append_assoc]; rfl
      generalize st ((94 :: x.a ++ [32, 60, 60]) ++ spJ ((x.ones.map svd).take i)) = sa at *
      generalize st (svd y) = sb at *
      clear hy hm HNX u1 Q4 Q5 F1 F2
      go_wp2_with (go_at_call 23; refine (CT _).mono ?_; rintro e w3 ⟨rfl, hb3⟩; have B3 : Hid (Below (w.alloc (.cells #[.string (st x.a), .slice (some ⟨b1, o1, none⟩) x.ones.length c1, .slice a2 x.tests.length c2] 49)).heap.size (w.alloc (.cells #[.string (st x.a), .slice (some ⟨b1, o1, none⟩) x.ones.length c1, .slice a2 x.tests.length c2] 49)) w3) := bt HBR.out hb3; clear hb3 CT)
      go_roundw
      case rel => exact ⟨i + 1, by simp, by omega, congrArg Value.string HAP.out, B3.out⟩
      case measure => simp [intOf]; omega
    · have hiz : ¬ (i : Int) < x.ones.length := by omega
      obtain rfl : i = x.ones.length := by omega
      rw [List.take_of_length_le (by simp)]
      have h2 := spJ_map (f := svd) (m := 60) (n := 12) (l := x.ones) (by omega) fun z hz => svd_len z (Q4.out z hz)
      have hsz1 := st_size ((94 :: x.a ++ [32, 60, 60]) ++ spJ (x.ones.map svd))
      have hle : ((94 :: x.a ++ [32, 60, 60]) ++ spJ (x.ones.map svd)).length ≤ 2000 := by
        simp only [List.length_append, List.length_cons, List.length_nil] at *
        omega
      have HAP : Hid (st ((94 :: x.a ++ [32, 60, 60]) ++ spJ (x.ones.map svd)) ++ { data := #[32, 62, 62] } = st ((94 :: x.a ++ [32, 60, 60]) ++ spJ (x.ones.map svd) ++ [32, 62, 62])) := by
        show _ = _
        rw [show ({ data := #[32, 62, 62] } : ByteArray) = st [32, 62, 62] from rfl, st_app2]
      generalize st ((94 :: x.a ++ [32, 60, 60]) ++ spJ (x.ones.map svd)) = sa at *
      go_wp2
      go_ret
      exact ⟨congrArg (fun z => Ending.returned (.string z)) (HAP.out.trans (congrArg st (by simp))), bt (bxn _ _) HBR.out⟩
set_option maxHeartbeats 4000000 in
theorem rtest_b {P : Nat → Nat → Prop} (cs : List Value) (x : AttrD) (w : World) (h : ReA P w cs x) (hl : attrL x) (hf : fA x) (hn : x.ones.length = 0) (ht : x.tests.length = 1) : Calls Tryd.prog 16 #[.agg cs.toArray] w fun e w' => e = .returned (.string (st (94 :: x.a ++ spJ (x.tests.map (shSingle svd))))) ∧ Below w.heap.size w w' := by
  obtain ⟨v1, v2, rfl, s1, s2⟩ := h
  obtain ⟨a1, c1, rfl⟩ := s1.shape
  obtain ⟨a2, c2, rfl⟩ := s2.shape
  obtain ⟨-, l1, m1, r1⟩ := s1.row
  obtain ⟨-, l2, m2, r2⟩ := s2.row
  simp only [List.length_map] at *
  have R1 : Hid (∀ i, i < x.ones.length → ∃ b off, a1 = some ⟨b, off, none⟩ ∧ b < w.heap.size ∧ ∀ j, j < 3 → w.cell? ⟨b, off + (i * 3 + j), none⟩ = ((x.ones.map clV).getD i [])[j]?) := r1
  have R2 : Hid (∀ i, i < x.tests.length → ∃ b off, a2 = some ⟨b, off, none⟩ ∧ b < w.heap.size ∧ ∀ j, j < 5 → w.cell? ⟨b, off + (i * 5 + j), none⟩ = ((x.tests.map clT).getD i [])[j]?) := r2
  have hnn : (x.ones.length : Int) ≤ 9223372036854775807 := by omega
  have hnn2 : (x.tests.length : Int) ≤ 9223372036854775807 := by omega
  obtain ⟨q1, q2, q3, q4, q5⟩ := hl
  have Q4 : Hid (∀ y ∈ x.ones, y.s.length ≤ 60) := q4
  have Q5 : Hid (∀ y ∈ x.tests, testL y) := q5
  have F1 : Hid (∀ y ∈ x.ones, fV y) := hf.1
  have F2 : Hid (∀ y ∈ x.tests, fV y.x) := hf.2
  have hsa := st_size x.a
  clear r1 r2 s1 s2 q4 q5 hf
  have hn1 : ¬ (0 : Int) < x.ones.length := by omega
  have ht1 : (x.tests.length : Int) = 1 := by omega
  obtain ⟨b1, o1, rfl, hb1, u1⟩ := R2.out 0 (by omega)
  rw [getD_map clT x.tests 0 ⟨0, [], v0⟩ (by omega)] at u1
  obtain ⟨y, hy⟩ : ∃ y, x.tests = [y] := List.length_eq_one_iff.1 ht
  have hy2 : x.tests.getD 0 ⟨0, [], v0⟩ = y := by rw [hy]; rfl
  rw [hy2] at u1
  have hm : y ∈ x.tests := by rw [hy]; simp
  have hfy := F2.out y hm
  have hqy := Q5.out y hm
  have HR : Hid (st (94 :: x.a) ++ { data := #[32] } ++ st (shSingle svd y) = st (94 :: x.a ++ spJ (x.tests.map (shSingle svd)))) := by
    show _ = _
    rw [hy, show ({ data := #[32] } : ByteArray) = st [32] from rfl, st_app2, st_app2, List.map_cons, List.map_nil, spJ_cons, spJ_nil, List.append_nil, List.append_assoc]; rfl
  have p0 : (w.alloc (.cells #[.string (st x.a), .slice a1 x.ones.length c1, .slice (some ⟨b1, o1, none⟩) x.tests.length c2] 49)).cell? ⟨b1, o1, none⟩ = some (.int .u8 y.p) := ((bxn w (.cells #[.string (st x.a), .slice a1 x.ones.length c1, .slice (some ⟨b1, o1, none⟩) x.tests.length c2] 49)).cell (p := ⟨b1, o1, none⟩) hb1).trans (by have := u1 0 (by decide); simpa [clT] using this)
  have p1 : (w.alloc (.cells #[.string (st x.a), .slice a1 x.ones.length c1, .slice (some ⟨b1, o1, none⟩) x.tests.length c2] 49)).cell? ⟨b1, o1 + 1, none⟩ = some (.string (st y.v)) := ((bxn w (.cells #[.string (st x.a), .slice a1 x.ones.length c1, .slice (some ⟨b1, o1, none⟩) x.tests.length c2] 49)).cell (p := ⟨b1, o1 + 1, none⟩) hb1).trans (by have := u1 1 (by decide); simpa [clT] using this)
  have p2 : (w.alloc (.cells #[.string (st x.a), .slice a1 x.ones.length c1, .slice (some ⟨b1, o1, none⟩) x.tests.length c2] 49)).cell? ⟨b1, o1 + 2, none⟩ = some (.int .u8 y.x.k) := ((bxn w (.cells #[.string (st x.a), .slice a1 x.ones.length c1, .slice (some ⟨b1, o1, none⟩) x.tests.length c2] 49)).cell (p := ⟨b1, o1 + 2, none⟩) hb1).trans (by have := u1 2 (by decide); simpa [clT] using this)
  have p3 : (w.alloc (.cells #[.string (st x.a), .slice a1 x.ones.length c1, .slice (some ⟨b1, o1, none⟩) x.tests.length c2] 49)).cell? ⟨b1, o1 + 3, none⟩ = some (.int .i64 y.x.n) := ((bxn w (.cells #[.string (st x.a), .slice a1 x.ones.length c1, .slice (some ⟨b1, o1, none⟩) x.tests.length c2] 49)).cell (p := ⟨b1, o1 + 3, none⟩) hb1).trans (by have := u1 3 (by decide); simpa [clT] using this)
  have p4 : (w.alloc (.cells #[.string (st x.a), .slice a1 x.ones.length c1, .slice (some ⟨b1, o1, none⟩) x.tests.length c2] 49)).cell? ⟨b1, o1 + 4, none⟩ = some (.string (st y.x.s)) := ((bxn w (.cells #[.string (st x.a), .slice a1 x.ones.length c1, .slice (some ⟨b1, o1, none⟩) x.tests.length c2] 49)).cell (p := ⟨b1, o1 + 4, none⟩) hb1).trans (by have := u1 4 (by decide); simpa [clT] using this)
  have CT := fun W => rsingle_lit y W hfy hqy
  have hs1 : (st (shSingle svd y)).size ≤ 70 := by rw [st_size]; exact single_len hqy
  have hs2 : (st (94 :: x.a)).size ≤ 61 := by rw [st_size, List.length_cons]; omega
  have hs3 : { data := #[94] } ++ st x.a = st (94 :: x.a) := by rw [show ({ data := #[94] } : ByteArray) = st [94] from rfl, st_app2]; rfl
  generalize st (shSingle svd y) = sb at *
  clear hn ht hy hy2 hm u1 Q4 Q5 F1 F2
  have HX : Hid (∀ W, Below (w.alloc (.cells #[.string (st x.a), .slice a1 x.ones.length c1, .slice (some ⟨b1, o1, none⟩) x.tests.length c2] 49)).heap.size (w.alloc (.cells #[.string (st x.a), .slice a1 x.ones.length c1, .slice (some ⟨b1, o1, none⟩) x.tests.length c2] 49)) W → W.cell? ⟨w.heap.size, 0, none⟩ = some (.string (st x.a)) ∧ W.cell? ⟨w.heap.size, 1, none⟩ = some (.slice a1 x.ones.length c1) ∧ W.cell? ⟨w.heap.size, 2, none⟩ = some (.slice (some ⟨b1, o1, none⟩) x.tests.length c2) ∧ w.heap.size < W.heap.size) := fun W hW =>
    ⟨by rw [hW.cell (p := ⟨w.heap.size, 0, none⟩) (by simp)]; simp, by rw [hW.cell (p := ⟨w.heap.size, 1, none⟩) (by simp)]; simp, by rw [hW.cell (p := ⟨w.heap.size, 2, none⟩) (by simp)]; simp, by have := hW.size; simp at this; omega⟩
  go_enter Tryd.func16, Tryd.ntmps16
  go_wp2_with (go_at_call 32; refine (CT _).mono ?_; rintro e w3 ⟨rfl, hb3⟩; have B3 : Hid (Below w.heap.size w w3) := bt (bxn _ _) hb3; clear hb3 CT)
  go_ret
  refine ⟨?_, B3.out⟩
  rw [← hs3] at HR
  exact congrArg (fun z => Ending.returned (.string z)) HR.out
set_option maxHeartbeats 4000000 in
theorem rtest_c {P : Nat → Nat → Prop} (cs : List Value) (x : AttrD) (w : World) (h : ReA P w cs x) (hl : attrL x) (hf : fA x) (hn : x.ones.length = 0) (ht : ¬ x.tests.length = 1) : Calls Tryd.prog 16 #[.agg cs.toArray] w fun e w' => e = .returned (.string (st ((94 :: x.a ++ [32, 123]) ++ spJ (x.tests.map (shSingle svd)) ++ [32, 125]))) ∧ Below w.heap.size w w' := by
  obtain ⟨v1, v2, rfl, s1, s2⟩ := h
  obtain ⟨a1, c1, rfl⟩ := s1.shape
  obtain ⟨a2, c2, rfl⟩ := s2.shape
  obtain ⟨-, l1, m1, r1⟩ := s1.row
  obtain ⟨-, l2, m2, r2⟩ := s2.row
  simp only [List.length_map] at *
  have R1 : Hid (∀ i, i < x.ones.length → ∃ b off, a1 = some ⟨b, off, none⟩ ∧ b < w.heap.size ∧ ∀ j, j < 3 → w.cell? ⟨b, off + (i * 3 + j), none⟩ = ((x.ones.map clV).getD i [])[j]?) := r1
  have R2 : Hid (∀ i, i < x.tests.length → ∃ b off, a2 = some ⟨b, off, none⟩ ∧ b < w.heap.size ∧ ∀ j, j < 5 → w.cell? ⟨b, off + (i * 5 + j), none⟩ = ((x.tests.map clT).getD i [])[j]?) := r2
  have hnn : (x.ones.length : Int) ≤ 9223372036854775807 := by omega
  have hnn2 : (x.tests.length : Int) ≤ 9223372036854775807 := by omega
  obtain ⟨q1, q2, q3, q4, q5⟩ := hl
  have Q4 : Hid (∀ y ∈ x.ones, y.s.length ≤ 60) := q4
  have Q5 : Hid (∀ y ∈ x.tests, testL y) := q5
  have F1 : Hid (∀ y ∈ x.ones, fV y) := hf.1
  have F2 : Hid (∀ y ∈ x.tests, fV y.x) := hf.2
  have hsa := st_size x.a
  clear r1 r2 s1 s2 q4 q5 hf
  have hn1 : ¬ (0 : Int) < x.ones.length := by omega
  have ht1 : ¬ (x.tests.length : Int) = 1 := by omega
  clear hn ht
  have HX : Hid (∀ W, Below (w.alloc (.cells #[.string (st x.a), .slice a1 x.ones.length c1, .slice a2 x.tests.length c2] 49)).heap.size (w.alloc (.cells #[.string (st x.a), .slice a1 x.ones.length c1, .slice a2 x.tests.length c2] 49)) W → W.cell? ⟨w.heap.size, 0, none⟩ = some (.string (st x.a)) ∧ W.cell? ⟨w.heap.size, 1, none⟩ = some (.slice a1 x.ones.length c1) ∧ W.cell? ⟨w.heap.size, 2, none⟩ = some (.slice a2 x.tests.length c2) ∧ w.heap.size < W.heap.size) := fun W hW =>
    ⟨by rw [hW.cell (p := ⟨w.heap.size, 0, none⟩) (by simp)]; simp, by rw [hW.cell (p := ⟨w.heap.size, 1, none⟩) (by simp)]; simp, by rw [hW.cell (p := ⟨w.heap.size, 2, none⟩) (by simp)]; simp, by have := hW.size; simp at this; omega⟩
  go_enter Tryd.func16, Tryd.ntmps16
  go_wp2
  go_loopw [3, 5] (fun v3 v4 wr => ∃ i : Nat, v4 = .int .i64 i ∧ i ≤ x.tests.length ∧ v3 = .string (st ((94 :: x.a ++ [32, 123]) ++ spJ ((x.tests.map (shSingle svd)).take i))) ∧ Below (w.alloc (.cells #[.string (st x.a), .slice a1 x.ones.length c1, .slice a2 x.tests.length c2] 49)).heap.size (w.alloc (.cells #[.string (st x.a), .slice a1 x.ones.length c1, .slice a2 x.tests.length c2] 49)) wr) (fun _ v4 _ => (x.tests.length - intOf v4).toNat)
  case atStart => exact ⟨0, rfl, Nat.zero_le _, by rw [List.take_zero, show spJ [] = [] from rfl, List.append_nil, show ({ data := #[94] } : ByteArray) = st [94] from rfl, show ({ data := #[32, 123] } : ByteArray) = st [32, 123] from rfl, st_app2, st_app2]; rfl, Below.refl _ _⟩
  case round =>
    obtain ⟨i, rfl, hi, rfl, hbr⟩ := hrel
    have HBR : Hid (Below (w.alloc (.cells #[.string (st x.a), .slice a1 x.ones.length c1, .slice a2 x.tests.length c2] 49)).heap.size (w.alloc (.cells #[.string (st x.a), .slice a1 x.ones.length c1, .slice a2 x.tests.length c2] 49)) wr) := hbr
    obtain ⟨y0, y1, y2, y3⟩ := HX.out _ hbr
    clear hbr
    by_cases hlt : i < x.tests.length
    · have hiz : (i : Int) < x.tests.length := by omega
      obtain ⟨b1, o1, rfl, hb1, u1⟩ := R2.out i hlt
      rw [getD_map clT x.tests i ⟨0, [], v0⟩ hlt] at u1
      obtain ⟨y, hy⟩ : ∃ y, y = x.tests.getD i ⟨0, [], v0⟩ := ⟨_, rfl⟩
      rw [← hy] at u1
      have hm : y ∈ x.tests := by rw [hy]; exact getD_mem _ _ _ hlt
      have hfy := F2.out y hm
      have hqy := Q5.out y hm
      have HW : Hid (Below w.heap.size w wr) := bt (bxn _ _) HBR.out
      have p0 : wr.cell? ⟨b1, o1 + i * 5, none⟩ = some (.int .u8 y.p) := (HW.out.cell (p := ⟨b1, o1 + i * 5, none⟩) hb1).trans (u1 0 (by decide))
      have p1 : wr.cell? ⟨b1, o1 + i * 5 + 1, none⟩ = some (.string (st y.v)) := (HW.out.cell (p := ⟨b1, o1 + i * 5 + 1, none⟩) hb1).trans (u1 1 (by decide))
      have p2 : wr.cell? ⟨b1, o1 + i * 5 + 2, none⟩ = some (.int .u8 y.x.k) := (HW.out.cell (p := ⟨b1, o1 + i * 5 + 2, none⟩) hb1).trans (u1 2 (by decide))
      have p3 : wr.cell? ⟨b1, o1 + i * 5 + 3, none⟩ = some (.int .i64 y.x.n) := (HW.out.cell (p := ⟨b1, o1 + i * 5 + 3, none⟩) hb1).trans (u1 3 (by decide))
      have p4 : wr.cell? ⟨b1, o1 + i * 5 + 4, none⟩ = some (.string (st y.x.s)) := (HW.out.cell (p := ⟨b1, o1 + i * 5 + 4, none⟩) hb1).trans (u1 4 (by decide))
      have HNX : Hid (((94 :: x.a ++ [32, 123]) ++ spJ ((x.tests.map (shSingle svd)).take i)) ++ (32 :: (shSingle svd) y) = (94 :: x.a ++ [32, 123]) ++ spJ ((x.tests.map (shSingle svd)).take (i + 1))) := by
        show _ = _
        rw [spJ_take _ (by simpa using hlt), show (x.tests.map (shSingle svd)).getD i [] = (shSingle svd) y by rw [hy]; rw [List.getD_eq_getElem?_getD, List.getElem?_map, List.getD_eq_getElem?_getD, List.getElem?_eq_getElem hlt]; rfl, List.append_assoc]; rfl
      have hle : ((94 :: x.a ++ [32, 123]) ++ spJ ((x.tests.map (shSingle svd)).take i)).length ≤ 2000 := by
        have h1 := spJ_le (x.tests.map (shSingle svd)) i
        have h2 := spJ_map (f := (shSingle svd)) (m := 70) (n := 12) (by omega) fun z hz => single_len (Q5.out z hz)
        simp only [List.length_append, List.length_cons, List.length_nil] at *
        omega
      have hfl : ((shSingle svd) y).length ≤ 70 := single_len hqy
      have hsz1 : (st ((94 :: x.a ++ [32, 123]) ++ spJ ((x.tests.map (shSingle svd)).take i))).size ≤ 2000 := by rw [st_size]; exact hle
      have hsz2 : (st ((shSingle svd) y)).size ≤ 70 := by rw [st_size]; exact hfl
      clear hle hfl
      have CT := fun W => rsingle_lit y W hfy hqy
      have HAP : Hid ((st ((94 :: x.a ++ [32, 123]) ++ spJ ((x.tests.map (shSingle svd)).take i)) ++ { data := #[32] }) ++ st ((shSingle svd) y) = st ((94 :: x.a ++ [32, 123]) ++ spJ ((x.tests.map (shSingle svd)).take (i + 1)))) := by
        show _ = _
        rw [show ({ data := #[32] } : ByteArray) = st [32] from rfl, st_app2, st_app2, ← HNX.out, List.append_assoc]; rfl
      generalize st ((94 :: x.a ++ [32, 123]) ++ spJ ((x.tests.map (shSingle svd)).take i)) = sa at *
      generalize st ((shSingle svd) y) = sb at *
      clear hy hm HNX u1 Q4 Q5 F1 F2
      go_wp2_with (go_at_call 32; refine (CT _).mono ?_; rintro e w3 ⟨rfl, hb3⟩; have B3 : Hid (Below (w.alloc (.cells #[.string (st x.a), .slice a1 x.ones.length c1, .slice (some ⟨b1, o1, none⟩) x.tests.length c2] 49)).heap.size (w.alloc (.cells #[.string (st x.a), .slice a1 x.ones.length c1, .slice (some ⟨b1, o1, none⟩) x.tests.length c2] 49)) w3) := bt HBR.out hb3; clear hb3 CT)
      go_roundw
      case rel => exact ⟨i + 1, by simp, by omega, congrArg Value.string HAP.out, B3.out⟩
      case measure => simp [intOf]; omega
    · have hiz : ¬ (i : Int) < x.tests.length := by omega
      obtain rfl : i = x.tests.length := by omega
      rw [List.take_of_length_le (by simp)]
      have h2 := spJ_map (f := (shSingle svd)) (m := 70) (n := 12) (l := x.tests) (by omega) fun z hz => single_len (Q5.out z hz)
      have hsz1 := st_size ((94 :: x.a ++ [32, 123]) ++ spJ (x.tests.map (shSingle svd)))
      have hle : ((94 :: x.a ++ [32, 123]) ++ spJ (x.tests.map (shSingle svd))).length ≤ 2000 := by
        simp only [List.length_append, List.length_cons, List.length_nil] at *
        omega
      have HAP : Hid (st ((94 :: x.a ++ [32, 123]) ++ spJ (x.tests.map (shSingle svd))) ++ { data := #[32, 125] } = st ((94 :: x.a ++ [32, 123]) ++ spJ (x.tests.map (shSingle svd)) ++ [32, 125])) := by
        show _ = _
        rw [show ({ data := #[32, 125] } : ByteArray) = st [32, 125] from rfl, st_app2]
      generalize st ((94 :: x.a ++ [32, 123]) ++ spJ (x.tests.map (shSingle svd))) = sa at *
      go_wp2
      go_ret
      exact ⟨congrArg (fun z => Ending.returned (.string z)) (HAP.out.trans (congrArg st (by simp))), bt (bxn _ _) HBR.out⟩
theorem rtest_any {P : Nat → Nat → Prop} (cs : List Value) (x : AttrD) (w : World) (h : ReA P w cs x) (hl : attrL x) (hf : fA x) : Calls Tryd.prog 16 #[.agg cs.toArray] w fun e w' => e = .returned (.string (st (shTest svd x))) ∧ Below w.heap.size w w' := by
  unfold shTest
  by_cases hn : x.ones = []
  · rw [if_neg (by simpa using hn)]
    have hn0 : x.ones.length = 0 := by rw [hn]; rfl
    by_cases ht : x.tests.length = 1
    · rw [if_pos ht]
      exact rtest_b cs x w h hl hf hn0 ht
    · rw [if_neg ht]
      have := rtest_c cs x w h hl hf hn0 ht
      simpa only [List.append_assoc, List.cons_append] using this
  · rw [if_pos hn]
    have := rtest_a cs x w h hl hf (List.length_pos_iff.2 hn)
    simpa only [List.append_assoc, List.cons_append] using this
end Go.Proofs.YtemacdimdpnkeaaDoor
namespace Go.Proofs.YtemacdimdpnkeaaDoor
open Go.RowKit
set_option linter.unusedVariables false
set_option linter.unusedSimpArgs false
set_option maxRecDepth 20000
abbrev a0 : AttrD := ⟨[], [], []⟩
set_option maxHeartbeats 4000000 in
theorem rcond_a {P : Nat → Nat → Prop} (v : Value) (x : CondD) (w : World) (h : Row 3 (ReA P) w (P 7) v x.attrs) (hl : condL x) (hf : fC x) : Calls Tryd.prog 14 #[.agg #[.bool true, .string (st x.c), v]] w fun e w' => e = .returned (.string (st (([45, 40] ++ x.c) ++ spJ (x.attrs.map (shTest svd)) ++ [41]))) ∧ Below w.heap.size w w' := by
  obtain ⟨css, s1, r1⟩ := h
  obtain ⟨a1, c1, rfl⟩ := s1.shape
  obtain ⟨-, l1, m1, q1⟩ := s1.row
  have HLN : Hid (css.length = x.attrs.length) := r1.len
  have R1 : Hid (∀ i, i < css.length → ∃ b off, a1 = some ⟨b, off, none⟩ ∧ b < w.heap.size ∧ ∀ j, j < 3 → w.cell? ⟨b, off + (i * 3 + j), none⟩ = (css.getD i [])[j]?) := q1
  have S1 : Hid (∀ i, i < css.length → ReA P w (css.getD i []) (x.attrs.getD i a0)) := fun i hi => r1.at i [] _ (by have := HLN.out; omega)
  have hq1 : x.c.length ≤ 60 := hl.1
  have hq2 : css.length ≤ 10 := by have := HLN.out; have := hl.2.1; omega
  have Q3 : Hid (∀ y ∈ x.attrs, attrL y) := hl.2.2
  have F1 : Hid (∀ y ∈ x.attrs, fA y) := hf
  have hnn : (css.length : Int) ≤ 9223372036854775807 := by omega
  have hsa := st_size x.c
  clear q1 r1 s1 hl hf
  have HX : Hid (∀ W, Below (w.alloc (.cells #[.bool true, .string (st x.c), .slice a1 css.length c1] 44)).heap.size (w.alloc (.cells #[.bool true, .string (st x.c), .slice a1 css.length c1] 44)) W → W.cell? ⟨w.heap.size, 0, none⟩ = some (.bool true) ∧ W.cell? ⟨w.heap.size, 1, none⟩ = some (.string (st x.c)) ∧ W.cell? ⟨w.heap.size, 2, none⟩ = some (.slice a1 css.length c1) ∧ w.heap.size < W.heap.size) := fun W hW =>
    ⟨by rw [hW.cell (p := ⟨w.heap.size, 0, none⟩) (by simp)]; simp, by rw [hW.cell (p := ⟨w.heap.size, 1, none⟩) (by simp)]; simp, by rw [hW.cell (p := ⟨w.heap.size, 2, none⟩) (by simp)]; simp, by have := hW.size; simp at this; omega⟩
  go_enter Tryd.func14, Tryd.ntmps14
  go_wp2
  go_loopw [3, 4] (fun v3 v4 wr => ∃ i : Nat, v4 = .int .i64 i ∧ i ≤ css.length ∧ v3 = .string (st (([45, 40] ++ x.c) ++ spJ ((x.attrs.map (shTest svd)).take i))) ∧ Below (w.alloc (.cells #[.bool true, .string (st x.c), .slice a1 css.length c1] 44)).heap.size (w.alloc (.cells #[.bool true, .string (st x.c), .slice a1 css.length c1] 44)) wr) (fun _ v4 _ => (css.length - intOf v4).toNat)
  case atStart => exact ⟨0, rfl, Nat.zero_le _, by rw [List.take_zero, show spJ [] = [] from rfl, List.append_nil, show ({ data := #[45, 40] } : ByteArray) = st [45, 40] from rfl, st_app2], Below.refl _ _⟩
  case round =>
    obtain ⟨i, rfl, hi, rfl, hbr⟩ := hrel
    have HBR : Hid (Below (w.alloc (.cells #[.bool true, .string (st x.c), .slice a1 css.length c1] 44)).heap.size (w.alloc (.cells #[.bool true, .string (st x.c), .slice a1 css.length c1] 44)) wr) := hbr
    obtain ⟨y0, y1, y2, y3⟩ := HX.out _ hbr
    clear hbr
    by_cases hlt : i < css.length
    · have hiz : (i : Int) < css.length := by omega
      have hlt2 : i < x.attrs.length := by have := HLN.out; omega
      obtain ⟨b1, o1, rfl, hb1, u1⟩ := R1.out i hlt
      obtain ⟨y, hy⟩ : ∃ y, y = x.attrs.getD i a0 := ⟨_, rfl⟩
      have hS := S1.out i hlt
      rw [← hy] at hS
      obtain ⟨cc, hcc⟩ : ∃ cc, cc = css.getD i [] := ⟨_, rfl⟩
      rw [← hcc] at hS u1
      clear hcc
      have hm : y ∈ x.attrs := by rw [hy]; exact getD_mem _ _ _ hlt2
      have hfy := F1.out y hm
      have hqy := Q3.out y hm
      have HW : Hid (Below w.heap.size w wr) := bt (bxn _ _) HBR.out
      have hS2 := hS
      obtain ⟨e1, e2, rfl, -, -⟩ := hS2
      have p0 : wr.cell? ⟨b1, o1 + i * 3, none⟩ = some (.string (st y.a)) := (HW.out.cell (p := ⟨b1, o1 + i * 3, none⟩) hb1).trans (u1 0 (by decide))
      have p1 : wr.cell? ⟨b1, o1 + i * 3 + 1, none⟩ = some (e1) := (HW.out.cell (p := ⟨b1, o1 + i * 3 + 1, none⟩) hb1).trans (u1 1 (by decide))
      have p2 : wr.cell? ⟨b1, o1 + i * 3 + 2, none⟩ = some (e2) := (HW.out.cell (p := ⟨b1, o1 + i * 3 + 2, none⟩) hb1).trans (u1 2 (by decide))
      have HS : Hid (ReA P w [.string (st y.a), e1, e2] y) := hS
      have HNX : Hid ((([45, 40] ++ x.c) ++ spJ ((x.attrs.map (shTest svd)).take i)) ++ (32 :: (shTest svd) y) = ([45, 40] ++ x.c) ++ spJ ((x.attrs.map (shTest svd)).take (i + 1))) := by
        show _ = _
        rw [spJ_take _ (by simpa using hlt2), show (x.attrs.map (shTest svd)).getD i [] = (shTest svd) y by rw [hy, getD_mapS _ _ _ a0 hlt2], List.append_assoc]; rfl
      have hle : (([45, 40] ++ x.c) ++ spJ ((x.attrs.map (shTest svd)).take i)).length ≤ 30000 := by
        have h1 := spJ_le (x.attrs.map (shTest svd)) i
        have h2 := spJ_map (f := (shTest svd)) (l := x.attrs) (m := 2000) (n := 10) (by have := HLN.out; omega) fun z hz => test_len (Q3.out z hz)
        simp only [List.length_append, List.length_cons, List.length_nil] at *
        omega
      have hfl : ((shTest svd) y).length ≤ 2000 := test_len (Q3.out y hm)
      have hsz1 : (st (([45, 40] ++ x.c) ++ spJ ((x.attrs.map (shTest svd)).take i))).size ≤ 30000 := by rw [st_size]; exact hle
      have hsz2 : (st ((shTest svd) y)).size ≤ 2000 := by rw [st_size]; exact hfl
      clear hle hfl
      have CT := fun W (hW : Below w.heap.size w W) => rtest_any _ y W (ReA.keep (Stays.below hW) HS.out) hqy hfy
      have HAP : Hid ((st (([45, 40] ++ x.c) ++ spJ ((x.attrs.map (shTest svd)).take i)) ++ { data := #[32] }) ++ st ((shTest svd) y) = st (([45, 40] ++ x.c) ++ spJ ((x.attrs.map (shTest svd)).take (i + 1)))) := by
        show _ = _
        rw [show ({ data := #[32] } : ByteArray) = st [32] from rfl, st_app2, st_app2, ← HNX.out, List.append_assoc]; rfl
      generalize st (([45, 40] ++ x.c) ++ spJ ((x.attrs.map (shTest svd)).take i)) = sa at *
      generalize st ((shTest svd) y) = sb at *
      clear hy hm HNX u1 hS Q3 F1
      go_wp2_with (go_at_call 16; refine (CT _ HW.out).mono ?_; rintro e w3 ⟨rfl, hb3⟩; have B3 : Hid (Below (w.alloc (.cells #[.bool true, .string (st x.c), .slice (some ⟨b1, o1, none⟩) css.length c1] 44)).heap.size (w.alloc (.cells #[.bool true, .string (st x.c), .slice (some ⟨b1, o1, none⟩) css.length c1] 44)) w3) := bt HBR.out hb3; clear hb3 CT)
      go_roundw
      case rel => exact ⟨i + 1, by simp, by omega, congrArg Value.string HAP.out, B3.out⟩
      case measure => simp [intOf]; omega
    · have hiz : ¬ (i : Int) < css.length := by omega
      obtain rfl : i = css.length := by omega
      rw [List.take_of_length_le (by have := HLN.out; simp; omega)]
      have h2 := spJ_map (f := (shTest svd)) (m := 2000) (n := 10) (l := x.attrs) (by have := HLN.out; omega) fun z hz => test_len (Q3.out z hz)
      have hle : (([45, 40] ++ x.c) ++ spJ (x.attrs.map (shTest svd))).length ≤ 30000 := by
        simp only [List.length_append, List.length_cons, List.length_nil] at *
        omega
      have hsz1 : (st (([45, 40] ++ x.c) ++ spJ (x.attrs.map (shTest svd)))).size ≤ 30000 := by rw [st_size]; exact hle
      clear hle h2
      have HAP : Hid (st (([45, 40] ++ x.c) ++ spJ (x.attrs.map (shTest svd))) ++ { data := #[41] } = st (([45, 40] ++ x.c) ++ spJ (x.attrs.map (shTest svd)) ++ [41])) := by
        show _ = _
        rw [show ({ data := #[41] } : ByteArray) = st [41] from rfl, st_app2]
      generalize st (([45, 40] ++ x.c) ++ spJ (x.attrs.map (shTest svd))) = sa at *
      go_wp2
      go_ret
      exact ⟨congrArg (fun z => Ending.returned (.string z)) (HAP.out.trans (congrArg st (by simp))), bt (bxn _ _) HBR.out⟩
set_option maxHeartbeats 4000000 in
theorem rcond_b {P : Nat → Nat → Prop} (v : Value) (x : CondD) (w : World) (h : Row 3 (ReA P) w (P 7) v x.attrs) (hl : condL x) (hf : fC x) : Calls Tryd.prog 14 #[.agg #[.bool false, .string (st x.c), v]] w fun e w' => e = .returned (.string (st (([40] ++ x.c) ++ spJ (x.attrs.map (shTest svd)) ++ [41]))) ∧ Below w.heap.size w w' := by
  obtain ⟨css, s1, r1⟩ := h
  obtain ⟨a1, c1, rfl⟩ := s1.shape
  obtain ⟨-, l1, m1, q1⟩ := s1.row
  have HLN : Hid (css.length = x.attrs.length) := r1.len
  have R1 : Hid (∀ i, i < css.length → ∃ b off, a1 = some ⟨b, off, none⟩ ∧ b < w.heap.size ∧ ∀ j, j < 3 → w.cell? ⟨b, off + (i * 3 + j), none⟩ = (css.getD i [])[j]?) := q1
  have S1 : Hid (∀ i, i < css.length → ReA P w (css.getD i []) (x.attrs.getD i a0)) := fun i hi => r1.at i [] _ (by have := HLN.out; omega)
  have hq1 : x.c.length ≤ 60 := hl.1
  have hq2 : css.length ≤ 10 := by have := HLN.out; have := hl.2.1; omega
  have Q3 : Hid (∀ y ∈ x.attrs, attrL y) := hl.2.2
  have F1 : Hid (∀ y ∈ x.attrs, fA y) := hf
  have hnn : (css.length : Int) ≤ 9223372036854775807 := by omega
  have hsa := st_size x.c
  clear q1 r1 s1 hl hf
  have HX : Hid (∀ W, Below (w.alloc (.cells #[.bool false, .string (st x.c), .slice a1 css.length c1] 44)).heap.size (w.alloc (.cells #[.bool false, .string (st x.c), .slice a1 css.length c1] 44)) W → W.cell? ⟨w.heap.size, 0, none⟩ = some (.bool false) ∧ W.cell? ⟨w.heap.size, 1, none⟩ = some (.string (st x.c)) ∧ W.cell? ⟨w.heap.size, 2, none⟩ = some (.slice a1 css.length c1) ∧ w.heap.size < W.heap.size) := fun W hW =>
    ⟨by rw [hW.cell (p := ⟨w.heap.size, 0, none⟩) (by simp)]; simp, by rw [hW.cell (p := ⟨w.heap.size, 1, none⟩) (by simp)]; simp, by rw [hW.cell (p := ⟨w.heap.size, 2, none⟩) (by simp)]; simp, by have := hW.size; simp at this; omega⟩
  go_enter Tryd.func14, Tryd.ntmps14
  go_wp2
  go_loopw [3, 4] (fun v3 v4 wr => ∃ i : Nat, v4 = .int .i64 i ∧ i ≤ css.length ∧ v3 = .string (st (([40] ++ x.c) ++ spJ ((x.attrs.map (shTest svd)).take i))) ∧ Below (w.alloc (.cells #[.bool false, .string (st x.c), .slice a1 css.length c1] 44)).heap.size (w.alloc (.cells #[.bool false, .string (st x.c), .slice a1 css.length c1] 44)) wr) (fun _ v4 _ => (css.length - intOf v4).toNat)
  case atStart => exact ⟨0, rfl, Nat.zero_le _, by rw [List.take_zero, show spJ [] = [] from rfl, List.append_nil, show ({ data := #[40] } : ByteArray) = st [40] from rfl, st_app2], Below.refl _ _⟩
  case round =>
    obtain ⟨i, rfl, hi, rfl, hbr⟩ := hrel
    have HBR : Hid (Below (w.alloc (.cells #[.bool false, .string (st x.c), .slice a1 css.length c1] 44)).heap.size (w.alloc (.cells #[.bool false, .string (st x.c), .slice a1 css.length c1] 44)) wr) := hbr
    obtain ⟨y0, y1, y2, y3⟩ := HX.out _ hbr
    clear hbr
    by_cases hlt : i < css.length
    · have hiz : (i : Int) < css.length := by omega
      have hlt2 : i < x.attrs.length := by have := HLN.out; omega
      obtain ⟨b1, o1, rfl, hb1, u1⟩ := R1.out i hlt
      obtain ⟨y, hy⟩ : ∃ y, y = x.attrs.getD i a0 := ⟨_, rfl⟩
      have hS := S1.out i hlt
      rw [← hy] at hS
      obtain ⟨cc, hcc⟩ : ∃ cc, cc = css.getD i [] := ⟨_, rfl⟩
      rw [← hcc] at hS u1
      clear hcc
      have hm : y ∈ x.attrs := by rw [hy]; exact getD_mem _ _ _ hlt2
      have hfy := F1.out y hm
      have hqy := Q3.out y hm
      have HW : Hid (Below w.heap.size w wr) := bt (bxn _ _) HBR.out
      have hS2 := hS
      obtain ⟨e1, e2, rfl, -, -⟩ := hS2
      have p0 : wr.cell? ⟨b1, o1 + i * 3, none⟩ = some (.string (st y.a)) := (HW.out.cell (p := ⟨b1, o1 + i * 3, none⟩) hb1).trans (u1 0 (by decide))
      have p1 : wr.cell? ⟨b1, o1 + i * 3 + 1, none⟩ = some (e1) := (HW.out.cell (p := ⟨b1, o1 + i * 3 + 1, none⟩) hb1).trans (u1 1 (by decide))
      have p2 : wr.cell? ⟨b1, o1 + i * 3 + 2, none⟩ = some (e2) := (HW.out.cell (p := ⟨b1, o1 + i * 3 + 2, none⟩) hb1).trans (u1 2 (by decide))
      have HS : Hid (ReA P w [.string (st y.a), e1, e2] y) := hS
      have HNX : Hid ((([40] ++ x.c) ++ spJ ((x.attrs.map (shTest svd)).take i)) ++ (32 :: (shTest svd) y) = ([40] ++ x.c) ++ spJ ((x.attrs.map (shTest svd)).take (i + 1))) := by
        show _ = _
        rw [spJ_take _ (by simpa using hlt2), show (x.attrs.map (shTest svd)).getD i [] = (shTest svd) y by rw [hy, getD_mapS _ _ _ a0 hlt2], List.append_assoc]; rfl
      have hle : (([40] ++ x.c) ++ spJ ((x.attrs.map (shTest svd)).take i)).length ≤ 30000 := by
        have h1 := spJ_le (x.attrs.map (shTest svd)) i
        have h2 := spJ_map (f := (shTest svd)) (l := x.attrs) (m := 2000) (n := 10) (by have := HLN.out; omega) fun z hz => test_len (Q3.out z hz)
        simp only [List.length_append, List.length_cons, List.length_nil] at *
        omega
      have hfl : ((shTest svd) y).length ≤ 2000 := test_len (Q3.out y hm)
      have hsz1 : (st (([40] ++ x.c) ++ spJ ((x.attrs.map (shTest svd)).take i))).size ≤ 30000 := by rw [st_size]; exact hle
      have hsz2 : (st ((shTest svd) y)).size ≤ 2000 := by rw [st_size]; exact hfl
      clear hle hfl
      have CT := fun W (hW : Below w.heap.size w W) => rtest_any _ y W (ReA.keep (Stays.below hW) HS.out) hqy hfy
      have HAP : Hid ((st (([40] ++ x.c) ++ spJ ((x.attrs.map (shTest svd)).take i)) ++ { data := #[32] }) ++ st ((shTest svd) y) = st (([40] ++ x.c) ++ spJ ((x.attrs.map (shTest svd)).take (i + 1)))) := by
        show _ = _
        rw [show ({ data := #[32] } : ByteArray) = st [32] from rfl, st_app2, st_app2, ← HNX.out, List.append_assoc]; rfl
      generalize st (([40] ++ x.c) ++ spJ ((x.attrs.map (shTest svd)).take i)) = sa at *
      generalize st ((shTest svd) y) = sb at *
      clear hy hm HNX u1 hS Q3 F1
      go_wp2_with (go_at_call 16; refine (CT _ HW.out).mono ?_; rintro e w3 ⟨rfl, hb3⟩; have B3 : Hid (Below (w.alloc (.cells #[.bool false, .string (st x.c), .slice (some ⟨b1, o1, none⟩) css.length c1] 44)).heap.size (w.alloc (.cells #[.bool false, .string (st x.c), .slice (some ⟨b1, o1, none⟩) css.length c1] 44)) w3) := bt HBR.out hb3; clear hb3 CT)
      go_roundw
      case rel => exact ⟨i + 1, by simp, by omega, congrArg Value.string HAP.out, B3.out⟩
      case measure => simp [intOf]; omega
    · have hiz : ¬ (i : Int) < css.length := by omega
      obtain rfl : i = css.length := by omega
      rw [List.take_of_length_le (by have := HLN.out; simp; omega)]
      have h2 := spJ_map (f := (shTest svd)) (m := 2000) (n := 10) (l := x.attrs) (by have := HLN.out; omega) fun z hz => test_len (Q3.out z hz)
      have hle : (([40] ++ x.c) ++ spJ (x.attrs.map (shTest svd))).length ≤ 30000 := by
        simp only [List.length_append, List.length_cons, List.length_nil] at *
        omega
      have hsz1 : (st (([40] ++ x.c) ++ spJ (x.attrs.map (shTest svd)))).size ≤ 30000 := by rw [st_size]; exact hle
      clear hle h2
      have HAP : Hid (st (([40] ++ x.c) ++ spJ (x.attrs.map (shTest svd))) ++ { data := #[41] } = st (([40] ++ x.c) ++ spJ (x.attrs.map (shTest svd)) ++ [41])) := by
        show _ = _
        rw [show ({ data := #[41] } : ByteArray) = st [41] from rfl, st_app2]
      generalize st (([40] ++ x.c) ++ spJ (x.attrs.map (shTest svd))) = sa at *
      go_wp2
      go_ret
      exact ⟨congrArg (fun z => Ending.returned (.string z)) (HAP.out.trans (congrArg st (by simp))), bt (bxn _ _) HBR.out⟩
theorem rcond_any {P : Nat → Nat → Prop} (cs : List Value) (x : CondD) (w : World) (h : ReC P w cs x) (hl : condL x) (hf : fC x) : Calls Tryd.prog 14 #[.agg cs.toArray] w fun e w' => e = .returned (.string (st (shCond svd x))) ∧ Below w.heap.size w w' := by
  unfold shCond
  obtain ⟨v, rfl, hr⟩ := h
  cases hn : x.neg with
  | true => exact rcond_a v x w hr hl hf
  | false => exact rcond_b v x w hr hl hf
end Go.Proofs.YtemacdimdpnkeaaDoor
namespace Go.Proofs.YtemacdimdpnkeaaDoor
open Go.RowKit
set_option linter.unusedVariables false
set_option linter.unusedSimpArgs false
set_option maxRecDepth 20000
abbrev s0 : SetD := ⟨[], []⟩
theorem told35 (n : Int) (h0 : -1099511627776 ≤ n) (h1 : n ≤ 1099511627776) (w : World) : Calls Tryd.prog 35 #[.int .i64 n] w fun e w' => e = .returned (.string (st (Lib.itoa n))) ∧ w' = w := (told_any n w h0 h1)

set_option maxHeartbeats 4000000 in
theorem ract_a {P : Nat → Nat → Prop} (v : Value) (ve : Value) (x : ActD) (w : World) (h : Row 2 (ReS P) w (P 5) v x.sets) (hl : actL x) (hf : gAct x) : Calls Tryd.prog 18 #[.agg #[.int .u8 0, .string (st x.c), .int .i64 x.n, .string (st x.v), v, ve]] w fun e w' => e = .returned (.string (st ((40 :: sMake ++ 32 :: x.c) ++ spJ (x.sets.map (shSet svd)) ++ [41]))) ∧ Below w.heap.size w w' := by
  obtain ⟨css, s1, r1⟩ := h
  obtain ⟨a1, c1, rfl⟩ := s1.shape
  obtain ⟨-, l1, m1, q1⟩ := s1.row
  have HLN : Hid (css.length = x.sets.length) := r1.len
  have R1 : Hid (∀ i, i < css.length → ∃ b off, a1 = some ⟨b, off, none⟩ ∧ b < w.heap.size ∧ ∀ j, j < 2 → w.cell? ⟨b, off + (i * 2 + j), none⟩ = (css.getD i [])[j]?) := q1
  have S1 : Hid (∀ i, i < css.length → ReS P w (css.getD i []) (x.sets.getD i s0)) := fun i hi => r1.at i [] _ (by have := HLN.out; omega)
  have hq1 : x.c.length ≤ 60 := hl.1
  have hq3 : x.v.length ≤ 60 := hl.2.1
  have hq2 : css.length ≤ 10 := by have := HLN.out; have := hl.2.2.1; omega
  have Q3 : Hid (∀ y ∈ x.sets, setL y) := hl.2.2.2.2.1
  have F1 : Hid (∀ y ∈ x.sets, gS y) := hf.2.2.1
  have hit := (itoa_len x.n hf.1 hf.2.1).2
  have hit2 : (Lib.itoa x.n).length ≤ 22 := hit
  have hn0 := hf.1
  have hn1 := hf.2.1
  have hnn : (css.length : Int) ≤ 9223372036854775807 := by omega
  have hsa := st_size x.c
  have hsb := st_size x.v
  have hsc := st_size (Lib.itoa x.n)
  clear q1 r1 s1 hl hf
  have HX : Hid (∀ W, Below (w.alloc (.cells #[.int .u8 0, .string (st x.c), .int .i64 x.n, .string (st x.v), .slice a1 css.length c1, ve] 54)).heap.size (w.alloc (.cells #[.int .u8 0, .string (st x.c), .int .i64 x.n, .string (st x.v), .slice a1 css.length c1, ve] 54)) W → W.cell? ⟨w.heap.size, 0, none⟩ = some (.int .u8 0) ∧ W.cell? ⟨w.heap.size, 1, none⟩ = some (.string (st x.c)) ∧ W.cell? ⟨w.heap.size, 2, none⟩ = some (.int .i64 x.n) ∧ W.cell? ⟨w.heap.size, 3, none⟩ = some (.string (st x.v)) ∧ W.cell? ⟨w.heap.size, 4, none⟩ = some (.slice a1 css.length c1) ∧ W.cell? ⟨w.heap.size, 5, none⟩ = some (ve) ∧ w.heap.size < W.heap.size) := fun W hW =>
    ⟨by rw [hW.cell (p := ⟨w.heap.size, 0, none⟩) (by simp)]; simp, by rw [hW.cell (p := ⟨w.heap.size, 1, none⟩) (by simp)]; simp, by rw [hW.cell (p := ⟨w.heap.size, 2, none⟩) (by simp)]; simp, by rw [hW.cell (p := ⟨w.heap.size, 3, none⟩) (by simp)]; simp, by rw [hW.cell (p := ⟨w.heap.size, 4, none⟩) (by simp)]; simp, by rw [hW.cell (p := ⟨w.heap.size, 5, none⟩) (by simp)]; simp, by have := hW.size; simp at this; omega⟩
  go_enter Tryd.func18, Tryd.ntmps18
  go_wp2
  go_loopw [3, 4, 5, 6] (fun v3 v4 v5 v6 wr => ∃ i : Nat, v4 = .int .i64 i ∧ i ≤ css.length ∧ v3 = .string (st ((40 :: sMake ++ 32 :: x.c) ++ spJ ((x.sets.map (shSet svd)).take i))) ∧ Below (w.alloc (.cells #[.int .u8 0, .string (st x.c), .int .i64 x.n, .string (st x.v), .slice a1 css.length c1, ve] 54)).heap.size (w.alloc (.cells #[.int .u8 0, .string (st x.c), .int .i64 x.n, .string (st x.v), .slice a1 css.length c1, ve] 54)) wr) (fun _ v4 _ _ _ => (css.length - intOf v4).toNat)
  case atStart => exact ⟨0, rfl, Nat.zero_le _, by rw [List.take_zero, show spJ [] = [] from rfl, List.append_nil, show ({ data := #[40, 109, 97, 107, 101, 32] } : ByteArray) = st [40, 109, 97, 107, 101, 32] from rfl, st_app2]; rfl, Below.refl _ _⟩
  case round =>
    obtain ⟨i, rfl, hi, rfl, hbr⟩ := hrel
    have HBR : Hid (Below (w.alloc (.cells #[.int .u8 0, .string (st x.c), .int .i64 x.n, .string (st x.v), .slice a1 css.length c1, ve] 54)).heap.size (w.alloc (.cells #[.int .u8 0, .string (st x.c), .int .i64 x.n, .string (st x.v), .slice a1 css.length c1, ve] 54)) wr) := hbr
    obtain ⟨y0, y1, y2, y3, y4, y5, y6⟩ := HX.out _ hbr
    clear hbr
    by_cases hlt : i < css.length
    · have hiz : (i : Int) < css.length := by omega
      have hlt2 : i < x.sets.length := by have := HLN.out; omega
      obtain ⟨b1, o1, rfl, hb1, u1⟩ := R1.out i hlt
      obtain ⟨y, hy⟩ : ∃ y, y = x.sets.getD i s0 := ⟨_, rfl⟩
      have hS := S1.out i hlt
      rw [← hy] at hS
      obtain ⟨cc, hcc⟩ : ∃ cc, cc = css.getD i [] := ⟨_, rfl⟩
      rw [← hcc] at hS u1
      clear hcc
      have hm : y ∈ x.sets := by rw [hy]; exact getD_mem _ _ _ hlt2
      have hfy := F1.out y hm
      have hqy := Q3.out y hm
      have hqa : y.a.length ≤ 60 := hqy.1
      have hsy := st_size y.a
      have HW : Hid (Below w.heap.size w wr) := bt (bxn _ _) HBR.out
      have hS2 := hS
      obtain ⟨e1, rfl, hsl⟩ := hS2
      have HSL : Hid (SlW 5 w (P 4) e1 (y.e.map clI)) := hsl
      have p0 : wr.cell? ⟨b1, o1 + i * 2, none⟩ = some (.string (st y.a)) := (HW.out.cell (p := ⟨b1, o1 + i * 2, none⟩) hb1).trans (u1 0 (by decide))
      have p1 : wr.cell? ⟨b1, o1 + i * 2 + 1, none⟩ = some (e1) := (HW.out.cell (p := ⟨b1, o1 + i * 2 + 1, none⟩) hb1).trans (u1 1 (by decide))
      have HNX : Hid (((40 :: sMake ++ 32 :: x.c) ++ spJ ((x.sets.map (shSet svd)).take i)) ++ (32 :: (shSet svd) y) = (40 :: sMake ++ 32 :: x.c) ++ spJ ((x.sets.map (shSet svd)).take (i + 1))) := by
        show _ = _
        rw [spJ_take _ (by simpa using hlt2), show (x.sets.map (shSet svd)).getD i [] = (shSet svd) y by rw [hy, getD_mapS _ _ _ s0 hlt2], List.append_assoc]; rfl
      have hle : ((40 :: sMake ++ 32 :: x.c) ++ spJ ((x.sets.map (shSet svd)).take i)).length ≤ 90000 := by
        have h1 := spJ_le (x.sets.map (shSet svd)) i
        have h2 := spJ_map (f := (shSet svd)) (l := x.sets) (m := 3000) (n := 10) (by have := HLN.out; omega) fun z hz => set_len (Q3.out z hz)
        simp only [sMake, sModify, sBind, sWrite, List.length_append, List.length_cons, List.length_nil] at *
        omega
      have hfl : (shE svd y.e).length ≤ 2800 := expr_len hqy.2
      have hsz1 : (st ((40 :: sMake ++ 32 :: x.c) ++ spJ ((x.sets.map (shSet svd)).take i))).size ≤ 90000 := by rw [st_size]; exact hle
      have hsz2 : (st (shE svd y.e)).size ≤ 2800 := by rw [st_size]; exact hfl
      clear hle hfl
      have CT := fun W (hW : Below w.heap.size w W) => rexp_any e1 y.e W (HSL.out.keep (Stays.below hW)) hqy.2 hfy.1
      have HAP : Hid ((((st ((40 :: sMake ++ 32 :: x.c) ++ spJ ((x.sets.map (shSet svd)).take i)) ++ { data := #[32, 94] }) ++ st y.a) ++ { data := #[32] }) ++ st (shE svd y.e) = st ((40 :: sMake ++ 32 :: x.c) ++ spJ ((x.sets.map (shSet svd)).take (i + 1)))) := by
        show _ = _
        rw [show ({ data := #[32] } : ByteArray) = st [32] from rfl, show ({ data := #[32, 94] } : ByteArray) = st [32, 94] from rfl, st_app2, st_app2, st_app2, st_app2, ← HNX.out]; simp [shSet]
      generalize st ((40 :: sMake ++ 32 :: x.c) ++ spJ ((x.sets.map (shSet svd)).take i)) = sa at *
      unfold ExPost at CT
      generalize st (shE svd y.e) = sb at *
      generalize (shExpr svd y.e).isSome = bE at *
      clear hy hm HNX u1 hS Q3 F1 HSL
      go_wp2_with (go_at_call 8; refine (CT _ HW.out).mono ?_; rintro e w3 ⟨rfl, hb3⟩; have B3 : Hid (Below (w.alloc (.cells #[.int .u8 0, .string (st x.c), .int .i64 x.n, .string (st x.v), .slice (some ⟨b1, o1, none⟩) css.length c1, ve] 54)).heap.size (w.alloc (.cells #[.int .u8 0, .string (st x.c), .int .i64 x.n, .string (st x.v), .slice (some ⟨b1, o1, none⟩) css.length c1, ve] 54)) w3) := bt HBR.out hb3; obtain ⟨z0, z1, z2, z3, z4, z5, z6⟩ := HX.out _ B3.out; have zr : w3.cell? ⟨b1, o1 + i * 2, none⟩ = some (.string (st y.a)) := (hb3.cell (p := ⟨b1, o1 + i * 2, none⟩) (by have := HW.out.size; show b1 < _; omega)).trans p0; clear hb3 CT)
      go_roundw
      case rel => exact ⟨i + 1, by simp, by omega, congrArg Value.string HAP.out, B3.out⟩
      case measure => simp [intOf]; omega
    · have hiz : ¬ (i : Int) < css.length := by omega
      obtain rfl : i = css.length := by omega
      rw [List.take_of_length_le (by have := HLN.out; simp; omega)]
      have h2 := spJ_map (f := (shSet svd)) (m := 3000) (n := 10) (l := x.sets) (by have := HLN.out; omega) fun z hz => set_len (Q3.out z hz)
      have hle : ((40 :: sMake ++ 32 :: x.c) ++ spJ (x.sets.map (shSet svd))).length ≤ 90000 := by
        simp only [sMake, sModify, sBind, sWrite, List.length_append, List.length_cons, List.length_nil] at *
        omega
      have hsz1 : (st ((40 :: sMake ++ 32 :: x.c) ++ spJ (x.sets.map (shSet svd)))).size ≤ 90000 := by rw [st_size]; exact hle
      clear hle h2
      have HAP : Hid (st ((40 :: sMake ++ 32 :: x.c) ++ spJ (x.sets.map (shSet svd))) ++ { data := #[41] } = st ((40 :: sMake ++ 32 :: x.c) ++ spJ (x.sets.map (shSet svd)) ++ [41])) := by
        show _ = _
        rw [show ({ data := #[41] } : ByteArray) = st [41] from rfl, st_app2]
      generalize st ((40 :: sMake ++ 32 :: x.c) ++ spJ (x.sets.map (shSet svd))) = sa at *
      go_wp2
      go_ret
      exact ⟨congrArg (fun z => Ending.returned (.string z)) (HAP.out.trans (congrArg st (by simp))), bt (bxn _ _) HBR.out⟩
set_option maxHeartbeats 4000000 in
theorem ract_b {P : Nat → Nat → Prop} (v : Value) (ve : Value) (x : ActD) (w : World) (h : Row 2 (ReS P) w (P 5) v x.sets) (hl : actL x) (hf : gAct x) : Calls Tryd.prog 18 #[.agg #[.int .u8 1, .string (st x.c), .int .i64 x.n, .string (st x.v), v, ve]] w fun e w' => e = .returned (.string (st ((40 :: sModify ++ 32 :: Lib.itoa x.n) ++ spJ (x.sets.map (shSet svd)) ++ [41]))) ∧ Below w.heap.size w w' := by
  obtain ⟨css, s1, r1⟩ := h
  obtain ⟨a1, c1, rfl⟩ := s1.shape
  obtain ⟨-, l1, m1, q1⟩ := s1.row
  have HLN : Hid (css.length = x.sets.length) := r1.len
  have R1 : Hid (∀ i, i < css.length → ∃ b off, a1 = some ⟨b, off, none⟩ ∧ b < w.heap.size ∧ ∀ j, j < 2 → w.cell? ⟨b, off + (i * 2 + j), none⟩ = (css.getD i [])[j]?) := q1
  have S1 : Hid (∀ i, i < css.length → ReS P w (css.getD i []) (x.sets.getD i s0)) := fun i hi => r1.at i [] _ (by have := HLN.out; omega)
  have hq1 : x.c.length ≤ 60 := hl.1
  have hq3 : x.v.length ≤ 60 := hl.2.1
  have hq2 : css.length ≤ 10 := by have := HLN.out; have := hl.2.2.1; omega
  have Q3 : Hid (∀ y ∈ x.sets, setL y) := hl.2.2.2.2.1
  have F1 : Hid (∀ y ∈ x.sets, gS y) := hf.2.2.1
  have hit := (itoa_len x.n hf.1 hf.2.1).2
  have hit2 : (Lib.itoa x.n).length ≤ 22 := hit
  have hn0 := hf.1
  have hn1 := hf.2.1
  have hnn : (css.length : Int) ≤ 9223372036854775807 := by omega
  have hsa := st_size x.c
  have hsb := st_size x.v
  have hsc := st_size (Lib.itoa x.n)
  clear q1 r1 s1 hl hf
  have HX : Hid (∀ W, Below (w.alloc (.cells #[.int .u8 1, .string (st x.c), .int .i64 x.n, .string (st x.v), .slice a1 css.length c1, ve] 54)).heap.size (w.alloc (.cells #[.int .u8 1, .string (st x.c), .int .i64 x.n, .string (st x.v), .slice a1 css.length c1, ve] 54)) W → W.cell? ⟨w.heap.size, 0, none⟩ = some (.int .u8 1) ∧ W.cell? ⟨w.heap.size, 1, none⟩ = some (.string (st x.c)) ∧ W.cell? ⟨w.heap.size, 2, none⟩ = some (.int .i64 x.n) ∧ W.cell? ⟨w.heap.size, 3, none⟩ = some (.string (st x.v)) ∧ W.cell? ⟨w.heap.size, 4, none⟩ = some (.slice a1 css.length c1) ∧ W.cell? ⟨w.heap.size, 5, none⟩ = some (ve) ∧ w.heap.size < W.heap.size) := fun W hW =>
    ⟨by rw [hW.cell (p := ⟨w.heap.size, 0, none⟩) (by simp)]; simp, by rw [hW.cell (p := ⟨w.heap.size, 1, none⟩) (by simp)]; simp, by rw [hW.cell (p := ⟨w.heap.size, 2, none⟩) (by simp)]; simp, by rw [hW.cell (p := ⟨w.heap.size, 3, none⟩) (by simp)]; simp, by rw [hW.cell (p := ⟨w.heap.size, 4, none⟩) (by simp)]; simp, by rw [hW.cell (p := ⟨w.heap.size, 5, none⟩) (by simp)]; simp, by have := hW.size; simp at this; omega⟩
  go_enter Tryd.func18, Tryd.ntmps18
  go_wp2_with (go_at_call 35; refine (told35 _ hn0 hn1 _).mono ?_; rintro e wq ⟨rfl, rfl⟩)
  go_loopw [3, 4, 5, 6] (fun v3 v4 v5 v6 wr => ∃ i : Nat, v4 = .int .i64 i ∧ i ≤ css.length ∧ v3 = .string (st ((40 :: sModify ++ 32 :: Lib.itoa x.n) ++ spJ ((x.sets.map (shSet svd)).take i))) ∧ Below (w.alloc (.cells #[.int .u8 1, .string (st x.c), .int .i64 x.n, .string (st x.v), .slice a1 css.length c1, ve] 54)).heap.size (w.alloc (.cells #[.int .u8 1, .string (st x.c), .int .i64 x.n, .string (st x.v), .slice a1 css.length c1, ve] 54)) wr) (fun _ v4 _ _ _ => (css.length - intOf v4).toNat)
  case atStart => exact ⟨0, rfl, Nat.zero_le _, by rw [List.take_zero, show spJ [] = [] from rfl, List.append_nil, show ({ data := #[40, 109, 111, 100, 105, 102, 121, 32] } : ByteArray) = st [40, 109, 111, 100, 105, 102, 121, 32] from rfl, st_app2]; rfl, Below.refl _ _⟩
  case round =>
    obtain ⟨i, rfl, hi, rfl, hbr⟩ := hrel
    have HBR : Hid (Below (w.alloc (.cells #[.int .u8 1, .string (st x.c), .int .i64 x.n, .string (st x.v), .slice a1 css.length c1, ve] 54)).heap.size (w.alloc (.cells #[.int .u8 1, .string (st x.c), .int .i64 x.n, .string (st x.v), .slice a1 css.length c1, ve] 54)) wr) := hbr
    obtain ⟨y0, y1, y2, y3, y4, y5, y6⟩ := HX.out _ hbr
    clear hbr
    by_cases hlt : i < css.length
    · have hiz : (i : Int) < css.length := by omega
      have hlt2 : i < x.sets.length := by have := HLN.out; omega
      obtain ⟨b1, o1, rfl, hb1, u1⟩ := R1.out i hlt
      obtain ⟨y, hy⟩ : ∃ y, y = x.sets.getD i s0 := ⟨_, rfl⟩
      have hS := S1.out i hlt
      rw [← hy] at hS
      obtain ⟨cc, hcc⟩ : ∃ cc, cc = css.getD i [] := ⟨_, rfl⟩
      rw [← hcc] at hS u1
      clear hcc
      have hm : y ∈ x.sets := by rw [hy]; exact getD_mem _ _ _ hlt2
      have hfy := F1.out y hm
      have hqy := Q3.out y hm
      have hqa : y.a.length ≤ 60 := hqy.1
      have hsy := st_size y.a
      have HW : Hid (Below w.heap.size w wr) := bt (bxn _ _) HBR.out
      have hS2 := hS
      obtain ⟨e1, rfl, hsl⟩ := hS2
      have HSL : Hid (SlW 5 w (P 4) e1 (y.e.map clI)) := hsl
      have p0 : wr.cell? ⟨b1, o1 + i * 2, none⟩ = some (.string (st y.a)) := (HW.out.cell (p := ⟨b1, o1 + i * 2, none⟩) hb1).trans (u1 0 (by decide))
      have p1 : wr.cell? ⟨b1, o1 + i * 2 + 1, none⟩ = some (e1) := (HW.out.cell (p := ⟨b1, o1 + i * 2 + 1, none⟩) hb1).trans (u1 1 (by decide))
      have HNX : Hid (((40 :: sModify ++ 32 :: Lib.itoa x.n) ++ spJ ((x.sets.map (shSet svd)).take i)) ++ (32 :: (shSet svd) y) = (40 :: sModify ++ 32 :: Lib.itoa x.n) ++ spJ ((x.sets.map (shSet svd)).take (i + 1))) := by
        show _ = _
        rw [spJ_take _ (by simpa using hlt2), show (x.sets.map (shSet svd)).getD i [] = (shSet svd) y by rw [hy, getD_mapS _ _ _ s0 hlt2], List.append_assoc]; rfl
      have hle : ((40 :: sModify ++ 32 :: Lib.itoa x.n) ++ spJ ((x.sets.map (shSet svd)).take i)).length ≤ 90000 := by
        have h1 := spJ_le (x.sets.map (shSet svd)) i
        have h2 := spJ_map (f := (shSet svd)) (l := x.sets) (m := 3000) (n := 10) (by have := HLN.out; omega) fun z hz => set_len (Q3.out z hz)
        simp only [sMake, sModify, sBind, sWrite, List.length_append, List.length_cons, List.length_nil] at *
        omega
      have hfl : (shE svd y.e).length ≤ 2800 := expr_len hqy.2
      have hsz1 : (st ((40 :: sModify ++ 32 :: Lib.itoa x.n) ++ spJ ((x.sets.map (shSet svd)).take i))).size ≤ 90000 := by rw [st_size]; exact hle
      have hsz2 : (st (shE svd y.e)).size ≤ 2800 := by rw [st_size]; exact hfl
      clear hle hfl
      have CT := fun W (hW : Below w.heap.size w W) => rexp_any e1 y.e W (HSL.out.keep (Stays.below hW)) hqy.2 hfy.1
      have HAP : Hid ((((st ((40 :: sModify ++ 32 :: Lib.itoa x.n) ++ spJ ((x.sets.map (shSet svd)).take i)) ++ { data := #[32, 94] }) ++ st y.a) ++ { data := #[32] }) ++ st (shE svd y.e) = st ((40 :: sModify ++ 32 :: Lib.itoa x.n) ++ spJ ((x.sets.map (shSet svd)).take (i + 1)))) := by
        show _ = _
        rw [show ({ data := #[32] } : ByteArray) = st [32] from rfl, show ({ data := #[32, 94] } : ByteArray) = st [32, 94] from rfl, st_app2, st_app2, st_app2, st_app2, ← HNX.out]; simp [shSet]
      generalize st ((40 :: sModify ++ 32 :: Lib.itoa x.n) ++ spJ ((x.sets.map (shSet svd)).take i)) = sa at *
      unfold ExPost at CT
      generalize st (shE svd y.e) = sb at *
      generalize (shExpr svd y.e).isSome = bE at *
      clear hy hm HNX u1 hS Q3 F1 HSL
      go_wp2_with (go_at_call 8; refine (CT _ HW.out).mono ?_; rintro e w3 ⟨rfl, hb3⟩; have B3 : Hid (Below (w.alloc (.cells #[.int .u8 1, .string (st x.c), .int .i64 x.n, .string (st x.v), .slice (some ⟨b1, o1, none⟩) css.length c1, ve] 54)).heap.size (w.alloc (.cells #[.int .u8 1, .string (st x.c), .int .i64 x.n, .string (st x.v), .slice (some ⟨b1, o1, none⟩) css.length c1, ve] 54)) w3) := bt HBR.out hb3; obtain ⟨z0, z1, z2, z3, z4, z5, z6⟩ := HX.out _ B3.out; have zr : w3.cell? ⟨b1, o1 + i * 2, none⟩ = some (.string (st y.a)) := (hb3.cell (p := ⟨b1, o1 + i * 2, none⟩) (by have := HW.out.size; show b1 < _; omega)).trans p0; clear hb3 CT)
      go_roundw
      case rel => exact ⟨i + 1, by simp, by omega, congrArg Value.string HAP.out, B3.out⟩
      case measure => simp [intOf]; omega
    · have hiz : ¬ (i : Int) < css.length := by omega
      obtain rfl : i = css.length := by omega
      rw [List.take_of_length_le (by have := HLN.out; simp; omega)]
      have h2 := spJ_map (f := (shSet svd)) (m := 3000) (n := 10) (l := x.sets) (by have := HLN.out; omega) fun z hz => set_len (Q3.out z hz)
      have hle : ((40 :: sModify ++ 32 :: Lib.itoa x.n) ++ spJ (x.sets.map (shSet svd))).length ≤ 90000 := by
        simp only [sMake, sModify, sBind, sWrite, List.length_append, List.length_cons, List.length_nil] at *
        omega
      have hsz1 : (st ((40 :: sModify ++ 32 :: Lib.itoa x.n) ++ spJ (x.sets.map (shSet svd)))).size ≤ 90000 := by rw [st_size]; exact hle
      clear hle h2
      have HAP : Hid (st ((40 :: sModify ++ 32 :: Lib.itoa x.n) ++ spJ (x.sets.map (shSet svd))) ++ { data := #[41] } = st ((40 :: sModify ++ 32 :: Lib.itoa x.n) ++ spJ (x.sets.map (shSet svd)) ++ [41])) := by
        show _ = _
        rw [show ({ data := #[41] } : ByteArray) = st [41] from rfl, st_app2]
      generalize st ((40 :: sModify ++ 32 :: Lib.itoa x.n) ++ spJ (x.sets.map (shSet svd))) = sa at *
      go_wp2
      go_ret
      exact ⟨congrArg (fun z => Ending.returned (.string z)) (HAP.out.trans (congrArg st (by simp))), bt (bxn _ _) HBR.out⟩
set_option maxHeartbeats 4000000 in
theorem ract_d {P : Nat → Nat → Prop} (v : Value) (vs : Value) (x : ActD) (w : World) (h : Row 1 (ReE P) w (P 6) v x.exprs) (hl : actL x) (hf : gAct x) : Calls Tryd.prog 18 #[.agg #[.int .u8 3, .string (st x.c), .int .i64 x.n, .string (st x.v), vs, v]] w fun e w' => e = .returned (.string (st ((40 :: sBind ++ 32 :: 60 :: (x.v ++ [62])) ++ spJ (x.exprs.map (shE svd)) ++ [41]))) ∧ Below w.heap.size w w' := by
  obtain ⟨css, s1, r1⟩ := h
  obtain ⟨a1, c1, rfl⟩ := s1.shape
  obtain ⟨-, l1, m1, q1⟩ := s1.row
  have HLN : Hid (css.length = x.exprs.length) := r1.len
  have R1 : Hid (∀ i, i < css.length → ∃ b off, a1 = some ⟨b, off, none⟩ ∧ b < w.heap.size ∧ ∀ j, j < 1 → w.cell? ⟨b, off + (i * 1 + j), none⟩ = (css.getD i [])[j]?) := q1
  have S1 : Hid (∀ i, i < css.length → ReE P w (css.getD i []) (x.exprs.getD i [])) := fun i hi => r1.at i [] _ (by have := HLN.out; omega)
  have hq1 : x.c.length ≤ 60 := hl.1
  have hq3 : x.v.length ≤ 60 := hl.2.1
  have hq2 : css.length ≤ 12 := by have := HLN.out; have := hl.2.2.2.1; omega
  have Q3 : Hid (∀ y ∈ x.exprs, itemsL y) := hl.2.2.2.2.2
  have F1 : Hid (∀ y ∈ x.exprs, gE y) := hf.2.2.2
  have hit := (itoa_len x.n hf.1 hf.2.1).2
  have hit2 : (Lib.itoa x.n).length ≤ 22 := hit
  have hn0 := hf.1
  have hn1 := hf.2.1
  have hnn : (css.length : Int) ≤ 9223372036854775807 := by omega
  have hsa := st_size x.c
  have hsb := st_size x.v
  have hsc := st_size (Lib.itoa x.n)
  clear q1 r1 s1 hl hf
  have HX : Hid (∀ W, Below (w.alloc (.cells #[.int .u8 3, .string (st x.c), .int .i64 x.n, .string (st x.v), vs, .slice a1 css.length c1] 54)).heap.size (w.alloc (.cells #[.int .u8 3, .string (st x.c), .int .i64 x.n, .string (st x.v), vs, .slice a1 css.length c1] 54)) W → W.cell? ⟨w.heap.size, 0, none⟩ = some (.int .u8 3) ∧ W.cell? ⟨w.heap.size, 1, none⟩ = some (.string (st x.c)) ∧ W.cell? ⟨w.heap.size, 2, none⟩ = some (.int .i64 x.n) ∧ W.cell? ⟨w.heap.size, 3, none⟩ = some (.string (st x.v)) ∧ W.cell? ⟨w.heap.size, 4, none⟩ = some (vs) ∧ W.cell? ⟨w.heap.size, 5, none⟩ = some (.slice a1 css.length c1) ∧ w.heap.size < W.heap.size) := fun W hW =>
    ⟨by rw [hW.cell (p := ⟨w.heap.size, 0, none⟩) (by simp)]; simp, by rw [hW.cell (p := ⟨w.heap.size, 1, none⟩) (by simp)]; simp, by rw [hW.cell (p := ⟨w.heap.size, 2, none⟩) (by simp)]; simp, by rw [hW.cell (p := ⟨w.heap.size, 3, none⟩) (by simp)]; simp, by rw [hW.cell (p := ⟨w.heap.size, 4, none⟩) (by simp)]; simp, by rw [hW.cell (p := ⟨w.heap.size, 5, none⟩) (by simp)]; simp, by have := hW.size; simp at this; omega⟩
  go_enter Tryd.func18, Tryd.ntmps18
  go_wp2
  go_loopw [3, 7, 8, 9] (fun v3 v4 v5 v6 wr => ∃ i : Nat, v4 = .int .i64 i ∧ i ≤ css.length ∧ v3 = .string (st ((40 :: sBind ++ 32 :: 60 :: (x.v ++ [62])) ++ spJ ((x.exprs.map (shE svd)).take i))) ∧ Below (w.alloc (.cells #[.int .u8 3, .string (st x.c), .int .i64 x.n, .string (st x.v), vs, .slice a1 css.length c1] 54)).heap.size (w.alloc (.cells #[.int .u8 3, .string (st x.c), .int .i64 x.n, .string (st x.v), vs, .slice a1 css.length c1] 54)) wr) (fun _ v4 _ _ _ => (css.length - intOf v4).toNat)
  case atStart => exact ⟨0, rfl, Nat.zero_le _, by rw [List.take_zero, show spJ [] = [] from rfl, List.append_nil, show ({ data := #[40, 98, 105, 110, 100, 32, 60] } : ByteArray) = st [40, 98, 105, 110, 100, 32, 60] from rfl, show ({ data := #[62] } : ByteArray) = st [62] from rfl, st_app2, st_app2]; rfl, Below.refl _ _⟩
  case round =>
    obtain ⟨i, rfl, hi, rfl, hbr⟩ := hrel
    have HBR : Hid (Below (w.alloc (.cells #[.int .u8 3, .string (st x.c), .int .i64 x.n, .string (st x.v), vs, .slice a1 css.length c1] 54)).heap.size (w.alloc (.cells #[.int .u8 3, .string (st x.c), .int .i64 x.n, .string (st x.v), vs, .slice a1 css.length c1] 54)) wr) := hbr
    obtain ⟨y0, y1, y2, y3, y4, y5, y6⟩ := HX.out _ hbr
    clear hbr
    by_cases hlt : i < css.length
    · have hiz : (i : Int) < css.length := by omega
      have hlt2 : i < x.exprs.length := by have := HLN.out; omega
      obtain ⟨b1, o1, rfl, hb1, u1⟩ := R1.out i hlt
      obtain ⟨y, hy⟩ : ∃ y, y = x.exprs.getD i [] := ⟨_, rfl⟩
      have hS := S1.out i hlt
      rw [← hy] at hS
      obtain ⟨cc, hcc⟩ : ∃ cc, cc = css.getD i [] := ⟨_, rfl⟩
      rw [← hcc] at hS u1
      clear hcc
      have hm : y ∈ x.exprs := by rw [hy]; exact getD_mem _ _ _ hlt2
      have hfy := F1.out y hm
      have hqy := Q3.out y hm
      have HW : Hid (Below w.heap.size w wr) := bt (bxn _ _) HBR.out
      have hS2 := hS
      obtain ⟨e1, rfl, hsl⟩ := hS2
      have HSL : Hid (SlW 5 w (P 4) e1 (y.map clI)) := hsl
      have p0 : wr.cell? ⟨b1, o1 + i, none⟩ = some (e1) := (HW.out.cell (p := ⟨b1, o1 + i, none⟩) hb1).trans (by have := u1 0 (by decide); simpa using this)
      have HNX : Hid (((40 :: sBind ++ 32 :: 60 :: (x.v ++ [62])) ++ spJ ((x.exprs.map (shE svd)).take i)) ++ (32 :: (shE svd) y) = (40 :: sBind ++ 32 :: 60 :: (x.v ++ [62])) ++ spJ ((x.exprs.map (shE svd)).take (i + 1))) := by
        show _ = _
        rw [spJ_take _ (by simpa using hlt2), show (x.exprs.map (shE svd)).getD i [] = (shE svd) y by rw [hy, getD_mapS _ _ _ [] hlt2], List.append_assoc]; rfl
      have hle : ((40 :: sBind ++ 32 :: 60 :: (x.v ++ [62])) ++ spJ ((x.exprs.map (shE svd)).take i)).length ≤ 90000 := by
        have h1 := spJ_le (x.exprs.map (shE svd)) i
        have h2 := spJ_map (f := (shE svd)) (l := x.exprs) (m := 2800) (n := 12) (by have := HLN.out; omega) fun z hz => expr_len (Q3.out z hz)
        simp only [sMake, sModify, sBind, sWrite, List.length_append, List.length_cons, List.length_nil] at *
        omega
      have hfl : ((shE svd) y).length ≤ 2800 := expr_len (Q3.out y hm)
      have hsz1 : (st ((40 :: sBind ++ 32 :: 60 :: (x.v ++ [62])) ++ spJ ((x.exprs.map (shE svd)).take i))).size ≤ 90000 := by rw [st_size]; exact hle
      have hsz2 : (st ((shE svd) y)).size ≤ 2800 := by rw [st_size]; exact hfl
      clear hle hfl
      have CT := fun W (hW : Below w.heap.size w W) => rexp_any e1 y W (HSL.out.keep (Stays.below hW)) hqy hfy.1
      have HAP : Hid ((st ((40 :: sBind ++ 32 :: 60 :: (x.v ++ [62])) ++ spJ ((x.exprs.map (shE svd)).take i)) ++ { data := #[32] }) ++ st ((shE svd) y) = st ((40 :: sBind ++ 32 :: 60 :: (x.v ++ [62])) ++ spJ ((x.exprs.map (shE svd)).take (i + 1)))) := by
        show _ = _
        rw [show ({ data := #[32] } : ByteArray) = st [32] from rfl, st_app2, st_app2, ← HNX.out, List.append_assoc]; rfl
      generalize st ((40 :: sBind ++ 32 :: 60 :: (x.v ++ [62])) ++ spJ ((x.exprs.map (shE svd)).take i)) = sa at *
      unfold ExPost at CT
      generalize st ((shE svd) y) = sb at *
      generalize (shExpr svd y).isSome = bE at *
      clear hy hm HNX u1 hS Q3 F1 HSL
      go_wp2_with (go_at_call 8; refine (CT _ HW.out).mono ?_; rintro e w3 ⟨rfl, hb3⟩; have B3 : Hid (Below (w.alloc (.cells #[.int .u8 3, .string (st x.c), .int .i64 x.n, .string (st x.v), vs, .slice (some ⟨b1, o1, none⟩) css.length c1] 54)).heap.size (w.alloc (.cells #[.int .u8 3, .string (st x.c), .int .i64 x.n, .string (st x.v), vs, .slice (some ⟨b1, o1, none⟩) css.length c1] 54)) w3) := bt HBR.out hb3; clear hb3 CT)
      go_roundw
      case rel => exact ⟨i + 1, by simp, by omega, congrArg Value.string HAP.out, B3.out⟩
      case measure => simp [intOf]; omega
    · have hiz : ¬ (i : Int) < css.length := by omega
      obtain rfl : i = css.length := by omega
      rw [List.take_of_length_le (by have := HLN.out; simp; omega)]
      have h2 := spJ_map (f := (shE svd)) (m := 2800) (n := 12) (l := x.exprs) (by have := HLN.out; omega) fun z hz => expr_len (Q3.out z hz)
      have hle : ((40 :: sBind ++ 32 :: 60 :: (x.v ++ [62])) ++ spJ (x.exprs.map (shE svd))).length ≤ 90000 := by
        simp only [sMake, sModify, sBind, sWrite, List.length_append, List.length_cons, List.length_nil] at *
        omega
      have hsz1 : (st ((40 :: sBind ++ 32 :: 60 :: (x.v ++ [62])) ++ spJ (x.exprs.map (shE svd)))).size ≤ 90000 := by rw [st_size]; exact hle
      clear hle h2
      have HAP : Hid (st ((40 :: sBind ++ 32 :: 60 :: (x.v ++ [62])) ++ spJ (x.exprs.map (shE svd))) ++ { data := #[41] } = st ((40 :: sBind ++ 32 :: 60 :: (x.v ++ [62])) ++ spJ (x.exprs.map (shE svd)) ++ [41])) := by
        show _ = _
        rw [show ({ data := #[41] } : ByteArray) = st [41] from rfl, st_app2]
      generalize st ((40 :: sBind ++ 32 :: 60 :: (x.v ++ [62])) ++ spJ (x.exprs.map (shE svd))) = sa at *
      go_wp2
      go_ret
      exact ⟨congrArg (fun z => Ending.returned (.string z)) (HAP.out.trans (congrArg st (by simp))), bt (bxn _ _) HBR.out⟩
set_option maxHeartbeats 4000000 in
theorem ract_e {P : Nat → Nat → Prop} (v : Value) (vs : Value) (x : ActD) (w : World) (h : Row 1 (ReE P) w (P 6) v x.exprs) (hl : actL x) (hf : gAct x) : Calls Tryd.prog 18 #[.agg #[.int .u8 4, .string (st x.c), .int .i64 x.n, .string (st x.v), vs, v]] w fun e w' => e = .returned (.string (st ((40 :: sWrite) ++ spJ (x.exprs.map (shE svd)) ++ [41]))) ∧ Below w.heap.size w w' := by
  obtain ⟨css, s1, r1⟩ := h
  obtain ⟨a1, c1, rfl⟩ := s1.shape
  obtain ⟨-, l1, m1, q1⟩ := s1.row
  have HLN : Hid (css.length = x.exprs.length) := r1.len
  have R1 : Hid (∀ i, i < css.length → ∃ b off, a1 = some ⟨b, off, none⟩ ∧ b < w.heap.size ∧ ∀ j, j < 1 → w.cell? ⟨b, off + (i * 1 + j), none⟩ = (css.getD i [])[j]?) := q1
  have S1 : Hid (∀ i, i < css.length → ReE P w (css.getD i []) (x.exprs.getD i [])) := fun i hi => r1.at i [] _ (by have := HLN.out; omega)
  have hq1 : x.c.length ≤ 60 := hl.1
  have hq3 : x.v.length ≤ 60 := hl.2.1
  have hq2 : css.length ≤ 12 := by have := HLN.out; have := hl.2.2.2.1; omega
  have Q3 : Hid (∀ y ∈ x.exprs, itemsL y) := hl.2.2.2.2.2
  have F1 : Hid (∀ y ∈ x.exprs, gE y) := hf.2.2.2
  have hit := (itoa_len x.n hf.1 hf.2.1).2
  have hit2 : (Lib.itoa x.n).length ≤ 22 := hit
  have hn0 := hf.1
  have hn1 := hf.2.1
  have hnn : (css.length : Int) ≤ 9223372036854775807 := by omega
  have hsa := st_size x.c
  have hsb := st_size x.v
  have hsc := st_size (Lib.itoa x.n)
  clear q1 r1 s1 hl hf
  have HX : Hid (∀ W, Below (w.alloc (.cells #[.int .u8 4, .string (st x.c), .int .i64 x.n, .string (st x.v), vs, .slice a1 css.length c1] 54)).heap.size (w.alloc (.cells #[.int .u8 4, .string (st x.c), .int .i64 x.n, .string (st x.v), vs, .slice a1 css.length c1] 54)) W → W.cell? ⟨w.heap.size, 0, none⟩ = some (.int .u8 4) ∧ W.cell? ⟨w.heap.size, 1, none⟩ = some (.string (st x.c)) ∧ W.cell? ⟨w.heap.size, 2, none⟩ = some (.int .i64 x.n) ∧ W.cell? ⟨w.heap.size, 3, none⟩ = some (.string (st x.v)) ∧ W.cell? ⟨w.heap.size, 4, none⟩ = some (vs) ∧ W.cell? ⟨w.heap.size, 5, none⟩ = some (.slice a1 css.length c1) ∧ w.heap.size < W.heap.size) := fun W hW =>
    ⟨by rw [hW.cell (p := ⟨w.heap.size, 0, none⟩) (by simp)]; simp, by rw [hW.cell (p := ⟨w.heap.size, 1, none⟩) (by simp)]; simp, by rw [hW.cell (p := ⟨w.heap.size, 2, none⟩) (by simp)]; simp, by rw [hW.cell (p := ⟨w.heap.size, 3, none⟩) (by simp)]; simp, by rw [hW.cell (p := ⟨w.heap.size, 4, none⟩) (by simp)]; simp, by rw [hW.cell (p := ⟨w.heap.size, 5, none⟩) (by simp)]; simp, by have := hW.size; simp at this; omega⟩
  go_enter Tryd.func18, Tryd.ntmps18
  go_wp2
  go_loopw [3, 7, 8, 9] (fun v3 v4 v5 v6 wr => ∃ i : Nat, v4 = .int .i64 i ∧ i ≤ css.length ∧ v3 = .string (st ((40 :: sWrite) ++ spJ ((x.exprs.map (shE svd)).take i))) ∧ Below (w.alloc (.cells #[.int .u8 4, .string (st x.c), .int .i64 x.n, .string (st x.v), vs, .slice a1 css.length c1] 54)).heap.size (w.alloc (.cells #[.int .u8 4, .string (st x.c), .int .i64 x.n, .string (st x.v), vs, .slice a1 css.length c1] 54)) wr) (fun _ v4 _ _ _ => (css.length - intOf v4).toNat)
  case atStart => exact ⟨0, rfl, Nat.zero_le _, by rw [List.take_zero, show spJ [] = [] from rfl, List.append_nil]; rfl, Below.refl _ _⟩
  case round =>
    obtain ⟨i, rfl, hi, rfl, hbr⟩ := hrel
    have HBR : Hid (Below (w.alloc (.cells #[.int .u8 4, .string (st x.c), .int .i64 x.n, .string (st x.v), vs, .slice a1 css.length c1] 54)).heap.size (w.alloc (.cells #[.int .u8 4, .string (st x.c), .int .i64 x.n, .string (st x.v), vs, .slice a1 css.length c1] 54)) wr) := hbr
    obtain ⟨y0, y1, y2, y3, y4, y5, y6⟩ := HX.out _ hbr
    clear hbr
    by_cases hlt : i < css.length
    · have hiz : (i : Int) < css.length := by omega
      have hlt2 : i < x.exprs.length := by have := HLN.out; omega
      obtain ⟨b1, o1, rfl, hb1, u1⟩ := R1.out i hlt
      obtain ⟨y, hy⟩ : ∃ y, y = x.exprs.getD i [] := ⟨_, rfl⟩
      have hS := S1.out i hlt
      rw [← hy] at hS
      obtain ⟨cc, hcc⟩ : ∃ cc, cc = css.getD i [] := ⟨_, rfl⟩
      rw [← hcc] at hS u1
      clear hcc
      have hm : y ∈ x.exprs := by rw [hy]; exact getD_mem _ _ _ hlt2
      have hfy := F1.out y hm
      have hqy := Q3.out y hm
      have HW : Hid (Below w.heap.size w wr) := bt (bxn _ _) HBR.out
      have hS2 := hS
      obtain ⟨e1, rfl, hsl⟩ := hS2
      have HSL : Hid (SlW 5 w (P 4) e1 (y.map clI)) := hsl
      have p0 : wr.cell? ⟨b1, o1 + i, none⟩ = some (e1) := (HW.out.cell (p := ⟨b1, o1 + i, none⟩) hb1).trans (by have := u1 0 (by decide); simpa using this)
      have HNX : Hid (((40 :: sWrite) ++ spJ ((x.exprs.map (shE svd)).take i)) ++ (32 :: (shE svd) y) = (40 :: sWrite) ++ spJ ((x.exprs.map (shE svd)).take (i + 1))) := by
        show _ = _
        rw [spJ_take _ (by simpa using hlt2), show (x.exprs.map (shE svd)).getD i [] = (shE svd) y by rw [hy, getD_mapS _ _ _ [] hlt2], List.append_assoc]; rfl
      have hle : ((40 :: sWrite) ++ spJ ((x.exprs.map (shE svd)).take i)).length ≤ 90000 := by
        have h1 := spJ_le (x.exprs.map (shE svd)) i
        have h2 := spJ_map (f := (shE svd)) (l := x.exprs) (m := 2800) (n := 12) (by have := HLN.out; omega) fun z hz => expr_len (Q3.out z hz)
        simp only [sMake, sModify, sBind, sWrite, List.length_append, List.length_cons, List.length_nil] at *
        omega
      have hfl : ((shE svd) y).length ≤ 2800 := expr_len (Q3.out y hm)
      have hsz1 : (st ((40 :: sWrite) ++ spJ ((x.exprs.map (shE svd)).take i))).size ≤ 90000 := by rw [st_size]; exact hle
      have hsz2 : (st ((shE svd) y)).size ≤ 2800 := by rw [st_size]; exact hfl
      clear hle hfl
      have CT := fun W (hW : Below w.heap.size w W) => rexp_any e1 y W (HSL.out.keep (Stays.below hW)) hqy hfy.1
      have HAP : Hid ((st ((40 :: sWrite) ++ spJ ((x.exprs.map (shE svd)).take i)) ++ { data := #[32] }) ++ st ((shE svd) y) = st ((40 :: sWrite) ++ spJ ((x.exprs.map (shE svd)).take (i + 1)))) := by
        show _ = _
        rw [show ({ data := #[32] } : ByteArray) = st [32] from rfl, st_app2, st_app2, ← HNX.out, List.append_assoc]; rfl
      generalize st ((40 :: sWrite) ++ spJ ((x.exprs.map (shE svd)).take i)) = sa at *
      unfold ExPost at CT
      generalize st ((shE svd) y) = sb at *
      generalize (shExpr svd y).isSome = bE at *
      clear hy hm HNX u1 hS Q3 F1 HSL
      go_wp2_with (go_at_call 8; refine (CT _ HW.out).mono ?_; rintro e w3 ⟨rfl, hb3⟩; have B3 : Hid (Below (w.alloc (.cells #[.int .u8 4, .string (st x.c), .int .i64 x.n, .string (st x.v), vs, .slice (some ⟨b1, o1, none⟩) css.length c1] 54)).heap.size (w.alloc (.cells #[.int .u8 4, .string (st x.c), .int .i64 x.n, .string (st x.v), vs, .slice (some ⟨b1, o1, none⟩) css.length c1] 54)) w3) := bt HBR.out hb3; clear hb3 CT)
      go_roundw
      case rel => exact ⟨i + 1, by simp, by omega, congrArg Value.string HAP.out, B3.out⟩
      case measure => simp [intOf]; omega
    · have hiz : ¬ (i : Int) < css.length := by omega
      obtain rfl : i = css.length := by omega
      rw [List.take_of_length_le (by have := HLN.out; simp; omega)]
      have h2 := spJ_map (f := (shE svd)) (m := 2800) (n := 12) (l := x.exprs) (by have := HLN.out; omega) fun z hz => expr_len (Q3.out z hz)
      have hle : ((40 :: sWrite) ++ spJ (x.exprs.map (shE svd))).length ≤ 90000 := by
        simp only [sMake, sModify, sBind, sWrite, List.length_append, List.length_cons, List.length_nil] at *
        omega
      have hsz1 : (st ((40 :: sWrite) ++ spJ (x.exprs.map (shE svd)))).size ≤ 90000 := by rw [st_size]; exact hle
      clear hle h2
      have HAP : Hid (st ((40 :: sWrite) ++ spJ (x.exprs.map (shE svd))) ++ { data := #[41] } = st ((40 :: sWrite) ++ spJ (x.exprs.map (shE svd)) ++ [41])) := by
        show _ = _
        rw [show ({ data := #[41] } : ByteArray) = st [41] from rfl, st_app2]
      generalize st ((40 :: sWrite) ++ spJ (x.exprs.map (shE svd))) = sa at *
      go_wp2
      go_ret
      exact ⟨congrArg (fun z => Ending.returned (.string z)) (HAP.out.trans (congrArg st (by simp))), bt (bxn _ _) HBR.out⟩
set_option maxHeartbeats 2000000 in
theorem ract_c (vs ve : Value) (x : ActD) (w : World) (hf : gAct x) : Calls Tryd.prog 18 #[.agg #[.int .u8 2, .string (st x.c), .int .i64 x.n, .string (st x.v), vs, ve]] w fun e w' => e = .returned (.string (st (40 :: sRemove ++ 32 :: Lib.itoa x.n ++ [41]))) ∧ Below w.heap.size w w' := by
  have hit := (itoa_len x.n hf.1 hf.2.1).2
  have hit2 : (Lib.itoa x.n).length ≤ 22 := hit
  have hn0 := hf.1
  have hn1 := hf.2.1
  have hsc := st_size (Lib.itoa x.n)
  go_enter Tryd.func18, Tryd.ntmps18
  go_wp2_with (go_at_call 35; refine (told35 _ hn0 hn1 _).mono ?_; rintro e wq ⟨rfl, rfl⟩)
  go_ret
  refine ⟨?_, bxn _ _⟩
  refine congrArg (fun z => Ending.returned (.string z)) ?_
  rw [show ({ data := #[40, 114, 101, 109, 111, 118, 101, 32] } : ByteArray) = st [40, 114, 101, 109, 111, 118, 101, 32] from rfl, show ({ data := #[41] } : ByteArray) = st [41] from rfl, st_app2, st_app2]; rfl
set_option maxHeartbeats 2000000 in
theorem ract_f (vs ve : Value) (x : ActD) (w : World) (hf : gAct x) : Calls Tryd.prog 18 #[.agg #[.int .u8 5, .string (st x.c), .int .i64 x.n, .string (st x.v), vs, ve]] w fun e w' => e = .returned (.string (st (40 :: sHalt ++ [41]))) ∧ Below w.heap.size w w' := by
  have hit := (itoa_len x.n hf.1 hf.2.1).2
  have hit2 : (Lib.itoa x.n).length ≤ 22 := hit
  have hn0 := hf.1
  have hn1 := hf.2.1
  have hsc := st_size (Lib.itoa x.n)
  go_enter Tryd.func18, Tryd.ntmps18
  go_wp2
  go_ret
  refine ⟨?_, bxn _ _⟩
  rfl
set_option maxHeartbeats 2000000 in
theorem ract_g (vs ve : Value) (x : ActD) (w : World) (hf : gAct x) (k0 : ¬ x.k = 0) (k1 : ¬ x.k = 1) (k2 : ¬ x.k = 2) (k3 : ¬ x.k = 3) (k4 : ¬ x.k = 4) (k5 : ¬ x.k = 5) : Calls Tryd.prog 18 #[.agg #[.int .u8 x.k, .string (st x.c), .int .i64 x.n, .string (st x.v), vs, ve]] w fun e w' => e = .returned (.string (st ([]))) ∧ Below w.heap.size w w' := by
  have hit := (itoa_len x.n hf.1 hf.2.1).2
  have hit2 : (Lib.itoa x.n).length ≤ 22 := hit
  have hn0 := hf.1
  have hn1 := hf.2.1
  have hsc := st_size (Lib.itoa x.n)
  go_enter Tryd.func18, Tryd.ntmps18
  go_wp2
  go_ret
  refine ⟨?_, bxn _ _⟩
  rfl
theorem ract_any {P : Nat → Nat → Prop} (cs : List Value) (x : ActD) (w : World) (h : ReT P w cs x) (hl : actL x) (hf : gAct x) : Calls Tryd.prog 18 #[.agg cs.toArray] w fun e w' => e = .returned (.string (st (shAct svd x))) ∧ Below w.heap.size w w' := by
  unfold shAct
  obtain ⟨v1, v2, rfl, h1, h2⟩ := h
  obtain ⟨k, c, n, v, sets, exprs⟩ := x
  by_cases k0 : k = 0
  · subst k0
    exact ract_a v1 v2 ⟨0, c, n, v, sets, exprs⟩ w h1 hl hf
  by_cases k1 : k = 1
  · subst k1
    exact ract_b v1 v2 ⟨1, c, n, v, sets, exprs⟩ w h1 hl hf
  by_cases k2 : k = 2
  · subst k2
    exact ract_c v1 v2 ⟨2, c, n, v, sets, exprs⟩ w hf
  by_cases k3 : k = 3
  · subst k3
    exact ract_d v2 v1 ⟨3, c, n, v, sets, exprs⟩ w h2 hl hf
  by_cases k4 : k = 4
  · subst k4
    exact ract_e v2 v1 ⟨4, c, n, v, sets, exprs⟩ w h2 hl hf
  by_cases k5 : k = 5
  · subst k5
    exact ract_f v1 v2 ⟨5, c, n, v, sets, exprs⟩ w hf
  simp only [if_neg k0, if_neg k1, if_neg k2, if_neg k3, if_neg k4, if_neg k5]
  exact ract_g v1 v2 ⟨k, c, n, v, sets, exprs⟩ w hf k0 k1 k2 k3 k4 k5
end Go.Proofs.YtemacdimdpnkeaaDoor
namespace Go.Proofs.YtemacdimdpnkeaaDoor
open Go.RowKit
set_option linter.unusedVariables false
set_option linter.unusedSimpArgs false
set_option maxRecDepth 20000
abbrev c0' : CondD := ⟨false, [], []⟩
abbrev t0' : ActD := ⟨0, [], 0, [], [], []⟩
set_option maxHeartbeats 8000000 in
theorem rrule_any {P : Nat → Nat → Prop} (cs : List Value) (x : RuleD) (w : World) (h : ReR P w cs x) (hl : ruleL x) (hf : gR x) : Calls Tryd.prog 12 #[.agg cs.toArray] w fun e w' => e = .returned (.string (st (shRule svd x))) ∧ Below w.heap.size w w' := by
  unfold shRule
  obtain ⟨v1, v2, rfl, ⟨cs1, s1, r1⟩, ⟨cs2, s2, r2⟩⟩ := h
  obtain ⟨a1, c1, rfl⟩ := s1.shape
  obtain ⟨a2, c2, rfl⟩ := s2.shape
  obtain ⟨-, l1, m1, q1⟩ := s1.row
  obtain ⟨-, l2, m2, q2⟩ := s2.row
  have HLN : Hid (cs1.length = x.conds.length) := r1.len
  have HLM : Hid (cs2.length = x.acts.length) := r2.len
  have R1 : Hid (∀ i, i < cs1.length → ∃ b off, a1 = some ⟨b, off, none⟩ ∧ b < w.heap.size ∧ ∀ j, j < 3 → w.cell? ⟨b, off + (i * 3 + j), none⟩ = (cs1.getD i [])[j]?) := q1
  have R2 : Hid (∀ i, i < cs2.length → ∃ b off, a2 = some ⟨b, off, none⟩ ∧ b < w.heap.size ∧ ∀ j, j < 6 → w.cell? ⟨b, off + (i * 6 + j), none⟩ = (cs2.getD i [])[j]?) := q2
  have S1 : Hid (∀ i, i < cs1.length → ReC P w (cs1.getD i []) (x.conds.getD i c0')) := fun i hi => r1.at i [] _ (by have := HLN.out; omega)
  have S2 : Hid (∀ i, i < cs2.length → ReT P w (cs2.getD i []) (x.acts.getD i t0')) := fun i hi => r2.at i [] _ (by have := HLM.out; omega)
  obtain ⟨b1', b2', b3', b4', b5'⟩ := hl
  have hq2 : cs1.length ≤ 8 := by have := HLN.out; omega
  have hq3 : cs2.length ≤ 12 := by have := HLM.out; omega
  have Q1 : Hid (∀ y ∈ x.conds, condL y) := b4'
  have Q2 : Hid (∀ y ∈ x.acts, actL y) := b5'
  have F1 : Hid (∀ y ∈ x.conds, fC y) := hf.1
  have F2 : Hid (∀ y ∈ x.acts, gAct y) := hf.2
  have hC := spJ_map (f := shCond svd) (m := 30000) b2' fun y hy => cond_len (b4' y hy)
  have hnn : (cs1.length : Int) ≤ 9223372036854775807 := by omega
  have hnn2 : (cs2.length : Int) ≤ 9223372036854775807 := by omega
  have hsa := st_size x.nm
  clear q1 r1 s1 q2 r2 s2 hf b2' b3' b4' b5'
  have HX : Hid (∀ W, Below (w.alloc (.cells #[.string (st x.nm), .slice a1 cs1.length c1, .slice a2 cs2.length c2] 39)).heap.size (w.alloc (.cells #[.string (st x.nm), .slice a1 cs1.length c1, .slice a2 cs2.length c2] 39)) W → W.cell? ⟨w.heap.size, 0, none⟩ = some (.string (st x.nm)) ∧ W.cell? ⟨w.heap.size, 1, none⟩ = some (.slice a1 cs1.length c1) ∧ W.cell? ⟨w.heap.size, 2, none⟩ = some (.slice a2 cs2.length c2) ∧ w.heap.size < W.heap.size) := fun W hW =>
    ⟨by rw [hW.cell (p := ⟨w.heap.size, 0, none⟩) (by simp)]; simp, by rw [hW.cell (p := ⟨w.heap.size, 1, none⟩) (by simp)]; simp, by rw [hW.cell (p := ⟨w.heap.size, 2, none⟩) (by simp)]; simp, by have := hW.size; simp at this; omega⟩
  go_enter Tryd.func12, Tryd.ntmps12
  go_wp2
  go_loopw [3, 4] (fun v3 v4 wr => ∃ i : Nat, v4 = .int .i64 i ∧ i ≤ cs1.length ∧ v3 = .string (st ((40 :: sP ++ 32 :: x.nm) ++ spJ ((x.conds.map (shCond svd)).take i))) ∧ Below (w.alloc (.cells #[.string (st x.nm), .slice a1 cs1.length c1, .slice a2 cs2.length c2] 39)).heap.size (w.alloc (.cells #[.string (st x.nm), .slice a1 cs1.length c1, .slice a2 cs2.length c2] 39)) wr) (fun _ v4 _ => (cs1.length - intOf v4).toNat)
  case atStart => exact ⟨0, rfl, Nat.zero_le _, by rw [List.take_zero, show spJ [] = [] from rfl, List.append_nil, show ({ data := #[40, 112, 32] } : ByteArray) = st [40, 112, 32] from rfl, st_app2]; rfl, Below.refl _ _⟩
  case round =>
    obtain ⟨i, rfl, hi, rfl, hbr⟩ := hrel
    have HBR : Hid (Below (w.alloc (.cells #[.string (st x.nm), .slice a1 cs1.length c1, .slice a2 cs2.length c2] 39)).heap.size (w.alloc (.cells #[.string (st x.nm), .slice a1 cs1.length c1, .slice a2 cs2.length c2] 39)) wr) := hbr
    obtain ⟨y0, y1, y2, y3⟩ := HX.out _ hbr
    clear hbr
    by_cases hlt : i < cs1.length
    · have hiz : (i : Int) < cs1.length := by omega
      have hlt2 : i < x.conds.length := by have := HLN.out; omega
      obtain ⟨b1, o1, rfl, hb1, u1⟩ := R1.out i hlt
      obtain ⟨y, hy⟩ : ∃ y, y = x.conds.getD i c0' := ⟨_, rfl⟩
      have hS := S1.out i hlt
      rw [← hy] at hS
      obtain ⟨cc, hcc⟩ : ∃ cc, cc = cs1.getD i [] := ⟨_, rfl⟩
      rw [← hcc] at hS u1
      clear hcc
      have hm : y ∈ x.conds := by rw [hy]; exact getD_mem _ _ _ hlt2
      have hfy := F1.out y hm
      have hqy := Q1.out y hm
      have HW : Hid (Below w.heap.size w wr) := bt (bxn _ _) HBR.out
      have hS2 := hS
      obtain ⟨e1, rfl, -⟩ := hS2
      have p0 : wr.cell? ⟨b1, o1 + i * 3, none⟩ = some (.bool y.neg) := (HW.out.cell (p := ⟨b1, o1 + i * 3, none⟩) hb1).trans (u1 0 (by decide))
      have p1 : wr.cell? ⟨b1, o1 + i * 3 + 1, none⟩ = some (.string (st y.c)) := (HW.out.cell (p := ⟨b1, o1 + i * 3 + 1, none⟩) hb1).trans (u1 1 (by decide))
      have p2 : wr.cell? ⟨b1, o1 + i * 3 + 2, none⟩ = some (e1) := (HW.out.cell (p := ⟨b1, o1 + i * 3 + 2, none⟩) hb1).trans (u1 2 (by decide))
      have HS : Hid (ReC P w [.bool y.neg, .string (st y.c), e1] y) := hS
      have HNX : Hid (((40 :: sP ++ 32 :: x.nm) ++ spJ ((x.conds.map (shCond svd)).take i)) ++ (32 :: (shCond svd) y) = (40 :: sP ++ 32 :: x.nm) ++ spJ ((x.conds.map (shCond svd)).take (i + 1))) := by
        show _ = _
        rw [spJ_take _ (by simpa using hlt2), show (x.conds.map (shCond svd)).getD i [] = (shCond svd) y by rw [hy, getD_mapS _ _ _ c0' hlt2], List.append_assoc]; rfl
      have hle : ((40 :: sP ++ 32 :: x.nm) ++ spJ ((x.conds.map (shCond svd)).take i)).length ≤ 300000 := by
        have h1 := spJ_le (x.conds.map (shCond svd)) i
        have h2 := spJ_map (f := (shCond svd)) (l := x.conds) (m := 30000) (n := 8) (by have := HLN.out; omega) fun z hz => cond_len (Q1.out z hz)
        simp only [sP, List.length_append, List.length_cons, List.length_nil] at *
        omega
      have hfl : ((shCond svd) y).length ≤ 30000 := cond_len (Q1.out y hm)
      have hsz1 : (st ((40 :: sP ++ 32 :: x.nm) ++ spJ ((x.conds.map (shCond svd)).take i))).size ≤ 300000 := by rw [st_size]; exact hle
      have hsz2 : (st ((shCond svd) y)).size ≤ 30000 := by rw [st_size]; exact hfl
      clear hle hfl
      have CT := fun W (hW : Below w.heap.size w W) => rcond_any _ y W (ReC.keep (Stays.below hW) HS.out) hqy hfy
      have HAP : Hid ((st ((40 :: sP ++ 32 :: x.nm) ++ spJ ((x.conds.map (shCond svd)).take i)) ++ { data := #[32] }) ++ st ((shCond svd) y) = st ((40 :: sP ++ 32 :: x.nm) ++ spJ ((x.conds.map (shCond svd)).take (i + 1)))) := by
        show _ = _
        rw [show ({ data := #[32] } : ByteArray) = st [32] from rfl, st_app2, st_app2, ← HNX.out, List.append_assoc]; rfl
      generalize st ((40 :: sP ++ 32 :: x.nm) ++ spJ ((x.conds.map (shCond svd)).take i)) = sa at *
      generalize st ((shCond svd) y) = sb at *
      clear hy hm HNX u1 hS Q1 F1 Q2 F2
      go_wp2_with (go_at_call 14; refine (CT _ HW.out).mono ?_; rintro e w3 ⟨rfl, hb3⟩; have B3 : Hid (Below (w.alloc (.cells #[.string (st x.nm), .slice (some ⟨b1, o1, none⟩) cs1.length c1, .slice a2 cs2.length c2] 39)).heap.size (w.alloc (.cells #[.string (st x.nm), .slice (some ⟨b1, o1, none⟩) cs1.length c1, .slice a2 cs2.length c2] 39)) w3) := bt HBR.out hb3; clear hb3 CT)
      go_roundw
      case rel => exact ⟨i + 1, by simp, by omega, congrArg Value.string HAP.out, B3.out⟩
      case measure => simp [intOf]; omega
    · have hiz : ¬ (i : Int) < cs1.length := by omega
      obtain rfl : i = cs1.length := by omega
      rw [List.take_of_length_le (by have := HLN.out; simp; omega)]
      have h2 := spJ_map (f := (shCond svd)) (m := 30000) (n := 8) (l := x.conds) (by have := HLN.out; omega) fun z hz => cond_len (Q1.out z hz)
      have hle : ((40 :: sP ++ 32 :: x.nm) ++ spJ (x.conds.map (shCond svd))).length ≤ 300000 := by
        simp only [sP, List.length_append, List.length_cons, List.length_nil] at *
        omega
      have hsz1 : (st ((40 :: sP ++ 32 :: x.nm) ++ spJ (x.conds.map (shCond svd)))).size ≤ 300000 := by rw [st_size]; exact hle
      clear hle h2
      have HAP : Hid (st ((40 :: sP ++ 32 :: x.nm) ++ spJ (x.conds.map (shCond svd))) ++ { data := #[32, 45, 45, 62] } = st ((40 :: sP ++ 32 :: x.nm) ++ spJ (x.conds.map (shCond svd)) ++ [32, 45, 45, 62])) := by
        show _ = _
        rw [show ({ data := #[32, 45, 45, 62] } : ByteArray) = st [32, 45, 45, 62] from rfl, st_app2]
      have hsz8 := hsz1
      generalize st ((40 :: sP ++ 32 :: x.nm) ++ spJ (x.conds.map (shCond svd))) = sa at *
      clear hsz1
      obtain ⟨wo, hwo⟩ : ∃ wo, wo = wr := ⟨_, rfl⟩
      subst hwo
      have hsz9 : sa.size ≤ 300000 := hsz8
      go_wp2
      go_loopw [3, 5] (fun v3 v4 wr => ∃ i : Nat, v4 = .int .i64 i ∧ i ≤ cs2.length ∧ v3 = .string (st (((40 :: sP ++ 32 :: x.nm) ++ spJ (x.conds.map (shCond svd)) ++ [32, 45, 45, 62]) ++ spJ ((x.acts.map (shAct svd)).take i))) ∧ Below (w.alloc (.cells #[.string (st x.nm), .slice a1 cs1.length c1, .slice a2 cs2.length c2] 39)).heap.size (w.alloc (.cells #[.string (st x.nm), .slice a1 cs1.length c1, .slice a2 cs2.length c2] 39)) wr) (fun _ v4 _ => (cs2.length - intOf v4).toNat)
      case atStart => exact ⟨0, rfl, Nat.zero_le _, by rw [List.take_zero, show spJ [] = [] from rfl, List.append_nil]; exact congrArg Value.string HAP.out, HBR.out⟩
      case round =>
        obtain ⟨i, rfl, hi, rfl, hbr⟩ := hrel
        have HBR : Hid (Below (w.alloc (.cells #[.string (st x.nm), .slice a1 cs1.length c1, .slice a2 cs2.length c2] 39)).heap.size (w.alloc (.cells #[.string (st x.nm), .slice a1 cs1.length c1, .slice a2 cs2.length c2] 39)) wr) := hbr
        obtain ⟨y0, y1, y2, y3⟩ := HX.out _ hbr
        clear hbr
        by_cases hlt : i < cs2.length
        · have hiz : (i : Int) < cs2.length := by omega
          have hlt2 : i < x.acts.length := by have := HLM.out; omega
          obtain ⟨b1, o1, rfl, hb1, u1⟩ := R2.out i hlt
          obtain ⟨y, hy⟩ : ∃ y, y = x.acts.getD i t0' := ⟨_, rfl⟩
          have hS := S2.out i hlt
          rw [← hy] at hS
          obtain ⟨cc, hcc⟩ : ∃ cc, cc = cs2.getD i [] := ⟨_, rfl⟩
          rw [← hcc] at hS u1
          clear hcc
          have hm : y ∈ x.acts := by rw [hy]; exact getD_mem _ _ _ hlt2
          have hfy := F2.out y hm
          have hqy := Q2.out y hm
          have HW : Hid (Below w.heap.size w wr) := bt (bxn _ _) HBR.out
          have hS2 := hS
          obtain ⟨e1, e2, rfl, -, -⟩ := hS2
          have p0 : wr.cell? ⟨b1, o1 + i * 6, none⟩ = some (.int .u8 y.k) := (HW.out.cell (p := ⟨b1, o1 + i * 6, none⟩) hb1).trans (u1 0 (by decide))
          have p1 : wr.cell? ⟨b1, o1 + i * 6 + 1, none⟩ = some (.string (st y.c)) := (HW.out.cell (p := ⟨b1, o1 + i * 6 + 1, none⟩) hb1).trans (u1 1 (by decide))
          have p2 : wr.cell? ⟨b1, o1 + i * 6 + 2, none⟩ = some (.int .i64 y.n) := (HW.out.cell (p := ⟨b1, o1 + i * 6 + 2, none⟩) hb1).trans (u1 2 (by decide))
          have p3 : wr.cell? ⟨b1, o1 + i * 6 + 3, none⟩ = some (.string (st y.v)) := (HW.out.cell (p := ⟨b1, o1 + i * 6 + 3, none⟩) hb1).trans (u1 3 (by decide))
          have p4 : wr.cell? ⟨b1, o1 + i * 6 + 4, none⟩ = some (e1) := (HW.out.cell (p := ⟨b1, o1 + i * 6 + 4, none⟩) hb1).trans (u1 4 (by decide))
          have p5 : wr.cell? ⟨b1, o1 + i * 6 + 5, none⟩ = some (e2) := (HW.out.cell (p := ⟨b1, o1 + i * 6 + 5, none⟩) hb1).trans (u1 5 (by decide))
          have HS : Hid (ReT P w [.int .u8 y.k, .string (st y.c), .int .i64 y.n, .string (st y.v), e1, e2] y) := hS
          have HNX : Hid ((((40 :: sP ++ 32 :: x.nm) ++ spJ (x.conds.map (shCond svd)) ++ [32, 45, 45, 62]) ++ spJ ((x.acts.map (shAct svd)).take i)) ++ (32 :: (shAct svd) y) = ((40 :: sP ++ 32 :: x.nm) ++ spJ (x.conds.map (shCond svd)) ++ [32, 45, 45, 62]) ++ spJ ((x.acts.map (shAct svd)).take (i + 1))) := by
            show _ = _
            rw [spJ_take _ (by simpa using hlt2), show (x.acts.map (shAct svd)).getD i [] = (shAct svd) y by rw [hy, getD_mapS _ _ _ t0' hlt2], List.append_assoc]; rfl
          have hle : (((40 :: sP ++ 32 :: x.nm) ++ spJ (x.conds.map (shCond svd)) ++ [32, 45, 45, 62]) ++ spJ ((x.acts.map (shAct svd)).take i)).length ≤ 2000000 := by
            have h1 := spJ_le (x.acts.map (shAct svd)) i
            have h2 := spJ_map (f := (shAct svd)) (l := x.acts) (m := 80000) (n := 12) (by have := HLM.out; omega) fun z hz => act_len (Q2.out z hz) (F2.out z hz).1 (F2.out z hz).2.1
            simp only [sP, List.length_append, List.length_cons, List.length_nil] at *
            omega
          have hfl : ((shAct svd) y).length ≤ 80000 := act_len (Q2.out y hm) (F2.out y hm).1 (F2.out y hm).2.1
          have hsz1 : (st (((40 :: sP ++ 32 :: x.nm) ++ spJ (x.conds.map (shCond svd)) ++ [32, 45, 45, 62]) ++ spJ ((x.acts.map (shAct svd)).take i))).size ≤ 2000000 := by rw [st_size]; exact hle
          have hsz2 : (st ((shAct svd) y)).size ≤ 80000 := by rw [st_size]; exact hfl
          clear hle hfl
          have CT := fun W (hW : Below w.heap.size w W) => ract_any _ y W (ReT.keep (Stays.below hW) HS.out) hqy hfy
          have HAP : Hid ((st (((40 :: sP ++ 32 :: x.nm) ++ spJ (x.conds.map (shCond svd)) ++ [32, 45, 45, 62]) ++ spJ ((x.acts.map (shAct svd)).take i)) ++ { data := #[32] }) ++ st ((shAct svd) y) = st (((40 :: sP ++ 32 :: x.nm) ++ spJ (x.conds.map (shCond svd)) ++ [32, 45, 45, 62]) ++ spJ ((x.acts.map (shAct svd)).take (i + 1)))) := by
            show _ = _
            rw [show ({ data := #[32] } : ByteArray) = st [32] from rfl, st_app2, st_app2, ← HNX.out, List.append_assoc]; rfl
          generalize st (((40 :: sP ++ 32 :: x.nm) ++ spJ (x.conds.map (shCond svd)) ++ [32, 45, 45, 62]) ++ spJ ((x.acts.map (shAct svd)).take i)) = sa at *
          generalize st ((shAct svd) y) = sb at *
          clear hy hm HNX u1 hS Q1 F1 Q2 F2
          go_wp2_with (go_at_call 18; refine (CT _ HW.out).mono ?_; rintro e w3 ⟨rfl, hb3⟩; have B3 : Hid (Below (w.alloc (.cells #[.string (st x.nm), .slice a1 cs1.length c1, .slice (some ⟨b1, o1, none⟩) cs2.length c2] 39)).heap.size (w.alloc (.cells #[.string (st x.nm), .slice a1 cs1.length c1, .slice (some ⟨b1, o1, none⟩) cs2.length c2] 39)) w3) := bt HBR.out hb3; clear hb3 CT)
          go_roundw
          case rel => exact ⟨i + 1, by simp, by omega, congrArg Value.string HAP.out, B3.out⟩
          case measure => simp [intOf]; omega
        · have hiz : ¬ (i : Int) < cs2.length := by omega
          obtain rfl : i = cs2.length := by omega
          rw [List.take_of_length_le (by have := HLM.out; simp; omega)]
          have h2 := spJ_map (f := (shAct svd)) (m := 80000) (n := 12) (l := x.acts) (by have := HLM.out; omega) fun z hz => act_len (Q2.out z hz) (F2.out z hz).1 (F2.out z hz).2.1
          have hle : (((40 :: sP ++ 32 :: x.nm) ++ spJ (x.conds.map (shCond svd)) ++ [32, 45, 45, 62]) ++ spJ (x.acts.map (shAct svd))).length ≤ 2000000 := by
            simp only [sP, List.length_append, List.length_cons, List.length_nil] at *
            omega
          have hsz1 : (st (((40 :: sP ++ 32 :: x.nm) ++ spJ (x.conds.map (shCond svd)) ++ [32, 45, 45, 62]) ++ spJ (x.acts.map (shAct svd)))).size ≤ 2000000 := by rw [st_size]; exact hle
          clear hle h2
          have HAP : Hid (st (((40 :: sP ++ 32 :: x.nm) ++ spJ (x.conds.map (shCond svd)) ++ [32, 45, 45, 62]) ++ spJ (x.acts.map (shAct svd))) ++ { data := #[41] } = st (((40 :: sP ++ 32 :: x.nm) ++ spJ (x.conds.map (shCond svd)) ++ [32, 45, 45, 62]) ++ spJ (x.acts.map (shAct svd)) ++ [41])) := by
            show _ = _
            rw [show ({ data := #[41] } : ByteArray) = st [41] from rfl, st_app2]
          generalize st (((40 :: sP ++ 32 :: x.nm) ++ spJ (x.conds.map (shCond svd)) ++ [32, 45, 45, 62]) ++ spJ (x.acts.map (shAct svd))) = sa at *
          go_wp2
          go_ret
          exact ⟨congrArg (fun z => Ending.returned (.string z)) (HAP.out.trans (congrArg st (by simp))), bt (bxn _ _) HBR.out⟩
end Go.Proofs.YtemacdimdpnkeaaDoor
namespace Go.Proofs.YtemacdimdpnkeaaDoor
open Go.RowKit
set_option linter.unusedVariables false
set_option linter.unusedSimpArgs false
set_option maxRecDepth 20000
def rclT (c : ClassD) : Str := shClass c ++ [10]
def rruT (r : RuleD) : Str := shRule svd r ++ [10]
abbrev k0' : ClassD := ⟨[], []⟩
abbrev r0' : RuleD := ⟨[], [], []⟩
set_option maxHeartbeats 8000000 in
theorem rtext_prog {P : Nat → Nat → Prop} (cs : List Value) (p : ProgD) (w : World) (h : ReP P w cs p) (hl : progL p) (hn : actsN p) (hg : gP p) : Calls Tryd.prog 20 #[.agg cs.toArray] w fun e w' => e = .returned (.string (st (shText svd p))) ∧ Below w.heap.size w w' := by
  have HTL : Hid ((shText svd p).length ≤ 20000000) := text_len hl hn
  obtain ⟨v1, v2, rfl, ⟨cs1, s1, r1⟩, ⟨cs2, s2, r2⟩⟩ := h
  obtain ⟨a1, c1, rfl⟩ := s1.shape
  obtain ⟨a2, c2, rfl⟩ := s2.shape
  obtain ⟨-, l1, m1, q1⟩ := s1.row
  obtain ⟨-, l2, m2, q2⟩ := s2.row
  have HLN : Hid (cs1.length = p.cs.length) := r1.len
  have HLM : Hid (cs2.length = p.rs.length) := r2.len
  have R1 : Hid (∀ i, i < cs1.length → ∃ b off, a1 = some ⟨b, off, none⟩ ∧ b < w.heap.size ∧ ∀ j, j < 2 → w.cell? ⟨b, off + (i * 2 + j), none⟩ = (cs1.getD i [])[j]?) := q1
  have R2 : Hid (∀ i, i < cs2.length → ∃ b off, a2 = some ⟨b, off, none⟩ ∧ b < w.heap.size ∧ ∀ j, j < 3 → w.cell? ⟨b, off + (i * 3 + j), none⟩ = (cs2.getD i [])[j]?) := q2
  have S1 : Hid (∀ i, i < cs1.length → ReK P w (cs1.getD i []) (p.cs.getD i k0')) := fun i hi => r1.at i [] _ (by have := HLN.out; omega)
  have S2 : Hid (∀ i, i < cs2.length → ReR P w (cs2.getD i []) (p.rs.getD i r0')) := fun i hi => r2.at i [] _ (by have := HLM.out; omega)
  obtain ⟨b1', b2', b3', b4'⟩ := hl
  have hq2 : cs1.length ≤ 20 := by have := HLN.out; omega
  have hq3 : cs2.length ≤ 6 := by have := HLM.out; omega
  have Q1 : Hid (∀ y ∈ p.cs, classL y) := b3'
  have Q2 : Hid (∀ y ∈ p.rs, ruleL y) := b4'
  have N2 : Hid (∀ y ∈ p.rs, ∀ a ∈ y.acts, -1099511627776 ≤ a.n ∧ a.n ≤ 1099511627776) := hn
  have F2 : Hid (∀ y ∈ p.rs, gR y) := hg
  have hnn : (cs1.length : Int) ≤ 9223372036854775807 := by omega
  have hnn2 : (cs2.length : Int) ≤ 9223372036854775807 := by omega
  clear q1 r1 s1 q2 r2 s2 hn hg b1' b2' b3' b4'
  have HX : Hid (∀ W, Below (w.alloc (.cells #[.slice a1 cs1.length c1, .slice a2 cs2.length c2] 34)).heap.size (w.alloc (.cells #[.slice a1 cs1.length c1, .slice a2 cs2.length c2] 34)) W → W.cell? ⟨w.heap.size, 0, none⟩ = some (.slice a1 cs1.length c1) ∧ W.cell? ⟨w.heap.size, 1, none⟩ = some (.slice a2 cs2.length c2) ∧ w.heap.size < W.heap.size) := fun W hW =>
    ⟨by rw [hW.cell (p := ⟨w.heap.size, 0, none⟩) (by simp)]; simp, by rw [hW.cell (p := ⟨w.heap.size, 1, none⟩) (by simp)]; simp, by have := hW.size; simp at this; omega⟩
  go_enter Tryd.func20, Tryd.ntmps20
  go_wp2
  go_loopw [3, 4, 5] (fun v3 v4 v5 wr => ∃ i : Nat, v4 = .int .i64 i ∧ i ≤ cs1.length ∧ v3 = .string (st (flI rclT p.cs i)) ∧ Below (w.alloc (.cells #[.slice a1 cs1.length c1, .slice a2 cs2.length c2] 34)).heap.size (w.alloc (.cells #[.slice a1 cs1.length c1, .slice a2 cs2.length c2] 34)) wr) (fun _ v4 _ _ => (cs1.length - intOf v4).toNat)
  case atStart => exact ⟨0, rfl, Nat.zero_le _, by rw [flI_zero]; rfl, Below.refl _ _⟩
  case round =>
    obtain ⟨i, rfl, hi, rfl, hbr⟩ := hrel
    have HBR : Hid (Below (w.alloc (.cells #[.slice a1 cs1.length c1, .slice a2 cs2.length c2] 34)).heap.size (w.alloc (.cells #[.slice a1 cs1.length c1, .slice a2 cs2.length c2] 34)) wr) := hbr
    obtain ⟨y0, y1, y2⟩ := HX.out _ hbr
    clear hbr
    by_cases hlt : i < cs1.length
    · have hiz : (i : Int) < cs1.length := by omega
      have hlt2 : i < p.cs.length := by have := HLN.out; omega
      obtain ⟨b1, o1, rfl, hb1, u1⟩ := R1.out i hlt
      obtain ⟨y, hy⟩ : ∃ y, y = p.cs.getD i k0' := ⟨_, rfl⟩
      have hS := S1.out i hlt
      rw [← hy] at hS
      obtain ⟨cc, hcc⟩ : ∃ cc, cc = cs1.getD i [] := ⟨_, rfl⟩
      rw [← hcc] at hS u1
      clear hcc
      have hm : y ∈ p.cs := by rw [hy]; exact getD_mem _ _ _ hlt2
      obtain ⟨hqn, hqa, hqs⟩ := Q1.out y hm
      have HQS : Hid (∀ s ∈ y.attrs, s.length ≤ 60) := hqs
      have HW : Hid (Below w.heap.size w wr) := bt (bxn _ _) HBR.out
      obtain ⟨e1, rfl, hsl⟩ := hS
      obtain ⟨a3, c3, rfl⟩ := hsl.shape
      obtain ⟨-, l3, m3, q3⟩ := hsl.row
      simp only [List.length_map] at u1 l3 q3
      have R3 : Hid (∀ j, j < y.attrs.length → ∃ b off, a3 = some ⟨b, off, none⟩ ∧ b < w.heap.size ∧ ∀ k, k < 1 → w.cell? ⟨b, off + (j * 1 + k), none⟩ = ((y.attrs.map clS).getD j [])[k]?) := q3
      have C0 : Hid (w.cell? ⟨b1, o1 + i * 2, none⟩ = some (.string (st y.nm))) := u1 0 (by decide)
      have C1 : Hid (w.cell? ⟨b1, o1 + i * 2 + 1, none⟩ = some (.slice a3 y.attrs.length c3)) := u1 1 (by decide)
      have p0 : wr.cell? ⟨b1, o1 + i * 2, none⟩ = some (.string (st y.nm)) := (HW.out.cell (p := ⟨b1, o1 + i * 2, none⟩) hb1).trans C0.out
      have p1 : wr.cell? ⟨b1, o1 + i * 2 + 1, none⟩ = some (.slice a3 y.attrs.length c3) := (HW.out.cell (p := ⟨b1, o1 + i * 2 + 1, none⟩) hb1).trans C1.out
      have HNX : Hid (flI rclT p.cs i ++ rclT y = flI rclT p.cs (i + 1)) := by
        show _ = _
        rw [flI_succ rclT p.cs k0' hlt2, ← hy]
      have HLE : Hid ((flI rclT p.cs i).length ≤ 20000000) := by
        have h1 := flI_le rclT p.cs i
        have h2 := HTL.out
        unfold shText at h2
        rw [List.length_append] at h2
        have h3 : (p.cs.map rclT).flatten = (p.cs.map fun c => shClass c ++ [10]).flatten := rfl
        show _ ≤ 20000000
        rw [h3] at h1
        omega
      have hs1 : (st (flI rclT p.cs i)).size ≤ 20000000 := by rw [st_size]; exact HLE.out
      have hs2 := st_size y.nm
      have hy3 : (y.attrs.length : Int) ≤ 9223372036854775807 := by omega
      clear hy hm u1 q3 hsl hqs
      go_wp2
      go_loopw [3, 5] (fun v3 v5 wq => ∃ j : Nat, v5 = .int .i64 j ∧ j ≤ y.attrs.length ∧ v3 = .string (st ((flI rclT p.cs i ++ (40 :: sLit ++ 32 :: y.nm)) ++ spJ (y.attrs.take j))) ∧ Below (w.alloc (.cells #[.slice (some ⟨b1, o1, none⟩) cs1.length c1, .slice a2 cs2.length c2] 34)).heap.size (w.alloc (.cells #[.slice (some ⟨b1, o1, none⟩) cs1.length c1, .slice a2 cs2.length c2] 34)) wq) (fun _ v5 _ => (y.attrs.length - intOf v5).toNat)
      case atStart => exact ⟨0, rfl, Nat.zero_le _, by rw [List.take_zero, show spJ [] = [] from rfl, List.append_nil, show ({ data := #[40, 108, 105, 116, 101, 114, 97, 108, 105, 122, 101, 32] } : ByteArray) = st [40, 108, 105, 116, 101, 114, 97, 108, 105, 122, 101, 32] from rfl, st_app2, st_app2, List.append_assoc]; rfl, HBR.out⟩
      case round =>
        obtain ⟨j, rfl, hj, rfl, hbq⟩ := hrel
        have HBQ : Hid (Below (w.alloc (.cells #[.slice (some ⟨b1, o1, none⟩) cs1.length c1, .slice a2 cs2.length c2] 34)).heap.size (w.alloc (.cells #[.slice (some ⟨b1, o1, none⟩) cs1.length c1, .slice a2 cs2.length c2] 34)) wr) := hbq
        obtain ⟨z0, z1, z2⟩ := HX.out _ hbq
        clear hbq
        have HWQ : Hid (Below w.heap.size w wr) := bt (bxn _ _) HBQ.out
        have t0 : wr.cell? ⟨b1, o1 + i * 2, none⟩ = some (.string (st y.nm)) := (HWQ.out.cell (p := ⟨b1, o1 + i * 2, none⟩) hb1).trans C0.out
        have t1 : wr.cell? ⟨b1, o1 + i * 2 + 1, none⟩ = some (.slice a3 y.attrs.length c3) := (HWQ.out.cell (p := ⟨b1, o1 + i * 2 + 1, none⟩) hb1).trans C1.out
        have hle : ((flI rclT p.cs i ++ (40 :: sLit ++ 32 :: y.nm)) ++ spJ (y.attrs.take j)).length ≤ 21000000 := by
          have h1 := spJ_le y.attrs j
          have h2 := spJ_map (f := fun s : Str => s) (m := 60) hqa fun x hx => HQS.out x hx
          rw [List.map_id'] at h2
          have h3 := HLE.out
          simp only [sLit, List.length_append, List.length_cons, List.length_nil] at *
          omega
        have hs3 : (st ((flI rclT p.cs i ++ (40 :: sLit ++ 32 :: y.nm)) ++ spJ (y.attrs.take j))).size ≤ 21000000 := by rw [st_size]; exact hle
        clear hle
        by_cases hjt : j < y.attrs.length
        · have hjz : (j : Int) < y.attrs.length := by omega
          obtain ⟨b2, o2, rfl, hb2, u2⟩ := R3.out j hjt
          obtain ⟨s, hs⟩ : ∃ s, s = y.attrs.getD j [] := ⟨_, rfl⟩
          rw [getD_map clS y.attrs j [] hjt, ← hs] at u2
          have g0 : wr.cell? ⟨b2, o2 + j, none⟩ = some (.string (st s)) := (HWQ.out.cell (p := ⟨b2, o2 + j, none⟩) hb2).trans (by have := u2 0 (by decide); simpa [clS] using this)
          have hsm : s.length ≤ 60 := HQS.out s (by rw [hs]; exact getD_mem _ _ _ hjt)
          have hs4 := st_size s
          have HAP : Hid ((st ((flI rclT p.cs i ++ (40 :: sLit ++ 32 :: y.nm)) ++ spJ (y.attrs.take j)) ++ { data := #[32] }) ++ st s = st ((flI rclT p.cs i ++ (40 :: sLit ++ 32 :: y.nm)) ++ spJ (y.attrs.take (j + 1)))) := by
            show _ = _
            rw [show ({ data := #[32] } : ByteArray) = st [32] from rfl, st_app2, st_app2, spJ_take _ hjt, ← hs, List.append_assoc, List.append_assoc]
          generalize st ((flI rclT p.cs i ++ (40 :: sLit ++ 32 :: y.nm)) ++ spJ (y.attrs.take j)) = sa at *
          clear hs u2
          go_wp2
          go_roundw
          case rel => exact ⟨j + 1, by simp, by omega, congrArg Value.string HAP.out, HBQ.out⟩
          case measure => simp [intOf]; omega
        · have hjz : ¬ (j : Int) < y.attrs.length := by omega
          obtain rfl : j = y.attrs.length := by omega
          rw [List.take_of_length_le (Nat.le_refl _)] at hs3 ⊢
          have HAP : Hid (st ((flI rclT p.cs i ++ (40 :: sLit ++ 32 :: y.nm)) ++ spJ y.attrs) ++ { data := #[41, 10] } = st (flI rclT p.cs (i + 1))) := by
            show _ = _
            rw [show ({ data := #[41, 10] } : ByteArray) = st [41, 10] from rfl, st_app2, ← HNX.out]
            simp [rclT, shClass]
          generalize st ((flI rclT p.cs i ++ (40 :: sLit ++ 32 :: y.nm)) ++ spJ y.attrs) = sa at *
          go_wp2
          go_roundw
          case rel => exact ⟨i + 1, by simp, by omega, congrArg Value.string HAP.out, HBQ.out⟩
          case measure => simp [intOf]; omega
    · have hiz : ¬ (i : Int) < cs1.length := by omega
      obtain rfl : i = cs1.length := by omega
      have eF : flI rclT p.cs cs1.length = (p.cs.map rclT).flatten := by rw [HLN.out, flI_all]
      rw [eF]
      clear eF
      obtain ⟨wo, hwo⟩ : ∃ wo, wo = wr := ⟨_, rfl⟩
      subst hwo
      go_wp2
      go_loopw [3, 6] (fun v3 v4 wr => ∃ i : Nat, v4 = .int .i64 i ∧ i ≤ cs2.length ∧ v3 = .string (st ((p.cs.map rclT).flatten ++ flI rruT p.rs i)) ∧ Below (w.alloc (.cells #[.slice a1 cs1.length c1, .slice a2 cs2.length c2] 34)).heap.size (w.alloc (.cells #[.slice a1 cs1.length c1, .slice a2 cs2.length c2] 34)) wr) (fun _ v4 _ => (cs2.length - intOf v4).toNat)
      case atStart => exact ⟨0, rfl, Nat.zero_le _, by rw [flI_zero, List.append_nil], HBR.out⟩
      case round =>
        obtain ⟨i, rfl, hi2, rfl, hbr⟩ := hrel
        have HBR2 : Hid (Below (w.alloc (.cells #[.slice a1 cs1.length c1, .slice a2 cs2.length c2] 34)).heap.size (w.alloc (.cells #[.slice a1 cs1.length c1, .slice a2 cs2.length c2] 34)) wr) := hbr
        obtain ⟨z0, z1, z2⟩ := HX.out _ hbr
        clear hbr
        by_cases hlt2 : i < cs2.length
        · have hiz2 : (i : Int) < cs2.length := by omega
          have hlt3 : i < p.rs.length := by have := HLM.out; omega
          obtain ⟨b1, o1, rfl, hb1, u1⟩ := R2.out i hlt2
          obtain ⟨y, hy⟩ : ∃ y, y = p.rs.getD i r0' := ⟨_, rfl⟩
          have hS := S2.out i hlt2
          rw [← hy] at hS
          obtain ⟨cc, hcc⟩ : ∃ cc, cc = cs2.getD i [] := ⟨_, rfl⟩
          rw [← hcc] at hS u1
          clear hcc
          have hm : y ∈ p.rs := by rw [hy]; exact getD_mem _ _ _ hlt3
          have hqy := Q2.out y hm
          have hfy := F2.out y hm
          have HW : Hid (Below w.heap.size w wr) := bt (bxn _ _) HBR2.out
          have hS2 := hS
          obtain ⟨e1, e2, rfl, -, -⟩ := hS2
          have p0 : wr.cell? ⟨b1, o1 + i * 3, none⟩ = some (.string (st y.nm)) := (HW.out.cell (p := ⟨b1, o1 + i * 3, none⟩) hb1).trans (u1 0 (by decide))
          have p1 : wr.cell? ⟨b1, o1 + i * 3 + 1, none⟩ = some (e1) := (HW.out.cell (p := ⟨b1, o1 + i * 3 + 1, none⟩) hb1).trans (u1 1 (by decide))
          have p2 : wr.cell? ⟨b1, o1 + i * 3 + 2, none⟩ = some (e2) := (HW.out.cell (p := ⟨b1, o1 + i * 3 + 2, none⟩) hb1).trans (u1 2 (by decide))
          have hsA : (st ((p.cs.map rclT).flatten ++ flI rruT p.rs i)).size ≤ 20000000 := by
            rw [st_size, List.length_append]
            have h1 := flI_le rruT p.rs i
            have h2 : ((p.cs.map rclT).flatten ++ (p.rs.map rruT).flatten).length ≤ 20000000 := HTL.out
            rw [List.length_append] at h2
            omega
          have hsB : (st (shRule svd y)).size ≤ 2000000 := by rw [st_size]; exact rule_len hqy (N2.out y hm)
          have CT := fun W (hW : Below w.heap.size w W) => rrule_any _ y W (ReR.keep (Stays.below hW) hS) hqy hfy
          have HAP : Hid ((st ((p.cs.map rclT).flatten ++ flI rruT p.rs i) ++ st (shRule svd y)) ++ { data := #[10] } = st ((p.cs.map rclT).flatten ++ flI rruT p.rs (i + 1))) := by
            show _ = _
            rw [show ({ data := #[10] } : ByteArray) = st [10] from rfl, st_app2, st_app2, flI_succ rruT p.rs r0' hlt3, ← hy]
            simp [rruT]
          generalize st ((p.cs.map rclT).flatten ++ flI rruT p.rs i) = sa at *
          generalize st (shRule svd y) = sb at *
          clear hy hS hm u1 Q1 Q2 F2 N2
          go_wp2_with (go_at_call 12; refine (CT _ HW.out).mono ?_; rintro e w3 ⟨rfl, hb3⟩; have B3 : Hid (Below (w.alloc (.cells #[.slice a1 cs1.length c1, .slice (some ⟨b1, o1, none⟩) cs2.length c2] 34)).heap.size (w.alloc (.cells #[.slice a1 cs1.length c1, .slice (some ⟨b1, o1, none⟩) cs2.length c2] 34)) w3) := bt HBR2.out hb3; clear hb3 CT)
          go_roundw
          case rel => exact ⟨i + 1, by simp, by omega, congrArg Value.string HAP.out, B3.out⟩
          case measure => simp [intOf]; omega
        · have hiz2 : ¬ (i : Int) < cs2.length := by omega
          obtain rfl : i = cs2.length := by omega
          have eF : (p.cs.map rclT).flatten ++ flI rruT p.rs cs2.length = shText svd p := by rw [HLM.out, flI_all]; rfl
          rw [eF]
          clear eF
          go_wp2
          go_ret
          exact ⟨rfl, bt (bxn _ _) HBR2.out⟩
end Go.Proofs.YtemacdimdpnkeaaDoor
