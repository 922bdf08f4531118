import Derived.Test.YtemacdimdpnkeaaGreatDoorB11
import Derived.Laws.EntriesVeiled
namespace Go.Proofs.YtemacdimdpnkeaaGreatDoor
set_option maxRecDepth 20000
open Go.RowKit
set_option linter.unusedVariables false
set_option linter.unusedSimpArgs false
theorem par_pr (u : ByteArray) : (parL u.data.toList = none ∧ ∃ e : Int, e ≠ 0 ∧ prA u = .tuple #[vv 0 0 ByteArray.empty, .int .i64 e]) ∨
    ∃ (k n : Int) (t : ByteArray), prA u = .tuple #[vv k n t, .int .i64 0] ∧ parL u.data.toList = some (tokV k n t.data.toList) := by
  unfold parL
  cases hw : wordB u.data.toList with
  | false => exact .inl ⟨by simp, 6, by decide, pr_no hw⟩
  | true =>
    rw [if_neg (by simp)]
    by_cases hn : u.data.toList = nil3
    · rw [if_pos hn]
      exact .inr ⟨0, 0, ByteArray.empty, pr_nil hw hn, rfl⟩
    · rw [if_neg hn]
      cases hb : numB u.data.toList with
      | true =>
        rw [if_pos rfl]
        have h := pr_num hw hn hb
        by_cases hd : 1099511627776 < decV u.data.toList
        · rw [if_pos hd] at h ⊢
          exact .inl ⟨rfl, 12, by decide, h⟩
        · rw [if_neg hd] at h ⊢
          exact .inr ⟨1, _, ByteArray.empty, h, rfl⟩
      | false =>
        rw [if_neg (by simp)]
        exact .inr ⟨2, 0, u, pr_sym hw hn hb, rfl⟩
theorem set7a {w w1 : World} (h : Below w.heap.size w w1) (o : Obj) (b : Nat) (x0 x1 x2 x3 x4 x5 x6 : Value) (hb : w.heap.size ≤ b := by exact Nat.le_refl _) : Below w.heap.size w ((((((((w1.setCell ⟨b, 0, none⟩ x0).setCell ⟨b, 1, none⟩ x1).setCell ⟨b, 2, none⟩ x2).setCell ⟨b, 3, none⟩ x3).setCell ⟨b, 4, none⟩ x4).setCell ⟨b, 5, none⟩ x5).setCell ⟨b, 6, none⟩ x6).alloc o) :=
  (set7 h b hb x0 x1 x2 x3 x4 x5 x6).alloc (set7 h b hb x0 x1 x2 x3 x4 x5 x6).size o
set_option maxHeartbeats 4000000 in
theorem tval_any (s : ByteArray) (w : World) (hs : s.size ≤ 1000000) (hV : Vars w) :
    Calls Tryz.prog 57 #[.string s] w fun e w' => e = .returned (tkV (vlL s.data.toList)) ∧ Below w.heap.size w w' := by
  have CR := fun W hv => run_any s W hs hv
  obtain ⟨A, hA⟩ : ∃ A, A = vlL s.data.toList := ⟨_, rfl⟩
  rw [← hA]
  have hN := hA
  unfold vlL at hN
  have hRle := runN_le _ s.data.toList (Nat.le_refl _)
  rw [lenL] at hRle
  obtain ⟨R, hR⟩ : ∃ R, runN s.data.toList = R := ⟨_, rfl⟩
  rw [hR] at CR hN hRle
  obtain ⟨u, hu⟩ : ∃ u, s.extract 0 R = u := ⟨_, rfl⟩
  have hul : u.data.toList = s.data.toList.take R := by rw [← hu, take_list]
  have hus : u.size = R := by rw [← lenL u, hul, List.length_take, lenL]; omega
  rw [hu] at CR
  rw [← hul] at hN
  have CP := fun W hv => parse_any u W (by omega) hv
  rcases par_pr u with ⟨h1, e, he, h2⟩ | ⟨k, n, t, h2, h1⟩
  · rw [h2] at CP
    rw [h1] at hN
    have HE : Hid (A = none) := hN
    have hez : (e == 0) = false := by simpa using he
    unfold vv at CP
    clear hN hA h1 h2 hul hu hR he
    go_enter Tryz.func57, Tryz.ntmps57
    go_wp2_with (first | (go_at_call 81; refine (CR _ (hV.below (bxn _ _))).mono ?_; rintro e w1 ⟨rfl, hb1⟩; clear CR; obtain ⟨hc, hf⟩ := bcell hb1; have hz : w.heap.size < w1.heap.size := by { have := hb1.size; simp at this; omega }) | (go_at_call 82; refine (CP _ ((hV.below (bxn _ _)).below hb1)).mono ?_; rintro e w2 ⟨rfl, hb2⟩; clear CP; obtain ⟨hc2, hf2⟩ := bcell hb2; have hz2 : w.heap.size < w2.heap.size := by { have := hb2.size; omega }))
    refine bodyPost_ret (v := tkV none) (by simp [results, Tryz.results57, go_sem, tkV, tv, st, tok0, hc, hz, hc2, hz2] <;> rfl) rfl ⟨by rw [HE.out], ?_⟩
    exact set7a (bt (up1 hb1) hb2) _ _ _ _ _ _ _ _ _
  · rw [h2] at CP
    rw [h1] at hN
    have HE : Hid (tkV A = .tuple #[.agg #[.int .u8 11, .string ⟨#[]⟩, .int .u8 0, .int .u8 k, .int .i64 n, .string t, .int .i64 0], .int .i64 R]) := by
      show _ = _
      rw [hN]
      unfold tkV tv tokV
      simp only [st_of]
      rfl
    unfold vv at CP
    clear hN hA h1 h2 hul hu hR
    go_enter Tryz.func57, Tryz.ntmps57
    go_wp2_with (first | (go_at_call 81; refine (CR _ (hV.below (bxn _ _))).mono ?_; rintro e w1 ⟨rfl, hb1⟩; clear CR; obtain ⟨hc, hf⟩ := bcell hb1; have hz : w.heap.size < w1.heap.size := by { have := hb1.size; simp at this; omega }) | (go_at_call 82; refine (CP _ ((hV.below (bxn _ _)).below hb1)).mono ?_; rintro e w2 ⟨rfl, hb2⟩; clear CP; obtain ⟨hc2, hf2⟩ := bcell hb2; have hz2 : w.heap.size < w2.heap.size := by { have := hb2.size; omega }))
    refine bodyPost_ret (v := .tuple #[.agg #[.int .u8 11, .string ⟨#[]⟩, .int .u8 0, .int .u8 k, .int .i64 n, .string t, .int .i64 0], .int .i64 R]) (by simp [results, Tryz.results57, go_sem, hc, hz, hc2, hz2] <;> rfl) rfl ⟨by rw [HE.out], ?_⟩
    exact set7a (bt (up1 hb1) hb2) _ _ _ _ _ _ _ _ _
theorem tkV_is (x : Option (Tk × Nat)) : ∃ (k : Int) (nm : ByteArray) (p vk vn : Int) (vs : ByteArray) (n : Nat), tkV x = .tuple #[.agg #[.int .u8 k, .string nm, .int .u8 p, .int .u8 vk, .int .i64 vn, .string vs, .int .i64 0], .int .i64 n] := by
  cases x with
  | none => exact ⟨_, _, _, _, _, _, 0, rfl⟩
  | some y => exact ⟨_, _, _, _, _, _, y.2, rfl⟩
set_option maxHeartbeats 4000000 in
theorem clos25_any (s : ByteArray) (w : World) (hs : s.size ≤ 1000000) (hV : Vars w) :
    Calls Tryz.prog 51 #[.string s] w fun e w' => e = .returned (tkV (prFrom s.data.toList 2 6 0)) ∧ Below w.heap.size w w' := by
  have C : ∀ W, Vars W → Calls Tryz.prog 52 #[.string s, .int .i64 2] W fun e w' => e = .returned (tkV (prFrom s.data.toList 2 6 0)) ∧ Below W.heap.size W w' := fun W (hv : Vars W) => tpred_any s 2 W hs (by decide)
  obtain ⟨k, nm, p, vk, vn, vs, n, hx⟩ := tkV_is (prFrom s.data.toList 2 6 0)
  rw [hx] at C ⊢
  clear hx
  go_enter Tryz.func51, Tryz.ntmps51
  go_wp2_with (first | (go_at_call 52; refine (C _ (hV.below (bxn _ _))).mono ?_; rintro e w1 ⟨rfl, hb1⟩; clear C; obtain ⟨hc, hf⟩ := bcell hb1; have hz : w.heap.size < w1.heap.size := by { have := hb1.size; simp at this; omega }))
  refine bodyPost_ret (v := .tuple #[.agg #[.int .u8 k, .string nm, .int .u8 p, .int .u8 vk, .int .i64 vn, .string vs, .int .i64 0], .int .i64 n]) (by simp [results, Tryz.results51, go_sem, hc, hz] <;> rfl) rfl ⟨rfl, ?_⟩
  exact set7 (up1 hb1) _ (Nat.le_refl _) _ _ _ _ _ _ _
set_option maxHeartbeats 4000000 in
theorem clos29_any (s : ByteArray) (w : World) (hs : s.size ≤ 1000000) (hV : Vars w) :
    Calls Tryz.prog 55 #[.string s] w fun e w' => e = .returned (tkV (prFrom s.data.toList 1 6 0)) ∧ Below w.heap.size w w' := by
  have C : ∀ W, Vars W → Calls Tryz.prog 52 #[.string s, .int .i64 1] W fun e w' => e = .returned (tkV (prFrom s.data.toList 1 6 0)) ∧ Below W.heap.size W w' := fun W (hv : Vars W) => tpred_any s 1 W hs (by decide)
  obtain ⟨k, nm, p, vk, vn, vs, n, hx⟩ := tkV_is (prFrom s.data.toList 1 6 0)
  rw [hx] at C ⊢
  clear hx
  go_enter Tryz.func55, Tryz.ntmps55
  go_wp2_with (first | (go_at_call 52; refine (C _ (hV.below (bxn _ _))).mono ?_; rintro e w1 ⟨rfl, hb1⟩; clear C; obtain ⟨hc, hf⟩ := bcell hb1; have hz : w.heap.size < w1.heap.size := by { have := hb1.size; simp at this; omega }))
  refine bodyPost_ret (v := .tuple #[.agg #[.int .u8 k, .string nm, .int .u8 p, .int .u8 vk, .int .i64 vn, .string vs, .int .i64 0], .int .i64 n]) (by simp [results, Tryz.results55, go_sem, hc, hz] <;> rfl) rfl ⟨rfl, ?_⟩
  exact set7 (up1 hb1) _ (Nat.le_refl _) _ _ _ _ _ _ _
set_option maxHeartbeats 4000000 in
theorem clos27_any (s : ByteArray) (w : World) (hs : s.size ≤ 1000000) (hV : Vars w) :
    Calls Tryz.prog 53 #[.string s] w fun e w' => e = .returned (tkV (nmL s.data.toList 9 [60] [62])) ∧ Below w.heap.size w w' := by
  have C : ∀ W, Vars W → Calls Tryz.prog 54 #[.string s, .int .u8 9, .string ⟨#[60]⟩, .string ⟨#[62]⟩] W fun e w' => e = .returned (tkV (nmL s.data.toList 9 [60] [62])) ∧ Below W.heap.size W w' := fun W (hv : Vars W) => tnamed_any s ⟨#[60]⟩ ⟨#[62]⟩ 9 W hs (by decide) (by decide) hv
  obtain ⟨k, nm, p, vk, vn, vs, n, hx⟩ := tkV_is (nmL s.data.toList 9 [60] [62])
  rw [hx] at C ⊢
  clear hx
  go_enter Tryz.func53, Tryz.ntmps53
  go_wp2_with (first | (go_at_call 54; refine (C _ (hV.below (bxn _ _))).mono ?_; rintro e w1 ⟨rfl, hb1⟩; clear C; obtain ⟨hc, hf⟩ := bcell hb1; have hz : w.heap.size < w1.heap.size := by { have := hb1.size; simp at this; omega }))
  refine bodyPost_ret (v := .tuple #[.agg #[.int .u8 k, .string nm, .int .u8 p, .int .u8 vk, .int .i64 vn, .string vs, .int .i64 0], .int .i64 n]) (by simp [results, Tryz.results53, go_sem, hc, hz] <;> rfl) rfl ⟨rfl, ?_⟩
  exact set7 (up1 hb1) _ (Nat.le_refl _) _ _ _ _ _ _ _
set_option maxHeartbeats 4000000 in
theorem clos30_any (s : ByteArray) (w : World) (hs : s.size ≤ 1000000) (hV : Vars w) :
    Calls Tryz.prog 56 #[.string s] w fun e w' => e = .returned (tkV (nmL s.data.toList 8 [94] [])) ∧ Below w.heap.size w w' := by
  have C : ∀ W, Vars W → Calls Tryz.prog 54 #[.string s, .int .u8 8, .string ⟨#[94]⟩, .string ⟨#[]⟩] W fun e w' => e = .returned (tkV (nmL s.data.toList 8 [94] [])) ∧ Below W.heap.size W w' := fun W (hv : Vars W) => tnamed_any s ⟨#[94]⟩ ⟨#[]⟩ 8 W hs (by decide) (by decide) hv
  obtain ⟨k, nm, p, vk, vn, vs, n, hx⟩ := tkV_is (nmL s.data.toList 8 [94] [])
  rw [hx] at C ⊢
  clear hx
  go_enter Tryz.func56, Tryz.ntmps56
  go_wp2_with (first | (go_at_call 54; refine (C _ (hV.below (bxn _ _))).mono ?_; rintro e w1 ⟨rfl, hb1⟩; clear C; obtain ⟨hc, hf⟩ := bcell hb1; have hz : w.heap.size < w1.heap.size := by { have := hb1.size; simp at this; omega }))
  refine bodyPost_ret (v := .tuple #[.agg #[.int .u8 k, .string nm, .int .u8 p, .int .u8 vk, .int .i64 vn, .string vs, .int .i64 0], .int .i64 n]) (by simp [results, Tryz.results56, go_sem, hc, hz] <;> rfl) rfl ⟨rfl, ?_⟩
  exact set7 (up1 hb1) _ (Nat.le_refl _) _ _ _ _ _ _ _
theorem mk_pos {l : List UInt8} : ∀ (n k : Nat) {t : Tk} {m : Nat}, n + k ≤ 7 → mkFrom l n k = some (t, m) → 1 ≤ m
  | 0, k, t, m, _, h => by cases h
  | n + 1, k, t, m, hk, h => by
    unfold mkFrom at h
    split at h
    · obtain ⟨_, rfl⟩ := Prod.mk.inj (Option.some.inj h)
      unfold mkL
      repeat' split
      all_goals first | (simp; done) | omega
    · exact mk_pos n (k + 1) (by omega) h
theorem pr_pos {l : List UInt8} {q : Nat} (hq : 1 ≤ q) : ∀ (n k : Nat) {t : Tk} {m : Nat}, prFrom l q n k = some (t, m) → 1 ≤ m
  | 0, k, t, m, h => by cases h
  | n + 1, k, t, m, h => by
    unfold prFrom at h
    split at h
    · obtain ⟨_, rfl⟩ := Prod.mk.inj (Option.some.inj h)
      exact hq
    · exact pr_pos hq n (k + 1) h
theorem nm_pos {l a b : List UInt8} {k : Int} {t : Tk} {m : Nat} (h : nmL l k a b = some (t, m)) : 1 ≤ m := by
  unfold nmL at h
  split at h
  · cases h
  · split at h
    · cases h
    · rename_i h1 h2
      obtain ⟨_, rfl⟩ := Prod.mk.inj (Option.some.inj h)
      have : runN (l.drop a.length) ≠ 0 := fun e => h2 (.inl e)
      omega
theorem vl_pos {l : List UInt8} {t : Tk} {m : Nat} (h : vlL l = some (t, m)) : 1 ≤ m := by
  unfold vlL at h
  split at h
  · cases h
  · rename_i t' hp
    obtain ⟨_, rfl⟩ := Prod.mk.inj (Option.some.inj h)
    have := (word_ok (par_word hp)).2.1
    rw [List.length_take] at this
    omega
theorem nt_pos {l : List UInt8} {t : Tk} {m : Nat} (h : ntL l = some (t, m)) : 1 ≤ m := by
  unfold ntL at h
  split at h
  · obtain ⟨_, rfl⟩ := Prod.mk.inj (Option.some.inj h); exact Nat.le_refl _
  · cases h
theorem seven_pos {l : List UInt8} {k : Nat} {t : Tk} {m : Nat} (h : seven l k = some (t, m)) : 1 ≤ m := by
  unfold seven at h
  split at h
  · exact mk_pos 7 0 (by omega) h
  · exact nt_pos h
  · exact pr_pos (by decide) _ _ h
  · exact nm_pos h
  · exact pr_pos (by decide) _ _ h
  · exact nm_pos h
  · exact vl_pos h
theorem seven_step (l : List UInt8) (k : Nat) (hk : k < 7) : svFrom l (7 - k) k = (seven l k).or (svFrom l (7 - (k + 1)) (k + 1)) := by
  obtain ⟨m, hm⟩ : ∃ m, 7 - k = m + 1 := ⟨6 - k, by omega⟩
  rw [hm, show 7 - (k + 1) = m by omega]
  show (match seven l k with | some x => some x | none => svFrom l m (k + 1)) = _
  cases seven l k <;> rfl
end Go.Proofs.YtemacdimdpnkeaaGreatDoor
namespace Go.Proofs.YtemacdimdpnkeaaGreatDoor
set_option maxRecDepth 20000
open Go.RowKit
set_option linter.unusedVariables false
set_option linter.unusedSimpArgs false
theorem tkV_some (t : Tk) (n : Nat) : tkV (some (t, n)) = .tuple #[.agg #[.int .u8 t.k, .string (st t.nm), .int .u8 t.p, .int .u8 t.vk, .int .i64 t.vn, .string (st t.vs), .int .i64 0], .int .i64 n] := rfl
end Go.Proofs.YtemacdimdpnkeaaGreatDoor
namespace Go.Proofs.YtemacdimdpnkeaaGreatDoor
set_option maxRecDepth 20000
open Go.RowKit
set_option linter.unusedVariables false
set_option linter.unusedSimpArgs false
theorem bxn2 (w : World) (o o' : Obj) : Below w.heap.size w ((w.alloc o).alloc o') := bt (bxn _ _) (bxn _ _)
set_option maxHeartbeats 8000000 in
theorem take_any (s : ByteArray) (w : World) (hs : s.size ≤ 1000000) (hV : Vars w) :
    Calls Tryz.prog 24 #[.string s] w fun e w' => e = .returned (tkV (tkL s.data.toList)) ∧ Below w.heap.size w w' := by
  obtain ⟨A, hA⟩ : ∃ A, A = tkL s.data.toList := ⟨_, rfl⟩
  rw [← hA]
  have HA : Hid (svFrom s.data.toList 7 0 = A) := hA.symm
  clear hA
  have C23 : ∀ W, Vars W → Calls Tryz.prog 49 #[.string s] W fun e w' => e = .returned (tkV (seven s.data.toList 0)) ∧ Below W.heap.size W w' := fun W hv => tmark_any s W hs
  have C24 : ∀ W, Vars W → Calls Tryz.prog 50 #[.string s] W fun e w' => e = .returned (tkV (seven s.data.toList 1)) ∧ Below W.heap.size W w' := fun W hv => tnot_any s W hs
  have C25 : ∀ W, Vars W → Calls Tryz.prog 51 #[.string s] W fun e w' => e = .returned (tkV (seven s.data.toList 2)) ∧ Below W.heap.size W w' := fun W hv => clos25_any s W hs hv
  have C27 : ∀ W, Vars W → Calls Tryz.prog 53 #[.string s] W fun e w' => e = .returned (tkV (seven s.data.toList 3)) ∧ Below W.heap.size W w' := fun W hv => clos27_any s W hs hv
  have C29 : ∀ W, Vars W → Calls Tryz.prog 55 #[.string s] W fun e w' => e = .returned (tkV (seven s.data.toList 4)) ∧ Below W.heap.size W w' := fun W hv => clos29_any s W hs hv
  have C30 : ∀ W, Vars W → Calls Tryz.prog 56 #[.string s] W fun e w' => e = .returned (tkV (seven s.data.toList 5)) ∧ Below W.heap.size W w' := fun W hv => clos30_any s W hs hv
  have C31 : ∀ W, Vars W → Calls Tryz.prog 57 #[.string s] W fun e w' => e = .returned (tkV (seven s.data.toList 6)) ∧ Below W.heap.size W w' := fun W hv => tval_any s W hs hv
  go_enter Tryz.func24, Tryz.ntmps24
  go_wp2
  go_loopw [12] (fun v wr => ∃ k : Nat, v = .int .i64 k ∧ k ≤ 7 ∧ svFrom s.data.toList (7 - k) k = A ∧ Below ((w.alloc (.cells #[.int .u8 0, .string ⟨#[]⟩, .int .u8 0, .int .u8 0, .int .i64 0, .string ⟨#[]⟩, .int .i64 0] 71)).alloc (.cells #[.func (.func 49) #[] #[], .func (.func 50) #[] #[], .func (.func 51) #[] #[], .func (.func 53) #[] #[], .func (.func 55) #[] #[], .func (.func 56) #[] #[], .func (.func 57) #[] #[]] 73)).heap.size ((w.alloc (.cells #[.int .u8 0, .string ⟨#[]⟩, .int .u8 0, .int .u8 0, .int .i64 0, .string ⟨#[]⟩, .int .i64 0] 71)).alloc (.cells #[.func (.func 49) #[] #[], .func (.func 50) #[] #[], .func (.func 51) #[] #[], .func (.func 53) #[] #[], .func (.func 55) #[] #[], .func (.func 56) #[] #[], .func (.func 57) #[] #[]] 73)) wr) (fun v _ => (7 - intOf v).toNat)
  case atStart => exact ⟨0, rfl, by omega, HA.out, Below.refl _ _⟩
  case round =>
    obtain ⟨k, rfl, hk, hr, hbw⟩ := hrel
    have HR : Hid (svFrom s.data.toList (7 - k) k = A) := hr
    have HVr : Hid (Vars wr) := (hV.below (bxn2 _ _ _)).below hbw
    have HBr : Hid (Below w.heap.size w wr) := bt (bxn2 _ _ _) hbw
    have hzr : w.heap.size + 1 < wr.heap.size := by have := hbw.size; simp at this; omega
    have hz0 : w.heap.size < wr.heap.size := by omega
    clear hr HA hV
    by_cases h7 : k < 7
    · have hst := seven_step s.data.toList k h7
      rw [HR.out] at hst
      obtain h0 | h0 | h0 | h0 | h0 | h0 | h0 : k = 0 ∨ k = 1 ∨ k = 2 ∨ k = 3 ∨ k = 4 ∨ k = 5 ∨ k = 6 := by omega
      · subst h0
        clear C24 C25 C27 C29 C30 C31 HR h7 hk
        have hcl : wr.cell? ⟨w.heap.size + 1, 0, none⟩ = some (.func (.func 49) #[] #[]) := by rw [(bcell hbw).1 _ _ (by simp)]; go_simp
        have hzb : ∀ (b o : Nat), b < w.heap.size + 1 + 1 → wr.cell? ⟨b, o, none⟩ = ((w.alloc (.cells #[.int .u8 0, .string ⟨#[]⟩, .int .u8 0, .int .u8 0, .int .i64 0, .string ⟨#[]⟩, .int .i64 0] 71)).alloc (.cells #[.func (.func 49) #[] #[], .func (.func 50) #[] #[], .func (.func 51) #[] #[], .func (.func 53) #[] #[], .func (.func 55) #[] #[], .func (.func 56) #[] #[], .func (.func 57) #[] #[]] 73)).cell? ⟨b, o, none⟩ := fun b o h => (bcell hbw).1 b o (by simpa using h)
        have hzf : ∀ (b o : Nat), b < w.heap.size + 1 + 1 → wr.frozen? ⟨b, o, none⟩ = ((w.alloc (.cells #[.int .u8 0, .string ⟨#[]⟩, .int .u8 0, .int .u8 0, .int .i64 0, .string ⟨#[]⟩, .int .i64 0] 71)).alloc (.cells #[.func (.func 49) #[] #[], .func (.func 50) #[] #[], .func (.func 51) #[] #[], .func (.func 53) #[] #[], .func (.func 55) #[] #[], .func (.func 56) #[] #[], .func (.func 57) #[] #[]] 73)).frozen? ⟨b, o, none⟩ := fun b o h => (bcell hbw).2 b o (by simpa using h)
        cases hx : seven s.data.toList 0 with
        | some y =>
          obtain ⟨ty, n⟩ := y
          have hn := seven_pos hx
          have HE : Hid (A = some (ty, n)) := by show _ = _; rw [hst, hx]; rfl
          rw [hx] at C23
          have C := C23 wr HVr.out
          unfold tkV tv at C
          have hnz : (0 : Int) < n := by omega
          clear C23 hst hx hn
          go_wp2_with (first | (go_at_call 49; refine C.mono ?_; rintro e w1 ⟨rfl, hb1⟩; clear C; obtain ⟨hc, hf⟩ := bcell hb1; have hz1 : w.heap.size < w1.heap.size := by { have := hb1.size; omega }))
          have q0 : w1.cell? ⟨w.heap.size, 0, none⟩ = some (.int .u8 0) := by rw [hc _ _ hz0, hzb _ _ (by omega)]; go_simp
          have q1 : w1.cell? ⟨w.heap.size, 1, none⟩ = some (.string ⟨#[]⟩) := by rw [hc _ _ hz0, hzb _ _ (by omega)]; go_simp
          have q2 : w1.cell? ⟨w.heap.size, 2, none⟩ = some (.int .u8 0) := by rw [hc _ _ hz0, hzb _ _ (by omega)]; go_simp
          have q3 : w1.cell? ⟨w.heap.size, 3, none⟩ = some (.int .u8 0) := by rw [hc _ _ hz0, hzb _ _ (by omega)]; go_simp
          have q4 : w1.cell? ⟨w.heap.size, 4, none⟩ = some (.int .i64 0) := by rw [hc _ _ hz0, hzb _ _ (by omega)]; go_simp
          have q5 : w1.cell? ⟨w.heap.size, 5, none⟩ = some (.string ⟨#[]⟩) := by rw [hc _ _ hz0, hzb _ _ (by omega)]; go_simp
          have q6 : w1.cell? ⟨w.heap.size, 6, none⟩ = some (.int .i64 0) := by rw [hc _ _ hz0, hzb _ _ (by omega)]; go_simp
          refine bodyPost_ret (v := tkV (some (ty, n))) (by simp [results, Tryz.results24, go_sem, tkV, tv, q0, q1, q2, q3, q4, q5, q6, hz1] <;> rfl) rfl ⟨by rw [HE.out], ?_⟩
          exact set7a (bt HBr.out hb1) _ _ _ _ _ _ _ _ _
        | none =>
          have HE : Hid (svFrom s.data.toList (7 - (0 + 1)) (0 + 1) = A) := by show _ = _; rw [hst, hx]; rfl
          rw [hx] at C23
          have C := C23 wr HVr.out
          unfold tkV tv at C
          clear C23 hst hx
          go_wp2_with (first | (go_at_call 49; refine C.mono ?_; rintro e w1 ⟨rfl, hb1⟩; clear C; obtain ⟨hc, hf⟩ := bcell hb1; have hz1 : w.heap.size < w1.heap.size := by { have := hb1.size; omega }))
          go_roundw
          case rel => exact ⟨0 + 1, by simp, by omega, HE.out, (bt hbw hb1).alloc (bt hbw hb1).size _⟩
          case measure => simp [intOf]
      · subst h0
        clear C23 C25 C27 C29 C30 C31 HR h7 hk
        have hcl : wr.cell? ⟨w.heap.size + 1, 1, none⟩ = some (.func (.func 50) #[] #[]) := by rw [(bcell hbw).1 _ _ (by simp)]; go_simp
        have hzb : ∀ (b o : Nat), b < w.heap.size + 1 + 1 → wr.cell? ⟨b, o, none⟩ = ((w.alloc (.cells #[.int .u8 0, .string ⟨#[]⟩, .int .u8 0, .int .u8 0, .int .i64 0, .string ⟨#[]⟩, .int .i64 0] 71)).alloc (.cells #[.func (.func 49) #[] #[], .func (.func 50) #[] #[], .func (.func 51) #[] #[], .func (.func 53) #[] #[], .func (.func 55) #[] #[], .func (.func 56) #[] #[], .func (.func 57) #[] #[]] 73)).cell? ⟨b, o, none⟩ := fun b o h => (bcell hbw).1 b o (by simpa using h)
        have hzf : ∀ (b o : Nat), b < w.heap.size + 1 + 1 → wr.frozen? ⟨b, o, none⟩ = ((w.alloc (.cells #[.int .u8 0, .string ⟨#[]⟩, .int .u8 0, .int .u8 0, .int .i64 0, .string ⟨#[]⟩, .int .i64 0] 71)).alloc (.cells #[.func (.func 49) #[] #[], .func (.func 50) #[] #[], .func (.func 51) #[] #[], .func (.func 53) #[] #[], .func (.func 55) #[] #[], .func (.func 56) #[] #[], .func (.func 57) #[] #[]] 73)).frozen? ⟨b, o, none⟩ := fun b o h => (bcell hbw).2 b o (by simpa using h)
        cases hx : seven s.data.toList 1 with
        | some y =>
          obtain ⟨ty, n⟩ := y
          have hn := seven_pos hx
          have HE : Hid (A = some (ty, n)) := by show _ = _; rw [hst, hx]; rfl
          rw [hx] at C24
          have C := C24 wr HVr.out
          unfold tkV tv at C
          have hnz : (0 : Int) < n := by omega
          clear C24 hst hx hn
          go_wp2_with (first | (go_at_call 50; refine C.mono ?_; rintro e w1 ⟨rfl, hb1⟩; clear C; obtain ⟨hc, hf⟩ := bcell hb1; have hz1 : w.heap.size < w1.heap.size := by { have := hb1.size; omega }))
          have q0 : w1.cell? ⟨w.heap.size, 0, none⟩ = some (.int .u8 0) := by rw [hc _ _ hz0, hzb _ _ (by omega)]; go_simp
          have q1 : w1.cell? ⟨w.heap.size, 1, none⟩ = some (.string ⟨#[]⟩) := by rw [hc _ _ hz0, hzb _ _ (by omega)]; go_simp
          have q2 : w1.cell? ⟨w.heap.size, 2, none⟩ = some (.int .u8 0) := by rw [hc _ _ hz0, hzb _ _ (by omega)]; go_simp
          have q3 : w1.cell? ⟨w.heap.size, 3, none⟩ = some (.int .u8 0) := by rw [hc _ _ hz0, hzb _ _ (by omega)]; go_simp
          have q4 : w1.cell? ⟨w.heap.size, 4, none⟩ = some (.int .i64 0) := by rw [hc _ _ hz0, hzb _ _ (by omega)]; go_simp
          have q5 : w1.cell? ⟨w.heap.size, 5, none⟩ = some (.string ⟨#[]⟩) := by rw [hc _ _ hz0, hzb _ _ (by omega)]; go_simp
          have q6 : w1.cell? ⟨w.heap.size, 6, none⟩ = some (.int .i64 0) := by rw [hc _ _ hz0, hzb _ _ (by omega)]; go_simp
          refine bodyPost_ret (v := tkV (some (ty, n))) (by simp [results, Tryz.results24, go_sem, tkV, tv, q0, q1, q2, q3, q4, q5, q6, hz1] <;> rfl) rfl ⟨by rw [HE.out], ?_⟩
          exact set7a (bt HBr.out hb1) _ _ _ _ _ _ _ _ _
        | none =>
          have HE : Hid (svFrom s.data.toList (7 - (1 + 1)) (1 + 1) = A) := by show _ = _; rw [hst, hx]; rfl
          rw [hx] at C24
          have C := C24 wr HVr.out
          unfold tkV tv at C
          clear C24 hst hx
          go_wp2_with (first | (go_at_call 50; refine C.mono ?_; rintro e w1 ⟨rfl, hb1⟩; clear C; obtain ⟨hc, hf⟩ := bcell hb1; have hz1 : w.heap.size < w1.heap.size := by { have := hb1.size; omega }))
          go_roundw
          case rel => exact ⟨1 + 1, by simp, by omega, HE.out, (bt hbw hb1).alloc (bt hbw hb1).size _⟩
          case measure => simp [intOf]
      · subst h0
        clear C23 C24 C27 C29 C30 C31 HR h7 hk
        have hcl : wr.cell? ⟨w.heap.size + 1, 2, none⟩ = some (.func (.func 51) #[] #[]) := by rw [(bcell hbw).1 _ _ (by simp)]; go_simp
        have hzb : ∀ (b o : Nat), b < w.heap.size + 1 + 1 → wr.cell? ⟨b, o, none⟩ = ((w.alloc (.cells #[.int .u8 0, .string ⟨#[]⟩, .int .u8 0, .int .u8 0, .int .i64 0, .string ⟨#[]⟩, .int .i64 0] 71)).alloc (.cells #[.func (.func 49) #[] #[], .func (.func 50) #[] #[], .func (.func 51) #[] #[], .func (.func 53) #[] #[], .func (.func 55) #[] #[], .func (.func 56) #[] #[], .func (.func 57) #[] #[]] 73)).cell? ⟨b, o, none⟩ := fun b o h => (bcell hbw).1 b o (by simpa using h)
        have hzf : ∀ (b o : Nat), b < w.heap.size + 1 + 1 → wr.frozen? ⟨b, o, none⟩ = ((w.alloc (.cells #[.int .u8 0, .string ⟨#[]⟩, .int .u8 0, .int .u8 0, .int .i64 0, .string ⟨#[]⟩, .int .i64 0] 71)).alloc (.cells #[.func (.func 49) #[] #[], .func (.func 50) #[] #[], .func (.func 51) #[] #[], .func (.func 53) #[] #[], .func (.func 55) #[] #[], .func (.func 56) #[] #[], .func (.func 57) #[] #[]] 73)).frozen? ⟨b, o, none⟩ := fun b o h => (bcell hbw).2 b o (by simpa using h)
        cases hx : seven s.data.toList 2 with
        | some y =>
          obtain ⟨ty, n⟩ := y
          have hn := seven_pos hx
          have HE : Hid (A = some (ty, n)) := by show _ = _; rw [hst, hx]; rfl
          rw [hx] at C25
          have C := C25 wr HVr.out
          unfold tkV tv at C
          have hnz : (0 : Int) < n := by omega
          clear C25 hst hx hn
          go_wp2_with (first | (go_at_call 51; refine C.mono ?_; rintro e w1 ⟨rfl, hb1⟩; clear C; obtain ⟨hc, hf⟩ := bcell hb1; have hz1 : w.heap.size < w1.heap.size := by { have := hb1.size; omega }))
          have q0 : w1.cell? ⟨w.heap.size, 0, none⟩ = some (.int .u8 0) := by rw [hc _ _ hz0, hzb _ _ (by omega)]; go_simp
          have q1 : w1.cell? ⟨w.heap.size, 1, none⟩ = some (.string ⟨#[]⟩) := by rw [hc _ _ hz0, hzb _ _ (by omega)]; go_simp
          have q2 : w1.cell? ⟨w.heap.size, 2, none⟩ = some (.int .u8 0) := by rw [hc _ _ hz0, hzb _ _ (by omega)]; go_simp
          have q3 : w1.cell? ⟨w.heap.size, 3, none⟩ = some (.int .u8 0) := by rw [hc _ _ hz0, hzb _ _ (by omega)]; go_simp
          have q4 : w1.cell? ⟨w.heap.size, 4, none⟩ = some (.int .i64 0) := by rw [hc _ _ hz0, hzb _ _ (by omega)]; go_simp
          have q5 : w1.cell? ⟨w.heap.size, 5, none⟩ = some (.string ⟨#[]⟩) := by rw [hc _ _ hz0, hzb _ _ (by omega)]; go_simp
          have q6 : w1.cell? ⟨w.heap.size, 6, none⟩ = some (.int .i64 0) := by rw [hc _ _ hz0, hzb _ _ (by omega)]; go_simp
          refine bodyPost_ret (v := tkV (some (ty, n))) (by simp [results, Tryz.results24, go_sem, tkV, tv, q0, q1, q2, q3, q4, q5, q6, hz1] <;> rfl) rfl ⟨by rw [HE.out], ?_⟩
          exact set7a (bt HBr.out hb1) _ _ _ _ _ _ _ _ _
        | none =>
          have HE : Hid (svFrom s.data.toList (7 - (2 + 1)) (2 + 1) = A) := by show _ = _; rw [hst, hx]; rfl
          rw [hx] at C25
          have C := C25 wr HVr.out
          unfold tkV tv at C
          clear C25 hst hx
          go_wp2_with (first | (go_at_call 51; refine C.mono ?_; rintro e w1 ⟨rfl, hb1⟩; clear C; obtain ⟨hc, hf⟩ := bcell hb1; have hz1 : w.heap.size < w1.heap.size := by { have := hb1.size; omega }))
          go_roundw
          case rel => exact ⟨2 + 1, by simp, by omega, HE.out, (bt hbw hb1).alloc (bt hbw hb1).size _⟩
          case measure => simp [intOf]
      · subst h0
        clear C23 C24 C25 C29 C30 C31 HR h7 hk
        have hcl : wr.cell? ⟨w.heap.size + 1, 3, none⟩ = some (.func (.func 53) #[] #[]) := by rw [(bcell hbw).1 _ _ (by simp)]; go_simp
        have hzb : ∀ (b o : Nat), b < w.heap.size + 1 + 1 → wr.cell? ⟨b, o, none⟩ = ((w.alloc (.cells #[.int .u8 0, .string ⟨#[]⟩, .int .u8 0, .int .u8 0, .int .i64 0, .string ⟨#[]⟩, .int .i64 0] 71)).alloc (.cells #[.func (.func 49) #[] #[], .func (.func 50) #[] #[], .func (.func 51) #[] #[], .func (.func 53) #[] #[], .func (.func 55) #[] #[], .func (.func 56) #[] #[], .func (.func 57) #[] #[]] 73)).cell? ⟨b, o, none⟩ := fun b o h => (bcell hbw).1 b o (by simpa using h)
        have hzf : ∀ (b o : Nat), b < w.heap.size + 1 + 1 → wr.frozen? ⟨b, o, none⟩ = ((w.alloc (.cells #[.int .u8 0, .string ⟨#[]⟩, .int .u8 0, .int .u8 0, .int .i64 0, .string ⟨#[]⟩, .int .i64 0] 71)).alloc (.cells #[.func (.func 49) #[] #[], .func (.func 50) #[] #[], .func (.func 51) #[] #[], .func (.func 53) #[] #[], .func (.func 55) #[] #[], .func (.func 56) #[] #[], .func (.func 57) #[] #[]] 73)).frozen? ⟨b, o, none⟩ := fun b o h => (bcell hbw).2 b o (by simpa using h)
        cases hx : seven s.data.toList 3 with
        | some y =>
          obtain ⟨ty, n⟩ := y
          have hn := seven_pos hx
          have HE : Hid (A = some (ty, n)) := by show _ = _; rw [hst, hx]; rfl
          rw [hx] at C27
          have C := C27 wr HVr.out
          unfold tkV tv at C
          have hnz : (0 : Int) < n := by omega
          clear C27 hst hx hn
          go_wp2_with (first | (go_at_call 53; refine C.mono ?_; rintro e w1 ⟨rfl, hb1⟩; clear C; obtain ⟨hc, hf⟩ := bcell hb1; have hz1 : w.heap.size < w1.heap.size := by { have := hb1.size; omega }))
          have q0 : w1.cell? ⟨w.heap.size, 0, none⟩ = some (.int .u8 0) := by rw [hc _ _ hz0, hzb _ _ (by omega)]; go_simp
          have q1 : w1.cell? ⟨w.heap.size, 1, none⟩ = some (.string ⟨#[]⟩) := by rw [hc _ _ hz0, hzb _ _ (by omega)]; go_simp
          have q2 : w1.cell? ⟨w.heap.size, 2, none⟩ = some (.int .u8 0) := by rw [hc _ _ hz0, hzb _ _ (by omega)]; go_simp
          have q3 : w1.cell? ⟨w.heap.size, 3, none⟩ = some (.int .u8 0) := by rw [hc _ _ hz0, hzb _ _ (by omega)]; go_simp
          have q4 : w1.cell? ⟨w.heap.size, 4, none⟩ = some (.int .i64 0) := by rw [hc _ _ hz0, hzb _ _ (by omega)]; go_simp
          have q5 : w1.cell? ⟨w.heap.size, 5, none⟩ = some (.string ⟨#[]⟩) := by rw [hc _ _ hz0, hzb _ _ (by omega)]; go_simp
          have q6 : w1.cell? ⟨w.heap.size, 6, none⟩ = some (.int .i64 0) := by rw [hc _ _ hz0, hzb _ _ (by omega)]; go_simp
          refine bodyPost_ret (v := tkV (some (ty, n))) (by simp [results, Tryz.results24, go_sem, tkV, tv, q0, q1, q2, q3, q4, q5, q6, hz1] <;> rfl) rfl ⟨by rw [HE.out], ?_⟩
          exact set7a (bt HBr.out hb1) _ _ _ _ _ _ _ _ _
        | none =>
          have HE : Hid (svFrom s.data.toList (7 - (3 + 1)) (3 + 1) = A) := by show _ = _; rw [hst, hx]; rfl
          rw [hx] at C27
          have C := C27 wr HVr.out
          unfold tkV tv at C
          clear C27 hst hx
          go_wp2_with (first | (go_at_call 53; refine C.mono ?_; rintro e w1 ⟨rfl, hb1⟩; clear C; obtain ⟨hc, hf⟩ := bcell hb1; have hz1 : w.heap.size < w1.heap.size := by { have := hb1.size; omega }))
          go_roundw
          case rel => exact ⟨3 + 1, by simp, by omega, HE.out, (bt hbw hb1).alloc (bt hbw hb1).size _⟩
          case measure => simp [intOf]
      · subst h0
        clear C23 C24 C25 C27 C30 C31 HR h7 hk
        have hcl : wr.cell? ⟨w.heap.size + 1, 4, none⟩ = some (.func (.func 55) #[] #[]) := by rw [(bcell hbw).1 _ _ (by simp)]; go_simp
        have hzb : ∀ (b o : Nat), b < w.heap.size + 1 + 1 → wr.cell? ⟨b, o, none⟩ = ((w.alloc (.cells #[.int .u8 0, .string ⟨#[]⟩, .int .u8 0, .int .u8 0, .int .i64 0, .string ⟨#[]⟩, .int .i64 0] 71)).alloc (.cells #[.func (.func 49) #[] #[], .func (.func 50) #[] #[], .func (.func 51) #[] #[], .func (.func 53) #[] #[], .func (.func 55) #[] #[], .func (.func 56) #[] #[], .func (.func 57) #[] #[]] 73)).cell? ⟨b, o, none⟩ := fun b o h => (bcell hbw).1 b o (by simpa using h)
        have hzf : ∀ (b o : Nat), b < w.heap.size + 1 + 1 → wr.frozen? ⟨b, o, none⟩ = ((w.alloc (.cells #[.int .u8 0, .string ⟨#[]⟩, .int .u8 0, .int .u8 0, .int .i64 0, .string ⟨#[]⟩, .int .i64 0] 71)).alloc (.cells #[.func (.func 49) #[] #[], .func (.func 50) #[] #[], .func (.func 51) #[] #[], .func (.func 53) #[] #[], .func (.func 55) #[] #[], .func (.func 56) #[] #[], .func (.func 57) #[] #[]] 73)).frozen? ⟨b, o, none⟩ := fun b o h => (bcell hbw).2 b o (by simpa using h)
        cases hx : seven s.data.toList 4 with
        | some y =>
          obtain ⟨ty, n⟩ := y
          have hn := seven_pos hx
          have HE : Hid (A = some (ty, n)) := by show _ = _; rw [hst, hx]; rfl
          rw [hx] at C29
          have C := C29 wr HVr.out
          unfold tkV tv at C
          have hnz : (0 : Int) < n := by omega
          clear C29 hst hx hn
          go_wp2_with (first | (go_at_call 55; refine C.mono ?_; rintro e w1 ⟨rfl, hb1⟩; clear C; obtain ⟨hc, hf⟩ := bcell hb1; have hz1 : w.heap.size < w1.heap.size := by { have := hb1.size; omega }))
          have q0 : w1.cell? ⟨w.heap.size, 0, none⟩ = some (.int .u8 0) := by rw [hc _ _ hz0, hzb _ _ (by omega)]; go_simp
          have q1 : w1.cell? ⟨w.heap.size, 1, none⟩ = some (.string ⟨#[]⟩) := by rw [hc _ _ hz0, hzb _ _ (by omega)]; go_simp
          have q2 : w1.cell? ⟨w.heap.size, 2, none⟩ = some (.int .u8 0) := by rw [hc _ _ hz0, hzb _ _ (by omega)]; go_simp
          have q3 : w1.cell? ⟨w.heap.size, 3, none⟩ = some (.int .u8 0) := by rw [hc _ _ hz0, hzb _ _ (by omega)]; go_simp
          have q4 : w1.cell? ⟨w.heap.size, 4, none⟩ = some (.int .i64 0) := by rw [hc _ _ hz0, hzb _ _ (by omega)]; go_simp
          have q5 : w1.cell? ⟨w.heap.size, 5, none⟩ = some (.string ⟨#[]⟩) := by rw [hc _ _ hz0, hzb _ _ (by omega)]; go_simp
          have q6 : w1.cell? ⟨w.heap.size, 6, none⟩ = some (.int .i64 0) := by rw [hc _ _ hz0, hzb _ _ (by omega)]; go_simp
          refine bodyPost_ret (v := tkV (some (ty, n))) (by simp [results, Tryz.results24, go_sem, tkV, tv, q0, q1, q2, q3, q4, q5, q6, hz1] <;> rfl) rfl ⟨by rw [HE.out], ?_⟩
          exact set7a (bt HBr.out hb1) _ _ _ _ _ _ _ _ _
        | none =>
          have HE : Hid (svFrom s.data.toList (7 - (4 + 1)) (4 + 1) = A) := by show _ = _; rw [hst, hx]; rfl
          rw [hx] at C29
          have C := C29 wr HVr.out
          unfold tkV tv at C
          clear C29 hst hx
          go_wp2_with (first | (go_at_call 55; refine C.mono ?_; rintro e w1 ⟨rfl, hb1⟩; clear C; obtain ⟨hc, hf⟩ := bcell hb1; have hz1 : w.heap.size < w1.heap.size := by { have := hb1.size; omega }))
          go_roundw
          case rel => exact ⟨4 + 1, by simp, by omega, HE.out, (bt hbw hb1).alloc (bt hbw hb1).size _⟩
          case measure => simp [intOf]
      · subst h0
        clear C23 C24 C25 C27 C29 C31 HR h7 hk
        have hcl : wr.cell? ⟨w.heap.size + 1, 5, none⟩ = some (.func (.func 56) #[] #[]) := by rw [(bcell hbw).1 _ _ (by simp)]; go_simp
        have hzb : ∀ (b o : Nat), b < w.heap.size + 1 + 1 → wr.cell? ⟨b, o, none⟩ = ((w.alloc (.cells #[.int .u8 0, .string ⟨#[]⟩, .int .u8 0, .int .u8 0, .int .i64 0, .string ⟨#[]⟩, .int .i64 0] 71)).alloc (.cells #[.func (.func 49) #[] #[], .func (.func 50) #[] #[], .func (.func 51) #[] #[], .func (.func 53) #[] #[], .func (.func 55) #[] #[], .func (.func 56) #[] #[], .func (.func 57) #[] #[]] 73)).cell? ⟨b, o, none⟩ := fun b o h => (bcell hbw).1 b o (by simpa using h)
        have hzf : ∀ (b o : Nat), b < w.heap.size + 1 + 1 → wr.frozen? ⟨b, o, none⟩ = ((w.alloc (.cells #[.int .u8 0, .string ⟨#[]⟩, .int .u8 0, .int .u8 0, .int .i64 0, .string ⟨#[]⟩, .int .i64 0] 71)).alloc (.cells #[.func (.func 49) #[] #[], .func (.func 50) #[] #[], .func (.func 51) #[] #[], .func (.func 53) #[] #[], .func (.func 55) #[] #[], .func (.func 56) #[] #[], .func (.func 57) #[] #[]] 73)).frozen? ⟨b, o, none⟩ := fun b o h => (bcell hbw).2 b o (by simpa using h)
        cases hx : seven s.data.toList 5 with
        | some y =>
          obtain ⟨ty, n⟩ := y
          have hn := seven_pos hx
          have HE : Hid (A = some (ty, n)) := by show _ = _; rw [hst, hx]; rfl
          rw [hx] at C30
          have C := C30 wr HVr.out
          unfold tkV tv at C
          have hnz : (0 : Int) < n := by omega
          clear C30 hst hx hn
          go_wp2_with (first | (go_at_call 56; refine C.mono ?_; rintro e w1 ⟨rfl, hb1⟩; clear C; obtain ⟨hc, hf⟩ := bcell hb1; have hz1 : w.heap.size < w1.heap.size := by { have := hb1.size; omega }))
          have q0 : w1.cell? ⟨w.heap.size, 0, none⟩ = some (.int .u8 0) := by rw [hc _ _ hz0, hzb _ _ (by omega)]; go_simp
          have q1 : w1.cell? ⟨w.heap.size, 1, none⟩ = some (.string ⟨#[]⟩) := by rw [hc _ _ hz0, hzb _ _ (by omega)]; go_simp
          have q2 : w1.cell? ⟨w.heap.size, 2, none⟩ = some (.int .u8 0) := by rw [hc _ _ hz0, hzb _ _ (by omega)]; go_simp
          have q3 : w1.cell? ⟨w.heap.size, 3, none⟩ = some (.int .u8 0) := by rw [hc _ _ hz0, hzb _ _ (by omega)]; go_simp
          have q4 : w1.cell? ⟨w.heap.size, 4, none⟩ = some (.int .i64 0) := by rw [hc _ _ hz0, hzb _ _ (by omega)]; go_simp
          have q5 : w1.cell? ⟨w.heap.size, 5, none⟩ = some (.string ⟨#[]⟩) := by rw [hc _ _ hz0, hzb _ _ (by omega)]; go_simp
          have q6 : w1.cell? ⟨w.heap.size, 6, none⟩ = some (.int .i64 0) := by rw [hc _ _ hz0, hzb _ _ (by omega)]; go_simp
          refine bodyPost_ret (v := tkV (some (ty, n))) (by simp [results, Tryz.results24, go_sem, tkV, tv, q0, q1, q2, q3, q4, q5, q6, hz1] <;> rfl) rfl ⟨by rw [HE.out], ?_⟩
          exact set7a (bt HBr.out hb1) _ _ _ _ _ _ _ _ _
        | none =>
          have HE : Hid (svFrom s.data.toList (7 - (5 + 1)) (5 + 1) = A) := by show _ = _; rw [hst, hx]; rfl
          rw [hx] at C30
          have C := C30 wr HVr.out
          unfold tkV tv at C
          clear C30 hst hx
          go_wp2_with (first | (go_at_call 56; refine C.mono ?_; rintro e w1 ⟨rfl, hb1⟩; clear C; obtain ⟨hc, hf⟩ := bcell hb1; have hz1 : w.heap.size < w1.heap.size := by { have := hb1.size; omega }))
          go_roundw
          case rel => exact ⟨5 + 1, by simp, by omega, HE.out, (bt hbw hb1).alloc (bt hbw hb1).size _⟩
          case measure => simp [intOf]
      · subst h0
        clear C23 C24 C25 C27 C29 C30 HR h7 hk
        have hcl : wr.cell? ⟨w.heap.size + 1, 6, none⟩ = some (.func (.func 57) #[] #[]) := by rw [(bcell hbw).1 _ _ (by simp)]; go_simp
        have hzb : ∀ (b o : Nat), b < w.heap.size + 1 + 1 → wr.cell? ⟨b, o, none⟩ = ((w.alloc (.cells #[.int .u8 0, .string ⟨#[]⟩, .int .u8 0, .int .u8 0, .int .i64 0, .string ⟨#[]⟩, .int .i64 0] 71)).alloc (.cells #[.func (.func 49) #[] #[], .func (.func 50) #[] #[], .func (.func 51) #[] #[], .func (.func 53) #[] #[], .func (.func 55) #[] #[], .func (.func 56) #[] #[], .func (.func 57) #[] #[]] 73)).cell? ⟨b, o, none⟩ := fun b o h => (bcell hbw).1 b o (by simpa using h)
        have hzf : ∀ (b o : Nat), b < w.heap.size + 1 + 1 → wr.frozen? ⟨b, o, none⟩ = ((w.alloc (.cells #[.int .u8 0, .string ⟨#[]⟩, .int .u8 0, .int .u8 0, .int .i64 0, .string ⟨#[]⟩, .int .i64 0] 71)).alloc (.cells #[.func (.func 49) #[] #[], .func (.func 50) #[] #[], .func (.func 51) #[] #[], .func (.func 53) #[] #[], .func (.func 55) #[] #[], .func (.func 56) #[] #[], .func (.func 57) #[] #[]] 73)).frozen? ⟨b, o, none⟩ := fun b o h => (bcell hbw).2 b o (by simpa using h)
        cases hx : seven s.data.toList 6 with
        | some y =>
          obtain ⟨ty, n⟩ := y
          have hn := seven_pos hx
          have HE : Hid (A = some (ty, n)) := by show _ = _; rw [hst, hx]; rfl
          rw [hx] at C31
          have C := C31 wr HVr.out
          unfold tkV tv at C
          have hnz : (0 : Int) < n := by omega
          clear C31 hst hx hn
          go_wp2_with (first | (go_at_call 57; refine C.mono ?_; rintro e w1 ⟨rfl, hb1⟩; clear C; obtain ⟨hc, hf⟩ := bcell hb1; have hz1 : w.heap.size < w1.heap.size := by { have := hb1.size; omega }))
          have q0 : w1.cell? ⟨w.heap.size, 0, none⟩ = some (.int .u8 0) := by rw [hc _ _ hz0, hzb _ _ (by omega)]; go_simp
          have q1 : w1.cell? ⟨w.heap.size, 1, none⟩ = some (.string ⟨#[]⟩) := by rw [hc _ _ hz0, hzb _ _ (by omega)]; go_simp
          have q2 : w1.cell? ⟨w.heap.size, 2, none⟩ = some (.int .u8 0) := by rw [hc _ _ hz0, hzb _ _ (by omega)]; go_simp
          have q3 : w1.cell? ⟨w.heap.size, 3, none⟩ = some (.int .u8 0) := by rw [hc _ _ hz0, hzb _ _ (by omega)]; go_simp
          have q4 : w1.cell? ⟨w.heap.size, 4, none⟩ = some (.int .i64 0) := by rw [hc _ _ hz0, hzb _ _ (by omega)]; go_simp
          have q5 : w1.cell? ⟨w.heap.size, 5, none⟩ = some (.string ⟨#[]⟩) := by rw [hc _ _ hz0, hzb _ _ (by omega)]; go_simp
          have q6 : w1.cell? ⟨w.heap.size, 6, none⟩ = some (.int .i64 0) := by rw [hc _ _ hz0, hzb _ _ (by omega)]; go_simp
          refine bodyPost_ret (v := tkV (some (ty, n))) (by simp [results, Tryz.results24, go_sem, tkV, tv, q0, q1, q2, q3, q4, q5, q6, hz1] <;> rfl) rfl ⟨by rw [HE.out], ?_⟩
          exact set7a (bt HBr.out hb1) _ _ _ _ _ _ _ _ _
        | none =>
          have HE : Hid (svFrom s.data.toList (7 - (6 + 1)) (6 + 1) = A) := by show _ = _; rw [hst, hx]; rfl
          rw [hx] at C31
          have C := C31 wr HVr.out
          unfold tkV tv at C
          clear C31 hst hx
          go_wp2_with (first | (go_at_call 57; refine C.mono ?_; rintro e w1 ⟨rfl, hb1⟩; clear C; obtain ⟨hc, hf⟩ := bcell hb1; have hz1 : w.heap.size < w1.heap.size := by { have := hb1.size; omega }))
          go_roundw
          case rel => exact ⟨6 + 1, by simp, by omega, HE.out, (bt hbw hb1).alloc (bt hbw hb1).size _⟩
          case measure => simp [intOf]
    · obtain rfl : k = 7 := by omega
      have HE : Hid (A = none) := by show _ = _; rw [← HR.out]; rfl
      have hzb : ∀ (b o : Nat), b < w.heap.size + 1 + 1 → wr.cell? ⟨b, o, none⟩ = ((w.alloc (.cells #[.int .u8 0, .string ⟨#[]⟩, .int .u8 0, .int .u8 0, .int .i64 0, .string ⟨#[]⟩, .int .i64 0] 71)).alloc (.cells #[.func (.func 49) #[] #[], .func (.func 50) #[] #[], .func (.func 51) #[] #[], .func (.func 53) #[] #[], .func (.func 55) #[] #[], .func (.func 56) #[] #[], .func (.func 57) #[] #[]] 73)).cell? ⟨b, o, none⟩ := fun b o h => (bcell hbw).1 b o (by simpa using h)
      have hzf : ∀ (b o : Nat), b < w.heap.size + 1 + 1 → wr.frozen? ⟨b, o, none⟩ = ((w.alloc (.cells #[.int .u8 0, .string ⟨#[]⟩, .int .u8 0, .int .u8 0, .int .i64 0, .string ⟨#[]⟩, .int .i64 0] 71)).alloc (.cells #[.func (.func 49) #[] #[], .func (.func 50) #[] #[], .func (.func 51) #[] #[], .func (.func 53) #[] #[], .func (.func 55) #[] #[], .func (.func 56) #[] #[], .func (.func 57) #[] #[]] 73)).frozen? ⟨b, o, none⟩ := fun b o h => (bcell hbw).2 b o (by simpa using h)
      clear HR C23 C24 C25 C27 C29 C30 C31
      go_wp2
      have q0 : wr.cell? ⟨w.heap.size, 0, none⟩ = some (.int .u8 0) := by rw [hzb _ _ (by omega)]; go_simp
      have q1 : wr.cell? ⟨w.heap.size, 1, none⟩ = some (.string ⟨#[]⟩) := by rw [hzb _ _ (by omega)]; go_simp
      have q2 : wr.cell? ⟨w.heap.size, 2, none⟩ = some (.int .u8 0) := by rw [hzb _ _ (by omega)]; go_simp
      have q3 : wr.cell? ⟨w.heap.size, 3, none⟩ = some (.int .u8 0) := by rw [hzb _ _ (by omega)]; go_simp
      have q4 : wr.cell? ⟨w.heap.size, 4, none⟩ = some (.int .i64 0) := by rw [hzb _ _ (by omega)]; go_simp
      have q5 : wr.cell? ⟨w.heap.size, 5, none⟩ = some (.string ⟨#[]⟩) := by rw [hzb _ _ (by omega)]; go_simp
      have q6 : wr.cell? ⟨w.heap.size, 6, none⟩ = some (.int .i64 0) := by rw [hzb _ _ (by omega)]; go_simp
      refine bodyPost_ret (v := tkV none) (by simp [results, Tryz.results24, go_sem, tkV, tv, st, tok0, q0, q1, q2, q3, q4, q5, q6, hz0] <;> rfl) rfl ⟨by rw [HE.out], ?_⟩
      exact set7 HBr.out _ (Nat.le_refl _) _ _ _ _ _ _ _
end Go.Proofs.YtemacdimdpnkeaaGreatDoor
