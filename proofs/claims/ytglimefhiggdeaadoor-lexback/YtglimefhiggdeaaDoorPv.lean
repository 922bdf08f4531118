/- The program's takeVal, its closures, take: contracts of single calls. -/
import Derived.Test.YtglimefhiggdeaaDoorPn
import Derived.Laws.EntriesVeiled
namespace Go.Proofs.YtglimefhiggdeaaDoor
open Go.RowKit
set_option linter.unusedVariables false
set_option linter.unusedSimpArgs false
set_option maxRecDepth 20000

/-- What Parse tells, beside the tokens' way of telling it. -/
theorem par_pr (u : ByteArray) : (parL u.data.toList = none ∧ ∃ e : Int, e ≠ 0 ∧ prA u = .tuple #[vv 0 0 ByteArray.empty, .int .i64 e]) ∨
    ∃ (k n : Int) (t : ByteArray), prA u = .tuple #[vv k n t, .int .i64 0] ∧ parL u.data.toList = some (tokV k n t.data.toList) := by
  unfold parL
  cases hw : wordB u.data.toList with
  | false => exact .inl ⟨by simp, 6, by decide, pr_no hw⟩
  | true =>
    rw [if_neg (by simp)]
    by_cases hn : u.data.toList = nil3
    · rw [if_pos hn]
      exact .inr ⟨0, 0, ByteArray.empty, pr_nil hw hn, rfl⟩
    · rw [if_neg hn]
      cases hb : numB u.data.toList with
      | true =>
        rw [if_pos rfl]
        have h := pr_num hw hn hb
        by_cases hd : 1099511627776 < decV u.data.toList
        · rw [if_pos hd] at h ⊢
          exact .inl ⟨rfl, 12, by decide, h⟩
        · rw [if_neg hd] at h ⊢
          exact .inr ⟨1, _, ByteArray.empty, h, rfl⟩
      | false =>
        rw [if_neg (by simp)]
        exact .inr ⟨2, 0, u, pr_sym hw hn hb, rfl⟩
theorem set7a {w w1 : World} (h : Below w.heap.size w w1) (o : Obj) (b : Nat) (x0 x1 x2 x3 x4 x5 x6 : Value) (hb : w.heap.size ≤ b := by exact Nat.le_refl _) : Below w.heap.size w ((((((((w1.setCell ⟨b, 0, none⟩ x0).setCell ⟨b, 1, none⟩ x1).setCell ⟨b, 2, none⟩ x2).setCell ⟨b, 3, none⟩ x3).setCell ⟨b, 4, none⟩ x4).setCell ⟨b, 5, none⟩ x5).setCell ⟨b, 6, none⟩ x6).alloc o) :=
  (set7 h b hb x0 x1 x2 x3 x4 x5 x6).alloc (set7 h b hb x0 x1 x2 x3 x4 x5 x6).size o
set_option maxHeartbeats 4000000 in
theorem tval_any (s : ByteArray) (w : World) (hs : s.size ≤ 1000000) (hV : Vars w) :
    Calls Tryd.prog 31 #[.string s] w fun e w' => e = .returned (tkV (vlL s.data.toList)) ∧ Below w.heap.size w w' := by
  have CR := fun W hv => run_any s W hs hv
  obtain ⟨A, hA⟩ : ∃ A, A = vlL s.data.toList := ⟨_, rfl⟩
  rw [← hA]
  have hN := hA
  unfold vlL at hN
  have hRle := runN_le _ s.data.toList (Nat.le_refl _)
  rw [lenL] at hRle
  obtain ⟨R, hR⟩ : ∃ R, runN s.data.toList = R := ⟨_, rfl⟩
  rw [hR] at CR hN hRle
  obtain ⟨u, hu⟩ : ∃ u, s.extract 0 R = u := ⟨_, rfl⟩
  have hul : u.data.toList = s.data.toList.take R := by rw [← hu, take_list]
  have hus : u.size = R := by rw [← lenL u, hul, List.length_take, lenL]; omega
  rw [hu] at CR
  rw [← hul] at hN
  have CP := fun W hv => parse_any u W (by omega) hv
  rcases par_pr u with ⟨h1, e, he, h2⟩ | ⟨k, n, t, h2, h1⟩
  · rw [h2] at CP
    rw [h1] at hN
    have HE : Hid (A = none) := hN
    have hez : (e == 0) = false := by simpa using he
    unfold vv at CP
    clear hN hA h1 h2 hul hu hR he
    go_enter Tryd.func31, Tryd.ntmps31
    go_wp2_with (first | (go_at_call 43; refine (CR _ (hV.below (bxn _ _))).mono ?_; rintro e w1 ⟨rfl, hb1⟩; clear CR; obtain ⟨hc, hf⟩ := bcell hb1; have hz : w.heap.size < w1.heap.size := by { have := hb1.size; simp at this; omega }) | (go_at_call 44; refine (CP _ ((hV.below (bxn _ _)).below hb1)).mono ?_; rintro e w2 ⟨rfl, hb2⟩; clear CP; obtain ⟨hc2, hf2⟩ := bcell hb2; have hz2 : w.heap.size < w2.heap.size := by { have := hb2.size; omega }))
    refine bodyPost_ret (v := tkV none) (by simp [results, Tryd.results31, go_sem, tkV, tv, st, tok0, hc, hz, hc2, hz2] <;> rfl) rfl ⟨by rw [HE.out], ?_⟩
    exact set7a (bt (up1 hb1) hb2) _ _ _ _ _ _ _ _ _
  · rw [h2] at CP
    rw [h1] at hN
    have HE : Hid (tkV A = .tuple #[.agg #[.int .u8 11, .string ⟨#[]⟩, .int .u8 0, .int .u8 k, .int .i64 n, .string t, .int .i64 0], .int .i64 R]) := by
      show _ = _
      rw [hN]
      unfold tkV tv tokV
      simp only [st_of]
      rfl
    unfold vv at CP
    clear hN hA h1 h2 hul hu hR
    go_enter Tryd.func31, Tryd.ntmps31
    go_wp2_with (first | (go_at_call 43; refine (CR _ (hV.below (bxn _ _))).mono ?_; rintro e w1 ⟨rfl, hb1⟩; clear CR; obtain ⟨hc, hf⟩ := bcell hb1; have hz : w.heap.size < w1.heap.size := by { have := hb1.size; simp at this; omega }) | (go_at_call 44; refine (CP _ ((hV.below (bxn _ _)).below hb1)).mono ?_; rintro e w2 ⟨rfl, hb2⟩; clear CP; obtain ⟨hc2, hf2⟩ := bcell hb2; have hz2 : w.heap.size < w2.heap.size := by { have := hb2.size; omega }))
    refine bodyPost_ret (v := .tuple #[.agg #[.int .u8 11, .string ⟨#[]⟩, .int .u8 0, .int .u8 k, .int .i64 n, .string t, .int .i64 0], .int .i64 R]) (by simp [results, Tryd.results31, go_sem, hc, hz, hc2, hz2] <;> rfl) rfl ⟨by rw [HE.out], ?_⟩
    exact set7a (bt (up1 hb1) hb2) _ _ _ _ _ _ _ _ _
/-- A token and its length, cell by cell. -/
theorem tkV_is (x : Option (Tk × Nat)) : ∃ (k : Int) (nm : ByteArray) (p vk vn : Int) (vs : ByteArray) (n : Nat), tkV x = .tuple #[.agg #[.int .u8 k, .string nm, .int .u8 p, .int .u8 vk, .int .i64 vn, .string vs, .int .i64 0], .int .i64 n] := by
  cases x with
  | none => exact ⟨_, _, _, _, _, _, 0, rfl⟩
  | some y => exact ⟨_, _, _, _, _, _, y.2, rfl⟩
set_option maxHeartbeats 4000000 in
theorem clos25_any (s : ByteArray) (w : World) (hs : s.size ≤ 1000000) (hV : Vars w) :
    Calls Tryd.prog 25 #[.string s] w fun e w' => e = .returned (tkV (prFrom s.data.toList 2 6 0)) ∧ Below w.heap.size w w' := by
  have C : ∀ W, Vars W → Calls Tryd.prog 26 #[.string s, .int .i64 2] W fun e w' => e = .returned (tkV (prFrom s.data.toList 2 6 0)) ∧ Below W.heap.size W w' := fun W (hv : Vars W) => tpred_any s 2 W hs (by decide)
  obtain ⟨k, nm, p, vk, vn, vs, n, hx⟩ := tkV_is (prFrom s.data.toList 2 6 0)
  rw [hx] at C ⊢
  clear hx
  go_enter Tryd.func25, Tryd.ntmps25
  go_wp2_with (first | (go_at_call 26; refine (C _ (hV.below (bxn _ _))).mono ?_; rintro e w1 ⟨rfl, hb1⟩; clear C; obtain ⟨hc, hf⟩ := bcell hb1; have hz : w.heap.size < w1.heap.size := by { have := hb1.size; simp at this; omega }))
  refine bodyPost_ret (v := .tuple #[.agg #[.int .u8 k, .string nm, .int .u8 p, .int .u8 vk, .int .i64 vn, .string vs, .int .i64 0], .int .i64 n]) (by simp [results, Tryd.results25, go_sem, hc, hz] <;> rfl) rfl ⟨rfl, ?_⟩
  exact set7 (up1 hb1) _ (Nat.le_refl _) _ _ _ _ _ _ _
set_option maxHeartbeats 4000000 in
theorem clos29_any (s : ByteArray) (w : World) (hs : s.size ≤ 1000000) (hV : Vars w) :
    Calls Tryd.prog 29 #[.string s] w fun e w' => e = .returned (tkV (prFrom s.data.toList 1 6 0)) ∧ Below w.heap.size w w' := by
  have C : ∀ W, Vars W → Calls Tryd.prog 26 #[.string s, .int .i64 1] W fun e w' => e = .returned (tkV (prFrom s.data.toList 1 6 0)) ∧ Below W.heap.size W w' := fun W (hv : Vars W) => tpred_any s 1 W hs (by decide)
  obtain ⟨k, nm, p, vk, vn, vs, n, hx⟩ := tkV_is (prFrom s.data.toList 1 6 0)
  rw [hx] at C ⊢
  clear hx
  go_enter Tryd.func29, Tryd.ntmps29
  go_wp2_with (first | (go_at_call 26; refine (C _ (hV.below (bxn _ _))).mono ?_; rintro e w1 ⟨rfl, hb1⟩; clear C; obtain ⟨hc, hf⟩ := bcell hb1; have hz : w.heap.size < w1.heap.size := by { have := hb1.size; simp at this; omega }))
  refine bodyPost_ret (v := .tuple #[.agg #[.int .u8 k, .string nm, .int .u8 p, .int .u8 vk, .int .i64 vn, .string vs, .int .i64 0], .int .i64 n]) (by simp [results, Tryd.results29, go_sem, hc, hz] <;> rfl) rfl ⟨rfl, ?_⟩
  exact set7 (up1 hb1) _ (Nat.le_refl _) _ _ _ _ _ _ _
set_option maxHeartbeats 4000000 in
theorem clos27_any (s : ByteArray) (w : World) (hs : s.size ≤ 1000000) (hV : Vars w) :
    Calls Tryd.prog 27 #[.string s] w fun e w' => e = .returned (tkV (nmL s.data.toList 9 [60] [62])) ∧ Below w.heap.size w w' := by
  have C : ∀ W, Vars W → Calls Tryd.prog 28 #[.string s, .int .u8 9, .string ⟨#[60]⟩, .string ⟨#[62]⟩] W fun e w' => e = .returned (tkV (nmL s.data.toList 9 [60] [62])) ∧ Below W.heap.size W w' := fun W (hv : Vars W) => tnamed_any s ⟨#[60]⟩ ⟨#[62]⟩ 9 W hs (by decide) (by decide) hv
  obtain ⟨k, nm, p, vk, vn, vs, n, hx⟩ := tkV_is (nmL s.data.toList 9 [60] [62])
  rw [hx] at C ⊢
  clear hx
  go_enter Tryd.func27, Tryd.ntmps27
  go_wp2_with (first | (go_at_call 28; refine (C _ (hV.below (bxn _ _))).mono ?_; rintro e w1 ⟨rfl, hb1⟩; clear C; obtain ⟨hc, hf⟩ := bcell hb1; have hz : w.heap.size < w1.heap.size := by { have := hb1.size; simp at this; omega }))
  refine bodyPost_ret (v := .tuple #[.agg #[.int .u8 k, .string nm, .int .u8 p, .int .u8 vk, .int .i64 vn, .string vs, .int .i64 0], .int .i64 n]) (by simp [results, Tryd.results27, go_sem, hc, hz] <;> rfl) rfl ⟨rfl, ?_⟩
  exact set7 (up1 hb1) _ (Nat.le_refl _) _ _ _ _ _ _ _
set_option maxHeartbeats 4000000 in
theorem clos30_any (s : ByteArray) (w : World) (hs : s.size ≤ 1000000) (hV : Vars w) :
    Calls Tryd.prog 30 #[.string s] w fun e w' => e = .returned (tkV (nmL s.data.toList 8 [94] [])) ∧ Below w.heap.size w w' := by
  have C : ∀ W, Vars W → Calls Tryd.prog 28 #[.string s, .int .u8 8, .string ⟨#[94]⟩, .string ⟨#[]⟩] W fun e w' => e = .returned (tkV (nmL s.data.toList 8 [94] [])) ∧ Below W.heap.size W w' := fun W (hv : Vars W) => tnamed_any s ⟨#[94]⟩ ⟨#[]⟩ 8 W hs (by decide) (by decide) hv
  obtain ⟨k, nm, p, vk, vn, vs, n, hx⟩ := tkV_is (nmL s.data.toList 8 [94] [])
  rw [hx] at C ⊢
  clear hx
  go_enter Tryd.func30, Tryd.ntmps30
  go_wp2_with (first | (go_at_call 28; refine (C _ (hV.below (bxn _ _))).mono ?_; rintro e w1 ⟨rfl, hb1⟩; clear C; obtain ⟨hc, hf⟩ := bcell hb1; have hz : w.heap.size < w1.heap.size := by { have := hb1.size; simp at this; omega }))
  refine bodyPost_ret (v := .tuple #[.agg #[.int .u8 k, .string nm, .int .u8 p, .int .u8 vk, .int .i64 vn, .string vs, .int .i64 0], .int .i64 n]) (by simp [results, Tryd.results30, go_sem, hc, hz] <;> rfl) rfl ⟨rfl, ?_⟩
  exact set7 (up1 hb1) _ (Nat.le_refl _) _ _ _ _ _ _ _
/-- What one of the seven takes has bytes. -/
theorem mk_pos {l : List UInt8} : ∀ (n k : Nat) {t : Tk} {m : Nat}, n + k ≤ 7 → mkFrom l n k = some (t, m) → 1 ≤ m
  | 0, k, t, m, _, h => by cases h
  | n + 1, k, t, m, hk, h => by
    unfold mkFrom at h
    split at h
    · obtain ⟨_, rfl⟩ := Prod.mk.inj (Option.some.inj h)
      unfold mkL
      repeat' split
      all_goals first | (simp; done) | omega
    · exact mk_pos n (k + 1) (by omega) h
theorem pr_pos {l : List UInt8} {q : Nat} (hq : 1 ≤ q) : ∀ (n k : Nat) {t : Tk} {m : Nat}, prFrom l q n k = some (t, m) → 1 ≤ m
  | 0, k, t, m, h => by cases h
  | n + 1, k, t, m, h => by
    unfold prFrom at h
    split at h
    · obtain ⟨_, rfl⟩ := Prod.mk.inj (Option.some.inj h)
      exact hq
    · exact pr_pos hq n (k + 1) h
theorem nm_pos {l a b : List UInt8} {k : Int} {t : Tk} {m : Nat} (h : nmL l k a b = some (t, m)) : 1 ≤ m := by
  unfold nmL at h
  split at h
  · cases h
  · split at h
    · cases h
    · rename_i h1 h2
      obtain ⟨_, rfl⟩ := Prod.mk.inj (Option.some.inj h)
      have : runN (l.drop a.length) ≠ 0 := fun e => h2 (.inl e)
      omega
theorem vl_pos {l : List UInt8} {t : Tk} {m : Nat} (h : vlL l = some (t, m)) : 1 ≤ m := by
  unfold vlL at h
  split at h
  · cases h
  · rename_i t' hp
    obtain ⟨_, rfl⟩ := Prod.mk.inj (Option.some.inj h)
    have := (word_ok (par_word hp)).2.1
    rw [List.length_take] at this
    omega
theorem nt_pos {l : List UInt8} {t : Tk} {m : Nat} (h : ntL l = some (t, m)) : 1 ≤ m := by
  unfold ntL at h
  split at h
  · obtain ⟨_, rfl⟩ := Prod.mk.inj (Option.some.inj h); exact Nat.le_refl _
  · cases h
theorem seven_pos {l : List UInt8} {k : Nat} {t : Tk} {m : Nat} (h : seven l k = some (t, m)) : 1 ≤ m := by
  unfold seven at h
  split at h
  · exact mk_pos 7 0 (by omega) h
  · exact nt_pos h
  · exact pr_pos (by decide) _ _ h
  · exact nm_pos h
  · exact pr_pos (by decide) _ _ h
  · exact nm_pos h
  · exact vl_pos h
theorem seven_step (l : List UInt8) (k : Nat) (hk : k < 7) : svFrom l (7 - k) k = (seven l k).or (svFrom l (7 - (k + 1)) (k + 1)) := by
  obtain ⟨m, hm⟩ : ∃ m, 7 - k = m + 1 := ⟨6 - k, by omega⟩
  rw [hm, show 7 - (k + 1) = m by omega]
  show (match seven l k with | some x => some x | none => svFrom l m (k + 1)) = _
  cases seven l k <;> rfl
end Go.Proofs.YtglimefhiggdeaaDoor
