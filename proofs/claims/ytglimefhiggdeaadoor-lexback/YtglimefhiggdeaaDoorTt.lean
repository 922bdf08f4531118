/- Both Texts: contracts of single calls. -/
import Derived.Test.YtglimefhiggdeaaDoorTx
import Derived.Test.YtglimefhiggdeaaDoorHo
import Derived.Test.YtglimefhiggdeaaDoorPt
import Derived.Test.YtglimefhiggdeaaDoorRn
import Derived.Test.YtglimefhiggdeaaDoorLv
namespace Go.Proofs.YtglimefhiggdeaaDoor
open Go.RowKit
set_option linter.unusedVariables false
set_option linter.unusedSimpArgs false
set_option maxRecDepth 20000

/-- A token as it lies in a variable. -/
def tq (k : Int) (nm : ByteArray) (p vk vn : Int) (vs : ByteArray) (a : Int) : Value := .agg #[.int .u8 k, .string nm, .int .u8 p, .int .u8 vk, .int .i64 vn, .string vs, .int .i64 a]
/-- A token's text, of any token. -/
def ttS (k : Int) (nm : ByteArray) (p vk vn : Int) (vs : ByteArray) : ByteArray :=
  if k = 8 then ⟨#[94]⟩ ++ nm else if k = 9 then ⟨#[60]⟩ ++ nm ++ ⟨#[62]⟩ else if k = 10 then sgnS p else if k = 11 then txtS vk vn vs else st (mkL k.toNat)
set_option maxHeartbeats 4000000 in
theorem ltext_any (k : Int) (nm : ByteArray) (p vk vn : Int) (vs : ByteArray) (a : Int) (w : World) (hk0 : 0 ≤ k) (hk1 : k ≤ 255) (hnm : nm.size ≤ 100000) (hvk0 : 0 ≤ vk) (hvk1 : vk ≤ 255) (hvs : vs.size ≤ 1000000) (hV : Vars w) :
    Calls Tryd.prog 11 #[tq k nm p vk vn vs a] w fun e w' => e = .returned (.string (ttS k nm p vk vn vs)) ∧ Below w.heap.size w w' := by
  have hl1 : ¬ 9223372036854775807 < 1 + nm.size := by omega
  have hl2 : ¬ 9223372036854775807 < 1 + nm.size + 1 := by omega
  have CS := fun W => sign_any13 p W
  have CT := fun W hv => text_any13 vk vn vs W hvk0 hvk1 hvs hv
  unfold tq ttS
  generalize sgnS p = sp at *
  generalize txtS vk vn vs = sv at *
  by_cases h8 : k = 8
  · subst h8
    rw [if_pos rfl]
    go_enter Tryd.func11, Tryd.ntmps11
    go_wp2_with fail
    go_ret
    exact ⟨rfl, bxn _ _⟩
  by_cases h9 : k = 9
  · subst h9
    rw [if_neg (by decide), if_pos rfl]
    go_enter Tryd.func11, Tryd.ntmps11
    go_wp2_with fail
    go_ret
    exact ⟨rfl, bxn _ _⟩
  by_cases h10 : k = 10
  · subst h10
    rw [if_neg (by decide), if_neg (by decide), if_pos rfl]
    go_enter Tryd.func11, Tryd.ntmps11
    go_wp2_with (go_at_call 17; refine (CS _).mono ?_; rintro e w' ⟨rfl, hw⟩; obtain rfl := hw.symm; clear CS)
    go_ret
    exact ⟨rfl, bxn _ _⟩
  by_cases h11 : k = 11
  · subst h11
    rw [if_neg (by decide), if_neg (by decide), if_neg (by decide), if_pos rfl]
    go_enter Tryd.func11, Tryd.ntmps11
    go_wp2_with (go_at_call 18; refine (CT _ (hV.below (bxn _ _))).mono ?_; rintro e w1 ⟨rfl, hb1⟩; clear CT)
    go_ret
    exact ⟨rfl, bt (bxn _ _) hb1⟩
  rw [if_neg h8, if_neg h9, if_neg h10, if_neg h11]
  clear CS CT
  obtain ⟨n, rfl⟩ : ∃ n : Nat, k = n := ⟨k.toNat, by omega⟩
  have CM := fun W => mark_any n W (by omega)
  have m8 : ((n : Int) == 8) = false := by rw [beq_eq_false_iff_ne]; exact h8
  have m9 : ((n : Int) == 9) = false := by rw [beq_eq_false_iff_ne]; exact h9
  have m10 : ((n : Int) == 10) = false := by rw [beq_eq_false_iff_ne]; exact h10
  have m11 : ((n : Int) == 11) = false := by rw [beq_eq_false_iff_ne]; exact h11
  rw [Int.toNat_natCast]
  generalize st (mkL n) = m at *
  clear h8 h9 h10 h11
  go_enter Tryd.func11, Tryd.ntmps11
  go_wp2_with (go_at_call 19; refine (CM _).mono ?_; rintro e w' ⟨rfl, hw⟩; obtain rfl := hw.symm; clear CM)
  go_ret
  exact ⟨rfl, bxn _ _⟩
set_option maxHeartbeats 4000000 in
theorem rltext_any (k : Int) (nm : ByteArray) (p vk vn : Int) (vs : ByteArray) (a : Int) (w : World) (hk0 : 0 ≤ k) (hk1 : k ≤ 255) (hnm : nm.size ≤ 100000) (hvk0 : 0 ≤ vk) (hvk1 : vk ≤ 255) (hvs : vs.size ≤ 1000000) :
    Calls Tryd.prog 12 #[tq k nm p vk vn vs a] w fun e w' => e = .returned (.string (ttS k nm p vk vn vs)) ∧ Below w.heap.size w w' := by
  have hl1 : ¬ 9223372036854775807 < 1 + nm.size := by omega
  have hl2 : ¬ 9223372036854775807 < 1 + nm.size + 1 := by omega
  have CS := fun W => rsign_any13 p W
  have CT := fun W => rtext_any13 vk vn vs W hvk0 hvk1 hvs
  unfold tq ttS
  generalize sgnS p = sp at *
  generalize txtS vk vn vs = sv at *
  by_cases h8 : k = 8
  · subst h8
    rw [if_pos rfl]
    go_enter Tryd.func12, Tryd.ntmps12
    go_wp2_with fail
    go_ret
    exact ⟨rfl, bxn _ _⟩
  by_cases h9 : k = 9
  · subst h9
    rw [if_neg (by decide), if_pos rfl]
    go_enter Tryd.func12, Tryd.ntmps12
    go_wp2_with fail
    go_ret
    exact ⟨rfl, bxn _ _⟩
  by_cases h10 : k = 10
  · subst h10
    rw [if_neg (by decide), if_neg (by decide), if_pos rfl]
    go_enter Tryd.func12, Tryd.ntmps12
    go_wp2_with (go_at_call 20; refine (CS _).mono ?_; rintro e w' ⟨rfl, hw⟩; obtain rfl := hw.symm; clear CS)
    go_ret
    exact ⟨rfl, bxn _ _⟩
  by_cases h11 : k = 11
  · subst h11
    rw [if_neg (by decide), if_neg (by decide), if_neg (by decide), if_pos rfl]
    go_enter Tryd.func12, Tryd.ntmps12
    go_wp2_with (go_at_call 21; refine (CT _).mono ?_; rintro e w1 ⟨rfl, hb1⟩; clear CT)
    go_ret
    exact ⟨rfl, bt (bxn _ _) hb1⟩
  rw [if_neg h8, if_neg h9, if_neg h10, if_neg h11]
  clear CS CT
  by_cases h0 : k = 0
  · subst h0
    go_enter Tryd.func12, Tryd.ntmps12
    go_wp2
    go_ret
    exact ⟨rfl, bxn _ _⟩
  by_cases h1 : k = 1
  · subst h1
    go_enter Tryd.func12, Tryd.ntmps12
    go_wp2
    go_ret
    exact ⟨rfl, bxn _ _⟩
  by_cases h2 : k = 2
  · subst h2
    go_enter Tryd.func12, Tryd.ntmps12
    go_wp2
    go_ret
    exact ⟨rfl, bxn _ _⟩
  by_cases h3 : k = 3
  · subst h3
    go_enter Tryd.func12, Tryd.ntmps12
    go_wp2
    go_ret
    exact ⟨rfl, bxn _ _⟩
  by_cases h4 : k = 4
  · subst h4
    go_enter Tryd.func12, Tryd.ntmps12
    go_wp2
    go_ret
    exact ⟨rfl, bxn _ _⟩
  by_cases h5 : k = 5
  · subst h5
    go_enter Tryd.func12, Tryd.ntmps12
    go_wp2
    go_ret
    exact ⟨rfl, bxn _ _⟩
  by_cases h6 : k = 6
  · subst h6
    go_enter Tryd.func12, Tryd.ntmps12
    go_wp2
    go_ret
    exact ⟨rfl, bxn _ _⟩
  by_cases h7 : k = 7
  · subst h7
    go_enter Tryd.func12, Tryd.ntmps12
    go_wp2
    go_ret
    exact ⟨rfl, bxn _ _⟩
  have m0 : (k == 0) = false := by rw [beq_eq_false_iff_ne]; exact h0
  have m1 : (k == 1) = false := by rw [beq_eq_false_iff_ne]; exact h1
  have m2 : (k == 2) = false := by rw [beq_eq_false_iff_ne]; exact h2
  have m3 : (k == 3) = false := by rw [beq_eq_false_iff_ne]; exact h3
  have m4 : (k == 4) = false := by rw [beq_eq_false_iff_ne]; exact h4
  have m5 : (k == 5) = false := by rw [beq_eq_false_iff_ne]; exact h5
  have m6 : (k == 6) = false := by rw [beq_eq_false_iff_ne]; exact h6
  have m7 : (k == 7) = false := by rw [beq_eq_false_iff_ne]; exact h7
  have m8 : (k == 8) = false := by rw [beq_eq_false_iff_ne]; exact h8
  have m9 : (k == 9) = false := by rw [beq_eq_false_iff_ne]; exact h9
  have m10 : (k == 10) = false := by rw [beq_eq_false_iff_ne]; exact h10
  have m11 : (k == 11) = false := by rw [beq_eq_false_iff_ne]; exact h11
  have HM : Hid (st (mkL k.toNat) = ⟨#[]⟩) := by
    show _ = _
    unfold mkL
    repeat' (rw [if_neg (by omega)])
    rfl
  generalize st (mkL k.toNat) = m at *
  clear h0 h1 h2 h3 h4 h5 h6 h7 h8 h9 h10 h11
  go_enter Tryd.func12, Tryd.ntmps12
  go_wp2
  go_ret
  exact ⟨by rw [HM.out]; rfl, bxn _ _⟩
/-- What value.Text tells of a value that Parse told. -/
theorem chk_num {n : Int} (h0 : -1099511627776 ≤ n) (h1 : n ≤ 1099511627776) : chkE 1 n [] = 0 := by
  unfold chkE
  rw [if_neg (by decide), if_neg (by rintro (⟨_, h⟩ | ⟨h, _⟩); exact h rfl; exact h rfl), if_neg (by unfold inB; rw [decide_eq_true ⟨h0, h1⟩]; decide), if_neg (by rintro ⟨h, _⟩; cases h)]
theorem chk_sym {l : List UInt8} (h : symB l = true) : chkE 2 0 l = 0 := by
  unfold chkE
  rw [if_neg (by decide), if_neg (by rintro (⟨h, _⟩ | ⟨_, h⟩); exact h rfl; exact h rfl), if_neg (by rw [in0]; decide), if_neg (by rintro ⟨_, h'⟩; rw [h] at h'; cases h')]
theorem txt_par {w : List UInt8} {t : Tk} (h : parL w = some t) : (txtS t.vk t.vn (st t.vs)).data.toList = valL t.vk t.vn t.vs ∧ (0 ≤ t.vk ∧ t.vk ≤ 2) ∧ t.vs.length ≤ 24 ∧ (-1099511627776 ≤ t.vn ∧ t.vn ≤ 1099511627776) ∧ t.nm = [] ∧ t.p = 0 := by
  have hw := par_word h
  unfold parL at h
  rw [if_neg (by rw [hw]; simp)] at h
  split at h
  · obtain rfl := Option.some.inj h
    refine ⟨?_, ⟨Int.le_refl 0, by show (0 : Int) ≤ 2; decide⟩, by show 0 ≤ 24; decide, ⟨by show -1099511627776 ≤ (0 : Int); decide, by show (0 : Int) ≤ 1099511627776; decide⟩, rfl, rfl⟩
    show (txtS 0 0 (st [])).data.toList = nil3
    unfold txtS
    rfl
  · split at h
    · rename_i hn hb
      split at h
      · cases h
      · rename_i hd
        obtain rfl := Option.some.inj h
        have ha := nb_abs w
        have h0 : -1099511627776 ≤ nbV w := by omega
        have h1 : nbV w ≤ 1099511627776 := by omega
        refine ⟨?_, ⟨by show (0 : Int) ≤ 1; decide, by show (1 : Int) ≤ 2; decide⟩, by show 0 ≤ 24; decide, ⟨h0, h1⟩, rfl, rfl⟩
        show (txtS 1 (nbV w) (st [])).data.toList = Lib.itoa (nbV w)
        unfold txtS
        rw [st_list, chk_num h0 h1, if_neg (by simp), if_pos rfl]
    · rename_i hn hb
      obtain rfl := Option.some.inj h
      refine ⟨?_, ⟨by show (0 : Int) ≤ 2; decide, Int.le_refl 2⟩, (word_ok hw).2.2, ⟨by show -1099511627776 ≤ (0 : Int); decide, by show (0 : Int) ≤ 1099511627776; decide⟩, rfl, rfl⟩
      show (txtS 2 0 (st w)).data.toList = w
      unfold txtS
      have hs : symB w = true := by unfold symB; rw [hw, decide_eq_false hn, show numB w = false by simpa using hb]; rfl
      rw [st_list, chk_sym hs, if_neg (by simp), if_neg (by decide), if_pos rfl, st_list]
/-- The text of a token that was scanned, and what its cells may be. -/
theorem tok_text {t : Tk} (h : IsTok t) : (ttS t.k (st t.nm) t.p t.vk t.vn (st t.vs)).data.toList = txtL t := by
  cases h with
  | fix k hk => rcases hk with rfl | rfl | rfl | rfl | rfl | rfl | rfl | rfl <;> rfl
  | prd p hp => rcases hp with rfl | rfl | rfl | rfl | rfl | rfl <;> rfl
  | nam k r hk ho h1 h2 =>
    rcases hk with rfl | rfl
    · show (⟨#[94]⟩ ++ st r : ByteArray).data.toList = 94 :: r
      simp [st]
    · show (⟨#[60]⟩ ++ st r ++ ⟨#[62]⟩ : ByteArray).data.toList = 60 :: (r ++ [62])
      simp [st]
  | val w t h =>
    have hk := par_kind h
    unfold ttS txtL
    rw [hk]
    simp
    exact (txt_par h).1
/-- Bounds of a token that was scanned. -/
structure TokB (t : Tk) : Prop where
  k : 0 ≤ t.k ∧ t.k ≤ 255
  nm : t.nm.length ≤ 24
  p : 0 ≤ t.p ∧ t.p ≤ 255
  vk : 0 ≤ t.vk ∧ t.vk ≤ 255
  vn : -1099511627776 ≤ t.vn ∧ t.vn ≤ 1099511627776
  vs : t.vs.length ≤ 24
theorem tok_b {t : Tk} (h : IsTok t) : TokB t := by
  cases h with
  | fix k hk => exact ⟨by show 0 ≤ k ∧ k ≤ 255; omega, Nat.zero_le _, ⟨Int.le_refl 0, by show (0 : Int) ≤ 255; decide⟩, ⟨Int.le_refl 0, by show (0 : Int) ≤ 255; decide⟩, ⟨by show -1099511627776 ≤ (0 : Int); decide, by show (0 : Int) ≤ 1099511627776; decide⟩, Nat.zero_le _⟩
  | prd p hp => exact ⟨⟨by show (0 : Int) ≤ 10; decide, by show (10 : Int) ≤ 255; decide⟩, Nat.zero_le _, by show 0 ≤ p ∧ p ≤ 255; omega, ⟨Int.le_refl 0, by show (0 : Int) ≤ 255; decide⟩, ⟨by show -1099511627776 ≤ (0 : Int); decide, by show (0 : Int) ≤ 1099511627776; decide⟩, Nat.zero_le _⟩
  | nam k r hk ho h1 h2 => exact ⟨by show 0 ≤ k ∧ k ≤ 255; omega, h2, ⟨Int.le_refl 0, by show (0 : Int) ≤ 255; decide⟩, ⟨Int.le_refl 0, by show (0 : Int) ≤ 255; decide⟩, ⟨by show -1099511627776 ≤ (0 : Int); decide, by show (0 : Int) ≤ 1099511627776; decide⟩, Nat.zero_le _⟩
  | val w t h =>
    obtain ⟨_, h2, h3, h4, h5, h6⟩ := txt_par h
    have hk := par_kind h
    exact ⟨by omega, by rw [h5]; exact Nat.zero_le _, by omega, by omega, h4, h3⟩
theorem txt_short {t : Tk} (h : IsTok t) : (txtL t).length ≤ 26 := by
  cases h with
  | fix k hk => rcases hk with rfl | rfl | rfl | rfl | rfl | rfl | rfl | rfl <;> decide
  | prd p hp => rcases hp with rfl | rfl | rfl | rfl | rfl | rfl <;> decide
  | nam k r hk ho h1 h2 =>
    rcases hk with rfl | rfl
    · show (94 :: r).length ≤ 26; simp; omega
    · show (60 :: (r ++ [62])).length ≤ 26; simp; omega
  | val w t h => have := (word_ok (par_word (par_text h))).2.2; omega
/-- What is scanned is tokens. -/
theorem scanGo_tok : ∀ (n a : Nat) (l : List UInt8) (x : Tk × Nat), x ∈ (scanGo n a l).1 → IsTok x.1
  | 0, _, _, _, h => by cases h
  | n + 1, a, l, x, h => by
    unfold scanGo at h
    split at h
    · cases h
    · rename_i hl
      split at h
      · cases h
      · rename_i t k ho
        rcases List.mem_cons.1 h with rfl | h'
        · exact (one_is hl ho).1
        · exact scanGo_tok n _ _ x h'
theorem scan_tok {l : List UInt8} {x : Tk × Nat} (h : x ∈ (scanL l).1) : IsTok x.1 := scanGo_tok _ _ _ x h
end Go.Proofs.YtglimefhiggdeaaDoor
