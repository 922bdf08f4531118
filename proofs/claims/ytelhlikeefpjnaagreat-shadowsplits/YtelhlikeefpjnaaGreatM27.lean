import Derived.Test.YtelhlikeefpjnaaGreatM26
import Derived.Test.YtelhlikeefpjnaaGreatM21
import Derived.Test.YtelhlikeefpjnaaGreatM5
import Derived.Test.YtelhlikeefpjnaaGreatM9
import Derived.Test.YtelhlikeefpjnaaGreatM19
import Derived.Test.YtelhlikeefpjnaaGreatM12
import Derived.Test.YtelhlikeefpjnaaGreatM22
import Derived.Test.YtelhlikeefpjnaaGreatM25
import Derived.Lib.SlBytesConst
namespace Go.Proofs.YtelhlikeefpjnaaGreat
set_option maxRecDepth 20000
open Go.RowKit
set_option linter.unusedVariables false
set_option linter.unusedSimpArgs false
theorem aw_cell (W : World) : (W.alloc (.cells #[.int .u8 120] 5 (1, 2))).cell? ⟨W.heap.size, 0, none⟩ = some (.int .u8 120) := by
  have h : (W.alloc (.cells #[.int .u8 120] 5 (1, 2))).heap[W.heap.size]? = some (.cells #[.int .u8 120] 5 (1, 2)) := by
    show (W.heap.push (.cells #[.int .u8 120] 5 (1, 2)))[W.heap.size]? = _
    exact Array.getElem?_push_size
  unfold World.cell?
  rw [h]
  rfl
theorem aw_conv {w : World} {a : Option Addr} {c : Nat} (h : BV w a [120]) (hn : a = none → c = 0) : (convert 29 9 (.slice a 1 c)).run Tryz.prog w = .ok (.string { data := #[120] }) w := by
  have := conv_bv (cap := c) h hn
  rw [show strOfNums [120] = { data := #[120] } from rfl] at this
  exact this
set_option maxHeartbeats 3200000 in
theorem awake_any (w : World) : Calls Tryz.prog 9 #[] w fun e w' => e = .returned (.bool true) ∧ Below w.heap.size w w' := by
  have H30 : Hid (Calls Tryz.prog 30 #[.int .i64 20] w fun e w' => ∃ dp nb mb, e = .returned (.pointer (some ⟨dp, 0, none⟩)) ∧ D.Dk w' dp nb mb (D.newS 20) ∧ w.heap.size ≤ dp ∧ w.heap.size ≤ nb ∧ w.heap.size ≤ mb ∧ Below w.heap.size w w') := D.new_any 20 w
  have H16 : Hid (∀ w1 dp nb mb, (D.Dk w1 dp nb mb (D.newS 20) ∧ w.heap.size ≤ dp ∧ w.heap.size ≤ nb ∧ w.heap.size ≤ mb ∧ Below w.heap.size w w1) → Calls Tryz.prog 16 #[.pointer (some ⟨dp, 0, none⟩)] w1 fun e w' => ∃ p, e = .returned (.tuple #[.pointer (some ⟨p, 0, none⟩), .int .i64 0]) ∧ Mi w w' ⟨p, dp, nb, mb⟩ w0F.2.1 w0F.2.2) := by
    intro w1 dp nb mb h
    refine (m_format (w0 := w) w1 h.1 (fun x hx => by simp at hx; rcases hx with rfl | rfl | rfl; exact h.2.1; exact h.2.2.1; exact h.2.2.2.1) h.2.2.2.2 (by decide)).mono ?_
    rintro e w' ⟨⟨_, p, he, hm⟩ | ⟨hne, _⟩, _, _⟩
    · exact ⟨p, he, hm⟩
    · exact absurd aw_t1 hne
  have H35 : Hid (∀ W p dp nb mb, Mi w W ⟨p, dp, nb, mb⟩ w0F.2.1 w0F.2.2 → Calls Tryz.prog 35 #[.pointer (some ⟨dp, 0, none⟩)] W fun e w' => e = .returned (.int .i64 5) ∧ w' = W) := fun W p dp nb mb h => by
    have := D.ops_any dp nb mb w0F.2.2 W h.sy.dk
    rw [aw_t2] at this
    exact this
  have H17 : Hid (∀ W p dp nb mb g, Mi w W ⟨p, dp, nb, mb⟩ w0F.2.1 w0F.2.2 → W.cell? ⟨g, 0, none⟩ = some (.int .u8 120) → Calls Tryz.prog 17 #[.pointer (some ⟨p, 0, none⟩), .int .i64 5, .slice (some ⟨g, 0, none⟩) 1 1] W fun e w' => e = .returned (.tuple #[.int .i64 1, .int .i64 0]) ∧ Mi w w' ⟨p, dp, nb, mb⟩ w0A.1 w0A.2) := fun W p dp nb mb g h hc => by
    have := m_alloc 5 (some ⟨g, 0, none⟩) 1 [120] W h ⟨by intro z hz; simp at hz; subst hz; decide, .inr ⟨g, 0, rfl, cell_lt hc, fun i hi => by
      have : i = 0 := by simp at hi; omega
      subst this; exact hc⟩⟩ (by simp) (by simp)
    rw [aw_t3, aw_t3b] at this
    refine this.mono ?_
    rintro e w' ⟨rfl, hm, _⟩
    exact ⟨rfl, hm⟩
  have H26 : Hid (∀ W p dp nb mb, Mi w W ⟨p, dp, nb, mb⟩ w0A.1 w0A.2 → Calls Tryz.prog 26 #[.pointer (some ⟨p, 0, none⟩)] W fun e w' => e = .returned (.int .i64 4) ∧ Mi w w' ⟨p, dp, nb, mb⟩ w0A.1 w0A.2) := fun W p dp nb mb h => by
    have := m_used W h
    rw [aw_t4] at this
    refine this.mono ?_
    rintro e w' ⟨rfl, hm, _⟩
    exact ⟨rfl, hm⟩
  have H28 : Hid (∀ W p dp nb mb, Mi w W ⟨p, dp, nb, mb⟩ w0A.1 w0A.2 → Calls Tryz.prog 28 #[.pointer (some ⟨p, 0, none⟩)] W fun e w' => e = .returned (.bool true) ∧ w' = W) := fun W p dp nb mb h => by
    have := m_dirty W h
    rw [aw_t5] at this
    exact this
  have H22 : Hid (∀ W p dp nb mb, Mi w W ⟨p, dp, nb, mb⟩ w0A.1 w0A.2 → Calls Tryz.prog 22 #[.pointer (some ⟨p, 0, none⟩)] W fun e w' => e = .returned (.int .i64 0) ∧ Mi w w' ⟨p, dp, nb, mb⟩ w0C.2.1 w0C.2.2) := fun W p dp nb mb h => by
    have := m_commit W h
    rw [show (comR w0A.1 w0A.2 (us2S w0A.1)).1 = 0 from aw_t6] at this
    refine this.mono ?_
    rintro e w' ⟨rfl, hm, _⟩
    exact ⟨rfl, hm⟩
  have H26b : Hid (∀ W p dp nb mb, Mi w W ⟨p, dp, nb, mb⟩ w0C.2.1 w0C.2.2 → Calls Tryz.prog 26 #[.pointer (some ⟨p, 0, none⟩)] W fun e w' => e = .returned (.int .i64 5) ∧ Mi w w' ⟨p, dp, nb, mb⟩ w0C.2.1 w0C.2.2) := fun W p dp nb mb h => by
    have := m_used W h
    rw [aw_t7] at this
    refine this.mono ?_
    rintro e w' ⟨rfl, hm, _⟩
    exact ⟨rfl, hm⟩
  have H25 : Hid (∀ W p dp nb mb, Mi w W ⟨p, dp, nb, mb⟩ w0C.2.1 w0C.2.2 → Calls Tryz.prog 25 #[.pointer (some ⟨p, 0, none⟩)] W fun e w' => e = .returned (.int .i64 1) ∧ w' = W) := fun W p dp nb mb h => by
    have := m_epoch W h
    rw [aw_t8] at this
    exact this
  have H33 : Hid (∀ W p dp nb mb, Mi w W ⟨p, dp, nb, mb⟩ w0C.2.1 w0C.2.2 → Calls Tryz.prog 33 #[.pointer (some ⟨dp, 0, none⟩), .slice none 0 0] W fun e w' => e = .returned (.tuple #[]) ∧ D.Dk w' dp nb mb w0D ∧ (∀ x ∈ [dp, nb, mb], w.heap.size ≤ x) ∧ Below w.heap.size w w') := fun W p dp nb mb h => by
    refine (D.crash_any dp nb mb w0C.2.2 (.slice none 0 0) [] W h.sy.dk ⟨none, 0, rfl, Nat.zero_le _, by omega, ⟨D.AllB.nil, .inl rfl⟩, fun hh => absurd rfl hh⟩).mono ?_
    rintro e w' ⟨rfl, hd, ho⟩
    have hup : ∀ x ∈ [dp, nb, mb], w.heap.size ≤ x := fun x hx => h.up x (List.mem_cons_of_mem _ hx)
    exact ⟨rfl, hd, hup, h.be.trans (ho.below h.be.size hup)⟩
  have H15 : Hid (∀ W dp nb mb, D.Dk W dp nb mb w0D ∧ (∀ x ∈ [dp, nb, mb], w.heap.size ≤ x) ∧ Below w.heap.size w W → Calls Tryz.prog 15 #[.pointer (some ⟨dp, 0, none⟩)] W fun e w' => ∃ q, e = .returned (.tuple #[.pointer (some ⟨q, 0, none⟩), .int .i64 0]) ∧ Mi w w' ⟨q, dp, nb, mb⟩ w0S w0G) := fun W dp nb mb h => by
    have := m_open (w0 := w) W h.1 h.2.1 h.2.2 (by rw [w0room]; decide)
    rw [aw_t22] at this
    refine this.mono ?_
    rintro e w' ⟨⟨_, q, he, hm⟩ | ⟨hne, _⟩, _, _⟩
    · exact ⟨q, he, hm⟩
    · exact absurd rfl hne
  have H18 : Hid (∀ W q dp nb mb, Mi w W ⟨q, dp, nb, mb⟩ w0S w0G → Calls Tryz.prog 18 #[.pointer (some ⟨q, 0, none⟩), .int .i64 1] W fun e w' => ∃ a c, e = .returned (.tuple #[.int .i64 5, .slice a 1 c, .int .i64 0]) ∧ BV w' a [120] ∧ (a = none → c = 0) ∧ 1 ≤ c ∧ Mi w w' ⟨q, dp, nb, mb⟩ (rdR w0S w0G 1).1 (rdR w0S w0G 1).2) := fun W q dp nb mb h => by
    obtain ⟨r1, r2, r3, _⟩ := aw_t25
    have := m_read 1 W h
    rw [r1, r2, r3] at this
    refine this.mono ?_
    rintro e w' ⟨v, rfl, ⟨a, c, rfl, hn, hc, _, hv, _⟩, hm, _⟩
    exact ⟨a, c, rfl, hv, hn, hc, hm⟩
  have H27 : Hid (∀ W q dp nb mb, Mi w W ⟨q, dp, nb, mb⟩ (rdR w0S w0G 1).1 (rdR w0S w0G 1).2 → Calls Tryz.prog 27 #[.pointer (some ⟨q, 0, none⟩)] W fun e w' => ∃ a c, e = .returned (.slice a 1 c) ∧ Mi w w' ⟨q, dp, nb, mb⟩ (rdR w0S w0G 1).1 (rdR w0S w0G 1).2) := fun W q dp nb mb h => by
    have e1 : (rdR w0S w0G 1).1.c.tb = w0S.c.tb := by unfold rdR; split <;> rfl
    have := m_ids W h
    rw [e1] at this
    refine this.mono ?_
    rintro e w' ⟨v, rfl, ho, hm, _⟩
    obtain ⟨a, ea⟩ := ownN_slice ho
    rw [aw_t26] at ea
    exact ⟨a, slCap v, by rw [← ea], hm⟩
  have H36 : Hid (∀ W q dp nb mb, Mi w W ⟨q, dp, nb, mb⟩ (rdR w0S w0G 1).1 (rdR w0S w0G 1).2 → Calls Tryz.prog 36 #[.pointer (some ⟨dp, 0, none⟩)] W fun e w' => e = .returned (.int .i64 5) ∧ w' = W) := fun W q dp nb mb h => by
    have := D.reads_any dp nb mb (rdR w0S w0G 1).2 W h.sy.dk
    rw [aw_t25.2.2.2] at this
    exact this
  have kc := fun (w : World) (C : Array Value) (n c : Nat) => Lib.run_convert_bytes_const (P := Tryz.prog) w 29 5 C n c Tryz.underlying29 Tryz.underlying5
  go_enter Tryz.func9, Tryz.ntmps9
  go_wp2_with (first
    | (go_at_call 30; refine H30.out.mono ?_; rintro e w1 ⟨dp, nb, mb, rfl, h1⟩; have M1 : Hid (D.Dk w1 dp nb mb (D.newS 20) ∧ w.heap.size ≤ dp ∧ w.heap.size ≤ nb ∧ w.heap.size ≤ mb ∧ Below w.heap.size w w1) := h1; clear h1 H30)
    | (go_at_call 16; refine (H16.out _ _ _ _ M1.out).mono ?_; rintro e w2 ⟨p, rfl, h2⟩; have M2 : Hid (Mi w w2 ⟨p, dp, nb, mb⟩ w0F.2.1 w0F.2.2) := h2; clear h2 H16 M1)
    | (go_at_call 35; refine (H35.out _ _ _ _ _ M2.out).mono ?_; rintro e w' ⟨rfl, hw⟩; obtain rfl := hw.symm; clear H35)
    | (go_at_call 17; refine (H17.out _ _ _ _ _ _ (M2.out.below ((Below.refl _ _).alloc (Nat.le_refl _) _)) (aw_cell _)).mono ?_; rintro e w3 ⟨rfl, h3⟩; have M3 : Hid (Mi w w3 ⟨p, dp, nb, mb⟩ w0A.1 w0A.2) := h3; clear h3 H17 M2)
    | (go_at_call 26; refine (H26.out _ _ _ _ _ M3.out).mono ?_; rintro e w4 ⟨rfl, h4⟩; have M4 : Hid (Mi w w4 ⟨p, dp, nb, mb⟩ w0A.1 w0A.2) := h4; clear h4 H26 M3)
    | (go_at_call 28; refine (H28.out _ _ _ _ _ M4.out).mono ?_; rintro e w' ⟨rfl, hw⟩; obtain rfl := hw.symm; clear H28)
    | (go_at_call 22; refine (H22.out _ _ _ _ _ M4.out).mono ?_; rintro e w5 ⟨rfl, h5⟩; have M5 : Hid (Mi w w5 ⟨p, dp, nb, mb⟩ w0C.2.1 w0C.2.2) := h5; clear h5 H22 M4)
    | (go_at_call 26; refine (H26b.out _ _ _ _ _ M5.out).mono ?_; rintro e w6 ⟨rfl, h6⟩; have M6 : Hid (Mi w w6 ⟨p, dp, nb, mb⟩ w0C.2.1 w0C.2.2) := h6; clear h6 H26b M5)
    | (go_at_call 25; refine (H25.out _ _ _ _ _ M6.out).mono ?_; rintro e w' ⟨rfl, hw⟩; obtain rfl := hw.symm; clear H25)
    | (go_at_call 33; refine (H33.out _ _ _ _ _ M6.out).mono ?_; rintro e w7 ⟨rfl, h7⟩; have M7 : Hid _ := h7; clear h7 H33 M6)
    | (go_at_call 15; refine (H15.out _ _ _ _ M7.out).mono ?_; rintro e w8 ⟨q, rfl, h8⟩; have M8 : Hid (Mi w w8 ⟨q, dp, nb, mb⟩ w0S w0G) := h8; clear h8 H15 M7)
    | (go_at_call 18; refine (H18.out _ _ _ _ _ M8.out).mono ?_; rintro e w9 ⟨ya, yc, rfl, hbv, hyn, hyc, h9⟩; have M9 : Hid (Mi w w9 ⟨q, dp, nb, mb⟩ (rdR w0S w0G 1).1 (rdR w0S w0G 1).2) := h9; have hcv := aw_conv hbv hyn; clear h9 H18 M8 hbv)
    | (go_at_call 27; refine (H27.out _ _ _ _ _ M9.out).mono ?_; rintro e w10 ⟨za, zc, rfl, h10⟩; have M10 : Hid (Mi w w10 ⟨q, dp, nb, mb⟩ (rdR w0S w0G 1).1 (rdR w0S w0G 1).2) := h10; clear h10 H27 M9)
    | (go_at_call 36; refine (H36.out _ _ _ _ _ M10.out).mono ?_; rintro e w' ⟨rfl, hw⟩; obtain rfl := hw.symm; clear H36)
    | fail)
  go_ret
  exact ⟨rfl, M10.out.be⟩
end Go.Proofs.YtelhlikeefpjnaaGreat
namespace Go.Proofs.YtelhlikeefpjnaaGreat
set_option maxRecDepth 20000
open Go.RowKit
set_option linter.unusedVariables false
theorem unS_cons (x y : Int) (zs : List Int) (n : Nat) : unS (x :: y :: zs) (n + 1) = (256 * x + y) :: unS zs n := by
  unfold unS
  rw [List.range_succ_eq_map, List.map_cons, List.map_map]
  congr 1
theorem unS_words : ∀ ns : List Int, (∀ z ∈ ns, 0 ≤ z ∧ z ≤ 65535) → unS (wordsS ns) ns.length = ns
  | [], _ => rfl
  | n :: ns, h => by
    have hn := h n (by simp)
    have e : wordsS (n :: ns) = n / 256 :: n % 256 :: wordsS ns := by
      show dig n 2 ++ wordsS ns = _
      rw [dig2, show n / 256 % 256 = n / 256 by omega]; rfl
    rw [e, List.length_cons, unS_cons, unS_words ns (fun z hz => h z (by simp [hz])), show 256 * (n / 256) + n % 256 = n by omega]
theorem un_words {ns : List Int} (h : ∀ z ∈ ns, 0 ≤ z ∧ z ≤ 65535) : unE (wordsS ns) = 0 ∧ unL (wordsS ns) = ns := by
  have hl := wordsS_len ns
  unfold unE unL
  rw [if_pos (by omega), if_pos (by omega), show (wordsS ns).length / 2 = ns.length by omega]
  exact ⟨rfl, unS_words ns h⟩
theorem split_flat (n : Nat) (hn : 1 ≤ n) : ∀ (f : Nat) (zs : List Int), zs.length ≤ f → (splitF n f zs).flatten = zs
  | 0, zs, h => by
    obtain rfl : zs = [] := List.eq_nil_of_length_eq_zero (by omega)
    rfl
  | f + 1, zs, h => by
    by_cases hz : zs = []
    · subst hz; rw [splitF_nil]; rfl
    · rw [splitF_step n f hz, List.flatten_cons, split_flat n hn f (zs.drop n) (by rw [List.length_drop]; have : 0 < zs.length := List.length_pos_iff.2 hz; omega), List.take_append_drop]
theorem split_short (n : Nat) : ∀ (f : Nat) (zs : List Int), ∀ p ∈ splitF n f zs, p.length ≤ n
  | 0, zs, p, hp => by cases hp
  | f + 1, zs, p, hp => by
    by_cases hz : zs = []
    · subst hz; rw [splitF_nil] at hp; cases hp
    · rw [splitF_step n f hz] at hp
      rcases List.mem_cons.1 hp with rfl | h
      · rw [List.length_take]; omega
      · exact split_short n f _ p h
theorem spl_flat (zs : List Int) : (splitS zs 246).flatten = zs := by
  unfold splitS
  rw [if_neg (by decide)]
  exact split_flat 246 (by decide) _ _ (Nat.le_refl _)
theorem spl_short (zs : List Int) : ∀ p ∈ splitS zs 246, p.length ≤ 246 := by
  unfold splitS
  rw [if_neg (by decide)]
  exact split_short 246 _ _
theorem spl_all {zs : List Int} (h : AllB zs) : ∀ p ∈ splitS zs 246, AllB p := by
  unfold splitS
  rw [if_neg (by decide)]
  exact splitF_all 246 _ h
def Laid (kd : Int) (S : Nat → List Int) : Nat → List (List Int) → List Int → Prop
  | _, [], bs => bs = []
  | i, p :: ps, bs => ∃ b bs', bs = b :: bs' ∧ 0 ≤ b ∧ S b.toNat = sealS kd i p ∧ Laid kd S (i + 1) ps bs'
theorem Laid.congr {kd : Int} {S S' : Nat → List Int} : ∀ {ps : List (List Int)} {i : Nat} {bs : List Int}, Laid kd S i ps bs → (∀ b ∈ bs, S' b.toNat = S b.toNat) → Laid kd S' i ps bs
  | [], _, _, h, _ => h
  | p :: ps, i, bs, h, he => by
    obtain ⟨b, bs', rfl, h0, h1, h2⟩ := h
    exact ⟨b, bs', rfl, h0, (he b (by simp)).trans h1, h2.congr (fun x hx => he x (by simp [hx]))⟩
theorem Laid.len {kd : Int} {S : Nat → List Int} : ∀ {ps : List (List Int)} {i : Nat} {bs : List Int}, Laid kd S i ps bs → bs.length = ps.length
  | [], _, _, h => by rw [show _ = [] from h]; rfl
  | p :: ps, i, bs, h => by
    obtain ⟨b, bs', rfl, h0, h1, h2⟩ := h
    simp [h2.len]
def Rdd (d d' : D.DS) : Prop := ∃ n, d' = { d with reads := n }
theorem Rdd.refl (d : D.DS) : Rdd d d := ⟨d.reads, rfl⟩
theorem Rdd.trans {a b c : D.DS} (h : Rdd a b) (k : Rdd b c) : Rdd a c := by
  obtain ⟨n, rfl⟩ := h
  obtain ⟨m, rfl⟩ := k
  exact ⟨m, rfl⟩
theorem rdd_read (d : D.DS) (n : Int) : Rdd d (D.readS d n) := by
  unfold D.readS; split
  · exact Rdd.refl d
  · exact ⟨_, rfl⟩
theorem Rdd.reach {d d' : D.DS} (h : Rdd d d') (n : Int) : D.reachE d' n = D.reachE d n := by obtain ⟨m, rfl⟩ := h; rfl
theorem Rdd.rb {d d' : D.DS} (h : Rdd d d') (n : Int) : D.readB d' n = D.readB d n := by obtain ⟨m, rfl⟩ := h; rfl
theorem rp_laid {kd : Int} (hk : 1 ≤ kd) (hk2 : kd ≤ 5) : ∀ (ps : List (List Int)) (i : Nat) (bs acc : List Int) (d : D.DS), Laid kd d.B i ps bs → (∀ p ∈ ps, p.length ≤ 246) → i + ps.length ≤ 3001 → (∀ b ∈ bs, D.reachE d b = 0) → ∃ d', rpR kd i bs acc d = (0, acc ++ ps.flatten, d') ∧ Rdd d d'
  | [], i, bs, acc, d, hl, _, _, _ => by
    rw [show bs = [] from hl]
    exact ⟨d, by unfold rpR; simp, Rdd.refl d⟩
  | p :: ps, i, bs, acc, d, hl, hp, hi, hr => by
    obtain ⟨b, bs', rfl, h0, h1, h2⟩ := hl
    have hrb := hr b (by simp)
    have hrd : D.readB d b = sealS kd i p := by
      unfold D.readB
      rw [if_neg (by rw [hrb]; decide), h1]
    simp only [List.length_cons] at hi
    obtain ⟨o1, o2, o3, o4⟩ := op_seal (seal_all' (kd := kd) (n := p.length) (i := i) hk hk2 (by omega) (hp p (by simp)))
    have hd := rdd_read d b
    obtain ⟨d', e, hd'⟩ := rp_laid hk hk2 ps (i + 1) bs' (acc ++ p) (D.readS d b) (by obtain ⟨m, hm⟩ := hd; rw [hm]; exact h2) (fun q hq => hp q (by simp [hq])) (by omega) (fun c hc => by rw [hd.reach]; exact hr c (by simp [hc]))
    refine ⟨d', ?_, hd.trans hd'⟩
    unfold rpR
    rw [if_neg (by rw [hrb]; decide), hrd, if_neg (by rw [o1, o2, o3]; simp), o4, e]
    simp
theorem part_perm {l l' : List Int} (h : l.Perm l') (hp : Part l) : Part l' := by
  unfold Part at *
  exact (h.pairwise_iff (fun {x y} hxy hy hx e => hxy hx hy e.symm)).1 hp
theorem once_perm {bl : Nat} {m l l' us : List Int} (hm : AllB m) (h : onceR bl m l = some us) (h0 : ∀ z ∈ l, 0 ≤ z) (h2 : ∀ z ∈ l, z ≠ 0 → 2 ≤ z) (hb : bl ≤ 8 * m.length) (hp : l.Perm l') : onceR bl m l' = some us := by
  obtain ⟨c1, c2⟩ := once_conv h h0 hb
  have hin : ∀ z ∈ l, z = 0 ∨ (2 ≤ z ∧ z < bl) := fun z hz => by
    by_cases e : z = 0
    · exact .inl e
    · exact .inr ⟨h2 z hz e, (c1 z hz e).1⟩
  obtain ⟨us1, e1, hh1⟩ := once_some hin c2 (fun z hz hz0 => (c1 z hz hz0).2) hb
  rw [h] at e1
  obtain rfl := Option.some.inj e1
  obtain ⟨us2, e2, hh2⟩ := once_some (l := l') (fun z hz => hin z (hp.mem_iff.2 hz)) (part_perm hp c2) (fun z hz hz0 => (c1 z (hp.mem_iff.2 hz) hz0).2) hb
  rw [e2]
  congr 1
  refine B.set_ext (onceR_all e2 hm) (onceR_all h hm) (by rw [onceR_len e2, onceR_len h]) (fun n _ => ?_)
  rw [hh1, hh2]
  congr 1
  rw [decide_eq_decide, hp.mem_iff]
def Pgs (S : Nat → List Int) (tb : List Int) : Prop := ∀ i, tb.getD i 0 ≠ 0 → opE (S (tb.getD i 0).toNat) = 0 ∧ opI (S (tb.getD i 0).toNat) = ((i + 1 : Nat) : Int)
def pgB (zs : List Int) (id : Nat) : List Int := [((id : Int) / 256) % 256, (id : Int) % 256, opK zs % 256, ((opB zs).length : Int) % 256] ++ opB zs
def stB (st : Int) : List Int := [(st / 256) % 256, st % 256]
def imgS (tb : List Int) (st : Int) (S : Nat → List Int) : List Int := (idsS tb).flatMap (fun id => pgB (S (tb.getD (id - 1) 0).toNat) id) ++ stB st
def Trim (tb : List Int) : Prop := tb = [] ∨ tb.getD (tb.length - 1) 0 ≠ 0
theorem ids_mem {tb : List Int} {id : Nat} (h : id ∈ idsS tb) : 1 ≤ id ∧ id ≤ tb.length ∧ tb.getD (id - 1) 0 ≠ 0 := by
  unfold idsS idsTo at h
  obtain ⟨i, hi, rfl⟩ := List.mem_map.1 h
  have h2 := List.mem_filter.1 hi
  simp at h2
  refine ⟨by omega, by omega, ?_⟩
  simpa using h2.2
theorem img_congr {tb : List Int} (st : Int) {S S' : Nat → List Int} (h : ∀ z ∈ tb, z ≠ 0 → S' z.toNat = S z.toNat) : imgS tb st S' = imgS tb st S := by
  unfold imgS
  congr 1
  rw [List.flatMap_def, List.flatMap_def]
  congr 1
  refine List.map_congr_left (fun id hid => ?_)
  obtain ⟨h1, h2, h3⟩ := ids_mem hid
  rw [h _ (get_mem h3).1 h3]
theorem Pgs.congr {tb : List Int} {S S' : Nat → List Int} (hp : Pgs S tb) (h : ∀ z ∈ tb, z ≠ 0 → S' z.toNat = S z.toNat) : Pgs S' tb := fun i hi => by
  rw [h _ (get_mem hi).1 hi]; exact hp i hi
theorem trim_last (l : List Int) : ∀ j, trimTo l j = 0 ∨ l.getD (trimTo l j - 1) 0 ≠ 0
  | 0 => .inl rfl
  | j + 1 => by
    unfold trimTo
    split
    · exact trim_last l j
    · rename_i h
      exact .inr h
theorem give_trim (tb : List Int) (id : Nat) (n : Int) : Trim (giveT tb id n) := by
  unfold giveT
  generalize hj : trimTo (wideT tb id n) (max tb.length id) = j
  have h1 := trim_last (wideT tb id n) (max tb.length id)
  have h2 := trimTo_le (wideT tb id n) (max tb.length id)
  rw [hj] at h1 h2
  have hl : ((wideT tb id n).take j).length = j := by rw [List.length_take, wideT_len]; omega
  rcases h1 with h1 | h1
  · exact .inl (by rw [h1]; rfl)
  · by_cases h0 : j = 0
    · exact .inl (by rw [h0]; rfl)
    · refine .inr ?_
      rw [hl, getD_take _ _ _ (by omega)]
      exact h1
def rootT (t : SS) (T M : List Int) : R.RD := ⟨t.ep, t.bl, t.l.tb.length, t.l.st, T, M⟩
structure Lasts (t : SS) (S : Nat → List Int) (im : List Int) : Prop where
  b2 : 2 ≤ t.bl
  b4 : t.bl ≤ 4096
  e0 : 0 ≤ t.ep
  tbo : TbOk t.bl t.l.tb
  sto : t.l.st = 0 ∨ blkI t.l.tb t.l.st ≠ 0
  usa : AllB t.us
  ex : ∃ T M, (rootT t T M).Ok ∧ S (t.ep.tmod 2).toNat = R.putS (rootT t T M) ∧ Laid 1 S 0 (splitS (wordsS t.l.tb) 246) T ∧ Laid 2 S 0 (splitS t.us 246) M ∧ onceR t.bl (rootsS t.bl) (t.l.tb ++ T ++ M) = some t.us
  eld : Elder (S ((t.ep + 1).tmod 2).toNat) t.ep
  pgs : Pgs S t.l.tb
  trm : Trim t.l.tb
  img : im = imgS t.l.tb t.l.st S
theorem roots_len8 {bl : Nat} (hb : bl ≤ 4096) : bl ≤ 8 * (rootsS bl).length := by rw [show (rootsS bl).length = _ from rootsK_len bl 2]; unfold B.makeN; omega
theorem once_facts {t : SS} {T M : List Int} (b2 : 2 ≤ t.bl) (b4 : t.bl ≤ 4096) (tbo : TbOk t.bl t.l.tb) (hr : (rootT t T M).Ok) (ho : onceR t.bl (rootsS t.bl) (t.l.tb ++ T ++ M) = some t.us) :
    (∀ z ∈ t.l.tb ++ T ++ M, z = 0 ∨ (2 ≤ z ∧ z < t.bl)) ∧ Part (t.l.tb ++ T ++ M) ∧ ∀ n, B.hasB t.us n = (decide (n < 2) || decide (n ≠ 0 ∧ (n : Int) ∈ t.l.tb ++ T ++ M)) := by
  have h0 : ∀ z ∈ t.l.tb ++ T ++ M, 0 ≤ z := fun z hz => by
    rcases List.mem_append.1 hz with h | h
    · rcases List.mem_append.1 h with h | h
      · rcases tbo.ins z h with e | e <;> omega
      · have := hr.tb z h; omega
    · have := hr.mb z h; omega
  obtain ⟨c1, c2⟩ := once_conv ho h0 (roots_len8 b4)
  have hin : ∀ z ∈ t.l.tb ++ T ++ M, z = 0 ∨ (2 ≤ z ∧ z < t.bl) := fun z hz => by
    by_cases e : z = 0
    · exact .inl e
    · obtain ⟨a, b⟩ := c1 z hz e
      rw [has_roots (by omega) b4] at b
      have := h0 z hz
      have hb' : ¬ z.toNat < 2 := by simpa using b
      exact .inr ⟨by omega, a⟩
  obtain ⟨us', e1, hh⟩ := once_some hin c2 (fun z hz hz0 => (c1 z hz hz0).2) (roots_len8 b4)
  rw [ho] at e1
  obtain rfl := Option.some.inj e1
  exact ⟨hin, c2, fun n => by rw [hh n, has_roots (by omega) b4]⟩
theorem Lasts.has {t : SS} {S : Nat → List Int} {im : List Int} (h : Lasts t S im) : B.hasB t.us 0 = true ∧ B.hasB t.us 1 = true ∧ (∀ n, B.hasB t.us n = true → n < t.bl) ∧ ∀ z ∈ t.l.tb, z ≠ 0 → B.hasB t.us z.toNat = true := by
  obtain ⟨T, M, hr, _, _, _, ho⟩ := h.ex
  have hb2 := h.b2
  obtain ⟨h1, h2, h3⟩ := once_facts h.b2 h.b4 h.tbo hr ho
  refine ⟨by rw [h3]; simp, by rw [h3]; simp, fun n hn => ?_, fun z hz h0 => ?_⟩
  · rw [h3, Bool.or_eq_true, decide_eq_true_eq, decide_eq_true_eq] at hn
    rcases hn with h | ⟨h, h'⟩
    · omega
    · have := (h1 _ h').resolve_left (by omega); omega
  · have hz' := List.mem_append_left M (List.mem_append_left T hz)
    have := (h1 z hz').resolve_left h0
    rw [h3, decide_eq_true (p := z.toNat ≠ 0 ∧ _) ⟨by omega, by rw [Int.toNat_of_nonneg (by omega)]; exact hz'⟩]
    simp
theorem tmod2 {e : Int} (h : 0 ≤ e) : (e.tmod 2 = 0 ∧ (e + 1).tmod 2 = 1) ∨ (e.tmod 2 = 1 ∧ (e + 1).tmod 2 = 0) := by
  rw [Int.tmod_eq_emod_of_nonneg h, Int.tmod_eq_emod_of_nonneg (by omega : 0 ≤ e + 1)]
  omega
theorem Lasts.congr {t : SS} {S S' : Nat → List Int} {im : List Int} (h : Lasts t S im) (hs : ∀ n, B.hasB t.us n = true → n ≠ ((t.ep + 1).tmod 2).toNat → S' n = S n) (he : Elder (S' ((t.ep + 1).tmod 2).toNat) t.ep) : Lasts t S' im := by
  obtain ⟨T, M, hr, h1, h2, h3, ho⟩ := h.ex
  obtain ⟨g1, g2, g3⟩ := once_facts h.b2 h.b4 h.tbo hr ho
  have hp := tmod2 h.e0
  have hx : ((t.ep + 1).tmod 2).toNat < 2 := by omega
  have hall : ∀ z ∈ t.l.tb ++ T ++ M, z ≠ 0 → S' z.toNat = S z.toNat := fun z hz h0 => by
    have := (g1 z hz).resolve_left h0
    refine hs _ ?_ (by omega)
    rw [g3, decide_eq_true (p := z.toNat ≠ 0 ∧ _) ⟨by omega, by rw [Int.toNat_of_nonneg (by omega)]; exact hz⟩]
    simp
  refine ⟨h.b2, h.b4, h.e0, h.tbo, h.sto, h.usa, ⟨T, M, hr, ?_, h2.congr (fun b hb => hall b (by simp [hb]) ?_), h3.congr (fun b hb => hall b (by simp [hb]) ?_), ho⟩, he, h.pgs.congr (fun z hz h0 => hall z (by simp [hz]) h0), h.trm, h.img.trans (img_congr _ (fun z hz h0 => hall z (by simp [hz]) h0)).symm⟩
  · rw [hs _ (by rw [g3, decide_eq_true (by omega : (t.ep.tmod 2).toNat < 2)]; rfl) (by omega)]; exact h1
  · have := hr.tb b hb; omega
  · have := hr.mb b hb; omega
structure Safe (t : SS) (d : D.DS) (im : List Int) : Prop where
  ok : d.Ok
  room : d.room = t.bl
  last : Lasts t d.S im
  hard : ∀ n, B.hasB t.us n = true → d.L n = false
theorem Safe.same {t : SS} {d : D.DS} {im : List Int} (h : Safe t d im) (n : Nat) (hn : B.hasB t.us n = true) : d.S n = d.B n :=
  h.ok.same n (by rw [h.room]; exact h.last.has.2.2.1 n hn) (h.hard n hn)
theorem Safe.off {t : SS} {d d' : D.DS} {im : List Int} (h : Safe t d im) (ok : d'.Ok) (hr : d'.room = d.room) (hs : d'.S = d.S) (hl : ∀ n, B.hasB t.us n = true → d'.L n = d.L n) : Safe t d' im :=
  ⟨ok, hr.trans h.room, by rw [hs]; exact h.last, fun n hn => (hl n hn).trans (h.hard n hn)⟩
theorem Lasts.of' {t t' : SS} {S : Nat → List Int} {im : List Int} (h : Lasts t S im) (h1 : t'.l.tb = t.l.tb) (h5 : t'.l.st = t.l.st) (h2 : t'.ep = t.ep) (h3 : t'.us = t.us) (h4 : t'.bl = t.bl) : Lasts t' S im := by
  obtain ⟨c, ⟨tb, st, fr, dt⟩, ep, us, bl, bad⟩ := t
  obtain ⟨c', ⟨tb', st', fr', dt'⟩, ep', us', bl', bad'⟩ := t'
  obtain rfl := h1
  obtain rfl := h5
  obtain rfl := h2
  obtain rfl := h3
  obtain rfl := h4
  exact ⟨h.b2, h.b4, h.e0, h.tbo, h.sto, h.usa, h.ex, h.eld, h.pgs, h.trm, h.img⟩
theorem Safe.of' {t t' : SS} {d : D.DS} {im : List Int} (h : Safe t d im) (h1 : t'.l.tb = t.l.tb) (h5 : t'.l.st = t.l.st) (h2 : t'.ep = t.ep) (h3 : t'.us = t.us) (h4 : t'.bl = t.bl) : Safe t' d im :=
  ⟨h.ok, h.room.trans h4.symm, h.last.of' h1 h5 h2 h3 h4, fun n hn => h.hard n (by rw [← h3]; exact hn)⟩
theorem Safe.of {t t' : SS} {d : D.DS} {im : List Int} (h : Safe t d im) (h1 : t'.l = t.l) (h2 : t'.ep = t.ep) (h3 : t'.us = t.us) (h4 : t'.bl = t.bl) : Safe t' d im :=
  h.of' (by rw [h1]) (by rw [h1]) h2 h3 h4
theorem Safe.rdd {t : SS} {d d' : D.DS} {im : List Int} (h : Safe t d im) (hd : Rdd d d') : Safe t d' im := by
  obtain ⟨n, rfl⟩ := hd
  exact ⟨⟨h.ok.room, h.ok.isB, h.ok.isS, h.ok.same, h.ok.lo, h.ok.hi⟩, h.room, h.last, h.hard⟩
theorem write_parts (d : D.DS) (n : Int) (zs : List Int) : (D.writeS d n zs).S = d.S ∧ (∀ m, m ≠ n.toNat → (D.writeS d n zs).L m = d.L m ∧ (D.writeS d n zs).B m = d.B m) ∧ (D.writeS d n zs).room = d.room := by
  unfold D.writeS
  split
  · exact ⟨rfl, fun m hm => ⟨rfl, rfl⟩, rfl⟩
  · unfold D.stepS D.putS
    split
    · split
      · exact ⟨rfl, fun m hm => ⟨D.upd_other _ _ hm, D.upd_other _ _ hm⟩, rfl⟩
      · exact ⟨rfl, fun m hm => ⟨rfl, rfl⟩, rfl⟩
    · exact ⟨rfl, fun m hm => ⟨D.upd_other _ _ hm, D.upd_other _ _ hm⟩, rfl⟩
theorem write_does {d : D.DS} {n : Int} {zs : List Int} (hd : d.down = false) (h0 : 0 ≤ n) (h1 : n < d.room) (hl : zs.length = 256) :
    (D.writeE d n zs = 0 ∧ (D.writeS d n zs).down = false ∧ (D.writeS d n zs).B = D.upd d.B n.toNat zs ∧ (D.writeS d n zs).L = D.upd d.L n.toNat true) ∨ (D.writeE d n zs ≠ 0 ∧ (D.writeS d n zs).down = true ∧ (((D.writeS d n zs).B = D.upd d.B n.toNat zs ∧ (D.writeS d n zs).L = D.upd d.L n.toNat true) ∨ ((D.writeS d n zs).B = d.B ∧ (D.writeS d n zs).L = d.L))) := by
  have hr : D.reachE d n = 0 := by unfold D.reachE; rw [if_neg (by rw [hd]; decide), if_neg (by omega)]
  unfold D.writeE D.writeS
  rw [hr, if_neg (by decide), if_neg (by omega), if_neg (by omega)]
  unfold D.stepE D.stepS D.putS
  by_cases hf : d.fails = 0
  · rw [if_pos hf, if_pos hf]
    refine .inr ⟨by decide, rfl, ?_⟩
    cases d.done
    · exact .inr ⟨rfl, rfl⟩
    · exact .inl ⟨rfl, rfl⟩
  · rw [if_neg hf, if_neg hf]
    exact .inl ⟨rfl, hd, rfl, rfl⟩
theorem sync_does {d : D.DS} (hd : d.down = false) :
    (D.syncE d = 0 ∧ (D.syncS d).down = false ∧ (D.syncS d).B = d.B ∧ (D.syncS d).S = d.B ∧ (D.syncS d).L = fun _ => false) ∨ (D.syncE d ≠ 0 ∧ (D.syncS d).down = true ∧ (D.syncS d).B = d.B ∧ (((D.syncS d).S = d.B ∧ (D.syncS d).L = fun _ => false) ∨ ((D.syncS d).S = d.S ∧ (D.syncS d).L = d.L))) := by
  unfold D.syncE D.syncS
  rw [hd, if_neg (by decide), if_neg (by decide)]
  unfold D.stepE D.stepS D.safeS
  by_cases hf : d.fails = 0
  · rw [if_pos hf, if_pos hf]
    refine .inr ⟨by decide, rfl, ?_⟩
    cases d.done
    · exact ⟨rfl, .inr ⟨rfl, rfl⟩⟩
    · exact ⟨rfl, .inl ⟨rfl, rfl⟩⟩
  · rw [if_neg hf, if_neg hf]
    exact .inl ⟨rfl, hd, rfl, rfl, rfl⟩
theorem syncS_ok' {d : D.DS} (h : d.Ok) : (D.syncS d).Ok := by
  unfold D.syncS; split
  · exact h
  · exact D.stepS_ok h (D.safeS_ok h) rfl
theorem Safe.write {t : SS} {d : D.DS} {im : List Int} (h : Safe t d im) {n : Int} {zs : List Int} (hz : AllB zs) (hn : B.hasB t.us n.toNat = false) : Safe t (D.writeS d n zs) im := by
  obtain ⟨h1, h2, h3⟩ := write_parts d n zs
  refine h.off (D.writeS_ok h.ok n hz) h3 h1 (fun m hm => (h2 m ?_).1)
  rintro rfl
  rw [hn] at hm; cases hm
theorem Safe.synced {t : SS} {d d' : D.DS} {im : List Int} (h : Safe t d im) (ok : d'.Ok) (hr : d'.room = d.room) (hs : d'.S = d.B) (hl : d'.L = fun _ => false) : Safe t d' im := by
  have hx : ((t.ep + 1).tmod 2).toNat = 0 ∨ ((t.ep + 1).tmod 2).toNat = 1 := by have := tmod2 h.last.e0; omega
  have hb : B.hasB t.us ((t.ep + 1).tmod 2).toNat = true := by
    rcases hx with e | e <;> rw [e]
    · exact h.last.has.1
    · exact h.last.has.2.1
  refine ⟨ok, hr.trans h.room, h.last.congr (fun n hn _ => ?_) ?_, fun n _ => by rw [hl]⟩
  · rw [hs]; exact (h.same n hn).symm
  · rw [hs, ← h.same _ hb]; exact h.last.eld
theorem Safe.sync {t : SS} {d : D.DS} {im : List Int} (h : Safe t d im) (hd : d.down = false) : Safe t (D.syncS d) im := by
  have ok := syncS_ok' h.ok
  have hr := syncS_room d
  rcases sync_does hd with ⟨_, _, _, h1, h2⟩ | ⟨_, _, _, ⟨h1, h2⟩ | ⟨h1, h2⟩⟩
  · exact h.synced ok hr h1 h2
  · exact h.synced ok hr h1 h2
  · exact h.off ok hr h1 (fun n _ => by rw [h2])
theorem crash_other : ∀ (ns : List Nat) (f : List Int) (B S : Nat → List Int) (m : Nat), m ∉ ns → D.crashB ns f B S m = B m
  | [], _, _, _, _, _ => rfl
  | n :: ns, f, B, S, m, h => by
    unfold D.crashB
    rw [crash_other ns _ _ S m (fun hm => h (List.mem_cons_of_mem _ hm)), D.upd_other _ _ (fun e => h (by rw [e]; simp))]
theorem crash_mix : ∀ (ns : List Nat) (f : List Int) (B S : Nat → List Int) (m : Nat), AllB f → ns.Nodup → ∃ k, k ≤ 256 ∧ (m ∈ ns → D.crashB ns f B S m = D.mix (B m) (S m) k)
  | [], _, _, _, _, _, _ => ⟨0, by decide, fun h => by cases h⟩
  | n :: ns, f, B, S, m, hf, hn => by
    have hs := D.stay_le hf
    have hn' := List.nodup_cons.1 hn
    by_cases e : m = n
    · subst e
      refine ⟨_, hs.1, fun _ => ?_⟩
      unfold D.crashB
      rw [crash_other ns _ _ S m hn'.1, D.upd_same]
    · obtain ⟨k, hk, h⟩ := crash_mix ns (D.stay f).2 (D.upd B n (D.mix (B n) (S n) (D.stay f).1)) S m hs.2 hn'.2
      refine ⟨k, hk, fun hm => ?_⟩
      unfold D.crashB
      rw [h ((List.mem_cons.1 hm).resolve_left e), D.upd_other _ _ e]
theorem crash_hard {d : D.DS} {f : List Int} {n : Nat} (h : d.L n = false) : (D.crashS d f).S n = d.B n ∧ (D.crashS d f).B n = d.B n := by
  have : D.crashB (D.loose d) f d.B d.S n = d.B n := crash_other _ _ _ _ _ (fun hm => by
    have := (List.mem_filter.1 hm).2
    rw [h] at this; cases this)
  exact ⟨this, this⟩
theorem crash_torn {d : D.DS} {f : List Int} (hf : AllB f) {n : Nat} (hn : n < d.room) (h : d.L n = true) : ∃ k, k ≤ 256 ∧ (D.crashS d f).S n = D.mix (d.B n) (d.S n) k := by
  obtain ⟨k, hk, e⟩ := crash_mix (D.loose d) f d.B d.S n hf (List.Pairwise.filter _ List.nodup_range)
  exact ⟨k, hk, e (List.mem_filter.2 ⟨List.mem_range.2 hn, h⟩)⟩
theorem Safe.crash {t : SS} {d : D.DS} {im : List Int} (h : Safe t d im) {f : List Int} (hf : AllB f) : Safe t (D.crashS d f) im := by
  have hx : ((t.ep + 1).tmod 2).toNat = 0 ∨ ((t.ep + 1).tmod 2).toNat = 1 := by have := tmod2 h.last.e0; omega
  have hb : B.hasB t.us ((t.ep + 1).tmod 2).toNat = true := by
    rcases hx with e | e <;> rw [e]
    · exact h.last.has.1
    · exact h.last.has.2.1
  refine ⟨D.crashS_ok h.ok hf, h.room, h.last.congr (fun n hn _ => ?_) ?_, fun n _ => rfl⟩
  · rw [(crash_hard (h.hard n hn)).1]; exact (h.same n hn).symm
  · rw [(crash_hard (h.hard _ hb)).1, ← h.same _ hb]; exact h.last.eld
def SS.shut (t : SS) : SS := (blankS t.bl).hold t.ep t.l.st t.l.tb t.us
theorem words_fit {bl : Nat} {tb : List Int} (h : TbOk bl tb) (hb : bl ≤ 4096) : ∀ z ∈ tb, 0 ≤ z ∧ z ≤ 65535 := fun z hz => by
  rcases h.ins z hz with e | e <;> omega
theorem npages_le {n m : Nat} (h : n ≤ m) : nPages n ≤ nPages m := by unfold nPages; omega
theorem Safe.choose {t : SS} {d : D.DS} {im : List Int} (h : Safe t d im) {T M : List Int} (hr : (rootT t T M).Ok) (h1 : d.S (t.ep.tmod 2).toNat = R.putS (rootT t T M)) : (R.chS (d.B 0) (d.B 1) 2).e = 0 ∧ (R.chS (d.B 0) (d.B 1) 2).r = rootT t T M := by
  have e0 := h.same 0 h.last.has.1
  have e1 := h.same 1 h.last.has.2.1
  have hel := h.last.eld
  rcases tmod2 h.last.e0 with ⟨p, q⟩ | ⟨p, q⟩
  · rw [p] at h1
    rw [q] at hel
    exact choose_even hr p (by rw [← e0]; exact h1) (fun hg => by rw [← e1] at hg ⊢; exact elder_get hel hg)
  · rw [p] at h1
    rw [q] at hel
    exact choose_odd hr p (by rw [← e1]; exact h1) (fun hg => by rw [← e0] at hg ⊢; exact elder_get hel hg)
theorem Safe.open {t : SS} {d : D.DS} {im : List Int} (h : Safe t d im) (hd : d.down = false) : ∃ d', openR d = (0, t.shut, d') ∧ Rdd d d' := by
  obtain ⟨T, M, hr, h1, h2, h3, ho⟩ := h.last.ex
  obtain ⟨g1, g2, g3⟩ := once_facts h.last.b2 h.last.b4 h.last.tbo hr ho
  have hb2 := h.last.b2
  have hb4 := h.last.b4
  have hroom := h.room
  have hreach : ∀ z : Int, 0 ≤ z → z < t.bl → D.reachE d z = 0 := fun z h0 h1 => by
    unfold D.reachE; rw [if_neg (by rw [hd]; decide), if_neg (by omega)]
  have hus : ∀ z ∈ t.l.tb ++ T ++ M, z ≠ 0 → B.hasB t.us z.toNat = true := fun z hz h0 => by
    have := (g1 z hz).resolve_left h0
    rw [g3, decide_eq_true (p := z.toNat ≠ 0 ∧ _) ⟨by omega, by rw [Int.toNat_of_nonneg (by omega)]; exact hz⟩]
    simp
  obtain ⟨c1, c2⟩ := h.choose hr h1
  have r0 := hreach 0 (by omega) (by omega)
  have r1 := hreach 1 (by omega) (by omega)
  have hd0 := rdd_read d 0
  have hd1 : Rdd d (D.readS (D.readS d 0) 1) := hd0.trans (rdd_read _ 1)
  have b0 : D.readB d 0 = d.B 0 := by unfold D.readB; rw [if_neg (by rw [r0]; decide)]; rfl
  have b1 : D.readB (D.readS d 0) 1 = d.B 1 := by rw [hd0.rb]; unfold D.readB; rw [if_neg (by rw [r1]; decide)]; rfl
  have hrr : rrR d.room d = (0, rootT t T M, D.readS (D.readS d 0) 1) := by
    unfold rrR
    rw [b0, b1, c1, c2, if_neg (by rw [r0]; decide), if_neg (by rw [hd0.reach, r1]; decide), if_neg (by decide), if_neg (by rw [hroom]; intro hne; exact hne rfl)]
  have hT0 : ∀ b ∈ T, b ≠ 0 := fun b hb => by have := hr.tb b hb; omega
  have hM0 : ∀ b ∈ M, b ≠ 0 := fun b hb => by have := hr.mb b hb; omega
  have len1 : (splitS (wordsS t.l.tb) 246).length ≤ 3000 := by
    rw [split_count, wordsS_len]
    have := npages_le (n := 2 * t.l.tb.length) (m := 6000) (by have := h.last.tbo.len; omega)
    have e : nPages 6000 ≤ 3000 := by decide
    omega
  have len2 : (splitS t.us 246).length ≤ 3000 := by
    rw [split_count, onceR_len ho, show (rootsS t.bl).length = _ from rootsK_len t.bl 2]
    have := npages_le (n := B.makeN t.bl) (m := 600) (by unfold B.makeN; omega)
    have e : nPages 600 ≤ 3000 := by decide
    omega
  obtain ⟨da, ea, hda⟩ := rp_laid (kd := 1) (by decide) (by decide) (splitS (wordsS t.l.tb) 246) 0 T [] (D.readS (D.readS d 0) 1) (by
    obtain ⟨m, hm⟩ := hd1
    rw [hm]
    exact h2.congr (fun b hb => (h.same _ (hus b (by simp [hb]) (hT0 b hb))).symm)) (spl_short _) (by omega) (fun b hb => by rw [hd1.reach]; have := (g1 b (by simp [hb])).resolve_left (hT0 b hb); exact hreach b (by omega) (by omega))
  have hda' := hd1.trans hda
  obtain ⟨db, eb, hdb⟩ := rp_laid (kd := 2) (by decide) (by decide) (splitS t.us 246) 0 M [] da (by
    obtain ⟨m, hm⟩ := hda'
    rw [hm]
    exact h3.congr (fun b hb => (h.same _ (hus b (by simp [hb]) (hM0 b hb))).symm)) (spl_short _) (by omega) (fun b hb => by rw [hda'.reach]; have := (g1 b (by simp [hb])).resolve_left (hM0 b hb); exact hreach b (by omega) (by omega))
  rw [List.nil_append, spl_flat] at ea eb
  obtain ⟨u1, u2⟩ := un_words (words_fit h.last.tbo hb4)
  have htb : takeB d.room (rootT t T M) (wordsS t.l.tb) t.us = true := by
    unfold takeB
    rw [u1, u2, hroom]
    have q1 : ((t.l.tb.length : Nat) : Int) = (rootT t T M).N := rfl
    have q2 : someB t.l.tb (rootT t T M).N = true := by
      show someB t.l.tb ((t.l.tb.length : Nat) : Int) = true
      unfold someB
      rcases h.last.trm with e | e
      · rw [e]; rfl
      · rw [Bool.or_eq_true, decide_eq_true_eq]
        by_cases e0 : ((t.l.tb.length : Nat) : Int) = 0
        · exact .inl e0
        · right
          rw [show (((t.l.tb.length : Nat) : Int) - 1).toNat = t.l.tb.length - 1 by omega]
          simpa using e
    have q3 : someB t.l.tb (rootT t T M).S = true := by
      show someB t.l.tb t.l.st = true
      unfold someB
      rcases h.last.sto with e | e
      · rw [e]; rfl
      · rw [Bool.or_eq_true, decide_eq_true_eq]
        right
        have hs0 : ¬ (t.l.st < 1 ∨ (t.l.tb.length : Int) < t.l.st) := fun hc => e (by unfold blkI; rw [if_pos hc])
        unfold blkI at e
        rw [if_neg hs0] at e
        simpa using e
    have q4 : onceR t.bl (rootsS t.bl) ((rootT t T M).T ++ (rootT t T M).M ++ t.l.tb) = some t.us := by
      show onceR t.bl (rootsS t.bl) (T ++ M ++ t.l.tb) = some t.us
      refine once_perm (rootsK_all t.bl 2) ho (fun z hz => by rcases g1 z hz with e | e <;> omega) (fun z hz h0 => ((g1 z hz).resolve_left h0).1) (roots_len8 hb4) ?_
      rw [List.append_assoc]
      exact List.perm_append_comm
    rw [decide_eq_true q1, q2, q3, decide_eq_true q4]
    rfl
  refine ⟨db, ?_, hda'.trans hdb⟩
  unfold openR
  rw [hrr]
  simp only [show (rootT t T M).T = T from rfl, show (rootT t T M).M = M from rfl]
  rw [ea]
  simp only
  rw [eb]
  simp only [ne_eq, not_true_eq_false, if_false]
  unfold takeR
  rw [show (blankS d.room).bl = d.room from rfl, htb, if_pos rfl, u2, hroom]
  rfl
end Go.Proofs.YtelhlikeefpjnaaGreat
namespace Go.Proofs.YtelhlikeefpjnaaGreat
set_option maxRecDepth 20000
open Go.RowKit
set_option linter.unusedVariables false
structure Rest (s : SS) (d : D.DS) (im : List Int) : Prop where
  sf : Safe s d im
  inv : SInv s
  bad : s.bad = false
  dn : d.down = false
  cpg : Pgs d.B s.c.tb
  ctr : Trim s.c.tb
def Kept (d : D.DS) (im : List Int) : Prop := ∃ t, Safe t d im
theorem Rest.kept {s : SS} {d : D.DS} {im : List Int} (h : Rest s d im) : Kept d im := ⟨s, h.sf⟩
theorem Rest.rdd {s : SS} {d d' : D.DS} {im : List Int} (h : Rest s d im) (hd : Rdd d d') : Rest s d' im := by
  have := h.sf.rdd hd
  obtain ⟨n, rfl⟩ := hd
  exact ⟨this, h.inv, h.bad, h.dn, h.cpg, h.ctr⟩
theorem Rest.img {s : SS} {d : D.DS} {im : List Int} (h : Rest s d im) (hc : s.c = s.l) : imgS s.c.tb s.c.st d.B = im := by
  rw [hc, h.sf.last.img]
  exact img_congr _ (fun z hz h0 => (h.sf.same _ (h.sf.last.has.2.2.2 z hz h0)).symm)
theorem Rest.clean {s : SS} {d : D.DS} {im : List Int} (h : Rest s d im) (hc : s.c.dt = false) : imgS s.c.tb s.c.st d.B = im := h.img (h.inv.cln hc)
theorem Kept.crash {d : D.DS} {im : List Int} (h : Kept d im) {f : List Int} (hf : AllB f) : Kept (D.crashS d f) im := by
  obtain ⟨t, h⟩ := h
  exact ⟨t, h.crash hf⟩
theorem Kept.ok {d : D.DS} {im : List Int} (h : Kept d im) : d.Ok ∧ 2 ≤ d.room := by
  obtain ⟨t, h⟩ := h
  exact ⟨h.ok, by rw [h.room]; exact h.last.b2⟩
theorem Kept.open {d : D.DS} {im : List Int} (h : Kept d im) (hd : d.down = false) : (openR d).1 = 0 ∧ Rest (openR d).2.1 (openR d).2.2 im ∧ (openR d).2.1.c = (openR d).2.1.l ∧ Rdd d (openR d).2.2 := by
  obtain ⟨ok, h2⟩ := h.ok
  obtain ⟨t, h⟩ := h
  obtain ⟨d', e, hr⟩ := h.open hd
  have hk := (open_keep ok h2 (by rw [e])).1
  rw [e] at hk ⊢
  refine ⟨rfl, ⟨(h.of' (t' := t.shut) rfl rfl rfl rfl rfl).rdd hr, hk, rfl, by obtain ⟨n, rfl⟩ := hr; exact hd, ?_, h.last.trm⟩, rfl, hr⟩
  · obtain ⟨n, rfl⟩ := hr
    exact h.last.pgs.congr (fun z hz h0 => (h.same _ (h.last.has.2.2.2 z hz h0)).symm)
theorem Safe.note {t : SS} {d : D.DS} {im : List Int} (h : Safe t d im) (e : Int) : Safe (t.note e) d im := h.of rfl rfl rfl rfl
theorem hasB_toNat (n : Nat) : ((n : Nat) : Int).toNat = n := Int.toNat_natCast n
theorem place_rest {s : SS} {d : D.DS} {im : List Int} (h : Rest s d im) {id : Nat} {kd : Int} {zs : List Int} (h1 : 1 ≤ id) (he : sealE kd id zs.length = 0) (hz : AllB zs) :
    Kept (placeR s d id (sealS kd id zs)).2.2 im ∧ ((placeR s d id (sealS kd id zs)).2.2.down = false → Rest (placeR s d id (sealS kd id zs)).2.1 (placeR s d id (sealS kd id zs)).2.2 im) := by
  have hid := (sealE_zero he).2.2.2.1
  have hlen := (sealE_zero he).2.2.2.2
  have hkeep := place_keep h.inv d (id := id) (sealS kd id zs) h1 (by omega)
  unfold placeR at hkeep ⊢
  cases hf : freeL s with
  | nil => exact ⟨h.kept, fun _ => h⟩
  | cons n rest =>
    rw [hf] at hkeep
    simp only at hkeep ⊢
    have hm : n ∈ freeL s := by rw [hf]; simp
    have hfr := free_mem.1 hm
    have hge := free_ge h.inv.core hm
    have hl : (sealS kd id zs).length = 256 := seal_len hlen
    have hw := write_does (n := (n : Int)) h.dn (by omega) (by rw [h.sf.room]; omega) hl
    have hs := h.sf.write (n := (n : Int)) (zs := sealS kd id zs) (sealS_all hz) (by rw [hasB_toNat]; exact hfr.2.1)
    rcases hw with ⟨e0, e1, e2, e3⟩ | ⟨e0, e1, e2⟩
    · rw [if_neg (by rw [e0]; decide)] at hkeep ⊢
      refine ⟨⟨_, hs⟩, fun _ => ⟨hs.of rfl rfl rfl rfl, hkeep, h.bad, e1, ?_, give_trim _ _ _⟩⟩
      show Pgs (D.writeS d n (sealS kd id zs)).B (giveT s.c.tb id n)
      rw [e2, hasB_toNat]
      intro i hi
      rw [give_get _ _ _ _ h1] at hi ⊢
      by_cases ei : i = id - 1
      · rw [if_pos ei] at hi ⊢
        rw [hasB_toNat, D.upd_same]
        obtain ⟨o1, o2, o3, o4⟩ := op_seal he
        exact ⟨o1, by rw [o3]; congr 1; omega⟩
      · rw [if_neg ei] at hi ⊢
        have hz' := (get_mem hi).1
        have hne : (s.c.tb.getD i 0).toNat ≠ n := fun e => by
          have := h.inv.core.own _ hz' hi
          rw [e, hfr.2.1, hfr.2.2] at this
          cases this
        rw [D.upd_other _ _ hne]
        exact h.cpg i hi
    · rw [if_pos e0]
      exact ⟨⟨_, hs⟩, fun hd => by rw [e1] at hd; cases hd⟩
theorem alloc_rest {s : SS} {d : D.DS} {im : List Int} (h : Rest s d im) (kd : Int) {zs : List Int} (hz : AllB zs) : Kept (allocR s d kd zs).2 im ∧ ((allocR s d kd zs).2.down = false → Rest (allocR s d kd zs).1 (allocR s d kd zs).2 im) := by
  unfold allocR
  split
  · exact ⟨h.kept, fun _ => h⟩
  · rename_i hc
    have he : sealE kd (spareN s.c.tb : Nat) zs.length = 0 := Decidable.byContradiction fun e => hc (Or.inr (Or.inr e))
    exact place_rest h (by unfold spareN; omega) he hz
theorem write_rest {s : SS} {d : D.DS} {im : List Int} (h : Rest s d im) (id kd : Int) {zs : List Int} (hz : AllB zs) : Kept (wrR s d id kd zs).2.2 im ∧ ((wrR s d id kd zs).2.2.down = false → Rest (wrR s d id kd zs).2.1 (wrR s d id kd zs).2.2 im) := by
  have hkeep := write_keep h.inv d id kd zs
  unfold wrR at hkeep ⊢
  split
  · exact ⟨h.kept, fun _ => h⟩
  · rename_i hf
    rw [if_neg hf] at hkeep
    obtain ⟨h1, h2, h3, h4, h5⟩ := find_id (by simpa using hf)
    split
    · exact ⟨h.kept, fun _ => h⟩
    · rename_i hse
      rw [if_neg hse] at hkeep
      have he : sealE kd id zs.length = 0 := by simpa using hse
      have hlen := (sealE_zero he).2.2.2.2
      have hl : (sealS kd id zs).length = 256 := seal_len hlen
      split
      · rename_i hfr
        rw [if_pos hfr] at hkeep
        have hmem := (blk_mem (tb := s.c.tb) (id := id) h4).1
        have hr := (h.inv.core.ok.c.tb.ins _ hmem).resolve_left h4
        rw [h3] at hfr hkeep ⊢
        rw [hasI_nat' _ _ (by omega)] at hfr
        have hus := h.inv.core.frs _ hfr
        have hw := write_does (n := blkI s.c.tb id) h.dn (by omega) (by rw [h.sf.room]; omega) hl
        have hs := h.sf.write (n := blkI s.c.tb id) (zs := sealS kd id zs) (sealS_all hz) hus.1
        rcases hw with ⟨e0, e1, e2, e3⟩ | ⟨e0, e1, e2⟩
        · refine ⟨⟨_, hs⟩, fun _ => ⟨hs.note _, hkeep, ?_, e1, ?_, h.ctr⟩⟩
          · show (s.bad || _) = false
            rw [h.bad, e0]; rfl
          · show Pgs (D.writeS d _ (sealS kd id zs)).B s.c.tb
            rw [e2]
            obtain ⟨j, rfl⟩ : ∃ j : Nat, id = (j : Int) + 1 := ⟨(id - 1).toNat, by omega⟩
            rw [blk_get] at *
            intro i hi
            by_cases ei : s.c.tb.getD i 0 = s.c.tb.getD j 0
            · have : i = j := h.inv.core.inj i j hi ei
              subst this
              rw [D.upd_same]
              obtain ⟨o1, o2, o3, o4⟩ := op_seal he
              exact ⟨o1, by rw [o3]; omega⟩
            · have hri := (h.inv.core.ok.c.tb.ins _ (get_mem hi).1).resolve_left hi
              rw [D.upd_other _ _ (by omega)]
              exact h.cpg i hi
        · exact ⟨⟨_, hs⟩, fun hd => by rw [e1] at hd; cases hd⟩
      · have e : ((id.toNat : Nat) : Int) = id := Int.toNat_of_nonneg (by omega)
        have := place_rest (id := id.toNat) (kd := kd) (zs := zs) h (by omega) (by rw [e]; exact he) hz
        rw [e] at this
        exact this
theorem free_rest {s : SS} {d : D.DS} {im : List Int} (h : Rest s d im) (id : Int) : Rest (frR s d id).2.1 (frR s d id).2.2 im := by
  have hkeep := free_keep h.inv d id
  unfold frR at hkeep ⊢
  split
  · exact h
  · rename_i hf
    rw [if_neg hf] at hkeep
    obtain ⟨h1, h2, h3, h4, h5⟩ := find_id (by simpa using hf)
    split
    · exact h
    · rename_i hst
      rw [if_neg hst] at hkeep
      refine ⟨h.sf.of rfl rfl rfl rfl, hkeep, h.bad, h.dn, ?_, give_trim _ _ _⟩
      show Pgs d.B (giveT s.c.tb id.toNat 0)
      intro i hi
      rw [give_get _ _ _ _ (by omega)] at hi ⊢
      by_cases ei : i = id.toNat - 1
      · rw [if_pos ei] at hi; exact absurd rfl hi
      · rw [if_neg ei] at hi ⊢; exact h.cpg i hi
theorem start_rest {s : SS} {d : D.DS} {im : List Int} (h : Rest s d im) (id : Int) : Rest (stR s d id).2.1 (stR s d id).2.2 im := by
  have hkeep := start_keep h.inv d id
  unfold stR at hkeep ⊢
  split
  · exact h
  · rename_i q1
    rw [if_neg q1] at hkeep
    split
    · exact h
    · rename_i q2
      rw [if_neg q2] at hkeep
      split
      · exact h
      · rename_i q3
        rw [if_neg q3] at hkeep
        exact ⟨h.sf.of rfl rfl rfl rfl, hkeep, h.bad, h.dn, h.cpg, h.ctr⟩
theorem abort_rest {s : SS} {d : D.DS} {im : List Int} (h : Rest s d im) : abR s d = (0, { s with c := s.l }, d) ∧ Rest { s with c := s.l } d im := by
  have hkeep := abort_keep h.inv d
  have e : abR s d = (0, { s with c := s.l }, d) := by unfold abR; rw [h.bad]; rfl
  rw [e] at hkeep
  exact ⟨e, h.sf.of rfl rfl rfl rfl, hkeep, h.bad, h.dn, h.sf.last.pgs.congr (fun z hz h0 => (h.sf.same _ (h.sf.last.has.2.2.2 z hz h0)).symm), h.sf.last.trm⟩
theorem fail_rest {s : SS} {d : D.DS} {im : List Int} (h : Rest s d im) (n : Int) (hn : n ≤ 9223372036854775807) (dn : Bool) : Rest s (D.failS d n dn) im := by
  unfold D.failS
  split
  · exact h
  · rename_i hc
    have hn0 : 0 ≤ n := by
      rcases Int.lt_or_le n 0 with q | q
      · exact absurd (Or.inr q) hc
      · exact q
    exact ⟨⟨⟨h.sf.ok.room, h.sf.ok.isB, h.sf.ok.isS, h.sf.ok.same, by show -1 ≤ n; omega, by show n ≤ _; omega⟩, h.sf.room, h.sf.last, h.sf.hard⟩, h.inv, h.bad, h.dn, h.cpg, h.ctr⟩
end Go.Proofs.YtelhlikeefpjnaaGreat
namespace Go.Proofs.YtelhlikeefpjnaaGreat
set_option maxRecDepth 20000
open Go.RowKit
set_option linter.unusedVariables false
theorem wp_run (kd : Int) : ∀ (ps : List (List Int)) (i : Nat) (bs : List Int) (d : D.DS), d.Ok → d.down = false → bs.length = ps.length → (∀ p ∈ ps, p.length ≤ 246 ∧ AllB p) → bs.Nodup → (∀ b ∈ bs, 0 ≤ b ∧ b < d.room) →
    (wpR kd i ps bs d).2.Ok ∧ (wpR kd i ps bs d).2.room = d.room ∧ (wpR kd i ps bs d).2.S = d.S ∧ (∀ m : Nat, (m : Int) ∉ bs → (wpR kd i ps bs d).2.B m = d.B m ∧ (wpR kd i ps bs d).2.L m = d.L m) ∧ (((wpR kd i ps bs d).1 = 0 ∧ (wpR kd i ps bs d).2.down = false ∧ Laid kd (wpR kd i ps bs d).2.B i ps bs) ∨ ((wpR kd i ps bs d).1 ≠ 0 ∧ (wpR kd i ps bs d).2.down = true))
  | [], i, bs, d, ok, hd, hl, hp, hn, hb => by
    obtain rfl : bs = [] := List.eq_nil_of_length_eq_zero hl
    unfold wpR
    exact ⟨ok, rfl, rfl, fun m _ => ⟨rfl, rfl⟩, .inl ⟨rfl, hd, rfl⟩⟩
  | p :: ps, i, [], d, ok, hd, hl, hp, hn, hb => by simp at hl
  | p :: ps, i, b :: bs, d, ok, hd, hl, hp, hn, hb => by
    have hb0 := hb b (by simp)
    have hp0 := hp p (by simp)
    have hn' := List.nodup_cons.1 hn
    have hlen : (sealS kd i p).length = 256 := seal_len hp0.1
    have hok := D.writeS_ok ok b (sealS_all (k := kd) (id := i) hp0.2)
    obtain ⟨w1, w2, w3⟩ := write_parts d b (sealS kd i p)
    unfold wpR
    rcases write_does hd hb0.1 hb0.2 hlen with ⟨e0, e1, e2, e3⟩ | ⟨e0, e1, e2⟩
    · rw [if_neg (by rw [e0]; decide)]
      obtain ⟨i1, i2, i3, i4, i5⟩ := wp_run kd ps (i + 1) bs (D.writeS d b (sealS kd i p)) hok e1 (by simpa using hl) (fun q hq => hp q (by simp [hq])) hn'.2 (fun q hq => by rw [w3]; exact hb q (by simp [hq]))
      refine ⟨i1, i2.trans w3, i3.trans w1, fun m hm => ?_, ?_⟩
      · have hmb : m ≠ b.toNat := fun e => hm (by rw [e, Int.toNat_of_nonneg hb0.1]; simp)
        obtain ⟨a1, a2⟩ := i4 m (fun h => hm (by simp [h]))
        exact ⟨a1.trans (w2 m hmb).2, a2.trans (w2 m hmb).1⟩
      · rcases i5 with ⟨f1, f2, f3⟩ | f
        · refine .inl ⟨f1, f2, b, bs, rfl, hb0.1, ?_, f3⟩
          rw [(i4 b.toNat (by rw [Int.toNat_of_nonneg hb0.1]; exact hn'.1)).1, e2, D.upd_same]
        · exact .inr f
    · rw [if_pos e0]
      refine ⟨hok, w3, w1, fun m hm => ?_, .inr ⟨e0, e1⟩⟩
      have hmb : m ≠ b.toNat := fun e => hm (by rw [e, Int.toNat_of_nonneg hb0.1]; simp)
      exact ⟨(w2 m hmb).2, (w2 m hmb).1⟩
theorem laid_lasts {s : SS} (h : SCore s) (hb : 2 ≤ s.bl) {ep : Int} (e0 : 0 ≤ ep) (hk : R.checkE (rootD s ep) = 0) (htr : Trim s.c.tb) {S : Nat → List Int} (h1 : S (ep.tmod 2).toNat = R.putS (rootD s ep)) (h2 : Laid 1 S 0 (splitS (wordsS s.c.tb) 246) (tabL s)) (h3 : Laid 2 S 0 (splitS (us2S s) 246) (mapL s)) (he : Elder (S ((ep + 1).tmod 2).toNat) ep) (hp : Pgs S s.c.tb) : Lasts (s.hold ep s.c.st s.c.tb (us2S s)) S (imgS s.c.tb s.c.st S) := by
  obtain ⟨o1, o2⟩ := us2_once h
  exact ⟨hb, h.ok.bl, e0, h.ok.c.tb, h.ok.c.st, onceR_all o1 (rootsK_all s.bl 2), ⟨tabL s, mapL s, R.ok_checkE hk, h1, h2, h3, o1⟩, he, hp, htr, rfl⟩
theorem tm_facts {s : SS} (h : SCore s) (hf : ¬ (freeL s).length < cntN s) : (tabL s).length = (splitS (wordsS s.c.tb) 246).length ∧ (mapL s).length = (splitS (us2S s) 246).length ∧ (tabL s ++ mapL s).Nodup ∧ ∀ z ∈ tabL s ++ mapL s, 2 ≤ z ∧ z < s.bl ∧ B.hasB s.us z.toNat = false ∧ B.hasB s.c.fr z.toNat = false := by
  obtain ⟨o1, o2⟩ := us2_once h
  have hc : cntN s = tcN s + nPages s.us.length := rfl
  refine ⟨?_, ?_, ?_, fun z hz => ?_⟩
  · rw [split_count, wordsS_len]
    unfold tabL ints
    rw [List.length_map, List.length_take]
    show min (tcN s) _ = tcN s
    omega
  · rw [split_count, onceR_len o1, show (rootsS s.bl).length = _ from rootsK_len s.bl 2, ← h.ok.usl]
    unfold mapL ints
    rw [List.length_map, List.length_drop, List.length_take]
    omega
  · rw [tabmap]
    unfold ints List.Nodup
    rw [List.pairwise_map]
    exact ((free_nodup s).sublist (List.take_sublist _ _)).imp (fun hab e => hab (Int.ofNat.inj e))
  · have hz' : 0 ≤ z ∧ z.toNat ∈ freeL s := by
      rcases List.mem_append.1 hz with h1 | h1
      · exact tab_mem h1
      · exact map_mem h1
    have h2 := free_ge h hz'.2
    have h3 := free_mem.1 hz'.2
    exact ⟨by omega, by omega, h3.2.1, h3.2.2⟩
inductive Ends (s : SS) (d : D.DS) (ep : Int) (r : Int × D.DS) : Prop where
  | done (he : r.1 = 0) (hd : r.2.down = false) (hs : r.2.S = r.2.B) (hl : r.2.L = fun _ => false) (hx : r.2.B (ep.tmod 2).toNat = R.putS (rootD s ep)) (h1 : Laid 1 r.2.B 0 (splitS (wordsS s.c.tb) 246) (tabL s)) (h2 : Laid 2 r.2.B 0 (splitS (us2S s) 246) (mapL s)) (hb : ∀ m : Nat, (m : Int) ∉ tabL s ++ mapL s → m ≠ (ep.tmod 2).toNat → r.2.B m = d.B m)
  | early (he : r.1 ≠ 0) (hd : r.2.down = true) (hs : r.2.S = d.S) (hl : ∀ m : Nat, (m : Int) ∉ tabL s ++ mapL s → r.2.L m = d.L m)
  | sync (he : r.1 ≠ 0) (hd : r.2.down = true) (hs : r.2.S = r.2.B) (hl : r.2.L = fun _ => false) (hb : ∀ m : Nat, (m : Int) ∉ tabL s ++ mapL s → r.2.B m = d.B m)
  | torn (he : r.1 ≠ 0) (hd : r.2.down = true) (hs : ∀ m, m ≠ (ep.tmod 2).toNat → r.2.S m = r.2.B m ∧ r.2.L m = false) (hsx : r.2.S (ep.tmod 2).toNat = d.B (ep.tmod 2).toNat) (hlx : r.2.L (ep.tmod 2).toNat = true) (hx : r.2.B (ep.tmod 2).toNat = R.putS (rootD s ep)) (h1 : Laid 1 r.2.B 0 (splitS (wordsS s.c.tb) 246) (tabL s)) (h2 : Laid 2 r.2.B 0 (splitS (us2S s) 246) (mapL s)) (hb : ∀ m : Nat, (m : Int) ∉ tabL s ++ mapL s → m ≠ (ep.tmod 2).toNat → r.2.B m = d.B m)
  | late (he : r.1 ≠ 0) (hd : r.2.down = true) (hs : r.2.S = r.2.B) (hl : r.2.L = fun _ => false) (hx : r.2.B (ep.tmod 2).toNat = R.putS (rootD s ep)) (h1 : Laid 1 r.2.B 0 (splitS (wordsS s.c.tb) 246) (tabL s)) (h2 : Laid 2 r.2.B 0 (splitS (us2S s) 246) (mapL s)) (hb : ∀ m : Nat, (m : Int) ∉ tabL s ++ mapL s → m ≠ (ep.tmod 2).toNat → r.2.B m = d.B m)
theorem settle_ends {s : SS} (h : SCore s) (hb : 2 ≤ s.bl) {d : D.DS} (ok : d.Ok) (hd : d.down = false) (hr : d.room = s.bl) {ep : Int} (e0 : 0 ≤ ep) (hf : ¬ (freeL s).length < cntN s) (hk : R.checkE (rootD s ep) = 0) :
    Ends s d ep (tlR (stepF s ep (us2S s)) 5 0 d) ∧ (tlR (stepF s ep (us2S s)) 5 0 d).2.Ok ∧ (tlR (stepF s ep (us2S s)) 5 0 d).2.room = s.bl := by
  obtain ⟨l1, l2, nd, hin⟩ := tm_facts h hf
  obtain ⟨o1, o2⟩ := us2_once h
  have usa : AllB (us2S s) := onceR_all o1 (rootsK_all s.bl 2)
  have nd' := List.nodup_append.1 nd
  have hrok := R.ok_checkE hk
  have hx01 : (ep.tmod 2).toNat < 2 ∧ (((ep.tmod 2).toNat : Nat) : Int) = ep.tmod 2 := by have := tmod2 e0; omega
  have hxn : (((ep.tmod 2).toNat : Nat) : Int) ∉ tabL s ++ mapL s := fun hm => by have := hin _ hm; omega
  have hroom := tl_room (stepF_room s ep (us2S s)) 5 0 d
  -- step 0
  obtain ⟨a1, a2, a3, a4, a5⟩ := wp_run 1 (splitS (wordsS s.c.tb) 246) 0 (tabL s) d ok hd l1 (fun p hp => ⟨spl_short _ p hp, spl_all (wordsS_all _) p hp⟩) nd'.1 (fun b hb' => by rw [hr]; have := hin b (by simp [hb']); omega)
  have s0 : stepF s ep (us2S s) 0 d = wpR 1 0 (splitS (wordsS s.c.tb) 246) (tabL s) d := rfl
  have T5 : tlR (stepF s ep (us2S s)) 5 0 d = if (stepF s ep (us2S s) 0 d).1 ≠ 0 then stepF s ep (us2S s) 0 d else tlR (stepF s ep (us2S s)) 4 1 (stepF s ep (us2S s) 0 d).2 := rfl
  rw [T5, s0]
  generalize wpR 1 0 (splitS (wordsS s.c.tb) 246) (tabL s) d = r1 at *
  obtain ⟨c1, d1⟩ := r1
  simp only at a1 a2 a3 a4 a5 ⊢
  rcases a5 with ⟨f1, f2, f3⟩ | ⟨f1, f2⟩
  rotate_left
  · rw [if_pos f1]
    exact ⟨.early f1 f2 a3 (fun m hm => (a4 m (fun q => hm (by simp [q]))).2), a1, a2.trans hr⟩
  rw [if_neg (by rw [f1]; decide)]
  -- step 1
  obtain ⟨b1, b2, b3, b4, b5⟩ := wp_run 2 (splitS (us2S s) 246) 0 (mapL s) d1 a1 f2 l2 (fun p hp => ⟨spl_short _ p hp, spl_all usa p hp⟩) nd'.2.1 (fun b hb' => by rw [a2, hr]; have := hin b (by simp [hb']); omega)
  have s1 : stepF s ep (us2S s) 1 d1 = wpR 2 0 (splitS (us2S s) 246) (mapL s) d1 := rfl
  have T4 : tlR (stepF s ep (us2S s)) 4 1 d1 = if (stepF s ep (us2S s) 1 d1).1 ≠ 0 then stepF s ep (us2S s) 1 d1 else tlR (stepF s ep (us2S s)) 3 2 (stepF s ep (us2S s) 1 d1).2 := rfl
  rw [T4, s1]
  generalize wpR 2 0 (splitS (us2S s) 246) (mapL s) d1 = r2 at *
  obtain ⟨c2, d2⟩ := r2
  simp only at b1 b2 b3 b4 b5 ⊢
  have hS2 : d2.S = d.S := b3.trans a3
  have hB2 : ∀ m : Nat, (m : Int) ∉ tabL s ++ mapL s → d2.B m = d.B m ∧ d2.L m = d.L m := fun m hm => by
    obtain ⟨p1, p2⟩ := b4 m (fun q => hm (by simp [q]))
    obtain ⟨p3, p4⟩ := a4 m (fun q => hm (by simp [q]))
    exact ⟨p1.trans p3, p2.trans p4⟩
  rcases b5 with ⟨g1, g2, g3⟩ | ⟨g1, g2⟩
  rotate_left
  · rw [if_pos g1]
    exact ⟨.early g1 g2 hS2 (fun m hm => (hB2 m hm).2), b1, b2.trans (a2.trans hr)⟩
  rw [if_neg (by rw [g1]; decide)]
  have hL1 : Laid 1 d2.B 0 (splitS (wordsS s.c.tb) 246) (tabL s) := f3.congr (fun b hb' => by
    have h0 := hin b (by simp [hb'])
    refine (b4 b.toNat ?_).1
    rw [Int.toNat_of_nonneg (by omega)]
    exact fun hm => nd'.2.2 b hb' b hm rfl)
  have hr2 : d2.room = s.bl := b2.trans (a2.trans hr)
  -- step 2
  have s2 : stepF s ep (us2S s) 2 d2 = (D.syncE d2, D.syncS d2) := rfl
  have T3 : tlR (stepF s ep (us2S s)) 3 2 d2 = if (stepF s ep (us2S s) 2 d2).1 ≠ 0 then stepF s ep (us2S s) 2 d2 else tlR (stepF s ep (us2S s)) 2 3 (stepF s ep (us2S s) 2 d2).2 := rfl
  rw [T3, s2]
  have ok3 := syncS_ok' b1
  have hr3 := (syncS_room d2).trans hr2
  have q3 := sync_does g2
  generalize D.syncS d2 = d3 at *
  generalize D.syncE d2 = c3 at *
  simp only
  rcases q3 with ⟨j1, j2, j3, j4, j5⟩ | ⟨j1, j2, j3, j4⟩
  rotate_left
  · rw [if_pos j1]
    refine ⟨?_, ok3, hr3⟩
    rcases j4 with ⟨j4, j5⟩ | ⟨j4, j5⟩
    · exact .sync j1 j2 (j4.trans j3.symm) j5 (fun m hm => by rw [j3]; exact (hB2 m hm).1)
    · exact .early j1 j2 (j4.trans hS2) (fun m hm => by rw [j5]; exact (hB2 m hm).2)
  rw [if_neg (by rw [j1]; decide)]
  -- step 3
  have s3 : stepF s ep (us2S s) 3 d3 = (D.writeE d3 (ep.tmod 2) (R.putS (rootD s ep)), D.writeS d3 (ep.tmod 2) (R.putS (rootD s ep))) := rfl
  have T2 : tlR (stepF s ep (us2S s)) 2 3 d3 = if (stepF s ep (us2S s) 3 d3).1 ≠ 0 then stepF s ep (us2S s) 3 d3 else tlR (stepF s ep (us2S s)) 1 4 (stepF s ep (us2S s) 3 d3).2 := rfl
  rw [T2, s3]
  have ok4 := D.writeS_ok ok3 (ep.tmod 2) (R.put_all (rootD s ep))
  have q4 := write_does (n := ep.tmod 2) (zs := R.putS (rootD s ep)) j2 (by omega) (by rw [hr3]; omega) (R.put_len hrok)
  obtain ⟨p1, p2, p3⟩ := write_parts d3 (ep.tmod 2) (R.putS (rootD s ep))
  generalize D.writeS d3 (ep.tmod 2) (R.putS (rootD s ep)) = d4 at *
  generalize D.writeE d3 (ep.tmod 2) (R.putS (rootD s ep)) = c4 at *
  simp only
  have hr4 := p3.trans hr3
  have keep4 : ∀ m, m ≠ (ep.tmod 2).toNat → d4.B m = d2.B m := fun m hm => by rw [(p2 m hm).2, j3]
  have L41 : Laid 1 d4.B 0 (splitS (wordsS s.c.tb) 246) (tabL s) := hL1.congr (fun b hb' => keep4 _ (by have := hin b (by simp [hb']); omega))
  have L42 : Laid 2 d4.B 0 (splitS (us2S s) 246) (mapL s) := g3.congr (fun b hb' => keep4 _ (by have := hin b (by simp [hb']); omega))
  have B4 : ∀ m : Nat, (m : Int) ∉ tabL s ++ mapL s → m ≠ (ep.tmod 2).toNat → d4.B m = d.B m := fun m hm hx => (keep4 m hx).trans (hB2 m hm).1
  have S4 : ∀ m, m ≠ (ep.tmod 2).toNat → d4.S m = d4.B m ∧ d4.L m = false := fun m hm => by
    rw [p1, j4, keep4 m hm, (p2 m hm).1, j5]
    exact ⟨rfl, rfl⟩
  have S4x : d4.S (ep.tmod 2).toNat = d.B (ep.tmod 2).toNat := by rw [p1, j4]; exact (hB2 _ hxn).1
  have torn4 : ∀ c : Int, c ≠ 0 → d4.down = true → d4.B = D.upd d3.B (ep.tmod 2).toNat (R.putS (rootD s ep)) → d4.L = D.upd d3.L (ep.tmod 2).toNat true → Ends s d ep (c, d4) := fun c hc hdn hB hL => .torn hc hdn S4 S4x (by show d4.L _ = _; rw [hL, D.upd_same]) (by show d4.B _ = _; rw [hB, D.upd_same]) L41 L42 B4
  rcases q4 with ⟨k1, k2, k3, k4⟩ | ⟨k1, k2, k3⟩
  rotate_left
  · rw [if_pos k1]
    refine ⟨?_, ok4, hr4⟩
    rcases k3 with ⟨k3, k4⟩ | ⟨k3, k4⟩
    · exact torn4 c4 k1 k2 k3 k4
    · refine .sync k1 k2 (by show d4.S = d4.B; rw [p1, j4, k3, j3]) (by show d4.L = _; rw [k4, j5]) (fun m hm => by show d4.B m = _; rw [k3, j3]; exact (hB2 m hm).1)
  rw [if_neg (by rw [k1]; decide)]
  have B4x : d4.B (ep.tmod 2).toNat = R.putS (rootD s ep) := by rw [k3, D.upd_same]
  have L4x : d4.L (ep.tmod 2).toNat = true := by rw [k4, D.upd_same]
  -- step 4
  have s4 : stepF s ep (us2S s) 4 d4 = (D.syncE d4, D.syncS d4) := rfl
  have T1 : tlR (stepF s ep (us2S s)) 1 4 d4 = if (stepF s ep (us2S s) 4 d4).1 ≠ 0 then stepF s ep (us2S s) 4 d4 else (0, (stepF s ep (us2S s) 4 d4).2) := rfl
  rw [T1, s4]
  have ok5 := syncS_ok' ok4
  have hr5 := (syncS_room d4).trans hr4
  have q5 := sync_does k2
  generalize D.syncS d4 = d5 at *
  generalize D.syncE d4 = c5 at *
  simp only
  rcases q5 with ⟨m1, m2, m3, m4, m5⟩ | ⟨m1, m2, m3, m4⟩
  · rw [if_neg (by rw [m1]; decide)]
    exact ⟨.done rfl m2 (m4.trans m3.symm) m5 (by show d5.B _ = _; rw [m3]; exact B4x) (by show Laid 1 d5.B _ _ _; rw [m3]; exact L41) (by show Laid 2 d5.B _ _ _; rw [m3]; exact L42) (by show ∀ m : Nat, _ → _ → d5.B m = _; rw [m3]; exact B4), ok5, hr5⟩
  · rw [if_pos m1]
    refine ⟨?_, ok5, hr5⟩
    rcases m4 with ⟨m4, m5⟩ | ⟨m4, m5⟩
    · exact .late m1 m2 (m4.trans m3.symm) m5 (by show d5.B _ = _; rw [m3]; exact B4x) (by show Laid 1 d5.B _ _ _; rw [m3]; exact L41) (by show Laid 2 d5.B _ _ _; rw [m3]; exact L42) (by show ∀ m : Nat, _ → _ → d5.B m = _; rw [m3]; exact B4)
    · exact .torn m1 m2 (by show ∀ m, _ → d5.S m = d5.B m ∧ d5.L m = false; rw [m4, m3, m5]; exact S4) (by show d5.S _ = _; rw [m4]; exact S4x) (by show d5.L _ = _; rw [m5]; exact L4x) (by show d5.B _ = _; rw [m3]; exact B4x) (by show Laid 1 d5.B _ _ _; rw [m3]; exact L41) (by show Laid 2 d5.B _ _ _; rw [m3]; exact L42) (by show ∀ m : Nat, _ → _ → d5.B m = _; rw [m3]; exact B4)
end Go.Proofs.YtelhlikeefpjnaaGreat
namespace Go.Proofs.YtelhlikeefpjnaaGreat
set_option maxRecDepth 20000
open Go.RowKit
set_option linter.unusedVariables false
theorem new_lasts {s : SS} {d : D.DS} {im : List Int} (h : Rest s d im) (hf : ¬ (freeL s).length < cntN s) (hk : R.checkE (rootD s (s.ep + 1)) = 0) {S : Nat → List Int}
    (hx : S ((s.ep + 1).tmod 2).toNat = R.putS (rootD s (s.ep + 1))) (h1 : Laid 1 S 0 (splitS (wordsS s.c.tb) 246) (tabL s)) (h2 : Laid 2 S 0 (splitS (us2S s) 246) (mapL s)) (hb : ∀ m : Nat, (m : Int) ∉ tabL s ++ mapL s → m ≠ ((s.ep + 1).tmod 2).toNat → S m = d.B m) :
    Lasts (s.hold (s.ep + 1) s.c.st s.c.tb (us2S s)) S (imgS s.c.tb s.c.st d.B) ∧ Pgs S s.c.tb := by
  obtain ⟨l1, l2, nd, hin⟩ := tm_facts h.inv.core hf
  have e0 := h.sf.last.e0
  have hp := tmod2 e0
  have hp2 := tmod2 (show 0 ≤ s.ep + 1 by omega)
  have hcb : ∀ z ∈ s.c.tb, z ≠ 0 → S z.toNat = d.B z.toNat := fun z hz h0 => by
    have hr := (h.inv.core.ok.c.tb.ins z hz).resolve_left h0
    refine hb _ ?_ (by omega)
    rw [Int.toNat_of_nonneg (by omega)]
    intro hm
    have h3 := hin z hm
    have h4 := h.inv.core.own z hz h0
    rw [h3.2.2.1, h3.2.2.2] at h4
    cases h4
  have hpg : Pgs S s.c.tb := h.cpg.congr hcb
  have hel : Elder (S ((s.ep + 1 + 1).tmod 2).toNat) (s.ep + 1) := by
    obtain ⟨T, M, hr, g1, _, _, _⟩ := h.sf.last.ex
    have ex : ((s.ep + 1 + 1).tmod 2).toNat = (s.ep.tmod 2).toNat := by omega
    have hus : B.hasB s.us (s.ep.tmod 2).toNat = true := by
      have : (s.ep.tmod 2).toNat = 0 ∨ (s.ep.tmod 2).toNat = 1 := by omega
      rcases this with e | e <;> rw [e]
      · exact h.sf.last.has.1
      · exact h.sf.last.has.2.1
    refine .inl ⟨rootT s T M, hr, ?_, by show s.ep < s.ep + 1; omega⟩
    rw [ex, hb _ (fun hm => by have := hin _ hm; omega) (by omega), ← h.sf.same _ hus]
    exact g1
  have hL := laid_lasts h.inv.core h.sf.last.b2 (ep := s.ep + 1) (by omega) hk h.ctr hx h1 h2 hel hpg
  rw [img_congr s.c.st hcb] at hL
  exact ⟨hL, hpg⟩
theorem commit_rest {s : SS} {d : D.DS} {im : List Int} (h : Rest s d im) (hdt : s.c.dt = true) :
    ((comR s d (us2S s)).1 = 0 ∧ Rest (comR s d (us2S s)).2.1 (comR s d (us2S s)).2.2 (imgS s.c.tb s.c.st d.B) ∧ (comR s d (us2S s)).2.1.c = (comR s d (us2S s)).2.1.l) ∨
    ((comR s d (us2S s)).1 ≠ 0 ∧ ((comR s d (us2S s)).2.2.down = false → Rest (comR s d (us2S s)).2.1 (comR s d (us2S s)).2.2 im) ∧ ∀ f, AllB f → Kept (D.crashS (comR s d (us2S s)).2.2 f) im ∨ Kept (D.crashS (comR s d (us2S s)).2.2 f) (imgS s.c.tb s.c.st d.B)) := by
  have hkeep := settle_held h.inv.core d (s.ep + 1)
  have eC : comR s d (us2S s) = settleR s d (s.ep + 1) (us2S s) := by
    unfold comR; rw [h.bad, hdt, if_neg (by decide), if_neg (by decide)]
  rw [eC]
  have e0 := h.sf.last.e0
  have hp := tmod2 e0
  have usx : B.hasB s.us ((s.ep + 1).tmod 2).toNat = true := by
    have : ((s.ep + 1).tmod 2).toNat = 0 ∨ ((s.ep + 1).tmod 2).toNat = 1 := by omega
    rcases this with e | e <;> rw [e]
    · exact h.sf.last.has.1
    · exact h.sf.last.has.2.1
  unfold settleR at hkeep ⊢
  by_cases hf : (freeL s).length < cntN s
  · rw [if_pos hf]
    exact .inr ⟨by show (10 : Int) ≠ 0; decide, fun _ => h, fun f hf => .inl (h.kept.crash hf)⟩
  rw [if_neg hf] at hkeep ⊢
  by_cases hk : R.checkE (rootD s (s.ep + 1)) ≠ 0
  · rw [if_pos hk]
    exact .inr ⟨hk, fun _ => h, fun f hf => .inl (h.kept.crash hf)⟩
  rw [if_neg hk] at hkeep ⊢
  have hk : R.checkE (rootD s (s.ep + 1)) = 0 := Decidable.byContradiction hk
  obtain ⟨l1, l2, nd, hin⟩ := tm_facts h.inv.core hf
  obtain ⟨E, ok', room'⟩ := settle_ends h.inv.core h.sf.last.b2 h.sf.ok h.dn h.sf.room (ep := s.ep + 1) (by omega) hf hk
  have NL := @new_lasts s d im h hf hk
  generalize tlR (stepF s (s.ep + 1) (us2S s)) 5 0 d = r at *
  obtain ⟨c, d'⟩ := r
  simp only at hkeep ok' room' ⊢
  have usn : ∀ n : Nat, B.hasB s.us n = true → (n : Int) ∉ tabL s ++ mapL s := fun n hn hm => by
    have := (hin _ hm).2.2.1
    rw [hasB_toNat, hn] at this
    cases this
  cases E with
  | done he hd hs hl hx h1 h2 hb =>
    have he : c = 0 := he
    subst he
    have hd : d'.down = false := hd
    have hs : d'.S = d'.B := hs
    have hl : d'.L = fun _ => false := hl
    rw [if_neg (by decide)] at hkeep ⊢
    obtain ⟨q1, q2⟩ := NL hx h1 h2 hb
    refine .inl ⟨rfl, ⟨⟨ok', room', ?_, fun n _ => ?_⟩, (hkeep rfl).1, h.bad, hd, q2, h.ctr⟩, rfl⟩
    · show Lasts _ d'.S _
      rw [hs]; exact q1
    · show d'.L n = false
      rw [hl]
  | early he hd hs hl =>
    have he : c ≠ 0 := he
    have hd : d'.down = true := hd
    rw [if_pos he]
    have : Safe s d' im := h.sf.off ok' (room'.trans h.sf.room.symm) hs (fun n hn => hl n (usn n hn))
    exact .inr ⟨he, fun q => (by rw [hd] at q; cases q), fun f hf => .inl ⟨s, this.crash hf⟩⟩
  | sync he hd hs hl hb =>
    have he : c ≠ 0 := he
    have hd : d'.down = true := hd
    have hs : d'.S = d'.B := hs
    have hl : d'.L = fun _ => false := hl
    rw [if_pos he]
    have : Safe s d' im := ⟨ok', room', h.sf.last.congr (fun n hn _ => by rw [hs, hb n (usn n hn)]; exact (h.sf.same n hn).symm) (by rw [hs, hb _ (usn _ usx), ← h.sf.same _ usx]; exact h.sf.last.eld), fun n _ => by rw [hl]⟩
    exact .inr ⟨he, fun q => (by rw [hd] at q; cases q), fun f hf => .inl ⟨s, this.crash hf⟩⟩
  | late he hd hs hl hx h1 h2 hb =>
    have he : c ≠ 0 := he
    have hd : d'.down = true := hd
    have hs : d'.S = d'.B := hs
    have hl : d'.L = fun _ => false := hl
    rw [if_pos he]
    obtain ⟨q1, q2⟩ := NL hx h1 h2 hb
    have : Safe (s.hold (s.ep + 1) s.c.st s.c.tb (us2S s)) d' (imgS s.c.tb s.c.st d.B) := ⟨ok', room', by rw [hs]; exact q1, fun n _ => by rw [hl]⟩
    exact .inr ⟨he, fun q => (by rw [hd] at q; cases q), fun f hf => .inr ⟨_, this.crash hf⟩⟩
  | torn he hd hs hsx hlx hx h1 h2 hb =>
    have he : c ≠ 0 := he
    have hd : d'.down = true := hd
    rw [if_pos he]
    refine .inr ⟨he, fun q => (by rw [hd] at q; cases q), fun f hf => ?_⟩
    have hs : ∀ m, m ≠ ((s.ep + 1).tmod 2).toNat → d'.S m = d'.B m ∧ d'.L m = false := hs
    have hrok := R.ok_checkE hk
    have hxr : ((s.ep + 1).tmod 2).toNat < d'.room := by have := h.sf.last.b2; omega
    obtain ⟨k, hk256, hmix⟩ := crash_torn (d := d') hf hxr hlx
    have hX : d'.S ((s.ep + 1).tmod 2).toNat = d.S ((s.ep + 1).tmod 2).toNat := by
      have : d'.S ((s.ep + 1).tmod 2).toNat = d.B ((s.ep + 1).tmod 2).toNat := hsx
      rw [this]; exact (h.sf.same _ usx).symm
    have hx : d'.B ((s.ep + 1).tmod 2).toNat = R.putS (rootD s (s.ep + 1)) := hx
    rw [hx, hX] at hmix
    have okc := D.crashS_ok ok' hf
    have hoth : ∀ m, m ≠ ((s.ep + 1).tmod 2).toNat → (D.crashS d' f).S m = d'.B m := fun m hm => (crash_hard (hs m hm).2).1
    have hlen : (d.S ((s.ep + 1).tmod 2).toNat).length = 256 := (h.sf.ok.isS _ (by rw [h.sf.room]; have := h.sf.last.b2; omega)).1
    rcases elder_torn hlen h.sf.last.eld hrok rfl e0 k hk256 with e | e
    · right
      have hSx : (D.crashS d' f).S ((s.ep + 1).tmod 2).toNat = R.putS (rootD s (s.ep + 1)) := hmix.trans e
      have ht : ∀ b ∈ tabL s ++ mapL s, b.toNat ≠ ((s.ep + 1).tmod 2).toNat := fun b hb' => by have := hin b hb'; omega
      obtain ⟨q1, q2⟩ := NL (S := (D.crashS d' f).S) hSx (h1.congr (fun b hb' => hoth _ (ht b (by simp [hb'])))) (h2.congr (fun b hb' => hoth _ (ht b (by simp [hb'])))) (fun m hm hmx => (hoth m hmx).trans (hb m hm hmx))
      exact ⟨s.hold (s.ep + 1) s.c.st s.c.tb (us2S s), okc, room', q1, fun n _ => rfl⟩
    · left
      refine ⟨s, okc, room', h.sf.last.congr (fun n hn hne => ?_) ?_, fun n _ => rfl⟩
      · rw [hoth n hne]
        have : d'.B n = d.B n := hb n (usn n hn) hne
        rw [this]; exact (h.sf.same n hn).symm
      · have := hmix
        rw [this]; exact e
theorem fmt40 : ¬ 40 < 3 + nPages (B.makeN 40) ∧ R.checkE (rootD (blankS 40) 0) = 0 ∧ ¬ (freeL (blankS 40)).length < cntN (blankS 40) := by decide +kernel
theorem Calm.writeP {d : D.DS} (h : Calm d) {n : Int} {zs : List Int} (h0 : 0 ≤ n) (h1 : n < d.room) (hl : zs.length = 256) : (D.writeS d n zs).B = D.upd d.B n.toNat zs := by
  rcases write_does h.dn h0 h1 hl with ⟨_, _, e, _⟩ | ⟨e, _⟩
  · exact e
  · exact absurd (h.write h0 h1 hl).1 e
theorem format_rest : (fmtS (D.newS 40)).1 = 0 ∧ Rest (fmtS (D.newS 40)).2.1 (fmtS (D.newS 40)).2.2 [0, 0] ∧ (fmtS (D.newS 40)).2.1.c = (fmtS (D.newS 40)).2.1.l ∧ Calm (fmtS (D.newS 40)).2.2 := by
  obtain ⟨k1, k2, k3⟩ := fmt40
  have hroom : (D.newS 40).room = 40 := by decide
  have hcalm := newS_calm 40
  have hlz : (List.replicate 256 (0 : Int)).length = 256 := by simp
  obtain ⟨e, hc⟩ := hcalm.write (n := 1) (zs := List.replicate 256 0) (by decide) (by rw [hroom]; decide) hlz
  have hB := hcalm.writeP (n := 1) (zs := List.replicate 256 0) (by decide) (by rw [hroom]; decide) hlz
  have hok := D.writeS_ok (D.newS_ok 40) 1 (zeros_allB 256)
  have hr1 : (D.writeS (D.newS 40) 1 (List.replicate 256 0)).room = 40 := by rw [writeS_room, hroom]
  have hcore := blank_core (bl := 40) (by decide) (by decide)
  have hF : fmtS (D.newS 40) = settleR (blankS 40) (D.writeS (D.newS 40) 1 (List.replicate 256 0)) 0 (us2S (blankS 40)) := by
    unfold fmtS fmtR
    rw [hroom, if_neg (show ¬ 40 < 3 + nPages (B.makeN ((40 : Nat) : Int)) from k1), if_neg (by rw [e]; decide)]
  rw [hF]
  obtain ⟨f1, f2, f3⟩ := hc.settle (s := blankS 40) hr1 (by decide) (ep := 0) (by decide) (us2S (blankS 40)) k2
  rw [if_neg k3] at f1 f2
  obtain ⟨E, ok', room'⟩ := settle_ends hcore (by decide) hok hc.dn hr1 (ep := 0) (by decide) k3 k2
  obtain ⟨hinv, heq⟩ := settle_held hcore (D.writeS (D.newS 40) 1 (List.replicate 256 0)) 0 f1
  obtain ⟨l1, l2, nd, hin⟩ := tm_facts hcore k3
  have hS : settleR (blankS 40) (D.writeS (D.newS 40) 1 (List.replicate 256 0)) 0 (us2S (blankS 40)) = (0, (blankS 40).hold 0 0 [] (us2S (blankS 40)), (tlR (stepF (blankS 40) 0 (us2S (blankS 40))) 5 0 (D.writeS (D.newS 40) 1 (List.replicate 256 0))).2) := by
    unfold settleR at f1 ⊢
    rw [if_neg k3] at f1 ⊢
    rw [if_neg (by rw [k2]; decide)] at f1 ⊢
    split at f1
    · rename_i q; exact absurd f1 q
    · rename_i q
      rw [if_neg q]
      rfl
  have hne : (tlR (stepF (blankS 40) 0 (us2S (blankS 40))) 5 0 (D.writeS (D.newS 40) 1 (List.replicate 256 0))).1 = 0 := by
    unfold settleR at f1
    rw [if_neg k3, if_neg (by rw [k2]; decide)] at f1
    split at f1
    · rename_i q; exact absurd f1 q
    · rename_i q; simpa using q
  rw [hS] at f3 hinv ⊢
  generalize hW : D.writeS (D.newS 40) 1 (List.replicate 256 0) = W at *
  generalize tlR (stepF (blankS 40) 0 (us2S (blankS 40))) 5 0 W = r at *
  obtain ⟨c, d'⟩ := r
  simp only at f3 hinv hne ok' room' ⊢
  cases E with
  | done he hd hs hl hx h1 h2 hb =>
    have hd : d'.down = false := hd
    have hs : d'.S = d'.B := hs
    have hl : d'.L = fun _ => false := hl
    have h1' : d'.B 1 = List.replicate 256 0 := by
      have : d'.B 1 = W.B 1 := hb 1 (fun hm => by have := hin _ hm; omega) (by decide)
      rw [this, hB]; exact D.upd_same _ _ _
    have hel : Elder (d'.B ((0 + 1 : Int).tmod 2).toNat) 0 := by
      refine .inr (.inl fun i h4 h256 => ?_)
      rw [show ((0 + 1 : Int).tmod 2).toNat = 1 from rfl, h1', List.getD_eq_getElem?_getD, List.getElem?_replicate, if_pos h256]
      rfl
    have hpg : Pgs d'.B (blankS 40).c.tb := fun i hi => absurd (by simp [blankS]) hi
    have hL := laid_lasts hcore (by decide) (ep := 0) (by decide) k2 (.inl rfl) hx h1 h2 hel hpg
    refine ⟨trivial, ⟨⟨ok', room', ?_, fun n _ => ?_⟩, hinv, rfl, hd, hpg, .inl rfl⟩, rfl, f3⟩
    · show Lasts _ d'.S _
      rw [hs]; exact hL
    · show d'.L n = false
      rw [hl]
  | early he hd hs hl => exact absurd hne he
  | sync he hd hs hl hb => exact absurd hne he
  | torn he hd hs hsx hlx hx h1 h2 hb => exact absurd hne he
  | late he hd hs hl hx h1 h2 hb => exact absurd hne he
end Go.Proofs.YtelhlikeefpjnaaGreat
namespace Go.Proofs.YtelhlikeefpjnaaGreat
set_option maxRecDepth 20000
open Go.RowKit
set_option linter.unusedVariables false
set_option linter.unusedSimpArgs false
theorem str_app (xs ys : List Int) : strOfNums xs ++ strOfNums ys = strOfNums (xs ++ ys) := by
  apply ByteArray.ext
  simp [strOfNums]
theorem u8w (z : Int) : IntKind.u8.wrap z = z % 256 := by
  rw [IntKind.wrap_u8]
theorem rest_read {s : SS} {d : D.DS} {im : List Int} (h : Rest s d im) {id : Nat} (hid : id ∈ idsS s.c.tb) {di : D.DS} (hd : Rdd d di) : rdE s di id = 0 ∧ rdKd s di id = opK (d.B (s.c.tb.getD (id - 1) 0).toNat) ∧ rdBy s di id = opB (d.B (s.c.tb.getD (id - 1) 0).toNat) ∧ (rdR s di id).1 = s ∧ Rdd d (rdR s di id).2 := by
  obtain ⟨h1, h2, h3⟩ := ids_mem hid
  obtain ⟨j, rfl⟩ : ∃ j, id = j + 1 := ⟨id - 1, by omega⟩
  rw [show j + 1 - 1 = j from rfl] at *
  have hb : blkI s.c.tb ((j + 1 : Nat) : Int) = s.c.tb.getD j 0 := blk_get s.c.tb j
  have hr := (h.inv.core.ok.c.tb.ins _ (get_mem h3).1).resolve_left h3
  have hp := h.cpg j h3
  have hfe : findE s ((j + 1 : Nat) : Int) = 0 := by unfold findE; rw [h.bad, hb, if_neg (by decide), if_neg h3]
  have hfn : findN s ((j + 1 : Nat) : Int) = s.c.tb.getD j 0 := by unfold findN; rw [h.bad, hb]; rfl
  have hre : D.reachE d (s.c.tb.getD j 0) = 0 := by unfold D.reachE; rw [if_neg (by rw [h.dn]; decide), if_neg (by rw [h.sf.room]; omega)]
  have hrb : D.readB d (s.c.tb.getD j 0) = d.B (s.c.tb.getD j 0).toNat := by unfold D.readB; rw [if_neg (by rw [hre]; decide)]
  have hbE : rbE (d.B (s.c.tb.getD j 0).toNat) ((j + 1 : Nat) : Int) = 0 := by unfold rbE; rw [hp.1, hp.2]; simp
  have hE : rdE s di ((j + 1 : Nat) : Int) = 0 := by
    unfold rdE
    rw [hfe, hfn, hd.reach, hd.rb, hre, hrb, hbE]; rfl
  refine ⟨hE, ?_, ?_, ?_, ?_⟩
  · unfold rdKd rbK
    rw [hE, hfn, hd.rb, hrb, hbE]; rfl
  · unfold rdBy rbB
    rw [hE, hfn, hd.rb, hrb, hbE]; rfl
  · unfold rdR
    rw [hfe, if_neg (by decide), hfn, hd.reach, hre]
    obtain ⟨c, l, ep, us, bl, bad⟩ := s
    have : bad = false := h.bad
    subst this
    rfl
  · unfold rdR
    rw [hfe, if_neg (by decide), hfn]
    exact hd.trans (rdd_read _ _)
theorem bv_new (W : World) (xs : List Int) (hx : AllB xs) : BV (W.alloc (.cells (xs.map (Value.int .u8)).toArray 5)) (some ⟨W.heap.size, 0, none⟩) xs := by
  refine ⟨hx, .inr ⟨_, 0, rfl, by show _ < (W.heap.push _).size; rw [Array.size_push]; omega, fun i hi => ?_⟩⟩
  rw [Nat.zero_add, cell_of_row _ _ _ _ _ _ (heap_alloc_last _ _)]
  simp [hi, List.getD_eq_getElem?_getD]
theorem conv_drew (W : World) (xs : List Int) (hx : AllB xs) (n : Nat) (hn : xs.length = n) : (convert 29 9 (.slice (some ⟨W.heap.size, 0, none⟩) n n)).run Tryz.prog (W.alloc (.cells (xs.map (Value.int .u8)).toArray 5)).drew = .ok (.string (strOfNums xs)) (W.alloc (.cells (xs.map (Value.int .u8)).toArray 5)).drew := by
  subst hn
  exact conv_bv ((bv_new W xs hx).below (Below.refl _ _).drew) (by simp)
theorem conv_new (W : World) (xs : List Int) (hx : AllB xs) (n : Nat) (hn : xs.length = n) : (convert 29 9 (.slice (some ⟨W.heap.size, 0, none⟩) n n)).run Tryz.prog (W.alloc (.cells (xs.map (Value.int .u8)).toArray 5)) = .ok (.string (strOfNums xs)) (W.alloc (.cells (xs.map (Value.int .u8)).toArray 5)) := by
  subst hn
  exact conv_bv (bv_new W xs hx) (by simp)
theorem img_take (l : List Nat) (F : Nat → List Int) (i : Nat) (h : i < l.length) : (l.take (i + 1)).flatMap F = (l.take i).flatMap F ++ F (l.getD i 0) := by
  rw [List.take_succ_eq_append_getElem h, List.flatMap_append]
  congr 1
  rw [List.getD_eq_getElem?_getD, List.getElem?_eq_getElem h]
  simp
theorem strN_size (xs : List Int) : (strOfNums xs).size = xs.length := by simp [strOfNums, ByteArray.size]
theorem flatN_le (F : Nat → List Int) (h : ∀ x, (F x).length ≤ 250) : ∀ l : List Nat, (l.flatMap F).length ≤ 250 * l.length
  | [] => by simp
  | x :: l => by
    have := flatN_le F h l
    have := h x
    rw [List.flatMap_cons, List.length_append, List.length_cons]
    omega
set_option maxHeartbeats 1600000 in
theorem image_r {w0 : World} {k : Pl} {s : SS} {d : D.DS} {im : List Int} (w : World) (h : Mi w0 w k s d) (hr : Rest s d im) :
    Calls Tryz.prog 31 #[.pointer (some ⟨k.p, 0, none⟩)] w fun e w' => ∃ d', e = .returned (.string (strOfNums (imgS s.c.tb s.c.st d.B))) ∧ Mi w0 w' k s d' ∧ Rdd d d' ∧ D.Off k.X w w' := by
  have H27 := m_ids w h
  have HR : Hid (Rest s d im) := hr
  have HXL : Hid (∀ x ∈ k.X, x < w.heap.size) := h.sy.lt
  obtain ⟨idl, hidl⟩ : ∃ l, l = idsS s.c.tb := ⟨_, rfl⟩
  obtain ⟨F, hF⟩ : ∃ F : Nat → List Int, F = (fun id : Nat => pgB (d.B (s.c.tb.getD (id - 1) 0).toNat) id) := ⟨_, rfl⟩
  have hlen : idl.length ≤ 3000 := by
    rw [hidl]; unfold idsS idsTo
    rw [List.length_map]
    have := List.length_filter_le (fun i => decide (s.c.tb.getD i 0 ≠ 0)) (List.range s.c.tb.length)
    have := h.inv.core.ok.c.tb.len
    simp at *
    omega
  have hst : 0 ≤ s.c.st ∧ s.c.st ≤ 3000 := by
    have := h.inv.core.ok.c.tb.len
    rcases h.inv.core.ok.c.st with e | e
    · omega
    · have := blk_mem e; omega
  have HIM : Hid (imgS s.c.tb s.c.st d.B = (idl.take idl.length).flatMap F ++ stB s.c.st) := by
    show imgS _ _ _ = _
    rw [List.take_length, hidl, hF]; rfl
  have H18 : Hid (∀ W di i, i < idl.length → Mi w0 W k s di → Rdd d di → Calls Tryz.prog 18 #[.pointer (some ⟨k.p, 0, none⟩), .int .i64 ((idl.getD i 0 : Nat) : Int)] W fun e w' => ∃ (kd : Int) (bs : List Int) (ba : Option Addr) (bc : Nat), e = .returned (.tuple #[.int .i64 kd, .slice ba bs.length bc, .int .i64 0]) ∧ bs.length ≤ 246 ∧ Hid (AllB bs ∧ F (idl.getD i 0) = [((idl.getD i 0 : Nat) : Int) / 256 % 256, ((idl.getD i 0 : Nat) : Int) % 256, kd % 256, (bs.length : Int) % 256] ++ bs ∧ (∀ W', Below w'.heap.size w' W' → (convert 29 9 (.slice ba bs.length bc)).run Tryz.prog W' = .ok (.string (strOfNums bs)) W') ∧ (∃ d', Mi w0 w' k s d' ∧ Rdd d d') ∧ D.Off k.X W w')) := by
    intro W di i hi hm hd
    have hmem : idl.getD i 0 ∈ idsS s.c.tb := by
      rw [← hidl, List.getD_eq_getElem?_getD, List.getElem?_eq_getElem hi]; exact List.getElem_mem hi
    obtain ⟨r1, r2, r3, r4, r5⟩ := rest_read HR.out hmem hd
    refine (m_read ((idl.getD i 0 : Nat) : Int) W hm).mono ?_
    rintro e w' ⟨v, rfl, hv, hm', ho⟩
    rw [r1, r2, r3] at *
    rw [r4] at hm'
    obtain ⟨ba, bc, rfl, hb0, hb1, hb2, hbv, hb4⟩ := hv
    refine ⟨_, _, ba, bc, rfl, opB_len _, hbv.1, by rw [hF]; rfl, fun W' hW' => conv_bv (hbv.below hW') hb0, ⟨_, hm', r5⟩, ho⟩
  have HID : Hid (∀ i, i < idl.length → idl.getD i 0 ≤ 3000) := fun i hi => by
    have hmem : idl.getD i 0 ∈ idsS s.c.tb := by
      rw [← hidl, List.getD_eq_getElem?_getD, List.getElem?_eq_getElem hi]; exact List.getElem_mem hi
    have := (ids_mem hmem).2.1
    have := h.inv.core.ok.c.tb.len
    omega
  have H24 : Hid (∀ W di, Mi w0 W k s di → Calls Tryz.prog 24 #[.pointer (some ⟨k.p, 0, none⟩)] W fun e w' => e = .returned (.int .i64 s.c.st) ∧ w' = W) := fun W di hm => m_start W hm
  rw [← hidl] at H27
  have HTK : Hid (∀ i, i < idl.length → (idl.take (i + 1)).flatMap F = (idl.take i).flatMap F ++ F (idl.getD i 0)) := fun i hi => img_take idl F i hi
  have HAL : Hid (∀ i, i ≤ idl.length → ((idl.take i).flatMap F).length ≤ 750000) := fun i hi => by
    have := flatN_le F (fun x => by rw [hF]; unfold pgB; rw [List.length_append]; have := opB_len (d.B (s.c.tb.getD (x - 1) 0).toNat); simp at *; omega) (idl.take i)
    rw [List.length_take] at this
    omega
  rw [HIM.out]
  generalize s.c.st = st at *
  clear hF hidl HIM hr HR h
  obtain ⟨hst0, hst1⟩ := hst
  go_enter Tryz.func31, Tryz.ntmps31
  go_wp2_with (first
    | (go_at_call 27; refine H27.mono ?_; rintro e w1 ⟨v, rfl, hv, hm1, hb1⟩; clear H27)
    | fail)
  obtain ⟨a, cap, rfl, HC⟩ : ∃ a cap, v = .slice a idl.length cap ∧ Hid (∀ W, D.Off k.X w1 W → ∀ i, i < idl.length → ∃ g, a = some ⟨g, 0, none⟩ ∧ g < W.heap.size ∧ W.cell? ⟨g, i, none⟩ = some (.int .i64 ((idl.getD i 0 : Nat) : Int))) := by
    by_cases h1 : 1 ≤ idl.length
    · obtain ⟨g, cap, rfl, hg, hgl, hc1, hc2, hiv⟩ := ownN_some hv h1
      refine ⟨_, cap, rfl, fun W hW i hi => ⟨g, rfl, Nat.lt_of_lt_of_le hgl hW.size, ?_⟩⟩
      have hgx : g ∉ k.X := fun hm => by
        have := HXL.out g hm
        omega
      rw [off_cell hW hgl hgx]
      rcases hiv with h0 | ⟨b, off, hbe, _, hc⟩
      · simp [ints] at h0; subst h0; simp at hi
      · simp at hbe
        obtain ⟨rfl, rfl⟩ := hbe
        have := hc i (by simpa [ints] using hi)
        simpa [ints, List.getD_eq_getElem?_getD, hi] using this
    · have h0 : idl = [] := List.eq_nil_of_length_eq_zero (by omega)
      subst h0
      obtain ⟨a, cap, rfl⟩ := own0 hv
      exact ⟨a, cap, rfl, fun W hW i hi => by simp at hi⟩
  have HM1 : Hid (∃ di, Mi w0 w1 k s di ∧ Rdd d di) := ⟨d, hm1, Rdd.refl d⟩
  have HO1 : Hid (D.Off k.X w w1) := D.Off.of_below hb1
  clear hm1 hb1 hv
  go_loopw [4, 5] (fun av iv wr => ∃ i : Nat, i ≤ idl.length ∧ iv = .int .i64 i ∧ av = .string (strOfNums ((idl.take i).flatMap F)) ∧ Hid ((∃ di, Mi w0 wr k s di ∧ Rdd d di) ∧ D.Off k.X w1 wr)) (fun _ iv _ => idl.length - (iOf iv).toNat)
  case atStart => exact ⟨0, Nat.zero_le _, rfl, rfl, HM1.out, D.Off.refl _ _⟩
  case round =>
    obtain ⟨i, hi, rfl, rfl, HM⟩ := hrel
    clear HM1
    by_cases hlt : i < idl.length
    · have hdk : decide ((i : Int) < (idl.length : Int)) = true := by simp; omega
      obtain ⟨g, rfl, hgl, hcell⟩ := HC.out _ HM.out.2 i hlt
      have hid3 := HID.out i hlt
      have HC2 : Hid (∀ W, D.Off k.X wr W → g < W.heap.size ∧ W.cell? ⟨g, i, none⟩ = some (.int .i64 ((idl.getD i 0 : Nat) : Int))) := fun W hW => by
        obtain ⟨g', e, h1, h2⟩ := HC.out W (HM.out.2.trans hW) i hlt
        simp at e
        subst e
        exact ⟨h1, h2⟩
      have HRD : Hid (Calls Tryz.prog 18 #[.pointer (some ⟨k.p, 0, none⟩), .int .i64 ((idl.getD i 0 : Nat) : Int)] wr _) := (let ⟨di, hm, hd⟩ := HM.out.1; H18.out wr di i hlt hm hd)
      have HTi := HTK.out i hlt
      have hAl := HAL.out i hi
      generalize idl.getD i 0 = id at *
      generalize (idl.take i).flatMap F = A at *
      clear H18 H24 HID HTK
      go_wp2_with (first
        | (go_at_call 18; refine HRD.out.mono ?_; rintro e w2 ⟨kd, bs, ba, bc, rfl, hbl, HB⟩; clear HRD)
        | fail)
      obtain ⟨hg2, hc2⟩ := HC2.out w2 HB.out.2.2.2.2
      obtain ⟨m, hm⟩ : ∃ m, m = bs.length := ⟨_, rfl⟩
      rw [← hm] at HB ⊢
      have HCV := HB.out.2.2.1
      have hm246 : m ≤ 246 := by omega
      have hz1 := strN_size A
      have hz2 := strN_size bs
      have hz3 := strN_size [(id : Int) / 256 % 256, (id : Int) % 256, kd % 256, (m : Int) % 256]
      have hz3' : [(id : Int) / 256 % 256, (id : Int) % 256, kd % 256, (m : Int) % 256].length = 4 := rfl
      rw [hz3'] at hz3
      rw [← hm] at hz2
      have hz1' : (strOfNums A).size ≤ 750000 := by omega
      have HHT : Hid (List.flatMap F (List.take (i + 1) idl) = A ++ F id) := HTi
      clear hm hbl hz1 hAl HTi hz3'
      refine wp_region_noPanic ?_
      refine name_ops ?_
      intro O QQ HO HQ
      refine wp_region_held_drew (S := (fun W' => Below w2.heap.size w2 W')) (by kernel_rfl) (Below.refl _ _).drew (fun hS => ?_)
      rw [show O.size = 24 by rw [HO.out]; rfl]
      refine wpAnyH_take (i := 0) (v := .string (strOfNums A)) (by rw [HO.out]; simp only [List.getElem?_toArray, List.getElem?_cons_succ, List.getElem?_cons_zero]; rfl) (by rw [HO.out]; kernel_rfl) (by rw [HO.out]; kernel_rfl) (by rw [HO.out]; kernel_rfl) (by rw [HQ.out]; exact fun _ _ _ h => h) (Or.inl ⟨by rfl, ?_⟩) hS ?_
      · intro w' hSw
        go_simp
      try simp only [Act.put, List.setIfInBounds_toArray, List.set_cons_zero, List.set_cons_succ]
      refine wpAnyH_take (i := 1) (v := .slice (some ⟨g, 0, none⟩) idl.length cap) (by rw [HO.out]; simp only [List.getElem?_toArray, List.getElem?_cons_succ, List.getElem?_cons_zero]; rfl) (by rw [HO.out]; kernel_rfl) (by rw [HO.out]; kernel_rfl) (by rw [HO.out]; kernel_rfl) (by rw [HQ.out]; exact fun _ _ _ h => h) (Or.inl ⟨by rfl, ?_⟩) hS ?_
      · intro w' hSw
        go_simp
      try simp only [Act.put, List.setIfInBounds_toArray, List.set_cons_zero, List.set_cons_succ]
      refine wpAnyH_take (i := 2) (v := .int .i64 i) (by rw [HO.out]; simp only [List.getElem?_toArray, List.getElem?_cons_succ, List.getElem?_cons_zero]; rfl) (by rw [HO.out]; kernel_rfl) (by rw [HO.out]; kernel_rfl) (by rw [HO.out]; kernel_rfl) (by rw [HQ.out]; exact fun _ _ _ h => h) (Or.inl ⟨by rfl, ?_⟩) hS ?_
      · intro w' hSw
        go_simp
      try simp only [Act.put, List.setIfInBounds_toArray, List.set_cons_zero, List.set_cons_succ]
      refine wpAnyH_take (i := 3) (v := .pointer (some ⟨g, i, none⟩)) (by rw [HO.out]; simp only [List.getElem?_toArray, List.getElem?_cons_succ, List.getElem?_cons_zero]; rfl) (by rw [HO.out]; kernel_rfl) (by rw [HO.out]; kernel_rfl) (by rw [HO.out]; kernel_rfl) (by rw [HQ.out]; exact fun _ _ _ h => h) (Or.inl ⟨by rfl, ?_⟩) hS ?_
      · intro w' hSw
        go_simp
      try simp only [Act.put, List.setIfInBounds_toArray, List.set_cons_zero, List.set_cons_succ]
      refine wpAnyH_take (i := 4) (v := .int .i64 (id : Nat)) (by rw [HO.out]; simp only [List.getElem?_toArray, List.getElem?_cons_succ, List.getElem?_cons_zero]; rfl) (by rw [HO.out]; kernel_rfl) (by rw [HO.out]; kernel_rfl) (by rw [HO.out]; kernel_rfl) (by rw [HQ.out]; exact fun _ _ _ h => h) (Or.inl ⟨by rfl, ?_⟩) hS ?_
      · intro w' hSw
        have q := (hSw.cell (p := ⟨g, i, none⟩) hg2).trans hc2
        go_simp
      try simp only [Act.put, List.setIfInBounds_toArray, List.set_cons_zero, List.set_cons_succ]
      refine wpAnyH_take (i := 5) (v := .int .i64 ((id : Int) / 256)) (by rw [HO.out]; simp only [List.getElem?_toArray, List.getElem?_cons_succ, List.getElem?_cons_zero]; rfl) (by rw [HO.out]; kernel_rfl) (by rw [HO.out]; kernel_rfl) (by rw [HO.out]; kernel_rfl) (by rw [HQ.out]; exact fun _ _ _ h => h) (Or.inl ⟨by rfl, ?_⟩) hS ?_
      · intro w' hSw
        go_simp
      try simp only [Act.put, List.setIfInBounds_toArray, List.set_cons_zero, List.set_cons_succ]
      refine wpAnyH_take (i := 6) (v := .int .u8 ((id : Int) / 256 % 256)) (by rw [HO.out]; simp only [List.getElem?_toArray, List.getElem?_cons_succ, List.getElem?_cons_zero]; rfl) (by rw [HO.out]; kernel_rfl) (by rw [HO.out]; kernel_rfl) (by rw [HO.out]; kernel_rfl) (by rw [HQ.out]; exact fun _ _ _ h => h) (Or.inl ⟨by rfl, ?_⟩) hS ?_
      · intro w' hSw
        have q := u8w ((id : Int) / 256)
        go_simp
      try simp only [Act.put, List.setIfInBounds_toArray, List.set_cons_zero, List.set_cons_succ]
      refine wpAnyH_take (i := 7) (v := .slice (some ⟨g, 0, none⟩) idl.length cap) (by rw [HO.out]; simp only [List.getElem?_toArray, List.getElem?_cons_succ, List.getElem?_cons_zero]; rfl) (by rw [HO.out]; kernel_rfl) (by rw [HO.out]; kernel_rfl) (by rw [HO.out]; kernel_rfl) (by rw [HQ.out]; exact fun _ _ _ h => h) (Or.inl ⟨by rfl, ?_⟩) hS ?_
      · intro w' hSw
        go_simp
      try simp only [Act.put, List.setIfInBounds_toArray, List.set_cons_zero, List.set_cons_succ]
      refine wpAnyH_take (i := 8) (v := .int .i64 i) (by rw [HO.out]; simp only [List.getElem?_toArray, List.getElem?_cons_succ, List.getElem?_cons_zero]; rfl) (by rw [HO.out]; kernel_rfl) (by rw [HO.out]; kernel_rfl) (by rw [HO.out]; kernel_rfl) (by rw [HQ.out]; exact fun _ _ _ h => h) (Or.inl ⟨by rfl, ?_⟩) hS ?_
      · intro w' hSw
        go_simp
      try simp only [Act.put, List.setIfInBounds_toArray, List.set_cons_zero, List.set_cons_succ]
      refine wpAnyH_take (i := 9) (v := .pointer (some ⟨g, i, none⟩)) (by rw [HO.out]; simp only [List.getElem?_toArray, List.getElem?_cons_succ, List.getElem?_cons_zero]; rfl) (by rw [HO.out]; kernel_rfl) (by rw [HO.out]; kernel_rfl) (by rw [HO.out]; kernel_rfl) (by rw [HQ.out]; exact fun _ _ _ h => h) (Or.inl ⟨by rfl, ?_⟩) hS ?_
      · intro w' hSw
        go_simp
      try simp only [Act.put, List.setIfInBounds_toArray, List.set_cons_zero, List.set_cons_succ]
      refine wpAnyH_take (i := 10) (v := .int .i64 (id : Nat)) (by rw [HO.out]; simp only [List.getElem?_toArray, List.getElem?_cons_succ, List.getElem?_cons_zero]; rfl) (by rw [HO.out]; kernel_rfl) (by rw [HO.out]; kernel_rfl) (by rw [HO.out]; kernel_rfl) (by rw [HQ.out]; exact fun _ _ _ h => h) (Or.inl ⟨by rfl, ?_⟩) hS ?_
      · intro w' hSw
        have q := (hSw.cell (p := ⟨g, i, none⟩) hg2).trans hc2
        go_simp
      try simp only [Act.put, List.setIfInBounds_toArray, List.set_cons_zero, List.set_cons_succ]
      refine wpAnyH_take (i := 11) (v := .int .u8 ((id : Int) % 256)) (by rw [HO.out]; simp only [List.getElem?_toArray, List.getElem?_cons_succ, List.getElem?_cons_zero]; rfl) (by rw [HO.out]; kernel_rfl) (by rw [HO.out]; kernel_rfl) (by rw [HO.out]; kernel_rfl) (by rw [HQ.out]; exact fun _ _ _ h => h) (Or.inl ⟨by rfl, ?_⟩) hS ?_
      · intro w' hSw
        have q := u8w (id : Int)
        go_simp
      try simp only [Act.put, List.setIfInBounds_toArray, List.set_cons_zero, List.set_cons_succ]
      refine wpAnyH_take (i := 12) (v := .int .i64 kd) (by rw [HO.out]; simp only [List.getElem?_toArray, List.getElem?_cons_succ, List.getElem?_cons_zero]; rfl) (by rw [HO.out]; kernel_rfl) (by rw [HO.out]; kernel_rfl) (by rw [HO.out]; kernel_rfl) (by rw [HQ.out]; exact fun _ _ _ h => h) (Or.inl ⟨by rfl, ?_⟩) hS ?_
      · intro w' hSw
        go_simp
      try simp only [Act.put, List.setIfInBounds_toArray, List.set_cons_zero, List.set_cons_succ]
      refine wpAnyH_take (i := 13) (v := .int .u8 (kd % 256)) (by rw [HO.out]; simp only [List.getElem?_toArray, List.getElem?_cons_succ, List.getElem?_cons_zero]; rfl) (by rw [HO.out]; kernel_rfl) (by rw [HO.out]; kernel_rfl) (by rw [HO.out]; kernel_rfl) (by rw [HQ.out]; exact fun _ _ _ h => h) (Or.inl ⟨by rfl, ?_⟩) hS ?_
      · intro w' hSw
        have q := u8w kd
        go_simp
      try simp only [Act.put, List.setIfInBounds_toArray, List.set_cons_zero, List.set_cons_succ]
      refine wpAnyH_take (i := 14) (v := .slice ba m bc) (by rw [HO.out]; simp only [List.getElem?_toArray, List.getElem?_cons_succ, List.getElem?_cons_zero]; rfl) (by rw [HO.out]; kernel_rfl) (by rw [HO.out]; kernel_rfl) (by rw [HO.out]; kernel_rfl) (by rw [HQ.out]; exact fun _ _ _ h => h) (Or.inl ⟨by rfl, ?_⟩) hS ?_
      · intro w' hSw
        go_simp
      try simp only [Act.put, List.setIfInBounds_toArray, List.set_cons_zero, List.set_cons_succ]
      refine wpAnyH_take (i := 15) (v := .int .i64 (m : Int)) (by rw [HO.out]; simp only [List.getElem?_toArray, List.getElem?_cons_succ, List.getElem?_cons_zero]; rfl) (by rw [HO.out]; kernel_rfl) (by rw [HO.out]; kernel_rfl) (by rw [HO.out]; kernel_rfl) (by rw [HQ.out]; exact fun _ _ _ h => h) (Or.inl ⟨by rfl, ?_⟩) hS ?_
      · intro w' hSw
        go_simp
      try simp only [Act.put, List.setIfInBounds_toArray, List.set_cons_zero, List.set_cons_succ]
      refine wpAnyH_take (i := 16) (v := .int .u8 ((m : Int) % 256)) (by rw [HO.out]; simp only [List.getElem?_toArray, List.getElem?_cons_succ, List.getElem?_cons_zero]; rfl) (by rw [HO.out]; kernel_rfl) (by rw [HO.out]; kernel_rfl) (by rw [HO.out]; kernel_rfl) (by rw [HQ.out]; exact fun _ _ _ h => h) (Or.inl ⟨by rfl, ?_⟩) hS ?_
      · intro w' hSw
        have q := u8w (m : Int)
        go_simp
      try simp only [Act.put, List.setIfInBounds_toArray, List.set_cons_zero, List.set_cons_succ]
      refine wpAnyH_take (i := 20) (v := .slice ba m bc) (by rw [HO.out]; simp only [List.getElem?_toArray, List.getElem?_cons_succ, List.getElem?_cons_zero]; rfl) (by rw [HO.out]; kernel_rfl) (by rw [HO.out]; kernel_rfl) (by rw [HO.out]; kernel_rfl) (by rw [HQ.out]; exact fun _ _ _ h => h) (Or.inl ⟨by rfl, ?_⟩) hS ?_
      · intro w' hSw
        go_simp
      try simp only [Act.put, List.setIfInBounds_toArray, List.set_cons_zero, List.set_cons_succ]
      refine wpAnyH_take (i := 21) (v := .string (strOfNums bs)) (by rw [HO.out]; simp only [List.getElem?_toArray, List.getElem?_cons_succ, List.getElem?_cons_zero]; rfl) (by rw [HO.out]; kernel_rfl) (by rw [HO.out]; kernel_rfl) (by rw [HO.out]; kernel_rfl) (by rw [HQ.out]; exact fun _ _ _ h => h) (Or.inl ⟨by rfl, ?_⟩) hS ?_
      · intro w' hSw
        have q := HCV w' hSw
        go_simp
      try simp only [Act.put, List.setIfInBounds_toArray, List.set_cons_zero, List.set_cons_succ]
      refine wpAnyH_ready (rs := [17]) (by rw [HO.out]; kernel_rfl) (by simp) ?_
      refine AllReadyH.cons (o := _) (by rw [HO.out]; simp only [List.getElem?_toArray, List.getElem?_cons_succ, List.getElem?_cons_zero]; rfl) (fun K17 hK17 => ?_) AllReadyH.nil
      go_simp
      obtain ⟨w3, hw3⟩ : ∃ w3, w3 = (w2.alloc (.cells #[.int .u8 ((id : Int) / 256 % 256), .int .u8 ((id : Int) % 256), .int .u8 (kd % 256), .int .u8 ((m : Int) % 256)] 5)).drew := ⟨_, rfl⟩
      rw [← hw3]
      have hb3 : Below w2.heap.size w2 w3 := by rw [hw3]; exact ((Below.refl _ _).alloc (by simp) _).drew
      have q3 : (convert 29 9 (.slice (some ⟨w2.heap.size, 0, none⟩) 4 4)).run Tryz.prog w3 = .ok (.string (strOfNums [(id : Int) / 256 % 256, (id : Int) % 256, kd % 256, (m : Int) % 256])) w3 := by rw [hw3]; exact conv_drew w2 [(id : Int) / 256 % 256, (id : Int) % 256, kd % 256, (m : Int) % 256] (by intro z hz; simp at hz; omega) 4 rfl
      refine hK17.out _ _ hb3 (fun hS1 => ?_)
      clear hw3
      try simp only [Act.put, List.setIfInBounds_toArray, List.set_cons_zero, List.set_cons_succ]
      refine wpAnyH_ready (rs := [18]) (by rw [HO.out]; kernel_rfl) (by simp) ?_
      refine AllReadyH.cons (o := _) (by rw [HO.out]; simp only [List.getElem?_toArray, List.getElem?_cons_succ, List.getElem?_cons_zero]; rfl) (fun K18 hK18 => ?_) AllReadyH.nil
      go_simp
      refine hK18.out _ _ hb3 (fun hS2 => ?_)
      try simp only [Act.put, List.setIfInBounds_toArray, List.set_cons_zero, List.set_cons_succ]
      refine wpAnyH_take (i := 19) (v := .string (strOfNums A ++ strOfNums [(id : Int) / 256 % 256, (id : Int) % 256, kd % 256, (m : Int) % 256])) (by rw [HO.out]; simp only [List.getElem?_toArray, List.getElem?_cons_succ, List.getElem?_cons_zero]; rfl) (by rw [HO.out]; kernel_rfl) (by rw [HO.out]; kernel_rfl) (by rw [HO.out]; kernel_rfl) (by rw [HQ.out]; exact fun _ _ _ h => h) (Or.inl ⟨by rfl, ?_⟩) hS2 ?_
      · intro w' hSw
        go_simp
        omega
      try simp only [Act.put, List.setIfInBounds_toArray, List.set_cons_zero, List.set_cons_succ]
      refine wpAnyH_take (i := 22) (v := .string (strOfNums A ++ strOfNums [(id : Int) / 256 % 256, (id : Int) % 256, kd % 256, (m : Int) % 256] ++ strOfNums bs)) (by rw [HO.out]; simp only [List.getElem?_toArray, List.getElem?_cons_succ, List.getElem?_cons_zero]; rfl) (by rw [HO.out]; kernel_rfl) (by rw [HO.out]; kernel_rfl) (by rw [HO.out]; kernel_rfl) (by rw [HQ.out]; exact fun _ _ _ h => h) (Or.inl ⟨by rfl, ?_⟩) hS2 ?_
      · intro w' hSw
        go_simp
        omega
      try simp only [Act.put, List.setIfInBounds_toArray, List.set_cons_zero, List.set_cons_succ]
      refine wpAnyH_take (i := 23) (v := .string (strOfNums A ++ strOfNums [(id : Int) / 256 % 256, (id : Int) % 256, kd % 256, (m : Int) % 256] ++ strOfNums bs)) (by rw [HO.out]; simp only [List.getElem?_toArray, List.getElem?_cons_succ, List.getElem?_cons_zero]; rfl) (by rw [HO.out]; kernel_rfl) (by rw [HO.out]; kernel_rfl) (by rw [HO.out]; kernel_rfl) (by rw [HQ.out]; exact fun _ _ _ h => h) (Or.inl ⟨by rfl, ?_⟩) hS2 ?_
      · intro w' hSw
        go_simp
      try simp only [Act.put, List.setIfInBounds_toArray, List.set_cons_zero, List.set_cons_succ]
      refine wpAnyH_done (by rw [HO.out]; kernel_rfl) ?_ _
      rw [HQ.out]
      refine NoPanic.normal ?_
      go_wp2
      go_roundw
      case rel =>
        refine ⟨i + 1, by omega, by go_num, ?_, ?_, HM.out.2.trans (HB.out.2.2.2.2.trans (D.Off.of_below hb3))⟩
        · rw [HHT.out, HB.out.2.1, str_app, str_app, List.append_assoc]
        · obtain ⟨d', hm', hd'⟩ := HB.out.2.2.2.1
          exact ⟨d', hm'.below hb3, hd'⟩
      case measure => simp [iOf]; omega
    · obtain rfl : i = idl.length := by omega
      have hAl := HAL.out _ (Nat.le_refl _)
      generalize hA : (idl.take idl.length).flatMap F = A at *
      have HAE : Hid ((idl.take idl.length).flatMap F = A) := hA
      clear hA
      have hz1 := strN_size A
      have hz1' : (strOfNums A).size ≤ 750000 := by omega
      have HST := fun W hm => (let ⟨di, hm', _⟩ := (hm : ∃ di, Mi w0 W k s di ∧ Rdd d di); H24.out W di hm')
      clear H18 HID HTK hAl hz1 HAL H24
      have u1 := u8w (st / 256)
      have u2' := u8w st
      have q2 : (convert 29 9 (.slice (some ⟨wr.heap.size, 0, none⟩) 2 2)).run Tryz.prog (wr.alloc (.cells #[.int .u8 (st / 256 % 256), .int .u8 (st % 256)] 5)) = .ok (.string (strOfNums [st / 256 % 256, st % 256])) (wr.alloc (.cells #[.int .u8 (st / 256 % 256), .int .u8 (st % 256)] 5)) := conv_new wr [st / 256 % 256, st % 256] (by intro z hz; simp at hz; omega) 2 rfl
      have hz3 := strN_size [st / 256 % 256, st % 256]
      have hz3' : [st / 256 % 256, st % 256].length = 2 := rfl
      rw [hz3'] at hz3
      clear hz3'
      go_wp2_with (first
        | (go_at_call 24; refine (HST _ HM.out.1).mono ?_; rintro e w2 ⟨rfl, hw⟩; obtain rfl := hw.symm)
        | fail)
      go_ret
      obtain ⟨d', hm', hd'⟩ := HM.out.1
      refine ⟨d', ?_, hm'.below ((Below.refl _ _).alloc (Nat.le_refl _) _), hd', HO1.out.trans (HM.out.2.trans (D.Off.of_below ((Below.refl _ _).alloc (Nat.le_refl _) _)))⟩
      rw [HAE.out, str_app]; rfl
end Go.Proofs.YtelhlikeefpjnaaGreat
namespace Go.Proofs.YtelhlikeefpjnaaGreat
set_option maxRecDepth 20000
open Go.RowKit
set_option linter.unusedVariables false
set_option linter.unusedSimpArgs false
def Kw (w0 w : World) (k : Pl) (im iv : List Int) : Prop := ∃ s d, Mi w0 w k s d ∧ Rest s d im ∧ imgS s.c.tb s.c.st d.B = iv
def Kz (w0 w : World) (k : Pl) (im im2 : List Int) : Prop := ∃ s d, Mi w0 w k s d ∧ (d.down = false → Rest s d im) ∧ ∀ f, AllB f → Kept (D.crashS d f) im ∨ Kept (D.crashS d f) im2
def Kd (w0 w : World) (dp nb mb : Nat) (im : List Int) : Prop := ∃ d, D.Dk w dp nb mb d ∧ Kept d im ∧ d.down = false ∧ (∀ x ∈ [dp, nb, mb], w0.heap.size ≤ x) ∧ Below w0.heap.size w0 w
theorem Kw.kz {w0 w : World} {k : Pl} {im iv : List Int} (h : Kw w0 w k im iv) : Kz w0 w k im im := by
  obtain ⟨s, d, hm, hr, _⟩ := h
  exact ⟨s, d, hm, fun _ => hr, fun f hf => .inl (hr.kept.crash hf)⟩
theorem Kw.below {w0 w w' : World} {k : Pl} {im iv : List Int} (h : Kw w0 w k im iv) (hb : Below w.heap.size w w') : Kw w0 w' k im iv := by
  obtain ⟨s, d, hm, hr, hi⟩ := h
  exact ⟨s, d, hm.below hb, hr, hi⟩
theorem Kw.lt {w0 w : World} {k : Pl} {im iv : List Int} (h : Kw w0 w k im iv) : ∀ x ∈ k.X, x < w.heap.size := by
  obtain ⟨s, d, hm, hr, hi⟩ := h
  exact hm.sy.lt
theorem Kw.be {w0 w : World} {k : Pl} {im iv : List Int} (h : Kw w0 w k im iv) : Below w0.heap.size w0 w := by
  obtain ⟨s, d, hm, hr, hi⟩ := h
  exact hm.be
theorem Kw.all {w0 w : World} {k : Pl} {im iv : List Int} (h : Kw w0 w k im iv) : AllB im ∧ AllB iv := by
  obtain ⟨s, d, hm, hr, hi⟩ := h
  have key : ∀ (tb : List Int) (st : Int) (S : Nat → List Int), (∀ z ∈ tb, z ≠ 0 → AllB (S z.toNat)) → AllB (imgS tb st S) := fun tb st S hS => by
    unfold imgS
    refine AllB.append (fun z hz => ?_) (fun z hz => ?_)
    · obtain ⟨id, hid, hz⟩ := List.mem_flatMap.1 hz
      obtain ⟨h1, h2, h3⟩ := ids_mem hid
      have hA := hS _ (get_mem h3).1 h3
      unfold pgB at hz
      rcases List.mem_append.1 hz with q | q
      · simp at q; omega
      · exact opB_all hA z q
    · unfold stB at hz
      simp at hz; omega
  constructor
  · rw [hr.sf.last.img]
    exact key _ _ _ (fun z hz h0 => (hr.sf.ok.isS _ (by rw [hr.sf.room]; exact hr.sf.last.has.2.2.1 _ (hr.sf.last.has.2.2.2 z hz h0))).2)
  · rw [← hi]
    exact key _ _ _ (fun z hz h0 => (hr.sf.ok.isB _ (by rw [hr.sf.room]; have := (hr.inv.core.ok.c.tb.ins z hz).resolve_left h0; omega)).2)
theorem k_image {w0 W : World} {k : Pl} {im iv : List Int} (h : Kw w0 W k im iv) : Calls Tryz.prog 31 #[.pointer (some ⟨k.p, 0, none⟩)] W fun e w' => e = .returned (.string (strOfNums iv)) ∧ Kw w0 w' k im iv ∧ D.Off k.X W w' := by
  obtain ⟨s, d, hm, hr, hi⟩ := h
  refine (image_r W hm hr).mono ?_
  rintro e w' ⟨d', rfl, hm', hd, ho⟩
  rw [hi]
  refine ⟨rfl, ⟨s, d', hm', hr.rdd hd, ?_⟩, ho⟩
  obtain ⟨n, rfl⟩ := hd
  exact hi
theorem k_alloc {w0 W : World} {k : Pl} {im iv : List Int} (h : Kw w0 W k im iv) (kd : Int) (a : Option Addr) (n cap : Nat) (zs : List Int) (hl : zs.length = n) (hv : BV W a zs) (hn : a = none → cap = 0) (hm : n ≤ 9223372036854775807) :
    Calls Tryz.prog 17 #[.pointer (some ⟨k.p, 0, none⟩), .int .i64 kd, .slice a n cap] W fun e w' => (∃ x y, e = .returned (.tuple #[.int .i64 x, .int .i64 y])) ∧ Kz w0 w' k im im ∧ D.Off k.X W w' := by
  subst hl
  obtain ⟨s, d, hmi, hr, hi⟩ := h
  refine (m_alloc kd a cap zs W hmi hv hn hm).mono ?_
  rintro e w' ⟨rfl, hm', ho⟩
  obtain ⟨r1, r2⟩ := alloc_rest hr kd hv.1
  exact ⟨⟨_, _, rfl⟩, ⟨_, _, hm', r2, fun f hf => .inl (r1.crash hf)⟩, ho⟩
theorem k_write {w0 W : World} {k : Pl} {im iv : List Int} (h : Kw w0 W k im iv) (id kd : Int) (a : Option Addr) (n cap : Nat) (zs : List Int) (hl : zs.length = n) (hv : BV W a zs) (hn : a = none → cap = 0) (hm : n ≤ 9223372036854775807) :
    Calls Tryz.prog 19 #[.pointer (some ⟨k.p, 0, none⟩), .int .i64 id, .int .i64 kd, .slice a n cap] W fun e w' => (∃ x, e = .returned (.int .i64 x)) ∧ Kz w0 w' k im im ∧ D.Off k.X W w' := by
  subst hl
  obtain ⟨s, d, hmi, hr, hi⟩ := h
  refine (m_write id kd a cap zs W hmi hv hn hm).mono ?_
  rintro e w' ⟨rfl, hm', ho⟩
  obtain ⟨r1, r2⟩ := write_rest hr id kd hv.1
  exact ⟨⟨_, rfl⟩, ⟨_, _, hm', r2, fun f hf => .inl (r1.crash hf)⟩, ho⟩
theorem k_free {w0 W : World} {k : Pl} {im iv : List Int} (h : Kw w0 W k im iv) (id : Int) :
    Calls Tryz.prog 20 #[.pointer (some ⟨k.p, 0, none⟩), .int .i64 id] W fun e w' => (∃ x, e = .returned (.int .i64 x)) ∧ Kz w0 w' k im im ∧ D.Off k.X W w' := by
  obtain ⟨s, d, hmi, hr, hi⟩ := h
  refine (m_free id W hmi).mono ?_
  rintro e w' ⟨rfl, hm', ho⟩
  have r := free_rest hr id
  exact ⟨⟨_, rfl⟩, ⟨_, _, hm', fun _ => r, fun f hf => .inl (r.kept.crash hf)⟩, ho⟩
theorem k_start {w0 W : World} {k : Pl} {im iv : List Int} (h : Kw w0 W k im iv) (id : Int) :
    Calls Tryz.prog 21 #[.pointer (some ⟨k.p, 0, none⟩), .int .i64 id] W fun e w' => (∃ x, e = .returned (.int .i64 x)) ∧ Kz w0 w' k im im ∧ D.Off k.X W w' := by
  obtain ⟨s, d, hmi, hr, hi⟩ := h
  refine (m_setstart id W hmi).mono ?_
  rintro e w' ⟨rfl, hm', ho⟩
  have r := start_rest hr id
  exact ⟨⟨_, rfl⟩, ⟨_, _, hm', fun _ => r, fun f hf => .inl (r.kept.crash hf)⟩, ho⟩
theorem k_abort {w0 W : World} {k : Pl} {im iv : List Int} (h : Kw w0 W k im iv) :
    Calls Tryz.prog 23 #[.pointer (some ⟨k.p, 0, none⟩)] W fun e w' => e = .returned (.int .i64 0) ∧ Kw w0 w' k im im ∧ D.Off k.X W w' := by
  obtain ⟨s, d, hmi, hr, hi⟩ := h
  refine (m_abort W hmi).mono ?_
  rintro e w' ⟨rfl, hm', ho⟩
  obtain ⟨r1, r2⟩ := abort_rest hr
  rw [r1] at hm' ⊢
  exact ⟨rfl, ⟨_, _, hm', r2, r2.img rfl⟩, ho⟩
theorem k_commit {w0 W : World} {k : Pl} {im iv : List Int} (h : Kw w0 W k im iv) :
    Calls Tryz.prog 22 #[.pointer (some ⟨k.p, 0, none⟩)] W fun e w' => ∃ c, e = .returned (.int .i64 c) ∧ ((c = 0 ∧ Kw w0 w' k iv iv) ∨ (c ≠ 0 ∧ Kz w0 w' k im iv)) ∧ D.Off k.X W w' := by
  obtain ⟨s, d, hmi, hr, hi⟩ := h
  refine (m_commit W hmi).mono ?_
  rintro e w' ⟨rfl, hm', ho⟩
  refine ⟨_, rfl, ?_, ho⟩
  by_cases hdt : s.c.dt = true
  · rcases commit_rest hr hdt with ⟨c1, c2, c3⟩ | ⟨c1, c2, c3⟩
    · rw [hi] at c2
      exact .inl ⟨c1, _, _, hm', c2, c2.img c3⟩
    · rw [hi] at c3
      exact .inr ⟨c1, _, _, hm', c2, c3⟩
  · have hdt : s.c.dt = false := by simpa using hdt
    have e : comR s d (us2S s) = (0, s, d) := by unfold comR; rw [hr.bad, hdt]; rfl
    have hc := hr.clean hdt
    rw [hi] at hc
    rw [e] at hm' ⊢
    subst hc
    exact .inl ⟨rfl, _, _, hm', hr, hi⟩
theorem k_fail {w0 W : World} {k : Pl} {im iv : List Int} (h : Kw w0 W k im iv) (n : Int) (b : Bool) (hn : n ≤ 9223372036854775807) :
    Calls Tryz.prog 32 #[.pointer (some ⟨k.dp, 0, none⟩), .int .i64 n, .bool b] W fun e w' => (∃ x, e = .returned (.int .i64 x)) ∧ Kz w0 w' k im im ∧ D.Off k.X W w' := by
  obtain ⟨s, d, hmi, hr, hi⟩ := h
  refine (D.fail_any k.dp k.nb k.mb d n b W hmi.sy.dk hn).mono ?_
  rintro e w' ⟨rfl, hd, ho⟩
  have r := fail_rest hr n hn b
  have hroom : (D.failS d n b).room = d.room := by unfold D.failS; split <;> rfl
  have hox : D.Off k.X W w' := ho.mono k.sub
  exact ⟨⟨_, rfl⟩, ⟨_, _, hmi.step (let ⟨t, f, t', f', u, sb, db, nx, hx⟩ := hmi.sy; ⟨t, f, t', f', u, sb, db, nx, hx.disk hd ho⟩) hmi.inv hroom rfl hox, fun _ => r, fun f hf => .inl (r.kept.crash hf)⟩, hox⟩
theorem k_down {w0 W : World} {k : Pl} {im im2 : List Int} (h : Kz w0 W k im im2) : Calls Tryz.prog 34 #[.pointer (some ⟨k.dp, 0, none⟩)] W fun e w' => ∃ b, e = .returned (.bool b) ∧ w' = W ∧ (b = false → ∃ iv, Kw w0 W k im iv) := by
  obtain ⟨s, d, hmi, hr, hk⟩ := h
  refine (D.down_any k.dp k.nb k.mb d W hmi.sy.dk).mono ?_
  rintro e w' ⟨rfl, rfl⟩
  exact ⟨_, rfl, rfl, fun hb => ⟨_, s, d, hmi, hr hb, rfl⟩⟩
theorem k_up {w0 W : World} {k : Pl} {im iv : List Int} (h : Kw w0 W k im iv) : Calls Tryz.prog 34 #[.pointer (some ⟨k.dp, 0, none⟩)] W fun e w' => e = .returned (.bool false) ∧ w' = W := by
  obtain ⟨s, d, hmi, hr, hk⟩ := h
  have := D.down_any k.dp k.nb k.mb d W hmi.sy.dk
  rw [hr.dn] at this
  exact this
theorem k_crash {w0 W : World} {k : Pl} {im im2 : List Int} (h : Kz w0 W k im im2) (a : Option Addr) (n cap : Nat) (fs : List Int) (hl : fs.length = n) (hc : n ≤ cap) (hc2 : cap ≤ 9223372036854775807) (hv : D.BV w0 a fs) :
    Calls Tryz.prog 33 #[.pointer (some ⟨k.dp, 0, none⟩), .slice a n cap] W fun e w' => e = .returned (.tuple #[]) ∧ (Kd w0 w' k.dp k.nb k.mb im ∨ Kd w0 w' k.dp k.nb k.mb im2) ∧ D.Off k.X W w' := by
  subst hl
  obtain ⟨s, d, hmi, hr, hk⟩ := h
  have hup : ∀ x ∈ [k.dp, k.nb, k.mb], w0.heap.size ≤ x := fun x hx => hmi.up x (k.sub x hx)
  have hF : D.FV W [k.dp, k.nb, k.mb] (.slice a fs.length cap) fs := ⟨a, cap, rfl, hc, hc2, hv.below hmi.be, fun hne b off e hm => by
    have := hup b hm
    rcases hv.2 with h0 | ⟨b', off', e', hlt, _⟩
    · exact hne h0
    · have q := Option.some.inj (e.symm.trans e')
      have q2 : b = b' := congrArg Addr.block q
      omega⟩
  refine (D.crash_any k.dp k.nb k.mb d _ fs W hmi.sy.dk hF).mono ?_
  rintro e w' ⟨rfl, hd, ho⟩
  have hbe : Below w0.heap.size w0 w' := hmi.be.trans (ho.below hmi.be.size hup)
  refine ⟨rfl, ?_, ho.mono k.sub⟩
  rcases hk fs hv.1 with q | q
  · exact .inl ⟨_, hd, q, rfl, hup, hbe⟩
  · exact .inr ⟨_, hd, q, rfl, hup, hbe⟩
theorem k_open {w0 W : World} {dp nb mb : Nat} {im : List Int} (h : Kd w0 W dp nb mb im) : Calls Tryz.prog 15 #[.pointer (some ⟨dp, 0, none⟩)] W fun e w' => ∃ p, e = .returned (.tuple #[.pointer (some ⟨p, 0, none⟩), .int .i64 0]) ∧ Kw w0 w' ⟨p, dp, nb, mb⟩ im im := by
  obtain ⟨d, hd, hk, hdn, hup, hbe⟩ := h
  obtain ⟨o1, o2, o3, o4⟩ := hk.open hdn
  refine (m_open W hd hup hbe hk.ok.2).mono ?_
  rintro e w' ⟨⟨_, p, rfl, hm⟩ | ⟨q, _⟩, _, _⟩
  · exact ⟨p, rfl, _, _, hm, o2, o2.img o3⟩
  · exact absurd o1 q
theorem k_format {w0 W : World} {dp nb mb : Nat} (h : D.Dk W dp nb mb (D.newS 40)) (hup : ∀ x ∈ [dp, nb, mb], w0.heap.size ≤ x) (hbe : Below w0.heap.size w0 W) : Calls Tryz.prog 16 #[.pointer (some ⟨dp, 0, none⟩)] W fun e w' => ∃ p, e = .returned (.tuple #[.pointer (some ⟨p, 0, none⟩), .int .i64 0]) ∧ Kw w0 w' ⟨p, dp, nb, mb⟩ [0, 0] [0, 0] := by
  obtain ⟨f1, f2, f3, f4⟩ := format_rest
  refine (m_format W h hup hbe (by decide)).mono ?_
  rintro e w' ⟨⟨_, p, rfl, hm⟩ | ⟨q, _⟩, _, _⟩
  · exact ⟨p, rfl, _, _, hm, f2, f2.img f3⟩
  · exact absurd f1 q
end Go.Proofs.YtelhlikeefpjnaaGreat
namespace Go.Proofs.YtelhlikeefpjnaaGreat
set_option maxRecDepth 20000
open Go.RowKit
set_option linter.unusedVariables false
set_option linter.unusedSimpArgs false
theorem calm_place {s : SS} {d : D.DS} (h : Calm d) (hr : d.room = s.bl) (id : Nat) {zs : List Int} (hl : zs.length = 256) : Calm (placeR s d id zs).2.2 := (h.place hr id hl).2.2
theorem calm_alloc {s : SS} {d : D.DS} (h : Calm d) (hr : d.room = s.bl) (kd : Int) (zs : List Int) : Calm (allocR s d kd zs).2 := by
  unfold allocR
  split
  · exact h
  · rename_i hc
    have he : sealE kd (spareN s.c.tb : Nat) zs.length = 0 := Decidable.byContradiction fun e => hc (Or.inr (Or.inr e))
    exact calm_place h hr _ (seal_len (sealE_zero he).2.2.2.2)
theorem calm_write {s : SS} {d : D.DS} (h : Calm d) (hr : d.room = s.bl) (ok : s.Ok) (id kd : Int) (zs : List Int) : Calm (wrR s d id kd zs).2.2 := by
  unfold wrR
  split
  · exact h
  · rename_i hf
    obtain ⟨h1, h2, h3, h4, h5⟩ := find_id (by simpa using hf)
    split
    · exact h
    · rename_i hse
      have hl : (sealS kd id zs).length = 256 := seal_len (sealE_zero (by simpa using hse)).2.2.2.2
      split
      · have hr' := (ok.c.tb.ins _ (blk_mem h4).1).resolve_left h4
        rw [h3]
        exact (h.write (by omega) (by rw [hr]; omega) hl).2
      · exact calm_place h hr _ hl
theorem calm_commit {s : SS} {d : D.DS} (h : Calm d) (hr : d.room = s.bl) (hb : 2 ≤ s.bl) (he : 0 ≤ s.ep) (us2 : List Int) : Calm (comR s d us2).2.2 := by
  unfold comR
  split
  · exact h
  · split
    · exact h
    · by_cases hk : R.checkE (rootD s (s.ep + 1)) = 0
      · exact (h.settle hr hb (by omega) us2 hk).2.2
      · unfold settleR
        split
        · exact h
        · exact h
theorem Calm.rdd {d d' : D.DS} (h : Calm d) (hd : Rdd d d') : Calm d' := by
  obtain ⟨n, rfl⟩ := hd
  exact ⟨h.dn, h.fl⟩
theorem ids_count (tb : List Int) : (idsS tb).length = (tb.filter (fun z => decide (z ≠ 0))).length := by
  unfold idsS idsTo
  rw [List.length_map]
  have e : tb = (List.range tb.length).map (fun i => tb.getD i 0) := by
    refine List.ext_getElem (by simp) (fun i h1 h2 => ?_)
    simp [List.getD_eq_getElem?_getD, h1]
  conv => rhs; rw [e, List.filter_map, List.length_map]
  rfl
theorem ids_last {tb : List Int} (h : Trim tb) : (idsS tb = [] ∧ tb = []) ∨ ∃ l, idsS tb = l ++ [tb.length] := by
  rcases h with rfl | h
  · exact .inl ⟨rfl, rfl⟩
  · right
    have hl : 0 < tb.length := by
      rcases Nat.eq_zero_or_pos tb.length with e | e
      · rw [List.eq_nil_of_length_eq_zero e] at h; exact absurd rfl h
      · exact e
    obtain ⟨n, hn⟩ : ∃ n, tb.length = n + 1 := ⟨tb.length - 1, by omega⟩
    rw [hn, Nat.add_sub_cancel] at h
    refine ⟨idsTo tb n, ?_⟩
    unfold idsS
    rw [hn]
    unfold idsTo
    rw [List.range_succ, List.filter_append, List.map_append]
    congr 1
    rw [List.filter_cons_of_pos (by simpa using h)]
    rfl
theorem used_clean {s : SS} {d : D.DS} {im : List Int} (h : Rest s d im) (hd : s.c.dt = false) (hb : s.bl = 40) : usedN s = 3 + (idsS s.c.tb).length + (s.c.tb.length + 122) / 123 := by
  have hc := h.inv.cln hd
  obtain ⟨T, M, hr, _, h2, h3, ho⟩ := h.sf.last.ex
  obtain ⟨g1, g2, g3⟩ := once_facts h.sf.last.b2 h.sf.last.b4 h.sf.last.tbo hr ho
  have hT : T.length = (s.c.tb.length + 122) / 123 := by
    rw [h2.len, split_count, wordsS_len, hc]; unfold nPages; omega
  have hM : M.length = 1 := by
    rw [h3.len, split_count, onceR_len ho, show (rootsS s.bl).length = _ from rootsK_len s.bl 2, hb]
    decide
  have hT0 : T.filter (fun z => decide (z ≠ 0)) = T := List.filter_eq_self.2 (fun z hz => by have := hr.tb z hz; simp; omega)
  have hM0 : M.filter (fun z => decide (z ≠ 0)) = M := List.filter_eq_self.2 (fun z hz => by have := hr.mb z hz; simp; omega)
  have hmk : 8 * B.makeN s.bl = 40 := by rw [hb]; decide
  have key : ((List.range 40).filter (fun n => B.hasB s.us n || B.hasB s.c.fr n)).Perm ([0, 1] ++ ((s.l.tb ++ T ++ M).filter (fun z => decide (z ≠ 0))).map Int.toNat) := by
    refine (List.perm_ext_iff_of_nodup ?_ ?_).2 (fun n => ?_)
    · exact List.Pairwise.filter _ List.nodup_range
    · refine List.nodup_append.2 ⟨by decide, ?_, fun a ha b hb' e => ?_⟩
      · unfold List.Nodup
        rw [List.pairwise_map, List.pairwise_filter]
        refine g2.imp_of_mem (fun {a b} ha hb' hab h0 h1 e => ?_)
        simp at h0 h1
        have := (g1 a ha).resolve_left h0
        have := (g1 b hb').resolve_left h1
        exact hab h0 h1 (by omega)
      · obtain ⟨z, hz, rfl⟩ := List.mem_map.1 hb'
        have h0 := List.mem_filter.1 hz
        have hz0 : z ≠ 0 := by simpa using h0.2
        have := (g1 z h0.1).resolve_left hz0
        simp at ha
        omega
    · rw [List.mem_filter, List.mem_range, List.mem_append, List.mem_map, g3, show B.hasB s.c.fr n = false by rw [hc]; exact h.inv.lfr n]
      simp only [Bool.or_false, Bool.or_eq_true, decide_eq_true_eq]
      constructor
      · rintro ⟨h1, h2 | ⟨h2, h3⟩⟩
        · left; simp; omega
        · exact .inr ⟨(n : Int), List.mem_filter.2 ⟨h3, by simp; omega⟩, by simp⟩
      · rintro (h1 | ⟨z, hz, rfl⟩)
        · simp at h1
          exact ⟨by omega, .inl (by omega)⟩
        · have h0 := List.mem_filter.1 hz
          have hz0 : z ≠ 0 := by simpa using h0.2
          have := (g1 z h0.1).resolve_left hz0
          exact ⟨by omega, .inr ⟨by omega, by rw [Int.toNat_of_nonneg (by omega)]; exact h0.1⟩⟩
  unfold usedN
  rw [hmk, key.length_eq, List.length_append, List.length_map, List.filter_append, List.filter_append, hT0, hM0, List.length_append, List.length_append, hT, hM, ids_count, hc]
  simp
  omega
def Kq (w0 w : World) (k : Pl) (im iv : List Int) : Prop := ∃ s d, Mi w0 w k s d ∧ Rest s d im ∧ imgS s.c.tb s.c.st d.B = iv ∧ Calm d ∧ s.bl = 40
theorem Kq.below {w0 w w' : World} {k : Pl} {im iv : List Int} (h : Kq w0 w k im iv) (hb : Below w.heap.size w w') : Kq w0 w' k im iv := by
  obtain ⟨s, d, hm, hr, hi, hc, h4⟩ := h
  exact ⟨s, d, hm.below hb, hr, hi, hc, h4⟩
theorem Kq.be {w0 w : World} {k : Pl} {im iv : List Int} (h : Kq w0 w k im iv) : Below w0.heap.size w0 w := by
  obtain ⟨s, d, hm, _⟩ := h
  exact hm.be
theorem q_image {w0 W : World} {k : Pl} {im iv : List Int} (h : Kq w0 W k im iv) : Calls Tryz.prog 31 #[.pointer (some ⟨k.p, 0, none⟩)] W fun e w' => e = .returned (.string (strOfNums iv)) ∧ Kq w0 w' k im iv := by
  obtain ⟨s, d, hm, hr, hi, hc, h4⟩ := h
  refine (image_r W hm hr).mono ?_
  rintro e w' ⟨d', rfl, hm', hd, ho⟩
  rw [hi]
  refine ⟨rfl, s, d', hm', hr.rdd hd, ?_, hc.rdd hd, h4⟩
  obtain ⟨n, rfl⟩ := hd
  exact hi
theorem qs_alloc {w0 W : World} {k : Pl} {im iv : List Int} (h : Kq w0 W k im iv) (kd : Int) (a : Option Addr) (n cap : Nat) (zs : List Int) (hl : zs.length = n) (hv : BV W a zs) (hn : a = none → cap = 0) (hm : n ≤ 9223372036854775807) :
    Calls Tryz.prog 17 #[.pointer (some ⟨k.p, 0, none⟩), .int .i64 kd, .slice a n cap] W fun e w' => (∃ x y, e = .returned (.tuple #[.int .i64 x, .int .i64 y])) ∧ ∃ iu, Kq w0 w' k im iu := by
  subst hl
  obtain ⟨s, d, hmi, hr, hi, hc, h4⟩ := h
  refine (m_alloc kd a cap zs W hmi hv hn hm).mono ?_
  rintro e w' ⟨rfl, hm', ho⟩
  obtain ⟨r1, r2⟩ := alloc_rest hr kd hv.1
  have hc' := calm_alloc hc hmi.room kd zs
  exact ⟨⟨_, _, rfl⟩, _, _, _, hm', r2 hc'.dn, rfl, hc', (alloc_bl s d kd zs).trans h4⟩
theorem qs_write {w0 W : World} {k : Pl} {im iv : List Int} (h : Kq w0 W k im iv) (id kd : Int) (a : Option Addr) (n cap : Nat) (zs : List Int) (hl : zs.length = n) (hv : BV W a zs) (hn : a = none → cap = 0) (hm : n ≤ 9223372036854775807) :
    Calls Tryz.prog 19 #[.pointer (some ⟨k.p, 0, none⟩), .int .i64 id, .int .i64 kd, .slice a n cap] W fun e w' => (∃ x, e = .returned (.int .i64 x)) ∧ ∃ iu, Kq w0 w' k im iu := by
  subst hl
  obtain ⟨s, d, hmi, hr, hi, hc, h4⟩ := h
  refine (m_write id kd a cap zs W hmi hv hn hm).mono ?_
  rintro e w' ⟨rfl, hm', ho⟩
  obtain ⟨r1, r2⟩ := write_rest hr id kd hv.1
  have hc' := calm_write hc hmi.room hmi.inv.core.ok id kd zs
  exact ⟨⟨_, rfl⟩, _, _, _, hm', r2 hc'.dn, rfl, hc', (wr_bl s d id kd zs).trans h4⟩
theorem qs_free {w0 W : World} {k : Pl} {im iv : List Int} (h : Kq w0 W k im iv) (id : Int) :
    Calls Tryz.prog 20 #[.pointer (some ⟨k.p, 0, none⟩), .int .i64 id] W fun e w' => (∃ x, e = .returned (.int .i64 x)) ∧ ∃ iu, Kq w0 w' k im iu := by
  obtain ⟨s, d, hmi, hr, hi, hc, h4⟩ := h
  refine (m_free id W hmi).mono ?_
  rintro e w' ⟨rfl, hm', ho⟩
  have e1 : (frR s d id).2.2 = d := by unfold frR; split; rfl; split <;> rfl
  exact ⟨⟨_, rfl⟩, _, _, _, hm', free_rest hr id, rfl, by rw [e1]; exact hc, (fr_bl s d id).trans h4⟩
theorem qs_start {w0 W : World} {k : Pl} {im iv : List Int} (h : Kq w0 W k im iv) (id : Int) :
    Calls Tryz.prog 21 #[.pointer (some ⟨k.p, 0, none⟩), .int .i64 id] W fun e w' => (∃ x, e = .returned (.int .i64 x)) ∧ ∃ iu, Kq w0 w' k im iu := by
  obtain ⟨s, d, hmi, hr, hi, hc, h4⟩ := h
  refine (m_setstart id W hmi).mono ?_
  rintro e w' ⟨rfl, hm', ho⟩
  have e1 : (stR s d id).2.2 = d := by unfold stR; split; rfl; split; rfl; split <;> rfl
  exact ⟨⟨_, rfl⟩, _, _, _, hm', start_rest hr id, rfl, by rw [e1]; exact hc, (st_bl s d id).trans h4⟩
theorem qs_abort {w0 W : World} {k : Pl} {im iv : List Int} (h : Kq w0 W k im iv) :
    Calls Tryz.prog 23 #[.pointer (some ⟨k.p, 0, none⟩)] W fun e w' => e = .returned (.int .i64 0) ∧ Kq w0 w' k im im := by
  obtain ⟨s, d, hmi, hr, hi, hc, h4⟩ := h
  refine (m_abort W hmi).mono ?_
  rintro e w' ⟨rfl, hm', ho⟩
  obtain ⟨r1, r2⟩ := abort_rest hr
  rw [r1] at hm' ⊢
  exact ⟨rfl, _, _, hm', r2, r2.img rfl, hc, h4⟩
theorem qs_commit {w0 W : World} {k : Pl} {im iv : List Int} (h : Kq w0 W k im iv) :
    Calls Tryz.prog 22 #[.pointer (some ⟨k.p, 0, none⟩)] W fun e w' => ∃ c, e = .returned (.int .i64 c) ∧ ((c = 0 ∧ Kq w0 w' k iv iv) ∨ (c ≠ 0 ∧ ∃ iu, Kq w0 w' k im iu)) := by
  obtain ⟨s, d, hmi, hr, hi, hc, h4⟩ := h
  have hc' := calm_commit hc hmi.room hr.sf.last.b2 hr.sf.last.e0 (us2S s)
  refine (m_commit W hmi).mono ?_
  rintro e w' ⟨rfl, hm', ho⟩
  refine ⟨_, rfl, ?_⟩
  by_cases hdt : s.c.dt = true
  · rcases commit_rest hr hdt with ⟨c1, c2, c3⟩ | ⟨c1, c2, c3⟩
    · rw [hi] at c2
      exact .inl ⟨c1, _, _, hm', c2, c2.img c3, hc', (com_bl s d (us2S s)).trans h4⟩
    · exact .inr ⟨c1, _, _, _, hm', c2 hc'.dn, rfl, hc', (com_bl s d (us2S s)).trans h4⟩
  · have hdt : s.c.dt = false := by simpa using hdt
    have e : comR s d (us2S s) = (0, s, d) := by unfold comR; rw [hr.bad, hdt]; rfl
    have hcl := hr.clean hdt
    rw [hi] at hcl
    rw [e] at hm' ⊢
    subst hcl
    exact .inl ⟨rfl, _, _, hm', hr, hi, hc, h4⟩
theorem qs_open {w0 W : World} {k : Pl} {im iv : List Int} (h : Kq w0 W k im iv) : Calls Tryz.prog 15 #[.pointer (some ⟨k.dp, 0, none⟩)] W fun e w' => ∃ p, e = .returned (.tuple #[.pointer (some ⟨p, 0, none⟩), .int .i64 0]) ∧ Kq w0 w' ⟨p, k.dp, k.nb, k.mb⟩ im im := by
  obtain ⟨s, d, hmi, hr, hi, hc, h4⟩ := h
  obtain ⟨o1, o2, o3, o4⟩ := hr.kept.open hr.dn
  have hbl := (open_keep hr.sf.ok hr.kept.ok.2 o1).2
  refine (m_open W hmi.sy.dk (fun x hx => hmi.up x (k.sub x hx)) hmi.be hr.kept.ok.2).mono ?_
  rintro e w' ⟨⟨_, p, rfl, hm⟩ | ⟨q, _⟩, _, _⟩
  · exact ⟨p, rfl, _, _, hm, o2, o2.img o3, hc.rdd o4, by rw [hbl, hr.sf.room, h4]⟩
  · exact absurd o1 q
theorem qs_format {w0 W : World} {dp nb mb : Nat} (h : D.Dk W dp nb mb (D.newS 40)) (hup : ∀ x ∈ [dp, nb, mb], w0.heap.size ≤ x) (hbe : Below w0.heap.size w0 W) : Calls Tryz.prog 16 #[.pointer (some ⟨dp, 0, none⟩)] W fun e w' => ∃ p, e = .returned (.tuple #[.pointer (some ⟨p, 0, none⟩), .int .i64 0]) ∧ Kq w0 w' ⟨p, dp, nb, mb⟩ [0, 0] [0, 0] := by
  obtain ⟨f1, f2, f3, f4⟩ := format_rest
  refine (m_format W h hup hbe (by decide)).mono ?_
  rintro e w' ⟨⟨_, p, rfl, hm⟩ | ⟨q, _⟩, _, _⟩
  · exact ⟨p, rfl, _, _, hm, f2, f2.img f3, f4, by rw [← hm.room]; show (fmtR _ _).2.2.room = 40; rw [fmt_room]; decide⟩
  · exact absurd f1 q
def Kn (w0 w : World) (k : Pl) (im iv : List Int) (ids : List Nat) (T : Nat) : Prop := Kq w0 w k im iv ∧ ids.length ≤ 3000 ∧ T ≤ 100 ∧ ∃ s d, Mi w0 w k s d ∧ idsS s.c.tb = ids ∧ usedN s = 3 + ids.length + T
theorem qs_dirty {w0 W : World} {k : Pl} {im iv : List Int} (h : Kq w0 W k im iv) : Calls Tryz.prog 28 #[.pointer (some ⟨k.p, 0, none⟩)] W fun e w' => ∃ b, e = .returned (.bool b) ∧ w' = W ∧ (b = false → ∃ (ids : List Nat) (T : Nat), Kn w0 W k im iv ids T ∧ ((ids = [] ∧ T = 0) ∨ ∃ (l : List Nat) (n : Nat), ids = l ++ [n] ∧ n ≤ 3000 ∧ T = (n + 122) / 123)) := by
  have hq := h
  obtain ⟨s, d, hmi, hr, hi, hc, h4⟩ := h
  refine (m_dirty W hmi).mono ?_
  rintro e w' ⟨rfl, rfl⟩
  refine ⟨_, rfl, rfl, fun hb => ?_⟩
  have hu := used_clean hr hb h4
  have htl := hmi.inv.core.ok.c.tb.len
  have hil : (idsS s.c.tb).length ≤ 3000 := by
    rw [ids_count]
    have := List.length_filter_le (fun z => decide (z ≠ (0 : Int))) s.c.tb
    omega
  refine ⟨idsS s.c.tb, (s.c.tb.length + 122) / 123, ⟨hq, hil, by omega, s, d, hmi, rfl, hu⟩, ?_⟩
  rcases ids_last hr.ctr with ⟨e1, e2⟩ | ⟨l, e1⟩
  · exact .inl ⟨e1, by rw [e2]; rfl⟩
  · exact .inr ⟨l, _, e1, htl, rfl⟩
theorem qs_ids {w0 W : World} {k : Pl} {im iv : List Int} {ids : List Nat} {T : Nat} (h : Kn w0 W k im iv ids T) : Calls Tryz.prog 27 #[.pointer (some ⟨k.p, 0, none⟩)] W fun e w' => ∃ a cap, e = .returned (.slice a ids.length cap) ∧ Kn w0 w' k im iv ids T ∧ ∀ (l : List Nat) (n : Nat), ids = l ++ [n] → ∃ g, a = some ⟨g, 0, none⟩ ∧ w'.cell? ⟨g, ids.length - 1, none⟩ = some (.int .i64 (n : Int)) ∧ g < w'.heap.size := by
  obtain ⟨hq, h3, hT, s, d, hm, hi, hu⟩ := h
  refine (m_ids W hm).mono ?_
  rintro e w' ⟨v, rfl, ho, hm', hb⟩
  rw [hi] at ho
  obtain ⟨a, ea⟩ := ownN_slice ho
  refine ⟨a, slCap v, by rw [← ea], ⟨hq.below hb, h3, hT, s, d, hm', hi, hu⟩, fun l n e => ?_⟩
  have h1 : 1 ≤ ids.length := by rw [e]; simp
  obtain ⟨g, cap, rfl, _, hgl, _, _, hiv⟩ := ownN_some ho h1
  simp at ea
  refine ⟨g, ea.1.symm, ?_, hgl⟩
  rcases hiv with h0 | ⟨b, off, hbe, _, hc⟩
  · simp [ints] at h0; subst h0; simp at h1
  · simp at hbe
    obtain ⟨rfl, rfl⟩ := hbe
    have := hc (ids.length - 1) (by simp [ints]; omega)
    rw [Nat.zero_add] at this
    rw [this]
    congr 2
    rw [e]
    simp [ints]
theorem qs_used {w0 W : World} {k : Pl} {im iv : List Int} {ids : List Nat} {T : Nat} (h : Kn w0 W k im iv ids T) : Calls Tryz.prog 26 #[.pointer (some ⟨k.p, 0, none⟩)] W fun e w' => e = .returned (.int .i64 ((3 + ids.length + T : Nat) : Int)) ∧ Kq w0 w' k im iv := by
  obtain ⟨hq, h3, hT, s, d, hm, hi, hu⟩ := h
  refine (m_used W hm).mono ?_
  rintro e w' ⟨rfl, hm', hb⟩
  rw [hu]
  exact ⟨rfl, hq.below hb⟩
end Go.Proofs.YtelhlikeefpjnaaGreat
