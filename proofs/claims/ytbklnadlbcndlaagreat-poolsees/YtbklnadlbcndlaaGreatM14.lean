import Derived.Test.YtbklnadlbcndlaaGreatM12
import Derived.Test.YtbklnadlbcndlaaGreatM2
import Derived.Test.YtbklnadlbcndlaaGreatM13
namespace Go.Proofs.YtbklnadlbcndlaaGreat
set_option maxRecDepth 20000
open Go.RowKit
set_option linter.unusedVariables false
def iOf : Value → Int
  | .int _ q => q
  | _ => 0
def FB (w : World) (X : List Nat) (v : Value) (zs : List Int) : Prop :=
  ∃ a cap, v = .slice a zs.length cap ∧ (a = none → cap = 0) ∧ zs.length ≤ cap ∧ cap ≤ 9223372036854775807 ∧ BV w a zs ∧ (zs ≠ [] → ∀ b off, a = some ⟨b, off, none⟩ → b ∉ X)
def FI (w : World) (X : List Nat) (v : Value) (zs : List Int) : Prop :=
  ∃ a cap, v = .slice a zs.length cap ∧ (a = none → cap = 0) ∧ zs.length ≤ cap ∧ cap ≤ 9223372036854775807 ∧ IV w a zs ∧ (zs ≠ [] → ∀ b off, a = some ⟨b, off, none⟩ → b ∉ X)
theorem off_cell {w w' : World} {X : List Nat} (ho : D.Off X w w') {b : Nat} (hlt : b < w.heap.size) (hx : b ∉ X) (i : Nat) : w'.cell? ⟨b, i, none⟩ = w.cell? ⟨b, i, none⟩ := by
  simp only [World.cell?, ho.block b hlt hx]
theorem IV.offX {w w' : World} {a : Option Addr} {zs : List Int} {X : List Nat} (h : IV w a zs) (ho : D.Off X w w') (hx : zs ≠ [] → ∀ b off, a = some ⟨b, off, none⟩ → b ∉ X) : IV w' a zs := by
  rcases h with rfl | ⟨b, off, rfl, hlt, hc⟩
  · exact .inl rfl
  · by_cases hn : zs = []
    · exact .inl hn
    · exact .inr ⟨b, off, rfl, Nat.lt_of_lt_of_le hlt ho.size, fun i hi => (off_cell ho hlt (hx hn b off rfl) _).trans (hc i hi)⟩
theorem BV.offX {w w' : World} {a : Option Addr} {zs : List Int} {X : List Nat} (h : BV w a zs) (ho : D.Off X w w') (hx : zs ≠ [] → ∀ b off, a = some ⟨b, off, none⟩ → b ∉ X) : BV w' a zs := by
  rcases h with ⟨ha, rfl | ⟨b, off, rfl, hlt, hc⟩⟩
  · exact ⟨ha, .inl rfl⟩
  · by_cases hn : zs = []
    · exact ⟨ha, .inl hn⟩
    · exact ⟨ha, .inr ⟨b, off, rfl, Nat.lt_of_lt_of_le hlt ho.size, fun i hi => (off_cell ho hlt (hx hn b off rfl) _).trans (hc i hi)⟩⟩
theorem FI.off {w w' : World} {X Y : List Nat} {v : Value} {zs : List Int} (h : FI w X v zs) (ho : D.Off Y w w') (hs : ∀ y ∈ Y, y ∈ X) : FI w' X v zs := by
  obtain ⟨a, cap, e, h0, h1, h2, h3, h4⟩ := h
  exact ⟨a, cap, e, h0, h1, h2, h3.offX ho (fun hn b off e hm => h4 hn b off e (hs b hm)), h4⟩
theorem FB.off {w w' : World} {X Y : List Nat} {v : Value} {zs : List Int} (h : FB w X v zs) (ho : D.Off Y w w') (hs : ∀ y ∈ Y, y ∈ X) : FB w' X v zs := by
  obtain ⟨a, cap, e, h0, h1, h2, h3, h4⟩ := h
  exact ⟨a, cap, e, h0, h1, h2, h3.offX ho (fun hn b off e hm => h4 hn b off e (hs b hm)), h4⟩
theorem FI.below {w w' : World} {X : List Nat} {v : Value} {zs : List Int} (h : FI w X v zs) (hb : Below w.heap.size w w') : FI w' X v zs := h.off (D.Off.of_below (X := []) hb) (by simp)
theorem FB.below {w w' : World} {X : List Nat} {v : Value} {zs : List Int} (h : FB w X v zs) (hb : Below w.heap.size w w') : FB w' X v zs := h.off (D.Off.of_below (X := []) hb) (by simp)
theorem FB.all {w : World} {X : List Nat} {v : Value} {zs : List Int} (h : FB w X v zs) : AllB zs := by
  obtain ⟨a, cap, e, h0, h1, h2, h3, h4⟩ := h; exact h3.1
theorem FB.sub {w : World} {X Y : List Nat} {v : Value} {zs : List Int} (h : FB w X v zs) (hs : ∀ y ∈ Y, y ∈ X) : FB w Y v zs := by
  obtain ⟨a, cap, e, h0, h1, h2, h3, h4⟩ := h
  exact ⟨a, cap, e, h0, h1, h2, h3, fun hn b off e hm => h4 hn b off e (hs b hm)⟩
theorem FI.sub {w : World} {X Y : List Nat} {v : Value} {zs : List Int} (h : FI w X v zs) (hs : ∀ y ∈ Y, y ∈ X) : FI w Y v zs := by
  obtain ⟨a, cap, e, h0, h1, h2, h3, h4⟩ := h
  exact ⟨a, cap, e, h0, h1, h2, h3, fun hn b off e hm => h4 hn b off e (hs b hm)⟩
theorem fb_own {w : World} {base : Nat} {X : List Nat} {v : Value} {zs : List Int} (h : Own w base v zs) (hz : AllB zs) (hX : ∀ x ∈ X, x < base) : FB w X v zs := by
  have hl := World.ownsRow.lt h
  rcases h.2 with ⟨rfl, h0⟩ | ⟨g, cap, cur, rfl, hb, hg, hc, hm, hs, ht⟩
  · have : zs = [] := List.eq_nil_of_length_eq_zero h0
    subst this
    exact ⟨none, 0, rfl, fun _ => rfl, Nat.zero_le _, by omega, ⟨AllB.nil, .inl rfl⟩, fun h => absurd rfl h⟩
  · refine ⟨some ⟨g, 0, none⟩, cap, rfl, by simp, hc, hm, ⟨hz, .inr ⟨g, 0, rfl, (hl g rfl).2, fun i hi => ?_⟩⟩, fun _ b off e hx => ?_⟩
    · have := World.ownsRow.cellAt h i (by omega)
      rw [Nat.zero_add, this, List.getElem?_map, List.getElem?_eq_getElem hi, List.getD_eq_getElem?_getD, List.getElem?_eq_getElem hi]; rfl
    · simp at e
      have := hX b hx
      omega
theorem fi_own {w : World} {base : Nat} {X : List Nat} {v : Value} {zs : List Int} (h : OwnI w base v zs) (hX : ∀ x ∈ X, x < base) : FI w X v zs := by
  obtain ⟨a, cap, rfl, h1, h2, h3, h4⟩ := h.view
  refine ⟨a, cap, rfl, h1, h3, h4, h2.iv, fun hn b off e hx => ?_⟩
  rcases h2 with h2 | ⟨b', off', e', hb, _⟩
  · exact hn h2
  · rw [e] at e'; simp at e'
    have := hX b hx
    omega
theorem makeN_le (n : Int) : B.makeN n ≤ 512 := by unfold B.makeN; omega
theorem zeros_allB (n : Nat) : AllB (List.replicate n 0) := by
  intro z hz
  obtain ⟨_, rfl⟩ := List.mem_replicate.1 hz
  decide
theorem make_fb (n : Int) (X : List Nat) (w : World) (hX : ∀ x ∈ X, x < w.heap.size) : Calls Tryz.prog 103 #[.int .i64 n] w fun e w' => ∃ v, e = .returned v ∧ FB w' X v (List.replicate (B.makeN n) 0) ∧ Below w.heap.size w w' := by
  refine (B.make_any n w).mono ?_
  rintro e w' ⟨v, rfl, ho, hb⟩
  exact ⟨v, rfl, fb_own ho (zeros_allB _) hX, hb⟩
theorem withI_len (zs : List Int) (i : Int) (on : Bool) : (B.withI zs i on).length = zs.length := by
  unfold B.withI; split
  · exact B.setB_length _ _ _
  · rfl
theorem withI_all {zs : List Int} (h : AllB zs) (i : Int) (on : Bool) : AllB (B.withI zs i on) := by
  unfold B.withI; split
  · exact B.setB_all h _ _
  · exact h
theorem with_fb (v : Value) (zs : List Int) (i : Int) (on : Bool) (X : List Nat) (w : World) (h : FB w X v zs) (hn : zs.length ≤ 1000000) (hX : ∀ x ∈ X, x < w.heap.size) :
    Calls Tryz.prog 128 #[v, .int .i64 i, .bool on] w fun e w' => ∃ v', e = .returned v' ∧ FB w' X v' (B.withI zs i on) ∧ Below w.heap.size w w' := by
  obtain ⟨a, cap, rfl, h0, h1, h2, h3, h4⟩ := h
  refine (B.with_any a cap zs i on w h3 hn h0).mono ?_
  rintro e w' ⟨v, rfl, ho, hb⟩
  exact ⟨v, rfl, fb_own ho (withI_all h3.1 _ _) hX, hb⟩
theorem has_fb (v : Value) (zs : List Int) (i : Int) (X : List Nat) (w : World) (h : FB w X v zs) (hn : zs.length ≤ 1000000) :
    Calls Tryz.prog 160 #[v, .int .i64 i] w fun e w' => e = .returned (.bool (B.hasI zs i)) ∧ Below w.heap.size w w' := by
  obtain ⟨a, cap, rfl, h0, h1, h2, h3, h4⟩ := h
  refine (B.has_any a cap zs i w h3 hn).mono ?_
  rintro e w' ⟨rfl, m, rfl⟩
  exact ⟨rfl, below_drewN (Below.refl _ _) _⟩
theorem join_fb (v u : Value) (zs ys : List Int) (X : List Nat) (w : World) (h : FB w X v zs) (h' : FB w X u ys) (hn : zs.length ≤ 1000000) (hm : ys.length ≤ 1000000) (hX : ∀ x ∈ X, x < w.heap.size) :
    Calls Tryz.prog 161 #[v, u] w fun e w' => ∃ v' xs, e = .returned v' ∧ FB w' X v' xs ∧ B.IsJoin zs ys xs ∧ Below w.heap.size w w' := by
  obtain ⟨a, cap, rfl, h0, h1, h2, h3, h4⟩ := h
  obtain ⟨b, cap2, rfl, g0, g1, g2, g3, g4⟩ := h'
  refine (B.join_any a b cap cap2 zs ys w h3 g3 hn hm).mono ?_
  rintro e w' ⟨v, xs, rfl, ho, hj, hb⟩
  exact ⟨v, xs, rfl, fb_own ho hj.2.1 hX, hj, hb⟩
theorem first_fb (v : Value) (zs : List Int) (i : Int) (X : List Nat) (w : World) (h : FB w X v zs) (hn : zs.length ≤ 1000000) (hi : i ≤ 9223372036854775807) :
    Calls Tryz.prog 169 #[v, .int .i64 i] w fun e w' => ∃ (k : Nat) (ok : Bool), e = .returned (.tuple #[.int .i64 (k : Int), .bool ok]) ∧ B.IsFirst zs i.toNat k ok ∧ Below w.heap.size w w' := by
  obtain ⟨a, cap, rfl, h0, h1, h2, h3, h4⟩ := h
  refine (B.first_any a cap zs i w h3 hn hi).mono ?_
  rintro e w' ⟨k, ok, rfl, hf, m, rfl⟩
  exact ⟨k, ok, rfl, hf, below_drewN (Below.refl _ _) _⟩
end Go.Proofs.YtbklnadlbcndlaaGreat
namespace Go.Proofs.YtbklnadlbcndlaaGreat
set_option maxRecDepth 20000
open Go.RowKit
set_option linter.unusedVariables false
def rootsK (bl : Nat) : Nat → List Int
  | 0 => List.replicate (B.makeN bl) 0
  | k + 1 => B.withI (rootsK bl k) k true
def rootsS (bl : Nat) : List Int := rootsK bl 2
theorem rootsK_len (bl k : Nat) : (rootsK bl k).length = B.makeN bl := by
  induction k with
  | zero => simp [rootsK]
  | succ k ih => show (B.withI _ _ _).length = _; rw [withI_len, ih]
theorem rootsK_all (bl k : Nat) : AllB (rootsK bl k) := by
  induction k with
  | zero => exact zeros_allB _
  | succ k ih => exact withI_all ih _ _
def onceR (bl : Nat) : List Int → List Int → Option (List Int)
  | m, [] => some m
  | m, n :: l => if n = 0 then onceR bl m l else if (bl : Int) ≤ n ∨ B.hasI m n = true then none else onceR bl (B.withI m n true) l
theorem onceR_len {bl : Nat} : ∀ {l m u : List Int}, onceR bl m l = some u → u.length = m.length
  | [], m, u, h => by simp [onceR] at h; rw [h]
  | n :: l, m, u, h => by
    unfold onceR at h
    split at h
    · exact onceR_len h
    · split at h
      · cases h
      · rw [onceR_len h, withI_len]
theorem onceR_all {bl : Nat} : ∀ {l m u : List Int}, onceR bl m l = some u → AllB m → AllB u
  | [], m, u, h, hm => by simp [onceR] at h; rw [← h]; exact hm
  | n :: l, m, u, h, hm => by
    unfold onceR at h
    split at h
    · exact onceR_all h hm
    · split at h
      · cases h
      · exact onceR_all h (withI_all hm _ _)
theorem drop_at (l : List Int) (k : Nat) (h : k < l.length) : l.drop k = l.getD k 0 :: l.drop (k + 1) := by
  rw [List.drop_eq_getElem_cons h, List.getD_eq_getElem?_getD, List.getElem?_eq_getElem h]; rfl
def UsedPost (X : List Nat) (w : World) (o : Option (List Int)) (e : Ending) (w' : World) : Prop :=
  ∃ v, e = .returned (.tuple #[v, .bool o.isSome]) ∧ FB w' X v (o.getD []) ∧ Below w.heap.size w w'
theorem fb_nil (w : World) (X : List Nat) : FB w X (.slice none 0 0) [] := ⟨none, 0, rfl, fun _ => rfl, Nat.zero_le _, by omega, ⟨AllB.nil, .inl rfl⟩, fun h => absurd rfl h⟩
set_option maxHeartbeats 1600000 in
theorem used_any (bl : Nat) (hbl : bl ≤ 4096) (L : Value) (l : List Int) (X : List Nat) (w : World) (hX : ∀ x ∈ X, x < w.heap.size) (hlen : l.length ≤ 100000)
    (HC : ∀ W, Below w.heap.size w W → Calls Tryz.prog 168 #[L] W fun e w' => ∃ v, e = .returned v ∧ FI w' [] v l ∧ Below W.heap.size W w') :
    Calls Tryz.prog 104 #[.int .i64 bl, L] w fun e w' => UsedPost X w (onceR bl (rootsS bl) l) e w' := by
  have HC' : Hid (∀ W, Below w.heap.size w W → Calls Tryz.prog 168 #[L] W fun e w' => ∃ v, e = .returned v ∧ FI w' [] v l ∧ Below W.heap.size W w') := HC
  have HX : Hid (∀ x ∈ X, x < w.heap.size) := hX
  have HM := make_fb bl X w hX
  clear HC hX
  have hmk := makeN_le bl
  obtain ⟨R, hR⟩ : ∃ R, R = onceR bl (rootsS bl) l := ⟨_, rfl⟩
  rw [← hR]
  have HR : Hid (R = onceR bl (rootsS bl) l) := hR
  clear hR
  have HW : Hid (∀ W v zs i, Below w.heap.size w W → FB W X v zs → zs.length = B.makeN bl → Calls Tryz.prog 128 #[v, .int .i64 i, .bool true] W fun e w' => ∃ v', e = .returned v' ∧ FB w' X v' (B.withI zs i true) ∧ Below W.heap.size W w') := fun W v zs i hb h hz => with_fb v zs i true X W h (by omega) (fun x hx => Nat.lt_of_lt_of_le (HX.out x hx) hb.size)
  have HH : Hid (∀ W v zs i, FB W X v zs → zs.length = B.makeN bl → Calls Tryz.prog 160 #[v, .int .i64 i] W fun e w' => e = .returned (.bool (B.hasI zs i)) ∧ Below W.heap.size W w') := fun W v zs i h hz => has_fb v zs i X W h (by omega)
  go_enter Tryz.func104, Tryz.ntmps104
  go_wp2_with (go_at_call 103; refine HM.mono ?_; rintro e w1 ⟨v1, rfl, hv1, hb1⟩)
  clear HM
  go_loopw [6, 12] (fun v i wr => ∃ k : Nat, k ≤ 2 ∧ i = .int .i64 k ∧ FB wr X v (rootsK bl k) ∧ Below w.heap.size w wr) (fun _ i _ => 2 - (iOf i).toNat)
  case atStart => exact ⟨0, Nat.zero_le _, rfl, hv1, hb1⟩
  case round =>
    clear hv1 hb1
    obtain ⟨k, hk, rfl, hv, hb⟩ := hrel
    by_cases hlt : k < 2
    · have H1 := HW.out _ _ _ (k : Int) hb hv (rootsK_len bl k)
      have HB : Hid (Below w.heap.size w wr) := hb
      clear hv hb
      go_wp2_with (go_at_call 128; refine H1.mono ?_; rintro e w2 ⟨v2, rfl, hv2, hb2⟩)
      clear H1
      go_roundw
      case rel => exact ⟨k + 1, by omega, by go_num, hv2, HB.out.trans (hb2.mono HB.out.size)⟩
      case measure => simp [iOf]; omega
    · obtain rfl : k = 2 := by omega
      have HCC := HC'.out _ hb
      have HB : Hid (Below w.heap.size w wr) := hb
      have HV : Hid (FB wr X _ (rootsS bl)) := hv
      clear hb hv
      go_wp2_with (go_at_call 168; refine HCC.mono ?_; rintro e w2 ⟨v2, rfl, ⟨la, lc, rfl, _, _, _, hiv, _⟩, hb2⟩)
      clear HCC HC'
      have HB2 : Hid (Below w.heap.size w w2) := HB.out.trans (hb2.mono HB.out.size)
      have HV2 := HV.out.below hb2
      have HL : Hid (∀ W, Below w2.heap.size w2 W → ∀ i, i < l.length → ∃ g off, la = some ⟨g, off, none⟩ ∧ W.cell? ⟨g, off + i, none⟩ = some (.int .i64 (l.getD i 0))) := by
        intro W hW i hi
        rcases hiv.below hW with rfl | ⟨g, off, rfl, _, hc⟩
        · simp at hi
        · exact ⟨g, off, rfl, hc i hi⟩
      clear hiv
      obtain ⟨N, hN⟩ : ∃ N, N = l.length := ⟨_, rfl⟩
      have HN : Hid (N = l.length) := hN
      rw [← hN]
      rw [← hN] at hlen
      clear hN hb2 HV
      have HB2' : Hid (Below w2.heap.size w2 w2) := Below.refl _ _
      go_wp2
      go_loopw [6, 22] (fun v i wr => ∃ (k : Nat) (m : List Int), k ≤ N ∧ i = .int .i64 k ∧ FB wr X v m ∧ m.length = B.makeN bl ∧ R = onceR bl m (l.drop k) ∧ Below w2.heap.size w2 wr) (fun _ i _ => N - (iOf i).toNat)
      case atStart => exact ⟨0, rootsS bl, Nat.zero_le _, rfl, HV2, rootsK_len bl 2, HR.out, Below.refl _ _⟩
      case round =>
        clear HV2 HR
        obtain ⟨k, m, hk, rfl, hv, hm, hRk, hb⟩ := hrel
        by_cases hlt : k < N
        · obtain ⟨g, off, rfl, hc⟩ := HL.out _ hb k (by rw [← HN.out]; exact hlt)
          have hd := drop_at l k (by rw [← HN.out]; exact hlt)
          rw [hd] at hRk
          generalize l.getD k 0 = z at *
          unfold onceR at hRk
          have HB3 : Hid (Below w2.heap.size w2 wr) := hb
          have HB4 : Hid (Below w.heap.size w wr) := HB2.out.trans (hb.mono HB2.out.size)
          have HV : Hid (FB wr X _ m) := hv
          have HM : Hid (m.length = B.makeN bl) := hm
          clear hb hv hm hd
          by_cases hz : z = 0
          · subst hz
            rw [if_pos rfl] at hRk
            have HRk : Hid (R = onceR bl m (l.drop (k + 1))) := hRk
            clear hRk
            go_wp2
            go_roundw
            case rel => exact ⟨k + 1, m, by omega, by go_num, HV.out, HM.out, HRk.out, HB3.out⟩
            case measure => simp [iOf]; omega
          · rw [if_neg hz] at hRk
            have hz' : (z == 0) = false := by simpa using hz
            by_cases hbz : (bl : Int) ≤ z
            · rw [if_pos (Or.inl hbz)] at hRk
              have hdz : decide ((bl : Int) ≤ z) = true := by simpa using hbz
              subst hRk
              go_wp2
              exact bodyPost_ret (v := .tuple #[.slice none 0 0, .bool false]) (by simp [results, Tryz.results104, go_sem]) rfl ⟨_, rfl, fb_nil _ _, HB4.out⟩
            · have hdz : decide ((bl : Int) ≤ z) = false := by simpa using hbz
              have H1 := HH.out _ _ _ z HV.out HM.out
              cases hh : B.hasI m z
              · rw [hh] at H1 hRk
                rw [if_neg (by simpa using hbz)] at hRk
                have HRk : Hid (R = onceR bl (B.withI m z true) (l.drop (k + 1))) := hRk
                clear hRk
                go_wp2_with (first | (go_at_call 160; refine H1.mono ?_; rintro e w3 ⟨rfl, hb3⟩; have H2 := HW.out _ _ _ z (HB4.out.trans (hb3.mono HB4.out.size)) (HV.out.below hb3) HM.out; have HB5 : Hid (Below wr.heap.size wr w3) := hb3; clear hb3 H1) | (go_at_call 128; refine H2.mono ?_; rintro e w4 ⟨v4, rfl, hv4, hb4⟩; clear H2))
                go_roundw
                case rel => exact ⟨k + 1, _, by omega, by go_num, hv4, by rw [withI_len]; exact HM.out, HRk.out, (HB3.out.trans (HB5.out.mono HB3.out.size)).trans (hb4.mono (Nat.le_trans HB3.out.size HB5.out.size))⟩
                case measure => simp [iOf]; omega
              · rw [hh] at H1 hRk
                rw [if_pos (Or.inr rfl)] at hRk
                subst hRk
                go_wp2_with (go_at_call 160; refine H1.mono ?_; rintro e w3 ⟨rfl, hb3⟩; have HB5 : Hid (Below wr.heap.size wr w3) := hb3; clear hb3 H1)
                exact bodyPost_ret (v := .tuple #[.slice none 0 0, .bool false]) (by simp [results, Tryz.results104, go_sem]) rfl ⟨_, rfl, fb_nil _ _, HB4.out.trans (HB5.out.mono HB4.out.size)⟩
        · obtain rfl : k = N := by omega
          rw [List.drop_of_length_le (by rw [← HN.out]; exact Nat.le_refl _)] at hRk
          have hRk' : R = some m := hRk
          subst hRk'
          go_wp2
          exact bodyPost_ret (v := .tuple #[_, .bool true]) (by simp [results, Tryz.results104, go_sem]) rfl ⟨_, rfl, hv, HB2.out.trans (hb.mono HB2.out.size)⟩
end Go.Proofs.YtbklnadlbcndlaaGreat
