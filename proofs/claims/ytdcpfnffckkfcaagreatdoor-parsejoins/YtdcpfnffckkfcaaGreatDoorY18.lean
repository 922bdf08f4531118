import Derived.Test.YtdcpfnffckkfcaaGreatDoorY15
import Derived.Test.YtdcpfnffckkfcaaGreatDoorY17
import Derived.Test.YtdcpfnffckkfcaaGreatDoorY2
import Derived.Test.YtdcpfnffckkfcaaGreatDoorY14
import Derived.BigQuiet
namespace Go.Proofs.YtdcpfnffckkfcaaGreatDoor
open Go.RowKit
set_option linter.unusedVariables false
set_option linter.unusedSimpArgs false
set_option maxRecDepth 20000
theorem OwnK.toks {ty : TypeId} {w : World} {base : Nat} {v : Value} {ts : List TA} (h : OwnK ty w base v ts) : Toks w (· < w.heap.size) v ts := by
  obtain ⟨a, cap, rfl, h1, h2, h3, h4, h5⟩ := h.view
  refine ⟨a, cap, by rw [List.length_map], by rw [List.length_map]; exact h3, h4, ?_⟩
  rcases h2 with rfl | ⟨b, off, rfl, hb, hc⟩
  · exact .inl rfl
  · refine .inr ⟨b, off, rfl, hb, hb, fun i j hi hj => ?_⟩
    rw [List.length_map] at hi
    rw [hc i j hi hj, getD_map cl7 ts i ta0 hi]
theorem scanGo_len : ∀ (n a : Nat) (l : List UInt8), (scanGo n a l).1.length ≤ n
  | 0, a, l => by simp [scanGo]
  | n + 1, a, l => by
    unfold scanGo
    split
    · simp
    · split
      · simp
      · simp only [List.length_cons]
        have := scanGo_len n
        exact Nat.succ_le_succ (this _ _)
theorem scan_len (l : List UInt8) : (scanL l).1.length ≤ l.length := scanGo_len _ _ _
theorem parT_no {l : List Tk} (h : (parT l).2 ≠ 0) : (parT l).1 = p0 := by
  unfold parT at h ⊢
  split
  · rfl
  · split
    · rfl
    · rename_i h1 h2
      simp [h1, h2] at h
theorem prog_nil (w : World) (b : Nat) : RProg w b [.slice none 0 0, .slice none 0 0] p0 := ⟨_, _, rfl, row_nil _ _ _ _, row_nil _ _ _ _⟩
def PaPost (w : World) (p : ProgD × Nat) (e : Ending) (w' : World) : Prop :=
  ∃ a1 n1 c1 a2 n2 c2, e = .returned (.tuple #[.agg #[.slice a1 n1 c1, .slice a2 n2 c2], .int .i64 p.2]) ∧ RProg w' w.heap.size [.slice a1 n1 c1, .slice a2 n2 c2] p.1 ∧ Below w.heap.size w w'
theorem read_any (v : Value) (l : List TA) (w : World) (h : Toks w (· < w.heap.size) v l) (hl : l.length ≤ 100000) : Calls Tryz.prog 16 #[v] w (PaPost w (parT (l.map Prod.fst))) := by
  by_cases hn : (parT (l.map Prod.fst)).2 = 0
  · refine (read_ok v l w h hl hn).mono ?_
    rintro e w' ⟨v1, v2, rfl, ⟨a1, n1, c1, rfl⟩, ⟨a2, n2, c2, rfl⟩, h3, h4⟩
    exact ⟨a1, n1, c1, a2, n2, c2, by rw [hn]; rfl, h3, h4⟩
  · refine (read_no v l w h hl hn).mono ?_
    rintro e w' ⟨rfl, h4⟩
    exact ⟨none, 0, 0, none, 0, 0, rfl, by rw [parT_no hn]; exact prog_nil _ _, h4⟩
set_option maxHeartbeats 1000000 in
theorem pparse_any (s : ByteArray) (w : World) (hs : s.size ≤ 16384) (hV : Vars w) : Calls Tryz.prog 9 #[.string s] w (PaPost w (parP s.data.toList)) := by
  have CS := fun W hW => scan_any s W hs (hV.below hW)
  have hll : (scanL s.data.toList).1.length ≤ 100000 := Nat.le_trans (scan_len _) (by rw [lenL]; omega)
  by_cases h0 : (scanL s.data.toList).2.2 = 0
  · have HP : Hid (parP s.data.toList = parT ((scanL s.data.toList).1.map Prod.fst)) := by show _ = _; unfold parP; rw [if_neg (by simp [h0])]
    have CR := fun v W hT => read_any v (scanL s.data.toList).1 W hT hll
    rw [h0] at CS
    generalize scanL s.data.toList = S at *
    generalize parP s.data.toList = G at *
    clear h0 hV hs
    go_enter Tryz.func9, Tryz.ntmps9
    go_wp2_with (first | (go_at_call 14; refine (CS _ (bxn _ _)).mono ?_; rintro e w1 ⟨v, rfl, hO, hb1⟩; clear CS; have HO : Hid (OwnK 43 w1 _ v S.1) := hO; obtain ⟨a, c, rfl, -, -, -, -, -⟩ := hO.view; clear hO) | (go_at_call 16; refine (CR _ _ HO.out.toks).mono ?_; rintro e w2 ⟨a1, n1, c1, a2, n2, c2, rfl, hR, hb2⟩; clear CR; obtain ⟨hc, hz⟩ := bcell (bt hb1 hb2); have s0 : w2.cell? ⟨w.heap.size, 0, none⟩ = some (.slice none 0 0) := (by rw [hc _ _ (by simp)]; go_simp); have s1 : w2.cell? ⟨w.heap.size, 1, none⟩ = some (.slice none 0 0) := (by rw [hc _ _ (by simp)]; go_simp); have t0 : w2.frozen? ⟨w.heap.size, 0, none⟩ = false := (by rw [hz _ _ (by simp)]; go_simp); have t1 : w2.frozen? ⟨w.heap.size, 1, none⟩ = false := (by rw [hz _ _ (by simp)]; go_simp); clear hc hz; have HR : Hid (RProg w2 w1.heap.size _ _) := hR; clear hR))
    refine bodyPost_ret (v := .tuple #[.agg #[.slice a1 n1 c1, .slice a2 n2 c2], .int .i64 (parT (S.1.map Prod.fst)).2]) (by simp [results, Tryz.results9, go_sem, s0, s1] <;> rfl) rfl ?_
    have HB : Below w.heap.size w w2 := bt (bt (bxn _ _) hb1) hb2
    have hz : w.heap.size + 1 ≤ w1.heap.size := by have := hb1.size; simp at this; exact this
    rw [HP.out]
    refine ⟨a1, n1, c1, a2, n2, c2, rfl, prog_bx (B := w.heap.size) (T := w.heap.size + 1) HR.out (by repeat (first | with_reducible exact Bx.refl _ _ | with_reducible refine Bx.setCell ?_ (bt_of (by omega) (by omega)) _ | with_reducible refine Bx.alloc ?_ _ | with_reducible refine Bx.drew ?_)) hz (by omega), ?_⟩
    exact (HB.setCell (p := ⟨w.heap.size, 0, none⟩) (Nat.le_refl _) _).setCell (p := ⟨w.heap.size, 1, none⟩) (Nat.le_refl _) _
  · have HP : Hid (parP s.data.toList = (p0, (scanL s.data.toList).2.2)) := by show _ = _; unfold parP; rw [if_pos h0]
    have h0z : ¬ ((scanL s.data.toList).2.2 : Int) = 0 := by omega
    generalize scanL s.data.toList = S at *
    generalize parP s.data.toList = G at *
    clear h0 hV hs
    go_enter Tryz.func9, Tryz.ntmps9
    go_wp2_with (go_at_call 14; refine (CS _ (bxn _ _)).mono ?_; rintro e w1 ⟨v, rfl, hO, hb1⟩; clear CS; obtain ⟨a, c, rfl, -, -, -, -, -⟩ := hO.view; clear hO; obtain ⟨hc, hz⟩ := bcell hb1; have s0 : w1.cell? ⟨w.heap.size, 0, none⟩ = some (.slice none 0 0) := (by rw [hc _ _ (by simp)]; go_simp); have s1 : w1.cell? ⟨w.heap.size, 1, none⟩ = some (.slice none 0 0) := (by rw [hc _ _ (by simp)]; go_simp); have t0 : w1.frozen? ⟨w.heap.size, 0, none⟩ = false := (by rw [hz _ _ (by simp)]; go_simp); have t1 : w1.frozen? ⟨w.heap.size, 1, none⟩ = false := (by rw [hz _ _ (by simp)]; go_simp); clear hc hz)
    all_goals first
      | (refine bodyPost_ret (v := .tuple #[.agg #[.slice none 0 0, .slice none 0 0], .int .i64 S.2.2]) (by simp [results, Tryz.results9, go_sem, s0, s1] <;> rfl) rfl ?_
         rw [HP.out]
         have HB : Below w.heap.size w w1 := bt (bxn _ _) hb1
         exact ⟨none, 0, 0, none, 0, 0, rfl, prog_nil _ _, (HB.setCell (p := ⟨w.heap.size, 0, none⟩) (Nat.le_refl _) _).setCell (p := ⟨w.heap.size, 1, none⟩) (Nat.le_refl _) _⟩)
      | (exfalso; simp_all; done)
end Go.Proofs.YtdcpfnffckkfcaaGreatDoor
namespace Go.Proofs.YtdcpfnffckkfcaaGreatDoor
open Go.RowKit
set_option linter.unusedVariables false
set_option linter.unusedSimpArgs false
set_option maxRecDepth 20000
theorem row_head {α : Type} {n : Nat} {R : World → List Value → α → Prop} {w : World} {Q : Nat → Prop} {v : Value} {x : α} {xs : List α} (h : Row n R w Q v (x :: xs)) : ∃ b off cap cs, v = .slice (some ⟨b, off, none⟩) (xs.length + 1) cap ∧ xs.length + 1 ≤ cap ∧ cap ≤ 9223372036854775807 ∧ b < w.heap.size ∧ (∀ j, j < n → w.cell? ⟨b, off + j, none⟩ = cs[j]?) ∧ R w cs x := by
  obtain ⟨css, ⟨a, cap, h1, h2, h3, h4⟩, h5⟩ := h
  have hl := h5.len
  rcases h4 with rfl | ⟨b, off, rfl, hb, _, hc⟩
  · simp at hl
  · refine ⟨b, off, cap, css.getD 0 [], ?_, ?_, h3, hb, fun j hj => ?_, ?_⟩
    · rw [h1, hl]; rfl
    · rw [hl] at h2; simpa using h2
    · have := hc 0 j (by rw [hl]; simp) hj
      rw [Nat.zero_mul, Nat.zero_add] at this
      exact this
    · exact h5.at 0 [] x (by simp)
theorem row_len {α : Type} {n : Nat} {R : World → List Value → α → Prop} {w : World} {Q : Nat → Prop} {a : Option Addr} {m c : Nat} {xs : List α} (h : Row n R w Q (.slice a m c) xs) : m = xs.length := by
  obtain ⟨css, h1, h2⟩ := h
  obtain ⟨a', c', e⟩ := h1.shape
  rw [← h2.len]; exact (Value.slice.inj e).2.1
def awS : List UInt8 := [40, 108, 105, 116, 101, 114, 97, 108, 105, 122, 101, 32, 97, 32, 98, 41, 32, 40, 112, 32, 114, 32, 40, 97, 32, 94, 98, 32, 62, 32, 51, 41, 32, 45, 45, 62, 32, 40, 109, 97, 107, 101, 32, 97, 32, 94, 98, 32, 40, 43, 32, 49, 32, 50, 41, 41, 32, 40, 104, 97, 108, 116, 41, 41]
def awR : RuleD := ⟨[114], [⟨false, [97], [⟨[98], [], [⟨4, [], ⟨1, 3, []⟩⟩]⟩]⟩], [⟨0, [97], 0, [], [⟨[98], [⟨0, ⟨1, 1, []⟩, []⟩, ⟨0, ⟨1, 2, []⟩, []⟩, ⟨2, v0, []⟩]⟩], []⟩, ⟨5, [], 0, [], [], []⟩]⟩
def awP : ProgD := ⟨[⟨[97], [[98]]⟩], [awR]⟩
theorem awA : parP awS = (awP, 0) := by decide +kernel
theorem awB : parP [40, 112, 32, 114, 41] = (p0, 17) := by decide +kernel
theorem awN : decide (awP = p0) = false := by decide
structure AwF (w : World) (a1 : Option Addr) (n1 c1 : Nat) (a2 : Option Addr) (n2 c2 : Nat) (br or_ : Nat) (ac : Option Addr) (cc ba oa ca bs os cs bi oi ci : Nat) : Prop where
  e1 : n1 = 1
  e2 : n2 = 1
  e3 : a2 = some ⟨br, or_, none⟩
  k2 : 1 ≤ c2 ∧ c2 ≤ 9223372036854775807 ∧ 2 ≤ ca ∧ ca ≤ 9223372036854775807 ∧ 1 ≤ cs ∧ cs ≤ 9223372036854775807 ∧ 3 ≤ ci ∧ ci ≤ 9223372036854775807
  b : br < w.heap.size ∧ ba < w.heap.size ∧ bs < w.heap.size ∧ bi < w.heap.size
  q0 : w.cell? ⟨br, or_, none⟩ = some (.string (st [114]))
  q1 : w.cell? ⟨br, or_ + 1, none⟩ = some (.slice ac 1 cc)
  q2 : w.cell? ⟨br, or_ + 2, none⟩ = some (.slice (some ⟨ba, oa, none⟩) 2 ca)
  q3 : w.cell? ⟨ba, oa + 4, none⟩ = some (.slice (some ⟨bs, os, none⟩) 1 cs)
  q4 : w.cell? ⟨bs, os + 1, none⟩ = some (.slice (some ⟨bi, oi, none⟩) 3 ci)
  q5 : w.cell? ⟨bi, oi + 10, none⟩ = some (.int .u8 2)
theorem aw_facts {w : World} {b0 : Nat} {a1 : Option Addr} {n1 c1 : Nat} {a2 : Option Addr} {n2 c2 : Nat} (h : RProg w b0 [.slice a1 n1 c1, .slice a2 n2 c2] awP) : ∃ br or_ ac cc ba oa ca bs os cs bi oi ci, AwF w a1 n1 c1 a2 n2 c2 br or_ ac cc ba oa ca bs os cs bi oi ci := by
  obtain ⟨u1, u2, hu, hc, hr⟩ := h
  obtain ⟨rfl, hu2⟩ := List.cons.inj hu
  obtain ⟨rfl, _⟩ := List.cons.inj hu2
  have e1 := row_len hc
  obtain ⟨br, or_, cr, rc, er, lr, mr, hbr, qr, hR⟩ := row_head hr
  obtain ⟨x1, x2, x3⟩ := Value.slice.inj er
  obtain ⟨w1, w2, hw, hco, hac⟩ := hR
  obtain ⟨ba, oa, ca, ra, ea, la, ma, hba, qa, hA⟩ := row_head hac
  obtain ⟨s1, s2, hs, hse, _⟩ := hA
  obtain ⟨bs, os, cs, rs, es, ls, ms, hbs, qs, hS⟩ := row_head hse
  obtain ⟨t1, ht, hi⟩ := hS
  obtain ⟨ac, ncc, cc, eco⟩ := hco.like
  subst eco
  have enc := row_len hco
  obtain ⟨ai, ci, hi1, hi2, hi3, hi4⟩ := hi
  rcases hi4 with h0 | ⟨bi, oi, rfl, hbi, _, qi⟩
  · exact absurd h0 (by decide)
  · refine ⟨br, or_, ac, cc, ba, oa, ca, bs, os, cs, bi, oi, ci, e1, x2, x1, ⟨by rw [x3]; exact lr, by rw [x3]; exact mr, la, ma, ls, ms, hi2, hi3⟩, ⟨hbr, hba, hbs, hbi⟩, ?_, ?_, ?_, ?_, ?_, ?_⟩
    · have := qr 0 (by decide); rw [hw] at this; exact this
    · have := qr 1 (by decide); rw [hw, enc] at this; exact this
    · have := qr 2 (by decide); rw [hw, ea] at this; exact this
    · have := qa 4 (by decide); rw [hs, es] at this; exact this
    · have := qs 1 (by decide); rw [ht, hi1] at this; exact this
    · have := qi 2 0 (by decide) (by decide); exact this
theorem AwF.below {w w' : World} {a1 : Option Addr} {n1 c1 : Nat} {a2 : Option Addr} {n2 c2 br or_ : Nat} {ac : Option Addr} {cc ba oa ca bs os cs bi oi ci : Nat} (h : AwF w a1 n1 c1 a2 n2 c2 br or_ ac cc ba oa ca bs os cs bi oi ci) (hb : Below w.heap.size w w') : AwF w' a1 n1 c1 a2 n2 c2 br or_ ac cc ba oa ca bs os cs bi oi ci := by
  obtain ⟨h1, h2, h3, h4⟩ := h.b
  have hz := hb.size
  exact ⟨h.e1, h.e2, h.e3, h.k2, ⟨by omega, by omega, by omega, by omega⟩, (hb.cell (p := ⟨br, or_, none⟩) h1).trans h.q0, (hb.cell (p := ⟨br, or_ + 1, none⟩) h1).trans h.q1, (hb.cell (p := ⟨br, or_ + 2, none⟩) h1).trans h.q2, (hb.cell (p := ⟨ba, oa + 4, none⟩) h2).trans h.q3, (hb.cell (p := ⟨bs, os + 1, none⟩) h3).trans h.q4, (hb.cell (p := ⟨bi, oi + 10, none⟩) h4).trans h.q5⟩
theorem p0_len {w : World} {b0 : Nat} {a1 : Option Addr} {n1 c1 : Nat} {a2 : Option Addr} {n2 c2 : Nat} (h : RProg w b0 [.slice a1 n1 c1, .slice a2 n2 c2] p0) : n1 = 0 ∧ n2 = 0 := by
  obtain ⟨u1, u2, hu, hc, hr⟩ := h
  obtain ⟨rfl, hu2⟩ := List.cons.inj hu
  obtain ⟨rfl, _⟩ := List.cons.inj hu2
  exact ⟨row_len hc, row_len hr⟩
theorem psame_use {P1 P2 : Nat → Nat → Prop} {cs1 cs2 : List Value} {x y : ProgD} {w w' : World} (b : Bool) (h1 : ReP P1 w cs1 x) (h2 : ReP P2 w cs2 y) (hb : Below w.heap.size w w') (hd : decide (x = y) = b) : Calls Tryz.prog 13 #[.agg cs1.toArray, .agg cs2.toArray] w' fun e W => e = .returned (.bool b) ∧ Below w'.heap.size w' W := by
  have := psameP_any cs1 cs2 x y w' (ReP.keep (Stays.below hb) h1) (ReP.keep (Stays.below hb) h2)
  rw [hd] at this; exact this
set_option maxHeartbeats 8000000 in
theorem awake_any (w : World) (hV : Vars w) : Calls Tryz.prog 8 #[] w fun e w' => e = .returned (.bool true) ∧ Below w.heap.size w w' := by
  have C1 : ∀ W, Vars W → Calls Tryz.prog 9 #[.string ⟨#[40, 108, 105, 116, 101, 114, 97, 108, 105, 122, 101, 32, 97, 32, 98, 41, 32, 40, 112, 32, 114, 32, 40, 97, 32, 94, 98, 32, 62, 32, 51, 41, 32, 45, 45, 62, 32, 40, 109, 97, 107, 101, 32, 97, 32, 94, 98, 32, 40, 43, 32, 49, 32, 50, 41, 41, 32, 40, 104, 97, 108, 116, 41, 41]⟩] W (PaPost W (awP, 0)) := fun W hv => by
    have h : Calls Tryz.prog 9 _ W (PaPost W (parP awS)) := pparse_any ⟨#[40, 108, 105, 116, 101, 114, 97, 108, 105, 122, 101, 32, 97, 32, 98, 41, 32, 40, 112, 32, 114, 32, 40, 97, 32, 94, 98, 32, 62, 32, 51, 41, 32, 45, 45, 62, 32, 40, 109, 97, 107, 101, 32, 97, 32, 94, 98, 32, 40, 43, 32, 49, 32, 50, 41, 41, 32, 40, 104, 97, 108, 116, 41, 41]⟩ W (by decide) hv
    rw [awA] at h
    exact h
  have C2 : ∀ W, Vars W → Calls Tryz.prog 9 #[.string ⟨#[40, 112, 32, 114, 41]⟩] W (PaPost W (p0, 17)) := fun W hv => by
    have h : Calls Tryz.prog 9 _ W (PaPost W (parP [40, 112, 32, 114, 41])) := pparse_any ⟨#[40, 112, 32, 114, 41]⟩ W (by decide) hv
    rw [awB] at h
    exact h
  have tk1 : Hid True := trivial
  have tk2 : Hid True := trivial
  go_enter Tryz.func8, Tryz.ntmps8
  have tk3 : Hid True := trivial
  have tk4 : Hid True := trivial
  go_wp2_with (first | (go_at_call 9; have tku := tk1; clear tku tk1; refine (C1 _ hV).mono ?_; rintro e w1 ⟨a1, n1, c1, a2, n2, c2, rfl, hR1, hb1⟩; clear C1; obtain ⟨br, or_, ac, cc, ba, oa, ca, bs, os, cs, bi, oi, ci, F⟩ := aw_facts hR1; have e1 := F.e1; have e2 := F.e2; have e3 := F.e3; subst e1; subst e2; subst e3; have HR1 : Hid (RProg w1 w.heap.size _ awP) := hR1; have HF1 : Hid (AwF w1 _ _ _ _ _ _ br or_ ac cc ba oa ca bs os cs bi oi ci) := F; clear hR1 F) | (go_at_call 9; have tku := tk2; clear tku tk2; refine (C2 _ ((hV.below hb1).below (bxn _ _))).mono ?_; rintro e w2 ⟨a3, n3, c3, a4, n4, c4, rfl, hR2, hb2⟩; clear C2; obtain ⟨e3, e4⟩ := p0_len hR2; subst e3; subst e4; have HR2 : Hid (RProg w2 _ _ p0) := hR2; have z2 : w1.heap.size < w2.heap.size := (by have := hb2.size; simp at this; omega); clear hR2; obtain ⟨hc, hz⟩ := bcell hb2; have p20 : w2.cell? ⟨w1.heap.size, 0, none⟩ = some (.slice a1 1 c1) := (by rw [hc _ _ (by first | omega | (simp <;> omega))]; go_simp); have p21 : w2.cell? ⟨w1.heap.size, 1, none⟩ = some (.slice (some ⟨br, or_, none⟩) 1 c2) := (by rw [hc _ _ (by first | omega | (simp <;> omega))]; go_simp); clear hc hz) | (go_at_call 13; have tku := tk3; clear tku tk3; refine (psame_use (w := w2) true (ReP.keep (Stays.below (bt (bxn _ _) hb2)) HR1.out) (ReP.keep (Stays.below (bt (bxn _ _) hb2)) HR1.out) (bxn _ _) (decide_eq_true rfl)).mono ?_; rintro e w3 ⟨rfl, hb3⟩; have z3 : w2.heap.size < w3.heap.size := (by have := hb3.size; simp at this; omega); obtain ⟨hc, hz⟩ := bcell hb3; have p30 : w3.cell? ⟨w1.heap.size, 0, none⟩ = some (.slice a1 1 c1) := (by rw [hc _ _ (by first | omega | (simp <;> omega))]; go_simp); have p31 : w3.cell? ⟨w1.heap.size, 1, none⟩ = some (.slice (some ⟨br, or_, none⟩) 1 c2) := (by rw [hc _ _ (by first | omega | (simp <;> omega))]; go_simp); have q30 : w3.cell? ⟨w2.heap.size, 0, none⟩ = some (.slice a3 0 c3) := (by rw [hc _ _ (by first | omega | (simp <;> omega))]; go_simp); have q31 : w3.cell? ⟨w2.heap.size, 1, none⟩ = some (.slice a4 0 c4) := (by rw [hc _ _ (by first | omega | (simp <;> omega))]; go_simp); clear hc hz))
  refine (psame_use (w := w2) false (ReP.keep (Stays.below (bt (bxn _ _) hb2)) HR1.out) HR2.out (bt (bxn _ _) hb3) awN).mono ?_; rintro e w4 ⟨rfl, hb4⟩; have z4 : w3.heap.size ≤ w4.heap.size := hb4.size; obtain ⟨hc, hz⟩ := bcell hb4; have p40 : w4.cell? ⟨w1.heap.size, 0, none⟩ = some (.slice a1 1 c1) := (by rw [hc _ _ (by first | omega | (simp <;> omega))]; go_simp); have p41 : w4.cell? ⟨w1.heap.size, 1, none⟩ = some (.slice (some ⟨br, or_, none⟩) 1 c2) := (by rw [hc _ _ (by first | omega | (simp <;> omega))]; go_simp); have q40 : w4.cell? ⟨w2.heap.size, 0, none⟩ = some (.slice a3 0 c3) := (by rw [hc _ _ (by first | omega | (simp <;> omega))]; go_simp); have q41 : w4.cell? ⟨w2.heap.size, 1, none⟩ = some (.slice a4 0 c4) := (by rw [hc _ _ (by first | omega | (simp <;> omega))]; go_simp); clear hc hz; have F4 := HF1.out.below (bt (bt (bt (bxn _ _) hb2) (bxn _ _)) (bt hb3 hb4)); obtain ⟨k1, k2, k3, k4, k5, k6, k7, k8⟩ := F4.k2; obtain ⟨y1, y2, y3, y4⟩ := F4.b; have r0 := F4.q0; have r1 := F4.q1; have r2 := F4.q2; have r3 := F4.q3; have r4 := F4.q4; have r5 := F4.q5; clear F4
  clear p20 p21 p30 p31 q30 q31
  go_upto_region 6 with fail
  have s114 : ((st [114]).toList == [114]) = true := (strE _ _).trans (by decide)
  obtain ⟨W5, hW⟩ : ∃ W5, W5 = w4.alloc (.cells #[.string (st [114]), .slice ac 1 cc, .slice (some ⟨ba, oa, none⟩) 2 ca] 49) := ⟨_, rfl⟩
  have x0 : W5.cell? ⟨w4.heap.size, 0, none⟩ = some (.string (st [114])) := by rw [hW]; go_simp
  have x1 : W5.cell? ⟨w4.heap.size, 1, none⟩ = some (.slice ac 1 cc) := by rw [hW]; go_simp
  have x2 : W5.cell? ⟨w4.heap.size, 2, none⟩ = some (.slice (some ⟨ba, oa, none⟩) 2 ca) := by rw [hW]; go_simp
  have x3 : W5.cell? ⟨ba, oa + 4, none⟩ = some (.slice (some ⟨bs, os, none⟩) 1 cs) := by rw [hW]; exact ((bxn _ _).cell (p := ⟨ba, oa + 4, none⟩) y2).trans r3
  have x4 : W5.cell? ⟨bs, os + 1, none⟩ = some (.slice (some ⟨bi, oi, none⟩) 3 ci) := by rw [hW]; exact ((bxn _ _).cell (p := ⟨bs, os + 1, none⟩) y3).trans r4
  have x5 : W5.cell? ⟨bi, oi + 10, none⟩ = some (.int .u8 2) := by rw [hW]; exact ((bxn _ _).cell (p := ⟨bi, oi + 10, none⟩) y4).trans r5
  have HB : Hid (Below w.heap.size w W5) := by
    show Below _ _ _
    rw [hW]
    exact bt (bt (bt (bt (bt (bt hb1 (bxn _ _)) hb2) (bxn _ _)) hb3) hb4) (bxn _ _)
  rw [← hW]
  clear hW p40 p41 q40 q41 r0 r1 r2 r3 r4 r5 hb1 hb2 hb3 hb4 HR1 HR2 HF1 y1 y2 y3 y4 z2 z3 z4
  generalize st [114] = gs at *
  go_wp2
  go_ret
  exact ⟨rfl, HB.out⟩
end Go.Proofs.YtdcpfnffckkfcaaGreatDoor
