import Derived.Test.YtemacdimdpnkeaaGreatDoorB21
import Derived.Test.YtemacdimdpnkeaaGreatDoorB23
import Derived.Test.YtemacdimdpnkeaaGreatDoorB2
namespace Go.Proofs.YtemacdimdpnkeaaGreatDoor
set_option maxRecDepth 20000
open Go.RowKit
set_option linter.unusedVariables false
set_option linter.unusedSimpArgs false
theorem OwnK.toks {ty : TypeId} {w : World} {base : Nat} {v : Value} {ts : List TA} (h : OwnK ty w base v ts) : Toks w (· < w.heap.size) v ts := by
  obtain ⟨a, cap, rfl, h1, h2, h3, h4, h5⟩ := h.view
  refine ⟨a, cap, by rw [List.length_map], by rw [List.length_map]; exact h3, h4, ?_⟩
  rcases h2 with rfl | ⟨b, off, rfl, hb, hc⟩
  · exact .inl rfl
  · refine .inr ⟨b, off, rfl, hb, hb, fun i j hi hj => ?_⟩
    rw [List.length_map] at hi
    rw [hc i j hi hj, getD_map cl7 ts i ta0 hi]
theorem scanGo_len : ∀ (n a : Nat) (l : List UInt8), (scanGo n a l).1.length ≤ n
  | 0, a, l => by simp [scanGo]
  | n + 1, a, l => by
    unfold scanGo
    split
    · simp
    · split
      · simp
      · simp only [List.length_cons]
        have := scanGo_len n
        exact Nat.succ_le_succ (this _ _)
theorem scan_len (l : List UInt8) : (scanL l).1.length ≤ l.length := scanGo_len _ _ _
theorem parT_no {l : List Tk} (h : (parT l).2 ≠ 0) : (parT l).1 = p0 := by
  unfold parT at h ⊢
  split
  · rfl
  · split
    · rfl
    · rename_i h1 h2
      simp [h1, h2] at h
theorem prog_nil (w : World) (b : Nat) : RProg w b [.slice none 0 0, .slice none 0 0] p0 := ⟨_, _, rfl, row_nil _ _ _ _, row_nil _ _ _ _⟩
def PaPost (w : World) (p : ProgD × Nat) (e : Ending) (w' : World) : Prop :=
  ∃ a1 n1 c1 a2 n2 c2, e = .returned (.tuple #[.agg #[.slice a1 n1 c1, .slice a2 n2 c2], .int .i64 p.2]) ∧ RProg w' w.heap.size [.slice a1 n1 c1, .slice a2 n2 c2] p.1 ∧ Below w.heap.size w w'
theorem read_any (v : Value) (l : List TA) (w : World) (h : Toks w (· < w.heap.size) v l) (hl : l.length ≤ 100000) : Calls Tryz.prog 12 #[v] w (PaPost w (parT (l.map Prod.fst))) := by
  by_cases hn : (parT (l.map Prod.fst)).2 = 0
  · refine (read_ok v l w h hl hn).mono ?_
    rintro e w' ⟨v1, v2, rfl, ⟨a1, n1, c1, rfl⟩, ⟨a2, n2, c2, rfl⟩, h3, h4⟩
    exact ⟨a1, n1, c1, a2, n2, c2, by rw [hn]; rfl, h3, h4⟩
  · refine (read_no v l w h hl hn).mono ?_
    rintro e w' ⟨rfl, h4⟩
    exact ⟨none, 0, 0, none, 0, 0, rfl, by rw [parT_no hn]; exact prog_nil _ _, h4⟩
set_option maxHeartbeats 1000000 in
theorem pparse_any (s : ByteArray) (w : World) (hs : s.size ≤ 16384) (hV : Vars w) : Calls Tryz.prog 5 #[.string s] w (PaPost w (parP s.data.toList)) := by
  have CS := fun W hW => scan_any s W hs (hV.below hW)
  have hll : (scanL s.data.toList).1.length ≤ 100000 := Nat.le_trans (scan_len _) (by rw [lenL]; omega)
  by_cases h0 : (scanL s.data.toList).2.2 = 0
  · have HP : Hid (parP s.data.toList = parT ((scanL s.data.toList).1.map Prod.fst)) := by show _ = _; unfold parP; rw [if_neg (by simp [h0])]
    have CR := fun v W hT => read_any v (scanL s.data.toList).1 W hT hll
    rw [h0] at CS
    generalize scanL s.data.toList = S at *
    generalize parP s.data.toList = G at *
    clear h0 hV hs
    go_enter Tryz.func5, Tryz.ntmps5
    go_wp2_with (first | (go_at_call 11; refine (CS _ (bxn _ _)).mono ?_; rintro e w1 ⟨v, rfl, hO, hb1⟩; clear CS; have HO : Hid (OwnK 71 w1 _ v S.1) := hO; obtain ⟨a, c, rfl, -, -, -, -, -⟩ := hO.view; clear hO) | (go_at_call 12; refine (CR _ _ HO.out.toks).mono ?_; rintro e w2 ⟨a1, n1, c1, a2, n2, c2, rfl, hR, hb2⟩; clear CR; obtain ⟨hc, hz⟩ := bcell (bt hb1 hb2); have s0 : w2.cell? ⟨w.heap.size, 0, none⟩ = some (.slice none 0 0) := (by rw [hc _ _ (by simp)]; go_simp); have s1 : w2.cell? ⟨w.heap.size, 1, none⟩ = some (.slice none 0 0) := (by rw [hc _ _ (by simp)]; go_simp); have t0 : w2.frozen? ⟨w.heap.size, 0, none⟩ = false := (by rw [hz _ _ (by simp)]; go_simp); have t1 : w2.frozen? ⟨w.heap.size, 1, none⟩ = false := (by rw [hz _ _ (by simp)]; go_simp); clear hc hz; have HR : Hid (RProg w2 w1.heap.size _ _) := hR; clear hR))
    refine bodyPost_ret (v := .tuple #[.agg #[.slice a1 n1 c1, .slice a2 n2 c2], .int .i64 (parT (S.1.map Prod.fst)).2]) (by simp [results, Tryz.results5, go_sem, s0, s1] <;> rfl) rfl ?_
    have HB : Below w.heap.size w w2 := bt (bt (bxn _ _) hb1) hb2
    have hz : w.heap.size + 1 ≤ w1.heap.size := by have := hb1.size; simp at this; exact this
    rw [HP.out]
    refine ⟨a1, n1, c1, a2, n2, c2, rfl, prog_bx (B := w.heap.size) (T := w.heap.size + 1) HR.out (by repeat (first | with_reducible exact Bx.refl _ _ | with_reducible refine Bx.setCell ?_ (bt_of (by omega) (by omega)) _ | with_reducible refine Bx.alloc ?_ _ | with_reducible refine Bx.drew ?_)) hz (by omega), ?_⟩
    exact (HB.setCell (p := ⟨w.heap.size, 0, none⟩) (Nat.le_refl _) _).setCell (p := ⟨w.heap.size, 1, none⟩) (Nat.le_refl _) _
  · have HP : Hid (parP s.data.toList = (p0, (scanL s.data.toList).2.2)) := by show _ = _; unfold parP; rw [if_pos h0]
    have h0z : ¬ ((scanL s.data.toList).2.2 : Int) = 0 := by omega
    generalize scanL s.data.toList = S at *
    generalize parP s.data.toList = G at *
    clear h0 hV hs
    go_enter Tryz.func5, Tryz.ntmps5
    go_wp2_with (go_at_call 11; refine (CS _ (bxn _ _)).mono ?_; rintro e w1 ⟨v, rfl, hO, hb1⟩; clear CS; obtain ⟨a, c, rfl, -, -, -, -, -⟩ := hO.view; clear hO; obtain ⟨hc, hz⟩ := bcell hb1; have s0 : w1.cell? ⟨w.heap.size, 0, none⟩ = some (.slice none 0 0) := (by rw [hc _ _ (by simp)]; go_simp); have s1 : w1.cell? ⟨w.heap.size, 1, none⟩ = some (.slice none 0 0) := (by rw [hc _ _ (by simp)]; go_simp); have t0 : w1.frozen? ⟨w.heap.size, 0, none⟩ = false := (by rw [hz _ _ (by simp)]; go_simp); have t1 : w1.frozen? ⟨w.heap.size, 1, none⟩ = false := (by rw [hz _ _ (by simp)]; go_simp); clear hc hz)
    all_goals first
      | (refine bodyPost_ret (v := .tuple #[.agg #[.slice none 0 0, .slice none 0 0], .int .i64 S.2.2]) (by simp [results, Tryz.results5, go_sem, s0, s1] <;> rfl) rfl ?_
         rw [HP.out]
         have HB : Below w.heap.size w w1 := bt (bxn _ _) hb1
         exact ⟨none, 0, 0, none, 0, 0, rfl, prog_nil _ _, (HB.setCell (p := ⟨w.heap.size, 0, none⟩) (Nat.le_refl _) _).setCell (p := ⟨w.heap.size, 1, none⟩) (Nat.le_refl _) _⟩)
      | (exfalso; simp_all; done)
end Go.Proofs.YtemacdimdpnkeaaGreatDoor
