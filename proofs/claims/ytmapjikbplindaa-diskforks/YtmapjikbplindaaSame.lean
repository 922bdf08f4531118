/- Do both disks tell the same? -/
import Derived.Test.YtmapjikbplindaaSt
import Derived.Deep.DeepCutAuto
namespace Go.Proofs.Ytmapjikbplindaa
open Go.RowKit Go.Maps
set_option maxRecDepth 20000
set_option linter.unusedVariables false

/-- The numbers l lie at the address a. -/
def NV (w : World) (a : Option Addr) (l : List Nat) : Prop := l = [] ∨ ∃ b off, a = some ⟨b, off, none⟩ ∧ b < w.heap.size ∧ ∀ i, i < l.length → w.cell? ⟨b, off + i, none⟩ = some (.int .i64 (l.getD i 0 : Nat))
theorem OwnN.nv {w : World} {base : Nat} {v : Value} {l : List Nat} (h : OwnN w base v l) : ∃ a cap, v = .slice a l.length cap ∧ NV w a l := by
  have hl := World.ownsRow.lt h
  rcases h.2 with ⟨rfl, hn⟩ | ⟨g, cap, cur, rfl, hb, hg, hnc, hcm, hcs, htake⟩
  · exact ⟨none, 0, by rw [hn], .inl (List.eq_nil_of_length_eq_zero hn)⟩
  · refine ⟨_, cap, rfl, .inr ⟨g, 0, rfl, (hl g rfl).2, ?_⟩⟩
    intro i hi
    have hc := World.ownsRow.cellAt (g := g) h i (by omega)
    rw [Nat.zero_add, hc, List.getElem?_map, List.getElem?_eq_getElem hi, List.getD_eq_getElem?_getD, List.getElem?_eq_getElem hi]
    rfl
theorem NV.below {w w' : World} {a : Option Addr} {l : List Nat} (h : NV w a l) (hb : Below w.heap.size w w') : NV w' a l := by
  rcases h with rfl | ⟨b, off, rfl, hlt, hc⟩
  · exact .inl rfl
  · exact .inr ⟨b, off, rfl, Nat.lt_of_lt_of_le hlt hb.size, fun i hi => (hb.cell (p := ⟨b, off + i, none⟩) hlt).trans (hc i hi)⟩
theorem loose_len (s : DS) : (loose s).length ≤ s.room := by
  have := List.length_filter_le s.L (List.range s.room)
  simpa [loose] using this
set_option maxHeartbeats 3200000 in
theorem same_any (p nb mb : Nat) (s : DS) (X : List Nat) (r : Value) (w : World) (hd : Dk w p nb mb s) (hr : Rf w X r s) :
    Calls Try.prog 12 #[.pointer (some ⟨p, 0, none⟩), r] w fun e w' => e = .returned (.bool true) ∧ Below w.heap.size w w' := by
  have hroom := hd.1.room
  have hll := loose_len s
  obtain ⟨a, n, cap, done, rfl⟩ := hr.open
  obtain ⟨V, hV⟩ : ∃ V, V = w.alloc (.cells #[.int .i64 s.room, .slice a n cap, .bool s.down, .int .i64 s.ops, .int .i64 s.reads, .int .i64 s.fails, .bool done] 28) := ⟨_, rfl⟩
  have hbV : Below w.heap.size w V := by rw [hV]; exact (Below.refl _ _).alloc (Nat.le_refl _) _
  have hcV : V.heap[w.heap.size]? = some (.cells #[.int .i64 s.room, .slice a n cap, .bool s.down, .int .i64 s.ops, .int .i64 s.reads, .int .i64 s.fails, .bool done] 28 (0, 0)) := by rw [hV]; exact heap_alloc_last _ _
  have hvs : w.heap.size < V.heap.size := (Array.getElem?_eq_some_iff.1 hcV).1
  have HRC : Hid (∀ W, Below V.heap.size V W → RC W w.heap.size (.int .i64 s.room) (.slice a n cap) (.bool s.down) (.int .i64 s.ops) (.int .i64 s.reads) (.int .i64 s.fails) (.bool done)) := fun W hW => RC.of ((hW.block w.heap.size hvs).trans hcV)
  obtain ⟨L, hL⟩ : ∃ L, (loose s).length = L := ⟨_, rfl⟩
  have H23 : Hid (∀ W, Below V.heap.size V W → Calls Try.prog 23 #[.pointer (some ⟨p, 0, none⟩)] W fun e w' => ∃ v c, e = .returned (.slice v L c) ∧ Hid (NV w' v (loose s)) ∧ Below W.heap.size W w' ∧ Below V.heap.size V w') := fun W hW => by
    refine (loose_any p nb mb s W ((hd.below hbV).below hW)).mono ?_
    rintro e w' ⟨v, rfl, ho, hb⟩
    obtain ⟨v, c, rfl, hn⟩ := ho.nv
    rw [hL]
    exact ⟨v, c, rfl, hn, hb, hW.trans (hb.mono hW.size)⟩
  have H31 : Hid (∀ W, Below V.heap.size V W → Calls Try.prog 31 #[.agg #[.int .i64 s.room, .slice a n cap, .bool s.down, .int .i64 s.ops, .int .i64 s.reads, .int .i64 s.fails, .bool done]] W fun e w' => ∃ v c, e = .returned (.slice v L c) ∧ Hid (NV w' v (loose s)) ∧ Below W.heap.size W w' ∧ Below V.heap.size V w') := fun W hW => by
    refine (rloose_any X _ s W ((hr.below hbV).below hW)).mono ?_
    rintro e w' ⟨v, rfl, ho, hb⟩
    obtain ⟨v, c, rfl, hn⟩ := ho.nv
    rw [hL]
    exact ⟨v, c, rfl, hn, hb, hW.trans (hb.mono hW.size)⟩
  have HQ : Hid (∀ W, Below V.heap.size V W → Dk W p nb mb s) := fun W hW => (hd.below hbV).below hW
  have HNV : Hid (∀ W W' v, NV W v (loose s) → Below W.heap.size W W' → NV W' v (loose s)) := fun W W' v h hW => h.below hW
  have HBV : Hid (Below w.heap.size w V) := hbV
  have hL4 : L ≤ 4096 := by omega
  have HLL : Hid ((loose s).length = L) := hL
  clear hd hr hbV hcV hL hll
  unfold rcells
  go_enter Try.func12, Try.ntmps12
  go_wp2_with fail
  rw [← hV]
  clear hV
  go_cut [5, 6] (fun x y wx => ∃ v5 c5 v6 c6, x = .slice v5 L c5 ∧ y = .slice v6 L c6 ∧ Hid (NV wx v5 (loose s) ∧ NV wx v6 (loose s) ∧ Below V.heap.size V wx))
  case first =>
    obtain ⟨r0, r1, r2, r3, r4, r5, r6, _⟩ := HRC.out V (Below.refl _ _)
    go_region_with (first
      | (go_at_call 23; refine (H23.out _ (by first | exact (Below.refl _ _).drew | exact hb6)).mono ?_; rintro e w5 ⟨v5, c5, rfl, n5, hs5, hb5⟩; obtain ⟨q0, q1, q2, q3, q4, q5, q6, _⟩ := HRC.out w5 hb5; clear H23)
      | (go_at_call 31; refine (H31.out _ (by first | exact (Below.refl _ _).drew | exact hb5)).mono ?_; rintro e w6 ⟨v6, c6, rfl, n6, hs6, hb6⟩; clear H31))
    all_goals (
      go_wp2_with fail
      go_meet
      case rel => first
        | exact ⟨v5, c5, v6, c6, rfl, rfl, HNV.out _ _ _ n5.out hs6, n6.out, hb6⟩
        | exact ⟨v5, c5, v6, c6, rfl, rfl, n5.out, HNV.out _ _ _ n6.out hs5, hb5⟩)
  case rest =>
    obtain ⟨v5, c5, v6, c6, rfl, rfl, HW⟩ := hcut
    obtain ⟨r0, r1, r2, r3, r4, r5, r6, _⟩ := HRC.out wc HW.out.2.2
    have HDK : Hid (∀ m, Dk (wc.drewN m) p nb mb s) := fun m => HQ.out _ (below_drewN HW.out.2.2 m)
    have d1 : ((L : Int) != (L : Int)) = false := by simp
    have d2 : (s.down != s.down) = false := by simp
    have d3 : (s.ops != s.ops) = false := by simp
    have d4 : (s.reads != s.reads) = false := by simp
    have d5 : ((s.room : Int) != (s.room : Int)) = false := by simp
    clear H23 H31 HQ HRC
    go_wp2_with fail
    go_quiet (first
      | (go_at_call 19; exact Calls.quiet_of_same (down_any p nb mb s _ (HDK.out _)))
      | (go_at_call 21; exact Calls.quiet_of_same (ops_any p nb mb s _ (HDK.out _)))
      | (go_at_call 22; exact Calls.quiet_of_same (reads_any p nb mb s _ (HDK.out _)))
      | (go_at_call 20; exact Calls.quiet_of_same (blocks_any p nb mb s _ (HDK.out _))))
    go_wp2_with fail
    have HC : Hid (∀ i, i < L → ∃ b1 o1 b2 o2, v5 = some ⟨b1, o1, none⟩ ∧ v6 = some ⟨b2, o2, none⟩ ∧ wc.cell? ⟨b1, o1 + i, none⟩ = some (.int .i64 ((loose s).getD i 0 : Nat)) ∧ wc.cell? ⟨b2, o2 + i, none⟩ = some (.int .i64 ((loose s).getD i 0 : Nat))) := by
      intro i hi
      have := HLL.out
      rcases HW.out.1 with e | ⟨b1, o1, e1, _, h1⟩
      · rw [e] at this; simp at this; omega
      · rcases HW.out.2.1 with e | ⟨b2, o2, e2, _, h2⟩
        · rw [e] at this; simp at this; omega
        · exact ⟨b1, o1, b2, o2, e1, e2, h1 i (by omega), h2 i (by omega)⟩
    go_loopw [7] (fun iv wr => ∃ k m : Nat, k ≤ L ∧ iv = .int .i64 k ∧ wr = wc.drewN m) (fun iv _ => L - (intOf iv).toNat)
    case atStart => exact ⟨0, _, Nat.zero_le _, rfl, rfl⟩
    case round =>
      obtain ⟨k, m, hk, rfl, rfl⟩ := hrel
      by_cases hlt : k < L
      · obtain ⟨b1, o1, b2, o2, rfl, rfl, h1, h2⟩ := HC.out k hlt
        generalize (loose s).getD k 0 = z at *
        have hdk : decide ((k : Int) < (L : Int)) = true := by simp; omega
        go_wp2_with fail
        go_quiet (fail)
        go_wp2_with fail
        go_roundw
        case rel => exact ⟨k + 1, _, by omega, by go_num, by first | rfl | rw [World.drewN_drewN]⟩
        case measure => simp [intOf]; omega
      · have hdk : decide ((k : Int) < (L : Int)) = false := by simp; omega
        go_wp2
        go_ret
        exact ⟨rfl, HBV.out.trans ((below_drewN HW.out.2.2 m).mono HBV.out.size)⟩
end Go.Proofs.Ytmapjikbplindaa
