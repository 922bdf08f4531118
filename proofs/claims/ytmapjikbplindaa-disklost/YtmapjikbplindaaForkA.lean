/- Fork: a disk of its own. -/
import Derived.Test.YtmapjikbplindaaSt
import Derived.Lib.SmallJoins
namespace Go.Proofs.Ytmapjikbplindaa
open Go.RowKit Go.Maps
set_option maxRecDepth 20000
set_option linter.unusedVariables false

theorem rows_at {flat : Array Value} {room : Nat} {B : Nat → List Int} (h : Rows256 flat room B) (j : Nat) (hj : j < room * 256) : ∃ z, flat[j]? = some (.int .u8 z) := by
  have e : j = j / 256 * 256 + j % 256 := by omega
  rw [e]
  exact ⟨_, h.2 (j / 256) (by omega) (j % 256) (by omega)⟩
theorem rows_take {flat cur : Array Value} {room : Nat} {B : Nat → List Int} (h : Rows256 flat room B) (hl : room * 256 ≤ cur.size) (ht : cur.toList.take (room * 256) = flat.toList.take (room * 256)) : Rows256 cur room B := by
  refine ⟨hl, fun n hn i hi => ?_⟩
  rw [← h.2 n hn i hi]
  have hlt : n * 256 + i < room * 256 := by
    have : (n + 1) * 256 ≤ room * 256 := Nat.mul_le_mul_right _ hn
    omega
  have := congrArg (fun l => l[n * 256 + i]?) ht
  simp only [List.getElem?_take_of_lt hlt] at this
  simpa using this
set_option maxHeartbeats 800000 in
theorem clone55 (nb room cap : Nat) (flat : Array Value) (B : Nat → List Int) (w : World) (h : w.heap[nb]? = some (.cells flat 71 (0, 0))) (hr : Rows256 flat room B) (hroom : room ≤ 4096) :
    Calls Try.prog 32 #[.slice (some ⟨nb, 0, none⟩) room cap] w fun e w' => ∃ g cap' flat', e = .returned (.slice (some ⟨g, 0, none⟩) room cap') ∧ room ≤ cap' ∧ w'.heap[g]? = some (.cells flat' 71 (0, 0)) ∧ Rows256 flat' room B ∧ w.heap.size ≤ g ∧ Below w.heap.size w w' := by
  obtain ⟨i0, hi, hz0, hz1, hz2⟩ := info_parts Try.info71
  have hlit : (w.alloc (.cells #[] 71)).ownsRow w.heap.size 71 256 (.slice (some ⟨w.heap.size, 0, none⟩) 0 0) 0 [] := World.ownsRow_lit w #[] 0 (Nat.le_refl _) (by decide) rfl
  have hnb := (Array.getElem?_eq_some_iff.1 h).1
  obtain ⟨cs, hcsE⟩ : ∃ cs, cs = flat.toList.take (room * 256) := ⟨_, rfl⟩
  have hcl : cs.length = room * 256 := by rw [hcsE, List.length_take, Array.length_toList]; have := hr.1; omega
  have hcs : ∀ j u, cs[j]? = some u → (w.alloc (.cells #[] 71)).cell? ((⟨nb, 0, none⟩ : Addr).add j) = some u := by
    intro j u hu
    have hj := (List.getElem?_eq_some_iff.1 hu).1
    rw [hcsE, List.getElem?_take_of_lt (by omega)] at hu
    rw [add_plain, Nat.zero_add, (Below.cell ((Below.refl w.heap.size w).alloc (Nat.le_refl _) _) (p := ⟨nb, j, none⟩) hnb), cell_of_row _ _ _ _ _ _ h]
    simpa using hu
  have hone : ∀ u ∈ cs, u.oneCell' = true := by
    intro u hu
    obtain ⟨j, hj, e⟩ := List.getElem_of_mem hu
    obtain ⟨z, hz⟩ := rows_at hr j (by omega)
    have hu2 : cs[j]? = some u := by rw [List.getElem?_eq_getElem hj, e]
    rw [hcsE, List.getElem?_take_of_lt (by omega)] at hu2
    have : flat[j]? = some u := by simpa using hu2
    rw [hz] at this
    cases this
    rfl
  have HCS : Hid (cs = flat.toList.take (room * 256)) := hcsE
  have HRR : Hid (Rows256 flat room B) := hr
  have heq := fun wx => Lib.run_eql_slice_nil (P := Try.prog) wx 55 71 (some ⟨nb, 0, none⟩) room cap 0 0 Try.underlying55
  clear h hcsE hr
  go_enter Try.func32, Try.ntmps32
  go_wp2_with (first
    | (at_builtin; refine wpList_append_own _ rfl _ _ 55 rfl w.heap.size 71 i0 (blkV zs256) 256 256 Try.underlying55 hi hz0 hz1 hz2 ?c1 (by decide) _ 0 _ rfl hlit ⟨nb, 0, none⟩ room cap cs rfl ?c0 hcs hone ?c3 ?c4 ?c5 ?_)
    | fail)
  case c1 => first | rfl | exact size_blkA len_zs256
  case c0 => rw [hcl]
  case c3 => unfold maxLen; omega
  case c4 => omega
  case c5 => simp
  intro v' w1 hown hgrow hnn
  have HB : Hid (Below w.heap.size w w1) := ((Below.refl _ _).alloc (Nat.le_refl _) _).grown hgrow (by simp) (by intro j hj; simp [Value.ownBlock] at hj; omega)
  have hex : ∃ g cap' flat', v' = .slice (some ⟨g, 0, none⟩) room cap' ∧ room ≤ cap' ∧ w1.heap[g]? = some (.cells flat' 71 (0, 0)) ∧ Rows256 flat' room B ∧ w.heap.size ≤ g := by
    rcases hown.2 with ⟨rfl, hn⟩ | ⟨g, cap', cur, rfl, hb, hg, hnc, hcm, hcs2, htake⟩
    · exact absurd rfl hnn
    · exact ⟨g, cap', cur, rfl, hnc, hg, rows_take HRR.out (by rw [hcs2]; exact Nat.mul_le_mul_right _ hnc) (by rw [htake, HCS.out]), hb⟩
  obtain ⟨g, cap', flat', rfl, e2, e3, e4, e5⟩ := hex
  have HE : Hid (room ≤ cap' ∧ w1.heap[g]? = some (.cells flat' 71 (0, 0)) ∧ Rows256 flat' room B ∧ w.heap.size ≤ g) := ⟨e2, e3, e4, e5⟩
  clear hgrow hlit hcs hown e2 e3 e4 e5
  go_wp2
  go_ret
  exact ⟨g, cap', flat', rfl, HE.out.1, HE.out.2.1, HE.out.2.2.1, HE.out.2.2.2, HB.out⟩
set_option maxHeartbeats 1600000 in
theorem fork_any (p nb mb : Nat) (s : DS) (w : World) (h : Dk w p nb mb s) :
    Calls Try.prog 13 #[.pointer (some ⟨p, 0, none⟩)] w fun e w' => ∃ p' nb' mb', e = .returned (.pointer (some ⟨p', 0, none⟩)) ∧ Dk w' p' nb' mb' s ∧ w.heap.size ≤ p' ∧ w.heap.size ≤ nb' ∧ w.heap.size ≤ mb' ∧ Below w.heap.size w w' := by
  obtain ⟨hn1, hn2, hn3, hp, hnb, hmb⟩ := h.ne
  obtain ⟨ok, cap, set, after, done, flat, d1, d2, d3, d4, ⟨D, hown, hperm, hS⟩, d6⟩ := h
  have hroom := ok.room
  have H32 : Hid (∀ W, Below w.heap.size w W → Calls Try.prog 32 #[.slice (some ⟨nb, 0, none⟩) s.room cap] W fun e w' => ∃ g cap' flat', e = .returned (.slice (some ⟨g, 0, none⟩) s.room cap') ∧ Hid (s.room ≤ cap' ∧ w'.heap[g]? = some (.cells flat' 71 (0, 0)) ∧ Rows256 flat' s.room s.B ∧ W.heap.size ≤ g) ∧ Below W.heap.size W w') := fun W hW => by
    refine (clone55 nb s.room cap flat s.B W ((hW.block nb hnb).trans d2) d4 hroom).mono ?_
    rintro e w' ⟨g, c', f', rfl, h1, h2, h3, h4, h5⟩
    exact ⟨g, c', f', rfl, ⟨h1, h2, h3, h4⟩, h5⟩
  have H33 : Hid (∀ W, Below w.heap.size w W → Calls Try.prog 33 #[.map (some mb)] W fun e w' => e = .returned (.map (some W.heap.size)) ∧ Hid (Mp w' W.heap.size s.room s.L s.S) ∧ Below W.heap.size W w') := fun W hW => by
    have hown' : W.ownsMap Try.prog 3 rv mb (Maps.size D) D := by
      obtain ⟨es, clock, hb, r⟩ := hown
      exact ⟨es, clock, (hW.block mb hmb).trans hb, r⟩
    refine Calls.mono (AnyW.maps_Clone_owns cloneA 3 rv mb (Maps.size D) D W hown') ?_
    rintro e w' ⟨rfl, h1, _, h3⟩
    exact ⟨rfl, ⟨D, h1, hperm, hS⟩, h3⟩
  have HD1 : Hid (∀ W, Below w.heap.size w W → DkC W p (.slice (some ⟨nb, 0, none⟩) s.room cap) (.map (some mb)) (.bool s.down) (.bool set) (.int .i64 after) (.bool done) (.int .i64 s.ops) (.int .i64 s.reads)) := fun W hW => DkB.cells ((hW.block p hp).trans d1)
  have HOK : Hid (s.Ok ∧ Waits s set after done) := ⟨ok, d6⟩
  obtain ⟨c0, c1, c2, c3, c4, c5, c6, c7, f0, f1, f2, f3, f4, f5, f6, f7⟩ := HD1.out w (Below.refl _ _)
  clear d1 d2 d4 hown hperm hS d6 ok
  have hpne : p ≠ w.heap.size := by omega
  have hpne2 : w.heap.size ≠ p := by omega
  obtain ⟨V, hV⟩ : ∃ V, V = w.alloc (.cells #[.slice (some ⟨nb, 0, none⟩) s.room cap, .map (some mb), .bool s.down, .bool set, .int .i64 after, .bool done, .int .i64 s.ops, .int .i64 s.reads] 60) := ⟨_, rfl⟩
  have HBV : Hid (Below w.heap.size w V) := by rw [hV]; exact (Below.refl _ _).alloc (Nat.le_refl _) _
  have HVB : Hid (DkB V w.heap.size (.slice (some ⟨nb, 0, none⟩) s.room cap) (.map (some mb)) (.bool s.down) (.bool set) (.int .i64 after) (.bool done) (.int .i64 s.ops) (.int .i64 s.reads)) := by rw [hV]; exact heap_alloc_last _ _
  have HVs : Hid (w.heap.size < V.heap.size) := (Array.getElem?_eq_some_iff.1 HVB.out).1
  go_enter Try.func13, Try.ntmps13
  go_wp2_with (first
    | (go_at_call 32; rw [← hV]; refine (H32.out _ HBV.out).mono ?_; rintro e w1 ⟨g, cap', flat', rfl, HG, hb1⟩; have HB1 : Hid (Below V.heap.size V w1) := hb1; have x1 : DkB w1 w.heap.size _ _ _ _ _ _ _ _ := (hb1.block w.heap.size HVs.out).trans HVB.out; obtain ⟨a0, a1, a2, a3, a4, a5, a6, a7, y0, y1, y2, y3, y4, y5, y6, y7⟩ := DkB.cells x1; have HX1 : Hid (DkB w1 w.heap.size (.slice (some ⟨nb, 0, none⟩) s.room cap) (.map (some mb)) (.bool s.down) (.bool set) (.int .i64 after) (.bool done) (.int .i64 s.ops) (.int .i64 s.reads)) := x1; obtain ⟨p0, p1, p2, p3, p4, p5, p6, p7, _⟩ := HD1.out w1 (HBV.out.trans (hb1.mono HBV.out.size)); clear hb1 x1)
    | (go_at_call 33; refine (H33.out _ (Below.setCell (HBV.out.trans (HB1.out.mono HBV.out.size)) (by simp) _)).mono ?_; rintro e w2 ⟨rfl, HMP, hb2⟩; have HB2 : Hid (Below w1.heap.size (w1.setCell ⟨w.heap.size, 0, none⟩ (.slice (some ⟨g, 0, none⟩) s.room cap')) w2) := hb2.mono (by simp); have x2 : w2.heap[w.heap.size]? = some (.cells #[.slice (some ⟨g, 0, none⟩) s.room cap', .map (some mb), .bool s.down, .bool set, .int .i64 after, .bool done, .int .i64 s.ops, .int .i64 s.reads] 60 (0, 0)) := (hb2.block w.heap.size (by have := HVs.out; have := HB1.out.size; simp; omega)).trans ((heap_setCell_same w1 w.heap.size 0 _ 60 _ HX1.out).trans rfl); have HX2 : Hid (w2.heap[w.heap.size]? = some (.cells #[.slice (some ⟨g, 0, none⟩) s.room cap', .map (some mb), .bool s.down, .bool set, .int .i64 after, .bool done, .int .i64 s.ops, .int .i64 s.reads] 60 (0, 0))) := x2; obtain ⟨b0, b1, b2, b3, b4, b5, b6, b7, z0, z1, z2, z3, z4, z5, z6, z7⟩ := DkB.cells x2; clear x2 hb2)
    | fail)
  go_ret
  have hg1 : g < w1.heap.size := (Array.getElem?_eq_some_iff.1 HG.out.2.1).1
  have hg0 : w.heap.size < g := Nat.lt_of_lt_of_le HVs.out HG.out.2.2.2
  have ho : Off [w.heap.size] w2 (w2.setCell ⟨w.heap.size, 1, none⟩ (.map (some (w1.setCell ⟨w.heap.size, 0, none⟩ (.slice (some ⟨g, 0, none⟩) s.room cap')).heap.size))) := (Off.refl _ _).setCell (by simp) _
  have hs1 : (w1.setCell ⟨w.heap.size, 0, none⟩ (.slice (some ⟨g, 0, none⟩) s.room cap')).heap.size = w1.heap.size := by simp
  rw [hs1] at ho
  have hHM := HMP.out
  rw [hs1] at hHM
  have hmbne : w1.heap.size ≠ w.heap.size := by have := HB1.out.size; have := HVs.out; omega
  have hg2 : w2.heap[g]? = some (.cells flat' 71 (0, 0)) := (HB2.out.block g hg1).trans ((Below.heap_setCell _ _ _ _ (by show g ≠ w.heap.size; omega)).trans HG.out.2.1)
  refine ⟨w.heap.size, g, w1.heap.size, rfl, ⟨HOK.out.1, cap', set, after, done, flat', ?_, ?_, HG.out.1, HG.out.2.2.1, hHM.off ho (by simp; exact hmbne), HOK.out.2⟩, Nat.le_refl _, by omega, by have := HB1.out.size; have := HVs.out; omega, ?_⟩
  · exact (heap_setCell_same w2 w.heap.size 1 _ 60 _ HX2.out).trans rfl
  · exact (ho.block g (Array.getElem?_eq_some_iff.1 hg2).1 (by simp; omega)).trans hg2
  · exact (Below.setCell ((HBV.out.trans (HB1.out.mono HBV.out.size)).trans (Below.trans (Below.setCell (Below.refl _ _) (by simp) _) (HB2.out.mono (by have := HB1.out.size; have := HVs.out; omega)))) (by simp) _)
end Go.Proofs.Ytmapjikbplindaa
