import Derived.Test.YtbklnadlbcndlaaGreatM20
import Derived.Test.YtbklnadlbcndlaaGreatM21
import Derived.Test.YtbklnadlbcndlaaGreatM3
import Derived.Test.YtbklnadlbcndlaaGreatM12
import Derived.Test.YtbklnadlbcndlaaGreatM22
import Derived.Test.YtbklnadlbcndlaaGreatM9
import Derived.Deep.RegionHeld3
import Derived.Lib.SlBytesConst
namespace Go.Proofs.YtbklnadlbcndlaaGreat
set_option maxRecDepth 20000
open Go.RowKit
set_option linter.unusedVariables false
set_option linter.unusedSimpArgs false
theorem where_any {w0 w : World} {q : Nat} {k : Pl} {lim : Int} {L : FL} {h m : Int} {row : Value} (fn : Nat) (caps : Array Value) (pr : Fr → Bool) (H : Po w0 w q k lim L h m row) (HQ : AsksF w fn caps pr) :
    Calls Tryz.prog 57 #[pf q, .func (.func fn) #[] caps] w fun e w' => e = .returned (.int .i64 (idxF L.fs pr)) ∧ Below w.heap.size w w' := by
  have c2 := H.pb.cells.c2
  have HI := findex_any fn caps pr w0.heap.size row L w H.rb (fun x hx => by obtain ⟨v, h1, _⟩ := H.fr x hx; exact ⟨v, h1⟩) HQ
  obtain ⟨a, cap, e, _⟩ := H.rb.shape
  rw [e] at HI c2
  clear H HQ e
  unfold pf
  go_enter Tryz.func57, Tryz.ntmps57
  go_wp2_with (first | (go_at_call 124; refine HI.mono ?_; rintro e w1 ⟨rfl, hb1⟩; clear HI) | fail)
  go_ret
  exact ⟨rfl, hb1⟩
theorem FL.erase_sub (L : FL) (i : Nat) : ∀ x ∈ L.eraseIdx i, x ∈ L := fun x hx => List.mem_of_mem_eraseIdx hx
theorem FL.erase_bs (L : FL) (i : Nat) : FL.bs (L.eraseIdx i) = L.bs.eraseIdx i := by
  simp only [FL.bs, List.eraseIdx_eq_take_drop_succ, List.map_append, List.map_take, List.map_drop]
theorem FL.erase_nd (L : FL) (i : Nat) (h : L.bs.Nodup) : (FL.bs (L.eraseIdx i)).Nodup := by
  rw [FL.erase_bs]
  exact h.sublist (List.eraseIdx_sublist _ _)
theorem delete_row2 {w0 w : World} {q : Nat} {k : Pl} {lim : Int} {L : FL} {h m : Int} {row : Value} {s : SS} {d : D.DS} (i : Nat) (hi : i < L.length) (H : Pq w0 w q k lim L h m row s d) :
    Calls Tryz.prog 129 #[row, .int .i64 i, .int .i64 ((i : Int) + 1)] w fun e w' => ∃ a n cap, e = .returned (.slice a n cap) ∧ PoB w' q k.p lim row h m ∧ Hid (Pq w0 (w'.setCell ⟨q, 2, none⟩ (.slice a n cap)) q k lim (L.eraseIdx i) h m (.slice a n cap) s d ∧ Nx w (w'.setCell ⟨q, 2, none⟩ (.slice a n cap)) k k ∧ D.Off (q :: row.ownBlock.toList) w (w'.setCell ⟨q, 2, none⟩ (.slice a n cap))) := by
  refine (delete_row i w0.heap.size row L w H.po.rb hi).mono ?_
  rintro e w1 ⟨row', g, rfl, hg, hg', hr', ho⟩
  obtain ⟨a', cap', e', _⟩ := hr'.shape
  have hpb : PoB w1 q k.p lim row h m := H.po.pb.off ho (by simp; rintro rfl; exact H.po.pb.nr H.po.rb hg)
  refine ⟨a', (L.eraseIdx i).length, cap', by rw [e'], hpb, ?_⟩
  rw [← e']
  have ho2 : D.Off [q, g] w (w1.setCell ⟨q, 2, none⟩ row') := (ho.mono (fun x hx => by simp at hx; simp [hx])).setCell (by simp) _
  have hr2 : RowB (w1.setCell ⟨q, 2, none⟩ row') w0.heap.size row' (L.eraseIdx i) := hr'.off (Y := [q]) ((D.Off.refl _ _).setCell (by simp) _) (fun g2 h2 => by rw [hg'] at h2; cases h2; simp; rintro rfl; exact H.po.pb.nr H.po.rb hg)
  have := H.rerow (w' := w1.setCell ⟨q, 2, none⟩ row') (h' := h) (m' := m) (row' := row') (L' := L.eraseIdx i) [] (by simp) ho2 (fun y hy => by simp at hy; rcases hy with rfl | rfl; exact .inl rfl; exact .inr hg) (hpb.set2 row') hr2 (fun g2 h2 => by rw [hg'] at h2; cases h2; exact .inr (H.po.rz _ hg)) (fun x hx => .inl (L.erase_sub i x hx)) (L.erase_nd i H.po.nd) (by have := H.po.ll; have : (L.eraseIdx i).length ≤ L.length := List.length_eraseIdx_le _ _; omega)
  exact ⟨this.1, this.2, by rw [hg]; exact ho2⟩
set_option maxHeartbeats 800000 in
theorem drop_any {w0 w : World} {q : Nat} {k : Pl} {lim : Int} {L : FL} {h m : Int} {row : Value} {s : SS} {d : D.DS} (i : Nat) (hi : i < L.length) (H : Pq w0 w q k lim L h m row s d) :
    Calls Tryz.prog 60 #[pf q, .int .i64 i] w fun e w' => e = .returned (.tuple #[]) ∧ ∃ row', Pq w0 w' q k lim (L.eraseIdx i) h m row' s d ∧ Nx w w' k k ∧ D.Off (q :: row.ownBlock.toList) w w' := by
  have c2 := H.po.pb.cells.c2
  have HI := delete_row2 i hi H
  have hb : (i : Int) < 1000 := by have := H.po.ll; have := H.po.l1; omega
  obtain ⟨a, cap, e, _⟩ := H.po.rb.shape
  have HRE : Hid (row = .slice a L.length cap) := e
  rw [e] at HI c2
  clear H e hi
  generalize L.length = n at HI c2 HRE
  unfold pf
  go_enter Tryz.func60, Tryz.ntmps60
  go_wp2_with (first | (go_at_call 129; refine HI.mono ?_; rintro e w1 ⟨a', n', cap', rfl, hpb, HR⟩; clear HI; have c2' := hpb.cells.c2; have f2' := hpb.cells.f 2; clear hpb) | fail)
  refine bodyPost_end (v := .tuple #[]) (results_none rfl _ _ _) rfl ?_
  have := HR.out
  rw [← HRE.out] at this
  exact ⟨rfl, _, this⟩
def FL.use (L : FL) (i : Nat) (hi : i < L.length) : FL := L.eraseIdx i ++ [L[i]]
theorem FL.use_perm (L : FL) (i : Nat) (hi : i < L.length) : (L.use i hi).Perm L := by
  unfold FL.use
  rw [List.eraseIdx_eq_take_drop_succ]
  have e : L = L.take i ++ L[i] :: L.drop (i + 1) := by rw [← List.drop_eq_getElem_cons hi, List.take_append_drop]
  refine (List.perm_append_comm).trans ?_
  have := (List.perm_middle (a := L[i]) (l₁ := L.take i) (l₂ := L.drop (i + 1))).symm
  rw [← e] at this
  exact this
theorem FL.use_nd (L : FL) (i : Nat) (hi : i < L.length) (h : L.bs.Nodup) : (FL.bs (L.use i hi)).Nodup :=
  ((L.use_perm i hi).map _).nodup_iff.2 h

theorem Pq.app {w0 w w2 : World} {q : Nat} {k : Pl} {lim : Int} {L : FL} {h m : Int} {row : Value} {s : SS} {d : D.DS} (H : Pq w0 w q k lim L h m row s d) (ys : List Nat) (hys : ∀ y ∈ ys, w.heap.size ≤ y ∧ y < w2.heap.size) (b : Nat) (f : Fr) (v row' : Value)
    (hown : w2.ownsRow w0.heap.size 102 1 row' (L.length + 1) (L.ps ++ [pf b])) (ho : D.Off (q :: row.ownBlock.toList) w w2) (hrb : ∀ g, row'.ownBlock = some g → row.ownBlock = some g ∨ w.heap.size ≤ g) (hpb : PoB w2 q k.p lim row h m)
    (hb : b ∈ ys ∨ b ∈ k.z) (hbn : b ∉ L.bs) (hfv : FrB w2 b f v) (hfb : ∀ zs : List Nat, (∀ y ∈ zs, w.heap.size ≤ y) → FB w2 (k.more zs).X v f.zs) (hll : (L.length : Int) < lim) :
    ∃ k', Pq w0 (w2.setCell ⟨q, 2, none⟩ row') q k' lim (L ++ [(b, f)]) h m row' s d ∧ Nx w (w2.setCell ⟨q, 2, none⟩ row') k k' := by
  have hr0 : RowB w2 w0.heap.size row' (L ++ [(b, f)]) := by
    unfold RowB FL.ps at *
    simpa using hown
  obtain ⟨g', hg'⟩ : ∃ g, row'.ownBlock = some g := by
    rcases hown.2 with ⟨_, h0⟩ | ⟨g, cap, cur, rfl, _⟩
    · omega
    · exact ⟨g, rfl⟩
  have hr : RowB (w2.setCell ⟨q, 2, none⟩ row') w0.heap.size row' (L ++ [(b, f)]) :=
    hr0.off (Y := [q]) ((D.Off.refl _ _).setCell (by simp) _) (fun g hg => by simp; rintro rfl; exact hpb.nr hr0 hg)
  have hq : D.Off [q] w2 (w2.setCell ⟨q, 2, none⟩ row') := (D.Off.refl _ _).setCell (by simp) _
  have hbq : b ∉ [q] := by simp; exact fun e => hfv.ne hpb e
  have hs2 : (w2.setCell ⟨q, 2, none⟩ row').heap.size = w2.heap.size := by unfold World.setCell; simp
  have hgl : g' < w2.heap.size := (World.ownsRow.lt hown g' hg').2
  have hnd : (FL.bs (L ++ [(b, f)])).Nodup := by
    simp only [FL.bs, List.map_append, List.map_cons, List.map_nil]
    rw [List.nodup_append]
    refine ⟨H.po.nd, by simp, fun x hx y hy => ?_⟩
    simp at hy
    subst hy
    rintro rfl
    exact hbn hx
  have key : ∀ zs : List Nat, (∀ y ∈ zs, y ∈ ys ∨ y = g') → (∀ y ∈ ys, y ∈ zs) → (g' ∈ zs ∨ g' ∈ k.z) → (∀ y ∈ zs, w.heap.size ≤ y) → ∃ k', Pq w0 (w2.setCell ⟨q, 2, none⟩ row') q k' lim (L ++ [(b, f)]) h m row' s d ∧ Nx w (w2.setCell ⟨q, 2, none⟩ row') k k' := by
    intro zs hz1 hz2 hz3 hz4
    refine ⟨k.more zs, H.rerow (Y := q :: row.ownBlock.toList) zs (fun y hy => ⟨hz4 y hy, ?_⟩) (ho.trans (hq.mono (by simp))) (fun y hy => ?_) (hpb.set2 row') hr (fun g hg => ?_) (fun x hx => ?_) hnd (by simp; omega)⟩
    · rw [hs2]
      rcases hz1 y hy with h | rfl
      · exact (hys y h).2
      · exact hgl
    · simp at hy
      exact hy
    · rw [hg'] at hg; cases hg; exact hz3
    · rcases List.mem_append.1 hx with hx | hx
      · exact .inl hx
      · simp at hx
        subst hx
        refine .inr ⟨?_, v, hfv.off hq hbq, (hfb zs hz4).off hq (fun y hy => by simp at hy; subst hy; simp [Pl.X, Pl.more, H.po.qz])⟩
        rcases hb with hb | hb
        · exact .inl (hz2 b hb)
        · exact .inr hb
  rcases hrb g' hg' with h | h
  · exact key ys (fun y hy => .inl hy) (fun y hy => hy) (.inr (H.po.rz g' h)) (fun y hy => (hys y hy).1)
  · exact key (g' :: ys) (fun y hy => by simp at hy; rcases hy with rfl | hy; exact .inr rfl; exact .inl hy) (fun y hy => by simp [hy]) (.inl (by simp)) (fun y hy => by simp at hy; rcases hy with rfl | hy; exact h; exact (hys y hy).1)
theorem own_slice {w : World} {base : Nat} {row : Value} {n : Nat} {xs : List Value} (h : w.ownsRow base 102 1 row n xs) : ∃ a n' cap, row = .slice a n' cap := by
  rcases h.2 with ⟨rfl, _⟩ | ⟨g, cap, cur, rfl, _⟩
  · exact ⟨_, _, _, rfl⟩
  · exact ⟨_, _, _, rfl⟩
set_option maxHeartbeats 800000 in
theorem use_any {w0 w : World} {q : Nat} {k : Pl} {lim : Int} {L : FL} {h m : Int} {row : Value} {s : SS} {d : D.DS} (i : Nat) (hi : i < L.length) (H : Pq w0 w q k lim L h m row s d) :
    Calls Tryz.prog 114 #[pf q, .int .i64 i] w fun e w' => e = .returned (pf L[i].1) ∧ ∃ k' row', Pq w0 w' q k' lim (L.use i hi) h m row' s d ∧ Nx w w' k k' := by
  have c2 := H.po.pb.cells.c2
  have HD := drop_any i hi H
  obtain ⟨a, cap, e, hn, hc, hm, hcell⟩ := H.po.rb.shape
  obtain ⟨g, rfl, hg, hce⟩ := hcell (by omega)
  have ci := hce i hi
  rw [e] at c2
  obtain ⟨b, hb⟩ : ∃ b, b = L[i].1 := ⟨_, rfl⟩
  have HB : Hid (b = L[i].1) := hb
  rw [← hb] at ci ⊢
  have HH : Hid (Pq w0 w q k lim L h m row s d) := H
  have HIL : Hid (i < L.length) := hi
  have hin : i < L.length := hi
  have hcm : L.length ≤ cap := hc
  have HU : Hid (∀ w1 row1, Pq w0 w1 q k lim (L.eraseIdx i) h m row1 s d → Nx w w1 k k → D.Off (q :: row.ownBlock.toList) w w1 → ∀ row' w2, w2.ownsRow w0.heap.size 102 1 row' ((L.eraseIdx i).length + 1) (FL.ps (L.eraseIdx i) ++ [pf b]) → (w1.alloc (.cells #[pf b] 102)).grownBy w2 row1.ownBlock → (∀ g', row'.ownBlock = some g' → row1.ownBlock = some g' ∨ (w1.alloc (.cells #[pf b] 102)).heap.size ≤ g') → PoB w2 q k.p lim row1 h m ∧ ∃ k' row'', Pq w0 (w2.setCell ⟨q, 2, none⟩ row') q k' lim (L.use i hi) h m row'' s d ∧ Nx w (w2.setCell ⟨q, 2, none⟩ row') k k') := by
    intro w1 row1 H1 hx ho1 row' w2 hown hgr hrb
    have hal : D.Off [] w1 (w1.alloc (.cells #[pf b] 102)) := (D.Off.refl _ _).alloc _
    have ho : D.Off (q :: row1.ownBlock.toList) w1 w2 := (hal.mono (by simp)).trans ⟨hgr.os, hgr.tape, hgr.output, hgr.size, fun j hj hjx => hgr.block j hj (fun e => hjx (by simp [e]))⟩
    have hsz : (w1.alloc (.cells #[pf b] 102)).heap.size = w1.heap.size + 1 := by simp
    have hpb : PoB w2 q k.p lim row1 h m := by
      have h1 := H1.po.pb
      unfold PoB at h1 ⊢
      rw [hgr.block q (by have := H1.po.pb.lt; omega) (fun e => H1.po.pb.nr H1.po.rb e.symm), @heap_alloc_old _ _ _ H1.po.pb.lt]
      exact h1
    have hmem : L[i] ∈ L := List.getElem_mem _
    obtain ⟨v, hf, hfb⟩ := HH.out.po.fr _ hmem
    have hf1 : FrB w1 L[i].1 L[i].2 v := hf.off ho1 (by
      intro hm
      simp at hm
      rcases hm with e | e
      · exact hf.ne HH.out.po.pb e
      · exact hf.nr HH.out.po.rb e)
    have hf2 : FrB w2 L[i].1 L[i].2 v := hf1.off ho (by
      intro hm
      simp at hm
      rcases hm with e | e
      · exact hf1.ne H1.po.pb e
      · exact hf1.nr H1.po.rb e)
    have hbn : b ∉ FL.bs (L.eraseIdx i) := by
      have := (L.use_nd i hi HH.out.po.nd)
      unfold FL.use FL.bs at this
      rw [List.map_append, List.nodup_append] at this
      intro hbm
      exact this.2.2 b hbm b (by simp [HB.out]) rfl
    have hbz : b ∈ k.z := by rw [HB.out]; exact HH.out.po.bz _ (List.mem_map.2 ⟨_, hmem, rfl⟩)
    have hfb1 : FB w1 k.X v L[i].2.zs := hfb.off hx.off (fun _ h => h)
    have hel : (L.eraseIdx i).length = L.length - 1 := by rw [List.length_eraseIdx, if_pos hi]
    rw [HB.out] at hbn hbz hown
    have := H1.app (w2 := w2) [] (by simp) L[i].1 L[i].2 v row' hown ho (fun g' hg' => by
      rcases hrb g' hg' with h | h
      · exact .inl h
      · exact .inr (by omega)) hpb (.inr hbz) hbn hf2 (fun zs hz => (hfb1.more zs hz).off ho (fun y hy => by
        simp at hy
        rcases hy with rfl | hy
        · simp [Pl.X, Pl.more, H1.po.qz]
        · simp [Pl.X, Pl.more, H1.po.rz y hy])) (by have := HH.out.po.ll; omega)
    obtain ⟨k', hk1, hk2⟩ := this
    exact ⟨hpb, k', row', hk1, hx.trans hk2⟩
  clear H e hn hcell hce hc hb
  unfold pf at ci HD ⊢
  go_enter Tryz.func114, Tryz.ntmps114
  go_wp2_with (first
    | (go_at_call 60; refine HD.mono ?_; rintro e w1 ⟨rfl, row1, hp1, hx1, ho1⟩; clear HD; have HP1 : Hid (Pq w0 w1 q k lim (L.eraseIdx i) h m row1 s d) := hp1; have HX1 : Hid (Nx w w1 k k) := hx1; have HO1 : Hid (D.Off (q :: row.ownBlock.toList) w w1) := ho1; have c21 := hp1.po.pb.cells.c2; obtain ⟨a1, cap1, e1, _⟩ := hp1.po.rb.shape; have HE1 : Hid (row1 = .slice a1 (L.eraseIdx i).length cap1) := e1; rw [e1] at c21; clear hp1 hx1 ho1 e1)
    | (at_builtin; refine wp_app_row rfl _ _ rfl w0.heap.size row1 (L.eraseIdx i) (by rw [HE1.out]; rfl) (World.ownsRow.alloc HP1.out.po.rb _) b w1.heap.size rfl (heap_alloc_last _ _) (by have := HP1.out.po.ll; have := HP1.out.po.l1; omega) (by have := HP1.out.mi.be.size; simp; omega) ?_; intro row2 w2 o2 g2 r2; have hu := HU.out w1 row1 HP1.out HX1.out HO1.out row2 w2 o2 g2 r2; have c22 := hu.1.cells.c2; have f22 := hu.1.cells.f 2; rw [HE1.out] at c22; have HU2 : Hid (∃ k' row'', Pq w0 (w2.setCell ⟨q, 2, none⟩ row2) q k' lim (L.use i hi) h m row'' s d ∧ Nx w (w2.setCell ⟨q, 2, none⟩ row2) k k') := hu.2; obtain ⟨g2', n2, cap2, e2⟩ := own_slice o2; clear hu o2 g2 r2; subst e2)
    | fail)
  go_ret
  exact ⟨rfl, HU2.out⟩
end Go.Proofs.YtbklnadlbcndlaaGreat
namespace Go.Proofs.YtbklnadlbcndlaaGreat
set_option maxRecDepth 20000
open Go.RowKit
set_option linter.unusedVariables false
set_option linter.unusedSimpArgs false
def clR (fs : List Fr) (s : SS) (d : D.DS) (i : Nat) : Int × List Fr × SS × D.DS :=
  match fs[i]? with
  | none => (0, fs, s, d)
  | some f => if f.dt = true then ((wrR s d f.id f.kd f.zs).1, if (wrR s d f.id f.kd f.zs).1 = 0 then fs.set i { f with dt := false } else fs, (wrR s d f.id f.kd f.zs).2.1, (wrR s d f.id f.kd f.zs).2.2) else (0, fs, s, d)
theorem Pq.drew {w0 w : World} {q : Nat} {k : Pl} {lim : Int} {L : FL} {h m : Int} {row : Value} {s : SS} {d : D.DS} (H : Pq w0 w q k lim L h m row s d) : Pq w0 w.drew q k lim L h m row s d := H.below (Below.refl _ _).drew
theorem FL.set_fs (L : FL) (i : Nat) (x : Nat × Fr) : FL.fs (L.set i x) = L.fs.set i x.2 := by
  apply List.ext_getElem?
  intro j
  simp only [FL.fs, List.getElem?_map, List.getElem?_set, List.length_map]
  by_cases hj : i = j
  · subst hj
    by_cases hl : i < L.length <;> simp [hl]
  · simp [hj]
theorem Pq.at {w0 w : World} {q : Nat} {k : Pl} {lim : Int} {L : FL} {h m : Int} {row : Value} {s : SS} {d : D.DS} (H : Pq w0 w q k lim L h m row s d) (i : Nat) (hi : i < L.length) :
    ∃ g cap a c, row = .slice (some ⟨g, 0, none⟩) L.length cap ∧ L.length ≤ cap ∧ w.cell? ⟨g, i, none⟩ = some (pf L[i].1) ∧ FrB w L[i].1 L[i].2 (.slice a L[i].2.zs.length c) ∧ FB w k.X (.slice a L[i].2.zs.length c) L[i].2.zs ∧ (a = none → c = 0) ∧ L[i].2.zs.length ≤ c ∧ c ≤ 9223372036854775807 ∧ BV w a L[i].2.zs := by
  obtain ⟨a, cap, e, hn, hc, hm, hcell⟩ := H.po.rb.shape
  obtain ⟨g, rfl, hg, hce⟩ := hcell (by omega)
  obtain ⟨v, hf, hfb⟩ := H.po.fr _ (List.getElem_mem hi)
  obtain ⟨a, c, rfl, h0, h1, h2, h3, h4⟩ := id hfb
  exact ⟨g, cap, a, c, e, hc, hce i hi, hf, hfb, h0, h1, h2, h3⟩
set_option maxHeartbeats 1000000 in
theorem clean_any {w0 w : World} {q : Nat} {k : Pl} {lim : Int} {L : FL} {h m : Int} {row : Value} {s : SS} {d : D.DS} (i : Nat) (hi : i < L.length) (H : Pq w0 w q k lim L h m row s d) :
    Calls Tryz.prog 61 #[pf q, .int .i64 i] w fun e w' => e = .returned (.int .i64 (clR L.fs s d i).1) ∧ ∃ L', L'.bs = L.bs ∧ L'.fs = (clR L.fs s d i).2.1 ∧ Pq w0 w' q k lim L' h m row (clR L.fs s d i).2.2.1 (clR L.fs s d i).2.2.2 ∧ Nx w w' k k := by
  have c0 := H.po.pb.cells.c0
  have c2 := H.po.pb.cells.c2
  obtain ⟨g, cap, a, c, e, hcap, cg, hf, hfb, ha0, hac, hc63, hbv⟩ := H.at i hi
  have f0 := hf.cells.c0
  have f1 := hf.cells.c1
  have f2 := hf.cells.c2
  have f4 := hf.cells.c4
  have HH : Hid (Pq w0 w q k lim L h m row s d) := H
  have hcl : clR L.fs s d i = if L[i].2.dt = true then ((wrR s d L[i].2.id L[i].2.kd L[i].2.zs).1, if (wrR s d L[i].2.id L[i].2.kd L[i].2.zs).1 = 0 then L.fs.set i { L[i].2 with dt := false } else L.fs, (wrR s d L[i].2.id L[i].2.kd L[i].2.zs).2.1, (wrR s d L[i].2.id L[i].2.kd L[i].2.zs).2.2) else (0, L.fs, s, d) := by
    unfold clR
    rw [FL.fs_get L i hi]
  rw [e] at c2
  cases hdt : L[i].2.dt
  · rw [hdt] at f4 hcl
    simp only [Bool.false_eq_true, if_false] at hcl
    rw [hcl]
    have HN : Hid (i < L.length) := hi
    clear H hbv hfb hf hcl hdt e hac f0 f1 f2
    obtain ⟨n, hn⟩ : ∃ n, n = L.length := ⟨_, rfl⟩
    have hin : i < n := by omega
    rw [← hn] at c2 hcap
    clear hn
    unfold pf at *
    generalize L[i].1 = b at *
    clear hi
    go_enter Tryz.func61, Tryz.ntmps61
    go_wp2_with fail
    go_ret
    exact ⟨rfl, L, rfl, rfl, HH.out, Nx.refl _ _⟩
  · rw [hdt] at f4 hcl
    simp only [if_true] at hcl
    have HW := m_write (w0 := w0) L[i].2.id L[i].2.kd a c L[i].2.zs w.drew H.drew.mi hbv ha0 (by omega)
    obtain ⟨b, hb⟩ : ∃ b, b = L[i].1 := ⟨_, rfl⟩
    obtain ⟨f, hfe⟩ : ∃ f, f = L[i].2 := ⟨_, rfl⟩
    rw [← hfe] at f0 f1 f2 HW hcl hac
    rw [← hb] at f0 f1 f2 f4 cg
    have HB : Hid (b = L[i].1) := hb
    have HF : Hid (f = L[i].2) := hfe
    have CL : Hid (∀ W, D.Off k.K w W → PoB W q k.p lim row h m ∧ FrB W b f (.slice a f.zs.length c)) := fun W hW => ⟨(HH.out.po.off hW).pb, by
      rw [HB.out, HF.out]
      exact hf.off hW (HH.out.po.zk _ (HH.out.po.bz _ (List.mem_map.2 ⟨_, List.getElem_mem hi, rfl⟩)))⟩
    have CC : Hid (∀ W, D.Off k.K w W → W.cell? ⟨q, 0, none⟩ = some (.pointer (some ⟨k.p, 0, none⟩)) ∧ W.cell? ⟨b, 0, none⟩ = some (.int .i64 f.id) ∧ W.cell? ⟨b, 1, none⟩ = some (.int .i64 f.kd) ∧ W.cell? ⟨b, 2, none⟩ = some (.slice a f.zs.length c)) := fun W hW => ⟨(CL.out W hW).1.cells.c0, (CL.out W hW).2.cells.c0, (CL.out W hW).2.cells.c1, (CL.out W hW).2.cells.c2⟩
    rw [hcl]
    have HN : Hid (i < L.length) := hi
    obtain ⟨r, hr⟩ : ∃ r, r = wrR s d f.id f.kd f.zs := ⟨_, rfl⟩
    rw [← hr] at HW ⊢
    have FIN : Hid (∀ w1, Mi w0 w1 k r.2.1 r.2.2 → D.Off k.K w.drew w1 → Pq w0 w1 q k lim L h m row r.2.1 r.2.2 ∧ Nx w w1 k k ∧ ∃ L', L'.bs = L.bs ∧ L'.fs = L.fs.set i { f with dt := false } ∧ Pq w0 (w1.setCell ⟨b, 4, none⟩ (.bool false)) q k lim L' h m row r.2.1 r.2.2 ∧ Nx w (w1.setCell ⟨b, 4, none⟩ (.bool false)) k k) := by
      intro w1 hm ho
      have hk : D.Off k.K w w1 := ((D.Off.refl _ _).drew).trans ho
      have H1 : Pq w0 w1 q k lim L h m row r.2.1 r.2.2 := ⟨HH.out.po.off hk, hm⟩
      refine ⟨H1, Nx.ofK hk, ?_⟩
      have hfr := (CL.out w1 hk).2
      have hfb1 : FB w1 k.X (.slice a f.zs.length c) f.zs := by
        have := hfb.off hk k.kx
        rw [← HF.out] at this
        exact this
      have hofs : D.Off [L[i].1] w1 (w1.setCell ⟨b, 4, none⟩ (.bool false)) := (D.Off.refl _ _).setCell (by show b ∈ [L[i].1]; rw [HB.out]; exact List.mem_singleton.2 rfl) _
      have := H1.reframe (w' := w1.setCell ⟨b, 4, none⟩ (.bool false)) i HN.out { f with dt := false } (.slice a f.zs.length c) hofs (by rw [← HB.out]; exact hfr.set4 false) (hfb1.off hofs (fun y hy => by
        simp at hy
        rw [hy]
        exact k.zx _ (HH.out.po.bz _ (List.mem_map.2 ⟨_, List.getElem_mem HN.out, rfl⟩))))
      exact ⟨_, FL.set_bs L i HN.out _, by rw [FL.set_fs], this.1, (Nx.ofK hk).trans this.2⟩
    have HR : Hid (r = wrR s d f.id f.kd f.zs) := hr
    clear H hbv hfb hf hcl hdt e hb hfe hr
    obtain ⟨n, hn⟩ : ∃ n, n = L.length := ⟨_, rfl⟩
    have hin : i < n := by omega
    rw [← hn] at c2 hcap
    clear hn HB HF
    clear hi
    unfold pf at *
    go_enter Tryz.func61, Tryz.ntmps61
    go_wp2_with fail
    go_region_held3 (fun W => W.cell? ⟨q, 0, none⟩ = some (.pointer (some ⟨k.p, 0, none⟩)) ∧ W.cell? ⟨b, 0, none⟩ = some (.int .i64 f.id) ∧ W.cell? ⟨b, 1, none⟩ = some (.int .i64 f.kd) ∧ W.cell? ⟨b, 2, none⟩ = some (.slice a f.zs.length c)) (first | exact CC.out _ ((D.Off.refl _ _).drew) | exact CC.out _ (((D.Off.refl _ _).drew).trans ho)) (first | (go_at_call 130; refine HW.mono ?_; rintro e w1 ⟨rfl, hm, ho⟩))
    have HFI : Hid (Pq w0 w1 q k lim L h m row r.2.1 r.2.2 ∧ Nx w w1 k k ∧ ∃ L', L'.bs = L.bs ∧ L'.fs = L.fs.set i { f with dt := false } ∧ Pq w0 (w1.setCell ⟨b, 4, none⟩ (.bool false)) q k lim L' h m row r.2.1 r.2.2 ∧ Nx w (w1.setCell ⟨b, 4, none⟩ (.bool false)) k k) := FIN.out w1 hm ho
    have hfr := (CL.out w1 (((D.Off.refl _ _).drew).trans ho)).2
    have g4 := hfr.cells.c4
    have z4 := hfr.cells.f 4
    clear hm ho hfr HW CL CC FIN
    obtain ⟨r1, r2⟩ := r
    by_cases h0 : r1 = 0
    · subst h0
      go_wp2_with fail
      go_ret
      obtain ⟨_, _, L', l1, l2, l3, l4⟩ := HFI.out
      exact ⟨rfl, L', l1, by simpa using l2, l3, l4⟩
    · have h0' : (r1 == 0) = false := by simpa using h0
      have h0'' : (r1 != 0) = true := by simpa using h0
      go_wp2_with fail
      go_ret
      refine ⟨rfl, L, rfl, ?_, HFI.out.1, HFI.out.2.1⟩
      simp [h0]

def mrR (lim : Int) (fs : List Fr) (s : SS) (d : D.DS) : Int × List Fr × SS × D.DS :=
  if (fs.length : Int) < lim then (0, fs, s, d) else if idxF fs loose < 0 then (14, fs, s, d)
  else if (clR fs s d (idxF fs loose).toNat).1 ≠ 0 then clR fs s d (idxF fs loose).toNat
  else (0, (clR fs s d (idxF fs loose).toNat).2.1.eraseIdx (idxF fs loose).toNat, (clR fs s d (idxF fs loose).toNat).2.2)
theorem idxF_lt {fs : List Fr} {pr : Fr → Bool} (h : ¬ idxF fs pr < 0) : ∃ i : Nat, idxF fs pr = i ∧ i < fs.length := by
  unfold idxF at h ⊢
  split at h
  · rename_i hl
    rw [if_pos hl]
    exact ⟨_, rfl, hl⟩
  · omega
theorem idxF_neg {fs : List Fr} {pr : Fr → Bool} (h : idxF fs pr < 0) : idxF fs pr = -1 := by
  unfold idxF at h ⊢
  split at h
  · omega
  · rename_i hl
    rw [if_neg hl]
theorem clR_len (fs : List Fr) (s : SS) (d : D.DS) (i : Nat) : (clR fs s d i).2.1.length = fs.length := by
  unfold clR
  cases fs[i]? with
  | none => rfl
  | some f => simp only; split; (simp only; split <;> simp); rfl
theorem mrR_len {lim : Int} {fs : List Fr} {s : SS} {d : D.DS} (h0 : 1 ≤ lim) (hl : (fs.length : Int) ≤ lim) (h : (mrR lim fs s d).1 = 0) : ((mrR lim fs s d).2.1.length : Int) < lim := by
  unfold mrR at h ⊢
  split at h
  · rename_i h1; rw [if_pos h1]; exact h1
  · rename_i h1
    rw [if_neg h1]
    split at h
    · simp at h
    · rename_i h2
      rw [if_neg h2]
      split at h
      · rename_i h3; exact absurd h h3
      · rename_i h3
        rw [if_neg h3]
        obtain ⟨i, hi, hlt⟩ := idxF_lt h2
        rw [hi]
        simp only [Int.toNat_natCast, List.length_eraseIdx, clR_len, if_pos hlt]
        omega
theorem FL.erase_fs (L : FL) (i : Nat) : FL.fs (L.eraseIdx i) = L.fs.eraseIdx i := by
  simp only [FL.fs, List.eraseIdx_eq_take_drop_succ, List.map_append, List.map_take, List.map_drop]
set_option maxHeartbeats 1000000 in
theorem room_any {w0 w : World} {q : Nat} {k : Pl} {lim : Int} {L : FL} {h m : Int} {row : Value} {s : SS} {d : D.DS} (H : Pq w0 w q k lim L h m row s d) :
    Calls Tryz.prog 53 #[pf q] w fun e w' => e = .returned (.int .i64 (mrR lim L.fs s d).1) ∧ ∃ row' L', L'.fs = (mrR lim L.fs s d).2.1 ∧ Pq w0 w' q k lim L' h m row' (mrR lim L.fs s d).2.2.1 (mrR lim L.fs s d).2.2.2 ∧ Nx w w' k k := by
  have c1 := H.po.pb.cells.c1
  have c2 := H.po.pb.cells.c2
  obtain ⟨a, cap, e, _, hcap, hm, _⟩ := H.po.rb.shape
  rw [e] at c2
  have HH : Hid (Pq w0 w q k lim L h m row s d) := H
  have hfl : L.fs.length = L.length := L.fs_len
  obtain ⟨n, hn⟩ : ∃ n, n = L.length := ⟨_, rfl⟩
  rw [← hn] at c2 hcap
  have HN : Hid (n = L.length) := hn
  have hl0 := H.po.l0
  have hl1 := H.po.l1
  have hll := H.po.ll
  rw [← hn] at hll
  have HD0 : Hid (Below w.heap.size w w.drew) := (Below.refl _ _).drew
  have HWH := where_any (w := w.drew) 116 #[] loose (H.po.below (Below.refl _ _).drew) (asks116 _)
  by_cases h1 : (n : Int) < lim
  · have hmr : mrR lim L.fs s d = (0, L.fs, s, d) := by unfold mrR; rw [hfl, ← hn, if_pos h1]
    rw [hmr]
    clear H e hfl hn hmr HWH
    unfold pf
    go_enter Tryz.func53, Tryz.ntmps53
    go_wp2_with fail
    go_region
    go_wp2_with fail
    go_ret
    exact ⟨rfl, row, L, rfl, HH.out.drew, Nx.below k HD0.out⟩
  · by_cases h2 : idxF L.fs loose < 0
    · have hmr : mrR lim L.fs s d = (14, L.fs, s, d) := by unfold mrR; rw [hfl, ← hn, if_neg h1, if_pos h2]
      rw [hmr]
      rw [idxF_neg h2] at HWH
      clear H e hfl hn hmr h2
      unfold pf at *
      go_enter Tryz.func53, Tryz.ntmps53
      go_wp2_with fail
      go_region
      go_wp2_with (first | (go_at_call 57; refine HWH.mono ?_; rintro e w1 ⟨rfl, hb1⟩; clear HWH) | fail)
      go_ret
      exact ⟨rfl, row, L, rfl, HH.out.drew.below hb1, Nx.below k (HD0.out.trans (hb1.mono HD0.out.size))⟩
    · obtain ⟨i, hi, hlt⟩ := idxF_lt h2
      rw [hi] at HWH
      rw [hfl] at hlt
      have hmr : mrR lim L.fs s d = if (clR L.fs s d i).1 ≠ 0 then clR L.fs s d i else (0, (clR L.fs s d i).2.1.eraseIdx i, (clR L.fs s d i).2.2) := by
        unfold mrR; rw [hfl, ← hn, if_neg h1, if_neg h2, hi, Int.toNat_natCast]
      have HC : Hid (∀ w1, Below w.drew.heap.size w.drew w1 → Calls Tryz.prog 61 #[pf q, .int .i64 i] w1 fun e w' => e = .returned (.int .i64 (clR L.fs s d i).1) ∧ ∃ L', L'.bs = L.bs ∧ L'.fs = (clR L.fs s d i).2.1 ∧ Pq w0 w' q k lim L' h m row (clR L.fs s d i).2.2.1 (clR L.fs s d i).2.2.2 ∧ Nx w1 w' k k) := fun w1 hb => clean_any i hlt (HH.out.drew.below hb)
      have HLEN : Hid ((clR L.fs s d i).2.1.length = L.length) := (clR_len _ _ _ _).trans hfl
      have HI : Hid (i < L.length) := hlt
      have hlt' : i < n := by omega
      generalize clR L.fs s d i = r at *
      rw [hmr]
      clear H e hfl hn hmr h2 hi hlt
      unfold pf at *
      obtain ⟨r1, r2, r3⟩ := r
      have HDD : Hid (∀ (L2 : FL) (w2 : World), L2.fs = r2 → Pq w0 w2 q k lim L2 h m row r3.1 r3.2 → Calls Tryz.prog 60 #[.pointer (some ⟨q, 0, none⟩), .int .i64 i] w2 fun e w' => e = .returned (.tuple #[]) ∧ ∃ row', Pq w0 w' q k lim (L2.eraseIdx i) h m row' r3.1 r3.2 ∧ Nx w2 w' k k ∧ D.Off (q :: row.ownBlock.toList) w2 w') := fun L2 w2 hL hQ => drop_any i (by rw [← L2.fs_len, hL]; have := HLEN.out; have := HI.out; simp only at *; omega) hQ
      by_cases h0 : r1 = 0
      · subst h0
        go_enter Tryz.func53, Tryz.ntmps53
        go_wp2_with fail
        go_region
        go_wp2_with (first
          | (go_at_call 57; refine HWH.mono ?_; rintro e w1 ⟨rfl, hb1⟩; clear HWH; have HB1 : Hid (Below w.drew.heap.size w.drew w1) := hb1; clear hb1)
          | (go_at_call 61; refine (HC.out w1 HB1.out).mono ?_; rintro e w2 ⟨rfl, L2, l1, l2, l3, l4⟩; have HL2 : Hid (L2.bs = L.bs ∧ L2.fs = r2) := ⟨l1, l2⟩; have HQ2 : Hid (Pq w0 w2 q k lim L2 h m row r3.1 r3.2) := l3; have HX2 : Hid (Nx w w2 k k) := (Nx.below k (HD0.out.trans (HB1.out.mono HD0.out.size))).trans l4; clear l1 l2 l3 l4)
          | (go_at_call 60; refine (HDD.out L2 w2 HL2.out.2 HQ2.out).mono ?_; rintro e w3 ⟨rfl, row3, l1, l2, _⟩; have HQ3 : Hid (∃ row', Pq w0 w3 q k lim (L2.eraseIdx i) h m row' r3.1 r3.2) := ⟨_, l1⟩; have HX3 : Hid (Nx w w3 k k) := HX2.out.trans l2; clear l1 l2)
          | fail)
        go_ret
        obtain ⟨row', hq⟩ := HQ3.out
        refine ⟨rfl, row', L2.eraseIdx i, ?_, hq, HX3.out⟩
        rw [FL.erase_fs, HL2.out.2]
      · have h0' : (r1 == 0) = false := by simpa using h0
        have h0'' : (r1 != 0) = true := by simpa using h0
        go_enter Tryz.func53, Tryz.ntmps53
        go_wp2_with fail
        go_region
        go_wp2_with (first
          | (go_at_call 57; refine HWH.mono ?_; rintro e w1 ⟨rfl, hb1⟩; clear HWH; have HB1 : Hid (Below w.drew.heap.size w.drew w1) := hb1; clear hb1)
          | (go_at_call 61; refine (HC.out w1 HB1.out).mono ?_; rintro e w2 ⟨rfl, L2, l1, l2, l3, l4⟩; have HL2 : Hid (L2.bs = L.bs ∧ L2.fs = r2) := ⟨l1, l2⟩; have HQ2 : Hid (Pq w0 w2 q k lim L2 h m row r3.1 r3.2) := l3; have HX2 : Hid (Nx w w2 k k) := (Nx.below k (HD0.out.trans (HB1.out.mono HD0.out.size))).trans l4; clear l1 l2 l3 l4)
          | fail)
        go_ret
        exact ⟨rfl, row, L2, HL2.out.2, HQ2.out, HX2.out⟩
end Go.Proofs.YtbklnadlbcndlaaGreat
namespace Go.Proofs.YtbklnadlbcndlaaGreat
set_option maxRecDepth 20000
open Go.RowKit
set_option linter.unusedVariables false
set_option linter.unusedSimpArgs false
theorem FB.nx {w w' : World} {k k' : Pl} {v : Value} {zs : List Int} (h : FB w k.X v zs) (hx : Nx w w' k k') : FB w' k'.X v zs := by
  obtain ⟨⟨ys, rfl, hy⟩, ho⟩ := hx
  exact (h.more ys hy).off ho (fun y hy' => by
    rcases Pl.x_cases hy' with h | h
    · exact (k.more ys).kx y h
    · simp [Pl.X, Pl.more, h])
def hdR (fs : List Fr) (id kd : Int) (zs : List Int) : List Fr :=
  if idxF fs (hasId id) < 0 then fs ++ [⟨id, kd, zs, 0, false⟩] else fs.eraseIdx (idxF fs (hasId id)).toNat ++ (fs[(idxF fs (hasId id)).toNat]?).toList.map (fun f => { f with kd := kd, zs := zs, dt := false })
theorem FL.snoc_fs (L : FL) (b : Nat) (f : Fr) : FL.fs (L ++ [(b, f)]) = L.fs ++ [f] := by simp [FL.fs]
theorem FL.use_last (L : FL) (b : Nat) (f : Fr) (h : L.length < (L ++ [(b, f)]).length) : FL.use (L ++ [(b, f)]) L.length h = L ++ [(b, f)] := by
  unfold FL.use
  simp [List.eraseIdx_append_of_length_le]
theorem Pq.relast {w0 w w' : World} {q : Nat} {k : Pl} {lim : Int} {L : FL} {b : Nat} {f0 : Fr} {h m : Int} {row : Value} {s : SS} {d : D.DS} (H : Pq w0 w q k lim (L ++ [(b, f0)]) h m row s d) (f : Fr) (v : Value)
    (ho : D.Off [b] w w') (hf : FrB w' b f v) (hv : FB w' k.X v f.zs) : Pq w0 w' q k lim (L ++ [(b, f)]) h m row s d ∧ Nx w w' k k := by
  have hi : L.length < (L ++ [(b, f0)]).length := by simp
  have e : (L ++ [(b, f0)])[L.length] = (b, f0) := by simp
  have := H.reframe (w' := w') L.length hi f v (by rw [e]; exact ho) (by rw [e]; exact hf) hv
  rw [e] at this
  have e2 : (L ++ [(b, f0)]).set L.length (b, f) = L ++ [(b, f)] := by simp
  rw [e2] at this
  exact this
theorem Pq.last {w0 w : World} {q : Nat} {k : Pl} {lim : Int} {L : FL} {b : Nat} {f : Fr} {h m : Int} {row : Value} {s : SS} {d : D.DS} (H : Pq w0 w q k lim (L ++ [(b, f)]) h m row s d) : b ∈ k.z ∧ ∃ a c, FrB w b f (.slice a f.zs.length c) ∧ FB w k.X (.slice a f.zs.length c) f.zs ∧ (a = none → c = 0) ∧ f.zs.length ≤ c ∧ c ≤ 9223372036854775807 ∧ BV w a f.zs := by
  obtain ⟨v, hf, hfb⟩ := H.po.fr (b, f) (by simp)
  obtain ⟨a, c, rfl, h0, h1, h2, h3, h4⟩ := id hfb
  exact ⟨H.po.bz b (List.mem_map.2 ⟨(b, f), by simp, rfl⟩), a, c, hf, hfb, h0, h1, h2, h3⟩
theorem hold_end {w0 w w1 : World} {q : Nat} {k k1 : Pl} {lim : Int} {L : FL} {b : Nat} {f0 : Fr} {h m : Int} {row : Value} {s : SS} {d : D.DS} {v : Value} {zs : List Int} (kd : Int) (dt : Bool) (hv : FB w k.X v zs) (hx : Nx w w1 k k1) (H : Pq w0 w1 q k1 lim (L ++ [(b, f0)]) h m row s d) :
    (∃ u, FrB w1 b f0 u) ∧ Pq w0 (((w1.setCell ⟨b, 1, none⟩ (.int .i64 kd)).setCell ⟨b, 2, none⟩ v).setCell ⟨b, 4, none⟩ (.bool dt)) q k1 lim (L ++ [(b, { f0 with kd := kd, zs := zs, dt := dt })]) h m row s d ∧ Nx w (((w1.setCell ⟨b, 1, none⟩ (.int .i64 kd)).setCell ⟨b, 2, none⟩ v).setCell ⟨b, 4, none⟩ (.bool dt)) k k1 := by
  obtain ⟨hbz, a, c, hf, hfb, _⟩ := H.last
  have ho : D.Off [b] w1 (((w1.setCell ⟨b, 1, none⟩ (.int .i64 kd)).setCell ⟨b, 2, none⟩ v).setCell ⟨b, 4, none⟩ (.bool dt)) := (((D.Off.refl _ _).setCell (by simp) _).setCell (by simp) _).setCell (by simp) _
  have hv1 := (hv.nx hx).off ho (fun y hy => by simp at hy; subst hy; exact k1.zx _ hbz)
  have := H.relast { f0 with kd := kd, zs := zs, dt := dt } v ho (((hf.set1 kd).set2 v zs).set4 dt) hv1
  exact ⟨⟨_, hf⟩, this.1, hx.trans this.2⟩
set_option maxHeartbeats 1000000 in
theorem hold_there {w0 w : World} {q : Nat} {k : Pl} {lim : Int} {L : FL} {h m : Int} {row : Value} {s : SS} {d : D.DS} (id kd : Int) (a : Option Addr) (c : Nat) (zs : List Int) (H : Pq w0 w q k lim L h m row s d) (hv : FB w k.X (.slice a zs.length c) zs) (i : Nat) (hi : i < L.length) (hix : idxF L.fs (hasId id) = i) :
    Calls Tryz.prog 55 #[pf q, .int .i64 id, .int .i64 kd, .slice a zs.length c] w fun e w' => ∃ b, e = .returned (pf b) ∧ ∃ k' row', Pq w0 w' q k' lim (L.eraseIdx i ++ [(b, { L[i].2 with kd := kd, zs := zs, dt := false })]) h m row' s d ∧ Nx w w' k k' := by
  have HH : Hid (Pq w0 w q k lim L h m row s d) := H
  have HHO := holding_any id w
  have HWH : Hid (∀ w1 x, Below w.heap.size w w1 → AsksF w1 125 #[.pointer (some ⟨x, 0, none⟩)] (hasId id) → Calls Tryz.prog 57 #[pf q, .func (.func 125) #[] #[.pointer (some ⟨x, 0, none⟩)]] w1 fun e w' => e = .returned (.int .i64 i) ∧ Below w1.heap.size w1 w') := fun w1 x hb hq => by
    have := where_any 125 _ _ (HH.out.po.below hb) hq
    rw [hix] at this
    exact this
  have HU : Hid (∀ w1, Below w.heap.size w w1 → Calls Tryz.prog 114 #[pf q, .int .i64 i] w1 fun e w' => e = .returned (pf L[i].1) ∧ ∃ k' row', Pq w0 w' q k' lim (L.eraseIdx i ++ [(L[i].1, L[i].2)]) h m row' s d ∧ Nx w1 w' k k') := fun w1 hb => use_any i hi (HH.out.below hb)
  have HV : Hid (FB w k.X (.slice a zs.length c) zs) := hv
  generalize L[i].1 = b at *
  generalize L[i].2 = f at *
  have hb0 : (0 : Int) ≤ i := by omega
  clear H hv hix
  unfold pf at *
  go_enter Tryz.func55, Tryz.ntmps55
  go_wp2_with (first
    | (go_at_call 58; refine HHO.mono ?_; rintro e w1 ⟨rfl, hb1, hq1⟩; clear HHO; have HB1 : Hid (Below w.heap.size w w1) := hb1; have HQ1 : Hid (AsksF w1 125 #[.pointer (some ⟨w.heap.size, 0, none⟩)] (hasId id)) := hq1; clear hb1 hq1)
    | (go_at_call 57; refine (HWH.out w1 w.heap.size HB1.out HQ1.out).mono ?_; rintro e w2 ⟨rfl, hb2⟩; have HB2 : Hid (Below w.heap.size w w2) := HB1.out.trans (hb2.mono HB1.out.size); clear hb2)
    | (go_at_call 114; refine (HU.out w2 HB2.out).mono ?_; rintro e w3 ⟨rfl, k3, row3, hp3, hx3⟩; have HE := hold_end kd false HV.out ((Nx.below k HB2.out).trans hx3) hp3; obtain ⟨⟨u, hfr⟩, hE1, hE2⟩ := HE; have HE1 : Hid (Pq w0 _ q k3 lim _ h m row3 s d) := hE1; have HE2 : Hid (Nx w _ k k3) := hE2; have g1 := hfr.cells.c1; have g2 := hfr.cells.c2; have g4 := hfr.cells.c4; have z1 := hfr.cells.f 1; have z2 := hfr.cells.f 2; have z4 := hfr.cells.f 4; clear hp3 hx3 hfr hE1 hE2)
    | fail)
  go_ret
  exact ⟨_, rfl, k3, row3, HE1.out, HE2.out⟩

theorem alloc2_last (w : World) (o1 o2 : Obj) : ((w.alloc o1).alloc o2).heap[w.heap.size + 1]? = some o2 := by
  have e : (w.alloc o1).heap.size = w.heap.size + 1 := by simp
  rw [← e]
  exact heap_alloc_last _ _
theorem hold_app {w0 w w2 : World} {q : Nat} {k : Pl} {lim : Int} {L : FL} {h m : Int} {row : Value} {s : SS} {d : D.DS} (id : Int) (row' : Value) (H : Pq w0 w q k lim L h m row s d) (hll : (L.length : Int) < lim)
    (hown : w2.ownsRow w0.heap.size 102 1 row' (L.length + 1) (L.ps ++ [pf w.heap.size])) (hgr : ((w.alloc (.cells #[.int .i64 id, .int .i64 0, .slice none 0 0, .int .i64 0, .bool false] 106)).alloc (.cells #[pf w.heap.size] 102)).grownBy w2 row.ownBlock)
    (hrb : ∀ g', row'.ownBlock = some g' → row.ownBlock = some g' ∨ ((w.alloc (.cells #[.int .i64 id, .int .i64 0, .slice none 0 0, .int .i64 0, .bool false] 106)).alloc (.cells #[pf w.heap.size] 102)).heap.size ≤ g') :
    PoB w2 q k.p lim row h m ∧ ∃ k', Pq w0 (w2.setCell ⟨q, 2, none⟩ row') q k' lim (L ++ [(w.heap.size, ⟨id, 0, [], 0, false⟩)]) h m row' s d ∧ Nx w (w2.setCell ⟨q, 2, none⟩ row') k k' := by
  have hs1 : (w.alloc (.cells #[.int .i64 id, .int .i64 0, .slice none 0 0, .int .i64 0, .bool false] 106)).heap.size = w.heap.size + 1 := by simp
  have hs2 : ((w.alloc (.cells #[.int .i64 id, .int .i64 0, .slice none 0 0, .int .i64 0, .bool false] 106)).alloc (.cells #[pf w.heap.size] 102)).heap.size = w.heap.size + 1 + 1 := by simp
  have hal : D.Off [] w ((w.alloc (.cells #[.int .i64 id, .int .i64 0, .slice none 0 0, .int .i64 0, .bool false] 106)).alloc (.cells #[pf w.heap.size] 102)) := ((D.Off.refl _ _).alloc _).alloc _
  have hfr : FrB ((w.alloc (.cells #[.int .i64 id, .int .i64 0, .slice none 0 0, .int .i64 0, .bool false] 106)).alloc (.cells #[pf w.heap.size] 102)) w.heap.size ⟨id, 0, [], 0, false⟩ (.slice none 0 0) := by
    unfold FrB
    rw [@heap_alloc_old _ _ _ (by omega)]
    exact heap_alloc_last _ _
  generalize ((w.alloc (.cells #[.int .i64 id, .int .i64 0, .slice none 0 0, .int .i64 0, .bool false] 106)).alloc (.cells #[pf w.heap.size] 102)) = W at *
  have ho : D.Off (q :: row.ownBlock.toList) w w2 := (hal.mono (by simp)).trans ⟨hgr.os, hgr.tape, hgr.output, hgr.size, fun j hj hjx => hgr.block j hj (fun e => hjx (by simp [e]))⟩
  have hpl := H.po.pb.lt
  have hpb : PoB w2 q k.p lim row h m := by
    have h1 := H.po.pb
    unfold PoB at h1 ⊢
    rw [hgr.block q (by omega) (fun e => H.po.pb.nr H.po.rb e.symm), hal.block q hpl (by simp)]
    exact h1
  have hrl := World.ownsRow.lt H.po.rb
  have hf2 : FrB w2 w.heap.size ⟨id, 0, [], 0, false⟩ (.slice none 0 0) := by
    unfold FrB at hfr ⊢
    rw [hgr.block w.heap.size (by omega) (fun e => by have := (hrl _ e.symm).2; omega)]
    exact hfr
  refine ⟨hpb, H.app (w2 := w2) [w.heap.size] (fun y hy => ?_) w.heap.size _ (.slice none 0 0) row' hown ho (fun g' hg' => ?_) hpb (.inl (by simp)) (fun hm => ?_) hf2 (fun zs _ => fb_nil _ _) hll⟩
  · simp at hy
    subst hy
    have := hgr.size
    omega
  · rcases hrb g' hg' with h | h
    · exact .inl h
    · exact .inr (by omega)
  · obtain ⟨x, hx, e⟩ := List.mem_map.1 hm
    obtain ⟨v, h1, _⟩ := H.po.fr x hx
    have := h1.lt
    omega
set_option maxHeartbeats 1000000 in
theorem hold_new {w0 w : World} {q : Nat} {k : Pl} {lim : Int} {L : FL} {h m : Int} {row : Value} {s : SS} {d : D.DS} (id kd : Int) (a : Option Addr) (c : Nat) (zs : List Int) (H : Pq w0 w q k lim L h m row s d) (hv : FB w k.X (.slice a zs.length c) zs) (hll : (L.length : Int) < lim) (hix : idxF L.fs (hasId id) = -1) :
    Calls Tryz.prog 55 #[pf q, .int .i64 id, .int .i64 kd, .slice a zs.length c] w fun e w' => ∃ b, e = .returned (pf b) ∧ ∃ k' row', Pq w0 w' q k' lim (L ++ [(b, ⟨id, kd, zs, 0, false⟩)]) h m row' s d ∧ Nx w w' k k' := by
  have HH : Hid (Pq w0 w q k lim L h m row s d) := H
  have HHO := holding_any id w
  have HWH : Hid (∀ w1 x, Below w.heap.size w w1 → AsksF w1 125 #[.pointer (some ⟨x, 0, none⟩)] (hasId id) → Calls Tryz.prog 57 #[pf q, .func (.func 125) #[] #[.pointer (some ⟨x, 0, none⟩)]] w1 fun e w' => e = .returned (.int .i64 (-1)) ∧ Below w1.heap.size w1 w') := fun w1 x hb hq => by
    have := where_any 125 _ _ (HH.out.po.below hb) hq
    rw [hix] at this
    exact this
  obtain ⟨ra, rc, re, rn, rcl, rcm, _⟩ := H.po.rb.shape
  have HRE : Hid (row = .slice ra L.length rc) := re
  have CC : Hid (∀ W, Below w.heap.size w W → W.cell? ⟨q, 2, none⟩ = some (.slice ra L.length rc)) := fun W hW => by rw [← HRE.out]; exact (HH.out.below hW).po.pb.cells.c2
  have HU : Hid (∀ (w1 : World) (b : Nat) (f : Fr) (k1 : Pl) (row1 : Value), Pq w0 w1 q k1 lim (L ++ [(b, f)]) h m row1 s d → Calls Tryz.prog 114 #[pf q, .int .i64 (L.length : Nat)] w1 fun e w' => e = .returned (pf b) ∧ ∃ k' row', Pq w0 w' q k' lim (L ++ [(b, f)]) h m row' s d ∧ Nx w1 w' k1 k') := fun w1 b f k1 row1 hq => by
    have := use_any L.length (by simp) hq
    rw [FL.use_last] at this
    simpa using this
  have HV : Hid (FB w k.X (.slice a zs.length c) zs) := hv
  have HLL : Hid ((L.length : Int) < lim) := hll
  have hl : L.length ≤ 1000 := by have := H.po.l1; omega
  obtain ⟨n, hn⟩ : ∃ n, n = L.length := ⟨_, rfl⟩
  have HN : Hid (n = L.length) := hn
  rw [← hn] at CC HU HRE hl rcl
  clear H hv hix re hn hll
  unfold pf at HWH HU ⊢
  go_enter Tryz.func55, Tryz.ntmps55
  go_wp2_with (first
    | (go_at_call 58; refine HHO.mono ?_; rintro e w1 ⟨rfl, hb1, hq1⟩; clear HHO; have HB1 : Hid (Below w.heap.size w w1) := hb1; have HQ1 : Hid (AsksF w1 125 #[.pointer (some ⟨w.heap.size, 0, none⟩)] (hasId id)) := hq1; clear hb1 hq1)
    | (go_at_call 57; refine (HWH.out w1 w.heap.size HB1.out HQ1.out).mono ?_; rintro e w2 ⟨rfl, hb2⟩; have HB2 : Hid (Below w.heap.size w w2) := HB1.out.trans (hb2.mono HB1.out.size); clear hb2; have c2 := CC.out w2 HB2.out)
    | (at_builtin; refine wp_app_row rfl _ _ rfl w0.heap.size row L (by rw [HRE.out]; rfl) (World.ownsRow.alloc (World.ownsRow.alloc (HH.out.below HB2.out).po.rb _) _) w2.heap.size (w2.heap.size + 1) (by simp [Act.eval, Act.put]) (alloc2_last _ _ _) (by have := HN.out; omega) (by have := (HH.out.below HB2.out).mi.be.size; simp; omega) ?_; intro row3 w3 o3 g3 r3; have hu := hold_app id row3 (HH.out.below HB2.out) HLL.out o3 g3 r3; have c23 := hu.1.cells.c2; have f23 := hu.1.cells.f 2; rw [HRE.out] at c23; obtain ⟨k3, hq3, hx3⟩ := hu.2; have HQ3 : Hid (Pq w0 (w3.setCell ⟨q, 2, none⟩ row3) q k3 lim (L ++ [(w2.heap.size, ⟨id, 0, [], 0, false⟩)]) h m row3 s d) := hq3; have HX3 : Hid (Nx w (w3.setCell ⟨q, 2, none⟩ row3) k k3) := (Nx.below k HB2.out).trans hx3; obtain ⟨g2', n2, cap2, e2⟩ := own_slice o3; clear hu o3 g3 r3 hq3 hx3; subst e2)
    | (go_at_call 114; refine (HU.out _ _ _ _ _ HQ3.out).mono ?_; rintro e w4 ⟨rfl, k4, row4, hp4, hx4⟩; have HE := hold_end kd false HV.out (HX3.out.trans hx4) hp4; obtain ⟨⟨u, hfr⟩, hE1, hE2⟩ := HE; have HE1 : Hid (Pq w0 _ q k4 lim _ h m row4 s d) := hE1; have HE2 : Hid (Nx w _ k k4) := hE2; have g1 := hfr.cells.c1; have g2 := hfr.cells.c2; have g4 := hfr.cells.c4; have z1 := hfr.cells.f 1; have z2 := hfr.cells.f 2; have z4 := hfr.cells.f 4; clear hp4 hx4 hfr hE1 hE2)
    | fail)
  go_ret
  exact ⟨_, rfl, k4, row4, HE1.out, HE2.out⟩
end Go.Proofs.YtbklnadlbcndlaaGreat
namespace Go.Proofs.YtbklnadlbcndlaaGreat
set_option maxRecDepth 20000
open Go.RowKit
set_option linter.unusedVariables false
set_option linter.unusedSimpArgs false
theorem hold_frame {w0 w : World} {q : Nat} {k : Pl} {lim : Int} {L : FL} {h m : Int} {row : Value} {s : SS} {d : D.DS} (id kd : Int) (a : Option Addr) (c : Nat) (zs : List Int) (H : Pq w0 w q k lim L h m row s d) (hv : FB w k.X (.slice a zs.length c) zs) (hll : (L.length : Int) < lim) :
    Calls Tryz.prog 55 #[pf q, .int .i64 id, .int .i64 kd, .slice a zs.length c] w fun e w' => ∃ b f L', e = .returned (pf b) ∧ FL.fs (L' ++ [(b, f)]) = hdR L.fs id kd zs ∧ ∃ k' row', Pq w0 w' q k' lim (L' ++ [(b, f)]) h m row' s d ∧ Nx w w' k k' := by
  by_cases hx : idxF L.fs (hasId id) < 0
  · refine (hold_new id kd a c zs H hv hll (idxF_neg hx)).mono ?_
    rintro e w' ⟨b, rfl, k', row', hq, hn⟩
    exact ⟨b, _, L, rfl, by rw [FL.snoc_fs]; unfold hdR; rw [if_pos hx], k', row', hq, hn⟩
  · obtain ⟨i, hi, hlt⟩ := idxF_lt hx
    rw [FL.fs_len] at hlt
    refine (hold_there id kd a c zs H hv i hlt hi).mono ?_
    rintro e w' ⟨b, rfl, k', row', hq, hn⟩
    refine ⟨b, _, L.eraseIdx i, rfl, ?_, k', row', hq, hn⟩
    rw [FL.snoc_fs, FL.erase_fs]
    unfold hdR
    rw [if_neg hx, hi, Int.toNat_natCast, FL.fs_get L i hlt]
    rfl
theorem Pq.hits {w0 w : World} {q : Nat} {k : Pl} {lim : Int} {L : FL} {h m : Int} {row : Value} {s : SS} {d : D.DS} (H : Pq w0 w q k lim L h m row s d) (x : Int) : Pq w0 (w.setCell ⟨q, 3, none⟩ (.int .i64 x)) q k lim L x m row s d ∧ Nx w (w.setCell ⟨q, 3, none⟩ (.int .i64 x)) k k := by
  have ho : D.Off [q] w (w.setCell ⟨q, 3, none⟩ (.int .i64 x)) := (D.Off.refl _ _).setCell (by simp) _
  exact H.rerow [] (by simp) ho (fun y hy => by simp at hy; exact .inl hy) (H.po.pb.set3 x) (H.po.rb.off ho (fun g hg => by simp; rintro rfl; exact H.po.pb.nr H.po.rb hg)) (fun g hg => .inr (H.po.rz g hg)) (fun x hx => .inl hx) H.po.nd H.po.ll
theorem Pq.miss {w0 w : World} {q : Nat} {k : Pl} {lim : Int} {L : FL} {h m : Int} {row : Value} {s : SS} {d : D.DS} (H : Pq w0 w q k lim L h m row s d) (x : Int) : Pq w0 (w.setCell ⟨q, 4, none⟩ (.int .i64 x)) q k lim L h x row s d ∧ Nx w (w.setCell ⟨q, 4, none⟩ (.int .i64 x)) k k := by
  have ho : D.Off [q] w (w.setCell ⟨q, 4, none⟩ (.int .i64 x)) := (D.Off.refl _ _).setCell (by simp) _
  exact H.rerow [] (by simp) ho (fun y hy => by simp at hy; exact .inl hy) (H.po.pb.set4 x) (H.po.rb.off ho (fun g hg => by simp; rintro rfl; exact H.po.pb.nr H.po.rb hg)) (fun g hg => .inr (H.po.rz g hg)) (fun x hx => .inl hx) H.po.nd H.po.ll
def ftR (P : PS) (s : SS) (d : D.DS) (id : Int) : Int × PS × SS × D.DS :=
  if 0 ≤ idxF P.fs (hasId id) then (0, { P with fs := P.fs.eraseIdx (idxF P.fs (hasId id)).toNat ++ (P.fs[(idxF P.fs (hasId id)).toNat]?).toList, hits := incI P.hits }, s, d)
  else if (mrR P.lim P.fs s d).1 ≠ 0 then ((mrR P.lim P.fs s d).1, { P with fs := (mrR P.lim P.fs s d).2.1, miss := incI P.miss }, (mrR P.lim P.fs s d).2.2)
  else if rdE (mrR P.lim P.fs s d).2.2.1 (mrR P.lim P.fs s d).2.2.2 id ≠ 0 then (rdE (mrR P.lim P.fs s d).2.2.1 (mrR P.lim P.fs s d).2.2.2 id, { P with fs := (mrR P.lim P.fs s d).2.1, miss := incI P.miss }, rdR (mrR P.lim P.fs s d).2.2.1 (mrR P.lim P.fs s d).2.2.2 id)
  else (0, { P with fs := hdR (mrR P.lim P.fs s d).2.1 id (rdKd (mrR P.lim P.fs s d).2.2.1 (mrR P.lim P.fs s d).2.2.2 id) (rdBy (mrR P.lim P.fs s d).2.2.1 (mrR P.lim P.fs s d).2.2.2 id), miss := incI P.miss }, rdR (mrR P.lim P.fs s d).2.2.1 (mrR P.lim P.fs s d).2.2.2 id)
def FtP (w0 w : World) (q : Nat) (k : Pl) (R : Int × PS × SS × D.DS) (e : Ending) (w' : World) : Prop :=
  (R.1 = 0 ∧ ∃ b f L' k' row', e = .returned (.tuple #[pf b, .int .i64 0]) ∧ FL.fs (L' ++ [(b, f)]) = R.2.1.fs ∧ Pq w0 w' q k' R.2.1.lim (L' ++ [(b, f)]) R.2.1.hits R.2.1.miss row' R.2.2.1 R.2.2.2 ∧ Nx w w' k k') ∨
  (R.1 ≠ 0 ∧ ∃ L' row', e = .returned (.tuple #[.pointer none, .int .i64 R.1]) ∧ L'.fs = R.2.1.fs ∧ Pq w0 w' q k R.2.1.lim L' R.2.1.hits R.2.1.miss row' R.2.2.1 R.2.2.2 ∧ Nx w w' k k)
set_option maxHeartbeats 1000000 in
theorem fetch_hit {w0 w : World} {q : Nat} {k : Pl} {P : PS} {L : FL} {row : Value} {s : SS} {d : D.DS} (id : Int) (hP : L.fs = P.fs) (H : Pq w0 w q k P.lim L P.hits P.miss row s d) (i : Nat) (hi : i < L.length) (hix : idxF L.fs (hasId id) = i) :
    Calls Tryz.prog 51 #[pf q, .int .i64 id] w fun e w' => FtP w0 w q k (ftR P s d id) e w' := by
  have hft : ftR P s d id = (0, { P with fs := P.fs.eraseIdx i ++ (P.fs[i]?).toList, hits := incI P.hits }, s, d) := by
    unfold ftR
    rw [← hP, hix, if_pos (by omega), Int.toNat_natCast]
  rw [hft]
  have HH : Hid (Pq w0 w q k P.lim L P.hits P.miss row s d) := H
  have HHO := holding_any id w
  have HWH : Hid (∀ w1 x, Below w.heap.size w w1 → AsksF w1 125 #[.pointer (some ⟨x, 0, none⟩)] (hasId id) → Calls Tryz.prog 57 #[pf q, .func (.func 125) #[] #[.pointer (some ⟨x, 0, none⟩)]] w1 fun e w' => e = .returned (.int .i64 i) ∧ Below w1.heap.size w1 w') := fun w1 x hb hq => by
    have := where_any 125 _ _ (HH.out.po.below hb) hq
    rw [hix] at this
    exact this
  have HU : Hid (∀ w1 x, Pq w0 w1 q k P.lim L x P.miss row s d → Calls Tryz.prog 114 #[pf q, .int .i64 i] w1 fun e w' => e = .returned (pf L[i].1) ∧ ∃ k' row', Pq w0 w' q k' P.lim (L.eraseIdx i ++ [(L[i].1, L[i].2)]) x P.miss row' s d ∧ Nx w1 w' k k') := fun w1 x hq => use_any i hi hq
  have HFS : Hid (FL.fs (L.eraseIdx i ++ [(L[i].1, L[i].2)]) = P.fs.eraseIdx i ++ (P.fs[i]?).toList) := by
    show FL.fs (L.eraseIdx i ++ [(L[i].1, L[i].2)]) = P.fs.eraseIdx i ++ (P.fs[i]?).toList
    rw [FL.snoc_fs, FL.erase_fs, ← hP, FL.fs_get L i hi]; rfl
  generalize L[i].1 = b at *
  generalize L[i].2 = f at *
  have hb0 : (0 : Int) ≤ i := by omega
  clear H hix hft hP
  unfold pf at HWH HU ⊢
  go_enter Tryz.func51, Tryz.ntmps51
  go_wp2_with (first
    | (go_at_call 58; refine HHO.mono ?_; rintro e w1 ⟨rfl, hb1, hq1⟩; clear HHO; have HB1 : Hid (Below w.heap.size w w1) := hb1; have HQ1 : Hid (AsksF w1 125 #[.pointer (some ⟨w.heap.size, 0, none⟩)] (hasId id)) := hq1; clear hb1 hq1)
    | (go_at_call 57; refine (HWH.out w1 w.heap.size HB1.out HQ1.out).mono ?_; rintro e w2 ⟨rfl, hb2⟩; have HB2 : Hid (Below w.heap.size w w2) := HB1.out.trans (hb2.mono HB1.out.size); clear hb2; have c3 := (HH.out.below HB2.out).po.pb.cells.c3; have f3 := (HH.out.below HB2.out).po.pb.cells.f 3)
    | (go_at_call 114; refine (HU.out _ (incI P.hits) ((HH.out.below HB2.out).hits (incI P.hits)).1).mono ?_; rintro e w3 ⟨rfl, k3, row3, hp3, hx3⟩; have HP3 : Hid (Pq w0 w3 q k3 P.lim (L.eraseIdx i ++ [(b, f)]) (incI P.hits) P.miss row3 s d) := hp3; have HX3 : Hid (Nx w w3 k k3) := ((Nx.below k HB2.out).trans ((HH.out.below HB2.out).hits (incI P.hits)).2).trans hx3; clear hp3 hx3)
    | fail)
  go_ret2
  exact .inl ⟨rfl, b, f, _, k3, row3, rfl, HFS.out, HP3.out, HX3.out⟩

set_option maxHeartbeats 2000000 in
theorem fetch_miss {w0 w : World} {q : Nat} {k : Pl} {P : PS} {L : FL} {row : Value} {s : SS} {d : D.DS} (id : Int) (hP : L.fs = P.fs) (H : Pq w0 w q k P.lim L P.hits P.miss row s d) (hix : idxF L.fs (hasId id) = -1) :
    Calls Tryz.prog 51 #[pf q, .int .i64 id] w fun e w' => FtP w0 w q k (ftR P s d id) e w' := by
  obtain ⟨R, hR⟩ : ∃ R, R = mrR P.lim P.fs s d := ⟨_, rfl⟩
  have hft : ftR P s d id = if R.1 ≠ 0 then (R.1, { P with fs := R.2.1, miss := incI P.miss }, R.2.2) else if rdE R.2.2.1 R.2.2.2 id ≠ 0 then (rdE R.2.2.1 R.2.2.2 id, { P with fs := R.2.1, miss := incI P.miss }, rdR R.2.2.1 R.2.2.2 id) else (0, { P with fs := hdR R.2.1 id (rdKd R.2.2.1 R.2.2.2 id) (rdBy R.2.2.1 R.2.2.2 id), miss := incI P.miss }, rdR R.2.2.1 R.2.2.2 id) := by
    unfold ftR
    rw [← hP, hix, if_neg (by omega), hP, ← hR]
  rw [hft]
  have HH : Hid (Pq w0 w q k P.lim L P.hits P.miss row s d) := H
  have HHO := holding_any id w
  have HWH : Hid (∀ w1 x, Below w.heap.size w w1 → AsksF w1 125 #[.pointer (some ⟨x, 0, none⟩)] (hasId id) → Calls Tryz.prog 57 #[pf q, .func (.func 125) #[] #[.pointer (some ⟨x, 0, none⟩)]] w1 fun e w' => e = .returned (.int .i64 (-1)) ∧ Below w1.heap.size w1 w') := fun w1 x hb hq => by
    have := where_any 125 _ _ (HH.out.po.below hb) hq
    rw [hix] at this
    exact this
  have HRO : Hid (∀ w1, Pq w0 w1 q k P.lim L P.hits (incI P.miss) row s d → Calls Tryz.prog 53 #[pf q] w1 fun e w' => e = .returned (.int .i64 R.1) ∧ ∃ row' L', L'.fs = R.2.1 ∧ Pq w0 w' q k P.lim L' P.hits (incI P.miss) row' R.2.2.1 R.2.2.2 ∧ Nx w1 w' k k) := fun w1 hq => by
    have := room_any hq
    rw [hP, ← hR] at this
    exact this
  have HLN : Hid (R.1 = 0 → (R.2.1.length : Int) < P.lim) := fun h0 => by
    rw [hR] at h0 ⊢
    exact mrR_len H.po.l0 (by have := H.po.ll; rw [← hP, FL.fs_len]; exact this) h0
  clear H hix hft hP hR
  obtain ⟨r1, r2, r3, r4⟩ := R
  simp only at HRO HLN ⊢
  unfold pf at HWH HRO ⊢
  by_cases h0 : r1 = 0
  · subst h0
    have HRD : Hid (∀ w1 L1 row1, Pq w0 w1 q k P.lim L1 P.hits (incI P.miss) row1 r3 r4 → Calls Tryz.prog 115 #[.pointer (some ⟨k.p, 0, none⟩), .int .i64 id] w1 fun e w' => ∃ a c, e = .returned (.tuple #[.int .i64 (rdKd r3 r4 id), .slice a (rdBy r3 r4 id).length c, .int .i64 (rdE r3 r4 id)]) ∧ Hid (FB w' k.X (.slice a (rdBy r3 r4 id).length c) (rdBy r3 r4 id) ∧ Pq w0 w' q k P.lim L1 P.hits (incI P.miss) row1 (rdR r3 r4 id).1 (rdR r3 r4 id).2 ∧ Nx w1 w' k k)) := fun w1 L1 row1 hq => by
      refine (m_read id w1 hq.mi).mono ?_
      rintro e w' ⟨v, rfl, hv, hm, ho⟩
      obtain ⟨a, c, rfl, r⟩ := _root_.id hv
      exact ⟨a, c, rfl, hv, ⟨hq.po.off ho, hm⟩, Nx.ofK ho⟩
    obtain ⟨by', hby⟩ : ∃ z, z = rdBy r3 r4 id := ⟨_, rfl⟩
    obtain ⟨er, her⟩ : ∃ z, z = rdE r3 r4 id := ⟨_, rfl⟩
    obtain ⟨kd, hkd⟩ : ∃ z, z = rdKd r3 r4 id := ⟨_, rfl⟩
    obtain ⟨rr, hrr⟩ : ∃ z, z = rdR r3 r4 id := ⟨_, rfl⟩
    rw [← hby, ← her, ← hkd, ← hrr] at HRD ⊢
    clear hby her hkd hrr
    have HHD : Hid (∀ w1 L1 row1 a c, L1.fs = r2 → Pq w0 w1 q k P.lim L1 P.hits (incI P.miss) row1 rr.1 rr.2 → FB w1 k.X (.slice a by'.length c) by' → Calls Tryz.prog 55 #[.pointer (some ⟨q, 0, none⟩), .int .i64 id, .int .i64 kd, .slice a by'.length c] w1 fun e w' => ∃ b, e = .returned (.pointer (some ⟨b, 0, none⟩)) ∧ Hid (∃ f L', FL.fs (L' ++ [(b, f)]) = hdR r2 id kd by' ∧ ∃ k' row', Pq w0 w' q k' P.lim (L' ++ [(b, f)]) P.hits (incI P.miss) row' rr.1 rr.2 ∧ Nx w1 w' k k')) := fun w1 L1 row1 a c hl hq hv => by
      refine (hold_frame id kd a c by' hq hv (by rw [← FL.fs_len, hl]; exact HLN.out rfl)).mono ?_
      rintro e w' ⟨b, f, L', rfl, h1, h2⟩
      exact ⟨b, rfl, f, L', by rw [h1, hl], h2⟩
    by_cases h1 : er = 0
    · subst h1
      go_enter Tryz.func51, Tryz.ntmps51
      go_wp2_with (first
        | (go_at_call 58; refine HHO.mono ?_; rintro e w1 ⟨rfl, hb1, hq1⟩; clear HHO; have HB1 : Hid (Below w.heap.size w w1) := hb1; have HQ1 : Hid (AsksF w1 125 #[.pointer (some ⟨w.heap.size, 0, none⟩)] (hasId id)) := hq1; clear hb1 hq1)
        | (go_at_call 57; refine (HWH.out w1 w.heap.size HB1.out HQ1.out).mono ?_; rintro e w2 ⟨rfl, hb2⟩; have HB2 : Hid (Below w.heap.size w w2) := HB1.out.trans (hb2.mono HB1.out.size); clear hb2; have c4 := (HH.out.below HB2.out).po.pb.cells.c4; have f4 := (HH.out.below HB2.out).po.pb.cells.f 4)
        | (go_at_call 53; refine (HRO.out _ ((HH.out.below HB2.out).miss (incI P.miss)).1).mono ?_; rintro e w3 ⟨rfl, row3, L3, hl3, hp3, hx3⟩; have HL3 : Hid (L3.fs = r2) := hl3; have HP3 : Hid (Pq w0 w3 q k P.lim L3 P.hits (incI P.miss) row3 r3 r4) := hp3; have HX3 : Hid (Nx w w3 k k) := ((Nx.below k HB2.out).trans ((HH.out.below HB2.out).miss (incI P.miss)).2).trans hx3; have c03 := hp3.po.pb.cells.c0; unfold pf at c03; clear hp3 hx3 hl3)
        | (go_at_call 115; refine (HRD.out w3 L3 row3 HP3.out).mono ?_; rintro e w4 ⟨a4, cp4, rfl, HR4⟩)
        | (go_at_call 55; refine (HHD.out w4 L3 row3 a4 cp4 HL3.out HR4.out.2.1 HR4.out.1).mono ?_; rintro e w5 ⟨b5, rfl, HR5⟩)
        | fail)
      go_ret2
      obtain ⟨f, L', hL, k', row', hq, hx⟩ := HR5.out
      exact .inl ⟨rfl, b5, f, L', k', row', rfl, hL, hq, (HX3.out.trans HR4.out.2.2).trans hx⟩
    · have h1' : (er == 0) = false := by simpa using h1
      have h1'' : (er != 0) = true := by simpa using h1
      go_enter Tryz.func51, Tryz.ntmps51
      go_wp2_with (first
        | (go_at_call 58; refine HHO.mono ?_; rintro e w1 ⟨rfl, hb1, hq1⟩; clear HHO; have HB1 : Hid (Below w.heap.size w w1) := hb1; have HQ1 : Hid (AsksF w1 125 #[.pointer (some ⟨w.heap.size, 0, none⟩)] (hasId id)) := hq1; clear hb1 hq1)
        | (go_at_call 57; refine (HWH.out w1 w.heap.size HB1.out HQ1.out).mono ?_; rintro e w2 ⟨rfl, hb2⟩; have HB2 : Hid (Below w.heap.size w w2) := HB1.out.trans (hb2.mono HB1.out.size); clear hb2; have c4 := (HH.out.below HB2.out).po.pb.cells.c4; have f4 := (HH.out.below HB2.out).po.pb.cells.f 4)
        | (go_at_call 53; refine (HRO.out _ ((HH.out.below HB2.out).miss (incI P.miss)).1).mono ?_; rintro e w3 ⟨rfl, row3, L3, hl3, hp3, hx3⟩; have HL3 : Hid (L3.fs = r2) := hl3; have HP3 : Hid (Pq w0 w3 q k P.lim L3 P.hits (incI P.miss) row3 r3 r4) := hp3; have HX3 : Hid (Nx w w3 k k) := ((Nx.below k HB2.out).trans ((HH.out.below HB2.out).miss (incI P.miss)).2).trans hx3; have c03 := hp3.po.pb.cells.c0; unfold pf at c03; clear hp3 hx3 hl3)
        | (go_at_call 115; refine (HRD.out w3 L3 row3 HP3.out).mono ?_; rintro e w4 ⟨a4, cp4, rfl, HR4⟩)
        | fail)
      go_ret2
      exact .inr ⟨h1, L3, row3, rfl, HL3.out, HR4.out.2.1, HX3.out.trans HR4.out.2.2⟩
  · have h0' : (r1 == 0) = false := by simpa using h0
    have h0'' : (r1 != 0) = true := by simpa using h0
    clear HLN
    go_enter Tryz.func51, Tryz.ntmps51
    go_wp2_with (first
      | (go_at_call 58; refine HHO.mono ?_; rintro e w1 ⟨rfl, hb1, hq1⟩; clear HHO; have HB1 : Hid (Below w.heap.size w w1) := hb1; have HQ1 : Hid (AsksF w1 125 #[.pointer (some ⟨w.heap.size, 0, none⟩)] (hasId id)) := hq1; clear hb1 hq1)
      | (go_at_call 57; refine (HWH.out w1 w.heap.size HB1.out HQ1.out).mono ?_; rintro e w2 ⟨rfl, hb2⟩; have HB2 : Hid (Below w.heap.size w w2) := HB1.out.trans (hb2.mono HB1.out.size); clear hb2; have c4 := (HH.out.below HB2.out).po.pb.cells.c4; have f4 := (HH.out.below HB2.out).po.pb.cells.f 4)
      | (go_at_call 53; refine (HRO.out _ ((HH.out.below HB2.out).miss (incI P.miss)).1).mono ?_; rintro e w3 ⟨rfl, row3, L3, hl3, hp3, hx3⟩; have HL3 : Hid (L3.fs = r2) := hl3; have HP3 : Hid (Pq w0 w3 q k P.lim L3 P.hits (incI P.miss) row3 r3 r4) := hp3; have HX3 : Hid (Nx w w3 k k) := ((Nx.below k HB2.out).trans ((HH.out.below HB2.out).miss (incI P.miss)).2).trans hx3; clear hp3 hx3 hl3)
      | fail)
    go_ret2
    exact .inr ⟨h0, L3, row3, rfl, HL3.out, HP3.out, HX3.out⟩
theorem fetch_any {w0 w : World} {q : Nat} {k : Pl} {P : PS} {L : FL} {row : Value} {s : SS} {d : D.DS} (id : Int) (hP : L.fs = P.fs) (H : Pq w0 w q k P.lim L P.hits P.miss row s d) :
    Calls Tryz.prog 51 #[pf q, .int .i64 id] w fun e w' => FtP w0 w q k (ftR P s d id) e w' := by
  by_cases hx : idxF L.fs (hasId id) < 0
  · exact fetch_miss id hP H (idxF_neg hx)
  · obtain ⟨i, hi, hlt⟩ := idxF_lt hx
    rw [FL.fs_len] at hlt
    exact fetch_hit id hP H i hlt hi
end Go.Proofs.YtbklnadlbcndlaaGreat
namespace Go.Proofs.YtbklnadlbcndlaaGreat
set_option maxRecDepth 20000
open Go.RowKit
set_option linter.unusedVariables false
set_option linter.unusedSimpArgs false
set_option maxHeartbeats 400000 in
theorem bclone_nil (w : World) :
    Calls Tryz.prog 52 #[.slice none 0 0] w fun e w' => e = .returned (.slice none 0 0) ∧ w' = w := by
  have heq := fun wx => Lib.run_eql_slice_nil (P := Tryz.prog) wx 29 5 none 0 0 0 0 Tryz.underlying29
  go_enter Tryz.func52, Tryz.ntmps52
  go_wp2
  go_ret
  exact ⟨rfl, rfl⟩
set_option maxHeartbeats 400000 in
theorem bclone_some (x : Addr) (cap : Nat) (zs : List Int) (w : World) (hb : BV w (some x) zs) (hm : zs.length ≤ 1000000) :
    Calls Tryz.prog 52 #[.slice (some x) zs.length cap] w fun e w' => ∃ v, e = .returned v ∧ Own w' w.heap.size v zs ∧ Below w.heap.size w w' := by
  obtain ⟨i0, hi, hz0, hz1, hz2⟩ := info_parts Tryz.info5
  have hlit : (w.alloc (.cells #[] 5)).ownsRow w.heap.size 5 1 (.slice (some ⟨w.heap.size, 0, none⟩) 0 0) 0 [] := World.ownsRow_lit w #[] 0 (Nat.le_refl _) (by decide) rfl
  have hcs : ∀ j u, (zs.map (Value.int .u8))[j]? = some u → (w.alloc (.cells #[] 5)).cell? (x.add j) = some u := by
    intro j u hu
    rw [List.getElem?_map] at hu
    obtain ⟨z, hz, rfl⟩ := Option.map_eq_some_iff.1 hu
    have hj := (List.getElem?_eq_some_iff.1 hz).1
    obtain ⟨_, h1 | ⟨b, off, hx, hlt, hc⟩⟩ := hb
    · subst h1; simp at hj
    · obtain rfl := Option.some.inj hx
      rw [add_plain]
      have := hc j hj
      rw [List.getD_eq_getElem?_getD, hz] at this
      exact (Below.cell ((Below.refl w.heap.size w).alloc (Nat.le_refl _) _) (p := ⟨b, off + j, none⟩) hlt).trans this
  clear hb
  have heq := fun wx => Lib.run_eql_slice_nil (P := Tryz.prog) wx 29 5 (some x) zs.length cap 0 0 Tryz.underlying29
  go_enter Tryz.func52, Tryz.ntmps52
  go_wp2_with (at_builtin; refine wpList_append_own _ rfl _ _ 29 rfl w.heap.size 5 i0 (.int .u8 0) 1 1 Tryz.underlying29 hi hz0 hz1 hz2 rfl (by decide) _ 0 _ rfl hlit x zs.length cap (zs.map (Value.int .u8)) rfl ?c0 hcs (u8row _) ?c3 ?c4 ?c5 ?_)
  case c0 => simp
  case c3 => unfold maxLen; omega
  case c4 => omega
  case c5 => simp
  intro v' w1 hown hgrow _
  have HB : Hid (Below w.heap.size w w1) := ((Below.refl _ _).alloc (Nat.le_refl _) _).grown hgrow (by simp) (by intro j hj; simp [Value.ownBlock] at hj; omega)
  have HO : Hid (Own w1 w.heap.size v' zs) := by
    simpa [Own, Hid] using hown
  clear hgrow hlit hcs hown
  go_wp2
  go_ret
  exact ⟨_, rfl, HO, HB⟩
theorem bclone_any (a : Option Addr) (cap : Nat) (zs : List Int) (w : World) (hb : BV w a zs) (hm : zs.length ≤ 1000000) (hn : a = none → cap = 0) :
    Calls Tryz.prog 52 #[.slice a zs.length cap] w fun e w' => ∃ v, e = .returned v ∧ Own w' w.heap.size v zs ∧ Below w.heap.size w w' := by
  cases a with
  | none =>
    obtain rfl := hn rfl
    obtain rfl : zs = [] := slice_some_len hb rfl
    refine (bclone_nil w).mono ?_
    rintro e w' ⟨rfl, hw⟩
    obtain rfl := hw.symm
    exact ⟨_, rfl, Own.nil _ _, Below.refl _ _⟩
  | some x => exact bclone_some x cap zs w hb hm

theorem rdBy_len (s : SS) (d : D.DS) (id : Int) : (rdBy s d id).length ≤ 256 := by
  unfold rdBy rbB
  split
  · split
    · unfold opB
      split
      · rename_i h
        have : (D.readB d (findN s id)).length = 256 := by
          unfold opE at h
          split at h
          · assumption
          · simp at h
        unfold rdB
        rw [List.length_take, List.length_drop]
        omega
      · simp
    · simp
  · simp
def ShortF (fs : List Fr) : Prop := ∀ f ∈ fs, f.zs.length ≤ 256
theorem clR_short {fs : List Fr} (h : ShortF fs) (s : SS) (d : D.DS) (i : Nat) : ShortF (clR fs s d i).2.1 := by
  unfold clR
  cases hf : fs[i]? with
  | none => exact h
  | some f =>
    simp only
    split
    · simp only
      split
      · intro g hg
        rcases List.mem_or_eq_of_mem_set hg with hg | rfl
        · exact h g hg
        · exact h f (List.mem_of_getElem? hf)
      · exact h
    · exact h
theorem mrR_short {lim : Int} {fs : List Fr} (h : ShortF fs) (s : SS) (d : D.DS) : ShortF (mrR lim fs s d).2.1 := by
  unfold mrR
  split
  · exact h
  · split
    · exact h
    · split
      · exact clR_short h s d _
      · exact fun f hf => clR_short h s d _ f (List.mem_of_mem_eraseIdx hf)
theorem hdR_short {fs : List Fr} (h : ShortF fs) (id kd : Int) {zs : List Int} (hz : zs.length ≤ 256) : ShortF (hdR fs id kd zs) := by
  unfold hdR
  split
  · intro f hf
    rcases List.mem_append.1 hf with hf | hf
    · exact h f hf
    · simp at hf; subst hf; exact hz
  · intro f hf
    rcases List.mem_append.1 hf with hf | hf
    · exact h f (List.mem_of_mem_eraseIdx hf)
    · obtain ⟨g, _, rfl⟩ := List.mem_map.1 hf
      exact hz
theorem ftR_short {P : PS} (h : ShortF P.fs) (s : SS) (d : D.DS) (id : Int) : ShortF (ftR P s d id).2.1.fs := by
  unfold ftR
  split
  · intro f hf
    rcases List.mem_append.1 hf with hf | hf
    · exact h f (List.mem_of_mem_eraseIdx hf)
    · simp at hf
      exact h f (List.mem_of_getElem? hf)
  · split
    · exact mrR_short h s d
    · split
      · exact mrR_short h s d
      · exact hdR_short (mrR_short h s d) _ _ (rdBy_len _ _ _)
theorem ftR_lim (P : PS) (s : SS) (d : D.DS) (id : Int) : (ftR P s d id).2.1.lim = P.lim := by
  unfold ftR; split; rfl; split; rfl; split <;> rfl
def Pi (w0 w : World) (q : Nat) (k : Pl) (P : PS) (s : SS) (d : D.DS) : Prop := ∃ L row, L.fs = P.fs ∧ Pq w0 w q k P.lim L P.hits P.miss row s d
theorem Pi.below {w0 w w' : World} {q : Nat} {k : Pl} {P : PS} {s : SS} {d : D.DS} (H : Pi w0 w q k P s d) (hb : Below w.heap.size w w') : Pi w0 w' q k P s d := by
  obtain ⟨L, row, h1, h2⟩ := H
  exact ⟨L, row, h1, h2.below hb⟩
theorem Pi.be {w0 w : World} {q : Nat} {k : Pl} {P : PS} {s : SS} {d : D.DS} (H : Pi w0 w q k P s d) : Below w0.heap.size w0 w := by
  obtain ⟨L, row, h1, h2⟩ := H
  exact h2.mi.be
def lastF (fs : List Fr) : Fr := fs.getLast?.getD ⟨0, 0, [], 0, false⟩
def setLast (fs : List Fr) (f : Fr) : List Fr := fs.dropLast ++ [f]
theorem lastF_snoc (fs : List Fr) (f : Fr) : lastF (fs ++ [f]) = f := by simp [lastF]
theorem setLast_snoc (fs : List Fr) (f g : Fr) : setLast (fs ++ [f]) g = fs ++ [g] := by simp [setLast]
theorem fetch_ok {w0 w : World} {q : Nat} {k : Pl} {P : PS} {s : SS} {d : D.DS} (id : Int) (H : Pi w0 w q k P s d) (h0 : (ftR P s d id).1 = 0) :
    Calls Tryz.prog 51 #[pf q, .int .i64 id] w fun e w' => ∃ b L' k' row', e = .returned (.tuple #[pf b, .int .i64 0]) ∧ Hid ((ftR P s d id).2.1.fs = FL.fs L' ++ [lastF (ftR P s d id).2.1.fs] ∧ Pq w0 w' q k' P.lim (L' ++ [(b, lastF (ftR P s d id).2.1.fs)]) (ftR P s d id).2.1.hits (ftR P s d id).2.1.miss row' (ftR P s d id).2.2.1 (ftR P s d id).2.2.2 ∧ Nx w w' k k') := by
  obtain ⟨L, row, h1, h2⟩ := H
  refine (fetch_any id h1 h2).mono ?_
  rintro e w' (⟨_, b, f, L', k', row', rfl, hf, hq, hx⟩ | ⟨h, _⟩)
  · rw [FL.snoc_fs] at hf
    have : lastF (ftR P s d id).2.1.fs = f := by rw [← hf, lastF_snoc]
    rw [this]
    rw [ftR_lim] at hq
    exact ⟨b, L', k', row', rfl, hf.symm, hq, hx⟩
  · exact absurd h0 h
theorem fetch_bad {w0 w : World} {q : Nat} {k : Pl} {P : PS} {s : SS} {d : D.DS} (id : Int) (H : Pi w0 w q k P s d) (h0 : (ftR P s d id).1 ≠ 0) :
    Calls Tryz.prog 51 #[pf q, .int .i64 id] w fun e w' => e = .returned (.tuple #[.pointer none, .int .i64 (ftR P s d id).1]) ∧ Hid (Pi w0 w' q k (ftR P s d id).2.1 (ftR P s d id).2.2.1 (ftR P s d id).2.2.2 ∧ Nx w w' k k) := by
  obtain ⟨L, row, h1, h2⟩ := H
  refine (fetch_any id h1 h2).mono ?_
  rintro e w' (⟨h, _⟩ | ⟨_, L', row', rfl, hf, hq, hx⟩)
  · exact absurd h h0
  · exact ⟨rfl, ⟨L', row', hf, hq⟩, hx⟩
def gtK (R : Int × PS × SS × D.DS) : Int := if R.1 = 0 then (lastF R.2.1.fs).kd else 0
def gtB (R : Int × PS × SS × D.DS) : List Int := if R.1 = 0 then (lastF R.2.1.fs).zs else []
set_option maxHeartbeats 1000000 in
theorem pget_any {w0 w : World} {q : Nat} {k : Pl} {P : PS} {s : SS} {d : D.DS} (id : Int) (H : Pi w0 w q k P s d) (hs : ShortF P.fs) :
    Calls Tryz.prog 15 #[pf q, .int .i64 id] w fun e w' => ∃ v k', e = .returned (.tuple #[.int .i64 (gtK (ftR P s d id)), v, .int .i64 (ftR P s d id).1]) ∧ Own w' w.heap.size v (gtB (ftR P s d id)) ∧ FB w' k'.X v (gtB (ftR P s d id)) ∧ Pi w0 w' q k' (ftR P s d id).2.1 (ftR P s d id).2.2.1 (ftR P s d id).2.2.2 ∧ Nx w w' k k' := by
  have hsh := ftR_short hs s d id
  by_cases h0 : (ftR P s d id).1 = 0
  · have HF := fetch_ok id H h0
    have hlim := ftR_lim P s d id
    unfold gtK gtB
    rw [if_pos h0, if_pos h0, h0]
    obtain ⟨R, hR⟩ : ∃ R, R = ftR P s d id := ⟨_, rfl⟩
    rw [← hR] at HF hsh hlim ⊢
    obtain ⟨f, hf⟩ : ∃ f, f = lastF R.2.1.fs := ⟨_, rfl⟩
    rw [← hf] at HF ⊢
    have HC : Hid (∀ (w1 : World) (a : Option Addr) (c : Nat), BV w1 a f.zs → f.zs.length ≤ 256 → (a = none → c = 0) → Calls Tryz.prog 52 #[.slice a f.zs.length c] w1 fun e w' => ∃ v, e = .returned v ∧ Own w' w1.heap.size v f.zs ∧ Below w1.heap.size w1 w') := fun w1 a c h1 h2 h3 => bclone_any a c f.zs w1 h1 (by omega) h3
    have HSH : Hid (ShortF R.2.1.fs) := hsh
    have HLM : Hid (R.2.1.lim = P.lim) := hlim
    clear H hs hsh h0 hf hR hlim
    unfold pf at HF ⊢
    go_enter Tryz.func15, Tryz.ntmps15
    go_wp2_with (first | (go_at_call 51; refine HF.mono ?_; rintro e w1 ⟨b, L1, k1, row1, rfl, HP1⟩; clear HF; obtain ⟨hbz, a1, c1, hfr, hfb, hn1, hl1, hm1, hbv⟩ := HP1.out.2.1.last; have g1 := hfr.cells.c1; have g2 := hfr.cells.c2; have CL : Hid (∀ W, Below w1.heap.size w1 W → W.cell? ⟨b, 1, none⟩ = some (.int .i64 f.kd) ∧ W.cell? ⟨b, 2, none⟩ = some (.slice a1 f.zs.length c1)) := fun W hW => ⟨by simp only [World.cell?, hW.block b hfr.lt] at g1 ⊢; exact g1, by simp only [World.cell?, hW.block b hfr.lt] at g2 ⊢; exact g2⟩; have HBV : Hid (BV w1 a1 f.zs) := hbv; have HZL : Hid (f.zs.length ≤ 256) := HSH.out f (by rw [HP1.out.1]; simp); clear hfr hfb hbv) | fail)
    go_region_held3 (fun W => W.cell? ⟨b, 1, none⟩ = some (.int .i64 f.kd) ∧ W.cell? ⟨b, 2, none⟩ = some (.slice a1 f.zs.length c1)) (first | exact CL.out _ (Below.refl _ _).drew | exact CL.out _ ((Below.refl _ _).drew.trans hb2)) (first | (go_at_call 52; refine (HC.out w1.drew a1 c1 (HBV.out.below (Below.refl _ _).drew) HZL.out hn1).mono ?_; rintro e w2 ⟨v, rfl, ho2, hb2⟩))
    have HO2 : Hid (Own w2 w.heap.size v f.zs) := ho2.mono (by have := HP1.out.2.2.off.size; exact this)
    have HB2 : Hid (Below w1.heap.size w1 w2) := (Below.refl _ _).drew.trans hb2
    have HFB : Hid (FB w2 k1.X v f.zs) := fb_own ho2 HBV.out.1 (HP1.out.2.1.mi.sy.lt)
    clear ho2 hb2 CL
    go_wp2_with fail
    refine bodyPost_ret (results_tmp3 rfl _ _ _) rfl ?_
    refine ⟨v, k1, rfl, HO2.out, HFB.out, ⟨L1 ++ [(b, f)], row1, ?_, ?_⟩, HP1.out.2.2.trans (Nx.below k1 HB2.out)⟩
    · rw [FL.snoc_fs]; exact HP1.out.1.symm
    · rw [HLM.out]; exact HP1.out.2.1.below HB2.out
  · have HF := fetch_bad id H h0
    unfold gtK gtB
    rw [if_neg h0, if_neg h0]
    generalize ftR P s d id = R at *
    have h1' : (R.1 == 0) = false := by simpa using h0
    have h1'' : (R.1 != 0) = true := by simpa using h0
    obtain ⟨r1, r2⟩ := R
    clear H hs hsh
    unfold pf at HF ⊢
    go_enter Tryz.func15, Tryz.ntmps15
    go_wp2_with (first | (go_at_call 51; refine HF.mono ?_; rintro e w1 ⟨rfl, HP1⟩; clear HF) | fail)
    refine bodyPost_ret (results_tmp3 rfl _ _ _) rfl ?_
    exact ⟨.slice none 0 0, k, rfl, Own.nil _ _, fb_nil _ _, HP1.out.1, HP1.out.2⟩
theorem pseal_len {kd id : Int} {n : Nat} (h : sealE kd id n = 0) : n ≤ 246 := by
  unfold sealE at h
  split at h
  · split at h
    · split at h
      · assumption
      · simp at h
    · simp at h
  · simp at h
def psR (P : PS) (s : SS) (d : D.DS) (id kd : Int) (zs : List Int) : Int × PS × SS × D.DS :=
  if (ftR P s d id).1 ≠ 0 then ftR P s d id else if sealE kd 1 zs.length ≠ 0 then (sealE kd 1 zs.length, (ftR P s d id).2)
  else (0, { (ftR P s d id).2.1 with fs := setLast (ftR P s d id).2.1.fs { lastF (ftR P s d id).2.1.fs with kd := kd, zs := zs, dt := true } }, (ftR P s d id).2.2)
set_option maxHeartbeats 1000000 in
theorem pset_any {w0 w : World} {q : Nat} {k : Pl} {P : PS} {s : SS} {d : D.DS} (id kd : Int) (a : Option Addr) (c : Nat) (zs : List Int) (H : Pi w0 w q k P s d) (hv : FB w k.X (.slice a zs.length c) zs) :
    Calls Tryz.prog 17 #[pf q, .int .i64 id, .int .i64 kd, .slice a zs.length c] w fun e w' => ∃ k', e = .returned (.int .i64 (psR P s d id kd zs).1) ∧ Pi w0 w' q k' (psR P s d id kd zs).2.1 (psR P s d id kd zs).2.2.1 (psR P s d id kd zs).2.2.2 ∧ Nx w w' k k' := by
  have HV : Hid (FB w k.X (.slice a zs.length c) zs) := hv
  have hn : a = none → c = 0 := by obtain ⟨a', c', e, h1, _⟩ := hv; cases e; exact h1
  have hcl : zs.length ≤ c ∧ c ≤ 9223372036854775807 := by obtain ⟨a', c', e, h1, h2, h3, _⟩ := hv; cases e; exact ⟨h2, h3⟩
  have HVB : Hid (∀ w1 k1, Nx w w1 k k1 → BV w1 a zs) := fun w1 k1 hx => by obtain ⟨a', c', e, h1, h2, h3, h4, _⟩ := hv.nx hx; cases e; exact h4
  by_cases h0 : (ftR P s d id).1 = 0
  · have HF := fetch_ok id H h0
    have hlim := ftR_lim P s d id
    have hps : psR P s d id kd zs = if sealE kd 1 zs.length ≠ 0 then (sealE kd 1 zs.length, (ftR P s d id).2) else (0, { (ftR P s d id).2.1 with fs := setLast (ftR P s d id).2.1.fs { lastF (ftR P s d id).2.1.fs with kd := kd, zs := zs, dt := true } }, (ftR P s d id).2.2) := by
      unfold psR; rw [if_neg (by simpa using h0)]
    rw [hps]
    obtain ⟨R, hR⟩ : ∃ R, R = ftR P s d id := ⟨_, rfl⟩
    rw [← hR] at HF hlim ⊢
    obtain ⟨f, hf⟩ : ∃ f, f = lastF R.2.1.fs := ⟨_, rfl⟩
    rw [← hf] at HF ⊢
    have HLM : Hid (R.2.1.lim = P.lim) := hlim
    have HSL : Hid (∀ w1, BV w1 a zs → Calls Tryz.prog 56 #[.int .i64 kd, .int .i64 1, .slice a zs.length c] w1 fun e w' => ∃ v, e = .returned (.tuple #[v, .int .i64 (sealE kd 1 zs.length)]) ∧ Below w1.heap.size w1 w') := fun w1 h => seal_b kd 1 a c zs w1 h hn (by omega)
    by_cases h1 : sealE kd 1 zs.length = 0
    · have hzl : zs.length ≤ 246 := pseal_len h1
      rw [if_neg (by simpa using h1)]
      rw [h1] at HSL
      have HC : Hid (∀ w1, BV w1 a zs → Calls Tryz.prog 52 #[.slice a zs.length c] w1 fun e w' => ∃ a2 c2, e = .returned (.slice a2 zs.length c2) ∧ Hid (∀ X, (∀ x ∈ X, x < w1.heap.size) → FB w' X (.slice a2 zs.length c2) zs) ∧ Below w1.heap.size w1 w') := fun w1 h => by
        refine (bclone_any a c zs w1 h (by omega) hn).mono ?_
        rintro e w' ⟨v, rfl, ho, hb⟩
        have hX : ∀ X, (∀ x ∈ X, x < w1.heap.size) → FB w' X v zs := fun X hX => fb_own ho h.1 hX
        obtain ⟨a2, c2, rfl, _⟩ := hX [] (by simp)
        exact ⟨a2, c2, rfl, hX, hb⟩
      obtain ⟨n, hn'⟩ : ∃ n, n = zs.length := ⟨_, rfl⟩
      have HN : Hid (n = zs.length) := hn'
      rw [← hn'] at HSL HC ⊢
      clear H hv h0 hf hR hlim hps h1 hn' hn hcl hzl
      unfold pf at HF ⊢
      go_enter Tryz.func17, Tryz.ntmps17
      go_wp2_with (first
        | (go_at_call 51; refine HF.mono ?_; rintro e w1 ⟨b, L1, k1, row1, rfl, HP1⟩; clear HF)
        | (go_at_call 56; refine (HSL.out w1 (HVB.out w1 k1 HP1.out.2.2)).mono ?_; rintro e w2 ⟨v2, rfl, hb2⟩; have HB2 : Hid (Below w1.heap.size w1 w2) := hb2; clear hb2)
        | (go_at_call 52; refine (HC.out w2 ((HVB.out w1 k1 HP1.out.2.2).below HB2.out)).mono ?_; rintro e w3 ⟨a3, c3, rfl, HX3, hb3⟩; have HB3 : Hid (Below w1.heap.size w1 w3) := HB2.out.trans (hb3.mono HB2.out.size); clear hb3; have hlt3 : ∀ x ∈ k1.X, x < w2.heap.size := (HP1.out.2.1.below HB2.out).mi.sy.lt; have HE := hold_end kd true (HX3.out k1.X hlt3) (Nx.refl w3 k1) (HP1.out.2.1.below HB3.out); obtain ⟨⟨u, hfr⟩, hE1, hE2⟩ := HE; have HE1 : Hid (Pq w0 _ q k1 P.lim _ R.2.1.hits R.2.1.miss row1 R.2.2.1 R.2.2.2) := hE1; have HE2 : Hid (Nx w3 _ k1 k1) := hE2; have g1 := hfr.cells.c1; have g2 := hfr.cells.c2; have g4 := hfr.cells.c4; have z1 := hfr.cells.f 1; have z2 := hfr.cells.f 2; have z4 := hfr.cells.f 4; clear hfr hE1 hE2 hlt3)
        | fail)
      go_ret
      refine ⟨k1, rfl, ⟨L1 ++ [(b, { f with kd := kd, zs := zs, dt := true })], row1, ?_, ?_⟩, (HP1.out.2.2.trans (Nx.below k1 HB3.out)).trans HE2.out⟩
      · rw [FL.snoc_fs]
        show _ = setLast R.2.1.fs _
        rw [HP1.out.1, setLast_snoc]
      · show Pq w0 _ q k1 R.2.1.lim _ _ _ _ _ _
        rw [HLM.out]
        exact HE1.out
    · rw [if_pos h1]
      generalize sealE kd 1 zs.length = er at *
      have h1' : (er == 0) = false := by simpa using h1
      have h1'' : (er != 0) = true := by simpa using h1
      clear H hv h0 hf hR hlim hps hn hcl
      unfold pf at HF ⊢
      go_enter Tryz.func17, Tryz.ntmps17
      go_wp2_with (first
        | (go_at_call 51; refine HF.mono ?_; rintro e w1 ⟨b, L1, k1, row1, rfl, HP1⟩; clear HF)
        | (go_at_call 56; refine (HSL.out w1 (HVB.out w1 k1 HP1.out.2.2)).mono ?_; rintro e w2 ⟨v2, rfl, hb2⟩; have HB2 : Hid (Below w1.heap.size w1 w2) := hb2; clear hb2)
        | fail)
      go_ret
      refine ⟨k1, rfl, ⟨L1 ++ [(b, f)], row1, ?_, ?_⟩, HP1.out.2.2.trans (Nx.below k1 HB2.out)⟩
      · rw [FL.snoc_fs]; exact HP1.out.1.symm
      · rw [HLM.out]; exact HP1.out.2.1.below HB2.out
  · have HF := fetch_bad id H h0
    have hps : psR P s d id kd zs = ftR P s d id := by unfold psR; rw [if_pos h0]
    rw [hps]
    clear hps
    generalize ftR P s d id = R at *
    have h1' : (R.1 == 0) = false := by simpa using h0
    have h1'' : (R.1 != 0) = true := by simpa using h0
    obtain ⟨r1, r2⟩ := R
    clear H hv hn hcl
    unfold pf at HF ⊢
    go_enter Tryz.func17, Tryz.ntmps17
    go_wp2_with (first | (go_at_call 51; refine HF.mono ?_; rintro e w1 ⟨rfl, HP1⟩; clear HF) | fail)
    go_ret
    exact ⟨k, rfl, HP1.out.1, HP1.out.2⟩
def piR (P : PS) (s : SS) (d : D.DS) (id : Int) : Int × PS × SS × D.DS :=
  if (ftR P s d id).1 ≠ 0 then ftR P s d id else (0, { (ftR P s d id).2.1 with fs := setLast (ftR P s d id).2.1.fs { lastF (ftR P s d id).2.1.fs with pn := incI (lastF (ftR P s d id).2.1.fs).pn } }, (ftR P s d id).2.2)
set_option maxHeartbeats 1000000 in
theorem ppin_any {w0 w : World} {q : Nat} {k : Pl} {P : PS} {s : SS} {d : D.DS} (id : Int) (H : Pi w0 w q k P s d) :
    Calls Tryz.prog 19 #[pf q, .int .i64 id] w fun e w' => ∃ k', e = .returned (.int .i64 (piR P s d id).1) ∧ Pi w0 w' q k' (piR P s d id).2.1 (piR P s d id).2.2.1 (piR P s d id).2.2.2 ∧ Nx w w' k k' := by
  by_cases h0 : (ftR P s d id).1 = 0
  · have HF := fetch_ok id H h0
    have hlim := ftR_lim P s d id
    have hps : piR P s d id = (0, { (ftR P s d id).2.1 with fs := setLast (ftR P s d id).2.1.fs { lastF (ftR P s d id).2.1.fs with pn := incI (lastF (ftR P s d id).2.1.fs).pn } }, (ftR P s d id).2.2) := by
      unfold piR; rw [if_neg (by simpa using h0)]
    rw [hps]
    obtain ⟨R, hR⟩ : ∃ R, R = ftR P s d id := ⟨_, rfl⟩
    rw [← hR] at HF hlim ⊢
    obtain ⟨f, hf⟩ : ∃ f, f = lastF R.2.1.fs := ⟨_, rfl⟩
    rw [← hf] at HF ⊢
    have HLM : Hid (R.2.1.lim = P.lim) := hlim
    clear H h0 hf hR hlim hps
    unfold pf at HF ⊢
    go_enter Tryz.func19, Tryz.ntmps19
    go_wp2_with (first
      | (go_at_call 51; refine HF.mono ?_; rintro e w1 ⟨b, L1, k1, row1, rfl, HP1⟩; clear HF; obtain ⟨hbz, a1, c1, hfr, hfb, hn1, hl1, hm1, hbv⟩ := HP1.out.2.1.last; have HFR : Hid (FrB w1 b f (.slice a1 f.zs.length c1) ∧ FB w1 k1.X (.slice a1 f.zs.length c1) f.zs ∧ b ∈ k1.z) := ⟨hfr, hfb, hbz⟩; have g3 := hfr.cells.c3; have z3 := hfr.cells.f 3; clear hfr hfb hbv hbz)
      | fail)
    go_ret
    have ho : D.Off [b] w1 (w1.setCell ⟨b, 3, none⟩ (.int .i64 (incI f.pn))) := (D.Off.refl _ _).setCell (by simp) _
    have := HP1.out.2.1.relast { f with pn := incI f.pn } _ ho (HFR.out.1.set3 (incI f.pn)) (HFR.out.2.1.off ho (fun y hy => by simp at hy; subst hy; exact k1.zx _ HFR.out.2.2))
    refine ⟨k1, rfl, ⟨L1 ++ [(b, { f with pn := incI f.pn })], row1, ?_, ?_⟩, HP1.out.2.2.trans this.2⟩
    · rw [FL.snoc_fs]
      show _ = setLast R.2.1.fs _
      rw [HP1.out.1, setLast_snoc]
    · show Pq w0 _ q k1 R.2.1.lim _ _ _ _ _ _
      rw [HLM.out]
      exact this.1
  · have HF := fetch_bad id H h0
    have hps : piR P s d id = ftR P s d id := by unfold piR; rw [if_pos h0]
    rw [hps]
    clear hps
    generalize ftR P s d id = R at *
    have h1' : (R.1 == 0) = false := by simpa using h0
    have h1'' : (R.1 != 0) = true := by simpa using h0
    obtain ⟨r1, r2⟩ := R
    clear H
    unfold pf at HF ⊢
    go_enter Tryz.func19, Tryz.ntmps19
    go_wp2_with (first | (go_at_call 51; refine HF.mono ?_; rintro e w1 ⟨rfl, HP1⟩; clear HF) | fail)
    go_ret
    exact ⟨k, rfl, HP1.out.1, HP1.out.2⟩
end Go.Proofs.YtbklnadlbcndlaaGreat
namespace Go.Proofs.YtbklnadlbcndlaaGreat
set_option maxRecDepth 20000
open Go.RowKit
set_option linter.unusedVariables false
set_option linter.unusedSimpArgs false
def paR (P : PS) (s : SS) (d : D.DS) (kd : Int) (zs : List Int) : Int × Int × PS × SS × D.DS :=
  if (mrR P.lim P.fs s d).1 ≠ 0 then (0, (mrR P.lim P.fs s d).1, { P with fs := (mrR P.lim P.fs s d).2.1 }, (mrR P.lim P.fs s d).2.2)
  else if allocE (mrR P.lim P.fs s d).2.2.1 (mrR P.lim P.fs s d).2.2.2 kd zs ≠ 0 then (0, allocE (mrR P.lim P.fs s d).2.2.1 (mrR P.lim P.fs s d).2.2.2 kd zs, { P with fs := (mrR P.lim P.fs s d).2.1 }, allocR (mrR P.lim P.fs s d).2.2.1 (mrR P.lim P.fs s d).2.2.2 kd zs)
  else (allocI (mrR P.lim P.fs s d).2.2.1 (mrR P.lim P.fs s d).2.2.2 kd zs, 0, { P with fs := hdR (mrR P.lim P.fs s d).2.1 (allocI (mrR P.lim P.fs s d).2.2.1 (mrR P.lim P.fs s d).2.2.2 kd zs) kd zs }, allocR (mrR P.lim P.fs s d).2.2.1 (mrR P.lim P.fs s d).2.2.2 kd zs)
theorem alloc_len {s : SS} {d : D.DS} {kd : Int} {zs : List Int} (h : allocE s d kd zs = 0) : zs.length ≤ 246 := by
  unfold allocE at h
  split at h
  · simp at h
  · split at h
    · rename_i h1; exact absurd h h1
    · rename_i h1
      exact pseal_len (by simpa using h1)
set_option maxHeartbeats 2000000 in
theorem palloc_any {w0 w : World} {q : Nat} {k : Pl} {P : PS} {s : SS} {d : D.DS} (kd : Int) (a : Option Addr) (c : Nat) (zs : List Int) (H : Pi w0 w q k P s d) (hv : FB w k.X (.slice a zs.length c) zs) :
    Calls Tryz.prog 16 #[pf q, .int .i64 kd, .slice a zs.length c] w fun e w' => ∃ k', e = .returned (.tuple #[.int .i64 (paR P s d kd zs).1, .int .i64 (paR P s d kd zs).2.1]) ∧ Pi w0 w' q k' (paR P s d kd zs).2.2.1 (paR P s d kd zs).2.2.2.1 (paR P s d kd zs).2.2.2.2 ∧ Nx w w' k k' := by
  obtain ⟨L, row, hP, H⟩ := H
  have hn : a = none → c = 0 := by obtain ⟨a', c', e, h1, _⟩ := hv; cases e; exact h1
  have hcl : zs.length ≤ c ∧ c ≤ 9223372036854775807 := by obtain ⟨a', c', e, h1, h2, h3, _⟩ := hv; cases e; exact ⟨h2, h3⟩
  have HVB : Hid (∀ w1 k1, Nx w w1 k k1 → BV w1 a zs) := fun w1 k1 hx => by obtain ⟨a', c', e, h1, h2, h3, h4, _⟩ := hv.nx hx; cases e; exact h4
  have HRO := room_any H
  have hln := fun h0 => mrR_len (fs := L.fs) (s := s) (d := d) H.po.l0 (by have := H.po.ll; rw [FL.fs_len]; exact this) h0
  unfold paR
  rw [hP] at HRO hln
  obtain ⟨R, hR⟩ : ∃ R, R = mrR P.lim P.fs s d := ⟨_, rfl⟩
  rw [← hR] at HRO hln ⊢
  have HLN : Hid (R.1 = 0 → (R.2.1.length : Int) < P.lim) := hln
  clear hR hln hv H hP
  obtain ⟨r1, r2, r3, r4⟩ := R
  simp only at HRO HLN ⊢
  by_cases h0 : r1 = 0
  · subst h0
    rw [if_neg (by simp)]
    have HAL : Hid (∀ w1 L1 row1, Pq w0 w1 q k P.lim L1 P.hits P.miss row1 r3 r4 → BV w1 a zs → Calls Tryz.prog 54 #[.pointer (some ⟨k.p, 0, none⟩), .int .i64 kd, .slice a zs.length c] w1 fun e w' => e = .returned (.tuple #[.int .i64 (allocI r3 r4 kd zs), .int .i64 (allocE r3 r4 kd zs)]) ∧ Hid (Pq w0 w' q k P.lim L1 P.hits P.miss row1 (allocR r3 r4 kd zs).1 (allocR r3 r4 kd zs).2 ∧ Nx w1 w' k k)) := fun w1 L1 row1 hq hb => by
      refine (m_alloc kd a c zs w1 hq.mi hb hn (by omega)).mono ?_
      rintro e w' ⟨rfl, hm, ho⟩
      exact ⟨rfl, ⟨hq.po.off ho, hm⟩, Nx.ofK ho⟩
    by_cases h1 : allocE r3 r4 kd zs = 0
    · rw [if_neg (by simpa using h1)]
      have hzl := alloc_len h1
      rw [h1] at HAL
      obtain ⟨ai, hai⟩ : ∃ z, z = allocI r3 r4 kd zs := ⟨_, rfl⟩
      obtain ⟨ar, har⟩ : ∃ z, z = allocR r3 r4 kd zs := ⟨_, rfl⟩
      rw [← hai, ← har] at HAL ⊢
      have HC : Hid (∀ w1, BV w1 a zs → Calls Tryz.prog 52 #[.slice a zs.length c] w1 fun e w' => ∃ a2 c2, e = .returned (.slice a2 zs.length c2) ∧ Hid (∀ X, (∀ x ∈ X, x < w1.heap.size) → FB w' X (.slice a2 zs.length c2) zs) ∧ Below w1.heap.size w1 w') := fun w1 h => by
        refine (bclone_any a c zs w1 h (by omega) hn).mono ?_
        rintro e w' ⟨v, rfl, ho, hb⟩
        have hX : ∀ X, (∀ x ∈ X, x < w1.heap.size) → FB w' X v zs := fun X hX => fb_own ho h.1 hX
        obtain ⟨a2, c2, rfl, _⟩ := hX [] (by simp)
        exact ⟨a2, c2, rfl, hX, hb⟩
      have HHD : Hid (∀ w1 L1 row1 a c, L1.fs = r2 → Pq w0 w1 q k P.lim L1 P.hits P.miss row1 ar.1 ar.2 → FB w1 k.X (.slice a zs.length c) zs → Calls Tryz.prog 55 #[.pointer (some ⟨q, 0, none⟩), .int .i64 ai, .int .i64 kd, .slice a zs.length c] w1 fun e w' => ∃ b, e = .returned (.pointer (some ⟨b, 0, none⟩)) ∧ Hid (∃ k', Pi w0 w' q k' { P with fs := hdR r2 ai kd zs } ar.1 ar.2 ∧ Nx w1 w' k k')) := fun w1 L1 row1 a c hl hq hv => by
        refine (hold_frame ai kd a c zs hq hv (by rw [← FL.fs_len, hl]; exact HLN.out rfl)).mono ?_
        rintro e w' ⟨b, f, L', rfl, h1, k', row', h2, h3⟩
        exact ⟨b, rfl, k', ⟨L' ++ [(b, f)], row', by rw [h1, hl], h2⟩, h3⟩
      clear hai har h1 hcl hn
      unfold pf at HRO ⊢
      obtain ⟨n, hn'⟩ : ∃ n, n = zs.length := ⟨_, rfl⟩
      rw [← hn'] at HAL HC HHD hzl ⊢
      clear hn'
      go_enter Tryz.func16, Tryz.ntmps16
      go_wp2_with (first
        | (go_at_call 53; refine HRO.mono ?_; rintro e w1 ⟨rfl, row1, L1, hl1, hq1, hx1⟩; clear HRO; have HL1 : Hid (L1.fs = r2) := hl1; have HQ1 : Hid (Pq w0 w1 q k P.lim L1 P.hits P.miss row1 r3 r4) := hq1; have HX1 : Hid (Nx w w1 k k) := hx1; have c01 := hq1.po.pb.cells.c0; unfold pf at c01; clear hl1 hq1 hx1)
        | (go_at_call 54; refine (HAL.out w1 L1 row1 HQ1.out (HVB.out w1 k HX1.out)).mono ?_; rintro e w2 ⟨rfl, HQ2⟩)
        | (go_at_call 52; refine (HC.out w2 (HVB.out w2 k (HX1.out.trans HQ2.out.2))).mono ?_; rintro e w3 ⟨a3, c3, rfl, HX3, hb3⟩; have HB3 : Hid (Below w2.heap.size w2 w3) := hb3; clear hb3)
        | (go_at_call 55; refine (HHD.out w3 L1 row1 a3 c3 HL1.out (HQ2.out.1.below HB3.out) (HX3.out k.X HQ2.out.1.mi.sy.lt)).mono ?_; rintro e w4 ⟨b4, rfl, HK4⟩)
        | fail)
      go_ret2
      obtain ⟨k', hp, hx⟩ := HK4.out
      exact ⟨k', rfl, hp, (HX1.out.trans HQ2.out.2).trans ((Nx.below k HB3.out).trans hx)⟩
    · rw [if_pos h1]
      obtain ⟨ai, hai⟩ : ∃ z, z = allocI r3 r4 kd zs := ⟨_, rfl⟩
      obtain ⟨ae, hae⟩ : ∃ z, z = allocE r3 r4 kd zs := ⟨_, rfl⟩
      obtain ⟨ar, har⟩ : ∃ z, z = allocR r3 r4 kd zs := ⟨_, rfl⟩
      rw [← hai, ← har, ← hae] at HAL
      rw [← hae] at h1
      rw [← har, ← hae]
      have h1' : (ae == 0) = false := by simpa using h1
      have h1'' : (ae != 0) = true := by simpa using h1
      clear hai har hae hcl hn HLN
      unfold pf at HRO ⊢
      obtain ⟨n, hn'⟩ : ∃ n, n = zs.length := ⟨_, rfl⟩
      rw [← hn'] at HAL ⊢
      clear hn'
      go_enter Tryz.func16, Tryz.ntmps16
      go_wp2_with (first
        | (go_at_call 53; refine HRO.mono ?_; rintro e w1 ⟨rfl, row1, L1, hl1, hq1, hx1⟩; clear HRO; have HL1 : Hid (L1.fs = r2) := hl1; have HQ1 : Hid (Pq w0 w1 q k P.lim L1 P.hits P.miss row1 r3 r4) := hq1; have HX1 : Hid (Nx w w1 k k) := hx1; have c01 := hq1.po.pb.cells.c0; unfold pf at c01; clear hl1 hq1 hx1)
        | (go_at_call 54; refine (HAL.out w1 L1 row1 HQ1.out (HVB.out w1 k HX1.out)).mono ?_; rintro e w2 ⟨rfl, HQ2⟩)
        | fail)
      go_ret2
      exact ⟨k, rfl, ⟨L1, row1, HL1.out, HQ2.out.1⟩, HX1.out.trans HQ2.out.2⟩
  · rw [if_pos h0]
    have h0' : (r1 == 0) = false := by simpa using h0
    have h0'' : (r1 != 0) = true := by simpa using h0
    clear HLN hcl hn
    unfold pf at HRO ⊢
    go_enter Tryz.func16, Tryz.ntmps16
    go_wp2_with (first
      | (go_at_call 53; refine HRO.mono ?_; rintro e w1 ⟨rfl, row1, L1, hl1, hq1, hx1⟩; clear HRO; have HL1 : Hid (L1.fs = r2) := hl1; have HQ1 : Hid (Pq w0 w1 q k P.lim L1 P.hits P.miss row1 r3 r4) := hq1; have HX1 : Hid (Nx w w1 k k) := hx1; clear hl1 hq1 hx1)
      | fail)
    go_ret2
    exact ⟨k, rfl, ⟨L1, row1, HL1.out, HQ1.out⟩, HX1.out⟩

def pfR (P : PS) (s : SS) (d : D.DS) (id : Int) : Int × PS × SS × D.DS :=
  if 0 ≤ idxF P.fs (hasId id) ∧ 0 < ((P.fs[(idxF P.fs (hasId id)).toNat]?).getD ⟨0, 0, [], 0, false⟩).pn then (14, P, s, d)
  else if (frR s d id).1 ≠ 0 then ((frR s d id).1, P, (frR s d id).2)
  else (0, { P with fs := if 0 ≤ idxF P.fs (hasId id) then P.fs.eraseIdx (idxF P.fs (hasId id)).toNat else P.fs }, (frR s d id).2)
set_option maxHeartbeats 2000000 in
theorem pfree_any {w0 w : World} {q : Nat} {k : Pl} {P : PS} {s : SS} {d : D.DS} (id : Int) (H : Pi w0 w q k P s d) :
    Calls Tryz.prog 18 #[pf q, .int .i64 id] w fun e w' => e = .returned (.int .i64 (pfR P s d id).1) ∧ Pi w0 w' q k (pfR P s d id).2.1 (pfR P s d id).2.2.1 (pfR P s d id).2.2.2 ∧ Nx w w' k k := by
  obtain ⟨L, row, hP, H⟩ := H
  have HH : Hid (Pq w0 w q k P.lim L P.hits P.miss row s d) := H
  have HHO := holding_any id w
  have HWH : Hid (∀ w1 x, Below w.heap.size w w1 → AsksF w1 125 #[.pointer (some ⟨x, 0, none⟩)] (hasId id) → Calls Tryz.prog 57 #[pf q, .func (.func 125) #[] #[.pointer (some ⟨x, 0, none⟩)]] w1 fun e w' => e = .returned (.int .i64 (idxF L.fs (hasId id))) ∧ Below w1.heap.size w1 w') := fun w1 x hb hq => where_any 125 _ _ (HH.out.po.below hb) hq
  have HFR : Hid (∀ w1, Below w.heap.size w w1 → Calls Tryz.prog 59 #[.pointer (some ⟨k.p, 0, none⟩), .int .i64 id] w1 fun e w' => e = .returned (.int .i64 (frR s d id).1) ∧ Hid (Pq w0 w' q k P.lim L P.hits P.miss row (frR s d id).2.1 (frR s d id).2.2 ∧ Nx w w' k k)) := fun w1 hb => by
    refine (m_free id w1 (HH.out.below hb).mi).mono ?_
    rintro e w' ⟨rfl, hm, ho⟩
    exact ⟨rfl, ⟨(HH.out.below hb).po.off ho, hm⟩, (Nx.below k hb).trans (Nx.ofK ho)⟩
  have HCC : Hid (∀ w1, Below w.heap.size w w1 → w1.cell? ⟨q, 0, none⟩ = some (.pointer (some ⟨k.p, 0, none⟩))) := fun w1 hb => (HH.out.below hb).po.pb.cells.c0
  have HPF : Hid (Pi w0 w q k P s d) := ⟨L, row, hP, H⟩
  have HLP : Hid (L.fs = P.fs) := hP
  by_cases hx : idxF L.fs (hasId id) < 0
  · have hx2 : ¬ (0 ≤ idxF P.fs (hasId id)) := by rw [← hP]; omega
    have hpf : pfR P s d id = if (frR s d id).1 ≠ 0 then ((frR s d id).1, P, (frR s d id).2) else (0, P, (frR s d id).2) := by
      unfold pfR; rw [if_neg (fun h => hx2 h.1), if_neg hx2]
    rw [hpf]
    rw [idxF_neg hx] at HWH
    generalize frR s d id = r at *
    clear H hP hx hx2 hpf
    unfold pf at HWH ⊢
    obtain ⟨r1, r2⟩ := r
    by_cases h0 : r1 = 0
    · subst h0
      go_enter Tryz.func18, Tryz.ntmps18
      go_wp2_with (first
        | (go_at_call 58; refine HHO.mono ?_; rintro e w1 ⟨rfl, hb1, hq1⟩; clear HHO; have HB1 : Hid (Below w.heap.size w w1) := hb1; have HQ1 : Hid (AsksF w1 125 #[.pointer (some ⟨w.heap.size, 0, none⟩)] (hasId id)) := hq1; clear hb1 hq1)
        | (go_at_call 57; refine (HWH.out w1 w.heap.size HB1.out HQ1.out).mono ?_; rintro e w2 ⟨rfl, hb2⟩; have HB2 : Hid (Below w.heap.size w w2) := HB1.out.trans (hb2.mono HB1.out.size); clear hb2; have c0 := HCC.out w2 HB2.out)
        | (go_at_call 59; refine (HFR.out w2 HB2.out).mono ?_; rintro e w3 ⟨rfl, HQ3⟩)
        | fail)
      go_ret
      exact ⟨rfl, ⟨L, row, HLP.out, HQ3.out.1⟩, HQ3.out.2⟩
    · have h0' : (r1 == 0) = false := by simpa using h0
      have h0'' : (r1 != 0) = true := by simpa using h0
      go_enter Tryz.func18, Tryz.ntmps18
      go_wp2_with (first
        | (go_at_call 58; refine HHO.mono ?_; rintro e w1 ⟨rfl, hb1, hq1⟩; clear HHO; have HB1 : Hid (Below w.heap.size w w1) := hb1; have HQ1 : Hid (AsksF w1 125 #[.pointer (some ⟨w.heap.size, 0, none⟩)] (hasId id)) := hq1; clear hb1 hq1)
        | (go_at_call 57; refine (HWH.out w1 w.heap.size HB1.out HQ1.out).mono ?_; rintro e w2 ⟨rfl, hb2⟩; have HB2 : Hid (Below w.heap.size w w2) := HB1.out.trans (hb2.mono HB1.out.size); clear hb2; have c0 := HCC.out w2 HB2.out)
        | (go_at_call 59; refine (HFR.out w2 HB2.out).mono ?_; rintro e w3 ⟨rfl, HQ3⟩)
        | fail)
      go_ret
      exact ⟨rfl, ⟨L, row, HLP.out, HQ3.out.1⟩, HQ3.out.2⟩
  · obtain ⟨i, hi, hlt⟩ := idxF_lt hx
    rw [FL.fs_len] at hlt
    rw [hi] at HWH
    have hfi : (P.fs[i]?).getD ⟨0, 0, [], 0, false⟩ = L[i].2 := by rw [← hP, FL.fs_get L i hlt]; rfl
    have hpf : pfR P s d id = if 0 < L[i].2.pn then (14, P, s, d) else if (frR s d id).1 ≠ 0 then ((frR s d id).1, P, (frR s d id).2) else (0, { P with fs := P.fs.eraseIdx i }, (frR s d id).2) := by
      unfold pfR; rw [← hP, hi, Int.toNat_natCast, hP, hfi, if_pos (show (0 : Int) ≤ i by omega)]
      simp only [show (0 : Int) ≤ i by omega, true_and]
    rw [hpf]
    obtain ⟨g, cap, a, c, e, hcap, cg, hf, hfb, ha0, hac, hc63, hbv⟩ := H.at i hlt
    have HCI : Hid (∀ w1, Below w.heap.size w w1 → w1.cell? ⟨q, 2, none⟩ = some (.slice (some ⟨g, 0, none⟩) L.length cap) ∧ w1.cell? ⟨g, i, none⟩ = some (.pointer (some ⟨L[i].1, 0, none⟩)) ∧ w1.cell? ⟨L[i].1, 3, none⟩ = some (.int .i64 L[i].2.pn)) := fun w1 hb => by
      have H1 := HH.out.below hb
      have hf1 : FrB w1 L[i].1 L[i].2 (.slice a L[i].2.zs.length c) := hf.off (D.Off.of_below (X := []) hb) (by simp)
      have hgl : g < w.heap.size := (World.ownsRow.lt H.po.rb g (by rw [e]; rfl)).2
      refine ⟨?_, ?_, hf1.cells.c3⟩
      · rw [← e]; exact H1.po.pb.cells.c2
      · simp only [World.cell?, hb.block g hgl] at cg ⊢; exact cg
    have HDD : Hid (∀ (w2 : World) s' d', Pq w0 w2 q k P.lim L P.hits P.miss row s' d' → Calls Tryz.prog 60 #[.pointer (some ⟨q, 0, none⟩), .int .i64 i] w2 fun e w' => e = .returned (.tuple #[]) ∧ Hid (Pi w0 w' q k { P with fs := P.fs.eraseIdx i } s' d' ∧ Nx w2 w' k k)) := fun w2 s' d' hQ => by
      refine (drop_any i hlt hQ).mono ?_
      rintro e w' ⟨rfl, row', h1, h2, _⟩
      exact ⟨rfl, ⟨L.eraseIdx i, row', by rw [FL.erase_fs, hP], h1⟩, h2⟩
    have hin : i < L.length := hlt
    generalize L[i].1 = b at *
    generalize L[i].2 = f at *
    obtain ⟨n, hn⟩ : ∃ n, n = L.length := ⟨_, rfl⟩
    rw [← hn] at HCI hcap hin
    generalize frR s d id = r at *
    have hi0 : (0 : Int) ≤ i := by omega
    clear H hP hx hpf hi hlt hfi e cg hf hfb ha0 hac hc63 hbv hn
    unfold pf at HWH ⊢
    obtain ⟨r1, r2⟩ := r
    by_cases hpn : 0 < f.pn
    · rw [if_pos hpn]
      go_enter Tryz.func18, Tryz.ntmps18
      go_wp2_with (first
        | (go_at_call 58; refine HHO.mono ?_; rintro e w1 ⟨rfl, hb1, hq1⟩; clear HHO; have HB1 : Hid (Below w.heap.size w w1) := hb1; have HQ1 : Hid (AsksF w1 125 #[.pointer (some ⟨w.heap.size, 0, none⟩)] (hasId id)) := hq1; clear hb1 hq1)
        | (go_at_call 57; refine (HWH.out w1 w.heap.size HB1.out HQ1.out).mono ?_; rintro e w2 ⟨rfl, hb2⟩; have HB2 : Hid (Below w.heap.size w w2) := HB1.out.trans (hb2.mono HB1.out.size); clear hb2; obtain ⟨k1, k2, k3⟩ := HCI.out w2 HB2.out)
        | fail)
      go_ret
      exact ⟨rfl, HPF.out.below HB2.out, Nx.below k HB2.out⟩
    · rw [if_neg hpn]
      by_cases h0 : r1 = 0
      · subst h0
        go_enter Tryz.func18, Tryz.ntmps18
        go_wp2_with (first
          | (go_at_call 58; refine HHO.mono ?_; rintro e w1 ⟨rfl, hb1, hq1⟩; clear HHO; have HB1 : Hid (Below w.heap.size w w1) := hb1; have HQ1 : Hid (AsksF w1 125 #[.pointer (some ⟨w.heap.size, 0, none⟩)] (hasId id)) := hq1; clear hb1 hq1)
          | (go_at_call 57; refine (HWH.out w1 w.heap.size HB1.out HQ1.out).mono ?_; rintro e w2 ⟨rfl, hb2⟩; have HB2 : Hid (Below w.heap.size w w2) := HB1.out.trans (hb2.mono HB1.out.size); clear hb2; obtain ⟨k1, k2, k3⟩ := HCI.out w2 HB2.out; have c0 := HCC.out w2 HB2.out)
          | (go_at_call 59; refine (HFR.out w2 HB2.out).mono ?_; rintro e w3 ⟨rfl, HQ3⟩)
          | (go_at_call 60; refine (HDD.out w3 _ _ HQ3.out.1).mono ?_; rintro e w4 ⟨rfl, HQ4⟩)
          | fail)
        go_ret
        exact ⟨rfl, HQ4.out.1, HQ3.out.2.trans HQ4.out.2⟩
      · have h0' : (r1 == 0) = false := by simpa using h0
        have h0'' : (r1 != 0) = true := by simpa using h0
        go_enter Tryz.func18, Tryz.ntmps18
        go_wp2_with (first
          | (go_at_call 58; refine HHO.mono ?_; rintro e w1 ⟨rfl, hb1, hq1⟩; clear HHO; have HB1 : Hid (Below w.heap.size w w1) := hb1; have HQ1 : Hid (AsksF w1 125 #[.pointer (some ⟨w.heap.size, 0, none⟩)] (hasId id)) := hq1; clear hb1 hq1)
          | (go_at_call 57; refine (HWH.out w1 w.heap.size HB1.out HQ1.out).mono ?_; rintro e w2 ⟨rfl, hb2⟩; have HB2 : Hid (Below w.heap.size w w2) := HB1.out.trans (hb2.mono HB1.out.size); clear hb2; obtain ⟨k1, k2, k3⟩ := HCI.out w2 HB2.out; have c0 := HCC.out w2 HB2.out)
          | (go_at_call 59; refine (HFR.out w2 HB2.out).mono ?_; rintro e w3 ⟨rfl, HQ3⟩)
          | fail)
        go_ret
        exact ⟨rfl, ⟨L, row, HLP.out, HQ3.out.1⟩, HQ3.out.2⟩
end Go.Proofs.YtbklnadlbcndlaaGreat
namespace Go.Proofs.YtbklnadlbcndlaaGreat
set_option maxRecDepth 20000
open Go.RowKit
set_option linter.unusedVariables false
set_option linter.unusedSimpArgs false
theorem phits_any {w0 w : World} {q : Nat} {k : Pl} {P : PS} {s : SS} {d : D.DS} (H : Pi w0 w q k P s d) : Calls Tryz.prog 26 #[pf q] w fun e w' => e = .returned (.int .i64 P.hits) ∧ w' = w := by
  obtain ⟨L, row, hP, H⟩ := H
  have c3 := H.po.pb.cells.c3
  clear H hP
  unfold pf
  go_enter Tryz.func26, Tryz.ntmps26
  go_wp2
  go_ret
  exact ⟨rfl, rfl⟩
theorem pmiss_any {w0 w : World} {q : Nat} {k : Pl} {P : PS} {s : SS} {d : D.DS} (H : Pi w0 w q k P s d) : Calls Tryz.prog 27 #[pf q] w fun e w' => e = .returned (.int .i64 P.miss) ∧ w' = w := by
  obtain ⟨L, row, hP, H⟩ := H
  have c4 := H.po.pb.cells.c4
  clear H hP
  unfold pf
  go_enter Tryz.func27, Tryz.ntmps27
  go_wp2
  go_ret
  exact ⟨rfl, rfl⟩
theorem pnew_any {w0 w : World} {k : Pl} {s : SS} {d : D.DS} (n : Int) (h1 : 1 ≤ n) (h2 : n ≤ 64) (H : Mi w0 w k s d) (hz : k.z = []) :
    Calls Tryz.prog 14 #[pf k.p, .int .i64 n] w fun e w' => ∃ q k', e = .returned (.tuple #[pf q, .int .i64 0]) ∧ Pi w0 w' q k' ⟨n, [], 0, 0⟩ s d ∧ Nx w w' k k' ∧ Below w.heap.size w w' := by
  have FIN : Hid (Pi w0 (w.alloc (.cells #[.pointer (some ⟨k.p, 0, none⟩), .int .i64 n, .slice none 0 0, .int .i64 0, .int .i64 0] 101)) w.heap.size (k.more [w.heap.size]) ⟨n, [], 0, 0⟩ s d ∧ Nx w (w.alloc (.cells #[.pointer (some ⟨k.p, 0, none⟩), .int .i64 n, .slice none 0 0, .int .i64 0, .int .i64 0] 101)) k (k.more [w.heap.size]) ∧ Below w.heap.size w (w.alloc (.cells #[.pointer (some ⟨k.p, 0, none⟩), .int .i64 n, .slice none 0 0, .int .i64 0, .int .i64 0] 101))) := by
    have hb : Below w.heap.size w (w.alloc (.cells #[.pointer (some ⟨k.p, 0, none⟩), .int .i64 n, .slice none 0 0, .int .i64 0, .int .i64 0] 101)) := (Below.refl _ _).alloc (Nat.le_refl _) _
    have hlt := H.sy.lt
    have hzm : (k.more [w.heap.size]).z = [w.heap.size] := by simp [Pl.more, hz]
    have hm := H.other (w' := w.alloc (.cells #[.pointer (some ⟨k.p, 0, none⟩), .int .i64 n, .slice none 0 0, .int .i64 0, .int .i64 0] 101)) (by rw [hz]; simp) (by rw [hz]; simp) (D.Off.of_below hb) [w.heap.size] (by simp) (by simp)
    refine ⟨⟨[], .slice none 0 0, rfl, ⟨⟨heap_alloc_last _ _, World.ownsRow_nil _ _ 102 1, ?_, ?_, ?_, ?_, by simp [FL.bs], ?_, ?_, by simp; omega, h1, by simp; omega⟩, hm⟩⟩, ⟨⟨[w.heap.size], rfl, by simp⟩, D.Off.of_below hb⟩, hb⟩
    · intro g hg; simp [Value.ownBlock] at hg
    · intro x hx; simp at hx
    · intro b hb; simp [FL.bs] at hb
    · rw [hzm]; simp
    · intro x hx hk
      rw [hzm] at hx
      simp at hx
      subst hx
      have := hlt _ (k.kx _ hk)
      omega
    · intro x hx
      rw [hzm] at hx
      simp at hx
      subst hx
      exact H.be.size
  clear H hz
  unfold pf at *
  go_enter Tryz.func14, Tryz.ntmps14
  go_wp2
  go_ret2
  exact ⟨_, _, rfl, FIN.out⟩
end Go.Proofs.YtbklnadlbcndlaaGreat
namespace Go.Proofs.YtbklnadlbcndlaaGreat
set_option maxRecDepth 20000
open Go.RowKit Go.Sort
set_option linter.unusedVariables false
set_option linter.unusedSimpArgs false
theorem wp_appI1 {ops : Array Oper} {rest : List Oper} {o : Oper} {a : Act} {Q : Exit → Act → World → Prop} {w : World} (hgd : o.guard = none) (s x : Operand)
    (ho : o.op = .call { callee := .builtin .append, args := #[s, x], argTypes := #[52, 52] }) (base : Nat) (lv : Value) (l : List Int) (z : Int) (hs : a.eval s = lv) (hown : OwnI w base lv l)
    (g : Nat) (hx : a.eval x = .slice (some ⟨g, 0, none⟩) 1 1) (hg : w.heap[g]? = some (.cells #[.int .i64 z] 3 (0, 0))) (hlen : l.length ≤ 10000000) (hbase : base ≤ w.heap.size)
    (h : ∀ lv' w', OwnI w' base lv' (l ++ [z]) → Below base w w' → wpList Tryz.prog ops Q rest (a.put o.dst lv') w') : wpList Tryz.prog ops Q (o :: rest) a w := by
  obtain ⟨i0, hi, hz0, hz1, hz2⟩ := info_parts Tryz.info3
  refine wpList_append_own w hgd s x 52 ho base 3 i0 (.int .i64 0) 1 8 Tryz.underlying52 hi hz0 hz1 hz2 rfl (by decide) lv l.length (l.map (Value.int .i64)) hs hown ⟨g, 0, none⟩ 1 1 [.int .i64 z] hx rfl ?_ (by simp [Value.oneCell']) (by unfold maxLen; omega) (by omega) hbase ?_
  · intro j u hu
    rw [add_plain, Nat.zero_add, cell_of_row _ _ _ _ _ _ hg]
    simpa using hu
  · intro v' w' h1 h2 _
    refine h v' w' ?_ ((Below.refl base w).grown h2 hbase (fun k hk => (World.ownsRow.lt hown k hk).1))
    unfold OwnI
    rw [List.length_append, List.map_append]
    exact h1
theorem heap_putI_same {w : World} {b off : Nat} {d : Array Int} {c : Array Value} {e : TypeId} {fr : Nat × Nat} (h : w.heap[b]? = some (.cells c e fr)) : (putRow (Value.int .i64) w b off d).heap[b]? = some (.cells (putCells (Value.int .i64) off d c) e fr) := by
  simp [putRow, mapBlock, Array.getElem?_modify, h, onCells]
theorem heap_putI_other {w : World} {b off k : Nat} {d : Array Int} (h : k ≠ b) : (putRow (Value.int .i64) w b off d).heap[k]? = w.heap[k]? := by
  simp [putRow, mapBlock, Array.getElem?_modify, Ne.symm h]
theorem heap_grow_old {w : World} {os : Array Obj} {k : Nat} (h : k < w.heap.size) : (grow w os).heap[k]? = w.heap[k]? := by
  simp only [grow]
  exact Array.getElem?_append_left h
def heldS (fs : List Fr) : List Int := (fs.map (fun f => f.id)).mergeSort fun x y => decide (x ≤ y)
theorem sort_own (base : Nat) (v : Value) (zs : List Int) (w : World) (hown : OwnI w base v zs) (hbase : base ≤ w.heap.size) (hl : zs.length ≤ 1000000) :
    Calls Tryz.prog 64 #[v] w fun e w' => e = .returned (.tuple #[]) ∧ OwnI w' base v (zs.mergeSort fun x y => decide (x ≤ y)) ∧ Below base w w' := by
  have hlt := World.ownsRow.lt hown
  rcases hown.2 with ⟨rfl, h0⟩ | ⟨g, cap, cur, rfl, hb, hg, hc, hm, hs, ht⟩
  · have hz : zs = [] := List.eq_nil_of_length_eq_zero h0
    subst hz
    refine (AnyM.slices_Sort_int_none D.sortA none 0 w).mono ?_
    rintro e w' ⟨rfl, rfl⟩
    exact ⟨rfl, by rw [List.mergeSort_nil]; exact World.ownsRow_nil _ _ 3 1, Below.refl _ _⟩
  · have hH : Holds (Value.int .i64) w g 0 zs.toArray := by
      intro j hj
      rw [List.size_toArray] at hj
      refine ⟨?_, frozen_of_row _ _ _ _ _ hg⟩
      rw [World.ownsRow.cellAt hown (0 + j) (by omega), Nat.zero_add, List.getElem?_map, List.getElem?_eq_getElem hj]
      simp [hj]
    refine (AnyM.slices_Sort_int D.sortA g 0 cap zs w hH (hlt g rfl).2 (by omega)).mono ?_
    rintro e w' ⟨rfl, n, os, rfl⟩
    have hgl := (hlt g rfl).2
    have hms : (zs.mergeSort fun x y => decide (x ≤ y)).length = zs.length := List.length_mergeSort _
    refine ⟨rfl, ?_, ⟨rfl, rfl, rfl, ?_, fun k hk => ?_⟩⟩
    · refine ⟨by rw [List.length_map]; omega, .inr ⟨g, cap, putCells (Value.int .i64) 0 (zs.mergeSort fun x y => decide (x ≤ y)).toArray cur, by rw [hms], hb, ?_, by omega, hm, ?_, ?_⟩⟩
      · rw [heap_grow_old (by rw [size_putRow]; exact hgl)]
        exact heap_putI_same (w := Sort.ahead w n) hg
      · simpa [putCells] using hs
      · apply List.ext_getElem?
        intro j
        rw [List.getElem?_take]
        have hcs : cur.size = cap := by omega
        by_cases hj : j < (zs.mergeSort fun x y => decide (x ≤ y)).length * 1
        · rw [if_pos hj]
          have hj' : j < (zs.mergeSort fun x y => decide (x ≤ y)).length := by omega
          have hk : j < cur.size := by omega
          simp only [putCells, Array.getElem?_toList, Array.getElem?_mapIdx, Array.getElem?_eq_getElem hk, Option.map_some]
          rw [if_pos ⟨Nat.zero_le _, by simp; omega⟩, Nat.sub_zero, List.getElem?_map, List.getElem?_eq_getElem hj']
          rw [getElem!_pos _ j (by simp; omega)]
          simp
        · rw [if_neg hj, List.getElem?_eq_none (by rw [List.length_map]; omega)]
    · simp only [grow]
      rw [Array.size_append, size_putRow]
      show w.heap.size ≤ w.heap.size + _
      omega
    · rw [heap_grow_old (by rw [size_putRow]; show k < w.heap.size; omega), heap_putI_other (by omega)]
      rfl
theorem FL.ids_take (L : FL) (j : Nat) (h : j < L.length) : (L.take (j + 1)).map (fun x => x.2.id) = (L.take j).map (fun x => x.2.id) ++ [L[j].2.id] := by
  rw [List.take_succ_eq_append_getElem h, List.map_append]; rfl
set_option maxHeartbeats 2000000 in
theorem pheld_any {w0 w : World} {q : Nat} {k : Pl} {P : PS} {s : SS} {d : D.DS} (H : Pi w0 w q k P s d) :
    Calls Tryz.prog 24 #[pf q] w fun e w' => ∃ v, e = .returned v ∧ OwnI w' w.heap.size v (heldS P.fs) ∧ Below w.heap.size w w' := by
  obtain ⟨L, row, hP, H⟩ := H
  have HH : Hid (Pq w0 w q k P.lim L P.hits P.miss row s d) := H
  have c2 := H.po.pb.cells.c2
  obtain ⟨a, cap, e, hn, hc, hm, hcell⟩ := H.po.rb.shape
  rw [e] at c2
  have hl : L.length ≤ 1000 := by have := H.po.ll; have := H.po.l1; omega
  have HCE : Hid (∀ j (hj : j < L.length), ∃ g, a = some ⟨g, 0, none⟩ ∧ ∀ W, Below w.heap.size w W → W.cell? ⟨g, j, none⟩ = some (.pointer (some ⟨L[j].1, 0, none⟩)) ∧ W.cell? ⟨L[j].1, 0, none⟩ = some (.int .i64 L[j].2.id)) := fun j hj => by
    obtain ⟨g, rfl, hg, hce⟩ := hcell (by omega)
    refine ⟨g, rfl, fun W hW => ⟨?_, ?_⟩⟩
    · have := hce j hj
      simp only [World.cell?, hW.block g hg] at this ⊢; exact this
    · obtain ⟨v, hf, _⟩ := H.po.fr _ (List.getElem_mem hj)
      exact (hf.off (D.Off.of_below (X := []) hW) (by simp)).cells.c0
  have HPE : Hid (L.fs = P.fs) := hP
  obtain ⟨n, hn'⟩ : ∃ n, n = L.length := ⟨_, rfl⟩
  have HN : Hid (n = L.length) := hn'
  rw [← hn'] at c2 hc hl
  clear H hP e hn hcell hn'
  have HSO : Hid (∀ w1 v zs, OwnI w1 w.heap.size v zs → w.heap.size ≤ w1.heap.size → zs.length ≤ 1000000 → Calls Tryz.prog 64 #[v] w1 fun e w' => e = .returned (.tuple #[]) ∧ OwnI w' w.heap.size v (zs.mergeSort fun x y => decide (x ≤ y)) ∧ Below w.heap.size w1 w') := fun w1 v zs h1 h2 h3 => sort_own _ _ _ _ h1 h2 h3
  unfold pf
  go_enter Tryz.func24, Tryz.ntmps24
  go_wp2
  go_loopw [13, 3] (fun iv vv wr => ∃ j : Nat, j ≤ n ∧ iv = .int .i64 j ∧ Hid (OwnI wr w.heap.size vv ((L.take j).map (fun x => x.2.id))) ∧ Hid (Below w.heap.size w wr)) (fun iv _ _ => n - (intOf iv).toNat)
  case atStart => exact ⟨0, Nat.zero_le _, rfl, World.ownsRow_nil _ _ 3 1, Below.refl _ _⟩
  case round =>
    obtain ⟨j, hj, rfl, HO, HB⟩ := hrel
    by_cases hlt : j < n
    · have hl2 : j < L.length := by have := HN.out; omega
      obtain ⟨g, rfl, hce⟩ := HCE.out j hl2
      obtain ⟨k1, k2⟩ := hce wr HB.out
      have HT : Hid ((L.take (j + 1)).map (fun x => x.2.id) = (L.take j).map (fun x => x.2.id) ++ [L[j].2.id]) := L.ids_take j hl2
      generalize L[j].1 = b at *
      generalize L[j].2.id = z at *
      go_wp2_with (first | (at_builtin; refine wp_appI1 rfl _ _ rfl w.heap.size _ ((L.take j).map (fun x => x.2.id)) z rfl (HO.out.below ((Below.refl _ _).alloc (Nat.le_refl _) _)) wr.heap.size rfl (heap_alloc_last _ _) (by simp; have := HN.out; omega) (by have := HB.out.size; simp; omega) ?_; intro v2 w2 ho2 hb2; have HO2 : Hid (OwnI w2 w.heap.size v2 ((L.take j).map (fun x => x.2.id) ++ [z])) := ho2; have HB2 : Hid (Below w.heap.size w w2) := HB.out.trans ((((Below.refl _ _).alloc (Nat.le_refl _) _).mono HB.out.size).trans hb2); clear ho2 hb2) | fail)
      go_roundw
      case rel => exact ⟨j + 1, by omega, by go_num, by rw [HT.out]; exact HO2, HB2⟩
      case measure => simp [intOf]; omega
    · have hjn : j = n := by omega
      have HOF : Hid (∀ vv, OwnI wr w.heap.size vv ((L.take j).map (fun x => x.2.id)) → OwnI wr w.heap.size vv (P.fs.map (fun f => f.id))) := fun vv h => by
        rw [← HPE.out]
        have : L.take j = L := by rw [hjn, HN.out]; exact List.take_length
        rw [this] at h
        unfold FL.fs
        rw [List.map_map]
        exact h
      have HLN : Hid ((P.fs.map (fun f => f.id)).length ≤ 1000000) := by
        have h1 : (P.fs.map (fun f => f.id)).length = L.length := by rw [List.length_map, ← HPE.out, FL.fs_len]
        have : (P.fs.map (fun f => f.id)).length ≤ 1000000 := by rw [h1]; have := HN.out; omega
        exact this
      subst hjn
      go_wp2_with (first | (go_at_call 64; refine (HSO.out wr _ _ (HOF.out _ HO.out) HB.out.size HLN.out).mono ?_; rintro e w2 ⟨rfl, ho2, hb2⟩; have HO2 : Hid (OwnI w2 w.heap.size _ _) := ho2; have HB2 : Hid (Below w.heap.size w w2) := HB.out.trans hb2; clear ho2 hb2) | fail)
      go_ret
      exact ⟨_, rfl, HO2.out, HB2.out⟩
end Go.Proofs.YtbklnadlbcndlaaGreat
namespace Go.Proofs.YtbklnadlbcndlaaGreat
set_option maxRecDepth 20000
open Go.RowKit
set_option linter.unusedVariables false
set_option linter.unusedSimpArgs false
def flL : List Int → List Fr → SS → D.DS → Int × List Fr × SS × D.DS
  | [], fs, s, d => (0, fs, s, d)
  | id :: ids, fs, s, d => if (clR fs s d (idxF fs (hasId id)).toNat).1 ≠ 0 then clR fs s d (idxF fs (hasId id)).toNat else flL ids (clR fs s d (idxF fs (hasId id)).toNat).2.1 (clR fs s d (idxF fs (hasId id)).toNat).2.2.1 (clR fs s d (idxF fs (hasId id)).toNat).2.2.2
theorem clR_ids (fs : List Fr) (s : SS) (d : D.DS) (i : Nat) : (clR fs s d i).2.1.map (fun f => f.id) = fs.map (fun f => f.id) := by
  unfold clR
  cases hf : fs[i]? with
  | none => rfl
  | some f =>
    simp only
    split
    · simp only
      split
      · rw [List.map_set]
        apply List.ext_getElem?
        intro j
        rw [List.getElem?_set]
        split
        · rename_i h
          subst h
          split
          · rw [List.getElem?_map, hf]; rfl
          · rename_i h2
            rw [List.getElem?_eq_none (by simpa using h2)]
        · rfl
      · rfl
    · rfl
theorem clean_pi {w0 w : World} {q : Nat} {k : Pl} {P : PS} {s : SS} {d : D.DS} (i : Nat) (hi : i < P.fs.length) (H : Pi w0 w q k P s d) :
    Calls Tryz.prog 61 #[pf q, .int .i64 i] w fun e w' => e = .returned (.int .i64 (clR P.fs s d i).1) ∧ Hid (Pi w0 w' q k { P with fs := (clR P.fs s d i).2.1 } (clR P.fs s d i).2.2.1 (clR P.fs s d i).2.2.2 ∧ Nx w w' k k) := by
  obtain ⟨L, row, hP, H⟩ := H
  have := clean_any i (by rw [← FL.fs_len, hP]; exact hi) H
  rw [hP] at this
  refine this.mono ?_
  rintro e w' ⟨rfl, L', l1, l2, l3, l4⟩
  exact ⟨rfl, ⟨L', row, l2, l3⟩, l4⟩
theorem where_pi {w0 w : World} {q : Nat} {k : Pl} {P : PS} {s : SS} {d : D.DS} (fn : Nat) (caps : Array Value) (pr : Fr → Bool) (H : Pi w0 w q k P s d) (HQ : AsksF w fn caps pr) :
    Calls Tryz.prog 57 #[pf q, .func (.func fn) #[] caps] w fun e w' => e = .returned (.int .i64 (idxF P.fs pr)) ∧ Below w.heap.size w w' := by
  obtain ⟨L, row, hP, H⟩ := H
  rw [← hP]
  exact where_any fn caps pr H.po HQ
theorem idx_of_ids {fs : List Fr} {id : Int} (h : id ∈ fs.map (fun f => f.id)) : ∃ i : Nat, idxF fs (hasId id) = i ∧ i < fs.length := by
  refine idxF_lt (fun hn => ?_)
  obtain ⟨f, hf, rfl⟩ := List.mem_map.1 h
  unfold idxF at hn
  rw [if_pos (List.findIdx_lt_length_of_exists ⟨f, hf, by unfold hasId; simp⟩)] at hn
  omega
structure Fl (w0 w : World) (q : Nat) (k : Pl) (P : PS) (v : Value) (ids : List Int) (R : Int × List Fr × SS × D.DS) (j : Nat) (wr : World) : Prop where
  st : ∃ fs s d, Pi w0 wr q k { P with fs := fs } s d ∧ fs.map (fun f => f.id) = P.fs.map (fun f => f.id) ∧ flL (ids.drop j) fs s d = R
  fi : FI wr k.X v ids
  nx : Nx w wr k k
set_option maxHeartbeats 2000000 in
theorem pflush_any {w0 w : World} {q : Nat} {k : Pl} {P : PS} {s : SS} {d : D.DS} (H : Pi w0 w q k P s d) :
    Calls Tryz.prog 21 #[pf q] w fun e w' => e = .returned (.int .i64 (flL (heldS P.fs) P.fs s d).1) ∧ Pi w0 w' q k { P with fs := (flL (heldS P.fs) P.fs s d).2.1 } (flL (heldS P.fs) P.fs s d).2.2.1 (flL (heldS P.fs) P.fs s d).2.2.2 ∧ Nx w w' k k := by
  obtain ⟨R, hR⟩ : ∃ R, R = flL (heldS P.fs) P.fs s d := ⟨_, rfl⟩
  have hmem : ∀ z ∈ heldS P.fs, z ∈ P.fs.map (fun f => f.id) := fun z hz => by
    unfold heldS at hz
    exact List.mem_mergeSort.1 hz
  obtain ⟨ids, hids⟩ : ∃ ids, ids = heldS P.fs := ⟨_, rfl⟩
  rw [← hids] at hmem hR ⊢
  rw [← hR]
  have hlen : ids.length ≤ 1000 := by
    rw [hids]; unfold heldS
    rw [List.length_mergeSort, List.length_map]
    obtain ⟨L, row, hP, h⟩ := H
    rw [← hP, FL.fs_len]
    have := h.po.ll; have := h.po.l1; omega
  have HHE : Hid (Calls Tryz.prog 24 #[pf q] w fun e w' => ∃ a c, e = .returned (.slice a ids.length c) ∧ ids.length ≤ c ∧ Hid (Fl w0 w q k P (.slice a ids.length c) ids R 0 w')) := by
    refine Calls.mono (pheld_any H) ?_
    rintro e w' ⟨v, rfl, ho, hb⟩
    rw [← hids] at ho
    have hf := fi_own ho (X := k.X) (fun x hx => by
      obtain ⟨L, row, hP, h⟩ := H
      exact h.mi.sy.lt x hx)
    obtain ⟨a, c, rfl, hn, hl, _⟩ := id hf
    exact ⟨a, c, rfl, hl, ⟨P.fs, s, d, H.below hb, rfl, hR.symm⟩, hf, Nx.below k hb⟩
  -- one round: what is asked, what is found, what is cleaned
  have HST : Hid (∀ a c j wr, j < ids.length → Fl w0 w q k P (.slice a ids.length c) ids R j wr → ∃ (z : Int) (i : Nat) (g off : Nat) (r1 : Int), a = some ⟨g, off, none⟩ ∧ wr.cell? ⟨g, off + j, none⟩ = some (.int .i64 z) ∧ (∀ w1, Below wr.heap.size wr w1 → ∀ x, AsksF w1 125 #[.pointer (some ⟨x, 0, none⟩)] (hasId z) → Calls Tryz.prog 57 #[pf q, .func (.func 125) #[] #[.pointer (some ⟨x, 0, none⟩)]] w1 fun e w' => e = .returned (.int .i64 (i : Int)) ∧ Below w1.heap.size w1 w') ∧ (∀ w1, Below wr.heap.size wr w1 → Calls Tryz.prog 61 #[pf q, .int .i64 (i : Int)] w1 fun e w' => e = .returned (.int .i64 r1) ∧ Hid ((r1 = 0 → Fl w0 w q k P (.slice a ids.length c) ids R (j + 1) w') ∧ (r1 ≠ 0 → r1 = R.1 ∧ Pi w0 w' q k { P with fs := R.2.1 } R.2.2.1 R.2.2.2 ∧ Nx w w' k k)))) := by
    intro a c j wr hj hF
    obtain ⟨⟨fs, s', d', hp, hi, hr⟩, hfi, hnx⟩ := hF
    have hd : ids.drop j = ids[j] :: ids.drop (j + 1) := List.drop_eq_getElem_cons hj
    rw [hd] at hr
    unfold flL at hr
    obtain ⟨i, hix, hil⟩ := idx_of_ids (fs := fs) (id := ids[j]) (by rw [hi]; exact hmem _ (List.getElem_mem hj))
    rw [hix, Int.toNat_natCast] at hr
    obtain ⟨a', c', e, h0, h1, h2, h3, h4⟩ := id hfi
    cases e
    obtain ⟨g, off, rfl, hlt, hc⟩ : ∃ g off, a = some ⟨g, off, none⟩ ∧ g < wr.heap.size ∧ ∀ i, i < ids.length → wr.cell? ⟨g, off + i, none⟩ = some (.int .i64 (ids.getD i 0)) := by
      rcases h3 with h3 | h3
      · subst h3; simp at hj
      · exact h3
    refine ⟨ids[j], i, g, off, (clR fs s' d' i).1, rfl, ?_, fun w1 hb x hq => ?_, fun w1 hb => ?_⟩
    · rw [hc j hj, List.getD_eq_getElem?_getD, List.getElem?_eq_getElem hj]; rfl
    · have := where_pi 125 _ _ (hp.below hb) hq
      rw [show idxF ({ P with fs := fs } : PS).fs (hasId ids[j]) = i from hix] at this
      exact this
    · refine (clean_pi i hil (hp.below hb)).mono ?_
      rintro e w' ⟨rfl, hh⟩
      obtain ⟨hh1, hh2⟩ := hh.out
      refine ⟨rfl, fun h0 => ?_, fun h0 => ?_⟩
      · rw [if_neg (by simpa using h0)] at hr
        exact ⟨⟨_, _, _, hh1, (clR_ids _ _ _ _).trans hi, hr⟩, (hfi.below hb).off hh2.off (fun _ h => h), (hnx.trans (Nx.below k hb)).trans hh2⟩
      · rw [if_pos h0] at hr
        rw [← hr]
        exact ⟨rfl, hh1, (hnx.trans (Nx.below k hb)).trans hh2⟩
  have HEND : Hid (∀ a c wr, Fl w0 w q k P (.slice a ids.length c) ids R ids.length wr → R.1 = 0 ∧ Pi w0 wr q k { P with fs := R.2.1 } R.2.2.1 R.2.2.2 ∧ Nx w wr k k) := by
    intro a c wr hF
    obtain ⟨⟨fs, s', d', hp, hi, hr⟩, hfi, hnx⟩ := hF
    rw [List.drop_length] at hr
    unfold flL at hr
    rw [← hr]
    exact ⟨rfl, hp, hnx⟩
  have HHO := holding_any
  obtain ⟨n, hn⟩ : ∃ n, n = ids.length := ⟨_, rfl⟩
  rw [← hn] at HHE HST HEND hlen
  clear hmem hids hR H hn
  unfold pf at HHE HST ⊢
  go_enter Tryz.func21, Tryz.ntmps21
  go_wp2_with (first | (go_at_call 24; refine HHE.out.mono ?_; rintro e w1 ⟨a, c, rfl, hc, HF0⟩; clear HHE) | fail)
  go_loopw [11] (fun iv wr => ∃ j : Nat, j ≤ n ∧ iv = .int .i64 (j : Int) ∧ Hid (Fl w0 w q k P (.slice a n c) ids R j wr)) (fun iv _ => 2000 - (iOf iv).toNat)
  case atStart => exact ⟨0, Nat.zero_le _, rfl, HF0⟩
  case round =>
    clear HF0
    obtain ⟨j, hj, rfl, HF⟩ := hrel
    by_cases hlt : j < n
    · obtain ⟨z, i, g, off, r1, rfl, cg, H57, H61⟩ := HST.out a c j wr hlt HF.out
      have hlt' : (j : Int) < n := by omega
      have H57' : Hid _ := H57
      have H61' : Hid _ := H61
      clear H57 H61
      by_cases h0 : r1 = 0
      · subst h0
        go_wp2_with (first
          | (go_at_call 58; refine (HHO z wr).mono ?_; rintro e w2 ⟨rfl, hb2, hq2⟩; have HB2 : Hid (Below wr.heap.size wr w2) := hb2; have HQ2 : Hid (AsksF w2 125 #[.pointer (some ⟨wr.heap.size, 0, none⟩)] (hasId z)) := hq2; clear hb2 hq2)
          | (go_at_call 57; refine (H57'.out w2 HB2.out wr.heap.size HQ2.out).mono ?_; rintro e w3 ⟨rfl, hb3⟩; have HB3 : Hid (Below wr.heap.size wr w3) := HB2.out.trans (hb3.mono HB2.out.size); clear hb3)
          | (go_at_call 61; refine (H61'.out w3 HB3.out).mono ?_; rintro e w4 ⟨rfl, HR4⟩)
          | fail)
        go_roundw
        case rel => exact ⟨j + 1, by omega, by go_num, HR4.out.1 trivial⟩
        case measure => simp [iOf]; omega
      · have h0' : (r1 == 0) = false := by simpa using h0
        have h0'' : (r1 != 0) = true := by simpa using h0
        go_wp2_with (first
          | (go_at_call 58; refine (HHO z wr).mono ?_; rintro e w2 ⟨rfl, hb2, hq2⟩; have HB2 : Hid (Below wr.heap.size wr w2) := hb2; have HQ2 : Hid (AsksF w2 125 #[.pointer (some ⟨wr.heap.size, 0, none⟩)] (hasId z)) := hq2; clear hb2 hq2)
          | (go_at_call 57; refine (H57'.out w2 HB2.out wr.heap.size HQ2.out).mono ?_; rintro e w3 ⟨rfl, hb3⟩; have HB3 : Hid (Below wr.heap.size wr w3) := HB2.out.trans (hb3.mono HB2.out.size); clear hb3)
          | (go_at_call 61; refine (H61'.out w3 HB3.out).mono ?_; rintro e w4 ⟨rfl, HR4⟩)
          | fail)
        go_ret
        obtain ⟨e1, e2, e3⟩ := HR4.out.2 h0
        exact ⟨by rw [e1]; rfl, e2, e3⟩
    · have hjn : j = n := by omega
      have HE : Hid (R.1 = 0 ∧ Pi w0 wr q k { P with fs := R.2.1 } R.2.2.1 R.2.2.2 ∧ Nx w wr k k) := HEND.out a c wr (by have := HF.out; rw [hjn] at this; exact this)
      have hge : ¬ ((j : Int) < n) := by omega
      clear HF hjn hlt
      go_wp2_with fail
      go_ret
      exact ⟨by rw [HE.out.1]; rfl, HE.out.2⟩

noncomputable def pcR (P : PS) (s : SS) (d : D.DS) : Int × PS × SS × D.DS :=
  if (flL (heldS P.fs) P.fs s d).1 ≠ 0 then ((flL (heldS P.fs) P.fs s d).1, { P with fs := (flL (heldS P.fs) P.fs s d).2.1 }, (flL (heldS P.fs) P.fs s d).2.2)
  else ((comR (flL (heldS P.fs) P.fs s d).2.2.1 (flL (heldS P.fs) P.fs s d).2.2.2 (us2S (flL (heldS P.fs) P.fs s d).2.2.1)).1, { P with fs := (flL (heldS P.fs) P.fs s d).2.1 }, (comR (flL (heldS P.fs) P.fs s d).2.2.1 (flL (heldS P.fs) P.fs s d).2.2.2 (us2S (flL (heldS P.fs) P.fs s d).2.2.1)).2)
set_option maxHeartbeats 1000000 in
theorem pcommit_any {w0 w : World} {q : Nat} {k : Pl} {P : PS} {s : SS} {d : D.DS} (H : Pi w0 w q k P s d) :
    Calls Tryz.prog 22 #[pf q] w fun e w' => e = .returned (.int .i64 (pcR P s d).1) ∧ Pi w0 w' q k (pcR P s d).2.1 (pcR P s d).2.2.1 (pcR P s d).2.2.2 ∧ Nx w w' k k := by
  have HF := pflush_any H
  unfold pcR
  generalize flL (heldS P.fs) P.fs s d = R at *
  obtain ⟨r1, r2, r3, r4⟩ := R
  simp only at HF ⊢
  clear H
  by_cases h0 : r1 = 0
  · subst h0
    rw [if_neg (by simp)]
    have HC : Hid (∀ w1, Pi w0 w1 q k { P with fs := r2 } r3 r4 → w1.cell? ⟨q, 0, none⟩ = some (.pointer (some ⟨k.p, 0, none⟩)) ∧ Calls Tryz.prog 62 #[.pointer (some ⟨k.p, 0, none⟩)] w1 fun e w' => e = .returned (.int .i64 (comR r3 r4 (us2S r3)).1) ∧ Hid (Pi w0 w' q k { P with fs := r2 } (comR r3 r4 (us2S r3)).2.1 (comR r3 r4 (us2S r3)).2.2 ∧ Nx w1 w' k k)) := fun w1 h => by
      obtain ⟨L, row, hP, h⟩ := h
      refine ⟨h.po.pb.cells.c0, (m_commit w1 h.mi).mono ?_⟩
      rintro e w' ⟨rfl, hm, ho⟩
      exact ⟨rfl, ⟨L, row, hP, h.po.off ho, hm⟩, Nx.ofK ho⟩
    generalize comR r3 r4 (us2S r3) = C at *
    obtain ⟨c1, c2⟩ := C
    unfold pf at HF ⊢
    go_enter Tryz.func22, Tryz.ntmps22
    go_wp2_with (first
      | (go_at_call 21; refine HF.mono ?_; rintro e w1 ⟨rfl, hp1, hx1⟩; clear HF; have HX1 : Hid (Nx w w1 k k) := hx1; have c0 := (HC.out w1 hp1).1; have HP1 : Hid (Pi w0 w1 q k { P with fs := r2 } r3 r4) := hp1; clear hp1 hx1)
      | (go_at_call 62; refine Calls.mono (HC.out w1 HP1.out).2 ?_; rintro e w2 ⟨rfl, HP2⟩)
      | fail)
    go_ret
    exact ⟨rfl, HP2.out.1, HX1.out.trans HP2.out.2⟩
  · rw [if_pos h0]
    have h0' : (r1 == 0) = false := by simpa using h0
    have h0'' : (r1 != 0) = true := by simpa using h0
    unfold pf at HF ⊢
    go_enter Tryz.func22, Tryz.ntmps22
    go_wp2_with (first
      | (go_at_call 21; refine HF.mono ?_; rintro e w1 ⟨rfl, hp1, hx1⟩; clear HF; have HX1 : Hid (Pi w0 w1 q k { P with fs := r2 } r3 r4 ∧ Nx w w1 k k) := ⟨hp1, hx1⟩; clear hp1 hx1)
      | fail)
    go_ret
    exact ⟨rfl, HX1.out⟩
set_option maxHeartbeats 1000000 in
theorem pabort_any {w0 w : World} {q : Nat} {k : Pl} {P : PS} {s : SS} {d : D.DS} (H : Pi w0 w q k P s d) :
    Calls Tryz.prog 23 #[pf q] w fun e w' => e = .returned (.int .i64 (abR s d).1) ∧ Pi w0 w' q k { P with fs := [] } (abR s d).2.1 (abR s d).2.2 ∧ Nx w w' k k := by
  obtain ⟨L, row, hP, H⟩ := H
  have c2 := H.po.pb.cells.c2
  have f2 := H.po.pb.cells.f 2
  obtain ⟨a, cap, e, _⟩ := H.po.rb.shape
  rw [e] at c2
  have ho : D.Off [q] w (w.setCell ⟨q, 2, none⟩ (.slice none 0 0)) := (D.Off.refl _ _).setCell (by simp) _
  have h1 := H.rerow (w' := w.setCell ⟨q, 2, none⟩ (.slice none 0 0)) (h' := P.hits) (m' := P.miss) (row' := .slice none 0 0) (L' := []) [] (by simp) ho (fun y hy => by simp at hy; exact .inl hy) (H.po.pb.set2 _) (World.ownsRow_nil _ _ 102 1) (fun g hg => by simp [Value.ownBlock] at hg) (by simp) (by simp [FL.bs]) (by simp; have := H.po.l0; omega)
  have c0 := h1.1.po.pb.cells.c0
  have HC : Hid (Calls Tryz.prog 63 #[.pointer (some ⟨k.p, 0, none⟩)] (w.setCell ⟨q, 2, none⟩ (.slice none 0 0)) fun e w' => e = .returned (.int .i64 (abR s d).1) ∧ Hid (Pi w0 w' q k { P with fs := [] } (abR s d).2.1 (abR s d).2.2 ∧ Nx w w' k k)) := by
    refine Calls.mono (m_abort _ h1.1.mi) ?_
    rintro e w' ⟨rfl, hm, ho'⟩
    exact ⟨rfl, ⟨[], _, rfl, h1.1.po.off ho', hm⟩, h1.2.trans (Nx.ofK ho')⟩
  have c0' := H.po.pb.cells.c0
  generalize abR s d = r at *
  generalize L.length = n at c2
  clear H h1 ho e hP c0
  unfold pf at *
  go_enter Tryz.func23, Tryz.ntmps23
  go_wp2_with (first | (go_at_call 63; refine HC.out.mono ?_; rintro e w1 ⟨rfl, HP1⟩; clear HC) | fail)
  go_ret
  exact ⟨rfl, HP1.out⟩
end Go.Proofs.YtbklnadlbcndlaaGreat
namespace Go.Proofs.YtbklnadlbcndlaaGreat
set_option maxRecDepth 20000
open Go.RowKit
set_option linter.unusedVariables false
set_option linter.unusedSimpArgs false
def PgsB (B : Nat → List Int) (tb : List Int) : Prop := ∀ id, blkI tb id ≠ 0 → opE (B (blkI tb id).toNat) = 0 ∧ opI (B (blkI tb id).toNat) = id
def pgOf (tb : List Int) (B : Nat → List Int) (id : Int) : Option (Int × List Int) := if blkI tb id = 0 then none else some (opK (B (blkI tb id).toNat), opB (B (blkI tb id).toNat))
structure Cz (s : SS) (d : D.DS) : Prop where
  inv : SInv s
  bad : s.bad = false
  calm : Calm d
  room : d.room = s.bl
  cpg : PgsB d.B s.c.tb
  lpg : PgsB d.B s.l.tb
theorem blk_range {bl : Nat} {tb : List Int} (h : TbOk bl tb) {id : Int} (hi : blkI tb id ≠ 0) : 2 ≤ blkI tb id ∧ blkI tb id < bl := by
  have hm : blkI tb id ∈ tb := (blk_mem hi).1
  exact (h.ins _ hm).resolve_left hi
theorem blk_inj {tb : List Int} (h : Inj tb) {i j : Int} (hi : blkI tb i ≠ 0) (e : blkI tb i = blkI tb j) : i = j := by
  have hj : blkI tb j ≠ 0 := by rw [← e]; exact hi
  obtain ⟨_, i1, i2⟩ := blk_mem hi
  obtain ⟨_, j1, j2⟩ := blk_mem hj
  obtain ⟨a, rfl⟩ : ∃ a : Nat, i = (a : Int) + 1 := ⟨(i - 1).toNat, by omega⟩
  obtain ⟨b, rfl⟩ : ∃ b : Nat, j = (b : Int) + 1 := ⟨(j - 1).toNat, by omega⟩
  rw [blk_get] at hi e hj
  rw [blk_get] at e
  have := h a b hi e
  omega
theorem pg_congr {tb : List Int} {B B' : Nat → List Int} (h : ∀ id, blkI tb id ≠ 0 → B' (blkI tb id).toNat = B (blkI tb id).toNat) (id : Int) : pgOf tb B' id = pgOf tb B id := by
  unfold pgOf
  split
  · rfl
  · rename_i hi
    rw [h id hi]
theorem pgs_congr {tb : List Int} {B B' : Nat → List Int} (hp : PgsB B tb) (h : ∀ id, blkI tb id ≠ 0 → B' (blkI tb id).toNat = B (blkI tb id).toNat) : PgsB B' tb := fun id hi => by
  rw [h id hi]
  exact hp id hi
theorem Cz.reach {s : SS} {d : D.DS} (h : Cz s d) {id : Int} (hi : blkI s.c.tb id ≠ 0) : D.reachE d (blkI s.c.tb id) = 0 := by
  have hr := blk_range h.inv.core.ok.c.tb hi
  unfold D.reachE
  rw [h.calm.dn, if_neg (by simp), if_neg (by rw [h.room]; omega)]
theorem Cz.find {s : SS} {d : D.DS} (h : Cz s d) (id : Int) : findE s id = (if blkI s.c.tb id = 0 then 8 else 0) ∧ findN s id = blkI s.c.tb id := by
  unfold findE findN
  rw [h.bad]
  exact ⟨rfl, rfl⟩
theorem Cz.read {s : SS} {d : D.DS} (h : Cz s d) (id : Int) : (blkI s.c.tb id = 0 ∧ rdE s d id = 8 ∧ rdR s d id = (s, d)) ∨ (blkI s.c.tb id ≠ 0 ∧ rdE s d id = 0 ∧ pgOf s.c.tb d.B id = some (rdKd s d id, rdBy s d id) ∧ (rdR s d id).1 = s ∧ ∃ n, (rdR s d id).2 = { d with reads := n }) := by
  obtain ⟨hf, hn⟩ := h.find id
  by_cases hi : blkI s.c.tb id = 0
  · refine .inl ⟨hi, ?_, ?_⟩
    · unfold rdE; rw [hf, if_pos hi]; rfl
    · unfold rdR; rw [hf, if_pos hi]; rfl
  · rw [if_neg hi] at hf
    have hre := h.reach hi
    obtain ⟨ho1, ho2⟩ := h.cpg id hi
    have hrb : D.readB d (findN s id) = d.B (blkI s.c.tb id).toNat := by
      unfold D.readB; rw [hn, hre]; rfl
    have hre' : rbE (D.readB d (findN s id)) id = 0 := by
      unfold rbE; rw [hrb, ho1, ho2]; simp
    have he : rdE s d id = 0 := by
      unfold rdE; rw [hf, if_neg (by simp), hn, hre, if_neg (by simp), ← hn, hre']
    refine .inr ⟨hi, he, ?_, ?_, ?_⟩
    · unfold pgOf rdKd rdBy rbK rbB
      rw [if_neg hi, if_pos he, if_pos he, if_pos hre', if_pos hre', hrb]
    · unfold rdR
      rw [hf, if_neg (by simp), hn, hre]
      exact note_zero s
    · unfold rdR
      rw [hf, if_neg (by simp)]
      unfold D.readS
      rw [hn, hre, if_neg (by simp)]
      exact ⟨_, rfl⟩
theorem Cz.reads {s : SS} {d : D.DS} (h : Cz s d) (n : Int) : Cz s { d with reads := n } :=
  ⟨h.inv, h.bad, ⟨h.calm.dn, h.calm.fl⟩, h.room, h.cpg, h.lpg⟩
theorem Calm.writes {d : D.DS} (h : Calm d) {n : Int} {zs : List Int} (h0 : 0 ≤ n) (h1 : n < d.room) (hl : zs.length = 256) : D.writeE d n zs = 0 ∧ Calm (D.writeS d n zs) ∧ (D.writeS d n zs).B = D.upd d.B n.toNat zs ∧ (D.writeS d n zs).room = d.room := by
  obtain ⟨e1, e2⟩ := h.write h0 h1 hl
  refine ⟨e1, e2, ?_, writeS_room _ _ _⟩
  have hr : D.reachE d n = 0 := by unfold D.reachE; rw [h.dn, if_neg (by simp), if_neg (by omega)]
  unfold D.writeS
  rw [if_neg (by rw [hr, hl]; simp)]
  unfold D.stepS
  rw [if_neg (by rw [h.fl]; decide)]
  rfl
theorem Cz.lblk {s : SS} {d : D.DS} (h : Cz s d) {id : Int} (hi : blkI s.l.tb id ≠ 0) : B.hasB s.us (blkI s.l.tb id).toNat = true ∧ 2 ≤ blkI s.l.tb id :=
  ⟨h.inv.lown _ (blk_mem hi).1 hi, (blk_range h.inv.lok.tb hi).1⟩
theorem Cz.place {s : SS} {d : D.DS} (h : Cz s d) {id : Nat} {kd : Int} {zs : List Int} (h1 : 1 ≤ id) (he : sealE kd id zs.length = 0) (hf : freeL s ≠ []) :
    (placeR s d id (sealS kd id zs)).1 = 0 ∧ Cz (placeR s d id (sealS kd id zs)).2.1 (placeR s d id (sealS kd id zs)).2.2 ∧ (∀ i, pgOf (placeR s d id (sealS kd id zs)).2.1.c.tb (placeR s d id (sealS kd id zs)).2.2.B i = if i = id then some (kd, zs) else pgOf s.c.tb d.B i) ∧ (placeR s d id (sealS kd id zs)).2.1.l = s.l ∧ (∀ i, pgOf s.l.tb (placeR s d id (sealS kd id zs)).2.2.B i = pgOf s.l.tb d.B i) := by
  have hid := (sealE_zero he).2.2.2.1
  have hlen := (sealE_zero he).2.2.2.2
  have hkeep := place_keep h.inv d (id := id) (sealS kd id zs) h1 (by omega)
  unfold placeR at hkeep ⊢
  cases hfl : freeL s with
  | nil => exact absurd hfl hf
  | cons n rest =>
    rw [hfl] at hkeep
    simp only at hkeep ⊢
    have hm : n ∈ freeL s := by rw [hfl]; simp
    have hfr := free_mem.1 hm
    have hge := free_ge h.inv.core hm
    have hl : (sealS kd id zs).length = 256 := seal_len hlen
    obtain ⟨e0, e1, e2, e3⟩ := h.calm.writes (n := (n : Int)) (by omega) (by rw [h.room]; omega) hl
    rw [if_neg (by rw [e0]; decide)] at hkeep ⊢
    simp only at hkeep ⊢
    obtain ⟨o1, o2, o3, o4⟩ := op_seal he
    have hcn : ∀ i, blkI s.c.tb i ≠ 0 → (blkI s.c.tb i).toNat ≠ n := fun i hi e => by
      have := h.inv.core.own _ (blk_mem hi).1 hi
      rw [e, hfr.2.1, hfr.2.2] at this
      cases this
    have hln : ∀ i, blkI s.l.tb i ≠ 0 → (blkI s.l.tb i).toNat ≠ n := fun i hi e => by
      have := (h.lblk hi).1
      rw [e, hfr.2.1] at this
      cases this
    have hlB : ∀ i, blkI s.l.tb i ≠ 0 → (D.writeS d n (sealS kd id zs)).B (blkI s.l.tb i).toNat = d.B (blkI s.l.tb i).toNat := fun i hi => by
      rw [e2, Int.toNat_natCast, D.upd_other _ _ (hln i hi)]
    have htb : ((s.give id n).fresh n true).c.tb = giveT s.c.tb id n := rfl
    refine ⟨trivial, ⟨hkeep, h.bad, e1, e3.trans h.room, ?_, pgs_congr h.lpg hlB⟩, fun i => ?_, rfl, fun i => pg_congr hlB i⟩
    · intro i hi
      rw [htb, blk_give h1] at hi ⊢
      by_cases ei : i = id
      · rw [if_pos ei] at hi ⊢
        rw [e2, Int.toNat_natCast, D.upd_same, ei]
        exact ⟨o1, o3⟩
      · rw [if_neg ei] at hi ⊢
        rw [e2, Int.toNat_natCast, D.upd_other _ _ (hcn i hi)]
        exact h.cpg i hi
    · unfold pgOf
      rw [htb, blk_give h1]
      by_cases ei : i = id
      · rw [if_pos ei, if_pos ei, if_neg (by omega), e2, Int.toNat_natCast, D.upd_same, o2, o4]
      · rw [if_neg ei, if_neg ei]
        split
        · rfl
        · rename_i hi
          rw [e2, Int.toNat_natCast, D.upd_other _ _ (hcn i hi)]
structure Left (s : SS) (d : D.DS) (s' : SS) (d' : D.DS) (C : Int → Option (Int × List Int)) : Prop where
  cz : Cz s' d'
  pg : ∀ i, pgOf s'.c.tb d'.B i = C i
  l : s'.l = s.l
  lp : ∀ i, pgOf s.l.tb d'.B i = pgOf s.l.tb d.B i
theorem Cz.write {s : SS} {d : D.DS} (h : Cz s d) {id kd : Int} {zs : List Int} (hi : blkI s.c.tb id ≠ 0) (he : sealE kd id zs.length = 0) (hf : freeL s ≠ []) :
    (wrR s d id kd zs).1 = 0 ∧ Left s d (wrR s d id kd zs).2.1 (wrR s d id kd zs).2.2 (fun i => if i = id then some (kd, zs) else pgOf s.c.tb d.B i) := by
  obtain ⟨hfe, hfn⟩ := h.find id
  rw [if_neg hi] at hfe
  have hkeep := write_keep h.inv d id kd zs
  have hlen := (sealE_zero he).2.2.2.2
  have hl : (sealS kd id zs).length = 256 := seal_len hlen
  obtain ⟨_, i1, i2⟩ := blk_mem hi
  unfold wrR at hkeep ⊢
  rw [hfe, if_neg (by simp), if_neg (by simpa using he), hfn] at hkeep ⊢
  by_cases hfr : B.hasI s.c.fr (blkI s.c.tb id) = true
  · rw [if_pos hfr] at hkeep ⊢
    have hr := blk_range h.inv.core.ok.c.tb hi
    rw [hasI_nat' _ _ (by omega)] at hfr
    have hus := h.inv.core.frs _ hfr
    obtain ⟨e0, e1, e2, e3⟩ := h.calm.writes (n := blkI s.c.tb id) (by omega) (by rw [h.room]; omega) hl
    obtain ⟨o1, o2, o3, o4⟩ := op_seal he
    simp only [e0] at hkeep ⊢
    rw [note_zero] at hkeep ⊢
    have hcn : ∀ i, i ≠ id → blkI s.c.tb i ≠ 0 → (blkI s.c.tb i).toNat ≠ (blkI s.c.tb id).toNat := fun i hne hi' e => by
      have hr' := blk_range h.inv.core.ok.c.tb hi'
      exact hne (blk_inj h.inv.core.inj hi' (by omega))
    have hlB : ∀ i, blkI s.l.tb i ≠ 0 → (D.writeS d (blkI s.c.tb id) (sealS kd id zs)).B (blkI s.l.tb i).toNat = d.B (blkI s.l.tb i).toNat := fun i hi' => by
      have hb := (h.lblk hi').1
      rw [e2, D.upd_other _ _ (fun e => by rw [e, hus.1] at hb; cases hb)]
    refine ⟨trivial, ⟨⟨hkeep, h.bad, e1, e3.trans h.room, ?_, pgs_congr h.lpg hlB⟩, fun i => ?_, rfl, fun i => pg_congr hlB i⟩⟩
    · intro i hi'
      by_cases ei : i = id
      · subst ei; rw [e2, D.upd_same]; exact ⟨o1, o3⟩
      · rw [e2, D.upd_other _ _ (hcn i ei hi')]; exact h.cpg i hi'
    · unfold pgOf
      by_cases ei : i = id
      · subst ei; rw [if_pos rfl, if_neg hi, e2, D.upd_same, o2, o4]
      · rw [if_neg ei]
        split
        · rfl
        · rename_i hi'
          rw [e2, D.upd_other _ _ (hcn i ei hi')]
  · rw [if_neg hfr] at hkeep ⊢
    have e : ((id.toNat : Nat) : Int) = id := Int.toNat_of_nonneg (by omega)
    obtain ⟨p1, p2, p3, p4, p5⟩ := h.place (id := id.toNat) (kd := kd) (zs := zs) (by omega) (by rw [e]; exact he) hf
    rw [e] at p1 p2 p3 p4 p5
    exact ⟨p1, ⟨p2, p3, p4, p5⟩⟩
theorem Cz.alloc {s : SS} {d : D.DS} (h : Cz s d) {kd : Int} {zs : List Int} (he1 : sealE kd 1 zs.length = 0) (he : sealE kd (spareN s.c.tb : Nat) zs.length = 0) (hf : freeL s ≠ []) :
    allocE s d kd zs = 0 ∧ allocI s d kd zs = (spareN s.c.tb : Nat) ∧ Left s d (allocR s d kd zs).1 (allocR s d kd zs).2 (fun i => if i = (spareN s.c.tb : Nat) then some (kd, zs) else pgOf s.c.tb d.B i) := by
  obtain ⟨p1, p2, p3, p4, p5⟩ := h.place (id := spareN s.c.tb) (kd := kd) (zs := zs) (by unfold spareN; omega) he hf
  have hE : allocE s d kd zs = 0 := by
    unfold allocE
    rw [h.bad, if_neg (by simp), if_neg (by simpa using he1), if_neg (by simpa using he), p1]
  have hR : allocR s d kd zs = (placeR s d (spareN s.c.tb) (sealS kd (spareN s.c.tb : Nat) zs)).2 := by
    unfold allocR
    rw [if_neg (by rw [h.bad, he1, he]; simp)]
  refine ⟨hE, by unfold allocI; rw [if_pos hE], ?_⟩
  rw [hR]
  exact ⟨p2, p3, p4, p5⟩
theorem Cz.free {s : SS} {d : D.DS} (h : Cz s d) {id : Int} (hi : blkI s.c.tb id ≠ 0) (hst : id ≠ s.c.st) :
    (frR s d id).1 = 0 ∧ (frR s d id).2.2 = d ∧ Left s d (frR s d id).2.1 (frR s d id).2.2 (fun i => if i = id then none else pgOf s.c.tb d.B i) := by
  obtain ⟨hfe, hfn⟩ := h.find id
  rw [if_neg hi] at hfe
  have hkeep := free_keep h.inv d id
  obtain ⟨_, i1, i2⟩ := blk_mem hi
  have e : ((id.toNat : Nat) : Int) = id := Int.toNat_of_nonneg (by omega)
  unfold frR at hkeep ⊢
  rw [hfe, if_neg (by simp), if_neg hst] at hkeep ⊢
  simp only at hkeep ⊢
  have htb : ((s.give id.toNat 0).fresh (findN s id) false).c.tb = giveT s.c.tb id.toNat 0 := rfl
  refine ⟨trivial, trivial, ⟨⟨hkeep, h.bad, h.calm, h.room, ?_, h.lpg⟩, fun i => ?_, rfl, fun i => rfl⟩⟩
  · intro i hi'
    rw [htb, blk_give (by omega), e] at hi' ⊢
    by_cases ei : i = id
    · rw [if_pos ei] at hi'; exact absurd rfl hi'
    · rw [if_neg ei] at hi' ⊢; exact h.cpg i hi'
  · unfold pgOf
    rw [htb, blk_give (by omega), e]
    by_cases ei : i = id
    · rw [if_pos ei, if_pos ei, if_pos rfl]
    · rw [if_neg ei, if_neg ei]
theorem Cz.abort {s : SS} {d : D.DS} (h : Cz s d) : abR s d = (0, { s with c := s.l }, d) ∧ Left s d { s with c := s.l } d (fun i => pgOf s.l.tb d.B i) := by
  have hkeep := abort_keep h.inv d
  have e : abR s d = (0, { s with c := s.l }, d) := by unfold abR; rw [h.bad]; rfl
  rw [e] at hkeep
  exact ⟨e, ⟨⟨hkeep, h.bad, h.calm, h.room, h.lpg, h.lpg⟩, fun i => rfl, rfl, fun i => rfl⟩⟩
end Go.Proofs.YtbklnadlbcndlaaGreat
namespace Go.Proofs.YtbklnadlbcndlaaGreat
set_option maxRecDepth 20000
open Go.RowKit
set_option linter.unusedVariables false
set_option linter.unusedSimpArgs false
theorem write_B (d : D.DS) (n : Int) (zs : List Int) {m : Nat} (h : m ≠ n.toNat) : (D.writeS d n zs).B m = d.B m := by
  unfold D.writeS
  split
  · rfl
  · unfold D.stepS
    split
    · split
      · exact D.upd_other _ _ h
      · rfl
    · exact D.upd_other _ _ h
theorem sync_B (d : D.DS) : (D.syncS d).B = d.B := by
  unfold D.syncS
  split
  · rfl
  · unfold D.stepS
    split
    · split <;> rfl
    · rfl
theorem wp_B (kd : Int) {m : Nat} : ∀ (ps : List (List Int)) (i : Nat) (bs : List Int) (d : D.DS), (∀ b ∈ bs, m ≠ b.toNat) → (wpR kd i ps bs d).2.B m = d.B m
  | [], _, _, _, _ => rfl
  | _ :: _, _, [], _, _ => rfl
  | p :: ps, i, b :: bs, d, h => by
    unfold wpR
    split
    · exact write_B _ _ _ (h b (by simp))
    · rw [wp_B kd ps (i + 1) bs _ (fun q hq => h q (List.mem_cons_of_mem _ hq))]
      exact write_B _ _ _ (h b (by simp))
theorem tl_B {F : Nat → D.DS → Int × D.DS} {m : Nat} (hF : ∀ j d, (F j d).2.B m = d.B m) : ∀ (n j : Nat) (d : D.DS), (tlR F n j d).2.B m = d.B m
  | 0, _, _ => rfl
  | n + 1, j, d => by
    unfold tlR
    split
    · exact hF j d
    · rw [tl_B hF n (j + 1)]
      exact hF j d
theorem settle_B {s : SS} (d : D.DS) (ep : Int) (us2 : List Int) (he : 0 ≤ ep) {m : Nat} (h2 : 2 ≤ m) (hm : m ∉ freeL s) : (settleR s d ep us2).2.2.B m = d.B m := by
  have hT : ∀ b ∈ tabL s, m ≠ b.toNat := fun b hb e => by
    unfold tabL ints at hb
    obtain ⟨n, hn, rfl⟩ := List.mem_map.1 hb
    exact hm (by rw [e]; exact List.mem_of_mem_take hn)
  have hM : ∀ b ∈ mapL s, m ≠ b.toNat := fun b hb e => by
    unfold mapL ints at hb
    obtain ⟨n, hn, rfl⟩ := List.mem_map.1 hb
    exact hm (by rw [e]; exact List.mem_of_mem_take (List.mem_of_mem_drop hn))
  have ht : 0 ≤ Int.tmod ep 2 ∧ Int.tmod ep 2 < 2 := ⟨Int.tmod_nonneg 2 he, Int.tmod_lt_of_pos ep (by decide)⟩
  have hS : ∀ j d', (stepF s ep us2 j d').2.B m = d'.B m := fun j d' => by
    rcases j with _ | _ | _ | _ | j
    · exact wp_B 1 _ _ _ _ hT
    · exact wp_B 2 _ _ _ _ hM
    · show (D.syncS d').B m = _; rw [sync_B]
    · exact write_B _ _ _ (by omega)
    · show (D.syncS d').B m = _; rw [sync_B]
  unfold settleR
  split
  · rfl
  · split
    · rfl
    · split
      · exact tl_B hS 5 0 d
      · exact tl_B hS 5 0 d
theorem Cz.commit {s : SS} {d : D.DS} (h : Cz s d) (hbl : 2 ≤ s.bl) (hk : R.checkE (rootD s (s.ep + 1)) = 0) (hf : cntN s ≤ (freeL s).length) :
    (comR s d (us2S s)).1 = 0 ∧ Cz (comR s d (us2S s)).2.1 (comR s d (us2S s)).2.2 ∧ (∀ i, pgOf (comR s d (us2S s)).2.1.c.tb (comR s d (us2S s)).2.2.B i = pgOf s.c.tb d.B i) ∧ (∀ i, pgOf (comR s d (us2S s)).2.1.l.tb (comR s d (us2S s)).2.2.B i = pgOf s.c.tb d.B i) := by
  have hkeep := commit_keep h.inv d
  have he := h.inv.core.ok.e0
  cases hd : s.c.dt
  · have e : comR s d (us2S s) = (0, s, d) := by unfold comR; rw [h.bad, hd]; rfl
    rw [e]
    have hc := h.inv.cln hd
    exact ⟨rfl, h, fun i => rfl, fun i => by rw [← hc]⟩
  · obtain ⟨e1, e2, e3⟩ := h.calm.commit h.room hbl h.bad hd he (us2S s) hk
    rw [if_neg (by omega)] at e1 e2
    have hB : ∀ i, blkI s.c.tb i ≠ 0 → (comR s d (us2S s)).2.2.B (blkI s.c.tb i).toNat = d.B (blkI s.c.tb i).toNat := fun i hi => by
      have hr := blk_range h.inv.core.ok.c.tb hi
      have : comR s d (us2S s) = settleR s d (s.ep + 1) (us2S s) := by unfold comR; rw [h.bad, hd]; rfl
      rw [this]
      refine settle_B d (s.ep + 1) (us2S s) (by omega) (by omega) (fun hm => ?_)
      have hfr := free_mem.1 hm
      have := h.inv.core.own _ (blk_mem hi).1 hi
      rw [hfr.2.1, hfr.2.2] at this
      cases this
    have hroom : (comR s d (us2S s)).2.2.room = s.bl := (com_room s d (us2S s)).trans h.room
    have tc : (comR s d (us2S s)).2.1.c.tb = s.c.tb := by rw [e2]; rfl
    have tl : (comR s d (us2S s)).2.1.l.tb = s.c.tb := by rw [e2]; rfl
    refine ⟨e1, ⟨hkeep, by rw [e2]; exact h.bad, e3, by rw [hroom, e2]; rfl, by rw [tc]; exact pgs_congr h.cpg hB, by rw [tl]; exact pgs_congr h.cpg hB⟩, fun i => by rw [tc]; exact pg_congr hB i, fun i => by rw [tl]; exact pg_congr hB i⟩
end Go.Proofs.YtbklnadlbcndlaaGreat
namespace Go.Proofs.YtbklnadlbcndlaaGreat
set_option maxRecDepth 20000
open Go.RowKit
set_option linter.unusedVariables false
set_option linter.unusedSimpArgs false
theorem three_filters (p q r : Nat → Bool) : ∀ l : List Nat, (∀ n ∈ l, p n = true ∨ q n = true ∨ r n = true) → l.length ≤ (l.filter p).length + (l.filter q).length + (l.filter r).length
  | [], _ => by simp
  | n :: l, h => by
    have ih := three_filters p q r l (fun m hm => h m (List.mem_cons_of_mem _ hm))
    have hn := h n (by simp)
    simp only [List.filter_cons, List.length_cons]
    rcases hn with h1 | h1 | h1
    · rw [if_pos h1]
      split <;> split <;> simp only [List.length_cons] <;> omega
    · rw [if_pos h1]
      split <;> split <;> simp only [List.length_cons] <;> omega
    · rw [if_pos h1]
      split <;> split <;> simp only [List.length_cons] <;> omega
def usC (s : SS) : Nat := ((List.range s.bl).filter (fun n => B.hasB s.us n)).length
def FrIn (s : SS) : Prop := ∀ n, B.hasB s.c.fr n = true → ∃ id, blkI s.c.tb id = (n : Int)
theorem free_many {s : SS} (h : SCore s) (hin : FrIn s) : s.bl ≤ (freeL s).length + usC s + s.c.tb.length := by
  have h3 := three_filters (isFree s) (fun n => B.hasB s.us n) (fun n => B.hasB s.c.fr n) (List.range s.bl) (fun n _ => by
    unfold isFree
    cases B.hasB s.us n <;> cases B.hasB s.c.fr n <;> simp)
  rw [List.length_range] at h3
  have hfr : ((List.range s.bl).filter (fun n => B.hasB s.c.fr n)).length ≤ s.c.tb.length := by
    have := List.Nodup.length_le_of_subset (l₁ := (List.range s.bl).filter (fun n => B.hasB s.c.fr n)) (l₂ := s.c.tb.map Int.toNat) (List.nodup_range.sublist List.filter_sublist) (fun n hn => by
      obtain ⟨_, hn2⟩ := List.mem_filter.1 hn
      obtain ⟨id, hid⟩ := hin n hn2
      have hn0 : (n : Int) ≠ 0 := fun e => by
        have hz : n = 0 := by omega
        subst hz
        have := (h.frs 0 hn2).1
        rw [h.rts.1] at this
        cases this
      exact List.mem_map.2 ⟨blkI s.c.tb id, (blk_mem (by rw [hid]; exact hn0)).1, by rw [hid]; exact Int.toNat_natCast n⟩)
    rw [List.length_map] at this
    exact this
  have hf : (freeL s).length = ((List.range s.bl).filter (isFree s)).length := rfl
  unfold usC
  omega
def capN (T bl : Nat) : Nat := nPages (2 * T) + nPages (B.makeN bl)
structure Cw (T : Nat) (s : SS) (d : D.DS) : Prop where
  cz : Cz s d
  fin : FrIn s
  tb : s.c.tb.length ≤ T
  ltb : s.l.tb.length ≤ T
  us : usC s ≤ 2 + T + capN T s.bl
  big : 3 + 2 * T + 2 * capN T s.bl ≤ s.bl
theorem npages_mono {a b : Nat} (h : a ≤ b) : nPages a ≤ nPages b := by unfold nPages; omega
theorem Cw.cnt {T : Nat} {s : SS} {d : D.DS} (h : Cw T s d) : cntN s ≤ capN T s.bl := by
  unfold cntN tcN capN
  have := npages_mono (show 2 * s.c.tb.length ≤ 2 * T by have := h.tb; omega)
  rw [h.cz.inv.core.ok.usl]
  omega
theorem Cw.room {T : Nat} {s : SS} {d : D.DS} (h : Cw T s d) : cntN s ≤ (freeL s).length ∧ freeL s ≠ [] := by
  have h1 := free_many h.cz.inv.core h.fin
  have h2 := h.us
  have h3 := h.big
  have h4 := h.tb
  have h5 := h.cnt
  refine ⟨by omega, fun e => ?_⟩
  rw [e] at h1
  simp at h1
  omega
theorem Cw.reads {T : Nat} {s : SS} {d : D.DS} (h : Cw T s d) (n : Int) : Cw T s { d with reads := n } := ⟨h.cz.reads n, h.fin, h.tb, h.ltb, h.us, h.big⟩
theorem Cw.more {T T' : Nat} {s : SS} {d : D.DS} (h : Cw T s d) (ht : T ≤ T') (hb : 3 + 2 * T' + 2 * capN T' s.bl ≤ s.bl) : Cw T' s d := by
  refine ⟨h.cz, h.fin, Nat.le_trans h.tb ht, Nat.le_trans h.ltb ht, ?_, hb⟩
  have := h.us
  have := npages_mono (show 2 * T ≤ 2 * T' by omega)
  unfold capN at *
  omega
theorem with_has {m : List Int} {n : Nat} (on : Bool) (h : n < 8 * m.length) (k : Nat) : B.hasB (B.withI m (n : Int) on) k = if k = n then on else B.hasB m k := by
  rw [withI_nat on (by omega) (by rw [Int.toNat_natCast]; exact h), Int.toNat_natCast]
  exact B.hasB_setB n k on (by omega)
theorem fr_len {s : SS} (h : SCore s) {n : Nat} (hn : n < s.bl) : n < 8 * s.c.fr.length := by
  rw [h.ok.c.frl]
  have := h.ok.bl
  unfold B.makeN
  omega
theorem place_fin {s : SS} {d : D.DS} (h : Cz s d) (hin : FrIn s) {id : Nat} {zs : List Int} (h1 : 1 ≤ id) (hz : zs.length = 256) (hf : freeL s ≠ []) (hnf : B.hasB s.c.fr (blkI s.c.tb id).toNat = false ∨ blkI s.c.tb id = 0) : FrIn (placeR s d id zs).2.1 ∧ (placeR s d id zs).2.1.us = s.us ∧ (placeR s d id zs).2.1.bl = s.bl ∧ (placeR s d id zs).2.1.c.tb.length ≤ max s.c.tb.length id ∧ (placeR s d id zs).2.1.l = s.l ∧ (placeR s d id zs).2.1.ep = s.ep ∧ (placeR s d id zs).2.1.c.st = s.c.st := by
  unfold placeR
  cases hfl : freeL s with
  | nil => exact absurd hfl hf
  | cons n rest =>
    have hm : n ∈ freeL s := by rw [hfl]; simp
    have hfr := free_mem.1 hm
    obtain ⟨e0, _⟩ := h.calm.writes (n := (n : Int)) (by omega) (by rw [h.room]; omega) hz
    simp only
    rw [if_neg (by rw [e0]; decide)]
    refine ⟨?_, rfl, rfl, give_len _ _ _, rfl, rfl, rfl⟩
    intro k hk
    have hk' : B.hasB (B.withI s.c.fr (n : Int) true) k = true := hk
    rw [with_has true (fr_len h.inv.core hfr.1)] at hk'
    show ∃ i, blkI (giveT s.c.tb id n) i = (k : Int)
    by_cases e : k = n
    · exact ⟨id, by rw [blk_give h1, if_pos rfl, e]⟩
    · rw [if_neg e] at hk'
      obtain ⟨i, hi⟩ := hin k hk'
      refine ⟨i, ?_⟩
      rw [blk_give h1]
      by_cases ei : i = id
      · exfalso
        rw [ei] at hi
        rcases hnf with hnf | hnf
        · rw [hi, Int.toNat_natCast, hk'] at hnf; cases hnf
        · have hz : k = 0 := by omega
          rw [hz] at hk'
          have := (h.inv.core.frs 0 hk').1
          rw [h.inv.core.rts.1] at this
          cases this
      · rw [if_neg ei]; exact hi
theorem usC_congr {s s' : SS} (h1 : s'.us = s.us) (h2 : s'.bl = s.bl) : usC s' = usC s := by unfold usC; rw [h1, h2]
theorem Cw.write {T : Nat} {s : SS} {d : D.DS} (h : Cw T s d) {id kd : Int} {zs : List Int} (hi : blkI s.c.tb id ≠ 0) (he : sealE kd id zs.length = 0) :
    (wrR s d id kd zs).1 = 0 ∧ Left s d (wrR s d id kd zs).2.1 (wrR s d id kd zs).2.2 (fun i => if i = id then some (kd, zs) else pgOf s.c.tb d.B i) ∧ Cw T (wrR s d id kd zs).2.1 (wrR s d id kd zs).2.2 ∧ (wrR s d id kd zs).2.1.ep = s.ep ∧ (wrR s d id kd zs).2.1.bl = s.bl ∧ (wrR s d id kd zs).2.1.c.st = s.c.st := by
  obtain ⟨h1, h2⟩ := h.cz.write hi he h.room.2
  refine ⟨h1, h2, ?_⟩
  obtain ⟨hfe, hfn⟩ := h.cz.find id
  rw [if_neg hi] at hfe
  have hlen := (sealE_zero he).2.2.2.2
  have hl : (sealS kd id zs).length = 256 := seal_len hlen
  obtain ⟨_, i1, i2⟩ := blk_mem hi
  have hr := blk_range h.cz.inv.core.ok.c.tb hi
  have hcz := h2.cz
  unfold wrR at hcz ⊢
  rw [hfe, if_neg (by simp), if_neg (by simpa using he), hfn] at hcz ⊢
  by_cases hfr : B.hasI s.c.fr (blkI s.c.tb id) = true
  · rw [if_pos hfr] at hcz ⊢
    obtain ⟨e0, _⟩ := h.cz.calm.writes (n := blkI s.c.tb id) (by omega) (by rw [h.cz.room]; omega) hl
    simp only [e0] at hcz ⊢
    rw [note_zero] at hcz ⊢
    exact ⟨⟨hcz, h.fin, h.tb, h.ltb, h.us, h.big⟩, rfl, rfl, rfl⟩
  · rw [if_neg hfr] at hcz ⊢
    have e : ((id.toNat : Nat) : Int) = id := Int.toNat_of_nonneg (by omega)
    rw [hasI_nat' _ _ (by omega)] at hfr
    obtain ⟨q1, q2, q3, q4, q5, q6, q7⟩ := place_fin h.cz h.fin (id := id.toNat) (by omega) hl h.room.2 (.inl (by rw [e]; simpa using hfr))
    refine ⟨⟨hcz, q1, ?_, by rw [q5]; exact h.ltb, by rw [usC_congr q2 q3, q3]; exact h.us, by rw [q3]; exact h.big⟩, q6, q3, q7⟩
    have := h.tb
    omega
theorem zero_blk {tb : List Int} : blkI tb (spareN tb : Nat) = 0 := by
  unfold spareN
  rw [show ((zeroAt tb + 1 : Nat) : Int) = ((zeroAt tb : Nat) : Int) + 1 by omega, blk_get]
  unfold zeroAt
  rw [List.getD_eq_getElem?_getD]
  by_cases h : tb.findIdx (fun z => decide (z = 0)) < tb.length
  · rw [List.getElem?_eq_getElem h]
    have := List.findIdx_getElem (xs := tb) (p := fun z => decide (z = 0)) (w := h)
    simpa using this
  · rw [List.getElem?_eq_none (by omega)]; rfl
theorem Cw.alloc {T : Nat} {s : SS} {d : D.DS} (h : Cw T s d) {kd : Int} {zs : List Int} (he1 : sealE kd 1 zs.length = 0) (hT : T < 3000) (hb : 3 + 2 * (T + 1) + 2 * capN (T + 1) s.bl ≤ s.bl) :
    allocE s d kd zs = 0 ∧ allocI s d kd zs = (spareN s.c.tb : Nat) ∧ Left s d (allocR s d kd zs).1 (allocR s d kd zs).2 (fun i => if i = (spareN s.c.tb : Nat) then some (kd, zs) else pgOf s.c.tb d.B i) ∧ Cw (T + 1) (allocR s d kd zs).1 (allocR s d kd zs).2 ∧ (allocR s d kd zs).1.ep = s.ep ∧ (allocR s d kd zs).1.bl = s.bl ∧ (allocR s d kd zs).1.c.st = s.c.st := by
  have hsp : spareN s.c.tb ≤ T + 1 := by
    have := zeroAt_le s.c.tb
    have := h.tb
    unfold spareN
    omega
  obtain ⟨k1, k2, k3, k4, k5⟩ := sealE_zero he1
  have he : sealE kd (spareN s.c.tb : Nat) zs.length = 0 := by
    unfold sealE kindB idB at he1 ⊢
    simp only [k1, k2, k5, Bool.and_true, decide_true, if_true, Bool.true_and] at he1 ⊢
    rw [if_pos (by simp; omega)]
  obtain ⟨h1, h2, h3⟩ := h.cz.alloc he1 he h.room.2
  have hR : allocR s d kd zs = (placeR s d (spareN s.c.tb) (sealS kd (spareN s.c.tb : Nat) zs)).2 := by
    unfold allocR
    rw [if_neg (by rw [h.cz.bad, he1, he]; simp)]
  have hcz := h3.cz
  refine ⟨h1, h2, h3, ?_⟩
  rw [hR] at hcz ⊢
  obtain ⟨q1, q2, q3, q4, q5, q6, q7⟩ := place_fin h.cz h.fin (id := spareN s.c.tb) (zs := sealS kd (spareN s.c.tb : Nat) zs) (by unfold spareN; omega) (seal_len k5) h.room.2 (.inr zero_blk)
  have hm := h.more (T' := T + 1) (by omega) hb
  refine ⟨⟨hcz, q1, ?_, by rw [q5]; exact hm.ltb, by rw [usC_congr q2 q3, q3]; exact hm.us, by rw [q3]; exact hm.big⟩, q6, q3, q7⟩
  have := h.tb
  omega
theorem Cw.free {T : Nat} {s : SS} {d : D.DS} (h : Cw T s d) {id : Int} (hi : blkI s.c.tb id ≠ 0) (hst : id ≠ s.c.st) :
    (frR s d id).1 = 0 ∧ (frR s d id).2.2 = d ∧ Left s d (frR s d id).2.1 (frR s d id).2.2 (fun i => if i = id then none else pgOf s.c.tb d.B i) ∧ Cw T (frR s d id).2.1 (frR s d id).2.2 ∧ (frR s d id).2.1.ep = s.ep ∧ (frR s d id).2.1.bl = s.bl ∧ (frR s d id).2.1.c.st = s.c.st := by
  obtain ⟨h1, h2, h3⟩ := h.cz.free hi hst
  refine ⟨h1, h2, h3, ?_⟩
  obtain ⟨hfe, hfn⟩ := h.cz.find id
  rw [if_neg hi] at hfe
  obtain ⟨_, i1, i2⟩ := blk_mem hi
  have hr := blk_range h.cz.inv.core.ok.c.tb hi
  have e : ((id.toNat : Nat) : Int) = id := Int.toNat_of_nonneg (by omega)
  have hcz := h3.cz
  unfold frR at hcz ⊢
  rw [hfe, if_neg (by simp), if_neg hst] at hcz ⊢
  refine ⟨⟨hcz, ?_, ?_, h.ltb, h.us, h.big⟩, rfl, rfl, rfl⟩
  · intro k hk
    have hk' : B.hasB (B.withI s.c.fr (findN s id) false) k = true := hk
    rw [hfn, show blkI s.c.tb id = (((blkI s.c.tb id).toNat : Nat) : Int) by omega, with_has false (fr_len h.cz.inv.core (by omega))] at hk'
    by_cases ek : k = (blkI s.c.tb id).toNat
    · rw [if_pos ek] at hk'; cases hk'
    · rw [if_neg ek] at hk'
      obtain ⟨i, hi'⟩ := h.fin k hk'
      refine ⟨i, ?_⟩
      show blkI (giveT s.c.tb id.toNat 0) i = (k : Int)
      rw [blk_give (by omega), e]
      by_cases ei : i = id
      · exfalso; rw [ei] at hi'; omega
      · rw [if_neg ei]; exact hi'
  · have := give_len s.c.tb id.toNat 0
    have := h.tb
    show (giveT s.c.tb id.toNat 0).length ≤ T
    omega
theorem Cw.abort {T : Nat} {s : SS} {d : D.DS} (h : Cw T s d) : abR s d = (0, { s with c := s.l }, d) ∧ Left s d { s with c := s.l } d (fun i => pgOf s.l.tb d.B i) ∧ Cw T { s with c := s.l } d := by
  obtain ⟨h1, h2⟩ := h.cz.abort
  refine ⟨h1, h2, ⟨h2.cz, fun n hn => ?_, h.ltb, h.ltb, h.us, h.big⟩⟩
  have : B.hasB s.l.fr n = true := hn
  rw [h.cz.inv.lfr n] at this
  cases this
theorem Cw.check {T : Nat} {s : SS} {d : D.DS} (h : Cw T s d) (hb : 2 ≤ s.bl) (he : s.ep < 1099511627776) : R.checkE (rootD s (s.ep + 1)) = 0 := by
  have k := h.cz.inv.core
  have hst : 0 ≤ s.c.st ∧ s.c.st ≤ s.c.tb.length := by
    rcases k.ok.c.st with h0 | h0
    · rw [h0]; omega
    · have := (blk_mem h0).2; omega
  have hle := k.ok.c.tb.len
  have hf := h.room.1
  have hul := k.ok.usl
  have hbl := k.ok.bl
  refine R.checkE_ok ⟨by show 0 ≤ s.ep + 1; have := k.ok.e0; omega, by show s.ep + 1 ≤ _; omega, by show (2 : Int) ≤ s.bl; omega, by show (s.bl : Int) ≤ 4096; omega, by show (0 : Int) ≤ s.c.tb.length; omega, by show (s.c.tb.length : Int) ≤ 3000; omega, hst.1, hst.2, ?_, ?_, ?_, ?_⟩
  · show (tabL s).length ≤ 26
    unfold tabL ints tcN nPages
    rw [List.length_map, List.length_take]
    omega
  · show (mapL s).length ≤ 3
    unfold mapL ints cntN
    rw [List.length_map, List.length_drop, List.length_take]
    have : nPages s.us.length ≤ 3 := by rw [hul]; unfold nPages B.makeN; omega
    omega
  · intro z hz
    obtain ⟨h0, h1⟩ := tab_mem hz
    have := free_ge k h1
    have := (free_mem.1 h1).1
    show 2 ≤ z ∧ z < (s.bl : Int)
    omega
  · intro z hz
    obtain ⟨h0, h1⟩ := map_mem hz
    have := free_ge k h1
    have := (free_mem.1 h1).1
    show 2 ≤ z ∧ z < (s.bl : Int)
    omega
theorem Cw.commit {T : Nat} {s : SS} {d : D.DS} (h : Cw T s d) (hb : 2 ≤ s.bl) (he : s.ep < 1099511627776) :
    (comR s d (us2S s)).1 = 0 ∧ (∀ i, pgOf (comR s d (us2S s)).2.1.c.tb (comR s d (us2S s)).2.2.B i = pgOf s.c.tb d.B i) ∧ (∀ i, pgOf (comR s d (us2S s)).2.1.l.tb (comR s d (us2S s)).2.2.B i = pgOf s.c.tb d.B i) ∧ Cw T (comR s d (us2S s)).2.1 (comR s d (us2S s)).2.2 ∧ (comR s d (us2S s)).2.1.ep ≤ s.ep + 1 ∧ (comR s d (us2S s)).2.1.bl = s.bl ∧ (comR s d (us2S s)).2.1.c.st = s.c.st := by
  have hk := h.check hb he
  have hf := h.room.1
  obtain ⟨h1, h2, h3, h4⟩ := h.cz.commit hb hk hf
  refine ⟨h1, h3, h4, ?_⟩
  cases hd : s.c.dt
  · have e : comR s d (us2S s) = (0, s, d) := by unfold comR; rw [h.cz.bad, hd]; rfl
    rw [e]
    exact ⟨h, by show s.ep ≤ s.ep + 1; omega, rfl, rfl⟩
  · obtain ⟨e1, e2, e3⟩ := h.cz.calm.commit h.cz.room hb h.cz.bad hd h.cz.inv.core.ok.e0 (us2S s) hk
    rw [if_neg (by omega)] at e2
    rw [e2] at h2 ⊢
    refine ⟨⟨h2, fun n hn => ?_, h.tb, h.tb, ?_, h.big⟩, Int.le_refl _, rfl, rfl⟩
    · have hz : B.hasB (List.replicate (B.makeN s.bl) 0) n = true := hn
      have := h2.inv.lfr n
      have e : (s.hold (s.ep + 1) s.c.st s.c.tb (us2S s)).l.fr = List.replicate (B.makeN s.bl) 0 := rfl
      rw [e, hz] at this
      cases this
    · show usC (s.hold (s.ep + 1) s.c.st s.c.tb (us2S s)) ≤ 2 + T + capN T s.bl
      have hu := (us2_once h.cz.inv.core).2
      have hsub := List.Nodup.length_le_of_subset (l₁ := (List.range s.bl).filter (fun n => B.hasB (us2S s) n)) (l₂ := [0, 1] ++ (s.c.tb ++ tabL s ++ mapL s).map Int.toNat) (List.nodup_range.sublist List.filter_sublist) (fun n hn => by
        obtain ⟨_, hn2⟩ := List.mem_filter.1 hn
        rw [hu n] at hn2
        rcases Bool.or_eq_true _ _ ▸ hn2 with h0 | h0
        · have : n < 2 := by simpa using h0
          have : n = 0 ∨ n = 1 := by omega
          rcases this with rfl | rfl <;> simp
        · have h0' : n ≠ 0 ∧ (n : Int) ∈ s.c.tb ++ tabL s ++ mapL s := by simpa using h0
          exact List.mem_append.2 (.inr (List.mem_map.2 ⟨(n : Int), h0'.2, Int.toNat_natCast n⟩)))
      have hc := h.cnt
      have htm : (tabL s ++ mapL s).length ≤ cntN s := by
        rw [tabmap]; unfold ints; rw [List.length_map, List.length_take]; omega
      have ht := h.tb
      rw [List.length_append, List.length_map, List.append_assoc, List.length_append] at hsub
      have h2l : ([0, 1] : List Nat).length = 2 := rfl
      rw [h2l] at hsub
      show ((List.range s.bl).filter (fun n => B.hasB (us2S s) n)).length ≤ _
      omega
end Go.Proofs.YtbklnadlbcndlaaGreat
namespace Go.Proofs.YtbklnadlbcndlaaGreat
set_option maxRecDepth 20000
open Go.RowKit
set_option linter.unusedVariables false
set_option linter.unusedSimpArgs false
abbrev Cont := Int → Option (Int × List Int)
def Cont.put (C : Cont) (id : Int) (x : Option (Int × List Int)) : Cont := fun i => if i = id then x else C i
structure Lst (s : SS) (d : D.DS) (s' : SS) (d' : D.DS) : Prop where
  l : s'.l = s.l
  lp : ∀ i, pgOf s.l.tb d'.B i = pgOf s.l.tb d.B i
  ep : s'.ep = s.ep
  bl : s'.bl = s.bl
theorem Lst.refl (s : SS) (d : D.DS) : Lst s d s d := ⟨rfl, fun _ => rfl, rfl, rfl⟩
theorem Lst.trans {s s' s'' : SS} {d d' d'' : D.DS} (h : Lst s d s' d') (k : Lst s' d' s'' d'') : Lst s d s'' d'' :=
  ⟨k.l.trans h.l, fun i => by have := k.lp i; rw [h.l] at this; exact this.trans (h.lp i), k.ep.trans h.ep, k.bl.trans h.bl⟩
structure Se (T : Nat) (P : PS) (s : SS) (d : D.DS) (C : Cont) : Prop where
  cw : Cw T s d
  nd : (P.fs.map (fun f => f.id)).Nodup
  fr : ∀ f ∈ P.fs, blkI s.c.tb f.id ≠ 0 ∧ sealE f.kd f.id f.zs.length = 0 ∧ C f.id = some (f.kd, f.zs) ∧ (f.dt = false → pgOf s.c.tb d.B f.id = some (f.kd, f.zs))
  no : ∀ id, (∀ f ∈ P.fs, f.id ≠ id) → C id = pgOf s.c.tb d.B id
  pn : ∀ f ∈ P.fs, f.pn = 0
  ll : (P.fs.length : Int) ≤ P.lim
  l0 : 1 ≤ P.lim
  st : s.c.st = 0
  ls : s.l.st = 0
theorem nd_get {fs : List Fr} (h : (fs.map (fun f => f.id)).Nodup) {i j : Nat} {f g : Fr} (hi : fs[i]? = some f) (hj : fs[j]? = some g) (e : f.id = g.id) : i = j := by
  obtain ⟨hi1, hi2⟩ := List.getElem?_eq_some_iff.1 hi
  obtain ⟨hj1, hj2⟩ := List.getElem?_eq_some_iff.1 hj
  have hpw := List.pairwise_iff_getElem.1 h
  rcases Nat.lt_trichotomy i j with hlt | hlt | hlt
  · exact (hpw i j (by simpa using hi1) (by simpa using hj1) hlt (by simp [hi2, hj2, e])).elim
  · exact hlt
  · exact (hpw j i (by simpa using hj1) (by simpa using hi1) hlt (by simp [hi2, hj2, e])).elim
theorem Se.clean {T : Nat} {P : PS} {s : SS} {d : D.DS} {C : Cont} (h : Se T P s d C) (i : Nat) :
    (clR P.fs s d i).1 = 0 ∧ Se T { P with fs := (clR P.fs s d i).2.1 } (clR P.fs s d i).2.2.1 (clR P.fs s d i).2.2.2 C ∧ Lst s d (clR P.fs s d i).2.2.1 (clR P.fs s d i).2.2.2 ∧ (∀ f, (clR P.fs s d i).2.1[i]? = some f → f.dt = false) ∧ (∀ j, j ≠ i → (clR P.fs s d i).2.1[j]? = P.fs[j]?) := by
  unfold clR
  cases hf : P.fs[i]? with
  | none =>
    refine ⟨rfl, h, Lst.refl _ _, fun f hf' => ?_, fun _ _ => rfl⟩
    have h2 : P.fs[i]? = some f := hf'
    rw [hf] at h2
    cases h2
  | some f =>
    simp only
    cases hd : f.dt
    · rw [if_neg (by simp)]
      exact ⟨rfl, h, Lst.refl _ _, fun g hg => by rw [hf] at hg; cases hg; exact hd, fun _ _ => rfl⟩
    · rw [if_pos rfl]
      have hm := List.mem_of_getElem? hf
      obtain ⟨f1, f2, f3, f4⟩ := h.fr f hm
      obtain ⟨w1, w2, w3, w4, w5, w6⟩ := h.cw.write f1 f2
      have hil := (List.getElem?_eq_some_iff.1 hf).1
      simp only [w1, if_true]
      have hset : (P.fs.set i { f with dt := false }).map (fun f => f.id) = P.fs.map (fun f => f.id) := by
        have := clR_ids P.fs s d i
        unfold clR at this
        rw [hf] at this
        simp only at this
        rw [if_pos hd, if_pos w1] at this
        exact this
      have hbk : ∀ id, blkI s.c.tb id ≠ 0 → blkI (wrR s d f.id f.kd f.zs).2.1.c.tb id ≠ 0 := fun id hid e => by
        have hp := w2.pg id
        have hc : pgOf s.c.tb d.B id ≠ none := by unfold pgOf; rw [if_neg hid]; simp
        have hz : pgOf (wrR s d f.id f.kd f.zs).2.1.c.tb (wrR s d f.id f.kd f.zs).2.2.B id = none := by unfold pgOf; rw [if_pos e]
        rw [hz] at hp
        by_cases ei : id = f.id
        · rw [if_pos ei] at hp; cases hp
        · rw [if_neg ei] at hp; exact hc hp.symm
      refine ⟨trivial, ⟨w3, by rw [hset]; exact h.nd, fun g hg => ?_, fun id hid => ?_, fun g hg => ?_, by simp; exact h.ll, h.l0, w6.trans h.st, by rw [w2.l]; exact h.ls⟩, ⟨w2.l, w2.lp, w4, w5⟩, fun g hg => ?_, fun j hj => ?_⟩
      · rw [List.mem_iff_getElem?] at hg
        obtain ⟨j, hj⟩ := hg
        rw [List.getElem?_set] at hj
        by_cases hij : i = j
        · subst hij
          rw [if_pos rfl, if_pos hil] at hj
          cases hj
          exact ⟨hbk _ f1, f2, f3, fun _ => by rw [w2.pg]; simp⟩
        · rw [if_neg hij] at hj
          obtain ⟨g1, g2, g3, g4⟩ := h.fr g (List.mem_of_getElem? hj)
          refine ⟨hbk _ g1, g2, g3, fun hgd => ?_⟩
          rw [w2.pg, if_neg (fun e => hij (nd_get h.nd hf hj e.symm))]
          exact g4 hgd
      · have hne : ∀ g ∈ P.fs, g.id ≠ id := fun g hg e => by
          have : g.id ∈ (P.fs.set i { f with dt := false }).map (fun f => f.id) := by rw [hset]; exact List.mem_map.2 ⟨g, hg, rfl⟩
          obtain ⟨g', hg', e'⟩ := List.mem_map.1 this
          exact hid g' hg' (e'.trans e)
        rw [h.no id hne, w2.pg, if_neg (fun e => hne f hm e.symm)]
      · rw [List.mem_iff_getElem?] at hg
        obtain ⟨j, hj⟩ := hg
        rw [List.getElem?_set] at hj
        by_cases hij : i = j
        · subst hij
          rw [if_pos rfl, if_pos hil] at hj
          cases hj
          exact h.pn f hm
        · rw [if_neg hij] at hj
          exact h.pn g (List.mem_of_getElem? hj)
      · rw [List.getElem?_set, if_pos rfl, if_pos hil] at hg
        cases hg
        rfl
      · rw [List.getElem?_set, if_neg (fun e => hj e.symm)]
theorem Se.drop {T : Nat} {P : PS} {s : SS} {d : D.DS} {C : Cont} (h : Se T P s d C) (i : Nat) (hc : ∀ f, P.fs[i]? = some f → f.dt = false) : Se T { P with fs := P.fs.eraseIdx i } s d C := by
  have hsub : ∀ f ∈ P.fs.eraseIdx i, f ∈ P.fs := fun f hf => List.mem_of_mem_eraseIdx hf
  refine ⟨h.cw, ?_, fun f hf => h.fr f (hsub f hf), fun id hid => ?_, fun f hf => h.pn f (hsub f hf), ?_, h.l0, h.st, h.ls⟩
  · have : (P.fs.eraseIdx i).map (fun f => f.id) = (P.fs.map (fun f => f.id)).eraseIdx i := by
      simp only [List.eraseIdx_eq_take_drop_succ, List.map_append, List.map_take, List.map_drop]
    show ((P.fs.eraseIdx i).map (fun f => f.id)).Nodup
    rw [this]
    exact h.nd.sublist (List.eraseIdx_sublist _ _)
  · by_cases hx : ∃ f ∈ P.fs, f.id = id
    · obtain ⟨f, hf, hfi⟩ := hx
      rw [List.mem_iff_getElem?] at hf
      obtain ⟨j, hj⟩ := hf
      by_cases hij : j = i
      · subst hij
        obtain ⟨f1, f2, f3, f4⟩ := h.fr f (List.mem_of_getElem? hj)
        rw [← hfi, f3, f4 (hc f hj)]
      · exfalso
        refine hid f ?_ hfi
        rw [List.mem_iff_getElem?]
        rcases Nat.lt_or_gt_of_ne hij with hlt | hlt
        · exact ⟨j, by rw [List.getElem?_eraseIdx, if_pos hlt]; exact hj⟩
        · exact ⟨j - 1, by rw [List.getElem?_eraseIdx, if_neg (by omega), show j - 1 + 1 = j by omega]; exact hj⟩
    · exact h.no id (fun f hf e => hx ⟨f, hf, e⟩)
  · have := h.ll
    have : (P.fs.eraseIdx i).length ≤ P.fs.length := List.length_eraseIdx_le _ _
    show ((P.fs.eraseIdx i).length : Int) ≤ P.lim
    omega
theorem Se.room {T : Nat} {P : PS} {s : SS} {d : D.DS} {C : Cont} (h : Se T P s d C) :
    (mrR P.lim P.fs s d).1 = 0 ∧ Se T { P with fs := (mrR P.lim P.fs s d).2.1 } (mrR P.lim P.fs s d).2.2.1 (mrR P.lim P.fs s d).2.2.2 C ∧ Lst s d (mrR P.lim P.fs s d).2.2.1 (mrR P.lim P.fs s d).2.2.2 ∧ ((mrR P.lim P.fs s d).2.1.length : Int) < P.lim ∧ (∀ id, (∀ f ∈ P.fs, f.id ≠ id) → ∀ f ∈ (mrR P.lim P.fs s d).2.1, f.id ≠ id) := by
  have key : (mrR P.lim P.fs s d).1 = 0 ∧ Se T { P with fs := (mrR P.lim P.fs s d).2.1 } (mrR P.lim P.fs s d).2.2.1 (mrR P.lim P.fs s d).2.2.2 C ∧ Lst s d (mrR P.lim P.fs s d).2.2.1 (mrR P.lim P.fs s d).2.2.2 ∧ (∀ id, (∀ f ∈ P.fs, f.id ≠ id) → ∀ f ∈ (mrR P.lim P.fs s d).2.1, f.id ≠ id) := by
    unfold mrR
    split
    · exact ⟨rfl, h, Lst.refl _ _, fun id hid => hid⟩
    · rename_i h1
      have hidx : idxF P.fs loose = 0 := by
        unfold idxF
        have hpos : 0 < P.fs.length := by have := h.l0; omega
        have : P.fs.findIdx loose = 0 := by
          cases hfs : P.fs with
          | nil => rw [hfs] at hpos; simp at hpos
          | cons f rest => rw [List.findIdx_cons]; simp [loose, h.pn f (by rw [hfs]; simp)]
        rw [this, if_pos hpos]; rfl
      rw [hidx, if_neg (by omega)]
      obtain ⟨c1, c2, c3, c4, c5⟩ := h.clean 0
      simp only [Int.toNat_zero]
      rw [if_neg (by rw [c1]; simp)]
      refine ⟨rfl, c2.drop 0 c4, c3, fun id hid f hf e => ?_⟩
      have hf' := List.mem_of_mem_eraseIdx hf
      have : f.id ∈ P.fs.map (fun f => f.id) := by rw [← clR_ids P.fs s d 0]; exact List.mem_map.2 ⟨f, hf', rfl⟩
      obtain ⟨g, hg, e'⟩ := List.mem_map.1 this
      exact hid g hg (e'.trans e)
  exact ⟨key.1, key.2.1, key.2.2.1, mrR_len h.l0 h.ll key.1, key.2.2.2⟩
end Go.Proofs.YtbklnadlbcndlaaGreat
namespace Go.Proofs.YtbklnadlbcndlaaGreat
set_option maxRecDepth 100000
open Go.RowKit
set_option linter.unusedVariables false
set_option linter.unusedSimpArgs false
theorem rdp_seal {s : SS} {d : D.DS} {id kd : Int} {zs : List Int} (hf : findE s id = 0) (hr : D.reachE d (findN s id) = 0) (hb : D.readB d (findN s id) = sealS kd id zs) (hs : sealE kd id zs.length = 0) : rdE s d id = 0 ∧ rdKd s d id = kd ∧ rdBy s d id = zs := by
  obtain ⟨h1, h2, h3, h4⟩ := op_seal hs
  have hre : rbE (sealS kd id zs) id = 0 := by unfold rbE; rw [h1, h3]; simp
  have he : rdE s d id = 0 := by unfold rdE; rw [if_neg (by simpa using hf), if_neg (by simpa using hr), hb, hre]
  refine ⟨he, ?_, ?_⟩
  · unfold rdKd rbK; rw [if_pos he, hb, if_pos hre, h2]
  · unfold rdBy rbB; rw [if_pos he, hb, if_pos hre, h4]
noncomputable def wF : Int × SS × D.DS := fmtS (D.newS 20)
theorem pw_t1 : wF.1 = 0 := by decide +kernel
noncomputable def w1A : SS × D.DS := allocR wF.2.1 wF.2.2 5 [97]
theorem pw_t2 : allocE wF.2.1 wF.2.2 5 [97] = 0 := by decide +kernel
theorem pw_t3 : allocI wF.2.1 wF.2.2 5 [97] = 1 := by decide +kernel
noncomputable def w2A : SS × D.DS := allocR w1A.1 w1A.2 5 [98]
theorem pw_t4 : allocE w1A.1 w1A.2 5 [98] = 0 := by decide +kernel
theorem pw_t5 : allocI w1A.1 w1A.2 5 [98] = 2 := by decide +kernel
noncomputable def w3W : Int × SS × D.DS := wrR w2A.1 w2A.2 2 5 [99]
theorem pw_t6 : w3W.1 = 0 := by decide +kernel
theorem pw_t7 : findE w3W.2.1 1 = 0 := by decide +kernel
theorem pw_t8 : D.reachE w3W.2.2 (findN w3W.2.1 1) = 0 := by decide +kernel
theorem pw_t9 : D.readB w3W.2.2 (findN w3W.2.1 1) = sealS 5 1 [97] := by decide +kernel
noncomputable def w4R : SS × D.DS := rdR w3W.2.1 w3W.2.2 1
theorem pw_t10 : findE w4R.1 2 = 0 := by decide +kernel
theorem pw_t11 : D.reachE w4R.2 (findN w4R.1 2) = 0 := by decide +kernel
theorem pw_t12 : D.readB w4R.2 (findN w4R.1 2) = sealS 5 2 [99] := by decide +kernel
noncomputable def w5R : SS × D.DS := rdR w4R.1 w4R.2 2
def fA : Fr := ⟨1, 5, [97], 0, false⟩
def fB : Fr := ⟨2, 5, [98], 0, false⟩
def fC : Fr := ⟨2, 5, [99], 0, true⟩
def fD : Fr := ⟨2, 5, [99], 0, false⟩
def fE : Fr := ⟨2, 5, [99], 1, false⟩
def p0 : PS := ⟨1, [], 0, 0⟩
def p1 : PS := ⟨1, [fA], 0, 0⟩
def p2 : PS := ⟨1, [fB], 0, 0⟩
def p3 : PS := ⟨1, [fC], 1, 0⟩
def p4 : PS := ⟨1, [fA], 1, 1⟩
def p5 : PS := ⟨1, [fD], 1, 2⟩
def p6 : PS := ⟨1, [fE], 2, 2⟩
theorem mr_empty (s : SS) (d : D.DS) : mrR 1 [] s d = (0, [], s, d) := rfl
theorem mr_clean (s : SS) (d : D.DS) (f : Fr) (h : f.dt = false) (hp : f.pn = 0) : mrR 1 [f] s d = (0, [], s, d) := by
  have hl : loose f = true := by unfold loose; rw [hp]; rfl
  have hi : idxF [f] loose = 0 := by unfold idxF; rw [List.findIdx_cons, hl]; rfl
  have hc : clR [f] s d 0 = (0, [f], s, d) := by unfold clR; simp [h]
  unfold mrR
  rw [if_neg (by simp), hi, if_neg (by decide)]
  simp only [Int.toNat_zero]
  rw [hc]
  rfl
theorem mr_dirty (s : SS) (d : D.DS) (f : Fr) (h : f.dt = true) (hp : f.pn = 0) (h0 : (wrR s d f.id f.kd f.zs).1 = 0) : mrR 1 [f] s d = (0, [], (wrR s d f.id f.kd f.zs).2) := by
  have hl : loose f = true := by unfold loose; rw [hp]; rfl
  have hi : idxF [f] loose = 0 := by unfold idxF; rw [List.findIdx_cons, hl]; rfl
  have hc : clR [f] s d 0 = (0, [{ f with dt := false }], (wrR s d f.id f.kd f.zs).2) := by unfold clR; simp [h, h0]
  unfold mrR
  rw [if_neg (by simp), hi, if_neg (by decide)]
  simp only [Int.toNat_zero]
  rw [hc]
  rfl
theorem mr_pinned (s : SS) (d : D.DS) (f : Fr) (hp : f.pn ≠ 0) : mrR 1 [f] s d = (14, [f], s, d) := by
  have hl : loose f = false := by unfold loose; simpa using hp
  have hi : idxF [f] loose = -1 := by unfold idxF; rw [List.findIdx_cons, hl]; rfl
  unfold mrR
  rw [if_neg (by simp), hi, if_pos (by decide)]
theorem inc0 : incI 0 = 1 := by decide +kernel
theorem inc1 : incI 1 = 2 := by decide +kernel
theorem ft_hit1 (f : Fr) (id h m : Int) (s : SS) (d : D.DS) (hid : f.id = id) : ftR ⟨1, [f], h, m⟩ s d id = (0, ⟨1, [f], incI h, m⟩, s, d) := by
  have hl : hasId id f = true := by unfold hasId; rw [hid]; simp
  have hi : idxF [f] (hasId id) = 0 := by unfold idxF; rw [List.findIdx_cons, hl]; rfl
  unfold ftR
  simp only
  rw [hi, if_pos (by decide)]
  rfl
theorem pw_a1 : paR p0 wF.2.1 wF.2.2 5 [97] = (1, 0, p1, w1A) := by
  unfold paR
  rw [show mrR p0.lim p0.fs wF.2.1 wF.2.2 = (0, [], wF.2.1, wF.2.2) from mr_empty _ _]
  simp only
  rw [if_neg (by decide), pw_t2, if_neg (by decide), pw_t3]
  rfl
theorem pw_a2 : paR p1 w1A.1 w1A.2 5 [98] = (2, 0, p2, w2A) := by
  unfold paR
  rw [show mrR p1.lim p1.fs w1A.1 w1A.2 = (0, [], w1A.1, w1A.2) from mr_clean _ _ fA rfl rfl]
  simp only
  rw [if_neg (by decide), pw_t4, if_neg (by decide), pw_t5]
  rfl
theorem pw_a3 : psR p2 w2A.1 w2A.2 2 5 [99] = (0, p3, w2A) := by
  have hft : ftR p2 w2A.1 w2A.2 2 = (0, ⟨1, [fB], 1, 0⟩, w2A) := by have := ft_hit1 fB 2 0 0 w2A.1 w2A.2 rfl; rw [inc0] at this; exact this
  unfold psR
  rw [hft, if_neg (by simp), if_neg (by decide)]
  rfl
theorem pw_a4 : ftR p3 w2A.1 w2A.2 1 = (0, p4, w4R) := by
  obtain ⟨r1, r2, r3⟩ := rdp_seal pw_t7 pw_t8 pw_t9 (by decide)
  have hm : mrR p3.lim p3.fs w2A.1 w2A.2 = (0, [], w3W.2) := mr_dirty _ _ fC rfl rfl pw_t6
  unfold ftR
  rw [show idxF p3.fs (hasId 1) = -1 from rfl, if_neg (by decide), hm]
  simp only
  rw [if_neg (by decide), r1, if_neg (by decide), r2, r3, show incI p3.miss = 1 from inc0]
  rfl
theorem pw_a5 : ftR p4 w4R.1 w4R.2 2 = (0, p5, w5R) := by
  obtain ⟨r1, r2, r3⟩ := rdp_seal pw_t10 pw_t11 pw_t12 (by decide)
  have hm : mrR p4.lim p4.fs w4R.1 w4R.2 = (0, [], w4R.1, w4R.2) := mr_clean _ _ fA rfl rfl
  unfold ftR
  rw [show idxF p4.fs (hasId 2) = -1 from rfl, if_neg (by decide), hm]
  simp only
  rw [if_neg (by decide), r1, if_neg (by decide), r2, r3, show incI p4.miss = 2 from inc1]
  rfl
theorem pw_a6 : piR p5 w5R.1 w5R.2 2 = (0, p6, w5R) := by
  have hft : ftR p5 w5R.1 w5R.2 2 = (0, ⟨1, [fD], 2, 2⟩, w5R) := by have := ft_hit1 fD 2 1 2 w5R.1 w5R.2 rfl; rw [inc1] at this; exact this
  unfold piR
  rw [hft, if_neg (by simp)]
  simp only
  rw [show incI (lastF [fD]).pn = 1 from inc0]
  rfl
theorem pw_a7 : (piR p6 w5R.1 w5R.2 1).1 = 14 := by
  have hm : mrR p6.lim p6.fs w5R.1 w5R.2 = (14, [fE], w5R.1, w5R.2) := mr_pinned _ _ fE (by decide)
  have hft : (ftR p6 w5R.1 w5R.2 1).1 = 14 := by
    unfold ftR
    rw [show idxF p6.fs (hasId 1) = -1 from rfl, if_neg (by decide), hm]
    rfl
  unfold piR
  rw [if_pos (by rw [hft]; decide), hft]
end Go.Proofs.YtbklnadlbcndlaaGreat
namespace Go.Proofs.YtbklnadlbcndlaaGreat
set_option maxRecDepth 20000
open Go.RowKit
set_option linter.unusedVariables false
set_option linter.unusedSimpArgs false
def Pv (w0 w : World) (q : Nat) (P : PS) (s : SS) (d : D.DS) (xs : List (Value × List Int)) : Prop := ∃ k, Pi w0 w q k P s d ∧ ∀ x ∈ xs, FB w k.X x.1 x.2
theorem Pv.below {w0 w w' : World} {q : Nat} {P : PS} {s : SS} {d : D.DS} {xs : List (Value × List Int)} (h : Pv w0 w q P s d xs) (hb : Below w.heap.size w w') : Pv w0 w' q P s d xs := by
  obtain ⟨k, h1, h2⟩ := h
  exact ⟨k, h1.below hb, fun x hx => (h2 x hx).below hb⟩
theorem Pv.be {w0 w : World} {q : Nat} {P : PS} {s : SS} {d : D.DS} {xs : List (Value × List Int)} (h : Pv w0 w q P s d xs) : Below w0.heap.size w0 w := by
  obtain ⟨k, h1, h2⟩ := h
  exact h1.be
theorem Pv.sub {w0 w : World} {q : Nat} {P : PS} {s : SS} {d : D.DS} {xs ys : List (Value × List Int)} (h : Pv w0 w q P s d xs) (hs : ∀ x ∈ ys, x ∈ xs) : Pv w0 w q P s d ys := by
  obtain ⟨k, h1, h2⟩ := h
  exact ⟨k, h1, fun x hx => h2 x (hs x hx)⟩
theorem Pi.lt {w0 w : World} {q : Nat} {k : Pl} {P : PS} {s : SS} {d : D.DS} (h : Pi w0 w q k P s d) : ∀ x ∈ k.X, x < w.heap.size := by
  obtain ⟨L, row, _, hq⟩ := h
  exact hq.mi.sy.lt
theorem Pv.add {w0 w w' : World} {q : Nat} {P : PS} {s : SS} {d : D.DS} {xs : List (Value × List Int)} {v : Value} {zs : List Int} (h : Pv w0 w q P s d xs) (hb : Below w.heap.size w w') (hv : ∀ X : List Nat, (∀ x ∈ X, x < w.heap.size) → FB w' X v zs) : Pv w0 w' q P s d ((v, zs) :: xs) := by
  obtain ⟨k, h1, h2⟩ := h
  refine ⟨k, h1.below hb, fun x hx => ?_⟩
  rcases List.mem_cons.1 hx with rfl | hx
  · exact hv k.X h1.lt
  · exact (h2 x hx).below hb
theorem Pv.fb {w0 w : World} {q : Nat} {P : PS} {s : SS} {d : D.DS} {xs : List (Value × List Int)} (h : Pv w0 w q P s d xs) {v : Value} {zs : List Int} (hm : (v, zs) ∈ xs) : ∃ X, FB w X v zs := by
  obtain ⟨k, h1, h2⟩ := h
  exact ⟨k.X, h2 _ hm⟩
theorem v_alloc {w0 w : World} {q : Nat} {P : PS} {s : SS} {d : D.DS} {xs : List (Value × List Int)} (kd : Int) (v : Value) (zs : List Int) (h : Pv w0 w q P s d xs) (hm : (v, zs) ∈ xs) :
    Calls Tryz.prog 16 #[pf q, .int .i64 kd, v] w fun e w' => e = .returned (.tuple #[.int .i64 (paR P s d kd zs).1, .int .i64 (paR P s d kd zs).2.1]) ∧ Pv w0 w' q (paR P s d kd zs).2.2.1 (paR P s d kd zs).2.2.2.1 (paR P s d kd zs).2.2.2.2 xs := by
  obtain ⟨k, h1, h2⟩ := h
  have hf := h2 _ hm
  obtain ⟨a, c, e, _⟩ := id hf
  simp only at e hf
  subst e
  refine (palloc_any kd a c zs h1 hf).mono ?_
  rintro e w' ⟨k', rfl, hp, hx⟩
  exact ⟨rfl, k', hp, fun x hx' => (h2 x hx').nx hx⟩
theorem v_set {w0 w : World} {q : Nat} {P : PS} {s : SS} {d : D.DS} {xs : List (Value × List Int)} (i kd : Int) (v : Value) (zs : List Int) (h : Pv w0 w q P s d xs) (hm : (v, zs) ∈ xs) :
    Calls Tryz.prog 17 #[pf q, .int .i64 i, .int .i64 kd, v] w fun e w' => e = .returned (.int .i64 (psR P s d i kd zs).1) ∧ Pv w0 w' q (psR P s d i kd zs).2.1 (psR P s d i kd zs).2.2.1 (psR P s d i kd zs).2.2.2 xs := by
  obtain ⟨k, h1, h2⟩ := h
  have hf := h2 _ hm
  obtain ⟨a, c, e, _⟩ := id hf
  simp only at e hf
  subst e
  refine (pset_any i kd a c zs h1 hf).mono ?_
  rintro e w' ⟨k', rfl, hp, hx⟩
  exact ⟨rfl, k', hp, fun x hx' => (h2 x hx').nx hx⟩
theorem v_get {w0 w : World} {q : Nat} {P : PS} {s : SS} {d : D.DS} {xs : List (Value × List Int)} (i : Int) (h : Pv w0 w q P s d xs) (hs : ShortF P.fs) :
    Calls Tryz.prog 15 #[pf q, .int .i64 i] w fun e w' => ∃ a c, e = .returned (.tuple #[.int .i64 (gtK (ftR P s d i)), .slice a (gtB (ftR P s d i)).length c, .int .i64 (ftR P s d i).1]) ∧ (a = none → c = 0) ∧ BV w' a (gtB (ftR P s d i)) ∧ Pv w0 w' q (ftR P s d i).2.1 (ftR P s d i).2.2.1 (ftR P s d i).2.2.2 ((.slice a (gtB (ftR P s d i)).length c, gtB (ftR P s d i)) :: xs) := by
  obtain ⟨k, h1, h2⟩ := h
  refine (pget_any i h1 hs).mono ?_
  rintro e w' ⟨v, k', rfl, ho, hf, hp, hx⟩
  obtain ⟨a, c, rfl, h0, _, _, hb, _⟩ := id hf
  refine ⟨a, c, rfl, h0, hb, k', hp, fun x hx' => ?_⟩
  rcases List.mem_cons.1 hx' with rfl | hx'
  · exact hf
  · exact (h2 x hx').nx hx
theorem v_pin {w0 w : World} {q : Nat} {P : PS} {s : SS} {d : D.DS} {xs : List (Value × List Int)} (i : Int) (h : Pv w0 w q P s d xs) :
    Calls Tryz.prog 19 #[pf q, .int .i64 i] w fun e w' => e = .returned (.int .i64 (piR P s d i).1) ∧ Pv w0 w' q (piR P s d i).2.1 (piR P s d i).2.2.1 (piR P s d i).2.2.2 xs := by
  obtain ⟨k, h1, h2⟩ := h
  refine (ppin_any i h1).mono ?_
  rintro e w' ⟨k', rfl, hp, hx⟩
  exact ⟨rfl, k', hp, fun x hx' => (h2 x hx').nx hx⟩
theorem v_held {w0 w : World} {q : Nat} {P : PS} {s : SS} {d : D.DS} {xs : List (Value × List Int)} (h : Pv w0 w q P s d xs) :
    Calls Tryz.prog 24 #[pf q] w fun e w' => ∃ a c, e = .returned (.slice a (heldS P.fs).length c) ∧ (a = none → c = 0) ∧ (heldS P.fs).length ≤ c ∧ IV w' a (heldS P.fs) ∧ Pv w0 w' q P s d xs := by
  have hh := h
  obtain ⟨k, h1, h2⟩ := h
  refine (pheld_any h1).mono ?_
  rintro e w' ⟨v, rfl, ho, hb⟩
  obtain ⟨a, c, rfl, hn, hl, _, hi, _⟩ := fi_own ho (X := []) (by simp)
  exact ⟨a, c, rfl, hn, hl, hi, hh.below hb⟩
theorem v_hits {w0 w : World} {q : Nat} {P : PS} {s : SS} {d : D.DS} {xs : List (Value × List Int)} (h : Pv w0 w q P s d xs) : Calls Tryz.prog 26 #[pf q] w fun e w' => e = .returned (.int .i64 P.hits) ∧ w' = w := by
  obtain ⟨k, h1, h2⟩ := h
  exact phits_any h1
theorem v_miss {w0 w : World} {q : Nat} {P : PS} {s : SS} {d : D.DS} {xs : List (Value × List Int)} (h : Pv w0 w q P s d xs) : Calls Tryz.prog 27 #[pf q] w fun e w' => e = .returned (.int .i64 P.miss) ∧ w' = w := by
  obtain ⟨k, h1, h2⟩ := h
  exact pmiss_any h1
theorem v_format {w0 w : World} (n : Int) (h2 : 2 ≤ (D.newS n).room) (h0 : (fmtS (D.newS n)).1 = 0) (dp nb mb : Nat) (h : D.Dk w dp nb mb (D.newS n) ∧ w0.heap.size ≤ dp ∧ w0.heap.size ≤ nb ∧ w0.heap.size ≤ mb ∧ Below w0.heap.size w0 w) :
    Calls Tryz.prog 12 #[.pointer (some ⟨dp, 0, none⟩)] w fun e w' => ∃ k : Pl, e = .returned (.tuple #[pf k.p, .int .i64 0]) ∧ Hid (Mi w0 w' k (fmtS (D.newS n)).2.1 (fmtS (D.newS n)).2.2 ∧ k.z = []) := by
  refine (m_format (w0 := w0) w h.1 (fun x hx => by simp at hx; rcases hx with rfl | rfl | rfl; exact h.2.1; exact h.2.2.1; exact h.2.2.2.1) h.2.2.2.2 h2).mono ?_
  rintro e w' ⟨⟨_, p, he, hm⟩ | ⟨hne, _⟩, _, _⟩
  · exact ⟨⟨p, dp, nb, mb, []⟩, he, hm, rfl⟩
  · exact absurd h0 hne
theorem v_new {w0 w : World} {k : Pl} {s : SS} {d : D.DS} (n : Int) (h1 : 1 ≤ n) (h2 : n ≤ 64) (h : Mi w0 w k s d ∧ k.z = []) :
    Calls Tryz.prog 14 #[pf k.p, .int .i64 n] w fun e w' => ∃ q, e = .returned (.tuple #[pf q, .int .i64 0]) ∧ Pv w0 w' q ⟨n, [], 0, 0⟩ s d [] := by
  refine (pnew_any n h1 h2 h.1 h.2).mono ?_
  rintro e w' ⟨q, k', rfl, hp, _, _⟩
  exact ⟨q, rfl, k', hp, by simp⟩
theorem one_fb (W : World) (z : Int) (fz : Nat × Nat) (hz : 0 ≤ z ∧ z ≤ 255) (X : List Nat) (hX : ∀ x ∈ X, x < W.heap.size) : FB (W.alloc (.cells #[.int .u8 z] 5 fz)) X (.slice (some ⟨W.heap.size, 0, none⟩) 1 1) [z] := by
  have h : (W.alloc (.cells #[.int .u8 z] 5 fz)).heap[W.heap.size]? = some (.cells #[.int .u8 z] 5 fz) := heap_alloc_last _ _
  refine ⟨some ⟨W.heap.size, 0, none⟩, 1, rfl, by simp, Nat.le_refl _, by omega, ⟨by intro y hy; simp at hy; subst hy; exact hz, .inr ⟨W.heap.size, 0, rfl, by simp, fun i hi => ?_⟩⟩, fun _ b off e hm => ?_⟩
  · have : i = 0 := by simp at hi; omega
    subst this
    unfold World.cell?
    rw [h]
    rfl
  · cases e
    have := hX _ hm
    omega
end Go.Proofs.YtbklnadlbcndlaaGreat
namespace Go.Proofs.YtbklnadlbcndlaaGreat
set_option maxRecDepth 20000
open Go.RowKit
set_option linter.unusedVariables false
set_option linter.unusedSimpArgs false
theorem p_conv {w : World} {a : Option Addr} {c : Nat} (z : Int) (u : UInt8) (hu : strOfNums [z] = { data := #[u] }) (h : BV w a [z]) (hn : a = none → c = 0) : (convert 29 9 (.slice a 1 c)).run Tryz.prog w = .ok (.string { data := #[u] }) w := by
  have := conv_bv (cap := c) h hn
  rw [hu] at this
  exact this
set_option maxHeartbeats 3200000 in
theorem awake_any (w : World) : Calls Tryz.prog 8 #[] w fun e w' => e = .returned (.bool true) ∧ Below w.heap.size w w' := by
  have H13 : Hid (Calls Tryz.prog 13 #[.int .i64 20] w fun e w' => ∃ dp nb mb, e = .returned (.pointer (some ⟨dp, 0, none⟩)) ∧ D.Dk w' dp nb mb (D.newS 20) ∧ w.heap.size ≤ dp ∧ w.heap.size ≤ nb ∧ w.heap.size ≤ mb ∧ Below w.heap.size w w') := D.new_any 20 w
  have H12 : Hid (∀ w1 dp nb mb, (D.Dk w1 dp nb mb (D.newS 20) ∧ w.heap.size ≤ dp ∧ w.heap.size ≤ nb ∧ w.heap.size ≤ mb ∧ Below w.heap.size w w1) → Calls Tryz.prog 12 #[.pointer (some ⟨dp, 0, none⟩)] w1 fun e w' => ∃ k : Pl, e = .returned (.tuple #[.pointer (some ⟨k.p, 0, none⟩), .int .i64 0]) ∧ Hid (Mi w w' k wF.2.1 wF.2.2 ∧ k.z = [])) := fun w1 dp nb mb h => v_format 20 (by decide) pw_t1 dp nb mb h
  have H14 : Hid (∀ w1 k, (Mi w w1 k wF.2.1 wF.2.2 ∧ k.z = []) → Calls Tryz.prog 14 #[.pointer (some ⟨k.p, 0, none⟩), .int .i64 1] w1 fun e w' => ∃ q, e = .returned (.tuple #[.pointer (some ⟨q, 0, none⟩), .int .i64 0]) ∧ Pv w w' q p0 wF.2.1 wF.2.2 []) := fun w1 k h => v_new 1 (by decide) (by decide) h
  have H16 : Hid (∀ W q fz, Pv w W q p0 wF.2.1 wF.2.2 [] → Calls Tryz.prog 16 #[.pointer (some ⟨q, 0, none⟩), .int .i64 5, .slice (some ⟨W.heap.size, 0, none⟩) 1 1] (W.alloc (.cells #[.int .u8 97] 5 fz)) fun e w' => e = .returned (.tuple #[.int .i64 1, .int .i64 0]) ∧ Pv w w' q p1 w1A.1 w1A.2 []) := fun W q fz h => by
    have := v_alloc 5 _ [97] (h.add (w' := W.alloc (.cells #[.int .u8 97] 5 fz)) ((Below.refl _ _).alloc (Nat.le_refl _) _) (one_fb W 97 fz (by decide))) (List.mem_cons_self ..)
    rw [pw_a1] at this
    exact this.mono (fun e w' h => ⟨h.1, h.2.sub (by simp)⟩)
  have H16b : Hid (∀ W q fz, Pv w W q p1 w1A.1 w1A.2 [] → Calls Tryz.prog 16 #[.pointer (some ⟨q, 0, none⟩), .int .i64 5, .slice (some ⟨W.heap.size, 0, none⟩) 1 1] (W.alloc (.cells #[.int .u8 98] 5 fz)) fun e w' => e = .returned (.tuple #[.int .i64 2, .int .i64 0]) ∧ Pv w w' q p2 w2A.1 w2A.2 []) := fun W q fz h => by
    have := v_alloc 5 _ [98] (h.add (w' := W.alloc (.cells #[.int .u8 98] 5 fz)) ((Below.refl _ _).alloc (Nat.le_refl _) _) (one_fb W 98 fz (by decide))) (List.mem_cons_self ..)
    rw [pw_a2] at this
    exact this.mono (fun e w' h => ⟨h.1, h.2.sub (by simp)⟩)
  have H24 : Hid (∀ W q, Pv w W q p2 w2A.1 w2A.2 [] → Calls Tryz.prog 24 #[.pointer (some ⟨q, 0, none⟩)] W fun e w' => ∃ a c, e = .returned (.slice a 1 c) ∧ 1 ≤ c ∧ Pv w w' q p2 w2A.1 w2A.2 []) := fun W q h => by
    have hl : (heldS p2.fs).length = 1 := by unfold heldS; rw [List.length_mergeSort]; rfl
    have := v_held h
    rw [hl] at this
    exact this.mono (fun e w' ⟨a, c, h1, h2, h3, h4, h5⟩ => ⟨a, c, h1, h3, h5⟩)
  have H17 : Hid (∀ W q fz, Pv w W q p2 w2A.1 w2A.2 [] → Calls Tryz.prog 17 #[.pointer (some ⟨q, 0, none⟩), .int .i64 2, .int .i64 5, .slice (some ⟨W.heap.size, 0, none⟩) 1 1] (W.alloc (.cells #[.int .u8 99] 5 fz)) fun e w' => e = .returned (.int .i64 0) ∧ Pv w w' q p3 w2A.1 w2A.2 []) := fun W q fz h => by
    have := v_set 2 5 _ [99] (h.add (w' := W.alloc (.cells #[.int .u8 99] 5 fz)) ((Below.refl _ _).alloc (Nat.le_refl _) _) (one_fb W 99 fz (by decide))) (List.mem_cons_self ..)
    rw [pw_a3] at this
    exact this.mono (fun e w' h => ⟨h.1, h.2.sub (by simp)⟩)
  have H15 : Hid (∀ W q, Pv w W q p3 w2A.1 w2A.2 [] → Calls Tryz.prog 15 #[.pointer (some ⟨q, 0, none⟩), .int .i64 1] W fun e w' => ∃ a c, e = .returned (.tuple #[.int .i64 5, .slice a 1 c, .int .i64 0]) ∧ (a = none → c = 0) ∧ Pv w w' q p4 w4R.1 w4R.2 [(.slice a 1 c, [97])]) := fun W q h => by
    have := v_get 1 h (by intro f hf; simp [p3] at hf; subst hf; decide)
    rw [pw_a4] at this
    exact this.mono (fun e w' ⟨a, c, h1, h2, h3, h4⟩ => ⟨a, c, h1, h2, h4⟩)
  have H15b : Hid (∀ W q v, Pv w W q p4 w4R.1 w4R.2 [v] → Calls Tryz.prog 15 #[.pointer (some ⟨q, 0, none⟩), .int .i64 2] W fun e w' => ∃ a c, e = .returned (.tuple #[.int .i64 5, .slice a 1 c, .int .i64 0]) ∧ (a = none → c = 0) ∧ Pv w w' q p5 w5R.1 w5R.2 [(.slice a 1 c, [99]), v]) := fun W q v h => by
    have := v_get 2 h (by intro f hf; simp [p4] at hf; subst hf; decide)
    rw [pw_a5] at this
    exact this.mono (fun e w' ⟨a, c, h1, h2, h3, h4⟩ => ⟨a, c, h1, h2, h4⟩)
  have H26 : Hid (∀ W q xs, Pv w W q p5 w5R.1 w5R.2 xs → Calls Tryz.prog 26 #[.pointer (some ⟨q, 0, none⟩)] W fun e w' => e = .returned (.int .i64 1) ∧ w' = W) := fun W q xs h => v_hits h
  have H27 : Hid (∀ W q xs, Pv w W q p5 w5R.1 w5R.2 xs → Calls Tryz.prog 27 #[.pointer (some ⟨q, 0, none⟩)] W fun e w' => e = .returned (.int .i64 2) ∧ w' = W) := fun W q xs h => v_miss h
  have H19 : Hid (∀ W q xs, Pv w W q p5 w5R.1 w5R.2 xs → Calls Tryz.prog 19 #[.pointer (some ⟨q, 0, none⟩), .int .i64 2] W fun e w' => e = .returned (.int .i64 0) ∧ Pv w w' q p6 w5R.1 w5R.2 xs) := fun W q xs h => by
    have := v_pin 2 h
    rw [pw_a6] at this
    exact this
  have H19b : Hid (∀ W q xs, Pv w W q p6 w5R.1 w5R.2 xs → Calls Tryz.prog 19 #[.pointer (some ⟨q, 0, none⟩), .int .i64 1] W fun e w' => e = .returned (.int .i64 14) ∧ Below w.heap.size w w') := fun W q xs h => by
    have := v_pin 1 h
    rw [pw_a7] at this
    exact this.mono (fun e w' h => ⟨h.1, h.2.be⟩)
  have kc := fun (w : World) (C : Array Value) (n c : Nat) => Lib.run_convert_bytes_const (P := Tryz.prog) w 29 5 C n c Tryz.underlying29 Tryz.underlying5
  go_enter Tryz.func8, Tryz.ntmps8
  go_wp2_with (first
    | (go_at_call 13; refine H13.out.mono ?_; rintro e w1 ⟨dp, nb, mb, rfl, h1⟩; have M1 : Hid (D.Dk w1 dp nb mb (D.newS 20) ∧ w.heap.size ≤ dp ∧ w.heap.size ≤ nb ∧ w.heap.size ≤ mb ∧ Below w.heap.size w w1) := h1; clear h1 H13)
    | (go_at_call 12; refine (H12.out _ _ _ _ M1.out).mono ?_; rintro e w2 ⟨k2, rfl, M2⟩; clear H12 M1)
    | (go_at_call 14; refine (H14.out _ _ M2.out).mono ?_; rintro e w3 ⟨q, rfl, h3⟩; have M3 : Hid (Pv w w3 q p0 wF.2.1 wF.2.2 []) := h3; clear h3 H14 M2)
    | (go_at_call 16; refine (H16.out _ _ _ M3.out).mono ?_; rintro e w4 ⟨rfl, h4⟩; have M4 : Hid (Pv w w4 q p1 w1A.1 w1A.2 []) := h4; clear h4 H16 M3)
    | (go_at_call 16; refine (H16b.out _ _ _ M4.out).mono ?_; rintro e w5 ⟨rfl, h5⟩; have M5 : Hid (Pv w w5 q p2 w2A.1 w2A.2 []) := h5; clear h5 H16b M4)
    | (go_at_call 24; refine (H24.out _ _ M5.out).mono ?_; rintro e w6 ⟨ha, hc, rfl, hhc, h6⟩; have M6 : Hid (Pv w w6 q p2 w2A.1 w2A.2 []) := h6; clear h6 H24 M5)
    | (go_at_call 17; refine (H17.out _ _ _ M6.out).mono ?_; rintro e w7 ⟨rfl, h7⟩; have M7 : Hid (Pv w w7 q p3 w2A.1 w2A.2 []) := h7; clear h7 H17 M6)
    | (go_at_call 15; refine (H15.out _ _ M7.out).mono ?_; rintro e w8 ⟨xa, xc, rfl, hxn, h8⟩; have M8 : Hid (Pv w w8 q p4 w4R.1 w4R.2 [(.slice xa 1 xc, [97])]) := h8; clear h8 H15 M7)
    | (go_at_call 15; refine (H15b.out _ _ _ M8.out).mono ?_; rintro e w9 ⟨ya, yc, rfl, hyn, h9⟩; have hcx := p_conv (w := w9) (a := xa) (c := xc) 97 97 rfl (by obtain ⟨X, ⟨a', c', e', _, _, _, hb, _⟩⟩ := h9.fb (v := .slice xa 1 xc) (zs := [97]) (by simp); cases e'; exact hb) hxn; have hcy := p_conv (w := w9) (a := ya) (c := yc) 99 99 rfl (by obtain ⟨X, ⟨a', c', e', _, _, _, hb, _⟩⟩ := h9.fb (v := .slice ya 1 yc) (zs := [99]) (by simp); cases e'; exact hb) hyn; have M9 : Hid (Pv w w9 q p5 w5R.1 w5R.2 [(.slice ya 1 yc, [99]), (.slice xa 1 xc, [97])]) := h9; clear h9 H15b M8)
    | (go_at_call 26; refine (H26.out _ _ _ M9.out).mono ?_; rintro e w' ⟨rfl, hw⟩; obtain rfl := hw.symm; clear H26)
    | (go_at_call 27; refine (H27.out _ _ _ M9.out).mono ?_; rintro e w' ⟨rfl, hw⟩; obtain rfl := hw.symm; clear H27)
    | (go_at_call 19; refine (H19.out _ _ _ M9.out).mono ?_; rintro e w10 ⟨rfl, h10⟩; have M10 : Hid (Pv w w10 q p6 w5R.1 w5R.2 [(.slice ya 1 yc, [99]), (.slice xa 1 xc, [97])]) := h10; clear h10 H19 M9)
    | (go_at_call 19; refine (H19b.out _ _ _ M10.out).mono ?_; rintro e w11 ⟨rfl, h11⟩; have M11 : Hid (Below w.heap.size w w11) := h11; clear h11 H19b M10)
    | fail)
  go_ret
  exact ⟨rfl, M11.out⟩
end Go.Proofs.YtbklnadlbcndlaaGreat
namespace Go.Proofs.YtbklnadlbcndlaaGreat
set_option maxRecDepth 100000
open Go.RowKit
set_option linter.unusedVariables false
set_option linter.unusedSimpArgs false
structure Lk (d d' : D.DS) : Prop where
  b : d'.B = d.B
  dn : d'.down = d.down
  rm : d'.room = d.room
theorem Lk.refl (d : D.DS) : Lk d d := ⟨rfl, rfl, rfl⟩
theorem Lk.reach {d d' : D.DS} (h : Lk d d') (n : Int) : D.reachE d' n = D.reachE d n := by unfold D.reachE; rw [h.dn, h.rm]
theorem Lk.readB {d d' : D.DS} (h : Lk d d') (n : Int) : D.readB d' n = D.readB d n := by unfold D.readB; rw [h.reach, h.b]
theorem Lk.readS {d d' : D.DS} (h : Lk d d') (n : Int) : Lk d (D.readS d' n) := by
  unfold D.readS
  split
  · exact h
  · exact ⟨h.b, h.dn, h.rm⟩
structure Pg1 (s : SS) (d : D.DS) (id : Int) : Prop where
  f : findE s id = 0
  r : D.reachE d (findN s id) = 0
  b : D.readB d (findN s id) = sealS 5 id [id - 1]
  e : sealE 5 id 1 = 0
theorem Pg1.read {s : SS} {d d' : D.DS} {id : Int} (h : Pg1 s d id) (hl : Lk d d') : rdE s d' id = 0 ∧ rdKd s d' id = 5 ∧ rdBy s d' id = [id - 1] ∧ (rdR s d' id).1 = s ∧ Lk d (rdR s d' id).2 := by
  obtain ⟨h1, h2, h3⟩ := rdp_seal (s := s) (d := d') (id := id) (kd := 5) (zs := [id - 1]) h.f (by rw [hl.reach]; exact h.r) (by rw [hl.readB]; exact h.b) h.e
  refine ⟨h1, h2, h3, ?_, ?_⟩
  · unfold rdR
    rw [if_neg (by simpa using h.f), hl.reach, h.r]
    exact note_zero s
  · unfold rdR
    rw [if_neg (by simpa using h.f)]
    exact hl.readS _
def mkF (i pn : Int) : Fr := ⟨i, 5, [i - 1], pn, false⟩
def CleanF (fs : List Fr) : Prop := ∀ f ∈ fs, f.dt = false
def mrL (lim : Int) (fs : List Fr) : Int × List Fr :=
  if (fs.length : Int) < lim then (0, fs) else if idxF fs loose < 0 then (14, fs) else (0, fs.eraseIdx (idxF fs loose).toNat)
def ftL (lim : Int) (fs : List Fr) (id : Int) : Int × List Fr :=
  if 0 ≤ idxF fs (hasId id) then (0, fs.eraseIdx (idxF fs (hasId id)).toNat ++ (fs[(idxF fs (hasId id)).toNat]?).toList)
  else if (mrL lim fs).1 ≠ 0 then mrL lim fs else (0, hdR (mrL lim fs).2 id 5 [id - 1])
noncomputable def hA : Nat → SS × D.DS
  | 0 => (fmtS (D.newS 100)).2
  | i + 1 => allocR (hA i).1 (hA i).2 5 [(i : Int)]
end Go.Proofs.YtbklnadlbcndlaaGreat
namespace Go.Proofs.YtbklnadlbcndlaaGreat
set_option maxRecDepth 100000
open Go.RowKit
set_option linter.unusedVariables false
set_option linter.unusedSimpArgs false
theorem idx_mem {fs : List Fr} {pr : Fr → Bool} {f : Fr} (hm : f ∈ fs) (hp : pr f = true) : ∃ (i : Nat) (g : Fr), idxF fs pr = i ∧ fs[i]? = some g ∧ pr g = true := by
  have hlt : fs.findIdx pr < fs.length := List.findIdx_lt_length_of_exists ⟨f, hm, hp⟩
  refine ⟨fs.findIdx pr, fs[fs.findIdx pr], ?_, List.getElem?_eq_getElem hlt, List.findIdx_getElem⟩
  unfold idxF
  rw [if_pos hlt]
theorem idx_no {fs : List Fr} {pr : Fr → Bool} (h : ∀ f ∈ fs, pr f = false) : idxF fs pr = -1 :=
  idxF_none (fun m hm g hg => h g (List.mem_of_getElem? hg))
theorem erase_perm {fs : List Fr} {i : Nat} {g : Fr} (h : fs[i]? = some g) : (fs.eraseIdx i ++ [g]).Perm fs := by
  obtain ⟨hi, rfl⟩ := List.getElem?_eq_some_iff.1 h
  rw [List.eraseIdx_eq_take_drop_succ]
  have e : fs = fs.take i ++ fs[i] :: fs.drop (i + 1) := by rw [← List.drop_eq_getElem_cons hi, List.take_append_drop]
  refine (List.perm_append_comm).trans ?_
  have := (List.perm_middle (a := fs[i]) (l₁ := fs.take i) (l₂ := fs.drop (i + 1))).symm
  rw [← e] at this
  exact this
def pinL (m : Nat) : List Fr := (List.range m).map (fun i : Nat => mkF ((i : Int) + 1) 1)
def oneL (o : Option Nat) : List Fr := o.toList.map (fun x : Nat => mkF (x : Int) 0)
structure HI (m : Nat) (o : Option Nat) (fs : List Fr) : Prop where
  p : fs.Perm (pinL m ++ oneL o)
  o : ∀ x ∈ o, m < x
theorem HI.mem {m : Nat} {o : Option Nat} {fs : List Fr} (h : HI m o fs) {f : Fr} : f ∈ fs ↔ (∃ i : Nat, i < m ∧ f = mkF ((i : Int) + 1) 1) ∨ (∃ x, o = some x ∧ f = mkF (x : Int) 0) := by
  rw [h.p.mem_iff, List.mem_append]
  refine or_congr ?_ ?_
  · unfold pinL
    rw [List.mem_map]
    constructor
    · rintro ⟨i, hi, rfl⟩; exact ⟨i, by simpa using hi, rfl⟩
    · rintro ⟨i, hi, rfl⟩; exact ⟨i, by simpa using hi, rfl⟩
  · unfold oneL
    rw [List.mem_map]
    constructor
    · rintro ⟨x, hx, rfl⟩; exact ⟨x, by simpa using hx, rfl⟩
    · rintro ⟨x, hx, rfl⟩; exact ⟨x, by simp [hx], rfl⟩
theorem HI.clean {m : Nat} {o : Option Nat} {fs : List Fr} (h : HI m o fs) : CleanF fs := by
  intro f hf
  rcases h.mem.1 hf with ⟨i, _, rfl⟩ | ⟨x, _, rfl⟩ <;> rfl
theorem HI.len {m : Nat} {o : Option Nat} {fs : List Fr} (h : HI m o fs) : fs.length = m + o.toList.length := by
  rw [h.p.length_eq]
  simp [pinL, oneL]
theorem HI.get {m : Nat} {o : Option Nat} {fs : List Fr} (h : HI m o fs) (id : Nat) (h1 : 1 ≤ id) : ∃ o' pre g, (ftL ((m : Int) + 1) fs id) = (0, pre ++ [g]) ∧ HI m o' (pre ++ [g]) ∧ g.id = id ∧ (m < id → o' = some id ∧ g = mkF id 0 ∧ pre.Perm (pinL m)) := by
  by_cases hin : ∃ f ∈ fs, f.id = id
  · obtain ⟨f, hf, hid⟩ := hin
    obtain ⟨i, g, hi, hg, hpg⟩ := idx_mem (pr := hasId id) hf (by unfold hasId; rw [hid]; simp)
    have hgid : g.id = id := by unfold hasId at hpg; simpa using hpg
    have hft : ftL ((m : Int) + 1) fs id = (0, fs.eraseIdx i ++ [g]) := by
      unfold ftL
      rw [hi, if_pos (by omega), Int.toNat_natCast, hg]
      rfl
    have hp := erase_perm hg
    refine ⟨o, fs.eraseIdx i, g, hft, ⟨hp.trans h.p, h.o⟩, hgid, fun hm => ?_⟩
    have hgm := List.mem_of_getElem? hg
    rcases h.mem.1 hgm with ⟨j, hj, rfl⟩ | ⟨x, hx, rfl⟩
    · simp [mkF] at hgid
      omega
    · have : x = id := by simp [mkF] at hgid; omega
      subst this
      refine ⟨hx, rfl, ?_⟩
      have := hp.trans h.p
      rw [hx] at this
      exact (List.perm_append_right_iff _).1 this
  · have hno : idxF fs (hasId id) = -1 := idx_no (fun f hf => by
      unfold hasId
      simp
      exact fun e => hin ⟨f, hf, e⟩)
    have hlow : m < id := by
      rcases Nat.lt_or_ge m id with h' | h'
      · exact h'
      · exact absurd ⟨mkF (((id - 1 : Nat) : Int) + 1) 1, h.mem.2 (.inl ⟨id - 1, by omega, rfl⟩), by simp [mkF]; omega⟩ hin
    have key : ∃ pre, mrL ((m : Int) + 1) fs = (0, pre) ∧ pre.Perm (pinL m) := by
      cases o with
      | none =>
        have hl := h.len
        simp at hl
        refine ⟨fs, ?_, ?_⟩
        · unfold mrL; rw [if_pos (by omega)]
        · have := h.p
          simpa [oneL] using this
      | some x =>
        have hl := h.len
        simp at hl
        have hfx : mkF (x : Int) 0 ∈ fs := h.mem.2 (.inr ⟨x, rfl, rfl⟩)
        obtain ⟨i, g, hi, hg, hpg⟩ := idx_mem (pr := loose) hfx (by unfold loose mkF; rfl)
        have hgm := List.mem_of_getElem? hg
        have hgx : g = mkF (x : Int) 0 := by
          rcases h.mem.1 hgm with ⟨j, hj, rfl⟩ | ⟨y, hy, rfl⟩
          · simp [loose, mkF] at hpg
          · cases hy; rfl
        refine ⟨fs.eraseIdx i, ?_, ?_⟩
        · unfold mrL
          rw [if_neg (by omega), hi, if_neg (by omega), Int.toNat_natCast]
        · have := (erase_perm hg).trans h.p
          rw [hgx] at this
          exact (List.perm_append_right_iff _).1 this
    obtain ⟨pre, hm, hp⟩ := key
    have hno2 : idxF pre (hasId id) = -1 := idx_no (fun f hf => by
      have hf2 := hp.mem_iff.1 hf
      unfold pinL at hf2
      obtain ⟨j, hj, rfl⟩ := List.mem_map.1 hf2
      simp at hj
      unfold hasId mkF
      simp
      omega)
    have hft : ftL ((m : Int) + 1) fs id = (0, pre ++ [mkF id 0]) := by
      unfold ftL
      rw [hno, if_neg (by omega), hm]
      simp only
      rw [if_neg (by simp)]
      unfold hdR
      rw [hno2, if_pos (by omega)]
      rfl
    refine ⟨some id, pre, mkF id 0, hft, ⟨?_, ?_⟩, rfl, fun _ => ⟨rfl, rfl, hp⟩⟩
    · exact hp.append_right _
    · intro x hx; cases hx; exact hlow
theorem HI.held {m : Nat} {o : Option Nat} {fs : List Fr} (h : HI m o fs) : heldS fs = ((List.range m).map (fun i => i + 1) ++ o.toList).map Int.ofNat := by
  unfold heldS
  refine D.int_perm ?_ ?_
  · have := h.p.map (fun f => f.id)
    refine this.trans (List.Perm.of_eq ?_)
    simp only [pinL, oneL, List.map_append, List.map_map]
    congr 1
  · rw [List.pairwise_append]
    refine ⟨?_, ?_, ?_⟩
    · rw [List.pairwise_map]
      exact List.pairwise_lt_range.imp (fun h => by omega)
    · cases o <;> simp
    · intro a ha b hb
      obtain ⟨i, hi, rfl⟩ := List.mem_map.1 ha
      have := h.o b (by simpa using hb)
      simp at hi
      omega
end Go.Proofs.YtbklnadlbcndlaaGreat
namespace Go.Proofs.YtbklnadlbcndlaaGreat
set_option maxRecDepth 20000
open Go.RowKit
set_option linter.unusedVariables false
set_option linter.unusedSimpArgs false
theorem idx_some {fs : List Fr} {id : Int} (h : 0 ≤ idxF fs (hasId id)) : ∃ (i : Nat) (f : Fr), idxF fs (hasId id) = i ∧ fs[i]? = some f ∧ f.id = id := by
  obtain ⟨i, hi, hlt⟩ := idxF_lt (fs := fs) (pr := hasId id) (by omega)
  have hfi : fs.findIdx (hasId id) = i := by
    unfold idxF at hi
    split at hi
    · omega
    · omega
  refine ⟨i, fs[i], hi, List.getElem?_eq_getElem hlt, ?_⟩
  have := List.findIdx_getElem (xs := fs) (p := hasId id) (w := by rw [hfi]; exact hlt)
  simp only [hfi] at this
  unfold hasId at this
  simpa using this
theorem idx_none' {fs : List Fr} {id : Int} (h : idxF fs (hasId id) < 0) : ∀ f ∈ fs, f.id ≠ id := fun f hf e => by
  unfold idxF at h
  rw [if_pos (List.findIdx_lt_length_of_exists ⟨f, hf, by unfold hasId; simp [e]⟩)] at h
  omega
theorem Se.perm {T : Nat} {P P' : PS} {s : SS} {d : D.DS} {C : Cont} (h : Se T P s d C) (hp : P'.fs.Perm P.fs) (hl : P'.lim = P.lim) : Se T P' s d C :=
  ⟨h.cw, (hp.map _).nodup_iff.2 h.nd, fun f hf => h.fr f (hp.mem_iff.1 hf), fun id hid => h.no id (fun f hf => hid f (hp.mem_iff.2 hf)), fun f hf => h.pn f (hp.mem_iff.1 hf), by rw [hp.length_eq, hl]; exact h.ll, by rw [hl]; exact h.l0, h.st, h.ls⟩
theorem Se.hold {T : Nat} {P : PS} {s : SS} {d : D.DS} {C : Cont} (h : Se T P s d C) {id kd : Int} {zs : List Int} (hn : ∀ f ∈ P.fs, f.id ≠ id) (hl : (P.fs.length : Int) < P.lim) (hb : blkI s.c.tb id ≠ 0) (he : sealE kd id zs.length = 0) (hp : pgOf s.c.tb d.B id = some (kd, zs)) : Se T { P with fs := P.fs ++ [⟨id, kd, zs, 0, false⟩] } s d C := by
  have hC : C id = some (kd, zs) := (h.no id hn).trans hp
  refine ⟨h.cw, ?_, fun f hf => ?_, fun i hi => h.no i (fun f hf => hi f (by simp [hf])), fun f hf => ?_, by simp; omega, h.l0, h.st, h.ls⟩
  · rw [List.map_append, List.nodup_append]
    refine ⟨h.nd, by simp, fun x hx y hy => ?_⟩
    simp at hy
    obtain ⟨f, hf, rfl⟩ := List.mem_map.1 hx
    rw [hy]
    exact hn f hf
  · rcases List.mem_append.1 hf with hf | hf
    · exact h.fr f hf
    · simp at hf; subst hf; exact ⟨hb, he, hC, fun _ => hp⟩
  · rcases List.mem_append.1 hf with hf | hf
    · exact h.pn f hf
    · simp at hf; subst hf; rfl
theorem Se.reads {T : Nat} {P : PS} {s : SS} {d : D.DS} {C : Cont} (h : Se T P s d C) (n : Int) : Se T P s { d with reads := n } C :=
  ⟨h.cw.reads n, h.nd, h.fr, h.no, h.pn, h.ll, h.l0, h.st, h.ls⟩
theorem Se.miss {T : Nat} {P : PS} {s : SS} {d : D.DS} {C : Cont} (h : Se T P s d C) (a b : Int) : Se T { P with hits := a, miss := b } s d C := ⟨h.cw, h.nd, h.fr, h.no, h.pn, h.ll, h.l0, h.st, h.ls⟩
theorem op_sealed {zs : List Int} (h : opE zs = 0) : sealE (opK zs) (opI zs) (opB zs).length = 0 := by
  have hs : sealL (rdK zs) (rdI zs) (rdB zs) = zs ∧ zs.length = 256 := by
    unfold opE at h
    split at h
    · split at h
      · split at h
        · exact ⟨by assumption, by assumption⟩
        · simp at h
      · simp at h
    · simp at h
  unfold opK opI opB
  rw [if_pos h, if_pos h, if_pos h]
  have h1 := hs.1
  unfold sealL at h1
  split at h1
  · assumption
  · have h2 := hs.2
    rw [← h1] at h2
    simp at h2
theorem pg_seal {s : SS} {d : D.DS} (h : Cz s d) {id : Int} (hi : blkI s.c.tb id ≠ 0) : sealE (opK (d.B (blkI s.c.tb id).toNat)) id (opB (d.B (blkI s.c.tb id).toNat)).length = 0 := by
  obtain ⟨h1, h2⟩ := h.cpg id hi
  have := op_sealed h1
  rw [h2] at this
  exact this
theorem Se.fetch {T : Nat} {P : PS} {s : SS} {d : D.DS} {C : Cont} (h : Se T P s d C) (id : Int) :
    Se T (ftR P s d id).2.1 (ftR P s d id).2.2.1 (ftR P s d id).2.2.2 C ∧ Lst s d (ftR P s d id).2.2.1 (ftR P s d id).2.2.2 ∧ (ftR P s d id).2.1.lim = P.lim ∧ ((C id = none ∧ (ftR P s d id).1 = 8) ∨ ((ftR P s d id).1 = 0 ∧ ∃ pre g, (ftR P s d id).2.1.fs = pre ++ [g] ∧ g.id = id ∧ C id = some (g.kd, g.zs))) := by
  unfold ftR
  by_cases hx : 0 ≤ idxF P.fs (hasId id)
  · rw [if_pos hx]
    obtain ⟨i, f, hi, hf, hid⟩ := idx_some hx
    rw [hi, Int.toNat_natCast, hf]
    simp only [Option.toList_some]
    have hp := erase_perm hf
    refine ⟨h.perm (P' := { P with fs := P.fs.eraseIdx i ++ [f], hits := incI P.hits }) hp rfl, Lst.refl _ _, trivial, .inr ⟨trivial, _, f, rfl, hid, ?_⟩⟩
    rw [← hid]
    exact (h.fr f (List.mem_of_getElem? hf)).2.2.1
  · rw [if_neg hx]
    have hno := idx_none' (fs := P.fs) (id := id) (by omega)
    obtain ⟨m1, m2, m3, m4, m5⟩ := h.room
    rw [if_neg (by rw [m1]; simp)]
    generalize mrR P.lim P.fs s d = R at *
    obtain ⟨r1, r2, r3, r4⟩ := R
    simp only at m1 m2 m3 m4 m5 ⊢
    have hn2 := m5 id hno
    have hC : C id = pgOf r3.c.tb r4.B id := m2.no id hn2
    rcases m2.cw.cz.read id with ⟨q1, q2, q3⟩ | ⟨q1, q2, q3, q4, n, q5⟩
    · rw [if_pos (by rw [q2]; decide), q2, q3]
      exact ⟨m2.miss P.hits (incI P.miss), m3, rfl, .inl ⟨by rw [hC]; unfold pgOf; rw [if_pos q1], rfl⟩⟩
    · rw [if_neg (by rw [q2]; simp)]
      have hse := pg_seal m2.cw.cz q1
      have hkz : opK (r4.B (blkI r3.c.tb id).toNat) = rdKd r3 r4 id ∧ opB (r4.B (blkI r3.c.tb id).toNat) = rdBy r3 r4 id := by
        unfold pgOf at q3
        rw [if_neg q1] at q3
        simp at q3
        exact q3
      rw [hkz.1, hkz.2] at hse
      have hrd : rdR r3 r4 id = (r3, { r4 with reads := n }) := Prod.ext q4 q5
      have hhd : hdR r2 id (rdKd r3 r4 id) (rdBy r3 r4 id) = r2 ++ [⟨id, rdKd r3 r4 id, rdBy r3 r4 id, 0, false⟩] := by
        unfold hdR
        rw [if_pos]
        have : idxF r2 (hasId id) = -1 := idxF_none (fun m hm g hg => by
          unfold hasId
          simp
          exact hn2 g (List.mem_of_getElem? hg))
        omega
      rw [hrd, hhd]
      refine ⟨?_, ⟨m3.l, m3.lp, m3.ep, m3.bl⟩, rfl, .inr ⟨rfl, r2, _, rfl, rfl, hC.trans q3⟩⟩
      exact ((m2.hold hn2 m4 q1 hse q3).miss P.hits (incI P.miss)).reads n

theorem seal_any_id {kd id : Int} {n : Nat} (h : sealE kd 1 n = 0) (h1 : 0 ≤ id) (h2 : id ≤ 3000) : sealE kd id n = 0 := by
  obtain ⟨k1, k2, k3, k4, k5⟩ := sealE_zero h
  unfold sealE kindB idB at h ⊢
  simp only [k1, k2, k5, Bool.and_true, decide_true, if_true, Bool.true_and] at h ⊢
  rw [if_pos (by simp; omega)]
theorem Se.get {T : Nat} {P : PS} {s : SS} {d : D.DS} {C : Cont} (h : Se T P s d C) (id : Int) :
    (C id = none ∧ (ftR P s d id).1 ≠ 0) ∨ ((ftR P s d id).1 = 0 ∧ C id = some (gtK (ftR P s d id), gtB (ftR P s d id))) := by
  obtain ⟨h1, h2, h3, h4⟩ := h.fetch id
  rcases h4 with ⟨a, b⟩ | ⟨a, pre, g, b, c, e⟩
  · exact .inl ⟨a, by rw [b]; decide⟩
  · refine .inr ⟨a, ?_⟩
    unfold gtK gtB
    rw [if_pos a, if_pos a, b, lastF_snoc]
    exact e
theorem Se.set {T : Nat} {P : PS} {s : SS} {d : D.DS} {C : Cont} (h : Se T P s d C) (id kd : Int) (zs : List Int) :
    Lst s d (psR P s d id kd zs).2.2.1 (psR P s d id kd zs).2.2.2 ∧ (psR P s d id kd zs).2.1.lim = P.lim ∧ (((psR P s d id kd zs).1 ≠ 0 ∧ Se T (psR P s d id kd zs).2.1 (psR P s d id kd zs).2.2.1 (psR P s d id kd zs).2.2.2 C) ∨ ((psR P s d id kd zs).1 = 0 ∧ C id ≠ none ∧ Se T (psR P s d id kd zs).2.1 (psR P s d id kd zs).2.2.1 (psR P s d id kd zs).2.2.2 (C.put id (some (kd, zs))))) := by
  obtain ⟨h1, h2, h3, h4⟩ := h.fetch id
  unfold psR
  rcases h4 with ⟨a, b⟩ | ⟨a, pre, g, b, c, e⟩
  · rw [if_pos (by rw [b]; decide)]
    exact ⟨h2, h3, .inl ⟨by rw [b]; decide, h1⟩⟩
  · rw [if_neg (by simpa using a)]
    by_cases hs : sealE kd 1 zs.length = 0
    · rw [if_neg (by simpa using hs)]
      generalize ftR P s d id = R at *
      obtain ⟨r1, r2, r3, r4⟩ := R
      simp only at h1 h2 h3 a b ⊢
      refine ⟨h2, h3, .inr ⟨trivial, by rw [e]; simp, ?_⟩⟩
      rw [b, lastF_snoc, setLast_snoc]
      have hg := h1.fr g (by rw [b]; simp)
      rw [c] at hg
      obtain ⟨_, i1, i2⟩ := blk_mem hg.1
      have hle := h1.cw.cz.inv.core.ok.c.tb.len
      have hnd := h1.nd
      rw [b, List.map_append, List.nodup_append] at hnd
      have hpre : ∀ f ∈ pre, f.id ≠ id := fun f hf => by
        have := hnd.2.2 f.id (List.mem_map.2 ⟨f, hf, rfl⟩) g.id (by simp)
        rw [c] at this
        exact this
      refine ⟨h1.cw, ?_, fun f hf => ?_, fun i hi => ?_, fun f hf => ?_, ?_, h1.l0, h1.st, h1.ls⟩
      · have := h1.nd
        rw [b] at this
        simpa using this
      · rcases List.mem_append.1 hf with hf | hf
        · obtain ⟨f1, f2, f3, f4⟩ := h1.fr f (by rw [b]; simp [hf])
          refine ⟨f1, f2, ?_, f4⟩
          unfold Cont.put
          rw [if_neg (hpre f hf)]
          exact f3
        · simp at hf
          subst hf
          refine ⟨by rw [c]; exact hg.1, by rw [c]; exact seal_any_id hs (by omega) (by omega), ?_, fun hh => by cases hh⟩
          unfold Cont.put
          rw [if_pos c]
      · have hne : i ≠ id := fun e' => hi { g with kd := kd, zs := zs, dt := true } (by simp) (by rw [e']; exact c)
        unfold Cont.put
        rw [if_neg hne]
        exact h1.no i (fun f hf => by
          rw [b] at hf
          rcases List.mem_append.1 hf with hf | hf
          · exact hi f (by simp [hf])
          · simp at hf; subst hf; rw [c]; exact fun e' => hne e'.symm)
      · rcases List.mem_append.1 hf with hf | hf
        · exact h1.pn f (by rw [b]; simp [hf])
        · simp at hf; subst hf; exact h1.pn g (by rw [b]; simp)
      · have := h1.ll
        rw [b] at this
        simpa using this
    · rw [if_pos hs]
      exact ⟨h2, h3, .inl ⟨hs, h1⟩⟩
theorem Se.alloc {T : Nat} {P : PS} {s : SS} {d : D.DS} {C : Cont} (h : Se T P s d C) (kd : Int) (zs : List Int) (hT : T < 3000) (hb : 3 + 2 * (T + 1) + 2 * capN (T + 1) s.bl ≤ s.bl) :
    Lst s d (paR P s d kd zs).2.2.2.1 (paR P s d kd zs).2.2.2.2 ∧ (paR P s d kd zs).2.2.1.lim = P.lim ∧ (((paR P s d kd zs).2.1 ≠ 0 ∧ Se T (paR P s d kd zs).2.2.1 (paR P s d kd zs).2.2.2.1 (paR P s d kd zs).2.2.2.2 C) ∨ ((paR P s d kd zs).2.1 = 0 ∧ 1 ≤ (paR P s d kd zs).1 ∧ (paR P s d kd zs).1 ≤ T + 1 ∧ C (paR P s d kd zs).1 = none ∧ Se (T + 1) (paR P s d kd zs).2.2.1 (paR P s d kd zs).2.2.2.1 (paR P s d kd zs).2.2.2.2 (C.put (paR P s d kd zs).1 (some (kd, zs))))) := by
  obtain ⟨m1, m2, m3, m4, m5⟩ := h.room
  unfold paR
  rw [if_neg (by rw [m1]; simp)]
  generalize mrR P.lim P.fs s d = R at *
  obtain ⟨r1, r2, r3, r4⟩ := R
  simp only at m1 m2 m3 m4 m5 ⊢
  by_cases hs : sealE kd 1 zs.length = 0
  · obtain ⟨a1, a2, a3, a4, a5, a6, a7⟩ := m2.cw.alloc hs hT (by rw [m3.bl]; exact hb)
    rw [if_neg (by simpa using a1), a2]
    simp only
    have hz : blkI r3.c.tb (spareN r3.c.tb : Nat) = 0 := zero_blk
    have hn : ∀ f ∈ r2, f.id ≠ (spareN r3.c.tb : Nat) := fun f hf e => by
      have := (m2.fr f hf).1
      rw [e] at this
      exact this hz
    have hC : C (spareN r3.c.tb : Nat) = none := by
      rw [m2.no _ hn]; unfold pgOf; rw [if_pos hz]
    have hhd : hdR r2 (spareN r3.c.tb : Nat) kd zs = r2 ++ [⟨(spareN r3.c.tb : Nat), kd, zs, 0, false⟩] := by
      unfold hdR
      rw [if_pos]
      have : idxF r2 (hasId (spareN r3.c.tb : Nat)) = -1 := idxF_none (fun m hm g hg => by
        unfold hasId
        simp
        exact hn g (List.mem_of_getElem? hg))
      omega
    have hsp : 1 ≤ spareN r3.c.tb ∧ spareN r3.c.tb ≤ T + 1 := by
      have := zeroAt_le r3.c.tb
      have := m2.cw.tb
      unfold spareN
      omega
    rw [hhd]
    refine ⟨m3.trans ⟨a3.l, a3.lp, a5, a6⟩, trivial, .inr ⟨trivial, by omega, by omega, hC, ?_⟩⟩
    have hbk : ∀ id, blkI r3.c.tb id ≠ 0 → blkI (allocR r3 r4 kd zs).1.c.tb id ≠ 0 := fun id hid e => by
      have hp := a3.pg id
      have hc : pgOf r3.c.tb r4.B id ≠ none := by unfold pgOf; rw [if_neg hid]; simp
      have hz' : pgOf (allocR r3 r4 kd zs).1.c.tb (allocR r3 r4 kd zs).2.B id = none := by unfold pgOf; rw [if_pos e]
      rw [hz'] at hp
      by_cases ei : id = (spareN r3.c.tb : Nat)
      · rw [if_pos ei] at hp; cases hp
      · rw [if_neg ei] at hp; exact hc hp.symm
    have hbn : blkI (allocR r3 r4 kd zs).1.c.tb (spareN r3.c.tb : Nat) ≠ 0 := fun e => by
      have hp := a3.pg (spareN r3.c.tb : Nat)
      have hz' : pgOf (allocR r3 r4 kd zs).1.c.tb (allocR r3 r4 kd zs).2.B (spareN r3.c.tb : Nat) = none := by unfold pgOf; rw [if_pos e]
      rw [hz', if_pos rfl] at hp
      cases hp
    refine ⟨a4, ?_, fun f hf => ?_, fun i hi => ?_, fun f hf => ?_, by simp; omega, m2.l0, a7.trans m2.st, by rw [a3.l]; exact m2.ls⟩
    · rw [List.map_append, List.nodup_append]
      refine ⟨m2.nd, by simp, fun x hx y hy => ?_⟩
      simp at hy
      obtain ⟨f, hf, rfl⟩ := List.mem_map.1 hx
      rw [hy]
      exact hn f hf
    · unfold Cont.put
      rcases List.mem_append.1 hf with hf | hf
      · obtain ⟨f1, f2, f3, f4⟩ := m2.fr f hf
        refine ⟨hbk _ f1, f2, by rw [if_neg (hn f hf)]; exact f3, fun hd => ?_⟩
        rw [a3.pg, if_neg (hn f hf)]
        exact f4 hd
      · simp at hf
        subst hf
        exact ⟨hbn, seal_any_id hs (show (0 : Int) ≤ (spareN r3.c.tb : Nat) by omega) (show ((spareN r3.c.tb : Nat) : Int) ≤ 3000 by omega), by rw [if_pos rfl], fun _ => by rw [a3.pg, if_pos rfl]⟩
    · have hne : i ≠ (spareN r3.c.tb : Nat) := fun e' => hi ⟨(spareN r3.c.tb : Nat), kd, zs, 0, false⟩ (by simp) e'.symm
      unfold Cont.put
      rw [if_neg hne, a3.pg, if_neg hne]
      exact m2.no i (fun f hf => hi f (by simp [hf]))
    · rcases List.mem_append.1 hf with hf | hf
      · exact m2.pn f hf
      · simp at hf; subst hf; rfl
  · have hE : allocE r3 r4 kd zs ≠ 0 := by
      unfold allocE
      rw [m2.cw.cz.bad, if_neg (by simp), if_pos hs]
      exact hs
    have hR : allocR r3 r4 kd zs = (r3, r4) := by
      unfold allocR
      rw [if_pos (.inr (.inl hs))]
    rw [if_pos hE, hR]
    exact ⟨m3, rfl, .inl ⟨hE, m2⟩⟩
theorem Se.free {T : Nat} {P : PS} {s : SS} {d : D.DS} {C : Cont} (h : Se T P s d C) (id : Int) (h0 : id ≠ 0 ∨ True) :
    Lst s d (pfR P s d id).2.2.1 (pfR P s d id).2.2.2 ∧ (pfR P s d id).2.1.lim = P.lim ∧ (((pfR P s d id).1 ≠ 0 ∧ C id = none ∧ Se T (pfR P s d id).2.1 (pfR P s d id).2.2.1 (pfR P s d id).2.2.2 C) ∨ ((pfR P s d id).1 = 0 ∧ C id ≠ none ∧ Se T (pfR P s d id).2.1 (pfR P s d id).2.2.1 (pfR P s d id).2.2.2 (C.put id none))) := by
  have hpin : ¬ (0 ≤ idxF P.fs (hasId id) ∧ 0 < ((P.fs[(idxF P.fs (hasId id)).toNat]?).getD ⟨0, 0, [], 0, false⟩).pn) := fun hh => by
    obtain ⟨i, f, hi, hf, hid⟩ := idx_some hh.1
    have := hh.2
    rw [hi, Int.toNat_natCast, hf] at this
    simp only [Option.getD_some] at this
    rw [h.pn f (List.mem_of_getElem? hf)] at this
    omega
  unfold pfR
  rw [if_neg hpin]
  obtain ⟨hfe, hfn⟩ := h.cw.cz.find id
  by_cases hb : blkI s.c.tb id = 0
  · rw [if_pos hb] at hfe
    have hr : frR s d id = (8, s, d) := by unfold frR; rw [hfe]; rfl
    rw [hr, if_pos (by simp)]
    have hn : ∀ f ∈ P.fs, f.id ≠ id := fun f hf e => by
      have := (h.fr f hf).1
      rw [e] at this
      exact this hb
    exact ⟨Lst.refl _ _, rfl, .inl ⟨by simp, by rw [h.no id hn]; unfold pgOf; rw [if_pos hb], h⟩⟩
  · obtain ⟨_, i1, i2⟩ := blk_mem hb
    obtain ⟨f1, f2, f3, f4, f5, f6, f7⟩ := h.cw.free hb (by rw [h.st]; omega)
    rw [if_neg (by simpa using f1)]
    have hCid : C id ≠ none := by
      by_cases hx : ∃ f ∈ P.fs, f.id = id
      · obtain ⟨f, hf, rfl⟩ := hx
        rw [(h.fr f hf).2.2.1]; simp
      · rw [h.no id (fun f hf e => hx ⟨f, hf, e⟩)]; unfold pgOf; rw [if_neg hb]; simp
    refine ⟨⟨f3.l, f3.lp, f5, f6⟩, rfl, .inr ⟨rfl, hCid, ?_⟩⟩
    have hsub : ∀ f ∈ (if 0 ≤ idxF P.fs (hasId id) then P.fs.eraseIdx (idxF P.fs (hasId id)).toNat else P.fs), f ∈ P.fs ∧ f.id ≠ id := fun f hf => by
      by_cases hx : 0 ≤ idxF P.fs (hasId id)
      · rw [if_pos hx] at hf
        obtain ⟨i, g, hi, hg, hid⟩ := idx_some hx
        rw [hi, Int.toNat_natCast] at hf
        refine ⟨List.mem_of_mem_eraseIdx hf, fun e => ?_⟩
        have hnd := ((erase_perm hg).map (fun f => f.id)).nodup_iff.2 h.nd
        rw [List.map_append, List.nodup_append] at hnd
        exact hnd.2.2 f.id (List.mem_map.2 ⟨f, hf, rfl⟩) g.id (by simp) (e.trans hid.symm)
      · rw [if_neg hx] at hf
        exact ⟨hf, idx_none' (by omega) f hf⟩
    have hsup : ∀ f ∈ P.fs, f.id ≠ id → f ∈ (if 0 ≤ idxF P.fs (hasId id) then P.fs.eraseIdx (idxF P.fs (hasId id)).toNat else P.fs) := fun f hf hne => by
      by_cases hx : 0 ≤ idxF P.fs (hasId id)
      · rw [if_pos hx]
        obtain ⟨i, g, hi, hg, hid⟩ := idx_some hx
        rw [hi, Int.toNat_natCast]
        have := (erase_perm hg).mem_iff.2 hf
        rcases List.mem_append.1 this with h' | h'
        · exact h'
        · simp at h'; subst h'; exact absurd hid hne
      · rw [if_neg hx]; exact hf
    have hsl : (if 0 ≤ idxF P.fs (hasId id) then P.fs.eraseIdx (idxF P.fs (hasId id)).toNat else P.fs).Sublist P.fs := by
      split
      · exact List.eraseIdx_sublist _ _
      · exact List.Sublist.refl _
    have hbk : ∀ i, i ≠ id → blkI s.c.tb i ≠ 0 → blkI (frR s d id).2.1.c.tb i ≠ 0 := fun i hne hi e => by
      have hp := f3.pg i
      have hz' : pgOf (frR s d id).2.1.c.tb (frR s d id).2.2.B i = none := by unfold pgOf; rw [if_pos e]
      rw [hz', if_neg hne] at hp
      unfold pgOf at hp
      rw [if_neg hi] at hp
      cases hp
    refine ⟨f4, h.nd.sublist (hsl.map _), fun f hf => ?_, fun i hi => ?_, fun f hf => h.pn f (hsub f hf).1, ?_, h.l0, f7.trans h.st, by rw [f3.l]; exact h.ls⟩
    · obtain ⟨hf1, hf2⟩ := hsub f hf
      obtain ⟨g1, g2, g3, g4⟩ := h.fr f hf1
      unfold Cont.put
      refine ⟨hbk _ hf2 g1, g2, by rw [if_neg hf2]; exact g3, fun hd => ?_⟩
      rw [f3.pg, if_neg hf2]
      exact g4 hd
    · unfold Cont.put
      rw [f3.pg]
      by_cases e : i = id
      · rw [if_pos e, if_pos e]
      · rw [if_neg e, if_neg e]
        exact h.no i (fun f hf e' => hi f (hsup f hf (by rw [e']; exact e)) e')
    · have h1 := hsl.length_le
      have h2 := h.ll
      exact Int.le_trans (Int.ofNat_le.2 h1) h2
end Go.Proofs.YtbklnadlbcndlaaGreat
namespace Go.Proofs.YtbklnadlbcndlaaGreat
set_option maxRecDepth 20000
open Go.RowKit
set_option linter.unusedVariables false
set_option linter.unusedSimpArgs false
theorem Se.flush {T : Nat} {C : Cont} : ∀ (ids : List Int) {P : PS} {s : SS} {d : D.DS}, Se T P s d C →
    (flL ids P.fs s d).1 = 0 ∧ Se T { P with fs := (flL ids P.fs s d).2.1 } (flL ids P.fs s d).2.2.1 (flL ids P.fs s d).2.2.2 C ∧ Lst s d (flL ids P.fs s d).2.2.1 (flL ids P.fs s d).2.2.2 ∧ (∀ f ∈ (flL ids P.fs s d).2.1, f.dt = true → f ∈ P.fs ∧ f.id ∉ ids)
  | [], P, s, d, h => ⟨rfl, h, Lst.refl _ _, fun f hf _ => ⟨hf, by simp⟩⟩
  | id :: ids, P, s, d, h => by
    obtain ⟨c1, c2, c3, c4, c5⟩ := h.clean (idxF P.fs (hasId id)).toNat
    have hids := clR_ids P.fs s d (idxF P.fs (hasId id)).toNat
    unfold flL
    rw [if_neg (by rw [c1]; simp)]
    have hdirty : ∀ f ∈ (clR P.fs s d (idxF P.fs (hasId id)).toNat).2.1, f.dt = true → f ∈ P.fs ∧ f.id ≠ id := fun f hf hd => by
      rw [List.mem_iff_getElem?] at hf
      obtain ⟨j, hj⟩ := hf
      by_cases e : j = (idxF P.fs (hasId id)).toNat
      · rw [e] at hj
        rw [c4 f hj] at hd
        cases hd
      · have hj' : P.fs[j]? = some f := by rw [← c5 j e]; exact hj
        refine ⟨List.mem_of_getElem? hj', fun hid => ?_⟩
        have hx : 0 ≤ idxF P.fs (hasId id) := by
          rcases Int.lt_or_le (idxF P.fs (hasId id)) 0 with h' | h'
          · exact absurd hid (idx_none' h' f (List.mem_of_getElem? hj'))
          · exact h'
        obtain ⟨i, g, hi, hg, hgid⟩ := idx_some hx
        have := nd_get h.nd hj' hg (hid.trans hgid.symm)
        rw [hi, Int.toNat_natCast] at e
        exact e this
    generalize clR P.fs s d (idxF P.fs (hasId id)).toNat = R at *
    obtain ⟨r1, r2, r3, r4⟩ := R
    simp only at c1 c2 c3 hdirty ⊢
    obtain ⟨f1, f2, f3, f4⟩ := Se.flush ids c2
    refine ⟨f1, f2, c3.trans f3, fun f hf hd => ?_⟩
    obtain ⟨g1, g2⟩ := f4 f hf hd
    obtain ⟨g3, g4⟩ := hdirty f g1 hd
    exact ⟨g3, by simp; exact ⟨g4, g2⟩⟩
theorem Se.commit {T : Nat} {P : PS} {s : SS} {d : D.DS} {C : Cont} (h : Se T P s d C) (hb : 2 ≤ s.bl) (he : s.ep < 1099511627776) :
    (pcR P s d).1 = 0 ∧ (pcR P s d).2.1.lim = P.lim ∧ Se T (pcR P s d).2.1 (pcR P s d).2.2.1 (pcR P s d).2.2.2 C ∧ (∀ i, pgOf (pcR P s d).2.2.1.l.tb (pcR P s d).2.2.2.B i = C i) ∧ (pcR P s d).2.2.1.ep ≤ s.ep + 1 ∧ (pcR P s d).2.2.1.bl = s.bl := by
  obtain ⟨f1, f2, f3, f4⟩ := Se.flush (heldS P.fs) h
  have hcl : ∀ f ∈ (flL (heldS P.fs) P.fs s d).2.1, f.dt = false := fun f hf => by
    cases hd : f.dt
    · rfl
    · obtain ⟨g1, g2⟩ := f4 f hf hd
      exact absurd (by unfold heldS; rw [List.mem_mergeSort]; exact List.mem_map.2 ⟨f, g1, rfl⟩) g2
  unfold pcR
  rw [if_neg (by rw [f1]; simp)]
  generalize flL (heldS P.fs) P.fs s d = R at *
  obtain ⟨r1, r2, r3, r4⟩ := R
  simp only at f1 f2 f3 hcl ⊢
  have hC : ∀ i, C i = pgOf r3.c.tb r4.B i := fun i => by
    by_cases hx : ∃ f ∈ r2, f.id = i
    · obtain ⟨f, hf, rfl⟩ := hx
      obtain ⟨g1, g2, g3, g4⟩ := f2.fr f hf
      rw [g3, g4 (hcl f hf)]
    · exact f2.no i (fun f hf e => hx ⟨f, hf, e⟩)
  obtain ⟨k1, k2, k3, k4, k5, k6, k7⟩ := f2.cw.commit (by rw [f3.bl]; exact hb) (by rw [f3.ep]; exact he)
  refine ⟨k1, trivial, ⟨k4, f2.nd, fun f hf => ?_, fun i hi => by rw [k2]; exact hC i, f2.pn, f2.ll, f2.l0, k7.trans f2.st, ?_⟩, fun i => by rw [k3, hC], by rw [← f3.ep]; exact k5, k6.trans f3.bl⟩
  · obtain ⟨g1, g2, g3, g4⟩ := f2.fr f hf
    refine ⟨fun e => ?_, g2, g3, fun hd => by rw [k2]; exact g4 hd⟩
    have hp := k2 f.id
    have hz : pgOf (comR r3 r4 (us2S r3)).2.1.c.tb (comR r3 r4 (us2S r3)).2.2.B f.id = none := by unfold pgOf; rw [if_pos e]
    rw [hz, ← hC, g3] at hp
    cases hp
  · have hk := f2.cw.check (by rw [f3.bl]; exact hb) (by rw [f3.ep]; exact he)
    cases hd : r3.c.dt
    · have e : comR r3 r4 (us2S r3) = (0, r3, r4) := by unfold comR; rw [f2.cw.cz.bad, hd]; rfl
      rw [e]; exact f2.ls
    · obtain ⟨e1, e2, e3⟩ := f2.cw.cz.calm.commit f2.cw.cz.room (by rw [f3.bl]; exact hb) f2.cw.cz.bad hd f2.cw.cz.inv.core.ok.e0 (us2S r3) hk
      rw [if_neg (by have := f2.cw.room.1; omega)] at e2
      rw [e2]
      exact f2.st
theorem Se.abort {T : Nat} {P : PS} {s : SS} {d : D.DS} {C : Cont} (h : Se T P s d C) :
    (abR s d).1 = 0 ∧ Se T { P with fs := [] } (abR s d).2.1 (abR s d).2.2 (fun i => pgOf s.l.tb d.B i) ∧ Lst s d (abR s d).2.1 (abR s d).2.2 := by
  obtain ⟨a1, a2, a3⟩ := h.cw.abort
  rw [a1]
  refine ⟨rfl, ⟨a3, by simp, by simp, fun id _ => rfl, by simp, by have := h.l0; simp; omega, h.l0, h.ls, h.ls⟩, ⟨rfl, fun _ => rfl, rfl, rfl⟩⟩
end Go.Proofs.YtbklnadlbcndlaaGreat
namespace Go.Proofs.YtbklnadlbcndlaaGreat
set_option maxRecDepth 20000
open Go.RowKit
set_option linter.unusedVariables false
set_option linter.unusedSimpArgs false
def StrB (w : World) (b : Nat) (l : List ByteArray) : Prop := w.heap[b]? = some (.cells (l.map Value.string).toArray 9 (0, 0))
theorem StrB.cell {w : World} {b : Nat} {l : List ByteArray} (h : StrB w b l) {i : Nat} {v : Value} (hc : w.cell? ⟨b, i, none⟩ = some v) : ∃ s, v = .string s := by
  rw [cell_of_row _ _ _ _ _ _ h] at hc
  simp at hc
  obtain ⟨s, _, rfl⟩ := hc
  exact ⟨s, rfl⟩
theorem StrB.ni {w : World} {b : Nat} {l : List ByteArray} (h : StrB w b l) {a : Option Addr} {zs : List Int} (hv : IV w a zs) : zs ≠ [] → ∀ b' off, a = some ⟨b', off, none⟩ → b' ∉ [b] := fun hn b' off e hm => by
  simp at hm
  subst hm
  rcases hv with h0 | ⟨b2, off2, e2, _, hc⟩
  · exact hn h0
  · rw [e] at e2
    cases e2
    obtain ⟨s, hs⟩ := h.cell (hc 0 (List.length_pos_iff.2 hn))
    cases hs
theorem StrB.nb {w : World} {b : Nat} {l : List ByteArray} (h : StrB w b l) {a : Option Addr} {zs : List Int} (hv : BV w a zs) : zs ≠ [] → ∀ b' off, a = some ⟨b', off, none⟩ → b' ∉ [b] := fun hn b' off e hm => by
  simp at hm
  subst hm
  rcases hv.2 with h0 | ⟨b2, off2, e2, _, hc⟩
  · exact hn h0
  · rw [e] at e2
    cases e2
    obtain ⟨s, hs⟩ := h.cell (hc 0 (List.length_pos_iff.2 hn))
    cases hs
theorem FI.strs {w w' : World} {X : List Nat} {v : Value} {zs : List Int} {b : Nat} {l : List ByteArray} (h : FI w X v zs) (hs : StrB w b l) (ho : D.Off [b] w w') : FI w' X v zs := by
  obtain ⟨a, cap, e, h0, h1, h2, h3, h4⟩ := h
  exact ⟨a, cap, e, h0, h1, h2, h3.offX ho (hs.ni h3), h4⟩
theorem FB.strs {w w' : World} {X : List Nat} {v : Value} {zs : List Int} {b : Nat} {l : List ByteArray} (h : FB w X v zs) (hs : StrB w b l) (ho : D.Off [b] w w') : FB w' X v zs := by
  obtain ⟨a, cap, e, h0, h1, h2, h3, h4⟩ := h
  exact ⟨a, cap, e, h0, h1, h2, h3.offX ho (hs.nb h3), h4⟩
theorem Bx.strs {w w' : World} {k : Pl} {sb db nx b : Nat} {l : List ByteArray} (h : Bx w k sb db nx) (hs : StrB w b l) (ho : D.Off [b] w w') : Bx w' k sb db nx := by
  obtain ⟨h1, h2, h3, h4, h5, h6, h7, h8, h9, h10⟩ := h
  have q : ∀ c v, c < w.heap.size → w.cell? ⟨c, 0, none⟩ = some v → (∀ s, v ≠ .string s) → w'.cell? ⟨c, 0, none⟩ = some v := fun c v hc hv hn => by
    have : c ∉ [b] := fun hm => by
      simp at hm
      subst hm
      obtain ⟨s, e⟩ := hs.cell hv
      exact hn s e
    exact (off_cell ho hc this 0).trans hv
  exact ⟨q _ _ h4 h1 (fun _ e => by cases e), q _ _ h5 h2 (fun _ e => by cases e), q _ _ h6 h3 (fun _ e => by cases e), Nat.lt_of_lt_of_le h4 ho.size, Nat.lt_of_lt_of_le h5 ho.size, Nat.lt_of_lt_of_le h6 ho.size, h7, h8, h9, fun x hx => Nat.lt_of_lt_of_le (h10 x hx) ho.size⟩
theorem Mi.strs {w0 w w' : World} {k : Pl} {s : SS} {d : D.DS} {b : Nat} {l : List ByteArray} (h : Mi w0 w k s d) (hs : StrB w b l) (ho : D.Off [b] w w') (hb : w0.heap.size ≤ b) : Mi w0 w' k s d := by
  obtain ⟨⟨t, f, t', f', u, sb, db, nx, hx⟩, inv, room, up, be⟩ := h
  have hp := hx.m.v
  have hs' := hs
  unfold ShV ShB at hp
  unfold StrB at hs'
  have hpn : k.p ∉ [b] := by simp; rintro rfl; rw [hs'] at hp; simp at hp
  have hdk : D.Dk w' k.dp k.nb k.mb d := by
    have hk := hx.dk
    obtain ⟨_, cap, set, after, done, flat, d1, d2, _, _, d5, _⟩ := hk
    obtain ⟨DD, ⟨es, clock, hmb, _⟩, _⟩ := d5
    unfold D.DkB at d1
    exact hx.dk.off ho (by simp; rintro rfl; rw [hs'] at d1; simp at d1) (by simp; rintro rfl; rw [hs'] at d2; simp at d2) (by simp; rintro rfl; rw [hs'] at hmb; simp at hmb)
  exact ⟨⟨t, f, t', f', u, sb, db, nx, hdk, hx.pn, ⟨(ho.block k.p hx.m.v.lt hpn).trans hx.m.v, hx.m.ht.strs hs ho, hx.m.hf.strs hs ho, hx.m.ht'.strs hs ho, hx.m.hf'.strs hs ho, hx.m.hu.strs hs ho, hx.m.hb.strs hs ho⟩⟩, inv, room, up, be.trans (ho.below be.size (by simp; exact hb))⟩
theorem Pi.strs {w0 w w' : World} {q : Nat} {k : Pl} {P : PS} {s : SS} {d : D.DS} {b : Nat} {l : List ByteArray} (h : Pi w0 w q k P s d) (hs : StrB w b l) (ho : D.Off [b] w w') (hb : w0.heap.size ≤ b) : Pi w0 w' q k P s d := by
  obtain ⟨L, row, hP, hq⟩ := h
  have hs' := hs
  unfold StrB at hs'
  have hpb := hq.po.pb
  unfold PoB at hpb
  refine ⟨L, row, hP, ⟨⟨hq.po.pb.off ho (by simp; rintro rfl; rw [hs'] at hpb; simp at hpb), hq.po.rb.off ho (fun g hg => ?_), hq.po.rz, fun x hx => ?_, hq.po.bz, hq.po.qz, hq.po.nd, hq.po.zk, hq.po.up, hq.po.ll, hq.po.l0, hq.po.l1⟩, hq.mi.strs hs ho hb⟩⟩
  · obtain ⟨cur, hc⟩ := hq.po.rb.at hg
    simp
    rintro rfl
    rw [hs'] at hc
    simp at hc
  · obtain ⟨v, h1, h2⟩ := hq.po.fr x hx
    have h1' := h1
    unfold FrB at h1'
    refine ⟨v, h1.off ho ?_, h2.strs hs ho⟩
    simp
    intro e
    rw [e, hs'] at h1'
    simp at h1'
end Go.Proofs.YtbklnadlbcndlaaGreat
namespace Go.Proofs.YtbklnadlbcndlaaGreat
set_option maxRecDepth 100000
open Go.RowKit
set_option linter.unusedVariables false
set_option linter.unusedSimpArgs false
def Vw (w0 : World) (q : Nat) (n : Int) (T E : Nat) (C L : Cont) (bs : List Nat) (w : World) : Prop :=
  ∃ k P s d, Se T P s d C ∧ Pi w0 w q k P s d ∧ (∀ b ∈ bs, b ∉ k.X ∧ b < w.heap.size) ∧ (∀ i, pgOf s.l.tb d.B i = L i) ∧ s.bl = 200 ∧ s.ep ≤ E ∧ P.lim = n
def Stay (bs : List Nat) (w w' : World) : Prop := ∀ b ∈ bs, w'.heap[b]? = w.heap[b]?
theorem nx_bs {w w' : World} {k k' : Pl} {bs : List Nat} (hx : Nx w w' k k') (h : ∀ b ∈ bs, b ∉ k.X ∧ b < w.heap.size) : (∀ b ∈ bs, b ∉ k'.X ∧ b < w'.heap.size) ∧ Stay bs w w' := by
  obtain ⟨⟨ys, rfl, hy⟩, ho⟩ := hx
  exact ⟨fun b hb => ⟨more_mem hy (h b hb).2 (h b hb).1, Nat.lt_of_lt_of_le (h b hb).2 ho.size⟩, fun b hb => ho.block b (h b hb).2 (h b hb).1⟩
theorem Pi.up {w0 w : World} {q : Nat} {k : Pl} {P : PS} {s : SS} {d : D.DS} (h : Pi w0 w q k P s d) : ∀ x ∈ k.X, w0.heap.size ≤ x := by
  obtain ⟨L, row, _, hq⟩ := h
  exact hq.mi.up
theorem old_fb {w0 w : World} {q : Nat} {k : Pl} {P : PS} {s : SS} {d : D.DS} (h : Pi w0 w q k P s d) {a : Option Addr} {c : Nat} {zs : List Int} (hv : BV w0 a zs) (hn : a = none → c = 0) (h1 : zs.length ≤ c) (h2 : c ≤ 9223372036854775807) : FB w k.X (.slice a zs.length c) zs := by
  refine ⟨a, c, rfl, hn, h1, h2, hv.below h.be, fun hne b off e hm => ?_⟩
  rcases hv.2 with h0 | ⟨b2, off2, e2, hlt, _⟩
  · exact hne h0
  · rw [e] at e2
    cases e2
    have := h.up _ hm
    omega
theorem Se.short {T : Nat} {P : PS} {s : SS} {d : D.DS} {C : Cont} (h : Se T P s d C) : ShortF P.fs := fun f hf => by
  have := (sealE_zero (h.fr f hf).2.1).2.2.2.2
  omega
theorem Se.dom {T : Nat} {P : PS} {s : SS} {d : D.DS} {C : Cont} (h : Se T P s d C) {id : Int} (hc : C id ≠ none) : 1 ≤ id ∧ id ≤ T := by
  have hb : blkI s.c.tb id ≠ 0 := by
    by_cases hx : ∃ f ∈ P.fs, f.id = id
    · obtain ⟨f, hf, rfl⟩ := hx
      exact (h.fr f hf).1
    · intro e
      rw [h.no id (fun f hf e => hx ⟨f, hf, e⟩)] at hc
      unfold pgOf at hc
      rw [if_pos e] at hc
      exact hc rfl
  have := (blk_mem hb).2
  have := h.cw.tb
  omega
theorem big200 {T : Nat} (h : T ≤ 40) : 3 + 2 * T + 2 * capN T 200 ≤ 200 := by
  unfold capN nPages B.makeN
  omega
theorem Se.more {T : Nat} {P : PS} {s : SS} {d : D.DS} {C : Cont} (h : Se T P s d C) (hb : s.bl = 200) (hT : T + 1 ≤ 40) : Se (T + 1) P s d C :=
  ⟨h.cw.more (by omega) (by rw [hb]; exact big200 hT), h.nd, h.fr, h.no, h.pn, h.ll, h.l0, h.st, h.ls⟩
theorem Vw.more {w0 w : World} {q : Nat} {n : Int} {T E : Nat} {C L : Cont} {bs : List Nat} (h : Vw w0 q n T E C L bs w) (hT : T + 1 ≤ 40) : Vw w0 q n (T + 1) (E + 1) C L bs w := by
  obtain ⟨k, P, s, d, h1, h2, h3, h4, h5, h6, h7⟩ := h
  exact ⟨k, P, s, d, h1.more h5 hT, h2, h3, h4, h5, by omega, h7⟩
theorem Vw.be {w0 w : World} {q : Nat} {n : Int} {T E : Nat} {C L : Cont} {bs : List Nat} (h : Vw w0 q n T E C L bs w) : Below w0.heap.size w0 w := by
  obtain ⟨k, P, s, d, h1, h2, _⟩ := h
  exact h2.be
theorem Vw.below {w0 w w' : World} {q : Nat} {n : Int} {T E : Nat} {C L : Cont} {bs : List Nat} (h : Vw w0 q n T E C L bs w) (hb : Below w.heap.size w w') : Vw w0 q n T E C L bs w' := by
  obtain ⟨k, P, s, d, h1, h2, h3, h4⟩ := h
  exact ⟨k, P, s, d, h1, h2.below hb, fun b hb' => ⟨(h3 b hb').1, Nat.lt_of_lt_of_le (h3 b hb').2 hb.size⟩, h4⟩
theorem Vw.add {w0 w w' : World} {q : Nat} {n : Int} {T E : Nat} {C L : Cont} {bs : List Nat} (h : Vw w0 q n T E C L bs w) (hb : Below w.heap.size w w') {b : Nat} (h1 : w.heap.size ≤ b) (h2 : b < w'.heap.size) : Vw w0 q n T E C L (b :: bs) w' := by
  obtain ⟨k, P, s, d, g1, g2, g3, g4⟩ := h.below hb
  obtain ⟨k', P', s', d', e1, e2, e3, e4⟩ := h
  refine ⟨k', P', s', d', e1, e2.below hb, fun x hx => ?_, e4⟩
  rcases List.mem_cons.1 hx with rfl | hx
  · exact ⟨fun hm => by have := e2.lt _ hm; omega, h2⟩
  · exact ⟨(e3 x hx).1, Nat.lt_of_lt_of_le (e3 x hx).2 hb.size⟩
theorem Vw.strs {w0 w w' : World} {q : Nat} {n : Int} {T E : Nat} {C L : Cont} {bs : List Nat} {b : Nat} {l : List ByteArray} (h : Vw w0 q n T E C L bs w) (hs : StrB w b l) (ho : D.Off [b] w w') (hb : w0.heap.size ≤ b) : Vw w0 q n T E C L bs w' := by
  obtain ⟨k, P, s, d, h1, h2, h3, h4⟩ := h
  exact ⟨k, P, s, d, h1, h2.strs hs ho hb, fun x hx => ⟨(h3 x hx).1, Nat.lt_of_lt_of_le (h3 x hx).2 ho.size⟩, h4⟩
theorem s_set {w0 w : World} {q : Nat} {n : Int} {T E : Nat} {C L : Cont} {bs : List Nat} (h : Vw w0 q n T E C L bs w) (id kd : Int) (a : Option Addr) (c : Nat) (zs : List Int) (hv : BV w0 a zs) (hn : a = none → c = 0) (h1 : zs.length ≤ c) (h2 : c ≤ 9223372036854775807) :
    Calls Tryz.prog 17 #[pf q, .int .i64 id, .int .i64 kd, .slice a zs.length c] w fun e w' => ∃ er C', e = .returned (.int .i64 er) ∧ Vw w0 q n T E C' L bs w' ∧ Stay bs w w' ∧ ((er ≠ 0 ∧ C' = C) ∨ (er = 0 ∧ 1 ≤ id ∧ id ≤ T ∧ C' = C.put id (some (kd, zs)))) := by
  obtain ⟨k, P, s, d, g1, g2, g3, g4, g5, g6, g7⟩ := h
  refine (pset_any id kd a c zs g2 (old_fb g2 hv hn h1 h2)).mono ?_
  rintro e w' ⟨k', rfl, hp, hx⟩
  obtain ⟨b1, b2⟩ := nx_bs hx g3
  obtain ⟨s1, s2, s3⟩ := g1.set id kd zs
  have hl : ∀ i, pgOf (psR P s d id kd zs).2.2.1.l.tb (psR P s d id kd zs).2.2.2.B i = L i := fun i => by rw [s1.l, s1.lp, g4]
  rcases s3 with ⟨c1, c2⟩ | ⟨c1, c2, c3⟩
  · exact ⟨_, C, rfl, ⟨k', _, _, _, c2, hp, b1, hl, s1.bl.trans g5, by rw [s1.ep]; exact g6, s2.trans g7⟩, b2, .inl ⟨c1, rfl⟩⟩
  · exact ⟨_, _, rfl, ⟨k', _, _, _, c3, hp, b1, hl, s1.bl.trans g5, by rw [s1.ep]; exact g6, s2.trans g7⟩, b2, .inr ⟨c1, (g1.dom c2).1, (g1.dom c2).2, rfl⟩⟩
theorem s_free {w0 w : World} {q : Nat} {n : Int} {T E : Nat} {C L : Cont} {bs : List Nat} (h : Vw w0 q n T E C L bs w) (id : Int) :
    Calls Tryz.prog 18 #[pf q, .int .i64 id] w fun e w' => ∃ er C', e = .returned (.int .i64 er) ∧ Vw w0 q n T E C' L bs w' ∧ Stay bs w w' ∧ ((er ≠ 0 ∧ C' = C) ∨ (er = 0 ∧ 1 ≤ id ∧ id ≤ T ∧ C' = C.put id none)) := by
  obtain ⟨k, P, s, d, g1, g2, g3, g4, g5, g6, g7⟩ := h
  refine (pfree_any id g2).mono ?_
  rintro e w' ⟨rfl, hp, hx⟩
  obtain ⟨b1, b2⟩ := nx_bs hx g3
  obtain ⟨s1, s2, s3⟩ := g1.free id (.inr trivial)
  have hl : ∀ i, pgOf (pfR P s d id).2.2.1.l.tb (pfR P s d id).2.2.2.B i = L i := fun i => by rw [s1.l, s1.lp, g4]
  rcases s3 with ⟨c1, _, c2⟩ | ⟨c1, c2, c3⟩
  · exact ⟨_, C, rfl, ⟨k, _, _, _, c2, hp, b1, hl, s1.bl.trans g5, by rw [s1.ep]; exact g6, s2.trans g7⟩, b2, .inl ⟨c1, rfl⟩⟩
  · exact ⟨_, _, rfl, ⟨k, _, _, _, c3, hp, b1, hl, s1.bl.trans g5, by rw [s1.ep]; exact g6, s2.trans g7⟩, b2, .inr ⟨c1, (g1.dom c2).1, (g1.dom c2).2, rfl⟩⟩
theorem s_flush {w0 w : World} {q : Nat} {n : Int} {T E : Nat} {C L : Cont} {bs : List Nat} (h : Vw w0 q n T E C L bs w) :
    Calls Tryz.prog 21 #[pf q] w fun e w' => ∃ er, e = .returned (.int .i64 er) ∧ Vw w0 q n T E C L bs w' ∧ Stay bs w w' := by
  obtain ⟨k, P, s, d, g1, g2, g3, g4, g5, g6, g7⟩ := h
  refine (pflush_any g2).mono ?_
  rintro e w' ⟨rfl, hp, hx⟩
  obtain ⟨b1, b2⟩ := nx_bs hx g3
  obtain ⟨s0, s1, s2, _⟩ := Se.flush (heldS P.fs) g1
  exact ⟨_, rfl, ⟨k, _, _, _, s1, hp, b1, fun i => by rw [s2.l, s2.lp, g4], s2.bl.trans g5, by rw [s2.ep]; exact g6, g7⟩, b2⟩
theorem s_commit {w0 w : World} {q : Nat} {n : Int} {T E : Nat} {C L : Cont} {bs : List Nat} (h : Vw w0 q n T E C L bs w) (hE : E ≤ 1000) :
    Calls Tryz.prog 22 #[pf q] w fun e w' => e = .returned (.int .i64 0) ∧ Vw w0 q n T (E + 1) C C bs w' ∧ Stay bs w w' := by
  obtain ⟨k, P, s, d, g1, g2, g3, g4, g5, g6, g7⟩ := h
  refine (pcommit_any g2).mono ?_
  rintro e w' ⟨rfl, hp, hx⟩
  obtain ⟨b1, b2⟩ := nx_bs hx g3
  obtain ⟨s1, s2, s3, s4, s5, s6⟩ := g1.commit (by omega) (by omega)
  exact ⟨by rw [s1], ⟨k, _, _, _, s3, hp, b1, s4, s6.trans g5, by omega, s2.trans g7⟩, b2⟩
theorem s_abort {w0 w : World} {q : Nat} {n : Int} {T E : Nat} {C L : Cont} {bs : List Nat} (h : Vw w0 q n T E C L bs w) :
    Calls Tryz.prog 23 #[pf q] w fun e w' => e = .returned (.int .i64 0) ∧ Vw w0 q n T E L L bs w' ∧ Stay bs w w' := by
  obtain ⟨k, P, s, d, g1, g2, g3, g4, g5, g6, g7⟩ := h
  refine (pabort_any g2).mono ?_
  rintro e w' ⟨rfl, hp, hx⟩
  obtain ⟨b1, b2⟩ := nx_bs hx g3
  obtain ⟨s1, s2, s3⟩ := g1.abort
  have hL : (fun i => pgOf s.l.tb d.B i) = L := funext g4
  rw [hL] at s2
  exact ⟨by rw [s1], ⟨k, _, _, _, s2, hp, b1, fun i => by rw [s3.l, s3.lp, g4], s3.bl.trans g5, by rw [s3.ep]; exact g6, g7⟩, b2⟩
theorem s_alloc {w0 w : World} {q : Nat} {n : Int} {T E : Nat} {C L : Cont} {bs : List Nat} (h : Vw w0 q n T E C L bs w) (hT : T + 1 ≤ 40) (kd : Int) (a : Option Addr) (c : Nat) (zs : List Int) (hv : BV w0 a zs) (hn : a = none → c = 0) (h1 : zs.length ≤ c) (h2 : c ≤ 9223372036854775807) :
    Calls Tryz.prog 16 #[pf q, .int .i64 kd, .slice a zs.length c] w fun e w' => ∃ id er C', e = .returned (.tuple #[.int .i64 id, .int .i64 er]) ∧ Vw w0 q n (T + 1) E C' L bs w' ∧ Stay bs w w' ∧ ((er ≠ 0 ∧ C' = C) ∨ (er = 0 ∧ 1 ≤ id ∧ id ≤ T + 1 ∧ C id = none ∧ C' = C.put id (some (kd, zs)))) := by
  obtain ⟨k, P, s, d, g1, g2, g3, g4, g5, g6, g7⟩ := h
  refine (palloc_any kd a c zs g2 (old_fb g2 hv hn h1 h2)).mono ?_
  rintro e w' ⟨k', rfl, hp, hx⟩
  obtain ⟨b1, b2⟩ := nx_bs hx g3
  obtain ⟨s1, s2, s3⟩ := g1.alloc kd zs (by omega) (by rw [g5]; exact big200 hT)
  have hl : ∀ i, pgOf (paR P s d kd zs).2.2.2.1.l.tb (paR P s d kd zs).2.2.2.2.B i = L i := fun i => by rw [s1.l, s1.lp, g4]
  rcases s3 with ⟨c1, c2⟩ | ⟨c1, c2, c3, c4, c5⟩
  · exact ⟨_, _, C, rfl, ⟨k', _, _, _, c2.more (s1.bl.trans g5) hT, hp, b1, hl, s1.bl.trans g5, by rw [s1.ep]; exact g6, s2.trans g7⟩, b2, .inl ⟨c1, rfl⟩⟩
  · exact ⟨_, _, _, rfl, ⟨k', _, _, _, c5, hp, b1, hl, s1.bl.trans g5, by rw [s1.ep]; exact g6, s2.trans g7⟩, b2, .inr ⟨c1, c2, c3, c4, rfl⟩⟩
noncomputable def f200 : Int × SS × D.DS := fmtS (D.newS 200)
theorem fz_1 : f200.1 = 0 := by decide +kernel
theorem fz_2 : f200.2.1.bad = false ∧ f200.2.2.down = false ∧ f200.2.2.fails = -1 ∧ f200.2.1.c.tb = [] ∧ f200.2.1.l.tb = [] ∧ f200.2.1.c.st = 0 ∧ f200.2.1.l.st = 0 ∧ f200.2.1.c.dt = false ∧ f200.2.1.bl = 200 ∧ f200.2.1.ep = 0 := by decide +kernel
theorem fz_3 : usC f200.2.1 ≤ 3 := by decide +kernel
theorem s_new {w0 w : World} {k : Pl} (n : Int) (h1 : 1 ≤ n) (h2 : n ≤ 64) (h : Mi w0 w k f200.2.1 f200.2.2 ∧ k.z = []) :
    Calls Tryz.prog 14 #[pf k.p, .int .i64 n] w fun e w' => ∃ q, e = .returned (.tuple #[pf q, .int .i64 0]) ∧ Vw w0 q n 0 0 (fun _ => none) (fun _ => none) [] w' := by
  obtain ⟨e1, e2, e3, e4, e5, e6, e7, e8, e9, e10⟩ := fz_2
  have hb0 : ∀ i : Int, blkI ([] : List Int) i = 0 := fun i => by
    unfold blkI
    split
    · rfl
    · rfl
  have hp0 : ∀ (B : Nat → List Int) (i : Int), pgOf [] B i = none := fun B i => by unfold pgOf; rw [if_pos (hb0 i)]
  refine (pnew_any n h1 h2 h.1 h.2).mono ?_
  rintro e w' ⟨q, k', rfl, hp, _, _⟩
  have hinv := h.1.inv
  have hcw : Cw 0 f200.2.1 f200.2.2 := by
    refine ⟨⟨hinv, e1, ⟨e2, e3⟩, h.1.room, ?_, ?_⟩, ?_, by rw [e4]; exact Nat.le_refl _, by rw [e5]; exact Nat.le_refl _, ?_, by rw [e9]; exact big200 (by omega)⟩
    · rw [e4]; intro i hi; exact absurd (hb0 i) hi
    · rw [e5]; intro i hi; exact absurd (hb0 i) hi
    · intro m hm
      have := hinv.lfr m
      rw [← hinv.cln e8, hm] at this
      cases this
    · have := fz_3
      rw [e9]
      unfold capN nPages B.makeN
      omega
  exact ⟨q, rfl, k', _, _, _, ⟨hcw, by simp, by simp, fun i _ => by rw [e4, hp0], by simp, by simp; omega, h1, e6, e7⟩, hp, by simp, fun i => by rw [e5, hp0], e9, by rw [e10]; exact Int.le_refl _, rfl⟩
end Go.Proofs.YtbklnadlbcndlaaGreat
namespace Go.Proofs.YtbklnadlbcndlaaGreat
set_option maxRecDepth 20000
open Go.RowKit
set_option linter.unusedVariables false
set_option linter.unusedSimpArgs false
def strP : Option (Int × List Int) → ByteArray
  | none => { data := #[] }
  | some (_, zs) => strOfNums (43 :: zs)
def rowS (C : Cont) : List ByteArray := (List.range 60).map (fun i : Nat => strP (C (i : Int)))
theorem rowS_len (C : Cont) : (rowS C).length = 60 := by simp [rowS]
theorem StrB.get {w : World} {b : Nat} {C : Cont} (h : StrB w b (rowS C)) (i : Nat) (hi : i < 60) : w.cell? ⟨b, i, none⟩ = some (.string (strP (C (i : Int)))) := by
  rw [cell_of_row _ _ _ _ _ _ h]
  simp [rowS, hi]
theorem StrB.fz {w : World} {b : Nat} {l : List ByteArray} (h : StrB w b l) (i : Nat) : w.frozen? ⟨b, i, none⟩ = false := frozen_of_row _ _ _ _ _ h
theorem StrB.lt {w : World} {b : Nat} {l : List ByteArray} (h : StrB w b l) : b < w.heap.size := (Array.getElem?_eq_some_iff.1 h).1
theorem rowS_put (C : Cont) (i : Nat) (hi : i < 60) (x : Option (Int × List Int)) : (rowS C).set i (strP x) = rowS (C.put (i : Int) x) := by
  apply List.ext_getElem?
  intro j
  unfold rowS Cont.put
  rw [List.getElem?_set]
  by_cases e : i = j
  · subst e
    simp [hi]
  · rw [if_neg e]
    by_cases hj : j < 60
    · simp [hj, fun h : (j : Int) = (i : Int) => e (by omega)]
      rw [if_neg (by omega)]
    · simp [hj]
theorem StrB.put {w : World} {b : Nat} {C : Cont} (h : StrB w b (rowS C)) (i : Nat) (hi : i < 60) (x : Option (Int × List Int)) : StrB (w.setCell ⟨b, i, none⟩ (.string (strP x))) b (rowS (C.put (i : Int) x)) := by
  have := heap_setCell_same w b i _ 9 (.string (strP x)) h
  unfold StrB
  rw [this, ← rowS_put C i hi x]
  congr 2
  simp [List.map_set]
theorem StrB.off {w w' : World} {b : Nat} {l : List ByteArray} (h : StrB w b l) (hs : w'.heap[b]? = w.heap[b]?) : StrB w' b l := hs.trans h
theorem StrB.copy {w : World} {b : Nat} {l l' : List ByteArray} (h : StrB w b l) : StrB (w.setRow b (l'.map Value.string).toArray) b l' := by
  unfold StrB at *
  exact setRow_heap w b _ _ 9 (0, 0) h
theorem row_make (w : World) : StrB (w.alloc (.cells (madeCells (Value.string { data := #[] }).cells (60 * 1)) 9)) w.heap.size (rowS (fun _ => none)) := by
  unfold StrB
  rw [heap_alloc_last]
  have e : madeCells (Value.string { data := #[] }).cells (60 * 1) = ((rowS (fun _ => none)).map Value.string).toArray := by
    have hz : (Value.string { data := #[] }).cells = #[Value.string { data := #[] }] := rfl
    rw [hz]
    apply Array.ext_getElem?
    intro j
    unfold madeCells rowS
    by_cases hj : j < 60
    · simp [hj, strP, Nat.mod_one]
    · simp [hj]
  rw [e]
theorem str_app (xs ys : List Int) : strOfNums xs ++ strOfNums ys = strOfNums (xs ++ ys) := by
  apply ByteArray.ext
  simp [strOfNums]
theorem str_plus (zs : List Int) (k : Int) : ({ data := #[43] } : ByteArray) ++ strOfNums zs = strP (some (k, zs)) := by
  rw [show ({ data := #[43] } : ByteArray) = strOfNums [43] from rfl, str_app]
  rfl
end Go.Proofs.YtbklnadlbcndlaaGreat
