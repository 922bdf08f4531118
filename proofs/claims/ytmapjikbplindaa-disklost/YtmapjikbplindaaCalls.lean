/- The disk's calls but Crash and Fork: New, Write, Sync, Fail, Read. -/
import Derived.Test.YtmapjikbplindaaStep
import Derived.Laws.MakeOwn
namespace Go.Proofs.Ytmapjikbplindaa
open Go.RowKit Go.Maps
set_option maxRecDepth 20000

theorem made256 : madeCells (Value.int .u8 0).cells (256 * 1) = blkA zs256 := by kernel_rfl
theorem wp_make256 {ops : Array Oper} {rest : List Oper} {o : Oper} {a : Act} {w : World} {Q : Exit → Act → World → Prop} (hgd : o.guard = none) (x y : Operand) (ho : o.op = .makeSlice 32 x y) (hx : a.eval x = .int .i64 256) (hy : a.eval y = .int .i64 256)
    (h : ∀ w', w'.heap[w.heap.size]? = some (.cells (blkA zs256) 5 (0, 0)) → w'.heap.size = w.heap.size + 1 → Below w.heap.size w w' → wpList Try.prog ops Q rest (a.put o.dst (.slice (some ⟨w.heap.size, 0, none⟩) 256 256)) w') : wpList Try.prog ops Q (o :: rest) a w := by
  obtain ⟨i0, hi, hz0, hz1, hz2⟩ := info_parts Try.info5
  have hrun := run_makeSlice (P := Try.prog) w 32 5 i0 (.int .u8 0) Try.underlying32 hi hz0 .i64 .i64 256 256 (by decide) (by decide) (by rw [hz1]; decide) (by rw [hz2]; decide) (by decide)
  refine wpList_plain hgd fun K hK => ?_
  unfold Oper.wp
  rw [hz1] at hrun
  have e : (256 : Int).toNat * 1 = 256 * 1 := rfl
  rw [e, made256] at hrun
  simp only [execOp, ho, hx, hy, Sem.run_bind, hrun, Result.andThen, Sem.run_pure]
  exact hK _ _ (h _ (heap_alloc_last _ _) (by simp) ((Below.refl _ _).alloc (Nat.le_refl _) _))

theorem writeS_err {s : DS} {n : Int} {zs : List Int} (h : reachE s n ≠ 0) : writeE s n zs = reachE s n ∧ writeS s n zs = s := by
  refine ⟨?_, ?_⟩
  · unfold writeE; rw [if_pos h]
  · unfold writeS; rw [if_pos (Or.inl h)]
theorem writeS_arg {s : DS} {n : Int} {zs : List Int} (h : reachE s n = 0) (hl : zs.length ≠ 256) : writeE s n zs = 2 ∧ writeS s n zs = s := by
  refine ⟨?_, ?_⟩
  · unfold writeE; rw [if_neg (by simpa using h), if_pos hl]
  · unfold writeS; rw [if_pos (Or.inr hl)]
theorem writeS_well {s : DS} {n : Int} {zs : List Int} (h : reachE s n = 0) (hl : zs.length = 256) : writeE s n zs = stepE s ∧ writeS s n zs = stepS s (putS s n.toNat zs) := by
  refine ⟨?_, ?_⟩
  · unfold writeE; rw [if_neg (by simpa using h), if_neg (by simpa using hl)]
  · unfold writeS; rw [if_neg (by rintro (e | e); exact e h; exact e hl)]
theorem three_new (w : World) (o1 o2 o3 : Obj) : Below w.heap.size w (((w.alloc o1).alloc o2).alloc o3) := (((Below.refl _ _).alloc (Nat.le_refl _) _).alloc (by simp) _).alloc (by simp; omega) _

set_option maxHeartbeats 800000 in
theorem write_any (p nb mb : Nat) (s : DS) (n : Int) (a : Option Addr) (len cap' : Nat) (zs : List Int) (w : World) (h : Dk w p nb mb s) (hbv : BV w a zs) (hl : zs.length = len) (hm : len ≤ 9223372036854775807) (hax : ∀ b off, a = some ⟨b, off, none⟩ → b ∉ [p, nb, mb]) :
    Calls Try.prog 16 #[.pointer (some ⟨p, 0, none⟩), .int .i64 n, .slice a len cap'] w fun e w' => e = .returned (.int .i64 (writeE s n zs)) ∧ Dk w' p nb mb (writeS s n zs) ∧ Off [p, nb, mb] w w' := by
  have hne := h.ne
  have hB := three_new w (.cells #[.pointer (some ⟨p, 0, none⟩)] 24) (.cells #[.int .i64 n] 3) (.cells #[.slice a len cap'] 32)
  have hD := h.below hB
  have bv3 := hbv.below hB
  have HR : Hid (Calls Try.prog 36 #[.pointer (some ⟨p, 0, none⟩), .int .i64 n] (((w.alloc (.cells #[.pointer (some ⟨p, 0, none⟩)] 24)).alloc (.cells #[.int .i64 n] 3)).alloc (.cells #[.slice a len cap'] 32)) fun e w' => e = .returned (.int .i64 (reachE s n)) ∧ w' = (((w.alloc (.cells #[.pointer (some ⟨p, 0, none⟩)] 24)).alloc (.cells #[.int .i64 n] 3)).alloc (.cells #[.slice a len cap'] 32))) := reach_any p nb mb s n _ hD
  have HO : Hid (Off [p, nb, mb] w (((w.alloc (.cells #[.pointer (some ⟨p, 0, none⟩)] 24)).alloc (.cells #[.int .i64 n] 3)).alloc (.cells #[.slice a len cap'] 32))) := Off.of_below hB
  have HD : Hid (Dk (((w.alloc (.cells #[.pointer (some ⟨p, 0, none⟩)] 24)).alloc (.cells #[.int .i64 n] 3)).alloc (.cells #[.slice a len cap'] 32)) p nb mb s) := hD
  by_cases hE : reachE s n = 0
  · obtain ⟨hdn, hn0, hnr⟩ := reach_ok hE
    by_cases h256 : len = 256
    · subst h256
      obtain ⟨e1, e2⟩ := writeS_well (zs := zs) hE hl
      rw [e1, e2]
      obtain ⟨m, rfl⟩ : ∃ m : Nat, n = (m : Int) := ⟨n.toNat, by omega⟩
      simp only [Int.toNat_natCast] at hnr ⊢
      have hp1 : w.heap.size ∉ [p, nb, mb] := by simp; omega
      have hp2 : w.heap.size + 1 ∉ [p, nb, mb] := by simp; omega
      have hp3 : w.heap.size + 1 + 1 ∉ [p, nb, mb] := by simp; omega
      have HS : Hid (Calls Try.prog 37 #[.pointer (some ⟨p, 0, none⟩), .func (.func 38) #[] #[.pointer (some ⟨w.heap.size, 0, none⟩), .pointer (some ⟨w.heap.size + 1, 0, none⟩), .pointer (some ⟨w.heap.size + 1 + 1, 0, none⟩)]] (((w.alloc (.cells #[.pointer (some ⟨p, 0, none⟩)] 24)).alloc (.cells #[.int .i64 m] 3)).alloc (.cells #[.slice a 256 cap'] 32)) fun e w' => e = .returned (.int .i64 (stepE s)) ∧ Dk w' p nb mb (stepS s (putS s m zs)) ∧ Off [p, nb, mb] (((w.alloc (.cells #[.pointer (some ⟨p, 0, none⟩)] 24)).alloc (.cells #[.int .i64 m] 3)).alloc (.cells #[.slice a 256 cap'] 32)) w') :=
        step_write p nb mb s _ hD m a cap' zs _ _ _ hnr ⟨hl, hbv.1⟩ bv3 hax ⟨hp1, hp2, hp3⟩ (by go_simp) (by go_simp) (by go_simp)
      rw [hE] at HR
      clear hD bv3 hbv h hB e1 e2 hp1 hp2 hp3 hl hax
      have hmf : ∀ (fn : Fn) (first cap : Array Value) (w : World), (Instr.makeFunc fn first cap).run Try.prog w = .ok (.func fn first cap) w := fun _ _ _ _ => rfl
      go_enter Try.func16, Try.ntmps16
      go_wp2_with (first | (go_at_call 36; refine HR.out.mono ?_; rintro e w' ⟨rfl, hw⟩; obtain rfl := hw.symm) | (go_at_call 37; refine HS.out.mono ?_; rintro e w1 ⟨rfl, hd1, ho1⟩) | fail)
      go_ret
      exact ⟨rfl, hd1, HO.out.trans ho1⟩
    · obtain ⟨e1, e2⟩ := writeS_arg (zs := zs) hE (by rw [hl]; exact h256)
      rw [e1, e2]
      rw [hE] at HR
      have hb : ((len : Int) == 256) = false := by simp; omega
      clear hD bv3 hbv h hB e1 e2 hl hax
      go_enter Try.func16, Try.ntmps16
      go_wp2_with (first | (go_at_call 36; refine HR.out.mono ?_; rintro e w' ⟨rfl, hw⟩; obtain rfl := hw.symm) | fail)
      go_ret
      exact ⟨rfl, HD.out, HO.out⟩
  · obtain ⟨e1, e2⟩ := writeS_err (zs := zs) hE
    rw [e1, e2]
    have hb : (reachE s n == 0) = false := by simpa using hE
    clear hD bv3 hbv h hB e1 e2 hl hax
    generalize reachE s n = E at *
    go_enter Try.func16, Try.ntmps16
    go_wp2_with (first | (go_at_call 36; refine HR.out.mono ?_; rintro e w' ⟨rfl, hw⟩; obtain rfl := hw.symm) | fail)
    go_ret
    exact ⟨rfl, HD.out, HO.out⟩

set_option maxHeartbeats 400000 in
theorem sync_any (p nb mb : Nat) (s : DS) (w : World) (h : Dk w p nb mb s) :
    Calls Try.prog 17 #[.pointer (some ⟨p, 0, none⟩)] w fun e w' => e = .returned (.int .i64 (syncE s)) ∧ Dk w' p nb mb (syncS s) ∧ Off [p, nb, mb] w w' := by
  have HR : Hid (Calls Try.prog 40 #[.pointer (some ⟨p, 0, none⟩)] w fun e w' => e = .returned (.int .i64 (readyE s)) ∧ w' = w) := ready_any p nb mb s w h
  have HS : Hid (Calls Try.prog 37 #[.pointer (some ⟨p, 0, none⟩), .func (.func 35) #[.pointer (some ⟨p, 0, none⟩)] #[]] w fun e w' => e = .returned (.int .i64 (stepE s)) ∧ Dk w' p nb mb (stepS s (safeS s)) ∧ Off [p, nb, mb] w w') := step_sync p nb mb s w h
  have HD : Hid (Dk w p nb mb s) := h
  clear h
  have hmf : ∀ (fn : Fn) (first cap : Array Value) (w : World), (Instr.makeFunc fn first cap).run Try.prog w = .ok (.func fn first cap) w := fun _ _ _ _ => rfl
  unfold syncE syncS
  unfold readyE at HR
  cases hd : s.down
  · rw [hd] at HR
    simp only [Bool.false_eq_true, if_false] at HR ⊢
    go_enter Try.func17, Try.ntmps17
    go_wp2_with (first | (go_at_call 40; refine HR.out.mono ?_; rintro e w' ⟨rfl, hw⟩; obtain rfl := hw.symm) | (go_at_call 37; refine HS.out.mono ?_; rintro e w1 ⟨rfl, hd1, ho1⟩) | fail)
    go_ret
    exact ⟨rfl, hd1, ho1⟩
  · rw [hd] at HR
    simp only [if_true] at HR ⊢
    go_enter Try.func17, Try.ntmps17
    go_wp2_with (first | (go_at_call 40; refine HR.out.mono ?_; rintro e w' ⟨rfl, hw⟩; obtain rfl := hw.symm) | fail)
    go_ret
    exact ⟨rfl, HD.out, Off.refl _ _⟩

theorem Dk.failing {w : World} {p nb mb : Nat} {s : DS} (h : Dk w p nb mb s) (n : Int) (hn0 : 0 ≤ n) (hn : n ≤ 9223372036854775807) (d : Bool) :
    Dk (((w.setCell ⟨p, 3, none⟩ (.bool true)).setCell ⟨p, 4, none⟩ (.int .i64 n)).setCell ⟨p, 5, none⟩ (.bool d)) p nb mb { s with fails := n, done := d } ∧
      Off [p, nb, mb] w (((w.setCell ⟨p, 3, none⟩ (.bool true)).setCell ⟨p, 4, none⟩ (.int .i64 n)).setCell ⟨p, 5, none⟩ (.bool d)) := by
  have hne := h.ne
  obtain ⟨ok, cap, set, after, done, flat, d1, d2, d3, d4, d5, d6⟩ := h
  have ho : Off [p] w (((w.setCell ⟨p, 3, none⟩ (.bool true)).setCell ⟨p, 4, none⟩ (.int .i64 n)).setCell ⟨p, 5, none⟩ (.bool d)) := (((Off.refl _ _).setCell (by simp) _).setCell (by simp) _).setCell (by simp) _
  obtain ⟨k1, k2⟩ := keep_set ho hne.1 hne.2.1 d2 d5
  have e := ((((d1.set (.bool true)).2.1.set (.int .i64 n)).2.2.1).set (.bool d)).2.2.2.1
  exact ⟨⟨⟨ok.room, ok.isB, ok.isS, ok.same, by show -1 ≤ n; omega, hn⟩, cap, true, n, d, flat, e, k1, d3, d4, k2, .inr ⟨hn0, rfl, rfl, rfl⟩⟩, off_p ho⟩
set_option maxHeartbeats 400000 in
theorem fail_any (p nb mb : Nat) (s : DS) (n : Int) (d : Bool) (w : World) (h : Dk w p nb mb s) (hn : n ≤ 9223372036854775807) :
    Calls Try.prog 18 #[.pointer (some ⟨p, 0, none⟩), .int .i64 n, .bool d] w fun e w' => e = .returned (.int .i64 (failE s n)) ∧ Dk w' p nb mb (failS s n d) ∧ Off [p, nb, mb] w w' := by
  have HR : Hid (Calls Try.prog 40 #[.pointer (some ⟨p, 0, none⟩)] w fun e w' => e = .returned (.int .i64 (readyE s)) ∧ w' = w) := ready_any p nb mb s w h
  have HD : Hid (Dk w p nb mb s) := h
  obtain ⟨cap, set, after, done, ⟨c0, c1, c2, c3, c4, c5, c6, c7, f0, f1, f2, f3, f4, f5, f6, f7⟩, _⟩ := h.cells
  clear h
  unfold failE failS
  unfold readyE at HR
  cases hd : s.down
  · rw [hd] at HR
    simp only [Bool.false_eq_true, if_false, false_or] at HR ⊢
    by_cases hn0 : n < 0
    · have hb : decide (n < 0) = true := by simpa using hn0
      rw [if_pos hn0, if_pos hn0]
      go_enter Try.func18, Try.ntmps18
      go_wp2_with (first | (go_at_call 40; refine HR.out.mono ?_; rintro e w' ⟨rfl, hw⟩; obtain rfl := hw.symm) | fail)
      go_ret
      exact ⟨rfl, HD.out, Off.refl _ _⟩
    · have hb : decide (n < 0) = false := by simpa using hn0
      rw [if_neg hn0, if_neg hn0]
      have hF := HD.out.failing n (by omega) hn d
      have HF : Hid (Dk (((w.setCell ⟨p, 3, none⟩ (.bool true)).setCell ⟨p, 4, none⟩ (.int .i64 n)).setCell ⟨p, 5, none⟩ (.bool d)) p nb mb { s with fails := n, done := d } ∧ Off [p, nb, mb] w (((w.setCell ⟨p, 3, none⟩ (.bool true)).setCell ⟨p, 4, none⟩ (.int .i64 n)).setCell ⟨p, 5, none⟩ (.bool d))) := hF
      clear hF
      go_enter Try.func18, Try.ntmps18
      go_wp2_with (first | (go_at_call 40; refine HR.out.mono ?_; rintro e w' ⟨rfl, hw⟩; obtain rfl := hw.symm) | fail)
      go_ret
      have hF := HF.out
      rw [hd] at hF
      exact ⟨rfl, hF⟩
  · rw [hd] at HR
    simp only [if_true, true_or] at HR ⊢
    go_enter Try.func18, Try.ntmps18
    go_wp2_with (first | (go_at_call 40; refine HR.out.mono ?_; rintro e w' ⟨rfl, hw⟩; obtain rfl := hw.symm) | fail)
    go_ret
    exact ⟨rfl, HD.out, Off.refl _ _⟩
end Go.Proofs.Ytmapjikbplindaa
