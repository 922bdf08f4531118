/- The program's take: contract of a single call. -/
import Derived.Test.YtglimefhiggdeaaDoorPv
import Derived.Laws.EntriesVeiled
namespace Go.Proofs.YtglimefhiggdeaaDoor
open Go.RowKit
set_option linter.unusedVariables false
set_option linter.unusedSimpArgs false
set_option maxRecDepth 20000

theorem bxn2 (w : World) (o o' : Obj) : Below w.heap.size w ((w.alloc o).alloc o') := bt (bxn _ _) (bxn _ _)
set_option maxHeartbeats 8000000 in
theorem take_any (s : ByteArray) (w : World) (hs : s.size ≤ 1000000) (hV : Vars w) :
    Calls Tryd.prog 14 #[.string s] w fun e w' => e = .returned (tkV (tkL s.data.toList)) ∧ Below w.heap.size w w' := by
  obtain ⟨A, hA⟩ : ∃ A, A = tkL s.data.toList := ⟨_, rfl⟩
  rw [← hA]
  have HA : Hid (svFrom s.data.toList 7 0 = A) := hA.symm
  clear hA
  have C23 : ∀ W, Vars W → Calls Tryd.prog 23 #[.string s] W fun e w' => e = .returned (tkV (seven s.data.toList 0)) ∧ Below W.heap.size W w' := fun W hv => tmark_any s W hs
  have C24 : ∀ W, Vars W → Calls Tryd.prog 24 #[.string s] W fun e w' => e = .returned (tkV (seven s.data.toList 1)) ∧ Below W.heap.size W w' := fun W hv => tnot_any s W hs
  have C25 : ∀ W, Vars W → Calls Tryd.prog 25 #[.string s] W fun e w' => e = .returned (tkV (seven s.data.toList 2)) ∧ Below W.heap.size W w' := fun W hv => clos25_any s W hs hv
  have C27 : ∀ W, Vars W → Calls Tryd.prog 27 #[.string s] W fun e w' => e = .returned (tkV (seven s.data.toList 3)) ∧ Below W.heap.size W w' := fun W hv => clos27_any s W hs hv
  have C29 : ∀ W, Vars W → Calls Tryd.prog 29 #[.string s] W fun e w' => e = .returned (tkV (seven s.data.toList 4)) ∧ Below W.heap.size W w' := fun W hv => clos29_any s W hs hv
  have C30 : ∀ W, Vars W → Calls Tryd.prog 30 #[.string s] W fun e w' => e = .returned (tkV (seven s.data.toList 5)) ∧ Below W.heap.size W w' := fun W hv => clos30_any s W hs hv
  have C31 : ∀ W, Vars W → Calls Tryd.prog 31 #[.string s] W fun e w' => e = .returned (tkV (seven s.data.toList 6)) ∧ Below W.heap.size W w' := fun W hv => tval_any s W hs hv
  go_enter Tryd.func14, Tryd.ntmps14
  go_wp2
  go_loopw [12] (fun v wr => ∃ k : Nat, v = .int .i64 k ∧ k ≤ 7 ∧ svFrom s.data.toList (7 - k) k = A ∧ Below ((w.alloc (.cells #[.int .u8 0, .string ⟨#[]⟩, .int .u8 0, .int .u8 0, .int .i64 0, .string ⟨#[]⟩, .int .i64 0] 34)).alloc (.cells #[.func (.func 23) #[] #[], .func (.func 24) #[] #[], .func (.func 25) #[] #[], .func (.func 27) #[] #[], .func (.func 29) #[] #[], .func (.func 30) #[] #[], .func (.func 31) #[] #[]] 42)).heap.size ((w.alloc (.cells #[.int .u8 0, .string ⟨#[]⟩, .int .u8 0, .int .u8 0, .int .i64 0, .string ⟨#[]⟩, .int .i64 0] 34)).alloc (.cells #[.func (.func 23) #[] #[], .func (.func 24) #[] #[], .func (.func 25) #[] #[], .func (.func 27) #[] #[], .func (.func 29) #[] #[], .func (.func 30) #[] #[], .func (.func 31) #[] #[]] 42)) wr) (fun v _ => (7 - intOf v).toNat)
  case atStart => exact ⟨0, rfl, by omega, HA.out, Below.refl _ _⟩
  case round =>
    obtain ⟨k, rfl, hk, hr, hbw⟩ := hrel
    have HR : Hid (svFrom s.data.toList (7 - k) k = A) := hr
    have HVr : Hid (Vars wr) := (hV.below (bxn2 _ _ _)).below hbw
    have HBr : Hid (Below w.heap.size w wr) := bt (bxn2 _ _ _) hbw
    have hzr : w.heap.size + 1 < wr.heap.size := by have := hbw.size; simp at this; omega
    have hz0 : w.heap.size < wr.heap.size := by omega
    clear hr HA hV
    by_cases h7 : k < 7
    · have hst := seven_step s.data.toList k h7
      rw [HR.out] at hst
      obtain h0 | h0 | h0 | h0 | h0 | h0 | h0 : k = 0 ∨ k = 1 ∨ k = 2 ∨ k = 3 ∨ k = 4 ∨ k = 5 ∨ k = 6 := by omega
      · subst h0
        clear C24 C25 C27 C29 C30 C31 HR h7 hk
        have hcl : wr.cell? ⟨w.heap.size + 1, 0, none⟩ = some (.func (.func 23) #[] #[]) := by rw [(bcell hbw).1 _ _ (by simp)]; go_simp
        have hzb : ∀ (b o : Nat), b < w.heap.size + 1 + 1 → wr.cell? ⟨b, o, none⟩ = ((w.alloc (.cells #[.int .u8 0, .string ⟨#[]⟩, .int .u8 0, .int .u8 0, .int .i64 0, .string ⟨#[]⟩, .int .i64 0] 34)).alloc (.cells #[.func (.func 23) #[] #[], .func (.func 24) #[] #[], .func (.func 25) #[] #[], .func (.func 27) #[] #[], .func (.func 29) #[] #[], .func (.func 30) #[] #[], .func (.func 31) #[] #[]] 42)).cell? ⟨b, o, none⟩ := fun b o h => (bcell hbw).1 b o (by simpa using h)
        have hzf : ∀ (b o : Nat), b < w.heap.size + 1 + 1 → wr.frozen? ⟨b, o, none⟩ = ((w.alloc (.cells #[.int .u8 0, .string ⟨#[]⟩, .int .u8 0, .int .u8 0, .int .i64 0, .string ⟨#[]⟩, .int .i64 0] 34)).alloc (.cells #[.func (.func 23) #[] #[], .func (.func 24) #[] #[], .func (.func 25) #[] #[], .func (.func 27) #[] #[], .func (.func 29) #[] #[], .func (.func 30) #[] #[], .func (.func 31) #[] #[]] 42)).frozen? ⟨b, o, none⟩ := fun b o h => (bcell hbw).2 b o (by simpa using h)
        cases hx : seven s.data.toList 0 with
        | some y =>
          obtain ⟨ty, n⟩ := y
          have hn := seven_pos hx
          have HE : Hid (A = some (ty, n)) := by show _ = _; rw [hst, hx]; rfl
          rw [hx] at C23
          have C := C23 wr HVr.out
          unfold tkV tv at C
          have hnz : (0 : Int) < n := by omega
          clear C23 hst hx hn
          go_wp2_with (first | (go_at_call 23; refine C.mono ?_; rintro e w1 ⟨rfl, hb1⟩; clear C; obtain ⟨hc, hf⟩ := bcell hb1; have hz1 : w.heap.size < w1.heap.size := by { have := hb1.size; omega }))
          have q0 : w1.cell? ⟨w.heap.size, 0, none⟩ = some (.int .u8 0) := by rw [hc _ _ hz0, hzb _ _ (by omega)]; go_simp
          have q1 : w1.cell? ⟨w.heap.size, 1, none⟩ = some (.string ⟨#[]⟩) := by rw [hc _ _ hz0, hzb _ _ (by omega)]; go_simp
          have q2 : w1.cell? ⟨w.heap.size, 2, none⟩ = some (.int .u8 0) := by rw [hc _ _ hz0, hzb _ _ (by omega)]; go_simp
          have q3 : w1.cell? ⟨w.heap.size, 3, none⟩ = some (.int .u8 0) := by rw [hc _ _ hz0, hzb _ _ (by omega)]; go_simp
          have q4 : w1.cell? ⟨w.heap.size, 4, none⟩ = some (.int .i64 0) := by rw [hc _ _ hz0, hzb _ _ (by omega)]; go_simp
          have q5 : w1.cell? ⟨w.heap.size, 5, none⟩ = some (.string ⟨#[]⟩) := by rw [hc _ _ hz0, hzb _ _ (by omega)]; go_simp
          have q6 : w1.cell? ⟨w.heap.size, 6, none⟩ = some (.int .i64 0) := by rw [hc _ _ hz0, hzb _ _ (by omega)]; go_simp
          refine bodyPost_ret (v := tkV (some (ty, n))) (by simp [results, Tryd.results14, go_sem, tkV, tv, q0, q1, q2, q3, q4, q5, q6, hz1] <;> rfl) rfl ⟨by rw [HE.out], ?_⟩
          exact set7a (bt HBr.out hb1) _ _ _ _ _ _ _ _ _
        | none =>
          have HE : Hid (svFrom s.data.toList (7 - (0 + 1)) (0 + 1) = A) := by show _ = _; rw [hst, hx]; rfl
          rw [hx] at C23
          have C := C23 wr HVr.out
          unfold tkV tv at C
          clear C23 hst hx
          go_wp2_with (first | (go_at_call 23; refine C.mono ?_; rintro e w1 ⟨rfl, hb1⟩; clear C; obtain ⟨hc, hf⟩ := bcell hb1; have hz1 : w.heap.size < w1.heap.size := by { have := hb1.size; omega }))
          go_roundw
          case rel => exact ⟨0 + 1, by simp, by omega, HE.out, (bt hbw hb1).alloc (bt hbw hb1).size _⟩
          case measure => simp [intOf]
      · subst h0
        clear C23 C25 C27 C29 C30 C31 HR h7 hk
        have hcl : wr.cell? ⟨w.heap.size + 1, 1, none⟩ = some (.func (.func 24) #[] #[]) := by rw [(bcell hbw).1 _ _ (by simp)]; go_simp
        have hzb : ∀ (b o : Nat), b < w.heap.size + 1 + 1 → wr.cell? ⟨b, o, none⟩ = ((w.alloc (.cells #[.int .u8 0, .string ⟨#[]⟩, .int .u8 0, .int .u8 0, .int .i64 0, .string ⟨#[]⟩, .int .i64 0] 34)).alloc (.cells #[.func (.func 23) #[] #[], .func (.func 24) #[] #[], .func (.func 25) #[] #[], .func (.func 27) #[] #[], .func (.func 29) #[] #[], .func (.func 30) #[] #[], .func (.func 31) #[] #[]] 42)).cell? ⟨b, o, none⟩ := fun b o h => (bcell hbw).1 b o (by simpa using h)
        have hzf : ∀ (b o : Nat), b < w.heap.size + 1 + 1 → wr.frozen? ⟨b, o, none⟩ = ((w.alloc (.cells #[.int .u8 0, .string ⟨#[]⟩, .int .u8 0, .int .u8 0, .int .i64 0, .string ⟨#[]⟩, .int .i64 0] 34)).alloc (.cells #[.func (.func 23) #[] #[], .func (.func 24) #[] #[], .func (.func 25) #[] #[], .func (.func 27) #[] #[], .func (.func 29) #[] #[], .func (.func 30) #[] #[], .func (.func 31) #[] #[]] 42)).frozen? ⟨b, o, none⟩ := fun b o h => (bcell hbw).2 b o (by simpa using h)
        cases hx : seven s.data.toList 1 with
        | some y =>
          obtain ⟨ty, n⟩ := y
          have hn := seven_pos hx
          have HE : Hid (A = some (ty, n)) := by show _ = _; rw [hst, hx]; rfl
          rw [hx] at C24
          have C := C24 wr HVr.out
          unfold tkV tv at C
          have hnz : (0 : Int) < n := by omega
          clear C24 hst hx hn
          go_wp2_with (first | (go_at_call 24; refine C.mono ?_; rintro e w1 ⟨rfl, hb1⟩; clear C; obtain ⟨hc, hf⟩ := bcell hb1; have hz1 : w.heap.size < w1.heap.size := by { have := hb1.size; omega }))
          have q0 : w1.cell? ⟨w.heap.size, 0, none⟩ = some (.int .u8 0) := by rw [hc _ _ hz0, hzb _ _ (by omega)]; go_simp
          have q1 : w1.cell? ⟨w.heap.size, 1, none⟩ = some (.string ⟨#[]⟩) := by rw [hc _ _ hz0, hzb _ _ (by omega)]; go_simp
          have q2 : w1.cell? ⟨w.heap.size, 2, none⟩ = some (.int .u8 0) := by rw [hc _ _ hz0, hzb _ _ (by omega)]; go_simp
          have q3 : w1.cell? ⟨w.heap.size, 3, none⟩ = some (.int .u8 0) := by rw [hc _ _ hz0, hzb _ _ (by omega)]; go_simp
          have q4 : w1.cell? ⟨w.heap.size, 4, none⟩ = some (.int .i64 0) := by rw [hc _ _ hz0, hzb _ _ (by omega)]; go_simp
          have q5 : w1.cell? ⟨w.heap.size, 5, none⟩ = some (.string ⟨#[]⟩) := by rw [hc _ _ hz0, hzb _ _ (by omega)]; go_simp
          have q6 : w1.cell? ⟨w.heap.size, 6, none⟩ = some (.int .i64 0) := by rw [hc _ _ hz0, hzb _ _ (by omega)]; go_simp
          refine bodyPost_ret (v := tkV (some (ty, n))) (by simp [results, Tryd.results14, go_sem, tkV, tv, q0, q1, q2, q3, q4, q5, q6, hz1] <;> rfl) rfl ⟨by rw [HE.out], ?_⟩
          exact set7a (bt HBr.out hb1) _ _ _ _ _ _ _ _ _
        | none =>
          have HE : Hid (svFrom s.data.toList (7 - (1 + 1)) (1 + 1) = A) := by show _ = _; rw [hst, hx]; rfl
          rw [hx] at C24
          have C := C24 wr HVr.out
          unfold tkV tv at C
          clear C24 hst hx
          go_wp2_with (first | (go_at_call 24; refine C.mono ?_; rintro e w1 ⟨rfl, hb1⟩; clear C; obtain ⟨hc, hf⟩ := bcell hb1; have hz1 : w.heap.size < w1.heap.size := by { have := hb1.size; omega }))
          go_roundw
          case rel => exact ⟨1 + 1, by simp, by omega, HE.out, (bt hbw hb1).alloc (bt hbw hb1).size _⟩
          case measure => simp [intOf]
      · subst h0
        clear C23 C24 C27 C29 C30 C31 HR h7 hk
        have hcl : wr.cell? ⟨w.heap.size + 1, 2, none⟩ = some (.func (.func 25) #[] #[]) := by rw [(bcell hbw).1 _ _ (by simp)]; go_simp
        have hzb : ∀ (b o : Nat), b < w.heap.size + 1 + 1 → wr.cell? ⟨b, o, none⟩ = ((w.alloc (.cells #[.int .u8 0, .string ⟨#[]⟩, .int .u8 0, .int .u8 0, .int .i64 0, .string ⟨#[]⟩, .int .i64 0] 34)).alloc (.cells #[.func (.func 23) #[] #[], .func (.func 24) #[] #[], .func (.func 25) #[] #[], .func (.func 27) #[] #[], .func (.func 29) #[] #[], .func (.func 30) #[] #[], .func (.func 31) #[] #[]] 42)).cell? ⟨b, o, none⟩ := fun b o h => (bcell hbw).1 b o (by simpa using h)
        have hzf : ∀ (b o : Nat), b < w.heap.size + 1 + 1 → wr.frozen? ⟨b, o, none⟩ = ((w.alloc (.cells #[.int .u8 0, .string ⟨#[]⟩, .int .u8 0, .int .u8 0, .int .i64 0, .string ⟨#[]⟩, .int .i64 0] 34)).alloc (.cells #[.func (.func 23) #[] #[], .func (.func 24) #[] #[], .func (.func 25) #[] #[], .func (.func 27) #[] #[], .func (.func 29) #[] #[], .func (.func 30) #[] #[], .func (.func 31) #[] #[]] 42)).frozen? ⟨b, o, none⟩ := fun b o h => (bcell hbw).2 b o (by simpa using h)
        cases hx : seven s.data.toList 2 with
        | some y =>
          obtain ⟨ty, n⟩ := y
          have hn := seven_pos hx
          have HE : Hid (A = some (ty, n)) := by show _ = _; rw [hst, hx]; rfl
          rw [hx] at C25
          have C := C25 wr HVr.out
          unfold tkV tv at C
          have hnz : (0 : Int) < n := by omega
          clear C25 hst hx hn
          go_wp2_with (first | (go_at_call 25; refine C.mono ?_; rintro e w1 ⟨rfl, hb1⟩; clear C; obtain ⟨hc, hf⟩ := bcell hb1; have hz1 : w.heap.size < w1.heap.size := by { have := hb1.size; omega }))
          have q0 : w1.cell? ⟨w.heap.size, 0, none⟩ = some (.int .u8 0) := by rw [hc _ _ hz0, hzb _ _ (by omega)]; go_simp
          have q1 : w1.cell? ⟨w.heap.size, 1, none⟩ = some (.string ⟨#[]⟩) := by rw [hc _ _ hz0, hzb _ _ (by omega)]; go_simp
          have q2 : w1.cell? ⟨w.heap.size, 2, none⟩ = some (.int .u8 0) := by rw [hc _ _ hz0, hzb _ _ (by omega)]; go_simp
          have q3 : w1.cell? ⟨w.heap.size, 3, none⟩ = some (.int .u8 0) := by rw [hc _ _ hz0, hzb _ _ (by omega)]; go_simp
          have q4 : w1.cell? ⟨w.heap.size, 4, none⟩ = some (.int .i64 0) := by rw [hc _ _ hz0, hzb _ _ (by omega)]; go_simp
          have q5 : w1.cell? ⟨w.heap.size, 5, none⟩ = some (.string ⟨#[]⟩) := by rw [hc _ _ hz0, hzb _ _ (by omega)]; go_simp
          have q6 : w1.cell? ⟨w.heap.size, 6, none⟩ = some (.int .i64 0) := by rw [hc _ _ hz0, hzb _ _ (by omega)]; go_simp
          refine bodyPost_ret (v := tkV (some (ty, n))) (by simp [results, Tryd.results14, go_sem, tkV, tv, q0, q1, q2, q3, q4, q5, q6, hz1] <;> rfl) rfl ⟨by rw [HE.out], ?_⟩
          exact set7a (bt HBr.out hb1) _ _ _ _ _ _ _ _ _
        | none =>
          have HE : Hid (svFrom s.data.toList (7 - (2 + 1)) (2 + 1) = A) := by show _ = _; rw [hst, hx]; rfl
          rw [hx] at C25
          have C := C25 wr HVr.out
          unfold tkV tv at C
          clear C25 hst hx
          go_wp2_with (first | (go_at_call 25; refine C.mono ?_; rintro e w1 ⟨rfl, hb1⟩; clear C; obtain ⟨hc, hf⟩ := bcell hb1; have hz1 : w.heap.size < w1.heap.size := by { have := hb1.size; omega }))
          go_roundw
          case rel => exact ⟨2 + 1, by simp, by omega, HE.out, (bt hbw hb1).alloc (bt hbw hb1).size _⟩
          case measure => simp [intOf]
      · subst h0
        clear C23 C24 C25 C29 C30 C31 HR h7 hk
        have hcl : wr.cell? ⟨w.heap.size + 1, 3, none⟩ = some (.func (.func 27) #[] #[]) := by rw [(bcell hbw).1 _ _ (by simp)]; go_simp
        have hzb : ∀ (b o : Nat), b < w.heap.size + 1 + 1 → wr.cell? ⟨b, o, none⟩ = ((w.alloc (.cells #[.int .u8 0, .string ⟨#[]⟩, .int .u8 0, .int .u8 0, .int .i64 0, .string ⟨#[]⟩, .int .i64 0] 34)).alloc (.cells #[.func (.func 23) #[] #[], .func (.func 24) #[] #[], .func (.func 25) #[] #[], .func (.func 27) #[] #[], .func (.func 29) #[] #[], .func (.func 30) #[] #[], .func (.func 31) #[] #[]] 42)).cell? ⟨b, o, none⟩ := fun b o h => (bcell hbw).1 b o (by simpa using h)
        have hzf : ∀ (b o : Nat), b < w.heap.size + 1 + 1 → wr.frozen? ⟨b, o, none⟩ = ((w.alloc (.cells #[.int .u8 0, .string ⟨#[]⟩, .int .u8 0, .int .u8 0, .int .i64 0, .string ⟨#[]⟩, .int .i64 0] 34)).alloc (.cells #[.func (.func 23) #[] #[], .func (.func 24) #[] #[], .func (.func 25) #[] #[], .func (.func 27) #[] #[], .func (.func 29) #[] #[], .func (.func 30) #[] #[], .func (.func 31) #[] #[]] 42)).frozen? ⟨b, o, none⟩ := fun b o h => (bcell hbw).2 b o (by simpa using h)
        cases hx : seven s.data.toList 3 with
        | some y =>
          obtain ⟨ty, n⟩ := y
          have hn := seven_pos hx
          have HE : Hid (A = some (ty, n)) := by show _ = _; rw [hst, hx]; rfl
          rw [hx] at C27
          have C := C27 wr HVr.out
          unfold tkV tv at C
          have hnz : (0 : Int) < n := by omega
          clear C27 hst hx hn
          go_wp2_with (first | (go_at_call 27; refine C.mono ?_; rintro e w1 ⟨rfl, hb1⟩; clear C; obtain ⟨hc, hf⟩ := bcell hb1; have hz1 : w.heap.size < w1.heap.size := by { have := hb1.size; omega }))
          have q0 : w1.cell? ⟨w.heap.size, 0, none⟩ = some (.int .u8 0) := by rw [hc _ _ hz0, hzb _ _ (by omega)]; go_simp
          have q1 : w1.cell? ⟨w.heap.size, 1, none⟩ = some (.string ⟨#[]⟩) := by rw [hc _ _ hz0, hzb _ _ (by omega)]; go_simp
          have q2 : w1.cell? ⟨w.heap.size, 2, none⟩ = some (.int .u8 0) := by rw [hc _ _ hz0, hzb _ _ (by omega)]; go_simp
          have q3 : w1.cell? ⟨w.heap.size, 3, none⟩ = some (.int .u8 0) := by rw [hc _ _ hz0, hzb _ _ (by omega)]; go_simp
          have q4 : w1.cell? ⟨w.heap.size, 4, none⟩ = some (.int .i64 0) := by rw [hc _ _ hz0, hzb _ _ (by omega)]; go_simp
          have q5 : w1.cell? ⟨w.heap.size, 5, none⟩ = some (.string ⟨#[]⟩) := by rw [hc _ _ hz0, hzb _ _ (by omega)]; go_simp
          have q6 : w1.cell? ⟨w.heap.size, 6, none⟩ = some (.int .i64 0) := by rw [hc _ _ hz0, hzb _ _ (by omega)]; go_simp
          refine bodyPost_ret (v := tkV (some (ty, n))) (by simp [results, Tryd.results14, go_sem, tkV, tv, q0, q1, q2, q3, q4, q5, q6, hz1] <;> rfl) rfl ⟨by rw [HE.out], ?_⟩
          exact set7a (bt HBr.out hb1) _ _ _ _ _ _ _ _ _
        | none =>
          have HE : Hid (svFrom s.data.toList (7 - (3 + 1)) (3 + 1) = A) := by show _ = _; rw [hst, hx]; rfl
          rw [hx] at C27
          have C := C27 wr HVr.out
          unfold tkV tv at C
          clear C27 hst hx
          go_wp2_with (first | (go_at_call 27; refine C.mono ?_; rintro e w1 ⟨rfl, hb1⟩; clear C; obtain ⟨hc, hf⟩ := bcell hb1; have hz1 : w.heap.size < w1.heap.size := by { have := hb1.size; omega }))
          go_roundw
          case rel => exact ⟨3 + 1, by simp, by omega, HE.out, (bt hbw hb1).alloc (bt hbw hb1).size _⟩
          case measure => simp [intOf]
      · subst h0
        clear C23 C24 C25 C27 C30 C31 HR h7 hk
        have hcl : wr.cell? ⟨w.heap.size + 1, 4, none⟩ = some (.func (.func 29) #[] #[]) := by rw [(bcell hbw).1 _ _ (by simp)]; go_simp
        have hzb : ∀ (b o : Nat), b < w.heap.size + 1 + 1 → wr.cell? ⟨b, o, none⟩ = ((w.alloc (.cells #[.int .u8 0, .string ⟨#[]⟩, .int .u8 0, .int .u8 0, .int .i64 0, .string ⟨#[]⟩, .int .i64 0] 34)).alloc (.cells #[.func (.func 23) #[] #[], .func (.func 24) #[] #[], .func (.func 25) #[] #[], .func (.func 27) #[] #[], .func (.func 29) #[] #[], .func (.func 30) #[] #[], .func (.func 31) #[] #[]] 42)).cell? ⟨b, o, none⟩ := fun b o h => (bcell hbw).1 b o (by simpa using h)
        have hzf : ∀ (b o : Nat), b < w.heap.size + 1 + 1 → wr.frozen? ⟨b, o, none⟩ = ((w.alloc (.cells #[.int .u8 0, .string ⟨#[]⟩, .int .u8 0, .int .u8 0, .int .i64 0, .string ⟨#[]⟩, .int .i64 0] 34)).alloc (.cells #[.func (.func 23) #[] #[], .func (.func 24) #[] #[], .func (.func 25) #[] #[], .func (.func 27) #[] #[], .func (.func 29) #[] #[], .func (.func 30) #[] #[], .func (.func 31) #[] #[]] 42)).frozen? ⟨b, o, none⟩ := fun b o h => (bcell hbw).2 b o (by simpa using h)
        cases hx : seven s.data.toList 4 with
        | some y =>
          obtain ⟨ty, n⟩ := y
          have hn := seven_pos hx
          have HE : Hid (A = some (ty, n)) := by show _ = _; rw [hst, hx]; rfl
          rw [hx] at C29
          have C := C29 wr HVr.out
          unfold tkV tv at C
          have hnz : (0 : Int) < n := by omega
          clear C29 hst hx hn
          go_wp2_with (first | (go_at_call 29; refine C.mono ?_; rintro e w1 ⟨rfl, hb1⟩; clear C; obtain ⟨hc, hf⟩ := bcell hb1; have hz1 : w.heap.size < w1.heap.size := by { have := hb1.size; omega }))
          have q0 : w1.cell? ⟨w.heap.size, 0, none⟩ = some (.int .u8 0) := by rw [hc _ _ hz0, hzb _ _ (by omega)]; go_simp
          have q1 : w1.cell? ⟨w.heap.size, 1, none⟩ = some (.string ⟨#[]⟩) := by rw [hc _ _ hz0, hzb _ _ (by omega)]; go_simp
          have q2 : w1.cell? ⟨w.heap.size, 2, none⟩ = some (.int .u8 0) := by rw [hc _ _ hz0, hzb _ _ (by omega)]; go_simp
          have q3 : w1.cell? ⟨w.heap.size, 3, none⟩ = some (.int .u8 0) := by rw [hc _ _ hz0, hzb _ _ (by omega)]; go_simp
          have q4 : w1.cell? ⟨w.heap.size, 4, none⟩ = some (.int .i64 0) := by rw [hc _ _ hz0, hzb _ _ (by omega)]; go_simp
          have q5 : w1.cell? ⟨w.heap.size, 5, none⟩ = some (.string ⟨#[]⟩) := by rw [hc _ _ hz0, hzb _ _ (by omega)]; go_simp
          have q6 : w1.cell? ⟨w.heap.size, 6, none⟩ = some (.int .i64 0) := by rw [hc _ _ hz0, hzb _ _ (by omega)]; go_simp
          refine bodyPost_ret (v := tkV (some (ty, n))) (by simp [results, Tryd.results14, go_sem, tkV, tv, q0, q1, q2, q3, q4, q5, q6, hz1] <;> rfl) rfl ⟨by rw [HE.out], ?_⟩
          exact set7a (bt HBr.out hb1) _ _ _ _ _ _ _ _ _
        | none =>
          have HE : Hid (svFrom s.data.toList (7 - (4 + 1)) (4 + 1) = A) := by show _ = _; rw [hst, hx]; rfl
          rw [hx] at C29
          have C := C29 wr HVr.out
          unfold tkV tv at C
          clear C29 hst hx
          go_wp2_with (first | (go_at_call 29; refine C.mono ?_; rintro e w1 ⟨rfl, hb1⟩; clear C; obtain ⟨hc, hf⟩ := bcell hb1; have hz1 : w.heap.size < w1.heap.size := by { have := hb1.size; omega }))
          go_roundw
          case rel => exact ⟨4 + 1, by simp, by omega, HE.out, (bt hbw hb1).alloc (bt hbw hb1).size _⟩
          case measure => simp [intOf]
      · subst h0
        clear C23 C24 C25 C27 C29 C31 HR h7 hk
        have hcl : wr.cell? ⟨w.heap.size + 1, 5, none⟩ = some (.func (.func 30) #[] #[]) := by rw [(bcell hbw).1 _ _ (by simp)]; go_simp
        have hzb : ∀ (b o : Nat), b < w.heap.size + 1 + 1 → wr.cell? ⟨b, o, none⟩ = ((w.alloc (.cells #[.int .u8 0, .string ⟨#[]⟩, .int .u8 0, .int .u8 0, .int .i64 0, .string ⟨#[]⟩, .int .i64 0] 34)).alloc (.cells #[.func (.func 23) #[] #[], .func (.func 24) #[] #[], .func (.func 25) #[] #[], .func (.func 27) #[] #[], .func (.func 29) #[] #[], .func (.func 30) #[] #[], .func (.func 31) #[] #[]] 42)).cell? ⟨b, o, none⟩ := fun b o h => (bcell hbw).1 b o (by simpa using h)
        have hzf : ∀ (b o : Nat), b < w.heap.size + 1 + 1 → wr.frozen? ⟨b, o, none⟩ = ((w.alloc (.cells #[.int .u8 0, .string ⟨#[]⟩, .int .u8 0, .int .u8 0, .int .i64 0, .string ⟨#[]⟩, .int .i64 0] 34)).alloc (.cells #[.func (.func 23) #[] #[], .func (.func 24) #[] #[], .func (.func 25) #[] #[], .func (.func 27) #[] #[], .func (.func 29) #[] #[], .func (.func 30) #[] #[], .func (.func 31) #[] #[]] 42)).frozen? ⟨b, o, none⟩ := fun b o h => (bcell hbw).2 b o (by simpa using h)
        cases hx : seven s.data.toList 5 with
        | some y =>
          obtain ⟨ty, n⟩ := y
          have hn := seven_pos hx
          have HE : Hid (A = some (ty, n)) := by show _ = _; rw [hst, hx]; rfl
          rw [hx] at C30
          have C := C30 wr HVr.out
          unfold tkV tv at C
          have hnz : (0 : Int) < n := by omega
          clear C30 hst hx hn
          go_wp2_with (first | (go_at_call 30; refine C.mono ?_; rintro e w1 ⟨rfl, hb1⟩; clear C; obtain ⟨hc, hf⟩ := bcell hb1; have hz1 : w.heap.size < w1.heap.size := by { have := hb1.size; omega }))
          have q0 : w1.cell? ⟨w.heap.size, 0, none⟩ = some (.int .u8 0) := by rw [hc _ _ hz0, hzb _ _ (by omega)]; go_simp
          have q1 : w1.cell? ⟨w.heap.size, 1, none⟩ = some (.string ⟨#[]⟩) := by rw [hc _ _ hz0, hzb _ _ (by omega)]; go_simp
          have q2 : w1.cell? ⟨w.heap.size, 2, none⟩ = some (.int .u8 0) := by rw [hc _ _ hz0, hzb _ _ (by omega)]; go_simp
          have q3 : w1.cell? ⟨w.heap.size, 3, none⟩ = some (.int .u8 0) := by rw [hc _ _ hz0, hzb _ _ (by omega)]; go_simp
          have q4 : w1.cell? ⟨w.heap.size, 4, none⟩ = some (.int .i64 0) := by rw [hc _ _ hz0, hzb _ _ (by omega)]; go_simp
          have q5 : w1.cell? ⟨w.heap.size, 5, none⟩ = some (.string ⟨#[]⟩) := by rw [hc _ _ hz0, hzb _ _ (by omega)]; go_simp
          have q6 : w1.cell? ⟨w.heap.size, 6, none⟩ = some (.int .i64 0) := by rw [hc _ _ hz0, hzb _ _ (by omega)]; go_simp
          refine bodyPost_ret (v := tkV (some (ty, n))) (by simp [results, Tryd.results14, go_sem, tkV, tv, q0, q1, q2, q3, q4, q5, q6, hz1] <;> rfl) rfl ⟨by rw [HE.out], ?_⟩
          exact set7a (bt HBr.out hb1) _ _ _ _ _ _ _ _ _
        | none =>
          have HE : Hid (svFrom s.data.toList (7 - (5 + 1)) (5 + 1) = A) := by show _ = _; rw [hst, hx]; rfl
          rw [hx] at C30
          have C := C30 wr HVr.out
          unfold tkV tv at C
          clear C30 hst hx
          go_wp2_with (first | (go_at_call 30; refine C.mono ?_; rintro e w1 ⟨rfl, hb1⟩; clear C; obtain ⟨hc, hf⟩ := bcell hb1; have hz1 : w.heap.size < w1.heap.size := by { have := hb1.size; omega }))
          go_roundw
          case rel => exact ⟨5 + 1, by simp, by omega, HE.out, (bt hbw hb1).alloc (bt hbw hb1).size _⟩
          case measure => simp [intOf]
      · subst h0
        clear C23 C24 C25 C27 C29 C30 HR h7 hk
        have hcl : wr.cell? ⟨w.heap.size + 1, 6, none⟩ = some (.func (.func 31) #[] #[]) := by rw [(bcell hbw).1 _ _ (by simp)]; go_simp
        have hzb : ∀ (b o : Nat), b < w.heap.size + 1 + 1 → wr.cell? ⟨b, o, none⟩ = ((w.alloc (.cells #[.int .u8 0, .string ⟨#[]⟩, .int .u8 0, .int .u8 0, .int .i64 0, .string ⟨#[]⟩, .int .i64 0] 34)).alloc (.cells #[.func (.func 23) #[] #[], .func (.func 24) #[] #[], .func (.func 25) #[] #[], .func (.func 27) #[] #[], .func (.func 29) #[] #[], .func (.func 30) #[] #[], .func (.func 31) #[] #[]] 42)).cell? ⟨b, o, none⟩ := fun b o h => (bcell hbw).1 b o (by simpa using h)
        have hzf : ∀ (b o : Nat), b < w.heap.size + 1 + 1 → wr.frozen? ⟨b, o, none⟩ = ((w.alloc (.cells #[.int .u8 0, .string ⟨#[]⟩, .int .u8 0, .int .u8 0, .int .i64 0, .string ⟨#[]⟩, .int .i64 0] 34)).alloc (.cells #[.func (.func 23) #[] #[], .func (.func 24) #[] #[], .func (.func 25) #[] #[], .func (.func 27) #[] #[], .func (.func 29) #[] #[], .func (.func 30) #[] #[], .func (.func 31) #[] #[]] 42)).frozen? ⟨b, o, none⟩ := fun b o h => (bcell hbw).2 b o (by simpa using h)
        cases hx : seven s.data.toList 6 with
        | some y =>
          obtain ⟨ty, n⟩ := y
          have hn := seven_pos hx
          have HE : Hid (A = some (ty, n)) := by show _ = _; rw [hst, hx]; rfl
          rw [hx] at C31
          have C := C31 wr HVr.out
          unfold tkV tv at C
          have hnz : (0 : Int) < n := by omega
          clear C31 hst hx hn
          go_wp2_with (first | (go_at_call 31; refine C.mono ?_; rintro e w1 ⟨rfl, hb1⟩; clear C; obtain ⟨hc, hf⟩ := bcell hb1; have hz1 : w.heap.size < w1.heap.size := by { have := hb1.size; omega }))
          have q0 : w1.cell? ⟨w.heap.size, 0, none⟩ = some (.int .u8 0) := by rw [hc _ _ hz0, hzb _ _ (by omega)]; go_simp
          have q1 : w1.cell? ⟨w.heap.size, 1, none⟩ = some (.string ⟨#[]⟩) := by rw [hc _ _ hz0, hzb _ _ (by omega)]; go_simp
          have q2 : w1.cell? ⟨w.heap.size, 2, none⟩ = some (.int .u8 0) := by rw [hc _ _ hz0, hzb _ _ (by omega)]; go_simp
          have q3 : w1.cell? ⟨w.heap.size, 3, none⟩ = some (.int .u8 0) := by rw [hc _ _ hz0, hzb _ _ (by omega)]; go_simp
          have q4 : w1.cell? ⟨w.heap.size, 4, none⟩ = some (.int .i64 0) := by rw [hc _ _ hz0, hzb _ _ (by omega)]; go_simp
          have q5 : w1.cell? ⟨w.heap.size, 5, none⟩ = some (.string ⟨#[]⟩) := by rw [hc _ _ hz0, hzb _ _ (by omega)]; go_simp
          have q6 : w1.cell? ⟨w.heap.size, 6, none⟩ = some (.int .i64 0) := by rw [hc _ _ hz0, hzb _ _ (by omega)]; go_simp
          refine bodyPost_ret (v := tkV (some (ty, n))) (by simp [results, Tryd.results14, go_sem, tkV, tv, q0, q1, q2, q3, q4, q5, q6, hz1] <;> rfl) rfl ⟨by rw [HE.out], ?_⟩
          exact set7a (bt HBr.out hb1) _ _ _ _ _ _ _ _ _
        | none =>
          have HE : Hid (svFrom s.data.toList (7 - (6 + 1)) (6 + 1) = A) := by show _ = _; rw [hst, hx]; rfl
          rw [hx] at C31
          have C := C31 wr HVr.out
          unfold tkV tv at C
          clear C31 hst hx
          go_wp2_with (first | (go_at_call 31; refine C.mono ?_; rintro e w1 ⟨rfl, hb1⟩; clear C; obtain ⟨hc, hf⟩ := bcell hb1; have hz1 : w.heap.size < w1.heap.size := by { have := hb1.size; omega }))
          go_roundw
          case rel => exact ⟨6 + 1, by simp, by omega, HE.out, (bt hbw hb1).alloc (bt hbw hb1).size _⟩
          case measure => simp [intOf]
    · obtain rfl : k = 7 := by omega
      have HE : Hid (A = none) := by show _ = _; rw [← HR.out]; rfl
      have hzb : ∀ (b o : Nat), b < w.heap.size + 1 + 1 → wr.cell? ⟨b, o, none⟩ = ((w.alloc (.cells #[.int .u8 0, .string ⟨#[]⟩, .int .u8 0, .int .u8 0, .int .i64 0, .string ⟨#[]⟩, .int .i64 0] 34)).alloc (.cells #[.func (.func 23) #[] #[], .func (.func 24) #[] #[], .func (.func 25) #[] #[], .func (.func 27) #[] #[], .func (.func 29) #[] #[], .func (.func 30) #[] #[], .func (.func 31) #[] #[]] 42)).cell? ⟨b, o, none⟩ := fun b o h => (bcell hbw).1 b o (by simpa using h)
      have hzf : ∀ (b o : Nat), b < w.heap.size + 1 + 1 → wr.frozen? ⟨b, o, none⟩ = ((w.alloc (.cells #[.int .u8 0, .string ⟨#[]⟩, .int .u8 0, .int .u8 0, .int .i64 0, .string ⟨#[]⟩, .int .i64 0] 34)).alloc (.cells #[.func (.func 23) #[] #[], .func (.func 24) #[] #[], .func (.func 25) #[] #[], .func (.func 27) #[] #[], .func (.func 29) #[] #[], .func (.func 30) #[] #[], .func (.func 31) #[] #[]] 42)).frozen? ⟨b, o, none⟩ := fun b o h => (bcell hbw).2 b o (by simpa using h)
      clear HR C23 C24 C25 C27 C29 C30 C31
      go_wp2
      have q0 : wr.cell? ⟨w.heap.size, 0, none⟩ = some (.int .u8 0) := by rw [hzb _ _ (by omega)]; go_simp
      have q1 : wr.cell? ⟨w.heap.size, 1, none⟩ = some (.string ⟨#[]⟩) := by rw [hzb _ _ (by omega)]; go_simp
      have q2 : wr.cell? ⟨w.heap.size, 2, none⟩ = some (.int .u8 0) := by rw [hzb _ _ (by omega)]; go_simp
      have q3 : wr.cell? ⟨w.heap.size, 3, none⟩ = some (.int .u8 0) := by rw [hzb _ _ (by omega)]; go_simp
      have q4 : wr.cell? ⟨w.heap.size, 4, none⟩ = some (.int .i64 0) := by rw [hzb _ _ (by omega)]; go_simp
      have q5 : wr.cell? ⟨w.heap.size, 5, none⟩ = some (.string ⟨#[]⟩) := by rw [hzb _ _ (by omega)]; go_simp
      have q6 : wr.cell? ⟨w.heap.size, 6, none⟩ = some (.int .i64 0) := by rw [hzb _ _ (by omega)]; go_simp
      refine bodyPost_ret (v := tkV none) (by simp [results, Tryd.results14, go_sem, tkV, tv, st, tok0, q0, q1, q2, q3, q4, q5, q6, hz0] <;> rfl) rfl ⟨by rw [HE.out], ?_⟩
      exact set7 HBr.out _ (Nat.le_refl _) _ _ _ _ _ _ _
end Go.Proofs.YtglimefhiggdeaaDoor
