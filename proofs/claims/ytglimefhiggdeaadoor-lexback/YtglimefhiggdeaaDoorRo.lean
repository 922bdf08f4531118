/- The document's one: contract of a single call. -/
import Derived.Test.YtglimefhiggdeaaDoorPv
namespace Go.Proofs.YtglimefhiggdeaaDoor
open Go.RowKit
set_option linter.unusedVariables false
set_option linter.unusedSimpArgs false
set_option maxRecDepth 20000

/-- one, place by place. -/
theorem one_ifs (l : List UInt8) (R : Nat) (hR : runN (l.drop 1) = R) (hl : l ≠ []) (hf : fixL l = none) : oneL l =
    if l.getD 0 0 = 60 ∧ R ≠ 0 ∧ preB [62] (l.drop (1 + R)) = true then (if 24 < R then none else some (tokN 9 ((l.drop 1).take R), R + 2))
    else (sglL l).or (if l.getD 0 0 = 94 then (if R = 0 ∨ 24 < R then none else some (tokN 8 ((l.drop 1).take R), R + 1)) else vlL l) := by
  unfold oneL
  rw [hf]
  have hlen : ((l.drop 1).take (runN (l.drop 1))).length = runN (l.drop 1) := by
    rw [List.length_take]; have := runN_le _ (l.drop 1) (Nat.le_refl _); omega
  have hr0 : ((l.drop 1).take (runN (l.drop 1)) = []) ↔ runN (l.drop 1) = 0 := by
    rw [← List.length_eq_zero_iff, hlen]
  have hg : (preB [62] (l.drop (1 + R)) = true) = ((l.drop (1 + R)).getD 0 0 = 62) := by
    cases hm : l.drop (1 + R) with
    | nil => rw [pre_of_nil]; simp
    | cons b m => rw [pre_cons, pre_nil]; simp
  simp only [hlen, ne_eq, hr0]
  rw [hR]
  simp only [hg]
  split
  · rfl
  · cases sglL l with
    | some x => rfl
    | none => rfl
theorem rword (s : ByteArray) (R : Nat) (hR : R ≤ s.size) : (s.extract 0 R).data.toList = s.data.toList.take R ∧ (s.extract 0 R).size = R := by
  refine ⟨take_list s R, ?_⟩
  rw [← lenL, take_list, List.length_take, lenL]; omega
set_option maxHeartbeats 8000000 in
theorem one_f (s : ByteArray) (w : World) (hs : s.size ≤ 1000000) (h0 : 0 < s.size) (A : Option (Tk × Nat)) (k p vk vn : Int) (nm vs : ByteArray) (n : Nat) (hn : 0 < n) (CF : ∀ W, Calls Tryd.prog 32 #[.string s] W fun e w' => e = .returned (.tuple #[.agg #[.int .u8 k, .string nm, .int .u8 p, .int .u8 vk, .int .i64 vn, .string vs, .int .i64 0], .int .i64 n]) ∧ Below W.heap.size W w') (HA : Hid (tkV A = .tuple #[.agg #[.int .u8 k, .string nm, .int .u8 p, .int .u8 vk, .int .i64 vn, .string vs, .int .i64 0], .int .i64 n])) : Calls Tryd.prog 16 #[.string s] w fun e w' => e = .returned (tkV A) ∧ Below w.heap.size w w' := by
  have hz0 : (0 : Int) < s.size := by omega
  have hz1 : (1 : Int) ≤ s.size := by omega
  have hg0 := get_at s 0 h0
  have hnz : (0 : Int) < n := by omega
  go_enter Tryd.func16, Tryd.ntmps16
  go_wp2_with (first | (go_at_call 32; refine (CF _).mono ?_; rintro e w1 ⟨rfl, hb1⟩; clear CF; obtain ⟨hc, hf⟩ := bcell hb1; have hz : w.heap.size < w1.heap.size := by { have := hb1.size; simp at this; omega }))
  have q0 : w1.cell? ⟨w.heap.size, 0, none⟩ = some (.int .u8 0) := by rw [hc _ _ (by simp)]; go_simp
  have q1 : w1.cell? ⟨w.heap.size, 1, none⟩ = some (.string ⟨#[]⟩) := by rw [hc _ _ (by simp)]; go_simp
  have q2 : w1.cell? ⟨w.heap.size, 2, none⟩ = some (.int .u8 0) := by rw [hc _ _ (by simp)]; go_simp
  have q3 : w1.cell? ⟨w.heap.size, 3, none⟩ = some (.int .u8 0) := by rw [hc _ _ (by simp)]; go_simp
  have q4 : w1.cell? ⟨w.heap.size, 4, none⟩ = some (.int .i64 0) := by rw [hc _ _ (by simp)]; go_simp
  have q5 : w1.cell? ⟨w.heap.size, 5, none⟩ = some (.string ⟨#[]⟩) := by rw [hc _ _ (by simp)]; go_simp
  have q6 : w1.cell? ⟨w.heap.size, 6, none⟩ = some (.int .i64 0) := by rw [hc _ _ (by simp)]; go_simp
  refine bodyPost_ret (v := .tuple #[.agg #[.int .u8 k, .string nm, .int .u8 p, .int .u8 vk, .int .i64 vn, .string vs, .int .i64 0], .int .i64 n]) (by simp [results, Tryd.results16, go_sem, q0, q1, q2, q3, q4, q5, q6, hz] <;> rfl) rfl ⟨by rw [HA.out], ?_⟩
  exact set7a (up1 hb1) _ _ _ _ _ _ _ _ _
set_option maxHeartbeats 8000000 in
theorem one_vb (s : ByteArray) (w : World) (hs : s.size ≤ 1000000) (h0 : 0 < s.size) (A : Option (Tk × Nat)) (x nm0 : ByteArray) (R : Nat) (hx : s.extract 1 s.size = x) (hnm : nm0.size = R) (hR : R + 1 ≤ s.size) (CR : ∀ W, Calls Tryd.prog 33 #[.string x] W fun e w' => e = .returned (.string nm0) ∧ w' = W) (CF : ∀ W, Calls Tryd.prog 32 #[.string s] W fun e w' => e = .returned (.tuple #[.agg #[.int .u8 0, .string ⟨#[]⟩, .int .u8 0, .int .u8 0, .int .i64 0, .string ⟨#[]⟩, .int .i64 0], .int .i64 0]) ∧ Below W.heap.size W w') (hb : s[0] = 60) (hem : nm0.toList.isEmpty = false) (q : ByteArray) (hq : s.extract (1 + R) s.size = q) (CB : ∀ W, Calls Tryd.prog 34 #[.string q, .string ⟨#[62]⟩] W fun e w' => e = .returned (.bool true) ∧ w' = W) (h24 : 24 < R) (HA : Hid (tkV A = .tuple #[.agg #[.int .u8 0, .string ⟨#[]⟩, .int .u8 0, .int .u8 0, .int .i64 0, .string ⟨#[]⟩, .int .i64 0], .int .i64 0])) : Calls Tryd.prog 16 #[.string s] w fun e w' => e = .returned (tkV A) ∧ Below w.heap.size w w' := by
  have hz0 : (0 : Int) < s.size := by omega
  have hz1 : (1 : Int) ≤ s.size := by omega
  have hg0 := get_at s 0 h0
  have hRz : (1 : Int) + R ≤ s.size := by omega
  have hnz : (nm0.size : Int) = R := by omega
  have hg1 : s[0] = 60 := hb
  clear hg0 hb
  have h24z : (24 : Int) < R := by omega
  go_enter Tryd.func16, Tryd.ntmps16
  go_wp2_with (first | (go_at_call 32; refine (CF _).mono ?_; rintro e w1 ⟨rfl, hb1⟩; clear CF; obtain ⟨hc, hf⟩ := bcell hb1; have hz : w.heap.size < w1.heap.size := by { have := hb1.size; simp at this; omega }) | (go_at_call 33; refine (CR _).mono ?_; rintro e w' ⟨rfl, hw⟩; obtain rfl := hw.symm; clear CR) | (go_at_call 34; refine (CB _).mono ?_; rintro e w' ⟨rfl, hw⟩; obtain rfl := hw.symm; clear CB))
  have q0 : w1.cell? ⟨w.heap.size, 0, none⟩ = some (.int .u8 0) := by rw [hc _ _ (by simp)]; go_simp
  have q1 : w1.cell? ⟨w.heap.size, 1, none⟩ = some (.string ⟨#[]⟩) := by rw [hc _ _ (by simp)]; go_simp
  have q2 : w1.cell? ⟨w.heap.size, 2, none⟩ = some (.int .u8 0) := by rw [hc _ _ (by simp)]; go_simp
  have q3 : w1.cell? ⟨w.heap.size, 3, none⟩ = some (.int .u8 0) := by rw [hc _ _ (by simp)]; go_simp
  have q4 : w1.cell? ⟨w.heap.size, 4, none⟩ = some (.int .i64 0) := by rw [hc _ _ (by simp)]; go_simp
  have q5 : w1.cell? ⟨w.heap.size, 5, none⟩ = some (.string ⟨#[]⟩) := by rw [hc _ _ (by simp)]; go_simp
  have q6 : w1.cell? ⟨w.heap.size, 6, none⟩ = some (.int .i64 0) := by rw [hc _ _ (by simp)]; go_simp
  refine bodyPost_ret (v := .tuple #[.agg #[.int .u8 0, .string ⟨#[]⟩, .int .u8 0, .int .u8 0, .int .i64 0, .string ⟨#[]⟩, .int .i64 0], .int .i64 0]) (by simp [results, Tryd.results16, go_sem, q0, q1, q2, q3, q4, q5, q6, hz] <;> rfl) rfl ⟨by rw [HA.out], ?_⟩
  exact set7a (up1 hb1) _ _ _ _ _ _ _ _ _
set_option maxHeartbeats 8000000 in
theorem one_vc (s : ByteArray) (w : World) (hs : s.size ≤ 1000000) (h0 : 0 < s.size) (A : Option (Tk × Nat)) (x nm0 : ByteArray) (R : Nat) (hx : s.extract 1 s.size = x) (hnm : nm0.size = R) (hR : R + 1 ≤ s.size) (CR : ∀ W, Calls Tryd.prog 33 #[.string x] W fun e w' => e = .returned (.string nm0) ∧ w' = W) (CF : ∀ W, Calls Tryd.prog 32 #[.string s] W fun e w' => e = .returned (.tuple #[.agg #[.int .u8 0, .string ⟨#[]⟩, .int .u8 0, .int .u8 0, .int .i64 0, .string ⟨#[]⟩, .int .i64 0], .int .i64 0]) ∧ Below W.heap.size W w') (hb : s[0] = 60) (hem : nm0.toList.isEmpty = false) (q : ByteArray) (hq : s.extract (1 + R) s.size = q) (CB : ∀ W, Calls Tryd.prog 34 #[.string q, .string ⟨#[62]⟩] W fun e w' => e = .returned (.bool true) ∧ w' = W) (h24 : ¬ 24 < R) (HA : Hid (tkV A = .tuple #[.agg #[.int .u8 9, .string nm0, .int .u8 0, .int .u8 0, .int .i64 0, .string ⟨#[]⟩, .int .i64 0], .int .i64 ((R : Int) + 2)])) : Calls Tryd.prog 16 #[.string s] w fun e w' => e = .returned (tkV A) ∧ Below w.heap.size w w' := by
  have hz0 : (0 : Int) < s.size := by omega
  have hz1 : (1 : Int) ≤ s.size := by omega
  have hg0 := get_at s 0 h0
  have hRz : (1 : Int) + R ≤ s.size := by omega
  have hnz : (nm0.size : Int) = R := by omega
  have hg1 : s[0] = 60 := hb
  clear hg0 hb
  have h24z : ¬ (24 : Int) < R := by omega
  go_enter Tryd.func16, Tryd.ntmps16
  go_wp2_with (first | (go_at_call 32; refine (CF _).mono ?_; rintro e w1 ⟨rfl, hb1⟩; clear CF; obtain ⟨hc, hf⟩ := bcell hb1; have hz : w.heap.size < w1.heap.size := by { have := hb1.size; simp at this; omega }) | (go_at_call 33; refine (CR _).mono ?_; rintro e w' ⟨rfl, hw⟩; obtain rfl := hw.symm; clear CR) | (go_at_call 34; refine (CB _).mono ?_; rintro e w' ⟨rfl, hw⟩; obtain rfl := hw.symm; clear CB))
  have q0 : w1.cell? ⟨w.heap.size, 0, none⟩ = some (.int .u8 0) := by rw [hc _ _ (by simp)]; go_simp
  have q1 : w1.cell? ⟨w.heap.size, 1, none⟩ = some (.string ⟨#[]⟩) := by rw [hc _ _ (by simp)]; go_simp
  have q2 : w1.cell? ⟨w.heap.size, 2, none⟩ = some (.int .u8 0) := by rw [hc _ _ (by simp)]; go_simp
  have q3 : w1.cell? ⟨w.heap.size, 3, none⟩ = some (.int .u8 0) := by rw [hc _ _ (by simp)]; go_simp
  have q4 : w1.cell? ⟨w.heap.size, 4, none⟩ = some (.int .i64 0) := by rw [hc _ _ (by simp)]; go_simp
  have q5 : w1.cell? ⟨w.heap.size, 5, none⟩ = some (.string ⟨#[]⟩) := by rw [hc _ _ (by simp)]; go_simp
  have q6 : w1.cell? ⟨w.heap.size, 6, none⟩ = some (.int .i64 0) := by rw [hc _ _ (by simp)]; go_simp
  refine bodyPost_ret (v := .tuple #[.agg #[.int .u8 9, .string nm0, .int .u8 0, .int .u8 0, .int .i64 0, .string ⟨#[]⟩, .int .i64 0], .int .i64 ((R : Int) + 2)]) (by simp [results, Tryd.results16, go_sem, q0, q1, q2, q3, q4, q5, q6, hz] <;> rfl) rfl ⟨by rw [HA.out], ?_⟩
  exact set7a (up1 hb1) _ _ _ _ _ _ _ _ _
set_option maxHeartbeats 8000000 in
theorem one_d1 (s : ByteArray) (w : World) (hs : s.size ≤ 1000000) (h0 : 0 < s.size) (A : Option (Tk × Nat)) (x nm0 : ByteArray) (R : Nat) (hx : s.extract 1 s.size = x) (hnm : nm0.size = R) (hR : R + 1 ≤ s.size) (CR : ∀ W, Calls Tryd.prog 33 #[.string x] W fun e w' => e = .returned (.string nm0) ∧ w' = W) (CF : ∀ W, Calls Tryd.prog 32 #[.string s] W fun e w' => e = .returned (.tuple #[.agg #[.int .u8 0, .string ⟨#[]⟩, .int .u8 0, .int .u8 0, .int .i64 0, .string ⟨#[]⟩, .int .i64 0], .int .i64 0]) ∧ Below W.heap.size W w') (hb : s[0] = 60) (hem : nm0 = ByteArray.empty) (k p vk vn : Int) (nm vs : ByteArray) (n : Nat) (hn : 0 < n) (CS : ∀ W, Calls Tryd.prog 35 #[.string s] W fun e w' => e = .returned (.tuple #[.agg #[.int .u8 k, .string nm, .int .u8 p, .int .u8 vk, .int .i64 vn, .string vs, .int .i64 0], .int .i64 n]) ∧ Below W.heap.size W w') (HA : Hid (tkV A = .tuple #[.agg #[.int .u8 k, .string nm, .int .u8 p, .int .u8 vk, .int .i64 vn, .string vs, .int .i64 0], .int .i64 n])) : Calls Tryd.prog 16 #[.string s] w fun e w' => e = .returned (tkV A) ∧ Below w.heap.size w w' := by
  have hz0 : (0 : Int) < s.size := by omega
  have hz1 : (1 : Int) ≤ s.size := by omega
  have hg0 := get_at s 0 h0
  have hRz : (1 : Int) + R ≤ s.size := by omega
  have hnz : (nm0.size : Int) = R := by omega
  have hg1 : s[0] = 60 := hb
  clear hg0 hb
  have hnz2 : (0 : Int) < n := by omega
  subst hem
  go_enter Tryd.func16, Tryd.ntmps16
  go_wp2_with (first | (go_at_call 32; refine (CF _).mono ?_; rintro e w1 ⟨rfl, hb1⟩; clear CF; obtain ⟨hc, hf⟩ := bcell hb1; have hz : w.heap.size < w1.heap.size := by { have := hb1.size; simp at this; omega }) | (go_at_call 33; refine (CR _).mono ?_; rintro e w' ⟨rfl, hw⟩; obtain rfl := hw.symm; clear CR) | (go_at_call 35; refine (CS _).mono ?_; rintro e w2 ⟨rfl, hb2⟩; clear CS; obtain ⟨hc2, hf2⟩ := bcell hb2; have hz2 : w.heap.size < w1.heap.size + 1 := by { omega }; have hz3 : w.heap.size < w2.heap.size := by { have := hb2.size; simp at this; omega }; have hz4 : w1.heap.size < w2.heap.size := by { have := hb2.size; simp at this; omega }; have hz5 : ¬ w.heap.size = w1.heap.size := by { omega }; have hz6 : ¬ w1.heap.size = w.heap.size := by { omega }))
  have q0 : w2.cell? ⟨w.heap.size, 0, none⟩ = some (.int .u8 0) := by rw [(up1 hb2).cell (p := ⟨w.heap.size, 0, none⟩) hz, hc _ _ (by simp)]; go_simp
  have q1 : w2.cell? ⟨w.heap.size, 1, none⟩ = some (.string ⟨#[]⟩) := by rw [(up1 hb2).cell (p := ⟨w.heap.size, 1, none⟩) hz, hc _ _ (by simp)]; go_simp
  have q2 : w2.cell? ⟨w.heap.size, 2, none⟩ = some (.int .u8 0) := by rw [(up1 hb2).cell (p := ⟨w.heap.size, 2, none⟩) hz, hc _ _ (by simp)]; go_simp
  have q3 : w2.cell? ⟨w.heap.size, 3, none⟩ = some (.int .u8 0) := by rw [(up1 hb2).cell (p := ⟨w.heap.size, 3, none⟩) hz, hc _ _ (by simp)]; go_simp
  have q4 : w2.cell? ⟨w.heap.size, 4, none⟩ = some (.int .i64 0) := by rw [(up1 hb2).cell (p := ⟨w.heap.size, 4, none⟩) hz, hc _ _ (by simp)]; go_simp
  have q5 : w2.cell? ⟨w.heap.size, 5, none⟩ = some (.string ⟨#[]⟩) := by rw [(up1 hb2).cell (p := ⟨w.heap.size, 5, none⟩) hz, hc _ _ (by simp)]; go_simp
  have q6 : w2.cell? ⟨w.heap.size, 6, none⟩ = some (.int .i64 0) := by rw [(up1 hb2).cell (p := ⟨w.heap.size, 6, none⟩) hz, hc _ _ (by simp)]; go_simp
  refine bodyPost_ret (v := .tuple #[.agg #[.int .u8 k, .string nm, .int .u8 p, .int .u8 vk, .int .i64 vn, .string vs, .int .i64 0], .int .i64 n]) (by simp [results, Tryd.results16, go_sem, q0, q1, q2, q3, q4, q5, q6, hz3, hz5, hz6] <;> rfl) rfl ⟨by rw [HA.out], ?_⟩
  exact set7 (set7 (bt (up1 hb1) (up1 hb2)) _ (Nat.le_of_lt hz) _ _ _ _ _ _ _) _ (Nat.le_refl _) _ _ _ _ _ _ _
set_option maxHeartbeats 8000000 in
theorem one_d2 (s : ByteArray) (w : World) (hs : s.size ≤ 1000000) (h0 : 0 < s.size) (A : Option (Tk × Nat)) (x nm0 : ByteArray) (R : Nat) (hx : s.extract 1 s.size = x) (hnm : nm0.size = R) (hR : R + 1 ≤ s.size) (CR : ∀ W, Calls Tryd.prog 33 #[.string x] W fun e w' => e = .returned (.string nm0) ∧ w' = W) (CF : ∀ W, Calls Tryd.prog 32 #[.string s] W fun e w' => e = .returned (.tuple #[.agg #[.int .u8 0, .string ⟨#[]⟩, .int .u8 0, .int .u8 0, .int .i64 0, .string ⟨#[]⟩, .int .i64 0], .int .i64 0]) ∧ Below W.heap.size W w') (hb : s[0] = 60) (hem : nm0.toList.isEmpty = false) (q : ByteArray) (hq : s.extract (1 + R) s.size = q) (CB : ∀ W, Calls Tryd.prog 34 #[.string q, .string ⟨#[62]⟩] W fun e w' => e = .returned (.bool false) ∧ w' = W) (k p vk vn : Int) (nm vs : ByteArray) (n : Nat) (hn : 0 < n) (CS : ∀ W, Calls Tryd.prog 35 #[.string s] W fun e w' => e = .returned (.tuple #[.agg #[.int .u8 k, .string nm, .int .u8 p, .int .u8 vk, .int .i64 vn, .string vs, .int .i64 0], .int .i64 n]) ∧ Below W.heap.size W w') (HA : Hid (tkV A = .tuple #[.agg #[.int .u8 k, .string nm, .int .u8 p, .int .u8 vk, .int .i64 vn, .string vs, .int .i64 0], .int .i64 n])) : Calls Tryd.prog 16 #[.string s] w fun e w' => e = .returned (tkV A) ∧ Below w.heap.size w w' := by
  have hz0 : (0 : Int) < s.size := by omega
  have hz1 : (1 : Int) ≤ s.size := by omega
  have hg0 := get_at s 0 h0
  have hRz : (1 : Int) + R ≤ s.size := by omega
  have hnz : (nm0.size : Int) = R := by omega
  have hg1 : s[0] = 60 := hb
  clear hg0 hb
  have hnz2 : (0 : Int) < n := by omega
  go_enter Tryd.func16, Tryd.ntmps16
  go_wp2_with (first | (go_at_call 32; refine (CF _).mono ?_; rintro e w1 ⟨rfl, hb1⟩; clear CF; obtain ⟨hc, hf⟩ := bcell hb1; have hz : w.heap.size < w1.heap.size := by { have := hb1.size; simp at this; omega }) | (go_at_call 33; refine (CR _).mono ?_; rintro e w' ⟨rfl, hw⟩; obtain rfl := hw.symm; clear CR) | (go_at_call 34; refine (CB _).mono ?_; rintro e w' ⟨rfl, hw⟩; obtain rfl := hw.symm; clear CB) | (go_at_call 35; refine (CS _).mono ?_; rintro e w2 ⟨rfl, hb2⟩; clear CS; obtain ⟨hc2, hf2⟩ := bcell hb2; have hz2 : w.heap.size < w1.heap.size + 1 := by { omega }; have hz3 : w.heap.size < w2.heap.size := by { have := hb2.size; simp at this; omega }; have hz4 : w1.heap.size < w2.heap.size := by { have := hb2.size; simp at this; omega }; have hz5 : ¬ w.heap.size = w1.heap.size := by { omega }; have hz6 : ¬ w1.heap.size = w.heap.size := by { omega }))
  have q0 : w2.cell? ⟨w.heap.size, 0, none⟩ = some (.int .u8 0) := by rw [(up1 hb2).cell (p := ⟨w.heap.size, 0, none⟩) hz, hc _ _ (by simp)]; go_simp
  have q1 : w2.cell? ⟨w.heap.size, 1, none⟩ = some (.string ⟨#[]⟩) := by rw [(up1 hb2).cell (p := ⟨w.heap.size, 1, none⟩) hz, hc _ _ (by simp)]; go_simp
  have q2 : w2.cell? ⟨w.heap.size, 2, none⟩ = some (.int .u8 0) := by rw [(up1 hb2).cell (p := ⟨w.heap.size, 2, none⟩) hz, hc _ _ (by simp)]; go_simp
  have q3 : w2.cell? ⟨w.heap.size, 3, none⟩ = some (.int .u8 0) := by rw [(up1 hb2).cell (p := ⟨w.heap.size, 3, none⟩) hz, hc _ _ (by simp)]; go_simp
  have q4 : w2.cell? ⟨w.heap.size, 4, none⟩ = some (.int .i64 0) := by rw [(up1 hb2).cell (p := ⟨w.heap.size, 4, none⟩) hz, hc _ _ (by simp)]; go_simp
  have q5 : w2.cell? ⟨w.heap.size, 5, none⟩ = some (.string ⟨#[]⟩) := by rw [(up1 hb2).cell (p := ⟨w.heap.size, 5, none⟩) hz, hc _ _ (by simp)]; go_simp
  have q6 : w2.cell? ⟨w.heap.size, 6, none⟩ = some (.int .i64 0) := by rw [(up1 hb2).cell (p := ⟨w.heap.size, 6, none⟩) hz, hc _ _ (by simp)]; go_simp
  refine bodyPost_ret (v := .tuple #[.agg #[.int .u8 k, .string nm, .int .u8 p, .int .u8 vk, .int .i64 vn, .string vs, .int .i64 0], .int .i64 n]) (by simp [results, Tryd.results16, go_sem, q0, q1, q2, q3, q4, q5, q6, hz3, hz5, hz6] <;> rfl) rfl ⟨by rw [HA.out], ?_⟩
  exact set7 (set7 (bt (up1 hb1) (up1 hb2)) _ (Nat.le_of_lt hz) _ _ _ _ _ _ _) _ (Nat.le_refl _) _ _ _ _ _ _ _
set_option maxHeartbeats 8000000 in
theorem one_d3 (s : ByteArray) (w : World) (hs : s.size ≤ 1000000) (h0 : 0 < s.size) (A : Option (Tk × Nat)) (x nm0 : ByteArray) (R : Nat) (hx : s.extract 1 s.size = x) (hnm : nm0.size = R) (hR : R + 1 ≤ s.size) (CR : ∀ W, Calls Tryd.prog 33 #[.string x] W fun e w' => e = .returned (.string nm0) ∧ w' = W) (CF : ∀ W, Calls Tryd.prog 32 #[.string s] W fun e w' => e = .returned (.tuple #[.agg #[.int .u8 0, .string ⟨#[]⟩, .int .u8 0, .int .u8 0, .int .i64 0, .string ⟨#[]⟩, .int .i64 0], .int .i64 0]) ∧ Below W.heap.size W w') (b : UInt8) (hb : s[0] = b) (hb60 : ((b.toNat : Int) == 60) = false) (k p vk vn : Int) (nm vs : ByteArray) (n : Nat) (hn : 0 < n) (CS : ∀ W, Calls Tryd.prog 35 #[.string s] W fun e w' => e = .returned (.tuple #[.agg #[.int .u8 k, .string nm, .int .u8 p, .int .u8 vk, .int .i64 vn, .string vs, .int .i64 0], .int .i64 n]) ∧ Below W.heap.size W w') (HA : Hid (tkV A = .tuple #[.agg #[.int .u8 k, .string nm, .int .u8 p, .int .u8 vk, .int .i64 vn, .string vs, .int .i64 0], .int .i64 n])) : Calls Tryd.prog 16 #[.string s] w fun e w' => e = .returned (tkV A) ∧ Below w.heap.size w w' := by
  have hz0 : (0 : Int) < s.size := by omega
  have hz1 : (1 : Int) ≤ s.size := by omega
  have hg0 := get_at s 0 h0
  have hRz : (1 : Int) + R ≤ s.size := by omega
  have hnz : (nm0.size : Int) = R := by omega
  clear hg0
  have hnz2 : (0 : Int) < n := by omega
  go_enter Tryd.func16, Tryd.ntmps16
  go_wp2_with (first | (go_at_call 32; refine (CF _).mono ?_; rintro e w1 ⟨rfl, hb1⟩; clear CF; obtain ⟨hc, hf⟩ := bcell hb1; have hz : w.heap.size < w1.heap.size := by { have := hb1.size; simp at this; omega }) | (go_at_call 33; refine (CR _).mono ?_; rintro e w' ⟨rfl, hw⟩; obtain rfl := hw.symm; clear CR) | (go_at_call 35; refine (CS _).mono ?_; rintro e w2 ⟨rfl, hb2⟩; clear CS; obtain ⟨hc2, hf2⟩ := bcell hb2; have hz2 : w.heap.size < w1.heap.size + 1 := by { omega }; have hz3 : w.heap.size < w2.heap.size := by { have := hb2.size; simp at this; omega }; have hz4 : w1.heap.size < w2.heap.size := by { have := hb2.size; simp at this; omega }; have hz5 : ¬ w.heap.size = w1.heap.size := by { omega }; have hz6 : ¬ w1.heap.size = w.heap.size := by { omega }))
  have q0 : w2.cell? ⟨w.heap.size, 0, none⟩ = some (.int .u8 0) := by rw [(up1 hb2).cell (p := ⟨w.heap.size, 0, none⟩) hz, hc _ _ (by simp)]; go_simp
  have q1 : w2.cell? ⟨w.heap.size, 1, none⟩ = some (.string ⟨#[]⟩) := by rw [(up1 hb2).cell (p := ⟨w.heap.size, 1, none⟩) hz, hc _ _ (by simp)]; go_simp
  have q2 : w2.cell? ⟨w.heap.size, 2, none⟩ = some (.int .u8 0) := by rw [(up1 hb2).cell (p := ⟨w.heap.size, 2, none⟩) hz, hc _ _ (by simp)]; go_simp
  have q3 : w2.cell? ⟨w.heap.size, 3, none⟩ = some (.int .u8 0) := by rw [(up1 hb2).cell (p := ⟨w.heap.size, 3, none⟩) hz, hc _ _ (by simp)]; go_simp
  have q4 : w2.cell? ⟨w.heap.size, 4, none⟩ = some (.int .i64 0) := by rw [(up1 hb2).cell (p := ⟨w.heap.size, 4, none⟩) hz, hc _ _ (by simp)]; go_simp
  have q5 : w2.cell? ⟨w.heap.size, 5, none⟩ = some (.string ⟨#[]⟩) := by rw [(up1 hb2).cell (p := ⟨w.heap.size, 5, none⟩) hz, hc _ _ (by simp)]; go_simp
  have q6 : w2.cell? ⟨w.heap.size, 6, none⟩ = some (.int .i64 0) := by rw [(up1 hb2).cell (p := ⟨w.heap.size, 6, none⟩) hz, hc _ _ (by simp)]; go_simp
  refine bodyPost_ret (v := .tuple #[.agg #[.int .u8 k, .string nm, .int .u8 p, .int .u8 vk, .int .i64 vn, .string vs, .int .i64 0], .int .i64 n]) (by simp [results, Tryd.results16, go_sem, q0, q1, q2, q3, q4, q5, q6, hz3, hz5, hz6] <;> rfl) rfl ⟨by rw [HA.out], ?_⟩
  exact set7 (set7 (bt (up1 hb1) (up1 hb2)) _ (Nat.le_of_lt hz) _ _ _ _ _ _ _) _ (Nat.le_refl _) _ _ _ _ _ _ _
set_option maxHeartbeats 8000000 in
theorem one_e1 (s : ByteArray) (w : World) (hs : s.size ≤ 1000000) (h0 : 0 < s.size) (A : Option (Tk × Nat)) (x nm0 : ByteArray) (R : Nat) (hx : s.extract 1 s.size = x) (hnm : nm0.size = R) (hR : R + 1 ≤ s.size) (CR : ∀ W, Calls Tryd.prog 33 #[.string x] W fun e w' => e = .returned (.string nm0) ∧ w' = W) (CF : ∀ W, Calls Tryd.prog 32 #[.string s] W fun e w' => e = .returned (.tuple #[.agg #[.int .u8 0, .string ⟨#[]⟩, .int .u8 0, .int .u8 0, .int .i64 0, .string ⟨#[]⟩, .int .i64 0], .int .i64 0]) ∧ Below W.heap.size W w') (hb : s[0] = 94) (hem : nm0 = ByteArray.empty) (CS : ∀ W, Calls Tryd.prog 35 #[.string s] W fun e w' => e = .returned (.tuple #[.agg #[.int .u8 0, .string ⟨#[]⟩, .int .u8 0, .int .u8 0, .int .i64 0, .string ⟨#[]⟩, .int .i64 0], .int .i64 0]) ∧ Below W.heap.size W w') (HA : Hid (tkV A = .tuple #[.agg #[.int .u8 0, .string ⟨#[]⟩, .int .u8 0, .int .u8 0, .int .i64 0, .string ⟨#[]⟩, .int .i64 0], .int .i64 0])) : Calls Tryd.prog 16 #[.string s] w fun e w' => e = .returned (tkV A) ∧ Below w.heap.size w w' := by
  have hz0 : (0 : Int) < s.size := by omega
  have hz1 : (1 : Int) ≤ s.size := by omega
  have hg0 := get_at s 0 h0
  have hRz : (1 : Int) + R ≤ s.size := by omega
  have hnz : (nm0.size : Int) = R := by omega
  have hg1 : s[0] = 94 := hb
  clear hg0 hb
  subst hem
  go_enter Tryd.func16, Tryd.ntmps16
  go_wp2_with (first | (go_at_call 32; refine (CF _).mono ?_; rintro e w1 ⟨rfl, hb1⟩; clear CF; obtain ⟨hc, hf⟩ := bcell hb1; have hz : w.heap.size < w1.heap.size := by { have := hb1.size; simp at this; omega }) | (go_at_call 33; refine (CR _).mono ?_; rintro e w' ⟨rfl, hw⟩; obtain rfl := hw.symm; clear CR) | (go_at_call 35; refine (CS _).mono ?_; rintro e w2 ⟨rfl, hb2⟩; clear CS; obtain ⟨hc2, hf2⟩ := bcell hb2; have hz2 : w.heap.size < w1.heap.size + 1 := by { omega }; have hz3 : w.heap.size < w2.heap.size := by { have := hb2.size; simp at this; omega }; have hz4 : w1.heap.size < w2.heap.size := by { have := hb2.size; simp at this; omega }; have hz5 : ¬ w.heap.size = w1.heap.size := by { omega }; have hz6 : ¬ w1.heap.size = w.heap.size := by { omega }))
  have q0 : w2.cell? ⟨w.heap.size, 0, none⟩ = some (.int .u8 0) := by rw [(up1 hb2).cell (p := ⟨w.heap.size, 0, none⟩) hz, hc _ _ (by simp)]; go_simp
  have q1 : w2.cell? ⟨w.heap.size, 1, none⟩ = some (.string ⟨#[]⟩) := by rw [(up1 hb2).cell (p := ⟨w.heap.size, 1, none⟩) hz, hc _ _ (by simp)]; go_simp
  have q2 : w2.cell? ⟨w.heap.size, 2, none⟩ = some (.int .u8 0) := by rw [(up1 hb2).cell (p := ⟨w.heap.size, 2, none⟩) hz, hc _ _ (by simp)]; go_simp
  have q3 : w2.cell? ⟨w.heap.size, 3, none⟩ = some (.int .u8 0) := by rw [(up1 hb2).cell (p := ⟨w.heap.size, 3, none⟩) hz, hc _ _ (by simp)]; go_simp
  have q4 : w2.cell? ⟨w.heap.size, 4, none⟩ = some (.int .i64 0) := by rw [(up1 hb2).cell (p := ⟨w.heap.size, 4, none⟩) hz, hc _ _ (by simp)]; go_simp
  have q5 : w2.cell? ⟨w.heap.size, 5, none⟩ = some (.string ⟨#[]⟩) := by rw [(up1 hb2).cell (p := ⟨w.heap.size, 5, none⟩) hz, hc _ _ (by simp)]; go_simp
  have q6 : w2.cell? ⟨w.heap.size, 6, none⟩ = some (.int .i64 0) := by rw [(up1 hb2).cell (p := ⟨w.heap.size, 6, none⟩) hz, hc _ _ (by simp)]; go_simp
  refine bodyPost_ret (v := .tuple #[.agg #[.int .u8 0, .string ⟨#[]⟩, .int .u8 0, .int .u8 0, .int .i64 0, .string ⟨#[]⟩, .int .i64 0], .int .i64 0]) (by simp [results, Tryd.results16, go_sem, q0, q1, q2, q3, q4, q5, q6, hz3, hz5, hz6] <;> rfl) rfl ⟨by rw [HA.out], ?_⟩
  exact set7 (set7 (bt (up1 hb1) (up1 hb2)) _ (Nat.le_of_lt hz) _ _ _ _ _ _ _) _ (Nat.le_refl _) _ _ _ _ _ _ _
set_option maxHeartbeats 8000000 in
theorem one_e2 (s : ByteArray) (w : World) (hs : s.size ≤ 1000000) (h0 : 0 < s.size) (A : Option (Tk × Nat)) (x nm0 : ByteArray) (R : Nat) (hx : s.extract 1 s.size = x) (hnm : nm0.size = R) (hR : R + 1 ≤ s.size) (CR : ∀ W, Calls Tryd.prog 33 #[.string x] W fun e w' => e = .returned (.string nm0) ∧ w' = W) (CF : ∀ W, Calls Tryd.prog 32 #[.string s] W fun e w' => e = .returned (.tuple #[.agg #[.int .u8 0, .string ⟨#[]⟩, .int .u8 0, .int .u8 0, .int .i64 0, .string ⟨#[]⟩, .int .i64 0], .int .i64 0]) ∧ Below W.heap.size W w') (hb : s[0] = 94) (hem : nm0.toList.isEmpty = false) (h24 : 24 < R) (CS : ∀ W, Calls Tryd.prog 35 #[.string s] W fun e w' => e = .returned (.tuple #[.agg #[.int .u8 0, .string ⟨#[]⟩, .int .u8 0, .int .u8 0, .int .i64 0, .string ⟨#[]⟩, .int .i64 0], .int .i64 0]) ∧ Below W.heap.size W w') (HA : Hid (tkV A = .tuple #[.agg #[.int .u8 0, .string ⟨#[]⟩, .int .u8 0, .int .u8 0, .int .i64 0, .string ⟨#[]⟩, .int .i64 0], .int .i64 0])) : Calls Tryd.prog 16 #[.string s] w fun e w' => e = .returned (tkV A) ∧ Below w.heap.size w w' := by
  have hz0 : (0 : Int) < s.size := by omega
  have hz1 : (1 : Int) ≤ s.size := by omega
  have hg0 := get_at s 0 h0
  have hRz : (1 : Int) + R ≤ s.size := by omega
  have hnz : (nm0.size : Int) = R := by omega
  have hg1 : s[0] = 94 := hb
  clear hg0 hb
  have h24z : (24 : Int) < R := by omega
  go_enter Tryd.func16, Tryd.ntmps16
  go_wp2_with (first | (go_at_call 32; refine (CF _).mono ?_; rintro e w1 ⟨rfl, hb1⟩; clear CF; obtain ⟨hc, hf⟩ := bcell hb1; have hz : w.heap.size < w1.heap.size := by { have := hb1.size; simp at this; omega }) | (go_at_call 33; refine (CR _).mono ?_; rintro e w' ⟨rfl, hw⟩; obtain rfl := hw.symm; clear CR) | (go_at_call 35; refine (CS _).mono ?_; rintro e w2 ⟨rfl, hb2⟩; clear CS; obtain ⟨hc2, hf2⟩ := bcell hb2; have hz2 : w.heap.size < w1.heap.size + 1 := by { omega }; have hz3 : w.heap.size < w2.heap.size := by { have := hb2.size; simp at this; omega }; have hz4 : w1.heap.size < w2.heap.size := by { have := hb2.size; simp at this; omega }; have hz5 : ¬ w.heap.size = w1.heap.size := by { omega }; have hz6 : ¬ w1.heap.size = w.heap.size := by { omega }))
  have q0 : w2.cell? ⟨w.heap.size, 0, none⟩ = some (.int .u8 0) := by rw [(up1 hb2).cell (p := ⟨w.heap.size, 0, none⟩) hz, hc _ _ (by simp)]; go_simp
  have q1 : w2.cell? ⟨w.heap.size, 1, none⟩ = some (.string ⟨#[]⟩) := by rw [(up1 hb2).cell (p := ⟨w.heap.size, 1, none⟩) hz, hc _ _ (by simp)]; go_simp
  have q2 : w2.cell? ⟨w.heap.size, 2, none⟩ = some (.int .u8 0) := by rw [(up1 hb2).cell (p := ⟨w.heap.size, 2, none⟩) hz, hc _ _ (by simp)]; go_simp
  have q3 : w2.cell? ⟨w.heap.size, 3, none⟩ = some (.int .u8 0) := by rw [(up1 hb2).cell (p := ⟨w.heap.size, 3, none⟩) hz, hc _ _ (by simp)]; go_simp
  have q4 : w2.cell? ⟨w.heap.size, 4, none⟩ = some (.int .i64 0) := by rw [(up1 hb2).cell (p := ⟨w.heap.size, 4, none⟩) hz, hc _ _ (by simp)]; go_simp
  have q5 : w2.cell? ⟨w.heap.size, 5, none⟩ = some (.string ⟨#[]⟩) := by rw [(up1 hb2).cell (p := ⟨w.heap.size, 5, none⟩) hz, hc _ _ (by simp)]; go_simp
  have q6 : w2.cell? ⟨w.heap.size, 6, none⟩ = some (.int .i64 0) := by rw [(up1 hb2).cell (p := ⟨w.heap.size, 6, none⟩) hz, hc _ _ (by simp)]; go_simp
  refine bodyPost_ret (v := .tuple #[.agg #[.int .u8 0, .string ⟨#[]⟩, .int .u8 0, .int .u8 0, .int .i64 0, .string ⟨#[]⟩, .int .i64 0], .int .i64 0]) (by simp [results, Tryd.results16, go_sem, q0, q1, q2, q3, q4, q5, q6, hz3, hz5, hz6] <;> rfl) rfl ⟨by rw [HA.out], ?_⟩
  exact set7 (set7 (bt (up1 hb1) (up1 hb2)) _ (Nat.le_of_lt hz) _ _ _ _ _ _ _) _ (Nat.le_refl _) _ _ _ _ _ _ _
set_option maxHeartbeats 8000000 in
theorem one_e3 (s : ByteArray) (w : World) (hs : s.size ≤ 1000000) (h0 : 0 < s.size) (A : Option (Tk × Nat)) (x nm0 : ByteArray) (R : Nat) (hx : s.extract 1 s.size = x) (hnm : nm0.size = R) (hR : R + 1 ≤ s.size) (CR : ∀ W, Calls Tryd.prog 33 #[.string x] W fun e w' => e = .returned (.string nm0) ∧ w' = W) (CF : ∀ W, Calls Tryd.prog 32 #[.string s] W fun e w' => e = .returned (.tuple #[.agg #[.int .u8 0, .string ⟨#[]⟩, .int .u8 0, .int .u8 0, .int .i64 0, .string ⟨#[]⟩, .int .i64 0], .int .i64 0]) ∧ Below W.heap.size W w') (hb : s[0] = 94) (hem : nm0.toList.isEmpty = false) (h24 : ¬ 24 < R) (CS : ∀ W, Calls Tryd.prog 35 #[.string s] W fun e w' => e = .returned (.tuple #[.agg #[.int .u8 0, .string ⟨#[]⟩, .int .u8 0, .int .u8 0, .int .i64 0, .string ⟨#[]⟩, .int .i64 0], .int .i64 0]) ∧ Below W.heap.size W w') (HA : Hid (tkV A = .tuple #[.agg #[.int .u8 8, .string nm0, .int .u8 0, .int .u8 0, .int .i64 0, .string ⟨#[]⟩, .int .i64 0], .int .i64 ((R : Int) + 1)])) : Calls Tryd.prog 16 #[.string s] w fun e w' => e = .returned (tkV A) ∧ Below w.heap.size w w' := by
  have hz0 : (0 : Int) < s.size := by omega
  have hz1 : (1 : Int) ≤ s.size := by omega
  have hg0 := get_at s 0 h0
  have hRz : (1 : Int) + R ≤ s.size := by omega
  have hnz : (nm0.size : Int) = R := by omega
  have hg1 : s[0] = 94 := hb
  clear hg0 hb
  have h24z : ¬ (24 : Int) < R := by omega
  go_enter Tryd.func16, Tryd.ntmps16
  go_wp2_with (first | (go_at_call 32; refine (CF _).mono ?_; rintro e w1 ⟨rfl, hb1⟩; clear CF; obtain ⟨hc, hf⟩ := bcell hb1; have hz : w.heap.size < w1.heap.size := by { have := hb1.size; simp at this; omega }) | (go_at_call 33; refine (CR _).mono ?_; rintro e w' ⟨rfl, hw⟩; obtain rfl := hw.symm; clear CR) | (go_at_call 35; refine (CS _).mono ?_; rintro e w2 ⟨rfl, hb2⟩; clear CS; obtain ⟨hc2, hf2⟩ := bcell hb2; have hz2 : w.heap.size < w1.heap.size + 1 := by { omega }; have hz3 : w.heap.size < w2.heap.size := by { have := hb2.size; simp at this; omega }; have hz4 : w1.heap.size < w2.heap.size := by { have := hb2.size; simp at this; omega }; have hz5 : ¬ w.heap.size = w1.heap.size := by { omega }; have hz6 : ¬ w1.heap.size = w.heap.size := by { omega }))
  have q0 : w2.cell? ⟨w.heap.size, 0, none⟩ = some (.int .u8 0) := by rw [(up1 hb2).cell (p := ⟨w.heap.size, 0, none⟩) hz, hc _ _ (by simp)]; go_simp
  have q1 : w2.cell? ⟨w.heap.size, 1, none⟩ = some (.string ⟨#[]⟩) := by rw [(up1 hb2).cell (p := ⟨w.heap.size, 1, none⟩) hz, hc _ _ (by simp)]; go_simp
  have q2 : w2.cell? ⟨w.heap.size, 2, none⟩ = some (.int .u8 0) := by rw [(up1 hb2).cell (p := ⟨w.heap.size, 2, none⟩) hz, hc _ _ (by simp)]; go_simp
  have q3 : w2.cell? ⟨w.heap.size, 3, none⟩ = some (.int .u8 0) := by rw [(up1 hb2).cell (p := ⟨w.heap.size, 3, none⟩) hz, hc _ _ (by simp)]; go_simp
  have q4 : w2.cell? ⟨w.heap.size, 4, none⟩ = some (.int .i64 0) := by rw [(up1 hb2).cell (p := ⟨w.heap.size, 4, none⟩) hz, hc _ _ (by simp)]; go_simp
  have q5 : w2.cell? ⟨w.heap.size, 5, none⟩ = some (.string ⟨#[]⟩) := by rw [(up1 hb2).cell (p := ⟨w.heap.size, 5, none⟩) hz, hc _ _ (by simp)]; go_simp
  have q6 : w2.cell? ⟨w.heap.size, 6, none⟩ = some (.int .i64 0) := by rw [(up1 hb2).cell (p := ⟨w.heap.size, 6, none⟩) hz, hc _ _ (by simp)]; go_simp
  refine bodyPost_ret (v := .tuple #[.agg #[.int .u8 8, .string nm0, .int .u8 0, .int .u8 0, .int .i64 0, .string ⟨#[]⟩, .int .i64 0], .int .i64 ((R : Int) + 1)]) (by simp [results, Tryd.results16, go_sem, q0, q1, q2, q3, q4, q5, q6, hz3, hz5, hz6] <;> rfl) rfl ⟨by rw [HA.out], ?_⟩
  exact set7 (set7 (bt (up1 hb1) (up1 hb2)) _ (Nat.le_of_lt hz) _ _ _ _ _ _ _) _ (Nat.le_refl _) _ _ _ _ _ _ _
set_option maxHeartbeats 8000000 in
theorem one_g (s : ByteArray) (w : World) (hs : s.size ≤ 1000000) (h0 : 0 < s.size) (A : Option (Tk × Nat)) (x nm0 : ByteArray) (R : Nat) (hx : s.extract 1 s.size = x) (hnm : nm0.size = R) (hR : R + 1 ≤ s.size) (CR : ∀ W, Calls Tryd.prog 33 #[.string x] W fun e w' => e = .returned (.string nm0) ∧ w' = W) (CF : ∀ W, Calls Tryd.prog 32 #[.string s] W fun e w' => e = .returned (.tuple #[.agg #[.int .u8 0, .string ⟨#[]⟩, .int .u8 0, .int .u8 0, .int .i64 0, .string ⟨#[]⟩, .int .i64 0], .int .i64 0]) ∧ Below W.heap.size W w') (b : UInt8) (hb : s[0] = b) (hb60 : ((b.toNat : Int) == 60) = false) (hb94 : ((b.toNat : Int) == 94) = false) (CS : ∀ W, Calls Tryd.prog 35 #[.string s] W fun e w' => e = .returned (.tuple #[.agg #[.int .u8 0, .string ⟨#[]⟩, .int .u8 0, .int .u8 0, .int .i64 0, .string ⟨#[]⟩, .int .i64 0], .int .i64 0]) ∧ Below W.heap.size W w') (u : ByteArray) (CQ : ∀ W, Calls Tryd.prog 33 #[.string s] W fun e w' => e = .returned (.string u) ∧ w' = W) (ee : Int) (hee : (ee == 0) = false) (CP : ∀ W, Calls Tryd.prog 36 #[.string u] W fun e w' => e = .returned (.tuple #[.agg #[.int .u8 0, .int .i64 0, .string ByteArray.empty], .int .i64 ee]) ∧ Below W.heap.size W w')  (HA : Hid (tkV A = .tuple #[.agg #[.int .u8 0, .string ⟨#[]⟩, .int .u8 0, .int .u8 0, .int .i64 0, .string ⟨#[]⟩, .int .i64 0], .int .i64 0])) : Calls Tryd.prog 16 #[.string s] w fun e w' => e = .returned (tkV A) ∧ Below w.heap.size w w' := by
  have hz0 : (0 : Int) < s.size := by omega
  have hz1 : (1 : Int) ≤ s.size := by omega
  have hg0 := get_at s 0 h0
  have hRz : (1 : Int) + R ≤ s.size := by omega
  have hnz : (nm0.size : Int) = R := by omega
  clear hg0
  go_enter Tryd.func16, Tryd.ntmps16
  go_wp2_with (first | (go_at_call 32; refine (CF _).mono ?_; rintro e w1 ⟨rfl, hb1⟩; clear CF; obtain ⟨hc, hf⟩ := bcell hb1; have hz : w.heap.size < w1.heap.size := by { have := hb1.size; simp at this; omega }) | (go_at_call 33; refine (CR _).mono ?_; rintro e w' ⟨rfl, hw⟩; obtain rfl := hw.symm; clear CR) | (go_at_call 35; refine (CS _).mono ?_; rintro e w2 ⟨rfl, hb2⟩; clear CS; obtain ⟨hc2, hf2⟩ := bcell hb2; have hz2 : w.heap.size < w1.heap.size + 1 := by { omega }; have hz3 : w.heap.size < w2.heap.size := by { have := hb2.size; simp at this; omega }; have hz4 : w1.heap.size < w2.heap.size := by { have := hb2.size; simp at this; omega }; have hz5 : ¬ w.heap.size = w1.heap.size := by { omega }; have hz6 : ¬ w1.heap.size = w.heap.size := by { omega }) | (go_at_call 33; refine (CQ _).mono ?_; rintro e w' ⟨rfl, hw⟩; obtain rfl := hw.symm; clear CQ) | (go_at_call 36; refine (CP _).mono ?_; rintro e w3 ⟨rfl, hb3⟩; clear CP; obtain ⟨hc3, hf3⟩ := bcell hb3; have hz7 : w.heap.size < w3.heap.size := by { have := hb3.size; simp at this; omega }))
  have r0 : w2.cell? ⟨w.heap.size, 0, none⟩ = some (.int .u8 0) := by rw [(up1 hb2).cell (p := ⟨w.heap.size, 0, none⟩) hz, hc _ _ (by simp)]; go_simp
  have r1 : w2.cell? ⟨w.heap.size, 1, none⟩ = some (.string ⟨#[]⟩) := by rw [(up1 hb2).cell (p := ⟨w.heap.size, 1, none⟩) hz, hc _ _ (by simp)]; go_simp
  have r2 : w2.cell? ⟨w.heap.size, 2, none⟩ = some (.int .u8 0) := by rw [(up1 hb2).cell (p := ⟨w.heap.size, 2, none⟩) hz, hc _ _ (by simp)]; go_simp
  have r3 : w2.cell? ⟨w.heap.size, 3, none⟩ = some (.int .u8 0) := by rw [(up1 hb2).cell (p := ⟨w.heap.size, 3, none⟩) hz, hc _ _ (by simp)]; go_simp
  have r4 : w2.cell? ⟨w.heap.size, 4, none⟩ = some (.int .i64 0) := by rw [(up1 hb2).cell (p := ⟨w.heap.size, 4, none⟩) hz, hc _ _ (by simp)]; go_simp
  have r5 : w2.cell? ⟨w.heap.size, 5, none⟩ = some (.string ⟨#[]⟩) := by rw [(up1 hb2).cell (p := ⟨w.heap.size, 5, none⟩) hz, hc _ _ (by simp)]; go_simp
  have r6 : w2.cell? ⟨w.heap.size, 6, none⟩ = some (.int .i64 0) := by rw [(up1 hb2).cell (p := ⟨w.heap.size, 6, none⟩) hz, hc _ _ (by simp)]; go_simp
  have q0 : w3.cell? ⟨w.heap.size, 0, none⟩ = some (.int .u8 0) := by rw [hb3.cell (p := ⟨w.heap.size, 0, none⟩) (by go_simp)]; simp [go_sem, hz5, hz6, r0]
  have q1 : w3.cell? ⟨w.heap.size, 1, none⟩ = some (.string ⟨#[]⟩) := by rw [hb3.cell (p := ⟨w.heap.size, 1, none⟩) (by go_simp)]; simp [go_sem, hz5, hz6, r1]
  have q2 : w3.cell? ⟨w.heap.size, 2, none⟩ = some (.int .u8 0) := by rw [hb3.cell (p := ⟨w.heap.size, 2, none⟩) (by go_simp)]; simp [go_sem, hz5, hz6, r2]
  have q3 : w3.cell? ⟨w.heap.size, 3, none⟩ = some (.int .u8 0) := by rw [hb3.cell (p := ⟨w.heap.size, 3, none⟩) (by go_simp)]; simp [go_sem, hz5, hz6, r3]
  have q4 : w3.cell? ⟨w.heap.size, 4, none⟩ = some (.int .i64 0) := by rw [hb3.cell (p := ⟨w.heap.size, 4, none⟩) (by go_simp)]; simp [go_sem, hz5, hz6, r4]
  have q5 : w3.cell? ⟨w.heap.size, 5, none⟩ = some (.string ⟨#[]⟩) := by rw [hb3.cell (p := ⟨w.heap.size, 5, none⟩) (by go_simp)]; simp [go_sem, hz5, hz6, r5]
  have q6 : w3.cell? ⟨w.heap.size, 6, none⟩ = some (.int .i64 0) := by rw [hb3.cell (p := ⟨w.heap.size, 6, none⟩) (by go_simp)]; simp [go_sem, hz5, hz6, r6]
  refine bodyPost_ret (v := .tuple #[.agg #[.int .u8 0, .string ⟨#[]⟩, .int .u8 0, .int .u8 0, .int .i64 0, .string ⟨#[]⟩, .int .i64 0], .int .i64 0]) (by simp [results, Tryd.results16, go_sem, q0, q1, q2, q3, q4, q5, q6, hz7] <;> rfl) rfl ⟨by rw [HA.out], ?_⟩
  exact set7a (bt (set7 (bt (up1 hb1) (up1 hb2)) _ (Nat.le_of_lt hz) _ _ _ _ _ _ _) hb3) _ _ _ _ _ _ _ _ _
set_option maxHeartbeats 8000000 in
theorem one_h (s : ByteArray) (w : World) (hs : s.size ≤ 1000000) (h0 : 0 < s.size) (A : Option (Tk × Nat)) (x nm0 : ByteArray) (R : Nat) (hx : s.extract 1 s.size = x) (hnm : nm0.size = R) (hR : R + 1 ≤ s.size) (CR : ∀ W, Calls Tryd.prog 33 #[.string x] W fun e w' => e = .returned (.string nm0) ∧ w' = W) (CF : ∀ W, Calls Tryd.prog 32 #[.string s] W fun e w' => e = .returned (.tuple #[.agg #[.int .u8 0, .string ⟨#[]⟩, .int .u8 0, .int .u8 0, .int .i64 0, .string ⟨#[]⟩, .int .i64 0], .int .i64 0]) ∧ Below W.heap.size W w') (b : UInt8) (hb : s[0] = b) (hb60 : ((b.toNat : Int) == 60) = false) (hb94 : ((b.toNat : Int) == 94) = false) (CS : ∀ W, Calls Tryd.prog 35 #[.string s] W fun e w' => e = .returned (.tuple #[.agg #[.int .u8 0, .string ⟨#[]⟩, .int .u8 0, .int .u8 0, .int .i64 0, .string ⟨#[]⟩, .int .i64 0], .int .i64 0]) ∧ Below W.heap.size W w') (u : ByteArray) (CQ : ∀ W, Calls Tryd.prog 33 #[.string s] W fun e w' => e = .returned (.string u) ∧ w' = W) (k n : Int) (tt : ByteArray) (CP : ∀ W, Calls Tryd.prog 36 #[.string u] W fun e w' => e = .returned (.tuple #[.agg #[.int .u8 k, .int .i64 n, .string tt], .int .i64 0]) ∧ Below W.heap.size W w')  (HA : Hid (tkV A = .tuple #[.agg #[.int .u8 11, .string ⟨#[]⟩, .int .u8 0, .int .u8 k, .int .i64 n, .string tt, .int .i64 0], .int .i64 (u.size : Int)])) : Calls Tryd.prog 16 #[.string s] w fun e w' => e = .returned (tkV A) ∧ Below w.heap.size w w' := by
  have hz0 : (0 : Int) < s.size := by omega
  have hz1 : (1 : Int) ≤ s.size := by omega
  have hg0 := get_at s 0 h0
  have hRz : (1 : Int) + R ≤ s.size := by omega
  have hnz : (nm0.size : Int) = R := by omega
  clear hg0
  go_enter Tryd.func16, Tryd.ntmps16
  go_wp2_with (first | (go_at_call 32; refine (CF _).mono ?_; rintro e w1 ⟨rfl, hb1⟩; clear CF; obtain ⟨hc, hf⟩ := bcell hb1; have hz : w.heap.size < w1.heap.size := by { have := hb1.size; simp at this; omega }) | (go_at_call 33; refine (CR _).mono ?_; rintro e w' ⟨rfl, hw⟩; obtain rfl := hw.symm; clear CR) | (go_at_call 35; refine (CS _).mono ?_; rintro e w2 ⟨rfl, hb2⟩; clear CS; obtain ⟨hc2, hf2⟩ := bcell hb2; have hz2 : w.heap.size < w1.heap.size + 1 := by { omega }; have hz3 : w.heap.size < w2.heap.size := by { have := hb2.size; simp at this; omega }; have hz4 : w1.heap.size < w2.heap.size := by { have := hb2.size; simp at this; omega }; have hz5 : ¬ w.heap.size = w1.heap.size := by { omega }; have hz6 : ¬ w1.heap.size = w.heap.size := by { omega }) | (go_at_call 33; refine (CQ _).mono ?_; rintro e w' ⟨rfl, hw⟩; obtain rfl := hw.symm; clear CQ) | (go_at_call 36; refine (CP _).mono ?_; rintro e w3 ⟨rfl, hb3⟩; clear CP; obtain ⟨hc3, hf3⟩ := bcell hb3; have hz7 : w.heap.size < w3.heap.size := by { have := hb3.size; simp at this; omega }))
  have r0 : w2.cell? ⟨w.heap.size, 0, none⟩ = some (.int .u8 0) := by rw [(up1 hb2).cell (p := ⟨w.heap.size, 0, none⟩) hz, hc _ _ (by simp)]; go_simp
  have r1 : w2.cell? ⟨w.heap.size, 1, none⟩ = some (.string ⟨#[]⟩) := by rw [(up1 hb2).cell (p := ⟨w.heap.size, 1, none⟩) hz, hc _ _ (by simp)]; go_simp
  have r2 : w2.cell? ⟨w.heap.size, 2, none⟩ = some (.int .u8 0) := by rw [(up1 hb2).cell (p := ⟨w.heap.size, 2, none⟩) hz, hc _ _ (by simp)]; go_simp
  have r3 : w2.cell? ⟨w.heap.size, 3, none⟩ = some (.int .u8 0) := by rw [(up1 hb2).cell (p := ⟨w.heap.size, 3, none⟩) hz, hc _ _ (by simp)]; go_simp
  have r4 : w2.cell? ⟨w.heap.size, 4, none⟩ = some (.int .i64 0) := by rw [(up1 hb2).cell (p := ⟨w.heap.size, 4, none⟩) hz, hc _ _ (by simp)]; go_simp
  have r5 : w2.cell? ⟨w.heap.size, 5, none⟩ = some (.string ⟨#[]⟩) := by rw [(up1 hb2).cell (p := ⟨w.heap.size, 5, none⟩) hz, hc _ _ (by simp)]; go_simp
  have r6 : w2.cell? ⟨w.heap.size, 6, none⟩ = some (.int .i64 0) := by rw [(up1 hb2).cell (p := ⟨w.heap.size, 6, none⟩) hz, hc _ _ (by simp)]; go_simp
  have q0 : w3.cell? ⟨w.heap.size, 0, none⟩ = some (.int .u8 0) := by rw [hb3.cell (p := ⟨w.heap.size, 0, none⟩) (by go_simp)]; simp [go_sem, hz5, hz6, r0]
  have q1 : w3.cell? ⟨w.heap.size, 1, none⟩ = some (.string ⟨#[]⟩) := by rw [hb3.cell (p := ⟨w.heap.size, 1, none⟩) (by go_simp)]; simp [go_sem, hz5, hz6, r1]
  have q2 : w3.cell? ⟨w.heap.size, 2, none⟩ = some (.int .u8 0) := by rw [hb3.cell (p := ⟨w.heap.size, 2, none⟩) (by go_simp)]; simp [go_sem, hz5, hz6, r2]
  have q3 : w3.cell? ⟨w.heap.size, 3, none⟩ = some (.int .u8 0) := by rw [hb3.cell (p := ⟨w.heap.size, 3, none⟩) (by go_simp)]; simp [go_sem, hz5, hz6, r3]
  have q4 : w3.cell? ⟨w.heap.size, 4, none⟩ = some (.int .i64 0) := by rw [hb3.cell (p := ⟨w.heap.size, 4, none⟩) (by go_simp)]; simp [go_sem, hz5, hz6, r4]
  have q5 : w3.cell? ⟨w.heap.size, 5, none⟩ = some (.string ⟨#[]⟩) := by rw [hb3.cell (p := ⟨w.heap.size, 5, none⟩) (by go_simp)]; simp [go_sem, hz5, hz6, r5]
  have q6 : w3.cell? ⟨w.heap.size, 6, none⟩ = some (.int .i64 0) := by rw [hb3.cell (p := ⟨w.heap.size, 6, none⟩) (by go_simp)]; simp [go_sem, hz5, hz6, r6]
  refine bodyPost_ret (v := .tuple #[.agg #[.int .u8 11, .string ⟨#[]⟩, .int .u8 0, .int .u8 k, .int .i64 n, .string tt, .int .i64 0], .int .i64 (u.size : Int)]) (by simp [results, Tryd.results16, go_sem, q0, q1, q2, q3, q4, q5, q6, hz7] <;> rfl) rfl ⟨by rw [HA.out], ?_⟩
  exact set7a (bt (set7 (bt (up1 hb1) (up1 hb2)) _ (Nat.le_of_lt hz) _ _ _ _ _ _ _) hb3) _ _ _ _ _ _ _ _ _
theorem tkV_none : tkV none = .tuple #[.agg #[.int .u8 0, .string ⟨#[]⟩, .int .u8 0, .int .u8 0, .int .i64 0, .string ⟨#[]⟩, .int .i64 0], .int .i64 0] := rfl
theorem tkV_some (t : Tk) (n : Nat) : tkV (some (t, n)) = .tuple #[.agg #[.int .u8 t.k, .string (st t.nm), .int .u8 t.p, .int .u8 t.vk, .int .i64 t.vn, .string (st t.vs), .int .i64 0], .int .i64 n] := rfl
theorem u8_is {b : UInt8} {n : Nat} (h : ¬ b = UInt8.ofNat n) (hn : n < 256) : ((b.toNat : Int) == (n : Int)) = false := u8_ne hn h
theorem rone_any (s : ByteArray) (w : World) (hs : s.size ≤ 1000000) (h0 : 0 < s.size) :
    Calls Tryd.prog 16 #[.string s] w fun e w' => e = .returned (tkV (oneL s.data.toList)) ∧ Below w.heap.size w w' := by
  have hl : s.data.toList ≠ [] := fun e => by have := lenL s; rw [e] at this; simp at this; omega
  have CF := fun W => fixed_any s W h0 hs
  cases hf : fixL s.data.toList with
  | some y =>
    obtain ⟨t, n⟩ := y
    rw [one_fix hf]
    rw [hf] at CF
    have hn : 0 < n := by have := (one_is hl (one_fix hf)).2.1; omega
    exact one_f s w hs h0 _ t.k t.p t.vk t.vn (st t.nm) (st t.vs) n hn CF (tkV_some t n)
  | none =>
    rw [hf] at CF
    have CF0 := CF
    obtain ⟨x, hx⟩ : ∃ x, s.extract 1 s.size = x := ⟨_, rfl⟩
    have hxl : x.data.toList = s.data.toList.drop 1 := by rw [← hx, ext_list]
    have hxs : x.size + 1 = s.size := by rw [← lenL x, hxl, List.length_drop, lenL]; omega
    obtain ⟨R, hR⟩ : ∃ R, runN (s.data.toList.drop 1) = R := ⟨_, rfl⟩
    have hRx : R ≤ x.size := by rw [← hR, ← hxl, ← lenL x]; exact runN_le _ _ (Nat.le_refl _)
    have CR := fun W => rrun_any x W (by omega)
    rw [hxl, hR] at CR
    obtain ⟨nm0, hnm0⟩ : ∃ nm0, x.extract 0 R = nm0 := ⟨_, rfl⟩
    have hnl : nm0.data.toList = (s.data.toList.drop 1).take R := by rw [← hnm0, take_list, hxl]
    have hnm : nm0.size = R := by rw [← hnm0]; exact (rword x R hRx).2
    rw [hnm0] at CR
    have hst : st ((s.data.toList.drop 1).take R) = nm0 := by rw [← hnl, st_of]
    have hb := get_at s 0 h0
    have hR1 : R + 1 ≤ s.size := by omega
    have CS := fun W => single_any s W h0
    rw [one_ifs _ R hR hl hf]
    generalize s.data.toList.getD 0 0 = b at *
    have hem0 : R = 0 → nm0 = ByteArray.empty := fun h => emp_eq (List.eq_nil_of_length_eq_zero (by rw [lenL]; omega))
    have hem1 : R ≠ 0 → nm0.toList.isEmpty = false := fun h => emp_ne (fun e => by rw [← lenL, e] at hnm; simp at hnm; omega)
    obtain ⟨q, hq⟩ : ∃ q, s.extract (1 + R) s.size = q := ⟨_, rfl⟩
    have hql : q.data.toList = s.data.toList.drop (1 + R) := by rw [← hq, ext_list]
    have CB : ∀ W, Calls Tryd.prog 34 #[.string q, .string ⟨#[62]⟩] W fun e w' => e = .returned (.bool (preB [62] q.data.toList)) ∧ w' = W := fun W => begins_any q ⟨#[62]⟩ W (by rw [← lenL, hql, List.length_drop, lenL]; omega) (by decide)
    rw [hql] at CB
    have sgl_of : ∀ t n, sglL s.data.toList = some (t, n) → 0 < n := by
      intro t n h
      rw [sgl_ifs] at h
      repeat' split at h
      all_goals first | (cases h; done) | (obtain ⟨_, rfl⟩ := Prod.mk.inj (Option.some.inj h); decide)
    by_cases h60 : b = 60
    · subst h60
      have hsg : sglL s.data.toList = some (tokP 2, 1) := by rw [sgl_ifs, ← get_at s 0 h0, hb, if_pos rfl]
      have CS2 := CS
      rw [hsg] at CS2
      by_cases hR0 : R = 0
      · rw [if_neg (by rintro ⟨_, h, _⟩; exact h hR0), hsg]
        exact one_d1 s w hs h0 _ x nm0 R hx hnm hR1 CR CF0 hb (hem0 hR0) 10 2 0 0 ⟨#[]⟩ ⟨#[]⟩ 1 (by decide) CS2 rfl
      · cases hp : preB [62] (s.data.toList.drop (1 + R)) with
        | false =>
          rw [hp] at CB
          rw [if_neg (by rintro ⟨_, _, h⟩; cases h), hsg]
          exact one_d2 s w hs h0 _ x nm0 R hx hnm hR1 CR CF0 hb (hem1 hR0) q hq CB 10 2 0 0 ⟨#[]⟩ ⟨#[]⟩ 1 (by decide) CS2 rfl
        | true =>
          rw [hp] at CB
          rw [if_pos ⟨rfl, hR0, rfl⟩]
          by_cases h24 : 24 < R
          · rw [if_pos h24]
            exact one_vb s w hs h0 _ x nm0 R hx hnm hR1 CR CF0 hb (hem1 hR0) q hq CB h24 rfl
          · rw [if_neg h24]
            exact one_vc s w hs h0 _ x nm0 R hx hnm hR1 CR CF0 hb (hem1 hR0) q hq CB h24 (by show _ = _; rw [tkV_some]; unfold tokN; simp only [hst]; rfl)
    · rw [if_neg (by rintro ⟨h, _⟩; exact h60 h)]
      have m60 : ((b.toNat : Int) == 60) = false := u8_ne (n := 60) (by decide) h60
      cases hsg : sglL s.data.toList with
      | some y =>
        obtain ⟨t, n⟩ := y
        rw [hsg] at CS
        exact one_d3 s w hs h0 _ x nm0 R hx hnm hR1 CR CF0 b hb m60 t.k t.p t.vk t.vn (st t.nm) (st t.vs) n (sgl_of t n hsg) CS (tkV_some t n)
      | none =>
        rw [hsg] at CS
        rw [Option.none_or]
        by_cases h94 : b = 94
        · subst h94
          rw [if_pos rfl]
          by_cases hR0 : R = 0
          · rw [if_pos (.inl hR0)]
            exact one_e1 s w hs h0 _ x nm0 R hx hnm hR1 CR CF0 hb (hem0 hR0) CS rfl
          · by_cases h24 : 24 < R
            · rw [if_pos (.inr h24)]
              exact one_e2 s w hs h0 _ x nm0 R hx hnm hR1 CR CF0 hb (hem1 hR0) h24 CS rfl
            · rw [if_neg (by rintro (h | h); exact hR0 h; exact h24 h)]
              exact one_e3 s w hs h0 _ x nm0 R hx hnm hR1 CR CF0 hb (hem1 hR0) h24 CS (by show _ = _; rw [tkV_some]; unfold tokN; simp only [hst]; rfl)
        · rw [if_neg h94]
          have m94 : ((b.toNat : Int) == 94) = false := u8_ne (n := 94) (by decide) h94
          have hRs : runN s.data.toList ≤ s.size := by rw [← lenL]; exact runN_le _ _ (Nat.le_refl _)
          have CQ := fun W => rrun_any s W hs
          obtain ⟨u, hu⟩ : ∃ u, s.extract 0 (runN s.data.toList) = u := ⟨_, rfl⟩
          have hul : u.data.toList = s.data.toList.take (runN s.data.toList) := by rw [← hu, take_list]
          have hus : u.size = runN s.data.toList := by rw [← hu]; exact (rword s _ hRs).2
          rw [hu] at CQ
          have CP := fun W => rparse_any u W (by omega)
          unfold vlL
          rw [← hul]
          rcases par_pr u with ⟨h1, e, he, h2⟩ | ⟨k, n, t, h2, h1⟩
          · rw [h1]
            rw [h2] at CP
            exact one_g s w hs h0 _ x nm0 R hx hnm hR1 CR CF0 b hb m60 m94 CS u CQ e (by simpa using he) CP rfl
          · rw [h1]
            rw [h2] at CP
            exact one_h s w hs h0 _ x nm0 R hx hnm hR1 CR CF0 b hb m60 m94 CS u CQ k n t CP (by show _ = _; rw [tkV_some]; unfold tokV; simp only [st_of]; rw [← hus]; rfl)
end Go.Proofs.YtglimefhiggdeaaDoor
