/- The document's Put. -/
import Derived.Test.YtnnndkpmlpbpcaaPt
namespace Go.Proofs.Ytnnndkpmlpbpcaa
open Go.RowKit
set_option linter.unusedVariables false
set_option maxRecDepth 20000

set_option maxHeartbeats 4000000 in
theorem rput_bad (d n : Int) (a : Option Addr) (cap : Nat) (ps : List PR) (w : World) (hp : PV w a ps) (hl : ps.length ≤ 1000000) (hL : ∀ p ∈ ps, Lp p) (hE : checkE d n ps ≠ 0) :
    Calls Try.prog 11 #[bkv d n a ps.length cap] w fun e w' => e = .returned (.tuple #[.slice none 0 0, .int .i64 (checkE d n ps)]) ∧ Below w.heap.size w w' := by
  have CK := rcheck_any d n a cap ps (w.alloc (.cells #[.int .i64 d, .int .i64 n, .slice a ps.length cap] 24)) (hp.below (one_block _ _)) hl hL
  generalize checkE d n ps = E at *
  have hb : (E == 0) = false := by simpa using hE
  unfold bkv at *
  clear hp
  go_enter Try.func11, Try.ntmps11
  go_wp2_with (go_at_call 35; refine CK.mono ?_; rintro e w1 ⟨rfl, hb1⟩; clear CK)
  go_ret2
  exact ⟨rfl, bt (one_block _ _) hb1⟩
theorem own_kept {wr w6 w8 w7 : World} {base : Nat} {v v8 : Value} {zs ts : List Int} (ho : Own wr base v zs) (hb : Below wr.heap.size wr w6) (h8 : Own w8 w6.heap.size v8 ts) (hk : ∀ k, k < w8.heap.size → v.ownBlock ≠ some k → w7.heap[k]? = w8.heap[k]?) : Own w7 w6.heap.size v8 ts := by
  refine ⟨h8.1, ?_⟩
  have hl := World.ownsRow.lt h8
  have hs := hb.size
  rcases h8.2 with hn | ⟨g, cap, cur, rfl, hbb, hg, rest⟩
  · exact .inl hn
  · exact .inr ⟨g, cap, cur, rfl, hbb, (hk g (hl g rfl).2 (fun e => by have := (World.ownsRow.lt ho _ e).2; omega)).trans hg, rest⟩
theorem own_head (w : World) (d n m : Int) : Own (w.alloc (.cells #[.int .u8 d, .int .u8 (n / 256), .int .u8 (n % 256), .int .u8 m] 5)) w.heap.size (.slice (some ⟨w.heap.size, 0, none⟩) 4 4) (headS d n m) := World.ownsRow_lit w #[.int .u8 d, .int .u8 (n / 256), .int .u8 (n % 256), .int .u8 m] 4 (Nat.le_refl _) (by decide) rfl
set_option maxHeartbeats 4000000 in
theorem rput_good (d n : Int) (a : Option Addr) (cap : Nat) (ps : List PR) (w : World) (hp : PV w a ps) (hL : ∀ p ∈ ps, Lp p) (hF : Fine d n ps) :
    Calls Try.prog 11 #[bkv d n a ps.length cap] w fun e w' => ∃ v, e = .returned (.tuple #[v, .int .i64 0]) ∧ Own w' w.heap.size v (putS d n ps) ∧ Below w.heap.size w w' := by
  have hfew := hF.few
  have HF : Hid (Fine d n ps) := hF
  obtain ⟨hd0, hd1, hn0, hn1, _, _, _⟩ := hF
  obtain ⟨W0, hW0⟩ : ∃ W0, W0 = w.alloc (.cells #[.int .i64 d, .int .i64 n, .slice a ps.length cap] 24) := ⟨_, rfl⟩
  have HB0 : Hid (Below w.heap.size w W0) := by rw [hW0]; exact one_block _ _
  have HW0 : Hid (W0 = w.alloc (.cells #[.int .i64 d, .int .i64 n, .slice a ps.length cap] 24)) := hW0
  have CK : Hid (Calls Try.prog 35 #[.agg #[.int .i64 d, .int .i64 n, .slice a ps.length cap]] W0 fun e w' => e = .returned (.int .i64 0) ∧ Below W0.heap.size W0 w') := by
    have := rcheck_any d n a cap ps W0 (hp.below HB0.out) (by omega) hL
    rw [HF.out.check] at this
    exact this
  have CL : Hid (∀ W, Below W0.heap.size W0 W → W.cell? ⟨w.heap.size, 0, none⟩ = some (.int .i64 d) ∧ W.cell? ⟨w.heap.size, 1, none⟩ = some (.int .i64 n) ∧ W.cell? ⟨w.heap.size, 2, none⟩ = some (.slice a ps.length cap)) := fun W hW => by
    rw [hW0] at hW
    exact ⟨(hW.cell (p := ⟨w.heap.size, 0, none⟩) (by simp)).trans (by go_simp), (hW.cell (p := ⟨w.heap.size, 1, none⟩) (by simp)).trans (by go_simp), (hW.cell (p := ⟨w.heap.size, 2, none⟩) (by simp)).trans (by go_simp)⟩
  have HSZ : Hid (szN ps ≤ 242) := by have := HF.out.size; unfold sizeS at this; show szN ps ≤ 242; omega
  have u1 : IntKind.u8.wrap d = d := by rw [IntKind.wrap_u8]; omega
  have u2 : IntKind.u8.wrap (n / 256) = n / 256 := by rw [IntKind.wrap_u8]; omega
  have u3 : IntKind.u8.wrap (n % 256) = n % 256 := by rw [IntKind.wrap_u8]; omega
  have u4 : IntKind.u8.wrap (ps.length : Int) = ps.length := by rw [IntKind.wrap_u8]; omega
  have t1 : n.tdiv 256 = n / 256 := Int.tdiv_eq_ediv_of_nonneg hn0
  have t2 : n.tmod 256 = n % 256 := Int.tmod_eq_emod_of_nonneg hn0
  clear hW0
  unfold bkv
  go_enter Try.func11, Try.ntmps11
  go_wp2_with (go_at_call 35; rw [← HW0.out]; refine CK.out.mono ?_; rintro e w1 ⟨rfl, hb1⟩; obtain ⟨c0, c1, c2⟩ := CL.out _ hb1)
  have HOA : Hid (Own (w1.alloc (.cells #[.int .u8 d, .int .u8 (n / 256), .int .u8 (n % 256), .int .u8 (ps.length : Int)] 5)) W0.heap.size (.slice (some ⟨w1.heap.size, 0, none⟩) 4 4) (headS d n ps.length)) := (own_head w1 d n ps.length).mono hb1.size
  have HBA : Hid (Below W0.heap.size W0 (w1.alloc (.cells #[.int .u8 d, .int .u8 (n / 256), .int .u8 (n % 256), .int .u8 (ps.length : Int)] 5))) := bt hb1 (one_block _ _)
  clear hb1 c0 c1 c2
  go_loopw [5, 6] (fun v i wr => ∃ k : Nat, k ≤ ps.length ∧ i = .int .i64 k ∧ Hid (Own wr W0.heap.size v (headS d n ps.length ++ bodyS (ps.take k))) ∧ Hid (Below W0.heap.size W0 wr)) (fun _ i _ => ps.length - (intOf i).toNat)
  case atStart => exact ⟨0, Nat.zero_le _, rfl, by simpa [bodyS, Hid] using HOA.out, HBA⟩
  case round =>
    obtain ⟨k, hk, rfl, HO, HB⟩ := hrel
    obtain ⟨e0, e1, e2⟩ := CL.out _ HB.out
    by_cases hlt : k < ps.length
    · obtain h0 | ⟨b, off, rfl, hbl, hc⟩ := (hp.below HB0.out).below HB.out
      · subst h0; simp at hlt
      obtain ⟨c0, c1⟩ := hc k hlt
      have hX := bodyS_take ps k hlt
      have hle := bodyS_le (ps.take (k + 1))
      have hle2 := Nat.le_trans hle (szN_take_le ps (k + 1))
      rw [hX] at hle2
      simp only [List.length_append] at hle2
      have HLE : Hid ((bodyS (ps.take k)).length + (textL (ps.getD k default).1).length + (textL (ps.getD k default).2).length ≤ 242) := by have := HSZ.out; show _ ≤ 242; omega
      have HX : Hid (bodyS (ps.take (k + 1)) = _) := hX
      have T1 : Hid (∀ W, Calls Try.prog 36 #[.string (ps.getD k default).1] W fun e w' => ∃ v, e = .returned (.tuple #[v, .int .i64 (textE (ps.getD k default).1)]) ∧ Own w' W.heap.size v (textL (ps.getD k default).1) ∧ Below W.heap.size W w') := fun W => rtext_any _ W
      have T2 : Hid (∀ W, Calls Try.prog 36 #[.string (ps.getD k default).2] W fun e w' => ∃ v, e = .returned (.tuple #[v, .int .i64 (textE (ps.getD k default).2)]) ∧ Own w' W.heap.size v (textL (ps.getD k default).2) ∧ Below W.heap.size W w') := fun W => rtext_any _ W
      have B1 : Hid (AllB (textL (ps.getD k default).1)) := textL_all _
      have B2 : Hid (AllB (textL (ps.getD k default).2)) := textL_all _
      have SL : Hid (∀ W, Below wr.heap.size wr W → W.cell? ⟨b, off + k * 2 + 1, none⟩ = some (.string (ps.getD k default).2)) := fun W hW => (hW.cell (p := ⟨b, off + k * 2 + 1, none⟩) hbl).trans c1
      clear hX hle hle2 hc
      generalize bodyS (ps.take k) = bs at *
      generalize textL (ps.getD k default).1 = t1 at *
      generalize textL (ps.getD k default).2 = t2 at *
      generalize textE (ps.getD k default).1 = x1 at *
      generalize textE (ps.getD k default).2 = x2 at *
      generalize (ps.getD k default).1 = sk at *
      generalize (ps.getD k default).2 = sv at *
      have hlt2 : (k : Int) < (ps.length : Int) := by omega
      go_wp2_with (first | (go_at_call 36; refine (T1.out _).mono ?_; rintro e w6 ⟨v6, rfl, ho6, hb6⟩; obtain ⟨a6, k6, rfl, n6, bv6, _, _⟩ := ho6.slice B1.out; clear T1; obtain ⟨f0, f1, f2⟩ := CL.out _ (bt HB.out hb6); have f3 := SL.out _ hb6) | (go_at_call 36; refine (T2.out _).mono ?_; rintro e w8 ⟨v8, rfl, ho8, hb8⟩; obtain ⟨a8, k8, rfl, n8, bv8, _, _⟩ := ho8.slice B2.out; clear T2) | (at_builtin; refine wp_app_bv2 rfl _ _ rfl W0.heap.size _ (headS d n ps.length ++ bs) t1 rfl ((HO.out.below hb6).below hb8) a6 k6 rfl (bv6.below hb8) n6 (by have := HLE.out; simp [headS]; omega) (bt (bt HB.out hb6) hb8).size ?_; intro v7 w7 ho7 hb7 hk7; have bv9 := (own_kept HO.out hb6 ho8 hk7).bv B2.out; clear hk7) | (at_builtin; refine wp_app_bv rfl _ _ rfl W0.heap.size _ (headS d n ps.length ++ bs ++ t1) t2 rfl ho7 a8 k8 rfl bv9 n8 (by have := HLE.out; simp [headS]; omega) ((bt (bt HB.out hb6) hb8).trans hb7).size ?_; intro v9 w9 ho9 hb9))
      refine ⟨⟨k + 1, by omega, by go_num, ?_, ((bt (bt HB.out hb6) hb8).trans hb7).trans hb9⟩, by simp [intOf]; omega⟩
      show Own w9 W0.heap.size v9 _
      rw [HX.out, ← List.append_assoc, ← List.append_assoc]
      exact ho9
    · have : k = ps.length := by omega
      subst this
      have hxx : ¬ ((ps.length : Int) < (ps.length : Int)) := by omega
      have h9 := HO.out
      rw [List.take_length] at h9
      have H9 : Hid (Own _ _ _ (headS d n ps.length ++ bodyS ps)) := h9
      clear h9
      go_wp2
      go_ret2
      exact ⟨_, rfl, H9.out.mono HB0.out.size, bt HB0.out HB.out⟩
theorem brput_any (d n : Int) (a : Option Addr) (cap : Nat) (ps : List PR) (w : World) (hp : PV w a ps) (hl : ps.length ≤ 1000000) (hL : ∀ p ∈ ps, Lp p) :
    Calls Try.prog 11 #[bkv d n a ps.length cap] w fun e w' => ∃ v, e = .returned (.tuple #[v, .int .i64 (checkE d n ps)]) ∧ Own w' w.heap.size v (putB d n ps) ∧ Below w.heap.size w w' := by
  unfold putB
  by_cases hE : checkE d n ps = 0
  · rw [if_pos hE, hE]
    exact rput_good d n a cap ps w hp hL (fine_of hE)
  · rw [if_neg hE]
    refine (rput_bad d n a cap ps w hp hl hL hE).mono ?_
    rintro e w' ⟨rfl, hb⟩
    exact ⟨_, rfl, Own.nil _ _, hb⟩
end Go.Proofs.Ytnnndkpmlpbpcaa
