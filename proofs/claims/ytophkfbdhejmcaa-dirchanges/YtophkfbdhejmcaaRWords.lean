/- The document's Words. -/
import Derived.Test.YtophkfbdhejmcaaWords
namespace Go.Proofs.Ytophkfbdhejmcaa
set_option maxRecDepth 20000
open Go.RowKit
set_option linter.unusedVariables false
set_option linter.unusedSimpArgs false
set_option maxHeartbeats 800000 in
theorem rwords_nil (a : Option Addr) (cap : Nat) (w : World) :
    Calls Try.prog 32 #[.slice a 0 cap] w fun e w' => ∃ v, e = .returned (.tuple #[v, .int .i64 0]) ∧ Own w' w.heap.size v [] ∧ Below w.heap.size w w' := by
  go_enter Try.func32, Try.ntmps32
  go_wp2
  go_loop [4, 5] (fun bv i => bv = .slice none 0 0 ∧ i = .int .i64 0) (fun _ _ => 0)
  case atStart => exact ⟨rfl, rfl⟩
  case round =>
    obtain ⟨rfl, rfl⟩ := hrel
    go_wp2
    exact bodyPost_ret (v := .tuple #[.slice none 0 0, .int .i64 0]) (by simp [results, Try.results32, go_sem]) rfl ⟨_, rfl, Own.nil _ _, Below.refl _ _⟩
set_option maxHeartbeats 1600000 in
theorem rwords_ok (b off n cap : Nat) (ns : List Int) (w : World) (hl : ns.length = n) (hn : n ≤ 100000) (hblt : b < w.heap.size) (hc : ∀ i, i < ns.length → w.cell? ⟨b, off + i, none⟩ = some (.int .i64 (ns.getD i 0))) :
    Calls Try.prog 32 #[.slice (some ⟨b, off, none⟩) n cap] w fun e w' => ∃ v, e = .returned (.tuple #[v, .int .i64 (wordsE ns)]) ∧ Own w' w.heap.size v (wordsL ns) ∧ Below w.heap.size w w' := by
  have HL : Hid (ns.length = n) := hl
  have HC : Hid (∀ i, i < ns.length → w.cell? ⟨b, off + i, none⟩ = some (.int .i64 (ns.getD i 0))) := hc
  clear hl hc
  go_enter Try.func32, Try.ntmps32
  go_wp2
  go_loopw [4, 5] (fun bv iv wr => ∃ k : Nat, k ≤ n ∧ iv = .int .i64 k ∧ Hid (wordsB (ns.take k) = true) ∧ Hid (Own wr w.heap.size bv (wordsS (ns.take k))) ∧ Hid (Below w.heap.size w wr)) (fun _ iv _ => n - (intOf iv).toNat)
  case atStart => exact ⟨0, Nat.zero_le _, rfl, rfl, Own.nil _ _, Below.refl _ _⟩
  case round =>
    obtain ⟨k, hk, rfl, HK, HB, HW⟩ := hrel
    by_cases hlt : k < n
    · have hck : wr.cell? ⟨b, off + k, none⟩ = some (.int .i64 (ns.getD k 0)) := by
        rw [HW.out.cell (p := ⟨b, off + k, none⟩) hblt]
        exact HC.out k (by have := HL.out; omega)
      have c0 := HC.out k (by have := HL.out; omega)
      cases hwb : wordB (ns.getD k 0) with
      | false =>
        have HE : Hid (wordsB ns = false) := wordsB_false (by have := HL.out; omega) hwb
        have hzz : ¬ (0 ≤ ns.getD k 0 ∧ ns.getD k 0 ≤ 65535) := by
          unfold wordB at hwb
          intro hc
          rw [decide_eq_true hc.1, decide_eq_true hc.2] at hwb
          cases hwb
        generalize ns.getD k 0 = z at *
        clear hwb c0
        by_cases z0 : z < 0
        · clear hzz
          go_wp2_with fail
          refine bodyPost_ret (v := .tuple #[.slice none 0 0, .int .i64 12]) (by simp [results, Try.results32, go_sem]) rfl ⟨.slice none 0 0, ?_, ?_, HW.out⟩
          · unfold wordsE; rw [HE.out]; rfl
          · unfold wordsL; rw [HE.out]; exact Own.nil _ _
        · have z1 : 65535 < z := by omega
          clear hzz
          go_wp2_with fail
          refine bodyPost_ret (v := .tuple #[.slice none 0 0, .int .i64 12]) (by simp [results, Try.results32, go_sem]) rfl ⟨.slice none 0 0, ?_, ?_, HW.out⟩
          · unfold wordsE; rw [HE.out]; rfl
          · unfold wordsL; rw [HE.out]; exact Own.nil _ _
      | true =>
        have HKn : Hid (wordsB (ns.take (k + 1)) = true) := by
          have := wordsB_take ns k (by have := HL.out; omega)
          rw [HK.out, hwb] at this
          exact this
        have HT0 := wordsS_take ns k (by have := HL.out; omega)
        have HLE : Hid ((wordsS (ns.take k)).length ≤ 200000) := by
          have := wordsS_len (ns.take k)
          rw [List.length_take] at this
          show (wordsS (ns.take k)).length ≤ 200000
          omega
        have hzz : 0 ≤ ns.getD k 0 ∧ ns.getD k 0 ≤ 65535 := by
          unfold wordB at hwb; simp only [Bool.and_eq_true, decide_eq_true_eq] at hwb; exact hwb
        have hws : w.heap.size ≤ wr.heap.size := HW.out.size
        clear HC HK hwb
        generalize ns.getD k 0 = z at *
        obtain ⟨z0, z1⟩ := hzz
        have HT : Hid (wordsS (ns.take (k + 1)) = wordsS (ns.take k) ++ [z / 256, z % 256]) := by
          rw [dig2, show z / 256 % 256 = z / 256 by omega] at HT0
          exact HT0
        clear HT0
        have t1 : Int.tdiv z 256 = z / 256 := Int.tdiv_eq_ediv_of_nonneg z0
        have t2 : Int.tmod z 256 = z % 256 := Int.tmod_eq_emod_of_nonneg z0
        have w1 : IntKind.u8.wrap (z / 256) = z / 256 := by show (z / 256) % 256 = z / 256; omega
        have w2 : IntKind.u8.wrap (z % 256) = z % 256 := by show (z % 256) % 256 = z % 256; omega
        have w3 : IntKind.i64.wrap (z / 256) = z / 256 := wrap_sm (by omega) (by omega)
        have w4 : IntKind.i64.wrap (z % 256) = z % 256 := wrap_sm (by omega) (by omega)
        have g1 : ¬ (z < 0) := by omega
        have g2 : ¬ (65535 < z) := by omega
        obtain ⟨i0, hi, hz0, hz1, hz2⟩ := info_parts Try.info5
        go_wp2_with fail
        refine wp_region_noPanic ?_
        refine name_ops ?_
        intro O QQ HO HQ
        refine wp_region_held_drew (S := fun W' => Below w.heap.size w W') (by kernel_rfl) HW.out.drew (fun hS => ?_)
        rw [show O.size = 16 by rw [HO.out]; rfl]
        refine wpAnyH_take (i := 0) (v := u4) (by rw [HO.out]; simp only [List.getElem?_toArray, List.getElem?_cons_succ, List.getElem?_cons_zero]; rfl) (by rw [HO.out]; kernel_rfl) (by rw [HO.out]; kernel_rfl) (by rw [HO.out]; kernel_rfl) (by rw [HQ.out]; exact fun _ _ _ h => h) (Or.inl ⟨by rfl, ?_⟩) hS ?_
        · intro w' hSw
          go_simp
        try simp only [Act.put, List.setIfInBounds_toArray, List.set_cons_zero, List.set_cons_succ]
        refine wpAnyH_take (i := 1) (v := .slice (some ⟨b, off, none⟩) n cap) (by rw [HO.out]; simp only [List.getElem?_toArray, List.getElem?_cons_succ, List.getElem?_cons_zero]; rfl) (by rw [HO.out]; kernel_rfl) (by rw [HO.out]; kernel_rfl) (by rw [HO.out]; kernel_rfl) (by rw [HQ.out]; exact fun _ _ _ h => h) (Or.inl ⟨by rfl, ?_⟩) hS ?_
        · intro w' hSw
          go_simp
        try simp only [Act.put, List.setIfInBounds_toArray, List.set_cons_zero, List.set_cons_succ]
        refine wpAnyH_take (i := 2) (v := .int .i64 k) (by rw [HO.out]; simp only [List.getElem?_toArray, List.getElem?_cons_succ, List.getElem?_cons_zero]; rfl) (by rw [HO.out]; kernel_rfl) (by rw [HO.out]; kernel_rfl) (by rw [HO.out]; kernel_rfl) (by rw [HQ.out]; exact fun _ _ _ h => h) (Or.inl ⟨by rfl, ?_⟩) hS ?_
        · intro w' hSw
          go_simp
        try simp only [Act.put, List.setIfInBounds_toArray, List.set_cons_zero, List.set_cons_succ]
        refine wpAnyH_take (i := 3) (v := .pointer (some ⟨b, off + k, none⟩)) (by rw [HO.out]; simp only [List.getElem?_toArray, List.getElem?_cons_succ, List.getElem?_cons_zero]; rfl) (by rw [HO.out]; kernel_rfl) (by rw [HO.out]; kernel_rfl) (by rw [HO.out]; kernel_rfl) (by rw [HQ.out]; exact fun _ _ _ h => h) (Or.inl ⟨by rfl, ?_⟩) hS ?_
        · intro w' hSw
          go_simp
        try simp only [Act.put, List.setIfInBounds_toArray, List.set_cons_zero, List.set_cons_succ]
        refine wpAnyH_take (i := 4) (v := .int .i64 z) (by rw [HO.out]; simp only [List.getElem?_toArray, List.getElem?_cons_succ, List.getElem?_cons_zero]; rfl) (by rw [HO.out]; kernel_rfl) (by rw [HO.out]; kernel_rfl) (by rw [HO.out]; kernel_rfl) (by rw [HQ.out]; exact fun _ _ _ h => h) (Or.inl ⟨by rfl, ?_⟩) hS ?_
        · intro w' hSw
          have q := (hSw.cell (p := ⟨b, off + k, none⟩) hblt).trans c0
          go_simp
        try simp only [Act.put, List.setIfInBounds_toArray, List.set_cons_zero, List.set_cons_succ]
        refine wpAnyH_take (i := 5) (v := .int .i64 (z / 256)) (by rw [HO.out]; simp only [List.getElem?_toArray, List.getElem?_cons_succ, List.getElem?_cons_zero]; rfl) (by rw [HO.out]; kernel_rfl) (by rw [HO.out]; kernel_rfl) (by rw [HO.out]; kernel_rfl) (by rw [HQ.out]; exact fun _ _ _ h => h) (Or.inl ⟨by rfl, ?_⟩) hS ?_
        · intro w' hSw
          go_simp
        try simp only [Act.put, List.setIfInBounds_toArray, List.set_cons_zero, List.set_cons_succ]
        refine wpAnyH_take (i := 6) (v := .int .u8 (z / 256)) (by rw [HO.out]; simp only [List.getElem?_toArray, List.getElem?_cons_succ, List.getElem?_cons_zero]; rfl) (by rw [HO.out]; kernel_rfl) (by rw [HO.out]; kernel_rfl) (by rw [HO.out]; kernel_rfl) (by rw [HQ.out]; exact fun _ _ _ h => h) (Or.inl ⟨by rfl, ?_⟩) hS ?_
        · intro w' hSw
          go_simp
        try simp only [Act.put, List.setIfInBounds_toArray, List.set_cons_zero, List.set_cons_succ]
        refine wpAnyH_take (i := 7) (v := .slice (some ⟨b, off, none⟩) n cap) (by rw [HO.out]; simp only [List.getElem?_toArray, List.getElem?_cons_succ, List.getElem?_cons_zero]; rfl) (by rw [HO.out]; kernel_rfl) (by rw [HO.out]; kernel_rfl) (by rw [HO.out]; kernel_rfl) (by rw [HQ.out]; exact fun _ _ _ h => h) (Or.inl ⟨by rfl, ?_⟩) hS ?_
        · intro w' hSw
          go_simp
        try simp only [Act.put, List.setIfInBounds_toArray, List.set_cons_zero, List.set_cons_succ]
        refine wpAnyH_take (i := 8) (v := .int .i64 k) (by rw [HO.out]; simp only [List.getElem?_toArray, List.getElem?_cons_succ, List.getElem?_cons_zero]; rfl) (by rw [HO.out]; kernel_rfl) (by rw [HO.out]; kernel_rfl) (by rw [HO.out]; kernel_rfl) (by rw [HQ.out]; exact fun _ _ _ h => h) (Or.inl ⟨by rfl, ?_⟩) hS ?_
        · intro w' hSw
          go_simp
        try simp only [Act.put, List.setIfInBounds_toArray, List.set_cons_zero, List.set_cons_succ]
        refine wpAnyH_take (i := 9) (v := .pointer (some ⟨b, off + k, none⟩)) (by rw [HO.out]; simp only [List.getElem?_toArray, List.getElem?_cons_succ, List.getElem?_cons_zero]; rfl) (by rw [HO.out]; kernel_rfl) (by rw [HO.out]; kernel_rfl) (by rw [HO.out]; kernel_rfl) (by rw [HQ.out]; exact fun _ _ _ h => h) (Or.inl ⟨by rfl, ?_⟩) hS ?_
        · intro w' hSw
          go_simp
        try simp only [Act.put, List.setIfInBounds_toArray, List.set_cons_zero, List.set_cons_succ]
        refine wpAnyH_take (i := 10) (v := .int .i64 z) (by rw [HO.out]; simp only [List.getElem?_toArray, List.getElem?_cons_succ, List.getElem?_cons_zero]; rfl) (by rw [HO.out]; kernel_rfl) (by rw [HO.out]; kernel_rfl) (by rw [HO.out]; kernel_rfl) (by rw [HQ.out]; exact fun _ _ _ h => h) (Or.inl ⟨by rfl, ?_⟩) hS ?_
        · intro w' hSw
          have q := (hSw.cell (p := ⟨b, off + k, none⟩) hblt).trans c0
          go_simp
        try simp only [Act.put, List.setIfInBounds_toArray, List.set_cons_zero, List.set_cons_succ]
        refine wpAnyH_take (i := 11) (v := .int .i64 (z % 256)) (by rw [HO.out]; simp only [List.getElem?_toArray, List.getElem?_cons_succ, List.getElem?_cons_zero]; rfl) (by rw [HO.out]; kernel_rfl) (by rw [HO.out]; kernel_rfl) (by rw [HO.out]; kernel_rfl) (by rw [HQ.out]; exact fun _ _ _ h => h) (Or.inl ⟨by rfl, ?_⟩) hS ?_
        · intro w' hSw
          go_simp
        try simp only [Act.put, List.setIfInBounds_toArray, List.set_cons_zero, List.set_cons_succ]
        refine wpAnyH_take (i := 12) (v := .int .u8 (z % 256)) (by rw [HO.out]; simp only [List.getElem?_toArray, List.getElem?_cons_succ, List.getElem?_cons_zero]; rfl) (by rw [HO.out]; kernel_rfl) (by rw [HO.out]; kernel_rfl) (by rw [HO.out]; kernel_rfl) (by rw [HQ.out]; exact fun _ _ _ h => h) (Or.inl ⟨by rfl, ?_⟩) hS ?_
        · intro w' hSw
          go_simp
        try simp only [Act.put, List.setIfInBounds_toArray, List.set_cons_zero, List.set_cons_succ]
        refine wpAnyH_ready (rs := [13]) (by rw [HO.out]; kernel_rfl) (by simp) ?_
        refine AllReadyH.cons (o := _) (by rw [HO.out]; simp only [List.getElem?_toArray, List.getElem?_cons_succ, List.getElem?_cons_zero]; rfl) (fun K13 hK13 => ?_) AllReadyH.nil
        go_simp
        have hb1 : Below wr.heap.size wr (wr.drew.alloc (.cells #[.int .u8 (z / 256), .int .u8 (z % 256)] 5 (0, 0))) := (Below.refl _ _).drew.trans ((Below.refl _ _).alloc (by simp) _)
        refine hK13.out _ _ (HW.out.trans (hb1.mono hws)) (fun hS1 => ?_)
        try simp only [Act.put, List.setIfInBounds_toArray, List.set_cons_zero, List.set_cons_succ]
        refine wpAnyH_ready (rs := [14]) (by rw [HO.out]; kernel_rfl) (by simp) ?_
        refine AllReadyH.cons (o := _) (by rw [HO.out]; simp only [List.getElem?_toArray, List.getElem?_cons_succ, List.getElem?_cons_zero]; rfl) (fun K14 hK14 => ?_) AllReadyH.nil
        rw [if_pos (by rfl)]
        refine wp_append_own _ _ _ 27 rfl w.heap.size 5 i0 (.int .u8 0) 1 1 Try.underlying27 hi hz0 hz1 hz2 rfl (by decide) u4 (wordsS (ns.take k)).length ((wordsS (ns.take k)).map (Value.int .u8)) rfl (HB.out.below hb1) ⟨wr.drew.heap.size, 0, none⟩ 2 2 [.int .u8 (z / 256), .int .u8 (z % 256)] rfl rfl ?_ (by simp [Value.oneCell']) (by have := HLE.out; unfold maxLen; omega) (by have := HLE.out; omega) (by simp; omega) ?_
        · intro j u hu
          rw [add_plain, Nat.zero_add]
          show (wr.drew.alloc (.cells #[.int .u8 (z / 256), .int .u8 (z % 256)] 5 (0, 0))).cell? ⟨wr.drew.heap.size, j, none⟩ = some u
          rw [cell_of_row _ _ _ _ _ _ (heap_alloc_last _ _)]
          simpa using hu
        intro v' w2 ho2 hg2 _
        have HG2 : Hid (Below w.heap.size w w2) := HW.out.trans ((hb1.mono hws).trans ((Below.refl w.heap.size _).grown hg2 (by simp; omega) (fun j hj => (World.ownsRow.lt (HB.out) j hj).1)))
        have HO2 : Hid (Own w2 w.heap.size v' (wordsS (ns.take (k + 1)))) := by
          rw [HT.out]
          show World.ownsRow _ _ _ _ _ _ _
          rw [List.length_append, List.map_append]
          exact ho2
        clear ho2 hg2
        refine hK14.out _ _ HG2.out (fun hS2 => ?_)
        try simp only [Act.put, List.setIfInBounds_toArray, List.set_cons_zero, List.set_cons_succ]
        refine wpAnyH_ready (rs := [15]) (by rw [HO.out]; kernel_rfl) (by simp) ?_
        refine AllReadyH.cons (o := _) (by rw [HO.out]; simp only [List.getElem?_toArray, List.getElem?_cons_succ, List.getElem?_cons_zero]; rfl) (fun K15 hK15 => ?_) AllReadyH.nil
        go_simp
        refine hK15.out _ _ hS2 (fun _ => ?_)
        refine wpAnyH_done (by rw [HO.out]; kernel_rfl) ?_ _
        rw [HQ.out]
        refine NoPanic.normal ?_
        go_wp2
        go_roundw
        case rel => exact ⟨k + 1, by omega, by go_num, HKn.out, HO2.out, HG2.out⟩
        case measure => simp [intOf]; omega
    · have : k = n := by omega
      subst this
      have h1 := HK.out
      have h2 := HB.out
      rw [List.take_of_length_le (by have := HL.out; omega)] at h1 h2
      have HE : Hid (wordsE ns = 0) := by unfold wordsE; rw [h1]; exact rfl
      have HF : Hid (wordsL ns = wordsS ns) := by unfold wordsL; rw [h1]; exact rfl
      have HO2 : Hid (Own wr w.heap.size u4 (wordsS ns)) := h2
      clear h1 h2 HK HB
      go_wp2
      exact bodyPost_ret (v := .tuple #[u4, .int .i64 0]) (by simp [results, Try.results32, go_sem]) rfl ⟨u4, by rw [HE.out], by rw [HF.out]; exact HO2.out, HW.out⟩
theorem rwords_any (a : Option Addr) (cap : Nat) (ns : List Int) (w : World) (hb : IV w a ns) (hm : ns.length ≤ 100000) :
    Calls Try.prog 32 #[.slice a ns.length cap] w fun e w' => ∃ v, e = .returned (.tuple #[v, .int .i64 (wordsE ns)]) ∧ Own w' w.heap.size v (wordsL ns) ∧ Below w.heap.size w w' := by
  rcases hb with rfl | ⟨b, off, rfl, hlt, hc⟩
  · exact rwords_nil a cap w
  · exact rwords_ok b off ns.length cap ns w rfl hm hlt hc
end Go.Proofs.Ytophkfbdhejmcaa
