import Derived.Test.YtpmhilaochfpaaaDoorV16
import Derived.Deep.QuietTactic
import Derived.BigQuiet
import Derived.Deep.RegionHeld3
namespace Go.Proofs.YtpmhilaochfpaaaDoor
set_option maxRecDepth 20000
set_option maxRecDepth 20000
open Go.RowKit
theorem two_newD (w : World) (o p : Obj) (n : Nat) (u v : Value) : Below w.heap.size w (((((w.alloc o).alloc p).drewN n).setCell ⟨w.heap.size + 1, 0, none⟩ u).setCell ⟨w.heap.size + 1, 1, none⟩ v) :=
  ((below_drewN (two_new w o p) n).setCell (by simp) u).setCell (by simp) v

set_option maxHeartbeats 400000 in
theorem rtxt_no (a : Option Addr) (len cap : Nat) (er : Int) (w : World) (he : er ≠ 0) :
    Calls Tryd.prog 45 #[.agg #[.slice a len cap, .int .i64 er]] w fun r w' => r = .returned (.tuple #[.agg #[.slice a len cap, .int .i64 er], .string ByteArray.empty]) ∧ Below w.heap.size w w' := by
  have hb : (er == 0) = false := by simpa using he
  go_enter Tryd.func45, Tryd.ntmps45
  go_wp2
  exact bodyPost_ret (v := .tuple #[.agg #[.slice a len cap, .int .i64 er], .string ByteArray.empty]) (by simp [results, Tryd.results45, go_sem]; rfl) rfl ⟨rfl, two_new _ _ _⟩
set_option maxHeartbeats 400000 in
theorem rtxt_none (a : Option Addr) (cap : Nat) (w : World) :
    Calls Tryd.prog 45 #[.agg #[.slice a 0 cap, .int .i64 0]] w fun r w' => r = .returned (.tuple #[.agg #[.slice a 0 cap, .int .i64 3], .string ByteArray.empty]) ∧ Below w.heap.size w w' := by
  have hd : ((0 : Int) == 0) = true := rfl
  go_enter Tryd.func45, Tryd.ntmps45
  go_wp2_with fail
  go_quiet (fail)
  go_wp2
  exact bodyPost_ret (v := .tuple #[.agg #[.slice a 0 cap, .int .i64 3], .string ByteArray.empty]) (by simp [results, Tryd.results45, go_sem]; rfl) rfl ⟨rfl, two_newD _ _ _ _ _ _⟩
set_option maxHeartbeats 400000 in
theorem rtxt_cut (b off len cap : Nat) (z : Int) (w : World) (hlt : b < w.heap.size) (h1 : 1 ≤ len) (hm : len ≤ 9223372036854775807) (hcell : w.cell? ⟨b, off, none⟩ = some (.int .u8 z)) (h0 : 0 ≤ z) (h255 : z ≤ 255) (hz : (len : Int) < 1 + z) :
    Calls Tryd.prog 45 #[.agg #[.slice (some ⟨b, off, none⟩) len cap, .int .i64 0]] w fun r w' => r = .returned (.tuple #[.agg #[.slice (some ⟨b, off, none⟩) len cap, .int .i64 3], .string ByteArray.empty]) ∧ Below w.heap.size w w' := by
  have hd : ((len : Int) == 0) = false := by simp; omega
  have hd2 : (0 : Int) < (len : Int) := by omega
  have hc : ∀ o p, ((w.alloc o).alloc p).cell? ⟨b, off, none⟩ = some (.int .u8 z) := fun o p => ((two_new w o p).cell (p := ⟨b, off, none⟩) hlt).trans hcell
  have hw : wrap64 z = z := by unfold wrap64; omega
  go_enter Tryd.func45, Tryd.ntmps45
  go_wp2_with fail
  go_quiet (fail)
  go_wp2
  exact bodyPost_ret (v := .tuple #[.agg #[.slice (some ⟨b, off, none⟩) len cap, .int .i64 3], .string ByteArray.empty]) (by simp [results, Tryd.results45, go_sem]; rfl) rfl ⟨rfl, two_newD _ _ _ _ _ _⟩
set_option maxHeartbeats 800000 in
theorem rtxt_oka (b off : Nat) (w : World) (hlt : b < w.heap.size) (hcell : w.cell? ⟨b, off, none⟩ = some (.int .u8 0)) :
    Calls Tryd.prog 45 #[.agg #[.slice (some ⟨b, off, none⟩) 1 1, .int .i64 0]] w fun r w' => r = .returned (.tuple #[.agg #[.slice (some ⟨b, off, none⟩) 0 0, .int .i64 0], .string (strOfNums [])]) ∧ Below w.heap.size w w' := by
  have hcc : ∀ o p, ((w.alloc o).alloc p).cell? ⟨b, off, none⟩ = some (.int .u8 0) := fun o p => ((two_new w o p).cell (p := ⟨b, off, none⟩) hlt).trans hcell
  have hst : ∃ st, st = strOfNums [] := ⟨_, rfl⟩
  obtain ⟨st, hst⟩ := hst
  rw [← hst]
  have SL : Hid (∀ w' : World, w'.cell? ⟨w.heap.size, 0, none⟩ = some (.slice (some ⟨b, off, none⟩) 1 1) → w'.cell? ⟨w.heap.size, 0, none⟩ = some (.slice (some ⟨b, off, none⟩) 1 1) ∧ (convert 53 9 (.slice (some ⟨b, off, none⟩) 0 0)).run Tryd.prog w' = .ok (.string st) w') := by
    intro w' hq
    rw [hst]
    exact ⟨hq, run_convert_bytes_arg (P := Tryd.prog) w' 53 5 Tryd.underlying53 Tryd.underlying5 b off 0 0 [] rfl (by intro i hi; omega) 9 Tryd.underlying9⟩
  have j5 : IntKind.i64.wrap 1 = 1 := by decide
  clear hst
  go_enter Tryd.func45, Tryd.ntmps45
  go_wp2_with fail
  go_quiet (fail)
  go_wp2_with fail
  obtain ⟨W, hW⟩ : ∃ W, W = ((w.alloc (Obj.cells #[Value.slice (some ⟨b, off, none⟩) 1 1, Value.int IntKind.i64 0] 90)).alloc (Obj.cells #[Value.slice none 0 0, Value.int IntKind.i64 0] 90)).drewN nq := ⟨_, rfl⟩
  rw [← hW]
  have hbW : Below w.heap.size w W := by rw [hW]; exact below_drewN (two_new _ _ _) nq
  have q0 : W.cell? ⟨w.heap.size, 0, none⟩ = some (.slice (some ⟨b, off, none⟩) 1 1) := by rw [hW]; go_simp
  have q1 : W.cell? ⟨w.heap.size + 1, 0, none⟩ = some (.slice none 0 0) := by rw [hW]; go_simp
  have q2 : W.cell? ⟨w.heap.size + 1, 1, none⟩ = some (.int .i64 0) := by rw [hW]; go_simp
  have q3 : W.frozen? ⟨w.heap.size + 1, 0, none⟩ = false := by rw [hW]; go_simp
  have q4 : W.frozen? ⟨w.heap.size + 1, 1, none⟩ = false := by rw [hW]; go_simp
  clear hW hcc hcell
  go_region_held3 (fun w' => w'.cell? ⟨w.heap.size, 0, none⟩ = some (.slice (some ⟨b, off, none⟩) 1 1) ∧ (convert 53 9 (.slice (some ⟨b, off, none⟩) 0 0)).run Tryd.prog w' = .ok (.string st) w') (first | exact SL.out _ q0 | exact SL.out _ (by go_simp)) (fail)
  go_wp2
  refine bodyPost_ret (v := .tuple #[.agg #[.slice (some ⟨b, off, none⟩) 0 0, .int .i64 0], .string st]) (by simp [results, Tryd.results45, go_sem, q1, q2]) rfl ⟨rfl, ?_⟩
  exact (hbW.drew.setCell (by simp) _).setCell (by simp) _

theorem cut_text {w w' : World} {b off n : Nat} {zs : List Int} (hn : zs.getD 0 0 = n) (hlt : b < w.heap.size) (hl : 1 + n ≤ zs.length) (hb : Below w.heap.size w w')
    (hcell : ∀ i, i < zs.length → w.cell? ⟨b, off + i, none⟩ = some (.int .u8 (zs.getD i 0))) (c : Nat) :
    (convert 53 9 (.slice (some ⟨b, off + 1, none⟩) n c)).run Tryd.prog w' = .ok (.string (strOfNums (txL zs))) w' := by
  refine run_convert_bytes_arg (P := Tryd.prog) w' 53 5 Tryd.underlying53 Tryd.underlying5 b (off + 1) n c (txL zs) ?_ ?_ 9 Tryd.underlying9
  · unfold txL; rw [hn, Int.toNat_natCast, List.length_take, List.length_drop]; omega
  · intro i hi
    rw [hb.cell (p := ⟨b, off + 1 + i, none⟩) hlt, Nat.add_assoc, hcell (1 + i) (by omega), ← getD_drop]
    unfold txL
    rw [hn, Int.toNat_natCast, List.getD_eq_getElem?_getD, List.getD_eq_getElem?_getD, List.getElem?_take, if_pos hi]

set_option maxHeartbeats 800000 in
theorem rtxt_okb (b off len : Nat) (zs : List Int) (n : Nat) (w : World) (hlt : b < w.heap.size) (hl : zs.length = len) (hn : zs.getD 0 0 = n) (h255 : n ≤ 255) (hz : 1 + n = len) (hn1 : 1 ≤ n)
    (hcell : ∀ i, i < zs.length → w.cell? ⟨b, off + i, none⟩ = some (.int .u8 (zs.getD i 0))) :
    Calls Tryd.prog 45 #[.agg #[.slice (some ⟨b, off, none⟩) len len, .int .i64 0]] w fun r w' => r = .returned (.tuple #[.agg #[.slice (some ⟨b, off, none⟩) 0 0, .int .i64 0], .string (strOfNums (txL zs))]) ∧ Below w.heap.size w w' := by
  have hd : ((len : Int) == 0) = false := by simp; omega
  have hd2 : (0 : Int) < (len : Int) := by omega
  have hw : wrap64 (n : Int) = n := by unfold wrap64; omega
  have hc0 : w.cell? ⟨b, off, none⟩ = some (.int .u8 n) := by have := hcell 0 (by omega); rwa [hn] at this
  have hcc : ∀ o p, ((w.alloc o).alloc p).cell? ⟨b, off, none⟩ = some (.int .u8 n) := fun o p => ((two_new w o p).cell (p := ⟨b, off, none⟩) hlt).trans hc0
  have SL : Hid (∀ w' : World, Below w.heap.size w w' → w'.cell? ⟨w.heap.size, 0, none⟩ = some (.slice (some ⟨b, off, none⟩) len len) → w'.cell? ⟨w.heap.size, 0, none⟩ = some (.slice (some ⟨b, off, none⟩) len len) ∧ (convert 53 9 (.slice (some ⟨b, off + 1, none⟩) (len - 1) (len - 1))).run Tryd.prog w' = .ok (.string (strOfNums (txL zs))) w') := by
    intro w' hb' hq
    have e : len - 1 = n := by omega
    rw [e]
    exact ⟨hq, cut_text hn hlt (by omega) hb' hcell n⟩
  obtain ⟨st, hst⟩ : ∃ st, st = strOfNums (txL zs) := ⟨_, rfl⟩
  rw [← hst] at SL ⊢
  have j0 : (0 : Int) ≤ 1 + (n : Int) := by omega
  have j1 : (1 : Int) ≤ 1 + (n : Int) := by omega
  have j2 : 1 + (n : Int) ≤ (len : Int) := by omega
  have j4 : (1 + (n : Int)).toNat = len := by omega
  have j5 : IntKind.i64.wrap (1 + (n : Int)) = 1 + (n : Int) := by rw [IntKind.wrap_i64]; omega
  have j6 : ¬ len = 1 := by omega
  have j7 : (len : Int) - 1 = n := by omega
  have J7 : Hid ((len : Int) - 1 = n) := j7
  have j8 : ¬ ((len : Int) - 1 < (n : Int)) := by omega
  clear hst hl hn hcell hz j7
  go_enter Tryd.func45, Tryd.ntmps45
  go_wp2_with fail
  go_quiet (fail)
  go_wp2_with fail
  obtain ⟨W, hW⟩ : ∃ W, W = ((w.alloc (Obj.cells #[Value.slice (some ⟨b, off, none⟩) len len, Value.int IntKind.i64 0] 90)).alloc (Obj.cells #[Value.slice none 0 0, Value.int IntKind.i64 0] 90)).drewN nq := ⟨_, rfl⟩
  rw [← hW]
  have hbW : Below w.heap.size w W := by rw [hW]; exact below_drewN (two_new _ _ _) nq
  have q0 : W.cell? ⟨w.heap.size, 0, none⟩ = some (.slice (some ⟨b, off, none⟩) len len) := by rw [hW]; go_simp
  have q1 : W.cell? ⟨w.heap.size + 1, 0, none⟩ = some (.slice none 0 0) := by rw [hW]; go_simp
  have q2 : W.cell? ⟨w.heap.size + 1, 1, none⟩ = some (.int .i64 0) := by rw [hW]; go_simp
  have q3 : W.frozen? ⟨w.heap.size + 1, 0, none⟩ = false := by rw [hW]; go_simp
  have q4 : W.frozen? ⟨w.heap.size + 1, 1, none⟩ = false := by rw [hW]; go_simp
  clear hW hcc hc0 hw hd
  go_region_held3 (fun w' => w'.cell? ⟨w.heap.size, 0, none⟩ = some (.slice (some ⟨b, off, none⟩) len len) ∧ (convert 53 9 (.slice (some ⟨b, off + 1, none⟩) (len - 1) (len - 1))).run Tryd.prog w' = .ok (.string st) w') (first | exact SL.out _ hbW.drew q0 | exact SL.out _ ((hbW.drew.setCell (by simp) _).setCell (by simp) _) (by go_simp)) (fail)
  go_wp2
  refine bodyPost_ret (v := .tuple #[.agg #[.slice (some ⟨b, off, none⟩) 0 0, .int .i64 0], .string st]) (by simp [results, Tryd.results45, go_sem, q1, q2]) rfl ⟨rfl, ?_⟩
  exact (hbW.drew.setCell (by simp) _).setCell (by simp) _

set_option maxHeartbeats 800000 in
theorem rtxt_okc (b off len cap : Nat) (zs : List Int) (n : Nat) (w : World) (hlt : b < w.heap.size) (hm : len ≤ 9223372036854775807) (hl : zs.length = len) (hc : len ≤ cap) (hn : zs.getD 0 0 = n) (h255 : n ≤ 255) (hz : 1 + n ≤ len) (hcn : ¬ cap = 1 + n)
    (hcell : ∀ i, i < zs.length → w.cell? ⟨b, off + i, none⟩ = some (.int .u8 (zs.getD i 0))) :
    Calls Tryd.prog 45 #[.agg #[.slice (some ⟨b, off, none⟩) len cap, .int .i64 0]] w fun r w' => r = .returned (.tuple #[.agg #[.slice (some ⟨b, off + (1 + n), none⟩) (len - (1 + n)) (cap - (1 + n)), .int .i64 0], .string (strOfNums (txL zs))]) ∧ Below w.heap.size w w' := by
  have hd : ((len : Int) == 0) = false := by simp; omega
  have hd2 : (0 : Int) < (len : Int) := by omega
  have hw : wrap64 (n : Int) = n := by unfold wrap64; omega
  have hc0 : w.cell? ⟨b, off, none⟩ = some (.int .u8 n) := by have := hcell 0 (by omega); rwa [hn] at this
  have hcc : ∀ o p, ((w.alloc o).alloc p).cell? ⟨b, off, none⟩ = some (.int .u8 n) := fun o p => ((two_new w o p).cell (p := ⟨b, off, none⟩) hlt).trans hc0
  have SL : Hid (∀ w' : World, Below w.heap.size w w' → w'.cell? ⟨w.heap.size, 0, none⟩ = some (.slice (some ⟨b, off, none⟩) len cap) → w'.cell? ⟨w.heap.size, 0, none⟩ = some (.slice (some ⟨b, off, none⟩) len cap) ∧ (convert 53 9 (.slice (some ⟨b, off + 1, none⟩) n (cap - 1))).run Tryd.prog w' = .ok (.string (strOfNums (txL zs))) w') := by
    intro w' hb' hq
    exact ⟨hq, cut_text hn hlt (by omega) hb' hcell _⟩
  obtain ⟨st, hst⟩ : ∃ st, st = strOfNums (txL zs) := ⟨_, rfl⟩
  rw [← hst] at SL ⊢
  have j0 : (0 : Int) ≤ 1 + (n : Int) := by omega
  have j1 : (1 : Int) ≤ 1 + (n : Int) := by omega
  have j2 : 1 + (n : Int) ≤ (len : Int) := by omega
  have j3 : 1 + (n : Int) ≤ (cap : Int) := by omega
  have j4 : (1 + (n : Int)).toNat = 1 + n := by omega
  have j5 : IntKind.i64.wrap (1 + (n : Int)) = 1 + (n : Int) := by rw [IntKind.wrap_i64]; omega
  have j6 : 1 + n - 1 = n := by omega
  have hc1 : ¬ cap = 1 := by omega
  clear hst hl hn hcell
  go_enter Tryd.func45, Tryd.ntmps45
  go_wp2_with fail
  go_quiet (fail)
  go_wp2_with fail
  obtain ⟨W, hW⟩ : ∃ W, W = ((w.alloc (Obj.cells #[Value.slice (some ⟨b, off, none⟩) len cap, Value.int IntKind.i64 0] 90)).alloc (Obj.cells #[Value.slice none 0 0, Value.int IntKind.i64 0] 90)).drewN nq := ⟨_, rfl⟩
  rw [← hW]
  have hbW : Below w.heap.size w W := by rw [hW]; exact below_drewN (two_new _ _ _) nq
  have q0 : W.cell? ⟨w.heap.size, 0, none⟩ = some (.slice (some ⟨b, off, none⟩) len cap) := by rw [hW]; go_simp
  have q1 : W.cell? ⟨w.heap.size + 1, 0, none⟩ = some (.slice none 0 0) := by rw [hW]; go_simp
  have q2 : W.cell? ⟨w.heap.size + 1, 1, none⟩ = some (.int .i64 0) := by rw [hW]; go_simp
  have q3 : W.frozen? ⟨w.heap.size + 1, 0, none⟩ = false := by rw [hW]; go_simp
  have q4 : W.frozen? ⟨w.heap.size + 1, 1, none⟩ = false := by rw [hW]; go_simp
  clear hW hcc hc0 hw hd hd2
  go_region_held3 (fun w' => w'.cell? ⟨w.heap.size, 0, none⟩ = some (.slice (some ⟨b, off, none⟩) len cap) ∧ (convert 53 9 (.slice (some ⟨b, off + 1, none⟩) n (cap - 1))).run Tryd.prog w' = .ok (.string st) w') (first | exact SL.out _ hbW.drew q0 | exact SL.out _ ((hbW.drew.setCell (by simp) _).setCell (by simp) _) (by go_simp)) (fail)
  go_wp2
  refine bodyPost_ret (v := .tuple #[.agg #[.slice (some ⟨b, off + (1 + n), none⟩) (len - (1 + n)) (cap - (1 + n)), .int .i64 0], .string st]) (by simp [results, Tryd.results45, go_sem, q1, q2]) rfl ⟨rfl, ?_⟩
  exact (hbW.drew.setCell (by simp) _).setCell (by simp) _

theorem rtxt_any (a : Option Addr) (cap : Nat) (zs : List Int) (er : Int) (w : World) (hv : BV w a zs) (hm : zs.length ≤ 9223372036854775807) (hc : zs.length ≤ cap) :
    Calls Tryd.prog 45 #[.agg #[.slice a zs.length cap, .int .i64 er]] w fun r w' => ∃ c cap', r = .returned (.tuple #[.agg #[.slice c (rtxZ zs er).length cap', .int .i64 (rtxE zs er)], .string (rtxS zs er)]) ∧ (rtxZ zs er).length ≤ cap' ∧ cap' ≤ cap ∧ Sub a zs c (rtxZ zs er) ∧ Below w.heap.size w w' := by
  unfold rtxS rtxE rtxZ
  by_cases he : er = 0
  · subst he
    by_cases hg : (zs.length : Int) < 1 + zs.getD 0 0 ∨ zs.length < 1
    · have e1 : txE zs = 3 := by unfold txE; rw [if_pos hg]
      have e2 : txS zs = ByteArray.empty := by unfold txS; rw [if_pos hg]
      rw [if_pos rfl, if_pos rfl, e1, e2, if_neg (fun c => by cases c.2)]
      by_cases h1 : zs.length < 1
      · have h0 : zs.length = 0 := by omega
        rw [h0]
        refine (rtxt_none a cap w).mono ?_
        rintro e w' ⟨rfl, hb⟩
        exact ⟨a, cap, rfl, by omega, Nat.le_refl _, Sub.refl _ _, hb⟩
      · obtain ⟨z0, z1⟩ := hv.1.getD 0
        obtain ⟨_, h4 | ⟨b, off, rfl, hlt, hcell⟩⟩ := hv
        · subst h4; simp at h1
        · refine (rtxt_cut b off zs.length cap (zs.getD 0 0) w hlt (by omega) hm (hcell 0 (by omega)) z0 z1 (by omega)).mono ?_
          rintro e w' ⟨rfl, hb⟩
          exact ⟨_, cap, rfl, hc, Nat.le_refl _, Sub.refl _ _, hb⟩
    · have e1 : txE zs = 0 := by unfold txE; rw [if_neg hg]
      have e2 : txS zs = strOfNums (txL zs) := by unfold txS; rw [if_neg hg]
      rw [if_pos rfl, if_pos rfl, e1, e2, if_pos ⟨rfl, rfl⟩]
      obtain ⟨z0, z1⟩ := hv.1.getD 0
      obtain ⟨n, hn⟩ := Int.eq_ofNat_of_zero_le z0
      obtain ⟨_, h4 | ⟨b, off, rfl, hlt, hcell⟩⟩ := hv
      · subst h4; simp at hg
      · have en : (zs.getD 0 0).toNat = n := by omega
        rw [en]
        by_cases hcn : cap = 1 + n
        · have hle : zs.length = cap := by omega
          by_cases hn0 : n = 0
          · subst hn0
            have hl1 : zs.length = 1 := by omega
            have hc1 : cap = 1 := by omega
            have et : txL zs = [] := by unfold txL; rw [hn]; rfl
            rw [hl1, hc1, et]
            have hc0 := hcell 0 (by omega)
            rw [hn] at hc0
            refine (rtxt_oka b off w hlt hc0).mono ?_
            rintro e w' ⟨rfl, hb⟩
            refine ⟨_, 0, ?_, by simp; omega, by omega, Sub.tail _ (some ⟨b, off, none⟩) _ _ (by omega), hb⟩
            have : (zs.drop (1 + 0)).length = 0 := by simp; omega
            rw [this]
          · have h := rtxt_okb b off zs.length zs n w hlt rfl hn (by omega) (by omega) (by omega) hcell
            rw [← hle]
            refine h.mono ?_
            rintro e w' ⟨rfl, hb⟩
            refine ⟨_, 0, ?_, by simp; omega, by omega, Sub.tail _ (some ⟨b, off, none⟩) _ _ (by omega), hb⟩
            have : (zs.drop (1 + n)).length = 0 := by simp; omega
            rw [this]
        · refine (rtxt_okc b off zs.length cap zs n w hlt hm rfl hc hn (by omega) (by omega) hcn hcell).mono ?_
          rintro e w' ⟨rfl, hb⟩
          refine ⟨_, cap - (1 + n), ?_, by simp; omega, by omega, Sub.drop _ _ _ _, hb⟩
          rw [List.length_drop]
  · rw [if_neg he, if_neg he, if_neg (fun c => he c.1)]
    refine (rtxt_no a zs.length cap er w he).mono ?_
    rintro e w' ⟨rfl, hb⟩
    exact ⟨a, cap, rfl, hc, Nat.le_refl _, Sub.refl _ _, hb⟩
end Go.Proofs.YtpmhilaochfpaaaDoor
