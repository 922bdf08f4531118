/- For every text and every row of bytes the call ParseWhite of the statements returns true and its arguments read as they did: no condition but that the library's listed variables lie as the program's text lays them. -/
import Derived.Test.YtdcpfnffckkfcaaGreatDoorV9
import Derived.Test.YtdcpfnffckkfcaaGreatDoorV10
import Derived.Test.YtdcpfnffckkfcaaGreatDoorV19
import Derived.Test.YtdcpfnffckkfcaaGreatDoorV12
import Derived.Test.YtdcpfnffckkfcaaGreatDoorRows
import Derived.Test.YtdcpfnffckkfcaaGreatDoorCards
import Derived.Test.YtdcpfnffckkfcaaGreatDoorTie
import Derived.SevenTiedAt
import Derived.SizedLaws
import Derived.ChangeSame
import Derived.ChangeVars
import Derived.ChangeMaps5
import Derived.JoinedOf
import Derived.JoinedAt
import Derived.RowKit3
import Derived.LaidLaws
import Derived.WalkKit
import Derived.ProofKit
import Derived.OpenShut
import Derived.ShutString
import Derived.ChangeOld
import Derived.Below
namespace Go.Proofs.YtdcpfnffckkfcaaGreatDoor.parseWhite
open Go.ChangeShapes Go.WideShapes Go.ChangeAt Go.RowKit
set_option linter.unusedVariables false
set_option linter.unusedSimpArgs false
set_option maxRecDepth 20000

theorem rowAt {w : World} {a : Option Addr} {ts : List TA} (h : TV w a ts) {i : Nat} (hi : i < ts.length) : ∃ g o, a = some ⟨g, o, none⟩ ∧ g < w.heap.size ∧ ∀ j, j < 7 → w.cell? ⟨g, o + (i * 7 + j), none⟩ = (cl7 (ts.getD i ta0))[j]? := by
  rcases h with rfl | ⟨b, off, rfl, hlt, hc⟩
  · simp at hi
  · exact ⟨b, off, rfl, hlt, fun j hj => hc i j hi hj⟩
/-- Bytes in memory. -/
def BW (w : World) (a : Option Addr) (zs : List Int) : Prop :=
  (∀ z ∈ zs, 0 ≤ z ∧ z ≤ 255) ∧ (zs = [] ∨ ∃ b off, a = some ⟨b, off, none⟩ ∧ b < w.heap.size ∧ ∀ i, i < zs.length → w.cell? ⟨b, off + i, none⟩ = some (.int .u8 (zs.getD i 0)))
theorem bytes_of {w : World} {a : Option Addr} {len cap : Nat} {zs : List Int} (h : (a = none ∧ len = 0 ∧ cap = 0 ∧ zs = []) ∨ ∃ x, a = some x ∧ len ≤ cap ∧ cap ≤ maxLen ∧ zs.length = cap ∧ (∀ i, i < zs.length → w.cell? (x.add i) = some (.int .u8 (zs.getD i 0))) ∧ ∀ n ∈ zs, (Lit.int .u8 n).wf = true) :
    ∃ ys : List Int, ys.length = len ∧ BW w a ys ∧ (a = none → cap = 0) ∧ len ≤ cap ∧ cap ≤ 9223372036854775807 := by
  rcases h with ⟨rfl, rfl, rfl, rfl⟩ | ⟨x, rfl, hl, hm, hz, hcell, hwz⟩
  · exact ⟨[], rfl, ⟨fun z hz => by simp at hz, .inl rfl⟩, fun _ => rfl, Nat.le_refl _, by decide⟩
  · refine ⟨zs.take len, by simp; omega, ⟨?_, ?_⟩, (fun h => by cases h), hl, by unfold maxLen at hm; omega⟩
    · intro z hz'
      have := bounds_u8 (hwz z (List.mem_of_mem_take hz'))
      omega
    · by_cases h0 : len = 0
      · left; simp [h0]
      · right
        obtain ⟨b, off, spot⟩ := x
        have hc := hcell 0 (by omega)
        have hspot : spot = none := by simpa [Addr.add] using World.cell?_spot hc
        subst hspot
        refine ⟨b, off, rfl, ?_, ?_⟩
        · have := World.block_lt_of_cell? _ _ hc
          simpa [Addr.add] using this
        · intro i hi
          rw [List.length_take] at hi
          have := hcell i (by omega)
          rw [add_plain] at this
          rw [this, List.getD_eq_getElem?_getD, List.getD_eq_getElem?_getD, List.getElem?_take, if_pos (by omega)]
theorem app_list (a b : ByteArray) : (a ++ b : ByteArray).data.toList = a.data.toList ++ b.data.toList := by simp
theorem app_size (a b : ByteArray) : (a ++ b : ByteArray).size = a.size + b.size := by rw [← lenL, app_list, List.length_append, lenL, lenL]
/-- Which white stands behind the token i. -/
def sepF (ys : List Int) (i : Nat) : Nat := if i < ys.length then (ys.getD i 0 % 4).toNat else 0
theorem back_step (f : Nat → Nat) {ts : List TA} {i : Nat} (h : i < ts.length) : backW f i ((ts.drop i).map Prod.fst) = txtL (ts.getD i ta0).1 ++ ((if (ts.getD i ta0).1.k = 7 then [] else sepL (f i)) ++ backW f (i + 1) ((ts.drop (i + 1)).map Prod.fst)) := by
  have hxe : ts[i] = ts.getD i ta0 := by rw [List.getD_eq_getElem?_getD, List.getElem?_eq_getElem h]; rfl
  rw [List.drop_eq_getElem_cons h, hxe, List.map_cons, backW]
  split <;> simp
set_option maxHeartbeats 1600000 in
theorem walk_a (s0 : ByteArray) (a1 : Option Addr) (len1 cap1 : Nat) (y1 : List Int) (w : World) (hV : Vars w) (w0 : s0.size ≤ maxLen) (w1 : y1.length = len1 ∧ BW w a1 y1 ∧ (a1 = none → cap1 = 0) ∧ len1 ≤ cap1 ∧ cap1 ≤ 9223372036854775807) (h : 1500 < s0.size) : Calls Tryz.prog 5 #[.string s0, .slice a1 len1 cap1] w fun e w' => e = .returned (.bool true) ∧ Below w.heap.size w w' := by
  have HA := awake_any
  have hz : (1500 : Int) < s0.size := by omega
  go_enter Tryz.func5, Tryz.ntmps5
  go_wp2_with (first | (go_at_call 8; refine (HA _ hV).mono ?_; rintro e wz ⟨rfl, bz⟩; clear HA))
  go_ret
  exact ⟨rfl, bz⟩
set_option maxHeartbeats 1600000 in
theorem walk_b (s0 : ByteArray) (a1 : Option Addr) (len1 cap1 : Nat) (y1 : List Int) (w : World) (hV : Vars w) (w0 : s0.size ≤ maxLen) (w1 : y1.length = len1 ∧ BW w a1 y1 ∧ (a1 = none → cap1 = 0) ∧ len1 ≤ cap1 ∧ cap1 ≤ 9223372036854775807) (h : ¬ 1500 < s0.size) (h2 : 400 < len1) : Calls Tryz.prog 5 #[.string s0, .slice a1 len1 cap1] w fun e w' => e = .returned (.bool true) ∧ Below w.heap.size w w' := by
  have HA := awake_any
  have hz : ¬ (1500 : Int) < s0.size := by omega
  have hz2 : (400 : Int) < len1 := by omega
  clear w1
  go_enter Tryz.func5, Tryz.ntmps5
  go_wp2_with (first | (go_at_call 8; refine (HA _ hV).mono ?_; rintro e wz ⟨rfl, bz⟩; clear HA))
  go_ret
  exact ⟨rfl, bz⟩
set_option maxHeartbeats 1600000 in
theorem walk_c (s0 : ByteArray) (a1 : Option Addr) (len1 cap1 : Nat) (y1 : List Int) (w : World) (hV : Vars w) (w0 : s0.size ≤ maxLen) (w1 : y1.length = len1 ∧ BW w a1 y1 ∧ (a1 = none → cap1 = 0) ∧ len1 ≤ cap1 ∧ cap1 ≤ 9223372036854775807) (h : ¬ 1500 < s0.size) (h2 : ¬ 400 < len1) (he : (scanL s0.data.toList).2.2 ≠ 0) : Calls Tryz.prog 5 #[.string s0, .slice a1 len1 cap1] w fun e w' => e = .returned (.bool true) ∧ Below w.heap.size w w' := by
  have HA := awake_any
  have hz : ¬ (1500 : Int) < s0.size := by omega
  have hz2 : ¬ (400 : Int) < len1 := by omega
  have C1 := scan_any s0 w (by omega) hV
  have hez : ¬ ((scanL s0.data.toList).2.2 : Int) = 0 := by omega
  generalize scanL s0.data.toList = S at *
  clear w1 he
  go_enter Tryz.func5, Tryz.ntmps5
  go_wp2_with (first | (go_at_call 14; refine C1.mono ?_; rintro e w1 ⟨v1, rfl, ho1, hb1⟩; clear C1; obtain ⟨a1, c1, rfl, -, -, -, -, -⟩ := ho1.view; clear ho1) | (go_at_call 8; refine (HA _ (hV.below hb1)).mono ?_; rintro e wz ⟨rfl, bz⟩; clear HA))
  all_goals first
    | (go_ret; exact ⟨rfl, bt hb1 bz⟩)
    | (exfalso; simp_all; done)
set_option maxHeartbeats 16000000 in
theorem walk_d (s0 : ByteArray) (a1 : Option Addr) (len1 cap1 : Nat) (y1 : List Int) (w : World) (hV : Vars w) (w0 : s0.size ≤ maxLen) (w1 : y1.length = len1 ∧ BW w a1 y1 ∧ (a1 = none → cap1 = 0) ∧ len1 ≤ cap1 ∧ cap1 ≤ 9223372036854775807) (h : ¬ 1500 < s0.size) (h2 : ¬ 400 < len1) (he : (scanL s0.data.toList).2.2 = 0) : Calls Tryz.prog 5 #[.string s0, .slice a1 len1 cap1] w fun e w' => e = .returned (.bool true) ∧ Below w.heap.size w w' := by
  have HA := awake_any
  have hz : ¬ (1500 : Int) < s0.size := by omega
  have hz2 : ¬ (400 : Int) < len1 := by omega
  have C1 := scan_any s0 w (by omega) hV
  obtain ⟨wl1, wB1, wn1, wc1, wd1⟩ := w1
  obtain ⟨fs, hfs⟩ : ∃ fs, fs = sepF y1 := ⟨_, rfl⟩
  have HFS : Hid (fs = sepF y1) := hfs
  have HTok : Hid (∀ x ∈ (scanL s0.data.toList).1, IsTok x.1) := fun x hx => scan_tok hx
  have HBs : Hid ((backW fs 0 ((scanL s0.data.toList).1.map Prod.fst)).length ≤ 9000) := by
    show _ ≤ _
    have := backW_short fs s0.data.toList
    rw [lenL] at this; omega
  have hpw := par_white fs he
  have CP := fun W hv => pparse_any s0 W (by omega) hv
  generalize parP s0.data.toList = G at *
  generalize scanL s0.data.toList = S at *
  obtain ⟨ts, pl, er⟩ := S
  dsimp only at C1 HTok HBs hpw he
  subst he
  have HPW : Hid (parP (backW fs 0 (ts.map Prod.fst)) = G) := hpw
  have HBW : Hid (BW w a1 y1) := wB1
  have HYL : Hid (y1.length = len1) := wl1
  clear hpw hfs wB1 wl1
  go_enter Tryz.func5, Tryz.ntmps5
  go_wp2_with (first | (go_at_call 14; refine C1.mono ?_; rintro e w1 ⟨v1, rfl, ho1, hb1⟩; clear C1; obtain ⟨a2, c2, rfl, n2, t2, l2, m2, g2⟩ := ho1.view; clear ho1))
  have T1 : Hid (TV w1 a2 ts) := t2
  have B1 : Hid (Below w.heap.size w w1) := hb1
  have V1 : Hid (Vars w1) := hV.below hb1
  have VW : Hid (Vars w) := hV
  have hnn : (ts.length : Int) ≤ 9223372036854775807 := by omega
  clear t2 hb1 g2 hV n2
  go_loopw [8, 9] (fun v8 v9 wr => ∃ (i : Nat) (s : ByteArray), v9 = .int .i64 i ∧ v8 = .string s ∧ i ≤ ts.length ∧ s.data.toList ++ backW fs i ((ts.drop i).map Prod.fst) = backW fs 0 (ts.map Prod.fst) ∧ Below w1.heap.size w1 wr) (fun _ v9 _ => (ts.length - intOf v9).toNat)
  case atStart => exact ⟨0, ⟨#[]⟩, rfl, rfl, Nat.zero_le _, by simp, Below.refl _ _⟩
  case round =>
    obtain ⟨i, s, rfl, rfl, hi, hbk, hbr⟩ := hrel
    have VR : Hid (Vars wr) := V1.out.below hbr
    have BR : Hid (Below w.heap.size w wr) := bt B1.out hbr
    have HB : Hid (s.data.toList ++ backW fs i ((ts.drop i).map Prod.fst) = backW fs 0 (ts.map Prod.fst)) := hbk
    have hss : s.size ≤ 9000 := by
      have := HBs.out
      rw [← hbk, List.length_append, lenL] at this; omega
    clear hbk
    by_cases hlt : i < ts.length
    · have hiz : (i : Int) < ts.length := by omega
      obtain ⟨g1, o1, rfl, hg1, hqq⟩ := rowAt (T1.out.below hbr) hlt
      have hmem := List.getElem_mem hlt
      have hx := HTok.out _ hmem
      have hxe : ts[i] = ts.getD i ta0 := by rw [List.getD_eq_getElem?_getD, List.getElem?_eq_getElem hlt]; rfl
      have hst := back_step fs hlt
      rw [hxe] at hx
      have HB2 := HB.out
      rw [hst] at HB2
      generalize ts.getD i ta0 = x at *
      have hB := tok_b hx
      have htt := tok_text hx
      have hts := txt_short hx
      have CT : ∀ W, Vars W → Calls Tryz.prog 15 #[.agg #[.int .u8 x.1.k, .string (st x.1.nm), .int .u8 x.1.p, .int .u8 x.1.vk, .int .i64 x.1.vn, .string (st x.1.vs), .int .i64 x.2]] W fun e w' => e = .returned (.string (ttS x.1.k (st x.1.nm) x.1.p x.1.vk x.1.vn (st x.1.vs))) ∧ Below W.heap.size W w' := fun W hv => ltext_any _ _ _ _ _ _ _ W hB.k.1 hB.k.2 (by rw [st_size]; have := hB.nm; omega) hB.vk.1 hB.vk.2 (by rw [st_size]; have := hB.vs; omega) hv
      generalize ttS x.1.k (st x.1.nm) x.1.p x.1.vk x.1.vn (st x.1.vs) = tx at *
      rw [← htt] at hts HB2
      rw [lenL] at hts
      have hk1 : ¬ 9223372036854775807 < s.size + tx.size := by omega
      have hk2 : ¬ 9223372036854775807 < (s ++ tx).size + 1 := by rw [app_size]; omega
      have hk3 : ¬ 9223372036854775807 < s.size + tx.size + 1 := by omega
      have hk5 : ¬ 9223372036854775807 < s.size + tx.size + 5 := by omega
      have hk6 : ¬ 9223372036854775807 < s.size + tx.size + 3 := by omega
      have q0 : wr.cell? ⟨g1, o1 + i * 7, none⟩ = some (.int .u8 x.1.k) := hqq 0 (by decide)
      have q1 : wr.cell? ⟨g1, o1 + i * 7 + 1, none⟩ = some (.string (st x.1.nm)) := hqq 1 (by decide)
      have q2 : wr.cell? ⟨g1, o1 + i * 7 + 2, none⟩ = some (.int .u8 x.1.p) := hqq 2 (by decide)
      have q3 : wr.cell? ⟨g1, o1 + i * 7 + 3, none⟩ = some (.int .u8 x.1.vk) := hqq 3 (by decide)
      have q4 : wr.cell? ⟨g1, o1 + i * 7 + 4, none⟩ = some (.int .i64 x.1.vn) := hqq 4 (by decide)
      have q5 : wr.cell? ⟨g1, o1 + i * 7 + 5, none⟩ = some (.string (st x.1.vs)) := hqq 5 (by decide)
      have q6 : wr.cell? ⟨g1, o1 + i * 7 + 6, none⟩ = some (.int .i64 x.2) := hqq 6 (by decide)
      have SL : Hid (∀ W, Below wr.heap.size wr W → ∀ j, j < 7 → W.cell? ⟨g1, o1 + (i * 7 + j), none⟩ = (cl7 x)[j]?) := fun W hW j hj => (hW.cell (p := ⟨g1, o1 + (i * 7 + j), none⟩) hg1).trans (hqq j hj)
      have CT1 := CT wr VR.out
      clear hqq hxe hB CT htt hst hx hmem
      by_cases h7 : x.1.k = 7
      · have m7 : (x.1.k == 7) = true := by rw [h7]; rfl
        rw [if_pos h7, List.nil_append] at HB2
        clear h7
        have HX : Hid ((s ++ tx : ByteArray).data.toList ++ backW fs (i + 1) ((ts.drop (i + 1)).map Prod.fst) = backW fs 0 (ts.map Prod.fst)) := by show _ = _; rw [app_list, ← HB2]; simp
        clear HB2 HB
        go_wp2_with (first | (go_at_call 15; refine CT1.mono ?_; rintro e w2 ⟨rfl, hb2⟩; clear CT1 q0 q1 q2 q3 q4 q5 q6; have e1 := SL.out _ hb2; have q0 : w2.cell? ⟨g1, o1 + i * 7, none⟩ = some (.int .u8 x.1.k) := e1 0 (by decide); have q1 : w2.cell? ⟨g1, o1 + i * 7 + 1, none⟩ = some (.string (st x.1.nm)) := e1 1 (by decide); have q2 : w2.cell? ⟨g1, o1 + i * 7 + 2, none⟩ = some (.int .u8 x.1.p) := e1 2 (by decide); have q3 : w2.cell? ⟨g1, o1 + i * 7 + 3, none⟩ = some (.int .u8 x.1.vk) := e1 3 (by decide); have q4 : w2.cell? ⟨g1, o1 + i * 7 + 4, none⟩ = some (.int .i64 x.1.vn) := e1 4 (by decide); have q5 : w2.cell? ⟨g1, o1 + i * 7 + 5, none⟩ = some (.string (st x.1.vs)) := e1 5 (by decide); have q6 : w2.cell? ⟨g1, o1 + i * 7 + 6, none⟩ = some (.int .i64 x.2) := e1 6 (by decide); clear e1))
        go_roundw
        case rel => exact ⟨i + 1, s ++ tx, by simp, by simp, by omega, HX.out, bt hbr hb2⟩
        case measure => simp [intOf]; omega
      · have m7 : (x.1.k == 7) = false := by rw [beq_eq_false_iff_ne]; exact h7
        rw [if_neg h7] at HB2
        clear h7
        by_cases hy : i < y1.length
        · have hyl := HYL.out
          have hyz : (i : Int) < len1 := by omega
          obtain ⟨hbd, hbw⟩ := HBW.out
          rcases hbw with h0 | ⟨gb, ob, rfl, hgb, hcb⟩
          · rw [h0] at hy; simp at hy
          have hbz := hbd _ (List.getElem_mem hy)
          have hze : y1[i] = y1.getD i 0 := by rw [List.getD_eq_getElem?_getD, List.getElem?_eq_getElem hy]; rfl
          have hcz := hcb i hy
          rw [hze] at hbz
          have hfi : fs i = (y1.getD i 0 % 4).toNat := by rw [HFS.out]; unfold sepF; rw [if_pos hy]
          rw [hfi] at HB2
          generalize y1.getD i 0 = z at *
          have HCZ : Hid (∀ W, Below wr.heap.size wr W → W.cell? ⟨gb, ob + i, none⟩ = some (.int .u8 z)) := fun W hW => (((bt BR.out hW)).cell (p := ⟨gb, ob + i, none⟩) hgb).trans hcz
          clear hbd hcb hcz hze hfi hyl
          have hpos := hbz.1
          obtain hr | hr | hr | hr : z % 4 = 0 ∨ z % 4 = 1 ∨ z % 4 = 2 ∨ z % 4 = 3 := by omega
          · have ht : z.tmod 4 = 0 := by rw [Int.tmod_eq_emod_of_nonneg hpos]; exact hr
            rw [hr, show sepL (0 : Int).toNat = [32] from rfl] at HB2
            have HX : Hid ((s ++ tx ++ ⟨#[32]⟩ : ByteArray).data.toList ++ backW fs (i + 1) ((ts.drop (i + 1)).map Prod.fst) = backW fs 0 (ts.map Prod.fst)) := by show _ = _; rw [app_list, app_list, ← HB2]; simp
            clear HB2 HB
            go_wp2_with (first | (go_at_call 15; refine CT1.mono ?_; rintro e w2 ⟨rfl, hb2⟩; clear CT1 q0 q1 q2 q3 q4 q5 q6; have e1 := SL.out _ hb2; have q0 : w2.cell? ⟨g1, o1 + i * 7, none⟩ = some (.int .u8 x.1.k) := e1 0 (by decide); have q1 : w2.cell? ⟨g1, o1 + i * 7 + 1, none⟩ = some (.string (st x.1.nm)) := e1 1 (by decide); have q2 : w2.cell? ⟨g1, o1 + i * 7 + 2, none⟩ = some (.int .u8 x.1.p) := e1 2 (by decide); have q3 : w2.cell? ⟨g1, o1 + i * 7 + 3, none⟩ = some (.int .u8 x.1.vk) := e1 3 (by decide); have q4 : w2.cell? ⟨g1, o1 + i * 7 + 4, none⟩ = some (.int .i64 x.1.vn) := e1 4 (by decide); have q5 : w2.cell? ⟨g1, o1 + i * 7 + 5, none⟩ = some (.string (st x.1.vs)) := e1 5 (by decide); have q6 : w2.cell? ⟨g1, o1 + i * 7 + 6, none⟩ = some (.int .i64 x.2) := e1 6 (by decide); have qz := HCZ.out _ hb2; clear e1))
            go_roundw
            case rel => exact ⟨i + 1, s ++ tx ++ ⟨#[32]⟩, by simp, by simp, by omega, HX.out, bt hbr hb2⟩
            case measure => simp [intOf]; omega
          · have ht : z.tmod 4 = 1 := by rw [Int.tmod_eq_emod_of_nonneg hpos]; exact hr
            rw [hr, show sepL (1 : Int).toNat = [10] from rfl] at HB2
            have HX : Hid ((s ++ tx ++ ⟨#[10]⟩ : ByteArray).data.toList ++ backW fs (i + 1) ((ts.drop (i + 1)).map Prod.fst) = backW fs 0 (ts.map Prod.fst)) := by show _ = _; rw [app_list, app_list, ← HB2]; simp
            clear HB2 HB
            go_wp2_with (first | (go_at_call 15; refine CT1.mono ?_; rintro e w2 ⟨rfl, hb2⟩; clear CT1 q0 q1 q2 q3 q4 q5 q6; have e1 := SL.out _ hb2; have q0 : w2.cell? ⟨g1, o1 + i * 7, none⟩ = some (.int .u8 x.1.k) := e1 0 (by decide); have q1 : w2.cell? ⟨g1, o1 + i * 7 + 1, none⟩ = some (.string (st x.1.nm)) := e1 1 (by decide); have q2 : w2.cell? ⟨g1, o1 + i * 7 + 2, none⟩ = some (.int .u8 x.1.p) := e1 2 (by decide); have q3 : w2.cell? ⟨g1, o1 + i * 7 + 3, none⟩ = some (.int .u8 x.1.vk) := e1 3 (by decide); have q4 : w2.cell? ⟨g1, o1 + i * 7 + 4, none⟩ = some (.int .i64 x.1.vn) := e1 4 (by decide); have q5 : w2.cell? ⟨g1, o1 + i * 7 + 5, none⟩ = some (.string (st x.1.vs)) := e1 5 (by decide); have q6 : w2.cell? ⟨g1, o1 + i * 7 + 6, none⟩ = some (.int .i64 x.2) := e1 6 (by decide); have qz := HCZ.out _ hb2; clear e1))
            go_roundw
            case rel => exact ⟨i + 1, s ++ tx ++ ⟨#[10]⟩, by simp, by simp, by omega, HX.out, bt hbr hb2⟩
            case measure => simp [intOf]; omega
          · have ht : z.tmod 4 = 2 := by rw [Int.tmod_eq_emod_of_nonneg hpos]; exact hr
            rw [hr, show sepL (2 : Int).toNat = [32, 59, 32, 120, 10] from rfl] at HB2
            have HX : Hid ((s ++ tx ++ ⟨#[32, 59, 32, 120, 10]⟩ : ByteArray).data.toList ++ backW fs (i + 1) ((ts.drop (i + 1)).map Prod.fst) = backW fs 0 (ts.map Prod.fst)) := by show _ = _; rw [app_list, app_list, ← HB2]; simp
            clear HB2 HB
            go_wp2_with (first | (go_at_call 15; refine CT1.mono ?_; rintro e w2 ⟨rfl, hb2⟩; clear CT1 q0 q1 q2 q3 q4 q5 q6; have e1 := SL.out _ hb2; have q0 : w2.cell? ⟨g1, o1 + i * 7, none⟩ = some (.int .u8 x.1.k) := e1 0 (by decide); have q1 : w2.cell? ⟨g1, o1 + i * 7 + 1, none⟩ = some (.string (st x.1.nm)) := e1 1 (by decide); have q2 : w2.cell? ⟨g1, o1 + i * 7 + 2, none⟩ = some (.int .u8 x.1.p) := e1 2 (by decide); have q3 : w2.cell? ⟨g1, o1 + i * 7 + 3, none⟩ = some (.int .u8 x.1.vk) := e1 3 (by decide); have q4 : w2.cell? ⟨g1, o1 + i * 7 + 4, none⟩ = some (.int .i64 x.1.vn) := e1 4 (by decide); have q5 : w2.cell? ⟨g1, o1 + i * 7 + 5, none⟩ = some (.string (st x.1.vs)) := e1 5 (by decide); have q6 : w2.cell? ⟨g1, o1 + i * 7 + 6, none⟩ = some (.int .i64 x.2) := e1 6 (by decide); have qz := HCZ.out _ hb2; clear e1))
            go_roundw
            case rel => exact ⟨i + 1, s ++ tx ++ ⟨#[32, 59, 32, 120, 10]⟩, by simp, by simp, by omega, HX.out, bt hbr hb2⟩
            case measure => simp [intOf]; omega
          · have ht : z.tmod 4 = 3 := by rw [Int.tmod_eq_emod_of_nonneg hpos]; exact hr
            rw [hr, show sepL (3 : Int).toNat = [9, 13, 32] from rfl] at HB2
            have HX : Hid ((s ++ tx ++ ⟨#[9, 13, 32]⟩ : ByteArray).data.toList ++ backW fs (i + 1) ((ts.drop (i + 1)).map Prod.fst) = backW fs 0 (ts.map Prod.fst)) := by show _ = _; rw [app_list, app_list, ← HB2]; simp
            clear HB2 HB
            go_wp2_with (first | (go_at_call 15; refine CT1.mono ?_; rintro e w2 ⟨rfl, hb2⟩; clear CT1 q0 q1 q2 q3 q4 q5 q6; have e1 := SL.out _ hb2; have q0 : w2.cell? ⟨g1, o1 + i * 7, none⟩ = some (.int .u8 x.1.k) := e1 0 (by decide); have q1 : w2.cell? ⟨g1, o1 + i * 7 + 1, none⟩ = some (.string (st x.1.nm)) := e1 1 (by decide); have q2 : w2.cell? ⟨g1, o1 + i * 7 + 2, none⟩ = some (.int .u8 x.1.p) := e1 2 (by decide); have q3 : w2.cell? ⟨g1, o1 + i * 7 + 3, none⟩ = some (.int .u8 x.1.vk) := e1 3 (by decide); have q4 : w2.cell? ⟨g1, o1 + i * 7 + 4, none⟩ = some (.int .i64 x.1.vn) := e1 4 (by decide); have q5 : w2.cell? ⟨g1, o1 + i * 7 + 5, none⟩ = some (.string (st x.1.vs)) := e1 5 (by decide); have q6 : w2.cell? ⟨g1, o1 + i * 7 + 6, none⟩ = some (.int .i64 x.2) := e1 6 (by decide); have qz := HCZ.out _ hb2; clear e1))
            go_roundw
            case rel => exact ⟨i + 1, s ++ tx ++ ⟨#[9, 13, 32]⟩, by simp, by simp, by omega, HX.out, bt hbr hb2⟩
            case measure => simp [intOf]; omega
        · have hyl := HYL.out
          have hyz : ¬ (i : Int) < len1 := by omega
          have hfi : fs i = 0 := by rw [HFS.out]; unfold sepF; rw [if_neg hy]
          rw [hfi, show sepL 0 = [32] from rfl] at HB2
          clear hfi hyl
          have HX : Hid ((s ++ tx ++ ⟨#[32]⟩ : ByteArray).data.toList ++ backW fs (i + 1) ((ts.drop (i + 1)).map Prod.fst) = backW fs 0 (ts.map Prod.fst)) := by show _ = _; rw [app_list, app_list, ← HB2]; simp
          clear HB2 HB
          go_wp2_with (first | (go_at_call 15; refine CT1.mono ?_; rintro e w2 ⟨rfl, hb2⟩; clear CT1 q0 q1 q2 q3 q4 q5 q6; have e1 := SL.out _ hb2; have q0 : w2.cell? ⟨g1, o1 + i * 7, none⟩ = some (.int .u8 x.1.k) := e1 0 (by decide); have q1 : w2.cell? ⟨g1, o1 + i * 7 + 1, none⟩ = some (.string (st x.1.nm)) := e1 1 (by decide); have q2 : w2.cell? ⟨g1, o1 + i * 7 + 2, none⟩ = some (.int .u8 x.1.p) := e1 2 (by decide); have q3 : w2.cell? ⟨g1, o1 + i * 7 + 3, none⟩ = some (.int .u8 x.1.vk) := e1 3 (by decide); have q4 : w2.cell? ⟨g1, o1 + i * 7 + 4, none⟩ = some (.int .i64 x.1.vn) := e1 4 (by decide); have q5 : w2.cell? ⟨g1, o1 + i * 7 + 5, none⟩ = some (.string (st x.1.vs)) := e1 5 (by decide); have q6 : w2.cell? ⟨g1, o1 + i * 7 + 6, none⟩ = some (.int .i64 x.2) := e1 6 (by decide); clear e1))
          go_roundw
          case rel => exact ⟨i + 1, s ++ tx ++ ⟨#[32]⟩, by simp, by simp, by omega, HX.out, bt hbr hb2⟩
          case measure => simp [intOf]; omega
    · have hiz : ¬ (i : Int) < ts.length := by omega
      have hsl : s.data.toList = backW fs 0 (ts.map Prod.fst) := by
        have := HB.out
        rw [List.drop_eq_nil_of_le (by omega)] at this
        rw [← this]; simp [backW]
      have CS := fun W hv => pparse_any s W (by omega) hv
      rw [hsl, HPW.out] at CS
      have tk1 : Hid True := trivial
      have tk2 : Hid True := trivial
      clear hsl HB
      have FIN : Hid (∀ w3 w4 a3 n3 c3 a4 n4 c4 a5 n5 c5 a6 n6 c6 W, RProg w3 wr.heap.size [.slice a3 n3 c3, .slice a4 n4 c4] G.1 → Below w3.heap.size w3 W → (∀ b0, RProg w4 b0 [.slice a5 n5 c5, .slice a6 n6 c6] G.1 → Below w4.heap.size w4 W → Calls Tryz.prog 11 #[.agg #[.slice a3 n3 c3, .slice a4 n4 c4], .agg #[.slice a5 n5 c5, .slice a6 n6 c6]] W fun e w' => e = .returned (.bool true) ∧ Below W.heap.size W w')) := fun w3 w4 a3 n3 c3 a4 n4 c4 a5 n5 c5 a6 n6 c6 W h3 k3 b0 h4 k4 => by
        have := same_any [.slice a3 n3 c3, .slice a4 n4 c4] [.slice a5 n5 c5, .slice a6 n6 c6] G.1 G.1 W (ReP.keep (Stays.below k3) h3) (ReP.keep (Stays.below k4) h4)
        rw [decide_eq_true rfl] at this
        exact this
      by_cases hn0 : ts.length = 0
      · have hnz : ¬ (0 : Int) < ts.length := by omega
        go_wp2_with (first | (go_at_call 9; have tku := tk1; clear tku tk1; refine (CP _ VR.out).mono ?_; rintro e w3 ⟨a3, n3, c3, a4, n4, c4, rfl, hR3, hb3⟩; clear CP; have HR3 : Hid (RProg w3 wr.heap.size _ G.1) := hR3; clear hR3) | (go_at_call 9; have tku := tk2; clear tku tk2; refine (CS _ ((VR.out.below hb3).below (bxn _ _))).mono ?_; rintro e w4 ⟨a5, n5, c5, a6, n6, c6, rfl, hR4, hb4⟩; clear CS; have HR4 : Hid (RProg w4 _ _ G.1) := hR4; clear hR4; have z4 : w3.heap.size < w4.heap.size := (by have := hb4.size; simp at this; omega); obtain ⟨hc, hz⟩ := bcell hb4; have p0c : w4.cell? ⟨w3.heap.size, 0, none⟩ = some (.slice a3 n3 c3) := (by rw [hc _ _ (by simp)]; go_simp); have p1c : w4.cell? ⟨w3.heap.size, 1, none⟩ = some (.slice a4 n4 c4) := (by rw [hc _ _ (by simp)]; go_simp); clear hc hz) | (go_at_call 11; refine (FIN.out _ _ _ _ _ _ _ _ _ _ _ _ _ _ _ HR3.out (bt (bt (bxn _ _) hb4) (bxn _ _)) _ HR4.out (bxn _ _)).mono ?_; rintro e w5 ⟨rfl, hb5⟩) | (go_at_call 8; refine (HA _ (((((VR.out.below hb3).below (bxn _ _)).below hb4).below (bxn _ _)).below hb5)).mono ?_; rintro e wz ⟨rfl, bz⟩; clear HA))
        go_ret
        exact ⟨rfl, bt (bt (bt (bt (bt (bt BR.out hb3) (bxn _ _)) hb4) (bxn _ _)) hb5) bz⟩
      · have hnz : (0 : Int) < ts.length := by omega
        obtain ⟨g1, o1, rfl, hg1, hqq⟩ := rowAt (T1.out.below hbr) (show ts.length - 1 < ts.length by omega)
        have hn1 : ((ts.length : Int) - 1).toNat = ts.length - 1 := by omega
        have hn2 : (ts.length : Int) - 1 < ts.length := by omega
        have hn3 : (0 : Int) ≤ (ts.length : Int) - 1 := by omega
        have q0 : wr.cell? ⟨g1, o1 + (ts.length - 1) * 7, none⟩ = some (.int .u8 (ts.getD (ts.length - 1) ta0).1.k) := hqq 0 (by decide)
        generalize (ts.getD (ts.length - 1) ta0).1.k = kk at *
        clear hqq
        by_cases h7 : kk = 7
        · have m7 : (kk == 7) = true := by rw [h7]; rfl
          clear h7
          go_wp2_with (first | (go_at_call 8; refine (HA _ VR.out).mono ?_; rintro e wz ⟨rfl, bz⟩; clear HA))
          go_ret
          exact ⟨rfl, bt BR.out bz⟩
        · have m7 : (kk == 7) = false := by rw [beq_eq_false_iff_ne]; exact h7
          clear h7
          go_wp2_with (first | (go_at_call 9; have tku := tk1; clear tku tk1; refine (CP _ VR.out).mono ?_; rintro e w3 ⟨a3, n3, c3, a4, n4, c4, rfl, hR3, hb3⟩; clear CP; have HR3 : Hid (RProg w3 wr.heap.size _ G.1) := hR3; clear hR3) | (go_at_call 9; have tku := tk2; clear tku tk2; refine (CS _ ((VR.out.below hb3).below (bxn _ _))).mono ?_; rintro e w4 ⟨a5, n5, c5, a6, n6, c6, rfl, hR4, hb4⟩; clear CS; have HR4 : Hid (RProg w4 _ _ G.1) := hR4; clear hR4; have z4 : w3.heap.size < w4.heap.size := (by have := hb4.size; simp at this; omega); obtain ⟨hc, hz⟩ := bcell hb4; have p0c : w4.cell? ⟨w3.heap.size, 0, none⟩ = some (.slice a3 n3 c3) := (by rw [hc _ _ (by simp)]; go_simp); have p1c : w4.cell? ⟨w3.heap.size, 1, none⟩ = some (.slice a4 n4 c4) := (by rw [hc _ _ (by simp)]; go_simp); clear hc hz) | (go_at_call 11; refine (FIN.out _ _ _ _ _ _ _ _ _ _ _ _ _ _ _ HR3.out (bt (bt (bxn _ _) hb4) (bxn _ _)) _ HR4.out (bxn _ _)).mono ?_; rintro e w5 ⟨rfl, hb5⟩) | (go_at_call 8; refine (HA _ (((((VR.out.below hb3).below (bxn _ _)).below hb4).below (bxn _ _)).below hb5)).mono ?_; rintro e wz ⟨rfl, bz⟩; clear HA))
          go_ret
          exact ⟨rfl, bt (bt (bt (bt (bt (bt BR.out hb3) (bxn _ _)) hb4) (bxn _ _)) hb5) bz⟩
theorem walk (s0 : ByteArray) (a1 : Option Addr) (len1 cap1 : Nat) (y1 : List Int) (w : World) (hV : Vars w) (w0 : s0.size ≤ maxLen) (w1 : y1.length = len1 ∧ BW w a1 y1 ∧ (a1 = none → cap1 = 0) ∧ len1 ≤ cap1 ∧ cap1 ≤ 9223372036854775807) : Calls Tryz.prog 5 #[.string s0, .slice a1 len1 cap1] w fun e w' => e = .returned (.bool true) ∧ Below w.heap.size w w' := by
  by_cases h : 1500 < s0.size
  · exact walk_a s0 a1 len1 cap1 y1 w hV w0 w1 h
  · by_cases h2 : 400 < len1
    · exact walk_b s0 a1 len1 cap1 y1 w hV w0 w1 h h2
    · by_cases he : (scanL s0.data.toList).2.2 = 0
      · exact walk_d s0 a1 len1 cap1 y1 w hV w0 w1 h h2 he
      · exact walk_c s0 a1 len1 cap1 y1 w hV w0 w1 h h2 he
set_option maxRecDepth 100000 in
theorem lifted (os : Os) (started : os.Started) (H : Type) (enc : TypeId × Value → H) :
    ReturnsInHanded {} Tryz.checked os 5 .any (fun w args => (Rows.parseWhiteSpec.pre enc Tryz.prog Tryz.f5 Rows.parseWhiteRow.domain false w args ∧ laidMet Tryz.prog laids w) ∧ sizedMet enc Tryz.prog Tryz.f5 (OpenSpec.ofChange Rows.parseWhiteSpec) false w args)
      (Rows.parseWhiteSpec.post enc Tryz.prog Tryz.f5 false true false false) := by
  refine returnsInHanded_of_change_and (C := Tryz.checked) (X := fun w _ => laidMet Tryz.prog laids w) (fun _ _ _ hh h => h.of_heap hh) own started (by kernel_rfl) Tryz.func5
    (ChangeSpec.witness_at (enc := enc) (C := Tryz.checked) (os := os) (X := fun w _ => laidMet Tryz.prog laids w) false (laidWorld os) #[.string ByteArray.empty, .slice none 0 0] 8 rfl (by kernel_rfl) (by kernel_rfl) (by kernel_rfl) (by kernel_rfl) (by kernel_rfl) (laidWorld_met os _)) ?_
  intro W base args ds gs before hval0 hW _ hsz0 hL _
  have hval : ∀ (j : Nat) t v, Tryz.f5.params[j]? = some t → args[j]? = some v → Value.okWide Tryz.prog W .any base t v := hval0
  have hW' := hW
  obtain ⟨p, q, hA0, hV, rfl, hfz, hnd⟩ := hW
  have hA : DataW.TrodAll enc Tryz.prog W 0 (fun _ => true) true Tryz.f5.params.toList args.toList ds p := hA0
  rw [Tryz.params5] at hA hval
  have hVars := vars_of hL
  obtain ⟨v0, vs0, d'0, ds0, q0, r'0, hargs, rfl, rfl, h0, r0⟩ := trodAll_cons hA
  obtain ⟨v1, vs1, d'1, ds1, q1, r'1, rfl, rfl, rfl, h1, r1⟩ := trodAll_cons r0
  obtain ⟨rfl, rfl, rfl⟩ := trodAll_nil r1
  obtain rfl : args = #[v0, v1] := by cases args; simp_all
  obtain ⟨rfl, rfl⟩ := trodVars_none hV
  obtain ⟨s0, rfl, rfl, rfl, w0⟩ := Go.ChangeMaps.open_string Tryz.underlying9 (hval 0 9 v0 rfl rfl) h0
  obtain ⟨a1, len1, cap1, rfl⟩ := okWide_slice Tryz.underlying35 (hval 1 35 v1 rfl rfl)
  have k1' := h1
  have lt1 : ∀ x ∈ q1, x.block < W.heap.size := by obtain ⟨m, hm⟩ := k1'; exact DataW.trod_lt m _ _ _ hm
  obtain ⟨y1, w1⟩ : ∃ ys : List Int, ys.length = len1 ∧ BW W a1 ys ∧ (a1 = none → cap1 = 0) ∧ len1 ≤ cap1 ∧ cap1 ≤ 9223372036854775807 := by
    obtain ⟨fuel, hf⟩ := h1
    rcases open_ints Tryz.underlying35 Tryz.underlying5 (by kernel_rfl) hf with ⟨hcs, _⟩ | ⟨x, l, c, zs, hcs, _, hl, hm, hz, _, hcell, hwz⟩
    · simp [Value.cells] at hcs
      obtain ⟨rfl, rfl, rfl⟩ := hcs
      exact bytes_of (zs := []) (.inl ⟨rfl, rfl, rfl, rfl⟩)
    · simp [Value.cells] at hcs
      obtain ⟨rfl, rfl, rfl⟩ := hcs
      exact bytes_of (.inr ⟨_, rfl, hl, hm, by simpa using hz, hcell, hwz⟩)
  clear hA0 hval0
  refine (walk s0 a1 len1 cap1 y1 W hVars w0 w1).mono fun e W' ⟨he, bel⟩ => ?_
  subst he
  exact ⟨_, rfl, _, _, _, [], _, [], hW', trodAll_mk1 (shut_bool Tryz.underlying4 _), (trodAll_cons_mk (Go.ChangeMaps.shut_string Tryz.underlying9 w0) (trodAll_cons_mk (Below.trod laidOut (by kernel_rfl) (of_decide_eq_true (by kernel_rfl)) k1' bel lt1) trodAll_mk0)), rfl, bel.frame _, fun h => by cases h⟩

theorem over : Rows.parseWhiteRow.holds Tryz.pinned (OpenSpec.ofChange Rows.parseWhiteSpec) :=
  OpenClaim.holds_of_wide 5 Tryz.f5 rfl rfl rfl rfl rfl rfl rfl ⟨rfl, rfl, rfl, rfl, rfl⟩ rfl rfl rfl rfl rfl (by kernel_rfl) Tryz.func5 (by kernel_rfl)
    (of_decide_eq_true (by kernel_rfl)) (by unfold Func.isWrapper; first | (rw [if_pos (by decide +kernel)]; kernel_rfl) | (rw [if_neg (by decide +kernel)]; exact ⟨rfl, rfl⟩))
    (fun os started H enc _ => lifted os started H enc)
theorem stand (j : Nat) (t : TypeId) (ht : Tryz.f5.params[j]? = some t) : Tryz.prog.wantsStandIn t = false := by
  rw [Tryz.params5] at ht
  rcases j with _ | j
  · obtain rfl : 9 = t := by simpa using ht
    kernel_rfl
  rcases j with _ | j
  · obtain rfl : 35 = t := by simpa using ht
    kernel_rfl
  simp at ht
end Go.Proofs.YtdcpfnffckkfcaaGreatDoor.parseWhite

namespace Go.Proofs.YtdcpfnffckkfcaaGreatDoor
theorem parseWhite_holds : Rows.ParseWhiteCardSaid :=
  Claim7.holds_tied_plain_at .later [] [.data, .data, .data, .data, .sentinel, .sentinel, .pinned] true (true, "eac5dfe871dd8c8697ebc408eddb0b9f7814784c1ba684075d0b799b768a7caf") true
    parseWhite.over (fun _ h => by cases h) (by kernel_rfl) (fun _ h => by cases h) parseWhite_row_tie rfl ⟨rfl, rfl⟩ (by kernel_rfl) rfl
    (fun f fn hf hfn => by
      obtain rfl : f = 5 := Option.some.inj ((show Tryz.prog.funcNamed Rows.parseWhiteRow.func = some 5 by kernel_rfl).symm.trans hf) |>.symm
      obtain rfl : fn = Tryz.f5 := (Option.some.inj (Tryz.func5.symm.trans hfn)).symm
      exact ⟨by kernel_rfl, parseWhite.stand⟩)
    (by kernel_rfl)
#print axioms parseWhite_holds
end Go.Proofs.YtdcpfnffckkfcaaGreatDoor
