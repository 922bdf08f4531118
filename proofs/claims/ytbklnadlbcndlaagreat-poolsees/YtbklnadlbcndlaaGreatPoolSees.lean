/- For every number of frames and every list of acts the call PoolSees of the statements returns true and its arguments read as they did: no condition. -/
import Derived.Test.YtbklnadlbcndlaaGreatM23
import Derived.Test.YtbklnadlbcndlaaGreatM25
import Derived.Test.YtbklnadlbcndlaaGreatM4
import Derived.Test.YtbklnadlbcndlaaGreatRows
import Derived.Deep.Slices
import Derived.OpenShut
import Derived.Laws.MakeOwn
import Derived.Laws.CopyOwn
import Derived.Deep.DeepCutAuto
import Derived.BigQuiet
import Derived.Deep.QuietTactic
import Derived.WalkKit
import Derived.ProofKit
import Derived.ShutString
import Derived.ChangeOld
import Derived.Below
namespace Go.Proofs.YtbklnadlbcndlaaGreat.poolSees
open Go.ChangeShapes Go.WideShapes Go.ChangeAt Go.RowKit
set_option linter.unusedVariables false
set_option linter.unusedSimpArgs false
set_option maxRecDepth 20000

theorem own : ownKnob Tryz.prog.godebug = none := by kernel_rfl
theorem laidOut : laidOutB Tryz.prog = true := by kernel_rfl
theorem Tryz.info9 : (Tryz.prog.info? 9).map (fun i => (i.zero, i.size, i.bytes)) = some (some (.string { data := #[] }), 1, 16) := by kernel_rfl
theorem _root_.Go.Proofs.YtbklnadlbcndlaaGreat.Vw.subs {w0 w : World} {q : Nat} {n : Int} {T E : Nat} {C L : Cont} {bs bs' : List Nat} (h : Vw w0 q n T E C L bs w) (hs : ∀ b ∈ bs', b ∈ bs) : Vw w0 q n T E C L bs' w := by
  obtain ⟨k, P, s, d, h1, h2, h3, h4⟩ := h
  exact ⟨k, P, s, d, h1, h2, fun b hb => h3 b (hs b hb), h4⟩
theorem _root_.Go.Proofs.YtbklnadlbcndlaaGreat.Vw.tmore {w0 w : World} {q : Nat} {n : Int} {T E : Nat} {C L : Cont} {bs : List Nat} (h : Vw w0 q n T E C L bs w) (hT : T + 1 ≤ 40) : Vw w0 q n (T + 1) E C L bs w := by
  obtain ⟨k, P, s, d, h1, h2, h3, h4, h5, h6, h7⟩ := h
  exact ⟨k, P, s, d, h1.more h5 hT, h2, h3, h4, h5, h6, h7⟩
theorem _root_.Go.Proofs.YtbklnadlbcndlaaGreat.Vw.emore {w0 w : World} {q : Nat} {n : Int} {T E : Nat} {C L : Cont} {bs : List Nat} (h : Vw w0 q n T E C L bs w) : Vw w0 q n T (E + 1) C L bs w := by
  obtain ⟨k, P, s, d, h1, h2, h3, h4, h5, h6, h7⟩ := h
  exact ⟨k, P, s, d, h1, h2, h3, h4, h5, by omega, h7⟩
theorem plus_ne {zs : List Int} (h : AllB zs) : ((({ data := #[43] } : ByteArray) ++ strOfNums zs).toList == ({ data := #[] } : ByteArray).toList) = false := by
  rw [show ({ data := #[43] } : ByteArray) = strOfNums [43] from rfl, str_app]
  exact str_ne (a := [43] ++ zs) (b := []) (by intro z hz; rcases List.mem_append.1 hz with h1 | h1; (simp at h1; subst h1; decide); exact h z h1) AllB.nil (by simp)
theorem plus_st {zs : List Int} (h : AllB zs) : ∃ st, ({ data := #[43] } : ByteArray) ++ strOfNums zs = st ∧ st.toList.isEmpty = false ∧ ¬ st.toList = [] := by
  have := plus_ne h
  generalize ({ data := #[43] } : ByteArray) ++ strOfNums zs = st at *
  exact ⟨st, rfl, by simpa using this, by simpa using this⟩
theorem strN_size (zs : List Int) : (strOfNums zs).size = zs.length := by unfold strOfNums; simp [ByteArray.size]
theorem get_short {T : Nat} {P : PS} {s : SS} {d : D.DS} {C : Cont} (h : Se T P s d C) (id : Int) : (gtB (ftR P s d id)).length ≤ 256 := by
  obtain ⟨h1, h2, h3, h4⟩ := h.fetch id
  unfold gtB
  split
  · rename_i h0
    rcases h4 with ⟨a, b⟩ | ⟨a, pre, g, b, c, e⟩
    · rw [b] at h0; exact absurd h0 (by decide)
    · have hs := ftR_short h.short s d id
      rw [b, lastF_snoc]; rw [b] at hs; exact hs g (by simp)
  · simp
theorem s_get2 {w0 w : World} {q : Nat} {n : Int} {T E : Nat} {C L : Cont} {bs : List Nat} (h : Vw w0 q n T E C L bs w) (id : Int) :
    Calls Tryz.prog 15 #[pf q, .int .i64 id] w fun e w' => ∃ kd a l c er, e = .returned (.tuple #[.int .i64 kd, .slice a l c, .int .i64 er]) ∧ Vw w0 q n T E C L bs w' ∧ Stay bs w w' ∧ (a = none → c = 0) ∧ ((C id = none ∧ er ≠ 0) ∨ (er = 0 ∧ ∃ k zs, C id = some (k, zs) ∧ l = zs.length ∧ BV w' a zs ∧ zs.length ≤ 256)) := by
  obtain ⟨k, P, s, d, g1, g2, g3, g4, g5, g6, g7⟩ := h
  refine (pget_any id g2 g1.short).mono ?_
  rintro e w' ⟨v, k', rfl, ho, hf, hp, hx⟩
  obtain ⟨b1, b2⟩ := nx_bs hx g3
  obtain ⟨s1, s2, s3, _⟩ := g1.fetch id
  have hg := g1.get id
  obtain ⟨a, c, rfl, h0, _, _, hb, _⟩ := _root_.id hf
  refine ⟨_, a, _, c, _, rfl, ⟨k', _, _, _, s1, hp, b1, fun i => by rw [s2.l, s2.lp, g4], s2.bl.trans g5, by rw [s2.ep]; exact g6, s3.trans g7⟩, b2, h0, ?_⟩
  rcases hg with hg | ⟨g8, g9⟩
  · exact .inl hg
  · exact .inr ⟨g8, _, _, g9, rfl, hb, get_short g1 id⟩
theorem dn (w : World) (n : Nat) : Below w.heap.size w (w.drewN n) := ⟨rfl, rfl, rfl, Nat.le_refl _, fun _ _ => rfl⟩
set_option maxHeartbeats 6400000 in
theorem core (a0 : Int) (al : Option Addr) (len cap : Nat) (xs : List SAct) (w : World) (m : Nat) (hm5 : m < 5) (hnv : Int.tmod a0 5 = m) (hu1 : 0 ≤ a0) (hu2 : a0 ≤ 255) (h0 : SActs w al len cap xs)
    (K0 : World → Nat → Nat → Nat → Prop) (K1 : World → Nat → Prop)
    (H13 : Hid (Calls Tryz.prog 13 #[.int .i64 200] w fun e w' => ∃ dp nb mb, e = .returned (.pointer (some ⟨dp, 0, none⟩)) ∧ K0 w' dp nb mb))
    (H12 : Hid (∀ w1 dp nb mb, K0 w1 dp nb mb → Calls Tryz.prog 12 #[.pointer (some ⟨dp, 0, none⟩)] w1 fun e w' => ∃ p : Nat, e = .returned (.tuple #[.pointer (some ⟨p, 0, none⟩), .int .i64 0]) ∧ K1 w' p))
    (H14 : Hid (∀ w1 p, K1 w1 p → Calls Tryz.prog 14 #[.pointer (some ⟨p, 0, none⟩), .int .i64 (1 + (m : Int))] w1 fun e w' => ∃ q, e = .returned (.tuple #[.pointer (some ⟨q, 0, none⟩), .int .i64 0]) ∧ Vw w q (1 + (m : Int)) 0 0 (fun _ => none) (fun _ => none) [] w')) :
    Calls Tryz.prog 5 #[.int .u8 a0, .slice al len cap] w fun e w' => e = .returned (.bool true) ∧ Below w.heap.size w w' := by
  have HA := awake_any
  have H7 := few_any al len cap 40 xs w h0 (by decide)
  have HAC : Hid (SActs w al len cap xs) := h0
  obtain ⟨i9, hi9, z9, s9, b9⟩ := info_parts Tryz.info9
  have HMK : Hid (∀ W : World, (Instr.makeSlice 57 (.int .i64 60) (.int .i64 60)).run Tryz.prog W = .ok (.slice (some ⟨W.heap.size, 0, none⟩) 60 60) (W.alloc (.cells (madeCells (Value.string { data := #[] }).cells (60 * 1)) 9))) := fun W => by
    have := run_make (P := Tryz.prog) W 57 9 i9 (.string { data := #[] }) Tryz.underlying57 hi9 z9 .i64 .i64 60 60 (by decide) (by decide) (by rw [b9]; decide) (by decide)
    rw [s9] at this
    exact this
  have hm5' : (m : Int) < 5 := by omega
  clear h0 hm5
  go_enter Tryz.func5, Tryz.ntmps5
  go_wp2_with fail
  refine H7.mono ?_
  rintro e w1 ⟨bb, rfl, hbb, hw⟩
  obtain rfl := hw.symm
  clear H7
  cases bb
  · clear H13 H12 H14
    go_wp2_with (first | (go_at_call 8; refine (HA _).mono ?_; rintro e w2 ⟨rfl, hb2⟩; clear HA) | fail)
    go_ret
    exact ⟨rfl, hb2⟩
  · have HFW : Hid ((len : Int) ≤ 40 ∧ ∀ i, i < len → (xs.getD i default).bs.length ≤ 300) := hbb rfl
    clear hbb
    have hl40 : (len : Int) ≤ 40 := HFW.out.1
    go_wp2_with (first
      | (go_at_call 13; refine H13.out.mono ?_; rintro e w1 ⟨dp, nb, mb, rfl, h1⟩; have M1 : Hid (K0 w1 dp nb mb) := h1; clear h1 H13)
      | (go_at_call 12; refine (H12.out _ _ _ _ M1.out).mono ?_; rintro e w2 ⟨p2, rfl, h2⟩; have M2 : Hid (K1 w2 p2) := h2; clear h2 H12 M1)
      | (go_at_call 14; refine (H14.out _ _ M2.out).mono ?_; rintro e w3 ⟨q, rfl, h3⟩; have M3 : Hid (Vw w q (1 + (m : Int)) 0 0 (fun _ => none) (fun _ => none) [] w3) := h3; clear h3 H14 M2)
      | fail)
    have hmk := HMK.out
    have FACTS : Hid (∀ W4, W4 = ((w3.alloc (.cells (madeCells #[Value.string { data := #[] }] 60) 9)).alloc (.cells (madeCells #[Value.string { data := #[] }] 60) 9)).drew → StrB W4 w3.heap.size (rowS (fun _ => none)) ∧ StrB W4 (w3.heap.size + 1) (rowS (fun _ => none)) ∧ Vw w q (1 + (m : Int)) 0 0 (fun _ => none) (fun _ => none) [w3.heap.size, w3.heap.size + 1] W4 ∧ w.heap.size ≤ w3.heap.size ∧ w.heap.size ≤ w3.heap.size + 1 ∧ w3.heap.size ≠ w3.heap.size + 1) := by
      intro W4 hW
      subst hW
      have hs : (w3.alloc (.cells (madeCells #[Value.string { data := #[] }] 60) 9)).heap.size = w3.heap.size + 1 := by simp
      have r1 : StrB (w3.alloc (.cells (madeCells #[Value.string { data := #[] }] 60) 9)) w3.heap.size (rowS (fun _ => none)) := row_make w3
      have r2 : StrB ((w3.alloc (.cells (madeCells #[Value.string { data := #[] }] 60) 9)).alloc (.cells (madeCells #[Value.string { data := #[] }] 60) 9)) (w3.heap.size + 1) (rowS (fun _ => none)) := by
        have := row_make (w3.alloc (.cells (madeCells #[Value.string { data := #[] }] 60) 9))
        rw [hs] at this
        exact this
      have r3 : StrB ((w3.alloc (.cells (madeCells #[Value.string { data := #[] }] 60) 9)).alloc (.cells (madeCells #[Value.string { data := #[] }] 60) 9)) w3.heap.size (rowS (fun _ => none)) := by
        unfold StrB at r1 ⊢
        rw [@heap_alloc_old _ _ _ (by omega)]
        exact r1
      have v1 := M3.out.add (w' := w3.alloc (.cells (madeCells #[Value.string { data := #[] }] 60) 9)) ((Below.refl _ _).alloc (Nat.le_refl _) _) (b := w3.heap.size) (Nat.le_refl _) (by omega)
      have v2 := v1.add (w' := (w3.alloc (.cells (madeCells #[Value.string { data := #[] }] 60) 9)).alloc (.cells (madeCells #[Value.string { data := #[] }] 60) 9)) ((Below.refl _ _).alloc (Nat.le_refl _) _) (b := w3.heap.size + 1) (by omega) (by simp)
      exact ⟨r3, r2, (v2.below (Below.refl _ _).drew).subs (by simp), M3.out.be.size, Nat.le_trans M3.out.be.size (Nat.le_succ _), Nat.ne_of_lt (Nat.lt_succ_self _)⟩
    clear M3 HMK
    go_cut [9, 10] (fun x y wx => ∃ gA gB : Nat, x = .slice (some ⟨gA, 0, none⟩) 60 60 ∧ y = .slice (some ⟨gB, 0, none⟩) 60 60 ∧ Hid (StrB wx gA (rowS (fun _ => none)) ∧ StrB wx gB (rowS (fun _ => none)) ∧ Vw w q (1 + (m : Int)) 0 0 (fun _ => none) (fun _ => none) [gA, gB] wx ∧ w.heap.size ≤ gA ∧ w.heap.size ≤ gB ∧ gA ≠ gB))
    case first =>
      go_region
      all_goals clear hmk
      all_goals generalize hW4 : ((w3.alloc (.cells (madeCells #[Value.string { data := #[] }] 60) 9)).alloc (.cells (madeCells #[Value.string { data := #[] }] 60) 9)).drew = W4
      all_goals have FF := FACTS.out W4 hW4.symm
      all_goals clear FACTS hW4
      all_goals generalize w3.heap.size + 1 = gB at *
      all_goals generalize w3.heap.size = gA at *
      · go_wp2_with fail
        go_meet
        case rel => exact ⟨gA, gB, rfl, rfl, FF⟩
      · go_wp2_with fail
        go_meet
        case rel => exact ⟨gB, gA, rfl, rfl, FF.2.1, FF.1, FF.2.2.1.subs (by simp), FF.2.2.2.2.1, FF.2.2.2.1, fun e => FF.2.2.2.2.2 e.symm⟩
    case rest =>
      obtain ⟨gA, gB, rfl, rfl, FF⟩ := hcut
      obtain ⟨f1, f2, f3, hgA, hgB, f6⟩ := FF.out
      have HN0 : Hid (StrB wc gA (rowS (fun _ => none))) := f1
      have HL0 : Hid (StrB wc gB (rowS (fun _ => none))) := f2
      have HV0 : Hid (Vw w q (1 + (m : Int)) 0 0 (fun _ => none) (fun _ => none) [gA, gB] wc) := f3
      have HNE : Hid (gA ≠ gB) := f6
      clear f1 f2 f3 f6 FF FACTS hmk
      go_wp2_with fail
      go_loopw [11] (fun iv wr => ∃ (i : Nat) (C L : Cont), i ≤ len ∧ iv = .int .i64 (i : Int) ∧ Hid (Vw w q (1 + (m : Int)) i i C L [gA, gB] wr) ∧ Hid (StrB wr gA (rowS C)) ∧ Hid (StrB wr gB (rowS L))) (fun iv _ => 50 - (iOf iv).toNat)
      case atStart => exact ⟨0, _, _, Nat.zero_le _, rfl, HV0, HN0, HL0⟩
      case round =>
        clear HV0 HN0 HL0
        obtain ⟨i, C, L, hi, rfl, HV, HN, HL⟩ := hrel
        obtain ⟨wo, hwo⟩ : ∃ wo, wo = wr := ⟨_, rfl⟩
        subst hwo
        by_cases hlt : i < len
        · have hlt' : (i : Int) < len := by omega
          obtain ⟨b, off, rfl, hbl, hat⟩ : ∃ b off, al = some ⟨b, off, none⟩ ∧ b < w.heap.size ∧ SAt w b (off + i * 10) (xs.getD i default) := by
            obtain ⟨hl, hc, hlm, hn, hx⟩ := HAC.out
            rcases hx with e | ⟨b, off, e, hbl, hx⟩
            · subst e; simp at hl; omega
            · exact ⟨b, off, e, hbl, hx i hlt⟩
          have HX3 : Hid ((xs.getD i default).bs.length ≤ 300) := HFW.out.2 i hlt
          generalize xs.getD i default = x at *
          have HAT : Hid (SAt w b (off + i * 10) x) := hat
          obtain ⟨⟨fk0, fk1, fn0, fn1, fp0, fp1⟩, ⟨ba, bn, bc, c0, c1, c2, c3, q4, q5, q6, q7, q8⟩, ⟨gk0, gk1, gn0, gn1, gc0, gc1, gt0, gt1⟩, ga, gn, gc, e0, e1, e2, e3, e4, e5, r6, r7, r8, r9⟩ := hat
          obtain rfl := q4
          have hB := HV.out.be
          have c0 := (hB.cell (p := ⟨b, off + i * 10, none⟩) hbl).trans c0
          have c1 := (hB.cell (p := ⟨b, off + i * 10 + 1, none⟩) hbl).trans c1
          have c2 := (hB.cell (p := ⟨b, off + i * 10 + 2, none⟩) hbl).trans c2
          have c3 := (hB.cell (p := ⟨b, off + i * 10 + 3, none⟩) hbl).trans c3
          have e0 : wo.cell? ⟨b, off + i * 10 + 4, none⟩ = some (.int .u8 x.d.kd) := (hB.cell (p := ⟨b, off + i * 10 + 4, none⟩) hbl).trans e0
          have e1 : wo.cell? ⟨b, off + i * 10 + 5, none⟩ = some (.int .i64 x.d.n) := (hB.cell (p := ⟨b, off + i * 10 + 5, none⟩) hbl).trans e1
          have e2 : wo.cell? ⟨b, off + i * 10 + 6, none⟩ = some (.int .u8 x.d.c) := (hB.cell (p := ⟨b, off + i * 10 + 6, none⟩) hbl).trans e2
          have e3 : wo.cell? ⟨b, off + i * 10 + 7, none⟩ = some (.int .u8 x.d.cut) := (hB.cell (p := ⟨b, off + i * 10 + 7, none⟩) hbl).trans e3
          have e4 : wo.cell? ⟨b, off + i * 10 + 8, none⟩ = some (.bool x.d.d) := (hB.cell (p := ⟨b, off + i * 10 + 8, none⟩) hbl).trans e4
          have e5 : wo.cell? ⟨b, off + i * 10 + 9, none⟩ = some (.slice ga gn gc) := (hB.cell (p := ⟨b, off + i * 10 + 9, none⟩) hbl).trans e5
          have HBD : Hid (BV w ba x.bs ∧ (ba = none → bc = 0) ∧ x.bs.length ≤ bc ∧ bc ≤ 9223372036854775807) := ⟨q8, q7, q5, q6⟩
          have hbA : Below wo.heap.size wo (wo.alloc (.cells #[.int .u8 x.kd, .int .i64 x.id, .int .i64 x.pg, .slice ba x.bs.length bc, .int .u8 x.d.kd, .int .i64 x.d.n, .int .u8 x.d.c, .int .u8 x.d.cut, .bool x.d.d, .slice ga gn gc] 33)) := (Below.refl _ _).alloc (Nat.le_refl _) _
          have HV5 : Hid (Vw w q (1 + (m : Int)) i i C L [wo.heap.size, gA, gB] (wo.alloc (.cells #[.int .u8 x.kd, .int .i64 x.id, .int .i64 x.pg, .slice ba x.bs.length bc, .int .u8 x.d.kd, .int .i64 x.d.n, .int .u8 x.d.c, .int .u8 x.d.cut, .bool x.d.d, .slice ga gn gc] 33))) := HV.out.add hbA (Nat.le_refl _) (by simp)
          have HN5 : Hid (StrB (wo.alloc (.cells #[.int .u8 x.kd, .int .i64 x.id, .int .i64 x.pg, .slice ba x.bs.length bc, .int .u8 x.d.kd, .int .i64 x.d.n, .int .u8 x.d.c, .int .u8 x.d.cut, .bool x.d.d, .slice ga gn gc] 33)) gA (rowS C)) := HN.out.off (hbA.block _ HN.out.lt)
          have HL5 : Hid (StrB (wo.alloc (.cells #[.int .u8 x.kd, .int .i64 x.id, .int .i64 x.pg, .slice ba x.bs.length bc, .int .u8 x.d.kd, .int .i64 x.d.n, .int .u8 x.d.c, .int .u8 x.d.cut, .bool x.d.d, .slice ga gn gc] 33)) gB (rowS L)) := HL.out.off (hbA.block _ HL.out.lt)
          have HB5 : Hid (∀ W, Stay [wo.heap.size, gA, gB] (wo.alloc (.cells #[.int .u8 x.kd, .int .i64 x.id, .int .i64 x.pg, .slice ba x.bs.length bc, .int .u8 x.d.kd, .int .i64 x.d.n, .int .u8 x.d.c, .int .u8 x.d.cut, .bool x.d.d, .slice ga gn gc] 33)) W → W.cell? ⟨wo.heap.size, 1, none⟩ = some (.int .i64 x.id) ∧ W.cell? ⟨wo.heap.size, 3, none⟩ = some (.slice ba x.bs.length bc)) := fun W hW => by
            have hh := (hW wo.heap.size (by simp)).trans (heap_alloc_last wo (.cells #[.int .u8 x.kd, .int .i64 x.id, .int .i64 x.pg, .slice ba x.bs.length bc, .int .u8 x.d.kd, .int .i64 x.d.n, .int .u8 x.d.c, .int .u8 x.d.cut, .bool x.d.d, .slice ga gn gc] 33))
            exact ⟨by rw [cell_of_row _ _ _ _ _ _ hh]; rfl, by rw [cell_of_row _ _ _ _ _ _ hh]; rfl⟩
          have hi40 : i + 1 ≤ 40 := by omega
          clear HAT q5 q6 q7 q8 r6 r7 r8 r9 HV HN HL hB hbA
          go_upto_region 12 with fail
          go_cut [61] (fun t wx => ∃ z : Int, t = .int .u8 z ∧ wx = wo.alloc (.cells #[.int .u8 x.kd, .int .i64 x.id, .int .i64 x.pg, .slice ba x.bs.length bc, .int .u8 x.d.kd, .int .i64 x.d.n, .int .u8 x.d.c, .int .u8 x.d.cut, .bool x.d.d, .slice ga gn gc] 33))
          case first =>
            go_wp2_with fail
            go_meet
            case rel => exact ⟨_, rfl, rfl⟩
          case rest =>
            obtain ⟨z, rfl, rfl⟩ := hcut
            rename_i hk
            refine hk _ _ ?_
            clear hk
            go_cut [] (fun wx => ∃ C' L' : Cont, Hid (Vw w q (1 + (m : Int)) (i + 1) (i + 1) C' L' [gA, gB] wx) ∧ Hid (StrB wx gA (rowS C')) ∧ Hid (StrB wx gB (rowS L')))
            case first =>
              go_wp2_with fail
              · refine (s_set HV5.out x.id x.pg ba bc x.bs HBD.out.1 HBD.out.2.1 HBD.out.2.2.1 HBD.out.2.2.2).mono ?_
                rintro e w6 ⟨er, C', rfl, hv6, hst6, hor⟩
                obtain ⟨bx1, bx3⟩ := HB5.out w6 hst6
                have hn6 := HN5.out.off (hst6 gA (by simp))
                have hl6 := HL5.out.off (hst6 gB (by simp))
                have hv6 := hv6.subs (bs' := [gA, gB]) (by simp)
                clear hst6
                rcases hor with ⟨h0, hC⟩ | ⟨rfl, i1, i2, hC⟩
                · rw [hC] at hv6
                  have h0' : (er == 0) = false := by simpa using h0
                  have HV2 : Hid (Vw w q (1 + (m : Int)) (i + 1) (i + 1) C L [gA, gB] w6) := hv6.more hi40
                  have HN2 : Hid (StrB w6 gA (rowS C)) := hn6
                  have HL2 : Hid (StrB w6 gB (rowS L)) := hl6
                  clear hv6 hn6 hl6 HV5 HN5 HL5 HB5 HBD
                  go_wp2_with fail
                  go_meet
                  case rel => exact ⟨C, L, HV2, HN2, HL2⟩
                · obtain ⟨ix, hix⟩ : ∃ ix : Nat, x.id = (ix : Int) := ⟨x.id.toNat, by omega⟩
                  have hix60 : ix < 60 := by omega
                  have hix60' : (ix : Int) < 60 := by omega
                  rw [hix] at bx1 hC
                  rw [hC] at hv6
                  have hszx : ¬ 9223372036854775807 < 1 + (strOfNums x.bs).size := by rw [strN_size]; have := HX3.out; omega
                  have hcv : (convert 29 9 (.slice ba x.bs.length bc)).run Tryz.prog w6 = .ok (.string (strOfNums x.bs)) w6 := conv_bv (cap := bc) (HBD.out.1.below hv6.be) HBD.out.2.1
                  have hvv := hv6.more hi40
                  clear hC i1 i2 HBD
                  have cn := hn6.get ix hix60
                  have fz := hn6.fz ix
                  have HV2 : Hid (Vw w q (1 + (m : Int)) (i + 1) (i + 1) (C.put (ix : Int) (some (x.pg, x.bs))) L [gA, gB] (w6.setCell ⟨gA, ix, none⟩ (.string (({ data := #[43] } : ByteArray) ++ strOfNums x.bs)))) := hvv.strs hn6 ((D.Off.refl _ _).setCell (by simp) _) hgA
                  have HN2 : Hid (StrB (w6.setCell ⟨gA, ix, none⟩ (.string (({ data := #[43] } : ByteArray) ++ strOfNums x.bs))) gA (rowS (C.put (ix : Int) (some (x.pg, x.bs))))) := by rw [str_plus x.bs x.pg]; exact hn6.put ix hix60 _
                  have HL2 : Hid (StrB (w6.setCell ⟨gA, ix, none⟩ (.string (({ data := #[43] } : ByteArray) ++ strOfNums x.bs))) gB (rowS L)) := hl6.off (Below.heap_setCell _ _ _ _ (fun e => HNE.out e.symm))
                  clear hvv hv6 hn6 hl6 HV5 HN5 HL5 HB5
                  go_wp2_with fail
                  go_meet
                  case rel => exact ⟨(C.put (ix : Int) (some (x.pg, x.bs))), L, HV2, HN2, HL2⟩
              · refine (s_set HV5.out x.id x.pg ba bc x.bs HBD.out.1 HBD.out.2.1 HBD.out.2.2.1 HBD.out.2.2.2).mono ?_
                rintro e w6 ⟨er, C', rfl, hv6, hst6, hor⟩
                obtain ⟨bx1, bx3⟩ := HB5.out w6 hst6
                have hn6 := HN5.out.off (hst6 gA (by simp))
                have hl6 := HL5.out.off (hst6 gB (by simp))
                have hv6 := hv6.subs (bs' := [gA, gB]) (by simp)
                clear hst6
                rcases hor with ⟨h0, hC⟩ | ⟨rfl, i1, i2, hC⟩
                · rw [hC] at hv6
                  have h0' : (er == 0) = false := by simpa using h0
                  have HV2 : Hid (Vw w q (1 + (m : Int)) (i + 1) (i + 1) C L [gA, gB] w6) := hv6.more hi40
                  have HN2 : Hid (StrB w6 gA (rowS C)) := hn6
                  have HL2 : Hid (StrB w6 gB (rowS L)) := hl6
                  clear hv6 hn6 hl6 HV5 HN5 HL5 HB5 HBD
                  go_wp2_with fail
                  go_meet
                  case rel => exact ⟨C, L, HV2, HN2, HL2⟩
                · obtain ⟨ix, hix⟩ : ∃ ix : Nat, x.id = (ix : Int) := ⟨x.id.toNat, by omega⟩
                  have hix60 : ix < 60 := by omega
                  have hix60' : (ix : Int) < 60 := by omega
                  rw [hix] at bx1 hC
                  rw [hC] at hv6
                  have hszx : ¬ 9223372036854775807 < 1 + (strOfNums x.bs).size := by rw [strN_size]; have := HX3.out; omega
                  have hcv : (convert 29 9 (.slice ba x.bs.length bc)).run Tryz.prog w6 = .ok (.string (strOfNums x.bs)) w6 := conv_bv (cap := bc) (HBD.out.1.below hv6.be) HBD.out.2.1
                  have hvv := hv6.more hi40
                  clear hC i1 i2 HBD
                  have cn := hn6.get ix hix60
                  have fz := hn6.fz ix
                  have HV2 : Hid (Vw w q (1 + (m : Int)) (i + 1) (i + 1) (C.put (ix : Int) (some (x.pg, x.bs))) L [gA, gB] (w6.setCell ⟨gA, ix, none⟩ (.string (({ data := #[43] } : ByteArray) ++ strOfNums x.bs)))) := hvv.strs hn6 ((D.Off.refl _ _).setCell (by simp) _) hgA
                  have HN2 : Hid (StrB (w6.setCell ⟨gA, ix, none⟩ (.string (({ data := #[43] } : ByteArray) ++ strOfNums x.bs))) gA (rowS (C.put (ix : Int) (some (x.pg, x.bs))))) := by rw [str_plus x.bs x.pg]; exact hn6.put ix hix60 _
                  have HL2 : Hid (StrB (w6.setCell ⟨gA, ix, none⟩ (.string (({ data := #[43] } : ByteArray) ++ strOfNums x.bs))) gB (rowS L)) := hl6.off (Below.heap_setCell _ _ _ _ (fun e => HNE.out e.symm))
                  clear hvv hv6 hn6 hl6 HV5 HN5 HL5 HB5
                  go_wp2_with fail
                  go_meet
                  case rel => exact ⟨(C.put (ix : Int) (some (x.pg, x.bs))), L, HV2, HN2, HL2⟩
              · refine (s_free HV5.out x.id).mono ?_
                rintro e w6 ⟨er, C', rfl, hv6, hst6, hor⟩
                obtain ⟨bx1, bx3⟩ := HB5.out w6 hst6
                have hn6 := HN5.out.off (hst6 gA (by simp))
                have hl6 := HL5.out.off (hst6 gB (by simp))
                have hv6 := hv6.subs (bs' := [gA, gB]) (by simp)
                clear hst6
                rcases hor with ⟨h0, hC⟩ | ⟨rfl, i1, i2, hC⟩
                · rw [hC] at hv6
                  have h0' : (er == 0) = false := by simpa using h0
                  have HV2 : Hid (Vw w q (1 + (m : Int)) (i + 1) (i + 1) C L [gA, gB] w6) := hv6.more hi40
                  have HN2 : Hid (StrB w6 gA (rowS C)) := hn6
                  have HL2 : Hid (StrB w6 gB (rowS L)) := hl6
                  clear hv6 hn6 hl6 HV5 HN5 HL5 HB5 HBD
                  go_wp2_with fail
                  go_meet
                  case rel => exact ⟨C, L, HV2, HN2, HL2⟩
                · obtain ⟨ix, hix⟩ : ∃ ix : Nat, x.id = (ix : Int) := ⟨x.id.toNat, by omega⟩
                  have hix60 : ix < 60 := by omega
                  have hix60' : (ix : Int) < 60 := by omega
                  rw [hix] at bx1 hC
                  rw [hC] at hv6
                  have hvv := hv6.more hi40
                  clear hC i1 i2 HBD
                  have cn := hn6.get ix hix60
                  have fz := hn6.fz ix
                  have HV2 : Hid (Vw w q (1 + (m : Int)) (i + 1) (i + 1) (C.put (ix : Int) none) L [gA, gB] (w6.setCell ⟨gA, ix, none⟩ (.string ({ data := #[] } : ByteArray)))) := hvv.strs hn6 ((D.Off.refl _ _).setCell (by simp) _) hgA
                  have HN2 : Hid (StrB (w6.setCell ⟨gA, ix, none⟩ (.string ({ data := #[] } : ByteArray))) gA (rowS (C.put (ix : Int) none))) := hn6.put ix hix60 none
                  have HL2 : Hid (StrB (w6.setCell ⟨gA, ix, none⟩ (.string ({ data := #[] } : ByteArray))) gB (rowS L)) := hl6.off (Below.heap_setCell _ _ _ _ (fun e => HNE.out e.symm))
                  clear hvv hv6 hn6 hl6 HV5 HN5 HL5 HB5
                  go_wp2_with fail
                  go_meet
                  case rel => exact ⟨(C.put (ix : Int) none), L, HV2, HN2, HL2⟩
              · refine (s_flush HV5.out).mono ?_
                rintro e w6 ⟨er, rfl, hv6, hst6⟩
                obtain ⟨bx1, bx3⟩ := HB5.out w6 hst6
                have hn6 := HN5.out.off (hst6 gA (by simp))
                have hl6 := HL5.out.off (hst6 gB (by simp))
                have hv6 := hv6.subs (bs' := [gA, gB]) (by simp)
                clear hst6
                have HV2 : Hid (Vw w q (1 + (m : Int)) (i + 1) (i + 1) C L [gA, gB] w6) := hv6.more hi40
                have HN2 : Hid (StrB w6 gA (rowS C)) := hn6
                have HL2 : Hid (StrB w6 gB (rowS L)) := hl6
                clear hv6 hn6 hl6 HV5 HN5 HL5 HB5 HBD
                go_wp2_with fail
                go_meet
                case rel => exact ⟨C, L, HV2, HN2, HL2⟩
              · refine (s_commit HV5.out (by omega)).mono ?_
                rintro e w6 ⟨rfl, hv6, hst6⟩
                obtain ⟨bx1, bx3⟩ := HB5.out w6 hst6
                have hn6 := HN5.out.off (hst6 gA (by simp))
                have hl6 := HL5.out.off (hst6 gB (by simp))
                have hv6 := hv6.subs (bs' := [gA, gB]) (by simp)
                clear hst6
                have hvv := hv6.tmore hi40
                have hrow : (((rowS L).map Value.string).toArray.toList.take 0 ++ (((rowS C).map Value.string) ++ ((rowS L).map Value.string).toArray.toList.drop (0 + ((rowS C).map Value.string).length))).toArray = ((rowS C).map Value.string).toArray := by simp [rowS_len]
                have hsrc : ∀ j v, ((rowS C).map Value.string)[j]? = some v → w6.cell? ((⟨gA, 0, none⟩ : Addr).add j) = some v := fun j v hj => by
                  rw [add_plain, Nat.zero_add, cell_of_row _ _ _ _ _ _ hn6]
                  simpa using hj
                have HHD : Hid (w6.heap[gB]? = some (.cells ((rowS L).map Value.string).toArray 9 (0, 0))) := hl6
                have HV2 : Hid (Vw w q (1 + (m : Int)) (i + 1) (i + 1) C C [gA, gB] (w6.setRow gB ((rowS C).map Value.string).toArray)) := hvv.strs hl6 ((D.Off.refl _ _).setRow (by simp) _) hgB
                have HN2 : Hid (StrB (w6.setRow gB ((rowS C).map Value.string).toArray) gA (rowS C)) := hn6.off (setRow_other _ _ _ _ HNE.out)
                have HL2 : Hid (StrB (w6.setRow gB ((rowS C).map Value.string).toArray) gB (rowS C)) := hl6.copy
                clear hvv hv6 hn6 hl6 HV5 HN5 HL5 HB5 HBD
                go_wp2_with (first | (refine wpList_copy_own rfl _ _ 57 57 rfl 9 Tryz.underlying57 (by kernel_rfl) gB 0 60 60 ⟨gA, 0, none⟩ 60 60 rfl rfl _ 9 HHD.out ((rowS C).map Value.string) (by simp [rowS_len]) hsrc (by simp [rowS_len]) (by simp [Value.oneCell']) ?_; rw [hrow]; clear hrow hsrc HHD) | fail)
                go_wp2_with fail
                go_meet
                case rel => exact ⟨C, C, HV2, HN2, HL2⟩
              · refine (s_abort HV5.out).mono ?_
                rintro e w6 ⟨rfl, hv6, hst6⟩
                obtain ⟨bx1, bx3⟩ := HB5.out w6 hst6
                have hn6 := HN5.out.off (hst6 gA (by simp))
                have hl6 := HL5.out.off (hst6 gB (by simp))
                have hv6 := hv6.subs (bs' := [gA, gB]) (by simp)
                clear hst6
                have hvv := hv6.more hi40
                have hrow : (((rowS C).map Value.string).toArray.toList.take 0 ++ (((rowS L).map Value.string) ++ ((rowS C).map Value.string).toArray.toList.drop (0 + ((rowS L).map Value.string).length))).toArray = ((rowS L).map Value.string).toArray := by simp [rowS_len]
                have hsrc : ∀ j v, ((rowS L).map Value.string)[j]? = some v → w6.cell? ((⟨gB, 0, none⟩ : Addr).add j) = some v := fun j v hj => by
                  rw [add_plain, Nat.zero_add, cell_of_row _ _ _ _ _ _ hl6]
                  simpa using hj
                have HHD : Hid (w6.heap[gA]? = some (.cells ((rowS C).map Value.string).toArray 9 (0, 0))) := hn6
                have HV2 : Hid (Vw w q (1 + (m : Int)) (i + 1) (i + 1) L L [gA, gB] (w6.setRow gA ((rowS L).map Value.string).toArray)) := hvv.strs hn6 ((D.Off.refl _ _).setRow (by simp) _) hgA
                have HN2 : Hid (StrB (w6.setRow gA ((rowS L).map Value.string).toArray) gA (rowS L)) := hn6.copy
                have HL2 : Hid (StrB (w6.setRow gA ((rowS L).map Value.string).toArray) gB (rowS L)) := hl6.off (setRow_other _ _ _ _ (fun e => HNE.out e.symm))
                clear hvv hv6 hn6 hl6 HV5 HN5 HL5 HB5 HBD
                go_wp2_with (first | (refine wpList_copy_own rfl _ _ 57 57 rfl 9 Tryz.underlying57 (by kernel_rfl) gA 0 60 60 ⟨gB, 0, none⟩ 60 60 rfl rfl _ 9 HHD.out ((rowS L).map Value.string) (by simp [rowS_len]) hsrc (by simp [rowS_len]) (by simp [Value.oneCell']) ?_; rw [hrow]; clear hrow hsrc HHD) | fail)
                go_wp2_with fail
                go_meet
                case rel => exact ⟨L, L, HV2, HN2, HL2⟩
              · refine (s_alloc HV5.out hi40 x.pg ba bc x.bs HBD.out.1 HBD.out.2.1 HBD.out.2.2.1 HBD.out.2.2.2).mono ?_
                rintro e w6 ⟨id6, er, C', rfl, hv6, hst6, hor⟩
                obtain ⟨bx1, bx3⟩ := HB5.out w6 hst6
                have hn6 := HN5.out.off (hst6 gA (by simp))
                have hl6 := HL5.out.off (hst6 gB (by simp))
                have hv6 := hv6.subs (bs' := [gA, gB]) (by simp)
                clear hst6
                rcases hor with ⟨h0, hC⟩ | ⟨rfl, i1, i2, hno, hC⟩
                · rw [hC] at hv6
                  have h0' : (er == 0) = false := by simpa using h0
                  have HV2 : Hid (Vw w q (1 + (m : Int)) (i + 1) (i + 1) C L [gA, gB] w6) := hv6.emore
                  have HN2 : Hid (StrB w6 gA (rowS C)) := hn6
                  have HL2 : Hid (StrB w6 gB (rowS L)) := hl6
                  clear hv6 hn6 hl6 HV5 HN5 HL5 HB5 HBD
                  go_wp2_with fail
                  go_meet
                  case rel => exact ⟨C, L, HV2, HN2, HL2⟩
                · obtain ⟨ix, rfl⟩ : ∃ ix : Nat, id6 = (ix : Int) := ⟨id6.toNat, by omega⟩
                  have hix1 : (1 : Int) ≤ ix := by omega
                  have hix60 : ix < 60 := by omega
                  have hix60' : (ix : Int) < 60 := by omega
                  rw [hC] at hv6
                  have hszx : ¬ 9223372036854775807 < 1 + (strOfNums x.bs).size := by rw [strN_size]; have := HX3.out; omega
                  have hcv : (convert 29 9 (.slice ba x.bs.length bc)).run Tryz.prog w6 = .ok (.string (strOfNums x.bs)) w6 := conv_bv (cap := bc) (HBD.out.1.below hv6.be) HBD.out.2.1
                  have hvv := hv6.emore
                  have cno := hn6.get ix hix60
                  rw [hno] at cno
                  unfold strP at cno
                  clear hC i1 i2 HBD hno
                  have fz := hn6.fz ix
                  have HV2 : Hid (Vw w q (1 + (m : Int)) (i + 1) (i + 1) (C.put (ix : Int) (some (x.pg, x.bs))) L [gA, gB] (w6.setCell ⟨gA, ix, none⟩ (.string (({ data := #[43] } : ByteArray) ++ strOfNums x.bs)))) := hvv.strs hn6 ((D.Off.refl _ _).setCell (by simp) _) hgA
                  have HN2 : Hid (StrB (w6.setCell ⟨gA, ix, none⟩ (.string (({ data := #[43] } : ByteArray) ++ strOfNums x.bs))) gA (rowS (C.put (ix : Int) (some (x.pg, x.bs))))) := by rw [str_plus x.bs x.pg]; exact hn6.put ix hix60 _
                  have HL2 : Hid (StrB (w6.setCell ⟨gA, ix, none⟩ (.string (({ data := #[43] } : ByteArray) ++ strOfNums x.bs))) gB (rowS L)) := hl6.off (Below.heap_setCell _ _ _ _ (fun e => HNE.out e.symm))
                  clear hvv hv6 hn6 hl6 HV5 HN5 HL5 HB5
                  go_wp2_with fail
                  go_meet
                  case rel => exact ⟨(C.put (ix : Int) (some (x.pg, x.bs))), L, HV2, HN2, HL2⟩
            case rest =>
              obtain ⟨C', L', HV2, HN2, HL2⟩ := hcut
              clear HV5 HN5 HL5 HB5 HBD c0 c1 c2 c3 e0 e1 e2 e3 e4 e5
              go_wp2_with fail
              go_loopw [15] (fun kv wr => ∃ j : Nat, 1 ≤ j ∧ j ≤ 45 ∧ kv = .int .i64 (j : Int) ∧ Hid (Vw w q (1 + (m : Int)) (i + 1) (i + 1) C' L' [gA, gB] wr) ∧ Hid (StrB wr gA (rowS C')) ∧ Hid (StrB wr gB (rowS L'))) (fun kv _ => 50 - (iOf kv).toNat)
              case atStart => exact ⟨1, by omega, by omega, rfl, HV2, HN2, HL2⟩
              case round =>
                clear HV2 HN2 HL2
                obtain ⟨j, hj1, hj45, rfl, HVj, HNj, HLj⟩ := hrel
                by_cases hlj : j < 45
                · have hlj' : (j : Int) < 45 := by omega
                  go_wp2_with fail
                  refine (s_get2 HVj.out (j : Int)).mono ?_
                  rintro e w8 ⟨kd8, a8, l8, c8, er8, rfl, hv8, hst8, hn8, hor8⟩
                  have hn := HNj.out.off (hst8 gA (by simp))
                  have cj := hn.get j (by omega)
                  have HV8 : Hid (∀ W, Below w8.heap.size w8 W → Vw w q (1 + (m : Int)) (i + 1) (i + 1) C' L' [gA, gB] W ∧ StrB W gA (rowS C') ∧ StrB W gB (rowS L')) := fun W hW => ⟨hv8.below hW, hn.off (hW.block _ hn.lt), (HLj.out.off (hst8 gB (by simp))).off (hW.block _ (HLj.out.off (hst8 gB (by simp))).lt)⟩
                  clear HVj HNj HLj hv8 hst8 hn
                  rcases hor8 with ⟨h9, h9'⟩ | ⟨rfl, k9, zs9, h9, rfl, hb9, hz9⟩
                  · rw [h9] at cj
                    unfold strP at cj
                    have h0' : (er8 == 0) = false := by simpa using h9'
                    clear h9
                    go_wp2_with fail
                    go_quiet (fail)
                    go_wp2_with fail
                    go_roundw
                    case rel => exact ⟨j + 1, by omega, by omega, by go_num, (HV8.out _ ((Below.refl _ _).trans (dn _ _))).1, (HV8.out _ ((Below.refl _ _).trans (dn _ _))).2.1, (HV8.out _ ((Below.refl _ _).trans (dn _ _))).2.2⟩
                    case measure => simp [iOf]; omega
                  · rw [h9, ← str_plus zs9 k9] at cj
                    have hcv : ∀ n, (convert 29 9 (.slice a8 zs9.length c8)).run Tryz.prog (w8.drewN n) = .ok (.string (strOfNums zs9)) (w8.drewN n) := fun n => conv_bv (cap := c8) (hb9.below (dn _ _)) hn8
                    obtain ⟨st9, hst9, hne1, hne2⟩ := plus_st hb9.1
                    rw [hst9] at cj
                    have hj60 : (j : Int) < 60 := by omega
                    have hsz9 : ¬ 9223372036854775807 < 1 + (strOfNums zs9).size := by rw [strN_size]; omega
                    clear h9 hb9 hz9
                    go_wp2_with fail
                    go_quiet (fail)
                    go_wp2_with fail
                    go_roundw
                    case rel => exact ⟨j + 1, by omega, by omega, by go_num, (HV8.out _ ((Below.refl _ _).trans (dn _ _))).1, (HV8.out _ ((Below.refl _ _).trans (dn _ _))).2.1, (HV8.out _ ((Below.refl _ _).trans (dn _ _))).2.2⟩
                    case measure => simp [iOf]; omega
                · have hlj' : ¬ ((j : Int) < 45) := by omega
                  go_wp2_with fail
                  go_roundw
                  case rel => exact ⟨i + 1, C', L', by omega, by go_num, HVj, HNj, HLj⟩
                  case measure => simp [iOf]; omega
        · have hge : ¬ ((i : Int) < len) := by omega
          go_wp2_with (first | (go_at_call 8; refine (HA _).mono ?_; rintro e w5 ⟨rfl, hb5⟩; have M5 : Hid (Below w.heap.size w w5) := HV.out.be.trans (hb5.mono HV.out.be.size); clear HA hb5) | fail)
          go_ret
          exact ⟨rfl, M5.out⟩
theorem u8_of {a : Int} (h : (Lit.int .u8 a).wf = true) : 0 ≤ a ∧ a ≤ 255 := by
  simp [Lit.wf] at h
  exact ⟨h.1, h.2⟩
theorem tmod_nat {a : Int} (k : Nat) (hk : 0 < k) (h : 0 ≤ a) : ∃ r : Nat, r < k ∧ Int.tmod a k = r := by
  obtain ⟨n, rfl⟩ := Int.eq_ofNat_of_zero_le h
  exact ⟨n % k, Nat.mod_lt _ hk, by rw [← Int.ofNat_tmod]⟩
theorem walk (a0 : Int) (a1 : Option Addr) (len1 cap1 : Nat) (y1 : List SAct) (w : World) (w0 : (Lit.int .u8 a0).wf = true) (w1 : SActs w a1 len1 cap1 y1) :
    Calls Tryz.prog 5 #[.int .u8 a0, .slice a1 len1 cap1] w fun e w' => e = .returned (.bool true) ∧ Below w.heap.size w w' := by
  have hu : 0 ≤ a0 ∧ a0 ≤ 255 := u8_of w0
  obtain ⟨m, hm, hv⟩ := tmod_nat 5 (by decide) hu.1
  refine core a0 a1 len1 cap1 y1 w m hm hv hu.1 hu.2 w1 (fun w' dp nb mb => D.Dk w' dp nb mb (D.newS 200) ∧ w.heap.size ≤ dp ∧ w.heap.size ≤ nb ∧ w.heap.size ≤ mb ∧ Below w.heap.size w w') (fun w' p => ∃ k : Pl, k.p = p ∧ Mi w w' k f200.2.1 f200.2.2 ∧ k.z = []) (D.new_any 200 w) (fun w1 dp nb mb h => ?_) (fun w1 p h => ?_)
  · refine (v_format 200 (by decide) fz_1 dp nb mb h).mono ?_
    rintro e w' ⟨k, rfl, hk⟩
    exact ⟨k.p, rfl, k, rfl, hk.out⟩
  · obtain ⟨k, rfl, hk⟩ := h
    exact s_new (1 + (m : Int)) (by omega) (by omega) hk

set_option maxRecDepth 100000 in
theorem lifted (os : Os) (started : os.Started) (H : Type) (enc : TypeId × Value → H) :
    ReturnsInHanded {} Tryz.checked os 5 .any (Rows.poolSeesSpec.pre6 enc Tryz.prog Tryz.f5 Rows.poolSeesRow.domain false) (Rows.poolSeesSpec.post enc Tryz.prog Tryz.f5 false true false false) := by
  refine returnsInHanded_of_change (C := Tryz.checked) own started (by kernel_rfl) Tryz.func5
    (ChangeSpec.witness6 (enc := enc) (C := Tryz.checked) false ⟨#[], #[.int .u8 0, .slice none 0 0], []⟩ 8 (by kernel_rfl) (by kernel_rfl) (by kernel_rfl) (by kernel_rfl)) ?_
  intro W base args ds gs before hval0 hW hcnd _
  have hval : ∀ (j : Nat) t v, Tryz.f5.params[j]? = some t → args[j]? = some v → Value.okWide Tryz.prog W .any base t v := hval0
  have hW' := hW
  obtain ⟨p, q, hA0, hV, rfl, hfz, hnd⟩ := hW
  have hA : DataW.TrodAll enc Tryz.prog W 0 (fun _ => true) true Tryz.f5.params.toList args.toList ds p := hA0
  rw [Tryz.params5] at hA hval
  obtain ⟨v0, vs0, d0, ds0, p0, q0, hargs, rfl, rfl, h0, r0⟩ := trodAll_cons hA
  obtain ⟨v1, vs1, d1, ds1, p1, q1, rfl, rfl, rfl, h1, r1⟩ := trodAll_cons r0
  obtain ⟨rfl, rfl, rfl⟩ := trodAll_nil r1
  obtain rfl : args = #[v0, v1] := by cases args; simp_all
  obtain ⟨rfl, rfl⟩ := trodVars_none hV
  obtain ⟨a0, rfl, rfl, rfl, w0⟩ := open_int Tryz.underlying5 (hval 0 5 v0 rfl rfl) h0
  obtain ⟨a1, len1, cap1, rfl⟩ := okWide_slice Tryz.underlying22 (hval 1 22 v1 rfl rfl)
  have k1 := h1
  have lt1 : ∀ x ∈ p1, x.block < W.heap.size := by obtain ⟨m, hm⟩ := k1; exact DataW.trod_lt m _ _ _ hm
  obtain ⟨y1, w1⟩ : ∃ xs, SActs W a1 len1 cap1 xs := by
    obtain ⟨fuel, hf⟩ := h1
    exact open_sacts hf
  clear hA0 hval0
  refine (walk a0 a1 len1 cap1 y1 W w0 w1).mono fun e W' ⟨he, bel⟩ => ?_
  subst he
  exact ⟨_, rfl, _, _, _, [], _, [], hW', trodAll_mk1 (shut_bool Tryz.underlying4 _), (trodAll_cons_mk (shut_int Tryz.underlying5 w0) (trodAll_cons_mk (Below.trod laidOut (by kernel_rfl) (of_decide_eq_true (by kernel_rfl)) k1 bel lt1) trodAll_mk0)), rfl, bel.frame _, fun h => by cases h⟩

theorem over : Rows.poolSeesRow.holds Tryz.pinned (OpenSpec.ofChange Rows.poolSeesSpec) :=
  OpenClaim.holds_of_wide 5 Tryz.f5 rfl rfl rfl rfl rfl rfl rfl ⟨rfl, rfl, rfl, rfl, rfl⟩ rfl rfl rfl rfl rfl (by kernel_rfl) Tryz.func5 (by kernel_rfl)
    (of_decide_eq_true (by kernel_rfl)) (by unfold Func.isWrapper; first | (rw [if_pos (by decide +kernel)]; kernel_rfl) | (rw [if_neg (by decide +kernel)]; exact ⟨rfl, rfl⟩))
    (fun os started H enc _ => lifted os started H enc)
end Go.Proofs.YtbklnadlbcndlaaGreat.poolSees

namespace Go.Proofs.YtbklnadlbcndlaaGreat
theorem poolSees_holds : Rows.PoolSeesSaid := poolSees.over
#print axioms poolSees_holds
end Go.Proofs.YtbklnadlbcndlaaGreat
