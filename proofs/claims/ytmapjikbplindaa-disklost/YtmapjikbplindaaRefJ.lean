/- The document's disk: Crash. -/
import Derived.Test.YtmapjikbplindaaRefI
import Derived.StillTailTactics
namespace Go.Proofs.Ytmapjikbplindaa
open Go.RowKit Go.Maps
set_option maxRecDepth 20000
set_option linter.unusedVariables false

/-- What is left of a fate. -/
def crF : List Nat → List Int → List Int
  | [], f => f
  | _ :: ns, f => crF ns (stay f).2
theorem crashB_append : ∀ (xs ys : List Nat) (f : List Int) (B S : Nat → List Int), crashB (xs ++ ys) f B S = crashB ys (crF xs f) (crashB xs f B S) S
  | [], _, _, _, _ => rfl
  | _ :: xs, ys, f, B, S => crashB_append xs ys (stay f).2 _ S
theorem crF_append : ∀ (xs ys : List Nat) (f : List Int), crF (xs ++ ys) f = crF ys (crF xs f)
  | [], _, _ => rfl
  | _ :: xs, ys, f => crF_append xs ys (stay f).2
theorem crashB_notin : ∀ (ns : List Nat) (f : List Int) (B S : Nat → List Int) (m : Nat), m ∉ ns → crashB ns f B S m = B m
  | [], _, _, _, _, _ => rfl
  | n :: ns, f, B, S, m, h => by
    have h1 : m ≠ n := fun e => h (by rw [e]; simp)
    have h2 : m ∉ ns := fun e => h (List.mem_cons_of_mem _ e)
    show crashB ns (stay f).2 (upd B n (mix (B n) (S n) (stay f).1)) S m = B m
    rw [crashB_notin ns _ _ S m h2, upd_other _ _ h1]
theorem crashB_at (xs ys : List Nat) (f : List Int) (B S : Nat → List Int) (m : Nat) (ha : m ∉ xs) (hb : m ∉ ys) : crashB (xs ++ m :: ys) f B S m = mix (B m) (S m) (stay (crF xs f)).1 := by
  rw [crashB_append]
  show crashB ys (stay (crF xs f)).2 (upd (crashB xs f B S) m (mix (crashB xs f B S m) (S m) (stay (crF xs f)).1)) S m = _
  rw [crashB_notin ys _ _ S m hb, upd_same, crashB_notin xs f B S m ha]
/-- A disk behind its crash, ahead of its settling. -/
def crS (s : DS) (f : List Int) : DS := { s with B := crashB (loose s) f s.B s.S, down := false, fails := -1, done := false }
theorem crashS_eq (s : DS) (f : List Int) : crashS s f = safeS (crS s f) := rfl
theorem crS_ok {s : DS} (h : s.Ok) {f : List Int} (hf : AllB f) : (crS s f).Ok := by
  have hB := crashB_isB s.room s.S h.isS (loose s) f s.B hf (loose_lt s) h.isB
  refine ⟨h.room, hB, h.isS, fun n hn hl => ?_, by show (-1 : Int) ≤ -1; decide, by show (-1 : Int) ≤ 9223372036854775807; decide⟩
  have hnl : n ∉ loose s := fun hm => by
    have := (List.mem_filter.1 hm).2
    have hl' : s.L n = false := hl
    rw [hl'] at this; cases this
  show s.S n = crashB (loose s) f s.B s.S n
  rw [crashB_notin _ _ _ _ _ hnl]
  exact h.same n hn hl
theorem cr_step {s : DS} {ns : List Nat} (f : List Int) (hp : ns.Pairwise (· < ·)) (hl : ns.filter s.L = loose s) (k : Nat) (hk : k < ns.length) :
    (s.L (ns.getD k 0) = true → (crS s f).B (ns.getD k 0) = mix (s.B (ns.getD k 0)) (s.S (ns.getD k 0)) (stay (crF ((ns.take k).filter s.L) f)).1 ∧ crF ((ns.take (k + 1)).filter s.L) f = (stay (crF ((ns.take k).filter s.L) f)).2) ∧
    (s.L (ns.getD k 0) = false → (crS s f).B (ns.getD k 0) = s.B (ns.getD k 0) ∧ crF ((ns.take (k + 1)).filter s.L) f = crF ((ns.take k).filter s.L) f) := by
  have ft := filter_take ns s.L k hk
  have e : ns.getD k 0 = ns[k] := by simp [List.getD_eq_getElem?_getD, hk]
  have hsplit : ns = ns.take k ++ ns.getD k 0 :: ns.drop (k + 1) := by
    rw [e]; simp
  have hp2 := hp
  rw [hsplit] at hp2
  obtain ⟨_, p2, p3⟩ := List.pairwise_append.1 hp2
  have p4 := (List.pairwise_cons.1 p2).1
  have n1 : ns.getD k 0 ∉ (ns.take k).filter s.L := fun hm => by
    have := p3 _ (List.mem_filter.1 hm).1 (ns.getD k 0) (by simp)
    omega
  have n2 : ns.getD k 0 ∉ (ns.drop (k + 1)).filter s.L := fun hm => by
    have := p4 _ (List.mem_filter.1 hm).1
    omega
  refine ⟨fun h => ?_, fun h => ?_⟩
  · have hll : loose s = (ns.take k).filter s.L ++ ns.getD k 0 :: (ns.drop (k + 1)).filter s.L := by
      rw [← hl]
      conv => lhs; rw [hsplit]
      rw [List.filter_append, List.filter_cons_of_pos h]
    refine ⟨?_, ?_⟩
    · show crashB (loose s) f s.B s.S _ = _
      rw [hll, crashB_at _ _ _ _ _ _ n1 n2]
    · rw [ft, if_pos h, crF_append]; rfl
  · refine ⟨?_, by rw [ft, h]; simp⟩
    show crashB (loose s) f s.B s.S _ = _
    rw [crashB_notin]
    intro hm
    have := (List.mem_filter.1 hm).2
    rw [h] at this; cases this
theorem str_mix (b s : List Int) (t : Nat) (hb : b.length = 256) (hs : s.length = 256) (ht : t ≤ 256) : (strOfNums b).extract 0 t ++ (strOfNums s).extract t 256 = strOfNums (mix b s t) := by
  unfold mix
  have h1 : (strOfNums b).extract 0 t = strOfNums (b.take t) := by
    apply ByteArray.ext
    simp [strOfNums, List.map_take]
  have h2 : (strOfNums s).extract t 256 = strOfNums (s.drop t) := by
    apply ByteArray.ext
    simp [strOfNums, List.map_drop]
    rw [List.take_of_length_le (by simp; omega)]
  rw [h1, h2]
  apply ByteArray.ext
  simp [strOfNums]
theorem heap_new_at (w : World) (o : Obj) (i : Nat) (h : i = w.heap.size) : (w.alloc o).heap[i]? = some o := by
  subst h; exact heap_alloc_last w o
theorem BV.tail {w : World} {b off : Nat} {z : Int} {zs : List Int} (h : BV w (some ⟨b, off, none⟩) (z :: zs)) : BV w (some ⟨b, off + 1, none⟩) zs := by
  obtain ⟨hz, h1 | ⟨b', off', e, hlt, hcell⟩⟩ := h
  · cases h1
  · obtain ⟨rfl, rfl⟩ : b = b' ∧ off = off' := by simpa using e
    refine ⟨fun y hy => hz y (List.mem_cons_of_mem _ hy), .inr ⟨b, off + 1, rfl, hlt, fun i hi => ?_⟩⟩
    have := hcell (i + 1) (by simp; omega)
    rw [List.getD_cons_succ] at this
    rw [← this]; congr 2; omega
theorem BV.headc {w : World} {a : Option Addr} {z : Int} {zs : List Int} (h : BV w a (z :: zs)) : ∃ b off, a = some ⟨b, off, none⟩ ∧ b < w.heap.size ∧ w.cell? ⟨b, off, none⟩ = some (.int .u8 z) ∧ 0 ≤ z ∧ z ≤ 255 := by
  obtain ⟨hz, h1 | ⟨b, off, e, hlt, hcell⟩⟩ := h
  · cases h1
  · have := hcell 0 (by simp)
    rw [Nat.add_zero, List.getD_cons_zero] at this
    exact ⟨b, off, e, hlt, this, hz z (by simp)⟩
theorem str_none (b s : ByteArray) : b.extract 0 0 ++ s = s := by
  apply ByteArray.ext; simp
theorem wrap_small (n : Nat) (h : n ≤ 256) : wrap64 (n : Int) = (n : Int) ∧ IntKind.i64.wrap (n : Int) = (n : Int) := ⟨by unfold wrap64; omega, by rw [IntKind.wrap_i64]; omega⟩
theorem world_named {P : Program} {C : Code} {Q : Exit → Act → World → Prop} {a : Act} {w0 : World} (F : World → Prop) (h0 : F w0) (h : ∀ V, F V → C.wp P Q a V) : C.wp P Q a w0 := h w0 h0
theorem mix_none (b s : List Int) : mix b s 0 = s := by simp [mix]
theorem mix_all {b s : List Int} (hb : b.length = 256) (hs : s.length = 256) : mix b s 256 = b := by
  unfold mix
  rw [List.take_of_length_le (by omega), List.drop_eq_nil_of_le (by omega), List.append_nil]
set_option maxHeartbeats 3200000 in
theorem rcrash_any (X : List Nat) (v fv : Value) (s : DS) (fs : List Int) (w : World) (h : Rf w X v s) (hX : ∀ x ∈ X, x < w.heap.size) (hf : FV w [] fv fs) :
    Calls Try.prog 28 #[v, fv] w fun e w' => ∃ v', e = .returned v' ∧ Rf w' X v' (crashS s fs) ∧ Below w.heap.size w w' := by
  have hall : AllB fs := by obtain ⟨_, _, _, _, _, hb, _⟩ := hf; exact hb.1
  obtain ⟨ok, lv, done, ns, rfl, h1, h2, h3, h4, h5, h6⟩ := h
  have hlen := pw_len h2 h3
  have hroom := ok.room
  have hloose : ns.filter s.L = loose s := loose_eq h2 h3 (fun n hn hm => (h4 n hn hm).2.2)
  obtain ⟨a, cap, rfl, hcap, hcm, hcell⟩ := rf_cells h5
  have HC : Hid (∀ i, i < ns.length → ∃ g, a = some ⟨g, 0, none⟩ ∧ g < w.heap.size ∧ w.cell? ⟨g, i * 4, none⟩ = some (.int .i64 (ns.getD i 0 : Nat)) ∧ w.cell? ⟨g, i * 4 + 1, none⟩ = some (.string (strOfNums (s.B (ns.getD i 0)))) ∧ w.cell? ⟨g, i * 4 + 2, none⟩ = some (.string (strOfNums (s.S (ns.getD i 0)))) ∧ w.cell? ⟨g, i * 4 + 3, none⟩ = some (.bool (s.L (ns.getD i 0)))) := hcell
  have HST : Hid (∀ k, k < ns.length → (s.L (ns.getD k 0) = true → (crS s fs).B (ns.getD k 0) = mix (s.B (ns.getD k 0)) (s.S (ns.getD k 0)) (stay (crF ((ns.take k).filter s.L) fs)).1 ∧ crF ((ns.take (k + 1)).filter s.L) fs = (stay (crF ((ns.take k).filter s.L) fs)).2) ∧
    (s.L (ns.getD k 0) = false → (crS s fs).B (ns.getD k 0) = s.B (ns.getD k 0) ∧ crF ((ns.take (k + 1)).filter s.L) fs = crF ((ns.take k).filter s.L) fs)) := fun k hk => cr_step fs h2 hloose k hk
  have HIB : Hid (∀ k, k < ns.length → (s.B (ns.getD k 0)).length = 256 ∧ (s.S (ns.getD k 0)).length = 256) := fun k hk => by
    have hm : ns.getD k 0 < s.room := h3 _ (by rw [List.getD_eq_getElem?_getD, List.getElem?_eq_getElem hk]; exact List.getElem_mem hk)
    exact ⟨(ok.isB _ hm).1, (ok.isS _ hm).1⟩
  have HSF : Hid (∀ w' lv', w.heap.size ≤ w'.heap.size → Blks w' w.heap.size lv' (ns.map (entOf (crS s fs))) → Calls Try.prog 44 #[.agg #[.int .i64 s.room, lv', .bool false, .int .i64 s.ops, .int .i64 s.reads, .int .i64 (-1), .bool false]] w' fun e w2 => ∃ a3 n3 c3, e = .returned (.agg #[.int .i64 s.room, .slice a3 n3 c3, .bool false, .int .i64 s.ops, .int .i64 s.reads, .int .i64 (-1), .bool false]) ∧ Rf w2 X (.agg #[.int .i64 s.room, .slice a3 n3 c3, .bool false, .int .i64 s.ops, .int .i64 s.reads, .int .i64 (-1), .bool false]) (crashS s fs) ∧ Below w'.heap.size w' w2) := by
    intro w' lv' hws hb
    have hr : Rf w' X (.agg (rcells (crS s fs) lv' false)) (crS s fs) := by
      refine ⟨crS_ok ok hall, lv', false, ns, rfl, fun h => absurd h (by show ¬ (0 : Int) ≤ -1; decide), h2, h3, ?_, hb.mono (Nat.zero_le _), ?_⟩
      · intro n hn hm
        have hnl : n ∉ loose s := by rw [← hloose]; exact fun hh => hm (List.mem_filter.1 hh).1
        obtain ⟨q1, q2, q3⟩ := h4 n hn hm
        refine ⟨?_, q2, q3⟩
        show crashB (loose s) fs s.B s.S n = zs256
        rw [crashB_notin _ _ _ _ _ hnl]
        exact q1
      · intro g hg hm
        have := (World.ownsRow.lt hb g hg).1
        have := hX g hm
        omega
    refine (rsafe_any X lv' false (crS s fs) w' hr (fun x hx => Nat.lt_of_lt_of_le (hX x hx) hws)).mono ?_
    rintro e w2 ⟨lv2, rfl, hr2, hb2⟩
    obtain ⟨a3, n3, c3, rfl⟩ := hr2.lv
    exact ⟨a3, n3, c3, rfl, hr2, hb2⟩
  obtain ⟨fa, fc, rfl, hfc, hfm, hfb, _⟩ := hf
  have HF0 : Hid (BV w fa fs) := hfb
  clear hcell h1 h2 h3 h4 h5 h6 ok hloose hfb hall
  generalize hN : ns.length = N at *
  have HLN : Hid (ns.length = N) := hN
  clear hN
  obtain ⟨W, hW⟩ : ∃ W, W = (w.alloc (.cells (rcells s (.slice a N cap) done) 28)).alloc (.cells #[.int .i64 0, .slice none 0 0, .bool false, .int .i64 0, .int .i64 0, .int .i64 0, .bool false] 28) := ⟨_, rfl⟩
  have hBW : Below w.heap.size w W := by
    rw [hW]
    exact two_new _ _ _
  have hWs : Hid (W.heap.size = w.heap.size + 2) := by
    have : W.heap.size = w.heap.size + 2 := by rw [hW]; simp
    exact this
  have cW : Hid (∀ (W' : World), Below (w.heap.size + 2) W W' → W'.heap[w.heap.size]? = some (.cells #[.int .i64 s.room, .slice a N cap, .bool s.down, .int .i64 s.ops, .int .i64 s.reads, .int .i64 s.fails, .bool done] 28 (0, 0)) ∧ W'.heap[w.heap.size + 1]? = some (.cells #[.int .i64 0, .slice none 0 0, .bool false, .int .i64 0, .int .i64 0, .int .i64 0, .bool false] 28 (0, 0))) := by
    intro W' hb
    have := hWs.out
    rw [hb.block w.heap.size (by omega), hb.block (w.heap.size + 1) (by omega), hW]
    exact ⟨heap_alloc2_old _ _ _, heap_alloc2_new _ _ _⟩
  go_enter Try.func28, Try.ntmps28
  go_wp2_with fail
  unfold rcells at hW
  rw [← hW]
  go_loopw [1, 5, 6] (fun fv lv iv wr => ∃ (k : Nat) (fa : Option Addr) (fc : Nat) (fk : List Int) (fl : Nat), k ≤ N ∧ iv = .int .i64 k ∧ fv = .slice fa fl fc ∧ fk.length = fl ∧ fl ≤ fc ∧ fc ≤ 9223372036854775807 ∧ Hid (BV w fa fk) ∧ Hid (crF ((ns.take k).filter s.L) fs = fk) ∧ Hid (Blks wr (w.heap.size + 2) lv ((ns.take k).map (entOf (crS s fs)))) ∧ Hid (Below (w.heap.size + 2) W wr)) (fun _ _ iv _ => N - (intOf iv).toNat)
  case atStart => exact ⟨0, fa, fc, fs, fs.length, Nat.zero_le _, rfl, rfl, rfl, hfc, hfm, HF0.out, rfl, Blks.nil _ _, Below.refl _ _⟩
  case round =>
    obtain ⟨k, fa, fc, fk, fl, hk, rfl, rfl, hfl, hflc, hfcm, HFB, HCR, HB, HW⟩ := hrel
    obtain ⟨b0, b1⟩ := cW.out wr HW.out
    obtain ⟨r0, r1, r2, r3, r4, r5, r6, t0, t1, t2, t3, t4, t5, t6⟩ := RC.of b0
    have hBr : Below w.heap.size w wr := hBW.trans (HW.out.mono (by omega))
    have hws : w.heap.size + 2 ≤ wr.heap.size := by have := HW.out.size; have := hWs.out; omega
    have HBR : Hid (Below w.heap.size w wr) := hBr
    clear b0 b1 hBr hW
    by_cases hlt : k < N
    · obtain ⟨g, rfl, hgs, c0, c1, c2, c3⟩ := HC.out k hlt
      have d0 := (HBR.out.cell (p := ⟨g, k * 4, none⟩) hgs).trans c0
      have d1 := (HBR.out.cell (p := ⟨g, k * 4 + 1, none⟩) hgs).trans c1
      have d2 := (HBR.out.cell (p := ⟨g, k * 4 + 2, none⟩) hgs).trans c2
      have d3 := (HBR.out.cell (p := ⟨g, k * 4 + 3, none⟩) hgs).trans c3
      have hdk : decide ((k : Int) < (N : Int)) = true := by simp; omega
      have HT : Hid ((ns.take (k + 1)).map (entOf (crS s fs)) = (ns.take k).map (entOf (crS s fs)) ++ [entOf (crS s fs) (ns.getD k 0)]) := take_succ_getD ns k (by have := HLN.out; omega) (entOf (crS s fs))
      have HEC : Hid (entOf (crS s fs) (ns.getD k 0) = ⟨ns.getD k 0, (crS s fs).B (ns.getD k 0), s.S (ns.getD k 0), s.L (ns.getD k 0)⟩) := rfl
      have HLE : Hid (((ns.take k).map (entOf (crS s fs))).length ≤ 1000000) := by
        have : ((ns.take k).map (entOf (crS s fs))).length ≤ 1000000 := by simp; omega
        exact this
      obtain ⟨sT, sF⟩ := HST.out k (by have := HLN.out; omega)
      obtain ⟨iB, iS⟩ := HIB.out k (by have := HLN.out; omega)
      rw [HCR.out] at sT sF
      have HNX : Hid (crF ((ns.take (k + 1)).filter s.L) fs = crF ((ns.take (k + 1)).filter s.L) fs) := rfl
      clear c0 c1 c2 c3 HC HSF HST HIB cW
      generalize hmm : ns.getD k 0 = m at *
      generalize hen : entOf (crS s fs) m = em at *
      generalize hTm : (crS s fs).B m = Tm at *
      generalize hfn : crF ((ns.take (k + 1)).filter s.L) fs = fn at *
      have HFN : Hid (crF ((ns.take (k + 1)).filter s.L) fs = fn) := hfn
      generalize hbm : s.B m = bm at *
      generalize hsm : s.S m = sm at *
      clear hmm hen hTm hfn hbm hsm HNX
      cases hL : s.L m
      · obtain ⟨rfl, rfl⟩ := sF hL
        rw [hL] at d3 HEC
        have HEC2 : Hid (em.cells.toArray = #[.int .i64 m, .string (strOfNums Tm), .string (strOfNums sm), .bool false]) := by rw [HEC.out]; rfl
        clear sT sF hL
        go_wp2_with (first
          | (at_builtin; refine wp_app1 rfl _ _ rfl (w.heap.size + 2) _ ((ns.take k).map (entOf (crS s fs))) em rfl (HB.out.off (Off.of_below (X := []) (by repeat (first | refine Below.setCell ?_ (by simp <;> omega) _ | refine Below.alloc ?_ (by simp <;> omega) _ | refine Below.drew ?_ | refine below_drewN ?_ _ | exact Below.refl _ _))) (by simp)) _ rfl (by rw [HEC2.out]; exact heap_new_at _ _ _ (by simp)) HLE.out (by simp <;> omega) ?_; intro lv' w2 hB2 hb2; have HW2 : Hid (Below (w.heap.size + 2) W w2) := HW.out.trans (Below.trans (by first | exact (Below.mono (by repeat (first | refine Below.setCell ?_ (by simp <;> omega) _ | refine Below.alloc ?_ (by simp <;> omega) _ | refine Below.drew ?_ | refine below_drewN ?_ _ | exact Below.refl _ _)) hws)) hb2); have HB2 : Hid (Blks w2 (w.heap.size + 2) lv' ((ns.take k).map (entOf (crS s fs)) ++ [em])) := hB2; clear hB2 hb2)
          | fail)
        go_roundw
        case rel => exact ⟨k + 1, fa, fc, _, fl, by omega, by go_num, rfl, hfl, by omega, by omega, HFB.out, HFN.out, by rw [HT.out]; exact HB2.out, HW2.out⟩
        case measure => simp [intOf]; omega
      · obtain ⟨hT, hF⟩ := sT hL
        rw [hL] at d3 HEC
        clear sT sF hL
        cases fk with
        | nil =>
          obtain rfl : 0 = fl := hfl
          have hF2 : fn = [] := hF
          obtain rfl : Tm = sm := hT.trans (mix_none bm sm)
          have HEC2 : Hid (em.cells.toArray = #[.int .i64 m, .string (strOfNums Tm), .string (strOfNums Tm), .bool true]) := by rw [HEC.out]; rfl
          clear hT hF
          go_wp2_with (first
            | (at_builtin; refine wp_app1 rfl _ _ rfl (w.heap.size + 2) _ ((ns.take k).map (entOf (crS s fs))) em rfl (HB.out.off (Off.of_below (X := []) (by repeat (first | refine Below.setCell ?_ (by simp <;> omega) _ | refine Below.alloc ?_ (by simp <;> omega) _ | refine Below.drew ?_ | refine below_drewN ?_ _ | exact Below.refl _ _))) (by simp)) _ rfl (by rw [HEC2.out]; exact heap_new_at _ _ _ (by simp)) HLE.out (by simp <;> omega) ?_; intro lv' w2 hB2 hb2; have HW2 : Hid (Below (w.heap.size + 2) W w2) := HW.out.trans (Below.trans (by first | exact (Below.mono (by repeat (first | refine Below.setCell ?_ (by simp <;> omega) _ | refine Below.alloc ?_ (by simp <;> omega) _ | refine Below.drew ?_ | refine below_drewN ?_ _ | exact Below.refl _ _)) hws)) hb2); have HB2 : Hid (Blks w2 (w.heap.size + 2) lv' ((ns.take k).map (entOf (crS s fs)) ++ [em])) := hB2; clear hB2 hb2)
            | fail)
          go_roundw
          case rel => exact ⟨k + 1, fa, fc, [], 0, by omega, by go_num, rfl, rfl, by omega, by omega, HFB.out, HFN.out.trans hF2, by rw [HT.out]; exact HB2.out, HW2.out⟩
          case measure => simp [intOf]; omega
        | cons z zs =>
          obtain ⟨b, off, rfl, hbs, hc0, hz0, hz1⟩ := HFB.out.headc
          have q0 := (HBR.out.cell (p := ⟨b, off, none⟩) hbs).trans hc0
          have hbw : b < wr.heap.size := by omega
          have hbne : b ≠ wr.heap.size := by omega
          obtain ⟨n, hn⟩ : ∃ n, zs.length = n := ⟨_, rfl⟩
          obtain rfl : n + 1 = fl := by rw [← hn]; exact hfl
          have htm : Int.tmod z 3 = z % 3 := Int.tmod_eq_emod_of_nonneg hz0
          have hwz : wrap64 z = z := by unfold wrap64; omega
          have hw3 : wrap64 (z % 3) = z % 3 := by unfold wrap64; omega
          have hwk : IntKind.i64.wrap (z % 3) = z % 3 := by rw [IntKind.wrap_i64]; omega
          have hwk2 : IntKind.i64.wrap z = z := by rw [IntKind.wrap_i64]; omega
          unfold stay nxt at hT hF
          simp only at hT hF
          clear hc0 hfl
          by_cases hk0 : z % 3 = 0
          · rw [if_pos hk0] at hT hF
            have hF2 : fn = zs := hF
            have e2 : (z % 3 == 2) = false := by rw [hk0]; rfl
            have e0 : (z % 3 == 0) = true := by rw [hk0]; rfl
            obtain rfl : Tm = sm := hT.trans (mix_none bm sm)
            have HEC2 : Hid (em.cells.toArray = #[.int .i64 m, .string (strOfNums Tm), .string (strOfNums Tm), .bool true]) := by rw [HEC.out]; rfl
            clear hT hF HEC
            by_cases hc1 : fc = 1
            · obtain rfl : zs = [] := List.eq_nil_of_length_eq_zero (by omega)
              obtain rfl : 0 = n := hn
              subst hc1
              go_wp2_with fail
              go_quiet (fail)
              go_wp2_with (first
                | (at_builtin; refine wp_app1 rfl _ _ rfl (w.heap.size + 2) _ ((ns.take k).map (entOf (crS s fs))) em rfl (HB.out.off (Off.of_below (X := []) (by repeat (first | refine Below.setCell ?_ (by simp <;> omega) _ | refine Below.alloc ?_ (by simp <;> omega) _ | refine Below.drew ?_ | refine below_drewN ?_ _ | exact Below.refl _ _))) (by simp)) _ rfl (by rw [HEC2.out]; exact heap_new_at _ _ _ (by simp)) HLE.out (by simp <;> omega) ?_; intro lv' w2 hB2 hb2; have HW2 : Hid (Below (w.heap.size + 2) W w2) := HW.out.trans (Below.trans (by first | exact (Below.mono (by repeat (first | refine Below.setCell ?_ (by simp <;> omega) _ | refine Below.alloc ?_ (by simp <;> omega) _ | refine Below.drew ?_ | refine below_drewN ?_ _ | exact Below.refl _ _)) hws)) hb2); have HB2 : Hid (Blks w2 (w.heap.size + 2) lv' ((ns.take k).map (entOf (crS s fs)) ++ [em])) := hB2; clear hB2 hb2)
                | fail)
              go_roundw
              case rel => exact ⟨k + 1, some ⟨b, off, none⟩, 0, [], 0, by omega, by go_num, rfl, rfl, by omega, by omega, ⟨AllB.nil, .inl rfl⟩, HFN.out.trans hF2, by rw [HT.out]; exact HB2.out, HW2.out⟩
              case measure => simp [intOf]; omega
            · go_wp2_with fail
              go_quiet (fail)
              go_wp2_with (first
                | (at_builtin; refine wp_app1 rfl _ _ rfl (w.heap.size + 2) _ ((ns.take k).map (entOf (crS s fs))) em rfl (HB.out.off (Off.of_below (X := []) (by repeat (first | refine Below.setCell ?_ (by simp <;> omega) _ | refine Below.alloc ?_ (by simp <;> omega) _ | refine Below.drew ?_ | refine below_drewN ?_ _ | exact Below.refl _ _))) (by simp)) _ rfl (by rw [HEC2.out]; exact heap_new_at _ _ _ (by simp)) HLE.out (by simp <;> omega) ?_; intro lv' w2 hB2 hb2; have HW2 : Hid (Below (w.heap.size + 2) W w2) := HW.out.trans (Below.trans (by first | exact (Below.mono (by repeat (first | refine Below.setCell ?_ (by simp <;> omega) _ | refine Below.alloc ?_ (by simp <;> omega) _ | refine Below.drew ?_ | refine below_drewN ?_ _ | exact Below.refl _ _)) hws)) hb2); have HB2 : Hid (Blks w2 (w.heap.size + 2) lv' ((ns.take k).map (entOf (crS s fs)) ++ [em])) := hB2; clear hB2 hb2)
                | fail)
              go_roundw
              case rel => exact ⟨k + 1, some ⟨b, off + 1, none⟩, fc - 1, zs, n, by omega, by go_num, rfl, hn, by omega, by omega, HFB.out.tail, HFN.out.trans hF2, by rw [HT.out]; exact HB2.out, HW2.out⟩
              case measure => simp [intOf]; omega
          · rw [if_neg hk0] at hT hF
            by_cases hk1 : z % 3 = 1
            · rw [if_pos hk1] at hT hF
              have hF2 : fn = zs := hF
              have e2 : (z % 3 == 2) = false := by rw [hk1]; rfl
              have e0 : (z % 3 == 0) = false := by rw [hk1]; rfl
              obtain rfl : Tm = bm := hT.trans (mix_all iB iS)
              have HEC2 : Hid (em.cells.toArray = #[.int .i64 m, .string (strOfNums Tm), .string (strOfNums sm), .bool true]) := by rw [HEC.out]; rfl
              clear hT hF HEC
              by_cases hc1 : fc = 1
              · obtain rfl : zs = [] := List.eq_nil_of_length_eq_zero (by omega)
                obtain rfl : 0 = n := hn
                subst hc1
                go_wp2_with fail
                go_quiet (fail)
                go_wp2_with (first
                  | (at_builtin; refine wp_app1 rfl _ _ rfl (w.heap.size + 2) _ ((ns.take k).map (entOf (crS s fs))) em rfl (HB.out.off (Off.of_below (X := []) (by repeat (first | refine Below.setCell ?_ (by simp <;> omega) _ | refine Below.alloc ?_ (by simp <;> omega) _ | refine Below.drew ?_ | refine below_drewN ?_ _ | exact Below.refl _ _))) (by simp)) _ rfl (by rw [HEC2.out]; exact heap_new_at _ _ _ (by simp)) HLE.out (by simp <;> omega) ?_; intro lv' w2 hB2 hb2; have HW2 : Hid (Below (w.heap.size + 2) W w2) := HW.out.trans (Below.trans (by first | exact (Below.mono (by repeat (first | refine Below.setCell ?_ (by simp <;> omega) _ | refine Below.alloc ?_ (by simp <;> omega) _ | refine Below.drew ?_ | refine below_drewN ?_ _ | exact Below.refl _ _)) hws)) hb2); have HB2 : Hid (Blks w2 (w.heap.size + 2) lv' ((ns.take k).map (entOf (crS s fs)) ++ [em])) := hB2; clear hB2 hb2)
                  | fail)
                go_roundw
                case rel => exact ⟨k + 1, some ⟨b, off, none⟩, 0, [], 0, by omega, by go_num, rfl, rfl, by omega, by omega, ⟨AllB.nil, .inl rfl⟩, HFN.out.trans hF2, by rw [HT.out]; exact HB2.out, HW2.out⟩
                case measure => simp [intOf]; omega
              · go_wp2_with fail
                go_quiet (fail)
                go_wp2_with (first
                  | (at_builtin; refine wp_app1 rfl _ _ rfl (w.heap.size + 2) _ ((ns.take k).map (entOf (crS s fs))) em rfl (HB.out.off (Off.of_below (X := []) (by repeat (first | refine Below.setCell ?_ (by simp <;> omega) _ | refine Below.alloc ?_ (by simp <;> omega) _ | refine Below.drew ?_ | refine below_drewN ?_ _ | exact Below.refl _ _))) (by simp)) _ rfl (by rw [HEC2.out]; exact heap_new_at _ _ _ (by simp)) HLE.out (by simp <;> omega) ?_; intro lv' w2 hB2 hb2; have HW2 : Hid (Below (w.heap.size + 2) W w2) := HW.out.trans (Below.trans (by first | exact (Below.mono (by repeat (first | refine Below.setCell ?_ (by simp <;> omega) _ | refine Below.alloc ?_ (by simp <;> omega) _ | refine Below.drew ?_ | refine below_drewN ?_ _ | exact Below.refl _ _)) hws)) hb2); have HB2 : Hid (Blks w2 (w.heap.size + 2) lv' ((ns.take k).map (entOf (crS s fs)) ++ [em])) := hB2; clear hB2 hb2)
                  | fail)
                go_roundw
                case rel => exact ⟨k + 1, some ⟨b, off + 1, none⟩, fc - 1, zs, n, by omega, by go_num, rfl, hn, by omega, by omega, HFB.out.tail, HFN.out.trans hF2, by rw [HT.out]; exact HB2.out, HW2.out⟩
                case measure => simp [intOf]; omega
            · rw [if_neg hk1] at hT hF
              have hk2 : z % 3 = 2 := by omega
              have e2 : (z % 3 == 2) = true := by rw [hk2]; rfl
              have e0 : (z % 3 == 0) = false := by rw [hk2]; rfl
              cases zs with
              | nil =>
                obtain rfl : 0 = n := hn
                have hF2 : fn = [] := hF
                have hT2 : Tm = mix bm sm 0 := by simpa using hT
                have hTm : strOfNums Tm = (strOfNums bm).extract 0 0 ++ (strOfNums sm).extract 0 256 := by rw [str_mix bm sm 0 iB iS (by omega), hT2]
                have zB : (strOfNums bm).size = 256 := by rw [strOfNums_size]; exact iB
                have zS : (strOfNums sm).size = 256 := by rw [strOfNums_size]; exact iS
                clear hT hT2 hF
                have HEC2 : Hid (em.cells.toArray = #[.int .i64 m, .string ((strOfNums sm).extract 0 256), .string (strOfNums sm), .bool true]) := by
                  have e : strOfNums Tm = (strOfNums sm).extract 0 256 := by rw [hTm, str_none]
                  rw [HEC.out, ← e]; rfl
                clear HEC hTm
                by_cases hc1 : fc = 1
                · subst hc1
                  go_wp2_with fail
                  go_quiet (fail)
                  go_wp2_with fail
                  refine world_named (fun V => V.heap[wr.heap.size]? = some (.cells #[.int .i64 m, .string (strOfNums bm), .string (strOfNums sm), .bool true] 85 (0, 0)) ∧ Below wr.heap.size wr V) ⟨heap_alloc_last wr _, (by repeat (first | refine Below.setCell ?_ (by simp <;> omega) _ | refine Below.alloc ?_ (by simp <;> omega) _ | refine Below.drew ?_ | refine below_drewN ?_ _ | exact Below.refl _ _))⟩ ?_
                  rintro V ⟨vb, hbv⟩
                  have v0 := cell_of_row V wr.heap.size 0 _ 85 (0, 0) vb
                  have v1 := cell_of_row V wr.heap.size 1 _ 85 (0, 0) vb
                  have v2 := cell_of_row V wr.heap.size 2 _ 85 (0, 0) vb
                  have v3 := cell_of_row V wr.heap.size 3 _ 85 (0, 0) vb
                  simp only [List.getElem?_toArray, List.getElem?_cons_succ, List.getElem?_cons_zero] at v0 v1 v2 v3
                  have vf := frozen_of_row V wr.heap.size 1 _ 85 vb
                  have HBV : Hid (Below wr.heap.size wr V) := hbv
                  have HVB : Hid (V.heap[wr.heap.size]? = some (.cells #[.int .i64 m, .string (strOfNums bm), .string (strOfNums sm), .bool true] 85 (0, 0))) := vb
                  have hvs : wr.heap.size < V.heap.size := (Array.getElem?_eq_some_iff.1 vb).1
                  clear hbv vb
                  refine wp_region_still_tail 10 (by kernel_rfl) (by kernel_rfl) ?_
                  simp only [List.take_succ_cons, List.take_zero, List.drop_succ_cons, List.drop_zero]
                  iterate 10 still_step
                  refine wpStill_nil ?_
                  change wpList _ _ _ _ _ V.drew
                  go_wp2_with (first
                    | (at_builtin; refine wp_app1 rfl _ _ rfl (w.heap.size + 2) _ ((ns.take k).map (entOf (crS s fs))) em rfl (HB.out.off (Off.of_below (X := []) (by refine Below.trans HBV.out ?_; repeat (first | refine Below.setCell ?_ (by simp <;> omega) _ | refine Below.alloc ?_ (by simp <;> omega) _ | refine Below.drew ?_ | exact Below.refl _ _))) (by simp)) _ rfl (by rw [HEC2.out]; exact heap_new_at _ _ _ (by simp)) HLE.out (by simp <;> omega) ?_; intro lv' w2 hB2 hb2; have HW2 : Hid (Below (w.heap.size + 2) W w2) := HW.out.trans (Below.trans (Below.mono (by refine Below.trans HBV.out ?_; repeat (first | refine Below.setCell ?_ (by simp <;> omega) _ | refine Below.alloc ?_ (by simp <;> omega) _ | refine Below.drew ?_ | exact Below.refl _ _)) hws) hb2); have HB2 : Hid (Blks w2 (w.heap.size + 2) lv' ((ns.take k).map (entOf (crS s fs)) ++ [em])) := hB2; clear hB2 hb2)
                    | fail)
                  go_roundw
                  case rel => exact ⟨k + 1, some ⟨b, off, none⟩, 0, [], 0, by omega, by go_num, rfl, rfl, by omega, by omega, ⟨AllB.nil, .inl rfl⟩, HFN.out.trans hF2, by rw [HT.out]; exact HB2.out, HW2.out⟩
                  case measure => simp [intOf]; omega
                · skip
                  go_wp2_with fail
                  go_quiet (fail)
                  go_wp2_with fail
                  refine world_named (fun V => V.heap[wr.heap.size]? = some (.cells #[.int .i64 m, .string (strOfNums bm), .string (strOfNums sm), .bool true] 85 (0, 0)) ∧ Below wr.heap.size wr V) ⟨heap_alloc_last wr _, (by repeat (first | refine Below.setCell ?_ (by simp <;> omega) _ | refine Below.alloc ?_ (by simp <;> omega) _ | refine Below.drew ?_ | refine below_drewN ?_ _ | exact Below.refl _ _))⟩ ?_
                  rintro V ⟨vb, hbv⟩
                  have v0 := cell_of_row V wr.heap.size 0 _ 85 (0, 0) vb
                  have v1 := cell_of_row V wr.heap.size 1 _ 85 (0, 0) vb
                  have v2 := cell_of_row V wr.heap.size 2 _ 85 (0, 0) vb
                  have v3 := cell_of_row V wr.heap.size 3 _ 85 (0, 0) vb
                  simp only [List.getElem?_toArray, List.getElem?_cons_succ, List.getElem?_cons_zero] at v0 v1 v2 v3
                  have vf := frozen_of_row V wr.heap.size 1 _ 85 vb
                  have HBV : Hid (Below wr.heap.size wr V) := hbv
                  have HVB : Hid (V.heap[wr.heap.size]? = some (.cells #[.int .i64 m, .string (strOfNums bm), .string (strOfNums sm), .bool true] 85 (0, 0))) := vb
                  have hvs : wr.heap.size < V.heap.size := (Array.getElem?_eq_some_iff.1 vb).1
                  clear hbv vb
                  refine wp_region_still_tail 10 (by kernel_rfl) (by kernel_rfl) ?_
                  simp only [List.take_succ_cons, List.take_zero, List.drop_succ_cons, List.drop_zero]
                  iterate 10 still_step
                  refine wpStill_nil ?_
                  change wpList _ _ _ _ _ V.drew
                  go_wp2_with (first
                    | (at_builtin; refine wp_app1 rfl _ _ rfl (w.heap.size + 2) _ ((ns.take k).map (entOf (crS s fs))) em rfl (HB.out.off (Off.of_below (X := []) (by refine Below.trans HBV.out ?_; repeat (first | refine Below.setCell ?_ (by simp <;> omega) _ | refine Below.alloc ?_ (by simp <;> omega) _ | refine Below.drew ?_ | exact Below.refl _ _))) (by simp)) _ rfl (by rw [HEC2.out]; exact heap_new_at _ _ _ (by simp)) HLE.out (by simp <;> omega) ?_; intro lv' w2 hB2 hb2; have HW2 : Hid (Below (w.heap.size + 2) W w2) := HW.out.trans (Below.trans (Below.mono (by refine Below.trans HBV.out ?_; repeat (first | refine Below.setCell ?_ (by simp <;> omega) _ | refine Below.alloc ?_ (by simp <;> omega) _ | refine Below.drew ?_ | exact Below.refl _ _)) hws) hb2); have HB2 : Hid (Blks w2 (w.heap.size + 2) lv' ((ns.take k).map (entOf (crS s fs)) ++ [em])) := hB2; clear hB2 hb2)
                    | fail)
                  go_roundw
                  case rel => exact ⟨k + 1, some ⟨b, off + 1, none⟩, fc - 1, [], 0, by omega, by go_num, rfl, rfl, by omega, by omega, ⟨AllB.nil, .inl rfl⟩, HFN.out.trans hF2, by rw [HT.out]; exact HB2.out, HW2.out⟩
                  case measure => simp [intOf]; omega
              | cons t zs =>
                have hbt := HFB.out.tail
                obtain ⟨b', off', e', hbs', hct, ht0, ht1⟩ := hbt.headc
                obtain ⟨rfl, rfl⟩ : b = b' ∧ off + 1 = off' := by simpa using e'
                have q1 := (HBR.out.cell (p := ⟨b, off + 1, none⟩) hbs).trans hct
                have hF2 : fn = zs := hF
                obtain ⟨tn, rfl⟩ : ∃ tn : Nat, t = (tn : Int) := ⟨t.toNat, by omega⟩
                have htn : tn ≤ 256 := by omega
                have htI : (tn : Int) ≤ 256 := by omega
                have htI0 : (0 : Int) ≤ (tn : Int) := by omega
                have hT2 : Tm = mix bm sm tn := by rw [hT, Int.toNat_natCast]
                have hTm : strOfNums Tm = (strOfNums bm).extract 0 tn ++ (strOfNums sm).extract tn 256 := by rw [str_mix bm sm tn iB iS htn, hT2]
                have zB : (strOfNums bm).size = 256 := by rw [strOfNums_size]; exact iB
                have zS : (strOfNums sm).size = 256 := by rw [strOfNums_size]; exact iS
                have hsz : ((strOfNums bm).extract 0 tn).size + ((strOfNums sm).extract tn 256).size = 256 := by
                  rw [ByteArray.size_extract, ByteArray.size_extract, zB, zS]; omega
                have HEC2 : Hid (em.cells.toArray = #[.int .i64 m, .string ((strOfNums bm).extract 0 tn ++ (strOfNums sm).extract tn 256), .string (strOfNums sm), .bool true]) := by
                  rw [HEC.out, ← hTm]; rfl
                obtain ⟨n2, hn2⟩ : ∃ n2, zs.length = n2 := ⟨_, rfl⟩
                obtain rfl : n2 + 1 = n := by rw [← hn2]; exact hn
                have hwt := (wrap_small tn htn).1
                have hwt2 := (wrap_small tn htn).2
                have hHB : Hid (BV w (some ⟨b, off + 1 + 1, none⟩) zs) := hbt.tail
                have hfc1 : ¬ fc = 1 := by omega
                clear hT hT2 hF HEC hTm e' hbt hct hn HFB
                by_cases hc2 : fc - 1 = 1
                · obtain rfl : zs = [] := List.eq_nil_of_length_eq_zero (by omega)
                  obtain rfl : 0 = n2 := hn2
                  obtain rfl : fc = 2 := by omega
                  go_wp2_with fail
                  go_quiet (fail)
                  go_wp2_with fail
                  go_quiet (fail)
                  go_wp2_with fail
                  refine world_named (fun V => V.heap[wr.heap.size]? = some (.cells #[.int .i64 m, .string (strOfNums bm), .string (strOfNums sm), .bool true] 85 (0, 0)) ∧ Below wr.heap.size wr V) ⟨heap_alloc_last wr _, (by repeat (first | refine Below.setCell ?_ (by simp <;> omega) _ | refine Below.alloc ?_ (by simp <;> omega) _ | refine Below.drew ?_ | refine below_drewN ?_ _ | exact Below.refl _ _))⟩ ?_
                  rintro V ⟨vb, hbv⟩
                  have v0 := cell_of_row V wr.heap.size 0 _ 85 (0, 0) vb
                  have v1 := cell_of_row V wr.heap.size 1 _ 85 (0, 0) vb
                  have v2 := cell_of_row V wr.heap.size 2 _ 85 (0, 0) vb
                  have v3 := cell_of_row V wr.heap.size 3 _ 85 (0, 0) vb
                  simp only [List.getElem?_toArray, List.getElem?_cons_succ, List.getElem?_cons_zero] at v0 v1 v2 v3
                  have vf := frozen_of_row V wr.heap.size 1 _ 85 vb
                  have HBV : Hid (Below wr.heap.size wr V) := hbv
                  have HVB : Hid (V.heap[wr.heap.size]? = some (.cells #[.int .i64 m, .string (strOfNums bm), .string (strOfNums sm), .bool true] 85 (0, 0))) := vb
                  have hvs : wr.heap.size < V.heap.size := (Array.getElem?_eq_some_iff.1 vb).1
                  clear hbv vb
                  refine wp_region_still_tail 10 (by kernel_rfl) (by kernel_rfl) ?_
                  simp only [List.take_succ_cons, List.take_zero, List.drop_succ_cons, List.drop_zero]
                  iterate 10 still_step
                  refine wpStill_nil ?_
                  change wpList _ _ _ _ _ V.drew
                  go_wp2_with (first
                    | (at_builtin; refine wp_app1 rfl _ _ rfl (w.heap.size + 2) _ ((ns.take k).map (entOf (crS s fs))) em rfl (HB.out.off (Off.of_below (X := []) (by refine Below.trans HBV.out ?_; repeat (first | refine Below.setCell ?_ (by simp <;> omega) _ | refine Below.alloc ?_ (by simp <;> omega) _ | refine Below.drew ?_ | exact Below.refl _ _))) (by simp)) _ rfl (by rw [HEC2.out]; exact heap_new_at _ _ _ (by simp)) HLE.out (by simp <;> omega) ?_; intro lv' w2 hB2 hb2; have HW2 : Hid (Below (w.heap.size + 2) W w2) := HW.out.trans (Below.trans (Below.mono (by refine Below.trans HBV.out ?_; repeat (first | refine Below.setCell ?_ (by simp <;> omega) _ | refine Below.alloc ?_ (by simp <;> omega) _ | refine Below.drew ?_ | exact Below.refl _ _)) hws) hb2); have HB2 : Hid (Blks w2 (w.heap.size + 2) lv' ((ns.take k).map (entOf (crS s fs)) ++ [em])) := hB2; clear hB2 hb2)
                    | fail)
                  go_roundw
                  case rel => exact ⟨k + 1, some ⟨b, off + 1, none⟩, 0, [], 0, by omega, by go_num, rfl, rfl, by omega, by omega, ⟨AllB.nil, .inl rfl⟩, HFN.out.trans hF2, by rw [HT.out]; exact HB2.out, HW2.out⟩
                  case measure => simp [intOf]; omega
                · skip
                  go_wp2_with fail
                  go_quiet (fail)
                  go_wp2_with fail
                  go_quiet (fail)
                  go_wp2_with fail
                  refine world_named (fun V => V.heap[wr.heap.size]? = some (.cells #[.int .i64 m, .string (strOfNums bm), .string (strOfNums sm), .bool true] 85 (0, 0)) ∧ Below wr.heap.size wr V) ⟨heap_alloc_last wr _, (by repeat (first | refine Below.setCell ?_ (by simp <;> omega) _ | refine Below.alloc ?_ (by simp <;> omega) _ | refine Below.drew ?_ | refine below_drewN ?_ _ | exact Below.refl _ _))⟩ ?_
                  rintro V ⟨vb, hbv⟩
                  have v0 := cell_of_row V wr.heap.size 0 _ 85 (0, 0) vb
                  have v1 := cell_of_row V wr.heap.size 1 _ 85 (0, 0) vb
                  have v2 := cell_of_row V wr.heap.size 2 _ 85 (0, 0) vb
                  have v3 := cell_of_row V wr.heap.size 3 _ 85 (0, 0) vb
                  simp only [List.getElem?_toArray, List.getElem?_cons_succ, List.getElem?_cons_zero] at v0 v1 v2 v3
                  have vf := frozen_of_row V wr.heap.size 1 _ 85 vb
                  have HBV : Hid (Below wr.heap.size wr V) := hbv
                  have HVB : Hid (V.heap[wr.heap.size]? = some (.cells #[.int .i64 m, .string (strOfNums bm), .string (strOfNums sm), .bool true] 85 (0, 0))) := vb
                  have hvs : wr.heap.size < V.heap.size := (Array.getElem?_eq_some_iff.1 vb).1
                  clear hbv vb
                  refine wp_region_still_tail 10 (by kernel_rfl) (by kernel_rfl) ?_
                  simp only [List.take_succ_cons, List.take_zero, List.drop_succ_cons, List.drop_zero]
                  iterate 10 still_step
                  refine wpStill_nil ?_
                  change wpList _ _ _ _ _ V.drew
                  go_wp2_with (first
                    | (at_builtin; refine wp_app1 rfl _ _ rfl (w.heap.size + 2) _ ((ns.take k).map (entOf (crS s fs))) em rfl (HB.out.off (Off.of_below (X := []) (by refine Below.trans HBV.out ?_; repeat (first | refine Below.setCell ?_ (by simp <;> omega) _ | refine Below.alloc ?_ (by simp <;> omega) _ | refine Below.drew ?_ | exact Below.refl _ _))) (by simp)) _ rfl (by rw [HEC2.out]; exact heap_new_at _ _ _ (by simp)) HLE.out (by simp <;> omega) ?_; intro lv' w2 hB2 hb2; have HW2 : Hid (Below (w.heap.size + 2) W w2) := HW.out.trans (Below.trans (Below.mono (by refine Below.trans HBV.out ?_; repeat (first | refine Below.setCell ?_ (by simp <;> omega) _ | refine Below.alloc ?_ (by simp <;> omega) _ | refine Below.drew ?_ | exact Below.refl _ _)) hws) hb2); have HB2 : Hid (Blks w2 (w.heap.size + 2) lv' ((ns.take k).map (entOf (crS s fs)) ++ [em])) := hB2; clear hB2 hb2)
                    | fail)
                  go_roundw
                  case rel => exact ⟨k + 1, some ⟨b, off + 1 + 1, none⟩, fc - 1 - 1, zs, n2, by omega, by go_num, rfl, hn2, by omega, by omega, hHB.out, HFN.out.trans hF2, by rw [HT.out]; exact HB2.out, HW2.out⟩
                  case measure => simp [intOf]; omega
    · have hdk : decide ((k : Int) < (N : Int)) = false := by simp; omega
      have hb := HB.out
      rw [List.take_of_length_le (by have := HLN.out; omega)] at hb
      obtain ⟨a5, c5, e5, _⟩ := hb.view
      subst e5
      generalize hES : ns.map (entOf (crS s fs)) = ES at *
      have HBB : Hid (Blks wr (w.heap.size + 2) (.slice a5 ES.length c5) ES) := hb
      generalize hnn : ES.length = nE at *
      obtain ⟨b0, b1⟩ := cW.out wr HW.out
      have HB1 : Hid (wr.heap[w.heap.size + 1]? = some (.cells #[.int .i64 0, .slice none 0 0, .bool false, .int .i64 0, .int .i64 0, .int .i64 0, .bool false] 28 (0, 0))) := b1
      clear hb HB HC HST HIB HLN HFB HCR HF0 cW hES hnn b0 b1
      go_wp2_with (first
        | (go_at_call 44; refine (HSF.out _ _ (by simp <;> omega) ((HBB.out.off (X := [w.heap.size]) (by repeat (first | refine Off.setCell ?_ (by simp) _ | exact Off.refl _ _)) (fun g hg hm => by have := (World.ownsRow.lt HBB.out g hg).1; simp at hm; omega)).mono (by omega))).mono ?_; rintro e w2 ⟨a3, n3, c3, rfl, hr2, hb2⟩; have q1 : w2.heap[w.heap.size + 1]? = some (.cells #[.int .i64 0, .slice none 0 0, .bool false, .int .i64 0, .int .i64 0, .int .i64 0, .bool false] 28 (0, 0)) := (hb2.block (w.heap.size + 1) (by simp <;> omega)).trans (Eq.trans (Off.block (X := [w.heap.size]) (w := wr) (by repeat (first | refine Off.setCell ?_ (by simp) _ | exact Off.refl _ _)) (w.heap.size + 1) (by omega) (by simp)) HB1.out); obtain ⟨z0, z1, z2, z3, z4, z5, z6, y0, y1, y2, y3, y4, y5, y6⟩ := RC.of q1; have HR2 : Hid (Rf w2 X (.agg #[.int .i64 s.room, .slice a3 n3 c3, .bool false, .int .i64 s.ops, .int .i64 s.reads, .int .i64 (-1), .bool false]) (crashS s fs)) := hr2; have HQ1 : Hid (∃ cs, w2.heap[w.heap.size + 1]? = some (.cells cs 28 (0, 0))) := ⟨_, q1⟩; have HBF : Hid (Below w.heap.size w w2) := HBR.out.trans (Below.trans (by repeat (first | refine Below.setCell ?_ (by simp) _ | exact Below.refl _ _)) (hb2.mono (by simp <;> omega))); clear hr2 hb2 q1 HSF)
        | fail)
      refine bodyPost_ret (v := .agg #[.int .i64 s.room, .slice a3 n3 c3, .bool false, .int .i64 s.ops, .int .i64 s.reads, .int .i64 (-1), .bool false]) (by simp [results, Try.results28, go_sem, z0, z1, z2, z3, z4, z5, z6]) rfl ⟨_, rfl, Rf.box (X := X) HR2.out HQ1.out ?_, ?_⟩
      · iterate 7 (refine Off.setCell ?_ (by simp) _)
        exact Off.refl _ _
      · iterate 7 (refine Below.setCell ?_ (by simp) _)
        exact HBF.out
end Go.Proofs.Ytmapjikbplindaa
