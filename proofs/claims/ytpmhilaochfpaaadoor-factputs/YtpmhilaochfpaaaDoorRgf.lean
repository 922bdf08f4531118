/- Get of a fact: the document's call. -/
import Derived.Test.YtpmhilaochfpaaaDoorGf
import Derived.Test.YtpmhilaochfpaaaDoorRpt
namespace Go.Proofs.YtpmhilaochfpaaaDoor
open Go.RowKit
set_option linter.unusedVariables false
set_option linter.unusedSimpArgs false
set_option maxRecDepth 20000

theorem BV.move {w w' : World} {b o : Nat} {zs : List Int} (h : BV w (some ⟨b, o, none⟩) zs) (hb : w'.heap[b]? = w.heap[b]?) : BV w' (some ⟨b, o, none⟩) zs := by
  obtain ⟨h1, h2 | ⟨b', o', e, hlt, hc⟩⟩ := h
  · exact ⟨h1, .inl h2⟩
  · injection e with e
    injection e with e1 e2
    subst e1 e2
    refine ⟨h1, .inr ⟨b, o, rfl, ?_, fun i hi => ?_⟩⟩
    · rw [Array.getElem?_eq_getElem hlt] at hb
      exact (Array.getElem?_eq_some_iff.1 hb).1
    · rw [World.cell?_of_block (w := w) (a := ⟨b, o + i, none⟩) hb]; exact hc i hi
/-- All below B is as it was, but the block p. -/
def Kp (B p : Nat) (w w' : World) : Prop := ∀ g, g < B → g ≠ p → w'.heap[g]? = w.heap[g]?
theorem Kp.refl (B p : Nat) (w : World) : Kp B p w w := fun _ _ _ => rfl
theorem Kp.below {B p : Nat} {w w1 w2 : World} (h : Kp B p w w1) (hb : Below B w1 w2) : Kp B p w w2 := fun g hg hp => (hb.block g hg).trans (h g hg hp)
theorem Kp.set {B p : Nat} {w w1 : World} (h : Kp B p w w1) (o : Nat) (u : Value) : Kp B p w (w1.setCell ⟨p, o, none⟩ u) := fun g hg hp => (Below.heap_setCell w1 ⟨p, o, none⟩ u g hp).trans (h g hg hp)
theorem Kp.cell {B p : Nat} {w w' : World} (h : Kp B p w w') {g o : Nat} (hg : g < B) (hp : g ≠ p) : w'.cell? ⟨g, o, none⟩ = w.cell? ⟨g, o, none⟩ := World.cell?_of_block (a := ⟨g, o, none⟩) (h g hg hp)
theorem Kp.frozen {B p : Nat} {w w' : World} (h : Kp B p w w') {g o : Nat} (hg : g < B) (hp : g ≠ p) : w'.frozen? ⟨g, o, none⟩ = w.frozen? ⟨g, o, none⟩ := World.frozen?_of_block (a := ⟨g, o, none⟩) (h g hg hp)
/-- A fact in a box. -/
def BoxF3 (w : World) (p : Nat) (c0 c1 c2 : Value) : Prop := w.heap[p]? = some (.cells #[c0, c1, c2] 36 (0, 0))
theorem BoxF3.cells {w : World} {p : Nat} {c0 c1 c2 : Value} (h : BoxF3 w p c0 c1 c2) : (w.cell? ⟨p, 0, none⟩ = some c0 ∧ w.cell? ⟨p, 1, none⟩ = some c1 ∧ w.cell? ⟨p, 2, none⟩ = some c2) ∧ w.frozen? ⟨p, 2, none⟩ = false ∧ p < w.heap.size := by
  have h' : w.heap[p]? = some (.cells #[c0, c1, c2] 36 (0, 0)) := h
  refine ⟨⟨?_, ?_, ?_⟩, ?_, (Array.getElem?_eq_some_iff.1 h').1⟩ <;> simp [World.cell?, World.frozen?, h']
theorem BoxF3.froz {w : World} {p : Nat} {c0 c1 c2 : Value} (h : BoxF3 w p c0 c1 c2) : w.frozen? ⟨p, 0, none⟩ = false ∧ w.frozen? ⟨p, 1, none⟩ = false ∧ w.frozen? ⟨p, 2, none⟩ = false := by
  have h' : w.heap[p]? = some (.cells #[c0, c1, c2] 36 (0, 0)) := h
  refine ⟨?_, ?_, ?_⟩ <;> simp [World.frozen?, h']
theorem BoxF3.below {w w' : World} {p : Nat} {c0 c1 c2 : Value} (h : BoxF3 w p c0 c1 c2) {B : Nat} (hb : Below B w w') (hp : p < B) : BoxF3 w' p c0 c1 c2 := (hb.block p hp).trans h
theorem boxf_new (w : World) (c0 c1 c2 : Value) {p : Nat} (hp : p = w.heap.size) : BoxF3 (w.alloc (.cells #[c0, c1, c2] 36)) p c0 c1 c2 := by
  subst hp
  show (w.alloc (.cells #[c0, c1, c2] 36)).heap[w.heap.size]? = _
  simp [World.alloc, -World.alloc_eq]
theorem BoxF3.set {w : World} {p : Nat} {c0 c1 c2 : Value} (h : BoxF3 w p c0 c1 c2) (u : Value) : BoxF3 (w.setCell ⟨p, 2, none⟩ u) p c0 c1 u := by
  have h' : w.heap[p]? = some (.cells #[c0, c1, c2] 36 (0, 0)) := h
  show (w.setCell ⟨p, 2, none⟩ u).heap[p]? = some (.cells #[c0, c1, u] 36 (0, 0))
  simp [World.setCell, Array.getElem?_modify, h']
theorem own_move {T : TypeId} {n : Nat} {w : World} {p base o : Nat} {v : Value} {css : List (List Value)} (h : OwnN T n w base v css) (hp : p < base) (x : Value) : OwnN T n (w.setCell ⟨p, o, none⟩ x) base v css := h.move fun g hg hl => Below.heap_setCell w ⟨p, o, none⟩ x g (by show g ≠ p; omega)
theorem rget_plain {cs : List ClassD} {t : Int} {b : UInt8} {r : Str} (hcs : cs.length ≤ 200) (hc : ¬ cs.length ≤ b.toNat) :
    (readN gvF (cs.getD b.toNat ⟨[], []⟩).attrs.length (nb r) = none → getF pvF gvF cs t (nb (b :: r)) = none) ∧
    (∀ vs, readN gvF (cs.getD b.toNat ⟨[], []⟩).attrs.length (nb r) = some vs → getF pvF gvF cs t (nb (b :: r)) = if putEr cs ⟨t, (cs.getD b.toNat ⟨[], []⟩).nm, vs⟩ = 0 ∧ putS cs ⟨t, (cs.getD b.toNat ⟨[], []⟩).nm, vs⟩ = b :: r then some ⟨t, (cs.getD b.toNat ⟨[], []⟩).nm, vs⟩ else none) := by
  constructor
  · intro h
    rw [nb_cons]; unfold getF; dsimp only
    rw [Int.toNat_natCast, if_neg (by omega), h]
  · intro vs h
    have hi := put_iff (cs := cs) (f := ⟨t, (cs.getD b.toNat ⟨[], []⟩).nm, vs⟩) hcs (readN_fV (nb_all r) h).1 (b :: r)
    rw [nb_cons] at hi
    rw [nb_cons]; unfold getF; dsimp only
    rw [Int.toNat_natCast, if_neg (by omega), h]
    dsimp only
    by_cases hp : putF pvF cs ⟨t, (cs.getD b.toNat ⟨[], []⟩).nm, vs⟩ = .ok ((b.toNat : Int) :: nb r)
    · rw [if_pos hp, if_pos (hi.1 hp)]
    · rw [if_neg hp, if_neg fun h => hp (hi.2 h)]
set_option maxHeartbeats 8000000 in
theorem rfget_any {P : Nat → Nat → Prop} {Q : Nat → Prop} (v : Value) (cs : List ClassD) (t : Int) (s : Str) (w : World) (h : Row 2 (ReK P) w Q v cs) (hL : ∀ c ∈ cs, c.attrs.length ≤ 100) (hcs : cs.length ≤ 200) (hs : s.length ≤ 300) :
    Calls Tryd.prog 15 #[v, .int .i64 t, .string (st s)] w (GPf w (getF pvF gvF cs t (nb s))) := by
  generalize hPO : GPf w (getF pvF gvF cs t (nb s)) = PO
  have HPN : Hid (∀ w', getF pvF gvF cs t (nb s) = none → Below w.heap.size w w' → PO (.returned (.tuple #[.agg #[.int .i64 0, .string ⟨#[]⟩, .slice none 0 0], .int .i64 4])) w') := fun w' he hf => by rw [← hPO, he]; exact ⟨hf, rfl⟩
  have HPS : Hid (∀ f u w', getF pvF gvF cs t (nb s) = some f → Below w.heap.size w w' → OwnV w' w.heap.size u f.vs → PO (.returned (.tuple #[fB f u, .int .i64 0])) w') := fun f u w' he hf ho => by rw [← hPO, he]; exact ⟨hf, u, rfl, ho⟩
  clear hPO
  have HP := fun W u f (hB : Below w.heap.size w W) (hS : SlW 3 W (fun b => w.heap.size ≤ b) u (f.vs.map clV)) (hfl : f.vs.length ≤ 100) (hfv : ∀ x ∈ f.vs, fV x) => rfput_any v u cs f W (rowK_keep h hB) hcs hS hfl hfv
  obtain ⟨css1, h1, hh1⟩ := h
  have le1 := hh1.len
  obtain ⟨a1, c1, rfl⟩ := h1.shape
  obtain ⟨-, l1, m1, r1⟩ := h1.row
  rw [le1] at l1 r1 HP ⊢
  have HPU : Hid _ := HP
  have R1 : Hid (∀ i, i < cs.length → ∃ b off, a1 = some ⟨b, off, none⟩ ∧ b < w.heap.size ∧ ∀ j, j < 2 → w.cell? ⟨b, off + (i * 2 + j), none⟩ = (css1.getD i [])[j]?) := r1
  have G1 : Hid (All2 (ReK P w) css1 cs) := hh1
  have HLs : Hid (∀ c ∈ cs, c.attrs.length ≤ 100) := hL
  clear r1 h1 hh1 le1 hL HP
  have hnn : (cs.length : Int) ≤ 9223372036854775807 := by omega
  have hsz := st_size s
  cases s with
  | nil =>
    have E : Hid (getF pvF gvF cs t (nb []) = none) := rfl
    have he : (st []).toList.isEmpty = true := by rw [emp, st_list]; rfl
    go_enter Tryd.func15, Tryd.ntmps15
    go_wp2
    refine bodyPost_ret (v := .tuple #[.agg #[.int .i64 0, .string ⟨#[]⟩, .slice none 0 0], .int .i64 4]) (by simp [results, Tryd.results15, go_sem]) rfl (HPN.out _ E.out (bxn _ _))
  | cons b r =>
    have he : (st (b :: r)).toList.isEmpty = false := emp_ne (by rw [st_list]; simp)
    have hb0 : ∀ h : 0 < (st (b :: r)).size, (st (b :: r))[0]'h = b := fun _ => rfl
    have hw : wrap64 (b.toNat : Int) = b.toNat := by have := b.toNat_lt; unfold wrap64; omega
    by_cases hlt : cs.length ≤ b.toNat
    · have E : Hid (getF pvF gvF cs t (nb (b :: r)) = none) := by show getF pvF gvF cs t (nb (b :: r)) = none; rw [nb_cons]; unfold getF; dsimp only; rw [if_pos (by omega)]
      have hle : (cs.length : Int) ≤ b.toNat := by omega
      go_enter Tryd.func15, Tryd.ntmps15
      go_wp2
      refine bodyPost_ret (v := .tuple #[.agg #[.int .i64 0, .string ⟨#[]⟩, .slice none 0 0], .int .i64 4]) (by simp [results, Tryd.results15, go_sem]) rfl (HPN.out _ E.out (bxn _ _))
    · have hle : ¬ (cs.length : Int) ≤ b.toNat := by omega
      have hlt' : b.toNat < cs.length := by omega
      obtain ⟨b1, o1, rfl, hb1, q1⟩ := R1.out b.toNat hlt'
      have e1 := G1.out.at b.toNat [] ⟨[], []⟩ hlt'
      obtain ⟨ER1, ER2⟩ := rget_plain (t := t) (r := r) hcs hlt
      have hla : (cs.getD b.toNat ⟨[], []⟩).attrs.length ≤ 100 := HLs.out _ (by rw [List.getD_eq_getElem?_getD, List.getElem?_eq_getElem hlt']; exact List.getElem_mem hlt')
      generalize cs.getD b.toNat ⟨[], []⟩ = c at *
      obtain ⟨u, ec, hu⟩ := e1
      obtain ⟨au, cu, rfl⟩ := hu.shape
      simp only [List.length_map] at ec
      rw [ec] at q1
      have d0 : w.cell? ⟨b1, o1 + b.toNat * 2, none⟩ = some (.string (st c.nm)) := q1 0 (by decide)
      have d1 : w.cell? ⟨b1, o1 + b.toNat * 2 + 1, none⟩ = some (.slice au c.attrs.length cu) := q1 1 (by decide)
      have hne : ¬ b1 = w.heap.size := by omega
      have HE1 : Hid _ := ER1
      have HE2 : Hid _ := ER2
      clear q1 ec hu ER1 ER2 R1 G1 HLs
      have KC := fun W' => conv_sb W' ((st (b :: r)).extract 1 (r.length + 1))
      have hex : bytesOf ((st (b :: r)).extract 1 (r.length + 1)) = nb r := by
        have := bytes_ext (b :: r) (by simp)
        rw [List.length_cons] at this
        rw [this]; rfl
      have hes : ((st (b :: r)).extract 1 (r.length + 1)).size = r.length := by rw [ByteArray.size_extract, hsz]; simp
      have BVb := fun W' => bw_bv W' ((st (b :: r)).extract 1 (r.length + 1))
      rw [hex] at BVb
      have GCg := fun W' => gc_ge W' ((st (b :: r)).extract 1 (r.length + 1))
      have GCl := fun W' => gc_le W' ((st (b :: r)).extract 1 (r.length + 1)) (by rw [hes]; simp at hs; omega)
      rw [hes] at KC GCg
      have j1 : (1 : Int) ≤ (r.length : Int) + 1 := by omega
      generalize hs1 : (st (b :: r)).extract 1 (r.length + 1) = s1 at *
      go_enter Tryd.func15, Tryd.ntmps15
      go_wp2_with fail
      obtain ⟨W3, hW3⟩ : ∃ W3, W3 = ((w.alloc (.cells #[.int .i64 0, .string ⟨#[]⟩, .slice none 0 0] 36)).alloc (.cells #[.string (st c.nm), .slice au c.attrs.length cu] 50)).alloc (.cells #[.int .i64 t, .string (st c.nm), .slice none 0 0] 36) := ⟨_, rfl⟩
      have hz3 : W3.heap.size = w.heap.size + 1 + 1 + 1 := by subst hW3; simp
      have hz4 : (bw W3 s1).heap.size = w.heap.size + 1 + 1 + 1 + 1 := by rw [bw_size, hz3]
      have hbb : Below W3.heap.size W3 (bw W3 s1) := bw_below W3 s1
      have HR0 : Hid (BoxF3 (bw W3 s1) w.heap.size (.int .i64 0) (.string ⟨#[]⟩) (.slice none 0 0) ∧ BoxF3 (bw W3 s1) (w.heap.size + 1 + 1) (.int .i64 t) (.string (st c.nm)) (.slice none 0 0) ∧ (bw W3 s1).cell? ⟨w.heap.size + 1, 1, none⟩ = some (.slice au c.attrs.length cu) ∧ Below w.heap.size w (bw W3 s1)) := by
        refine ⟨BoxF3.below ?_ hbb (by omega), BoxF3.below ?_ hbb (by omega), (hbb.cell (p := ⟨w.heap.size + 1, 1, none⟩) (by show w.heap.size + 1 < _; omega)).trans ?_, (show Below w.heap.size w W3 from ?_).trans (hbb.mono (by omega))⟩
        · subst hW3; exact ((boxf_new w _ _ _ rfl).below (bxn _ _) (by simp)).below (bxn _ _) (by simp; omega)
        · subst hW3; exact boxf_new _ _ _ _ (by simp)
        · subst hW3; go_simp
        · subst hW3; exact bt (bt (bxn _ _) (bxn _ _)) (bxn _ _)
      have HB0 : Hid (BV (bw W3 s1) (some ⟨w.heap.size + 1 + 1 + 1, 0, none⟩) (nb r)) := by have := BVb W3; rw [hz3] at this; exact this
      have HG0 : Hid (r.length ≤ gc W3 s1 ∧ gc W3 s1 ≤ 9223372036854775807) := ⟨GCg W3, GCl W3⟩
      rw [← hW3]
      clear hW3 KC BVb GCg GCl hbb d0 d1
      generalize gc W3 s1 = cap at *
      generalize bw W3 s1 = W4 at *
      clear hz3
      have HZ4 : Hid (W4.heap.size = w.heap.size + 1 + 1 + 1 + 1) := hz4
      have HRL : Hid (r.length ≤ 300) := by show _ ≤ _; simp at hs; omega
      clear hz4
      go_loopw [10, 11, 12, 13, 14] (fun vb vi _ _ _ wr => ∃ (i : Nat) (rest : List Int) (pre : List VD) (o' cap' : Nat), vi = .int .i64 i ∧ i ≤ c.attrs.length ∧ vb = .slice (some ⟨w.heap.size + 1 + 1 + 1, o', none⟩) rest.length cap' ∧ rest.length ≤ cap' ∧ cap' ≤ 9223372036854775807 ∧ rest.length ≤ 300 ∧ pre.length = i ∧ Hid (Below w.heap.size w wr ∧ W4.heap.size ≤ wr.heap.size ∧ Kp W4.heap.size (w.heap.size + 1 + 1) W4 wr) ∧ Hid (∃ vl, BoxF3 wr (w.heap.size + 1 + 1) (.int .i64 t) (.string (st c.nm)) vl ∧ OwnV wr W4.heap.size vl pre) ∧ Hid (BV W4 (some ⟨w.heap.size + 1 + 1 + 1, o', none⟩) rest) ∧ Hid (readN gvF c.attrs.length (nb r) = (readN gvF (c.attrs.length - i) rest).map (pre ++ ·))) (fun _ v _ _ _ _ => (c.attrs.length - intOf v).toNat)
      case atStart =>
        refine ⟨0, nb r, [], 0, cap, rfl, Nat.zero_le _, by simp [nb], by have := HG0.out.1; simp [nb]; omega, HG0.out.2, by have := HRL.out; simp [nb]; omega, rfl, ⟨HR0.out.2.2.2, Nat.le_refl _, Kp.refl _ _ _⟩, ⟨_, HR0.out.2.1, OwnN.nil 52 3 _ _⟩, HB0.out, ?_⟩
        show readN gvF c.attrs.length (nb r) = (readN gvF (c.attrs.length - 0) (nb r)).map ([] ++ ·)
        cases readN gvF c.attrs.length (nb r) <;> simp [*]
      case round =>
        obtain ⟨i, rest, pre, o', cap', rfl, hi, rfl, hc', hcm', hr', hpl, HBK, HBX, HV1, HR⟩ := hrel
        obtain ⟨vl, hx, hov⟩ := HBX.out
        obtain ⟨va, vc, rfl⟩ := hov.shape
        have HX : Hid (BoxF3 wr (w.heap.size + 1 + 1) (.int .i64 t) (.string (st c.nm)) (.slice va (pre.map clV).length vc) ∧ OwnV wr W4.heap.size (.slice va (pre.map clV).length vc) pre) := ⟨hx, hov⟩
        clear HBX hx hov
        rw [List.length_map, hpl] at HX
        have hzz := HZ4.out
        have hbk := HBK.out.2.1
        have y1 : wr.cell? ⟨w.heap.size + 1, 1, none⟩ = some (.slice au c.attrs.length cu) := (HBK.out.2.2.cell (by omega) (by omega)).trans HR0.out.2.2.1
        have hBVr : BV wr (some ⟨w.heap.size + 1 + 1 + 1, o', none⟩) rest := HV1.out.move (HBK.out.2.2 _ (by omega) (by omega))
        have CG := rget_all (some ⟨w.heap.size + 1 + 1 + 1, o', none⟩) rest.length cap' rest wr hBVr rfl hr' hc' hcm'
        have hlr : (rest.length : Int) ≤ 9223372036854775807 := by omega
        clear hBVr
        by_cases hlt : i < c.attrs.length
        · have hiz : (i : Int) < c.attrs.length := by omega
          have en : c.attrs.length - i = (c.attrs.length - (i + 1)) + 1 := by omega
          rw [en] at HR
          by_cases hg : gtE rest = 0
          · obtain ⟨x, m, hgv, hmle, hA⟩ := gv_ok hg
            rw [hA] at CG
            have HR2 : Hid (readN gvF c.attrs.length (nb r) = (readN gvF (c.attrs.length - (i + 1)) (rest.drop m)).map ((pre ++ [x]) ++ ·)) := by
              show readN gvF c.attrs.length (nb r) = _
              rw [HR.out, readN_some hgv, map_cons_app]
            have HV2 : Hid (BV W4 (some ⟨w.heap.size + 1 + 1 + 1, o' + m, none⟩) (rest.drop m)) := HV1.out.tail m
            have HLD : Hid ((rest.drop m).length = rest.length - m) := List.length_drop
            have hmz : (m : Int) ≤ rest.length := by omega
            have hmc : (m : Int) ≤ cap' := by omega
            clear HR hA hgv hg en
            go_wp2_with (first
              | (go_at_call 30; refine CG.mono ?_; rintro e w5 ⟨rfl, hb5⟩
                 have HQ : Hid (Below wr.heap.size wr ((w5.alloc (.cells #[.int .u8 x.k, .int .i64 x.n, .string (st x.s)] 52)).alloc (.cells #[.int .u8 x.k, .int .i64 x.n, .string (st x.s)] 52)) ∧ SlW 3 ((w5.alloc (.cells #[.int .u8 x.k, .int .i64 x.n, .string (st x.s)] 52)).alloc (.cells #[.int .u8 x.k, .int .i64 x.n, .string (st x.s)] 52)) (fun _ => True) (.slice (some ⟨w5.heap.size + 1, 0, none⟩) 1 1) ([x].map clV)) := ⟨bt hb5 (bt (bxn _ _) (bxn _ _)), lit_v (w5.alloc (.cells #[.int .u8 x.k, .int .i64 x.n, .string (st x.s)] 52)) x (w5.heap.size + 1) (by simp)⟩
                 have hx5 := HX.out.1.below hb5 (HX.out.1.cells.2.2)
                 obtain ⟨⟨x0, x1, x2⟩, z2, hl5⟩ := hx5.cells
                 clear CG hb5)
              | (at_builtin; refine wp_app_n Tryd.underlying34 info42 rfl (by decide) (by decide) rfl _ _ rfl W4.heap.size _ (pre.map clV) ([x].map clV) rfl (HX.out.2.below HQ.out.1) _ rfl HQ.out.2 clV_len clV_one (by simp; omega) (by have := HQ.out.1.size; omega) ?_; intro v6 w6 o6 g6 b6; obtain ⟨a6, c6, rfl⟩ := o6.shape
                 have hx6 := (HX.out.1.below HQ.out.1 HX.out.1.cells.2.2).below b6 (by omega)
                 obtain ⟨⟨x0', x1', x2'⟩, z2', hl6⟩ := hx6.cells))
            have hl : (pre.map clV ++ [x].map clV).length = i + 1 := by simp [hpl]
            rw [hl] at o6
            have hb6 := b6.size
            have hq6 := HQ.out.1.size
            refine ⟨⟨i + 1, rest.drop m, pre ++ [x], if cap' = m then o' else o' + m, cap' - m, by simp, by omega, ?_, by rw [HLD.out]; omega, by omega, by rw [HLD.out]; omega, by simp [hpl], ⟨?_, ?_, ?_⟩, ⟨_, hx6.set _, ?_⟩, ?_, HR2.out⟩, by simp [intOf]; omega⟩
            · rw [HLD.out]; by_cases h : cap' = m <;> simp [h]
            · exact ((HBK.out.1.trans (HQ.out.1.mono HBK.out.1.size)).trans (b6.mono (by omega))).setCell (by show w.heap.size ≤ w.heap.size + 1 + 1; omega) _
            · simp; omega
            · exact ((HBK.out.2.2.below (HQ.out.1.mono hbk)).below b6).set 2 _
            · refine own_move (show OwnN 52 3 _ _ _ ((pre ++ [x]).map clV) from ?_) (by omega) _
              rw [List.map_append]; exact o6
            · by_cases h : cap' = m
              · have hz : rest.drop m = [] := List.drop_of_length_le (by omega)
                rw [hz]; exact ⟨AllB.nil, .inl rfl⟩
              · rw [if_neg h]; exact HV2.out
          · obtain ⟨hgv, hA⟩ := gv_no hg
            rw [hA] at CG
            have HR2 : Hid (getF pvF gvF cs t (nb (b :: r)) = none) := HE1.out (by rw [HR.out, readN_no hgv]; rfl)
            have HG : Hid (gtE rest ≠ 0) := hg
            clear HR hA hgv en
            generalize gtE rest = er at *
            have hx0 : BoxF3 wr w.heap.size (.int .i64 0) (.string ⟨#[]⟩) (.slice none 0 0) := (HBK.out.2.2 _ (by omega) (by omega)).trans HR0.out.1
            have HX0 : Hid (BoxF3 wr w.heap.size (.int .i64 0) (.string ⟨#[]⟩) (.slice none 0 0)) := hx0
            clear hx0
            go_wp2_with (go_at_call 30; refine CG.mono ?_; rintro e w5 ⟨rfl, hb5⟩; have H5 : Hid (Below w.heap.size w w5) := HBK.out.1.trans (hb5.mono HBK.out.1.size); have hx5 := HX0.out.below hb5 HX0.out.cells.2.2; obtain ⟨⟨x0, x1, x2⟩, _, hl5⟩ := hx5.cells; obtain ⟨z0, z1, z2⟩ := hx5.froz; clear CG hb5)
            refine bodyPost_ret (v := .tuple #[.agg #[.int .i64 0, .string ⟨#[]⟩, .slice none 0 0], .int .i64 4]) (by simp [results, Tryd.results15, go_sem]; go_simp) rfl (HPN.out _ HR2.out ?_)
            exact bt (set3 H5.out _ (Nat.le_refl _) _ _ _) (bxn _ _)
        · have hiz : ¬ (i : Int) < c.attrs.length := by omega
          have en : c.attrs.length - i = 0 := by omega
          rw [en] at HR
          have HR2 : Hid (readN gvF c.attrs.length (nb r) = some pre) := by show readN gvF c.attrs.length (nb r) = _; rw [HR.out]; show some (pre ++ []) = _; rw [List.append_nil]
          clear CG HR en
          have HGE := HE2.out pre HR2.out
          have HFV := (readN_fV (nb_all r) HR2.out).1
          have CP := HPU.out wr (.slice va i vc) ⟨t, c.nm, pre⟩ HBK.out.1 ((OwnN.sl HX.out.2).imp fun b _ h => by omega) (by show pre.length ≤ 100; omega) HFV
          have HX0 : Hid (BoxF3 wr w.heap.size (.int .i64 0) (.string ⟨#[]⟩) (.slice none 0 0)) := (HBK.out.2.2 _ (by omega) (by omega)).trans HR0.out.1
          obtain ⟨⟨x0, x1, x2⟩, _, hlx⟩ := HX.out.1.cells
          have HF : Hid _ := HGE
          clear HGE HFV HR2 HV1
          generalize hpe : putEr cs ⟨t, c.nm, pre⟩ = pe at *
          generalize hps : putS cs ⟨t, c.nm, pre⟩ = ps at *
          simp only at CP
          by_cases h0 : pe = 0
          · have EQ := eq_list (st ps) (st (b :: r))
            rw [st_list, st_list] at EQ
            by_cases h1 : ps = b :: r
            · have E : Hid (getF pvF gvF cs t (nb (b :: r)) = some ⟨t, c.nm, pre⟩) := by show getF pvF gvF cs t (nb (b :: r)) = _; rw [HF.out, if_pos ⟨h0, h1⟩]
              rw [decide_eq_true h1] at EQ
              subst h0
              clear HF h1
              go_wp2_with (first
                | (go_at_call 13; refine CP.mono ?_; rintro e w7 ⟨rfl, hb7⟩
                   have hx7 := HX.out.1.below hb7 HX.out.1.cells.2.2
                   obtain ⟨⟨p0, p1, p2⟩, _, hl7⟩ := hx7.cells
                   have hy7 := HX0.out.below hb7 HX0.out.cells.2.2
                   obtain ⟨⟨q0, q1, q2⟩, _, hl8⟩ := hy7.cells
                   obtain ⟨z0, z1, z2⟩ := hy7.froz
                   have B7 : Hid (Below w.heap.size w w7) := HBK.out.1.trans (hb7.mono HBK.out.1.size)
                   have HO7 : Hid (OwnV w7 (w.heap.size + 1) (.slice va i vc) pre) := (HX.out.2.below hb7).mono (by omega)
                   clear CP hb7 hx7 hy7 x0 x1 x2))
              refine bodyPost_ret (v := .tuple #[.agg #[.int .i64 t, .string (st c.nm), .slice va i vc], .int .i64 0]) (by simp [results, Tryd.results15, go_sem]; go_simp) rfl (HPS.out ⟨t, c.nm, pre⟩ _ _ E.out ?_ ?_)
              · exact set3 B7.out _ (Nat.le_refl _) _ _ _
              · exact own_set3 HO7.out _ _ _
            · have E : Hid (getF pvF gvF cs t (nb (b :: r)) = none) := by show getF pvF gvF cs t (nb (b :: r)) = _; rw [HF.out, if_neg fun h => h1 h.2]
              rw [decide_eq_false h1] at EQ
              subst h0
              clear HF h1
              go_wp2_with (first
                | (go_at_call 13; refine CP.mono ?_; rintro e w7 ⟨rfl, hb7⟩
                   have hx7 := HX.out.1.below hb7 HX.out.1.cells.2.2
                   obtain ⟨⟨p0, p1, p2⟩, _, hl7⟩ := hx7.cells
                   have hy7 := HX0.out.below hb7 HX0.out.cells.2.2
                   obtain ⟨⟨q0, q1, q2⟩, _, hl8⟩ := hy7.cells
                   obtain ⟨z0, z1, z2⟩ := hy7.froz
                   have B7 : Hid (Below w.heap.size w w7) := HBK.out.1.trans (hb7.mono HBK.out.1.size)
                   have HO7 : Hid (OwnV w7 (w.heap.size + 1) (.slice va i vc) pre) := (HX.out.2.below hb7).mono (by omega)
                   clear CP hb7 hx7 hy7 x0 x1 x2))
              refine bodyPost_ret (v := .tuple #[.agg #[.int .i64 0, .string ⟨#[]⟩, .slice none 0 0], .int .i64 4]) (by simp [results, Tryd.results15, go_sem]; go_simp) rfl (HPN.out _ E.out ?_)
              exact set3 B7.out _ (Nat.le_refl _) _ _ _
          · have E : Hid (getF pvF gvF cs t (nb (b :: r)) = none) := by show getF pvF gvF cs t (nb (b :: r)) = _; rw [HF.out, if_neg fun h => h0 h.1]
            clear HF
            go_wp2_with (first
              | (go_at_call 13; refine CP.mono ?_; rintro e w7 ⟨rfl, hb7⟩
                 have hx7 := HX.out.1.below hb7 HX.out.1.cells.2.2
                 obtain ⟨⟨p0, p1, p2⟩, _, hl7⟩ := hx7.cells
                 have hy7 := HX0.out.below hb7 HX0.out.cells.2.2
                 obtain ⟨⟨q0, q1, q2⟩, _, hl8⟩ := hy7.cells
                 obtain ⟨z0, z1, z2⟩ := hy7.froz
                 have B7 : Hid (Below w.heap.size w w7) := HBK.out.1.trans (hb7.mono HBK.out.1.size)
                 have HO7 : Hid (OwnV w7 (w.heap.size + 1) (.slice va i vc) pre) := (HX.out.2.below hb7).mono (by omega)
                 clear CP hb7 hx7 hy7 x0 x1 x2))
            refine bodyPost_ret (v := .tuple #[.agg #[.int .i64 0, .string ⟨#[]⟩, .slice none 0 0], .int .i64 4]) (by simp [results, Tryd.results15, go_sem]; go_simp) rfl (HPN.out _ E.out ?_)
            exact set3 B7.out _ (Nat.le_refl _) _ _ _
end Go.Proofs.YtpmhilaochfpaaaDoor
