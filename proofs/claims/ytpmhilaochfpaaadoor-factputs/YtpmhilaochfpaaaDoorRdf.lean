/- A fact read off its bytes: the program's. -/
import Derived.Test.YtpmhilaochfpaaaDoorVs
import Derived.Test.YtpmhilaochfpaaaDoorCb
import Derived.Test.YtpmhilaochfpaaaDoorKy
import Derived.Deep.RegionHeld3
import Derived.Deep.RegionWith
namespace Go.Proofs.YtpmhilaochfpaaaDoor
open Go.RowKit
set_option linter.unusedVariables false
set_option linter.unusedSimpArgs false
set_option maxRecDepth 20000

/-- The signs' numbers. -/
def nb (s : Str) : List Int := s.map fun b => (b.toNat : Int)
/-- What is read of a fact's bytes. -/
def readR (cs : List ClassD) (t : Int) (s : Str) : Option FactD := match s with
  | [] => none
  | b :: r => if 160 < (b :: r).length then none else if cs.length ≤ b.toNat then none else
    (readN gvF (cs.getD b.toNat ⟨[], []⟩).attrs.length (nb r)).map fun vs => ⟨t, (cs.getD b.toNat ⟨[], []⟩).nm, vs⟩
def RP (w : World) (r : Option FactD) (e : Ending) (w' : World) : Prop := Below w.heap.size w w' ∧ match r with
  | none => ∃ t c, e = .returned (.tuple #[.agg #[.int .i64 t, .string c, .slice none 0 0], .bool false])
  | some f => ∃ u, e = .returned (.tuple #[fB f u, .bool true]) ∧ OwnV w' w.heap.size u f.vs
/-- A row of one's own stays where three cells of an elder block are set. -/
theorem own_set3 {T : TypeId} {n : Nat} {w : World} {b : Nat} {v : Value} {css : List (List Value)} (h : OwnN T n w (b + 1) v css) (x y z : Value) : OwnN T n (((w.setCell ⟨b, 0, none⟩ x).setCell ⟨b, 1, none⟩ y).setCell ⟨b, 2, none⟩ z) b v css := by
  refine OwnN.mono (h.move fun g hg hl => ?_) (Nat.le_succ b)
  have hne : b ≠ g := by omega
  simp [World.setCell, Array.getElem?_modify, hne]
set_option maxHeartbeats 8000000 in
theorem read_any {P : Nat → Nat → Prop} {Q : Nat → Prop} (v : Value) (cs : List ClassD) (t : Int) (s : Str) (w : World) (h : Row 2 (ReK P) w Q v cs) (hL : ∀ c ∈ cs, c.attrs.length ≤ 100000) (hV : Vars w) (hs : s.length ≤ 100000) :
    Calls Tryd.prog 29 #[v, .int .i64 t, .string (st s)] w (RP w (readR cs t s)) := by
  generalize hPO : RP w (readR cs t s) = PO
  have HPN : Hid (∀ t' c' w', readR cs t s = none → Below w.heap.size w w' → PO (.returned (.tuple #[.agg #[.int .i64 t', .string c', .slice none 0 0], .bool false])) w') := fun t' c' w' he hf => by rw [← hPO, he]; exact ⟨hf, t', c', rfl⟩
  have HPS : Hid (∀ f u w', readR cs t s = some f → Below w.heap.size w w' → OwnV w' w.heap.size u f.vs → PO (.returned (.tuple #[fB f u, .bool true])) w') := fun f u w' he hf ho => by rw [← hPO, he]; exact ⟨hf, u, rfl, ho⟩
  clear hPO
  obtain ⟨css1, h1, hh1⟩ := h
  have le1 := hh1.len
  obtain ⟨a1, c1, rfl⟩ := h1.shape
  obtain ⟨-, l1, m1, r1⟩ := h1.row
  rw [le1] at l1 r1 ⊢
  have R1 : Hid (∀ i, i < cs.length → ∃ b off, a1 = some ⟨b, off, none⟩ ∧ b < w.heap.size ∧ ∀ j, j < 2 → w.cell? ⟨b, off + (i * 2 + j), none⟩ = (css1.getD i [])[j]?) := r1
  have G1 : Hid (All2 (ReK P w) css1 cs) := hh1
  have HVs : Hid (Vars w) := hV
  have HLs : Hid (∀ c ∈ cs, c.attrs.length ≤ 100000) := hL
  clear r1 h1 hh1 le1 hV hL
  have hnn : (cs.length : Int) ≤ 9223372036854775807 := by omega
  have hsz := st_size s
  cases s with
  | nil =>
    have E : Hid (readR cs t [] = none) := rfl
    have he : (st []).toList.isEmpty = true := by rw [emp, st_list]; rfl
    go_enter Tryd.func29, Tryd.ntmps29
    go_wp2
    refine bodyPost_ret (v := .tuple #[.agg #[.int .i64 0, .string ⟨#[]⟩, .slice none 0 0], .bool false]) (by simp [results, Tryd.results29, go_sem]) rfl (HPN.out 0 ⟨#[]⟩ _ E.out (bxn _ _))
  | cons b r =>
    have he : (st (b :: r)).toList.isEmpty = false := emp_ne (by rw [st_list]; simp)
    have hb0 : ∀ h : 0 < (st (b :: r)).size, (st (b :: r))[0]'h = b := fun _ => rfl
    have hw : wrap64 (b.toNat : Int) = b.toNat := by have := b.toNat_lt; unfold wrap64; omega
    by_cases h160 : 160 < (b :: r).length
    · have E : Hid (readR cs t (b :: r) = none) := by show readR cs t (b :: r) = none; unfold readR; dsimp only; rw [if_pos h160]
      have h161 : (160 : Int) < (r.length : Int) + 1 := by simp at h160; omega
      go_enter Tryd.func29, Tryd.ntmps29
      go_wp2
      refine bodyPost_ret (v := .tuple #[.agg #[.int .i64 0, .string ⟨#[]⟩, .slice none 0 0], .bool false]) (by simp [results, Tryd.results29, go_sem]) rfl (HPN.out 0 ⟨#[]⟩ _ E.out (bxn _ _))
    · have h161 : ¬ (160 : Int) < (r.length : Int) + 1 := by simp at h160; omega
      by_cases hlt : cs.length ≤ b.toNat
      · have E : Hid (readR cs t (b :: r) = none) := by show readR cs t (b :: r) = none; unfold readR; dsimp only; rw [if_neg h160, if_pos hlt]
        have hle : (cs.length : Int) ≤ b.toNat := by omega
        go_enter Tryd.func29, Tryd.ntmps29
        go_wp2
        refine bodyPost_ret (v := .tuple #[.agg #[.int .i64 0, .string ⟨#[]⟩, .slice none 0 0], .bool false]) (by simp [results, Tryd.results29, go_sem]) rfl (HPN.out 0 ⟨#[]⟩ _ E.out (bxn _ _))
      · have hle : ¬ (cs.length : Int) ≤ b.toNat := by omega
        have hlt' : b.toNat < cs.length := by omega
        obtain ⟨b1, o1, rfl, hb1, q1⟩ := R1.out b.toNat hlt'
        have e1 := G1.out.at b.toNat [] ⟨[], []⟩ hlt'
        have ER : Hid (readR cs t (b :: r) = (readN gvF (cs.getD b.toNat ⟨[], []⟩).attrs.length (nb r)).map fun vs => ⟨t, (cs.getD b.toNat ⟨[], []⟩).nm, vs⟩) := by
          show readR cs t (b :: r) = _; unfold readR; dsimp only; rw [if_neg h160, if_neg hlt]
        have hla : (cs.getD b.toNat ⟨[], []⟩).attrs.length ≤ 100000 := HLs.out _ (by rw [List.getD_eq_getElem?_getD, List.getElem?_eq_getElem hlt']; exact List.getElem_mem hlt')
        generalize cs.getD b.toNat ⟨[], []⟩ = c at *
        obtain ⟨u, ec, hu⟩ := e1
        obtain ⟨au, cu, rfl⟩ := hu.shape
        simp only [List.length_map] at ec
        rw [ec] at q1
        have d0 : w.cell? ⟨b1, o1 + b.toNat * 2, none⟩ = some (.string (st c.nm)) := q1 0 (by decide)
        have d1 : w.cell? ⟨b1, o1 + b.toNat * 2 + 1, none⟩ = some (.slice au c.attrs.length cu) := q1 1 (by decide)
        have hne : ¬ b1 = w.heap.size := by omega
        clear q1 ec hu
        have KC := fun W' => conv_sb W' ((st (b :: r)).extract 1 (r.length + 1))
        have hex : bytesOf ((st (b :: r)).extract 1 (r.length + 1)) = nb r := by
          have := bytes_ext (b :: r) (by simp)
          rw [List.length_cons] at this
          rw [this]; rfl
        have hes : ((st (b :: r)).extract 1 (r.length + 1)).size = r.length := by rw [ByteArray.size_extract, hsz]; simp
        have CV := fun W' (hW : Vars W') => values_any W'.heap.size 0 r.length (gc W' ((st (b :: r)).extract 1 (r.length + 1))) c.attrs.length (nb r) (bw W' ((st (b :: r)).extract 1 (r.length + 1))) (by have := bw_bv W' ((st (b :: r)).extract 1 (r.length + 1)); rwa [hex] at this) (by simp [nb]) (by simp at h160; omega) (by have := gc_ge W' ((st (b :: r)).extract 1 (r.length + 1)); omega) (gc_le _ _ (by rw [hes]; simp at hs; omega)) hla (hW.below (bw_below _ _))
        have CV : ∀ W', Vars W' → Calls Tryd.prog 43 #[.slice (some ⟨W'.heap.size, 0, none⟩) r.length (gc W' ((st (b :: r)).extract 1 (r.length + 1))), .int .i64 c.attrs.length] (bw W' ((st (b :: r)).extract 1 (r.length + 1))) (fun e w' => Below (bw W' ((st (b :: r)).extract 1 (r.length + 1))).heap.size (bw W' ((st (b :: r)).extract 1 (r.length + 1))) w' ∧ ∃ ua un uc ok, e = .returned (.tuple #[.slice ua un uc, .bool ok]) ∧ ((readN gvF c.attrs.length (nb r) = none ∧ ok = false ∧ Value.slice ua un uc = .slice none 0 0) ∨ ∃ vs, readN gvF c.attrs.length (nb r) = some vs ∧ ok = true ∧ OwnV w' (bw W' ((st (b :: r)).extract 1 (r.length + 1))).heap.size (.slice ua un uc) vs)) := fun W' hW' => (CV W' hW').mono fun e w' he => by
          refine ⟨he.1, ?_⟩
          have h2 := he.2
          cases hr : readN gvF c.attrs.length (nb r) with
          | none => rw [hr] at h2; exact ⟨none, 0, 0, false, h2, .inl ⟨rfl, rfl, rfl⟩⟩
          | some vs =>
            rw [hr] at h2
            obtain ⟨u, he2, ho⟩ := h2
            obtain ⟨ua, uc, rfl⟩ := ho.shape
            exact ⟨ua, _, uc, true, he2, .inr ⟨vs, rfl, rfl, ho⟩⟩
        rw [hes] at KC
        have j1 : (1 : Int) ≤ (r.length : Int) + 1 := by omega
        generalize hs1 : (st (b :: r)).extract 1 (r.length + 1) = s1 at *
        go_enter Tryd.func29, Tryd.ntmps29
        go_wp2_with fail
        obtain ⟨W, hW⟩ : ∃ W, W = (w.alloc (.cells #[.int .i64 0, .string ⟨#[]⟩, .slice none 0 0] 36)).alloc (.cells #[.string (st c.nm), .slice au c.attrs.length cu] 50) := ⟨_, rfl⟩
        have HBW : Hid (Below w.heap.size w W) := by subst hW; exact bt (bxn _ _) (bxn _ _)
        have SK : Hid (∀ W', Below W.heap.size W W' → W'.cell? ⟨w.heap.size + 1, 0, none⟩ = some (.string (st c.nm)) ∧ W'.cell? ⟨w.heap.size + 1, 1, none⟩ = some (.slice au c.attrs.length cu)) := fun W' hb => by
          subst hW
          exact ⟨(hb.cell (p := ⟨w.heap.size + 1, 0, none⟩) (by simp)).trans (by go_simp), (hb.cell (p := ⟨w.heap.size + 1, 1, none⟩) (by simp)).trans (by go_simp)⟩
        have SR : Hid (∀ W', Below W.heap.size W W' → (W'.cell? ⟨w.heap.size, 0, none⟩ = some (.int .i64 0) ∧ W'.cell? ⟨w.heap.size, 1, none⟩ = some (.string ⟨#[]⟩) ∧ W'.cell? ⟨w.heap.size, 2, none⟩ = some (.slice none 0 0)) ∧ (W'.frozen? ⟨w.heap.size, 0, none⟩ = false ∧ W'.frozen? ⟨w.heap.size, 1, none⟩ = false ∧ W'.frozen? ⟨w.heap.size, 2, none⟩ = false) ∧ w.heap.size < W'.heap.size) := fun W' hb => by
          subst hW
          have f0 : ((w.alloc (.cells #[.int .i64 0, .string ⟨#[]⟩, .slice none 0 0] 36)).alloc (.cells #[.string (st c.nm), .slice au c.attrs.length cu] 50)).frozen? ⟨w.heap.size, 0, none⟩ = false := by go_simp
          have f1 : ((w.alloc (.cells #[.int .i64 0, .string ⟨#[]⟩, .slice none 0 0] 36)).alloc (.cells #[.string (st c.nm), .slice au c.attrs.length cu] 50)).frozen? ⟨w.heap.size, 1, none⟩ = false := by go_simp
          have f2 : ((w.alloc (.cells #[.int .i64 0, .string ⟨#[]⟩, .slice none 0 0] 36)).alloc (.cells #[.string (st c.nm), .slice au c.attrs.length cu] 50)).frozen? ⟨w.heap.size, 2, none⟩ = false := by go_simp
          refine ⟨⟨(hb.cell (p := ⟨w.heap.size, 0, none⟩) (by simp; omega)).trans (by go_simp), (hb.cell (p := ⟨w.heap.size, 1, none⟩) (by simp; omega)).trans (by go_simp), (hb.cell (p := ⟨w.heap.size, 2, none⟩) (by simp; omega)).trans (by go_simp)⟩, ⟨(hb.frozen (p := ⟨w.heap.size, 0, none⟩) (by simp; omega)).trans f0, (hb.frozen (p := ⟨w.heap.size, 1, none⟩) (by simp; omega)).trans f1, (hb.frozen (p := ⟨w.heap.size, 2, none⟩) (by simp; omega)).trans f2⟩, ?_⟩
          have := hb.size; simp at this; omega
        have HBW2 : Hid (w.heap.size + 1 ≤ W.heap.size) := by subst hW; show _ ≤ _; simp
        rw [← hW]
        clear d0 d1 hW
        go_region_held3 (fun w' => w'.cell? ⟨w.heap.size + 1, 0, none⟩ = some (.string (st c.nm)) ∧ w'.cell? ⟨w.heap.size + 1, 1, none⟩ = some (.slice au c.attrs.length cu)) ((refine SK.out _ ?_; first | exact (Below.refl _ _).drew | exact bt (Below.refl _ _).drew (bw_below _ _) | exact B3.out | (trace_state; fail))) ((go_at_call 43; refine (CV W.drew (HVs.out.below (HBW.out.trans ((Below.refl _ _).drew)))).mono ?_; rintro e w3 ⟨hb3, ua, un, uc, ok, rfl, hr3⟩; have B3 : Hid (Below W.heap.size W w3) := bt (bt (Below.refl _ _).drew (bw_below _ _)) hb3; have HR3 : Hid _ := hr3; have HSZ : W.heap.size ≤ (bw W.drew s1).heap.size := by { rw [bw_size]; show W.heap.size ≤ W.heap.size + 1; omega }; clear hr3 hb3))
        rename_i hHeld
        obtain ⟨x0, x1⟩ := hHeld
        obtain ⟨⟨y0, y1, y2⟩, ⟨z0, z1, z2⟩, hlt3⟩ := SR.out w3 B3.out
        go_wp2
        refine bodyPost_ret (v := .tuple #[.agg #[.int .i64 t, .string (st c.nm), .slice ua un uc], .bool ok]) (by simp [results, Tryd.results29, go_sem]; go_simp) rfl ?_
        have hbelow : Below w.heap.size w (((w3.setCell ⟨w.heap.size, 0, none⟩ (.int .i64 t)).setCell ⟨w.heap.size, 1, none⟩ (.string (st c.nm))).setCell ⟨w.heap.size, 2, none⟩ (.slice ua un uc)) := set3 (HBW.out.trans (B3.out.mono HBW.out.size)) _ (Nat.le_refl _) _ _ _
        rcases HR3.out with ⟨e1, rfl, e3⟩ | ⟨vs, e1, rfl, ho⟩
        · rw [e3] at hbelow ⊢
          exact HPN.out t (st c.nm) _ (by rw [ER.out, e1]; rfl) hbelow
        · exact HPS.out ⟨t, c.nm, vs⟩ (.slice ua un uc) _ (by rw [ER.out, e1]; rfl) hbelow (own_set3 (ho.mono (Nat.le_trans HBW2.out HSZ)) _ _ _)
end Go.Proofs.YtpmhilaochfpaaaDoor
