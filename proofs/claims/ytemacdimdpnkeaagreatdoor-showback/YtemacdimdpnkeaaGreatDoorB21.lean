import Derived.Test.YtemacdimdpnkeaaGreatDoorB20
import Derived.Deep.RegionLaw
import Derived.Deep.AppendLies
import Derived.Recover
import Derived.Laws.Pointers
namespace Go.Proofs.YtemacdimdpnkeaaGreatDoor
set_option maxRecDepth 20000
open Go.RowKit
set_option linter.unusedVariables false
set_option linter.unusedSimpArgs false
structure PM (B : Nat) (w : World) (css1 css2 : List (List Value)) (cs : List ClassD) (rs : List (RuleD × Nat)) (v1 v2 : Value) : Prop where
  a0 : w.cell? ⟨B, 0, none⟩ = some (.slice none 0 0)
  a1 : w.cell? ⟨B, 1, none⟩ = some (.slice none 0 0)
  g0 : w.frozen? ⟨B, 0, none⟩ = false
  g1 : w.frozen? ⟨B, 1, none⟩ = false
  c0 : w.cell? ⟨B + 1, 0, none⟩ = some v1
  c1 : w.cell? ⟨B + 1, 1, none⟩ = some v2
  f0 : w.frozen? ⟨B + 1, 0, none⟩ = false
  f1 : w.frozen? ⟨B + 1, 1, none⟩ = false
  own1 : OwnG 10 2 w (B + 2) v1 css1
  own2 : OwnG 11 3 w (B + 2) v2 css2
  all1 : All2 (RClass w (B + 2)) css1 cs
  all2 : All2 (RRul w (B + 2)) css2 rs
  sz : B + 2 ≤ w.heap.size
theorem PM.fr {B r : Nat} {w w' : World} {css1 css2 : List (List Value)} {cs : List ClassD} {rs : List (RuleD × Nat)} {v1 v2 : Value} (h : PM B w css1 css2 cs rs v1 v2) (hr : r < B) (hf : Fr r w.heap.size w w') : PM B w' css1 css2 cs rs v1 v2 := by
  have hz := h.sz
  exact ⟨(hf.cell 0 (by omega) (by omega)).trans h.a0, (hf.cell 1 (by omega) (by omega)).trans h.a1, (hf.froz 0 (by omega) (by omega)).trans h.g0, (hf.froz 1 (by omega) (by omega)).trans h.g1, (hf.cell 0 (by omega) (by omega)).trans h.c0, (hf.cell 1 (by omega) (by omega)).trans h.c1, (hf.froz 0 (by omega) (by omega)).trans h.f0, (hf.froz 1 (by omega) (by omega)).trans h.f1, h.own1.fr (by omega) hf, h.own2.fr (by omega) hf, part_class.all h.all1 hf.size (blk_fr (by omega) hf), part_rul.all h.all2 hf.size (blk_fr (by omega) hf), Nat.le_trans hz hf.size⟩
theorem PM.below {B : Nat} {w w' : World} {css1 css2 : List (List Value)} {cs : List ClassD} {rs : List (RuleD × Nat)} {v1 v2 : Value} (h : PM B w css1 css2 cs rs v1 v2) (hf : Below w.heap.size w w') : PM B w' css1 css2 cs rs v1 v2 := by
  have hz := h.sz
  have hc : ∀ b i, b < w.heap.size → w'.cell? ⟨b, i, none⟩ = w.cell? ⟨b, i, none⟩ := fun b i hb => hf.cell (p := ⟨b, i, none⟩) hb
  have hd : ∀ b i, b < w.heap.size → w'.frozen? ⟨b, i, none⟩ = w.frozen? ⟨b, i, none⟩ := fun b i hb => hf.frozen (p := ⟨b, i, none⟩) hb
  exact ⟨(hc _ 0 (by omega)).trans h.a0, (hc _ 1 (by omega)).trans h.a1, (hd _ 0 (by omega)).trans h.g0, (hd _ 1 (by omega)).trans h.g1, (hc _ 0 (by omega)).trans h.c0, (hc _ 1 (by omega)).trans h.c1, (hd _ 0 (by omega)).trans h.f0, (hd _ 1 (by omega)).trans h.f1, h.own1.below hf, h.own2.below hf, part_class.all h.all1 hf.size (blk_below hf), part_rul.all h.all2 hf.size (blk_below hf), Nat.le_trans hz hf.size⟩
theorem OwnG.other {K J n m base : Nat} {w w' : World} {v u : Value} {css dss : List (List Value)} (hKJ : tyK K ≠ tyK J) (h1 : OwnG K n w base v css) (h2 : OwnG J m w base u dss) (hg : w.grownBy w' v.ownBlock) : OwnG J m w' base u dss := by
  refine ⟨h2.1, h2.2.1, ?_⟩
  rcases h2.2.2 with hn | ⟨g, cap, cur, rfl, hbb, hgg, rest⟩
  · exact .inl hn
  · refine .inr ⟨g, cap, cur, rfl, hbb, ?_, rest⟩
    rw [hg.block g (Array.getElem?_eq_some_iff.1 hgg).1 ?_]
    · exact hgg
    · rcases h1.2.2 with ⟨rfl, _⟩ | ⟨g', cap', cur', rfl, _, hg', _⟩
      · simp [Value.ownBlock]
      · intro e
        have e' : g = g' := by simpa [Value.ownBlock] using e
        subst e'
        rw [hgg] at hg'
        exact hKJ (Obj.cells.inj (Option.some.inj hg')).2.1.symm
theorem bx_set {B : Nat} (w : World) (i : Nat) (v : Value) : Bx (Bt (B + 1) (B + 2)) w (w.setCell ⟨B + 1, i, none⟩ v) := (Bx.refl _ _).setCell (bt_of (Nat.le_refl _) (by omega)) v
theorem OwnG.bx {K n B T base : Nat} {w w' : World} {v : Value} {css : List (List Value)} (h : OwnG K n w base v css) (hb : Bx (Bt B T) w w') (hT : T ≤ base) : OwnG K n w' base v css := h.move fun g h1 h2 => hb.block g h2 (fun hc => by have := hc.2; omega)
theorem Part.allbx {α : Type} {K n : Nat} {R : World → Nat → List Value → α → Prop} (hp : Part K n R) {w w' : World} {B T base : Nat} {css : List (List Value)} {xs : List α} (h : All2 (R w base) css xs) (hb : Bx (Bt B T) w w') (hT : T ≤ base) : All2 (R w' base) css xs := h.map fun _ _ hr => hp.bx hr hb hT
theorem PM.cls {B : Nat} {w w' : World} {css1 css2 : List (List Value)} {cs : List ClassD} {rs : List (RuleD × Nat)} {v1 v2 v3 : Value} {c : List Value} {x : ClassD} (h : PM B w css1 css2 cs rs v1 v2) (hR : RClass w (B + 2) c x) (hg : w.grownBy w' v1.ownBlock) (hb : Below (B + 2) w w') (ho : OwnG 10 2 w' (B + 2) v3 (css1 ++ [c])) : PM B (w'.setCell ⟨B + 1, 0, none⟩ v3) (css1 ++ [c]) css2 (cs ++ [x]) rs v3 v2 := by
  have hz := h.sz
  have hX := bx_set (B := B) w' 0 v3
  have hc : ∀ b i, b < B + 2 → w'.cell? ⟨b, i, none⟩ = w.cell? ⟨b, i, none⟩ := fun b i hb' => hb.cell (p := ⟨b, i, none⟩) hb'
  have hd : ∀ b i, b < B + 2 → w'.frozen? ⟨b, i, none⟩ = w.frozen? ⟨b, i, none⟩ := fun b i hb' => hb.frozen (p := ⟨b, i, none⟩) hb'
  have a0 := (hc B 0 (by omega)).trans h.a0
  have a1 := (hc B 1 (by omega)).trans h.a1
  have c0 := (hc (B + 1) 0 (by omega)).trans h.c0
  have c1 := (hc (B + 1) 1 (by omega)).trans h.c1
  have g0 := (hd B 0 (by omega)).trans h.g0
  have g1 := (hd B 1 (by omega)).trans h.g1
  have f0 := (hd (B + 1) 0 (by omega)).trans h.f0
  have f1 := (hd (B + 1) 1 (by omega)).trans h.f1
  have k1 := blk_grown (by decide) h.own1 hg
  have hn : ¬ B = B + 1 := by omega
  refine ⟨?_, ?_, ?_, ?_, ?_, ?_, ?_, ?_, ho.bx hX (Nat.le_refl _), (h.own1.other (by decide) h.own2 hg).bx hX (Nat.le_refl _), All2.snoc (part_class.bx (part_class.keep hR hb.size k1) hX (Nat.le_refl _)) (part_class.allbx (part_class.all h.all1 hb.size k1) hX (Nat.le_refl _)), part_rul.allbx (part_rul.all h.all2 hb.size k1) hX (Nat.le_refl _), Nat.le_trans (Nat.le_trans hz hb.size) hX.size⟩
  all_goals clear hX hc hd k1 h hR hg hb ho
  all_goals go_simp
theorem PM.rul {B : Nat} {w w' : World} {css1 css2 : List (List Value)} {cs : List ClassD} {rs : List (RuleD × Nat)} {v1 v2 v3 : Value} {c : List Value} {x : RuleD × Nat} (h : PM B w css1 css2 cs rs v1 v2) (hR : RRul w (B + 2) c x) (hg : w.grownBy w' v2.ownBlock) (hb : Below (B + 2) w w') (ho : OwnG 11 3 w' (B + 2) v3 (css2 ++ [c])) : PM B (w'.setCell ⟨B + 1, 1, none⟩ v3) css1 (css2 ++ [c]) cs (rs ++ [x]) v1 v3 := by
  have hz := h.sz
  have hX := bx_set (B := B) w' 1 v3
  have hc : ∀ b i, b < B + 2 → w'.cell? ⟨b, i, none⟩ = w.cell? ⟨b, i, none⟩ := fun b i hb' => hb.cell (p := ⟨b, i, none⟩) hb'
  have hd : ∀ b i, b < B + 2 → w'.frozen? ⟨b, i, none⟩ = w.frozen? ⟨b, i, none⟩ := fun b i hb' => hb.frozen (p := ⟨b, i, none⟩) hb'
  have a0 := (hc B 0 (by omega)).trans h.a0
  have a1 := (hc B 1 (by omega)).trans h.a1
  have c0 := (hc (B + 1) 0 (by omega)).trans h.c0
  have c1 := (hc (B + 1) 1 (by omega)).trans h.c1
  have g0 := (hd B 0 (by omega)).trans h.g0
  have g1 := (hd B 1 (by omega)).trans h.g1
  have f0 := (hd (B + 1) 0 (by omega)).trans h.f0
  have f1 := (hd (B + 1) 1 (by omega)).trans h.f1
  have k0 := blk_grown (by decide) h.own2 hg
  have k1 : ∀ k b, Blk w (B + 2) 10 k b → w'.heap[b]? = w.heap[b]? := fun k b hk => k0 k b (blk_more (by decide) k b hk)
  have hn : ¬ B = B + 1 := by omega
  refine ⟨?_, ?_, ?_, ?_, ?_, ?_, ?_, ?_, (h.own2.other (by decide) h.own1 hg).bx hX (Nat.le_refl _), ho.bx hX (Nat.le_refl _), part_class.allbx (part_class.all h.all1 hb.size k1) hX (Nat.le_refl _), All2.snoc (part_rul.bx (part_rul.keep hR hb.size k1) hX (Nat.le_refl _)) (part_rul.allbx (part_rul.all h.all2 hb.size k1) hX (Nat.le_refl _)), Nat.le_trans (Nat.le_trans hz hb.size) hX.size⟩
  all_goals clear hX hc hd k1 k0 h hR hg hb ho
  all_goals go_simp
theorem step_appG {sl : TypeId} {K n bytes : Nat} {z : Value} (hsl : Tryz.prog.underlying sl = some (.slice (tyK K))) (hinfo : (Tryz.prog.info? (tyK K)).map (fun i => (i.zero, i.size, i.bytes)) = some (some z, n, bytes)) (hzs : z.cells.size = n) (hn : 0 < n) (hby : bytes ≤ 96) {ops : Array Oper} {o : Oper} {a : Act} {KK : Act → World → Prop} {Q : Exit → Act → World → Prop} {E : Prop} {w : World} (hgd : o.guard = none) (s x : Operand)
    (ho : o.op = .call { callee := .builtin .append, args := #[s, x], argTypes := #[sl, sl] }) (base : Nat) (v : Value) (css : List (List Value)) (c : List Value) (hs : a.eval s = v) (hown : OwnG K n w base v css)
    (ad : Addr) (cap : Nat) (hx : a.eval x = .slice (some ad) 1 cap) (hcl : c.length = n) (hv : ∀ j u, c[j]? = some u → w.cell? (ad.add j) = some u) (hone : ∀ u ∈ c, u.oneCell' = true) (hlen : css.length ≤ 1000000) (hbase : base ≤ w.heap.size)
    (h : ∀ g cap w', OwnG K n w' base (.slice (some ⟨g, 0, none⟩) (css.length + 1) cap) (css ++ [c]) → w.grownBy w' v.ownBlock → Below base w w' → KK (a.put o.dst (.slice (some ⟨g, 0, none⟩) (css.length + 1) cap)) w') :
    if Region.wanted o (yielded ops a.tmps) = true then Oper.wp Tryz.prog o a w KK Q else E := by
  obtain ⟨i0, hi, hz0, hz1, hz2⟩ := info_parts hinfo
  refine step_append_lies w hgd s x sl ho base (tyK K) i0 z n bytes hsl hi hz0 hz1 hz2 hzs hn v css.length css.flatten hs hown.2 ad 1 cap c hx (by rw [hcl, Nat.one_mul]) hv hone (by decide) (by unfold maxLen; omega) (Nat.le_trans (Nat.mul_le_mul_left _ hby) (by omega)) hbase w.heap.size rfl ?_
  intro g cap' w' h1 h2 _ _
  refine h g cap' w' ⟨fun d hd => ?_, ?_⟩ h2 ((Below.refl base w).grown h2 hbase (fun k hk => (World.ownsRow.lt hown.2 k hk).1))
  · rcases List.mem_append.1 hd with hd | hd
    · exact hown.1 d hd
    · rw [List.mem_singleton.1 hd]; exact hcl
  · rw [List.length_append, List.flatten_append]
    simpa using h1
theorem tops_go {l0 l q : List Tk} {ts : List Top} {t : Top} (h : topsL l0 = (topsL l).map (ts ++ ·)) (hl : l ≠ []) (ht : topR l = some (t, q)) : topsL l0 = (topsL q).map (ts ++ [t] ++ ·) := by
  rw [h, tops_cons hl, ht]
  dsimp only
  cases topsL q with
  | none => rfl
  | some z => simp
theorem tops_bad {l0 l : List Tk} {ts : List Top} (h : topsL l0 = (topsL l).map (ts ++ ·)) (hl : l ≠ []) (ht : topR l = none) : topsL l0 = none := by
  rw [h, tops_cons hl, ht]; rfl
theorem tops_end {l0 : List Tk} {ts : List Top} (h : topsL l0 = (topsL []).map (ts ++ ·)) : topsL l0 = some ts := by
  rw [h, tops_nil]; simp
theorem top_open {x : TA} {m : List TA} {s : Str} {q : List Tk} (hx : x.1.k = 0) (hm : nameR (m.map Prod.fst) = some (s, q)) : topR ((x :: m).map Prod.fst) = (if s = sLit then thn classR (fun c => ret (Top.cls c)) q else if s = sP then thn ruleR (fun r => ret (Top.rul r.1 r.2)) q else none) := by
  unfold topR
  rw [thn_of (nxt_at hx), thn_of hm]
  split
  · rfl
  · split <;> rfl
theorem top_no {l : List Tk} (h : isK 0 l = false) : topR l = none := by unfold topR; rw [thn_none (nxt_isK h)]
theorem top_noname {x : TA} {m : List TA} (hx : x.1.k = 0) (hm : nameR (m.map Prod.fst) = none) : topR ((x :: m).map Prod.fst) = none := by
  unfold topR; rw [thn_of (nxt_at hx), thn_none hm]
theorem infoClass : (Tryz.prog.info? (tyK 10)).map (fun i => (i.zero, i.size, i.bytes)) = some (some (.agg #[.string ByteArray.empty, .slice none 0 0]), 2, 40) := by kernel_rfl
theorem infoRule : (Tryz.prog.info? (tyK 11)).map (fun i => (i.zero, i.size, i.bytes)) = some (some (.agg #[.string ByteArray.empty, .slice none 0 0, .slice none 0 0]), 3, 64) := by kernel_rfl
def RProg (w : World) (b : Nat) (cs : List Value) (x : ProgD) : Prop := ReP (Blk w b 12) w cs x
def PAns (r : Nat) (w : World) (l : List Tk) (e : Ending) (w' : World) : Prop :=
  Fr r w.heap.size w w' ∧ (((parT l).2 = 0 ∧ ∃ val, e = .returned val ∧ RAgg RProg w' w.heap.size val (parT l).1) ∨ ((parT l).2 ≠ 0 ∧ e = flt (parT l).2))
theorem PAns.bad {r : Nat} {w w' : World} {l : List Tk} (hf : Fr r w.heap.size w w') (h : topsL l = none) : PAns r w l (flt 17) w' := by
  have e : parT l = (p0, 17) := by unfold parT; rw [h]
  exact ⟨hf, .inr ⟨by rw [e]; decide, by rw [e]; rfl⟩⟩
theorem PAns.many {r : Nat} {w w' : World} {l : List Tk} {ts : List Top} (hf : Fr r w.heap.size w w') (h : topsL l = some ts) (ht : tooB ts = true) : PAns r w l (flt 21) w' := by
  have e : parT l = (p0, 21) := by unfold parT; rw [h]; exact if_pos ht
  exact ⟨hf, .inr ⟨by rw [e]; decide, by rw [e]; rfl⟩⟩
theorem PAns.fine {r : Nat} {w w' : World} {l : List Tk} {ts : List Top} {val : Value} (hf : Fr r w.heap.size w w') (h : topsL l = some ts) (ht : tooB ts = false) (hR : RAgg RProg w' w.heap.size val ⟨clsOf ts, rulOf ts⟩) : PAns r w l (.returned val) w' := by
  have e : parT l = (⟨clsOf ts, rulOf ts⟩, 0) := by unfold parT; rw [h]; exact if_neg (by rw [ht]; decide)
  exact ⟨hf, .inl ⟨by rw [e], val, rfl, by rw [e]; exact hR⟩⟩
end Go.Proofs.YtemacdimdpnkeaaGreatDoor
namespace Go.Proofs.YtemacdimdpnkeaaGreatDoor
set_option maxRecDepth 20000
open Go.RowKit
set_option linter.unusedVariables false
set_option linter.unusedSimpArgs false
def PI (w : World) (r : Nat) (l : List TA) (wr : World) (m : List TA) (ts : List Top) (rs : List (RuleD × Nat)) (css1 css2 : List (List Value)) (v' v1 v2 : Value) : Prop :=
  PM w.heap.size wr css1 css2 (clsOf ts) rs v1 v2 ∧ rs.map Prod.fst = rulOf ts ∧ Rs wr r v' m (ts.any limB) ∧ Fr r w.heap.size w wr ∧ css1.length + css2.length + m.length ≤ l.length ∧ topsL (l.map Prod.fst) = (topsL (m.map Prod.fst)).map (ts ++ ·)
theorem pm_start (w : World) : PM w.heap.size ((w.alloc (.cells #[.slice none 0 0, .slice none 0 0] 26)).alloc (.cells #[.slice none 0 0, .slice none 0 0] 26)) [] [] [] [] (.slice none 0 0) (.slice none 0 0) := by
  refine ⟨?_, ?_, ?_, ?_, ?_, ?_, ?_, ?_, OwnG.nil _ _ _ _, OwnG.nil _ _ _ _, trivial, trivial, by simp⟩
  all_goals go_simp
theorem PM.prog {B : Nat} {w : World} {css1 css2 : List (List Value)} {ts : List Top} {rs : List (RuleD × Nat)} {v1 v2 : Value} (h : PM B w css1 css2 (clsOf ts) rs v1 v2) (hr : rs.map Prod.fst = rulOf ts) : ReP (Blk w (B + 2) 12) w [v1, v2] ⟨clsOf ts, rulOf ts⟩ := by
  refine ⟨v1, v2, rfl, row_class (by decide) ⟨css1, h.own1.sl, h.all1⟩ (Nat.le_refl _), ?_⟩
  have := row_rul (J := 12) (B := B + 2) (by decide) ⟨css2, h.own2.sl, h.all2⟩ (Nat.le_refl _)
  rw [hr] at this
  exact this
theorem prog_bx {B T b : Nat} {w W : World} {cs : List Value} {x : ProgD} (h : ReP (Blk w b 12) w cs x) (hb : Bx (Bt B T) w W) (hT : T ≤ b) (hB : B ≤ b) : ReP (Blk W B 12) W cs x := by
  have hk : ∀ k c, Blk w b 12 k c → W.heap[c]? = w.heap[c]? := fun k c hk => hb.block c hk.lt (fun hc => by have h1 := hc.2; have h2 := hk.2.1; omega)
  exact ((ReP.keep (blk_stays hb.size hk) h).mono (blk_mono hk)).mono (blk_low hB)
theorem Bx.fr' {r B C T : Nat} {w w' : World} (h : Bx (Bt C T) w w') (hC : B ≤ C) (hB : B ≤ w.heap.size) : Fr r B w w' := ⟨h.os, h.tape, h.output, h.size, fun k hk _ => h.block k (by omega) (fun hc => by have := hc.1; omega)⟩
theorem kept_use {r : Nat} {W : World} {v : Value} {l : List TA} {b : Bool} {Q : Ending → World → Prop} (h : Rs W r v l b) (hp : b = true → Q (flt 21) W) (hr : b = false → Q (.returned (.tuple #[])) W) : Calls Tryz.prog 63 #[pR r] W Q := by
  cases b with
  | true => exact (kept_no r l v W h).mono (fun e w' h => by obtain ⟨rfl, rfl⟩ := h; exact hp rfl)
  | false => exact (kept_yes r l v W h).mono (fun e w' h => by obtain ⟨rfl, rfl⟩ := h; exact hr rfl)
theorem too_is (ts : List Top) (c1 c2 : Nat) (h1 : c1 = (clsOf ts).length) (h2 : c2 = (rulOf ts).length) : ((ts.any limB || decide ((16 : Int) < c1)) || decide ((16 : Int) < c2)) = tooB ts := by
  unfold tooB
  subst h1; subst h2
  rw [Bool.or_assoc]
  congr 1
  rw [Bool.eq_iff_iff]
  simp only [Bool.or_eq_true, decide_eq_true_eq]
  omega
set_option maxHeartbeats 8000000 in
theorem program_any (r : Nat) (l : List TA) (v : Value) (w : World) (h : Rs w r v l false) (hl : l.length ≤ 100000) :
    Calls Tryz.prog 26 #[pR r] w (PAns r w (l.map Prod.fst)) := by
  have hr := h.lt
  have HL : Hid (l.length ≤ 100000) := hl
  have H0 : Hid (Rs w r v l false) := h
  clear h hl
  go_enter Tryz.func26, Tryz.ntmps26
  go_wp2
  go_loopw [] (fun wr => ∃ (m : List TA) (ts : List Top) (rs : List (RuleD × Nat)) (css1 css2 : List (List Value)) (v' v1 v2 : Value), PI w r l wr m ts rs css1 css2 v' v1 v2) (fun wr => tokLen wr r)
  case atStart =>
    refine ⟨l, [], [], [], [], v, _, _, pm_start w, rfl, ?_, Fr.of (bt (bxn _ _) (bxn _ _)), by simp, ?_⟩
    · exact H0.out.below (bt (bxn _ _) (bxn _ _))
    · cases topsL (l.map Prod.fst) <;> simp
  case round =>
    obtain ⟨m, ts, rs, css1, css2, v', v1, v2, hPM, hrs, hS, hF, hlen, heq⟩ := hrel
    have HP : Hid (PM w.heap.size wr css1 css2 (clsOf ts) rs v1 v2) := hPM
    have HR : Hid (rs.map Prod.fst = rulOf ts) := hrs
    have HS : Hid (Rs wr r v' m (ts.any limB)) := hS
    have HF : Hid (Fr r w.heap.size w wr) := hF
    have HN : Hid (css1.length + css2.length + m.length ≤ l.length) := hlen
    have HE : Hid (topsL (l.map Prod.fst) = (topsL (m.map Prod.fst)).map (ts ++ ·)) := heq
    obtain ⟨a1, n1, rfl⟩ := hPM.own1.shape
    obtain ⟨a2, n2, rfl⟩ := hPM.own2.shape
    have hz := hPM.sz
    have c0 := hPM.c0
    have c1 := hPM.c1
    have f0 := hPM.f0
    have f1 := hPM.f1
    have t0 := hS.c0
    cases m with
    | nil =>
      obtain ⟨at_, nt, rfl⟩ := hS.tk.shape
      have hC1 : Hid (css1.length = (clsOf ts).length) := hPM.all1.len
      have hC2 : Hid (css2.length = (rulOf ts).length) := by show _ = _; rw [← hrs, List.length_map]; exact hPM.all2.len
      clear hPM hrs hS hF hlen heq H0
      have tk1 : Hid True := trivial
      have tk2 : Hid True := trivial
      go_wp2_with (first | (go_at_call 62; have tku := tk1; clear tku tk1; refine (atMost_any r 16 css1.length [] _ _ wr HS.out).mono ?_; rintro e w1 ⟨rfl, hS1, hF1⟩; have HS1 : Hid (Rs w1 r _ [] (ts.any limB || decide ((16 : Int) < css1.length))) := hS1; have P1 : Hid (PM w.heap.size w1 css1 css2 (clsOf ts) rs _ _) := HP.out.fr hr hF1; have c01 := P1.out.c0; have c11 := P1.out.c1; have f01 := P1.out.f0; have f11 := P1.out.f1; have a01 := P1.out.a0; have a11 := P1.out.a1; have g01 := P1.out.g0; have g11 := P1.out.g1; clear hS1) | (go_at_call 62; have tku := tk2; clear tku tk2; refine (atMost_any r 16 css2.length [] _ _ w1 HS1.out).mono ?_; rintro e w2 ⟨rfl, hS2, hF2⟩; have HS2 : Hid (Rs w2 r _ [] (tooB ts)) := (by rw [too_is ts _ _ hC1.out hC2.out] at hS2; exact hS2); have P2 : Hid (PM w.heap.size w2 css1 css2 (clsOf ts) rs _ _) := P1.out.fr hr hF2; have c02 := P2.out.c0; have c12 := P2.out.c1; have f02 := P2.out.f0; have f12 := P2.out.f1; have a02 := P2.out.a0; have a12 := P2.out.a1; have g02 := P2.out.g0; have g12 := P2.out.g1; clear hS2) | (go_at_call 63; refine kept_use HS2.out (fun ht => ⟨rfl, PAns.many (ft (ft HF.out hF1) hF2) (tops_end HE.out) ht⟩) ?_; intro ht; have HT : Hid (tooB ts = false) := ht; clear ht))
      refine bodyPost_ret (v := .agg #[.slice a1 css1.length n1, .slice a2 css2.length n2]) (by simp [results, Tryz.results26, go_sem, a02, a12, g02, g12, c02, c12] <;> rfl) rfl ?_
      refine PAns.fine (ts := ts) ?_ (tops_end HE.out) HT.out ⟨_, rfl, ?_⟩
      · exact fin_w (T := w.heap.size + 1) hr (ft (ft HF.out hF1) hF2) (Nat.le_refl _) (by repeat (first | with_reducible exact Bx.refl _ _ | with_reducible refine Bx.setCell ?_ (bt_of (by omega) (by omega)) _ | with_reducible refine Bx.alloc ?_ _ | with_reducible refine Bx.drew ?_))
      · exact prog_bx (T := w.heap.size + 1) (P2.out.prog HR.out) (by repeat (first | with_reducible exact Bx.refl _ _ | with_reducible refine Bx.setCell ?_ (bt_of (by omega) (by omega)) _ | with_reducible refine Bx.alloc ?_ _ | with_reducible refine Bx.drew ?_)) (by omega) (by omega)
    | cons x m =>
      obtain ⟨at_, nt, rfl⟩ := hS.tk.shape
      have hlz : (0 : Int) < (m.length : Int) + 1 := by omega
      clear hPM hrs hS hF hlen heq H0
      cases hk : isK 0 ((x :: m).map Prod.fst) with
      | false =>
        have HB : Hid (topsL (l.map Prod.fst) = none) := tops_bad HE.out (by simp) (top_no hk)
        have HK : Hid (isK 0 ((x :: m).map Prod.fst) = false) := hk
        clear hk
        go_wp2_with (go_at_call 58; refine Ans.use (take_ans r 0 (x :: m) _ _ wr HS.out) (fun w' hf hn => ⟨rfl, PAns.bad (ft HF.out hf) HB.out⟩) ?_; intro t rest val v' w1 hF hx; exfalso; rw [nxt_isK HK.out] at hx; cases hx)
      | true =>
        have hx : x.1.k = 0 := by simpa [isK] using hk
        have HX : Hid (x.1.k = 0) := hx
        have CT := take_yes r x m _ _ wr HS.out
        rw [hx] at CT
        unfold tkA at CT
        clear hk hx
        cases hm : nameR (m.map Prod.fst) with
        | none =>
          have HB : Hid (topsL (l.map Prod.fst) = none) := tops_bad HE.out (by simp) (top_noname HX.out hm)
          have HM : Hid (nameR (m.map Prod.fst) = none) := hm
          clear hm
          go_wp2_with (first | (go_at_call 58; refine CT.mono ?_; rintro e w1 ⟨rfl, ⟨v1, hS1⟩, hF1⟩; clear CT; have HS1 : Hid (Rs w1 r v1 m (ts.any limB)) := hS1; clear hS1) | (go_at_call 59; refine Ans.use (name_ans r m _ _ _ HS1.out) (fun w' hf hn => ⟨rfl, PAns.bad (ft (ft HF.out hF1) hf) HB.out⟩) ?_; intro t rest val v' w1 hF hx; exfalso; rw [HM.out] at hx; cases hx))
        | some p =>
          obtain ⟨s, qs⟩ := p
          have HM : Hid (nameR (m.map Prod.fst) = some (s, qs)) := hm
          have HT : Hid (topR ((x :: m).map Prod.fst) = (if s = sLit then thn classR (fun c => ret (Top.cls c)) qs else if s = sP then thn ruleR (fun r => ret (Top.rul r.1 r.2)) qs else none)) := top_open HX.out hm
          clear hm
          by_cases e1 : s = sLit
          · have b1 : ((st s).toList == [108, 105, 116, 101, 114, 97, 108, 105, 122, 101]) = true := (strE s _).trans (by rw [e1]; decide)
            have HT1 : Hid (topR ((x :: m).map Prod.fst) = thn classR (fun c => ret (Top.cls c)) qs) := HT.out.trans (if_pos e1)
            clear e1 HT
            go_wp2_with (first | (go_at_call 58; refine CT.mono ?_; rintro e w1 ⟨rfl, ⟨v1, hS1⟩, hF1⟩; clear CT; have HS1 : Hid (Rs w1 r v1 m (ts.any limB)) := hS1; clear hS1) | (go_at_call 59; refine Ans.use (name_ans r m _ _ _ HS1.out) (fun w' hf hn => (by rw [HM.out] at hn; cases hn)) ?_; rintro c q2 val v2 w2 hF2 hx2 hl2 rfl hS2; obtain ⟨hc, hq⟩ := Prod.mk.inj (Option.some.inj (HM.out.symm.trans hx2)); have HQ : Hid (qs = q2.map Prod.fst) := hq; subst hc; clear hq hx2; have HS2 : Hid (Rs w2 r v2 q2 (ts.any limB || no1 s)) := hS2; have P2 : Hid (PM w.heap.size w2 css1 css2 (clsOf ts) rs _ _) := (HP.out.fr hr hF1).fr hr hF2; have G2 : Hid (Fr r w.heap.size w w2) := ft (ft HF.out hF1) hF2; have c02 := P2.out.c0; have c12 := P2.out.c1; have f02 := P2.out.f0; have f12 := P2.out.f1; have a02 := P2.out.a0; have a12 := P2.out.a1; have g02 := P2.out.g0; have g12 := P2.out.g1; clear hS2))
            go_region_law (first | (go_simp; go_at_call 60; refine Ans.use (class_ans r q2 v2 _ _ (HS2.out.bel (B := w2.heap.size) HS2.out.lt (Below.refl _ _).drew) (by have h1 := HL.out; have h2 := HN.out; simp at h2; omega)) (fun w' hf hn => ⟨rfl, PAns.bad (ft (fo G2.out (Below.refl _ _).drew) hf) (tops_bad HE.out (by simp) (by rw [HT1.out, HQ.out, thn_none hn]))⟩) ?_; rintro y q3 val v3 w3 hF3 hx3 hl3 ⟨cs, rfl, hR⟩ hS3; have hR' := hR; obtain ⟨va, hcs, h1⟩ := hR'; obtain ⟨a5, n5, c5, e1⟩ := h1.like; subst e1; subst hcs; clear h1; have P3 : Hid (PM w.heap.size w3 css1 css2 (clsOf ts) rs _ _) := (P2.out.below (Below.refl _ _).drew).fr hr hF3; have HR3 : Hid (RClass w3 (w.heap.size + 2) [.string (st y.nm), .slice a5 n5 c5] y) := part_class.low hR (by have := P2.out.sz; exact this); have HS3 : Hid (Rs w3 r v3 q3 _) := hS3; have G3 : Hid (Fr r w.heap.size w w3) := ft (fo G2.out (Below.refl _ _).drew) hF3; have z3 : w.heap.size + 1 < w3.heap.size := (by have := P3.out.sz; omega); have c03 := P3.out.c0; have c13 := P3.out.c1; have f03 := P3.out.f0; have f13 := P3.out.f1; have d3 := (P3.out.below (bxn w3 (.cells #[.string (st y.nm), .slice a5 n5 c5] 61))).c0; clear hR hS3) | (refine step_appG (K := 10) Tryz.underlying23 infoClass rfl (by decide) (by decide) (by rfl) _ _ (by rfl) (w.heap.size + 2) (.slice a1 css1.length n1) css1 [.string (st y.nm), .slice a5 n5 c5] (by rfl) (P3.out.below (bxn _ _)).own1 ⟨_, 0, none⟩ 1 (by rfl) rfl (lit_cells _ _ _) (part_class.one HR3.out) (by have h1 := HL.out; have h2 := HN.out; simp at h2; omega) (P3.out.below (bxn _ _)).sz ?_; intro g7 c7 w7 ho7 hg7 hb7; have HB7 : Hid (Below (w.heap.size + 2) (w3.alloc (.cells #[.string (st y.nm), .slice a5 n5 c5] 61)) w7) := hb7; have HO7 : Hid (OwnG 10 2 w7 (w.heap.size + 2) (.slice (some ⟨g7, 0, none⟩) (css1.length + 1) c7) (css1 ++ [[.string (st y.nm), .slice a5 n5 c5]])) := ho7; have HG7 : Hid (World.grownBy _ w7 _) := hg7; have c7c : w7.cell? ⟨w.heap.size + 1, 0, none⟩ = _ := (hb7.cell (p := ⟨w.heap.size + 1, 0, none⟩) (by show w.heap.size + 1 < _; omega)).trans (P3.out.below (bxn _ _)).c0; have c7f : w7.frozen? ⟨w.heap.size + 1, 0, none⟩ = false := (hb7.frozen (p := ⟨w.heap.size + 1, 0, none⟩) (by show w.heap.size + 1 < _; omega)).trans (P3.out.below (bxn _ _)).f0; clear ho7 hg7 hb7))
            all_goals clear c02 c12 f02 f12 a02 a12 g02 g12 c03 c13 f03 f13 d3 c7c c7f
            all_goals go_wp2
            all_goals
              have HS8 : Rs (w7.setCell ⟨w.heap.size + 1, 0, none⟩ (.slice (some ⟨g7, 0, none⟩) (css1.length + 1) c7)) r v3 q3 _ := ((HS3.out.below (bxn _ _)).bel (B := w.heap.size + 2) (by omega) HB7.out).bx (B := w.heap.size + 1) (by omega) (bx_set w7 0 _)
              refine ⟨⟨q3, ts ++ [.cls y], rs, css1 ++ [[.string (st y.nm), .slice a5 n5 c5]], css2, v3, .slice (some ⟨g7, 0, none⟩) (css1.length + 1) c7, .slice a2 css2.length n2, ?_, ?_, ?_, ?_, ?_, tops_go HE.out (by simp) (by rw [HT1.out, HQ.out, thn_of hx3]; rfl)⟩, ?_⟩
              · have := (P3.out.below (bxn _ _)).cls (part_class.keep HR3.out (bxn _ _).size (blk_below (bxn _ _))) HG7.out HB7.out HO7.out
                rw [cls_app]; exact this
              · rw [rul_app, show rulOf [Top.cls y] = [] from rfl, List.append_nil]; exact HR.out
              · rw [List.any_append]
                have e : (ts.any limB || [(.cls y : Top)].any limB) = ((ts.any limB || no1 s) || ovK y) := by simp [no1]; rfl
                rw [e]; exact HS8
              · exact ((fo G3.out (bxn _ _)).trans (Fr.of (HB7.out.mono (by omega)))).trans ((bx_set (B := w.heap.size) w7 0 _).fr' (by omega) (by have := P3.out.sz; have := HB7.out.size; simp at *; omega))
              · have := HN.out; simp at this ⊢; omega
              · rw [HS8.toks, HS.out.toks]; simp; omega
          · have b1 : ((st s).toList == [108, 105, 116, 101, 114, 97, 108, 105, 122, 101]) = false := (strE s _).trans (decide_eq_false e1)
            by_cases e2 : s = sP
            · have b2 : ((st s).toList == [112]) = true := (strE s _).trans (by rw [e2]; decide)
              have HT1 : Hid (topR ((x :: m).map Prod.fst) = thn ruleR (fun r => ret (Top.rul r.1 r.2)) qs) := HT.out.trans ((if_neg e1).trans (if_pos e2))
              clear e1 e2 HT
              go_wp2_with (first | (go_at_call 58; refine CT.mono ?_; rintro e w1 ⟨rfl, ⟨v1, hS1⟩, hF1⟩; clear CT; have HS1 : Hid (Rs w1 r v1 m (ts.any limB)) := hS1; clear hS1) | (go_at_call 59; refine Ans.use (name_ans r m _ _ _ HS1.out) (fun w' hf hn => (by rw [HM.out] at hn; cases hn)) ?_; rintro c q2 val v2 w2 hF2 hx2 hl2 rfl hS2; obtain ⟨hc, hq⟩ := Prod.mk.inj (Option.some.inj (HM.out.symm.trans hx2)); have HQ : Hid (qs = q2.map Prod.fst) := hq; subst hc; clear hq hx2; have HS2 : Hid (Rs w2 r v2 q2 (ts.any limB || no1 s)) := hS2; have P2 : Hid (PM w.heap.size w2 css1 css2 (clsOf ts) rs _ _) := (HP.out.fr hr hF1).fr hr hF2; have G2 : Hid (Fr r w.heap.size w w2) := ft (ft HF.out hF1) hF2; have c02 := P2.out.c0; have c12 := P2.out.c1; have f02 := P2.out.f0; have f12 := P2.out.f1; have a02 := P2.out.a0; have a12 := P2.out.a1; have g02 := P2.out.g0; have g12 := P2.out.g1; clear hS2))
              go_region_law (first | (go_simp; go_at_call 61; refine Ans.use (rule_ans r q2 v2 _ _ (HS2.out.bel (B := w2.heap.size) HS2.out.lt (Below.refl _ _).drew) (by have h1 := HL.out; have h2 := HN.out; simp at h2; omega)) (fun w' hf hn => ⟨rfl, PAns.bad (ft (fo G2.out (Below.refl _ _).drew) hf) (tops_bad HE.out (by simp) (by rw [HT1.out, HQ.out, thn_none hn]))⟩) ?_; rintro y q3 val v3 w3 hF3 hx3 hl3 ⟨cs, rfl, hR⟩ hS3; have hR' := hR; obtain ⟨va, vb, hcs, h1, h2⟩ := hR'; obtain ⟨a5, n5, c5, e1⟩ := h1.like; obtain ⟨a6, n6, c6, e2⟩ := h2.like; subst e1; subst e2; subst hcs; clear h1 h2; have P3 : Hid (PM w.heap.size w3 css1 css2 (clsOf ts) rs _ _) := (P2.out.below (Below.refl _ _).drew).fr hr hF3; have HR3 : Hid (RRul w3 (w.heap.size + 2) [.string (st y.1.nm), .slice a5 n5 c5, .slice a6 n6 c6] y) := part_rul.low hR (by have := P2.out.sz; exact this); have HS3 : Hid (Rs w3 r v3 q3 _) := hS3; have G3 : Hid (Fr r w.heap.size w w3) := ft (fo G2.out (Below.refl _ _).drew) hF3; have z3 : w.heap.size + 1 < w3.heap.size := (by have := P3.out.sz; omega); have c03 := P3.out.c0; have c13 := P3.out.c1; have f03 := P3.out.f0; have f13 := P3.out.f1; have d3 := (P3.out.below (bxn w3 (.cells #[.string (st y.1.nm), .slice a5 n5 c5, .slice a6 n6 c6] 51))).c1; clear hR hS3) | (refine step_appG (K := 11) Tryz.underlying24 infoRule rfl (by decide) (by decide) (by rfl) _ _ (by rfl) (w.heap.size + 2) (.slice a2 css2.length n2) css2 [.string (st y.1.nm), .slice a5 n5 c5, .slice a6 n6 c6] (by rfl) (P3.out.below (bxn _ _)).own2 ⟨_, 0, none⟩ 1 (by rfl) rfl (lit_cells _ _ _) (part_rul.one HR3.out) (by have h1 := HL.out; have h2 := HN.out; simp at h2; omega) (P3.out.below (bxn _ _)).sz ?_; intro g7 c7 w7 ho7 hg7 hb7; have HB7 : Hid (Below (w.heap.size + 2) (w3.alloc (.cells #[.string (st y.1.nm), .slice a5 n5 c5, .slice a6 n6 c6] 51)) w7) := hb7; have HO7 : Hid (OwnG 11 3 w7 (w.heap.size + 2) (.slice (some ⟨g7, 0, none⟩) (css2.length + 1) c7) (css2 ++ [[.string (st y.1.nm), .slice a5 n5 c5, .slice a6 n6 c6]])) := ho7; have HG7 : Hid (World.grownBy _ w7 _) := hg7; have c7c : w7.cell? ⟨w.heap.size + 1, 1, none⟩ = _ := (hb7.cell (p := ⟨w.heap.size + 1, 1, none⟩) (by show w.heap.size + 1 < _; omega)).trans (P3.out.below (bxn _ _)).c1; have c7f : w7.frozen? ⟨w.heap.size + 1, 1, none⟩ = false := (hb7.frozen (p := ⟨w.heap.size + 1, 1, none⟩) (by show w.heap.size + 1 < _; omega)).trans (P3.out.below (bxn _ _)).f1; clear ho7 hg7 hb7))
              all_goals clear c02 c12 f02 f12 a02 a12 g02 g12 c03 c13 f03 f13 d3 c7c c7f
              all_goals go_wp2
              all_goals
                have HS8 : Rs (w7.setCell ⟨w.heap.size + 1, 1, none⟩ (.slice (some ⟨g7, 0, none⟩) (css2.length + 1) c7)) r v3 q3 _ := ((HS3.out.below (bxn _ _)).bel (B := w.heap.size + 2) (by omega) HB7.out).bx (B := w.heap.size + 1) (by omega) (bx_set w7 1 _)
                refine ⟨⟨q3, ts ++ [.rul y.1 y.2], (rs ++ [y]), css1, css2 ++ [[.string (st y.1.nm), .slice a5 n5 c5, .slice a6 n6 c6]], v3, .slice a1 css1.length n1, .slice (some ⟨g7, 0, none⟩) (css2.length + 1) c7, ?_, ?_, ?_, ?_, ?_, tops_go HE.out (by simp) (by rw [HT1.out, HQ.out, thn_of hx3]; rfl)⟩, ?_⟩
                · have := (P3.out.below (bxn _ _)).rul (part_rul.keep HR3.out (bxn _ _).size (blk_below (bxn _ _))) HG7.out HB7.out HO7.out
                  rw [cls_app]; rw [show clsOf [Top.rul y.1 y.2] = [] from rfl, List.append_nil]; exact this
                · rw [rul_app, List.map_append, HR.out]; rfl
                · rw [List.any_append]
                  have e : (ts.any limB || [(.rul y.1 y.2 : Top)].any limB) = ((ts.any limB || no1 s) || ovR y) := by simp [no1]; rfl
                  rw [e]; exact HS8
                · exact ((fo G3.out (bxn _ _)).trans (Fr.of (HB7.out.mono (by omega)))).trans ((bx_set (B := w.heap.size) w7 1 _).fr' (by omega) (by have := P3.out.sz; have := HB7.out.size; simp at *; omega))
                · have := HN.out; simp at this ⊢; omega
                · rw [HS8.toks, HS.out.toks]; simp; omega
            · have b2 : ((st s).toList == [112]) = false := (strE s _).trans (decide_eq_false e2)
              have HB : Hid (topsL (l.map Prod.fst) = none) := tops_bad HE.out (by simp) (HT.out.trans ((if_neg e1).trans (if_neg e2)))
              clear e1 e2 HT
              go_wp2_with (first | (go_at_call 58; refine CT.mono ?_; rintro e w1 ⟨rfl, ⟨v1, hS1⟩, hF1⟩; clear CT; have HS1 : Hid (Rs w1 r v1 m (ts.any limB)) := hS1; clear hS1) | (go_at_call 59; refine Ans.use (name_ans r m _ _ _ HS1.out) (fun w' hf hn => (by rw [HM.out] at hn; cases hn)) ?_; rintro c q2 val v2 w2 hF2 hx2 hl2 rfl hS2; obtain ⟨hc, hq⟩ := Prod.mk.inj (Option.some.inj (HM.out.symm.trans hx2)); subst hc; clear hq hx2 hS2))
              exact ⟨rfl, PAns.bad (ft (ft HF.out hF1) hF2) HB.out⟩
end Go.Proofs.YtemacdimdpnkeaaGreatDoor
namespace Go.Proofs.YtemacdimdpnkeaaGreatDoor
set_option maxRecDepth 20000
open Go.RowKit
set_option linter.unusedVariables false
set_option linter.unusedSimpArgs false
theorem tmps35 (a b : Value) : #[a] ++ ((Array.replicate 15 undef).setIfInBounds 3 b).setIfInBounds 0 b = #[a, b, undef, undef, b, undef, undef, undef, undef, undef, undef, undef, undef, undef, undef, undef] := by rfl
theorem catch_idle (p : Addr) (w : World) :
    CallsD Tryz.prog 25 #[.pointer (some p)] .returning w fun e u' w' => e = .returned (.tuple #[]) ∧ u' = .returning ∧ w' = w := by
  refine callsD_of_wpS Tryz.func25 rfl fun c₀ cs hu => ?_
  apply wpS_seq
  apply wpS_region
  simp [wpOpsS, go_sem, recoverD, hu, Tryz.ntmps25, Exit.thenS]
  rw [tmps35]
  refine wpS_of_wp ?_
  go_wp2
  refine ⟨rfl, .returning, by cases c₀; simp_all, .tuple #[], by simp [results, Tryz.results25, go_sem], rfl, rfl, rfl⟩
theorem assert86 (n : Int) (w : World) : Sem.run Tryz.prog (Instr.typeAssert (.iface 74 (.int .i64 n)) 20 74 true) w = .ok (.tuple #[.int .i64 n, .bool true]) w := by
  first | kernel_rfl | rfl
theorem catch_fault (p : Addr) (x n : Int) (older : List PanicEntry) (w : World) (hc : w.cell? p = some (.int .i64 x)) (hz : w.frozen? p = false) :
    CallsD Tryz.prog 25 #[.pointer (some p)] (.panicking ({ v := .iface 74 (.int .i64 n), recovered := false } :: older)) w fun e u' w' =>
      e = .returned (.tuple #[]) ∧ u' = .panicking ({ v := .iface 74 (.int .i64 n), recovered := true } :: older) ∧ w' = w.setCell p (.int .i64 n) := by
  refine callsD_of_wpS Tryz.func25 rfl fun c₀ cs hu => ?_
  apply wpS_seq
  apply wpS_region
  simp [wpOpsS, go_sem, recoverD, hu, Tryz.ntmps25, Exit.thenS]
  rw [tmps35]
  refine wpS_of_wp ?_
  have A86 := assert86
  go_wp2
  refine ⟨rfl, _, rfl, .tuple #[], by simp [results, Tryz.results25, go_sem], rfl, rfl, rfl⟩
theorem rs_new {w : World} {v : Value} {l : List TA} {a b : Obj} (h : Toks w (· < w.heap.size) v l) : Rs (((w.alloc a).alloc b).alloc (.cells #[v, .bool false] 78)) (w.heap.size + 2) v l false := by
  have hk : Toks (((w.alloc a).alloc b).alloc (.cells #[v, .bool false] 78)) (· < w.heap.size) v l := h.below (bt (bt (bxn _ _) (bxn _ _)) (bxn _ _))
  refine ⟨?_, ?_, ?_, ?_, ?_, SlW.mono (fun k hk => by omega) hk⟩
  · go_simp
  · go_simp
  · go_simp
  · go_simp
  · have := heap_alloc_new ((w.alloc a).alloc b) (.cells #[v, .bool false] 78)
    rw [show ((w.alloc a).alloc b).heap.size = w.heap.size + 2 by simp] at this
    exact ⟨_, this⟩
theorem bt3 {B : Nat} {w w1 w2 : World} (h : Below B w w1) (k : Below B w1 w2) : Below B w w2 := h.trans k
theorem fr_bel {r B : Nat} {w w' : World} (h : Fr r (B + 3) w w') (hr : B ≤ r) : Below B w w' := ⟨h.os, h.tape, h.output, h.size, fun k hk => h.block k (by omega) (by omega)⟩
set_option maxHeartbeats 1000000 in
theorem read_no (v : Value) (l : List TA) (w : World) (h : Toks w (· < w.heap.size) v l) (hl : l.length ≤ 100000) (hn : (parT (l.map Prod.fst)).2 ≠ 0) :
    Calls Tryz.prog 12 #[v] w fun e w' => e = .returned (.tuple #[.agg #[.slice none 0 0, .slice none 0 0], .int .i64 (parT (l.map Prod.fst)).2]) ∧ Below w.heap.size w w' := by
  have hmf : ∀ (fn : Fn) (first cap : Array Value) (w : World), (Instr.makeFunc fn first cap).run Tryz.prog w = .ok (.func fn first cap) w := fun _ _ _ _ => rfl
  obtain ⟨N, hN⟩ : ∃ N, N = (parT (l.map Prod.fst)).2 := ⟨_, rfl⟩
  have CP : ∀ W, Rs W (w.heap.size + 2) v l false → Calls Tryz.prog 26 #[pR (w.heap.size + 2)] W fun e w' => e = .panicked [{ v := .iface 74 (.int .i64 N), recovered := false }] ∧ Fr (w.heap.size + 2) W.heap.size W w' := fun W hW => by
    refine (program_any (w.heap.size + 2) l v W hW hl).mono ?_
    rintro e w1 ⟨hF, ⟨h0, _⟩ | ⟨_, he⟩⟩
    · exact absurd h0 hn
    · rw [← hN] at he; exact ⟨he, hF⟩
  have HT : Hid (Toks w (· < w.heap.size) v l) := h
  obtain ⟨at_, nt, rfl⟩ := h.shape
  rw [← hN]
  clear h hn hN hl
  go_enter_defers Tryz.func12, Tryz.ntmps12
  go_wp2_with (go_at_call 26; refine (CP _ (rs_new HT.out)).mono ?_; rintro e w1 ⟨rfl, hF⟩; clear CP)
  obtain ⟨hc, hz⟩ := fr_box hF
  have z1 : w.heap.size + 3 ≤ w1.heap.size := by have := hF.size; simp at this; omega
  have s0 : w1.cell? ⟨w.heap.size, 0, none⟩ = some (.slice none 0 0) := by rw [hc _ _ (by simp <;> omega) (by omega)]; go_simp
  have s1 : w1.cell? ⟨w.heap.size, 1, none⟩ = some (.slice none 0 0) := by rw [hc _ _ (by simp <;> omega) (by omega)]; go_simp
  have e0 : w1.cell? ⟨w.heap.size + 1, 0, none⟩ = some (.int .i64 0) := by rw [hc _ _ (by simp <;> omega) (by omega)]; go_simp
  have k0 : w1.frozen? ⟨w.heap.size + 1, 0, none⟩ = false := by rw [hz _ _ (by simp <;> omega) (by omega)]; go_simp
  have HB : Below w.heap.size w w1 := bt3 (bt (bt (bxn _ _) (bxn _ _)) (bxn _ _)) (fr_bel (B := w.heap.size) (by simpa using hF) (by omega))
  clear hc hz hF
  refine leaves_cons (f := 25) (args := #[.pointer (some ⟨w.heap.size + 1, 0, none⟩)]) (by simp) (by simp [go_sem]) ?_
  refine (catch_fault ⟨w.heap.size + 1, 0, none⟩ 0 N [] _ e0 k0).mono ?_
  rintro e u' w'' ⟨rfl, rfl, rfl⟩
  have hn1 : ¬ w.heap.size = w.heap.size + 1 := by omega
  simp [Leaves, settle, results, Tryz.results12, go_sem, s0, s1, e0, hn1]
  exact HB.setCell (p := ⟨w.heap.size + 1, 0, none⟩) (Nat.le_succ _) _
set_option maxHeartbeats 1000000 in
theorem read_ok (v : Value) (l : List TA) (w : World) (h : Toks w (· < w.heap.size) v l) (hl : l.length ≤ 100000) (hn : (parT (l.map Prod.fst)).2 = 0) :
    Calls Tryz.prog 12 #[v] w fun e w' => ∃ v1 v2, e = .returned (.tuple #[.agg #[v1, v2], .int .i64 0]) ∧ SlLike v1 ∧ SlLike v2 ∧ RProg w' w.heap.size [v1, v2] (parT (l.map Prod.fst)).1 ∧ Below w.heap.size w w' := by
  have hmf : ∀ (fn : Fn) (first cap : Array Value) (w : World), (Instr.makeFunc fn first cap).run Tryz.prog w = .ok (.func fn first cap) w := fun _ _ _ _ => rfl
  obtain ⟨G, hG⟩ : ∃ G, G = (parT (l.map Prod.fst)).1 := ⟨_, rfl⟩
  have CP : ∀ W, Rs W (w.heap.size + 2) v l false → Calls Tryz.prog 26 #[pR (w.heap.size + 2)] W fun e w' => ∃ val, e = .returned val ∧ RAgg RProg w' W.heap.size val G ∧ Fr (w.heap.size + 2) W.heap.size W w' := fun W hW => by
    refine (program_any (w.heap.size + 2) l v W hW hl).mono ?_
    rintro e w1 ⟨hF, ⟨_, val, rfl, hR⟩ | ⟨h0, _⟩⟩
    · exact ⟨val, rfl, by rw [hG]; exact hR, hF⟩
    · exact absurd hn h0
  have HT : Hid (Toks w (· < w.heap.size) v l) := h
  obtain ⟨at_, nt, rfl⟩ := h.shape
  rw [← hG]
  clear h hn hG hl
  go_enter_defers Tryz.func12, Tryz.ntmps12
  go_wp2_with (go_at_call 26; refine (CP _ (rs_new HT.out)).mono ?_; rintro e w1 ⟨val, rfl, ⟨cs, rfl, hR⟩, hF⟩; obtain ⟨ba, hba, hR1⟩ : ∃ ba, w.heap.size + 2 ≤ ba ∧ RProg w1 ba cs G := ⟨_, (by simp <;> omega), hR⟩; have hR2 := hR1; obtain ⟨va, vb, hcs, h1, h2⟩ := hR2; obtain ⟨a1, n1, c1, e1⟩ := h1.like; obtain ⟨a2, n2, c2, e2⟩ := h2.like; subst e1; subst e2; subst hcs; clear CP hR h1 h2; obtain ⟨hc, hz⟩ := fr_box hF; have z1 : w.heap.size + 3 ≤ w1.heap.size := (by have := hF.size; simp at this; omega); have s0 : w1.cell? ⟨w.heap.size, 0, none⟩ = some (.slice none 0 0) := (by rw [hc _ _ (by simp <;> omega) (by omega)]; go_simp); have s1 : w1.cell? ⟨w.heap.size, 1, none⟩ = some (.slice none 0 0) := (by rw [hc _ _ (by simp <;> omega) (by omega)]; go_simp); have t0 : w1.frozen? ⟨w.heap.size, 0, none⟩ = false := (by rw [hz _ _ (by simp <;> omega) (by omega)]; go_simp); have t1 : w1.frozen? ⟨w.heap.size, 1, none⟩ = false := (by rw [hz _ _ (by simp <;> omega) (by omega)]; go_simp); have e0 : w1.cell? ⟨w.heap.size + 1, 0, none⟩ = some (.int .i64 0) := (by rw [hc _ _ (by simp <;> omega) (by omega)]; go_simp); have k0 : w1.frozen? ⟨w.heap.size + 1, 0, none⟩ = false := (by rw [hz _ _ (by simp <;> omega) (by omega)]; go_simp); clear hc hz)
  have HB : Below w.heap.size w w1 := bt3 (bt (bt (bxn _ _) (bxn _ _)) (bxn _ _)) (fr_bel (B := w.heap.size) (by simpa using hF) (by omega))
  refine leaves_cons (f := 25) (args := #[.pointer (some ⟨w.heap.size + 1, 0, none⟩)]) (by simp) (by simp [go_sem]) ?_
  refine (catch_idle ⟨w.heap.size + 1, 0, none⟩ _).mono ?_
  rintro e u' w'' ⟨rfl, rfl, rfl⟩
  have hn1 : ¬ w.heap.size = w.heap.size + 1 := by omega
  simp [Leaves, settle, results, Tryz.results12, go_sem, s0, s1, e0, hn1]
  refine ⟨_, _, ⟨rfl, rfl⟩, ⟨_, _, _, rfl⟩, ⟨_, _, _, rfl⟩, prog_bx (B := w.heap.size) (T := w.heap.size + 2) hR1 (by repeat (first | with_reducible exact Bx.refl _ _ | with_reducible refine Bx.setCell ?_ (bt_of (by omega) (by omega)) _ | with_reducible refine Bx.alloc ?_ _ | with_reducible refine Bx.drew ?_)) hba (by omega), ?_⟩
  exact ((HB.setCell (p := ⟨w.heap.size, 0, none⟩) (Nat.le_refl _) _).setCell (p := ⟨w.heap.size, 1, none⟩) (Nat.le_refl _) _).setCell (p := ⟨w.heap.size + 1, 0, none⟩) (Nat.le_succ _) _
end Go.Proofs.YtemacdimdpnkeaaGreatDoor
