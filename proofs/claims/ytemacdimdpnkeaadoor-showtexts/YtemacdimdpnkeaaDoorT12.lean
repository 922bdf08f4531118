import Derived.Test.YtemacdimdpnkeaaDoorT11
import Derived.Test.YtemacdimdpnkeaaDoorT6
import Derived.Test.YtemacdimdpnkeaaDoorT2
namespace Go.Proofs.YtemacdimdpnkeaaDoor
open Go.RowKit
set_option linter.unusedVariables false
set_option linter.unusedSimpArgs false
set_option maxRecDepth 20000
theorem pow_at : Tryd.prog.globalNamed powN = some 0 := by kernel_rfl
theorem Vars.at {w w' : World} {B : Nat} (hB : 5 ≤ B) (h : Vars w) (hb : Below B w w') : Vars w' := by
  obtain ⟨h1, h4⟩ := h
  refine ⟨⟨fun c hc => (hb.cell (by show 1 < B; omega)).trans (h1.1 c hc), fun i hi => ⟨(hb.cell (by show 2 < B; omega)).trans (h1.2 i hi).1, (hb.cell (by show 2 < B; omega)).trans (h1.2 i hi).2⟩⟩, ?_⟩
  unfold Lib.TabIs World.var? at *
  rw [pow_at] at h4 ⊢
  simp only [Option.bind_some] at h4 ⊢
  rw [hb.block 0 (by omega)]; exact h4
theorem grown_of {w w' : World} (h : Below w.heap.size w w') : w.grownBy w' none := ⟨h.1, h.2, h.3, h.size, fun k hk _ => h.block k hk⟩
theorem Bd.below {w w' : World} {B b : Nat} {zs : Str} (h : Bd w B b zs) (hb : Below w.heap.size w w') : Bd w' B b zs := by
  have hlt := h.lt
  rcases h with ⟨h1, v, h2, h3, h4⟩ | ⟨h1, v, h2, h3, h4⟩
  · exact .inl ⟨h1, v, (hb.block b hlt).trans h2, h3.kept (grown_of hb) (by cases hv : v.ownBlock <;> simp), h4⟩
  · exact .inr ⟨h1, v, (hb.block b hlt).trans h2, h3.kept (grown_of hb) (by cases hv : v.ownBlock <;> simp), h4⟩
theorem FB.below {b : Nat} {w w' : World} (hlt : b < w.heap.size) (hb : Below w.heap.size w w') : FB b w w' :=
  ⟨hb.size, fun k hk ha => ⟨hb.block k hk, ha.1, fun p v T fz e => ha.2 p v T fz (by rw [← hb.block b hlt]; exact e)⟩⟩
theorem At.below {w w1 w2 : World} {B b : Nat} {z : Str} (h : At w B b w1 z) (hb : Below w1.heap.size w1 w2) : At w B b w2 z :=
  ⟨h.bd.below hb, h.bel.trans (hb.mono (by have := h.bd.le; have := h.bd.lt; omega)), h.fb.trans (FB.below h.bd.lt hb)⟩
def svd (x : VD) : Str := (txtS x.k x.n (st x.s)).data.toList
def fV (x : VD) : Prop := 0 ≤ x.k ∧ x.k ≤ 255 ∧ x.s.length ≤ 100000
def fE (l : List ItemD) : Prop := ∀ x ∈ l, fV x.x
def fA (a : AttrD) : Prop := (∀ x ∈ a.ones, fV x) ∧ ∀ x ∈ a.tests, fV x.x
def fC (c : CondD) : Prop := ∀ x ∈ c.attrs, fA x
theorem text_sv (x : VD) (w : World) (h : fV x) (hV : Vars w) :
    Calls Tryd.prog 71 #[.agg #[.int .u8 x.k, .int .i64 x.n, .string (st x.s)]] w fun e w' => e = .returned (.string (st (svd x))) ∧ Below w.heap.size w w' := by
  have := text_any13 x.k x.n (st x.s) w h.1 h.2.1 (by rw [st_size]; have := h.2.2; omega) hV
  unfold svd
  rw [st_of]
  exact this
theorem rtext_sv (x : VD) (w : World) (h : fV x) :
    Calls Tryd.prog 23 #[.agg #[.int .u8 x.k, .int .i64 x.n, .string (st x.s)]] w fun e w' => e = .returned (.string (st (svd x))) ∧ Below w.heap.size w w' := by
  have := rtext_any13 x.k x.n (st x.s) w h.1 h.2.1 (by rw [st_size]; have := h.2.2; omega)
  unfold svd
  rw [st_of]
  exact this
theorem sgn_is (p : Int) : sgnS p = st (sgnL p) := by
  unfold sgnS sgnL
  repeat' split
  all_goals rfl
theorem sign_sv (p : Int) (w : World) : Calls Tryd.prog 72 #[.int .u8 p] w fun e w' => e = .returned (.string (st (sgnL p))) ∧ w' = w := by
  rw [← sgn_is]; exact sign_any13 p w
theorem rsign_sv (p : Int) (w : World) : Calls Tryd.prog 58 #[.int .u8 p] w fun e w' => e = .returned (.string (st (sgnL p))) ∧ w' = w := by
  rw [← sgn_is]; exact rsign_any13 p w
end Go.Proofs.YtemacdimdpnkeaaDoor
namespace Go.Proofs.YtemacdimdpnkeaaDoor
open Go.RowKit
set_option linter.unusedVariables false
set_option linter.unusedSimpArgs false
set_option maxRecDepth 20000
theorem getD_mapS {α : Type} (f : α → Str) (l : List α) (i : Nat) (d : α) (h : i < l.length) : (l.map f).getD i [] = f (l.getD i d) := by
  rw [List.getD_eq_getElem?_getD, List.getD_eq_getElem?_getD, List.getElem?_map, List.getElem?_eq_getElem h]; rfl
theorem getD_mem {α : Type} (l : List α) (i : Nat) (d : α) (h : i < l.length) : l.getD i d ∈ l := by
  rw [List.getD_eq_getElem?_getD, List.getElem?_eq_getElem h]; exact List.getElem_mem h
theorem stays_below {B : Nat} {w w' : World} (h : Below B w w') : Stays (fun _ k => k < B) w w' := ⟨h.size, fun _ b hb _ => h.block b hb⟩
set_option maxHeartbeats 4000000 in
theorem val_lay {B K b : Nat} (hK : PutC K) (zs : Str) (x : VD) (w : World) (hb : Bd w B b zs) (hlen : zs.length + (svd x).length ≤ 1000000000) (hf : fV x) (hB : 5 ≤ B) (hV : Vars w) :
    Calls Tryd.prog 55 #[pv K b, .agg #[.int .u8 x.k, .int .i64 x.n, .string (st x.s)]] w (Lays1 B b w (zs ++ (svd x))) := by
  have eK : ∀ (args : Array Value) (w : World), (callFunc K args).run Tryd.prog w = .ok (.enter K args) w := hK.1
  have HL : Hid (zs.length + (svd x).length ≤ 1000000000) := hlen
  have HB : Hid (Bd w B b zs) := hb
  have H0 : Hid (At (w.alloc (.cells #[.int .u8 x.k, .int .i64 x.n, .string (st x.s)] 25)) B b (w.alloc (.cells #[.int .u8 x.k, .int .i64 x.n, .string (st x.s)] 25)) zs) := At.refl (HB.out.alloc _)
  have HZ : Hid (At w B b (w.alloc (.cells #[.int .u8 x.k, .int .i64 x.n, .string (st x.s)] 25)) zs) := (At.refl HB.out).alloc _
  have HX : Hid (∀ W z, At (w.alloc (.cells #[.int .u8 x.k, .int .i64 x.n, .string (st x.s)] 25)) B b W z → W.cell? ⟨w.heap.size, 0, none⟩ = some (.int .u8 x.k) ∧ W.cell? ⟨w.heap.size, 1, none⟩ = some (.int .i64 x.n) ∧ W.cell? ⟨w.heap.size, 2, none⟩ = some (.string (st x.s))) := by
    intro W z hW
    have hq := hW.fb
    have hlt : w.heap.size < (w.alloc (.cells #[.int .u8 x.k, .int .i64 x.n, .string (st x.s)] 25)).heap.size := by simp
    have hap : Apart (w.alloc (.cells #[.int .u8 x.k, .int .i64 x.n, .string (st x.s)] 25)) b w.heap.size := (HB.out.new (Nat.le_refl _)).alloc HB.out.lt _
    exact ⟨hq.cell hlt hap (by simp), hq.cell hlt hap (by simp), hq.cell hlt hap (by simp)⟩
  have HV : Hid (Vars w) := hV
  clear hV
  have hb1 := hb.lt
  clear hlen hb
  have tok1 : Hid True := trivial
  have tok2 : Hid True := trivial
  unfold pv at *
  go_enter Tryd.func55, Tryd.ntmps55
  go_wp2_with (first | (go_at_call 71; have tku := tok1; clear tku tok1; refine (text_sv x _ hf (HV.out.at hB (HZ.out.trans H0.out).bel)).mono ?_; rintro e w1 ⟨rfl, hh⟩; have hh1 : At (w.alloc (.cells #[.int .u8 x.k, .int .i64 x.n, .string (st x.s)] 25)) B b w1 zs := H0.out.below hh; clear hh; obtain ⟨p0, p1, p2⟩ := HX.out _ _ hh1; have H1 : Hid (At (w.alloc (.cells #[.int .u8 x.k, .int .i64 x.n, .string (st x.s)] 25)) B b w1 zs) := hh1; have hs1 := hh1.bel.size; clear hh1) | (go_at_fn K; have tku := tok2; clear tku tok2; refine (put1 hK H1.out.bd (svd x) (by have := HL.out; (try simp only [List.length_append, List.length_cons, List.length_nil] at this ⊢); omega) (by simp)).mono ?_; rintro e w2 ⟨rfl, hh⟩; have hh2 : At (w.alloc (.cells #[.int .u8 x.k, .int .i64 x.n, .string (st x.s)] 25)) B b w2 (zs ++ (svd x)) := H1.out.trans hh; clear hh; obtain ⟨p0, p1, p2⟩ := HX.out _ _ hh2; have H2 : Hid (At (w.alloc (.cells #[.int .u8 x.k, .int .i64 x.n, .string (st x.s)] 25)) B b w2 (zs ++ (svd x))) := hh2; have hs2 := hh2.bel.size; clear hh2))
  go_end0
  exact ⟨rfl, by have := HZ.out.trans H2.out; first | exact this | simpa only [List.append_assoc, List.cons_append, List.nil_append] using this⟩
set_option maxHeartbeats 4000000 in
theorem test_lay_a {B K b : Nat} (hK : PutC K) (zs : Str) (x : TestD) (w : World) (hb : Bd w B b zs) (hlen : zs.length + (svd x.x).length ≤ 1000000000) (hf : fV x.x)  (hv : (st x.v).toList.isEmpty = true) (hB : 5 ≤ B) (hV : Vars w) :
    Calls Tryd.prog 57 #[pv K b, .agg #[.int .u8 0, .string (st x.v), .int .u8 x.x.k, .int .i64 x.x.n, .string (st x.x.s)]] w (Lays1 B b w (zs ++ (svd x.x))) := by
  have eK : ∀ (args : Array Value) (w : World), (callFunc K args).run Tryd.prog w = .ok (.enter K args) w := hK.1
  have HL : Hid (zs.length + (svd x.x).length ≤ 1000000000) := hlen
  have HB : Hid (Bd w B b zs) := hb
  have H0 : Hid (At (w.alloc (.cells #[.int .u8 0, .string (st x.v), .int .u8 x.x.k, .int .i64 x.x.n, .string (st x.x.s)] 57)) B b (w.alloc (.cells #[.int .u8 0, .string (st x.v), .int .u8 x.x.k, .int .i64 x.x.n, .string (st x.x.s)] 57)) zs) := At.refl (HB.out.alloc _)
  have HZ : Hid (At w B b (w.alloc (.cells #[.int .u8 0, .string (st x.v), .int .u8 x.x.k, .int .i64 x.x.n, .string (st x.x.s)] 57)) zs) := (At.refl HB.out).alloc _
  have HX : Hid (∀ W z, At (w.alloc (.cells #[.int .u8 0, .string (st x.v), .int .u8 x.x.k, .int .i64 x.x.n, .string (st x.x.s)] 57)) B b W z → W.cell? ⟨w.heap.size, 0, none⟩ = some (.int .u8 0) ∧ W.cell? ⟨w.heap.size, 1, none⟩ = some (.string (st x.v)) ∧ W.cell? ⟨w.heap.size, 2, none⟩ = some (.int .u8 x.x.k) ∧ W.cell? ⟨w.heap.size, 3, none⟩ = some (.int .i64 x.x.n) ∧ W.cell? ⟨w.heap.size, 4, none⟩ = some (.string (st x.x.s))) := by
    intro W z hW
    have hq := hW.fb
    have hlt : w.heap.size < (w.alloc (.cells #[.int .u8 0, .string (st x.v), .int .u8 x.x.k, .int .i64 x.x.n, .string (st x.x.s)] 57)).heap.size := by simp
    have hap : Apart (w.alloc (.cells #[.int .u8 0, .string (st x.v), .int .u8 x.x.k, .int .i64 x.x.n, .string (st x.x.s)] 57)) b w.heap.size := (HB.out.new (Nat.le_refl _)).alloc HB.out.lt _
    exact ⟨hq.cell hlt hap (by simp), hq.cell hlt hap (by simp), hq.cell hlt hap (by simp), hq.cell hlt hap (by simp), hq.cell hlt hap (by simp)⟩
  have HV : Hid (Vars w) := hV
  clear hV
  have hb1 := hb.lt
  clear hlen hb
  have tok1 : Hid True := trivial
  unfold pv at *
  go_enter Tryd.func57, Tryd.ntmps57
  go_wp2_with (first | (go_at_call 55; have tku := tok1; clear tku tok1; refine (val_lay hK _ x.x _ H0.out.bd (by have := HL.out; (try simp only [List.length_append, List.length_cons, List.length_nil] at this ⊢); omega) hf hB (HV.out.at hB (HZ.out.trans H0.out).bel)).mono ?_; rintro e w1 ⟨rfl, hh⟩; have hh1 : At (w.alloc (.cells #[.int .u8 0, .string (st x.v), .int .u8 x.x.k, .int .i64 x.x.n, .string (st x.x.s)] 57)) B b w1 (zs ++ (svd x.x)) := H0.out.trans hh; clear hh; obtain ⟨p0, p1, p2, p3, p4⟩ := HX.out _ _ hh1; have H1 : Hid (At (w.alloc (.cells #[.int .u8 0, .string (st x.v), .int .u8 x.x.k, .int .i64 x.x.n, .string (st x.x.s)] 57)) B b w1 (zs ++ (svd x.x))) := hh1; have hs1 := hh1.bel.size; clear hh1))
  go_end0
  exact ⟨rfl, by have := HZ.out.trans H1.out; first | exact this | simpa only [List.append_assoc, List.cons_append, List.nil_append] using this⟩
set_option maxHeartbeats 4000000 in
theorem test_lay_b {B K b : Nat} (hK : PutC K) (zs : Str) (x : TestD) (w : World) (hb : Bd w B b zs) (hlen : zs.length + (([60] ++ (x.v ++ [62]))).length ≤ 1000000000) (hf : fV x.x)  (hv : (st x.v).toList.isEmpty = false) (hB : 5 ≤ B) (hV : Vars w) :
    Calls Tryd.prog 57 #[pv K b, .agg #[.int .u8 0, .string (st x.v), .int .u8 x.x.k, .int .i64 x.x.n, .string (st x.x.s)]] w (Lays1 B b w (zs ++ (([60] ++ (x.v ++ [62]))))) := by
  have eK : ∀ (args : Array Value) (w : World), (callFunc K args).run Tryd.prog w = .ok (.enter K args) w := hK.1
  have HL : Hid (zs.length + (([60] ++ (x.v ++ [62]))).length ≤ 1000000000) := hlen
  have HB : Hid (Bd w B b zs) := hb
  have H0 : Hid (At (w.alloc (.cells #[.int .u8 0, .string (st x.v), .int .u8 x.x.k, .int .i64 x.x.n, .string (st x.x.s)] 57)) B b (w.alloc (.cells #[.int .u8 0, .string (st x.v), .int .u8 x.x.k, .int .i64 x.x.n, .string (st x.x.s)] 57)) zs) := At.refl (HB.out.alloc _)
  have HZ : Hid (At w B b (w.alloc (.cells #[.int .u8 0, .string (st x.v), .int .u8 x.x.k, .int .i64 x.x.n, .string (st x.x.s)] 57)) zs) := (At.refl HB.out).alloc _
  have HX : Hid (∀ W z, At (w.alloc (.cells #[.int .u8 0, .string (st x.v), .int .u8 x.x.k, .int .i64 x.x.n, .string (st x.x.s)] 57)) B b W z → W.cell? ⟨w.heap.size, 0, none⟩ = some (.int .u8 0) ∧ W.cell? ⟨w.heap.size, 1, none⟩ = some (.string (st x.v)) ∧ W.cell? ⟨w.heap.size, 2, none⟩ = some (.int .u8 x.x.k) ∧ W.cell? ⟨w.heap.size, 3, none⟩ = some (.int .i64 x.x.n) ∧ W.cell? ⟨w.heap.size, 4, none⟩ = some (.string (st x.x.s))) := by
    intro W z hW
    have hq := hW.fb
    have hlt : w.heap.size < (w.alloc (.cells #[.int .u8 0, .string (st x.v), .int .u8 x.x.k, .int .i64 x.x.n, .string (st x.x.s)] 57)).heap.size := by simp
    have hap : Apart (w.alloc (.cells #[.int .u8 0, .string (st x.v), .int .u8 x.x.k, .int .i64 x.x.n, .string (st x.x.s)] 57)) b w.heap.size := (HB.out.new (Nat.le_refl _)).alloc HB.out.lt _
    exact ⟨hq.cell hlt hap (by simp), hq.cell hlt hap (by simp), hq.cell hlt hap (by simp), hq.cell hlt hap (by simp), hq.cell hlt hap (by simp)⟩
  have HV : Hid (Vars w) := hV
  clear hV
  have hb1 := hb.lt
  clear hlen hb
  have tok1 : Hid True := trivial
  unfold pv at *
  go_enter Tryd.func57, Tryd.ntmps57
  go_wp2_with (first | (go_at_call 63; have tku := tok1; clear tku tok1; refine (var_lay hK _ x.v _ H0.out.bd (by have := HL.out; (try simp only [List.length_append, List.length_cons, List.length_nil] at this ⊢); omega)).mono ?_; rintro e w1 ⟨rfl, hh⟩; have hh1 : At (w.alloc (.cells #[.int .u8 0, .string (st x.v), .int .u8 x.x.k, .int .i64 x.x.n, .string (st x.x.s)] 57)) B b w1 (zs ++ ([60] ++ (x.v ++ [62]))) := H0.out.trans hh; clear hh; obtain ⟨p0, p1, p2, p3, p4⟩ := HX.out _ _ hh1; have H1 : Hid (At (w.alloc (.cells #[.int .u8 0, .string (st x.v), .int .u8 x.x.k, .int .i64 x.x.n, .string (st x.x.s)] 57)) B b w1 (zs ++ ([60] ++ (x.v ++ [62])))) := hh1; have hs1 := hh1.bel.size; clear hh1))
  go_end0
  exact ⟨rfl, by have := HZ.out.trans H1.out; first | exact this | simpa only [List.append_assoc, List.cons_append, List.nil_append] using this⟩
set_option maxHeartbeats 4000000 in
theorem test_lay_c {B K b : Nat} (hK : PutC K) (zs : Str) (x : TestD) (w : World) (hb : Bd w B b zs) (hlen : zs.length + ((sgnL x.p ++ [32]) ++ svd x.x).length ≤ 1000000000) (hf : fV x.x) (hp : ¬ x.p = 0) (hv : (st x.v).toList.isEmpty = true) (hB : 5 ≤ B) (hV : Vars w) :
    Calls Tryd.prog 57 #[pv K b, .agg #[.int .u8 x.p, .string (st x.v), .int .u8 x.x.k, .int .i64 x.x.n, .string (st x.x.s)]] w (Lays1 B b w (zs ++ ((sgnL x.p ++ [32]) ++ svd x.x))) := by
  have eK : ∀ (args : Array Value) (w : World), (callFunc K args).run Tryd.prog w = .ok (.enter K args) w := hK.1
  have HL : Hid (zs.length + ((sgnL x.p ++ [32]) ++ svd x.x).length ≤ 1000000000) := hlen
  have HB : Hid (Bd w B b zs) := hb
  have H0 : Hid (At (w.alloc (.cells #[.int .u8 x.p, .string (st x.v), .int .u8 x.x.k, .int .i64 x.x.n, .string (st x.x.s)] 57)) B b (w.alloc (.cells #[.int .u8 x.p, .string (st x.v), .int .u8 x.x.k, .int .i64 x.x.n, .string (st x.x.s)] 57)) zs) := At.refl (HB.out.alloc _)
  have HZ : Hid (At w B b (w.alloc (.cells #[.int .u8 x.p, .string (st x.v), .int .u8 x.x.k, .int .i64 x.x.n, .string (st x.x.s)] 57)) zs) := (At.refl HB.out).alloc _
  have HX : Hid (∀ W z, At (w.alloc (.cells #[.int .u8 x.p, .string (st x.v), .int .u8 x.x.k, .int .i64 x.x.n, .string (st x.x.s)] 57)) B b W z → W.cell? ⟨w.heap.size, 0, none⟩ = some (.int .u8 x.p) ∧ W.cell? ⟨w.heap.size, 1, none⟩ = some (.string (st x.v)) ∧ W.cell? ⟨w.heap.size, 2, none⟩ = some (.int .u8 x.x.k) ∧ W.cell? ⟨w.heap.size, 3, none⟩ = some (.int .i64 x.x.n) ∧ W.cell? ⟨w.heap.size, 4, none⟩ = some (.string (st x.x.s))) := by
    intro W z hW
    have hq := hW.fb
    have hlt : w.heap.size < (w.alloc (.cells #[.int .u8 x.p, .string (st x.v), .int .u8 x.x.k, .int .i64 x.x.n, .string (st x.x.s)] 57)).heap.size := by simp
    have hap : Apart (w.alloc (.cells #[.int .u8 x.p, .string (st x.v), .int .u8 x.x.k, .int .i64 x.x.n, .string (st x.x.s)] 57)) b w.heap.size := (HB.out.new (Nat.le_refl _)).alloc HB.out.lt _
    exact ⟨hq.cell hlt hap (by simp), hq.cell hlt hap (by simp), hq.cell hlt hap (by simp), hq.cell hlt hap (by simp), hq.cell hlt hap (by simp)⟩
  have HV : Hid (Vars w) := hV
  clear hV
  have hb1 := hb.lt
  clear hlen hb
  have tok1 : Hid True := trivial
  have tok2 : Hid True := trivial
  have tok3 : Hid True := trivial
  unfold pv at *
  go_enter Tryd.func57, Tryd.ntmps57
  go_wp2_with (first | (go_at_call 72; have tku := tok1; clear tku tok1; refine (sign_sv x.p _).mono ?_; rintro e w1 ⟨rfl, hh⟩; obtain rfl := hh; have H1 : Hid (At (w.alloc (.cells #[.int .u8 x.p, .string (st x.v), .int .u8 x.x.k, .int .i64 x.x.n, .string (st x.x.s)] 57)) B b _ zs) := H0.out) | (go_at_fn K; have tku := tok2; clear tku tok2; refine (put2 hK H1.out.bd (sgnL x.p) ([32]) (by have := HL.out; (try simp only [List.length_append, List.length_cons, List.length_nil] at this ⊢); omega) (by simp)).mono ?_; rintro e w2 ⟨rfl, hh⟩; have hh2 : At (w.alloc (.cells #[.int .u8 x.p, .string (st x.v), .int .u8 x.x.k, .int .i64 x.x.n, .string (st x.x.s)] 57)) B b w2 (zs ++ (sgnL x.p ++ ([32]))) := H1.out.trans hh; clear hh; obtain ⟨p0, p1, p2, p3, p4⟩ := HX.out _ _ hh2; have H2 : Hid (At (w.alloc (.cells #[.int .u8 x.p, .string (st x.v), .int .u8 x.x.k, .int .i64 x.x.n, .string (st x.x.s)] 57)) B b w2 (zs ++ (sgnL x.p ++ ([32])))) := hh2; have hs2 := hh2.bel.size; clear hh2) | (go_at_call 55; have tku := tok3; clear tku tok3; refine (val_lay hK _ x.x _ H2.out.bd (by have := HL.out; (try simp only [List.length_append, List.length_cons, List.length_nil] at this ⊢); omega) hf hB (HV.out.at hB (HZ.out.trans H2.out).bel)).mono ?_; rintro e w3 ⟨rfl, hh⟩; have hh3 : At (w.alloc (.cells #[.int .u8 x.p, .string (st x.v), .int .u8 x.x.k, .int .i64 x.x.n, .string (st x.x.s)] 57)) B b w3 ((zs ++ (sgnL x.p ++ ([32]))) ++ (svd x.x)) := H2.out.trans hh; clear hh; obtain ⟨p0, p1, p2, p3, p4⟩ := HX.out _ _ hh3; have H3 : Hid (At (w.alloc (.cells #[.int .u8 x.p, .string (st x.v), .int .u8 x.x.k, .int .i64 x.x.n, .string (st x.x.s)] 57)) B b w3 ((zs ++ (sgnL x.p ++ ([32]))) ++ (svd x.x))) := hh3; have hs3 := hh3.bel.size; clear hh3))
  go_end0
  exact ⟨rfl, by have := HZ.out.trans H3.out; first | exact this | simpa only [List.append_assoc, List.cons_append, List.nil_append] using this⟩
set_option maxHeartbeats 4000000 in
theorem test_lay_d {B K b : Nat} (hK : PutC K) (zs : Str) (x : TestD) (w : World) (hb : Bd w B b zs) (hlen : zs.length + ((sgnL x.p ++ [32]) ++ ([60] ++ (x.v ++ [62]))).length ≤ 1000000000) (hf : fV x.x) (hp : ¬ x.p = 0) (hv : (st x.v).toList.isEmpty = false) (hB : 5 ≤ B) (hV : Vars w) :
    Calls Tryd.prog 57 #[pv K b, .agg #[.int .u8 x.p, .string (st x.v), .int .u8 x.x.k, .int .i64 x.x.n, .string (st x.x.s)]] w (Lays1 B b w (zs ++ ((sgnL x.p ++ [32]) ++ ([60] ++ (x.v ++ [62]))))) := by
  have eK : ∀ (args : Array Value) (w : World), (callFunc K args).run Tryd.prog w = .ok (.enter K args) w := hK.1
  have HL : Hid (zs.length + ((sgnL x.p ++ [32]) ++ ([60] ++ (x.v ++ [62]))).length ≤ 1000000000) := hlen
  have HB : Hid (Bd w B b zs) := hb
  have H0 : Hid (At (w.alloc (.cells #[.int .u8 x.p, .string (st x.v), .int .u8 x.x.k, .int .i64 x.x.n, .string (st x.x.s)] 57)) B b (w.alloc (.cells #[.int .u8 x.p, .string (st x.v), .int .u8 x.x.k, .int .i64 x.x.n, .string (st x.x.s)] 57)) zs) := At.refl (HB.out.alloc _)
  have HZ : Hid (At w B b (w.alloc (.cells #[.int .u8 x.p, .string (st x.v), .int .u8 x.x.k, .int .i64 x.x.n, .string (st x.x.s)] 57)) zs) := (At.refl HB.out).alloc _
  have HX : Hid (∀ W z, At (w.alloc (.cells #[.int .u8 x.p, .string (st x.v), .int .u8 x.x.k, .int .i64 x.x.n, .string (st x.x.s)] 57)) B b W z → W.cell? ⟨w.heap.size, 0, none⟩ = some (.int .u8 x.p) ∧ W.cell? ⟨w.heap.size, 1, none⟩ = some (.string (st x.v)) ∧ W.cell? ⟨w.heap.size, 2, none⟩ = some (.int .u8 x.x.k) ∧ W.cell? ⟨w.heap.size, 3, none⟩ = some (.int .i64 x.x.n) ∧ W.cell? ⟨w.heap.size, 4, none⟩ = some (.string (st x.x.s))) := by
    intro W z hW
    have hq := hW.fb
    have hlt : w.heap.size < (w.alloc (.cells #[.int .u8 x.p, .string (st x.v), .int .u8 x.x.k, .int .i64 x.x.n, .string (st x.x.s)] 57)).heap.size := by simp
    have hap : Apart (w.alloc (.cells #[.int .u8 x.p, .string (st x.v), .int .u8 x.x.k, .int .i64 x.x.n, .string (st x.x.s)] 57)) b w.heap.size := (HB.out.new (Nat.le_refl _)).alloc HB.out.lt _
    exact ⟨hq.cell hlt hap (by simp), hq.cell hlt hap (by simp), hq.cell hlt hap (by simp), hq.cell hlt hap (by simp), hq.cell hlt hap (by simp)⟩
  have HV : Hid (Vars w) := hV
  clear hV
  have hb1 := hb.lt
  clear hlen hb
  have tok1 : Hid True := trivial
  have tok2 : Hid True := trivial
  have tok3 : Hid True := trivial
  unfold pv at *
  go_enter Tryd.func57, Tryd.ntmps57
  go_wp2_with (first | (go_at_call 72; have tku := tok1; clear tku tok1; refine (sign_sv x.p _).mono ?_; rintro e w1 ⟨rfl, hh⟩; obtain rfl := hh; have H1 : Hid (At (w.alloc (.cells #[.int .u8 x.p, .string (st x.v), .int .u8 x.x.k, .int .i64 x.x.n, .string (st x.x.s)] 57)) B b _ zs) := H0.out) | (go_at_fn K; have tku := tok2; clear tku tok2; refine (put2 hK H1.out.bd (sgnL x.p) ([32]) (by have := HL.out; (try simp only [List.length_append, List.length_cons, List.length_nil] at this ⊢); omega) (by simp)).mono ?_; rintro e w2 ⟨rfl, hh⟩; have hh2 : At (w.alloc (.cells #[.int .u8 x.p, .string (st x.v), .int .u8 x.x.k, .int .i64 x.x.n, .string (st x.x.s)] 57)) B b w2 (zs ++ (sgnL x.p ++ ([32]))) := H1.out.trans hh; clear hh; obtain ⟨p0, p1, p2, p3, p4⟩ := HX.out _ _ hh2; have H2 : Hid (At (w.alloc (.cells #[.int .u8 x.p, .string (st x.v), .int .u8 x.x.k, .int .i64 x.x.n, .string (st x.x.s)] 57)) B b w2 (zs ++ (sgnL x.p ++ ([32])))) := hh2; have hs2 := hh2.bel.size; clear hh2) | (go_at_call 63; have tku := tok3; clear tku tok3; refine (var_lay hK _ x.v _ H2.out.bd (by have := HL.out; (try simp only [List.length_append, List.length_cons, List.length_nil] at this ⊢); omega)).mono ?_; rintro e w3 ⟨rfl, hh⟩; have hh3 : At (w.alloc (.cells #[.int .u8 x.p, .string (st x.v), .int .u8 x.x.k, .int .i64 x.x.n, .string (st x.x.s)] 57)) B b w3 ((zs ++ (sgnL x.p ++ ([32]))) ++ ([60] ++ (x.v ++ [62]))) := H2.out.trans hh; clear hh; obtain ⟨p0, p1, p2, p3, p4⟩ := HX.out _ _ hh3; have H3 : Hid (At (w.alloc (.cells #[.int .u8 x.p, .string (st x.v), .int .u8 x.x.k, .int .i64 x.x.n, .string (st x.x.s)] 57)) B b w3 ((zs ++ (sgnL x.p ++ ([32]))) ++ ([60] ++ (x.v ++ [62])))) := hh3; have hs3 := hh3.bel.size; clear hh3))
  go_end0
  exact ⟨rfl, by have := HZ.out.trans H3.out; first | exact this | simpa only [List.append_assoc, List.cons_append, List.nil_append] using this⟩
set_option maxHeartbeats 4000000 in
theorem item_lay_a {B K b : Nat} (hK : PutC K) (zs : Str) (x : ItemD) (w : World) (hb : Bd w B b zs) (hlen : zs.length + ([60] ++ (x.v ++ [62])).length ≤ 1000000000) (hf : fV x.x) (hB : 5 ≤ B) (hV : Vars w) :
    Calls Tryd.prog 44 #[pv K b, .agg #[.int .u8 1, .int .u8 x.x.k, .int .i64 x.x.n, .string (st x.x.s), .string (st x.v)]] w (Lays1 B b w (zs ++ ([60] ++ (x.v ++ [62])))) := by
  have eK : ∀ (args : Array Value) (w : World), (callFunc K args).run Tryd.prog w = .ok (.enter K args) w := hK.1
  have HL : Hid (zs.length + ([60] ++ (x.v ++ [62])).length ≤ 1000000000) := hlen
  have HB : Hid (Bd w B b zs) := hb
  have H0 : Hid (At (w.alloc (.cells #[.int .u8 1, .int .u8 x.x.k, .int .i64 x.x.n, .string (st x.x.s), .string (st x.v)] 27)) B b (w.alloc (.cells #[.int .u8 1, .int .u8 x.x.k, .int .i64 x.x.n, .string (st x.x.s), .string (st x.v)] 27)) zs) := At.refl (HB.out.alloc _)
  have HZ : Hid (At w B b (w.alloc (.cells #[.int .u8 1, .int .u8 x.x.k, .int .i64 x.x.n, .string (st x.x.s), .string (st x.v)] 27)) zs) := (At.refl HB.out).alloc _
  have HX : Hid (∀ W z, At (w.alloc (.cells #[.int .u8 1, .int .u8 x.x.k, .int .i64 x.x.n, .string (st x.x.s), .string (st x.v)] 27)) B b W z → W.cell? ⟨w.heap.size, 0, none⟩ = some (.int .u8 1) ∧ W.cell? ⟨w.heap.size, 1, none⟩ = some (.int .u8 x.x.k) ∧ W.cell? ⟨w.heap.size, 2, none⟩ = some (.int .i64 x.x.n) ∧ W.cell? ⟨w.heap.size, 3, none⟩ = some (.string (st x.x.s)) ∧ W.cell? ⟨w.heap.size, 4, none⟩ = some (.string (st x.v))) := by
    intro W z hW
    have hq := hW.fb
    have hlt : w.heap.size < (w.alloc (.cells #[.int .u8 1, .int .u8 x.x.k, .int .i64 x.x.n, .string (st x.x.s), .string (st x.v)] 27)).heap.size := by simp
    have hap : Apart (w.alloc (.cells #[.int .u8 1, .int .u8 x.x.k, .int .i64 x.x.n, .string (st x.x.s), .string (st x.v)] 27)) b w.heap.size := (HB.out.new (Nat.le_refl _)).alloc HB.out.lt _
    exact ⟨hq.cell hlt hap (by simp), hq.cell hlt hap (by simp), hq.cell hlt hap (by simp), hq.cell hlt hap (by simp), hq.cell hlt hap (by simp)⟩
  have HV : Hid (Vars w) := hV
  clear hV
  have hb1 := hb.lt
  clear hlen hb
  have tok1 : Hid True := trivial
  unfold pv at *
  go_enter Tryd.func44, Tryd.ntmps44
  go_wp2_with (first | (go_at_call 63; have tku := tok1; clear tku tok1; refine (var_lay hK _ x.v _ H0.out.bd (by have := HL.out; (try simp only [List.length_append, List.length_cons, List.length_nil] at this ⊢); omega)).mono ?_; rintro e w1 ⟨rfl, hh⟩; have hh1 : At (w.alloc (.cells #[.int .u8 1, .int .u8 x.x.k, .int .i64 x.x.n, .string (st x.x.s), .string (st x.v)] 27)) B b w1 (zs ++ ([60] ++ (x.v ++ [62]))) := H0.out.trans hh; clear hh; obtain ⟨p0, p1, p2, p3, p4⟩ := HX.out _ _ hh1; have H1 : Hid (At (w.alloc (.cells #[.int .u8 1, .int .u8 x.x.k, .int .i64 x.x.n, .string (st x.x.s), .string (st x.v)] 27)) B b w1 (zs ++ ([60] ++ (x.v ++ [62])))) := hh1; have hs1 := hh1.bel.size; clear hh1))
  go_end0
  exact ⟨rfl, by have := HZ.out.trans H1.out; first | exact this | simpa only [List.append_assoc, List.cons_append, List.nil_append] using this⟩
set_option maxHeartbeats 4000000 in
theorem item_lay_b {B K b : Nat} (hK : PutC K) (zs : Str) (x : ItemD) (w : World) (hb : Bd w B b zs) (hlen : zs.length + (svd x.x).length ≤ 1000000000) (hf : fV x.x) (hk : ¬ x.k = 1) (hB : 5 ≤ B) (hV : Vars w) :
    Calls Tryd.prog 44 #[pv K b, .agg #[.int .u8 x.k, .int .u8 x.x.k, .int .i64 x.x.n, .string (st x.x.s), .string (st x.v)]] w (Lays1 B b w (zs ++ (svd x.x))) := by
  have eK : ∀ (args : Array Value) (w : World), (callFunc K args).run Tryd.prog w = .ok (.enter K args) w := hK.1
  have HL : Hid (zs.length + (svd x.x).length ≤ 1000000000) := hlen
  have HB : Hid (Bd w B b zs) := hb
  have H0 : Hid (At (w.alloc (.cells #[.int .u8 x.k, .int .u8 x.x.k, .int .i64 x.x.n, .string (st x.x.s), .string (st x.v)] 27)) B b (w.alloc (.cells #[.int .u8 x.k, .int .u8 x.x.k, .int .i64 x.x.n, .string (st x.x.s), .string (st x.v)] 27)) zs) := At.refl (HB.out.alloc _)
  have HZ : Hid (At w B b (w.alloc (.cells #[.int .u8 x.k, .int .u8 x.x.k, .int .i64 x.x.n, .string (st x.x.s), .string (st x.v)] 27)) zs) := (At.refl HB.out).alloc _
  have HX : Hid (∀ W z, At (w.alloc (.cells #[.int .u8 x.k, .int .u8 x.x.k, .int .i64 x.x.n, .string (st x.x.s), .string (st x.v)] 27)) B b W z → W.cell? ⟨w.heap.size, 0, none⟩ = some (.int .u8 x.k) ∧ W.cell? ⟨w.heap.size, 1, none⟩ = some (.int .u8 x.x.k) ∧ W.cell? ⟨w.heap.size, 2, none⟩ = some (.int .i64 x.x.n) ∧ W.cell? ⟨w.heap.size, 3, none⟩ = some (.string (st x.x.s)) ∧ W.cell? ⟨w.heap.size, 4, none⟩ = some (.string (st x.v))) := by
    intro W z hW
    have hq := hW.fb
    have hlt : w.heap.size < (w.alloc (.cells #[.int .u8 x.k, .int .u8 x.x.k, .int .i64 x.x.n, .string (st x.x.s), .string (st x.v)] 27)).heap.size := by simp
    have hap : Apart (w.alloc (.cells #[.int .u8 x.k, .int .u8 x.x.k, .int .i64 x.x.n, .string (st x.x.s), .string (st x.v)] 27)) b w.heap.size := (HB.out.new (Nat.le_refl _)).alloc HB.out.lt _
    exact ⟨hq.cell hlt hap (by simp), hq.cell hlt hap (by simp), hq.cell hlt hap (by simp), hq.cell hlt hap (by simp), hq.cell hlt hap (by simp)⟩
  have HV : Hid (Vars w) := hV
  clear hV
  have hb1 := hb.lt
  clear hlen hb
  have tok1 : Hid True := trivial
  unfold pv at *
  go_enter Tryd.func44, Tryd.ntmps44
  go_wp2_with (first | (go_at_call 55; have tku := tok1; clear tku tok1; refine (val_lay hK _ x.x _ H0.out.bd (by have := HL.out; (try simp only [List.length_append, List.length_cons, List.length_nil] at this ⊢); omega) hf hB (HV.out.at hB (HZ.out.trans H0.out).bel)).mono ?_; rintro e w1 ⟨rfl, hh⟩; have hh1 : At (w.alloc (.cells #[.int .u8 x.k, .int .u8 x.x.k, .int .i64 x.x.n, .string (st x.x.s), .string (st x.v)] 27)) B b w1 (zs ++ (svd x.x)) := H0.out.trans hh; clear hh; obtain ⟨p0, p1, p2, p3, p4⟩ := HX.out _ _ hh1; have H1 : Hid (At (w.alloc (.cells #[.int .u8 x.k, .int .u8 x.x.k, .int .i64 x.x.n, .string (st x.x.s), .string (st x.v)] 27)) B b w1 (zs ++ (svd x.x))) := hh1; have hs1 := hh1.bel.size; clear hh1))
  go_end0
  exact ⟨rfl, by have := HZ.out.trans H1.out; first | exact this | simpa only [List.append_assoc, List.cons_append, List.nil_append] using this⟩
end Go.Proofs.YtemacdimdpnkeaaDoor
namespace Go.Proofs.YtemacdimdpnkeaaDoor
open Go.RowKit
set_option linter.unusedVariables false
set_option linter.unusedSimpArgs false
set_option maxRecDepth 20000
theorem st_emp {s : Str} : (st s).toList.isEmpty = s.isEmpty := by
  rw [emp, st_list]
theorem test_lay {B K b : Nat} (hK : PutC K) (zs : Str) (x : TestD) (w : World) (hb : Bd w B b zs) (hlen : zs.length + (shSingle svd x).length ≤ 1000000000) (hf : fV x.x) (hB : 5 ≤ B) (hV : Vars w) :
    Calls Tryd.prog 57 #[pv K b, .agg (clT x).toArray] w (Lays1 B b w (zs ++ shSingle svd x)) := by
  unfold shSingle at hlen ⊢
  obtain ⟨p, v, x⟩ := x
  by_cases hp : p = 0
  · subst hp
    rw [if_neg (by simp), List.nil_append] at hlen ⊢
    by_cases hv : v = []
    · subst hv
      rw [if_neg (by simp)] at hlen ⊢
      exact test_lay_a hK zs ⟨0, [], x⟩ w hb hlen hf (by rw [st_emp]; rfl) hB hV
    · rw [if_pos hv] at hlen ⊢
      exact test_lay_b hK zs ⟨0, v, x⟩ w hb hlen hf (by rw [st_emp]; cases v with | nil => exact absurd rfl hv | cons _ _ => rfl) hB hV
  · rw [if_pos hp] at hlen ⊢
    by_cases hv : v = []
    · subst hv
      rw [if_neg (by simp)] at hlen ⊢
      exact test_lay_c hK zs ⟨p, [], x⟩ w hb hlen hf hp (by rw [st_emp]; rfl) hB hV
    · rw [if_pos hv] at hlen ⊢
      exact test_lay_d hK zs ⟨p, v, x⟩ w hb hlen hf hp (by rw [st_emp]; cases v with | nil => exact absurd rfl hv | cons _ _ => rfl) hB hV
theorem item_lay {B K b : Nat} (hK : PutC K) (zs : Str) (x : ItemD) (w : World) (hb : Bd w B b zs) (hlen : zs.length + (itemS svd x).length ≤ 1000000000) (hf : fV x.x) (hB : 5 ≤ B) (hV : Vars w) :
    Calls Tryd.prog 44 #[pv K b, .agg (clI x).toArray] w (Lays1 B b w (zs ++ itemS svd x)) := by
  unfold itemS at hlen ⊢
  obtain ⟨k, x, v⟩ := x
  by_cases hk : k = 1
  · subst hk
    rw [if_pos rfl] at hlen ⊢
    exact item_lay_a hK zs ⟨1, x, v⟩ w hb hlen hf hB hV
  · rw [if_neg hk] at hlen ⊢
    exact item_lay_b hK zs ⟨k, x, v⟩ w hb hlen hf hk hB hV
theorem names_lay {B K b : Nat} (hK : PutC K) (zs : Str) (v : Value) (xs : List Str) (w : World) (hs : SlW 1 w (fun k => k < B) v (xs.map clS)) (hb : Bd w B b zs) (hlen : zs.length + (spJ (xs.map (fun s => s))).length ≤ 1000000000) :
    Calls Tryd.prog 74 #[pv K b, v, .func (.func 75) #[] #[]] w (Lays1 B b w (zs ++ spJ (xs.map (fun s => s)))) := by
  refine each74 hK (enters_of Tryd.func75 (by kernel_rfl) rfl) zs v (xs.map clS) (xs.map (fun s => s)) w hs (fun i hi => ?_) (by rw [List.length_map, List.length_map]) hb hlen fun i hi W z hW hz => ?_
  · rw [List.length_map] at hi
    rw [getD_map clS xs i [] hi]
    exact ⟨_, rfl⟩
  · rw [List.length_map] at hi
    rw [getD_mapS (fun s => s) xs i [] hi] at hz ⊢
    rw [getD_map clS xs i [] hi]
    have hm := getD_mem xs i [] hi
    exact name_lay hK z _ W hW.bd hz
theorem vals_lay {B K b : Nat} (hK : PutC K) (zs : Str) (v : Value) (xs : List VD) (w : World) (hs : SlW 3 w (fun k => k < B) v (xs.map clV)) (hb : Bd w B b zs) (hlen : zs.length + (spJ (xs.map svd)).length ≤ 1000000000) (hf : ∀ x ∈ xs, fV x) (hB : 5 ≤ B) (hV : Vars w) :
    Calls Tryd.prog 54 #[pv K b, v, .func (.func 55) #[] #[]] w (Lays1 B b w (zs ++ spJ (xs.map svd))) := by
  refine each54 hK (enters_of Tryd.func55 (by kernel_rfl) rfl) zs v (xs.map clV) (xs.map svd) w hs (fun i hi => ?_) (by rw [List.length_map, List.length_map]) hb hlen fun i hi W z hW hz => ?_
  · rw [List.length_map] at hi
    rw [getD_map clV xs i v0 hi]
    exact ⟨_, _, _, rfl⟩
  · rw [List.length_map] at hi
    rw [getD_mapS svd xs i v0 hi] at hz ⊢
    rw [getD_map clV xs i v0 hi]
    have hm := getD_mem xs i v0 hi
    exact val_lay hK z _ W hW.bd hz (hf _ hm) hB (hV.at hB hW.bel)
theorem tests_lay {B K b : Nat} (hK : PutC K) (zs : Str) (v : Value) (xs : List TestD) (w : World) (hs : SlW 5 w (fun k => k < B) v (xs.map clT)) (hb : Bd w B b zs) (hlen : zs.length + (spJ (xs.map (shSingle svd))).length ≤ 1000000000) (hf : ∀ x ∈ xs, fV x.x) (hB : 5 ≤ B) (hV : Vars w) :
    Calls Tryd.prog 56 #[pv K b, v, .func (.func 57) #[] #[]] w (Lays1 B b w (zs ++ spJ (xs.map (shSingle svd)))) := by
  refine each56 hK (enters_of Tryd.func57 (by kernel_rfl) rfl) zs v (xs.map clT) (xs.map (shSingle svd)) w hs (fun i hi => ?_) (by rw [List.length_map, List.length_map]) hb hlen fun i hi W z hW hz => ?_
  · rw [List.length_map] at hi
    rw [getD_map clT xs i (⟨0, [], v0⟩ : TestD) hi]
    exact ⟨_, _, _, _, _, rfl⟩
  · rw [List.length_map] at hi
    rw [getD_mapS (shSingle svd) xs i (⟨0, [], v0⟩ : TestD) hi] at hz ⊢
    rw [getD_map clT xs i (⟨0, [], v0⟩ : TestD) hi]
    have hm := getD_mem xs i (⟨0, [], v0⟩ : TestD) hi
    exact test_lay hK z _ W hW.bd hz (hf _ hm) hB (hV.at hB hW.bel)
set_option maxHeartbeats 4000000 in
theorem attr_lay_a {B K b : Nat} (hK : PutC K) (zs : Str) (x : AttrD) (a1 a2 : Option Addr) (c1 c2 : Nat) (w : World) (hb : Bd w B b zs) (hlen : zs.length + (([94] ++ x.a) ++ ([32, 60, 60] ++ (spJ (x.ones.map svd) ++ [32, 62, 62]))).length ≤ 1000000000) (h1 : SlW 3 w (fun k => k < B) (.slice a1 x.ones.length c1) (x.ones.map clV)) (h2 : SlW 5 w (fun k => k < B) (.slice a2 x.tests.length c2) (x.tests.map clT)) (hf : fA x) (ho : (0 : Int) < x.ones.length) (hB : 5 ≤ B) (hV : Vars w) :
    Calls Tryd.prog 31 #[pv K b, .agg #[.string (st x.a), .slice a1 x.ones.length c1, .slice a2 x.tests.length c2]] w (Lays1 B b w (zs ++ (([94] ++ x.a) ++ ([32, 60, 60] ++ (spJ (x.ones.map svd) ++ [32, 62, 62]))))) := by
  have eK : ∀ (args : Array Value) (w : World), (callFunc K args).run Tryd.prog w = .ok (.enter K args) w := hK.1
  have HL : Hid (zs.length + (([94] ++ x.a) ++ ([32, 60, 60] ++ (spJ (x.ones.map svd) ++ [32, 62, 62]))).length ≤ 1000000000) := hlen
  have HB : Hid (Bd w B b zs) := hb
  have H0 : Hid (At (w.alloc (.cells #[.string (st x.a), .slice a1 x.ones.length c1, .slice a2 x.tests.length c2] 49)) B b (w.alloc (.cells #[.string (st x.a), .slice a1 x.ones.length c1, .slice a2 x.tests.length c2] 49)) zs) := At.refl (HB.out.alloc _)
  have HZ : Hid (At w B b (w.alloc (.cells #[.string (st x.a), .slice a1 x.ones.length c1, .slice a2 x.tests.length c2] 49)) zs) := (At.refl HB.out).alloc _
  have HX : Hid (∀ W z, At (w.alloc (.cells #[.string (st x.a), .slice a1 x.ones.length c1, .slice a2 x.tests.length c2] 49)) B b W z → W.cell? ⟨w.heap.size, 0, none⟩ = some (.string (st x.a)) ∧ W.cell? ⟨w.heap.size, 1, none⟩ = some (.slice a1 x.ones.length c1) ∧ W.cell? ⟨w.heap.size, 2, none⟩ = some (.slice a2 x.tests.length c2)) := by
    intro W z hW
    have hq := hW.fb
    have hlt : w.heap.size < (w.alloc (.cells #[.string (st x.a), .slice a1 x.ones.length c1, .slice a2 x.tests.length c2] 49)).heap.size := by simp
    have hap : Apart (w.alloc (.cells #[.string (st x.a), .slice a1 x.ones.length c1, .slice a2 x.tests.length c2] 49)) b w.heap.size := (HB.out.new (Nat.le_refl _)).alloc HB.out.lt _
    exact ⟨hq.cell hlt hap (by simp), hq.cell hlt hap (by simp), hq.cell hlt hap (by simp)⟩
  have HV : Hid (Vars w) := hV
  clear hV
  have hb1 := hb.lt
  clear hlen hb
  have H1s : Hid (SlW 3 w (fun k => k < B) (.slice a1 x.ones.length c1) (x.ones.map clV)) := h1
  have H2s : Hid (SlW 5 w (fun k => k < B) (.slice a2 x.tests.length c2) (x.tests.map clT)) := h2
  clear h1 h2
  have tok1 : Hid True := trivial
  have tok2 : Hid True := trivial
  have tok3 : Hid True := trivial
  have tok4 : Hid True := trivial
  unfold pv at *
  go_enter Tryd.func31, Tryd.ntmps31
  go_wp2_with (first | (go_at_fn K; have tku := tok1; clear tku tok1; refine (put2 hK H0.out.bd ([94]) (x.a) (by have := HL.out; (try simp only [List.length_append, List.length_cons, List.length_nil] at this ⊢); omega) (by simp)).mono ?_; rintro e w1 ⟨rfl, hh⟩; have hh1 : At (w.alloc (.cells #[.string (st x.a), .slice a1 x.ones.length c1, .slice a2 x.tests.length c2] 49)) B b w1 (zs ++ ([94] ++ (x.a))) := H0.out.trans hh; clear hh; obtain ⟨p0, p1, p2⟩ := HX.out _ _ hh1; have H1 : Hid (At (w.alloc (.cells #[.string (st x.a), .slice a1 x.ones.length c1, .slice a2 x.tests.length c2] 49)) B b w1 (zs ++ ([94] ++ (x.a)))) := hh1; have hs1 := hh1.bel.size; clear hh1) | (go_at_fn K; have tku := tok2; clear tku tok2; refine (put1 hK H1.out.bd ([32, 60, 60]) (by have := HL.out; (try simp only [List.length_append, List.length_cons, List.length_nil] at this ⊢); omega) (by simp)).mono ?_; rintro e w2 ⟨rfl, hh⟩; have hh2 : At (w.alloc (.cells #[.string (st x.a), .slice a1 x.ones.length c1, .slice a2 x.tests.length c2] 49)) B b w2 ((zs ++ ([94] ++ (x.a))) ++ ([32, 60, 60])) := H1.out.trans hh; clear hh; obtain ⟨p0, p1, p2⟩ := HX.out _ _ hh2; have H2 : Hid (At (w.alloc (.cells #[.string (st x.a), .slice a1 x.ones.length c1, .slice a2 x.tests.length c2] 49)) B b w2 ((zs ++ ([94] ++ (x.a))) ++ ([32, 60, 60]))) := hh2; have hs2 := hh2.bel.size; clear hh2) | (go_at_call 54; have tku := tok3; clear tku tok3; refine (vals_lay hK _ _ x.ones _ (H1s.out.keep (P := fun _ k => k < B) (k := 2) (stays_below (HZ.out.trans H2.out).bel)) H2.out.bd (by have := HL.out; (try simp only [List.length_append, List.length_cons, List.length_nil] at this ⊢); omega) hf.1 hB (HV.out.at hB (HZ.out.trans H2.out).bel)).mono ?_; rintro e w3 ⟨rfl, hh⟩; have hh3 : At (w.alloc (.cells #[.string (st x.a), .slice a1 x.ones.length c1, .slice a2 x.tests.length c2] 49)) B b w3 (((zs ++ ([94] ++ (x.a))) ++ ([32, 60, 60])) ++ (spJ (x.ones.map svd))) := H2.out.trans hh; clear hh; obtain ⟨p0, p1, p2⟩ := HX.out _ _ hh3; have H3 : Hid (At (w.alloc (.cells #[.string (st x.a), .slice a1 x.ones.length c1, .slice a2 x.tests.length c2] 49)) B b w3 (((zs ++ ([94] ++ (x.a))) ++ ([32, 60, 60])) ++ (spJ (x.ones.map svd)))) := hh3; have hs3 := hh3.bel.size; clear hh3) | (go_at_fn K; have tku := tok4; clear tku tok4; refine (put1 hK H3.out.bd ([32, 62, 62]) (by have := HL.out; (try simp only [List.length_append, List.length_cons, List.length_nil] at this ⊢); omega) (by simp)).mono ?_; rintro e w4 ⟨rfl, hh⟩; have hh4 : At (w.alloc (.cells #[.string (st x.a), .slice a1 x.ones.length c1, .slice a2 x.tests.length c2] 49)) B b w4 ((((zs ++ ([94] ++ (x.a))) ++ ([32, 60, 60])) ++ (spJ (x.ones.map svd))) ++ ([32, 62, 62])) := H3.out.trans hh; clear hh; obtain ⟨p0, p1, p2⟩ := HX.out _ _ hh4; have H4 : Hid (At (w.alloc (.cells #[.string (st x.a), .slice a1 x.ones.length c1, .slice a2 x.tests.length c2] 49)) B b w4 ((((zs ++ ([94] ++ (x.a))) ++ ([32, 60, 60])) ++ (spJ (x.ones.map svd))) ++ ([32, 62, 62]))) := hh4; have hs4 := hh4.bel.size; clear hh4))
  go_end0
  exact ⟨rfl, by have := HZ.out.trans H4.out; first | exact this | simpa only [List.append_assoc, List.cons_append, List.nil_append] using this⟩
set_option maxHeartbeats 4000000 in
theorem attr_lay_b {B K b : Nat} (hK : PutC K) (zs : Str) (x : AttrD) (a1 a2 : Option Addr) (c1 c2 : Nat) (w : World) (hb : Bd w B b zs) (hlen : zs.length + (([94] ++ x.a) ++ spJ (x.tests.map (shSingle svd))).length ≤ 1000000000) (h1 : SlW 3 w (fun k => k < B) (.slice a1 x.ones.length c1) (x.ones.map clV)) (h2 : SlW 5 w (fun k => k < B) (.slice a2 x.tests.length c2) (x.tests.map clT)) (hf : fA x) (ho : ¬ (0 : Int) < x.ones.length) (ht : (x.tests.length : Int) = 1) (hB : 5 ≤ B) (hV : Vars w) :
    Calls Tryd.prog 31 #[pv K b, .agg #[.string (st x.a), .slice a1 x.ones.length c1, .slice a2 x.tests.length c2]] w (Lays1 B b w (zs ++ (([94] ++ x.a) ++ spJ (x.tests.map (shSingle svd))))) := by
  have eK : ∀ (args : Array Value) (w : World), (callFunc K args).run Tryd.prog w = .ok (.enter K args) w := hK.1
  have HL : Hid (zs.length + (([94] ++ x.a) ++ spJ (x.tests.map (shSingle svd))).length ≤ 1000000000) := hlen
  have HB : Hid (Bd w B b zs) := hb
  have H0 : Hid (At (w.alloc (.cells #[.string (st x.a), .slice a1 x.ones.length c1, .slice a2 x.tests.length c2] 49)) B b (w.alloc (.cells #[.string (st x.a), .slice a1 x.ones.length c1, .slice a2 x.tests.length c2] 49)) zs) := At.refl (HB.out.alloc _)
  have HZ : Hid (At w B b (w.alloc (.cells #[.string (st x.a), .slice a1 x.ones.length c1, .slice a2 x.tests.length c2] 49)) zs) := (At.refl HB.out).alloc _
  have HX : Hid (∀ W z, At (w.alloc (.cells #[.string (st x.a), .slice a1 x.ones.length c1, .slice a2 x.tests.length c2] 49)) B b W z → W.cell? ⟨w.heap.size, 0, none⟩ = some (.string (st x.a)) ∧ W.cell? ⟨w.heap.size, 1, none⟩ = some (.slice a1 x.ones.length c1) ∧ W.cell? ⟨w.heap.size, 2, none⟩ = some (.slice a2 x.tests.length c2)) := by
    intro W z hW
    have hq := hW.fb
    have hlt : w.heap.size < (w.alloc (.cells #[.string (st x.a), .slice a1 x.ones.length c1, .slice a2 x.tests.length c2] 49)).heap.size := by simp
    have hap : Apart (w.alloc (.cells #[.string (st x.a), .slice a1 x.ones.length c1, .slice a2 x.tests.length c2] 49)) b w.heap.size := (HB.out.new (Nat.le_refl _)).alloc HB.out.lt _
    exact ⟨hq.cell hlt hap (by simp), hq.cell hlt hap (by simp), hq.cell hlt hap (by simp)⟩
  have HV : Hid (Vars w) := hV
  clear hV
  have hb1 := hb.lt
  clear hlen hb
  have H1s : Hid (SlW 3 w (fun k => k < B) (.slice a1 x.ones.length c1) (x.ones.map clV)) := h1
  have H2s : Hid (SlW 5 w (fun k => k < B) (.slice a2 x.tests.length c2) (x.tests.map clT)) := h2
  clear h1 h2
  have tok1 : Hid True := trivial
  have tok2 : Hid True := trivial
  unfold pv at *
  go_enter Tryd.func31, Tryd.ntmps31
  go_wp2_with (first | (go_at_fn K; have tku := tok1; clear tku tok1; refine (put2 hK H0.out.bd ([94]) (x.a) (by have := HL.out; (try simp only [List.length_append, List.length_cons, List.length_nil] at this ⊢); omega) (by simp)).mono ?_; rintro e w1 ⟨rfl, hh⟩; have hh1 : At (w.alloc (.cells #[.string (st x.a), .slice a1 x.ones.length c1, .slice a2 x.tests.length c2] 49)) B b w1 (zs ++ ([94] ++ (x.a))) := H0.out.trans hh; clear hh; obtain ⟨p0, p1, p2⟩ := HX.out _ _ hh1; have H1 : Hid (At (w.alloc (.cells #[.string (st x.a), .slice a1 x.ones.length c1, .slice a2 x.tests.length c2] 49)) B b w1 (zs ++ ([94] ++ (x.a)))) := hh1; have hs1 := hh1.bel.size; clear hh1) | (go_at_call 56; have tku := tok2; clear tku tok2; refine (tests_lay hK _ _ x.tests _ (H2s.out.keep (P := fun _ k => k < B) (k := 3) (stays_below (HZ.out.trans H1.out).bel)) H1.out.bd (by have := HL.out; (try simp only [List.length_append, List.length_cons, List.length_nil] at this ⊢); omega) hf.2 hB (HV.out.at hB (HZ.out.trans H1.out).bel)).mono ?_; rintro e w2 ⟨rfl, hh⟩; have hh2 : At (w.alloc (.cells #[.string (st x.a), .slice a1 x.ones.length c1, .slice a2 x.tests.length c2] 49)) B b w2 ((zs ++ ([94] ++ (x.a))) ++ (spJ (x.tests.map (shSingle svd)))) := H1.out.trans hh; clear hh; obtain ⟨p0, p1, p2⟩ := HX.out _ _ hh2; have H2 : Hid (At (w.alloc (.cells #[.string (st x.a), .slice a1 x.ones.length c1, .slice a2 x.tests.length c2] 49)) B b w2 ((zs ++ ([94] ++ (x.a))) ++ (spJ (x.tests.map (shSingle svd))))) := hh2; have hs2 := hh2.bel.size; clear hh2))
  go_end0
  exact ⟨rfl, by have := HZ.out.trans H2.out; first | exact this | simpa only [List.append_assoc, List.cons_append, List.nil_append] using this⟩
set_option maxHeartbeats 4000000 in
theorem attr_lay_c {B K b : Nat} (hK : PutC K) (zs : Str) (x : AttrD) (a1 a2 : Option Addr) (c1 c2 : Nat) (w : World) (hb : Bd w B b zs) (hlen : zs.length + (([94] ++ x.a) ++ ([32, 123] ++ (spJ (x.tests.map (shSingle svd)) ++ [32, 125]))).length ≤ 1000000000) (h1 : SlW 3 w (fun k => k < B) (.slice a1 x.ones.length c1) (x.ones.map clV)) (h2 : SlW 5 w (fun k => k < B) (.slice a2 x.tests.length c2) (x.tests.map clT)) (hf : fA x) (ho : ¬ (0 : Int) < x.ones.length) (ht : ¬ (x.tests.length : Int) = 1) (hB : 5 ≤ B) (hV : Vars w) :
    Calls Tryd.prog 31 #[pv K b, .agg #[.string (st x.a), .slice a1 x.ones.length c1, .slice a2 x.tests.length c2]] w (Lays1 B b w (zs ++ (([94] ++ x.a) ++ ([32, 123] ++ (spJ (x.tests.map (shSingle svd)) ++ [32, 125]))))) := by
  have eK : ∀ (args : Array Value) (w : World), (callFunc K args).run Tryd.prog w = .ok (.enter K args) w := hK.1
  have HL : Hid (zs.length + (([94] ++ x.a) ++ ([32, 123] ++ (spJ (x.tests.map (shSingle svd)) ++ [32, 125]))).length ≤ 1000000000) := hlen
  have HB : Hid (Bd w B b zs) := hb
  have H0 : Hid (At (w.alloc (.cells #[.string (st x.a), .slice a1 x.ones.length c1, .slice a2 x.tests.length c2] 49)) B b (w.alloc (.cells #[.string (st x.a), .slice a1 x.ones.length c1, .slice a2 x.tests.length c2] 49)) zs) := At.refl (HB.out.alloc _)
  have HZ : Hid (At w B b (w.alloc (.cells #[.string (st x.a), .slice a1 x.ones.length c1, .slice a2 x.tests.length c2] 49)) zs) := (At.refl HB.out).alloc _
  have HX : Hid (∀ W z, At (w.alloc (.cells #[.string (st x.a), .slice a1 x.ones.length c1, .slice a2 x.tests.length c2] 49)) B b W z → W.cell? ⟨w.heap.size, 0, none⟩ = some (.string (st x.a)) ∧ W.cell? ⟨w.heap.size, 1, none⟩ = some (.slice a1 x.ones.length c1) ∧ W.cell? ⟨w.heap.size, 2, none⟩ = some (.slice a2 x.tests.length c2)) := by
    intro W z hW
    have hq := hW.fb
    have hlt : w.heap.size < (w.alloc (.cells #[.string (st x.a), .slice a1 x.ones.length c1, .slice a2 x.tests.length c2] 49)).heap.size := by simp
    have hap : Apart (w.alloc (.cells #[.string (st x.a), .slice a1 x.ones.length c1, .slice a2 x.tests.length c2] 49)) b w.heap.size := (HB.out.new (Nat.le_refl _)).alloc HB.out.lt _
    exact ⟨hq.cell hlt hap (by simp), hq.cell hlt hap (by simp), hq.cell hlt hap (by simp)⟩
  have HV : Hid (Vars w) := hV
  clear hV
  have hb1 := hb.lt
  clear hlen hb
  have H1s : Hid (SlW 3 w (fun k => k < B) (.slice a1 x.ones.length c1) (x.ones.map clV)) := h1
  have H2s : Hid (SlW 5 w (fun k => k < B) (.slice a2 x.tests.length c2) (x.tests.map clT)) := h2
  clear h1 h2
  have tok1 : Hid True := trivial
  have tok2 : Hid True := trivial
  have tok3 : Hid True := trivial
  have tok4 : Hid True := trivial
  unfold pv at *
  go_enter Tryd.func31, Tryd.ntmps31
  go_wp2_with (first | (go_at_fn K; have tku := tok1; clear tku tok1; refine (put2 hK H0.out.bd ([94]) (x.a) (by have := HL.out; (try simp only [List.length_append, List.length_cons, List.length_nil] at this ⊢); omega) (by simp)).mono ?_; rintro e w1 ⟨rfl, hh⟩; have hh1 : At (w.alloc (.cells #[.string (st x.a), .slice a1 x.ones.length c1, .slice a2 x.tests.length c2] 49)) B b w1 (zs ++ ([94] ++ (x.a))) := H0.out.trans hh; clear hh; obtain ⟨p0, p1, p2⟩ := HX.out _ _ hh1; have H1 : Hid (At (w.alloc (.cells #[.string (st x.a), .slice a1 x.ones.length c1, .slice a2 x.tests.length c2] 49)) B b w1 (zs ++ ([94] ++ (x.a)))) := hh1; have hs1 := hh1.bel.size; clear hh1) | (go_at_fn K; have tku := tok2; clear tku tok2; refine (put1 hK H1.out.bd ([32, 123]) (by have := HL.out; (try simp only [List.length_append, List.length_cons, List.length_nil] at this ⊢); omega) (by simp)).mono ?_; rintro e w2 ⟨rfl, hh⟩; have hh2 : At (w.alloc (.cells #[.string (st x.a), .slice a1 x.ones.length c1, .slice a2 x.tests.length c2] 49)) B b w2 ((zs ++ ([94] ++ (x.a))) ++ ([32, 123])) := H1.out.trans hh; clear hh; obtain ⟨p0, p1, p2⟩ := HX.out _ _ hh2; have H2 : Hid (At (w.alloc (.cells #[.string (st x.a), .slice a1 x.ones.length c1, .slice a2 x.tests.length c2] 49)) B b w2 ((zs ++ ([94] ++ (x.a))) ++ ([32, 123]))) := hh2; have hs2 := hh2.bel.size; clear hh2) | (go_at_call 56; have tku := tok3; clear tku tok3; refine (tests_lay hK _ _ x.tests _ (H2s.out.keep (P := fun _ k => k < B) (k := 3) (stays_below (HZ.out.trans H2.out).bel)) H2.out.bd (by have := HL.out; (try simp only [List.length_append, List.length_cons, List.length_nil] at this ⊢); omega) hf.2 hB (HV.out.at hB (HZ.out.trans H2.out).bel)).mono ?_; rintro e w3 ⟨rfl, hh⟩; have hh3 : At (w.alloc (.cells #[.string (st x.a), .slice a1 x.ones.length c1, .slice a2 x.tests.length c2] 49)) B b w3 (((zs ++ ([94] ++ (x.a))) ++ ([32, 123])) ++ (spJ (x.tests.map (shSingle svd)))) := H2.out.trans hh; clear hh; obtain ⟨p0, p1, p2⟩ := HX.out _ _ hh3; have H3 : Hid (At (w.alloc (.cells #[.string (st x.a), .slice a1 x.ones.length c1, .slice a2 x.tests.length c2] 49)) B b w3 (((zs ++ ([94] ++ (x.a))) ++ ([32, 123])) ++ (spJ (x.tests.map (shSingle svd))))) := hh3; have hs3 := hh3.bel.size; clear hh3) | (go_at_fn K; have tku := tok4; clear tku tok4; refine (put1 hK H3.out.bd ([32, 125]) (by have := HL.out; (try simp only [List.length_append, List.length_cons, List.length_nil] at this ⊢); omega) (by simp)).mono ?_; rintro e w4 ⟨rfl, hh⟩; have hh4 : At (w.alloc (.cells #[.string (st x.a), .slice a1 x.ones.length c1, .slice a2 x.tests.length c2] 49)) B b w4 ((((zs ++ ([94] ++ (x.a))) ++ ([32, 123])) ++ (spJ (x.tests.map (shSingle svd)))) ++ ([32, 125])) := H3.out.trans hh; clear hh; obtain ⟨p0, p1, p2⟩ := HX.out _ _ hh4; have H4 : Hid (At (w.alloc (.cells #[.string (st x.a), .slice a1 x.ones.length c1, .slice a2 x.tests.length c2] 49)) B b w4 ((((zs ++ ([94] ++ (x.a))) ++ ([32, 123])) ++ (spJ (x.tests.map (shSingle svd)))) ++ ([32, 125]))) := hh4; have hs4 := hh4.bel.size; clear hh4))
  go_end0
  exact ⟨rfl, by have := HZ.out.trans H4.out; first | exact this | simpa only [List.append_assoc, List.cons_append, List.nil_append] using this⟩
end Go.Proofs.YtemacdimdpnkeaaDoor
namespace Go.Proofs.YtemacdimdpnkeaaDoor
open Go.RowKit
set_option linter.unusedVariables false
set_option linter.unusedSimpArgs false
set_option maxRecDepth 20000
theorem attr_lay {B K b : Nat} (hK : PutC K) (zs : Str) (cs : List Value) (x : AttrD) (w : World) (hR : ReA (fun _ k => k < B) w cs x) (hb : Bd w B b zs) (hlen : zs.length + (shTest svd x).length ≤ 1000000000) (hf : fA x) (hB : 5 ≤ B) (hV : Vars w) :
    Calls Tryd.prog 31 #[pv K b, .agg cs.toArray] w (Lays1 B b w (zs ++ shTest svd x)) := by
  obtain ⟨v1, v2, rfl, h1, h2⟩ := hR
  obtain ⟨a1, c1, e1⟩ := h1.shape
  obtain ⟨a2, c2, e2⟩ := h2.shape
  rw [List.length_map] at e1 e2
  subst e1; subst e2
  unfold shTest at hlen ⊢
  by_cases ho : x.ones = []
  · have ho' : ¬ (0 : Int) < x.ones.length := by rw [ho]; simp
    rw [if_neg (by simp [ho])] at hlen ⊢
    by_cases ht : x.tests.length = 1
    · rw [if_pos ht] at hlen ⊢
      have := attr_lay_b hK zs x a1 a2 c1 c2 w hb (by simpa using hlen) h1 h2 hf ho' (by omega) hB hV
      simpa using this
    · rw [if_neg ht] at hlen ⊢
      have := attr_lay_c hK zs x a1 a2 c1 c2 w hb (by simpa using hlen) h1 h2 hf ho' (by omega) hB hV
      simpa using this
  · rw [if_pos ho] at hlen ⊢
    have hp : 0 < x.ones.length := List.length_pos_iff.2 ho
    have := attr_lay_a hK zs x a1 a2 c1 c2 w hb (by simpa using hlen) h1 h2 hf (by omega) hB hV
    simpa using this
theorem attrs_lay {B K b : Nat} (hK : PutC K) (zs : Str) (v : Value) (xs : List AttrD) (w : World) (hR : Row 3 (ReA (fun _ k => k < B)) w (fun k => k < B) v xs) (hb : Bd w B b zs) (hlen : zs.length + (spJ (xs.map (shTest svd))).length ≤ 1000000000) (hf : ∀ x ∈ xs, fA x) (hB : 5 ≤ B) (hV : Vars w) :
    Calls Tryd.prog 52 #[pv K b, v, .func (.func 31) #[] #[]] w (Lays1 B b w (zs ++ spJ (xs.map (shTest svd)))) := by
  obtain ⟨css, h1, h2⟩ := hR
  have hl := h2.len
  refine each52 hK (enters_of Tryd.func31 (by kernel_rfl) rfl) zs v css (xs.map (shTest svd)) w h1 (fun i hi => ?_) (by rw [List.length_map]; exact hl) hb hlen fun i hi W z hW hz => ?_
  · have hr := h2.at i [] (⟨[], [], []⟩ : AttrD) (by omega)
    obtain ⟨v1, v2, e, q1, q2⟩ := hr
    obtain ⟨a1, c1, rfl⟩ := q1.shape
    obtain ⟨a2, c2, rfl⟩ := q2.shape
    exact ⟨_, _, _, _, _, _, _, e⟩
  · have hi' : i < xs.length := by omega
    rw [getD_mapS (shTest svd) xs i (⟨[], [], []⟩ : AttrD) hi'] at hz ⊢
    have hm := getD_mem xs i (⟨[], [], []⟩ : AttrD) hi'
    have hr := (h2.at i [] (⟨[], [], []⟩ : AttrD) hi').keep (stays_below hW.bel)
    exact attr_lay hK z _ _ W hr hW.bd hz (hf _ hm) hB (hV.at hB hW.bel)
set_option maxHeartbeats 4000000 in
theorem cond_lay_a {B K b : Nat} (hK : PutC K) (zs : Str) (x : CondD) (a : Option Addr) (n c : Nat) (w : World) (hb : Bd w B b zs) (hlen : zs.length + ([45] ++ (([40] ++ x.c) ++ (spJ (x.attrs.map (shTest svd)) ++ [41]))).length ≤ 1000000000) (h1 : Row 3 (ReA (fun _ k => k < B)) w (fun k => k < B) (.slice a n c) x.attrs) (hf : fC x) (hB : 5 ≤ B) (hV : Vars w) :
    Calls Tryd.prog 29 #[pv K b, .agg #[.bool true, .string (st x.c), .slice a n c]] w (Lays1 B b w (zs ++ ([45] ++ (([40] ++ x.c) ++ (spJ (x.attrs.map (shTest svd)) ++ [41]))))) := by
  have eK : ∀ (args : Array Value) (w : World), (callFunc K args).run Tryd.prog w = .ok (.enter K args) w := hK.1
  have HL : Hid (zs.length + ([45] ++ (([40] ++ x.c) ++ (spJ (x.attrs.map (shTest svd)) ++ [41]))).length ≤ 1000000000) := hlen
  have HB : Hid (Bd w B b zs) := hb
  have H0 : Hid (At (w.alloc (.cells #[.bool true, .string (st x.c), .slice a n c] 44)) B b (w.alloc (.cells #[.bool true, .string (st x.c), .slice a n c] 44)) zs) := At.refl (HB.out.alloc _)
  have HZ : Hid (At w B b (w.alloc (.cells #[.bool true, .string (st x.c), .slice a n c] 44)) zs) := (At.refl HB.out).alloc _
  have HX : Hid (∀ W z, At (w.alloc (.cells #[.bool true, .string (st x.c), .slice a n c] 44)) B b W z → W.cell? ⟨w.heap.size, 0, none⟩ = some (.bool true) ∧ W.cell? ⟨w.heap.size, 1, none⟩ = some (.string (st x.c)) ∧ W.cell? ⟨w.heap.size, 2, none⟩ = some (.slice a n c)) := by
    intro W z hW
    have hq := hW.fb
    have hlt : w.heap.size < (w.alloc (.cells #[.bool true, .string (st x.c), .slice a n c] 44)).heap.size := by simp
    have hap : Apart (w.alloc (.cells #[.bool true, .string (st x.c), .slice a n c] 44)) b w.heap.size := (HB.out.new (Nat.le_refl _)).alloc HB.out.lt _
    exact ⟨hq.cell hlt hap (by simp), hq.cell hlt hap (by simp), hq.cell hlt hap (by simp)⟩
  have HV : Hid (Vars w) := hV
  clear hV
  have hb1 := hb.lt
  clear hlen hb
  have H1s : Hid (Row 3 (ReA (fun _ k => k < B)) w (fun k => k < B) (.slice a n c) x.attrs) := h1
  clear h1
  have tok1 : Hid True := trivial
  have tok2 : Hid True := trivial
  have tok3 : Hid True := trivial
  have tok4 : Hid True := trivial
  unfold pv at *
  go_enter Tryd.func29, Tryd.ntmps29
  go_wp2_with (first | (go_at_fn K; have tku := tok1; clear tku tok1; refine (put1 hK H0.out.bd ([45]) (by have := HL.out; (try simp only [List.length_append, List.length_cons, List.length_nil] at this ⊢); omega) (by simp)).mono ?_; rintro e w1 ⟨rfl, hh⟩; have hh1 : At (w.alloc (.cells #[.bool true, .string (st x.c), .slice a n c] 44)) B b w1 (zs ++ ([45])) := H0.out.trans hh; clear hh; obtain ⟨p0, p1, p2⟩ := HX.out _ _ hh1; have H1 : Hid (At (w.alloc (.cells #[.bool true, .string (st x.c), .slice a n c] 44)) B b w1 (zs ++ ([45]))) := hh1; have hs1 := hh1.bel.size; clear hh1) | (go_at_fn K; have tku := tok2; clear tku tok2; refine (put2 hK H1.out.bd ([40]) (x.c) (by have := HL.out; (try simp only [List.length_append, List.length_cons, List.length_nil] at this ⊢); omega) (by simp)).mono ?_; rintro e w2 ⟨rfl, hh⟩; have hh2 : At (w.alloc (.cells #[.bool true, .string (st x.c), .slice a n c] 44)) B b w2 ((zs ++ ([45])) ++ ([40] ++ (x.c))) := H1.out.trans hh; clear hh; obtain ⟨p0, p1, p2⟩ := HX.out _ _ hh2; have H2 : Hid (At (w.alloc (.cells #[.bool true, .string (st x.c), .slice a n c] 44)) B b w2 ((zs ++ ([45])) ++ ([40] ++ (x.c)))) := hh2; have hs2 := hh2.bel.size; clear hh2) | (go_at_call 52; have tku := tok3; clear tku tok3; refine (attrs_lay hK _ _ x.attrs _ (Row.keep (P := fun _ k => k < B) (k := 7) (stays_below (HZ.out.trans H2.out).bel) (fun _ _ h => h.keep (stays_below (HZ.out.trans H2.out).bel)) H1s.out) H2.out.bd (by have := HL.out; (try simp only [List.length_append, List.length_cons, List.length_nil] at this ⊢); omega) hf hB (HV.out.at hB (HZ.out.trans H2.out).bel)).mono ?_; rintro e w3 ⟨rfl, hh⟩; have hh3 : At (w.alloc (.cells #[.bool true, .string (st x.c), .slice a n c] 44)) B b w3 (((zs ++ ([45])) ++ ([40] ++ (x.c))) ++ (spJ (x.attrs.map (shTest svd)))) := H2.out.trans hh; clear hh; obtain ⟨p0, p1, p2⟩ := HX.out _ _ hh3; have H3 : Hid (At (w.alloc (.cells #[.bool true, .string (st x.c), .slice a n c] 44)) B b w3 (((zs ++ ([45])) ++ ([40] ++ (x.c))) ++ (spJ (x.attrs.map (shTest svd))))) := hh3; have hs3 := hh3.bel.size; clear hh3) | (go_at_fn K; have tku := tok4; clear tku tok4; refine (put1 hK H3.out.bd ([41]) (by have := HL.out; (try simp only [List.length_append, List.length_cons, List.length_nil] at this ⊢); omega) (by simp)).mono ?_; rintro e w4 ⟨rfl, hh⟩; have hh4 : At (w.alloc (.cells #[.bool true, .string (st x.c), .slice a n c] 44)) B b w4 ((((zs ++ ([45])) ++ ([40] ++ (x.c))) ++ (spJ (x.attrs.map (shTest svd)))) ++ ([41])) := H3.out.trans hh; clear hh; obtain ⟨p0, p1, p2⟩ := HX.out _ _ hh4; have H4 : Hid (At (w.alloc (.cells #[.bool true, .string (st x.c), .slice a n c] 44)) B b w4 ((((zs ++ ([45])) ++ ([40] ++ (x.c))) ++ (spJ (x.attrs.map (shTest svd)))) ++ ([41]))) := hh4; have hs4 := hh4.bel.size; clear hh4))
  go_end0
  exact ⟨rfl, by have := HZ.out.trans H4.out; first | exact this | simpa only [List.append_assoc, List.cons_append, List.nil_append] using this⟩
set_option maxHeartbeats 4000000 in
theorem cond_lay_b {B K b : Nat} (hK : PutC K) (zs : Str) (x : CondD) (a : Option Addr) (n c : Nat) (w : World) (hb : Bd w B b zs) (hlen : zs.length + (([40] ++ x.c) ++ (spJ (x.attrs.map (shTest svd)) ++ [41])).length ≤ 1000000000) (h1 : Row 3 (ReA (fun _ k => k < B)) w (fun k => k < B) (.slice a n c) x.attrs) (hf : fC x) (hB : 5 ≤ B) (hV : Vars w) :
    Calls Tryd.prog 29 #[pv K b, .agg #[.bool false, .string (st x.c), .slice a n c]] w (Lays1 B b w (zs ++ (([40] ++ x.c) ++ (spJ (x.attrs.map (shTest svd)) ++ [41])))) := by
  have eK : ∀ (args : Array Value) (w : World), (callFunc K args).run Tryd.prog w = .ok (.enter K args) w := hK.1
  have HL : Hid (zs.length + (([40] ++ x.c) ++ (spJ (x.attrs.map (shTest svd)) ++ [41])).length ≤ 1000000000) := hlen
  have HB : Hid (Bd w B b zs) := hb
  have H0 : Hid (At (w.alloc (.cells #[.bool false, .string (st x.c), .slice a n c] 44)) B b (w.alloc (.cells #[.bool false, .string (st x.c), .slice a n c] 44)) zs) := At.refl (HB.out.alloc _)
  have HZ : Hid (At w B b (w.alloc (.cells #[.bool false, .string (st x.c), .slice a n c] 44)) zs) := (At.refl HB.out).alloc _
  have HX : Hid (∀ W z, At (w.alloc (.cells #[.bool false, .string (st x.c), .slice a n c] 44)) B b W z → W.cell? ⟨w.heap.size, 0, none⟩ = some (.bool false) ∧ W.cell? ⟨w.heap.size, 1, none⟩ = some (.string (st x.c)) ∧ W.cell? ⟨w.heap.size, 2, none⟩ = some (.slice a n c)) := by
    intro W z hW
    have hq := hW.fb
    have hlt : w.heap.size < (w.alloc (.cells #[.bool false, .string (st x.c), .slice a n c] 44)).heap.size := by simp
    have hap : Apart (w.alloc (.cells #[.bool false, .string (st x.c), .slice a n c] 44)) b w.heap.size := (HB.out.new (Nat.le_refl _)).alloc HB.out.lt _
    exact ⟨hq.cell hlt hap (by simp), hq.cell hlt hap (by simp), hq.cell hlt hap (by simp)⟩
  have HV : Hid (Vars w) := hV
  clear hV
  have hb1 := hb.lt
  clear hlen hb
  have H1s : Hid (Row 3 (ReA (fun _ k => k < B)) w (fun k => k < B) (.slice a n c) x.attrs) := h1
  clear h1
  have tok1 : Hid True := trivial
  have tok2 : Hid True := trivial
  have tok3 : Hid True := trivial
  unfold pv at *
  go_enter Tryd.func29, Tryd.ntmps29
  go_wp2_with (first | (go_at_fn K; have tku := tok1; clear tku tok1; refine (put2 hK H0.out.bd ([40]) (x.c) (by have := HL.out; (try simp only [List.length_append, List.length_cons, List.length_nil] at this ⊢); omega) (by simp)).mono ?_; rintro e w1 ⟨rfl, hh⟩; have hh1 : At (w.alloc (.cells #[.bool false, .string (st x.c), .slice a n c] 44)) B b w1 (zs ++ ([40] ++ (x.c))) := H0.out.trans hh; clear hh; obtain ⟨p0, p1, p2⟩ := HX.out _ _ hh1; have H1 : Hid (At (w.alloc (.cells #[.bool false, .string (st x.c), .slice a n c] 44)) B b w1 (zs ++ ([40] ++ (x.c)))) := hh1; have hs1 := hh1.bel.size; clear hh1) | (go_at_call 52; have tku := tok2; clear tku tok2; refine (attrs_lay hK _ _ x.attrs _ (Row.keep (P := fun _ k => k < B) (k := 7) (stays_below (HZ.out.trans H1.out).bel) (fun _ _ h => h.keep (stays_below (HZ.out.trans H1.out).bel)) H1s.out) H1.out.bd (by have := HL.out; (try simp only [List.length_append, List.length_cons, List.length_nil] at this ⊢); omega) hf hB (HV.out.at hB (HZ.out.trans H1.out).bel)).mono ?_; rintro e w2 ⟨rfl, hh⟩; have hh2 : At (w.alloc (.cells #[.bool false, .string (st x.c), .slice a n c] 44)) B b w2 ((zs ++ ([40] ++ (x.c))) ++ (spJ (x.attrs.map (shTest svd)))) := H1.out.trans hh; clear hh; obtain ⟨p0, p1, p2⟩ := HX.out _ _ hh2; have H2 : Hid (At (w.alloc (.cells #[.bool false, .string (st x.c), .slice a n c] 44)) B b w2 ((zs ++ ([40] ++ (x.c))) ++ (spJ (x.attrs.map (shTest svd))))) := hh2; have hs2 := hh2.bel.size; clear hh2) | (go_at_fn K; have tku := tok3; clear tku tok3; refine (put1 hK H2.out.bd ([41]) (by have := HL.out; (try simp only [List.length_append, List.length_cons, List.length_nil] at this ⊢); omega) (by simp)).mono ?_; rintro e w3 ⟨rfl, hh⟩; have hh3 : At (w.alloc (.cells #[.bool false, .string (st x.c), .slice a n c] 44)) B b w3 (((zs ++ ([40] ++ (x.c))) ++ (spJ (x.attrs.map (shTest svd)))) ++ ([41])) := H2.out.trans hh; clear hh; obtain ⟨p0, p1, p2⟩ := HX.out _ _ hh3; have H3 : Hid (At (w.alloc (.cells #[.bool false, .string (st x.c), .slice a n c] 44)) B b w3 (((zs ++ ([40] ++ (x.c))) ++ (spJ (x.attrs.map (shTest svd)))) ++ ([41]))) := hh3; have hs3 := hh3.bel.size; clear hh3))
  go_end0
  exact ⟨rfl, by have := HZ.out.trans H3.out; first | exact this | simpa only [List.append_assoc, List.cons_append, List.nil_append] using this⟩
theorem cond_lay {B K b : Nat} (hK : PutC K) (zs : Str) (cs : List Value) (x : CondD) (w : World) (hR : ReC (fun _ k => k < B) w cs x) (hb : Bd w B b zs) (hlen : zs.length + (shCond svd x).length ≤ 1000000000) (hf : fC x) (hB : 5 ≤ B) (hV : Vars w) :
    Calls Tryd.prog 29 #[pv K b, .agg cs.toArray] w (Lays1 B b w (zs ++ shCond svd x)) := by
  obtain ⟨v, rfl, h1⟩ := hR
  obtain ⟨a, n, c, rfl⟩ : ∃ a n c, v = .slice a n c := by
    obtain ⟨css, h2, -⟩ := h1
    obtain ⟨a, c, e⟩ := h2.shape
    exact ⟨a, _, c, e⟩
  unfold shCond at hlen ⊢
  obtain ⟨neg, cl, attrs⟩ := x
  cases neg with
  | true =>
    have := cond_lay_a hK zs ⟨true, cl, attrs⟩ a n c w hb (by simpa using hlen) h1 hf hB hV
    simpa using this
  | false =>
    have := cond_lay_b hK zs ⟨false, cl, attrs⟩ a n c w hb (by simpa using hlen) h1 hf hB hV
    simpa using this
theorem conds_lay {B K b : Nat} (hK : PutC K) (zs : Str) (v : Value) (xs : List CondD) (w : World) (hR : Row 3 (ReC (fun _ k => k < B)) w (fun k => k < B) v xs) (hb : Bd w B b zs) (hlen : zs.length + (spJ (xs.map (shCond svd))).length ≤ 1000000000) (hf : ∀ x ∈ xs, fC x) (hB : 5 ≤ B) (hV : Vars w) :
    Calls Tryd.prog 49 #[pv K b, v, .func (.func 29) #[] #[]] w (Lays1 B b w (zs ++ spJ (xs.map (shCond svd)))) := by
  obtain ⟨css, h1, h2⟩ := hR
  have hl := h2.len
  refine each49 hK (enters_of Tryd.func29 (by kernel_rfl) rfl) zs v css (xs.map (shCond svd)) w h1 (fun i hi => ?_) (by rw [List.length_map]; exact hl) hb hlen fun i hi W z hW hz => ?_
  · have hr := h2.at i [] (⟨false, [], []⟩ : CondD) (by omega)
    obtain ⟨v1, e, css, q1, -⟩ := hr
    obtain ⟨a1, c1, rfl⟩ := q1.shape
    exact ⟨_, _, _, _, _, e⟩
  · have hi' : i < xs.length := by omega
    rw [getD_mapS (shCond svd) xs i (⟨false, [], []⟩ : CondD) hi'] at hz ⊢
    have hm := getD_mem xs i (⟨false, [], []⟩ : CondD) hi'
    have hr := (h2.at i [] (⟨false, [], []⟩ : CondD) hi').keep (stays_below hW.bel)
    exact cond_lay hK z _ _ W hr hW.bd hz (hf _ hm) hB (hV.at hB hW.bel)
set_option maxHeartbeats 4000000 in
theorem class_lay_a {B K b : Nat} (hK : PutC K) (zs : Str) (x : ClassD) (a : Option Addr) (c : Nat) (w : World) (hb : Bd w B b zs) (hlen : zs.length + (([40, 108, 105, 116, 101, 114, 97, 108, 105, 122, 101, 32] ++ x.nm) ++ (spJ (x.attrs.map fun s => s) ++ [41])).length ≤ 1000000000) (h1 : SlW 1 w (fun k => k < B) (.slice a x.attrs.length c) (x.attrs.map clS)) :
    Calls Tryd.prog 66 #[pv K b, .agg #[.string (st x.nm), .slice a x.attrs.length c]] w (Lays1 B b w (zs ++ (([40, 108, 105, 116, 101, 114, 97, 108, 105, 122, 101, 32] ++ x.nm) ++ (spJ (x.attrs.map fun s => s) ++ [41])))) := by
  have eK : ∀ (args : Array Value) (w : World), (callFunc K args).run Tryd.prog w = .ok (.enter K args) w := hK.1
  have HL : Hid (zs.length + (([40, 108, 105, 116, 101, 114, 97, 108, 105, 122, 101, 32] ++ x.nm) ++ (spJ (x.attrs.map fun s => s) ++ [41])).length ≤ 1000000000) := hlen
  have HB : Hid (Bd w B b zs) := hb
  have H0 : Hid (At (w.alloc (.cells #[.string (st x.nm), .slice a x.attrs.length c] 64)) B b (w.alloc (.cells #[.string (st x.nm), .slice a x.attrs.length c] 64)) zs) := At.refl (HB.out.alloc _)
  have HZ : Hid (At w B b (w.alloc (.cells #[.string (st x.nm), .slice a x.attrs.length c] 64)) zs) := (At.refl HB.out).alloc _
  have HX : Hid (∀ W z, At (w.alloc (.cells #[.string (st x.nm), .slice a x.attrs.length c] 64)) B b W z → W.cell? ⟨w.heap.size, 0, none⟩ = some (.string (st x.nm)) ∧ W.cell? ⟨w.heap.size, 1, none⟩ = some (.slice a x.attrs.length c)) := by
    intro W z hW
    have hq := hW.fb
    have hlt : w.heap.size < (w.alloc (.cells #[.string (st x.nm), .slice a x.attrs.length c] 64)).heap.size := by simp
    have hap : Apart (w.alloc (.cells #[.string (st x.nm), .slice a x.attrs.length c] 64)) b w.heap.size := (HB.out.new (Nat.le_refl _)).alloc HB.out.lt _
    exact ⟨hq.cell hlt hap (by simp), hq.cell hlt hap (by simp)⟩
  have hb1 := hb.lt
  clear hlen hb
  have H1s : Hid (SlW 1 w (fun k => k < B) (.slice a x.attrs.length c) (x.attrs.map clS)) := h1
  clear h1
  have tok1 : Hid True := trivial
  have tok2 : Hid True := trivial
  have tok3 : Hid True := trivial
  unfold pv at *
  go_enter Tryd.func66, Tryd.ntmps66
  go_wp2_with (first | (go_at_fn K; have tku := tok1; clear tku tok1; refine (put2 hK H0.out.bd ([40, 108, 105, 116, 101, 114, 97, 108, 105, 122, 101, 32]) (x.nm) (by have := HL.out; (try simp only [List.length_append, List.length_cons, List.length_nil] at this ⊢); omega) (by simp)).mono ?_; rintro e w1 ⟨rfl, hh⟩; have hh1 : At (w.alloc (.cells #[.string (st x.nm), .slice a x.attrs.length c] 64)) B b w1 (zs ++ ([40, 108, 105, 116, 101, 114, 97, 108, 105, 122, 101, 32] ++ (x.nm))) := H0.out.trans hh; clear hh; obtain ⟨p0, p1⟩ := HX.out _ _ hh1; have H1 : Hid (At (w.alloc (.cells #[.string (st x.nm), .slice a x.attrs.length c] 64)) B b w1 (zs ++ ([40, 108, 105, 116, 101, 114, 97, 108, 105, 122, 101, 32] ++ (x.nm)))) := hh1; have hs1 := hh1.bel.size; clear hh1) | (go_at_call 74; have tku := tok2; clear tku tok2; refine (names_lay hK _ _ x.attrs _ (H1s.out.keep (P := fun _ k => k < B) (k := 1) (stays_below (HZ.out.trans H1.out).bel)) H1.out.bd (by have := HL.out; (try simp only [List.length_append, List.length_cons, List.length_nil] at this ⊢); omega)).mono ?_; rintro e w2 ⟨rfl, hh⟩; have hh2 : At (w.alloc (.cells #[.string (st x.nm), .slice a x.attrs.length c] 64)) B b w2 ((zs ++ ([40, 108, 105, 116, 101, 114, 97, 108, 105, 122, 101, 32] ++ (x.nm))) ++ (spJ (x.attrs.map fun s => s))) := H1.out.trans hh; clear hh; obtain ⟨p0, p1⟩ := HX.out _ _ hh2; have H2 : Hid (At (w.alloc (.cells #[.string (st x.nm), .slice a x.attrs.length c] 64)) B b w2 ((zs ++ ([40, 108, 105, 116, 101, 114, 97, 108, 105, 122, 101, 32] ++ (x.nm))) ++ (spJ (x.attrs.map fun s => s)))) := hh2; have hs2 := hh2.bel.size; clear hh2) | (go_at_fn K; have tku := tok3; clear tku tok3; refine (put1 hK H2.out.bd ([41]) (by have := HL.out; (try simp only [List.length_append, List.length_cons, List.length_nil] at this ⊢); omega) (by simp)).mono ?_; rintro e w3 ⟨rfl, hh⟩; have hh3 : At (w.alloc (.cells #[.string (st x.nm), .slice a x.attrs.length c] 64)) B b w3 (((zs ++ ([40, 108, 105, 116, 101, 114, 97, 108, 105, 122, 101, 32] ++ (x.nm))) ++ (spJ (x.attrs.map fun s => s))) ++ ([41])) := H2.out.trans hh; clear hh; obtain ⟨p0, p1⟩ := HX.out _ _ hh3; have H3 : Hid (At (w.alloc (.cells #[.string (st x.nm), .slice a x.attrs.length c] 64)) B b w3 (((zs ++ ([40, 108, 105, 116, 101, 114, 97, 108, 105, 122, 101, 32] ++ (x.nm))) ++ (spJ (x.attrs.map fun s => s))) ++ ([41]))) := hh3; have hs3 := hh3.bel.size; clear hh3))
  go_end0
  exact ⟨rfl, by have := HZ.out.trans H3.out; first | exact this | simpa only [List.append_assoc, List.cons_append, List.nil_append] using this⟩
theorem class_lay {B K b : Nat} (hK : PutC K) (zs : Str) (cs : List Value) (x : ClassD) (w : World) (hR : ReK (fun _ k => k < B) w cs x) (hb : Bd w B b zs) (hlen : zs.length + (shClass x).length ≤ 1000000000) :
    Calls Tryd.prog 66 #[pv K b, .agg cs.toArray] w (Lays1 B b w (zs ++ shClass x)) := by
  obtain ⟨v, rfl, h1⟩ := hR
  obtain ⟨a, c, e⟩ := h1.shape
  rw [List.length_map] at e
  subst e
  have e2 : shClass x = ([40, 108, 105, 116, 101, 114, 97, 108, 105, 122, 101, 32] ++ x.nm) ++ (spJ (x.attrs.map fun s => s) ++ [41]) := by
    unfold shClass; rw [List.map_id']; simp [sLit]
  rw [e2] at hlen ⊢
  exact class_lay_a hK zs x a c w hb hlen h1
end Go.Proofs.YtemacdimdpnkeaaDoor
