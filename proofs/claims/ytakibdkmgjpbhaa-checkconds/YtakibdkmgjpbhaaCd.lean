/- Told; Concat; a condition by classes and variables. -/
import Derived.Test.YtakibdkmgjpbhaaFi
namespace Go.Proofs.Ytakibdkmgjpbhaa
open Go.RowKit
set_option linter.unusedVariables false
set_option linter.unusedSimpArgs false
set_option maxRecDepth 20000

set_option maxHeartbeats 4000000 in
theorem told_any {P Q : Nat → Prop} (v1 v2 : Value) (xs : List ItemD) (zs : List Str) (w : World) (h1 : SlW 5 w P v1 (xs.map clI)) (h2 : SlW 1 w Q v2 (zs.map clS)) :
    Calls Try.prog 25 #[v1, v2] w fun e w' => e = .returned (.bool (decide (exE zs xs = 0))) ∧ Below w.heap.size w w' := by
  obtain ⟨a1, c1, rfl⟩ := h1.shape
  obtain ⟨-, l1, m1, r1⟩ := h1.row
  simp only [List.length_map] at *
  have R1 : Hid (∀ i, i < xs.length → ∃ b off, a1 = some ⟨b, off, none⟩ ∧ b < w.heap.size ∧ ∀ j, j < 5 → w.cell? ⟨b, off + (i * 5 + j), none⟩ = ((xs.map clI).getD i [])[j]?) := r1
  have CI : Hid (∀ W s, Below w.heap.size w W → Calls Try.prog 32 #[v2, .string (st s)] W fun e w' => e = .returned (.bool (decide (s ∈ zs))) ∧ Below W.heap.size W w') := fun W s hW => in_any v2 zs s W (h2.bl hW)
  clear r1 h1 h2
  have hnn : (xs.length : Int) ≤ 9223372036854775807 := by omega
  go_enter Try.func25, Try.ntmps25
  go_wp2
  go_loopw [5] (fun v wr => ∃ i : Nat, v = .int .i64 i ∧ i ≤ xs.length ∧ Hid (Below w.heap.size w wr) ∧ Hid (∀ j, j < i → itemE zs (xs.getD j ⟨0, v0, []⟩) = false)) (fun v _ => (xs.length - intOf v).toNat)
  case atStart => exact ⟨0, rfl, Nat.zero_le _, Below.refl _ _, fun j hj => absurd hj (Nat.not_lt_zero _)⟩
  case round =>
    obtain ⟨i, rfl, hi, HB, NO⟩ := hrel
    by_cases hlt : i < xs.length
    · have hiz : (i : Int) < xs.length := by omega
      obtain ⟨b1, o1, rfl, hb1, q1⟩ := R1.out i hlt
      rw [getD_map clI xs i ⟨0, v0, []⟩ hlt] at q1
      have HX : Hid (itemE zs (xs.getD i ⟨0, v0, []⟩) = true → exE zs xs = 20) := fun hx => by unfold exE; rw [if_pos (any_take hlt hx)]
      have NX : Hid (itemE zs (xs.getD i ⟨0, v0, []⟩) = false → ∀ j, j < i + 1 → itemE zs (xs.getD j ⟨0, v0, []⟩) = false) := fun hx j hj => by
        rcases Nat.lt_or_eq_of_le (Nat.le_of_lt_succ hj) with hj | rfl
        · exact NO.out j hj
        · exact hx
      generalize xs.getD i ⟨0, v0, []⟩ = x at q1 HX NX
      have c0 : wr.cell? ⟨b1, o1 + i * 5, none⟩ = some (.int .u8 x.k) := (HB.out.cell (p := ⟨b1, o1 + i * 5, none⟩) hb1).trans (q1 0 (by decide))
      have c4 : wr.cell? ⟨b1, o1 + i * 5 + 4, none⟩ = some (.string (st x.v)) := (HB.out.cell (p := ⟨b1, o1 + i * 5 + 4, none⟩) hb1).trans (q1 4 (by decide))
      clear q1
      have CH := CI.out wr x.v HB.out
      by_cases hk : x.k = 1
      · rw [hk] at c0
        by_cases hv : x.v ∈ zs
        · rw [decide_eq_true hv] at CH
          have N2 : Hid (∀ j, j < i + 1 → itemE zs (xs.getD j ⟨0, v0, []⟩) = false) := NX.out (by unfold itemE; simp [hv])
          clear hv HX NX
          go_wp2_with (go_at_call 32; refine CH.mono ?_; rintro e w2 ⟨rfl, hb2⟩; have B2 : Hid (Below w.heap.size w w2) := bt HB.out hb2; clear CH hb2)
          go_roundw
          case rel => exact ⟨i + 1, by simp, by omega, B2.out, N2.out⟩
          case measure => simp [intOf]; omega
        · rw [decide_eq_false hv] at CH
          have E2 : Hid (decide (exE zs xs = 0) = false) := by rw [HX.out (by unfold itemE; simp [hv, hk])]; exact rfl
          clear hv HX NX
          go_wp2_with (go_at_call 32; refine CH.mono ?_; rintro e w2 ⟨rfl, hb2⟩; have B2 : Hid (Below w.heap.size w w2) := bt HB.out hb2; clear CH hb2)
          go_ret
          exact ⟨by rw [E2.out]; rfl, B2.out⟩
      · have N2 : Hid (∀ j, j < i + 1 → itemE zs (xs.getD j ⟨0, v0, []⟩) = false) := NX.out (by unfold itemE; simp [hk])
        clear HX NX CH
        go_wp2
        go_roundw
        case rel => exact ⟨i + 1, by simp, by omega, HB.out, N2.out⟩
        case measure => simp [intOf]; omega
    · have hiz : ¬ (i : Int) < xs.length := by omega
      have E0 : Hid (decide (exE zs xs = 0) = true) := by unfold exE Hid; rw [any_none (d := ⟨0, v0, []⟩) fun j hj => NO.out j (by omega)]; rfl
      go_wp2
      go_ret
      exact ⟨by rw [E0.out]; rfl, HB.out⟩
/-- Parts that are told one behind the other. -/
def PartsS (w : World) (P : Nat → Prop) (g off : Nat) (zss : List (List Str)) : Prop := ∀ i, i < zss.length → ∃ v, w.cell? ⟨g, off + i, none⟩ = some v ∧ SlW 1 w P v ((zss.getD i []).map clS)
theorem PartsS.below {w w' : World} {P : Nat → Prop} {g off : Nat} {zss : List (List Str)} (h : PartsS w P g off zss) (hg : g < w.heap.size) (hb : Below w.heap.size w w') : PartsS w' P g off zss := fun i hi => by
  obtain ⟨v, h1, h2⟩ := h i hi
  exact ⟨v, (hb.cell (p := ⟨g, off + i, none⟩) hg).trans h1, h2.bl hb⟩
theorem flat_takeS (zss : List (List Str)) (k : Nat) (hk : k < zss.length) : (zss.take (k + 1)).flatten = (zss.take k).flatten ++ zss.getD k [] := by
  rw [List.take_succ_eq_append_getElem hk, List.flatten_append, List.getD_eq_getElem?_getD, List.getElem?_eq_getElem hk]; simp
theorem flat_leS (zss : List (List Str)) (k : Nat) : (zss.take k).flatten.length ≤ zss.flatten.length := by
  conv => rhs; rw [← List.take_append_drop k zss]
  rw [List.flatten_append, List.length_append]; omega
set_option maxHeartbeats 1600000 in
theorem concat_any {P : Nat → Prop} (g off n cap : Nat) (zss : List (List Str)) (w : World) (hl : zss.length = n) (hn : n ≤ 1000000) (hp : PartsS w P g off zss) (hg : g < w.heap.size) (h2 : zss.flatten.length ≤ 1000000) :
    Calls Try.prog 38 #[.slice (some ⟨g, off, none⟩) n cap] w fun e w' => ∃ v, e = .returned v ∧ OwnS w' w.heap.size v zss.flatten ∧ Below w.heap.size w w' := by
  have HL : Hid (zss.length = n) := hl
  clear hl
  go_enter Try.func38, Try.ntmps38
  go_wp2
  go_loop [3, 11] (fun x i => ∃ k : Nat, k ≤ n ∧ i = .int .i64 k ∧ x = .int .i64 ((zss.take k).flatten.length : Nat)) (fun _ i => n - (intOf i).toNat)
  case atStart => exact ⟨0, Nat.zero_le _, rfl, rfl⟩
  case round =>
    obtain ⟨k, hk, rfl, rfl⟩ := hrel
    by_cases hlt : k < n
    · obtain ⟨v, hck, hsl⟩ := hp k (by have := HL.out; omega)
      obtain ⟨a, c, rfl⟩ := hsl.shape
      simp only [List.length_map] at hck
      have hle := flat_leS zss (k + 1)
      have hnx := congrArg List.length (flat_takeS zss k (by have := HL.out; omega))
      rw [List.length_append] at hnx
      clear hsl
      rw [hnx] at hle
      have HX : Hid ((zss.take (k + 1)).flatten.length = _) := hnx
      clear hnx
      generalize (zss.take k).flatten.length = x at *
      generalize (zss.getD k []).length = l at *
      go_wp2
      go_round
      case rel => exact ⟨k + 1, by omega, by go_num, by rw [HX.out]; go_num⟩
      case measure => simp [intOf]; omega
    · have : k = n := by omega
      subst this
      have hL := HL.out
      rw [List.take_of_length_le (by omega)]
      have HG := growS_any _ w h2
      have H2 : Hid (zss.flatten.length ≤ 1000000) := h2
      generalize HS : zss.flatten.length = S at HG
      have hs1 : S ≤ 1000000 := by omega
      clear HS h2
      go_wp2_with (go_at_call 47; refine HG.mono ?_; rintro e w1 ⟨v, rfl, ho, hbl⟩)
      clear HG
      go_loopw [6, 27] (fun v i wr => ∃ j : Nat, j ≤ k ∧ i = .int .i64 j ∧ OwnS wr w.heap.size v (zss.take j).flatten ∧ Below w.heap.size w wr) (fun _ i _ => k - (intOf i).toNat)
      case atStart => exact ⟨0, Nat.zero_le _, rfl, ho, hbl⟩
      case round =>
        clear ho hbl
        obtain ⟨j, hj, rfl, ho, hbl⟩ := hrel
        by_cases hjt : j < k
        · obtain ⟨v8, hck, hsl⟩ := (hp.below hg hbl) j (by omega)
          have hle := flat_leS zss (j + 1)
          have hnx := flat_takeS zss j (by omega)
          rw [hnx, List.length_append] at hle
          have hle' := H2.out
          have HX : Hid ((zss.take (j + 1)).flatten = _) := hnx
          clear hnx
          generalize (zss.take j).flatten = xs at *
          generalize zss.getD j [] = ys at *
          have hbs := hbl.size
          have HB : Hid (Below w.heap.size w wr) := hbl
          have HO : Hid (OwnS wr w.heap.size _ xs) := ho
          have HV : Hid (SlW 1 wr P v8 (ys.map clS)) := hsl
          have HS : Hid (w.heap.size ≤ wr.heap.size) := hbs
          clear hbl ho hsl hbs
          go_wp2_with (at_builtin; refine wp_app_ss rfl _ _ rfl w.heap.size _ xs ys rfl HO.out _ rfl HV.out (by omega) HS.out ?_; intro v' w2 ho2 hg2 hb2)
          go_roundw
          case rel => exact ⟨j + 1, by omega, by go_num, by rw [HX.out]; exact ho2, HB.out.trans hb2⟩
          case measure => simp [intOf]; omega
        · have : j = k := by omega
          subst this
          rw [List.take_of_length_le (by omega)] at ho
          go_wp2
          go_ret
          exact ⟨_, rfl, ho, hbl⟩
/-- What Cond tells. -/
def CP (w : World) (zs : List Str) (r : Except Int (List Str)) (e : Ending) (w' : World) : Prop := Below w.heap.size w w' ∧ match r with
  | .error er => e = .returned (.tuple #[.slice none 0 0, .int .i64 er])
  | .ok f => ∃ v, e = .returned (.tuple #[v, .int .i64 0]) ∧ OwnS w' w.heap.size v (zs ++ f)
set_option maxHeartbeats 8000000 in
theorem condX_any {P : Nat → Nat → Prop} {Q R : Nat → Prop} (v1 : Value) (cs : List ClassD) (cc : List Value) (c : CondD) (v3 : Value) (zs : List Str) (w : World) (h1 : Row 2 (ReK P) w Q v1 cs) (hl : cs.length ≤ 20) (hL : ∀ c ∈ cs, classL c) (hc : ReC P w cc c) (hcL : condL c) (h3 : SlW 1 w R v3 (zs.map clS)) (hz : zs.length ≤ 30) (hzl : ∀ s ∈ zs, s.length ≤ 9223372036854775807) :
    Calls Try.prog 20 #[v1, .agg cc.toArray, v3] w (CP w zs (condR cs zs c)) := by
  generalize hPO : CP w zs (condR cs zs c) = PO
  have HPE : Hid (∀ er w', condR cs zs c = .error er → Below w.heap.size w w' → PO (.returned (.tuple #[.slice none 0 0, .int .i64 er])) w') := fun er w' he hf => by rw [← hPO]; exact ⟨hf, by rw [he]⟩
  have HPO : Hid (∀ f v w', condR cs zs c = .ok f → Below w.heap.size w w' → OwnS w' w.heap.size v (zs ++ f) → PO (.returned (.tuple #[v, .int .i64 0])) w') := fun f v w' he hf ho => by rw [← hPO]; exact ⟨hf, by rw [he]; exact ⟨v, rfl, ho⟩⟩
  clear hPO
  have hcp : ReC (Lo w.heap.size) w cc c := hc.imp lo_pin
  have C28 : Hid (∀ W, Below w.heap.size w W → Calls Try.prog 28 #[v1] W fun e w' => ∃ ab, e = .returned (.map (some ab)) ∧ W.heap.size ≤ ab ∧ AM w' ab w'.heap.size cs ∧ Below W.heap.size W w') := fun W hW => by
    have hk : Row 2 (ReK (Lo w.heap.size)) W (fun b => b < w.heap.size) v1 cs := Row.keep (P := fun _ k => k < w.heap.size) (k := 0) (stK hW) (fun _ _ => ReK.keep (stK hW)) (h1.imp (fun b hb _ => hb) fun _ _ hk => hk.imp lo_pin)
    exact attributes_any v1 cs W hk hl hL
  have C37 : Hid (∀ W ab K b n, Below w.heap.size w W → AM W ab K cs → NS W b n zs → w.heap.size ≤ K → K ≤ b → n ≤ 9000 → Calls Try.prog 37 #[.agg #[.map (some ab), .map (some b)], .agg cc.toArray] W (TP W b (n + 120) zs (condR cs zs c))) := fun W ab K b n hW hA hN hK hKb hn =>
    cond_any K ab b n cs zs cc c W hA hN ((hcp.keep (stK hW)).imp (lo_mono hK)) hKb hn hcL
  have H3 : Hid (SlW 1 w (fun b => b < w.heap.size) v3 (zs.map clS)) := h3.pin
  have HCL : Hid (condL c) := hcL
  obtain ⟨a3, c3, rfl⟩ := h3.shape
  obtain ⟨u, rfl, cssu, hss, -⟩ := hc
  obtain ⟨xa, ya, rfl⟩ := hss.shape
  clear hss h1 h3 hcp
  generalize cssu.length = na at C37 ⊢
  simp only [List.length_map] at H3 ⊢
  have BX : Hid (Below w.heap.size w (w.alloc (.cells #[.bool c.neg, .string (st c.c), .slice xa na ya] 50))) := bxn _ _
  have CK1 := C28.out _ BX.out
  have hmm := @run_makeMap Try.prog
  cases hr : condR cs zs c with
  | error er =>
    have hne : ¬ er = 0 := condR_bad hr
    rw [hr] at C37
    have E : Hid (condR cs zs c = .error er) := hr
    clear hr
    go_enter Try.func20, Try.ntmps20
    go_wp2_with (first
      | (go_at_call 28; refine CK1.mono ?_; rintro e w1 ⟨ab, rfl, hab, hA, hb1⟩
         have B1 : Hid (Below w.heap.size w w1) := bt BX.out hb1
         have s0 : w1.cell? ⟨w.heap.size, 0, none⟩ = some (.bool c.neg) := (hb1.cell (p := ⟨w.heap.size, 0, none⟩) (by simp)).trans (by go_simp)
         have s1 : w1.cell? ⟨w.heap.size, 1, none⟩ = some (.string (st c.c)) := (hb1.cell (p := ⟨w.heap.size, 1, none⟩) (by simp)).trans (by go_simp)
         have s2 : w1.cell? ⟨w.heap.size, 2, none⟩ = some (.slice xa na ya) := (hb1.cell (p := ⟨w.heap.size, 2, none⟩) (by simp)).trans (by go_simp)
         have z1 : w.heap.size < w1.heap.size := (by (have := hb1.size; simp at this; omega))
         have B2 : Hid (Below w1.heap.size w1 ((w1.alloc (.map #[] 0)).alloc (.cells #[.map (some ab), .map (some w1.heap.size)] 88))) := bt (bxn _ _) (bxn _ _)
         have A2 : Hid (AM w1 ab w1.heap.size cs) := hA
         have CA := addAll_any w1.heap.size 0 (.slice a3 zs.length c3) [] zs ((w1.alloc (.map #[] 0)).alloc (.cells #[.map (some ab), .map (some w1.heap.size)] 88)) ((NS.made w1).below (bxn _ _) (by simp)) (slK H3.out (bt B1.out B2.out)) (fun k hk => by omega) (by omega) hzl
         generalize allN [] zs zs.length = an at CA
         clear CK1 hb1 hA)
      | (go_at_call 31; refine CA.mono ?_; rintro e w2 ⟨rfl, hn2, hf2⟩
         have B3 : Hid (Below w1.heap.size w1 w2) := B2.out.grown hf2 (by simp; omega) (by intro k hk; cases hk; exact Nat.le_refl _)
         have N3 : Hid (NS w2 w1.heap.size (0 + zs.length) zs) := hn2.congr (fun s => by rw [foldZ_mem]; simp)
         have t0 := (B3.out.cell (p := ⟨w.heap.size, 0, none⟩) z1).trans s0
         have t1 := (B3.out.cell (p := ⟨w.heap.size, 1, none⟩) z1).trans s1
         have t2 := (B3.out.cell (p := ⟨w.heap.size, 2, none⟩) z1).trans s2
         have t3 : w2.cell? ⟨w1.heap.size + 1, 0, none⟩ = some (.map (some ab)) := hf2.cell (by go_simp) (by simp)
         have t4 : w2.cell? ⟨w1.heap.size + 1, 1, none⟩ = some (.map (some w1.heap.size)) := hf2.cell (by go_simp) (by simp)
         have CT := C37.out w2 ab w1.heap.size w1.heap.size (0 + zs.length) (bt B1.out B3.out) (A2.out.below B3.out) N3.out (by omega) (Nat.le_refl _) (by omega)
         clear CA hn2 hf2)
      | (go_at_call 37; refine CT.mono ?_; rintro e w3 ⟨hf3, rfl⟩; have B4 : Hid (Below w.heap.size w w3) := (bt B1.out B3.out).grown hf3 (by have := B3.out.size; omega) (by intro k hk; cases hk; omega); clear CT hf3))
    exact HPE.out _ _ E.out B4.out
  | ok f =>
    have hfl := condR_len HCL.out hr
    rw [hr] at C37
    have E : Hid (condR cs zs c = .ok f) := hr
    clear hr
    go_enter Try.func20, Try.ntmps20
    go_wp2_with (first
      | (go_at_call 28; refine CK1.mono ?_; rintro e w1 ⟨ab, rfl, hab, hA, hb1⟩
         have B1 : Hid (Below w.heap.size w w1) := bt BX.out hb1
         have s0 : w1.cell? ⟨w.heap.size, 0, none⟩ = some (.bool c.neg) := (hb1.cell (p := ⟨w.heap.size, 0, none⟩) (by simp)).trans (by go_simp)
         have s1 : w1.cell? ⟨w.heap.size, 1, none⟩ = some (.string (st c.c)) := (hb1.cell (p := ⟨w.heap.size, 1, none⟩) (by simp)).trans (by go_simp)
         have s2 : w1.cell? ⟨w.heap.size, 2, none⟩ = some (.slice xa na ya) := (hb1.cell (p := ⟨w.heap.size, 2, none⟩) (by simp)).trans (by go_simp)
         have z1 : w.heap.size < w1.heap.size := (by (have := hb1.size; simp at this; omega))
         have B2 : Hid (Below w1.heap.size w1 ((w1.alloc (.map #[] 0)).alloc (.cells #[.map (some ab), .map (some w1.heap.size)] 88))) := bt (bxn _ _) (bxn _ _)
         have A2 : Hid (AM w1 ab w1.heap.size cs) := hA
         have CA := addAll_any w1.heap.size 0 (.slice a3 zs.length c3) [] zs ((w1.alloc (.map #[] 0)).alloc (.cells #[.map (some ab), .map (some w1.heap.size)] 88)) ((NS.made w1).below (bxn _ _) (by simp)) (slK H3.out (bt B1.out B2.out)) (fun k hk => by omega) (by omega) hzl
         generalize allN [] zs zs.length = an at CA
         clear CK1 hb1 hA)
      | (go_at_call 31; refine CA.mono ?_; rintro e w2 ⟨rfl, hn2, hf2⟩
         have B3 : Hid (Below w1.heap.size w1 w2) := B2.out.grown hf2 (by simp; omega) (by intro k hk; cases hk; exact Nat.le_refl _)
         have N3 : Hid (NS w2 w1.heap.size (0 + zs.length) zs) := hn2.congr (fun s => by rw [foldZ_mem]; simp)
         have t0 := (B3.out.cell (p := ⟨w.heap.size, 0, none⟩) z1).trans s0
         have t1 := (B3.out.cell (p := ⟨w.heap.size, 1, none⟩) z1).trans s1
         have t2 := (B3.out.cell (p := ⟨w.heap.size, 2, none⟩) z1).trans s2
         have t3 : w2.cell? ⟨w1.heap.size + 1, 0, none⟩ = some (.map (some ab)) := hf2.cell (by go_simp) (by simp)
         have t4 : w2.cell? ⟨w1.heap.size + 1, 1, none⟩ = some (.map (some w1.heap.size)) := hf2.cell (by go_simp) (by simp)
         have CT := C37.out w2 ab w1.heap.size w1.heap.size (0 + zs.length) (bt B1.out B3.out) (A2.out.below B3.out) N3.out (by omega) (Nat.le_refl _) (by omega)
         clear CA hn2 hf2)
      | (go_at_call 37; refine CT.mono ?_; rintro e w3 ⟨hf3, v3', rfl, ho3, -⟩; obtain ⟨xf, yf, rfl⟩ := ho3.shape; have B4 : Hid (Below w.heap.size w w3) := (bt B1.out B3.out).grown hf3 (by have := B3.out.size; omega) (by intro k hk; cases hk; omega)
         have P4 : Hid (SlW 1 w3 (fun _ => True) (.slice xf f.length yf) (f.map clS)) := ho3.sl.imp (fun _ _ _ => trivial)
         have Q4 : Hid (SlW 1 w3 (fun _ => True) (.slice a3 zs.length c3) (zs.map clS)) := (slK H3.out B4.out).imp (fun _ _ _ => trivial)
         have CC := concat_any (P := fun _ => True) w3.heap.size 0 2 2 [zs, f] (w3.alloc (.cells #[.slice a3 zs.length c3, .slice xf f.length yf] 39)) rfl (by omega) (fun i hi => by
           match i, hi with
           | 0, _ => exact ⟨_, by go_simp, Q4.out.bl (bxn _ _)⟩
           | 1, _ => exact ⟨_, by go_simp, P4.out.bl (bxn _ _)⟩) (by simp) (by simp; omega)
         clear CT hf3 ho3)
      | (go_at_call 38; refine CC.mono ?_; rintro e w4 ⟨v4, rfl, ho4, hb4⟩; have B5 : Hid (Below w.heap.size w w4) := bt (bt B4.out (bxn _ _)) hb4; have O5 : Hid (OwnS w4 w.heap.size v4 (zs ++ f)) := (by have := ho4.mono (b := w.heap.size) (by have := B4.out.size; simp; omega); simpa [Hid] using this); clear CC ho4 hb4))
    exact HPO.out _ _ _ E.out B5.out O5.out
end Go.Proofs.Ytakibdkmgjpbhaa
