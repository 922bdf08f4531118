/- The document's disk: Loose. -/
import Derived.Test.YtmapjikbplindaaRefE
namespace Go.Proofs.Ytmapjikbplindaa
open Go.RowKit Go.Maps
set_option maxRecDepth 20000

theorem Try.info3 : (Try.prog.info? 3).map (fun i => (i.zero, i.size, i.bytes)) = some (some (.int .i64 0), 1, 8) := by kernel_rfl
theorem wp_appN {ops : Array Oper} {rest : List Oper} {o : Oper} {a : Act} {Q : Exit → Act → World → Prop} {w : World} (hgd : o.guard = none) (s x : Operand)
    (ho : o.op = .call { callee := .builtin .append, args := #[s, x], argTypes := #[46, 46] }) (base : Nat) (lv : Value) (l : List Nat) (n : Nat) (hs : a.eval s = lv) (hown : OwnN w base lv l)
    (g : Nat) (hx : a.eval x = .slice (some ⟨g, 0, none⟩) 1 1) (hg : w.heap[g]? = some (.cells #[.int .i64 (n : Int)] 3 (0, 0))) (hlen : l.length ≤ 1000000) (hbase : base ≤ w.heap.size)
    (h : ∀ lv' w', OwnN w' base lv' (l ++ [n]) → Below base w w' → wpList Try.prog ops Q rest (a.put o.dst lv') w') : wpList Try.prog ops Q (o :: rest) a w := by
  obtain ⟨i0, hi, hz0, hz1, hz2⟩ := info_parts Try.info3
  refine wpList_append_own w hgd s x 46 ho base 3 i0 (.int .i64 0) 1 8 Try.underlying46 hi hz0 hz1 hz2 rfl (by decide) lv l.length (l.map fun n : Nat => Value.int .i64 (n : Int)) hs hown ⟨g, 0, none⟩ 1 1 [.int .i64 (n : Int)] hx rfl ?_ (by simp [Value.oneCell']) (by unfold maxLen; omega) (by omega) hbase ?_
  · intro j u hu
    rw [add_plain, Nat.zero_add, cell_of_row _ _ _ _ _ _ hg]
    simpa using hu
  · intro v' w' h1 h2 _
    refine h v' w' ?_ ((Below.refl base w).grown h2 hbase (fun k hk => (World.ownsRow.lt hown k hk).1))
    unfold OwnN
    rw [List.length_append, List.map_append]
    exact h1
theorem loose_eq {s : DS} {ns : List Nat} (h2 : ns.Pairwise (· < ·)) (h3 : ∀ n ∈ ns, n < s.room) (h4 : ∀ n, n < s.room → n ∉ ns → s.L n = false) : ns.filter s.L = loose s := by
  refine List.Perm.eq_of_pairwise (le := (· < ·)) (fun a b _ _ h1 h2 => by omega) (h2.filter _) (List.pairwise_lt_range.filter _) ?_
  refine (List.perm_ext_iff_of_nodup ((h2.filter _).imp (fun h => Nat.ne_of_lt h)) ((List.nodup_range).filter _)).2 ?_
  intro n
  simp only [List.mem_filter, List.mem_range]
  constructor
  · rintro ⟨q1, q2⟩; exact ⟨h3 n q1, q2⟩
  · rintro ⟨q1, q2⟩
    refine ⟨?_, q2⟩
    by_cases hm : n ∈ ns
    · exact hm
    · rw [h4 n q1 hm] at q2; cases q2

theorem own_mono {w : World} {b1 b2 : Nat} {v : Value} {l : List Nat} (h : OwnN w b1 v l) (hb : b2 ≤ b1) : OwnN w b2 v l := by
  refine ⟨h.1, ?_⟩
  rcases h.2 with hn | ⟨g, cap, cur, e, h1, rest⟩
  · exact .inl hn
  · exact .inr ⟨g, cap, cur, e, Nat.le_trans hb h1, rest⟩
theorem filter_take (ns : List Nat) (L : Nat → Bool) (k : Nat) (h : k < ns.length) : (ns.take (k + 1)).filter L = (ns.take k).filter L ++ (if L (ns.getD k 0) = true then [ns.getD k 0] else []) := by
  have e : ns.getD k 0 = ns[k] := by simp [List.getD_eq_getElem?_getD, h]
  rw [List.take_add_one, List.getElem?_eq_getElem h, List.filter_append, e]
  simp [List.filter_cons]
set_option maxHeartbeats 1600000 in
theorem rloose_any (X : List Nat) (v : Value) (s : DS) (w : World) (h : Rf w X v s) :
    Calls Try.prog 31 #[v] w fun e w' => ∃ v', e = .returned v' ∧ OwnN w' w.heap.size v' (loose s) ∧ Below w.heap.size w w' := by
  obtain ⟨ok, lv, done, ns, rfl, h1, h2, h3, h4, h5, h6⟩ := h
  have hlen := pw_len h2 h3
  have hroom := ok.room
  have HL : Hid (ns.filter s.L = loose s) := loose_eq h2 h3 (fun n hn hm => (h4 n hn hm).2.2)
  obtain ⟨a, cap, rfl, hcap, hcm, hcell⟩ := rf_cells h5
  have HC : Hid (∀ i, i < ns.length → ∃ g, a = some ⟨g, 0, none⟩ ∧ g < w.heap.size ∧ w.cell? ⟨g, i * 4, none⟩ = some (.int .i64 (ns.getD i 0 : Nat)) ∧ w.cell? ⟨g, i * 4 + 1, none⟩ = some (.string (strOfNums (s.B (ns.getD i 0)))) ∧ w.cell? ⟨g, i * 4 + 2, none⟩ = some (.string (strOfNums (s.S (ns.getD i 0)))) ∧ w.cell? ⟨g, i * 4 + 3, none⟩ = some (.bool (s.L (ns.getD i 0)))) := hcell
  clear hcell h1 h2 h3 h4 h5 h6 ok
  generalize hN : ns.length = N at *
  have HLN : Hid (ns.length = N) := hN
  clear hN
  obtain ⟨W, hW⟩ : ∃ W, W = w.alloc (.cells #[.int .i64 s.room, .slice a N cap, .bool s.down, .int .i64 s.ops, .int .i64 s.reads, .int .i64 s.fails, .bool done] 28) := ⟨_, rfl⟩
  have hBW : Below w.heap.size w W := by rw [hW]; exact (Below.refl _ _).alloc (Nat.le_refl _) _
  have cW : ∀ (W' : World), Below (w.heap.size + 1) W W' → W'.cell? ⟨w.heap.size, 1, none⟩ = some (.slice a N cap) := by
    intro W' hb
    rw [hb.cell (p := ⟨w.heap.size, 1, none⟩) (by simp), hW]
    go_simp
  have hWs : W.heap.size = w.heap.size + 1 := by rw [hW]; simp
  go_enter Try.func31, Try.ntmps31
  go_wp2
  rw [← hW]
  go_loopw [3, 4] (fun lv iv wr => ∃ k : Nat, k ≤ N ∧ iv = .int .i64 k ∧ Hid (OwnN wr (w.heap.size + 1) lv ((ns.take k).filter s.L)) ∧ Hid (Below (w.heap.size + 1) W wr)) (fun _ iv _ => N - (intOf iv).toNat)
  case atStart => exact ⟨0, Nat.zero_le _, rfl, World.ownsRow_nil _ _ _ _, Below.refl _ _⟩
  case round =>
    obtain ⟨k, hk, rfl, HB, HW⟩ := hrel
    have l1 := cW wr HW.out
    by_cases hlt : k < N
    · obtain ⟨g, rfl, hgs, c0, c1, c2, c3⟩ := HC.out k hlt
      have hBr : Below w.heap.size w wr := hBW.trans (HW.out.mono (by omega))
      have d0 := (hBr.cell (p := ⟨g, k * 4, none⟩) hgs).trans c0
      have d3 := (hBr.cell (p := ⟨g, k * 4 + 3, none⟩) hgs).trans c3
      have HT : Hid ((ns.take (k + 1)).filter s.L = (ns.take k).filter s.L ++ (if s.L (ns.getD k 0) = true then [ns.getD k 0] else [])) := filter_take ns s.L k (by have := HLN.out; omega)
      have HLE : Hid (((ns.take k).filter s.L).length ≤ 1000000) := by
        have e := List.length_filter_le s.L (ns.take k)
        have : ((ns.take k).filter s.L).length ≤ 1000000 := by simp only [List.length_take] at e; omega
        exact this
      have hws : w.heap.size + 1 ≤ wr.heap.size := by have := HW.out.size; omega
      clear c0 c1 c2 c3 hBr HC hW cW
      generalize ns.getD k 0 = m at *
      cases hm : s.L m
      · rw [hm] at d3
        rw [hm] at HT
        simp only [Bool.false_eq_true, if_false, List.append_nil] at HT
        go_wp2
        go_roundw
        case rel => exact ⟨k + 1, by omega, by go_num, by rw [HT.out]; exact HB.out, HW.out⟩
        case measure => simp [intOf]; omega
      · rw [hm] at d3
        rw [hm] at HT
        simp only [if_true] at HT
        go_wp2_with (first
          | (at_builtin; refine wp_appN rfl _ _ rfl (w.heap.size + 1) _ ((ns.take k).filter s.L) m rfl (HB.out.off (Off.of_below (X := []) ((Below.refl _ _).alloc (Nat.le_refl _) _)) (by simp)) _ rfl (heap_alloc_last _ _) HLE.out (by simp <;> omega) ?_; intro lv' w2 hB2 hb2)
          | fail)
        go_roundw
        case rel => exact ⟨k + 1, by omega, by go_num, by rw [HT.out]; exact hB2, HW.out.trans (((Below.refl _ _).alloc hws _).trans hb2)⟩
        case measure => simp [intOf]; omega
    · have e : k = N := by omega
      subst e
      have hb := HB.out
      rw [List.take_of_length_le (by have := HLN.out; omega), HL.out] at hb
      have HBB : Hid (OwnN wr (w.heap.size + 1) _ (loose s)) := hb
      have HBW : Hid (Below w.heap.size w wr) := hBW.trans (HW.out.mono (by omega))
      clear hb HB HC HLN hW cW hBW HL
      go_wp2
      go_ret
      exact ⟨_, rfl, own_mono HBB.out (by omega), HBW.out⟩
end Go.Proofs.Ytmapjikbplindaa
