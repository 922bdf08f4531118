import Derived.Test.YtbklnadlbcndlaaGreatM6
import Derived.Deep.QuietTactic
import Derived.BigQuiet
namespace Go.Proofs.YtbklnadlbcndlaaGreat.B
set_option maxRecDepth 20000
open Go.RowKit
set_option maxHeartbeats 400000 in
theorem room_any (a : Option Addr) (n cap : Nat) (w : World) (hn : n ≤ 1000000) :
    Calls Tryz.prog 159 #[.slice a n cap] w fun e w' => e = .returned (.int .i64 ((n : Int) * 8)) ∧ w' = w := by
  have hw : wrap64 ((n : Int) * 8) = (n : Int) * 8 := by unfold wrap64; omega
  go_enter Tryz.func159, Tryz.ntmps159
  go_wp2
  go_ret
  exact ⟨rfl, rfl⟩
set_option maxHeartbeats 400000 in
theorem fits_any (a : Option Addr) (n cap : Nat) (i : Int) (w : World) (hn : n ≤ 1000000) :
    Calls Tryz.prog 181 #[.slice a n cap, .int .i64 i] w fun e w' => e = .returned (.bool (decide (0 ≤ i ∧ i.toNat < 8 * n))) ∧ w' = w := by
  have HR : Hid (Calls Tryz.prog 159 #[.slice a n cap] w fun e w' => e = .returned (.int .i64 ((n : Int) * 8)) ∧ w' = w) := room_any a n cap w hn
  by_cases h0 : 0 ≤ i
  · have hd : decide (0 ≤ i) = true := by simpa using h0
    by_cases h1 : i.toNat < 8 * n
    · have hb : decide (i < (n : Int) * 8) = true := by simp; omega
      have he : decide (0 ≤ i ∧ i.toNat < 8 * n) = true := by simp; omega
      rw [he]
      go_enter Tryz.func181, Tryz.ntmps181
      go_wp2_with (first | (go_at_call 159; refine HR.out.mono ?_; rintro e w' ⟨rfl, hw⟩; obtain rfl := hw.symm) | fail)
      go_ret
      exact ⟨rfl, rfl⟩
    · have hb : decide (i < (n : Int) * 8) = false := by simp; omega
      have he : decide (0 ≤ i ∧ i.toNat < 8 * n) = false := by simp; omega
      rw [he]
      go_enter Tryz.func181, Tryz.ntmps181
      go_wp2_with (first | (go_at_call 159; refine HR.out.mono ?_; rintro e w' ⟨rfl, hw⟩; obtain rfl := hw.symm) | fail)
      go_ret
      exact ⟨rfl, rfl⟩
  · have hd : decide (0 ≤ i) = false := by simpa using h0
    have he : decide (0 ≤ i ∧ i.toNat < 8 * n) = false := by simp; omega
    rw [he]
    go_enter Tryz.func181, Tryz.ntmps181
    go_wp2
    go_ret
    exact ⟨rfl, rfl⟩
def pw (n : Nat) : Nat := 2 ^ (7 - n % 8)
theorem pw_mod (r : Nat) (h : r < 8) : (2 : Int) ^ (7 - r) % 256 = ((2 ^ (7 - r) : Nat) : Int) := by
  have h0 := pw_lt (7 - r) (by omega)
  have e : (2 : Int) ^ (7 - r) = ((2 ^ (7 - r) : Nat) : Int) := by simp
  rw [e]
  generalize 2 ^ (7 - r) = x at *
  omega
set_option maxHeartbeats 400000 in
theorem bit_any (n : Nat) (w : World) :
    Calls Tryz.prog 182 #[.int .i64 (n : Int)] w fun e w' => e = .returned (.int .u8 (pw n : Nat)) ∧ w' = w := by
  unfold pw
  obtain ⟨r, hr, hr8⟩ : ∃ r, n % 8 = r ∧ r < 8 := ⟨_, rfl, by omega⟩
  have hm : ((n : Int) % 8) = (r : Int) := by omega
  rw [hr]
  have hw : ∀ x : Int, -8 ≤ x → x ≤ 8 → wrap64 x = x := fun x h1 h2 => by unfold wrap64; omega
  go_enter Tryz.func182, Tryz.ntmps182
  go_wp2
  go_ret
  exact ⟨congrArg (fun z => Ending.returned (Value.int .u8 z)) (pw_mod r hr8), rfl⟩
theorem BV.at {w : World} {a : Option Addr} {zs : List Int} (h : BV w a zs) (i : Nat) (hi : i < zs.length) : ∃ b off, a = some ⟨b, off, none⟩ ∧ b < w.heap.size ∧ w.cell? ⟨b, off + i, none⟩ = some (.int .u8 (zs.getD i 0)) := by
  obtain ⟨_, h1 | ⟨b, off, rfl, hlt, hc⟩⟩ := h
  · subst h1; simp at hi
  · exact ⟨b, off, rfl, hlt, hc i hi⟩
theorem has_ne (z k : Nat) (hz : z < 256) (hk : k < 8) : (bits .and .u8 (z : Int) ((2 ^ k : Nat) : Int) != 0) = z.testBit k := by
  rw [and_bit z k hz hk]
  have : 0 < 2 ^ k := Nat.two_pow_pos k
  cases z.testBit k
  · rfl
  · simp only [if_true, bne_iff_ne, ne_eq]
    omega
set_option maxHeartbeats 400000 in
theorem has_any (a : Option Addr) (cap : Nat) (zs : List Int) (i : Int) (w : World) (hb : BV w a zs) (hn : zs.length ≤ 1000000) :
    Calls Tryz.prog 160 #[.slice a zs.length cap, .int .i64 i] w fun e w' => e = .returned (.bool (hasI zs i)) ∧ ∃ m, w' = w.drewN m := by
  have HF : Hid (∀ w, Calls Tryz.prog 181 #[.slice a zs.length cap, .int .i64 i] w fun e w' => e = .returned (.bool (decide (0 ≤ i ∧ i.toNat < 8 * zs.length))) ∧ w' = w) := fun w => fits_any a zs.length cap i w hn
  by_cases hf : 0 ≤ i ∧ i.toNat < 8 * zs.length
  · have hd : decide (0 ≤ i ∧ i.toNat < 8 * zs.length) = true := by simpa using hf
    rw [hd] at HF
    obtain ⟨n, rfl⟩ : ∃ n : Nat, i = (n : Int) := ⟨i.toNat, by omega⟩
    have hn8 : n < 8 * zs.length := by omega
    have HB := bit_any n
    obtain ⟨b, off, rfl, hlt, hc⟩ := hb.at (n / 8) (by omega)
    have hz := hb.1.getD (n / 8)
    have hne := has_ne (byt zs n) (7 - n % 8) (byt_lt hb.1 n) (by omega)
    have hby : ((byt zs n : Nat) : Int) = zs.getD (n / 8) 0 := by unfold byt; omega
    rw [hby] at hne
    have HN : (bits .and .u8 (zs.getD (n / 8) 0) ((pw n : Nat) : Int) != 0) = hasI zs n := by
      unfold hasI hasB
      simp only [Int.toNat_natCast]
      rw [← hne]
      simp [pw]
    generalize zs.getD (n / 8) 0 = z at *
    have hq2 : ((n : Int) / 8).toNat = n / 8 := by omega
    have hlq : (n : Int) / 8 < (zs.length : Int) := by omega
    have hlq0 : 0 ≤ (n : Int) / 8 := by omega
    clear hne hby
    go_enter Tryz.func160, Tryz.ntmps160
    go_wp2
    go_quiet (first | (go_at_call 181; exact Calls.quiet_of_same (HF.out _)) | (go_at_call 182; exact Calls.quiet_of_same (HB _)))
    go_wp2
    go_ret
    exact ⟨by rw [← HN]; rfl, _, rfl⟩
  · have hd : decide (0 ≤ i ∧ i.toNat < 8 * zs.length) = false := by simpa using hf
    rw [hd] at HF
    have hh : hasI zs i = false := by
      unfold hasI
      by_cases h0 : 0 ≤ i
      · rw [hasB_out (by omega)]; simp
      · simp [h0]
    rw [hh]
    go_enter Tryz.func160, Tryz.ntmps160
    go_wp2
    go_quiet (first | (go_at_call 181; exact Calls.quiet_of_same (HF.out _)))
    go_wp2
    go_ret
    exact ⟨rfl, _, rfl⟩
theorem BV.drewN {w : World} {a : Option Addr} {zs : List Int} (h : BV w a zs) (m : Nat) : BV (w.drewN m) a zs := h.below (below_drewN (Below.refl _ _) m)
theorem hasI_nat (zs : List Int) (n : Nat) : hasI zs (n : Int) = hasB zs n := by simp [hasI]
set_option maxHeartbeats 800000 in
theorem first_any (a : Option Addr) (cap : Nat) (zs : List Int) (i : Int) (w : World) (hb : BV w a zs) (hn : zs.length ≤ 1000000) (hi : i ≤ 9223372036854775807) :
    Calls Tryz.prog 169 #[.slice a zs.length cap, .int .i64 i] w fun e w' => ∃ (k : Nat) (ok : Bool), e = .returned (.tuple #[.int .i64 (k : Int), .bool ok]) ∧ IsFirst zs i.toNat k ok ∧ ∃ m, w' = w.drewN m := by
  have HH : Hid (∀ (n m : Nat), Calls Tryz.prog 160 #[.slice a zs.length cap, .int .i64 (n : Int)] (w.drewN m) fun e w' => e = .returned (.bool (hasB zs n)) ∧ ∃ k, w' = w.drewN k) := fun n m => by
    have := has_any a cap zs (n : Int) (w.drewN m) (hb.drewN m) hn
    rw [hasI_nat] at this
    refine this.mono ?_
    rintro e w' ⟨rfl, k, rfl⟩
    exact ⟨rfl, m + k, by rw [World.drewN_drewN]⟩
  have HR : Hid (∀ w, Calls Tryz.prog 159 #[.slice a zs.length cap] w fun e w' => e = .returned (.int .i64 ((zs.length : Int) * 8)) ∧ w' = w) := fun w => room_any a zs.length cap w hn
  obtain ⟨f, hf2⟩ : ∃ f, i.toNat = f := ⟨_, rfl⟩
  rw [hf2]
  have hfm : (f : Int) ≤ 9223372036854775807 := by omega
  have Hround : ∀ k : Nat, k < 8 * zs.length - f → decide ((k : Int) < (zs.length : Int) * 8 - f) = true := fun k h => by simp; omega
  have Hstop : ∀ k : Nat, k ≤ 8 * zs.length - f → ¬ k < 8 * zs.length - f → decide ((k : Int) < (zs.length : Int) * 8 - f) = false := fun k h1 h2 => by simp; omega
  have hsum : ∀ k : Nat, k < 8 * zs.length - f → wrap64 ((f : Int) + (k : Int)) = (f : Int) + (k : Int) := fun k h => by unfold wrap64; omega
  have hneg : i < 0 ∧ f = 0 ∨ i = (f : Int) := by omega
  clear hb hi hf2
  rcases hneg with ⟨hneg, rfl⟩ | rfl
  · go_enter Tryz.func169, Tryz.ntmps169
    go_wp2_with (first | (go_at_call 159; refine (HR.out _).mono ?_; rintro e w' ⟨rfl, hw⟩; obtain rfl := hw.symm) | fail)
    go_loopw [13] (fun iv wr => ∃ k m : Nat, k ≤ 8 * zs.length ∧ iv = .int .i64 k ∧ wr = w.drewN m ∧ Hid (∀ j, j < k → hasB zs j = true)) (fun iv _ => 8 * zs.length - (intOf iv).toNat)
    case atStart => exact ⟨0, 0, Nat.zero_le _, rfl, rfl, fun j h2 => by omega⟩
    case round =>
      obtain ⟨k, m, hk, rfl, rfl, HJ⟩ := hrel
      by_cases hlt : k < 8 * zs.length
      · have hd : decide ((k : Int) < (zs.length : Int) * 8) = true := by simp; omega
        have HC := HH.out k m
        have hw0 : wrap64 ((k : Int)) = (k : Int) := by unfold wrap64; omega
        cases hh : hasB zs k
        · rw [hh] at HC
          go_wp2_with (first | (go_at_call 160; refine HC.mono ?_; rintro e w' ⟨rfl, m', rfl⟩) | fail)
          exact bodyPost_ret (v := .tuple #[.int .i64 k, .bool true]) (by simp [results, Tryz.results169, go_sem]) rfl ⟨k, true, rfl, .inl ⟨rfl, by omega, hlt, hh, fun j _ h => HJ.out j h⟩, _, rfl⟩
        · rw [hh] at HC
          go_wp2_with (first | (go_at_call 160; refine HC.mono ?_; rintro e w' ⟨rfl, m', rfl⟩) | fail)
          go_roundw
          case rel => exact ⟨k + 1, m', by omega, by go_num, rfl, fun j hj => by by_cases e : j = k; subst e; exact hh; exact HJ.out j (by omega)⟩
          case measure => simp [intOf]; omega
      · have hd : decide ((k : Int) < (zs.length : Int) * 8) = false := by simp; omega
        go_wp2
        exact bodyPost_ret (v := .tuple #[.int .i64 0, .bool false]) (by simp [results, Tryz.results169, go_sem]) rfl ⟨0, false, rfl, .inr ⟨rfl, rfl, fun j _ h => HJ.out j (by omega)⟩, _, rfl⟩
  · go_enter Tryz.func169, Tryz.ntmps169
    go_wp2_with (first | (go_at_call 159; refine (HR.out _).mono ?_; rintro e w' ⟨rfl, hw⟩; obtain rfl := hw.symm) | fail)
    go_loopw [13] (fun iv wr => ∃ k m : Nat, k ≤ 8 * zs.length - f ∧ iv = .int .i64 k ∧ wr = w.drewN m ∧ Hid (∀ j, f ≤ j → j < f + k → hasB zs j = true)) (fun iv _ => 8 * zs.length - f - (intOf iv).toNat)
    case atStart => exact ⟨0, 0, Nat.zero_le _, rfl, rfl, fun j h1 h2 => by omega⟩
    case round =>
      obtain ⟨k, m, hk, rfl, rfl, HJ⟩ := hrel
      by_cases hlt : k < 8 * zs.length - f
      · have hd := Hround k hlt
        have HC := HH.out (f + k) m
        have hw0 := hsum k hlt
        rw [Int.natCast_add] at HC
        cases hh : hasB zs (f + k)
        · rw [hh] at HC
          go_wp2_with (first | (go_at_call 160; refine HC.mono ?_; rintro e w' ⟨rfl, m', rfl⟩) | fail)
          exact bodyPost_ret (v := .tuple #[.int .i64 ((f : Int) + (k : Int)), .bool true]) (by simp [results, Tryz.results169, go_sem]) rfl ⟨f + k, true, rfl, .inl ⟨rfl, by omega, by omega, hh, fun j h0 h => HJ.out j h0 h⟩, _, rfl⟩
        · rw [hh] at HC
          go_wp2_with (first | (go_at_call 160; refine HC.mono ?_; rintro e w' ⟨rfl, m', rfl⟩) | fail)
          go_roundw
          case rel => exact ⟨k + 1, m', by omega, by go_num, rfl, fun j h0 hj => by by_cases e : j = f + k; subst e; exact hh; exact HJ.out j h0 (by omega)⟩
          case measure => simp [intOf]; omega
      · have hd := Hstop k hk hlt
        go_wp2
        exact bodyPost_ret (v := .tuple #[.int .i64 0, .bool false]) (by simp [results, Tryz.results169, go_sem]) rfl ⟨0, false, rfl, .inr ⟨rfl, rfl, fun j h0 h => HJ.out j h0 (by omega)⟩, _, rfl⟩
end Go.Proofs.YtbklnadlbcndlaaGreat.B
namespace Go.Proofs.YtbklnadlbcndlaaGreat.B
set_option maxRecDepth 20000
open Go.RowKit
theorem Tryz.info3 : (Tryz.prog.info? 3).map (fun i => (i.zero, i.size, i.bytes)) = some (some (.int .i64 0), 1, 8) := by kernel_rfl
def OwnN (w : World) (base : Nat) (v : Value) (l : List Nat) : Prop := w.ownsRow base 3 1 v l.length (l.map fun n : Nat => Value.int .i64 (n : Int))
theorem OwnN.below {w w' : World} {base : Nat} {v : Value} {l : List Nat} (h : OwnN w base v l) (hb : Below w.heap.size w w') : OwnN w' base v l := by
  refine ⟨h.1, ?_⟩
  have hl := World.ownsRow.lt h
  rcases h.2 with hn | ⟨g, cap, cur, rfl, hbb, hg, rest⟩
  · exact .inl hn
  · exact .inr ⟨g, cap, cur, rfl, hbb, (hb.block g (hl g rfl).2).trans hg, rest⟩
theorem heap_last (w : World) (o : Obj) : (w.alloc o).heap[w.heap.size]? = some o := by first | exact heap_alloc_new _ _ | exact heap_alloc_last _ _
theorem wp_appN {ops : Array Oper} {rest : List Oper} {o : Oper} {a : Act} {Q : Exit → Act → World → Prop} {w : World} (hgd : o.guard = none) (s x : Operand)
    (ho : o.op = .call { callee := .builtin .append, args := #[s, x], argTypes := #[52, 52] }) (base : Nat) (lv : Value) (l : List Nat) (n : Nat) (hs : a.eval s = lv) (hown : OwnN w base lv l)
    (g : Nat) (hx : a.eval x = .slice (some ⟨g, 0, none⟩) 1 1) (hg : w.heap[g]? = some (.cells #[.int .i64 (n : Int)] 3 (0, 0))) (hlen : l.length ≤ 10000000) (hbase : base ≤ w.heap.size)
    (h : ∀ lv' w', OwnN w' base lv' (l ++ [n]) → Below base w w' → wpList Tryz.prog ops Q rest (a.put o.dst lv') w') : wpList Tryz.prog ops Q (o :: rest) a w := by
  obtain ⟨i0, hi, hz0, hz1, hz2⟩ := info_parts Tryz.info3
  refine wpList_append_own w hgd s x 52 ho base 3 i0 (.int .i64 0) 1 8 Tryz.underlying52 hi hz0 hz1 hz2 rfl (by decide) lv l.length (l.map fun n : Nat => Value.int .i64 (n : Int)) hs hown ⟨g, 0, none⟩ 1 1 [.int .i64 (n : Int)] hx rfl ?_ (by simp [Value.oneCell']) (by unfold maxLen; omega) (by omega) hbase ?_
  · intro j u hu
    rw [add_plain, Nat.zero_add, cell_of_row _ _ _ _ _ _ hg]
    simpa using hu
  · intro v' w' h1 h2 _
    refine h v' w' ?_ ((Below.refl base w).grown h2 hbase (fun k hk => (World.ownsRow.lt hown k hk).1))
    unfold OwnN
    rw [List.length_append, List.map_append]
    exact h1
end Go.Proofs.YtbklnadlbcndlaaGreat.B
namespace Go.Proofs.YtbklnadlbcndlaaGreat.B
set_option maxRecDepth 20000
open Go.RowKit
def NV (w : World) (a : Option Addr) (l : List Nat) : Prop := l = [] ∨ ∃ b off, a = some ⟨b, off, none⟩ ∧ b < w.heap.size ∧ ∀ i, i < l.length → w.cell? ⟨b, off + i, none⟩ = some (.int .i64 (l.getD i 0 : Nat))
theorem OwnN.view {w : World} {base : Nat} {v : Value} {l : List Nat} (h : OwnN w base v l) : ∃ a cap, v = .slice a l.length cap ∧ NV w a l := by
  have hl := World.ownsRow.lt h
  rcases h.2 with ⟨rfl, hn⟩ | ⟨g, cap, cur, rfl, hb, hg, hnc, hcm, hcs, htake⟩
  · exact ⟨none, 0, by rw [hn], .inl (List.eq_nil_of_length_eq_zero hn)⟩
  · refine ⟨_, cap, rfl, .inr ⟨g, 0, rfl, (hl g rfl).2, ?_⟩⟩
    intro i hi
    have hc := World.ownsRow.cellAt (g := g) h i (by omega)
    rw [Nat.zero_add, hc, List.getElem?_map, List.getElem?_eq_getElem hi, List.getD_eq_getElem?_getD, List.getElem?_eq_getElem hi]
    rfl
end Go.Proofs.YtbklnadlbcndlaaGreat.B
