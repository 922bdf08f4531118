/- For any two rows of bytes the call SumLinear of the statements returns true and its arguments read as they did: no condition. -/
import Derived.Test.YtekhjljlhoeknaaAwake
import Derived.Deep.RegionHeld3
import Derived.OneCell
import Derived.Deep.DeepCutAuto
import Derived.Test.YtekhjljlhoeknaaRows
import Derived.WalkKit
import Derived.ProofKit
import Derived.OpenShut
import Derived.ShutString
import Derived.ChangeOld
import Derived.Below
namespace Go.Proofs.Ytekhjljlhoeknaa.sumLinear
open Go.ChangeShapes Go.WideShapes Go.ChangeAt Go.RowKit
open Go.ChangeMaps (open_string shut_string)
set_option linter.unusedVariables false

theorem own : ownKnob Try.prog.godebug = none := by kernel_rfl
theorem laidOut : laidOutB Try.prog = true := by kernel_rfl

/-- WHAT THE WALK IS TOLD OF A SLICE OF INTEGERS THAT CAME IN: it is nil; or it leads to a row of 'cap' cells, the numbers 'zs' (the first 'len' are its elements, the rest its spare room), each fitting its kind. -/
def IsRow (k : IntKind) (w : World) (a : Option Addr) (len cap : Nat) (zs : List Int) : Prop :=
  (a = none ∧ len = 0 ∧ cap = 0 ∧ zs = []) ∨
  ∃ x, a = some x ∧ len ≤ cap ∧ cap ≤ maxLen ∧ zs.length = cap ∧ (∀ i, i < zs.length → w.cell? (x.add i) = some (.int k (zs.getD i 0))) ∧ ∀ n ∈ zs, (Lit.int k n).wf = true

theorem row_bytes {w : World} {a : Option Addr} {len cap : Nat} {zs : List Int} (h : IsRow .u8 w a len cap zs) :
    ∃ ys : List Int, ys.length = len ∧ BV w a ys ∧ (a = none → cap = 0) ∧ len ≤ cap ∧ len ≤ 9223372036854775807 := by
  rcases h with ⟨rfl, rfl, rfl, rfl⟩ | ⟨x, rfl, hl, hm, hz, hcell, hwz⟩
  · exact ⟨[], rfl, ⟨AllB.nil, .inl rfl⟩, fun _ => rfl, Nat.le_refl _, by decide⟩
  · refine ⟨zs.take len, by simp; omega, ⟨?_, ?_⟩, (fun h => by cases h), hl, by unfold maxLen at hm; omega⟩
    · intro z hz'
      have := bounds_u8 (hwz z (List.mem_of_mem_take hz'))
      omega
    · by_cases h0 : len = 0
      · left; simp [h0]
      · right
        obtain ⟨b, off, spot⟩ := x
        have hc := hcell 0 (by omega)
        have hspot : spot = none := by simpa [Addr.add] using World.cell?_spot hc
        subst hspot
        refine ⟨b, off, rfl, ?_, ?_⟩
        · have := World.block_lt_of_cell? _ _ hc
          simpa [Addr.add] using this
        · intro i hi
          rw [List.length_take] at hi
          have := hcell i (by omega)
          rw [add_plain] at this
          rw [this, List.getD_eq_getElem?_getD, List.getD_eq_getElem?_getD, List.getElem?_take, if_pos (by omega)]

theorem ofc (W : World) (g : Nat) (a : Option Addr) (len cap : Nat) (zs : List Int) (hl : zs.length = len) (hb : BV W a zs) (hn : a = none → cap = 0) (hm : len ≤ 500) (hc : W.cell? ⟨g, 0, none⟩ = some (.slice a len cap)) :
    Calls Try.prog 10 #[.slice (some ⟨g, 0, none⟩) 1 1] W fun e w' => e = .returned (.int .u32 (more 0 zs)) ∧ w' = W := by
  subst hl
  refine of_any g 0 1 1 [zs] W rfl (by decide) ?_
  intro i hi
  obtain rfl : i = 0 := by simpa using hi
  exact ⟨a, cap, hc, hn, hb, by show zs.length ≤ _; omega⟩
set_option linter.unusedSimpArgs false
theorem cell_new {w : World} {v : Value} {g : Nat} (hg : g = w.heap.size) : (w.alloc (.cells #[v] 22)).cell? ⟨g, 0, none⟩ = some v := by
  rw [World.cell?_alloc_at _ _ _ _ hg]; rfl
theorem cell_step {w : World} {o : Obj} {v : Value} {g : Nat} (h : w.cell? ⟨g, 0, none⟩ = some v) : (w.alloc o).cell? ⟨g, 0, none⟩ = some v := by
  rw [World.cell?_alloc_lt _ _ _ (World.block_lt_of_cell? w _ h)]; exact h
theorem name_ops {P : Program} {id : Nat} {ops : Array Oper} {Q : Exit → Act → World → Prop} {a : Act} {w : World} (h : ∀ (O : Array Oper) (QQ : Exit → Act → World → Prop), Hid (O = ops) → Hid (QQ = Q) → (Code.region id O true).wp P QQ a w) : (Code.region id ops true).wp P Q a w := h _ _ rfl rfl
theorem bvdrew {w : World} {a : Option Addr} {zs : List Int} (h : BV w a zs) : BV w.drew a zs := h.below ((Below.refl _ _).drew)
theorem balloc {w w' : World} (h : Below w.heap.size w w') (o : Obj) : Below w.heap.size w (w'.alloc o) := h.alloc h.size _
theorem awk (w wx : World) (hx : Below w.heap.size w wx) : Calls Try.prog 8 #[] wx fun e w' => e = .returned (.bool true) ∧ Below w.heap.size w w' := by
  refine (awake_any wx).mono ?_
  rintro e w' ⟨rfl, hb⟩
  exact ⟨rfl, hx.trans (hb.mono hx.size)⟩
set_option maxHeartbeats 800000 in
theorem walk_long (a a' : Option Addr) (len cap len' cap' n : Nat) (w : World) (hmin : (if len' < len then (len' : Int) else (len : Int)) = n) (h : 500 < n) :
    Calls Try.prog 7 #[.slice a len cap, .slice a' len' cap'] w fun e w' => e = .returned (.bool true) ∧ Below w.heap.size w w' := by
  have HA := awake_any w
  go_enter Try.func7, Try.ntmps7
  go_wp2_with (go_at_call 8; refine HA.mono ?_; rintro e w1 ⟨rfl, hb⟩; clear HA)
  go_ret
  exact ⟨rfl, hb⟩
def mix (n : Nat) (xs : List Int) (k : Nat) : List Value := (xs.take k).map (Value.int .u8) ++ List.replicate (n - k) (Value.int .u8 0)
theorem mix_zero (n : Nat) (xs : List Int) : mix n xs 0 = List.replicate n (Value.int .u8 0) := by simp [mix]
theorem mix_full (n : Nat) (xs : List Int) (h : xs.length = n) : mix n xs n = xs.map (Value.int .u8) := by simp [mix, List.take_of_length_le (Nat.le_of_eq h)]
theorem mix_set (n : Nat) (xs : List Int) (h : xs.length = n) (k : Nat) (hk : k < n) : (mix n xs k).set k (.int .u8 (xs.getD k 0)) = mix n xs (k + 1) := by
  unfold mix
  obtain ⟨d, rfl⟩ := Nat.exists_eq_add_of_lt hk
  have e1 : k + d + 1 - k = d + 1 := by omega
  have e3 : k + d + 1 - (k + 1) = d := by omega
  rw [e1, e3, take_snoc xs k (by omega), List.replicate_succ, List.set_append_right _ _ (by simp; omega)]
  have e4 : k - ((xs.take k).map (Value.int .u8)).length = 0 := by simp; omega
  rw [e4]
  simp
def xorL (zs ys : List Int) : List Int := List.zipWith (fun z y => ((z.toNat ^^^ y.toNat : Nat) : Int)) zs ys
theorem xorL_getD (zs ys : List Int) (k : Nat) (h : k < zs.length) (h' : k < ys.length) : (xorL zs ys).getD k 0 = (((zs.getD k 0).toNat ^^^ (ys.getD k 0).toNat : Nat) : Int) := by
  unfold xorL
  rw [List.getD_eq_getElem?_getD, List.getElem?_eq_getElem (by simp; omega), List.getElem_zipWith, List.getD_eq_getElem?_getD, List.getElem?_eq_getElem h, List.getD_eq_getElem?_getD, List.getElem?_eq_getElem h']
  rfl
theorem xorL_all {zs ys : List Int} (hz : AllB zs) (hy : AllB ys) : AllB (xorL zs ys) := by
  intro z hm
  obtain ⟨k, hk, rfl⟩ := List.mem_iff_getElem.1 hm
  have hl : k < zs.length ∧ k < ys.length := by simp [xorL] at hk; omega
  have e := xorL_getD zs ys k hl.1 hl.2
  rw [List.getD_eq_getElem?_getD, List.getElem?_eq_getElem hk] at e
  have h1 := hz.getD k
  have h2 := hy.getD k
  have h := Nat.xor_lt_two_pow (n := 8) (show (zs.getD k 0).toNat < 2 ^ 8 by omega) (show (ys.getD k 0).toNat < 2 ^ 8 by omega)
  simp only [Option.getD_some] at e
  omega
theorem u8_x (z y : Int) (h0 : 0 ≤ z) (h1 : z ≤ 255) (h2 : 0 ≤ y) (h3 : y ≤ 255) : bits .xor .u8 z y = ((z.toNat ^^^ y.toNat : Nat) : Int) := u8_xor z y h0 (by omega) h2 (by omega)
theorem u32_x (a b c : Nat) (ha : a < 4294967296) (hb : b < 4294967296) (hc : c < 4294967296) : bits .xor .u32 (bits .xor .u32 (a : Int) (b : Int)) (c : Int) = ((a ^^^ b ^^^ c : Nat) : Int) := by
  rw [u32_xor_nat a b ha hb, u32_xor_nat _ c (xor_lt ha hb) hc]
theorem two_new1 (w : World) (o : Obj) : ((w.alloc o).alloc o).drew.heap[w.heap.size]? = some o := by
  show ((w.alloc o).alloc o).heap[w.heap.size]? = _
  rw [Below.heap_alloc _ _ _ (by simp), heap_alloc_new]
theorem two_new2 (w : World) (o : Obj) : ((w.alloc o).alloc o).drew.heap[w.heap.size + 1]? = some o := by
  show ((w.alloc o).alloc o).heap[w.heap.size + 1]? = _
  have h := heap_alloc_new (w.alloc o) o
  rwa [World.size_alloc] at h
theorem row_new {w : World} {g n : Nat} {Z : Array Value} (hg : w.heap[g]? = some (.cells Z 5)) (base : Nat) (hb : base ≤ g) (hn : n ≤ 500) (hZ : Z.toList = List.replicate n (Value.int .u8 0)) :
    w.ownsRow base 5 1 (.slice (some ⟨g, 0, none⟩) n n) n (List.replicate n (Value.int .u8 0)) := by
  have hs : Z.size = n := by rw [← Array.length_toList, hZ, List.length_replicate]
  refine ⟨by simp, .inr ⟨g, n, Z, rfl, hb, hg, Nat.le_refl _, by unfold maxLen; omega, by omega, ?_⟩⟩
  rw [hZ, Nat.mul_one, List.take_of_length_le (by simp)]
set_option maxHeartbeats 20000000 in
theorem walk_short (a a' : Option Addr) (len cap len' cap' n : Nat) (zs ys : List Int) (w : World) (hmin : (if len' < len then (len' : Int) else (len : Int)) = n) (hn : n ≤ 500)
    (hl : zs.length = len) (hl' : ys.length = len') (hbv : BV w a zs) (hbv' : BV w a' ys) (hna : a = none → cap = 0) (hna' : a' = none → cap' = 0) (hlc : len ≤ cap) (hlc' : len' ≤ cap') :
    Calls Try.prog 7 #[.slice a len cap, .slice a' len' cap'] w fun e w' => e = .returned (.bool true) ∧ Below w.heap.size w w' := by
  obtain ⟨i0, hi, hz0, hz1, hz2⟩ := info_parts Try.info5
  obtain ⟨Z, hZ, hmk⟩ : ∃ Z : Array Value, Z.toList = List.replicate n (Value.int .u8 0) ∧ ∀ wx : World, (Instr.makeSlice 22 (.int .i64 (n : Int)) (.int .i64 (n : Int))).run Try.prog wx = .ok (.slice (some ⟨wx.heap.size, 0, none⟩) n n) (wx.alloc (.cells Z 5)) := by
    refine ⟨madeCells (Value.int .u8 0).cells (n * 1), by rw [Nat.mul_one]; exact toList_madeCells_one (.int .u8 0) n, fun wx => ?_⟩
    have := run_make (P := Try.prog) wx 22 5 i0 (.int .u8 0) Try.underlying22 hi hz0 .i64 .i64 (n : Int) (n : Int) (by omega) (by omega) (by rw [hz2]; omega) (by omega)
    rw [hz1] at this
    exact this
  have HZ : Hid (Z.toList = List.replicate n (Value.int .u8 0)) := hZ
  clear hZ hz0 hz1 hz2 hi
  have hnl : n ≤ len ∧ n ≤ len' := by split at hmin <;> omega
  have lz : (zs.take n).length = n := by simp; omega
  have ly : (ys.take n).length = n := by simp; omega
  obtain ⟨xs, hxs, hxl, hxa, hxg⟩ : ∃ xs : List Int, more 0 xs = more 0 (zs.take n) ^^^ more 0 (ys.take n) ^^^ more 0 (List.replicate n 0) ∧ xs.length = n ∧ AllB xs ∧ ∀ k, k < n → xs.getD k 0 = (((zs.getD k 0).toNat ^^^ (ys.getD k 0).toNat : Nat) : Int) := by
    have g : ∀ k, k < n → (xorL (zs.take n) (ys.take n)).getD k 0 = (((zs.getD k 0).toNat ^^^ (ys.getD k 0).toNat : Nat) : Int) := by
      intro k hk
      rw [xorL_getD _ _ k (by omega) (by omega), getD_take _ _ _ hk, getD_take _ _ _ hk]
    have l : (xorL (zs.take n) (ys.take n)).length = n := by simp [xorL]; omega
    refine ⟨xorL (zs.take n) (ys.take n), ?_, l, xorL_all (hbv.1.take n) (hbv'.1.take n), g⟩
    refine more_xor n _ _ _ lz ly l fun i hi => ?_
    rw [g i hi, getD_take _ _ _ hi, getD_take _ _ _ hi]
    exact Int.toNat_natCast _
  have m1 := more_lt (show 0 < 4294967296 by decide) (hbv.1.take n)
  have m2 := more_lt (show 0 < 4294967296 by decide) (hbv'.1.take n)
  have m3 : more 0 (List.replicate n 0) < 4294967296 := more_lt (show 0 < 4294967296 by decide) (by intro z hz; rw [List.eq_of_mem_replicate hz]; decide)
  have hX := u32_x _ _ _ m1 m2 m3
  rw [← hxs] at hX
  have HL : Hid (zs.length = len ∧ ys.length = len') := ⟨hl, hl'⟩
  have HX : Hid (xs.length = n ∧ AllB xs ∧ ∀ k, k < n → xs.getD k 0 = (((zs.getD k 0).toNat ^^^ (ys.getD k 0).toNat : Nat) : Int)) := ⟨hxl, hxa, hxg⟩
  have HB : Hid (BV w a zs ∧ BV w a' ys) := ⟨hbv, hbv'⟩
  have HT : Hid ((zs.take n).length = n ∧ (ys.take n).length = n) := ⟨lz, ly⟩
  clear hl hl' hbv hbv' hxl hxa hxg hxs m1 m2 m3 lz ly
  go_enter Try.func7, Try.ntmps7
  go_upto_region 4 with fail
  go_cut [6, 7] (fun x z wx => ∃ gx gz : Nat, x = .slice (some ⟨gx, 0, none⟩) n n ∧ z = .slice (some ⟨gz, 0, none⟩) n n ∧ gz ≠ gx ∧ w.heap.size ≤ gx ∧ w.heap.size ≤ gz ∧ wx.heap[gx]? = some (.cells Z 5) ∧ wx.heap[gz]? = some (.cells Z 5) ∧ Below w.heap.size w wx)
  case first =>
    have bW : Hid (Below w.heap.size w ((w.alloc (.cells Z 5)).alloc (.cells Z 5)).drew) := (((Below.refl _ _).alloc (Nat.le_refl _) _).alloc (by simp) _).drew
    go_region_held3 (fun _ => True) (trivial) (fail)
    · go_wp2
      go_meet
      exact ⟨_, _, rfl, rfl, by omega, by omega, by omega, two_new1 w _, two_new2 w _, bW.out⟩
    · go_wp2
      go_meet
      exact ⟨_, _, rfl, rfl, by omega, by omega, by omega, two_new2 w _, two_new1 w _, bW.out⟩
  case rest =>
    obtain ⟨gx, gz, rfl, rfl, hxz, hx0, hz0, hhx, hhz, bW⟩ := hcut
    have ox : wc.ownsRow w.heap.size 5 1 (.slice (some ⟨gx, 0, none⟩) n n) n (mix n xs 0) := by
      rw [mix_zero]
      exact row_new hhx _ hx0 hn HZ.out
    have oz := row_new hhz _ hz0 hn HZ.out
    clear hhx hhz hmk HZ hz0
    go_wp2_with fail
    go_loopw [8] (fun i wr => ∃ k : Nat, k ≤ n ∧ i = .int .i64 k ∧ wr.ownsRow w.heap.size 5 1 (.slice (some ⟨gx, 0, none⟩) n n) n (mix n xs k) ∧ wr.ownsRow w.heap.size 5 1 (.slice (some ⟨gz, 0, none⟩) n n) n (List.replicate n (.int .u8 0)) ∧ Below w.heap.size w wr) (fun i _ => n - (intOf i).toNat)
    case atStart => exact ⟨0, Nat.zero_le _, rfl, ox, oz, bW⟩
    case round =>
      clear ox oz bW
      obtain ⟨k, hk, rfl, ox, oz, bW⟩ := hrel
      by_cases hlt : k < n
      · obtain ⟨⟨hza, hb1⟩, ⟨hya, hb2⟩⟩ := HB.out
        have hL1 := HL.out.1
        have hL2 := HL.out.2
        have hkz : k < zs.length := by omega
        have hky : k < ys.length := by omega
        rcases hb1 with h0 | ⟨b, off, rfl, hbl, hc1⟩
        · rw [h0] at hkz; simp at hkz
        · rcases hb2 with h0 | ⟨b', off', rfl, hbl', hc2⟩
          · rw [h0] at hky; simp at hky
          · have SL : Hid (∀ w', Below w.heap.size w w' → Below w.heap.size w w' ∧ w'.cell? ⟨b, off + k, none⟩ = some (.int .u8 (zs.getD k 0)) ∧ w'.cell? ⟨b', off' + k, none⟩ = some (.int .u8 (ys.getD k 0))) := fun w' hw' => ⟨hw', (hw'.cell (p := ⟨b, off + k, none⟩) hbl).trans (hc1 k hkz), (hw'.cell (p := ⟨b', off' + k, none⟩) hbl').trans (hc2 k hky)⟩
            have hq1 := hza.getD k
            have hq2 := hya.getD k
            have hXX := u8_x _ _ hq1.1 hq1.2 hq2.1 hq2.2
            rw [← HX.out.2.2 k hlt] at hXX
            have hfz := ox.frozenAt k
            obtain ⟨u, hu⟩ : ∃ u, wr.cell? ⟨gx, k, none⟩ = some u := by
              rw [ox.cellAt k (by omega)]
              have : k < (mix n xs k).length := by rw [ox.1]; omega
              exact ⟨_, List.getElem?_eq_getElem this⟩
            have hst := (ox.stored k (.int .u8 (xs.getD k 0))).1
            rw [mix_set n xs HX.out.1 k hlt] at hst
            have HO : Hid ((wr.setCell ⟨gx, k, none⟩ (.int .u8 (xs.getD k 0))).ownsRow w.heap.size 5 1 (.slice (some ⟨gx, 0, none⟩) n n) n (mix n xs (k + 1))) := hst
            have HOZ : Hid ((wr.setCell ⟨gx, k, none⟩ (.int .u8 (xs.getD k 0))).ownsRow w.heap.size 5 1 (.slice (some ⟨gz, 0, none⟩) n n) n (List.replicate n (.int .u8 0))) := ownsRow_setCell_other oz (by intro h; exact hxz (Option.some.inj h)) _
            have HBL : Hid (Below w.heap.size w wr) := bW
            clear hc1 hc2 hza hya hkz hky hL1 hL2 hst ox oz bW
            generalize zs.getD k 0 = z at *
            generalize ys.getD k 0 = y at *
            generalize xs.getD k 0 = xk at *
            have j1 : (0 : Int) ≤ (k : Int) := by omega
            have j2 : (k : Int) < (len : Int) := by omega
            have j3 : (k : Int) < (len' : Int) := by omega
            have j4 : (k : Int) < (n : Int) := by omega
            go_wp2_with fail
            go_region_held3 (fun w' => Below w.heap.size w w' ∧ w'.cell? ⟨b, off + k, none⟩ = some (.int .u8 z) ∧ w'.cell? ⟨b', off' + k, none⟩ = some (.int .u8 y)) (first | exact SL.out _ HBL.out.drew | exact SL.out _ (HBL.out.setCell hx0 _).drew | exact SL.out _ (HBL.out.drew.setCell hx0 _)) (fail)
            go_wp2
            go_roundw
            case rel => exact ⟨k + 1, by omega, by go_num, HO.out, HOZ.out, (HBL.out.setCell hx0 _).drew⟩
            case measure => simp [intOf]; omega
      · have hkn : k = n := by omega
        subst hkn
        rw [mix_full _ _ HX.out.1] at ox
        have b1 : BV wr (some ⟨gx, 0, none⟩) xs := by
          have h : Own wr w.heap.size (.slice (some ⟨gx, 0, none⟩) k k) xs := by unfold Own; rw [HX.out.1]; exact ox
          exact h.bv HX.out.2.1
        have b4 : BV wr (some ⟨gz, 0, none⟩) (List.replicate k 0) := by
          have h : Own wr w.heap.size (.slice (some ⟨gz, 0, none⟩) k k) (List.replicate k 0) := by unfold Own; rw [List.length_replicate, List.map_replicate]; exact oz
          exact h.bv (by intro z hz; rw [List.eq_of_mem_replicate hz]; decide)
        have b2 := (HB.out.1.below bW).take k
        have b3 := (HB.out.2.below bW).take k
        have c1 := fun W g hb hc => ofc W g (some ⟨gx, 0, none⟩) k k xs HX.out.1 hb (by intro h; cases h) hn hc
        have c2 := fun W g hb hc => ofc W g a k cap (zs.take k) HT.out.1 hb hna hn hc
        have c3 := fun W g hb hc => ofc W g a' k cap' (ys.take k) HT.out.2 hb hna' hn hc
        have c4 := fun W g hb hc => ofc W g (some ⟨gz, 0, none⟩) k k (List.replicate k 0) (by simp) hb (by intro h; cases h) hn hc
        have HBL : Hid (Below w.heap.size w wr) := bW
        have j1 : (0 : Int) ≤ (k : Int) := by omega
        have j2 : (k : Int) ≤ (cap : Int) := by omega
        have j3 : (k : Int) ≤ (cap' : Int) := by omega
        clear ox oz bW HB HT HX
        generalize more 0 xs = M1 at *
        generalize more 0 (zs.take k) = M2 at *
        generalize more 0 (ys.take k) = M3 at *
        generalize more 0 (List.replicate k 0) = M4 at *
        go_wp2_with fail
        refine wp_region_noPanic ?_
        refine name_ops ?_
        intro O QQ HO HQ
        have k4_1234 : ∀ (g1 : Nat) (g2 : Nat) (g3 : Nat) (g4 : Nat) (W : World), Below wr.heap.size wr W → wpAnyH Try.prog .any O QQ (fun w' => Below wr.heap.size wr w') 6 #[true, true, true, true, true, true, true, true, true, true, true, true, true, true, true, true, true, false, false, false, false, false, false] ⟨#[.slice a len cap, .slice a' len' cap', undef, undef, .bool false, .int .i64 k, .slice (some ⟨gx, 0, none⟩) k k, .slice (some ⟨gz, 0, none⟩) k k, .int .i64 k, u9, u10, u11, u12, u13, u14, u15, u16, u17, u18, u19, u20, .int .i64 k, .int .i64 k, .bool false, u24, u25, u26, u27, u28, u29, u30, u31, u32, u33, u34, u35, u36, u37, .slice (some ⟨gx, 0, none⟩) k k, .slice (some ⟨g1, 0, none⟩) 1 1, .int .u32 (M1 : Nat), .slice a len cap, .int .i64 k, .slice a k cap, .slice (some ⟨g2, 0, none⟩) 1 1, .int .u32 (M2 : Nat), .slice a' len' cap', .int .i64 k, .slice a' k cap', .slice (some ⟨g3, 0, none⟩) 1 1, .int .u32 (M3 : Nat), .int .u32 (bits .xor .u32 (M2 : Nat) (M3 : Nat)), .slice (some ⟨gz, 0, none⟩) k k, .slice (some ⟨g4, 0, none⟩) 1 1, .int .u32 (M4 : Nat), u55, u56, u57, u58, u59], []⟩ W := by
          intro g1 g2 g3 g4 W hS
          refine wpAnyH_take (i := 17) (v := .int .u32 (M1 : Nat)) (by rw [HO.out]; simp only [List.getElem?_toArray, List.getElem?_cons_succ, List.getElem?_cons_zero]; rfl) (by rw [HO.out]; kernel_rfl) (by rw [HO.out]; kernel_rfl) (by rw [HO.out]; kernel_rfl) (by rw [HQ.out]; exact fun _ _ _ h => h) (Or.inl ⟨by rfl, ?_⟩) (by assumption) ?_
          · intro w hSw
            go_simp
          simp only [Act.put, List.setIfInBounds_toArray, List.set_cons_zero, List.set_cons_succ]
          refine wpAnyH_take (i := 18) (v := .bool true) (by rw [HO.out]; simp only [List.getElem?_toArray, List.getElem?_cons_succ, List.getElem?_cons_zero]; rfl) (by rw [HO.out]; kernel_rfl) (by rw [HO.out]; kernel_rfl) (by rw [HO.out]; kernel_rfl) (by rw [HQ.out]; exact fun _ _ _ h => h) (Or.inl ⟨by rfl, ?_⟩) (by assumption) ?_
          · intro w hSw
            go_simp
          simp only [Act.put, List.setIfInBounds_toArray, List.set_cons_zero, List.set_cons_succ]
          refine wpAnyH_take (i := 19) (v := .bool true) (by rw [HO.out]; simp only [List.getElem?_toArray, List.getElem?_cons_succ, List.getElem?_cons_zero]; rfl) (by rw [HO.out]; kernel_rfl) (by rw [HO.out]; kernel_rfl) (by rw [HO.out]; kernel_rfl) (by rw [HQ.out]; exact fun _ _ _ h => h) (Or.inl ⟨by rfl, ?_⟩) (by assumption) ?_
          · intro w hSw
            go_simp
          simp only [Act.put, List.setIfInBounds_toArray, List.set_cons_zero, List.set_cons_succ]
          refine wpAnyH_ready (rs := [20]) (by rw [HO.out]; kernel_rfl) (by simp) ?_
          refine AllReadyH.cons (o := _) (by rw [HO.out]; simp only [List.getElem?_toArray, List.getElem?_cons_succ, List.getElem?_cons_zero]; rfl) (fun K hK => ?_) AllReadyH.nil
          rw [HO.out]
          go_simp
          refine (awk wr _ hS).mono ?_
          rintro e w5 ⟨rfl, hb5⟩
          refine hK.out _ _ hb5 (fun _ => ?_)
          simp only [Act.put, List.setIfInBounds_toArray, List.set_cons_zero, List.set_cons_succ]
          refine wpAnyH_take (i := 21) (v := .bool true) (by rw [HO.out]; simp only [List.getElem?_toArray, List.getElem?_cons_succ, List.getElem?_cons_zero]; rfl) (by rw [HO.out]; kernel_rfl) (by rw [HO.out]; kernel_rfl) (by rw [HO.out]; kernel_rfl) (by rw [HQ.out]; exact fun _ _ _ h => h) (Or.inl ⟨by rfl, ?_⟩) (by assumption) ?_
          · intro w hSw
            go_simp
          simp only [Act.put, List.setIfInBounds_toArray, List.set_cons_zero, List.set_cons_succ]
          refine wpAnyH_take (i := 22) (v := .bool true) (by rw [HO.out]; simp only [List.getElem?_toArray, List.getElem?_cons_succ, List.getElem?_cons_zero]; rfl) (by rw [HO.out]; kernel_rfl) (by rw [HO.out]; kernel_rfl) (by rw [HO.out]; kernel_rfl) (by rw [HQ.out]; exact fun _ _ _ h => h) (Or.inl ⟨by rfl, ?_⟩) (by assumption) ?_
          · intro w hSw
            go_simp
          simp only [Act.put, List.setIfInBounds_toArray, List.set_cons_zero, List.set_cons_succ]
          refine wpAnyH_done (by rw [HO.out]; kernel_rfl) ?_ _
          rw [HQ.out]
          refine NoPanic.normal ?_
          go_wp2
          go_ret
          exact ⟨rfl, HBL.out.trans (hb5.mono HBL.out.size)⟩
        have k3_1234 : ∀ (g1 : Nat) (g2 : Nat) (g3 : Nat) (g4 : Nat) (W : World), Below wr.heap.size wr W → W.cell? ⟨g4, 0, none⟩ = some (.slice (some ⟨gz, 0, none⟩) k k) → wpAnyH Try.prog .any O QQ (fun w' => Below wr.heap.size wr w') 7 #[true, true, true, true, true, true, true, true, true, true, true, true, true, true, true, true, false, false, false, false, false, false, false] ⟨#[.slice a len cap, .slice a' len' cap', undef, undef, .bool false, .int .i64 k, .slice (some ⟨gx, 0, none⟩) k k, .slice (some ⟨gz, 0, none⟩) k k, .int .i64 k, u9, u10, u11, u12, u13, u14, u15, u16, u17, u18, u19, u20, .int .i64 k, .int .i64 k, .bool false, u24, u25, u26, u27, u28, u29, u30, u31, u32, u33, u34, u35, u36, u37, .slice (some ⟨gx, 0, none⟩) k k, .slice (some ⟨g1, 0, none⟩) 1 1, .int .u32 (M1 : Nat), .slice a len cap, .int .i64 k, .slice a k cap, .slice (some ⟨g2, 0, none⟩) 1 1, .int .u32 (M2 : Nat), .slice a' len' cap', .int .i64 k, .slice a' k cap', .slice (some ⟨g3, 0, none⟩) 1 1, .int .u32 (M3 : Nat), .int .u32 (bits .xor .u32 (M2 : Nat) (M3 : Nat)), .slice (some ⟨gz, 0, none⟩) k k, .slice (some ⟨g4, 0, none⟩) 1 1, u54, u55, u56, u57, u58, u59], []⟩ W := by
          intro g1 g2 g3 g4 W hS h4
          refine wpAnyH_ready (rs := [16]) (by rw [HO.out]; kernel_rfl) (by simp) ?_
          refine AllReadyH.cons (o := _) (by rw [HO.out]; simp only [List.getElem?_toArray, List.getElem?_cons_succ, List.getElem?_cons_zero]; rfl) (fun K hK => ?_) ?_
          · go_simp
            refine (c4 _ _ (b4.below hS) h4).mono ?_
            rintro e w' ⟨rfl, hw⟩
            obtain rfl := hw.symm
            refine hK.out _ _ hS (fun _ => ?_)
            simp only [Act.put, List.setIfInBounds_toArray, List.set_cons_zero, List.set_cons_succ]
            exact k4_1234 _ _ _ _ _ hS
          exact AllReadyH.nil
        have k2_1234 : ∀ (g1 : Nat) (g2 : Nat) (g3 : Nat) (g4 : Nat) (W : World), Below wr.heap.size wr W → W.cell? ⟨g3, 0, none⟩ = some (.slice a' k cap') → W.cell? ⟨g4, 0, none⟩ = some (.slice (some ⟨gz, 0, none⟩) k k) → wpAnyH Try.prog .any O QQ (fun w' => Below wr.heap.size wr w') 9 #[true, true, true, true, true, true, true, true, true, true, true, true, false, false, true, true, false, false, false, false, false, false, false] ⟨#[.slice a len cap, .slice a' len' cap', undef, undef, .bool false, .int .i64 k, .slice (some ⟨gx, 0, none⟩) k k, .slice (some ⟨gz, 0, none⟩) k k, .int .i64 k, u9, u10, u11, u12, u13, u14, u15, u16, u17, u18, u19, u20, .int .i64 k, .int .i64 k, .bool false, u24, u25, u26, u27, u28, u29, u30, u31, u32, u33, u34, u35, u36, u37, .slice (some ⟨gx, 0, none⟩) k k, .slice (some ⟨g1, 0, none⟩) 1 1, .int .u32 (M1 : Nat), .slice a len cap, .int .i64 k, .slice a k cap, .slice (some ⟨g2, 0, none⟩) 1 1, .int .u32 (M2 : Nat), .slice a' len' cap', .int .i64 k, .slice a' k cap', .slice (some ⟨g3, 0, none⟩) 1 1, u50, u51, .slice (some ⟨gz, 0, none⟩) k k, .slice (some ⟨g4, 0, none⟩) 1 1, u54, u55, u56, u57, u58, u59], []⟩ W := by
          intro g1 g2 g3 g4 W hS h3 h4
          refine wpAnyH_ready (rs := [12]) (by rw [HO.out]; kernel_rfl) (by simp) ?_
          refine AllReadyH.cons (o := _) (by rw [HO.out]; simp only [List.getElem?_toArray, List.getElem?_cons_succ, List.getElem?_cons_zero]; rfl) (fun K hK => ?_) ?_
          · go_simp
            refine (c3 _ _ (b3.below hS) h3).mono ?_
            rintro e w' ⟨rfl, hw⟩
            obtain rfl := hw.symm
            refine hK.out _ _ hS (fun _ => ?_)
            simp only [Act.put, List.setIfInBounds_toArray, List.set_cons_zero, List.set_cons_succ]
            refine wpAnyH_take (i := 13) (v := .int .u32 (bits .xor .u32 (M2 : Nat) (M3 : Nat))) (by rw [HO.out]; simp only [List.getElem?_toArray, List.getElem?_cons_succ, List.getElem?_cons_zero]; rfl) (by rw [HO.out]; kernel_rfl) (by rw [HO.out]; kernel_rfl) (by rw [HO.out]; kernel_rfl) (by rw [HQ.out]; exact fun _ _ _ h => h) (Or.inl ⟨by rfl, ?_⟩) (by assumption) ?_
            · intro w hSw
              go_simp
            simp only [Act.put, List.setIfInBounds_toArray, List.set_cons_zero, List.set_cons_succ]
            exact k3_1234 _ _ _ _ _ hS h4
          exact AllReadyH.nil
        have k3_123 : ∀ (g1 : Nat) (g2 : Nat) (g3 : Nat) (W : World), Below wr.heap.size wr W → wpAnyH Try.prog .any O QQ (fun w' => Below wr.heap.size wr w') 8 #[true, true, true, true, true, true, true, true, true, true, true, true, true, true, true, false, false, false, false, false, false, false, false] ⟨#[.slice a len cap, .slice a' len' cap', undef, undef, .bool false, .int .i64 k, .slice (some ⟨gx, 0, none⟩) k k, .slice (some ⟨gz, 0, none⟩) k k, .int .i64 k, u9, u10, u11, u12, u13, u14, u15, u16, u17, u18, u19, u20, .int .i64 k, .int .i64 k, .bool false, u24, u25, u26, u27, u28, u29, u30, u31, u32, u33, u34, u35, u36, u37, .slice (some ⟨gx, 0, none⟩) k k, .slice (some ⟨g1, 0, none⟩) 1 1, .int .u32 (M1 : Nat), .slice a len cap, .int .i64 k, .slice a k cap, .slice (some ⟨g2, 0, none⟩) 1 1, .int .u32 (M2 : Nat), .slice a' len' cap', .int .i64 k, .slice a' k cap', .slice (some ⟨g3, 0, none⟩) 1 1, .int .u32 (M3 : Nat), .int .u32 (bits .xor .u32 (M2 : Nat) (M3 : Nat)), .slice (some ⟨gz, 0, none⟩) k k, u53, u54, u55, u56, u57, u58, u59], []⟩ W := by
          intro g1 g2 g3 W hS
          refine wpAnyH_ready (rs := [15]) (by rw [HO.out]; kernel_rfl) (by simp) ?_
          refine AllReadyH.cons (o := _) (by rw [HO.out]; simp only [List.getElem?_toArray, List.getElem?_cons_succ, List.getElem?_cons_zero]; rfl) (fun K hK => ?_) ?_
          · go_simp
            refine hK.out _ _ (hS.alloc hS.size _) (fun _ => ?_)
            simp only [Act.put, List.setIfInBounds_toArray, List.set_cons_zero, List.set_cons_succ]
            exact k3_1234 _ _ _ _ _ (hS.alloc hS.size _) (cell_new rfl)
          exact AllReadyH.nil
        have k1_1234 : ∀ (g1 : Nat) (g2 : Nat) (g3 : Nat) (g4 : Nat) (W : World), Below wr.heap.size wr W → W.cell? ⟨g2, 0, none⟩ = some (.slice a k cap) → W.cell? ⟨g3, 0, none⟩ = some (.slice a' k cap') → W.cell? ⟨g4, 0, none⟩ = some (.slice (some ⟨gz, 0, none⟩) k k) → wpAnyH Try.prog .any O QQ (fun w' => Below wr.heap.size wr w') 10 #[true, true, true, true, true, true, true, false, true, true, true, true, false, false, true, true, false, false, false, false, false, false, false] ⟨#[.slice a len cap, .slice a' len' cap', undef, undef, .bool false, .int .i64 k, .slice (some ⟨gx, 0, none⟩) k k, .slice (some ⟨gz, 0, none⟩) k k, .int .i64 k, u9, u10, u11, u12, u13, u14, u15, u16, u17, u18, u19, u20, .int .i64 k, .int .i64 k, .bool false, u24, u25, u26, u27, u28, u29, u30, u31, u32, u33, u34, u35, u36, u37, .slice (some ⟨gx, 0, none⟩) k k, .slice (some ⟨g1, 0, none⟩) 1 1, .int .u32 (M1 : Nat), .slice a len cap, .int .i64 k, .slice a k cap, .slice (some ⟨g2, 0, none⟩) 1 1, u45, .slice a' len' cap', .int .i64 k, .slice a' k cap', .slice (some ⟨g3, 0, none⟩) 1 1, u50, u51, .slice (some ⟨gz, 0, none⟩) k k, .slice (some ⟨g4, 0, none⟩) 1 1, u54, u55, u56, u57, u58, u59], []⟩ W := by
          intro g1 g2 g3 g4 W hS h2 h3 h4
          refine wpAnyH_ready (rs := [7]) (by rw [HO.out]; kernel_rfl) (by simp) ?_
          refine AllReadyH.cons (o := _) (by rw [HO.out]; simp only [List.getElem?_toArray, List.getElem?_cons_succ, List.getElem?_cons_zero]; rfl) (fun K hK => ?_) ?_
          · go_simp
            refine (c2 _ _ (b2.below hS) h2).mono ?_
            rintro e w' ⟨rfl, hw⟩
            obtain rfl := hw.symm
            refine hK.out _ _ hS (fun _ => ?_)
            simp only [Act.put, List.setIfInBounds_toArray, List.set_cons_zero, List.set_cons_succ]
            exact k2_1234 _ _ _ _ _ hS h3 h4
          exact AllReadyH.nil
        have k2_123 : ∀ (g1 : Nat) (g2 : Nat) (g3 : Nat) (W : World), Below wr.heap.size wr W → W.cell? ⟨g3, 0, none⟩ = some (.slice a' k cap') → wpAnyH Try.prog .any O QQ (fun w' => Below wr.heap.size wr w') 10 #[true, true, true, true, true, true, true, true, true, true, true, true, false, false, true, false, false, false, false, false, false, false, false] ⟨#[.slice a len cap, .slice a' len' cap', undef, undef, .bool false, .int .i64 k, .slice (some ⟨gx, 0, none⟩) k k, .slice (some ⟨gz, 0, none⟩) k k, .int .i64 k, u9, u10, u11, u12, u13, u14, u15, u16, u17, u18, u19, u20, .int .i64 k, .int .i64 k, .bool false, u24, u25, u26, u27, u28, u29, u30, u31, u32, u33, u34, u35, u36, u37, .slice (some ⟨gx, 0, none⟩) k k, .slice (some ⟨g1, 0, none⟩) 1 1, .int .u32 (M1 : Nat), .slice a len cap, .int .i64 k, .slice a k cap, .slice (some ⟨g2, 0, none⟩) 1 1, .int .u32 (M2 : Nat), .slice a' len' cap', .int .i64 k, .slice a' k cap', .slice (some ⟨g3, 0, none⟩) 1 1, u50, u51, .slice (some ⟨gz, 0, none⟩) k k, u53, u54, u55, u56, u57, u58, u59], []⟩ W := by
          intro g1 g2 g3 W hS h3
          refine wpAnyH_ready (rs := [12, 15]) (by rw [HO.out]; kernel_rfl) (by simp) ?_
          refine AllReadyH.cons (o := _) (by rw [HO.out]; simp only [List.getElem?_toArray, List.getElem?_cons_succ, List.getElem?_cons_zero]; rfl) (fun K hK => ?_) ?_
          · go_simp
            refine (c3 _ _ (b3.below hS) h3).mono ?_
            rintro e w' ⟨rfl, hw⟩
            obtain rfl := hw.symm
            refine hK.out _ _ hS (fun _ => ?_)
            simp only [Act.put, List.setIfInBounds_toArray, List.set_cons_zero, List.set_cons_succ]
            refine wpAnyH_take (i := 13) (v := .int .u32 (bits .xor .u32 (M2 : Nat) (M3 : Nat))) (by rw [HO.out]; simp only [List.getElem?_toArray, List.getElem?_cons_succ, List.getElem?_cons_zero]; rfl) (by rw [HO.out]; kernel_rfl) (by rw [HO.out]; kernel_rfl) (by rw [HO.out]; kernel_rfl) (by rw [HQ.out]; exact fun _ _ _ h => h) (Or.inl ⟨by rfl, ?_⟩) (by assumption) ?_
            · intro w hSw
              go_simp
            simp only [Act.put, List.setIfInBounds_toArray, List.set_cons_zero, List.set_cons_succ]
            exact k3_123 _ _ _ _ hS
          refine AllReadyH.cons (o := _) (by rw [HO.out]; simp only [List.getElem?_toArray, List.getElem?_cons_succ, List.getElem?_cons_zero]; rfl) (fun K hK => ?_) ?_
          · go_simp
            refine hK.out _ _ (hS.alloc hS.size _) (fun _ => ?_)
            simp only [Act.put, List.setIfInBounds_toArray, List.set_cons_zero, List.set_cons_succ]
            exact k2_1234 _ _ _ _ _ (hS.alloc hS.size _) (cell_step h3) (cell_new rfl)
          exact AllReadyH.nil
        have k2_124 : ∀ (g1 : Nat) (g2 : Nat) (g4 : Nat) (W : World), Below wr.heap.size wr W → W.cell? ⟨g4, 0, none⟩ = some (.slice (some ⟨gz, 0, none⟩) k k) → wpAnyH Try.prog .any O QQ (fun w' => Below wr.heap.size wr w') 10 #[true, true, true, true, true, true, true, true, true, true, true, false, false, false, true, true, false, false, false, false, false, false, false] ⟨#[.slice a len cap, .slice a' len' cap', undef, undef, .bool false, .int .i64 k, .slice (some ⟨gx, 0, none⟩) k k, .slice (some ⟨gz, 0, none⟩) k k, .int .i64 k, u9, u10, u11, u12, u13, u14, u15, u16, u17, u18, u19, u20, .int .i64 k, .int .i64 k, .bool false, u24, u25, u26, u27, u28, u29, u30, u31, u32, u33, u34, u35, u36, u37, .slice (some ⟨gx, 0, none⟩) k k, .slice (some ⟨g1, 0, none⟩) 1 1, .int .u32 (M1 : Nat), .slice a len cap, .int .i64 k, .slice a k cap, .slice (some ⟨g2, 0, none⟩) 1 1, .int .u32 (M2 : Nat), .slice a' len' cap', .int .i64 k, .slice a' k cap', u49, u50, u51, .slice (some ⟨gz, 0, none⟩) k k, .slice (some ⟨g4, 0, none⟩) 1 1, u54, u55, u56, u57, u58, u59], []⟩ W := by
          intro g1 g2 g4 W hS h4
          refine wpAnyH_ready (rs := [11]) (by rw [HO.out]; kernel_rfl) (by simp) ?_
          refine AllReadyH.cons (o := _) (by rw [HO.out]; simp only [List.getElem?_toArray, List.getElem?_cons_succ, List.getElem?_cons_zero]; rfl) (fun K hK => ?_) ?_
          · go_simp
            refine hK.out _ _ (hS.alloc hS.size _) (fun _ => ?_)
            simp only [Act.put, List.setIfInBounds_toArray, List.set_cons_zero, List.set_cons_succ]
            exact k2_1234 _ _ _ _ _ (hS.alloc hS.size _) (cell_new rfl) (cell_step h4)
          exact AllReadyH.nil
        have k0_1234 : ∀ (g1 : Nat) (g2 : Nat) (g3 : Nat) (g4 : Nat) (W : World), Below wr.heap.size wr W → W.cell? ⟨g1, 0, none⟩ = some (.slice (some ⟨gx, 0, none⟩) k k) → W.cell? ⟨g2, 0, none⟩ = some (.slice a k cap) → W.cell? ⟨g3, 0, none⟩ = some (.slice a' k cap') → W.cell? ⟨g4, 0, none⟩ = some (.slice (some ⟨gz, 0, none⟩) k k) → wpAnyH Try.prog .any O QQ (fun w' => Below wr.heap.size wr w') 11 #[true, true, false, true, true, true, true, false, true, true, true, true, false, false, true, true, false, false, false, false, false, false, false] ⟨#[.slice a len cap, .slice a' len' cap', undef, undef, .bool false, .int .i64 k, .slice (some ⟨gx, 0, none⟩) k k, .slice (some ⟨gz, 0, none⟩) k k, .int .i64 k, u9, u10, u11, u12, u13, u14, u15, u16, u17, u18, u19, u20, .int .i64 k, .int .i64 k, .bool false, u24, u25, u26, u27, u28, u29, u30, u31, u32, u33, u34, u35, u36, u37, .slice (some ⟨gx, 0, none⟩) k k, .slice (some ⟨g1, 0, none⟩) 1 1, u40, .slice a len cap, .int .i64 k, .slice a k cap, .slice (some ⟨g2, 0, none⟩) 1 1, u45, .slice a' len' cap', .int .i64 k, .slice a' k cap', .slice (some ⟨g3, 0, none⟩) 1 1, u50, u51, .slice (some ⟨gz, 0, none⟩) k k, .slice (some ⟨g4, 0, none⟩) 1 1, u54, u55, u56, u57, u58, u59], []⟩ W := by
          intro g1 g2 g3 g4 W hS h1 h2 h3 h4
          refine wpAnyH_ready (rs := [2]) (by rw [HO.out]; kernel_rfl) (by simp) ?_
          refine AllReadyH.cons (o := _) (by rw [HO.out]; simp only [List.getElem?_toArray, List.getElem?_cons_succ, List.getElem?_cons_zero]; rfl) (fun K hK => ?_) ?_
          · go_simp
            refine (c1 _ _ (b1.below hS) h1).mono ?_
            rintro e w' ⟨rfl, hw⟩
            obtain rfl := hw.symm
            refine hK.out _ _ hS (fun _ => ?_)
            simp only [Act.put, List.setIfInBounds_toArray, List.set_cons_zero, List.set_cons_succ]
            exact k1_1234 _ _ _ _ _ hS h2 h3 h4
          exact AllReadyH.nil
        have k1_123 : ∀ (g1 : Nat) (g2 : Nat) (g3 : Nat) (W : World), Below wr.heap.size wr W → W.cell? ⟨g2, 0, none⟩ = some (.slice a k cap) → W.cell? ⟨g3, 0, none⟩ = some (.slice a' k cap') → wpAnyH Try.prog .any O QQ (fun w' => Below wr.heap.size wr w') 11 #[true, true, true, true, true, true, true, false, true, true, true, true, false, false, true, false, false, false, false, false, false, false, false] ⟨#[.slice a len cap, .slice a' len' cap', undef, undef, .bool false, .int .i64 k, .slice (some ⟨gx, 0, none⟩) k k, .slice (some ⟨gz, 0, none⟩) k k, .int .i64 k, u9, u10, u11, u12, u13, u14, u15, u16, u17, u18, u19, u20, .int .i64 k, .int .i64 k, .bool false, u24, u25, u26, u27, u28, u29, u30, u31, u32, u33, u34, u35, u36, u37, .slice (some ⟨gx, 0, none⟩) k k, .slice (some ⟨g1, 0, none⟩) 1 1, .int .u32 (M1 : Nat), .slice a len cap, .int .i64 k, .slice a k cap, .slice (some ⟨g2, 0, none⟩) 1 1, u45, .slice a' len' cap', .int .i64 k, .slice a' k cap', .slice (some ⟨g3, 0, none⟩) 1 1, u50, u51, .slice (some ⟨gz, 0, none⟩) k k, u53, u54, u55, u56, u57, u58, u59], []⟩ W := by
          intro g1 g2 g3 W hS h2 h3
          refine wpAnyH_ready (rs := [7, 15]) (by rw [HO.out]; kernel_rfl) (by simp) ?_
          refine AllReadyH.cons (o := _) (by rw [HO.out]; simp only [List.getElem?_toArray, List.getElem?_cons_succ, List.getElem?_cons_zero]; rfl) (fun K hK => ?_) ?_
          · go_simp
            refine (c2 _ _ (b2.below hS) h2).mono ?_
            rintro e w' ⟨rfl, hw⟩
            obtain rfl := hw.symm
            refine hK.out _ _ hS (fun _ => ?_)
            simp only [Act.put, List.setIfInBounds_toArray, List.set_cons_zero, List.set_cons_succ]
            exact k2_123 _ _ _ _ hS h3
          refine AllReadyH.cons (o := _) (by rw [HO.out]; simp only [List.getElem?_toArray, List.getElem?_cons_succ, List.getElem?_cons_zero]; rfl) (fun K hK => ?_) ?_
          · go_simp
            refine hK.out _ _ (hS.alloc hS.size _) (fun _ => ?_)
            simp only [Act.put, List.setIfInBounds_toArray, List.set_cons_zero, List.set_cons_succ]
            exact k1_1234 _ _ _ _ _ (hS.alloc hS.size _) (cell_step h2) (cell_step h3) (cell_new rfl)
          exact AllReadyH.nil
        have k1_124 : ∀ (g1 : Nat) (g2 : Nat) (g4 : Nat) (W : World), Below wr.heap.size wr W → W.cell? ⟨g2, 0, none⟩ = some (.slice a k cap) → W.cell? ⟨g4, 0, none⟩ = some (.slice (some ⟨gz, 0, none⟩) k k) → wpAnyH Try.prog .any O QQ (fun w' => Below wr.heap.size wr w') 11 #[true, true, true, true, true, true, true, false, true, true, true, false, false, false, true, true, false, false, false, false, false, false, false] ⟨#[.slice a len cap, .slice a' len' cap', undef, undef, .bool false, .int .i64 k, .slice (some ⟨gx, 0, none⟩) k k, .slice (some ⟨gz, 0, none⟩) k k, .int .i64 k, u9, u10, u11, u12, u13, u14, u15, u16, u17, u18, u19, u20, .int .i64 k, .int .i64 k, .bool false, u24, u25, u26, u27, u28, u29, u30, u31, u32, u33, u34, u35, u36, u37, .slice (some ⟨gx, 0, none⟩) k k, .slice (some ⟨g1, 0, none⟩) 1 1, .int .u32 (M1 : Nat), .slice a len cap, .int .i64 k, .slice a k cap, .slice (some ⟨g2, 0, none⟩) 1 1, u45, .slice a' len' cap', .int .i64 k, .slice a' k cap', u49, u50, u51, .slice (some ⟨gz, 0, none⟩) k k, .slice (some ⟨g4, 0, none⟩) 1 1, u54, u55, u56, u57, u58, u59], []⟩ W := by
          intro g1 g2 g4 W hS h2 h4
          refine wpAnyH_ready (rs := [7, 11]) (by rw [HO.out]; kernel_rfl) (by simp) ?_
          refine AllReadyH.cons (o := _) (by rw [HO.out]; simp only [List.getElem?_toArray, List.getElem?_cons_succ, List.getElem?_cons_zero]; rfl) (fun K hK => ?_) ?_
          · go_simp
            refine (c2 _ _ (b2.below hS) h2).mono ?_
            rintro e w' ⟨rfl, hw⟩
            obtain rfl := hw.symm
            refine hK.out _ _ hS (fun _ => ?_)
            simp only [Act.put, List.setIfInBounds_toArray, List.set_cons_zero, List.set_cons_succ]
            exact k2_124 _ _ _ _ hS h4
          refine AllReadyH.cons (o := _) (by rw [HO.out]; simp only [List.getElem?_toArray, List.getElem?_cons_succ, List.getElem?_cons_zero]; rfl) (fun K hK => ?_) ?_
          · go_simp
            refine hK.out _ _ (hS.alloc hS.size _) (fun _ => ?_)
            simp only [Act.put, List.setIfInBounds_toArray, List.set_cons_zero, List.set_cons_succ]
            exact k1_1234 _ _ _ _ _ (hS.alloc hS.size _) (cell_step h2) (cell_new rfl) (cell_step h4)
          exact AllReadyH.nil
        have k1_134 : ∀ (g1 : Nat) (g3 : Nat) (g4 : Nat) (W : World), Below wr.heap.size wr W → W.cell? ⟨g3, 0, none⟩ = some (.slice a' k cap') → W.cell? ⟨g4, 0, none⟩ = some (.slice (some ⟨gz, 0, none⟩) k k) → wpAnyH Try.prog .any O QQ (fun w' => Below wr.heap.size wr w') 11 #[true, true, true, true, true, true, false, false, true, true, true, true, false, false, true, true, false, false, false, false, false, false, false] ⟨#[.slice a len cap, .slice a' len' cap', undef, undef, .bool false, .int .i64 k, .slice (some ⟨gx, 0, none⟩) k k, .slice (some ⟨gz, 0, none⟩) k k, .int .i64 k, u9, u10, u11, u12, u13, u14, u15, u16, u17, u18, u19, u20, .int .i64 k, .int .i64 k, .bool false, u24, u25, u26, u27, u28, u29, u30, u31, u32, u33, u34, u35, u36, u37, .slice (some ⟨gx, 0, none⟩) k k, .slice (some ⟨g1, 0, none⟩) 1 1, .int .u32 (M1 : Nat), .slice a len cap, .int .i64 k, .slice a k cap, u44, u45, .slice a' len' cap', .int .i64 k, .slice a' k cap', .slice (some ⟨g3, 0, none⟩) 1 1, u50, u51, .slice (some ⟨gz, 0, none⟩) k k, .slice (some ⟨g4, 0, none⟩) 1 1, u54, u55, u56, u57, u58, u59], []⟩ W := by
          intro g1 g3 g4 W hS h3 h4
          refine wpAnyH_ready (rs := [6]) (by rw [HO.out]; kernel_rfl) (by simp) ?_
          refine AllReadyH.cons (o := _) (by rw [HO.out]; simp only [List.getElem?_toArray, List.getElem?_cons_succ, List.getElem?_cons_zero]; rfl) (fun K hK => ?_) ?_
          · go_simp
            refine hK.out _ _ (hS.alloc hS.size _) (fun _ => ?_)
            simp only [Act.put, List.setIfInBounds_toArray, List.set_cons_zero, List.set_cons_succ]
            exact k1_1234 _ _ _ _ _ (hS.alloc hS.size _) (cell_new rfl) (cell_step h3) (cell_step h4)
          exact AllReadyH.nil
        have k2_12 : ∀ (g1 : Nat) (g2 : Nat) (W : World), Below wr.heap.size wr W → wpAnyH Try.prog .any O QQ (fun w' => Below wr.heap.size wr w') 11 #[true, true, true, true, true, true, true, true, true, true, true, false, false, false, true, false, false, false, false, false, false, false, false] ⟨#[.slice a len cap, .slice a' len' cap', undef, undef, .bool false, .int .i64 k, .slice (some ⟨gx, 0, none⟩) k k, .slice (some ⟨gz, 0, none⟩) k k, .int .i64 k, u9, u10, u11, u12, u13, u14, u15, u16, u17, u18, u19, u20, .int .i64 k, .int .i64 k, .bool false, u24, u25, u26, u27, u28, u29, u30, u31, u32, u33, u34, u35, u36, u37, .slice (some ⟨gx, 0, none⟩) k k, .slice (some ⟨g1, 0, none⟩) 1 1, .int .u32 (M1 : Nat), .slice a len cap, .int .i64 k, .slice a k cap, .slice (some ⟨g2, 0, none⟩) 1 1, .int .u32 (M2 : Nat), .slice a' len' cap', .int .i64 k, .slice a' k cap', u49, u50, u51, .slice (some ⟨gz, 0, none⟩) k k, u53, u54, u55, u56, u57, u58, u59], []⟩ W := by
          intro g1 g2 W hS
          refine wpAnyH_ready (rs := [11, 15]) (by rw [HO.out]; kernel_rfl) (by simp) ?_
          refine AllReadyH.cons (o := _) (by rw [HO.out]; simp only [List.getElem?_toArray, List.getElem?_cons_succ, List.getElem?_cons_zero]; rfl) (fun K hK => ?_) ?_
          · go_simp
            refine hK.out _ _ (hS.alloc hS.size _) (fun _ => ?_)
            simp only [Act.put, List.setIfInBounds_toArray, List.set_cons_zero, List.set_cons_succ]
            exact k2_123 _ _ _ _ (hS.alloc hS.size _) (cell_new rfl)
          refine AllReadyH.cons (o := _) (by rw [HO.out]; simp only [List.getElem?_toArray, List.getElem?_cons_succ, List.getElem?_cons_zero]; rfl) (fun K hK => ?_) ?_
          · go_simp
            refine hK.out _ _ (hS.alloc hS.size _) (fun _ => ?_)
            simp only [Act.put, List.setIfInBounds_toArray, List.set_cons_zero, List.set_cons_succ]
            exact k2_124 _ _ _ _ (hS.alloc hS.size _) (cell_new rfl)
          exact AllReadyH.nil
        have k0_123 : ∀ (g1 : Nat) (g2 : Nat) (g3 : Nat) (W : World), Below wr.heap.size wr W → W.cell? ⟨g1, 0, none⟩ = some (.slice (some ⟨gx, 0, none⟩) k k) → W.cell? ⟨g2, 0, none⟩ = some (.slice a k cap) → W.cell? ⟨g3, 0, none⟩ = some (.slice a' k cap') → wpAnyH Try.prog .any O QQ (fun w' => Below wr.heap.size wr w') 12 #[true, true, false, true, true, true, true, false, true, true, true, true, false, false, true, false, false, false, false, false, false, false, false] ⟨#[.slice a len cap, .slice a' len' cap', undef, undef, .bool false, .int .i64 k, .slice (some ⟨gx, 0, none⟩) k k, .slice (some ⟨gz, 0, none⟩) k k, .int .i64 k, u9, u10, u11, u12, u13, u14, u15, u16, u17, u18, u19, u20, .int .i64 k, .int .i64 k, .bool false, u24, u25, u26, u27, u28, u29, u30, u31, u32, u33, u34, u35, u36, u37, .slice (some ⟨gx, 0, none⟩) k k, .slice (some ⟨g1, 0, none⟩) 1 1, u40, .slice a len cap, .int .i64 k, .slice a k cap, .slice (some ⟨g2, 0, none⟩) 1 1, u45, .slice a' len' cap', .int .i64 k, .slice a' k cap', .slice (some ⟨g3, 0, none⟩) 1 1, u50, u51, .slice (some ⟨gz, 0, none⟩) k k, u53, u54, u55, u56, u57, u58, u59], []⟩ W := by
          intro g1 g2 g3 W hS h1 h2 h3
          refine wpAnyH_ready (rs := [2, 15]) (by rw [HO.out]; kernel_rfl) (by simp) ?_
          refine AllReadyH.cons (o := _) (by rw [HO.out]; simp only [List.getElem?_toArray, List.getElem?_cons_succ, List.getElem?_cons_zero]; rfl) (fun K hK => ?_) ?_
          · go_simp
            refine (c1 _ _ (b1.below hS) h1).mono ?_
            rintro e w' ⟨rfl, hw⟩
            obtain rfl := hw.symm
            refine hK.out _ _ hS (fun _ => ?_)
            simp only [Act.put, List.setIfInBounds_toArray, List.set_cons_zero, List.set_cons_succ]
            exact k1_123 _ _ _ _ hS h2 h3
          refine AllReadyH.cons (o := _) (by rw [HO.out]; simp only [List.getElem?_toArray, List.getElem?_cons_succ, List.getElem?_cons_zero]; rfl) (fun K hK => ?_) ?_
          · go_simp
            refine hK.out _ _ (hS.alloc hS.size _) (fun _ => ?_)
            simp only [Act.put, List.setIfInBounds_toArray, List.set_cons_zero, List.set_cons_succ]
            exact k0_1234 _ _ _ _ _ (hS.alloc hS.size _) (cell_step h1) (cell_step h2) (cell_step h3) (cell_new rfl)
          exact AllReadyH.nil
        have k0_124 : ∀ (g1 : Nat) (g2 : Nat) (g4 : Nat) (W : World), Below wr.heap.size wr W → W.cell? ⟨g1, 0, none⟩ = some (.slice (some ⟨gx, 0, none⟩) k k) → W.cell? ⟨g2, 0, none⟩ = some (.slice a k cap) → W.cell? ⟨g4, 0, none⟩ = some (.slice (some ⟨gz, 0, none⟩) k k) → wpAnyH Try.prog .any O QQ (fun w' => Below wr.heap.size wr w') 12 #[true, true, false, true, true, true, true, false, true, true, true, false, false, false, true, true, false, false, false, false, false, false, false] ⟨#[.slice a len cap, .slice a' len' cap', undef, undef, .bool false, .int .i64 k, .slice (some ⟨gx, 0, none⟩) k k, .slice (some ⟨gz, 0, none⟩) k k, .int .i64 k, u9, u10, u11, u12, u13, u14, u15, u16, u17, u18, u19, u20, .int .i64 k, .int .i64 k, .bool false, u24, u25, u26, u27, u28, u29, u30, u31, u32, u33, u34, u35, u36, u37, .slice (some ⟨gx, 0, none⟩) k k, .slice (some ⟨g1, 0, none⟩) 1 1, u40, .slice a len cap, .int .i64 k, .slice a k cap, .slice (some ⟨g2, 0, none⟩) 1 1, u45, .slice a' len' cap', .int .i64 k, .slice a' k cap', u49, u50, u51, .slice (some ⟨gz, 0, none⟩) k k, .slice (some ⟨g4, 0, none⟩) 1 1, u54, u55, u56, u57, u58, u59], []⟩ W := by
          intro g1 g2 g4 W hS h1 h2 h4
          refine wpAnyH_ready (rs := [2, 11]) (by rw [HO.out]; kernel_rfl) (by simp) ?_
          refine AllReadyH.cons (o := _) (by rw [HO.out]; simp only [List.getElem?_toArray, List.getElem?_cons_succ, List.getElem?_cons_zero]; rfl) (fun K hK => ?_) ?_
          · go_simp
            refine (c1 _ _ (b1.below hS) h1).mono ?_
            rintro e w' ⟨rfl, hw⟩
            obtain rfl := hw.symm
            refine hK.out _ _ hS (fun _ => ?_)
            simp only [Act.put, List.setIfInBounds_toArray, List.set_cons_zero, List.set_cons_succ]
            exact k1_124 _ _ _ _ hS h2 h4
          refine AllReadyH.cons (o := _) (by rw [HO.out]; simp only [List.getElem?_toArray, List.getElem?_cons_succ, List.getElem?_cons_zero]; rfl) (fun K hK => ?_) ?_
          · go_simp
            refine hK.out _ _ (hS.alloc hS.size _) (fun _ => ?_)
            simp only [Act.put, List.setIfInBounds_toArray, List.set_cons_zero, List.set_cons_succ]
            exact k0_1234 _ _ _ _ _ (hS.alloc hS.size _) (cell_step h1) (cell_step h2) (cell_new rfl) (cell_step h4)
          exact AllReadyH.nil
        have k0_134 : ∀ (g1 : Nat) (g3 : Nat) (g4 : Nat) (W : World), Below wr.heap.size wr W → W.cell? ⟨g1, 0, none⟩ = some (.slice (some ⟨gx, 0, none⟩) k k) → W.cell? ⟨g3, 0, none⟩ = some (.slice a' k cap') → W.cell? ⟨g4, 0, none⟩ = some (.slice (some ⟨gz, 0, none⟩) k k) → wpAnyH Try.prog .any O QQ (fun w' => Below wr.heap.size wr w') 12 #[true, true, false, true, true, true, false, false, true, true, true, true, false, false, true, true, false, false, false, false, false, false, false] ⟨#[.slice a len cap, .slice a' len' cap', undef, undef, .bool false, .int .i64 k, .slice (some ⟨gx, 0, none⟩) k k, .slice (some ⟨gz, 0, none⟩) k k, .int .i64 k, u9, u10, u11, u12, u13, u14, u15, u16, u17, u18, u19, u20, .int .i64 k, .int .i64 k, .bool false, u24, u25, u26, u27, u28, u29, u30, u31, u32, u33, u34, u35, u36, u37, .slice (some ⟨gx, 0, none⟩) k k, .slice (some ⟨g1, 0, none⟩) 1 1, u40, .slice a len cap, .int .i64 k, .slice a k cap, u44, u45, .slice a' len' cap', .int .i64 k, .slice a' k cap', .slice (some ⟨g3, 0, none⟩) 1 1, u50, u51, .slice (some ⟨gz, 0, none⟩) k k, .slice (some ⟨g4, 0, none⟩) 1 1, u54, u55, u56, u57, u58, u59], []⟩ W := by
          intro g1 g3 g4 W hS h1 h3 h4
          refine wpAnyH_ready (rs := [2, 6]) (by rw [HO.out]; kernel_rfl) (by simp) ?_
          refine AllReadyH.cons (o := _) (by rw [HO.out]; simp only [List.getElem?_toArray, List.getElem?_cons_succ, List.getElem?_cons_zero]; rfl) (fun K hK => ?_) ?_
          · go_simp
            refine (c1 _ _ (b1.below hS) h1).mono ?_
            rintro e w' ⟨rfl, hw⟩
            obtain rfl := hw.symm
            refine hK.out _ _ hS (fun _ => ?_)
            simp only [Act.put, List.setIfInBounds_toArray, List.set_cons_zero, List.set_cons_succ]
            exact k1_134 _ _ _ _ hS h3 h4
          refine AllReadyH.cons (o := _) (by rw [HO.out]; simp only [List.getElem?_toArray, List.getElem?_cons_succ, List.getElem?_cons_zero]; rfl) (fun K hK => ?_) ?_
          · go_simp
            refine hK.out _ _ (hS.alloc hS.size _) (fun _ => ?_)
            simp only [Act.put, List.setIfInBounds_toArray, List.set_cons_zero, List.set_cons_succ]
            exact k0_1234 _ _ _ _ _ (hS.alloc hS.size _) (cell_step h1) (cell_new rfl) (cell_step h3) (cell_step h4)
          exact AllReadyH.nil
        have k0_234 : ∀ (g2 : Nat) (g3 : Nat) (g4 : Nat) (W : World), Below wr.heap.size wr W → W.cell? ⟨g2, 0, none⟩ = some (.slice a k cap) → W.cell? ⟨g3, 0, none⟩ = some (.slice a' k cap') → W.cell? ⟨g4, 0, none⟩ = some (.slice (some ⟨gz, 0, none⟩) k k) → wpAnyH Try.prog .any O QQ (fun w' => Below wr.heap.size wr w') 12 #[true, false, false, true, true, true, true, false, true, true, true, true, false, false, true, true, false, false, false, false, false, false, false] ⟨#[.slice a len cap, .slice a' len' cap', undef, undef, .bool false, .int .i64 k, .slice (some ⟨gx, 0, none⟩) k k, .slice (some ⟨gz, 0, none⟩) k k, .int .i64 k, u9, u10, u11, u12, u13, u14, u15, u16, u17, u18, u19, u20, .int .i64 k, .int .i64 k, .bool false, u24, u25, u26, u27, u28, u29, u30, u31, u32, u33, u34, u35, u36, u37, .slice (some ⟨gx, 0, none⟩) k k, u39, u40, .slice a len cap, .int .i64 k, .slice a k cap, .slice (some ⟨g2, 0, none⟩) 1 1, u45, .slice a' len' cap', .int .i64 k, .slice a' k cap', .slice (some ⟨g3, 0, none⟩) 1 1, u50, u51, .slice (some ⟨gz, 0, none⟩) k k, .slice (some ⟨g4, 0, none⟩) 1 1, u54, u55, u56, u57, u58, u59], []⟩ W := by
          intro g2 g3 g4 W hS h2 h3 h4
          refine wpAnyH_ready (rs := [1]) (by rw [HO.out]; kernel_rfl) (by simp) ?_
          refine AllReadyH.cons (o := _) (by rw [HO.out]; simp only [List.getElem?_toArray, List.getElem?_cons_succ, List.getElem?_cons_zero]; rfl) (fun K hK => ?_) ?_
          · go_simp
            refine hK.out _ _ (hS.alloc hS.size _) (fun _ => ?_)
            simp only [Act.put, List.setIfInBounds_toArray, List.set_cons_zero, List.set_cons_succ]
            exact k0_1234 _ _ _ _ _ (hS.alloc hS.size _) (cell_new rfl) (cell_step h2) (cell_step h3) (cell_step h4)
          exact AllReadyH.nil
        have k1_12 : ∀ (g1 : Nat) (g2 : Nat) (W : World), Below wr.heap.size wr W → W.cell? ⟨g2, 0, none⟩ = some (.slice a k cap) → wpAnyH Try.prog .any O QQ (fun w' => Below wr.heap.size wr w') 12 #[true, true, true, true, true, true, true, false, true, true, true, false, false, false, true, false, false, false, false, false, false, false, false] ⟨#[.slice a len cap, .slice a' len' cap', undef, undef, .bool false, .int .i64 k, .slice (some ⟨gx, 0, none⟩) k k, .slice (some ⟨gz, 0, none⟩) k k, .int .i64 k, u9, u10, u11, u12, u13, u14, u15, u16, u17, u18, u19, u20, .int .i64 k, .int .i64 k, .bool false, u24, u25, u26, u27, u28, u29, u30, u31, u32, u33, u34, u35, u36, u37, .slice (some ⟨gx, 0, none⟩) k k, .slice (some ⟨g1, 0, none⟩) 1 1, .int .u32 (M1 : Nat), .slice a len cap, .int .i64 k, .slice a k cap, .slice (some ⟨g2, 0, none⟩) 1 1, u45, .slice a' len' cap', .int .i64 k, .slice a' k cap', u49, u50, u51, .slice (some ⟨gz, 0, none⟩) k k, u53, u54, u55, u56, u57, u58, u59], []⟩ W := by
          intro g1 g2 W hS h2
          refine wpAnyH_ready (rs := [7, 11, 15]) (by rw [HO.out]; kernel_rfl) (by simp) ?_
          refine AllReadyH.cons (o := _) (by rw [HO.out]; simp only [List.getElem?_toArray, List.getElem?_cons_succ, List.getElem?_cons_zero]; rfl) (fun K hK => ?_) ?_
          · go_simp
            refine (c2 _ _ (b2.below hS) h2).mono ?_
            rintro e w' ⟨rfl, hw⟩
            obtain rfl := hw.symm
            refine hK.out _ _ hS (fun _ => ?_)
            simp only [Act.put, List.setIfInBounds_toArray, List.set_cons_zero, List.set_cons_succ]
            exact k2_12 _ _ _ hS
          refine AllReadyH.cons (o := _) (by rw [HO.out]; simp only [List.getElem?_toArray, List.getElem?_cons_succ, List.getElem?_cons_zero]; rfl) (fun K hK => ?_) ?_
          · go_simp
            refine hK.out _ _ (hS.alloc hS.size _) (fun _ => ?_)
            simp only [Act.put, List.setIfInBounds_toArray, List.set_cons_zero, List.set_cons_succ]
            exact k1_123 _ _ _ _ (hS.alloc hS.size _) (cell_step h2) (cell_new rfl)
          refine AllReadyH.cons (o := _) (by rw [HO.out]; simp only [List.getElem?_toArray, List.getElem?_cons_succ, List.getElem?_cons_zero]; rfl) (fun K hK => ?_) ?_
          · go_simp
            refine hK.out _ _ (hS.alloc hS.size _) (fun _ => ?_)
            simp only [Act.put, List.setIfInBounds_toArray, List.set_cons_zero, List.set_cons_succ]
            exact k1_124 _ _ _ _ (hS.alloc hS.size _) (cell_step h2) (cell_new rfl)
          exact AllReadyH.nil
        have k1_13 : ∀ (g1 : Nat) (g3 : Nat) (W : World), Below wr.heap.size wr W → W.cell? ⟨g3, 0, none⟩ = some (.slice a' k cap') → wpAnyH Try.prog .any O QQ (fun w' => Below wr.heap.size wr w') 12 #[true, true, true, true, true, true, false, false, true, true, true, true, false, false, true, false, false, false, false, false, false, false, false] ⟨#[.slice a len cap, .slice a' len' cap', undef, undef, .bool false, .int .i64 k, .slice (some ⟨gx, 0, none⟩) k k, .slice (some ⟨gz, 0, none⟩) k k, .int .i64 k, u9, u10, u11, u12, u13, u14, u15, u16, u17, u18, u19, u20, .int .i64 k, .int .i64 k, .bool false, u24, u25, u26, u27, u28, u29, u30, u31, u32, u33, u34, u35, u36, u37, .slice (some ⟨gx, 0, none⟩) k k, .slice (some ⟨g1, 0, none⟩) 1 1, .int .u32 (M1 : Nat), .slice a len cap, .int .i64 k, .slice a k cap, u44, u45, .slice a' len' cap', .int .i64 k, .slice a' k cap', .slice (some ⟨g3, 0, none⟩) 1 1, u50, u51, .slice (some ⟨gz, 0, none⟩) k k, u53, u54, u55, u56, u57, u58, u59], []⟩ W := by
          intro g1 g3 W hS h3
          refine wpAnyH_ready (rs := [6, 15]) (by rw [HO.out]; kernel_rfl) (by simp) ?_
          refine AllReadyH.cons (o := _) (by rw [HO.out]; simp only [List.getElem?_toArray, List.getElem?_cons_succ, List.getElem?_cons_zero]; rfl) (fun K hK => ?_) ?_
          · go_simp
            refine hK.out _ _ (hS.alloc hS.size _) (fun _ => ?_)
            simp only [Act.put, List.setIfInBounds_toArray, List.set_cons_zero, List.set_cons_succ]
            exact k1_123 _ _ _ _ (hS.alloc hS.size _) (cell_new rfl) (cell_step h3)
          refine AllReadyH.cons (o := _) (by rw [HO.out]; simp only [List.getElem?_toArray, List.getElem?_cons_succ, List.getElem?_cons_zero]; rfl) (fun K hK => ?_) ?_
          · go_simp
            refine hK.out _ _ (hS.alloc hS.size _) (fun _ => ?_)
            simp only [Act.put, List.setIfInBounds_toArray, List.set_cons_zero, List.set_cons_succ]
            exact k1_134 _ _ _ _ (hS.alloc hS.size _) (cell_step h3) (cell_new rfl)
          exact AllReadyH.nil
        have k1_14 : ∀ (g1 : Nat) (g4 : Nat) (W : World), Below wr.heap.size wr W → W.cell? ⟨g4, 0, none⟩ = some (.slice (some ⟨gz, 0, none⟩) k k) → wpAnyH Try.prog .any O QQ (fun w' => Below wr.heap.size wr w') 12 #[true, true, true, true, true, true, false, false, true, true, true, false, false, false, true, true, false, false, false, false, false, false, false] ⟨#[.slice a len cap, .slice a' len' cap', undef, undef, .bool false, .int .i64 k, .slice (some ⟨gx, 0, none⟩) k k, .slice (some ⟨gz, 0, none⟩) k k, .int .i64 k, u9, u10, u11, u12, u13, u14, u15, u16, u17, u18, u19, u20, .int .i64 k, .int .i64 k, .bool false, u24, u25, u26, u27, u28, u29, u30, u31, u32, u33, u34, u35, u36, u37, .slice (some ⟨gx, 0, none⟩) k k, .slice (some ⟨g1, 0, none⟩) 1 1, .int .u32 (M1 : Nat), .slice a len cap, .int .i64 k, .slice a k cap, u44, u45, .slice a' len' cap', .int .i64 k, .slice a' k cap', u49, u50, u51, .slice (some ⟨gz, 0, none⟩) k k, .slice (some ⟨g4, 0, none⟩) 1 1, u54, u55, u56, u57, u58, u59], []⟩ W := by
          intro g1 g4 W hS h4
          refine wpAnyH_ready (rs := [6, 11]) (by rw [HO.out]; kernel_rfl) (by simp) ?_
          refine AllReadyH.cons (o := _) (by rw [HO.out]; simp only [List.getElem?_toArray, List.getElem?_cons_succ, List.getElem?_cons_zero]; rfl) (fun K hK => ?_) ?_
          · go_simp
            refine hK.out _ _ (hS.alloc hS.size _) (fun _ => ?_)
            simp only [Act.put, List.setIfInBounds_toArray, List.set_cons_zero, List.set_cons_succ]
            exact k1_124 _ _ _ _ (hS.alloc hS.size _) (cell_new rfl) (cell_step h4)
          refine AllReadyH.cons (o := _) (by rw [HO.out]; simp only [List.getElem?_toArray, List.getElem?_cons_succ, List.getElem?_cons_zero]; rfl) (fun K hK => ?_) ?_
          · go_simp
            refine hK.out _ _ (hS.alloc hS.size _) (fun _ => ?_)
            simp only [Act.put, List.setIfInBounds_toArray, List.set_cons_zero, List.set_cons_succ]
            exact k1_134 _ _ _ _ (hS.alloc hS.size _) (cell_new rfl) (cell_step h4)
          exact AllReadyH.nil
        have k0_12 : ∀ (g1 : Nat) (g2 : Nat) (W : World), Below wr.heap.size wr W → W.cell? ⟨g1, 0, none⟩ = some (.slice (some ⟨gx, 0, none⟩) k k) → W.cell? ⟨g2, 0, none⟩ = some (.slice a k cap) → wpAnyH Try.prog .any O QQ (fun w' => Below wr.heap.size wr w') 13 #[true, true, false, true, true, true, true, false, true, true, true, false, false, false, true, false, false, false, false, false, false, false, false] ⟨#[.slice a len cap, .slice a' len' cap', undef, undef, .bool false, .int .i64 k, .slice (some ⟨gx, 0, none⟩) k k, .slice (some ⟨gz, 0, none⟩) k k, .int .i64 k, u9, u10, u11, u12, u13, u14, u15, u16, u17, u18, u19, u20, .int .i64 k, .int .i64 k, .bool false, u24, u25, u26, u27, u28, u29, u30, u31, u32, u33, u34, u35, u36, u37, .slice (some ⟨gx, 0, none⟩) k k, .slice (some ⟨g1, 0, none⟩) 1 1, u40, .slice a len cap, .int .i64 k, .slice a k cap, .slice (some ⟨g2, 0, none⟩) 1 1, u45, .slice a' len' cap', .int .i64 k, .slice a' k cap', u49, u50, u51, .slice (some ⟨gz, 0, none⟩) k k, u53, u54, u55, u56, u57, u58, u59], []⟩ W := by
          intro g1 g2 W hS h1 h2
          refine wpAnyH_ready (rs := [2, 11, 15]) (by rw [HO.out]; kernel_rfl) (by simp) ?_
          refine AllReadyH.cons (o := _) (by rw [HO.out]; simp only [List.getElem?_toArray, List.getElem?_cons_succ, List.getElem?_cons_zero]; rfl) (fun K hK => ?_) ?_
          · go_simp
            refine (c1 _ _ (b1.below hS) h1).mono ?_
            rintro e w' ⟨rfl, hw⟩
            obtain rfl := hw.symm
            refine hK.out _ _ hS (fun _ => ?_)
            simp only [Act.put, List.setIfInBounds_toArray, List.set_cons_zero, List.set_cons_succ]
            exact k1_12 _ _ _ hS h2
          refine AllReadyH.cons (o := _) (by rw [HO.out]; simp only [List.getElem?_toArray, List.getElem?_cons_succ, List.getElem?_cons_zero]; rfl) (fun K hK => ?_) ?_
          · go_simp
            refine hK.out _ _ (hS.alloc hS.size _) (fun _ => ?_)
            simp only [Act.put, List.setIfInBounds_toArray, List.set_cons_zero, List.set_cons_succ]
            exact k0_123 _ _ _ _ (hS.alloc hS.size _) (cell_step h1) (cell_step h2) (cell_new rfl)
          refine AllReadyH.cons (o := _) (by rw [HO.out]; simp only [List.getElem?_toArray, List.getElem?_cons_succ, List.getElem?_cons_zero]; rfl) (fun K hK => ?_) ?_
          · go_simp
            refine hK.out _ _ (hS.alloc hS.size _) (fun _ => ?_)
            simp only [Act.put, List.setIfInBounds_toArray, List.set_cons_zero, List.set_cons_succ]
            exact k0_124 _ _ _ _ (hS.alloc hS.size _) (cell_step h1) (cell_step h2) (cell_new rfl)
          exact AllReadyH.nil
        have k0_13 : ∀ (g1 : Nat) (g3 : Nat) (W : World), Below wr.heap.size wr W → W.cell? ⟨g1, 0, none⟩ = some (.slice (some ⟨gx, 0, none⟩) k k) → W.cell? ⟨g3, 0, none⟩ = some (.slice a' k cap') → wpAnyH Try.prog .any O QQ (fun w' => Below wr.heap.size wr w') 13 #[true, true, false, true, true, true, false, false, true, true, true, true, false, false, true, false, false, false, false, false, false, false, false] ⟨#[.slice a len cap, .slice a' len' cap', undef, undef, .bool false, .int .i64 k, .slice (some ⟨gx, 0, none⟩) k k, .slice (some ⟨gz, 0, none⟩) k k, .int .i64 k, u9, u10, u11, u12, u13, u14, u15, u16, u17, u18, u19, u20, .int .i64 k, .int .i64 k, .bool false, u24, u25, u26, u27, u28, u29, u30, u31, u32, u33, u34, u35, u36, u37, .slice (some ⟨gx, 0, none⟩) k k, .slice (some ⟨g1, 0, none⟩) 1 1, u40, .slice a len cap, .int .i64 k, .slice a k cap, u44, u45, .slice a' len' cap', .int .i64 k, .slice a' k cap', .slice (some ⟨g3, 0, none⟩) 1 1, u50, u51, .slice (some ⟨gz, 0, none⟩) k k, u53, u54, u55, u56, u57, u58, u59], []⟩ W := by
          intro g1 g3 W hS h1 h3
          refine wpAnyH_ready (rs := [2, 6, 15]) (by rw [HO.out]; kernel_rfl) (by simp) ?_
          refine AllReadyH.cons (o := _) (by rw [HO.out]; simp only [List.getElem?_toArray, List.getElem?_cons_succ, List.getElem?_cons_zero]; rfl) (fun K hK => ?_) ?_
          · go_simp
            refine (c1 _ _ (b1.below hS) h1).mono ?_
            rintro e w' ⟨rfl, hw⟩
            obtain rfl := hw.symm
            refine hK.out _ _ hS (fun _ => ?_)
            simp only [Act.put, List.setIfInBounds_toArray, List.set_cons_zero, List.set_cons_succ]
            exact k1_13 _ _ _ hS h3
          refine AllReadyH.cons (o := _) (by rw [HO.out]; simp only [List.getElem?_toArray, List.getElem?_cons_succ, List.getElem?_cons_zero]; rfl) (fun K hK => ?_) ?_
          · go_simp
            refine hK.out _ _ (hS.alloc hS.size _) (fun _ => ?_)
            simp only [Act.put, List.setIfInBounds_toArray, List.set_cons_zero, List.set_cons_succ]
            exact k0_123 _ _ _ _ (hS.alloc hS.size _) (cell_step h1) (cell_new rfl) (cell_step h3)
          refine AllReadyH.cons (o := _) (by rw [HO.out]; simp only [List.getElem?_toArray, List.getElem?_cons_succ, List.getElem?_cons_zero]; rfl) (fun K hK => ?_) ?_
          · go_simp
            refine hK.out _ _ (hS.alloc hS.size _) (fun _ => ?_)
            simp only [Act.put, List.setIfInBounds_toArray, List.set_cons_zero, List.set_cons_succ]
            exact k0_134 _ _ _ _ (hS.alloc hS.size _) (cell_step h1) (cell_step h3) (cell_new rfl)
          exact AllReadyH.nil
        have k0_14 : ∀ (g1 : Nat) (g4 : Nat) (W : World), Below wr.heap.size wr W → W.cell? ⟨g1, 0, none⟩ = some (.slice (some ⟨gx, 0, none⟩) k k) → W.cell? ⟨g4, 0, none⟩ = some (.slice (some ⟨gz, 0, none⟩) k k) → wpAnyH Try.prog .any O QQ (fun w' => Below wr.heap.size wr w') 13 #[true, true, false, true, true, true, false, false, true, true, true, false, false, false, true, true, false, false, false, false, false, false, false] ⟨#[.slice a len cap, .slice a' len' cap', undef, undef, .bool false, .int .i64 k, .slice (some ⟨gx, 0, none⟩) k k, .slice (some ⟨gz, 0, none⟩) k k, .int .i64 k, u9, u10, u11, u12, u13, u14, u15, u16, u17, u18, u19, u20, .int .i64 k, .int .i64 k, .bool false, u24, u25, u26, u27, u28, u29, u30, u31, u32, u33, u34, u35, u36, u37, .slice (some ⟨gx, 0, none⟩) k k, .slice (some ⟨g1, 0, none⟩) 1 1, u40, .slice a len cap, .int .i64 k, .slice a k cap, u44, u45, .slice a' len' cap', .int .i64 k, .slice a' k cap', u49, u50, u51, .slice (some ⟨gz, 0, none⟩) k k, .slice (some ⟨g4, 0, none⟩) 1 1, u54, u55, u56, u57, u58, u59], []⟩ W := by
          intro g1 g4 W hS h1 h4
          refine wpAnyH_ready (rs := [2, 6, 11]) (by rw [HO.out]; kernel_rfl) (by simp) ?_
          refine AllReadyH.cons (o := _) (by rw [HO.out]; simp only [List.getElem?_toArray, List.getElem?_cons_succ, List.getElem?_cons_zero]; rfl) (fun K hK => ?_) ?_
          · go_simp
            refine (c1 _ _ (b1.below hS) h1).mono ?_
            rintro e w' ⟨rfl, hw⟩
            obtain rfl := hw.symm
            refine hK.out _ _ hS (fun _ => ?_)
            simp only [Act.put, List.setIfInBounds_toArray, List.set_cons_zero, List.set_cons_succ]
            exact k1_14 _ _ _ hS h4
          refine AllReadyH.cons (o := _) (by rw [HO.out]; simp only [List.getElem?_toArray, List.getElem?_cons_succ, List.getElem?_cons_zero]; rfl) (fun K hK => ?_) ?_
          · go_simp
            refine hK.out _ _ (hS.alloc hS.size _) (fun _ => ?_)
            simp only [Act.put, List.setIfInBounds_toArray, List.set_cons_zero, List.set_cons_succ]
            exact k0_124 _ _ _ _ (hS.alloc hS.size _) (cell_step h1) (cell_new rfl) (cell_step h4)
          refine AllReadyH.cons (o := _) (by rw [HO.out]; simp only [List.getElem?_toArray, List.getElem?_cons_succ, List.getElem?_cons_zero]; rfl) (fun K hK => ?_) ?_
          · go_simp
            refine hK.out _ _ (hS.alloc hS.size _) (fun _ => ?_)
            simp only [Act.put, List.setIfInBounds_toArray, List.set_cons_zero, List.set_cons_succ]
            exact k0_134 _ _ _ _ (hS.alloc hS.size _) (cell_step h1) (cell_new rfl) (cell_step h4)
          exact AllReadyH.nil
        have k0_23 : ∀ (g2 : Nat) (g3 : Nat) (W : World), Below wr.heap.size wr W → W.cell? ⟨g2, 0, none⟩ = some (.slice a k cap) → W.cell? ⟨g3, 0, none⟩ = some (.slice a' k cap') → wpAnyH Try.prog .any O QQ (fun w' => Below wr.heap.size wr w') 13 #[true, false, false, true, true, true, true, false, true, true, true, true, false, false, true, false, false, false, false, false, false, false, false] ⟨#[.slice a len cap, .slice a' len' cap', undef, undef, .bool false, .int .i64 k, .slice (some ⟨gx, 0, none⟩) k k, .slice (some ⟨gz, 0, none⟩) k k, .int .i64 k, u9, u10, u11, u12, u13, u14, u15, u16, u17, u18, u19, u20, .int .i64 k, .int .i64 k, .bool false, u24, u25, u26, u27, u28, u29, u30, u31, u32, u33, u34, u35, u36, u37, .slice (some ⟨gx, 0, none⟩) k k, u39, u40, .slice a len cap, .int .i64 k, .slice a k cap, .slice (some ⟨g2, 0, none⟩) 1 1, u45, .slice a' len' cap', .int .i64 k, .slice a' k cap', .slice (some ⟨g3, 0, none⟩) 1 1, u50, u51, .slice (some ⟨gz, 0, none⟩) k k, u53, u54, u55, u56, u57, u58, u59], []⟩ W := by
          intro g2 g3 W hS h2 h3
          refine wpAnyH_ready (rs := [1, 15]) (by rw [HO.out]; kernel_rfl) (by simp) ?_
          refine AllReadyH.cons (o := _) (by rw [HO.out]; simp only [List.getElem?_toArray, List.getElem?_cons_succ, List.getElem?_cons_zero]; rfl) (fun K hK => ?_) ?_
          · go_simp
            refine hK.out _ _ (hS.alloc hS.size _) (fun _ => ?_)
            simp only [Act.put, List.setIfInBounds_toArray, List.set_cons_zero, List.set_cons_succ]
            exact k0_123 _ _ _ _ (hS.alloc hS.size _) (cell_new rfl) (cell_step h2) (cell_step h3)
          refine AllReadyH.cons (o := _) (by rw [HO.out]; simp only [List.getElem?_toArray, List.getElem?_cons_succ, List.getElem?_cons_zero]; rfl) (fun K hK => ?_) ?_
          · go_simp
            refine hK.out _ _ (hS.alloc hS.size _) (fun _ => ?_)
            simp only [Act.put, List.setIfInBounds_toArray, List.set_cons_zero, List.set_cons_succ]
            exact k0_234 _ _ _ _ (hS.alloc hS.size _) (cell_step h2) (cell_step h3) (cell_new rfl)
          exact AllReadyH.nil
        have k0_24 : ∀ (g2 : Nat) (g4 : Nat) (W : World), Below wr.heap.size wr W → W.cell? ⟨g2, 0, none⟩ = some (.slice a k cap) → W.cell? ⟨g4, 0, none⟩ = some (.slice (some ⟨gz, 0, none⟩) k k) → wpAnyH Try.prog .any O QQ (fun w' => Below wr.heap.size wr w') 13 #[true, false, false, true, true, true, true, false, true, true, true, false, false, false, true, true, false, false, false, false, false, false, false] ⟨#[.slice a len cap, .slice a' len' cap', undef, undef, .bool false, .int .i64 k, .slice (some ⟨gx, 0, none⟩) k k, .slice (some ⟨gz, 0, none⟩) k k, .int .i64 k, u9, u10, u11, u12, u13, u14, u15, u16, u17, u18, u19, u20, .int .i64 k, .int .i64 k, .bool false, u24, u25, u26, u27, u28, u29, u30, u31, u32, u33, u34, u35, u36, u37, .slice (some ⟨gx, 0, none⟩) k k, u39, u40, .slice a len cap, .int .i64 k, .slice a k cap, .slice (some ⟨g2, 0, none⟩) 1 1, u45, .slice a' len' cap', .int .i64 k, .slice a' k cap', u49, u50, u51, .slice (some ⟨gz, 0, none⟩) k k, .slice (some ⟨g4, 0, none⟩) 1 1, u54, u55, u56, u57, u58, u59], []⟩ W := by
          intro g2 g4 W hS h2 h4
          refine wpAnyH_ready (rs := [1, 11]) (by rw [HO.out]; kernel_rfl) (by simp) ?_
          refine AllReadyH.cons (o := _) (by rw [HO.out]; simp only [List.getElem?_toArray, List.getElem?_cons_succ, List.getElem?_cons_zero]; rfl) (fun K hK => ?_) ?_
          · go_simp
            refine hK.out _ _ (hS.alloc hS.size _) (fun _ => ?_)
            simp only [Act.put, List.setIfInBounds_toArray, List.set_cons_zero, List.set_cons_succ]
            exact k0_124 _ _ _ _ (hS.alloc hS.size _) (cell_new rfl) (cell_step h2) (cell_step h4)
          refine AllReadyH.cons (o := _) (by rw [HO.out]; simp only [List.getElem?_toArray, List.getElem?_cons_succ, List.getElem?_cons_zero]; rfl) (fun K hK => ?_) ?_
          · go_simp
            refine hK.out _ _ (hS.alloc hS.size _) (fun _ => ?_)
            simp only [Act.put, List.setIfInBounds_toArray, List.set_cons_zero, List.set_cons_succ]
            exact k0_234 _ _ _ _ (hS.alloc hS.size _) (cell_step h2) (cell_new rfl) (cell_step h4)
          exact AllReadyH.nil
        have k0_34 : ∀ (g3 : Nat) (g4 : Nat) (W : World), Below wr.heap.size wr W → W.cell? ⟨g3, 0, none⟩ = some (.slice a' k cap') → W.cell? ⟨g4, 0, none⟩ = some (.slice (some ⟨gz, 0, none⟩) k k) → wpAnyH Try.prog .any O QQ (fun w' => Below wr.heap.size wr w') 13 #[true, false, false, true, true, true, false, false, true, true, true, true, false, false, true, true, false, false, false, false, false, false, false] ⟨#[.slice a len cap, .slice a' len' cap', undef, undef, .bool false, .int .i64 k, .slice (some ⟨gx, 0, none⟩) k k, .slice (some ⟨gz, 0, none⟩) k k, .int .i64 k, u9, u10, u11, u12, u13, u14, u15, u16, u17, u18, u19, u20, .int .i64 k, .int .i64 k, .bool false, u24, u25, u26, u27, u28, u29, u30, u31, u32, u33, u34, u35, u36, u37, .slice (some ⟨gx, 0, none⟩) k k, u39, u40, .slice a len cap, .int .i64 k, .slice a k cap, u44, u45, .slice a' len' cap', .int .i64 k, .slice a' k cap', .slice (some ⟨g3, 0, none⟩) 1 1, u50, u51, .slice (some ⟨gz, 0, none⟩) k k, .slice (some ⟨g4, 0, none⟩) 1 1, u54, u55, u56, u57, u58, u59], []⟩ W := by
          intro g3 g4 W hS h3 h4
          refine wpAnyH_ready (rs := [1, 6]) (by rw [HO.out]; kernel_rfl) (by simp) ?_
          refine AllReadyH.cons (o := _) (by rw [HO.out]; simp only [List.getElem?_toArray, List.getElem?_cons_succ, List.getElem?_cons_zero]; rfl) (fun K hK => ?_) ?_
          · go_simp
            refine hK.out _ _ (hS.alloc hS.size _) (fun _ => ?_)
            simp only [Act.put, List.setIfInBounds_toArray, List.set_cons_zero, List.set_cons_succ]
            exact k0_134 _ _ _ _ (hS.alloc hS.size _) (cell_new rfl) (cell_step h3) (cell_step h4)
          refine AllReadyH.cons (o := _) (by rw [HO.out]; simp only [List.getElem?_toArray, List.getElem?_cons_succ, List.getElem?_cons_zero]; rfl) (fun K hK => ?_) ?_
          · go_simp
            refine hK.out _ _ (hS.alloc hS.size _) (fun _ => ?_)
            simp only [Act.put, List.setIfInBounds_toArray, List.set_cons_zero, List.set_cons_succ]
            exact k0_234 _ _ _ _ (hS.alloc hS.size _) (cell_new rfl) (cell_step h3) (cell_step h4)
          exact AllReadyH.nil
        have k1_1 : ∀ (g1 : Nat) (W : World), Below wr.heap.size wr W → wpAnyH Try.prog .any O QQ (fun w' => Below wr.heap.size wr w') 13 #[true, true, true, true, true, true, false, false, true, true, true, false, false, false, true, false, false, false, false, false, false, false, false] ⟨#[.slice a len cap, .slice a' len' cap', undef, undef, .bool false, .int .i64 k, .slice (some ⟨gx, 0, none⟩) k k, .slice (some ⟨gz, 0, none⟩) k k, .int .i64 k, u9, u10, u11, u12, u13, u14, u15, u16, u17, u18, u19, u20, .int .i64 k, .int .i64 k, .bool false, u24, u25, u26, u27, u28, u29, u30, u31, u32, u33, u34, u35, u36, u37, .slice (some ⟨gx, 0, none⟩) k k, .slice (some ⟨g1, 0, none⟩) 1 1, .int .u32 (M1 : Nat), .slice a len cap, .int .i64 k, .slice a k cap, u44, u45, .slice a' len' cap', .int .i64 k, .slice a' k cap', u49, u50, u51, .slice (some ⟨gz, 0, none⟩) k k, u53, u54, u55, u56, u57, u58, u59], []⟩ W := by
          intro g1 W hS
          refine wpAnyH_ready (rs := [6, 11, 15]) (by rw [HO.out]; kernel_rfl) (by simp) ?_
          refine AllReadyH.cons (o := _) (by rw [HO.out]; simp only [List.getElem?_toArray, List.getElem?_cons_succ, List.getElem?_cons_zero]; rfl) (fun K hK => ?_) ?_
          · go_simp
            refine hK.out _ _ (hS.alloc hS.size _) (fun _ => ?_)
            simp only [Act.put, List.setIfInBounds_toArray, List.set_cons_zero, List.set_cons_succ]
            exact k1_12 _ _ _ (hS.alloc hS.size _) (cell_new rfl)
          refine AllReadyH.cons (o := _) (by rw [HO.out]; simp only [List.getElem?_toArray, List.getElem?_cons_succ, List.getElem?_cons_zero]; rfl) (fun K hK => ?_) ?_
          · go_simp
            refine hK.out _ _ (hS.alloc hS.size _) (fun _ => ?_)
            simp only [Act.put, List.setIfInBounds_toArray, List.set_cons_zero, List.set_cons_succ]
            exact k1_13 _ _ _ (hS.alloc hS.size _) (cell_new rfl)
          refine AllReadyH.cons (o := _) (by rw [HO.out]; simp only [List.getElem?_toArray, List.getElem?_cons_succ, List.getElem?_cons_zero]; rfl) (fun K hK => ?_) ?_
          · go_simp
            refine hK.out _ _ (hS.alloc hS.size _) (fun _ => ?_)
            simp only [Act.put, List.setIfInBounds_toArray, List.set_cons_zero, List.set_cons_succ]
            exact k1_14 _ _ _ (hS.alloc hS.size _) (cell_new rfl)
          exact AllReadyH.nil
        have k0_1 : ∀ (g1 : Nat) (W : World), Below wr.heap.size wr W → W.cell? ⟨g1, 0, none⟩ = some (.slice (some ⟨gx, 0, none⟩) k k) → wpAnyH Try.prog .any O QQ (fun w' => Below wr.heap.size wr w') 14 #[true, true, false, true, true, true, false, false, true, true, true, false, false, false, true, false, false, false, false, false, false, false, false] ⟨#[.slice a len cap, .slice a' len' cap', undef, undef, .bool false, .int .i64 k, .slice (some ⟨gx, 0, none⟩) k k, .slice (some ⟨gz, 0, none⟩) k k, .int .i64 k, u9, u10, u11, u12, u13, u14, u15, u16, u17, u18, u19, u20, .int .i64 k, .int .i64 k, .bool false, u24, u25, u26, u27, u28, u29, u30, u31, u32, u33, u34, u35, u36, u37, .slice (some ⟨gx, 0, none⟩) k k, .slice (some ⟨g1, 0, none⟩) 1 1, u40, .slice a len cap, .int .i64 k, .slice a k cap, u44, u45, .slice a' len' cap', .int .i64 k, .slice a' k cap', u49, u50, u51, .slice (some ⟨gz, 0, none⟩) k k, u53, u54, u55, u56, u57, u58, u59], []⟩ W := by
          intro g1 W hS h1
          refine wpAnyH_ready (rs := [2, 6, 11, 15]) (by rw [HO.out]; kernel_rfl) (by simp) ?_
          refine AllReadyH.cons (o := _) (by rw [HO.out]; simp only [List.getElem?_toArray, List.getElem?_cons_succ, List.getElem?_cons_zero]; rfl) (fun K hK => ?_) ?_
          · go_simp
            refine (c1 _ _ (b1.below hS) h1).mono ?_
            rintro e w' ⟨rfl, hw⟩
            obtain rfl := hw.symm
            refine hK.out _ _ hS (fun _ => ?_)
            simp only [Act.put, List.setIfInBounds_toArray, List.set_cons_zero, List.set_cons_succ]
            exact k1_1 _ _ hS
          refine AllReadyH.cons (o := _) (by rw [HO.out]; simp only [List.getElem?_toArray, List.getElem?_cons_succ, List.getElem?_cons_zero]; rfl) (fun K hK => ?_) ?_
          · go_simp
            refine hK.out _ _ (hS.alloc hS.size _) (fun _ => ?_)
            simp only [Act.put, List.setIfInBounds_toArray, List.set_cons_zero, List.set_cons_succ]
            exact k0_12 _ _ _ (hS.alloc hS.size _) (cell_step h1) (cell_new rfl)
          refine AllReadyH.cons (o := _) (by rw [HO.out]; simp only [List.getElem?_toArray, List.getElem?_cons_succ, List.getElem?_cons_zero]; rfl) (fun K hK => ?_) ?_
          · go_simp
            refine hK.out _ _ (hS.alloc hS.size _) (fun _ => ?_)
            simp only [Act.put, List.setIfInBounds_toArray, List.set_cons_zero, List.set_cons_succ]
            exact k0_13 _ _ _ (hS.alloc hS.size _) (cell_step h1) (cell_new rfl)
          refine AllReadyH.cons (o := _) (by rw [HO.out]; simp only [List.getElem?_toArray, List.getElem?_cons_succ, List.getElem?_cons_zero]; rfl) (fun K hK => ?_) ?_
          · go_simp
            refine hK.out _ _ (hS.alloc hS.size _) (fun _ => ?_)
            simp only [Act.put, List.setIfInBounds_toArray, List.set_cons_zero, List.set_cons_succ]
            exact k0_14 _ _ _ (hS.alloc hS.size _) (cell_step h1) (cell_new rfl)
          exact AllReadyH.nil
        have k0_2 : ∀ (g2 : Nat) (W : World), Below wr.heap.size wr W → W.cell? ⟨g2, 0, none⟩ = some (.slice a k cap) → wpAnyH Try.prog .any O QQ (fun w' => Below wr.heap.size wr w') 14 #[true, false, false, true, true, true, true, false, true, true, true, false, false, false, true, false, false, false, false, false, false, false, false] ⟨#[.slice a len cap, .slice a' len' cap', undef, undef, .bool false, .int .i64 k, .slice (some ⟨gx, 0, none⟩) k k, .slice (some ⟨gz, 0, none⟩) k k, .int .i64 k, u9, u10, u11, u12, u13, u14, u15, u16, u17, u18, u19, u20, .int .i64 k, .int .i64 k, .bool false, u24, u25, u26, u27, u28, u29, u30, u31, u32, u33, u34, u35, u36, u37, .slice (some ⟨gx, 0, none⟩) k k, u39, u40, .slice a len cap, .int .i64 k, .slice a k cap, .slice (some ⟨g2, 0, none⟩) 1 1, u45, .slice a' len' cap', .int .i64 k, .slice a' k cap', u49, u50, u51, .slice (some ⟨gz, 0, none⟩) k k, u53, u54, u55, u56, u57, u58, u59], []⟩ W := by
          intro g2 W hS h2
          refine wpAnyH_ready (rs := [1, 11, 15]) (by rw [HO.out]; kernel_rfl) (by simp) ?_
          refine AllReadyH.cons (o := _) (by rw [HO.out]; simp only [List.getElem?_toArray, List.getElem?_cons_succ, List.getElem?_cons_zero]; rfl) (fun K hK => ?_) ?_
          · go_simp
            refine hK.out _ _ (hS.alloc hS.size _) (fun _ => ?_)
            simp only [Act.put, List.setIfInBounds_toArray, List.set_cons_zero, List.set_cons_succ]
            exact k0_12 _ _ _ (hS.alloc hS.size _) (cell_new rfl) (cell_step h2)
          refine AllReadyH.cons (o := _) (by rw [HO.out]; simp only [List.getElem?_toArray, List.getElem?_cons_succ, List.getElem?_cons_zero]; rfl) (fun K hK => ?_) ?_
          · go_simp
            refine hK.out _ _ (hS.alloc hS.size _) (fun _ => ?_)
            simp only [Act.put, List.setIfInBounds_toArray, List.set_cons_zero, List.set_cons_succ]
            exact k0_23 _ _ _ (hS.alloc hS.size _) (cell_step h2) (cell_new rfl)
          refine AllReadyH.cons (o := _) (by rw [HO.out]; simp only [List.getElem?_toArray, List.getElem?_cons_succ, List.getElem?_cons_zero]; rfl) (fun K hK => ?_) ?_
          · go_simp
            refine hK.out _ _ (hS.alloc hS.size _) (fun _ => ?_)
            simp only [Act.put, List.setIfInBounds_toArray, List.set_cons_zero, List.set_cons_succ]
            exact k0_24 _ _ _ (hS.alloc hS.size _) (cell_step h2) (cell_new rfl)
          exact AllReadyH.nil
        have k0_3 : ∀ (g3 : Nat) (W : World), Below wr.heap.size wr W → W.cell? ⟨g3, 0, none⟩ = some (.slice a' k cap') → wpAnyH Try.prog .any O QQ (fun w' => Below wr.heap.size wr w') 14 #[true, false, false, true, true, true, false, false, true, true, true, true, false, false, true, false, false, false, false, false, false, false, false] ⟨#[.slice a len cap, .slice a' len' cap', undef, undef, .bool false, .int .i64 k, .slice (some ⟨gx, 0, none⟩) k k, .slice (some ⟨gz, 0, none⟩) k k, .int .i64 k, u9, u10, u11, u12, u13, u14, u15, u16, u17, u18, u19, u20, .int .i64 k, .int .i64 k, .bool false, u24, u25, u26, u27, u28, u29, u30, u31, u32, u33, u34, u35, u36, u37, .slice (some ⟨gx, 0, none⟩) k k, u39, u40, .slice a len cap, .int .i64 k, .slice a k cap, u44, u45, .slice a' len' cap', .int .i64 k, .slice a' k cap', .slice (some ⟨g3, 0, none⟩) 1 1, u50, u51, .slice (some ⟨gz, 0, none⟩) k k, u53, u54, u55, u56, u57, u58, u59], []⟩ W := by
          intro g3 W hS h3
          refine wpAnyH_ready (rs := [1, 6, 15]) (by rw [HO.out]; kernel_rfl) (by simp) ?_
          refine AllReadyH.cons (o := _) (by rw [HO.out]; simp only [List.getElem?_toArray, List.getElem?_cons_succ, List.getElem?_cons_zero]; rfl) (fun K hK => ?_) ?_
          · go_simp
            refine hK.out _ _ (hS.alloc hS.size _) (fun _ => ?_)
            simp only [Act.put, List.setIfInBounds_toArray, List.set_cons_zero, List.set_cons_succ]
            exact k0_13 _ _ _ (hS.alloc hS.size _) (cell_new rfl) (cell_step h3)
          refine AllReadyH.cons (o := _) (by rw [HO.out]; simp only [List.getElem?_toArray, List.getElem?_cons_succ, List.getElem?_cons_zero]; rfl) (fun K hK => ?_) ?_
          · go_simp
            refine hK.out _ _ (hS.alloc hS.size _) (fun _ => ?_)
            simp only [Act.put, List.setIfInBounds_toArray, List.set_cons_zero, List.set_cons_succ]
            exact k0_23 _ _ _ (hS.alloc hS.size _) (cell_new rfl) (cell_step h3)
          refine AllReadyH.cons (o := _) (by rw [HO.out]; simp only [List.getElem?_toArray, List.getElem?_cons_succ, List.getElem?_cons_zero]; rfl) (fun K hK => ?_) ?_
          · go_simp
            refine hK.out _ _ (hS.alloc hS.size _) (fun _ => ?_)
            simp only [Act.put, List.setIfInBounds_toArray, List.set_cons_zero, List.set_cons_succ]
            exact k0_34 _ _ _ (hS.alloc hS.size _) (cell_step h3) (cell_new rfl)
          exact AllReadyH.nil
        have k0_4 : ∀ (g4 : Nat) (W : World), Below wr.heap.size wr W → W.cell? ⟨g4, 0, none⟩ = some (.slice (some ⟨gz, 0, none⟩) k k) → wpAnyH Try.prog .any O QQ (fun w' => Below wr.heap.size wr w') 14 #[true, false, false, true, true, true, false, false, true, true, true, false, false, false, true, true, false, false, false, false, false, false, false] ⟨#[.slice a len cap, .slice a' len' cap', undef, undef, .bool false, .int .i64 k, .slice (some ⟨gx, 0, none⟩) k k, .slice (some ⟨gz, 0, none⟩) k k, .int .i64 k, u9, u10, u11, u12, u13, u14, u15, u16, u17, u18, u19, u20, .int .i64 k, .int .i64 k, .bool false, u24, u25, u26, u27, u28, u29, u30, u31, u32, u33, u34, u35, u36, u37, .slice (some ⟨gx, 0, none⟩) k k, u39, u40, .slice a len cap, .int .i64 k, .slice a k cap, u44, u45, .slice a' len' cap', .int .i64 k, .slice a' k cap', u49, u50, u51, .slice (some ⟨gz, 0, none⟩) k k, .slice (some ⟨g4, 0, none⟩) 1 1, u54, u55, u56, u57, u58, u59], []⟩ W := by
          intro g4 W hS h4
          refine wpAnyH_ready (rs := [1, 6, 11]) (by rw [HO.out]; kernel_rfl) (by simp) ?_
          refine AllReadyH.cons (o := _) (by rw [HO.out]; simp only [List.getElem?_toArray, List.getElem?_cons_succ, List.getElem?_cons_zero]; rfl) (fun K hK => ?_) ?_
          · go_simp
            refine hK.out _ _ (hS.alloc hS.size _) (fun _ => ?_)
            simp only [Act.put, List.setIfInBounds_toArray, List.set_cons_zero, List.set_cons_succ]
            exact k0_14 _ _ _ (hS.alloc hS.size _) (cell_new rfl) (cell_step h4)
          refine AllReadyH.cons (o := _) (by rw [HO.out]; simp only [List.getElem?_toArray, List.getElem?_cons_succ, List.getElem?_cons_zero]; rfl) (fun K hK => ?_) ?_
          · go_simp
            refine hK.out _ _ (hS.alloc hS.size _) (fun _ => ?_)
            simp only [Act.put, List.setIfInBounds_toArray, List.set_cons_zero, List.set_cons_succ]
            exact k0_24 _ _ _ (hS.alloc hS.size _) (cell_new rfl) (cell_step h4)
          refine AllReadyH.cons (o := _) (by rw [HO.out]; simp only [List.getElem?_toArray, List.getElem?_cons_succ, List.getElem?_cons_zero]; rfl) (fun K hK => ?_) ?_
          · go_simp
            refine hK.out _ _ (hS.alloc hS.size _) (fun _ => ?_)
            simp only [Act.put, List.setIfInBounds_toArray, List.set_cons_zero, List.set_cons_succ]
            exact k0_34 _ _ _ (hS.alloc hS.size _) (cell_new rfl) (cell_step h4)
          exact AllReadyH.nil
        have k0_ : ∀ (W : World), Below wr.heap.size wr W → wpAnyH Try.prog .any O QQ (fun w' => Below wr.heap.size wr w') 15 #[true, false, false, true, true, true, false, false, true, true, true, false, false, false, true, false, false, false, false, false, false, false, false] ⟨#[.slice a len cap, .slice a' len' cap', undef, undef, .bool false, .int .i64 k, .slice (some ⟨gx, 0, none⟩) k k, .slice (some ⟨gz, 0, none⟩) k k, .int .i64 k, u9, u10, u11, u12, u13, u14, u15, u16, u17, u18, u19, u20, .int .i64 k, .int .i64 k, .bool false, u24, u25, u26, u27, u28, u29, u30, u31, u32, u33, u34, u35, u36, u37, .slice (some ⟨gx, 0, none⟩) k k, u39, u40, .slice a len cap, .int .i64 k, .slice a k cap, u44, u45, .slice a' len' cap', .int .i64 k, .slice a' k cap', u49, u50, u51, .slice (some ⟨gz, 0, none⟩) k k, u53, u54, u55, u56, u57, u58, u59], []⟩ W := by
          intro W hS
          refine wpAnyH_ready (rs := [1, 6, 11, 15]) (by rw [HO.out]; kernel_rfl) (by simp) ?_
          refine AllReadyH.cons (o := _) (by rw [HO.out]; simp only [List.getElem?_toArray, List.getElem?_cons_succ, List.getElem?_cons_zero]; rfl) (fun K hK => ?_) ?_
          · go_simp
            refine hK.out _ _ (hS.alloc hS.size _) (fun _ => ?_)
            simp only [Act.put, List.setIfInBounds_toArray, List.set_cons_zero, List.set_cons_succ]
            exact k0_1 _ _ (hS.alloc hS.size _) (cell_new rfl)
          refine AllReadyH.cons (o := _) (by rw [HO.out]; simp only [List.getElem?_toArray, List.getElem?_cons_succ, List.getElem?_cons_zero]; rfl) (fun K hK => ?_) ?_
          · go_simp
            refine hK.out _ _ (hS.alloc hS.size _) (fun _ => ?_)
            simp only [Act.put, List.setIfInBounds_toArray, List.set_cons_zero, List.set_cons_succ]
            exact k0_2 _ _ (hS.alloc hS.size _) (cell_new rfl)
          refine AllReadyH.cons (o := _) (by rw [HO.out]; simp only [List.getElem?_toArray, List.getElem?_cons_succ, List.getElem?_cons_zero]; rfl) (fun K hK => ?_) ?_
          · go_simp
            refine hK.out _ _ (hS.alloc hS.size _) (fun _ => ?_)
            simp only [Act.put, List.setIfInBounds_toArray, List.set_cons_zero, List.set_cons_succ]
            exact k0_3 _ _ (hS.alloc hS.size _) (cell_new rfl)
          refine AllReadyH.cons (o := _) (by rw [HO.out]; simp only [List.getElem?_toArray, List.getElem?_cons_succ, List.getElem?_cons_zero]; rfl) (fun K hK => ?_) ?_
          · go_simp
            refine hK.out _ _ (hS.alloc hS.size _) (fun _ => ?_)
            simp only [Act.put, List.setIfInBounds_toArray, List.set_cons_zero, List.set_cons_succ]
            exact k0_4 _ _ (hS.alloc hS.size _) (cell_new rfl)
          exact AllReadyH.nil
        refine wp_region_held_drew (S := fun w' => Below wr.heap.size wr w') (by kernel_rfl) (Below.refl _ _).drew (fun hS => ?_)
        rw [show O.size = 23 by rw [HO.out]; rfl]
        refine wpAnyH_take (i := 0) (v := .slice (some ⟨gx, 0, none⟩) k k) (by rw [HO.out]; simp only [List.getElem?_toArray, List.getElem?_cons_succ, List.getElem?_cons_zero]; rfl) (by rw [HO.out]; kernel_rfl) (by rw [HO.out]; kernel_rfl) (by rw [HO.out]; kernel_rfl) (by rw [HQ.out]; exact fun _ _ _ h => h) (Or.inl ⟨by rfl, ?_⟩) (by assumption) ?_
        · intro w hSw
          go_simp
        simp only [Act.put, List.setIfInBounds_toArray, List.set_cons_zero, List.set_cons_succ]
        refine wpAnyH_take (i := 3) (v := .slice a len cap) (by rw [HO.out]; simp only [List.getElem?_toArray, List.getElem?_cons_succ, List.getElem?_cons_zero]; rfl) (by rw [HO.out]; kernel_rfl) (by rw [HO.out]; kernel_rfl) (by rw [HO.out]; kernel_rfl) (by rw [HQ.out]; exact fun _ _ _ h => h) (Or.inl ⟨by rfl, ?_⟩) (by assumption) ?_
        · intro w hSw
          go_simp
        simp only [Act.put, List.setIfInBounds_toArray, List.set_cons_zero, List.set_cons_succ]
        refine wpAnyH_take (i := 4) (v := .int .i64 k) (by rw [HO.out]; simp only [List.getElem?_toArray, List.getElem?_cons_succ, List.getElem?_cons_zero]; rfl) (by rw [HO.out]; kernel_rfl) (by rw [HO.out]; kernel_rfl) (by rw [HO.out]; kernel_rfl) (by rw [HQ.out]; exact fun _ _ _ h => h) (Or.inl ⟨by rfl, ?_⟩) (by assumption) ?_
        · intro w hSw
          go_simp
        simp only [Act.put, List.setIfInBounds_toArray, List.set_cons_zero, List.set_cons_succ]
        refine wpAnyH_take (i := 5) (v := .slice a k cap) (by rw [HO.out]; simp only [List.getElem?_toArray, List.getElem?_cons_succ, List.getElem?_cons_zero]; rfl) (by rw [HO.out]; kernel_rfl) (by rw [HO.out]; kernel_rfl) (by rw [HO.out]; kernel_rfl) (by rw [HQ.out]; exact fun _ _ _ h => h) (Or.inl ⟨by rfl, ?_⟩) (by assumption) ?_
        · intro w hSw
          go_simp
        simp only [Act.put, List.setIfInBounds_toArray, List.set_cons_zero, List.set_cons_succ]
        refine wpAnyH_take (i := 8) (v := .slice a' len' cap') (by rw [HO.out]; simp only [List.getElem?_toArray, List.getElem?_cons_succ, List.getElem?_cons_zero]; rfl) (by rw [HO.out]; kernel_rfl) (by rw [HO.out]; kernel_rfl) (by rw [HO.out]; kernel_rfl) (by rw [HQ.out]; exact fun _ _ _ h => h) (Or.inl ⟨by rfl, ?_⟩) (by assumption) ?_
        · intro w hSw
          go_simp
        simp only [Act.put, List.setIfInBounds_toArray, List.set_cons_zero, List.set_cons_succ]
        refine wpAnyH_take (i := 9) (v := .int .i64 k) (by rw [HO.out]; simp only [List.getElem?_toArray, List.getElem?_cons_succ, List.getElem?_cons_zero]; rfl) (by rw [HO.out]; kernel_rfl) (by rw [HO.out]; kernel_rfl) (by rw [HO.out]; kernel_rfl) (by rw [HQ.out]; exact fun _ _ _ h => h) (Or.inl ⟨by rfl, ?_⟩) (by assumption) ?_
        · intro w hSw
          go_simp
        simp only [Act.put, List.setIfInBounds_toArray, List.set_cons_zero, List.set_cons_succ]
        refine wpAnyH_take (i := 10) (v := .slice a' k cap') (by rw [HO.out]; simp only [List.getElem?_toArray, List.getElem?_cons_succ, List.getElem?_cons_zero]; rfl) (by rw [HO.out]; kernel_rfl) (by rw [HO.out]; kernel_rfl) (by rw [HO.out]; kernel_rfl) (by rw [HQ.out]; exact fun _ _ _ h => h) (Or.inl ⟨by rfl, ?_⟩) (by assumption) ?_
        · intro w hSw
          go_simp
        simp only [Act.put, List.setIfInBounds_toArray, List.set_cons_zero, List.set_cons_succ]
        refine wpAnyH_take (i := 14) (v := .slice (some ⟨gz, 0, none⟩) k k) (by rw [HO.out]; simp only [List.getElem?_toArray, List.getElem?_cons_succ, List.getElem?_cons_zero]; rfl) (by rw [HO.out]; kernel_rfl) (by rw [HO.out]; kernel_rfl) (by rw [HO.out]; kernel_rfl) (by rw [HQ.out]; exact fun _ _ _ h => h) (Or.inl ⟨by rfl, ?_⟩) (by assumption) ?_
        · intro w hSw
          go_simp
        simp only [Act.put, List.setIfInBounds_toArray, List.set_cons_zero, List.set_cons_succ]
        exact k0_ _ hS

theorem walk (a0 : Option Addr) (len0 cap0 : Nat) (z0 : List Int) (a1 : Option Addr) (len1 cap1 : Nat) (z1 : List Int) (w : World) (w0 : IsRow .u8 w a0 len0 cap0 z0) (w1 : IsRow .u8 w a1 len1 cap1 z1) :
    Calls Try.prog 7 #[.slice a0 len0 cap0, .slice a1 len1 cap1] w fun e w' => e = .returned (.bool true) ∧ Below w.heap.size w w' := by
  obtain ⟨zs, hl, hv, hn, hlc, hm⟩ := row_bytes w0
  obtain ⟨ys, hl', hv', hn', hlc', hm'⟩ := row_bytes w1
  clear w0 w1
  obtain ⟨n, hmin⟩ : ∃ n : Nat, (if len1 < len0 then (len1 : Int) else (len0 : Int)) = n := by
    split
    · exact ⟨_, rfl⟩
    · exact ⟨_, rfl⟩
  by_cases h : 500 < n
  · exact walk_long a0 a1 len0 cap0 len1 cap1 n w hmin h
  · exact walk_short a0 a1 len0 cap0 len1 cap1 n zs ys w hmin (by omega) hl hl' hv hv' hn hn' hlc hlc'

set_option maxRecDepth 100000 in
theorem lifted (os : Os) (started : os.Started) (H : Type) (enc : TypeId × Value → H) :
    ReturnsInHanded {} Try.checked os 7 .any (Rows.sumLinearSpec.pre6 enc Try.prog Try.f7 Rows.sumLinearRow.domain false) (Rows.sumLinearSpec.post enc Try.prog Try.f7 false true false false) := by
  refine returnsInHanded_of_change (C := Try.checked) own started (by kernel_rfl) Try.func7
    (ChangeSpec.witness6 (enc := enc) (C := Try.checked) false ⟨#[], #[.slice none 0 0, .slice none 0 0], []⟩ 8 (by kernel_rfl) (by kernel_rfl) (by kernel_rfl) (by kernel_rfl)) ?_
  intro W base args ds gs before hval0 hW hcnd _
  have hval : ∀ (j : Nat) t v, Try.f7.params[j]? = some t → args[j]? = some v → Value.okWide Try.prog W .any base t v := hval0
  have hW' := hW
  obtain ⟨p, q, hA0, hV, rfl, hfz, hnd⟩ := hW
  have hA : DataW.TrodAll enc Try.prog W 0 (fun _ => true) true Try.f7.params.toList args.toList ds p := hA0
  rw [Try.params7] at hA hval
  obtain ⟨v0, vs0, d0, ds0, p0, q0, hargs, rfl, rfl, h0, r0⟩ := trodAll_cons hA
  obtain ⟨v1, vs1, d1, ds1, p1, q1, rfl, rfl, rfl, h1, r1⟩ := trodAll_cons r0
  obtain ⟨rfl, rfl, rfl⟩ := trodAll_nil r1
  obtain rfl : args = #[v0, v1] := by cases args; simp_all
  obtain ⟨rfl, rfl⟩ := trodVars_none hV
  obtain ⟨a0, len0, cap0, rfl⟩ := okWide_slice Try.underlying22 (hval 0 22 v0 rfl rfl)
  have k0 := h0
  have lt0 : ∀ x ∈ p0, x.block < W.heap.size := by obtain ⟨m, hm⟩ := k0; exact DataW.trod_lt m _ _ _ hm
  obtain ⟨z0, w0⟩ : ∃ zs, IsRow .u8 W a0 len0 cap0 zs := by
    obtain ⟨fuel, hf⟩ := h0
    rcases open_ints Try.underlying22 Try.underlying5 (by kernel_rfl) hf with ⟨hcs, _⟩ | ⟨x, l, c, zs, hcs, _, hl, hm, hz, _, hcell, hwz⟩
    · simp [Value.cells] at hcs
      obtain ⟨rfl, rfl, rfl⟩ := hcs
      exact ⟨[], .inl ⟨rfl, rfl, rfl, rfl⟩⟩
    · simp [Value.cells] at hcs
      obtain ⟨rfl, rfl, rfl⟩ := hcs
      exact ⟨zs, .inr ⟨_, rfl, hl, hm, by simpa using hz, hcell, hwz⟩⟩
  obtain ⟨a1, len1, cap1, rfl⟩ := okWide_slice Try.underlying22 (hval 1 22 v1 rfl rfl)
  have k1 := h1
  have lt1 : ∀ x ∈ p1, x.block < W.heap.size := by obtain ⟨m, hm⟩ := k1; exact DataW.trod_lt m _ _ _ hm
  obtain ⟨z1, w1⟩ : ∃ zs, IsRow .u8 W a1 len1 cap1 zs := by
    obtain ⟨fuel, hf⟩ := h1
    rcases open_ints Try.underlying22 Try.underlying5 (by kernel_rfl) hf with ⟨hcs, _⟩ | ⟨x, l, c, zs, hcs, _, hl, hm, hz, _, hcell, hwz⟩
    · simp [Value.cells] at hcs
      obtain ⟨rfl, rfl, rfl⟩ := hcs
      exact ⟨[], .inl ⟨rfl, rfl, rfl, rfl⟩⟩
    · simp [Value.cells] at hcs
      obtain ⟨rfl, rfl, rfl⟩ := hcs
      exact ⟨zs, .inr ⟨_, rfl, hl, hm, by simpa using hz, hcell, hwz⟩⟩
  clear hA0 hval0
  refine (walk a0 len0 cap0 z0 a1 len1 cap1 z1 W w0 w1).mono fun e W' ⟨he, bel⟩ => ?_
  subst he
  exact ⟨_, rfl, _, _, _, [], _, [], hW', trodAll_mk1 (shut_bool Try.underlying4 _), (trodAll_cons_mk (Below.trod laidOut (by kernel_rfl) (of_decide_eq_true (by kernel_rfl)) k0 bel lt0) (trodAll_cons_mk (Below.trod laidOut (by kernel_rfl) (of_decide_eq_true (by kernel_rfl)) k1 bel lt1) trodAll_mk0)), rfl, bel.frame _, fun h => by cases h⟩

theorem over : Rows.sumLinearRow.holds Try.pinned (OpenSpec.ofChange Rows.sumLinearSpec) :=
  OpenClaim.holds_of_wide 7 Try.f7 rfl rfl rfl rfl rfl rfl rfl ⟨rfl, rfl, rfl, rfl, rfl⟩ rfl rfl rfl rfl rfl (by kernel_rfl) Try.func7 (by kernel_rfl)
    (of_decide_eq_true (by kernel_rfl)) (by unfold Func.isWrapper; first | (rw [if_pos (by decide +kernel)]; kernel_rfl) | (rw [if_neg (by decide +kernel)]; exact ⟨rfl, rfl⟩))
    (fun os started H enc _ => lifted os started H enc)

end Go.Proofs.Ytekhjljlhoeknaa.sumLinear

namespace Go.Proofs.Ytekhjljlhoeknaa
theorem sumLinear_holds : Rows.SumLinearSaid := sumLinear.over
#print axioms sumLinear_holds
end Go.Proofs.Ytekhjljlhoeknaa
