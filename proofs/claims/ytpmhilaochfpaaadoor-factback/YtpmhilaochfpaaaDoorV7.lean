import Derived.Test.YtpmhilaochfpaaaDoorV6
import Derived.Test.YtpmhilaochfpaaaDoorRows
import Derived.WalkSpells
import Derived.WalkLawsBesides
import Derived.Laws.AppendOwnNone
import Derived.Lib.AppendStr
import Derived.Laws.BytesArg
import Derived.WalkKit
namespace Go.Proofs.YtpmhilaochfpaaaDoor
set_option maxRecDepth 20000
set_option maxRecDepth 20000
open Go.Lib
set_option linter.unusedVariables false
abbrev Str := List UInt8
structure VD where
  k : Int
  n : Int
  s : Str
deriving DecidableEq
structure TestD where
  p : Int
  v : Str
  x : VD
deriving DecidableEq
structure AttrD where
  a : Str
  ones : List VD
  tests : List TestD
deriving DecidableEq
structure CondD where
  neg : Bool
  c : Str
  attrs : List AttrD
deriving DecidableEq
structure ItemD where
  k : Int
  x : VD
  v : Str
deriving DecidableEq
structure SetD where
  a : Str
  e : List ItemD
deriving DecidableEq
structure ActD where
  k : Int
  c : Str
  n : Int
  v : Str
  sets : List SetD
  exprs : List (List ItemD)
deriving DecidableEq
structure RuleD where
  nm : Str
  conds : List CondD
  acts : List ActD
deriving DecidableEq
structure ClassD where
  nm : Str
  attrs : List Str
deriving DecidableEq
structure ProgD where
  cs : List ClassD
  rs : List RuleD
deriving DecidableEq
def v0 : VD := ⟨0, 0, []⟩
end Go.Proofs.YtpmhilaochfpaaaDoor
namespace Go.Proofs.YtpmhilaochfpaaaDoor
set_option maxRecDepth 20000
set_option maxRecDepth 20000
set_option linter.unusedVariables false
section
variable {σ α : Type} {step : σ → α → Except Int σ}
theorem take_snocD (l : List α) (k : Nat) (d : α) (h : k < l.length) : l.take (k + 1) = l.take k ++ [l.getD k d] := by
  rw [List.take_succ_eq_append_getElem h, List.getD_eq_getElem?_getD, List.getElem?_eq_getElem h]; rfl
end
def findC (cs : List ClassD) (s : Str) : Option ClassD := cs.find? fun c => decide (c.nm = s)
end Go.Proofs.YtpmhilaochfpaaaDoor
namespace Go.Proofs.YtpmhilaochfpaaaDoor
set_option maxRecDepth 20000
set_option maxRecDepth 20000
open Go.RowKit
theorem ret_intP {k : IntKind} {a b : Int} (h : a = b) : Ending.returned (.int k a) = .returned (.int k b) := by rw [h]
def pw (k : Nat) : Int := 256 ^ k
theorem pw_succ (k : Nat) : pw (k + 1) = 256 * pw k := by unfold pw; rw [Int.pow_succ]; omega
theorem pw_pos (k : Nat) : 0 < pw k := pow_pos k
theorem pw5 (k : Nat) (h : k ≤ 5) : pw k ≤ 1099511627776 := by
  have := pow_le h
  have q : (256 : Int) ^ 5 = 1099511627776 := by decide
  unfold pw; omega
theorem pw6 (k : Nat) (h : k ≤ 6) : pw k ≤ 281474976710656 := by
  have := pow_le h
  have q : (256 : Int) ^ 6 = 281474976710656 := by decide
  unfold pw; omega
set_option maxHeartbeats 400000 in
theorem top_any (x : Nat) (w : World) (h6 : x ≤ 6) :
    Calls Tryd.prog 34 #[.int .i64 x] w fun e w' => e = .returned (.int .i64 (pw x)) ∧ w' = w := by
  go_enter Tryd.func34, Tryd.ntmps34
  go_wp2
  go_loop [3, 4] (fun n i => ∃ k : Nat, k ≤ x ∧ i = .int .i64 k ∧ n = .int .i64 (pw k)) (fun _ i => x - (intOf i).toNat)
  case atStart => exact ⟨0, Nat.zero_le _, rfl, rfl⟩
  case round =>
    obtain ⟨k, hk, rfl, rfl⟩ := hrel
    by_cases hlt : k < x
    · have p0 := pw_pos k
      have p5 := pw5 k (by omega)
      have d1 : decide ((k : Int) < 6) = true := by simp; omega
      go_wp2
      go_round
      case rel => exact ⟨k + 1, by omega, by go_num, by rw [pw_succ]⟩
      case measure => simp [intOf]; omega
    · go_wp2
      go_ret
      exact ⟨ret_intP (by rw [show k = x from by omega]), rfl⟩

theorem u8row (zs : List Int) : ∀ u ∈ zs.map (Value.int .u8), u.oneCell' = true := by
  intro u hu; obtain ⟨z, _, rfl⟩ := List.mem_map.1 hu; rfl

theorem next_row (N m : Int) (k : Nat) (h : m = N / pw k) : (m % 256) :: dig N k = dig N (k + 1) := by rw [dig_cons, h]; rfl
theorem next_num (N m : Int) (k : Nat) (h : m = N / pw k) : m / 256 = N / pw (k + 1) := by
  rw [h, pw_succ, Int.ediv_ediv_of_nonneg (Int.le_of_lt (pw_pos k)), Int.mul_comm]

set_option maxHeartbeats 800000 in
theorem rput_ok (N : Int) (x : Nat) (w : World) (h1 : 1 ≤ x) (h6 : x ≤ 6) (h0 : 0 ≤ N) (hn : N < 256 ^ x) :
    Calls Tryd.prog 20 #[.int .i64 N, .int .i64 x] w fun e w' => ∃ v, e = .returned (.tuple #[v, .int .i64 0]) ∧ Own w' w.heap.size v (dig N x) ∧ Below w.heap.size w w' := by
  obtain ⟨i0, hi, hz0, hz1, hz2⟩ := info_parts Tryd.info5
  have hx : N < pw x := hn
  have hmx : N < 281474976710656 := by have := pw6 x h6; omega
  clear hn
  have d1 : decide (6 < (x : Int)) = false := by simp; omega
  go_enter Tryd.func20, Tryd.ntmps20
  go_wp2_with (go_at_call 34; refine (top_any _ _ (by omega)).mono ?_; rintro e w' ⟨rfl, hw⟩; obtain rfl := hw.symm)
  clear hx
  go_loopw [0, 6, 7] (fun n b i wr => ∃ (k : Nat) (m : Int), k ≤ x ∧ i = .int .i64 k ∧ n = .int .i64 m ∧ 0 ≤ m ∧ m < 281474976710656 ∧ Hid (m = N / pw k) ∧ Own wr w.heap.size b (dig N k) ∧ Below w.heap.size w wr ∧ Hid (k = 0 → b = .slice none 0 0)) (fun _ _ i _ => x - (intOf i).toNat)
  case atStart => exact ⟨0, N, Nat.zero_le _, rfl, rfl, h0, hmx, (by unfold Hid pw; simp), Own.nil _ _, Below.refl _ _, fun _ => rfl⟩
  case round =>
    obtain ⟨k, m, hk, rfl, rfl, hm0, hm1, HM, hown, hb, HN⟩ := hrel
    by_cases hlt : k < x
    · by_cases hk0 : k = 0
      · have hbn := HN.out hk0
        subst hbn
        subst hk0
        have hlit : (wr.alloc (.cells #[.int .u8 (m % 256)] 5)).ownsRow w.heap.size 5 1 (.slice (some ⟨wr.heap.size, 0, none⟩) 1 1) 1 [.int .u8 (m % 256)] := World.ownsRow_lit wr #[.int .u8 (m % 256)] 1 hb.size (by decide) rfl
        go_wp2_with (at_builtin; refine wpList_append_own_none rfl _ _ 53 rfl w.heap.size 5 i0 1 Tryd.underlying53 hi _ 1 _ rfl hlit rfl ?_)
        go_roundw
        case rel =>
          have e := next_row N m 0 HM.out
          refine ⟨1, m / 256, by omega, rfl, rfl, by omega, by omega, next_num N m 0 HM.out, ?_, hb.alloc hb.size _, fun h => by cases h⟩
          rw [← e]
          exact hlit
        case measure => simp [intOf]; omega
      · have hlit : (wr.alloc (.cells #[.int .u8 (m % 256)] 5)).ownsRow w.heap.size 5 1 (.slice (some ⟨wr.heap.size, 0, none⟩) 1 1) 1 [.int .u8 (m % 256)] := World.ownsRow_lit wr #[.int .u8 (m % 256)] 1 hb.size (by decide) rfl
        obtain ⟨g, cap, rfl, hgl⟩ : ∃ g cap, u6 = .slice (some ⟨g, 0, none⟩) k cap ∧ g < wr.heap.size := by
          have hl := hown.lt
          rcases hown.2 with ⟨_, h⟩ | ⟨g, cap, cur, rfl, _⟩
          · rw [dig_length] at h; exact absurd h hk0
          · rw [dig_length]
            exact ⟨g, cap, rfl, (hl g rfl).2⟩
        have hcs : ∀ j u, ((dig N k).map (Value.int .u8))[j]? = some u → (wr.alloc (.cells #[.int .u8 (m % 256)] 5)).cell? ((⟨g, 0, none⟩ : Addr).add j) = some u := World.ownsRow.cells (World.ownsRow.alloc hown _) (g := g) rfl
        have HS := hb.size
        go_wp2_with (at_builtin; refine wpList_append_own _ rfl _ _ 53 rfl w.heap.size 5 i0 (.int .u8 0) 1 1 Tryd.underlying53 hi hz0 hz1 hz2 rfl (by decide) _ 1 _ rfl hlit ⟨g, 0, none⟩ k cap ((dig N k).map (Value.int .u8)) rfl ?c0 hcs (u8row _) ?c3 ?c4 ?c5 ?_)
        case c0 => simp [dig_length]
        case c3 => unfold maxLen; omega
        case c4 => omega
        case c5 => simp; omega
        intro v' w1 hown' hgrow _
        have HB : Hid (Below w.heap.size w w1) := (hb.alloc HS _).grown hgrow (by simp; omega) (by intro j hj; simp [Value.ownBlock] at hj; omega)
        have HO : Hid (Own w1 w.heap.size v' (dig N (k + 1))) := by
          have e := next_row N m k HM.out
          show w1.ownsRow _ _ _ _ _ _
          rw [dig_length, ← e, List.map_cons, Nat.add_comm k 1]
          exact hown'
        clear hown' hgrow hlit hcs hown hb
        go_wp2
        go_roundw
        case rel =>
          exact ⟨k + 1, m / 256, by omega, by go_num, rfl, by omega, by omega, next_num N m k HM.out, HO.out, HB.out, fun h => by cases h⟩
        case measure => simp [intOf]; omega
    · have : k = x := by omega
      subst this
      go_wp2
      go_ret2
      exact ⟨_, rfl, hown, hb⟩

set_option maxHeartbeats 400000 in
theorem rput_arg (n x : Int) (w : World) (h : x < 1 ∨ 6 < x) :
    Calls Tryd.prog 20 #[.int .i64 n, .int .i64 x] w fun e w' => e = .returned (.tuple #[.slice none 0 0, .int .i64 2]) ∧ w' = w := by
  by_cases h1 : x < 1
  · go_enter Tryd.func20, Tryd.ntmps20
    go_wp2
    go_ret2
    exact ⟨rfl, rfl⟩
  · have h2 : 6 < x := by omega
    go_enter Tryd.func20, Tryd.ntmps20
    go_wp2
    go_ret2
    exact ⟨rfl, rfl⟩
set_option maxHeartbeats 400000 in
theorem rput_range (n : Int) (x : Nat) (w : World) (h1 : 1 ≤ x) (h6 : x ≤ 6) (hn : n < 0 ∨ 256 ^ x ≤ n) :
    Calls Tryd.prog 20 #[.int .i64 n, .int .i64 x] w fun e w' => e = .returned (.tuple #[.slice none 0 0, .int .i64 12]) ∧ w' = w := by
  have hn' : n < 0 ∨ pw x ≤ n := hn
  clear hn
  have d1 : decide (6 < (x : Int)) = false := by simp; omega
  by_cases h0 : n < 0
  · clear hn'
    go_enter Tryd.func20, Tryd.ntmps20
    go_wp2
    go_ret2
    exact ⟨rfl, rfl⟩
  · have h : pw x ≤ n := by omega
    clear hn'
    go_enter Tryd.func20, Tryd.ntmps20
    go_wp2_with (go_at_call 34; refine (top_any _ _ (by omega)).mono ?_; rintro e w' ⟨rfl, rfl⟩)
    go_ret2
    exact ⟨rfl, rfl⟩

theorem rput_any (n x : Int) (w : World) :
    Calls Tryd.prog 20 #[.int .i64 n, .int .i64 x] w fun e w' => ∃ v, e = .returned (.tuple #[v, .int .i64 (putE n x)]) ∧ Own w' w.heap.size v (putL n x) ∧ Below w.heap.size w w' := by
  unfold putE putL
  by_cases h : x < 1 ∨ 6 < x
  · rw [if_pos h, if_pos h]
    refine (rput_arg n x w h).mono ?_
    rintro e w' ⟨rfl, hw⟩
    obtain rfl := hw.symm
    exact ⟨_, rfl, Own.nil _ _, Below.refl _ _⟩
  · rw [if_neg h, if_neg h]
    obtain ⟨y, rfl⟩ := Int.eq_ofNat_of_zero_le (show 0 ≤ x by omega)
    rw [Int.toNat_natCast]
    by_cases h2 : n < 0 ∨ 256 ^ y ≤ n
    · rw [if_pos h2, if_pos h2]
      refine (rput_range n y w (by omega) (by omega) h2).mono ?_
      rintro e w' ⟨rfl, hw⟩
      obtain rfl := hw.symm
      exact ⟨_, rfl, Own.nil _ _, Below.refl _ _⟩
    · rw [if_neg h2, if_neg h2]
      exact rput_ok n y w (by omega) (by omega) (by omega) (by omega)

def signE (n : Int) : Int := if n < -1099511627776 ∨ 1099511627776 < n then 12 else 0
def signL (n : Int) : List Int := if n < -1099511627776 ∨ 1099511627776 < n then [] else dig (n + 1099511627776) 6

theorem signL_all (n : Int) : AllB (signL n) := by
  unfold signL
  split
  · exact AllB.nil
  · exact dig_all _ _
theorem putE_sign (n : Int) (h : ¬ (n < -1099511627776 ∨ 1099511627776 < n)) : putE (n + 1099511627776) 6 = 0 ∧ putL (n + 1099511627776) 6 = dig (n + 1099511627776) 6 := by
  have q : (256 : Int) ^ (6 : Int).toNat = 281474976710656 := by decide
  constructor
  · unfold putE; rw [if_neg (by decide), if_neg (by omega)]
  · unfold putL; rw [if_neg (by decide), if_neg (by omega)]; rfl

set_option maxHeartbeats 400000 in
theorem sign_any (n : Int) (w : World) :
    Calls Tryd.prog 50 #[.int .i64 n] w fun e w' => ∃ v, e = .returned (.tuple #[v, .int .i64 (signE n)]) ∧ Own w' w.heap.size v (signL n) ∧ Below w.heap.size w w' := by
  unfold signE signL
  by_cases h : n < -1099511627776 ∨ 1099511627776 < n
  · rw [if_pos h, if_pos h]
    by_cases h1 : n < -1099511627776
    · clear h
      go_enter Tryd.func50, Tryd.ntmps50
      go_wp2
      go_ret2
      exact ⟨_, rfl, Own.nil _ _, Below.refl _ _⟩
    · have h2 : 1099511627776 < n := by omega
      clear h
      go_enter Tryd.func50, Tryd.ntmps50
      go_wp2
      go_ret2
      exact ⟨_, rfl, Own.nil _ _, Below.refl _ _⟩
  · rw [if_neg h, if_neg h]
    have hp := put_any (n + 1099511627776) 6 w
    obtain ⟨e1, e2⟩ := putE_sign n h
    rw [e1, e2] at hp
    have h1 : -1099511627776 ≤ n := by omega
    have h2 : n ≤ 1099511627776 := by omega
    have d1 : decide (1099511627776 < n) = false := by simp; omega
    clear h e1 e2
    go_enter Tryd.func50, Tryd.ntmps50
    go_wp2_with (go_at_call 19; refine hp.mono ?_; rintro e w' ⟨v, rfl, ho, hb⟩)
    go_ret2
    exact ⟨_, rfl, ho, hb⟩
set_option maxHeartbeats 400000 in
theorem rsign_any (n : Int) (w : World) :
    Calls Tryd.prog 41 #[.int .i64 n] w fun e w' => ∃ v, e = .returned (.tuple #[v, .int .i64 (signE n)]) ∧ Own w' w.heap.size v (signL n) ∧ Below w.heap.size w w' := by
  unfold signE signL
  by_cases h : n < -1099511627776 ∨ 1099511627776 < n
  · rw [if_pos h, if_pos h]
    by_cases h1 : n < -1099511627776
    · clear h
      go_enter Tryd.func41, Tryd.ntmps41
      go_wp2
      go_ret2
      exact ⟨_, rfl, Own.nil _ _, Below.refl _ _⟩
    · have h2 : 1099511627776 < n := by omega
      clear h
      go_enter Tryd.func41, Tryd.ntmps41
      go_wp2
      go_ret2
      exact ⟨_, rfl, Own.nil _ _, Below.refl _ _⟩
  · rw [if_neg h, if_neg h]
    have hp := rput_any (n + 1099511627776) 6 w
    obtain ⟨e1, e2⟩ := putE_sign n h
    rw [e1, e2] at hp
    have h1 : -1099511627776 ≤ n := by omega
    have h2 : n ≤ 1099511627776 := by omega
    have d1 : decide (1099511627776 < n) = false := by simp; omega
    clear h e1 e2
    go_enter Tryd.func41, Tryd.ntmps41
    go_wp2_with (go_at_call 20; refine hp.mono ?_; rintro e w' ⟨v, rfl, ho, hb⟩)
    go_ret2
    exact ⟨_, rfl, ho, hb⟩
end Go.Proofs.YtpmhilaochfpaaaDoor
namespace Go.Proofs.YtpmhilaochfpaaaDoor
set_option maxRecDepth 20000
set_option maxRecDepth 20000
open Go.RowKit
def bytesOf (s : ByteArray) : List Int := s.data.toList.map fun b => (b.toNat : Int)
def textE (s : ByteArray) : Int := if 255 < s.size then 5 else 0
def textL (s : ByteArray) : List Int := if 255 < s.size then [] else (s.size : Int) :: bytesOf s

theorem bytesOf_length (s : ByteArray) : (bytesOf s).length = s.size := by simp [bytesOf]
theorem bytesOf_all (s : ByteArray) : AllB (bytesOf s) := by
  intro z hz
  simp only [bytesOf, List.mem_map] at hz
  obtain ⟨b, _, rfl⟩ := hz
  have := b.toNat_lt
  omega
theorem strCells_eq (s : ByteArray) : Lib.strCells s = (bytesOf s).map (Value.int .u8) := by simp [Lib.strCells, bytesOf]
theorem textL_all (s : ByteArray) : AllB (textL s) := by
  unfold textL
  split
  · exact AllB.nil
  · exact AllB.cons (by omega) (by omega) (bytesOf_all s)

set_option maxHeartbeats 400000 in
theorem text_long (s : ByteArray) (w : World) (h : 255 < s.size) :
    Calls Tryd.prog 51 #[.string s] w fun e w' => e = .returned (.tuple #[.slice none 0 0, .int .i64 5]) ∧ w' = w := by
  go_enter Tryd.func51, Tryd.ntmps51
  go_wp2
  go_ret2
  exact ⟨rfl, rfl⟩
set_option maxHeartbeats 400000 in
theorem rtext_long (s : ByteArray) (w : World) (h : 255 < s.size) :
    Calls Tryd.prog 42 #[.string s] w fun e w' => e = .returned (.tuple #[.slice none 0 0, .int .i64 5]) ∧ w' = w := by
  go_enter Tryd.func42, Tryd.ntmps42
  go_wp2
  go_ret2
  exact ⟨rfl, rfl⟩
set_option maxHeartbeats 400000 in
theorem text_ok (s : ByteArray) (w : World) (h : s.size ≤ 255) :
    Calls Tryd.prog 51 #[.string s] w fun e w' => ∃ v, e = .returned (.tuple #[v, .int .i64 0]) ∧ w'.ownsRow w.heap.size 5 1 v (1 + s.size) (.int .u8 s.size :: Lib.strCells s) ∧ Below w.heap.size w w' := by
  obtain ⟨i0, hi, hz0, hz1, hz2⟩ := info_parts Tryd.info5
  have hlit : (w.alloc (.cells #[.int .u8 s.size] 5)).ownsRow w.heap.size 5 1 (.slice (some ⟨w.heap.size, 0, none⟩) 1 1) 1 [.int .u8 s.size] := World.ownsRow_lit w #[.int .u8 s.size] 1 (Nat.le_refl _) (by decide) rfl
  go_enter Tryd.func51, Tryd.ntmps51
  go_wp2_with (at_builtin; refine Lib.wpList_append_own_string _ rfl _ _ 53 9 rfl w.heap.size 5 i0 Tryd.underlying53 Tryd.underlying9 hi hz0 hz1 hz2 _ 1 _ rfl hlit s rfl ?c1 ?c2 ?c3 ?_)
  case c1 => unfold maxLen; omega
  case c2 => omega
  case c3 => simp
  intro v' w1 hown hgrow _
  have HB : Hid (Below w.heap.size w w1) := ((Below.refl _ _).alloc (Nat.le_refl _) _).grown hgrow (by simp) (by intro j hj; simp [Value.ownBlock] at hj; omega)
  clear hgrow hlit
  go_wp2
  go_ret2
  exact ⟨_, rfl, hown, HB⟩
set_option maxHeartbeats 400000 in
theorem rtext_ok (s : ByteArray) (w : World) (h : s.size ≤ 255) :
    Calls Tryd.prog 42 #[.string s] w fun e w' => ∃ v, e = .returned (.tuple #[v, .int .i64 0]) ∧ w'.ownsRow w.heap.size 5 1 v (1 + s.size) (.int .u8 s.size :: Lib.strCells s) ∧ Below w.heap.size w w' := by
  obtain ⟨i0, hi, hz0, hz1, hz2⟩ := info_parts Tryd.info5
  have hlit : (w.alloc (.cells #[.int .u8 s.size] 5)).ownsRow w.heap.size 5 1 (.slice (some ⟨w.heap.size, 0, none⟩) 1 1) 1 [.int .u8 s.size] := World.ownsRow_lit w #[.int .u8 s.size] 1 (Nat.le_refl _) (by decide) rfl
  go_enter Tryd.func42, Tryd.ntmps42
  go_wp2_with (at_builtin; refine Lib.wpList_append_own_string _ rfl _ _ 53 9 rfl w.heap.size 5 i0 Tryd.underlying53 Tryd.underlying9 hi hz0 hz1 hz2 _ 1 _ rfl hlit s rfl ?c1 ?c2 ?c3 ?_)
  case c1 => unfold maxLen; omega
  case c2 => omega
  case c3 => simp
  intro v' w1 hown hgrow _
  have HB : Hid (Below w.heap.size w w1) := ((Below.refl _ _).alloc (Nat.le_refl _) _).grown hgrow (by simp) (by intro j hj; simp [Value.ownBlock] at hj; omega)
  clear hgrow hlit
  go_wp2
  go_ret2
  exact ⟨_, rfl, hown, HB⟩

theorem own_text (w w' : World) (v : Value) (s : ByteArray) (h : w'.ownsRow w.heap.size 5 1 v (1 + s.size) (.int .u8 s.size :: Lib.strCells s)) : Own w' w.heap.size v ((s.size : Int) :: bytesOf s) := by
  unfold Own
  rw [List.map_cons, ← strCells_eq, List.length_cons, bytesOf_length, Nat.add_comm]
  exact h

theorem text_any (s : ByteArray) (w : World) :
    Calls Tryd.prog 51 #[.string s] w fun e w' => ∃ v, e = .returned (.tuple #[v, .int .i64 (textE s)]) ∧ Own w' w.heap.size v (textL s) ∧ Below w.heap.size w w' := by
  unfold textE textL
  by_cases h : 255 < s.size
  · rw [if_pos h, if_pos h]
    refine (text_long s w h).mono ?_
    rintro e w' ⟨rfl, hw⟩
    obtain rfl := hw.symm
    exact ⟨_, rfl, Own.nil _ _, Below.refl _ _⟩
  · rw [if_neg h, if_neg h]
    refine (text_ok s w (by omega)).mono ?_
    rintro e w' ⟨v, rfl, ho, hb⟩
    exact ⟨v, rfl, own_text w w' v s ho, hb⟩
theorem rtext_any (s : ByteArray) (w : World) :
    Calls Tryd.prog 42 #[.string s] w fun e w' => ∃ v, e = .returned (.tuple #[v, .int .i64 (textE s)]) ∧ Own w' w.heap.size v (textL s) ∧ Below w.heap.size w w' := by
  unfold textE textL
  by_cases h : 255 < s.size
  · rw [if_pos h, if_pos h]
    refine (rtext_long s w h).mono ?_
    rintro e w' ⟨rfl, hw⟩
    obtain rfl := hw.symm
    exact ⟨_, rfl, Own.nil _ _, Below.refl _ _⟩
  · rw [if_neg h, if_neg h]
    refine (rtext_ok s w (by omega)).mono ?_
    rintro e w' ⟨v, rfl, ho, hb⟩
    exact ⟨v, rfl, own_text w w' v s ho, hb⟩
end Go.Proofs.YtpmhilaochfpaaaDoor
namespace Go.Proofs.YtpmhilaochfpaaaDoor
set_option maxRecDepth 20000
set_option maxRecDepth 20000
open Go.RowKit
structure Rd (w : World) (rb : Nat) (a : Option Addr) (len cap : Nat) (e : Int) : Prop where
  c0 : w.cell? ⟨rb, 0, none⟩ = some (.slice a len cap)
  c1 : w.cell? ⟨rb, 1, none⟩ = some (.int .i64 e)
  f0 : w.frozen? ⟨rb, 0, none⟩ = false
  f1 : w.frozen? ⟨rb, 1, none⟩ = false
def RdS (w : World) (rb : Nat) (zs : List Int) (e : Int) : Prop :=
  ∃ a cap, Rd w rb a zs.length cap e ∧ zs.length ≤ cap ∧ cap ≤ maxLen ∧ AllB zs ∧ (zs = [] ∨ ∃ b off, a = some ⟨b, off, none⟩ ∧ b ≠ rb ∧ b < w.heap.size ∧ ∀ i, i < zs.length → w.cell? ⟨b, off + i, none⟩ = some (.int .u8 (zs.getD i 0)))

theorem Rd.set0 {w : World} {rb : Nat} {a a' : Option Addr} {len cap len' cap' : Nat} {e : Int} (h : Rd w rb a len cap e) : Rd (w.setCell ⟨rb, 0, none⟩ (.slice a' len' cap')) rb a' len' cap' e := by
  obtain ⟨c0, c1, f0, f1⟩ := h
  refine ⟨?_, ?_, ?_, ?_⟩ <;> go_simp
theorem Rd.set1 {w : World} {rb : Nat} {a : Option Addr} {len cap : Nat} {e e' : Int} (h : Rd w rb a len cap e) : Rd (w.setCell ⟨rb, 1, none⟩ (.int .i64 e')) rb a len cap e' := by
  obtain ⟨c0, c1, f0, f1⟩ := h
  refine ⟨?_, ?_, ?_, ?_⟩ <;> go_simp
theorem grown_set (w : World) (b i : Nat) (v : Value) : w.grownBy (w.setCell ⟨b, i, none⟩ v) (some b) :=
  ⟨rfl, rfl, rfl, by simp [World.setCell], fun k _ hk => Below.heap_setCell _ _ _ _ (fun e => hk (by rw [e]))⟩
theorem cell_set_other (w : World) (b i c j : Nat) (v : Value) (h : c ≠ b) : (w.setCell ⟨b, i, none⟩ v).cell? ⟨c, j, none⟩ = w.cell? ⟨c, j, none⟩ :=
  World.cell?_of_block (w := w) (Below.heap_setCell _ _ _ _ h)

theorem RdS.err {w : World} {rb : Nat} {zs : List Int} {e e' : Int} (h : RdS w rb zs e) : RdS (w.setCell ⟨rb, 1, none⟩ (.int .i64 e')) rb zs e' := by
  obtain ⟨a, cap, hr, hc, hm, hz, hb⟩ := h
  refine ⟨a, cap, hr.set1, hc, hm, hz, ?_⟩
  rcases hb with hb | ⟨b, off, rfl, hne, hlt, hcell⟩
  · exact .inl hb
  · exact .inr ⟨b, off, rfl, hne, by simpa [World.setCell] using hlt, fun i hi => (cell_set_other _ _ _ _ _ _ hne).trans (hcell i hi)⟩
theorem getD_drop (zs : List Int) (n i : Nat) : (zs.drop n).getD i 0 = zs.getD (n + i) 0 := by
  rw [List.getD_eq_getElem?_getD, List.getD_eq_getElem?_getD, List.getElem?_drop]

set_option maxHeartbeats 400000 in
theorem err_any (rb : Nat) (zs : List Int) (x : Int) (w : World) (h : RdS w rb zs x) :
    Calls Tryd.prog 64 #[.pointer (some ⟨rb, 0, none⟩)] w fun e w' => e = .returned (.int .i64 x) ∧ w' = w := by
  obtain ⟨a, cap, ⟨c0, c1, f0, f1⟩, _⟩ := h
  go_enter Tryd.func64, Tryd.ntmps64
  go_wp2
  go_ret
  exact ⟨rfl, rfl⟩
set_option maxHeartbeats 400000 in
theorem left_any (rb : Nat) (zs : List Int) (x : Int) (w : World) (h : RdS w rb zs x) :
    Calls Tryd.prog 65 #[.pointer (some ⟨rb, 0, none⟩)] w fun e w' => e = .returned (.int .i64 zs.length) ∧ w' = w := by
  obtain ⟨a, cap, ⟨c0, c1, f0, f1⟩, _⟩ := h
  go_enter Tryd.func65, Tryd.ntmps65
  go_wp2
  go_ret
  exact ⟨rfl, rfl⟩
set_option maxHeartbeats 400000 in
theorem take_err (rb : Nat) (zs : List Int) (x n er : Int) (w : World) (h : RdS w rb zs x) (he : er ≠ 0) :
    Calls Tryd.prog 74 #[.pointer (some ⟨rb, 0, none⟩), .int .i64 n, .int .i64 er] w fun e w' => e = .returned (.tuple #[]) ∧ RdS w' rb zs er ∧ w.grownBy w' (some rb) := by
  have HE := h.err (e' := er)
  obtain ⟨a, cap, ⟨c0, c1, f0, f1⟩, _⟩ := h
  have he' : (er == 0) = false := by simpa using he
  have H : Hid (RdS (w.setCell ⟨rb, 1, none⟩ (.int .i64 er)) rb zs er) := HE
  clear HE
  go_enter Tryd.func74, Tryd.ntmps74
  go_wp2
  exact bodyPost_ret (v := .tuple #[]) (results_none rfl _ _ _) rfl ⟨rfl, H.out, grown_set _ _ _ _⟩
set_option maxHeartbeats 400000 in
theorem take_ok (rb : Nat) (zs : List Int) (x : Int) (n : Nat) (w : World) (h : RdS w rb zs x) (hn : n ≤ zs.length) :
    Calls Tryd.prog 74 #[.pointer (some ⟨rb, 0, none⟩), .int .i64 n, .int .i64 0] w fun e w' => e = .returned (.tuple #[]) ∧ RdS w' rb (zs.drop n) x ∧ w.grownBy w' (some rb) := by
  have h' := h
  obtain ⟨a, cap, hr, hc, hm, hz, hb⟩ := h
  obtain ⟨c0, c1, f0, f1⟩ := hr
  have HX : ∀ a' l' c', l' = zs.length - n → c' = cap - n → (zs.drop n = [] ∨ ∃ b off, a' = some ⟨b, off, none⟩ ∧ b ≠ rb ∧ b < w.heap.size ∧ ∀ i, i < (zs.drop n).length → w.cell? ⟨b, off + i, none⟩ = some (.int .u8 ((zs.drop n).getD i 0))) → RdS (w.setCell ⟨rb, 0, none⟩ (.slice a' l' c')) rb (zs.drop n) x := by
    rintro a' l' c' rfl rfl ha
    have hl : (zs.drop n).length = zs.length - n := by simp
    refine ⟨a', cap - n, ?_, by omega, by omega, hz.drop n, ?_⟩
    · rw [hl]; exact Rd.set0 ⟨c0, c1, f0, f1⟩
    · rcases ha with hb | ⟨b, off, rfl, hne, hlt, hcell⟩
      · exact .inl hb
      · exact .inr ⟨b, off, rfl, hne, by simpa [World.setCell] using hlt, fun i hi => (cell_set_other _ _ _ _ _ _ hne).trans (hcell i hi)⟩
  have H : Hid (∀ a' l' c', l' = zs.length - n → c' = cap - n → (zs.drop n = [] ∨ ∃ b off, a' = some ⟨b, off, none⟩ ∧ b ≠ rb ∧ b < w.heap.size ∧ ∀ i, i < (zs.drop n).length → w.cell? ⟨b, off + i, none⟩ = some (.int .u8 ((zs.drop n).getD i 0))) → RdS (w.setCell ⟨rb, 0, none⟩ (.slice a' l' c')) rb (zs.drop n) x) := HX
  clear HX
  rcases hb with rfl | ⟨b, off, rfl, hne, hlt, hcell⟩
  · have hn0 : n = 0 := by simpa using hn
    subst hn0
    clear h'
    go_enter Tryd.func74, Tryd.ntmps74
    go_wp2
    go_end0
    exact ⟨rfl, H.out _ _ _ rfl rfl (.inl rfl), grown_set _ _ _ _⟩
  · have HC : Hid (∀ i, i < (zs.drop n).length → w.cell? ⟨b, (off + n) + i, none⟩ = some (.int .u8 ((zs.drop n).getD i 0))) := by
      intro i hi
      rw [getD_drop, Nat.add_assoc]
      exact hcell (n + i) (by simp at hi; omega)
    clear hcell h'
    by_cases hcn : cap = n
    · have hd : zs.drop n = [] := by simp; omega
      subst hcn
      go_enter Tryd.func74, Tryd.ntmps74
      go_wp2
      go_end0
      exact ⟨rfl, H.out _ _ _ (by omega) (by omega) (.inl hd), grown_set _ _ _ _⟩
    · go_enter Tryd.func74, Tryd.ntmps74
      go_wp2
      go_end0
      exact ⟨rfl, H.out _ _ _ rfl rfl (.inr ⟨b, off + n, rfl, hne, hlt, HC.out⟩), grown_set _ _ _ _⟩
end Go.Proofs.YtpmhilaochfpaaaDoor
namespace Go.Proofs.YtpmhilaochfpaaaDoor
set_option maxRecDepth 20000
set_option maxRecDepth 20000
open Go.RowKit
def numV (zs : List Int) (e x : Int) : Int := if e = 0 then getV zs x else 0
def numE (zs : List Int) (e x : Int) : Int := if e = 0 then getE zs x else e
def numZ (zs : List Int) (e x : Int) : List Int := if e = 0 ∧ getE zs x = 0 then zs.drop x.toNat else zs

theorem getE_zero (zs : List Int) (x : Int) (h : getE zs x = 0) : 1 ≤ x ∧ x ≤ 6 ∧ x ≤ zs.length := by
  unfold getE at h
  split at h
  · cases h
  · split at h
    · cases h
    · omega
theorem getE_cut (zs : List Int) (x : Int) (h : getE zs x ≠ 0) : getV zs x = 0 := by
  unfold getE at h
  unfold getV
  split
  · rfl
  · split
    · rfl
    · rename_i a b; rw [if_neg a, if_neg b] at h; exact absurd rfl h

theorem RdS.view {w : World} {rb : Nat} {zs : List Int} {e : Int} (h : RdS w rb zs e) : ∃ a cap, w.cell? ⟨rb, 0, none⟩ = some (.slice a zs.length cap) ∧ BV w a zs ∧ zs.length ≤ 9223372036854775807 ∧ zs.length ≤ cap := by
  obtain ⟨a, cap, hr, hc, hm, hz, hb⟩ := h
  refine ⟨a, cap, hr.c0, ⟨hz, ?_⟩, by unfold maxLen at hm; omega, hc⟩
  rcases hb with hb | ⟨b, off, rfl, _, hlt, hcell⟩
  · exact .inl hb
  · exact .inr ⟨b, off, rfl, hlt, hcell⟩

set_option maxHeartbeats 400000 in
theorem num_any (rb : Nat) (zs : List Int) (er x : Int) (w : World) (h : RdS w rb zs er) :
    Calls Tryd.prog 70 #[.pointer (some ⟨rb, 0, none⟩), .int .i64 x] w fun e w' => e = .returned (.int .i64 (numV zs er x)) ∧ RdS w' rb (numZ zs er x) (numE zs er x) ∧ w.grownBy w' (some rb) := by
  have HE := err_any rb zs er w h
  unfold numV numE numZ
  by_cases he : er = 0
  · subst he
    obtain ⟨a, cap, c0, hv, hm, _⟩ := h.view
    have HG := get_any a zs.length cap zs x w hv rfl hm
    by_cases hg : getE zs x = 0
    · rw [if_pos rfl, if_pos rfl, if_pos ⟨rfl, hg⟩]
      obtain ⟨h1, h2, h3⟩ := getE_zero zs x hg
      obtain ⟨y, rfl⟩ := Int.eq_ofNat_of_zero_le (show 0 ≤ x by omega)
      have HT := take_ok rb zs 0 y w h (by omega)
      rw [Int.toNat_natCast, hg]
      rw [hg] at HG
      generalize getV zs y = v at *
      clear hg h hv
      go_enter Tryd.func70, Tryd.ntmps70
      go_wp2_with (first | (go_at_call 64; refine HE.mono ?_; rintro e w' ⟨rfl, hw⟩; obtain rfl := hw.symm; clear HE) | (go_at_call 21; refine HG.mono ?_; rintro e w' ⟨rfl, hw⟩; obtain rfl := hw.symm; clear HG) | (go_at_call 74; refine HT.mono ?_; rintro e w' ⟨rfl, hs, hgr⟩))
      go_ret
      exact ⟨rfl, hs, hgr⟩
    · rw [if_pos rfl, if_pos rfl, if_neg (fun c => hg c.2)]
      rw [getE_cut zs x hg] at HG ⊢
      have HT := take_err rb zs 0 x (getE zs x) w h hg
      generalize getE zs x = v at *
      have hb : (v == 0) = false := by simpa using hg
      clear hg h hv
      go_enter Tryd.func70, Tryd.ntmps70
      go_wp2_with (first | (go_at_call 64; refine HE.mono ?_; rintro e w' ⟨rfl, hw⟩; obtain rfl := hw.symm; clear HE) | (go_at_call 21; refine HG.mono ?_; rintro e w' ⟨rfl, hw⟩; obtain rfl := hw.symm; clear HG) | (go_at_call 74; refine HT.mono ?_; rintro e w' ⟨rfl, hs, hgr⟩))
      go_ret
      exact ⟨rfl, hs, hgr⟩
  · rw [if_neg he, if_neg he, if_neg (fun c => he c.1)]
    have hb : (er == 0) = false := by simpa using he
    have H : Hid (RdS w rb zs er) := h
    clear he h
    go_enter Tryd.func70, Tryd.ntmps70
    go_wp2_with (go_at_call 64; refine HE.mono ?_; rintro e w' ⟨rfl, hw⟩; obtain rfl := hw.symm; clear HE)
    go_ret
    exact ⟨rfl, H.out, ⟨rfl, rfl, rfl, Nat.le_refl _, fun _ _ _ => rfl⟩⟩

def sgdV (zs : List Int) (e : Int) : Int := if e = 0 then sgV zs else 0
def sgdE (zs : List Int) (e : Int) : Int := if e = 0 then sgE zs else e
def sgdZ (zs : List Int) (e : Int) : List Int := if e = 0 ∧ sgE zs = 0 then zs.drop 6 else zs

theorem sgE_zero (zs : List Int) (h : sgE zs = 0) : 6 ≤ zs.length := by
  unfold sgE at h
  split at h
  · cases h
  · omega
theorem sgE_cut (zs : List Int) (h : sgE zs ≠ 0) : sgV zs = 0 := by
  unfold sgE at h
  unfold sgV
  split
  · rfl
  · split
    · rfl
    · rename_i a b; rw [if_neg a, if_neg b] at h; exact absurd rfl h

set_option maxHeartbeats 400000 in
theorem sgd_any (rb : Nat) (zs : List Int) (er : Int) (w : World) (h : RdS w rb zs er) :
    Calls Tryd.prog 71 #[.pointer (some ⟨rb, 0, none⟩)] w fun e w' => e = .returned (.int .i64 (sgdV zs er)) ∧ RdS w' rb (sgdZ zs er) (sgdE zs er) ∧ w.grownBy w' (some rb) := by
  have HE := err_any rb zs er w h
  unfold sgdV sgdE sgdZ
  by_cases he : er = 0
  · subst he
    obtain ⟨a, cap, c0, hv, hm, _⟩ := h.view
    have HG := signed_any a zs.length cap zs w hv rfl hm
    by_cases hg : sgE zs = 0
    · rw [if_pos rfl, if_pos rfl, if_pos ⟨rfl, hg⟩]
      have HT := take_ok rb zs 0 6 w h (sgE_zero zs hg)
      rw [hg]
      rw [hg] at HG
      generalize sgV zs = v at *
      clear hg h hv
      go_enter Tryd.func71, Tryd.ntmps71
      go_wp2_with (first | (go_at_call 64; refine HE.mono ?_; rintro e w' ⟨rfl, hw⟩; obtain rfl := hw.symm; clear HE) | (go_at_call 75; refine HG.mono ?_; rintro e w' ⟨rfl, hw⟩; obtain rfl := hw.symm; clear HG) | (go_at_call 74; refine HT.mono ?_; rintro e w' ⟨rfl, hs, hgr⟩))
      go_ret
      exact ⟨rfl, hs, hgr⟩
    · rw [if_pos rfl, if_pos rfl, if_neg (fun c => hg c.2)]
      rw [sgE_cut zs hg] at HG ⊢
      have HT := take_err rb zs 0 6 (sgE zs) w h hg
      generalize sgE zs = v at *
      have hb : (v == 0) = false := by simpa using hg
      clear hg h hv
      go_enter Tryd.func71, Tryd.ntmps71
      go_wp2_with (first | (go_at_call 64; refine HE.mono ?_; rintro e w' ⟨rfl, hw⟩; obtain rfl := hw.symm; clear HE) | (go_at_call 75; refine HG.mono ?_; rintro e w' ⟨rfl, hw⟩; obtain rfl := hw.symm; clear HG) | (go_at_call 74; refine HT.mono ?_; rintro e w' ⟨rfl, hs, hgr⟩))
      go_ret
      exact ⟨rfl, hs, hgr⟩
  · rw [if_neg he, if_neg he, if_neg (fun c => he c.1)]
    have hb : (er == 0) = false := by simpa using he
    have H : Hid (RdS w rb zs er) := h
    clear he h
    go_enter Tryd.func71, Tryd.ntmps71
    go_wp2_with (go_at_call 64; refine HE.mono ?_; rintro e w' ⟨rfl, hw⟩; obtain rfl := hw.symm; clear HE)
    go_ret
    exact ⟨rfl, H.out, ⟨rfl, rfl, rfl, Nat.le_refl _, fun _ _ _ => rfl⟩⟩

end Go.Proofs.YtpmhilaochfpaaaDoor
namespace Go.Proofs.YtpmhilaochfpaaaDoor
set_option maxRecDepth 20000
set_option maxRecDepth 20000
open Go.RowKit
def txE (zs : List Int) : Int := if (zs.length : Int) < 1 + zs.getD 0 0 ∨ zs.length < 1 then 3 else 0
def txL (zs : List Int) : List Int := (zs.drop 1).take (zs.getD 0 0).toNat
def txS (zs : List Int) : ByteArray := if (zs.length : Int) < 1 + zs.getD 0 0 ∨ zs.length < 1 then ByteArray.empty else strOfNums (txL zs)

theorem get1 (zs : List Int) (h : 1 ≤ zs.length) : getV zs 1 = zs.getD 0 0 ∧ getE zs 1 = 0 := by
  constructor
  · unfold getV
    rw [if_neg (by decide), if_neg (by omega)]
    have := val_take zs 0 (by omega)
    simpa [val] using this
  · unfold getE; rw [if_neg (by decide), if_neg (by omega)]
theorem get1_cut (zs : List Int) (h : zs.length < 1) : getV zs 1 = 0 ∧ getE zs 1 = 3 := by
  constructor
  · unfold getV; rw [if_neg (by decide), if_pos (by omega)]
  · unfold getE; rw [if_neg (by decide), if_pos (by omega)]

set_option maxHeartbeats 400000 in
theorem text1_cut (a : Option Addr) (cap : Nat) (zs : List Int) (w : World) (hb : BV w a zs) (hm : zs.length ≤ 9223372036854775807) (h : (zs.length : Int) < 1 + zs.getD 0 0 ∨ zs.length < 1) :
    Calls Tryd.prog 76 #[.slice a zs.length cap] w fun e w' => e = .returned (.tuple #[.string ByteArray.empty, .int .i64 3]) ∧ w' = w := by
  have hg := get_any a zs.length cap zs 1 w hb rfl hm
  by_cases h1 : zs.length < 1
  · obtain ⟨e1, e2⟩ := get1_cut zs h1
    rw [e1, e2] at hg
    clear hb h e1 e2
    go_enter Tryd.func76, Tryd.ntmps76
    go_wp2_with (go_at_call 21; refine hg.mono ?_; rintro e w' ⟨rfl, hw⟩; obtain rfl := hw.symm; clear hg)
    go_ret2
    exact ⟨rfl, rfl⟩
  · obtain ⟨e1, e2⟩ := get1 zs (by omega)
    rw [e1, e2] at hg
    obtain ⟨z0, z1⟩ := hb.1.getD 0
    have h2 : (zs.length : Int) < 1 + zs.getD 0 0 := by omega
    generalize zs.getD 0 0 = z at *
    clear hb h e1 e2
    go_enter Tryd.func76, Tryd.ntmps76
    go_wp2_with (go_at_call 21; refine hg.mono ?_; rintro e w' ⟨rfl, hw⟩; obtain rfl := hw.symm; clear hg)
    go_ret2
    exact ⟨rfl, rfl⟩

set_option maxHeartbeats 400000 in
theorem text1_ok (a : Option Addr) (cap : Nat) (zs : List Int) (w : World) (hb : BV w a zs) (hm : zs.length ≤ 9223372036854775807) (hc : zs.length ≤ cap) (h : ¬ ((zs.length : Int) < 1 + zs.getD 0 0 ∨ zs.length < 1)) :
    Calls Tryd.prog 76 #[.slice a zs.length cap] w fun e w' => e = .returned (.tuple #[.string (strOfNums (txL zs)), .int .i64 0]) ∧ w' = w := by
  have hg := get_any a zs.length cap zs 1 w hb rfl hm
  obtain ⟨e1, e2⟩ := get1 zs (by omega)
  rw [e1, e2] at hg
  obtain ⟨z0, z1⟩ := hb.1.getD 0
  unfold txL
  have h2 : 1 + zs.getD 0 0 ≤ (zs.length : Int) := by omega
  have h3 : 1 ≤ zs.length := by omega
  obtain ⟨hz, h4 | ⟨b, off, rfl, _, hcell⟩⟩ := hb
  · subst h4; simp at h3
  obtain ⟨n, hn⟩ := Int.eq_ofNat_of_zero_le z0
  rw [hn] at hg h2 z1 ⊢
  rw [Int.toNat_natCast]
  clear z0 h e1 e2 hn
  have hxl : ((zs.drop 1).take n).length = n := by simp; omega
  have hxc : ∀ i, i < n → w.cell? ⟨b, off + 1 + i, none⟩ = some (.int .u8 (((zs.drop 1).take n).getD i 0)) := by
    intro i hi
    rw [Nat.add_assoc, hcell (1 + i) (by omega), ← getD_drop, List.getD_eq_getElem?_getD, List.getD_eq_getElem?_getD, List.getElem?_take, if_pos hi]
  by_cases hc1 : cap = 1
  · have hn0 : n = 0 := by omega
    subst hn0
    subst hc1
    have hcv := run_convert_bytes_arg (P := Tryd.prog) w 53 5 Tryd.underlying53 Tryd.underlying5 b off 0 0 [] rfl (by intro i hi; omega) 9 Tryd.underlying9
    have e0 : (zs.drop 1).take 0 = [] := rfl
    rw [e0]
    clear hxl hxc hcell hz e0
    go_enter Tryd.func76, Tryd.ntmps76
    go_wp2_with (go_at_call 21; refine hg.mono ?_; rintro e w' ⟨rfl, hw⟩; obtain rfl := hw.symm; clear hg)
    go_ret2
    exact ⟨rfl, rfl⟩
  · have hcv := run_convert_bytes_arg (P := Tryd.prog) w 53 5 Tryd.underlying53 Tryd.underlying5 b (off + 1) n (cap - 1) ((zs.drop 1).take n) hxl hxc 9 Tryd.underlying9
    generalize strOfNums ((zs.drop 1).take n) = s at *
    have hcx : (cap == 1) = false := by simpa using hc1
    clear hxl hxc hcell hz
    go_enter Tryd.func76, Tryd.ntmps76
    go_wp2_with (go_at_call 21; refine hg.mono ?_; rintro e w' ⟨rfl, hw⟩; obtain rfl := hw.symm; clear hg)
    go_ret2
    exact ⟨rfl, rfl⟩

def rtxS (zs : List Int) (e : Int) : ByteArray := if e = 0 then txS zs else ByteArray.empty
def rtxE (zs : List Int) (e : Int) : Int := if e = 0 then txE zs else e
def rtxZ (zs : List Int) (e : Int) : List Int := if e = 0 ∧ txE zs = 0 then zs.drop (1 + (zs.getD 0 0).toNat) else zs

set_option maxHeartbeats 400000 in
theorem rtx_any (rb : Nat) (zs : List Int) (er : Int) (w : World) (h : RdS w rb zs er) :
    Calls Tryd.prog 72 #[.pointer (some ⟨rb, 0, none⟩)] w fun e w' => e = .returned (.string (rtxS zs er)) ∧ RdS w' rb (rtxZ zs er) (rtxE zs er) ∧ w.grownBy w' (some rb) := by
  have HE := err_any rb zs er w h
  unfold rtxS rtxE rtxZ
  by_cases he : er = 0
  · subst he
    obtain ⟨a, cap, c0, hv, hm, hc⟩ := h.view
    by_cases hg : (zs.length : Int) < 1 + zs.getD 0 0 ∨ zs.length < 1
    · have e1 : txE zs = 3 := by unfold txE; rw [if_pos hg]
      have e2 : txS zs = ByteArray.empty := by unfold txS; rw [if_pos hg]
      rw [if_pos rfl, if_pos rfl, e1, e2, if_neg (fun c => by cases c.2)]
      have HG := text1_cut a cap zs w hv hm hg
      have HT := take_err rb zs 0 1 3 w h (by decide)
      clear hg h hv e1 e2
      go_enter Tryd.func72, Tryd.ntmps72
      go_wp2_with (first | (go_at_call 64; refine HE.mono ?_; rintro e w' ⟨rfl, hw⟩; obtain rfl := hw.symm; clear HE) | (go_at_call 76; refine HG.mono ?_; rintro e w' ⟨rfl, hw⟩; obtain rfl := hw.symm; clear HG) | (go_at_call 74; refine HT.mono ?_; rintro e w' ⟨rfl, hs, hgr⟩))
      go_ret
      exact ⟨rfl, hs, hgr⟩
    · have e1 : txE zs = 0 := by unfold txE; rw [if_neg hg]
      have e2 : txS zs = strOfNums (txL zs) := by unfold txS; rw [if_neg hg]
      rw [if_pos rfl, if_pos rfl, e1, e2, if_pos ⟨rfl, rfl⟩]
      have HG := text1_ok a cap zs w hv hm hc hg
      obtain ⟨z0, z1⟩ := hv.1.getD 0
      have es : (strOfNums (txL zs)).size = (zs.getD 0 0).toNat := by rw [strOfNums_size]; unfold txL; simp only [List.length_take, List.length_drop]; omega
      rw [← es]
      have HT := take_ok rb zs 0 (1 + (strOfNums (txL zs)).size) w h (by rw [es]; omega)
      generalize strOfNums (txL zs) = s at *
      have hsz : s.size ≤ 255 := by omega
      have e3 : ((1 + s.size : Nat) : Int) = 1 + (s.size : Int) := by omega
      rw [e3] at HT
      clear e3
      clear hg h hv e1 e2 es z0 z1
      go_enter Tryd.func72, Tryd.ntmps72
      go_wp2_with (first | (go_at_call 64; refine HE.mono ?_; rintro e w' ⟨rfl, hw⟩; obtain rfl := hw.symm; clear HE) | (go_at_call 76; refine HG.mono ?_; rintro e w' ⟨rfl, hw⟩; obtain rfl := hw.symm; clear HG) | (go_at_call 74; refine HT.mono ?_; rintro e w' ⟨rfl, hs, hgr⟩))
      go_ret
      exact ⟨rfl, hs, hgr⟩
  · rw [if_neg he, if_neg he, if_neg (fun c => he c.1)]
    have hb : (er == 0) = false := by simpa using he
    have H : Hid (RdS w rb zs er) := h
    clear he h
    go_enter Tryd.func72, Tryd.ntmps72
    go_wp2_with (go_at_call 64; refine HE.mono ?_; rintro e w' ⟨rfl, hw⟩; obtain rfl := hw.symm; clear HE)
    go_ret
    exact ⟨rfl, H.out, ⟨rfl, rfl, rfl, Nat.le_refl _, fun _ _ _ => rfl⟩⟩
end Go.Proofs.YtpmhilaochfpaaaDoor
namespace Go.Proofs.YtpmhilaochfpaaaDoor
set_option maxRecDepth 20000
set_option maxRecDepth 20000
open Go.RowKit
theorem Own.view {w : World} {base : Nat} {v : Value} {zs : List Int} (h : Own w base v zs) (hz : AllB zs) :
    ∃ a cap, v = .slice a zs.length cap ∧ zs.length ≤ cap ∧ cap ≤ maxLen ∧ AllB zs ∧ (zs = [] ∨ ∃ b off, a = some ⟨b, off, none⟩ ∧ base ≤ b ∧ b < w.heap.size ∧ ∀ i, i < zs.length → w.cell? ⟨b, off + i, none⟩ = some (.int .u8 (zs.getD i 0))) := by
  have hl := World.ownsRow.lt h
  rcases h.2 with ⟨rfl, hn⟩ | ⟨g, cap, cur, rfl, hb, hg, hnc, hcm, hcs, htake⟩
  · refine ⟨none, 0, by rw [hn], by omega, by decide, hz, .inl (List.eq_nil_of_length_eq_zero hn)⟩
  · refine ⟨_, cap, rfl, hnc, hcm, hz, .inr ⟨g, 0, rfl, hb, (hl g rfl).2, ?_⟩⟩
    intro i hi
    have hc := World.ownsRow.cellAt (g := g) h i (by omega)
    rw [Nat.zero_add, hc, List.getElem?_map, List.getElem?_eq_getElem hi, List.getD_eq_getElem?_getD, List.getElem?_eq_getElem hi]
    rfl
theorem Own.below {w w' : World} {base : Nat} {v : Value} {zs : List Int} (h : Own w base v zs) (hb : Below w.heap.size w w') : Own w' base v zs := by
  refine ⟨h.1, ?_⟩
  have hl := World.ownsRow.lt h
  rcases h.2 with hn | ⟨g, cap, cur, rfl, hbb, hg, rest⟩
  · exact .inl hn
  · exact .inr ⟨g, cap, cur, rfl, hbb, (hb.block g (hl g rfl).2).trans hg, rest⟩
theorem BV.below {w w' : World} {a : Option Addr} {zs : List Int} (h : BV w a zs) (hb : Below w.heap.size w w') : BV w' a zs := by
  obtain ⟨hz, h1 | ⟨b, off, rfl, hlt, hc⟩⟩ := h
  · exact ⟨hz, .inl h1⟩
  · exact ⟨hz, .inr ⟨b, off, rfl, Nat.lt_of_lt_of_le hlt hb.size, fun i hi => (hb.cell (p := ⟨b, off + i, none⟩) hlt).trans (hc i hi)⟩⟩

theorem add_plain (b off j : Nat) : (⟨b, off, none⟩ : Addr).add j = ⟨b, off + j, none⟩ := by unfold Addr.add; split <;> simp_all

set_option maxHeartbeats 400000 in
theorem clone_nil (w : World) :
    Calls Tryd.prog 69 #[.slice none 0 0] w fun e w' => e = .returned (.slice none 0 0) ∧ w' = w := by
  have heq := fun wx => Lib.run_eql_slice_nil (P := Tryd.prog) wx 53 5 none 0 0 0 0 Tryd.underlying53
  go_enter Tryd.func69, Tryd.ntmps69
  go_wp2
  go_ret
  exact ⟨rfl, rfl⟩
set_option maxHeartbeats 400000 in
theorem clone_some (x : Addr) (cap : Nat) (zs : List Int) (w : World) (hb : BV w (some x) zs) (hm : zs.length ≤ 1000000) :
    Calls Tryd.prog 69 #[.slice (some x) zs.length cap] w fun e w' => ∃ v, e = .returned v ∧ Own w' w.heap.size v zs ∧ Below w.heap.size w w' := by
  obtain ⟨i0, hi, hz0, hz1, hz2⟩ := info_parts Tryd.info5
  have hlit : (w.alloc (.cells #[] 5)).ownsRow w.heap.size 5 1 (.slice (some ⟨w.heap.size, 0, none⟩) 0 0) 0 [] := World.ownsRow_lit w #[] 0 (Nat.le_refl _) (by decide) rfl
  have hcs : ∀ j u, (zs.map (Value.int .u8))[j]? = some u → (w.alloc (.cells #[] 5)).cell? (x.add j) = some u := by
    intro j u hu
    rw [List.getElem?_map] at hu
    obtain ⟨z, hz, rfl⟩ := Option.map_eq_some_iff.1 hu
    have hj := (List.getElem?_eq_some_iff.1 hz).1
    obtain ⟨_, h1 | ⟨b, off, hx, hlt, hc⟩⟩ := hb
    · subst h1; simp at hj
    · obtain rfl := Option.some.inj hx
      rw [add_plain]
      have := hc j hj
      rw [List.getD_eq_getElem?_getD, hz] at this
      exact (Below.cell ((Below.refl w.heap.size w).alloc (Nat.le_refl _) _) (p := ⟨b, off + j, none⟩) hlt).trans this
  clear hb
  have heq := fun wx => Lib.run_eql_slice_nil (P := Tryd.prog) wx 53 5 (some x) zs.length cap 0 0 Tryd.underlying53
  go_enter Tryd.func69, Tryd.ntmps69
  go_wp2_with (at_builtin; refine wpList_append_own _ rfl _ _ 53 rfl w.heap.size 5 i0 (.int .u8 0) 1 1 Tryd.underlying53 hi hz0 hz1 hz2 rfl (by decide) _ 0 _ rfl hlit x zs.length cap (zs.map (Value.int .u8)) rfl ?c0 hcs (u8row _) ?c3 ?c4 ?c5 ?_)
  case c0 => simp
  case c3 => unfold maxLen; omega
  case c4 => omega
  case c5 => simp
  intro v' w1 hown hgrow _
  have HB : Hid (Below w.heap.size w w1) := ((Below.refl _ _).alloc (Nat.le_refl _) _).grown hgrow (by simp) (by intro j hj; simp [Value.ownBlock] at hj; omega)
  have HO : Hid (Own w1 w.heap.size v' zs) := by
    simpa [Own, Hid] using hown
  clear hgrow hlit hcs hown
  go_wp2
  go_ret
  exact ⟨_, rfl, HO, HB⟩

theorem slice_some_len {a : Option Addr} {zs : List Int} {w : World} (hb : BV w a zs) (ha : a = none) : zs = [] := by
  subst ha
  rcases hb.2 with h | ⟨b, off, h, _⟩
  · exact h
  · cases h

theorem bclone_any (a : Option Addr) (cap : Nat) (zs : List Int) (w : World) (hb : BV w a zs) (hm : zs.length ≤ 1000000) (hn : a = none → cap = 0) :
    Calls Tryd.prog 69 #[.slice a zs.length cap] w fun e w' => ∃ v, e = .returned v ∧ Own w' w.heap.size v zs ∧ Below w.heap.size w w' := by
  cases a with
  | none =>
    obtain rfl := hn rfl
    obtain rfl : zs = [] := slice_some_len hb rfl
    refine (clone_nil w).mono ?_
    rintro e w' ⟨rfl, hw⟩
    obtain rfl := hw.symm
    exact ⟨_, rfl, Own.nil _ _, Below.refl _ _⟩
  | some x => exact clone_some x cap zs w hb hm

theorem rds_new (w : World) (a : Option Addr) (cap : Nat) (zs : List Int) (hc : zs.length ≤ cap) (hm : cap ≤ maxLen) (hz : AllB zs)
    (hb : zs = [] ∨ ∃ b off, a = some ⟨b, off, none⟩ ∧ b < w.heap.size ∧ ∀ i, i < zs.length → w.cell? ⟨b, off + i, none⟩ = some (.int .u8 (zs.getD i 0))) :
    RdS (w.alloc (.cells #[.slice a zs.length cap, .int .i64 0] 110)) w.heap.size zs 0 := by
  refine ⟨a, cap, ⟨?_, ?_, ?_, ?_⟩, hc, hm, hz, ?_⟩
  · go_simp
  · go_simp
  · go_simp
  · go_simp
  · rcases hb with hb | ⟨b, off, rfl, hlt, hcell⟩
    · exact .inl hb
    · refine .inr ⟨b, off, rfl, by omega, by simp; omega, fun i hi => ?_⟩
      exact (Below.cell ((Below.refl w.heap.size w).alloc (Nat.le_refl _) _) (p := ⟨b, off + i, none⟩) hlt).trans (hcell i hi)

set_option maxHeartbeats 400000 in
theorem new_any (a : Option Addr) (cap : Nat) (zs : List Int) (w : World) (hb : BV w a zs) (hm : zs.length ≤ 1000000) (hn : a = none → cap = 0) :
    Calls Tryd.prog 62 #[.slice a zs.length cap] w fun e w' => ∃ rb, e = .returned (.pointer (some ⟨rb, 0, none⟩)) ∧ w.heap.size ≤ rb ∧ rb < w'.heap.size ∧ RdS w' rb zs 0 ∧ Below w.heap.size w w' := by
  have HC := bclone_any a cap zs w hb hm hn
  have hz := hb.1
  clear hb hn
  go_enter Tryd.func62, Tryd.ntmps62
  go_wp2_with (go_at_call 69; refine HC.mono ?_; rintro e w1 ⟨v, rfl, ho, hbl⟩; obtain ⟨a', cap', rfl, hv⟩ := ho.view hz; clear HC)
  obtain ⟨h1, h2, h3, h4⟩ := hv
  have HR := rds_new w1 a' cap' zs h1 h2 h3 (by
    rcases h4 with h4 | ⟨b, off, e, _, hlt, hcell⟩
    · exact .inl h4
    · exact .inr ⟨b, off, e, hlt, hcell⟩)
  go_ret
  exact ⟨_, rfl, hbl.size, by simp, HR, hbl.alloc hbl.size _⟩
end Go.Proofs.YtpmhilaochfpaaaDoor
namespace Go.Proofs.YtpmhilaochfpaaaDoor
set_option maxRecDepth 20000
set_option maxRecDepth 20000
open Go.RowKit
theorem Own.shape {w : World} {base : Nat} {v : Value} {zs : List Int} (h : Own w base v zs) (n : Nat) (hn : zs.length = n) (hp : 0 < n) : ∃ g cap, v = .slice (some ⟨g, 0, none⟩) n cap ∧ n ≤ cap ∧ base ≤ g ∧ g < w.heap.size := by
  subst hn
  have hl := World.ownsRow.lt h
  rcases h.2 with ⟨rfl, hn⟩ | ⟨g, cap, cur, rfl, hb, hg, hnc, hcm, hcs, htake⟩
  · omega
  · exact ⟨g, cap, rfl, hnc, hb, (hl g rfl).2⟩
theorem conv_own {w : World} {base : Nat} {v : Value} {zs : List Int} (h : Own w base v zs) (hz : AllB zs) : (convert 53 9 v).run Tryd.prog w = .ok (.string (strOfNums zs)) w := by
  obtain ⟨a, cap, rfl, _, _, _, hb⟩ := h.view hz
  rcases hb with rfl | ⟨b, off, rfl, _, _, hc⟩
  · cases a with
    | none => exact run_convert_bytes_nil (P := Tryd.prog) w 53 5 Tryd.underlying53 Tryd.underlying5 0 cap 9 Tryd.underlying9
    | some x =>
      show (convert 53 9 (.slice (some x) 0 cap)).run Tryd.prog w = _
      rw [run_convert_bytes_string w 53 9 5 _ 0 cap Tryd.underlying53 Tryd.underlying5 Tryd.underlying9, run_bytesToString w x 0 cap [] (by simp [loadCells, loadCellsFrom])]
      rfl
  · exact run_convert_bytes_arg (P := Tryd.prog) w 53 5 Tryd.underlying53 Tryd.underlying5 b off zs.length cap zs rfl hc 9 Tryd.underlying9
theorem Own.cellsAt {w : World} {base : Nat} {g n cap : Nat} {zs : List Int} (h : Own w base (.slice (some ⟨g, 0, none⟩) n cap) zs) : ∀ j u, (zs.map (Value.int .u8))[j]? = some u → w.cell? ((⟨g, 0, none⟩ : Addr).add j) = some u :=
  World.ownsRow.cells h (g := g) rfl

theorem Own.bv {w : World} {base : Nat} {a : Option Addr} {n cap : Nat} {zs : List Int} (h : Own w base (.slice a n cap) zs) (hz : AllB zs) : BV w a zs := by
  obtain ⟨a', cap', e, _, _, _, hb⟩ := h.view hz
  obtain ⟨rfl, _, _⟩ := Value.slice.inj e
  refine ⟨hz, ?_⟩
  rcases hb with h1 | ⟨b, off, e, _, h2, h3⟩
  · exact .inl h1
  · exact .inr ⟨b, off, e, h2, h3⟩

theorem wp_app {ops : Array Oper} {rest : List Oper} {o : Oper} {a : Act} {Q : Exit → Act → World → Prop} {w : World} (hgd : o.guard = none) (s x : Operand)
    (ho : o.op = .call { callee := .builtin .append, args := #[s, x], argTypes := #[53, 53] }) (base base2 : Nat) (v : Value) (zs ys : List Int) (hs : a.eval s = v) (hown : Own w base v zs)
    (g m c : Nat) (hx : a.eval x = .slice (some ⟨g, 0, none⟩) m c) (hm : ys.length = m) (hsrc : Own w base2 (.slice (some ⟨g, 0, none⟩) m c) ys) (N : Nat) (hN : zs.length + ys.length = N) (hlen : N ≤ 1000000) (hpos : 0 < N) (hbase : base ≤ w.heap.size)
    (h : ∀ g' c' w', Own w' base (.slice (some ⟨g', 0, none⟩) N c') (zs ++ ys) → Below base w w' → wpList Tryd.prog ops Q rest (a.put o.dst (.slice (some ⟨g', 0, none⟩) N c')) w') : wpList Tryd.prog ops Q (o :: rest) a w := by
  obtain ⟨i0, hi, hz0, hz1, hz2⟩ := info_parts Tryd.info5
  refine wpList_append_own w hgd s x 53 ho base 5 i0 (.int .u8 0) 1 1 Tryd.underlying53 hi hz0 hz1 hz2 rfl (by decide) v zs.length (zs.map (Value.int .u8)) hs hown ⟨g, 0, none⟩ m c (ys.map (Value.int .u8)) hx (by simp [hm]) hsrc.cellsAt (u8row _) (by unfold maxLen; omega) (by omega) hbase ?_
  intro v' w' h1 h2 _
  have ho' : Own w' base v' (zs ++ ys) := by
    unfold Own
    rw [List.length_append, List.map_append, hm]
    exact h1
  obtain ⟨g', c', rfl, _, _, _⟩ := ho'.shape N (by rw [List.length_append, hN]) hpos
  refine h g' c' w' ho' ?_
  exact (Below.refl base w).grown h2 hbase (fun k hk => (World.ownsRow.lt hown k hk).1)

end Go.Proofs.YtpmhilaochfpaaaDoor
namespace Go.Proofs.YtpmhilaochfpaaaDoor.Rq
set_option maxRecDepth 20000
set_option maxRecDepth 20000
open Go.RowKit
variable {Q : Nat → Prop}
def RdQ (Q : Nat → Prop) (w : World) (rb : Nat) (zs : List Int) (e : Int) : Prop :=
  ∃ a cap, Rd w rb a zs.length cap e ∧ zs.length ≤ cap ∧ cap ≤ maxLen ∧ AllB zs ∧ (zs = [] ∨ ∃ b off, a = some ⟨b, off, none⟩ ∧ b ≠ rb ∧ Q b ∧ b < w.heap.size ∧ ∀ i, i < zs.length → w.cell? ⟨b, off + i, none⟩ = some (.int .u8 (zs.getD i 0)))

theorem RdQ.err {w : World} {rb : Nat} {zs : List Int} {e e' : Int} (h : RdQ Q w rb zs e) : RdQ Q (w.setCell ⟨rb, 1, none⟩ (.int .i64 e')) rb zs e' := by
  obtain ⟨a, cap, hr, hc, hm, hz, hb⟩ := h
  refine ⟨a, cap, hr.set1, hc, hm, hz, ?_⟩
  rcases hb with hb | ⟨b, off, rfl, hne, hQ, hlt, hcell⟩
  · exact .inl hb
  · exact .inr ⟨b, off, rfl, hne, hQ, by simpa [World.setCell] using hlt, fun i hi => (cell_set_other _ _ _ _ _ _ hne).trans (hcell i hi)⟩
set_option maxHeartbeats 400000 in
theorem err_any (rb : Nat) (zs : List Int) (x : Int) (w : World) (h : RdQ Q w rb zs x) :
    Calls Tryd.prog 64 #[.pointer (some ⟨rb, 0, none⟩)] w fun e w' => e = .returned (.int .i64 x) ∧ w' = w := by
  obtain ⟨a, cap, ⟨c0, c1, f0, f1⟩, _⟩ := h
  go_enter Tryd.func64, Tryd.ntmps64
  go_wp2
  go_ret
  exact ⟨rfl, rfl⟩
set_option maxHeartbeats 400000 in
theorem left_any (rb : Nat) (zs : List Int) (x : Int) (w : World) (h : RdQ Q w rb zs x) :
    Calls Tryd.prog 65 #[.pointer (some ⟨rb, 0, none⟩)] w fun e w' => e = .returned (.int .i64 zs.length) ∧ w' = w := by
  obtain ⟨a, cap, ⟨c0, c1, f0, f1⟩, _⟩ := h
  go_enter Tryd.func65, Tryd.ntmps65
  go_wp2
  go_ret
  exact ⟨rfl, rfl⟩
set_option maxHeartbeats 400000 in
theorem take_err (rb : Nat) (zs : List Int) (x n er : Int) (w : World) (h : RdQ Q w rb zs x) (he : er ≠ 0) :
    Calls Tryd.prog 74 #[.pointer (some ⟨rb, 0, none⟩), .int .i64 n, .int .i64 er] w fun e w' => e = .returned (.tuple #[]) ∧ RdQ Q w' rb zs er ∧ w.grownBy w' (some rb) := by
  have HE := h.err (e' := er)
  obtain ⟨a, cap, ⟨c0, c1, f0, f1⟩, _⟩ := h
  have he' : (er == 0) = false := by simpa using he
  have H : Hid (RdQ Q (w.setCell ⟨rb, 1, none⟩ (.int .i64 er)) rb zs er) := HE
  clear HE
  go_enter Tryd.func74, Tryd.ntmps74
  go_wp2
  exact bodyPost_ret (v := .tuple #[]) (results_none rfl _ _ _) rfl ⟨rfl, H.out, grown_set _ _ _ _⟩
set_option maxHeartbeats 400000 in
theorem take_ok (rb : Nat) (zs : List Int) (x : Int) (n : Nat) (w : World) (h : RdQ Q w rb zs x) (hn : n ≤ zs.length) :
    Calls Tryd.prog 74 #[.pointer (some ⟨rb, 0, none⟩), .int .i64 n, .int .i64 0] w fun e w' => e = .returned (.tuple #[]) ∧ RdQ Q w' rb (zs.drop n) x ∧ w.grownBy w' (some rb) := by
  have h' := h
  obtain ⟨a, cap, hr, hc, hm, hz, hb⟩ := h
  obtain ⟨c0, c1, f0, f1⟩ := hr
  have HX : ∀ a' l' c', l' = zs.length - n → c' = cap - n → (zs.drop n = [] ∨ ∃ b off, a' = some ⟨b, off, none⟩ ∧ b ≠ rb ∧ Q b ∧ b < w.heap.size ∧ ∀ i, i < (zs.drop n).length → w.cell? ⟨b, off + i, none⟩ = some (.int .u8 ((zs.drop n).getD i 0))) → RdQ Q (w.setCell ⟨rb, 0, none⟩ (.slice a' l' c')) rb (zs.drop n) x := by
    rintro a' l' c' rfl rfl ha
    have hl : (zs.drop n).length = zs.length - n := by simp
    refine ⟨a', cap - n, ?_, by omega, by omega, hz.drop n, ?_⟩
    · rw [hl]; exact Rd.set0 ⟨c0, c1, f0, f1⟩
    · rcases ha with hb | ⟨b, off, rfl, hne, hQ, hlt, hcell⟩
      · exact .inl hb
      · exact .inr ⟨b, off, rfl, hne, hQ, by simpa [World.setCell] using hlt, fun i hi => (cell_set_other _ _ _ _ _ _ hne).trans (hcell i hi)⟩
  have H : Hid (∀ a' l' c', l' = zs.length - n → c' = cap - n → (zs.drop n = [] ∨ ∃ b off, a' = some ⟨b, off, none⟩ ∧ b ≠ rb ∧ Q b ∧ b < w.heap.size ∧ ∀ i, i < (zs.drop n).length → w.cell? ⟨b, off + i, none⟩ = some (.int .u8 ((zs.drop n).getD i 0))) → RdQ Q (w.setCell ⟨rb, 0, none⟩ (.slice a' l' c')) rb (zs.drop n) x) := HX
  clear HX
  rcases hb with rfl | ⟨b, off, rfl, hne, hQ, hlt, hcell⟩
  · have hn0 : n = 0 := by simpa using hn
    subst hn0
    clear h'
    go_enter Tryd.func74, Tryd.ntmps74
    go_wp2
    go_end0
    exact ⟨rfl, H.out _ _ _ rfl rfl (.inl rfl), grown_set _ _ _ _⟩
  · have HC : Hid (∀ i, i < (zs.drop n).length → w.cell? ⟨b, (off + n) + i, none⟩ = some (.int .u8 ((zs.drop n).getD i 0))) := by
      intro i hi
      rw [getD_drop, Nat.add_assoc]
      exact hcell (n + i) (by simp at hi; omega)
    clear hcell h'
    by_cases hcn : cap = n
    · have hd : zs.drop n = [] := by simp; omega
      subst hcn
      go_enter Tryd.func74, Tryd.ntmps74
      go_wp2
      go_end0
      exact ⟨rfl, H.out _ _ _ (by omega) (by omega) (.inl hd), grown_set _ _ _ _⟩
    · go_enter Tryd.func74, Tryd.ntmps74
      go_wp2
      go_end0
      exact ⟨rfl, H.out _ _ _ rfl rfl (.inr ⟨b, off + n, rfl, hne, hQ, hlt, HC.out⟩), grown_set _ _ _ _⟩
theorem RdQ.view {w : World} {rb : Nat} {zs : List Int} {e : Int} (h : RdQ Q w rb zs e) : ∃ a cap, w.cell? ⟨rb, 0, none⟩ = some (.slice a zs.length cap) ∧ BV w a zs ∧ zs.length ≤ 9223372036854775807 ∧ zs.length ≤ cap := by
  obtain ⟨a, cap, hr, hc, hm, hz, hb⟩ := h
  refine ⟨a, cap, hr.c0, ⟨hz, ?_⟩, by unfold maxLen at hm; omega, hc⟩
  rcases hb with hb | ⟨b, off, rfl, _, _, hlt, hcell⟩
  · exact .inl hb
  · exact .inr ⟨b, off, rfl, hlt, hcell⟩
set_option maxHeartbeats 400000 in
theorem num_any (rb : Nat) (zs : List Int) (er x : Int) (w : World) (h : RdQ Q w rb zs er) :
    Calls Tryd.prog 70 #[.pointer (some ⟨rb, 0, none⟩), .int .i64 x] w fun e w' => e = .returned (.int .i64 (numV zs er x)) ∧ RdQ Q w' rb (numZ zs er x) (numE zs er x) ∧ w.grownBy w' (some rb) := by
  have HE := err_any rb zs er w h
  unfold numV numE numZ
  by_cases he : er = 0
  · subst he
    obtain ⟨a, cap, c0, hv, hm, _⟩ := h.view
    have HG := get_any a zs.length cap zs x w hv rfl hm
    by_cases hg : getE zs x = 0
    · rw [if_pos rfl, if_pos rfl, if_pos ⟨rfl, hg⟩]
      obtain ⟨h1, h2, h3⟩ := getE_zero zs x hg
      obtain ⟨y, rfl⟩ := Int.eq_ofNat_of_zero_le (show 0 ≤ x by omega)
      have HT := take_ok rb zs 0 y w h (by omega)
      rw [Int.toNat_natCast, hg]
      rw [hg] at HG
      generalize getV zs y = v at *
      clear hg h hv
      go_enter Tryd.func70, Tryd.ntmps70
      go_wp2_with (first | (go_at_call 64; refine HE.mono ?_; rintro e w' ⟨rfl, hw⟩; obtain rfl := hw.symm; clear HE) | (go_at_call 21; refine HG.mono ?_; rintro e w' ⟨rfl, hw⟩; obtain rfl := hw.symm; clear HG) | (go_at_call 74; refine HT.mono ?_; rintro e w' ⟨rfl, hs, hgr⟩))
      go_ret
      exact ⟨rfl, hs, hgr⟩
    · rw [if_pos rfl, if_pos rfl, if_neg (fun c => hg c.2)]
      rw [getE_cut zs x hg] at HG ⊢
      have HT := take_err rb zs 0 x (getE zs x) w h hg
      generalize getE zs x = v at *
      have hb : (v == 0) = false := by simpa using hg
      clear hg h hv
      go_enter Tryd.func70, Tryd.ntmps70
      go_wp2_with (first | (go_at_call 64; refine HE.mono ?_; rintro e w' ⟨rfl, hw⟩; obtain rfl := hw.symm; clear HE) | (go_at_call 21; refine HG.mono ?_; rintro e w' ⟨rfl, hw⟩; obtain rfl := hw.symm; clear HG) | (go_at_call 74; refine HT.mono ?_; rintro e w' ⟨rfl, hs, hgr⟩))
      go_ret
      exact ⟨rfl, hs, hgr⟩
  · rw [if_neg he, if_neg he, if_neg (fun c => he c.1)]
    have hb : (er == 0) = false := by simpa using he
    have H : Hid (RdQ Q w rb zs er) := h
    clear he h
    go_enter Tryd.func70, Tryd.ntmps70
    go_wp2_with (go_at_call 64; refine HE.mono ?_; rintro e w' ⟨rfl, hw⟩; obtain rfl := hw.symm; clear HE)
    go_ret
    exact ⟨rfl, H.out, ⟨rfl, rfl, rfl, Nat.le_refl _, fun _ _ _ => rfl⟩⟩
set_option maxHeartbeats 400000 in
theorem sgd_any (rb : Nat) (zs : List Int) (er : Int) (w : World) (h : RdQ Q w rb zs er) :
    Calls Tryd.prog 71 #[.pointer (some ⟨rb, 0, none⟩)] w fun e w' => e = .returned (.int .i64 (sgdV zs er)) ∧ RdQ Q w' rb (sgdZ zs er) (sgdE zs er) ∧ w.grownBy w' (some rb) := by
  have HE := err_any rb zs er w h
  unfold sgdV sgdE sgdZ
  by_cases he : er = 0
  · subst he
    obtain ⟨a, cap, c0, hv, hm, _⟩ := h.view
    have HG := signed_any a zs.length cap zs w hv rfl hm
    by_cases hg : sgE zs = 0
    · rw [if_pos rfl, if_pos rfl, if_pos ⟨rfl, hg⟩]
      have HT := take_ok rb zs 0 6 w h (sgE_zero zs hg)
      rw [hg]
      rw [hg] at HG
      generalize sgV zs = v at *
      clear hg h hv
      go_enter Tryd.func71, Tryd.ntmps71
      go_wp2_with (first | (go_at_call 64; refine HE.mono ?_; rintro e w' ⟨rfl, hw⟩; obtain rfl := hw.symm; clear HE) | (go_at_call 75; refine HG.mono ?_; rintro e w' ⟨rfl, hw⟩; obtain rfl := hw.symm; clear HG) | (go_at_call 74; refine HT.mono ?_; rintro e w' ⟨rfl, hs, hgr⟩))
      go_ret
      exact ⟨rfl, hs, hgr⟩
    · rw [if_pos rfl, if_pos rfl, if_neg (fun c => hg c.2)]
      rw [sgE_cut zs hg] at HG ⊢
      have HT := take_err rb zs 0 6 (sgE zs) w h hg
      generalize sgE zs = v at *
      have hb : (v == 0) = false := by simpa using hg
      clear hg h hv
      go_enter Tryd.func71, Tryd.ntmps71
      go_wp2_with (first | (go_at_call 64; refine HE.mono ?_; rintro e w' ⟨rfl, hw⟩; obtain rfl := hw.symm; clear HE) | (go_at_call 75; refine HG.mono ?_; rintro e w' ⟨rfl, hw⟩; obtain rfl := hw.symm; clear HG) | (go_at_call 74; refine HT.mono ?_; rintro e w' ⟨rfl, hs, hgr⟩))
      go_ret
      exact ⟨rfl, hs, hgr⟩
  · rw [if_neg he, if_neg he, if_neg (fun c => he c.1)]
    have hb : (er == 0) = false := by simpa using he
    have H : Hid (RdQ Q w rb zs er) := h
    clear he h
    go_enter Tryd.func71, Tryd.ntmps71
    go_wp2_with (go_at_call 64; refine HE.mono ?_; rintro e w' ⟨rfl, hw⟩; obtain rfl := hw.symm; clear HE)
    go_ret
    exact ⟨rfl, H.out, ⟨rfl, rfl, rfl, Nat.le_refl _, fun _ _ _ => rfl⟩⟩
set_option maxHeartbeats 400000 in
theorem rtx_any (rb : Nat) (zs : List Int) (er : Int) (w : World) (h : RdQ Q w rb zs er) :
    Calls Tryd.prog 72 #[.pointer (some ⟨rb, 0, none⟩)] w fun e w' => e = .returned (.string (rtxS zs er)) ∧ RdQ Q w' rb (rtxZ zs er) (rtxE zs er) ∧ w.grownBy w' (some rb) := by
  have HE := err_any rb zs er w h
  unfold rtxS rtxE rtxZ
  by_cases he : er = 0
  · subst he
    obtain ⟨a, cap, c0, hv, hm, hc⟩ := h.view
    by_cases hg : (zs.length : Int) < 1 + zs.getD 0 0 ∨ zs.length < 1
    · have e1 : txE zs = 3 := by unfold txE; rw [if_pos hg]
      have e2 : txS zs = ByteArray.empty := by unfold txS; rw [if_pos hg]
      rw [if_pos rfl, if_pos rfl, e1, e2, if_neg (fun c => by cases c.2)]
      have HG := text1_cut a cap zs w hv hm hg
      have HT := take_err rb zs 0 1 3 w h (by decide)
      clear hg h hv e1 e2
      go_enter Tryd.func72, Tryd.ntmps72
      go_wp2_with (first | (go_at_call 64; refine HE.mono ?_; rintro e w' ⟨rfl, hw⟩; obtain rfl := hw.symm; clear HE) | (go_at_call 76; refine HG.mono ?_; rintro e w' ⟨rfl, hw⟩; obtain rfl := hw.symm; clear HG) | (go_at_call 74; refine HT.mono ?_; rintro e w' ⟨rfl, hs, hgr⟩))
      go_ret
      exact ⟨rfl, hs, hgr⟩
    · have e1 : txE zs = 0 := by unfold txE; rw [if_neg hg]
      have e2 : txS zs = strOfNums (txL zs) := by unfold txS; rw [if_neg hg]
      rw [if_pos rfl, if_pos rfl, e1, e2, if_pos ⟨rfl, rfl⟩]
      have HG := text1_ok a cap zs w hv hm hc hg
      obtain ⟨z0, z1⟩ := hv.1.getD 0
      have es : (strOfNums (txL zs)).size = (zs.getD 0 0).toNat := by rw [strOfNums_size]; unfold txL; simp only [List.length_take, List.length_drop]; omega
      rw [← es]
      have HT := take_ok rb zs 0 (1 + (strOfNums (txL zs)).size) w h (by rw [es]; omega)
      generalize strOfNums (txL zs) = s at *
      have hsz : s.size ≤ 255 := by omega
      have e3 : ((1 + s.size : Nat) : Int) = 1 + (s.size : Int) := by omega
      rw [e3] at HT
      clear e3
      clear hg h hv e1 e2 es z0 z1
      go_enter Tryd.func72, Tryd.ntmps72
      go_wp2_with (first | (go_at_call 64; refine HE.mono ?_; rintro e w' ⟨rfl, hw⟩; obtain rfl := hw.symm; clear HE) | (go_at_call 76; refine HG.mono ?_; rintro e w' ⟨rfl, hw⟩; obtain rfl := hw.symm; clear HG) | (go_at_call 74; refine HT.mono ?_; rintro e w' ⟨rfl, hs, hgr⟩))
      go_ret
      exact ⟨rfl, hs, hgr⟩
  · rw [if_neg he, if_neg he, if_neg (fun c => he c.1)]
    have hb : (er == 0) = false := by simpa using he
    have H : Hid (RdQ Q w rb zs er) := h
    clear he h
    go_enter Tryd.func72, Tryd.ntmps72
    go_wp2_with (go_at_call 64; refine HE.mono ?_; rintro e w' ⟨rfl, hw⟩; obtain rfl := hw.symm; clear HE)
    go_ret
    exact ⟨rfl, H.out, ⟨rfl, rfl, rfl, Nat.le_refl _, fun _ _ _ => rfl⟩⟩
end Go.Proofs.YtpmhilaochfpaaaDoor.Rq
