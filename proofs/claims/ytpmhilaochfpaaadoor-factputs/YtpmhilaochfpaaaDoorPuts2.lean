/- The document's Put at any number and any width: contracts of single calls. -/
import Derived.Test.YtpmhilaochfpaaaDoorPuts
import Derived.Laws.AppendOwnNone
namespace Go.Proofs.YtpmhilaochfpaaaDoor
set_option maxRecDepth 20000
set_option maxRecDepth 20000
open Go.RowKit
theorem ret_intP {k : IntKind} {a b : Int} (h : a = b) : Ending.returned (.int k a) = .returned (.int k b) := by rw [h]
def pw (k : Nat) : Int := 256 ^ k
theorem pw_succ (k : Nat) : pw (k + 1) = 256 * pw k := by unfold pw; rw [Int.pow_succ]; omega
theorem pw_pos (k : Nat) : 0 < pw k := pow_pos k
theorem pw5 (k : Nat) (h : k ≤ 5) : pw k ≤ 1099511627776 := by
  have := pow_le h
  have q : (256 : Int) ^ 5 = 1099511627776 := by decide
  unfold pw; omega
theorem pw6 (k : Nat) (h : k ≤ 6) : pw k ≤ 281474976710656 := by
  have := pow_le h
  have q : (256 : Int) ^ 6 = 281474976710656 := by decide
  unfold pw; omega
set_option maxHeartbeats 400000 in
theorem top_any (x : Nat) (w : World) (h6 : x ≤ 6) :
    Calls Tryd.prog 34 #[.int .i64 x] w fun e w' => e = .returned (.int .i64 (pw x)) ∧ w' = w := by
  go_enter Tryd.func34, Tryd.ntmps34
  go_wp2
  go_loop [3, 4] (fun n i => ∃ k : Nat, k ≤ x ∧ i = .int .i64 k ∧ n = .int .i64 (pw k)) (fun _ i => x - (intOf i).toNat)
  case atStart => exact ⟨0, Nat.zero_le _, rfl, rfl⟩
  case round =>
    obtain ⟨k, hk, rfl, rfl⟩ := hrel
    by_cases hlt : k < x
    · have p0 := pw_pos k
      have p5 := pw5 k (by omega)
      have d1 : decide ((k : Int) < 6) = true := by simp; omega
      go_wp2
      go_round
      case rel => exact ⟨k + 1, by omega, by go_num, by rw [pw_succ]⟩
      case measure => simp [intOf]; omega
    · go_wp2
      go_ret
      exact ⟨ret_intP (by rw [show k = x from by omega]), rfl⟩

theorem u8row (zs : List Int) : ∀ u ∈ zs.map (Value.int .u8), u.oneCell' = true := by
  intro u hu; obtain ⟨z, _, rfl⟩ := List.mem_map.1 hu; rfl

theorem next_row (N m : Int) (k : Nat) (h : m = N / pw k) : (m % 256) :: dig N k = dig N (k + 1) := by rw [dig_cons, h]; rfl
theorem next_num (N m : Int) (k : Nat) (h : m = N / pw k) : m / 256 = N / pw (k + 1) := by
  rw [h, pw_succ, Int.ediv_ediv_of_nonneg (Int.le_of_lt (pw_pos k)), Int.mul_comm]

set_option maxHeartbeats 800000 in
theorem rput_ok (N : Int) (x : Nat) (w : World) (h1 : 1 ≤ x) (h6 : x ≤ 6) (h0 : 0 ≤ N) (hn : N < 256 ^ x) :
    Calls Tryd.prog 20 #[.int .i64 N, .int .i64 x] w fun e w' => ∃ v, e = .returned (.tuple #[v, .int .i64 0]) ∧ Own w' w.heap.size v (dig N x) ∧ Below w.heap.size w w' := by
  obtain ⟨i0, hi, hz0, hz1, hz2⟩ := info_parts Tryd.info5
  have hx : N < pw x := hn
  have hmx : N < 281474976710656 := by have := pw6 x h6; omega
  clear hn
  have d1 : decide (6 < (x : Int)) = false := by simp; omega
  go_enter Tryd.func20, Tryd.ntmps20
  go_wp2_with (go_at_call 34; refine (top_any _ _ (by omega)).mono ?_; rintro e w' ⟨rfl, hw⟩; obtain rfl := hw.symm)
  clear hx
  go_loopw [0, 6, 7] (fun n b i wr => ∃ (k : Nat) (m : Int), k ≤ x ∧ i = .int .i64 k ∧ n = .int .i64 m ∧ 0 ≤ m ∧ m < 281474976710656 ∧ Hid (m = N / pw k) ∧ Own wr w.heap.size b (dig N k) ∧ Below w.heap.size w wr ∧ Hid (k = 0 → b = .slice none 0 0)) (fun _ _ i _ => x - (intOf i).toNat)
  case atStart => exact ⟨0, N, Nat.zero_le _, rfl, rfl, h0, hmx, (by unfold Hid pw; simp), Own.nil _ _, Below.refl _ _, fun _ => rfl⟩
  case round =>
    obtain ⟨k, m, hk, rfl, rfl, hm0, hm1, HM, hown, hb, HN⟩ := hrel
    by_cases hlt : k < x
    · by_cases hk0 : k = 0
      · have hbn := HN.out hk0
        subst hbn
        subst hk0
        have hlit : (wr.alloc (.cells #[.int .u8 (m % 256)] 5)).ownsRow w.heap.size 5 1 (.slice (some ⟨wr.heap.size, 0, none⟩) 1 1) 1 [.int .u8 (m % 256)] := World.ownsRow_lit wr #[.int .u8 (m % 256)] 1 hb.size (by decide) rfl
        go_wp2_with (at_builtin; refine wpList_append_own_none rfl _ _ 53 rfl w.heap.size 5 i0 1 Tryd.underlying53 hi _ 1 _ rfl hlit rfl ?_)
        go_roundw
        case rel =>
          have e := next_row N m 0 HM.out
          refine ⟨1, m / 256, by omega, rfl, rfl, by omega, by omega, next_num N m 0 HM.out, ?_, hb.alloc hb.size _, fun h => by cases h⟩
          rw [← e]
          exact hlit
        case measure => simp [intOf]; omega
      · have hlit : (wr.alloc (.cells #[.int .u8 (m % 256)] 5)).ownsRow w.heap.size 5 1 (.slice (some ⟨wr.heap.size, 0, none⟩) 1 1) 1 [.int .u8 (m % 256)] := World.ownsRow_lit wr #[.int .u8 (m % 256)] 1 hb.size (by decide) rfl
        obtain ⟨g, cap, rfl, hgl⟩ : ∃ g cap, u6 = .slice (some ⟨g, 0, none⟩) k cap ∧ g < wr.heap.size := by
          have hl := hown.lt
          rcases hown.2 with ⟨_, h⟩ | ⟨g, cap, cur, rfl, _⟩
          · rw [dig_length] at h; exact absurd h hk0
          · rw [dig_length]
            exact ⟨g, cap, rfl, (hl g rfl).2⟩
        have hcs : ∀ j u, ((dig N k).map (Value.int .u8))[j]? = some u → (wr.alloc (.cells #[.int .u8 (m % 256)] 5)).cell? ((⟨g, 0, none⟩ : Addr).add j) = some u := World.ownsRow.cells (World.ownsRow.alloc hown _) (g := g) rfl
        have HS := hb.size
        go_wp2_with (at_builtin; refine wpList_append_own _ rfl _ _ 53 rfl w.heap.size 5 i0 (.int .u8 0) 1 1 Tryd.underlying53 hi hz0 hz1 hz2 rfl (by decide) _ 1 _ rfl hlit ⟨g, 0, none⟩ k cap ((dig N k).map (Value.int .u8)) rfl ?c0 hcs (u8row _) ?c3 ?c4 ?c5 ?_)
        case c0 => simp [dig_length]
        case c3 => unfold maxLen; omega
        case c4 => omega
        case c5 => simp; omega
        intro v' w1 hown' hgrow _
        have HB : Hid (Below w.heap.size w w1) := (hb.alloc HS _).grown hgrow (by simp; omega) (by intro j hj; simp [Value.ownBlock] at hj; omega)
        have HO : Hid (Own w1 w.heap.size v' (dig N (k + 1))) := by
          have e := next_row N m k HM.out
          show w1.ownsRow _ _ _ _ _ _
          rw [dig_length, ← e, List.map_cons, Nat.add_comm k 1]
          exact hown'
        clear hown' hgrow hlit hcs hown hb
        go_wp2
        go_roundw
        case rel =>
          exact ⟨k + 1, m / 256, by omega, by go_num, rfl, by omega, by omega, next_num N m k HM.out, HO.out, HB.out, fun h => by cases h⟩
        case measure => simp [intOf]; omega
    · have : k = x := by omega
      subst this
      go_wp2
      go_ret2
      exact ⟨_, rfl, hown, hb⟩

set_option maxHeartbeats 400000 in
theorem rput_arg (n x : Int) (w : World) (h : x < 1 ∨ 6 < x) :
    Calls Tryd.prog 20 #[.int .i64 n, .int .i64 x] w fun e w' => e = .returned (.tuple #[.slice none 0 0, .int .i64 2]) ∧ w' = w := by
  by_cases h1 : x < 1
  · go_enter Tryd.func20, Tryd.ntmps20
    go_wp2
    go_ret2
    exact ⟨rfl, rfl⟩
  · have h2 : 6 < x := by omega
    go_enter Tryd.func20, Tryd.ntmps20
    go_wp2
    go_ret2
    exact ⟨rfl, rfl⟩
set_option maxHeartbeats 400000 in
theorem rput_range (n : Int) (x : Nat) (w : World) (h1 : 1 ≤ x) (h6 : x ≤ 6) (hn : n < 0 ∨ 256 ^ x ≤ n) :
    Calls Tryd.prog 20 #[.int .i64 n, .int .i64 x] w fun e w' => e = .returned (.tuple #[.slice none 0 0, .int .i64 12]) ∧ w' = w := by
  have hn' : n < 0 ∨ pw x ≤ n := hn
  clear hn
  have d1 : decide (6 < (x : Int)) = false := by simp; omega
  by_cases h0 : n < 0
  · clear hn'
    go_enter Tryd.func20, Tryd.ntmps20
    go_wp2
    go_ret2
    exact ⟨rfl, rfl⟩
  · have h : pw x ≤ n := by omega
    clear hn'
    go_enter Tryd.func20, Tryd.ntmps20
    go_wp2_with (go_at_call 34; refine (top_any _ _ (by omega)).mono ?_; rintro e w' ⟨rfl, rfl⟩)
    go_ret2
    exact ⟨rfl, rfl⟩

theorem rput_any (n x : Int) (w : World) :
    Calls Tryd.prog 20 #[.int .i64 n, .int .i64 x] w fun e w' => ∃ v, e = .returned (.tuple #[v, .int .i64 (putE n x)]) ∧ Own w' w.heap.size v (putL n x) ∧ Below w.heap.size w w' := by
  unfold putE putL
  by_cases h : x < 1 ∨ 6 < x
  · rw [if_pos h, if_pos h]
    refine (rput_arg n x w h).mono ?_
    rintro e w' ⟨rfl, hw⟩
    obtain rfl := hw.symm
    exact ⟨_, rfl, Own.nil _ _, Below.refl _ _⟩
  · rw [if_neg h, if_neg h]
    obtain ⟨y, rfl⟩ := Int.eq_ofNat_of_zero_le (show 0 ≤ x by omega)
    rw [Int.toNat_natCast]
    by_cases h2 : n < 0 ∨ 256 ^ y ≤ n
    · rw [if_pos h2, if_pos h2]
      refine (rput_range n y w (by omega) (by omega) h2).mono ?_
      rintro e w' ⟨rfl, hw⟩
      obtain rfl := hw.symm
      exact ⟨_, rfl, Own.nil _ _, Below.refl _ _⟩
    · rw [if_neg h2, if_neg h2]
      exact rput_ok n y w (by omega) (by omega) (by omega) (by omega)

def signE (n : Int) : Int := if n < -1099511627776 ∨ 1099511627776 < n then 12 else 0
def signL (n : Int) : List Int := if n < -1099511627776 ∨ 1099511627776 < n then [] else dig (n + 1099511627776) 6

theorem signL_all (n : Int) : AllB (signL n) := by
  unfold signL
  split
  · exact AllB.nil
  · exact dig_all _ _
theorem putE_sign (n : Int) (h : ¬ (n < -1099511627776 ∨ 1099511627776 < n)) : putE (n + 1099511627776) 6 = 0 ∧ putL (n + 1099511627776) 6 = dig (n + 1099511627776) 6 := by
  have q : (256 : Int) ^ (6 : Int).toNat = 281474976710656 := by decide
  constructor
  · unfold putE; rw [if_neg (by decide), if_neg (by omega)]
  · unfold putL; rw [if_neg (by decide), if_neg (by omega)]; rfl

set_option maxHeartbeats 400000 in
theorem sign_any (n : Int) (w : World) :
    Calls Tryd.prog 50 #[.int .i64 n] w fun e w' => ∃ v, e = .returned (.tuple #[v, .int .i64 (signE n)]) ∧ Own w' w.heap.size v (signL n) ∧ Below w.heap.size w w' := by
  unfold signE signL
  by_cases h : n < -1099511627776 ∨ 1099511627776 < n
  · rw [if_pos h, if_pos h]
    by_cases h1 : n < -1099511627776
    · clear h
      go_enter Tryd.func50, Tryd.ntmps50
      go_wp2
      go_ret2
      exact ⟨_, rfl, Own.nil _ _, Below.refl _ _⟩
    · have h2 : 1099511627776 < n := by omega
      clear h
      go_enter Tryd.func50, Tryd.ntmps50
      go_wp2
      go_ret2
      exact ⟨_, rfl, Own.nil _ _, Below.refl _ _⟩
  · rw [if_neg h, if_neg h]
    have hp := put_any (n + 1099511627776) 6 w
    obtain ⟨e1, e2⟩ := putE_sign n h
    rw [e1, e2] at hp
    have h1 : -1099511627776 ≤ n := by omega
    have h2 : n ≤ 1099511627776 := by omega
    have d1 : decide (1099511627776 < n) = false := by simp; omega
    clear h e1 e2
    go_enter Tryd.func50, Tryd.ntmps50
    go_wp2_with (go_at_call 19; refine hp.mono ?_; rintro e w' ⟨v, rfl, ho, hb⟩)
    go_ret2
    exact ⟨_, rfl, ho, hb⟩
set_option maxHeartbeats 400000 in
theorem rsign_any (n : Int) (w : World) :
    Calls Tryd.prog 41 #[.int .i64 n] w fun e w' => ∃ v, e = .returned (.tuple #[v, .int .i64 (signE n)]) ∧ Own w' w.heap.size v (signL n) ∧ Below w.heap.size w w' := by
  unfold signE signL
  by_cases h : n < -1099511627776 ∨ 1099511627776 < n
  · rw [if_pos h, if_pos h]
    by_cases h1 : n < -1099511627776
    · clear h
      go_enter Tryd.func41, Tryd.ntmps41
      go_wp2
      go_ret2
      exact ⟨_, rfl, Own.nil _ _, Below.refl _ _⟩
    · have h2 : 1099511627776 < n := by omega
      clear h
      go_enter Tryd.func41, Tryd.ntmps41
      go_wp2
      go_ret2
      exact ⟨_, rfl, Own.nil _ _, Below.refl _ _⟩
  · rw [if_neg h, if_neg h]
    have hp := rput_any (n + 1099511627776) 6 w
    obtain ⟨e1, e2⟩ := putE_sign n h
    rw [e1, e2] at hp
    have h1 : -1099511627776 ≤ n := by omega
    have h2 : n ≤ 1099511627776 := by omega
    have d1 : decide (1099511627776 < n) = false := by simp; omega
    clear h e1 e2
    go_enter Tryd.func41, Tryd.ntmps41
    go_wp2_with (go_at_call 20; refine hp.mono ?_; rintro e w' ⟨v, rfl, ho, hb⟩)
    go_ret2
    exact ⟨_, rfl, ho, hb⟩
end Go.Proofs.YtpmhilaochfpaaaDoor
