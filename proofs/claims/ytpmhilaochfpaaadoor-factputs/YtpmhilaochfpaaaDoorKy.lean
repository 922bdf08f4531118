/- Facts' keys and the tags of keys: both sides, contracts of single calls. -/
import Derived.Test.YtpmhilaochfpaaaDoorCv
import Derived.Test.YtpmhilaochfpaaaDoorGets2
namespace Go.Proofs.YtpmhilaochfpaaaDoor
open Go.RowKit
set_option linter.unusedVariables false
set_option linter.unusedSimpArgs false
set_option maxRecDepth 20000

/-- A tag's key. -/
def keyS (t : Int) : Str := if t < 1 ∨ 1099511627776 < t then [] else 119 :: b8 (dig t 6)
def keyE (t : Int) : Int := if t < 1 ∨ 1099511627776 < t then 22 else 0
theorem key_no {t : Int} (h : t < 1 ∨ 1099511627776 < t) : keyS t = [] ∧ keyE t = 22 := ⟨by unfold keyS; rw [if_pos h], by unfold keyE; rw [if_pos h]⟩
theorem key_yes {t : Int} (h1 : 1 ≤ t) (h2 : t ≤ 1099511627776) : keyS t = 119 :: b8 (dig t 6) ∧ keyE t = 0 := ⟨by unfold keyS; rw [if_neg (by omega)], by unfold keyE; rw [if_neg (by omega)]⟩
theorem put6 {t : Int} (h1 : 1 ≤ t) (h2 : t ≤ 1099511627776) : putL t 6 = dig t 6 ∧ putE t 6 = 0 := by
  have e : (256 : Int) ^ (6 : Int).toNat = 281474976710656 := by decide
  constructor
  · unfold putL; rw [if_neg (by omega), e, if_neg (by omega)]; rfl
  · unfold putE; rw [if_neg (by omega), e, if_neg (by omega)]
theorem wcat (l : Str) : (⟨#[119]⟩ : ByteArray) ++ st l = st (119 :: l) := st_cat [119] l
set_option maxHeartbeats 1000000 in
theorem key_any (t : Int) (w : World) : Calls Tryd.prog 7 #[.int .i64 t] w fun e w' => e = .returned (.tuple #[.string (st (keyS t)), .int .i64 (keyE t)]) ∧ Below w.heap.size w w' := by
  by_cases h1 : t < 1
  · obtain ⟨e1, e2⟩ := key_no (.inl h1)
    rw [e1, e2]
    go_enter Tryd.func7, Tryd.ntmps7
    go_wp2
    go_ret2
    exact ⟨rfl, Below.refl _ _⟩
  · by_cases h2 : 1099511627776 < t
    · obtain ⟨e1, e2⟩ := key_no (.inr h2)
      rw [e1, e2]
      go_enter Tryd.func7, Tryd.ntmps7
      go_wp2
      go_ret2
      exact ⟨rfl, Below.refl _ _⟩
    · obtain ⟨e1, e2⟩ := key_yes (t := t) (by omega) (by omega)
      obtain ⟨p1, p2⟩ := put6 (t := t) (by omega) (by omega)
      have CP := put_any t 6 w
      rw [p1, p2] at CP
      rw [e1, e2, ← wcat, ← str_st]
      have HA := dig_all 6 t
      have HS : ¬ 9223372036854775807 < 1 + (strOfNums (dig t 6)).size := by rw [str_st, st_size, b8_len, dig_length]; omega
      generalize dig t 6 = zs at *
      go_enter Tryd.func7, Tryd.ntmps7
      go_wp2_with (go_at_call 19; refine CP.mono ?_; rintro e w1 ⟨v, rfl, ho, hb1⟩; clear CP; have KC := conv_own ho HA)
      go_ret2
      exact ⟨rfl, hb1⟩
set_option maxHeartbeats 1000000 in
theorem rkey_any (t : Int) (w : World) : Calls Tryd.prog 8 #[.int .i64 t] w fun e w' => e = .returned (.tuple #[.string (st (keyS t)), .int .i64 (keyE t)]) ∧ Below w.heap.size w w' := by
  by_cases h1 : t < 1
  · obtain ⟨e1, e2⟩ := key_no (.inl h1)
    rw [e1, e2]
    go_enter Tryd.func8, Tryd.ntmps8
    go_wp2
    go_ret2
    exact ⟨rfl, Below.refl _ _⟩
  · by_cases h2 : 1099511627776 < t
    · obtain ⟨e1, e2⟩ := key_no (.inr h2)
      rw [e1, e2]
      go_enter Tryd.func8, Tryd.ntmps8
      go_wp2
      go_ret2
      exact ⟨rfl, Below.refl _ _⟩
    · obtain ⟨e1, e2⟩ := key_yes (t := t) (by omega) (by omega)
      obtain ⟨p1, p2⟩ := put6 (t := t) (by omega) (by omega)
      have CP := rput_any t 6 w
      rw [p1, p2] at CP
      rw [e1, e2, ← wcat, ← str_st]
      have HA := dig_all 6 t
      have HS : ¬ 9223372036854775807 < 1 + (strOfNums (dig t 6)).size := by rw [str_st, st_size, b8_len, dig_length]; omega
      generalize dig t 6 = zs at *
      go_enter Tryd.func8, Tryd.ntmps8
      go_wp2_with (go_at_call 20; refine CP.mono ?_; rintro e w1 ⟨v, rfl, ho, hb1⟩; clear CP; have KC := conv_own ho HA)
      go_ret2
      exact ⟨rfl, hb1⟩
/-! ### The tag of a key -/
/-- The number behind a key's first byte. -/
def tagN (k : Str) : Int := val ((k.map fun b => (b.toNat : Int)).drop 1)
def tagV (k : Str) : Int := if k.length = 7 ∧ keyE (tagN k) = 0 ∧ keyS (tagN k) = k then tagN k else 0
def tagE (k : Str) : Int := if k.length = 7 ∧ keyE (tagN k) = 0 ∧ keyS (tagN k) = k then 0 else 4
theorem tag_no {k : Str} (h : ¬ (k.length = 7 ∧ keyE (tagN k) = 0 ∧ keyS (tagN k) = k)) : tagV k = 0 ∧ tagE k = 4 := ⟨by unfold tagV; rw [if_neg h], by unfold tagE; rw [if_neg h]⟩
theorem tag_yes {k : Str} (h : k.length = 7 ∧ keyE (tagN k) = 0 ∧ keyS (tagN k) = k) : tagV k = tagN k ∧ tagE k = 0 := ⟨by unfold tagV; rw [if_pos h], by unfold tagE; rw [if_pos h]⟩
theorem bytes_ext (k : Str) (h : 1 ≤ k.length) : bytesOf ((st k).extract 1 k.length) = (k.map fun b => (b.toNat : Int)).drop 1 := by
  unfold bytesOf
  rw [ByteArray.data_extract]
  simp [st, List.map_drop]
  exact List.take_of_length_le (by simp)
theorem len7 (k : Str) : (((k.length : Nat) : Int) = 7) ↔ k.length = 7 := by omega
theorem get6 {zs : List Int} (h : zs.length = 6) : getV zs 6 = val zs ∧ getE zs 6 = 0 := by
  constructor
  · unfold getV; rw [if_neg (by omega), if_neg (by omega), show (6 : Int).toNat = 6 from rfl, List.take_of_length_le (by omega)]
  · unfold getE; rw [if_neg (by omega), if_neg (by omega)]
set_option maxHeartbeats 2000000 in
theorem tag_any (k : Str) (w : World) (hl : k.length ≤ 1000000) : Calls Tryd.prog 9 #[.string (st k)] w fun e w' => e = .returned (.tuple #[.int .i64 (tagV k), .int .i64 (tagE k)]) ∧ Below w.heap.size w w' := by
  have hsz := st_size k
  by_cases h7 : k.length = 7
  · have hex := bytes_ext k (by omega)
    have KC := fun w' => conv_sb w' ((st k).extract 1 k.length)
    have hes : ((st k).extract 1 k.length).size = 6 := by rw [ByteArray.size_extract, hsz]; omega
    have CG := fun w' => get_any (some ⟨w.heap.size, 0, none⟩) 6 (gc w ((st k).extract 1 k.length)) ((k.map fun b => (b.toNat : Int)).drop 1) 6 w'
    have HB := bw_bv w ((st k).extract 1 k.length)
    have hzl : ((k.map fun b => (b.toNat : Int)).drop 1).length = 6 := by rw [List.length_drop, List.length_map, h7]
    obtain ⟨g1, g2⟩ := get6 hzl
    rw [hex] at HB
    have CG2 := CG _ HB hzl (by omega)
    rw [g1, g2] at CG2
    have CK := fun w' => key_any (val ((k.map fun b => (b.toNat : Int)).drop 1)) w'
    have hbl := bw_below w ((st k).extract 1 k.length)
    rw [hes] at KC
    have KC1 := KC w
    clear CG KC HB
    have HY : Hid ((keyE (tagN k) = 0 ∧ keyS (tagN k) = k) → tagV k = tagN k ∧ tagE k = 0) := fun h => tag_yes ⟨h7, h⟩
    have HN : Hid (¬ (keyE (tagN k) = 0 ∧ keyS (tagN k) = k) → tagV k = 0 ∧ tagE k = 4) := fun h => tag_no fun h' => h h'.2
    have hT : val ((k.map fun b => (b.toNat : Int)).drop 1) = tagN k := rfl
    rw [hT] at CG2 CK
    have hlt : ¬ (1 > k.length) := by omega
    generalize hKS : keyS (tagN k) = ks at *
    generalize hKE : keyE (tagN k) = ke at *
    generalize tagN k = n at *
    generalize bw w ((st k).extract 1 k.length) = W at *
    generalize gc w ((st k).extract 1 k.length) = cap at *
    clear hT hzl hex g1 g2
    have hs7 : (st k).size = 7 := by omega
    rw [h7] at KC1
    have EQ : Hid ((!(st ks).toList == (st k).toList) = !decide (ks = k)) := by
      show (!(st ks).toList == (st k).toList) = !decide (ks = k)
      rw [eq_list, st_list, st_list]
    generalize st k = sk at *
    go_enter Tryd.func9, Tryd.ntmps9
    go_wp2_with (first | (go_at_call 21; refine CG2.mono ?_; rintro e w1 ⟨rfl, rfl⟩) | (go_at_call 7; refine (CK _).mono ?_; rintro e w2 ⟨rfl, hb2⟩))
    · rename_i h0 hn
      rw [EQ.out] at hn
      obtain ⟨e1, e2⟩ := HN.out fun h => by rw [decide_eq_true h.2] at hn; cases hn
      go_ret2
      exact ⟨by rw [e1, e2]; rfl, bt hbl hb2⟩
    · rename_i h0 hn
      rw [EQ.out] at hn
      obtain ⟨e1, e2⟩ := HY.out ⟨h0, by simpa using hn⟩
      go_ret2
      exact ⟨by rw [e1, e2]; rfl, bt hbl hb2⟩
    · rename_i h0
      obtain ⟨e1, e2⟩ := HN.out fun h => h0 h.1
      go_ret2
      exact ⟨by rw [e1, e2]; rfl, bt hbl hb2⟩
  · obtain ⟨e1, e2⟩ := tag_no (k := k) fun h => h7 h.1
    rw [e1, e2]
    have hz7 : ¬ (st k).size = 7 := by omega
    have hz8 : ((((st k).size : Nat) : Int) == 7) = false := by simp; omega
    go_enter Tryd.func9, Tryd.ntmps9
    go_wp2
    go_ret2
    exact ⟨rfl, Below.refl _ _⟩
set_option maxHeartbeats 2000000 in
theorem rtag_any (k : Str) (w : World) (hl : k.length ≤ 1000000) : Calls Tryd.prog 10 #[.string (st k)] w fun e w' => e = .returned (.tuple #[.int .i64 (tagV k), .int .i64 (tagE k)]) ∧ Below w.heap.size w w' := by
  have hsz := st_size k
  by_cases h7 : k.length = 7
  · have hex := bytes_ext k (by omega)
    have KC := fun w' => conv_sb w' ((st k).extract 1 k.length)
    have hes : ((st k).extract 1 k.length).size = 6 := by rw [ByteArray.size_extract, hsz]; omega
    have CG := fun w' => rget_any (some ⟨w.heap.size, 0, none⟩) 6 (gc w ((st k).extract 1 k.length)) ((k.map fun b => (b.toNat : Int)).drop 1) 6 w'
    have HB := bw_bv w ((st k).extract 1 k.length)
    have hzl : ((k.map fun b => (b.toNat : Int)).drop 1).length = 6 := by rw [List.length_drop, List.length_map, h7]
    obtain ⟨g1, g2⟩ := get6 hzl
    rw [hex] at HB
    have CG2 := CG _ HB hzl (by omega)
    rw [g1, g2] at CG2
    have CK := fun w' => rkey_any (val ((k.map fun b => (b.toNat : Int)).drop 1)) w'
    have hbl := bw_below w ((st k).extract 1 k.length)
    rw [hes] at KC
    have KC1 := KC w
    clear CG KC HB
    have HY : Hid ((keyE (tagN k) = 0 ∧ keyS (tagN k) = k) → tagV k = tagN k ∧ tagE k = 0) := fun h => tag_yes ⟨h7, h⟩
    have HN : Hid (¬ (keyE (tagN k) = 0 ∧ keyS (tagN k) = k) → tagV k = 0 ∧ tagE k = 4) := fun h => tag_no fun h' => h h'.2
    have hT : val ((k.map fun b => (b.toNat : Int)).drop 1) = tagN k := rfl
    rw [hT] at CG2 CK
    have hlt : ¬ (1 > k.length) := by omega
    generalize hKS : keyS (tagN k) = ks at *
    generalize hKE : keyE (tagN k) = ke at *
    generalize tagN k = n at *
    generalize bw w ((st k).extract 1 k.length) = W at *
    generalize gc w ((st k).extract 1 k.length) = cap at *
    clear hT hzl hex g1 g2
    have hs7 : (st k).size = 7 := by omega
    rw [h7] at KC1
    have EQ : Hid ((!(st ks).toList == (st k).toList) = !decide (ks = k)) := by
      show (!(st ks).toList == (st k).toList) = !decide (ks = k)
      rw [eq_list, st_list, st_list]
    generalize st k = sk at *
    go_enter Tryd.func10, Tryd.ntmps10
    go_wp2_with (first | (go_at_call 22; refine CG2.mono ?_; rintro e w1 ⟨rfl, rfl⟩) | (go_at_call 8; refine (CK _).mono ?_; rintro e w2 ⟨rfl, hb2⟩))
    · rename_i h0 hn
      rw [EQ.out] at hn
      obtain ⟨e1, e2⟩ := HN.out fun h => by rw [decide_eq_true h.2] at hn; cases hn
      go_ret2
      exact ⟨by rw [e1, e2]; rfl, bt hbl hb2⟩
    · rename_i h0 hn
      rw [EQ.out] at hn
      obtain ⟨e1, e2⟩ := HY.out ⟨h0, by simpa using hn⟩
      go_ret2
      exact ⟨by rw [e1, e2]; rfl, bt hbl hb2⟩
    · rename_i h0
      obtain ⟨e1, e2⟩ := HN.out fun h => h0 h.1
      go_ret2
      exact ⟨by rw [e1, e2]; rfl, bt hbl hb2⟩
  · obtain ⟨e1, e2⟩ := tag_no (k := k) fun h => h7 h.1
    rw [e1, e2]
    have hz7 : ¬ (st k).size = 7 := by omega
    have hz8 : ((((st k).size : Nat) : Int) == 7) = false := by simp; omega
    go_enter Tryd.func10, Tryd.ntmps10
    go_wp2
    go_ret2
    exact ⟨rfl, Below.refl _ _⟩
/-- A key's tag is told by the key. -/
theorem tag_key {t : Int} (h1 : 1 ≤ t) (h2 : t ≤ 1099511627776) : tagV (keyS t) = t ∧ tagE (keyS t) = 0 := by
  obtain ⟨e1, e2⟩ := key_yes h1 h2
  have hn : tagN (keyS t) = t := by
    rw [e1]
    show val ((b8 (dig t 6)).map fun b => (b.toNat : Int)) = t
    rw [b8_of (dig_all 6 t)]
    exact val_dig 6 t (by omega) (by omega)
  have hk : (keyS t).length = 7 := by rw [e1, List.length_cons, b8_len, dig_length]
  obtain ⟨g1, g2⟩ := tag_yes (k := keyS t) ⟨hk, by rw [hn]; exact e2, by rw [hn]⟩
  exact ⟨by rw [g1, hn], g2⟩
end Go.Proofs.YtpmhilaochfpaaaDoor
