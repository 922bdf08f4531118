/- What is laid is read: plain mathematics. -/
import Derived.Test.YtadnflaocgmfgaaChoose
namespace Go.Proofs.Ytadnflaocgmfgaa
open Go.RowKit
set_option linter.unusedVariables false
theorem nrun (x : Nat) (d rest : List Int) (h1 : 1 ≤ x) (h6 : x ≤ 6) (hd : d.length = x) : nval x (d ++ rest, 0) = val d ∧ nstep x (d ++ rest, 0) = (rest, 0) := by
  have hE : getE (d ++ rest) x = 0 := by
    unfold getE
    rw [if_neg (by omega), if_neg (by rw [List.length_append]; omega)]
  have hV : getV (d ++ rest) x = val d := by
    unfold getV
    rw [if_neg (by omega), if_neg (by rw [List.length_append]; omega), Int.toNat_natCast, ← hd, List.take_left]
  refine ⟨?_, ?_⟩
  · show numV (d ++ rest) 0 x = _
    unfold numV
    rw [if_pos rfl, hV]
  · show (numZ (d ++ rest) 0 x, numE (d ++ rest) 0 x) = _
    unfold numZ numE
    rw [if_pos ⟨rfl, hE⟩, if_pos rfl, hE, Int.toNat_natCast, ← hd, List.drop_left]
theorem two_run (z : Int) (rest : List Int) (h0 : 0 ≤ z) (h1 : z < 65536) : nval 2 (dig z 2 ++ rest, 0) = z ∧ nstep 2 (dig z 2 ++ rest, 0) = (rest, 0) := by
  have h := nrun 2 (dig z 2) rest (by decide) (by decide) (dig_length 2 z)
  rw [val_dig 2 z h0 h1] at h
  exact h
theorem it_twos : ∀ (zs rest : List Int), (∀ z ∈ zs, 0 ≤ z ∧ z < 65536) → ∀ k, k ≤ zs.length → itN k (twos zs ++ rest, 0) = (twos (zs.drop k) ++ rest, 0)
  | zs, rest, h, 0, _ => rfl
  | zs, rest, h, k + 1, hk => by
    show nstep 2 (itN k (twos zs ++ rest, 0)) = _
    rw [it_twos zs rest h k (by omega), List.drop_eq_getElem_cons (show k < zs.length by omega)]
    have hz := h zs[k] (List.getElem_mem _)
    show nstep 2 ((dig zs[k] 2 ++ twos (zs.drop (k + 1))) ++ rest, 0) = _
    rw [List.append_assoc]
    exact (two_run zs[k] _ hz.1 hz.2).2
theorem vals_twos (zs rest : List Int) (h : ∀ z ∈ zs, 0 ≤ z ∧ z < 65536) : vals zs.length (twos zs ++ rest, 0) = zs := by
  show List.map (fun j => nval 2 (itN j (twos zs ++ rest, 0))) (List.range zs.length) = zs
  refine List.ext_getElem (by simp) (fun k h1 h2 => ?_)
  rw [List.getElem_map, List.getElem_range, it_twos zs rest h k (by omega), List.drop_eq_getElem_cons (show k < zs.length by omega)]
  have hz := h zs[k] (List.getElem_mem _)
  show nval 2 ((dig zs[k] 2 ++ twos (zs.drop (k + 1))) ++ rest, 0) = _
  rw [List.append_assoc]
  exact (two_run zs[k] _ hz.1 hz.2).1
theorem read_body {r : RD} (h : r.Ok) : readS (bodyS r) = r := by
  have e0 := h.e0; have e1 := h.e1; have b0 := h.b0; have b1 := h.b1; have n0 := h.n0; have n1 := h.n1; have s0 := h.s0; have s1 := h.s1; have t1 := h.t1; have m1 := h.m1
  have hT : ∀ z ∈ r.T, 0 ≤ z ∧ z < 65536 := fun z hz => by have := h.tb z hz; omega
  have hM : ∀ z ∈ r.M, 0 ≤ z ∧ z < 65536 := fun z hz => by have := h.mb z hz; omega
  obtain ⟨Q, hQ⟩ : ∃ Q : List Int, Q = List.replicate (246 - (frontS r).length) 0 := ⟨_, rfl⟩
  have p0 : readP (bodyS r) 0 = (dig r.E 6 ++ (dig r.B 2 ++ (dig r.N 2 ++ (dig r.S 2 ++ (dig r.T.length 1 ++ (dig r.M.length 1 ++ (twos r.T ++ (twos r.M ++ Q))))))), 0) := by
    show ((bodyS r).drop 4, (0 : Int)) = _
    unfold bodyS
    rw [← hQ]
    unfold frontS
    simp only [List.append_assoc]
    rfl
  have q0 := nrun 6 (dig r.E 6) (dig r.B 2 ++ (dig r.N 2 ++ (dig r.S 2 ++ (dig r.T.length 1 ++ (dig r.M.length 1 ++ (twos r.T ++ (twos r.M ++ Q))))))) (by decide) (by decide) (dig_length 6 _)
  rw [← p0] at q0
  have p1 : readP (bodyS r) 1 = _ := q0.2
  have q1 := two_run r.B (dig r.N 2 ++ (dig r.S 2 ++ (dig r.T.length 1 ++ (dig r.M.length 1 ++ (twos r.T ++ (twos r.M ++ Q)))))) (by omega) (by omega)
  rw [← p1] at q1
  have p2 : readP (bodyS r) 2 = _ := q1.2
  have q2 := two_run r.N (dig r.S 2 ++ (dig r.T.length 1 ++ (dig r.M.length 1 ++ (twos r.T ++ (twos r.M ++ Q))))) (by omega) (by omega)
  rw [← p2] at q2
  have p3 : readP (bodyS r) 3 = _ := q2.2
  have q3 := two_run r.S (dig r.T.length 1 ++ (dig r.M.length 1 ++ (twos r.T ++ (twos r.M ++ Q)))) (by omega) (by omega)
  rw [← p3] at q3
  have p4 : readP (bodyS r) 4 = _ := q3.2
  have q4 := nrun 1 (dig r.T.length 1) (dig r.M.length 1 ++ (twos r.T ++ (twos r.M ++ Q))) (by decide) (by decide) (dig_length 1 _)
  rw [← p4] at q4
  have p5 : readP (bodyS r) 5 = _ := q4.2
  have q5 := nrun 1 (dig r.M.length 1) (twos r.T ++ (twos r.M ++ Q)) (by decide) (by decide) (dig_length 1 _)
  rw [← p5] at q5
  have p6 : readP (bodyS r) 6 = _ := q5.2
  have vE := val_dig 6 r.E e0 (show r.E < 281474976710656 by omega)
  have vT := val_dig 1 (r.T.length : Int) (by omega) (show (r.T.length : Int) < 256 by omega)
  have vM := val_dig 1 (r.M.length : Int) (by omega) (show (r.M.length : Int) < 256 by omega)
  have tn : readTn (bodyS r) = r.T.length := by
    unfold readTn
    have : nval 1 (readP (bodyS r) 4) = (r.T.length : Int) := q4.1.trans vT
    rw [this, Int.toNat_natCast]
  have mn : readMn (bodyS r) = r.M.length := by
    unfold readMn
    have : nval 1 (readP (bodyS r) 5) = (r.M.length : Int) := q5.1.trans vM
    rw [this, Int.toNat_natCast]
  have g0 : nval 6 (readP (bodyS r) 0) = r.E := q0.1.trans vE
  have it := it_twos r.T (twos r.M ++ Q) hT r.T.length (Nat.le_refl _)
  rw [List.drop_length] at it
  unfold readS
  rw [tn, mn, g0, q1.1, q2.1, q3.1, p6, vals_twos r.T _ hT, it]
  rw [show (twos [] ++ (twos r.M ++ Q), (0 : Int)) = (twos r.M ++ Q, 0) from rfl, vals_twos r.M _ hM]
theorem put_take {r : RD} (h : r.Ok) : (putS r).take 246 = bodyS r ∧ (putS r).take 250 = bodyS r ++ dig (more 0 (bodyS r)) 4 ∧ (putS r).drop 250 = dig r.E 6 ∧ ((putS r).drop 4).take 6 = dig r.E 6 := by
  have hb := body_len h
  refine ⟨?_, ?_, ?_, ?_⟩
  · unfold putS
    rw [List.append_assoc, List.take_append_of_le_length (by omega), List.take_of_length_le (by omega)]
  · unfold putS
    rw [List.take_append_of_le_length (by rw [List.length_append, dig_length]; omega), List.take_of_length_le (by rw [List.length_append, dig_length]; omega)]
  · unfold putS
    rw [List.drop_append_of_le_length (by rw [List.length_append, dig_length]; omega), List.drop_of_length_le (by rw [List.length_append, dig_length]; omega), List.nil_append]
  · have e : putS r = [114, 111, 111, 116] ++ (dig r.E 6 ++ ((dig r.B 2 ++ dig r.N 2 ++ dig r.S 2) ++ ((dig r.T.length 1 ++ dig r.M.length 1) ++ (twos r.T ++ (twos r.M ++ (List.replicate (246 - (frontS r).length) 0 ++ (dig (more 0 (bodyS r)) 4 ++ dig r.E 6))))))) := by
      rw [show putS r = (frontS r ++ List.replicate (246 - (frontS r).length) 0) ++ dig (more 0 (bodyS r)) 4 ++ dig r.E 6 from rfl]
      rw [show frontS r = [114, 111, 111, 116] ++ dig r.E 6 ++ (dig r.B 2 ++ dig r.N 2 ++ dig r.S 2) ++ (dig r.T.length 1 ++ dig r.M.length 1) ++ twos r.T ++ twos r.M from rfl]
      simp only [List.append_assoc]
    rw [e]
    rw [show ([114, 111, 111, 116] : List Int) = [114, 111, 111, 116] from rfl, List.drop_left' (by rfl), List.take_left' (dig_length 6 _)]
theorem good_body {r : RD} (h : r.Ok) : Good ((putS r).take 250) := by
  have hl : ((putS r).take 250).length = 246 + 4 := by rw [List.length_take, put_len h]; rfl
  rw [good_split hl, List.take_take, show min 246 250 = 246 from rfl, (put_take h).1, (put_take h).2.1]
theorem get_put {r : RD} (h : r.Ok) : getS (putS r) = (r, 0) := by
  unfold getS
  rw [if_neg (by rw [put_len h]; simp), if_neg (by rw [(put_take h).2.2.1, (put_take h).2.2.2]; simp), if_neg (fun hg => hg (good_body h)), (put_take h).1, read_body h, if_pos ⟨checkE_ok h, rfl⟩]
theorem gets_ok {zs : List Int} (h : (getS zs).2 = 0) : (getS zs).1.Ok ∧ putS (getS zs).1 = zs := by
  unfold getS at h ⊢
  split at h
  · cases h
  · split at h
    · cases h
    · split at h
      · cases h
      · split at h
        · rename_i h1 h2 h3 h4
          rw [if_neg h1, if_neg h2, if_neg h3, if_pos h4]
          exact ⟨ok_checkE h4.1, h4.2⟩
        · cases h
theorem gets_bad {zs : List Int} (h : (getS zs).2 ≠ 0) : (getS zs).1 = zero ∧ ∀ r : RD, r.Ok → putS r ≠ zs := by
  refine ⟨?_, fun r hr e => ?_⟩
  · unfold getS at h ⊢
    split
    · rfl
    · split
      · rfl
      · split
        · rfl
        · split
          · rename_i h1 h2 h3 h4
            rw [if_neg h1, if_neg h2, if_neg h3, if_pos h4] at h
            exact absurd rfl h
          · rfl
  · rw [← e, get_put hr] at h
    exact h rfl
theorem put_inj {r s : RD} (hr : r.Ok) (hs : s.Ok) (h : putS r = putS s) : r = s := by
  have h1 := get_put hr
  rw [h, get_put hs] at h1
  exact (Prod.mk.inj h1).1.symm
end Go.Proofs.Ytadnflaocgmfgaa
