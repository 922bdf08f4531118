/- What is read from a body: pure. -/
import Derived.Test.YtnnndkpmlpbpcaaPt
import Derived.Test.YtnnndkpmlpbpcaaRqt
namespace Go.Proofs.Ytnnndkpmlpbpcaa
open Go.RowKit
set_option linter.unusedVariables false

abbrev RS := List Int × Int
def tval (p : RS) : ByteArray := rtxS p.1 p.2
def tstep (p : RS) : RS := (rtxZ p.1 p.2, rtxE p.1 p.2)
def itT : Nat → RS → RS
  | 0, p => p
  | k + 1, p => tstep (tstep (itT k p))
def pairsR (k : Nat) (p : RS) : List PR := (List.range k).map fun j => (tval (itT j p), tval (tstep (itT j p)))
theorem pairsR_len (k : Nat) (p : RS) : (pairsR k p).length = k := by simp [pairsR]
theorem pairsR_succ (k : Nat) (p : RS) : pairsR (k + 1) p = pairsR k p ++ [(tval (itT k p), tval (tstep (itT k p)))] := by simp [pairsR, List.range_succ]
def p1 (zs : List Int) : RS := nstep 1 (zs, 0)
def p2 (zs : List Int) : RS := nstep 2 (p1 zs)
def p3 (zs : List Int) : RS := nstep 1 (p2 zs)
def readD (zs : List Int) : Int := nval 1 (zs, 0)
def readN (zs : List Int) : Int := nval 2 (p1 zs)
def readM (zs : List Int) : Int := nval 1 (p2 zs)
def readP (zs : List Int) : List PR := pairsR (readM zs).toNat (p3 zs)
def isB (zs : List Int) : Bool := decide (checkE (readD zs) (readN zs) (readP zs) = 0 ∧ putB (readD zs) (readN zs) (readP zs) = zs)
theorem nval_one (z : Int) (zs : List Int) : nval 1 (z :: zs, 0) = z ∧ nstep 1 (z :: zs, 0) = (zs, 0) := by
  obtain ⟨h1, h2⟩ := get1 (z :: zs) (by simp)
  constructor
  · unfold nval numV
    rw [if_pos rfl, h1]; rfl
  · unfold nstep numZ numE
    rw [if_pos ⟨rfl, h2⟩, if_pos rfl, h2]; rfl
theorem get2 (x y : Int) (zs : List Int) : getV (x :: y :: zs) 2 = x * 256 + y ∧ getE (x :: y :: zs) 2 = 0 := by
  constructor
  · unfold getV
    rw [if_neg (by decide), if_neg (by simp; omega)]
    show val [x, y] = _
    simp [val]
    omega
  · unfold getE; rw [if_neg (by decide), if_neg (by simp; omega)]
theorem nval_two (x y : Int) (zs : List Int) : nval 2 (x :: y :: zs, 0) = x * 256 + y ∧ nstep 2 (x :: y :: zs, 0) = (zs, 0) := by
  obtain ⟨h1, h2⟩ := get2 x y zs
  constructor
  · unfold nval numV
    rw [if_pos rfl, h1]
  · unfold nstep numZ numE
    rw [if_pos ⟨rfl, h2⟩, if_pos rfl, h2]; rfl
theorem map_inj {α β : Type} {f : α → β} (hf : ∀ a b, f a = f b → a = b) : ∀ {l m : List α}, l.map f = m.map f → l = m
  | [], [], _ => rfl
  | [], _ :: _, h => by simp at h
  | _ :: _, [], h => by simp at h
  | a :: l, b :: m, h => by
    simp only [List.map_cons, List.cons.injEq] at h
    rw [hf a b h.1, map_inj hf h.2]
theorem str_of (s : ByteArray) : strOfNums (bytesOf s) = s := by
  have h := str_back (bytesOf_all s)
  have h2 : (strOfNums (bytesOf s)).toList = s.data.toList := by
    rw [ByteArray.toList_eq] at *
    unfold bytesOf at h
    exact map_inj (fun a b hab => UInt8.toNat_inj.1 (Int.ofNat.inj hab)) h
  apply ByteArray.ext
  apply Array.toList_inj.1
  rw [← ByteArray.toList_eq]
  exact h2
theorem textL_short (s : ByteArray) (h : s.size ≤ 255) : textL s = (s.size : Int) :: bytesOf s := by unfold textL; rw [if_neg (by omega)]
theorem tval_text (s : ByteArray) (r : List Int) (h : s.size ≤ 255) : tval (textL s ++ r, 0) = s ∧ tstep (textL s ++ r, 0) = (r, 0) := by
  rw [textL_short s h]
  have hb := bytesOf_length s
  have hg : ¬ (((((s.size : Int) :: bytesOf s) ++ r).length : Int) < 1 + (((s.size : Int) :: bytesOf s) ++ r).getD 0 0 ∨ (((s.size : Int) :: bytesOf s) ++ r).length < 1) := by
    simp [hb]; omega
  have hE : txE (((s.size : Int) :: bytesOf s) ++ r) = 0 := by unfold txE; rw [if_neg hg]
  constructor
  · show (if (0 : Int) = 0 then txS (((s.size : Int) :: bytesOf s) ++ r) else ByteArray.empty) = s
    rw [if_pos rfl]
    unfold txS
    rw [if_neg hg]
    unfold txL
    have : ((((s.size : Int) :: bytesOf s) ++ r).drop 1).take ((((s.size : Int) :: bytesOf s) ++ r).getD 0 0).toNat = bytesOf s := by
      simp [hb]
    rw [this, str_of]
  · show ((if (0 : Int) = 0 ∧ txE _ = 0 then List.drop _ _ else _), (if (0 : Int) = 0 then txE _ else _)) = (r, 0)
    rw [if_pos ⟨rfl, hE⟩, if_pos rfl, hE]
    have : (((s.size : Int) :: bytesOf s) ++ r).drop (1 + ((((s.size : Int) :: bytesOf s) ++ r).getD 0 0).toNat) = r := by
      simp [Nat.add_comm 1, hb]
    rw [this]
theorem it_body (ps : List PR) (r : List Int) (h : ∀ p ∈ ps, p.1.size ≤ 255 ∧ p.2.size ≤ 255) (k : Nat) (hk : k ≤ ps.length) : itT k (bodyS ps ++ r, 0) = (bodyS (ps.drop k) ++ r, 0) := by
  induction k with
  | zero => simp [itT]
  | succ k ih =>
    unfold itT
    rw [ih (by omega)]
    have hlt : k < ps.length := by omega
    have hd : ps.drop k = ps[k] :: ps.drop (k + 1) := List.drop_eq_getElem_cons hlt
    obtain ⟨h1, h2⟩ := h ps[k] (List.getElem_mem hlt)
    rw [hd, bodyS_cons, List.append_assoc, List.append_assoc, (tval_text _ _ h1).2, (tval_text _ _ h2).2]
theorem pairs_body (ps : List PR) (r : List Int) (h : ∀ p ∈ ps, p.1.size ≤ 255 ∧ p.2.size ≤ 255) : pairsR ps.length (bodyS ps ++ r, 0) = ps := by
  apply List.ext_getElem (by simp [pairsR])
  intro k h1 h2
  have e : (pairsR ps.length (bodyS ps ++ r, 0))[k] = (tval (itT k (bodyS ps ++ r, 0)), tval (tstep (itT k (bodyS ps ++ r, 0)))) := by simp [pairsR]
  rw [e, it_body ps r h k (by omega)]
  have hd : ps.drop k = ps[k] :: ps.drop (k + 1) := List.drop_eq_getElem_cons h2
  obtain ⟨g1, g2⟩ := h ps[k] (List.getElem_mem h2)
  rw [hd, bodyS_cons, List.append_assoc, List.append_assoc, (tval_text _ _ g1).1, (tval_text _ _ g1).2, (tval_text _ _ g2).1]
theorem Fine.short {d n : Int} {ps : List PR} (h : Fine d n ps) : ∀ p ∈ ps, p.1.size ≤ 255 ∧ p.2.size ≤ 255 := by
  intro p hp
  have := (List.any_eq_false.1 h.len) p hp
  unfold longP at this
  simp at this
  omega
theorem p1_put (d n : Int) (ps : List PR) (r : List Int) : readD (putS d n ps ++ r) = d ∧ p1 (putS d n ps ++ r) = (n / 256 :: n % 256 :: (ps.length : Int) :: (bodyS ps ++ r), 0) := nval_one _ _
theorem read_put {d n : Int} {ps : List PR} (r : List Int) (h : Fine d n ps) : readD (putS d n ps ++ r) = d ∧ readN (putS d n ps ++ r) = n ∧ readM (putS d n ps ++ r) = ps.length ∧ p3 (putS d n ps ++ r) = (bodyS ps ++ r, 0) ∧ readP (putS d n ps ++ r) = ps := by
  obtain ⟨h1, h2⟩ := p1_put d n ps r
  obtain ⟨h3, h4⟩ := nval_two (n / 256) (n % 256) ((ps.length : Int) :: (bodyS ps ++ r))
  obtain ⟨h5, h6⟩ := nval_one (ps.length : Int) (bodyS ps ++ r)
  have q2 : p2 (putS d n ps ++ r) = ((ps.length : Int) :: (bodyS ps ++ r), 0) := by unfold p2; rw [h2, h4]
  have qn : readN (putS d n ps ++ r) = n := by unfold readN; rw [h2, h3]; omega
  have qm : readM (putS d n ps ++ r) = ps.length := by unfold readM; rw [q2, h5]
  have q3 : p3 (putS d n ps ++ r) = (bodyS ps ++ r, 0) := by unfold p3; rw [q2, h6]
  refine ⟨h1, qn, qm, q3, ?_⟩
  unfold readP
  rw [qm, q3, Int.toNat_natCast, pairs_body ps r h.short]
/-- The bytes of a bucket that may be are that bucket. -/
theorem isB_put {d n : Int} {ps : List PR} (h : Fine d n ps) : isB (putS d n ps) = true := by
  obtain ⟨h1, h2, _, _, h5⟩ := read_put [] h
  rw [List.append_nil] at h1 h2 h5
  unfold isB
  rw [h1, h2, h5, decide_eq_true_eq]
  exact ⟨h.check, by unfold putB; rw [if_pos h.check]⟩
theorem isB_fine {zs : List Int} (h : isB zs = true) : Fine (readD zs) (readN zs) (readP zs) ∧ putS (readD zs) (readN zs) (readP zs) = zs := by
  unfold isB at h
  rw [decide_eq_true_eq] at h
  refine ⟨fine_of h.1, ?_⟩
  have := h.2
  unfold putB at this
  rw [if_pos h.1] at this
  exact this
theorem isB_end {zs : List Int} (h : isB zs = true) : itT (readM zs).toNat (p3 zs) = ([], 0) := by
  obtain ⟨h1, h2⟩ := isB_fine h
  obtain ⟨_, _, h5, h6, _⟩ := read_put [] h1
  rw [List.append_nil, h2] at h5 h6
  rw [h5, h6, Int.toNat_natCast, it_body _ _ h1.short _ (Nat.le_refl _)]
  simp [bodyS]
end Go.Proofs.Ytnnndkpmlpbpcaa
