/- A disk as plain data: what each call makes of it. -/
import Derived.Test.YtmapjikbplindaaMath
namespace Go.Proofs.Ytmapjikbplindaa
open Go.RowKit

/-- What a disk is: each block's bytes, its safe bytes, whether it is loose, and the counts. -/
structure DS where
  room : Nat
  B : Nat → List Int
  S : Nat → List Int
  L : Nat → Bool
  down : Bool
  fails : Int
  done : Bool
  ops : Int
  reads : Int

/-- 256 bytes. -/
def IsB (zs : List Int) : Prop := zs.length = 256 ∧ AllB zs

structure DS.Ok (s : DS) : Prop where
  room : s.room ≤ 4096
  isB : ∀ n, n < s.room → IsB (s.B n)
  isS : ∀ n, n < s.room → IsB (s.S n)
  same : ∀ n, n < s.room → s.L n = false → s.S n = s.B n
  lo : -1 ≤ s.fails
  hi : s.fails ≤ 9223372036854775807

def upd {α : Type} (f : Nat → α) (n : Nat) (v : α) : Nat → α := fun k => if k = n then v else f k
theorem upd_same {α : Type} (f : Nat → α) (n : Nat) (v : α) : upd f n v n = v := by simp [upd]
theorem upd_other {α : Type} (f : Nat → α) {n k : Nat} (v : α) (h : k ≠ n) : upd f n v k = f k := by simp [upd, h]

def inc (x : Int) : Int := wrap64 (x + 1)

def newS (blocks : Int) : DS := ⟨(min (max blocks 0) 4096).toNat, fun _ => List.replicate 256 0, fun _ => List.replicate 256 0, fun _ => false, false, -1, false, 0, 0⟩
def readyE (s : DS) : Int := if s.down then 11 else 0
def reachE (s : DS) (n : Int) : Int := if s.down then 11 else if n < 0 ∨ (s.room : Int) ≤ n then 12 else 0
def putS (s : DS) (n : Nat) (b : List Int) : DS := { s with B := upd s.B n b, L := upd s.L n true }
def safeS (s : DS) : DS := { s with S := s.B, L := fun _ => false }
/-- A step: s as it is counted, t what it makes where it is done. -/
def stepS (s t : DS) : DS := if s.fails = 0 then { (if s.done then t else s) with ops := inc s.ops, reads := s.reads, fails := -1, down := true, done := s.done, room := s.room } else { t with ops := inc s.ops, fails := (if 0 < s.fails then s.fails - 1 else s.fails), reads := s.reads, down := s.down, done := s.done, room := s.room }
def stepE (s : DS) : Int := if s.fails = 0 then 11 else 0
def writeE (s : DS) (n : Int) (b : List Int) : Int := if reachE s n ≠ 0 then reachE s n else if b.length ≠ 256 then 2 else stepE s
def writeS (s : DS) (n : Int) (b : List Int) : DS := if reachE s n ≠ 0 ∨ b.length ≠ 256 then s else stepS s (putS s n.toNat b)
def syncE (s : DS) : Int := if s.down then 11 else stepE s
def syncS (s : DS) : DS := if s.down then s else stepS s (safeS s)
def failE (s : DS) (after : Int) : Int := if s.down then 11 else if after < 0 then 2 else 0
def failS (s : DS) (after : Int) (done : Bool) : DS := if s.down ∨ after < 0 then s else { s with fails := after, done := done }
def readS (s : DS) (n : Int) : DS := if reachE s n ≠ 0 then s else { s with reads := inc s.reads }
def readB (s : DS) (n : Int) : List Int := if reachE s n ≠ 0 then [] else s.B n.toNat
/-- The first byte, or 0; and the rest. -/
def nxt : List Int → Int × List Int
  | [] => (0, [])
  | z :: zs => (z, zs)
/-- How many bytes stay, and what is left of the fate. -/
def stay (f : List Int) : Nat × List Int :=
  if (nxt f).1 % 3 = 0 then (0, (nxt f).2) else if (nxt f).1 % 3 = 1 then (256, (nxt f).2) else ((nxt (nxt f).2).1.toNat, (nxt (nxt f).2).2)
def mix (b s : List Int) (n : Nat) : List Int := b.take n ++ s.drop n
def crashB : List Nat → List Int → (Nat → List Int) → (Nat → List Int) → (Nat → List Int)
  | [], _, B, _ => B
  | n :: ns, f, B, S => crashB ns (stay f).2 (upd B n (mix (B n) (S n) (stay f).1)) S
def loose (s : DS) : List Nat := (List.range s.room).filter s.L
def crashS (s : DS) (f : List Int) : DS := safeS { s with B := crashB (loose s) f s.B s.S, down := false, fails := -1, done := false }

theorem isB_zeros : IsB (List.replicate 256 0) := by
  refine ⟨List.length_replicate, ?_⟩
  intro z hz
  rw [List.mem_replicate] at hz
  obtain ⟨_, rfl⟩ := hz
  decide
theorem newS_ok (n : Int) : (newS n).Ok := by
  refine ⟨?_, fun _ _ => isB_zeros, fun _ _ => isB_zeros, fun _ _ _ => rfl, by show (-1 : Int) ≤ -1; decide, by show (-1 : Int) ≤ 9223372036854775807; decide⟩
  show (min (max n 0) 4096).toNat ≤ 4096
  omega
theorem putS_ok {s : DS} (h : s.Ok) {n : Nat} {b : List Int} (hb : IsB b) : (putS s n b).Ok := by
  refine ⟨h.room, fun k hk => ?_, h.isS, fun k hk hl => ?_, h.lo, h.hi⟩
  · show IsB (upd s.B n b k)
    by_cases e : k = n
    · subst e; rw [upd_same]; exact hb
    · rw [upd_other _ _ e]; exact h.isB k hk
  · by_cases e : k = n
    · subst e
      have : upd s.L k true k = false := hl
      rw [upd_same] at this; cases this
    · have h1 : upd s.L n true k = false := hl
      rw [upd_other _ _ e] at h1
      show s.S k = upd s.B n b k
      rw [upd_other _ _ e]; exact h.same k hk h1
theorem safeS_ok {s : DS} (h : s.Ok) : (safeS s).Ok := ⟨h.room, h.isB, h.isB, fun _ _ _ => rfl, h.lo, h.hi⟩
theorem stepS_ok {s t : DS} (h : s.Ok) (ht : t.Ok) (hr : t.room = s.room) : (stepS s t).Ok := by
  have lo := h.lo
  have hi := h.hi
  unfold stepS
  split
  · cases s.done
    · exact ⟨h.room, h.isB, h.isS, h.same, by show (-1 : Int) ≤ -1; decide, by show (-1 : Int) ≤ 9223372036854775807; decide⟩
    · refine ⟨h.room, ?_, ?_, ?_, by show (-1 : Int) ≤ -1; decide, by show (-1 : Int) ≤ 9223372036854775807; decide⟩
      · exact fun n hn => ht.isB n (by rw [hr]; exact hn)
      · exact fun n hn => ht.isS n (by rw [hr]; exact hn)
      · exact fun n hn => ht.same n (by rw [hr]; exact hn)
  · refine ⟨h.room, fun n hn => ht.isB n (by rw [hr]; exact hn), fun n hn => ht.isS n (by rw [hr]; exact hn), fun n hn => ht.same n (by rw [hr]; exact hn), ?_, ?_⟩
    · show -1 ≤ (if 0 < s.fails then s.fails - 1 else s.fails)
      split <;> omega
    · show (if 0 < s.fails then s.fails - 1 else s.fails) ≤ 9223372036854775807
      split <;> omega
theorem mix_isB {b s : List Int} (hb : IsB b) (hs : IsB s) (n : Nat) (hn : n ≤ 256) : IsB (mix b s n) := by
  refine ⟨by simp [mix, hb.1, hs.1]; omega, fun z hz => ?_⟩
  rcases List.mem_append.1 hz with h | h
  · exact hb.2 z (List.mem_of_mem_take h)
  · exact hs.2 z (List.mem_of_mem_drop h)
theorem nxt_AllB {f : List Int} (h : AllB f) : 0 ≤ (nxt f).1 ∧ (nxt f).1 ≤ 255 ∧ AllB (nxt f).2 := by
  cases f with
  | nil => exact ⟨by decide, by decide, fun z hz => by cases hz⟩
  | cons z zs =>
    have := h z (by simp)
    exact ⟨by simpa [nxt] using this.1, by have := this.2; simp [nxt]; omega, fun y hy => h y (List.mem_cons_of_mem _ hy)⟩
theorem stay_le {f : List Int} (h : AllB f) : (stay f).1 ≤ 256 ∧ AllB (stay f).2 := by
  have h1 := nxt_AllB h
  have h2 := nxt_AllB h1.2.2
  unfold stay
  split
  · exact ⟨by simp, h1.2.2⟩
  · split
    · exact ⟨by simp, h1.2.2⟩
    · exact ⟨by simp; omega, h2.2.2⟩
theorem crashB_isB (room : Nat) (S : Nat → List Int) (hS : ∀ n, n < room → IsB (S n)) : ∀ (ns : List Nat) (f : List Int) (B : Nat → List Int), AllB f → (∀ n ∈ ns, n < room) → (∀ n, n < room → IsB (B n)) → ∀ n, n < room → IsB (crashB ns f B S n)
  | [], _, _, _, _, hB => hB
  | m :: ns, f, B, hf, hm, hB => by
    refine crashB_isB room S hS ns _ _ (stay_le hf).2 (fun n hn => hm n (by simp [hn])) ?_
    intro n hn
    by_cases e : n = m
    · subst e; rw [upd_same]; exact mix_isB (hB n hn) (hS n hn) _ (stay_le hf).1
    · rw [upd_other _ _ e]; exact hB n hn
theorem loose_lt (s : DS) : ∀ n ∈ loose s, n < s.room := fun n hn => by
  have := (List.mem_filter.1 hn).1
  simpa using this
theorem crashS_ok {s : DS} (h : s.Ok) {f : List Int} (hf : AllB f) : (crashS s f).Ok := by
  have hB := crashB_isB s.room s.S h.isS (loose s) f s.B hf (loose_lt s) h.isB
  exact ⟨h.room, hB, hB, fun _ _ _ => rfl, by show (-1 : Int) ≤ -1; decide, by show (-1 : Int) ≤ 9223372036854775807; decide⟩
theorem reach_ok {s : DS} {n : Int} (h : reachE s n = 0) : s.down = false ∧ 0 ≤ n ∧ n.toNat < s.room := by
  unfold reachE at h
  split at h
  · cases h
  · split at h
    · cases h
    · rename_i h1 h2
      refine ⟨by simpa using h1, ?_, ?_⟩ <;> omega
theorem writeS_ok {s : DS} (h : s.Ok) (n : Int) {b : List Int} (hb : AllB b) : (writeS s n b).Ok := by
  unfold writeS
  split
  · exact h
  · rename_i hc
    have hl : b.length = 256 := by
      by_cases e : b.length = 256
      · exact e
      · exact absurd (Or.inr e) hc
    exact stepS_ok h (putS_ok h ⟨hl, hb⟩) rfl
theorem syncS_ok {s : DS} (h : s.Ok) : (syncS s).Ok := by
  unfold syncS
  split
  · exact h
  · exact stepS_ok h (safeS_ok h) rfl
theorem readS_ok {s : DS} (h : s.Ok) (n : Int) : (readS s n).Ok := by
  unfold readS
  split
  · exact h
  · exact ⟨h.room, h.isB, h.isS, h.same, h.lo, h.hi⟩
theorem failS_ok {s : DS} (h : s.Ok) (n : Int) (hn : n ≤ 9223372036854775807) (d : Bool) : (failS s n d).Ok := by
  unfold failS
  split
  · exact h
  · rename_i hc
    refine ⟨h.room, h.isB, h.isS, h.same, ?_, hn⟩
    have : ¬ n < 0 := fun e => hc (Or.inr e)
    show -1 ≤ n
    omega
theorem readB_allB {s : DS} (h : s.Ok) (n : Int) : AllB (readB s n) := by
  unfold readB
  split
  · intro z hz; cases hz
  · rename_i hc
    have hr : reachE s n = 0 := by
      by_cases e : reachE s n = 0
      · exact e
      · exact absurd e hc
    exact (h.isB _ (reach_ok hr).2.2).2
end Go.Proofs.Ytmapjikbplindaa
