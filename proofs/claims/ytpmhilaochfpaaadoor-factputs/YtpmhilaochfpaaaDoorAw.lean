/- What every right program lays of one fact: the call 'awake' of the statements answers true. -/
import Derived.Test.YtpmhilaochfpaaaDoorBkp
import Derived.Test.YtpmhilaochfpaaaDoorGg
import Derived.Test.YtpmhilaochfpaaaDoorKy
namespace Go.Proofs.YtpmhilaochfpaaaDoor
open Go.RowKit
set_option linter.unusedVariables false
set_option linter.unusedSimpArgs false
set_option maxRecDepth 20000

theorem fV_of {x : VD} (h : 0 ≤ x.k ∧ x.k ≤ 255) (h2 : x.s.length ≤ 60) : fV x := ⟨h.1, h.2, by omega⟩
def ONE : List ClassD := [⟨[99], [[112], [113]]⟩]
def FOne : FactD := ⟨258, [99], [⟨1, 5, []⟩, ⟨0, 0, []⟩]⟩
def KO : Str := [119, 0, 0, 0, 0, 1, 2]
def SO : Str := [0, 1, 1, 0, 0, 0, 0, 5, 0]
theorem one_key : keyS 258 = KO ∧ keyE 258 = 0 := by decide +kernel
theorem one_tag : tagV KO = 258 ∧ tagE KO = 0 := by rw [← one_key.1]; exact tag_key (by decide) (by decide)
theorem one_put : putS ONE FOne = SO ∧ putEr ONE FOne = 0 := by decide +kernel
theorem foV : ∀ x ∈ FOne.vs, fV x := by
  intro x hx
  simp only [FOne, List.mem_cons, List.not_mem_nil, or_false] at hx
  rcases hx with rfl | rfl <;> (refine ⟨by decide, by decide, by decide⟩)
theorem one_get : getF pvF gvF ONE 258 (nb SO) = some FOne := by
  have := (back_plain (cs := ONE) (f := FOne) (by decide) foV one_put.2).2.2.1
  rw [one_put.1] at this
  exact this
theorem oneL : ∀ c ∈ ONE, c.attrs.length ≤ 100 := by
  intro c hc
  simp only [ONE, List.mem_cons, List.not_mem_nil, or_false] at hc
  subst hc; decide
theorem one_row (w : World) : Row 2 (ReK (fun _ _ => True)) ((w.alloc (.cells #[.string ⟨#[112]⟩, .string ⟨#[113]⟩] 9)).alloc (.cells #[.string ⟨#[99]⟩, .slice (some ⟨w.heap.size, 0, none⟩) 2 2] 50)) (fun _ => True) (.slice (some ⟨w.heap.size + 1, 0, none⟩) 1 1) ONE := by
  refine ⟨[[.string (st [99]), .slice (some ⟨w.heap.size, 0, none⟩) 2 2]], ⟨_, 1, rfl, Nat.le_refl _, by decide, .inr ⟨w.heap.size + 1, 0, by simp, by simp, trivial, fun i j hi hj => ?_⟩⟩, ⟨⟨_, rfl, ⟨_, 2, rfl, Nat.le_refl _, by decide, .inr ⟨w.heap.size, 0, rfl, by simp; omega, trivial, fun i j hi hj => ?_⟩⟩⟩, trivial⟩⟩
  · have hi' : i < 1 := hi
    have h1 : i = 0 := by omega
    have h2 : j = 0 ∨ j = 1 := by omega
    subst h1
    rcases h2 with rfl | rfl <;> (go_simp; try rfl)
  · have hi' : i < 2 := hi
    have h1 : i = 0 ∨ i = 1 := by omega
    have h2 : j = 0 := by omega
    subst h2
    rcases h1 with rfl | rfl <;> (go_simp; try rfl)
theorem fo_row (w : World) : SlW 3 (w.alloc (.cells #[.int .u8 1, .int .i64 5, .string ⟨#[]⟩, .int .u8 0, .int .i64 0, .string ⟨#[]⟩] 52)) (fun _ => True) (.slice (some ⟨w.heap.size, 0, none⟩) 2 2) (FOne.vs.map clV) := by
  have h : OwnN 52 3 (w.alloc (.cells #[.int .u8 1, .int .i64 5, .string ⟨#[]⟩, .int .u8 0, .int .i64 0, .string ⟨#[]⟩] 52)) 0 (.slice (some ⟨w.heap.size, 0, none⟩) 2 2) (FOne.vs.map clV) := ⟨clV_len, World.ownsRow_lit w #[.int .u8 1, .int .i64 5, .string ⟨#[]⟩, .int .u8 0, .int .i64 0, .string ⟨#[]⟩] 2 (Nat.zero_le _) (by decide) rfl⟩
  exact h.sl.imp fun _ _ _ => trivial
set_option maxHeartbeats 8000000 in
theorem awake_any (w : World) (hV : Vars w) : Calls Tryd.prog 6 #[] w fun e w' => e = .returned (.bool true) ∧ Below w.heap.size w w' := by
  have C1 : ∀ W, Calls Tryd.prog 7 #[.int .i64 258] W fun e w' => e = .returned (.tuple #[.string ⟨#[119, 0, 0, 0, 0, 1, 2]⟩, .int .i64 0]) ∧ Below W.heap.size W w' := fun W => by
    have := key_any 258 W; rw [one_key.1, one_key.2] at this; exact this
  have C2 : ∀ W, Calls Tryd.prog 9 #[.string ⟨#[119, 0, 0, 0, 0, 1, 2]⟩] W fun e w' => e = .returned (.tuple #[.int .i64 258, .int .i64 0]) ∧ Below W.heap.size W w' := fun W => by
    have := tag_any KO W (by decide); rw [one_tag.1, one_tag.2] at this; exact this
  have C3 : ∀ W v u, Row 2 (ReK (fun _ _ => True)) W (fun _ => True) v ONE → SlW 3 W (fun _ => True) u (FOne.vs.map clV) → Vars W → Calls Tryd.prog 12 #[v, .agg #[.int .i64 258, .string ⟨#[99]⟩, u]] W fun e w' => e = .returned (.tuple #[.string ⟨#[0, 1, 1, 0, 0, 0, 0, 5, 0]⟩, .int .i64 0]) ∧ Below W.heap.size W w' := fun W v u h1 h2 h3 => by
    have := fput_any v u ONE FOne W h1 (fun c hc => Nat.le_trans (oneL c hc) (by decide)) (by decide) h2 (by decide) foV h3
    rw [one_put.1, one_put.2] at this; exact this
  have C4 : ∀ W v, Row 2 (ReK (fun _ _ => True)) W (fun _ => True) v ONE → Vars W → Calls Tryd.prog 14 #[v, .int .i64 258, .string ⟨#[0, 1, 1, 0, 0, 0, 0, 5, 0]⟩] W fun e w' => Below W.heap.size W w' ∧ ∃ ua uc, e = .returned (.tuple #[.agg #[.int .i64 258, .string ⟨#[99]⟩, .slice ua 2 uc], .int .i64 0]) ∧ SlW 3 w' (fun _ => True) (.slice ua 2 uc) (FOne.vs.map clV) := fun W v h1 h3 => by
    have := fget_any v ONE 258 SO W h1 oneL (by decide) h3 (by decide)
    rw [one_get] at this
    refine this.mono fun e w' he => ⟨he.1, ?_⟩
    obtain ⟨u, rfl, ho⟩ := he.2
    obtain ⟨ua, uc, rfl⟩ := ho.shape
    exact ⟨ua, uc, rfl, ho.sl.imp fun _ _ _ => trivial⟩
  have HV : Hid (Vars w) := hV
  clear hV
  go_enter Tryd.func6, Tryd.ntmps6
  go_wp2_with (first
    | (go_at_call 7; refine (C1 _).mono ?_; rintro e w2 ⟨rfl, hb2⟩
       have R2 : Hid (Row 2 (ReK (fun _ _ => True)) w2 (fun _ => True) (.slice (some ⟨w.heap.size + 1, 0, none⟩) 1 1) ONE ∧ Below w.heap.size w w2) := ⟨rowK_keep (one_row w) hb2, bt (bt (bxn _ _) (bxn _ _)) hb2⟩
       clear C1 hb2)
    | (go_at_call 9; refine (C2 _).mono ?_; rintro e w3 ⟨rfl, hb3⟩
       have R3 : Hid (Row 2 (ReK (fun _ _ => True)) w3 (fun _ => True) (.slice (some ⟨w.heap.size + 1, 0, none⟩) 1 1) ONE ∧ Below w.heap.size w w3) := ⟨rowK_keep R2.out.1 hb3, bt R2.out.2 hb3⟩
       clear C2 hb3)
    | (go_at_call 12; refine (C3 _ _ _ (rowK_keep R3.out.1 (bxn _ _)) (fo_row w3) (HV.out.below (bt R3.out.2 (bxn _ _)))).mono ?_; rintro e w4 ⟨rfl, hb4⟩
       have R4 : Hid (Row 2 (ReK (fun _ _ => True)) w4 (fun _ => True) (.slice (some ⟨w.heap.size + 1, 0, none⟩) 1 1) ONE ∧ Below w.heap.size w w4) := ⟨rowK_keep R3.out.1 (bt (bxn _ _) hb4), bt R3.out.2 (bt (bxn _ _) hb4)⟩
       clear C3 hb4)
    | (go_at_call 14; refine (C4 _ _ R4.out.1 (HV.out.below R4.out.2)).mono ?_; rintro e w5 ⟨hb5, ua, uc, rfl, hs5⟩
       have B5 : Hid (Below w.heap.size w w5) := bt R4.out.2 hb5
       obtain ⟨-, l2, m2, r2⟩ := hs5.at v00
       obtain ⟨b9, o9, rfl, hb9, q9⟩ := r2 0 (by decide)
       have d9 : w5.cell? ⟨b9, o9 + 1, none⟩ = some (.int .i64 5) := q9 1 (by decide)
       clear C4 hb5 hs5 r2 q9))
  go_ret
  exact ⟨rfl, bt B5.out (bxn _ _)⟩
end Go.Proofs.YtpmhilaochfpaaaDoor
