import Derived.Test.YtdcpfnffckkfcaaGreatDoorY13
import Derived.Test.YtdcpfnffckkfcaaGreatDoorY11
namespace Go.Proofs.YtdcpfnffckkfcaaGreatDoor
open Go.RowKit
set_option linter.unusedVariables false
set_option linter.unusedSimpArgs false
set_option maxRecDepth 20000
theorem body_make : bodyP sMake = thn nameR fun c => thn (sevL 1 setR) fun xs => ret (⟨0, c, 0, [], xs.map Prod.fst, []⟩, deepOf (xs.map Prod.snd)) := by
  unfold bodyP
  rw [if_pos rfl]
theorem body_modify : bodyP sModify = thn numR fun n => thn (sevL 1 setR) fun xs => ret (⟨1, [], n, [], xs.map Prod.fst, []⟩, deepOf (xs.map Prod.snd)) := by
  unfold bodyP
  rw [if_neg (by decide), if_pos rfl]
theorem body_remove : bodyP sRemove = thn numR fun n => thn (nxt 1) fun _ => ret (⟨2, [], n, [], [], []⟩, 0) := by
  unfold bodyP
  rw [if_neg (by decide), if_neg (by decide), if_pos rfl]
theorem body_bind : bodyP sBind = thn (nxt 9) fun t => thn exR fun x => thn (nxt 1) fun _ => ret (⟨3, [], 0, t.nm, [], [x.1]⟩, x.2) := by
  unfold bodyP
  rw [if_neg (by decide), if_neg (by decide), if_neg (by decide), if_pos rfl]
theorem body_write : bodyP sWrite = thn (sevL 1 exR) fun xs => ret (⟨4, [], 0, [], [], xs.map Prod.fst⟩, deepOf (xs.map Prod.snd)) := by
  unfold bodyP
  rw [if_neg (by decide), if_neg (by decide), if_neg (by decide), if_neg (by decide), if_pos rfl]
theorem body_halt : bodyP sHalt = thn (nxt 1) fun _ => ret (⟨5, [], 0, [], [], []⟩, 0) := by
  unfold bodyP
  rw [if_neg (by decide), if_neg (by decide), if_neg (by decide), if_neg (by decide), if_neg (by decide), if_pos rfl]
set_option maxHeartbeats 4000000 in
theorem act_make (r : Nat) (x : TA) (m : List TA) (s : Str) (qs : List Tk) (v : Value) (o : Bool) (w : World) (h : Rs w r v (x :: m) o) (hl : (x :: m).length ≤ 100000) (hx : x.1.k = 0) (hm : nameR (m.map Prod.fst) = some (s, qs)) (hs : s = sMake) :
    Calls Tryz.prog 98 #[pR r] w (Ans (RAgg RAct) actR ovT r w (x :: m) o) := by
  have hr := h.lt
  have F43 := field43
  have F43a := field43a
  have F43b := field43b
  have HH : Hid (Rs w r v (x :: m) o) := h
  have HL : Hid ((x :: m).length ≤ 100000) := hl
  have HM : Hid (nameR (m.map Prod.fst) = some (s, qs)) := hm
  have HP : Hid (actR ((x :: m).map Prod.fst) = bodyP sMake qs) := by show _ = _; rw [actR_is, thn_of (nxt_at hx), thn_of hm, hs]
  have b0 : ((st s).toList == [109, 97, 107, 101]) = true := (strE s _).trans (by rw [hs]; decide)
  have CT1 := fun W vv hh => take_yes r x (m) vv (o) W hh
  rw [hx] at CT1
  unfold tkA at CT1
  have tok2 : Hid True := trivial
  have tok3 : Hid True := trivial
  have tok4 : Hid True := trivial
  clear h hl
  clear hx hm hs
  go_enter Tryz.func98, Tryz.ntmps98
  go_wp2_with (first | (go_at_call 62; refine (CT1 _ v (HH.out.below (bxn _ _))).mono ?_; rintro e w1 ⟨rfl, ⟨v1, hS1⟩, hF1⟩; clear CT1; have y1 : w.heap.size + 1 ≤ w1.heap.size := (by have := hF1.size; first | omega | (simp at this; omega)); obtain ⟨hc, hz⟩ := fr_box hF1; have al1 : w.heap.size < w1.heap.size := (by omega); have a1s0 : w1.cell? ⟨w.heap.size, 0, none⟩ = some (.int .u8 0) := (by rw [hc _ _ (by first | omega | (simp <;> omega)) (by omega)]; go_simp); have a1z0 : w1.frozen? ⟨w.heap.size, 0, none⟩ = false := (by rw [hz _ _ (by first | omega | (simp <;> omega)) (by omega)]; go_simp); have a1s1 : w1.cell? ⟨w.heap.size, 1, none⟩ = some (.string ⟨#[]⟩) := (by rw [hc _ _ (by first | omega | (simp <;> omega)) (by omega)]; go_simp); have a1z1 : w1.frozen? ⟨w.heap.size, 1, none⟩ = false := (by rw [hz _ _ (by first | omega | (simp <;> omega)) (by omega)]; go_simp); have a1s2 : w1.cell? ⟨w.heap.size, 2, none⟩ = some (.int .i64 0) := (by rw [hc _ _ (by first | omega | (simp <;> omega)) (by omega)]; go_simp); have a1z2 : w1.frozen? ⟨w.heap.size, 2, none⟩ = false := (by rw [hz _ _ (by first | omega | (simp <;> omega)) (by omega)]; go_simp); have a1s3 : w1.cell? ⟨w.heap.size, 3, none⟩ = some (.string ⟨#[]⟩) := (by rw [hc _ _ (by first | omega | (simp <;> omega)) (by omega)]; go_simp); have a1z3 : w1.frozen? ⟨w.heap.size, 3, none⟩ = false := (by rw [hz _ _ (by first | omega | (simp <;> omega)) (by omega)]; go_simp); have a1s4 : w1.cell? ⟨w.heap.size, 4, none⟩ = some (.slice none 0 0) := (by rw [hc _ _ (by first | omega | (simp <;> omega)) (by omega)]; go_simp); have a1z4 : w1.frozen? ⟨w.heap.size, 4, none⟩ = false := (by rw [hz _ _ (by first | omega | (simp <;> omega)) (by omega)]; go_simp); have a1s5 : w1.cell? ⟨w.heap.size, 5, none⟩ = some (.slice none 0 0) := (by rw [hc _ _ (by first | omega | (simp <;> omega)) (by omega)]; go_simp); have a1z5 : w1.frozen? ⟨w.heap.size, 5, none⟩ = false := (by rw [hz _ _ (by first | omega | (simp <;> omega)) (by omega)]; go_simp); clear hc hz; have HS1 : Hid (Rs w1 r v1 (m) (o)) := hS1; have G1 : Hid (Fr r w.heap.size w w1) := (fb (bxn _ _) hF1); clear hS1) | (go_at_call 63; have tku := tok2; clear tku tok2; refine Ans.use (name_ans r (m) v1 (o) _ (HS1.out.bx (T := w1.heap.size + 1) hr (by repeat (first | with_reducible exact Bx.refl _ _ | with_reducible refine Bx.setCell ?_ (bt_of (by omega) (by omega)) _ | with_reducible refine Bx.alloc ?_ _ | with_reducible refine Bx.drew ?_)))) (fun w' hf hn => ⟨rfl, Ans.no (ft (fin_w (T := w1.heap.size + 1) hr G1.out (Nat.le_refl _) (by repeat (first | with_reducible exact Bx.refl _ _ | with_reducible refine Bx.setCell ?_ (bt_of (by omega) (by omega)) _ | with_reducible refine Bx.alloc ?_ _ | with_reducible refine Bx.drew ?_))) hf) (by rw [HM.out] at hn; cases hn)⟩) ?_; rintro c q2 val2 v2 w2 hF2 hx2 hl2 rfl hS2; obtain ⟨hc, hq⟩ := Prod.mk.inj (Option.some.inj (HM.out.symm.trans hx2)); have HQ : Hid (qs = q2.map Prod.fst) := hq; subst hc; clear hq hx2; have y2 : w1.heap.size + 1 ≤ w2.heap.size := (by have := hF2.size; first | omega | (simp at this; omega)); obtain ⟨hc, hz⟩ := fr_box hF2; have al2 : w.heap.size < w2.heap.size := (by omega); have bl2 : w1.heap.size < w2.heap.size := (by omega); have a2s0 : w2.cell? ⟨w.heap.size, 0, none⟩ = some (.int .u8 0) := (by rw [hc _ _ (by first | omega | (simp <;> omega)) (by omega)]; go_simp); have a2z0 : w2.frozen? ⟨w.heap.size, 0, none⟩ = false := (by rw [hz _ _ (by first | omega | (simp <;> omega)) (by omega)]; go_simp); have a2s1 : w2.cell? ⟨w.heap.size, 1, none⟩ = some (.string ⟨#[]⟩) := (by rw [hc _ _ (by first | omega | (simp <;> omega)) (by omega)]; go_simp); have a2z1 : w2.frozen? ⟨w.heap.size, 1, none⟩ = false := (by rw [hz _ _ (by first | omega | (simp <;> omega)) (by omega)]; go_simp); have a2s2 : w2.cell? ⟨w.heap.size, 2, none⟩ = some (.int .i64 0) := (by rw [hc _ _ (by first | omega | (simp <;> omega)) (by omega)]; go_simp); have a2z2 : w2.frozen? ⟨w.heap.size, 2, none⟩ = false := (by rw [hz _ _ (by first | omega | (simp <;> omega)) (by omega)]; go_simp); have a2s3 : w2.cell? ⟨w.heap.size, 3, none⟩ = some (.string ⟨#[]⟩) := (by rw [hc _ _ (by first | omega | (simp <;> omega)) (by omega)]; go_simp); have a2z3 : w2.frozen? ⟨w.heap.size, 3, none⟩ = false := (by rw [hz _ _ (by first | omega | (simp <;> omega)) (by omega)]; go_simp); have a2s4 : w2.cell? ⟨w.heap.size, 4, none⟩ = some (.slice none 0 0) := (by rw [hc _ _ (by first | omega | (simp <;> omega)) (by omega)]; go_simp); have a2z4 : w2.frozen? ⟨w.heap.size, 4, none⟩ = false := (by rw [hz _ _ (by first | omega | (simp <;> omega)) (by omega)]; go_simp); have a2s5 : w2.cell? ⟨w.heap.size, 5, none⟩ = some (.slice none 0 0) := (by rw [hc _ _ (by first | omega | (simp <;> omega)) (by omega)]; go_simp); have a2z5 : w2.frozen? ⟨w.heap.size, 5, none⟩ = false := (by rw [hz _ _ (by first | omega | (simp <;> omega)) (by omega)]; go_simp); have b2s0 : w2.cell? ⟨w1.heap.size, 0, none⟩ = some (.int .u8 0) := (by rw [hc _ _ (by first | omega | (simp <;> omega)) (by omega)]; go_simp); have b2z0 : w2.frozen? ⟨w1.heap.size, 0, none⟩ = false := (by rw [hz _ _ (by first | omega | (simp <;> omega)) (by omega)]; go_simp); have b2s1 : w2.cell? ⟨w1.heap.size, 1, none⟩ = some (.string ⟨#[]⟩) := (by rw [hc _ _ (by first | omega | (simp <;> omega)) (by omega)]; go_simp); have b2z1 : w2.frozen? ⟨w1.heap.size, 1, none⟩ = false := (by rw [hz _ _ (by first | omega | (simp <;> omega)) (by omega)]; go_simp); have b2s2 : w2.cell? ⟨w1.heap.size, 2, none⟩ = some (.int .i64 0) := (by rw [hc _ _ (by first | omega | (simp <;> omega)) (by omega)]; go_simp); have b2z2 : w2.frozen? ⟨w1.heap.size, 2, none⟩ = false := (by rw [hz _ _ (by first | omega | (simp <;> omega)) (by omega)]; go_simp); have b2s3 : w2.cell? ⟨w1.heap.size, 3, none⟩ = some (.string ⟨#[]⟩) := (by rw [hc _ _ (by first | omega | (simp <;> omega)) (by omega)]; go_simp); have b2z3 : w2.frozen? ⟨w1.heap.size, 3, none⟩ = false := (by rw [hz _ _ (by first | omega | (simp <;> omega)) (by omega)]; go_simp); have b2s4 : w2.cell? ⟨w1.heap.size, 4, none⟩ = some (.slice none 0 0) := (by rw [hc _ _ (by first | omega | (simp <;> omega)) (by omega)]; go_simp); have b2z4 : w2.frozen? ⟨w1.heap.size, 4, none⟩ = false := (by rw [hz _ _ (by first | omega | (simp <;> omega)) (by omega)]; go_simp); have b2s5 : w2.cell? ⟨w1.heap.size, 5, none⟩ = some (.slice none 0 0) := (by rw [hc _ _ (by first | omega | (simp <;> omega)) (by omega)]; go_simp); have b2z5 : w2.frozen? ⟨w1.heap.size, 5, none⟩ = false := (by rw [hz _ _ (by first | omega | (simp <;> omega)) (by omega)]; go_simp); clear hc hz; have HS2 : Hid (Rs w2 r v2 q2 ((o) || no1 s)) := hS2; have G2 : Hid (Fr r w.heap.size w w2) := (ft (fin_w (T := w1.heap.size + 1) hr G1.out (Nat.le_refl _) (by repeat (first | with_reducible exact Bx.refl _ _ | with_reducible refine Bx.setCell ?_ (bt_of (by omega) (by omega)) _ | with_reducible refine Bx.alloc ?_ _ | with_reducible refine Bx.drew ?_))) hF2); clear hS2) | (go_at_call 63; have tku := tok3; clear tku tok3; refine Ans.use (name_ans r (q2) v2 ((o) || no1 s) _ (HS2.out.bx (T := w1.heap.size + 1) hr (by repeat (first | with_reducible exact Bx.refl _ _ | with_reducible refine Bx.setCell ?_ (bt_of (by omega) (by omega)) _ | with_reducible refine Bx.alloc ?_ _ | with_reducible refine Bx.drew ?_)))) (fun w' hf hn => ⟨rfl, Ans.no (ft (fin_w (T := w1.heap.size + 1) hr G2.out (Nat.le_refl _) (by repeat (first | with_reducible exact Bx.refl _ _ | with_reducible refine Bx.setCell ?_ (bt_of (by omega) (by omega)) _ | with_reducible refine Bx.alloc ?_ _ | with_reducible refine Bx.drew ?_))) hf) (by rw [HP.out, HQ.out, body_make, thn_none hn])⟩) ?_; rintro c q3 val3 v3 w3 hF3 hx3 hl3 rfl hS3; have y3 : w2.heap.size ≤ w3.heap.size := (by have := hF3.size; first | omega | (simp at this; omega)); obtain ⟨hc, hz⟩ := fr_box hF3; have al3 : w.heap.size < w3.heap.size := (by omega); have bl3 : w1.heap.size < w3.heap.size := (by omega); have a3s0 : w3.cell? ⟨w.heap.size, 0, none⟩ = some (.int .u8 0) := (by rw [hc _ _ (by first | omega | (simp <;> omega)) (by omega)]; go_simp); have a3z0 : w3.frozen? ⟨w.heap.size, 0, none⟩ = false := (by rw [hz _ _ (by first | omega | (simp <;> omega)) (by omega)]; go_simp); have a3s1 : w3.cell? ⟨w.heap.size, 1, none⟩ = some (.string ⟨#[]⟩) := (by rw [hc _ _ (by first | omega | (simp <;> omega)) (by omega)]; go_simp); have a3z1 : w3.frozen? ⟨w.heap.size, 1, none⟩ = false := (by rw [hz _ _ (by first | omega | (simp <;> omega)) (by omega)]; go_simp); have a3s2 : w3.cell? ⟨w.heap.size, 2, none⟩ = some (.int .i64 0) := (by rw [hc _ _ (by first | omega | (simp <;> omega)) (by omega)]; go_simp); have a3z2 : w3.frozen? ⟨w.heap.size, 2, none⟩ = false := (by rw [hz _ _ (by first | omega | (simp <;> omega)) (by omega)]; go_simp); have a3s3 : w3.cell? ⟨w.heap.size, 3, none⟩ = some (.string ⟨#[]⟩) := (by rw [hc _ _ (by first | omega | (simp <;> omega)) (by omega)]; go_simp); have a3z3 : w3.frozen? ⟨w.heap.size, 3, none⟩ = false := (by rw [hz _ _ (by first | omega | (simp <;> omega)) (by omega)]; go_simp); have a3s4 : w3.cell? ⟨w.heap.size, 4, none⟩ = some (.slice none 0 0) := (by rw [hc _ _ (by first | omega | (simp <;> omega)) (by omega)]; go_simp); have a3z4 : w3.frozen? ⟨w.heap.size, 4, none⟩ = false := (by rw [hz _ _ (by first | omega | (simp <;> omega)) (by omega)]; go_simp); have a3s5 : w3.cell? ⟨w.heap.size, 5, none⟩ = some (.slice none 0 0) := (by rw [hc _ _ (by first | omega | (simp <;> omega)) (by omega)]; go_simp); have a3z5 : w3.frozen? ⟨w.heap.size, 5, none⟩ = false := (by rw [hz _ _ (by first | omega | (simp <;> omega)) (by omega)]; go_simp); have b3s0 : w3.cell? ⟨w1.heap.size, 0, none⟩ = some (.int .u8 0) := (by rw [hc _ _ (by first | omega | (simp <;> omega)) (by omega)]; go_simp); have b3z0 : w3.frozen? ⟨w1.heap.size, 0, none⟩ = false := (by rw [hz _ _ (by first | omega | (simp <;> omega)) (by omega)]; go_simp); have b3s1 : w3.cell? ⟨w1.heap.size, 1, none⟩ = some (.string ⟨#[]⟩) := (by rw [hc _ _ (by first | omega | (simp <;> omega)) (by omega)]; go_simp); have b3z1 : w3.frozen? ⟨w1.heap.size, 1, none⟩ = false := (by rw [hz _ _ (by first | omega | (simp <;> omega)) (by omega)]; go_simp); have b3s2 : w3.cell? ⟨w1.heap.size, 2, none⟩ = some (.int .i64 0) := (by rw [hc _ _ (by first | omega | (simp <;> omega)) (by omega)]; go_simp); have b3z2 : w3.frozen? ⟨w1.heap.size, 2, none⟩ = false := (by rw [hz _ _ (by first | omega | (simp <;> omega)) (by omega)]; go_simp); have b3s3 : w3.cell? ⟨w1.heap.size, 3, none⟩ = some (.string ⟨#[]⟩) := (by rw [hc _ _ (by first | omega | (simp <;> omega)) (by omega)]; go_simp); have b3z3 : w3.frozen? ⟨w1.heap.size, 3, none⟩ = false := (by rw [hz _ _ (by first | omega | (simp <;> omega)) (by omega)]; go_simp); have b3s4 : w3.cell? ⟨w1.heap.size, 4, none⟩ = some (.slice none 0 0) := (by rw [hc _ _ (by first | omega | (simp <;> omega)) (by omega)]; go_simp); have b3z4 : w3.frozen? ⟨w1.heap.size, 4, none⟩ = false := (by rw [hz _ _ (by first | omega | (simp <;> omega)) (by omega)]; go_simp); have b3s5 : w3.cell? ⟨w1.heap.size, 5, none⟩ = some (.slice none 0 0) := (by rw [hc _ _ (by first | omega | (simp <;> omega)) (by omega)]; go_simp); have b3z5 : w3.frozen? ⟨w1.heap.size, 5, none⟩ = false := (by rw [hz _ _ (by first | omega | (simp <;> omega)) (by omega)]; go_simp); clear hc hz; have HS3 : Hid (Rs w3 r v3 q3 (((o) || no1 s) || no1 c)) := hS3; have G3 : Hid (Fr r w.heap.size w w3) := (ft (fin_w (T := w1.heap.size + 1) hr G2.out (Nat.le_refl _) (by repeat (first | with_reducible exact Bx.refl _ _ | with_reducible refine Bx.setCell ?_ (bt_of (by omega) (by omega)) _ | with_reducible refine Bx.alloc ?_ _ | with_reducible refine Bx.drew ?_))) hF3); clear hS3) | (go_at_call 122; have tku := tok4; clear tku tok4; refine Ans.use (sets_ans r (q3) v3 (((o) || no1 s) || no1 c) _ (HS3.out.bx (T := w1.heap.size + 1) hr (by repeat (first | with_reducible exact Bx.refl _ _ | with_reducible refine Bx.setCell ?_ (bt_of (by omega) (by omega)) _ | with_reducible refine Bx.alloc ?_ _ | with_reducible refine Bx.drew ?_))) (by have := HL.out; first | omega | (simp at this; omega))) (fun w' hf hn => ⟨rfl, Ans.no (ft (fin_w (T := w1.heap.size + 1) hr G3.out (Nat.le_refl _) (by repeat (first | with_reducible exact Bx.refl _ _ | with_reducible refine Bx.setCell ?_ (bt_of (by omega) (by omega)) _ | with_reducible refine Bx.alloc ?_ _ | with_reducible refine Bx.drew ?_))) hf) (by rw [HP.out, HQ.out, body_make, thn_of hx3, thn_none hn])⟩) ?_; rintro xs q4 val4 v4 w4 hF4 hx4 hl4 hR hS4; obtain ⟨ba4, hbE, hba4⟩ : ∃ ba, ba = _ ∧ RowP 5 2 RSet w4 ba val4 xs := ⟨_, rfl, hR⟩; have R4_4 : Hid (RowP 5 2 RSet w4 ba4 val4 xs) := hba4; obtain ⟨a4, n4, c4, rfl⟩ := hR.like; have yb4 : w3.heap.size ≤ ba4 := (by rw [hbE]; first | omega | (simp <;> omega)); clear hR hba4 hbE; have y4 : w3.heap.size ≤ w4.heap.size := (by have := hF4.size; first | omega | (simp at this; omega)); obtain ⟨hc, hz⟩ := fr_box hF4; have al4 : w.heap.size < w4.heap.size := (by omega); have bl4 : w1.heap.size < w4.heap.size := (by omega); have a4s0 : w4.cell? ⟨w.heap.size, 0, none⟩ = some (.int .u8 0) := (by rw [hc _ _ (by first | omega | (simp <;> omega)) (by omega)]; go_simp); have a4z0 : w4.frozen? ⟨w.heap.size, 0, none⟩ = false := (by rw [hz _ _ (by first | omega | (simp <;> omega)) (by omega)]; go_simp); have a4s1 : w4.cell? ⟨w.heap.size, 1, none⟩ = some (.string ⟨#[]⟩) := (by rw [hc _ _ (by first | omega | (simp <;> omega)) (by omega)]; go_simp); have a4z1 : w4.frozen? ⟨w.heap.size, 1, none⟩ = false := (by rw [hz _ _ (by first | omega | (simp <;> omega)) (by omega)]; go_simp); have a4s2 : w4.cell? ⟨w.heap.size, 2, none⟩ = some (.int .i64 0) := (by rw [hc _ _ (by first | omega | (simp <;> omega)) (by omega)]; go_simp); have a4z2 : w4.frozen? ⟨w.heap.size, 2, none⟩ = false := (by rw [hz _ _ (by first | omega | (simp <;> omega)) (by omega)]; go_simp); have a4s3 : w4.cell? ⟨w.heap.size, 3, none⟩ = some (.string ⟨#[]⟩) := (by rw [hc _ _ (by first | omega | (simp <;> omega)) (by omega)]; go_simp); have a4z3 : w4.frozen? ⟨w.heap.size, 3, none⟩ = false := (by rw [hz _ _ (by first | omega | (simp <;> omega)) (by omega)]; go_simp); have a4s4 : w4.cell? ⟨w.heap.size, 4, none⟩ = some (.slice none 0 0) := (by rw [hc _ _ (by first | omega | (simp <;> omega)) (by omega)]; go_simp); have a4z4 : w4.frozen? ⟨w.heap.size, 4, none⟩ = false := (by rw [hz _ _ (by first | omega | (simp <;> omega)) (by omega)]; go_simp); have a4s5 : w4.cell? ⟨w.heap.size, 5, none⟩ = some (.slice none 0 0) := (by rw [hc _ _ (by first | omega | (simp <;> omega)) (by omega)]; go_simp); have a4z5 : w4.frozen? ⟨w.heap.size, 5, none⟩ = false := (by rw [hz _ _ (by first | omega | (simp <;> omega)) (by omega)]; go_simp); have b4s0 : w4.cell? ⟨w1.heap.size, 0, none⟩ = some (.int .u8 0) := (by rw [hc _ _ (by first | omega | (simp <;> omega)) (by omega)]; go_simp); have b4z0 : w4.frozen? ⟨w1.heap.size, 0, none⟩ = false := (by rw [hz _ _ (by first | omega | (simp <;> omega)) (by omega)]; go_simp); have b4s1 : w4.cell? ⟨w1.heap.size, 1, none⟩ = some (.string (st c)) := (by rw [hc _ _ (by first | omega | (simp <;> omega)) (by omega)]; go_simp); have b4z1 : w4.frozen? ⟨w1.heap.size, 1, none⟩ = false := (by rw [hz _ _ (by first | omega | (simp <;> omega)) (by omega)]; go_simp); have b4s2 : w4.cell? ⟨w1.heap.size, 2, none⟩ = some (.int .i64 0) := (by rw [hc _ _ (by first | omega | (simp <;> omega)) (by omega)]; go_simp); have b4z2 : w4.frozen? ⟨w1.heap.size, 2, none⟩ = false := (by rw [hz _ _ (by first | omega | (simp <;> omega)) (by omega)]; go_simp); have b4s3 : w4.cell? ⟨w1.heap.size, 3, none⟩ = some (.string ⟨#[]⟩) := (by rw [hc _ _ (by first | omega | (simp <;> omega)) (by omega)]; go_simp); have b4z3 : w4.frozen? ⟨w1.heap.size, 3, none⟩ = false := (by rw [hz _ _ (by first | omega | (simp <;> omega)) (by omega)]; go_simp); have b4s4 : w4.cell? ⟨w1.heap.size, 4, none⟩ = some (.slice none 0 0) := (by rw [hc _ _ (by first | omega | (simp <;> omega)) (by omega)]; go_simp); have b4z4 : w4.frozen? ⟨w1.heap.size, 4, none⟩ = false := (by rw [hz _ _ (by first | omega | (simp <;> omega)) (by omega)]; go_simp); have b4s5 : w4.cell? ⟨w1.heap.size, 5, none⟩ = some (.slice none 0 0) := (by rw [hc _ _ (by first | omega | (simp <;> omega)) (by omega)]; go_simp); have b4z5 : w4.frozen? ⟨w1.heap.size, 5, none⟩ = false := (by rw [hz _ _ (by first | omega | (simp <;> omega)) (by omega)]; go_simp); clear hc hz; have HS4 : Hid (Rs w4 r v4 q4 ((((o) || no1 s) || no1 c) || ovL ovN 6 xs)) := hS4; have G4 : Hid (Fr r w.heap.size w w4) := (ft (fin_w (T := w1.heap.size + 1) hr G3.out (Nat.le_refl _) (by repeat (first | with_reducible exact Bx.refl _ _ | with_reducible refine Bx.setCell ?_ (bt_of (by omega) (by omega)) _ | with_reducible refine Bx.alloc ?_ _ | with_reducible refine Bx.drew ?_))) hF4); clear hS4))
  refine bodyPost_ret (v := .agg #[.int .u8 0, .string (st c), .int .i64 0, .string ⟨#[]⟩, .slice a4 n4 c4, .slice none 0 0]) (by simp [results, Tryz.results98, go_sem, a4s0, a4s1, a4s2, a4s3, a4s4, a4s5, b4s0, b4s1, b4s2, b4s3, b4s4, b4s5, al4, bl4] <;> rfl) rfl ?_
  refine fin_ans (x := ((⟨0, c, 0, [], xs.map Prod.fst, []⟩ : ActD), deepOf (xs.map Prod.snd))) (T := w1.heap.size + 1) (rest := q4) hr G4.out ?_ (by rw [HP.out, HQ.out, body_make, thn_of hx3, thn_of hx4]; rfl) (by first | omega | (simp; omega)) (fun HX => ⟨_, rfl, _, _, rfl, row_set (by decide) (RowP.bx part_set R4_4.out HX (by omega)) (by omega), row_nil _ _ _ _⟩) HS4.out (by simp [no1, ovL, ovT, any_ovN] <;> (try (first | rfl | (congr 1; exact Bool.or_comm _ _) | simp [Bool.or_comm, Bool.or_left_comm])) )
  repeat (first | with_reducible exact Bx.refl _ _ | with_reducible refine Bx.setCell ?_ (bt_of (by omega) (by omega)) _ | with_reducible refine Bx.alloc ?_ _ | with_reducible refine Bx.drew ?_)
set_option maxHeartbeats 4000000 in
theorem act_modify (r : Nat) (x : TA) (m : List TA) (s : Str) (qs : List Tk) (v : Value) (o : Bool) (w : World) (h : Rs w r v (x :: m) o) (hl : (x :: m).length ≤ 100000) (hx : x.1.k = 0) (hm : nameR (m.map Prod.fst) = some (s, qs)) (hs : s = sModify) :
    Calls Tryz.prog 98 #[pR r] w (Ans (RAgg RAct) actR ovT r w (x :: m) o) := by
  have hr := h.lt
  have F43 := field43
  have F43a := field43a
  have F43b := field43b
  have HH : Hid (Rs w r v (x :: m) o) := h
  have HL : Hid ((x :: m).length ≤ 100000) := hl
  have HM : Hid (nameR (m.map Prod.fst) = some (s, qs)) := hm
  have HP : Hid (actR ((x :: m).map Prod.fst) = bodyP sModify qs) := by show _ = _; rw [actR_is, thn_of (nxt_at hx), thn_of hm, hs]
  have b0 : ((st s).toList == [109, 97, 107, 101]) = false := (strE s _).trans (by rw [hs]; decide)
  have b1 : ((st s).toList == [109, 111, 100, 105, 102, 121]) = true := (strE s _).trans (by rw [hs]; decide)
  have CT1 := fun W vv hh => take_yes r x (m) vv (o) W hh
  rw [hx] at CT1
  unfold tkA at CT1
  have tok2 : Hid True := trivial
  have tok3 : Hid True := trivial
  have tok4 : Hid True := trivial
  clear h hl
  clear hx hm hs
  go_enter Tryz.func98, Tryz.ntmps98
  go_wp2_with (first | (go_at_call 62; refine (CT1 _ v (HH.out.below (bxn _ _))).mono ?_; rintro e w1 ⟨rfl, ⟨v1, hS1⟩, hF1⟩; clear CT1; have y1 : w.heap.size + 1 ≤ w1.heap.size := (by have := hF1.size; first | omega | (simp at this; omega)); obtain ⟨hc, hz⟩ := fr_box hF1; have al1 : w.heap.size < w1.heap.size := (by omega); have a1s0 : w1.cell? ⟨w.heap.size, 0, none⟩ = some (.int .u8 0) := (by rw [hc _ _ (by first | omega | (simp <;> omega)) (by omega)]; go_simp); have a1z0 : w1.frozen? ⟨w.heap.size, 0, none⟩ = false := (by rw [hz _ _ (by first | omega | (simp <;> omega)) (by omega)]; go_simp); have a1s1 : w1.cell? ⟨w.heap.size, 1, none⟩ = some (.string ⟨#[]⟩) := (by rw [hc _ _ (by first | omega | (simp <;> omega)) (by omega)]; go_simp); have a1z1 : w1.frozen? ⟨w.heap.size, 1, none⟩ = false := (by rw [hz _ _ (by first | omega | (simp <;> omega)) (by omega)]; go_simp); have a1s2 : w1.cell? ⟨w.heap.size, 2, none⟩ = some (.int .i64 0) := (by rw [hc _ _ (by first | omega | (simp <;> omega)) (by omega)]; go_simp); have a1z2 : w1.frozen? ⟨w.heap.size, 2, none⟩ = false := (by rw [hz _ _ (by first | omega | (simp <;> omega)) (by omega)]; go_simp); have a1s3 : w1.cell? ⟨w.heap.size, 3, none⟩ = some (.string ⟨#[]⟩) := (by rw [hc _ _ (by first | omega | (simp <;> omega)) (by omega)]; go_simp); have a1z3 : w1.frozen? ⟨w.heap.size, 3, none⟩ = false := (by rw [hz _ _ (by first | omega | (simp <;> omega)) (by omega)]; go_simp); have a1s4 : w1.cell? ⟨w.heap.size, 4, none⟩ = some (.slice none 0 0) := (by rw [hc _ _ (by first | omega | (simp <;> omega)) (by omega)]; go_simp); have a1z4 : w1.frozen? ⟨w.heap.size, 4, none⟩ = false := (by rw [hz _ _ (by first | omega | (simp <;> omega)) (by omega)]; go_simp); have a1s5 : w1.cell? ⟨w.heap.size, 5, none⟩ = some (.slice none 0 0) := (by rw [hc _ _ (by first | omega | (simp <;> omega)) (by omega)]; go_simp); have a1z5 : w1.frozen? ⟨w.heap.size, 5, none⟩ = false := (by rw [hz _ _ (by first | omega | (simp <;> omega)) (by omega)]; go_simp); clear hc hz; have HS1 : Hid (Rs w1 r v1 (m) (o)) := hS1; have G1 : Hid (Fr r w.heap.size w w1) := (fb (bxn _ _) hF1); clear hS1) | (go_at_call 63; have tku := tok2; clear tku tok2; refine Ans.use (name_ans r (m) v1 (o) _ (HS1.out.bx (T := w1.heap.size + 1) hr (by repeat (first | with_reducible exact Bx.refl _ _ | with_reducible refine Bx.setCell ?_ (bt_of (by omega) (by omega)) _ | with_reducible refine Bx.alloc ?_ _ | with_reducible refine Bx.drew ?_)))) (fun w' hf hn => ⟨rfl, Ans.no (ft (fin_w (T := w1.heap.size + 1) hr G1.out (Nat.le_refl _) (by repeat (first | with_reducible exact Bx.refl _ _ | with_reducible refine Bx.setCell ?_ (bt_of (by omega) (by omega)) _ | with_reducible refine Bx.alloc ?_ _ | with_reducible refine Bx.drew ?_))) hf) (by rw [HM.out] at hn; cases hn)⟩) ?_; rintro c q2 val2 v2 w2 hF2 hx2 hl2 rfl hS2; obtain ⟨hc, hq⟩ := Prod.mk.inj (Option.some.inj (HM.out.symm.trans hx2)); have HQ : Hid (qs = q2.map Prod.fst) := hq; subst hc; clear hq hx2; have y2 : w1.heap.size + 1 ≤ w2.heap.size := (by have := hF2.size; first | omega | (simp at this; omega)); obtain ⟨hc, hz⟩ := fr_box hF2; have al2 : w.heap.size < w2.heap.size := (by omega); have bl2 : w1.heap.size < w2.heap.size := (by omega); have a2s0 : w2.cell? ⟨w.heap.size, 0, none⟩ = some (.int .u8 0) := (by rw [hc _ _ (by first | omega | (simp <;> omega)) (by omega)]; go_simp); have a2z0 : w2.frozen? ⟨w.heap.size, 0, none⟩ = false := (by rw [hz _ _ (by first | omega | (simp <;> omega)) (by omega)]; go_simp); have a2s1 : w2.cell? ⟨w.heap.size, 1, none⟩ = some (.string ⟨#[]⟩) := (by rw [hc _ _ (by first | omega | (simp <;> omega)) (by omega)]; go_simp); have a2z1 : w2.frozen? ⟨w.heap.size, 1, none⟩ = false := (by rw [hz _ _ (by first | omega | (simp <;> omega)) (by omega)]; go_simp); have a2s2 : w2.cell? ⟨w.heap.size, 2, none⟩ = some (.int .i64 0) := (by rw [hc _ _ (by first | omega | (simp <;> omega)) (by omega)]; go_simp); have a2z2 : w2.frozen? ⟨w.heap.size, 2, none⟩ = false := (by rw [hz _ _ (by first | omega | (simp <;> omega)) (by omega)]; go_simp); have a2s3 : w2.cell? ⟨w.heap.size, 3, none⟩ = some (.string ⟨#[]⟩) := (by rw [hc _ _ (by first | omega | (simp <;> omega)) (by omega)]; go_simp); have a2z3 : w2.frozen? ⟨w.heap.size, 3, none⟩ = false := (by rw [hz _ _ (by first | omega | (simp <;> omega)) (by omega)]; go_simp); have a2s4 : w2.cell? ⟨w.heap.size, 4, none⟩ = some (.slice none 0 0) := (by rw [hc _ _ (by first | omega | (simp <;> omega)) (by omega)]; go_simp); have a2z4 : w2.frozen? ⟨w.heap.size, 4, none⟩ = false := (by rw [hz _ _ (by first | omega | (simp <;> omega)) (by omega)]; go_simp); have a2s5 : w2.cell? ⟨w.heap.size, 5, none⟩ = some (.slice none 0 0) := (by rw [hc _ _ (by first | omega | (simp <;> omega)) (by omega)]; go_simp); have a2z5 : w2.frozen? ⟨w.heap.size, 5, none⟩ = false := (by rw [hz _ _ (by first | omega | (simp <;> omega)) (by omega)]; go_simp); have b2s0 : w2.cell? ⟨w1.heap.size, 0, none⟩ = some (.int .u8 0) := (by rw [hc _ _ (by first | omega | (simp <;> omega)) (by omega)]; go_simp); have b2z0 : w2.frozen? ⟨w1.heap.size, 0, none⟩ = false := (by rw [hz _ _ (by first | omega | (simp <;> omega)) (by omega)]; go_simp); have b2s1 : w2.cell? ⟨w1.heap.size, 1, none⟩ = some (.string ⟨#[]⟩) := (by rw [hc _ _ (by first | omega | (simp <;> omega)) (by omega)]; go_simp); have b2z1 : w2.frozen? ⟨w1.heap.size, 1, none⟩ = false := (by rw [hz _ _ (by first | omega | (simp <;> omega)) (by omega)]; go_simp); have b2s2 : w2.cell? ⟨w1.heap.size, 2, none⟩ = some (.int .i64 0) := (by rw [hc _ _ (by first | omega | (simp <;> omega)) (by omega)]; go_simp); have b2z2 : w2.frozen? ⟨w1.heap.size, 2, none⟩ = false := (by rw [hz _ _ (by first | omega | (simp <;> omega)) (by omega)]; go_simp); have b2s3 : w2.cell? ⟨w1.heap.size, 3, none⟩ = some (.string ⟨#[]⟩) := (by rw [hc _ _ (by first | omega | (simp <;> omega)) (by omega)]; go_simp); have b2z3 : w2.frozen? ⟨w1.heap.size, 3, none⟩ = false := (by rw [hz _ _ (by first | omega | (simp <;> omega)) (by omega)]; go_simp); have b2s4 : w2.cell? ⟨w1.heap.size, 4, none⟩ = some (.slice none 0 0) := (by rw [hc _ _ (by first | omega | (simp <;> omega)) (by omega)]; go_simp); have b2z4 : w2.frozen? ⟨w1.heap.size, 4, none⟩ = false := (by rw [hz _ _ (by first | omega | (simp <;> omega)) (by omega)]; go_simp); have b2s5 : w2.cell? ⟨w1.heap.size, 5, none⟩ = some (.slice none 0 0) := (by rw [hc _ _ (by first | omega | (simp <;> omega)) (by omega)]; go_simp); have b2z5 : w2.frozen? ⟨w1.heap.size, 5, none⟩ = false := (by rw [hz _ _ (by first | omega | (simp <;> omega)) (by omega)]; go_simp); clear hc hz; have HS2 : Hid (Rs w2 r v2 q2 ((o) || no1 s)) := hS2; have G2 : Hid (Fr r w.heap.size w w2) := (ft (fin_w (T := w1.heap.size + 1) hr G1.out (Nat.le_refl _) (by repeat (first | with_reducible exact Bx.refl _ _ | with_reducible refine Bx.setCell ?_ (bt_of (by omega) (by omega)) _ | with_reducible refine Bx.alloc ?_ _ | with_reducible refine Bx.drew ?_))) hF2); clear hS2) | (go_at_call 123; have tku := tok3; clear tku tok3; refine Ans.use (number_ans r (q2) v2 ((o) || no1 s) _ (HS2.out.bx (T := w1.heap.size + 1) hr (by repeat (first | with_reducible exact Bx.refl _ _ | with_reducible refine Bx.setCell ?_ (bt_of (by omega) (by omega)) _ | with_reducible refine Bx.alloc ?_ _ | with_reducible refine Bx.drew ?_)))) (fun w' hf hn => ⟨rfl, Ans.no (ft (fin_w (T := w1.heap.size + 1) hr G2.out (Nat.le_refl _) (by repeat (first | with_reducible exact Bx.refl _ _ | with_reducible refine Bx.setCell ?_ (bt_of (by omega) (by omega)) _ | with_reducible refine Bx.alloc ?_ _ | with_reducible refine Bx.drew ?_))) hf) (by rw [HP.out, HQ.out, body_modify, thn_none hn])⟩) ?_; rintro c q3 val3 v3 w3 hF3 hx3 hl3 rfl hS3; have y3 : w2.heap.size ≤ w3.heap.size := (by have := hF3.size; first | omega | (simp at this; omega)); obtain ⟨hc, hz⟩ := fr_box hF3; have al3 : w.heap.size < w3.heap.size := (by omega); have bl3 : w1.heap.size < w3.heap.size := (by omega); have a3s0 : w3.cell? ⟨w.heap.size, 0, none⟩ = some (.int .u8 0) := (by rw [hc _ _ (by first | omega | (simp <;> omega)) (by omega)]; go_simp); have a3z0 : w3.frozen? ⟨w.heap.size, 0, none⟩ = false := (by rw [hz _ _ (by first | omega | (simp <;> omega)) (by omega)]; go_simp); have a3s1 : w3.cell? ⟨w.heap.size, 1, none⟩ = some (.string ⟨#[]⟩) := (by rw [hc _ _ (by first | omega | (simp <;> omega)) (by omega)]; go_simp); have a3z1 : w3.frozen? ⟨w.heap.size, 1, none⟩ = false := (by rw [hz _ _ (by first | omega | (simp <;> omega)) (by omega)]; go_simp); have a3s2 : w3.cell? ⟨w.heap.size, 2, none⟩ = some (.int .i64 0) := (by rw [hc _ _ (by first | omega | (simp <;> omega)) (by omega)]; go_simp); have a3z2 : w3.frozen? ⟨w.heap.size, 2, none⟩ = false := (by rw [hz _ _ (by first | omega | (simp <;> omega)) (by omega)]; go_simp); have a3s3 : w3.cell? ⟨w.heap.size, 3, none⟩ = some (.string ⟨#[]⟩) := (by rw [hc _ _ (by first | omega | (simp <;> omega)) (by omega)]; go_simp); have a3z3 : w3.frozen? ⟨w.heap.size, 3, none⟩ = false := (by rw [hz _ _ (by first | omega | (simp <;> omega)) (by omega)]; go_simp); have a3s4 : w3.cell? ⟨w.heap.size, 4, none⟩ = some (.slice none 0 0) := (by rw [hc _ _ (by first | omega | (simp <;> omega)) (by omega)]; go_simp); have a3z4 : w3.frozen? ⟨w.heap.size, 4, none⟩ = false := (by rw [hz _ _ (by first | omega | (simp <;> omega)) (by omega)]; go_simp); have a3s5 : w3.cell? ⟨w.heap.size, 5, none⟩ = some (.slice none 0 0) := (by rw [hc _ _ (by first | omega | (simp <;> omega)) (by omega)]; go_simp); have a3z5 : w3.frozen? ⟨w.heap.size, 5, none⟩ = false := (by rw [hz _ _ (by first | omega | (simp <;> omega)) (by omega)]; go_simp); have b3s0 : w3.cell? ⟨w1.heap.size, 0, none⟩ = some (.int .u8 0) := (by rw [hc _ _ (by first | omega | (simp <;> omega)) (by omega)]; go_simp); have b3z0 : w3.frozen? ⟨w1.heap.size, 0, none⟩ = false := (by rw [hz _ _ (by first | omega | (simp <;> omega)) (by omega)]; go_simp); have b3s1 : w3.cell? ⟨w1.heap.size, 1, none⟩ = some (.string ⟨#[]⟩) := (by rw [hc _ _ (by first | omega | (simp <;> omega)) (by omega)]; go_simp); have b3z1 : w3.frozen? ⟨w1.heap.size, 1, none⟩ = false := (by rw [hz _ _ (by first | omega | (simp <;> omega)) (by omega)]; go_simp); have b3s2 : w3.cell? ⟨w1.heap.size, 2, none⟩ = some (.int .i64 0) := (by rw [hc _ _ (by first | omega | (simp <;> omega)) (by omega)]; go_simp); have b3z2 : w3.frozen? ⟨w1.heap.size, 2, none⟩ = false := (by rw [hz _ _ (by first | omega | (simp <;> omega)) (by omega)]; go_simp); have b3s3 : w3.cell? ⟨w1.heap.size, 3, none⟩ = some (.string ⟨#[]⟩) := (by rw [hc _ _ (by first | omega | (simp <;> omega)) (by omega)]; go_simp); have b3z3 : w3.frozen? ⟨w1.heap.size, 3, none⟩ = false := (by rw [hz _ _ (by first | omega | (simp <;> omega)) (by omega)]; go_simp); have b3s4 : w3.cell? ⟨w1.heap.size, 4, none⟩ = some (.slice none 0 0) := (by rw [hc _ _ (by first | omega | (simp <;> omega)) (by omega)]; go_simp); have b3z4 : w3.frozen? ⟨w1.heap.size, 4, none⟩ = false := (by rw [hz _ _ (by first | omega | (simp <;> omega)) (by omega)]; go_simp); have b3s5 : w3.cell? ⟨w1.heap.size, 5, none⟩ = some (.slice none 0 0) := (by rw [hc _ _ (by first | omega | (simp <;> omega)) (by omega)]; go_simp); have b3z5 : w3.frozen? ⟨w1.heap.size, 5, none⟩ = false := (by rw [hz _ _ (by first | omega | (simp <;> omega)) (by omega)]; go_simp); clear hc hz; have HS3 : Hid (Rs w3 r v3 q3 (((o) || no1 s) || no1 c)) := hS3; have G3 : Hid (Fr r w.heap.size w w3) := (ft (fin_w (T := w1.heap.size + 1) hr G2.out (Nat.le_refl _) (by repeat (first | with_reducible exact Bx.refl _ _ | with_reducible refine Bx.setCell ?_ (bt_of (by omega) (by omega)) _ | with_reducible refine Bx.alloc ?_ _ | with_reducible refine Bx.drew ?_))) hF3); clear hS3) | (go_at_call 122; have tku := tok4; clear tku tok4; refine Ans.use (sets_ans r (q3) v3 (((o) || no1 s) || no1 c) _ (HS3.out.bx (T := w1.heap.size + 1) hr (by repeat (first | with_reducible exact Bx.refl _ _ | with_reducible refine Bx.setCell ?_ (bt_of (by omega) (by omega)) _ | with_reducible refine Bx.alloc ?_ _ | with_reducible refine Bx.drew ?_))) (by have := HL.out; first | omega | (simp at this; omega))) (fun w' hf hn => ⟨rfl, Ans.no (ft (fin_w (T := w1.heap.size + 1) hr G3.out (Nat.le_refl _) (by repeat (first | with_reducible exact Bx.refl _ _ | with_reducible refine Bx.setCell ?_ (bt_of (by omega) (by omega)) _ | with_reducible refine Bx.alloc ?_ _ | with_reducible refine Bx.drew ?_))) hf) (by rw [HP.out, HQ.out, body_modify, thn_of hx3, thn_none hn])⟩) ?_; rintro xs q4 val4 v4 w4 hF4 hx4 hl4 hR hS4; obtain ⟨ba4, hbE, hba4⟩ : ∃ ba, ba = _ ∧ RowP 5 2 RSet w4 ba val4 xs := ⟨_, rfl, hR⟩; have R4_4 : Hid (RowP 5 2 RSet w4 ba4 val4 xs) := hba4; obtain ⟨a4, n4, c4, rfl⟩ := hR.like; have yb4 : w3.heap.size ≤ ba4 := (by rw [hbE]; first | omega | (simp <;> omega)); clear hR hba4 hbE; have y4 : w3.heap.size ≤ w4.heap.size := (by have := hF4.size; first | omega | (simp at this; omega)); obtain ⟨hc, hz⟩ := fr_box hF4; have al4 : w.heap.size < w4.heap.size := (by omega); have bl4 : w1.heap.size < w4.heap.size := (by omega); have a4s0 : w4.cell? ⟨w.heap.size, 0, none⟩ = some (.int .u8 0) := (by rw [hc _ _ (by first | omega | (simp <;> omega)) (by omega)]; go_simp); have a4z0 : w4.frozen? ⟨w.heap.size, 0, none⟩ = false := (by rw [hz _ _ (by first | omega | (simp <;> omega)) (by omega)]; go_simp); have a4s1 : w4.cell? ⟨w.heap.size, 1, none⟩ = some (.string ⟨#[]⟩) := (by rw [hc _ _ (by first | omega | (simp <;> omega)) (by omega)]; go_simp); have a4z1 : w4.frozen? ⟨w.heap.size, 1, none⟩ = false := (by rw [hz _ _ (by first | omega | (simp <;> omega)) (by omega)]; go_simp); have a4s2 : w4.cell? ⟨w.heap.size, 2, none⟩ = some (.int .i64 0) := (by rw [hc _ _ (by first | omega | (simp <;> omega)) (by omega)]; go_simp); have a4z2 : w4.frozen? ⟨w.heap.size, 2, none⟩ = false := (by rw [hz _ _ (by first | omega | (simp <;> omega)) (by omega)]; go_simp); have a4s3 : w4.cell? ⟨w.heap.size, 3, none⟩ = some (.string ⟨#[]⟩) := (by rw [hc _ _ (by first | omega | (simp <;> omega)) (by omega)]; go_simp); have a4z3 : w4.frozen? ⟨w.heap.size, 3, none⟩ = false := (by rw [hz _ _ (by first | omega | (simp <;> omega)) (by omega)]; go_simp); have a4s4 : w4.cell? ⟨w.heap.size, 4, none⟩ = some (.slice none 0 0) := (by rw [hc _ _ (by first | omega | (simp <;> omega)) (by omega)]; go_simp); have a4z4 : w4.frozen? ⟨w.heap.size, 4, none⟩ = false := (by rw [hz _ _ (by first | omega | (simp <;> omega)) (by omega)]; go_simp); have a4s5 : w4.cell? ⟨w.heap.size, 5, none⟩ = some (.slice none 0 0) := (by rw [hc _ _ (by first | omega | (simp <;> omega)) (by omega)]; go_simp); have a4z5 : w4.frozen? ⟨w.heap.size, 5, none⟩ = false := (by rw [hz _ _ (by first | omega | (simp <;> omega)) (by omega)]; go_simp); have b4s0 : w4.cell? ⟨w1.heap.size, 0, none⟩ = some (.int .u8 1) := (by rw [hc _ _ (by first | omega | (simp <;> omega)) (by omega)]; go_simp); have b4z0 : w4.frozen? ⟨w1.heap.size, 0, none⟩ = false := (by rw [hz _ _ (by first | omega | (simp <;> omega)) (by omega)]; go_simp); have b4s1 : w4.cell? ⟨w1.heap.size, 1, none⟩ = some (.string ⟨#[]⟩) := (by rw [hc _ _ (by first | omega | (simp <;> omega)) (by omega)]; go_simp); have b4z1 : w4.frozen? ⟨w1.heap.size, 1, none⟩ = false := (by rw [hz _ _ (by first | omega | (simp <;> omega)) (by omega)]; go_simp); have b4s2 : w4.cell? ⟨w1.heap.size, 2, none⟩ = some (.int .i64 c) := (by rw [hc _ _ (by first | omega | (simp <;> omega)) (by omega)]; go_simp); have b4z2 : w4.frozen? ⟨w1.heap.size, 2, none⟩ = false := (by rw [hz _ _ (by first | omega | (simp <;> omega)) (by omega)]; go_simp); have b4s3 : w4.cell? ⟨w1.heap.size, 3, none⟩ = some (.string ⟨#[]⟩) := (by rw [hc _ _ (by first | omega | (simp <;> omega)) (by omega)]; go_simp); have b4z3 : w4.frozen? ⟨w1.heap.size, 3, none⟩ = false := (by rw [hz _ _ (by first | omega | (simp <;> omega)) (by omega)]; go_simp); have b4s4 : w4.cell? ⟨w1.heap.size, 4, none⟩ = some (.slice none 0 0) := (by rw [hc _ _ (by first | omega | (simp <;> omega)) (by omega)]; go_simp); have b4z4 : w4.frozen? ⟨w1.heap.size, 4, none⟩ = false := (by rw [hz _ _ (by first | omega | (simp <;> omega)) (by omega)]; go_simp); have b4s5 : w4.cell? ⟨w1.heap.size, 5, none⟩ = some (.slice none 0 0) := (by rw [hc _ _ (by first | omega | (simp <;> omega)) (by omega)]; go_simp); have b4z5 : w4.frozen? ⟨w1.heap.size, 5, none⟩ = false := (by rw [hz _ _ (by first | omega | (simp <;> omega)) (by omega)]; go_simp); clear hc hz; have HS4 : Hid (Rs w4 r v4 q4 ((((o) || no1 s) || no1 c) || ovL ovN 6 xs)) := hS4; have G4 : Hid (Fr r w.heap.size w w4) := (ft (fin_w (T := w1.heap.size + 1) hr G3.out (Nat.le_refl _) (by repeat (first | with_reducible exact Bx.refl _ _ | with_reducible refine Bx.setCell ?_ (bt_of (by omega) (by omega)) _ | with_reducible refine Bx.alloc ?_ _ | with_reducible refine Bx.drew ?_))) hF4); clear hS4))
  refine bodyPost_ret (v := .agg #[.int .u8 1, .string ⟨#[]⟩, .int .i64 c, .string ⟨#[]⟩, .slice a4 n4 c4, .slice none 0 0]) (by simp [results, Tryz.results98, go_sem, a4s0, a4s1, a4s2, a4s3, a4s4, a4s5, b4s0, b4s1, b4s2, b4s3, b4s4, b4s5, al4, bl4] <;> rfl) rfl ?_
  refine fin_ans (x := ((⟨1, [], c, [], xs.map Prod.fst, []⟩ : ActD), deepOf (xs.map Prod.snd))) (T := w1.heap.size + 1) (rest := q4) hr G4.out ?_ (by rw [HP.out, HQ.out, body_modify, thn_of hx3, thn_of hx4]; rfl) (by first | omega | (simp; omega)) (fun HX => ⟨_, rfl, _, _, rfl, row_set (by decide) (RowP.bx part_set R4_4.out HX (by omega)) (by omega), row_nil _ _ _ _⟩) HS4.out (by simp [no1, ovL, ovT, any_ovN] <;> (try (first | rfl | (congr 1; exact Bool.or_comm _ _) | simp [Bool.or_comm, Bool.or_left_comm])) )
  repeat (first | with_reducible exact Bx.refl _ _ | with_reducible refine Bx.setCell ?_ (bt_of (by omega) (by omega)) _ | with_reducible refine Bx.alloc ?_ _ | with_reducible refine Bx.drew ?_)
set_option maxHeartbeats 4000000 in
theorem act_remove (r : Nat) (x : TA) (m : List TA) (s : Str) (qs : List Tk) (v : Value) (o : Bool) (w : World) (h : Rs w r v (x :: m) o) (hl : (x :: m).length ≤ 100000) (hx : x.1.k = 0) (hm : nameR (m.map Prod.fst) = some (s, qs)) (hs : s = sRemove) :
    Calls Tryz.prog 98 #[pR r] w (Ans (RAgg RAct) actR ovT r w (x :: m) o) := by
  have hr := h.lt
  have F43 := field43
  have F43a := field43a
  have F43b := field43b
  have HH : Hid (Rs w r v (x :: m) o) := h
  have HL : Hid ((x :: m).length ≤ 100000) := hl
  have HM : Hid (nameR (m.map Prod.fst) = some (s, qs)) := hm
  have HP : Hid (actR ((x :: m).map Prod.fst) = bodyP sRemove qs) := by show _ = _; rw [actR_is, thn_of (nxt_at hx), thn_of hm, hs]
  have b0 : ((st s).toList == [109, 97, 107, 101]) = false := (strE s _).trans (by rw [hs]; decide)
  have b1 : ((st s).toList == [109, 111, 100, 105, 102, 121]) = false := (strE s _).trans (by rw [hs]; decide)
  have b2 : ((st s).toList == [114, 101, 109, 111, 118, 101]) = true := (strE s _).trans (by rw [hs]; decide)
  have CT1 := fun W vv hh => take_yes r x (m) vv (o) W hh
  rw [hx] at CT1
  unfold tkA at CT1
  have tok2 : Hid True := trivial
  have tok3 : Hid True := trivial
  have tok4 : Hid True := trivial
  clear h hl
  clear hx hm hs
  go_enter Tryz.func98, Tryz.ntmps98
  go_wp2_with (first | (go_at_call 62; refine (CT1 _ v (HH.out.below (bxn _ _))).mono ?_; rintro e w1 ⟨rfl, ⟨v1, hS1⟩, hF1⟩; clear CT1; have y1 : w.heap.size + 1 ≤ w1.heap.size := (by have := hF1.size; first | omega | (simp at this; omega)); obtain ⟨hc, hz⟩ := fr_box hF1; have al1 : w.heap.size < w1.heap.size := (by omega); have a1s0 : w1.cell? ⟨w.heap.size, 0, none⟩ = some (.int .u8 0) := (by rw [hc _ _ (by first | omega | (simp <;> omega)) (by omega)]; go_simp); have a1z0 : w1.frozen? ⟨w.heap.size, 0, none⟩ = false := (by rw [hz _ _ (by first | omega | (simp <;> omega)) (by omega)]; go_simp); have a1s1 : w1.cell? ⟨w.heap.size, 1, none⟩ = some (.string ⟨#[]⟩) := (by rw [hc _ _ (by first | omega | (simp <;> omega)) (by omega)]; go_simp); have a1z1 : w1.frozen? ⟨w.heap.size, 1, none⟩ = false := (by rw [hz _ _ (by first | omega | (simp <;> omega)) (by omega)]; go_simp); have a1s2 : w1.cell? ⟨w.heap.size, 2, none⟩ = some (.int .i64 0) := (by rw [hc _ _ (by first | omega | (simp <;> omega)) (by omega)]; go_simp); have a1z2 : w1.frozen? ⟨w.heap.size, 2, none⟩ = false := (by rw [hz _ _ (by first | omega | (simp <;> omega)) (by omega)]; go_simp); have a1s3 : w1.cell? ⟨w.heap.size, 3, none⟩ = some (.string ⟨#[]⟩) := (by rw [hc _ _ (by first | omega | (simp <;> omega)) (by omega)]; go_simp); have a1z3 : w1.frozen? ⟨w.heap.size, 3, none⟩ = false := (by rw [hz _ _ (by first | omega | (simp <;> omega)) (by omega)]; go_simp); have a1s4 : w1.cell? ⟨w.heap.size, 4, none⟩ = some (.slice none 0 0) := (by rw [hc _ _ (by first | omega | (simp <;> omega)) (by omega)]; go_simp); have a1z4 : w1.frozen? ⟨w.heap.size, 4, none⟩ = false := (by rw [hz _ _ (by first | omega | (simp <;> omega)) (by omega)]; go_simp); have a1s5 : w1.cell? ⟨w.heap.size, 5, none⟩ = some (.slice none 0 0) := (by rw [hc _ _ (by first | omega | (simp <;> omega)) (by omega)]; go_simp); have a1z5 : w1.frozen? ⟨w.heap.size, 5, none⟩ = false := (by rw [hz _ _ (by first | omega | (simp <;> omega)) (by omega)]; go_simp); clear hc hz; have HS1 : Hid (Rs w1 r v1 (m) (o)) := hS1; have G1 : Hid (Fr r w.heap.size w w1) := (fb (bxn _ _) hF1); clear hS1) | (go_at_call 63; have tku := tok2; clear tku tok2; refine Ans.use (name_ans r (m) v1 (o) _ (HS1.out.bx (T := w1.heap.size + 1) hr (by repeat (first | with_reducible exact Bx.refl _ _ | with_reducible refine Bx.setCell ?_ (bt_of (by omega) (by omega)) _ | with_reducible refine Bx.alloc ?_ _ | with_reducible refine Bx.drew ?_)))) (fun w' hf hn => ⟨rfl, Ans.no (ft (fin_w (T := w1.heap.size + 1) hr G1.out (Nat.le_refl _) (by repeat (first | with_reducible exact Bx.refl _ _ | with_reducible refine Bx.setCell ?_ (bt_of (by omega) (by omega)) _ | with_reducible refine Bx.alloc ?_ _ | with_reducible refine Bx.drew ?_))) hf) (by rw [HM.out] at hn; cases hn)⟩) ?_; rintro c q2 val2 v2 w2 hF2 hx2 hl2 rfl hS2; obtain ⟨hc, hq⟩ := Prod.mk.inj (Option.some.inj (HM.out.symm.trans hx2)); have HQ : Hid (qs = q2.map Prod.fst) := hq; subst hc; clear hq hx2; have y2 : w1.heap.size + 1 ≤ w2.heap.size := (by have := hF2.size; first | omega | (simp at this; omega)); obtain ⟨hc, hz⟩ := fr_box hF2; have al2 : w.heap.size < w2.heap.size := (by omega); have bl2 : w1.heap.size < w2.heap.size := (by omega); have a2s0 : w2.cell? ⟨w.heap.size, 0, none⟩ = some (.int .u8 0) := (by rw [hc _ _ (by first | omega | (simp <;> omega)) (by omega)]; go_simp); have a2z0 : w2.frozen? ⟨w.heap.size, 0, none⟩ = false := (by rw [hz _ _ (by first | omega | (simp <;> omega)) (by omega)]; go_simp); have a2s1 : w2.cell? ⟨w.heap.size, 1, none⟩ = some (.string ⟨#[]⟩) := (by rw [hc _ _ (by first | omega | (simp <;> omega)) (by omega)]; go_simp); have a2z1 : w2.frozen? ⟨w.heap.size, 1, none⟩ = false := (by rw [hz _ _ (by first | omega | (simp <;> omega)) (by omega)]; go_simp); have a2s2 : w2.cell? ⟨w.heap.size, 2, none⟩ = some (.int .i64 0) := (by rw [hc _ _ (by first | omega | (simp <;> omega)) (by omega)]; go_simp); have a2z2 : w2.frozen? ⟨w.heap.size, 2, none⟩ = false := (by rw [hz _ _ (by first | omega | (simp <;> omega)) (by omega)]; go_simp); have a2s3 : w2.cell? ⟨w.heap.size, 3, none⟩ = some (.string ⟨#[]⟩) := (by rw [hc _ _ (by first | omega | (simp <;> omega)) (by omega)]; go_simp); have a2z3 : w2.frozen? ⟨w.heap.size, 3, none⟩ = false := (by rw [hz _ _ (by first | omega | (simp <;> omega)) (by omega)]; go_simp); have a2s4 : w2.cell? ⟨w.heap.size, 4, none⟩ = some (.slice none 0 0) := (by rw [hc _ _ (by first | omega | (simp <;> omega)) (by omega)]; go_simp); have a2z4 : w2.frozen? ⟨w.heap.size, 4, none⟩ = false := (by rw [hz _ _ (by first | omega | (simp <;> omega)) (by omega)]; go_simp); have a2s5 : w2.cell? ⟨w.heap.size, 5, none⟩ = some (.slice none 0 0) := (by rw [hc _ _ (by first | omega | (simp <;> omega)) (by omega)]; go_simp); have a2z5 : w2.frozen? ⟨w.heap.size, 5, none⟩ = false := (by rw [hz _ _ (by first | omega | (simp <;> omega)) (by omega)]; go_simp); have b2s0 : w2.cell? ⟨w1.heap.size, 0, none⟩ = some (.int .u8 0) := (by rw [hc _ _ (by first | omega | (simp <;> omega)) (by omega)]; go_simp); have b2z0 : w2.frozen? ⟨w1.heap.size, 0, none⟩ = false := (by rw [hz _ _ (by first | omega | (simp <;> omega)) (by omega)]; go_simp); have b2s1 : w2.cell? ⟨w1.heap.size, 1, none⟩ = some (.string ⟨#[]⟩) := (by rw [hc _ _ (by first | omega | (simp <;> omega)) (by omega)]; go_simp); have b2z1 : w2.frozen? ⟨w1.heap.size, 1, none⟩ = false := (by rw [hz _ _ (by first | omega | (simp <;> omega)) (by omega)]; go_simp); have b2s2 : w2.cell? ⟨w1.heap.size, 2, none⟩ = some (.int .i64 0) := (by rw [hc _ _ (by first | omega | (simp <;> omega)) (by omega)]; go_simp); have b2z2 : w2.frozen? ⟨w1.heap.size, 2, none⟩ = false := (by rw [hz _ _ (by first | omega | (simp <;> omega)) (by omega)]; go_simp); have b2s3 : w2.cell? ⟨w1.heap.size, 3, none⟩ = some (.string ⟨#[]⟩) := (by rw [hc _ _ (by first | omega | (simp <;> omega)) (by omega)]; go_simp); have b2z3 : w2.frozen? ⟨w1.heap.size, 3, none⟩ = false := (by rw [hz _ _ (by first | omega | (simp <;> omega)) (by omega)]; go_simp); have b2s4 : w2.cell? ⟨w1.heap.size, 4, none⟩ = some (.slice none 0 0) := (by rw [hc _ _ (by first | omega | (simp <;> omega)) (by omega)]; go_simp); have b2z4 : w2.frozen? ⟨w1.heap.size, 4, none⟩ = false := (by rw [hz _ _ (by first | omega | (simp <;> omega)) (by omega)]; go_simp); have b2s5 : w2.cell? ⟨w1.heap.size, 5, none⟩ = some (.slice none 0 0) := (by rw [hc _ _ (by first | omega | (simp <;> omega)) (by omega)]; go_simp); have b2z5 : w2.frozen? ⟨w1.heap.size, 5, none⟩ = false := (by rw [hz _ _ (by first | omega | (simp <;> omega)) (by omega)]; go_simp); clear hc hz; have HS2 : Hid (Rs w2 r v2 q2 ((o) || no1 s)) := hS2; have G2 : Hid (Fr r w.heap.size w w2) := (ft (fin_w (T := w1.heap.size + 1) hr G1.out (Nat.le_refl _) (by repeat (first | with_reducible exact Bx.refl _ _ | with_reducible refine Bx.setCell ?_ (bt_of (by omega) (by omega)) _ | with_reducible refine Bx.alloc ?_ _ | with_reducible refine Bx.drew ?_))) hF2); clear hS2) | (go_at_call 123; have tku := tok3; clear tku tok3; refine Ans.use (number_ans r (q2) v2 ((o) || no1 s) _ (HS2.out.bx (T := w1.heap.size + 1) hr (by repeat (first | with_reducible exact Bx.refl _ _ | with_reducible refine Bx.setCell ?_ (bt_of (by omega) (by omega)) _ | with_reducible refine Bx.alloc ?_ _ | with_reducible refine Bx.drew ?_)))) (fun w' hf hn => ⟨rfl, Ans.no (ft (fin_w (T := w1.heap.size + 1) hr G2.out (Nat.le_refl _) (by repeat (first | with_reducible exact Bx.refl _ _ | with_reducible refine Bx.setCell ?_ (bt_of (by omega) (by omega)) _ | with_reducible refine Bx.alloc ?_ _ | with_reducible refine Bx.drew ?_))) hf) (by rw [HP.out, HQ.out, body_remove, thn_none hn])⟩) ?_; rintro c q3 val3 v3 w3 hF3 hx3 hl3 rfl hS3; have y3 : w2.heap.size ≤ w3.heap.size := (by have := hF3.size; first | omega | (simp at this; omega)); obtain ⟨hc, hz⟩ := fr_box hF3; have al3 : w.heap.size < w3.heap.size := (by omega); have bl3 : w1.heap.size < w3.heap.size := (by omega); have a3s0 : w3.cell? ⟨w.heap.size, 0, none⟩ = some (.int .u8 0) := (by rw [hc _ _ (by first | omega | (simp <;> omega)) (by omega)]; go_simp); have a3z0 : w3.frozen? ⟨w.heap.size, 0, none⟩ = false := (by rw [hz _ _ (by first | omega | (simp <;> omega)) (by omega)]; go_simp); have a3s1 : w3.cell? ⟨w.heap.size, 1, none⟩ = some (.string ⟨#[]⟩) := (by rw [hc _ _ (by first | omega | (simp <;> omega)) (by omega)]; go_simp); have a3z1 : w3.frozen? ⟨w.heap.size, 1, none⟩ = false := (by rw [hz _ _ (by first | omega | (simp <;> omega)) (by omega)]; go_simp); have a3s2 : w3.cell? ⟨w.heap.size, 2, none⟩ = some (.int .i64 0) := (by rw [hc _ _ (by first | omega | (simp <;> omega)) (by omega)]; go_simp); have a3z2 : w3.frozen? ⟨w.heap.size, 2, none⟩ = false := (by rw [hz _ _ (by first | omega | (simp <;> omega)) (by omega)]; go_simp); have a3s3 : w3.cell? ⟨w.heap.size, 3, none⟩ = some (.string ⟨#[]⟩) := (by rw [hc _ _ (by first | omega | (simp <;> omega)) (by omega)]; go_simp); have a3z3 : w3.frozen? ⟨w.heap.size, 3, none⟩ = false := (by rw [hz _ _ (by first | omega | (simp <;> omega)) (by omega)]; go_simp); have a3s4 : w3.cell? ⟨w.heap.size, 4, none⟩ = some (.slice none 0 0) := (by rw [hc _ _ (by first | omega | (simp <;> omega)) (by omega)]; go_simp); have a3z4 : w3.frozen? ⟨w.heap.size, 4, none⟩ = false := (by rw [hz _ _ (by first | omega | (simp <;> omega)) (by omega)]; go_simp); have a3s5 : w3.cell? ⟨w.heap.size, 5, none⟩ = some (.slice none 0 0) := (by rw [hc _ _ (by first | omega | (simp <;> omega)) (by omega)]; go_simp); have a3z5 : w3.frozen? ⟨w.heap.size, 5, none⟩ = false := (by rw [hz _ _ (by first | omega | (simp <;> omega)) (by omega)]; go_simp); have b3s0 : w3.cell? ⟨w1.heap.size, 0, none⟩ = some (.int .u8 0) := (by rw [hc _ _ (by first | omega | (simp <;> omega)) (by omega)]; go_simp); have b3z0 : w3.frozen? ⟨w1.heap.size, 0, none⟩ = false := (by rw [hz _ _ (by first | omega | (simp <;> omega)) (by omega)]; go_simp); have b3s1 : w3.cell? ⟨w1.heap.size, 1, none⟩ = some (.string ⟨#[]⟩) := (by rw [hc _ _ (by first | omega | (simp <;> omega)) (by omega)]; go_simp); have b3z1 : w3.frozen? ⟨w1.heap.size, 1, none⟩ = false := (by rw [hz _ _ (by first | omega | (simp <;> omega)) (by omega)]; go_simp); have b3s2 : w3.cell? ⟨w1.heap.size, 2, none⟩ = some (.int .i64 0) := (by rw [hc _ _ (by first | omega | (simp <;> omega)) (by omega)]; go_simp); have b3z2 : w3.frozen? ⟨w1.heap.size, 2, none⟩ = false := (by rw [hz _ _ (by first | omega | (simp <;> omega)) (by omega)]; go_simp); have b3s3 : w3.cell? ⟨w1.heap.size, 3, none⟩ = some (.string ⟨#[]⟩) := (by rw [hc _ _ (by first | omega | (simp <;> omega)) (by omega)]; go_simp); have b3z3 : w3.frozen? ⟨w1.heap.size, 3, none⟩ = false := (by rw [hz _ _ (by first | omega | (simp <;> omega)) (by omega)]; go_simp); have b3s4 : w3.cell? ⟨w1.heap.size, 4, none⟩ = some (.slice none 0 0) := (by rw [hc _ _ (by first | omega | (simp <;> omega)) (by omega)]; go_simp); have b3z4 : w3.frozen? ⟨w1.heap.size, 4, none⟩ = false := (by rw [hz _ _ (by first | omega | (simp <;> omega)) (by omega)]; go_simp); have b3s5 : w3.cell? ⟨w1.heap.size, 5, none⟩ = some (.slice none 0 0) := (by rw [hc _ _ (by first | omega | (simp <;> omega)) (by omega)]; go_simp); have b3z5 : w3.frozen? ⟨w1.heap.size, 5, none⟩ = false := (by rw [hz _ _ (by first | omega | (simp <;> omega)) (by omega)]; go_simp); clear hc hz; have HS3 : Hid (Rs w3 r v3 q3 (((o) || no1 s) || no1 c)) := hS3; have G3 : Hid (Fr r w.heap.size w w3) := (ft (fin_w (T := w1.heap.size + 1) hr G2.out (Nat.le_refl _) (by repeat (first | with_reducible exact Bx.refl _ _ | with_reducible refine Bx.setCell ?_ (bt_of (by omega) (by omega)) _ | with_reducible refine Bx.alloc ?_ _ | with_reducible refine Bx.drew ?_))) hF3); clear hS3) | (go_at_call 62; have tku := tok4; clear tku tok4; refine Ans.use (take_ans r 1 (q3) v3 (((o) || no1 s) || no1 c) _ (HS3.out.bx (T := w1.heap.size + 1) hr (by repeat (first | with_reducible exact Bx.refl _ _ | with_reducible refine Bx.setCell ?_ (bt_of (by omega) (by omega)) _ | with_reducible refine Bx.alloc ?_ _ | with_reducible refine Bx.drew ?_)))) (fun w' hf hn => ⟨rfl, Ans.no (ft (fin_w (T := w1.heap.size + 1) hr G3.out (Nat.le_refl _) (by repeat (first | with_reducible exact Bx.refl _ _ | with_reducible refine Bx.setCell ?_ (bt_of (by omega) (by omega)) _ | with_reducible refine Bx.alloc ?_ _ | with_reducible refine Bx.drew ?_))) hf) (by rw [HP.out, HQ.out, body_remove, thn_of hx3, thn_none hn])⟩) ?_; rintro t q4 val4 v4 w4 hF4 hx4 hl4 ⟨p, rfl⟩ hS4; have y4 : w3.heap.size ≤ w4.heap.size := (by have := hF4.size; first | omega | (simp at this; omega)); obtain ⟨hc, hz⟩ := fr_box hF4; have al4 : w.heap.size < w4.heap.size := (by omega); have bl4 : w1.heap.size < w4.heap.size := (by omega); have a4s0 : w4.cell? ⟨w.heap.size, 0, none⟩ = some (.int .u8 0) := (by rw [hc _ _ (by first | omega | (simp <;> omega)) (by omega)]; go_simp); have a4z0 : w4.frozen? ⟨w.heap.size, 0, none⟩ = false := (by rw [hz _ _ (by first | omega | (simp <;> omega)) (by omega)]; go_simp); have a4s1 : w4.cell? ⟨w.heap.size, 1, none⟩ = some (.string ⟨#[]⟩) := (by rw [hc _ _ (by first | omega | (simp <;> omega)) (by omega)]; go_simp); have a4z1 : w4.frozen? ⟨w.heap.size, 1, none⟩ = false := (by rw [hz _ _ (by first | omega | (simp <;> omega)) (by omega)]; go_simp); have a4s2 : w4.cell? ⟨w.heap.size, 2, none⟩ = some (.int .i64 0) := (by rw [hc _ _ (by first | omega | (simp <;> omega)) (by omega)]; go_simp); have a4z2 : w4.frozen? ⟨w.heap.size, 2, none⟩ = false := (by rw [hz _ _ (by first | omega | (simp <;> omega)) (by omega)]; go_simp); have a4s3 : w4.cell? ⟨w.heap.size, 3, none⟩ = some (.string ⟨#[]⟩) := (by rw [hc _ _ (by first | omega | (simp <;> omega)) (by omega)]; go_simp); have a4z3 : w4.frozen? ⟨w.heap.size, 3, none⟩ = false := (by rw [hz _ _ (by first | omega | (simp <;> omega)) (by omega)]; go_simp); have a4s4 : w4.cell? ⟨w.heap.size, 4, none⟩ = some (.slice none 0 0) := (by rw [hc _ _ (by first | omega | (simp <;> omega)) (by omega)]; go_simp); have a4z4 : w4.frozen? ⟨w.heap.size, 4, none⟩ = false := (by rw [hz _ _ (by first | omega | (simp <;> omega)) (by omega)]; go_simp); have a4s5 : w4.cell? ⟨w.heap.size, 5, none⟩ = some (.slice none 0 0) := (by rw [hc _ _ (by first | omega | (simp <;> omega)) (by omega)]; go_simp); have a4z5 : w4.frozen? ⟨w.heap.size, 5, none⟩ = false := (by rw [hz _ _ (by first | omega | (simp <;> omega)) (by omega)]; go_simp); have b4s0 : w4.cell? ⟨w1.heap.size, 0, none⟩ = some (.int .u8 2) := (by rw [hc _ _ (by first | omega | (simp <;> omega)) (by omega)]; go_simp); have b4z0 : w4.frozen? ⟨w1.heap.size, 0, none⟩ = false := (by rw [hz _ _ (by first | omega | (simp <;> omega)) (by omega)]; go_simp); have b4s1 : w4.cell? ⟨w1.heap.size, 1, none⟩ = some (.string ⟨#[]⟩) := (by rw [hc _ _ (by first | omega | (simp <;> omega)) (by omega)]; go_simp); have b4z1 : w4.frozen? ⟨w1.heap.size, 1, none⟩ = false := (by rw [hz _ _ (by first | omega | (simp <;> omega)) (by omega)]; go_simp); have b4s2 : w4.cell? ⟨w1.heap.size, 2, none⟩ = some (.int .i64 c) := (by rw [hc _ _ (by first | omega | (simp <;> omega)) (by omega)]; go_simp); have b4z2 : w4.frozen? ⟨w1.heap.size, 2, none⟩ = false := (by rw [hz _ _ (by first | omega | (simp <;> omega)) (by omega)]; go_simp); have b4s3 : w4.cell? ⟨w1.heap.size, 3, none⟩ = some (.string ⟨#[]⟩) := (by rw [hc _ _ (by first | omega | (simp <;> omega)) (by omega)]; go_simp); have b4z3 : w4.frozen? ⟨w1.heap.size, 3, none⟩ = false := (by rw [hz _ _ (by first | omega | (simp <;> omega)) (by omega)]; go_simp); have b4s4 : w4.cell? ⟨w1.heap.size, 4, none⟩ = some (.slice none 0 0) := (by rw [hc _ _ (by first | omega | (simp <;> omega)) (by omega)]; go_simp); have b4z4 : w4.frozen? ⟨w1.heap.size, 4, none⟩ = false := (by rw [hz _ _ (by first | omega | (simp <;> omega)) (by omega)]; go_simp); have b4s5 : w4.cell? ⟨w1.heap.size, 5, none⟩ = some (.slice none 0 0) := (by rw [hc _ _ (by first | omega | (simp <;> omega)) (by omega)]; go_simp); have b4z5 : w4.frozen? ⟨w1.heap.size, 5, none⟩ = false := (by rw [hz _ _ (by first | omega | (simp <;> omega)) (by omega)]; go_simp); clear hc hz; have HS4 : Hid (Rs w4 r v4 q4 ((((o) || no1 s) || no1 c) || no1 t)) := hS4; have G4 : Hid (Fr r w.heap.size w w4) := (ft (fin_w (T := w1.heap.size + 1) hr G3.out (Nat.le_refl _) (by repeat (first | with_reducible exact Bx.refl _ _ | with_reducible refine Bx.setCell ?_ (bt_of (by omega) (by omega)) _ | with_reducible refine Bx.alloc ?_ _ | with_reducible refine Bx.drew ?_))) hF4); clear hS4))
  refine bodyPost_ret (v := .agg #[.int .u8 2, .string ⟨#[]⟩, .int .i64 c, .string ⟨#[]⟩, .slice none 0 0, .slice none 0 0]) (by simp [results, Tryz.results98, go_sem, a4s0, a4s1, a4s2, a4s3, a4s4, a4s5, b4s0, b4s1, b4s2, b4s3, b4s4, b4s5, al4, bl4] <;> rfl) rfl ?_
  refine fin_ans (x := ((⟨2, [], c, [], [], []⟩ : ActD), 0)) (T := w1.heap.size + 1) (rest := q4) hr G4.out ?_ (by rw [HP.out, HQ.out, body_remove, thn_of hx3, thn_of hx4]; rfl) (by first | omega | (simp; omega)) (fun HX => ⟨_, rfl, _, _, rfl, row_nil _ _ _ _, row_nil _ _ _ _⟩) HS4.out (by simp [no1, ovT])
  repeat (first | with_reducible exact Bx.refl _ _ | with_reducible refine Bx.setCell ?_ (bt_of (by omega) (by omega)) _ | with_reducible refine Bx.alloc ?_ _ | with_reducible refine Bx.drew ?_)
end Go.Proofs.YtdcpfnffckkfcaaGreatDoor
namespace Go.Proofs.YtdcpfnffckkfcaaGreatDoor
open Go.RowKit
set_option linter.unusedVariables false
set_option linter.unusedSimpArgs false
set_option maxRecDepth 20000
set_option maxHeartbeats 4000000 in
theorem act_bind (r : Nat) (x : TA) (m : List TA) (s : Str) (qs : List Tk) (v : Value) (o : Bool) (w : World) (h : Rs w r v (x :: m) o) (hl : (x :: m).length ≤ 100000) (hx : x.1.k = 0) (hm : nameR (m.map Prod.fst) = some (s, qs)) (hs : s = sBind) :
    Calls Tryz.prog 98 #[pR r] w (Ans (RAgg RAct) actR ovT r w (x :: m) o) := by
  have hr := h.lt
  have F43 := field43
  have F43a := field43a
  have F43b := field43b
  have HH : Hid (Rs w r v (x :: m) o) := h
  have HL : Hid ((x :: m).length ≤ 100000) := hl
  have HM : Hid (nameR (m.map Prod.fst) = some (s, qs)) := hm
  have HP : Hid (actR ((x :: m).map Prod.fst) = bodyP sBind qs) := by show _ = _; rw [actR_is, thn_of (nxt_at hx), thn_of hm, hs]
  have b0 : ((st s).toList == [109, 97, 107, 101]) = false := (strE s _).trans (by rw [hs]; decide)
  have b1 : ((st s).toList == [109, 111, 100, 105, 102, 121]) = false := (strE s _).trans (by rw [hs]; decide)
  have b2 : ((st s).toList == [114, 101, 109, 111, 118, 101]) = false := (strE s _).trans (by rw [hs]; decide)
  have b3 : ((st s).toList == [98, 105, 110, 100]) = true := (strE s _).trans (by rw [hs]; decide)
  have CT1 := fun W vv hh => take_yes r x (m) vv (o) W hh
  rw [hx] at CT1
  unfold tkA at CT1
  have tok2 : Hid True := trivial
  have tok3 : Hid True := trivial
  have tok4 : Hid True := trivial
  have tok5 : Hid True := trivial
  clear h hl
  clear hx hm hs
  go_enter Tryz.func98, Tryz.ntmps98
  go_wp2_with (first | (go_at_call 62; refine (CT1 _ v (HH.out.below (bxn _ _))).mono ?_; rintro e w1 ⟨rfl, ⟨v1, hS1⟩, hF1⟩; clear CT1; have y1 : w.heap.size + 1 ≤ w1.heap.size := (by have := hF1.size; first | omega | (simp at this; omega)); obtain ⟨hc, hz⟩ := fr_box hF1; have al1 : w.heap.size < w1.heap.size := (by omega); have a1s0 : w1.cell? ⟨w.heap.size, 0, none⟩ = some (.int .u8 0) := (by rw [hc _ _ (by first | omega | (simp <;> omega)) (by omega)]; go_simp); have a1z0 : w1.frozen? ⟨w.heap.size, 0, none⟩ = false := (by rw [hz _ _ (by first | omega | (simp <;> omega)) (by omega)]; go_simp); have a1s1 : w1.cell? ⟨w.heap.size, 1, none⟩ = some (.string ⟨#[]⟩) := (by rw [hc _ _ (by first | omega | (simp <;> omega)) (by omega)]; go_simp); have a1z1 : w1.frozen? ⟨w.heap.size, 1, none⟩ = false := (by rw [hz _ _ (by first | omega | (simp <;> omega)) (by omega)]; go_simp); have a1s2 : w1.cell? ⟨w.heap.size, 2, none⟩ = some (.int .i64 0) := (by rw [hc _ _ (by first | omega | (simp <;> omega)) (by omega)]; go_simp); have a1z2 : w1.frozen? ⟨w.heap.size, 2, none⟩ = false := (by rw [hz _ _ (by first | omega | (simp <;> omega)) (by omega)]; go_simp); have a1s3 : w1.cell? ⟨w.heap.size, 3, none⟩ = some (.string ⟨#[]⟩) := (by rw [hc _ _ (by first | omega | (simp <;> omega)) (by omega)]; go_simp); have a1z3 : w1.frozen? ⟨w.heap.size, 3, none⟩ = false := (by rw [hz _ _ (by first | omega | (simp <;> omega)) (by omega)]; go_simp); have a1s4 : w1.cell? ⟨w.heap.size, 4, none⟩ = some (.slice none 0 0) := (by rw [hc _ _ (by first | omega | (simp <;> omega)) (by omega)]; go_simp); have a1z4 : w1.frozen? ⟨w.heap.size, 4, none⟩ = false := (by rw [hz _ _ (by first | omega | (simp <;> omega)) (by omega)]; go_simp); have a1s5 : w1.cell? ⟨w.heap.size, 5, none⟩ = some (.slice none 0 0) := (by rw [hc _ _ (by first | omega | (simp <;> omega)) (by omega)]; go_simp); have a1z5 : w1.frozen? ⟨w.heap.size, 5, none⟩ = false := (by rw [hz _ _ (by first | omega | (simp <;> omega)) (by omega)]; go_simp); clear hc hz; have HS1 : Hid (Rs w1 r v1 (m) (o)) := hS1; have G1 : Hid (Fr r w.heap.size w w1) := (fb (bxn _ _) hF1); clear hS1) | (go_at_call 63; have tku := tok2; clear tku tok2; refine Ans.use (name_ans r (m) v1 (o) _ (HS1.out.bx (T := w1.heap.size + 1) hr (by repeat (first | with_reducible exact Bx.refl _ _ | with_reducible refine Bx.setCell ?_ (bt_of (by omega) (by omega)) _ | with_reducible refine Bx.alloc ?_ _ | with_reducible refine Bx.drew ?_)))) (fun w' hf hn => ⟨rfl, Ans.no (ft (fin_w (T := w1.heap.size + 1) hr G1.out (Nat.le_refl _) (by repeat (first | with_reducible exact Bx.refl _ _ | with_reducible refine Bx.setCell ?_ (bt_of (by omega) (by omega)) _ | with_reducible refine Bx.alloc ?_ _ | with_reducible refine Bx.drew ?_))) hf) (by rw [HM.out] at hn; cases hn)⟩) ?_; rintro c q2 val2 v2 w2 hF2 hx2 hl2 rfl hS2; obtain ⟨hc, hq⟩ := Prod.mk.inj (Option.some.inj (HM.out.symm.trans hx2)); have HQ : Hid (qs = q2.map Prod.fst) := hq; subst hc; clear hq hx2; have y2 : w1.heap.size + 1 ≤ w2.heap.size := (by have := hF2.size; first | omega | (simp at this; omega)); obtain ⟨hc, hz⟩ := fr_box hF2; have al2 : w.heap.size < w2.heap.size := (by omega); have bl2 : w1.heap.size < w2.heap.size := (by omega); have a2s0 : w2.cell? ⟨w.heap.size, 0, none⟩ = some (.int .u8 0) := (by rw [hc _ _ (by first | omega | (simp <;> omega)) (by omega)]; go_simp); have a2z0 : w2.frozen? ⟨w.heap.size, 0, none⟩ = false := (by rw [hz _ _ (by first | omega | (simp <;> omega)) (by omega)]; go_simp); have a2s1 : w2.cell? ⟨w.heap.size, 1, none⟩ = some (.string ⟨#[]⟩) := (by rw [hc _ _ (by first | omega | (simp <;> omega)) (by omega)]; go_simp); have a2z1 : w2.frozen? ⟨w.heap.size, 1, none⟩ = false := (by rw [hz _ _ (by first | omega | (simp <;> omega)) (by omega)]; go_simp); have a2s2 : w2.cell? ⟨w.heap.size, 2, none⟩ = some (.int .i64 0) := (by rw [hc _ _ (by first | omega | (simp <;> omega)) (by omega)]; go_simp); have a2z2 : w2.frozen? ⟨w.heap.size, 2, none⟩ = false := (by rw [hz _ _ (by first | omega | (simp <;> omega)) (by omega)]; go_simp); have a2s3 : w2.cell? ⟨w.heap.size, 3, none⟩ = some (.string ⟨#[]⟩) := (by rw [hc _ _ (by first | omega | (simp <;> omega)) (by omega)]; go_simp); have a2z3 : w2.frozen? ⟨w.heap.size, 3, none⟩ = false := (by rw [hz _ _ (by first | omega | (simp <;> omega)) (by omega)]; go_simp); have a2s4 : w2.cell? ⟨w.heap.size, 4, none⟩ = some (.slice none 0 0) := (by rw [hc _ _ (by first | omega | (simp <;> omega)) (by omega)]; go_simp); have a2z4 : w2.frozen? ⟨w.heap.size, 4, none⟩ = false := (by rw [hz _ _ (by first | omega | (simp <;> omega)) (by omega)]; go_simp); have a2s5 : w2.cell? ⟨w.heap.size, 5, none⟩ = some (.slice none 0 0) := (by rw [hc _ _ (by first | omega | (simp <;> omega)) (by omega)]; go_simp); have a2z5 : w2.frozen? ⟨w.heap.size, 5, none⟩ = false := (by rw [hz _ _ (by first | omega | (simp <;> omega)) (by omega)]; go_simp); have b2s0 : w2.cell? ⟨w1.heap.size, 0, none⟩ = some (.int .u8 0) := (by rw [hc _ _ (by first | omega | (simp <;> omega)) (by omega)]; go_simp); have b2z0 : w2.frozen? ⟨w1.heap.size, 0, none⟩ = false := (by rw [hz _ _ (by first | omega | (simp <;> omega)) (by omega)]; go_simp); have b2s1 : w2.cell? ⟨w1.heap.size, 1, none⟩ = some (.string ⟨#[]⟩) := (by rw [hc _ _ (by first | omega | (simp <;> omega)) (by omega)]; go_simp); have b2z1 : w2.frozen? ⟨w1.heap.size, 1, none⟩ = false := (by rw [hz _ _ (by first | omega | (simp <;> omega)) (by omega)]; go_simp); have b2s2 : w2.cell? ⟨w1.heap.size, 2, none⟩ = some (.int .i64 0) := (by rw [hc _ _ (by first | omega | (simp <;> omega)) (by omega)]; go_simp); have b2z2 : w2.frozen? ⟨w1.heap.size, 2, none⟩ = false := (by rw [hz _ _ (by first | omega | (simp <;> omega)) (by omega)]; go_simp); have b2s3 : w2.cell? ⟨w1.heap.size, 3, none⟩ = some (.string ⟨#[]⟩) := (by rw [hc _ _ (by first | omega | (simp <;> omega)) (by omega)]; go_simp); have b2z3 : w2.frozen? ⟨w1.heap.size, 3, none⟩ = false := (by rw [hz _ _ (by first | omega | (simp <;> omega)) (by omega)]; go_simp); have b2s4 : w2.cell? ⟨w1.heap.size, 4, none⟩ = some (.slice none 0 0) := (by rw [hc _ _ (by first | omega | (simp <;> omega)) (by omega)]; go_simp); have b2z4 : w2.frozen? ⟨w1.heap.size, 4, none⟩ = false := (by rw [hz _ _ (by first | omega | (simp <;> omega)) (by omega)]; go_simp); have b2s5 : w2.cell? ⟨w1.heap.size, 5, none⟩ = some (.slice none 0 0) := (by rw [hc _ _ (by first | omega | (simp <;> omega)) (by omega)]; go_simp); have b2z5 : w2.frozen? ⟨w1.heap.size, 5, none⟩ = false := (by rw [hz _ _ (by first | omega | (simp <;> omega)) (by omega)]; go_simp); clear hc hz; have HS2 : Hid (Rs w2 r v2 q2 ((o) || no1 s)) := hS2; have G2 : Hid (Fr r w.heap.size w w2) := (ft (fin_w (T := w1.heap.size + 1) hr G1.out (Nat.le_refl _) (by repeat (first | with_reducible exact Bx.refl _ _ | with_reducible refine Bx.setCell ?_ (bt_of (by omega) (by omega)) _ | with_reducible refine Bx.alloc ?_ _ | with_reducible refine Bx.drew ?_))) hF2); clear hS2) | (go_at_call 62; have tku := tok3; clear tku tok3; refine Ans.use (take_ans r 9 (q2) v2 ((o) || no1 s) _ (HS2.out.bx (T := w1.heap.size + 1) hr (by repeat (first | with_reducible exact Bx.refl _ _ | with_reducible refine Bx.setCell ?_ (bt_of (by omega) (by omega)) _ | with_reducible refine Bx.alloc ?_ _ | with_reducible refine Bx.drew ?_)))) (fun w' hf hn => ⟨rfl, Ans.no (ft (fin_w (T := w1.heap.size + 1) hr G2.out (Nat.le_refl _) (by repeat (first | with_reducible exact Bx.refl _ _ | with_reducible refine Bx.setCell ?_ (bt_of (by omega) (by omega)) _ | with_reducible refine Bx.alloc ?_ _ | with_reducible refine Bx.drew ?_))) hf) (by rw [HP.out, HQ.out, body_bind, thn_none hn])⟩) ?_; rintro t q3 val3 v3 w3 hF3 hx3 hl3 ⟨p, rfl⟩ hS3; have y3 : w2.heap.size ≤ w3.heap.size := (by have := hF3.size; first | omega | (simp at this; omega)); obtain ⟨hc, hz⟩ := fr_box hF3; have al3 : w.heap.size < w3.heap.size := (by omega); have bl3 : w1.heap.size < w3.heap.size := (by omega); have a3s0 : w3.cell? ⟨w.heap.size, 0, none⟩ = some (.int .u8 0) := (by rw [hc _ _ (by first | omega | (simp <;> omega)) (by omega)]; go_simp); have a3z0 : w3.frozen? ⟨w.heap.size, 0, none⟩ = false := (by rw [hz _ _ (by first | omega | (simp <;> omega)) (by omega)]; go_simp); have a3s1 : w3.cell? ⟨w.heap.size, 1, none⟩ = some (.string ⟨#[]⟩) := (by rw [hc _ _ (by first | omega | (simp <;> omega)) (by omega)]; go_simp); have a3z1 : w3.frozen? ⟨w.heap.size, 1, none⟩ = false := (by rw [hz _ _ (by first | omega | (simp <;> omega)) (by omega)]; go_simp); have a3s2 : w3.cell? ⟨w.heap.size, 2, none⟩ = some (.int .i64 0) := (by rw [hc _ _ (by first | omega | (simp <;> omega)) (by omega)]; go_simp); have a3z2 : w3.frozen? ⟨w.heap.size, 2, none⟩ = false := (by rw [hz _ _ (by first | omega | (simp <;> omega)) (by omega)]; go_simp); have a3s3 : w3.cell? ⟨w.heap.size, 3, none⟩ = some (.string ⟨#[]⟩) := (by rw [hc _ _ (by first | omega | (simp <;> omega)) (by omega)]; go_simp); have a3z3 : w3.frozen? ⟨w.heap.size, 3, none⟩ = false := (by rw [hz _ _ (by first | omega | (simp <;> omega)) (by omega)]; go_simp); have a3s4 : w3.cell? ⟨w.heap.size, 4, none⟩ = some (.slice none 0 0) := (by rw [hc _ _ (by first | omega | (simp <;> omega)) (by omega)]; go_simp); have a3z4 : w3.frozen? ⟨w.heap.size, 4, none⟩ = false := (by rw [hz _ _ (by first | omega | (simp <;> omega)) (by omega)]; go_simp); have a3s5 : w3.cell? ⟨w.heap.size, 5, none⟩ = some (.slice none 0 0) := (by rw [hc _ _ (by first | omega | (simp <;> omega)) (by omega)]; go_simp); have a3z5 : w3.frozen? ⟨w.heap.size, 5, none⟩ = false := (by rw [hz _ _ (by first | omega | (simp <;> omega)) (by omega)]; go_simp); have b3s0 : w3.cell? ⟨w1.heap.size, 0, none⟩ = some (.int .u8 0) := (by rw [hc _ _ (by first | omega | (simp <;> omega)) (by omega)]; go_simp); have b3z0 : w3.frozen? ⟨w1.heap.size, 0, none⟩ = false := (by rw [hz _ _ (by first | omega | (simp <;> omega)) (by omega)]; go_simp); have b3s1 : w3.cell? ⟨w1.heap.size, 1, none⟩ = some (.string ⟨#[]⟩) := (by rw [hc _ _ (by first | omega | (simp <;> omega)) (by omega)]; go_simp); have b3z1 : w3.frozen? ⟨w1.heap.size, 1, none⟩ = false := (by rw [hz _ _ (by first | omega | (simp <;> omega)) (by omega)]; go_simp); have b3s2 : w3.cell? ⟨w1.heap.size, 2, none⟩ = some (.int .i64 0) := (by rw [hc _ _ (by first | omega | (simp <;> omega)) (by omega)]; go_simp); have b3z2 : w3.frozen? ⟨w1.heap.size, 2, none⟩ = false := (by rw [hz _ _ (by first | omega | (simp <;> omega)) (by omega)]; go_simp); have b3s3 : w3.cell? ⟨w1.heap.size, 3, none⟩ = some (.string ⟨#[]⟩) := (by rw [hc _ _ (by first | omega | (simp <;> omega)) (by omega)]; go_simp); have b3z3 : w3.frozen? ⟨w1.heap.size, 3, none⟩ = false := (by rw [hz _ _ (by first | omega | (simp <;> omega)) (by omega)]; go_simp); have b3s4 : w3.cell? ⟨w1.heap.size, 4, none⟩ = some (.slice none 0 0) := (by rw [hc _ _ (by first | omega | (simp <;> omega)) (by omega)]; go_simp); have b3z4 : w3.frozen? ⟨w1.heap.size, 4, none⟩ = false := (by rw [hz _ _ (by first | omega | (simp <;> omega)) (by omega)]; go_simp); have b3s5 : w3.cell? ⟨w1.heap.size, 5, none⟩ = some (.slice none 0 0) := (by rw [hc _ _ (by first | omega | (simp <;> omega)) (by omega)]; go_simp); have b3z5 : w3.frozen? ⟨w1.heap.size, 5, none⟩ = false := (by rw [hz _ _ (by first | omega | (simp <;> omega)) (by omega)]; go_simp); clear hc hz; have HS3 : Hid (Rs w3 r v3 q3 (((o) || no1 s) || no1 t)) := hS3; have G3 : Hid (Fr r w.heap.size w w3) := (ft (fin_w (T := w1.heap.size + 1) hr G2.out (Nat.le_refl _) (by repeat (first | with_reducible exact Bx.refl _ _ | with_reducible refine Bx.setCell ?_ (bt_of (by omega) (by omega)) _ | with_reducible refine Bx.alloc ?_ _ | with_reducible refine Bx.drew ?_))) hF3); clear hS3) | (go_at_call 124; have tku := tok4; clear tku tok4; refine Ans.use (expr_ans r (q3) v3 (((o) || no1 s) || no1 t) _ (HS3.out.bx (T := w1.heap.size + 1) hr (by repeat (first | with_reducible exact Bx.refl _ _ | with_reducible refine Bx.setCell ?_ (bt_of (by omega) (by omega)) _ | with_reducible refine Bx.alloc ?_ _ | with_reducible refine Bx.drew ?_))) (by have := HL.out; first | omega | (simp at this; omega))) (fun w' hf hn => ⟨rfl, Ans.no (ft (fin_w (T := w1.heap.size + 1) hr G3.out (Nat.le_refl _) (by repeat (first | with_reducible exact Bx.refl _ _ | with_reducible refine Bx.setCell ?_ (bt_of (by omega) (by omega)) _ | with_reducible refine Bx.alloc ?_ _ | with_reducible refine Bx.drew ?_))) hf) (by rw [HP.out, HQ.out, body_bind, thn_of hx3, thn_none hn])⟩) ?_; rintro x2 q4 val4 v4 w4 hF4 hx4 hl4 hR hS4; obtain ⟨ba4, hbE, hba⟩ : ∃ ba, ba = _ ∧ RExpr w4 ba [val4] x2 := ⟨_, rfl, hR⟩; have E4 : Hid (RExpr w4 ba4 [val4] x2) := hba; have yb4 : w3.heap.size ≤ ba4 := (by rw [hbE]; first | omega | (simp <;> omega)); have hR' := hR; obtain ⟨va, hcs, h1⟩ := hR'; obtain ⟨a4, n4, c4, e1⟩ := h1.like; have hv : val4 = va := (List.cons.inj hcs).1; subst e1; subst hv; clear hR h1 hcs hba hbE; have y4 : w3.heap.size ≤ w4.heap.size := (by have := hF4.size; first | omega | (simp at this; omega)); obtain ⟨hc, hz⟩ := fr_box hF4; have al4 : w.heap.size < w4.heap.size := (by omega); have bl4 : w1.heap.size < w4.heap.size := (by omega); have a4s0 : w4.cell? ⟨w.heap.size, 0, none⟩ = some (.int .u8 0) := (by rw [hc _ _ (by first | omega | (simp <;> omega)) (by omega)]; go_simp); have a4z0 : w4.frozen? ⟨w.heap.size, 0, none⟩ = false := (by rw [hz _ _ (by first | omega | (simp <;> omega)) (by omega)]; go_simp); have a4s1 : w4.cell? ⟨w.heap.size, 1, none⟩ = some (.string ⟨#[]⟩) := (by rw [hc _ _ (by first | omega | (simp <;> omega)) (by omega)]; go_simp); have a4z1 : w4.frozen? ⟨w.heap.size, 1, none⟩ = false := (by rw [hz _ _ (by first | omega | (simp <;> omega)) (by omega)]; go_simp); have a4s2 : w4.cell? ⟨w.heap.size, 2, none⟩ = some (.int .i64 0) := (by rw [hc _ _ (by first | omega | (simp <;> omega)) (by omega)]; go_simp); have a4z2 : w4.frozen? ⟨w.heap.size, 2, none⟩ = false := (by rw [hz _ _ (by first | omega | (simp <;> omega)) (by omega)]; go_simp); have a4s3 : w4.cell? ⟨w.heap.size, 3, none⟩ = some (.string ⟨#[]⟩) := (by rw [hc _ _ (by first | omega | (simp <;> omega)) (by omega)]; go_simp); have a4z3 : w4.frozen? ⟨w.heap.size, 3, none⟩ = false := (by rw [hz _ _ (by first | omega | (simp <;> omega)) (by omega)]; go_simp); have a4s4 : w4.cell? ⟨w.heap.size, 4, none⟩ = some (.slice none 0 0) := (by rw [hc _ _ (by first | omega | (simp <;> omega)) (by omega)]; go_simp); have a4z4 : w4.frozen? ⟨w.heap.size, 4, none⟩ = false := (by rw [hz _ _ (by first | omega | (simp <;> omega)) (by omega)]; go_simp); have a4s5 : w4.cell? ⟨w.heap.size, 5, none⟩ = some (.slice none 0 0) := (by rw [hc _ _ (by first | omega | (simp <;> omega)) (by omega)]; go_simp); have a4z5 : w4.frozen? ⟨w.heap.size, 5, none⟩ = false := (by rw [hz _ _ (by first | omega | (simp <;> omega)) (by omega)]; go_simp); have b4s0 : w4.cell? ⟨w1.heap.size, 0, none⟩ = some (.int .u8 3) := (by rw [hc _ _ (by first | omega | (simp <;> omega)) (by omega)]; go_simp); have b4z0 : w4.frozen? ⟨w1.heap.size, 0, none⟩ = false := (by rw [hz _ _ (by first | omega | (simp <;> omega)) (by omega)]; go_simp); have b4s1 : w4.cell? ⟨w1.heap.size, 1, none⟩ = some (.string ⟨#[]⟩) := (by rw [hc _ _ (by first | omega | (simp <;> omega)) (by omega)]; go_simp); have b4z1 : w4.frozen? ⟨w1.heap.size, 1, none⟩ = false := (by rw [hz _ _ (by first | omega | (simp <;> omega)) (by omega)]; go_simp); have b4s2 : w4.cell? ⟨w1.heap.size, 2, none⟩ = some (.int .i64 0) := (by rw [hc _ _ (by first | omega | (simp <;> omega)) (by omega)]; go_simp); have b4z2 : w4.frozen? ⟨w1.heap.size, 2, none⟩ = false := (by rw [hz _ _ (by first | omega | (simp <;> omega)) (by omega)]; go_simp); have b4s3 : w4.cell? ⟨w1.heap.size, 3, none⟩ = some (.string (st t.nm)) := (by rw [hc _ _ (by first | omega | (simp <;> omega)) (by omega)]; go_simp); have b4z3 : w4.frozen? ⟨w1.heap.size, 3, none⟩ = false := (by rw [hz _ _ (by first | omega | (simp <;> omega)) (by omega)]; go_simp); have b4s4 : w4.cell? ⟨w1.heap.size, 4, none⟩ = some (.slice none 0 0) := (by rw [hc _ _ (by first | omega | (simp <;> omega)) (by omega)]; go_simp); have b4z4 : w4.frozen? ⟨w1.heap.size, 4, none⟩ = false := (by rw [hz _ _ (by first | omega | (simp <;> omega)) (by omega)]; go_simp); have b4s5 : w4.cell? ⟨w1.heap.size, 5, none⟩ = some (.slice none 0 0) := (by rw [hc _ _ (by first | omega | (simp <;> omega)) (by omega)]; go_simp); have b4z5 : w4.frozen? ⟨w1.heap.size, 5, none⟩ = false := (by rw [hz _ _ (by first | omega | (simp <;> omega)) (by omega)]; go_simp); clear hc hz; have HS4 : Hid (Rs w4 r v4 q4 ((((o) || no1 s) || no1 t) || ovN x2)) := hS4; have G4 : Hid (Fr r w.heap.size w w4) := (ft (fin_w (T := w1.heap.size + 1) hr G3.out (Nat.le_refl _) (by repeat (first | with_reducible exact Bx.refl _ _ | with_reducible refine Bx.setCell ?_ (bt_of (by omega) (by omega)) _ | with_reducible refine Bx.alloc ?_ _ | with_reducible refine Bx.drew ?_))) hF4); clear hS4) | (go_at_call 62; have tku := tok5; clear tku tok5; refine Ans.use (take_ans r 1 (q4) v4 ((((o) || no1 s) || no1 t) || ovN x2) _ (HS4.out.bx (T := w1.heap.size + 1) hr (by repeat (first | with_reducible exact Bx.refl _ _ | with_reducible refine Bx.setCell ?_ (bt_of (by omega) (by omega)) _ | with_reducible refine Bx.alloc ?_ _ | with_reducible refine Bx.drew ?_)))) (fun w' hf hn => ⟨rfl, Ans.no (ft (fin_w (T := w1.heap.size + 1) hr G4.out (Nat.le_refl _) (by repeat (first | with_reducible exact Bx.refl _ _ | with_reducible refine Bx.setCell ?_ (bt_of (by omega) (by omega)) _ | with_reducible refine Bx.alloc ?_ _ | with_reducible refine Bx.drew ?_))) hf) (by rw [HP.out, HQ.out, body_bind, thn_of hx3, thn_of hx4, thn_none hn])⟩) ?_; rintro t2 q5 val5 v5 w5 hF5 hx5 hl5 ⟨p, rfl⟩ hS5; have R5_5 : Hid (RowP 6 1 RExpr w5 (w1.heap.size + 1) (.slice (some ⟨w4.heap.size, 0, none⟩) 1 1) [x2]) := RowP.fr part_expr (rowP_lit2 (base := w1.heap.size + 1) part_expr (x := x2) (c := [.slice a4 n4 c4]) (by simp [set_size]) (part_expr.low (part_expr.bx (B := w.heap.size) (T := w1.heap.size + 1) E4.out (by repeat (first | with_reducible exact Bx.refl _ _ | with_reducible refine Bx.setCell ?_ (bt_of (by omega) (by omega)) _ | with_reducible refine Bx.alloc ?_ _ | with_reducible refine Bx.drew ?_)) (by omega)) (by omega)) (by omega)) (by omega) hF5; have y5 : w4.heap.size + 1 ≤ w5.heap.size := (by have := hF5.size; first | omega | (simp at this; omega)); obtain ⟨hc, hz⟩ := fr_box hF5; have al5 : w.heap.size < w5.heap.size := (by omega); have bl5 : w1.heap.size < w5.heap.size := (by omega); have a5s0 : w5.cell? ⟨w.heap.size, 0, none⟩ = some (.int .u8 0) := (by rw [hc _ _ (by first | omega | (simp <;> omega)) (by omega)]; go_simp); have a5z0 : w5.frozen? ⟨w.heap.size, 0, none⟩ = false := (by rw [hz _ _ (by first | omega | (simp <;> omega)) (by omega)]; go_simp); have a5s1 : w5.cell? ⟨w.heap.size, 1, none⟩ = some (.string ⟨#[]⟩) := (by rw [hc _ _ (by first | omega | (simp <;> omega)) (by omega)]; go_simp); have a5z1 : w5.frozen? ⟨w.heap.size, 1, none⟩ = false := (by rw [hz _ _ (by first | omega | (simp <;> omega)) (by omega)]; go_simp); have a5s2 : w5.cell? ⟨w.heap.size, 2, none⟩ = some (.int .i64 0) := (by rw [hc _ _ (by first | omega | (simp <;> omega)) (by omega)]; go_simp); have a5z2 : w5.frozen? ⟨w.heap.size, 2, none⟩ = false := (by rw [hz _ _ (by first | omega | (simp <;> omega)) (by omega)]; go_simp); have a5s3 : w5.cell? ⟨w.heap.size, 3, none⟩ = some (.string ⟨#[]⟩) := (by rw [hc _ _ (by first | omega | (simp <;> omega)) (by omega)]; go_simp); have a5z3 : w5.frozen? ⟨w.heap.size, 3, none⟩ = false := (by rw [hz _ _ (by first | omega | (simp <;> omega)) (by omega)]; go_simp); have a5s4 : w5.cell? ⟨w.heap.size, 4, none⟩ = some (.slice none 0 0) := (by rw [hc _ _ (by first | omega | (simp <;> omega)) (by omega)]; go_simp); have a5z4 : w5.frozen? ⟨w.heap.size, 4, none⟩ = false := (by rw [hz _ _ (by first | omega | (simp <;> omega)) (by omega)]; go_simp); have a5s5 : w5.cell? ⟨w.heap.size, 5, none⟩ = some (.slice none 0 0) := (by rw [hc _ _ (by first | omega | (simp <;> omega)) (by omega)]; go_simp); have a5z5 : w5.frozen? ⟨w.heap.size, 5, none⟩ = false := (by rw [hz _ _ (by first | omega | (simp <;> omega)) (by omega)]; go_simp); have b5s0 : w5.cell? ⟨w1.heap.size, 0, none⟩ = some (.int .u8 3) := (by rw [hc _ _ (by first | omega | (simp <;> omega)) (by omega)]; go_simp); have b5z0 : w5.frozen? ⟨w1.heap.size, 0, none⟩ = false := (by rw [hz _ _ (by first | omega | (simp <;> omega)) (by omega)]; go_simp); have b5s1 : w5.cell? ⟨w1.heap.size, 1, none⟩ = some (.string ⟨#[]⟩) := (by rw [hc _ _ (by first | omega | (simp <;> omega)) (by omega)]; go_simp); have b5z1 : w5.frozen? ⟨w1.heap.size, 1, none⟩ = false := (by rw [hz _ _ (by first | omega | (simp <;> omega)) (by omega)]; go_simp); have b5s2 : w5.cell? ⟨w1.heap.size, 2, none⟩ = some (.int .i64 0) := (by rw [hc _ _ (by first | omega | (simp <;> omega)) (by omega)]; go_simp); have b5z2 : w5.frozen? ⟨w1.heap.size, 2, none⟩ = false := (by rw [hz _ _ (by first | omega | (simp <;> omega)) (by omega)]; go_simp); have b5s3 : w5.cell? ⟨w1.heap.size, 3, none⟩ = some (.string (st t.nm)) := (by rw [hc _ _ (by first | omega | (simp <;> omega)) (by omega)]; go_simp); have b5z3 : w5.frozen? ⟨w1.heap.size, 3, none⟩ = false := (by rw [hz _ _ (by first | omega | (simp <;> omega)) (by omega)]; go_simp); have b5s4 : w5.cell? ⟨w1.heap.size, 4, none⟩ = some (.slice none 0 0) := (by rw [hc _ _ (by first | omega | (simp <;> omega)) (by omega)]; go_simp); have b5z4 : w5.frozen? ⟨w1.heap.size, 4, none⟩ = false := (by rw [hz _ _ (by first | omega | (simp <;> omega)) (by omega)]; go_simp); have b5s5 : w5.cell? ⟨w1.heap.size, 5, none⟩ = some (.slice (some ⟨w4.heap.size, 0, none⟩) 1 1) := (by rw [hc _ _ (by first | omega | (simp <;> omega)) (by omega)]; go_simp); have b5z5 : w5.frozen? ⟨w1.heap.size, 5, none⟩ = false := (by rw [hz _ _ (by first | omega | (simp <;> omega)) (by omega)]; go_simp); clear hc hz; have HS5 : Hid (Rs w5 r v5 q5 (((((o) || no1 s) || no1 t) || ovN x2) || no1 t2)) := hS5; have G5 : Hid (Fr r w.heap.size w w5) := (ft (fin_w (T := w1.heap.size + 1) hr G4.out (Nat.le_refl _) (by repeat (first | with_reducible exact Bx.refl _ _ | with_reducible refine Bx.setCell ?_ (bt_of (by omega) (by omega)) _ | with_reducible refine Bx.alloc ?_ _ | with_reducible refine Bx.drew ?_))) hF5); clear hS5))
  refine bodyPost_ret (v := .agg #[.int .u8 3, .string ⟨#[]⟩, .int .i64 0, .string (st t.nm), .slice none 0 0, .slice (some ⟨w4.heap.size, 0, none⟩) 1 1]) (by simp [results, Tryz.results98, go_sem, a5s0, a5s1, a5s2, a5s3, a5s4, a5s5, b5s0, b5s1, b5s2, b5s3, b5s4, b5s5, al5, bl5] <;> rfl) rfl ?_
  refine fin_ans (x := ((⟨3, [], 0, t.nm, [], [x2.1]⟩ : ActD), x2.2)) (T := w1.heap.size + 1) (rest := q5) hr G5.out ?_ (by rw [HP.out, HQ.out, body_bind, thn_of hx3, thn_of hx4, thn_of hx5]; rfl) (by first | omega | (simp; omega)) (fun HX => ⟨_, rfl, _, _, rfl, row_nil _ _ _ _, row_expr (xs := [x2]) (by decide) (RowP.bx part_expr R5_5.out HX (by omega)) (by omega)⟩) HS5.out (by simp [no1, ovT, ovN])
  repeat (first | with_reducible exact Bx.refl _ _ | with_reducible refine Bx.setCell ?_ (bt_of (by omega) (by omega)) _ | with_reducible refine Bx.alloc ?_ _ | with_reducible refine Bx.drew ?_)
set_option maxHeartbeats 4000000 in
theorem act_write (r : Nat) (x : TA) (m : List TA) (s : Str) (qs : List Tk) (v : Value) (o : Bool) (w : World) (h : Rs w r v (x :: m) o) (hl : (x :: m).length ≤ 100000) (hx : x.1.k = 0) (hm : nameR (m.map Prod.fst) = some (s, qs)) (hs : s = sWrite) :
    Calls Tryz.prog 98 #[pR r] w (Ans (RAgg RAct) actR ovT r w (x :: m) o) := by
  have hr := h.lt
  have F43 := field43
  have F43a := field43a
  have F43b := field43b
  have HH : Hid (Rs w r v (x :: m) o) := h
  have HL : Hid ((x :: m).length ≤ 100000) := hl
  have HM : Hid (nameR (m.map Prod.fst) = some (s, qs)) := hm
  have HP : Hid (actR ((x :: m).map Prod.fst) = bodyP sWrite qs) := by show _ = _; rw [actR_is, thn_of (nxt_at hx), thn_of hm, hs]
  have b0 : ((st s).toList == [109, 97, 107, 101]) = false := (strE s _).trans (by rw [hs]; decide)
  have b1 : ((st s).toList == [109, 111, 100, 105, 102, 121]) = false := (strE s _).trans (by rw [hs]; decide)
  have b2 : ((st s).toList == [114, 101, 109, 111, 118, 101]) = false := (strE s _).trans (by rw [hs]; decide)
  have b3 : ((st s).toList == [98, 105, 110, 100]) = false := (strE s _).trans (by rw [hs]; decide)
  have b4 : ((st s).toList == [119, 114, 105, 116, 101]) = true := (strE s _).trans (by rw [hs]; decide)
  have CT1 := fun W vv hh => take_yes r x (m) vv (o) W hh
  rw [hx] at CT1
  unfold tkA at CT1
  have tok2 : Hid True := trivial
  have tok3 : Hid True := trivial
  clear h hl
  clear hx hm hs
  go_enter Tryz.func98, Tryz.ntmps98
  go_wp2_with (first | (go_at_call 62; refine (CT1 _ v (HH.out.below (bxn _ _))).mono ?_; rintro e w1 ⟨rfl, ⟨v1, hS1⟩, hF1⟩; clear CT1; have y1 : w.heap.size + 1 ≤ w1.heap.size := (by have := hF1.size; first | omega | (simp at this; omega)); obtain ⟨hc, hz⟩ := fr_box hF1; have al1 : w.heap.size < w1.heap.size := (by omega); have a1s0 : w1.cell? ⟨w.heap.size, 0, none⟩ = some (.int .u8 0) := (by rw [hc _ _ (by first | omega | (simp <;> omega)) (by omega)]; go_simp); have a1z0 : w1.frozen? ⟨w.heap.size, 0, none⟩ = false := (by rw [hz _ _ (by first | omega | (simp <;> omega)) (by omega)]; go_simp); have a1s1 : w1.cell? ⟨w.heap.size, 1, none⟩ = some (.string ⟨#[]⟩) := (by rw [hc _ _ (by first | omega | (simp <;> omega)) (by omega)]; go_simp); have a1z1 : w1.frozen? ⟨w.heap.size, 1, none⟩ = false := (by rw [hz _ _ (by first | omega | (simp <;> omega)) (by omega)]; go_simp); have a1s2 : w1.cell? ⟨w.heap.size, 2, none⟩ = some (.int .i64 0) := (by rw [hc _ _ (by first | omega | (simp <;> omega)) (by omega)]; go_simp); have a1z2 : w1.frozen? ⟨w.heap.size, 2, none⟩ = false := (by rw [hz _ _ (by first | omega | (simp <;> omega)) (by omega)]; go_simp); have a1s3 : w1.cell? ⟨w.heap.size, 3, none⟩ = some (.string ⟨#[]⟩) := (by rw [hc _ _ (by first | omega | (simp <;> omega)) (by omega)]; go_simp); have a1z3 : w1.frozen? ⟨w.heap.size, 3, none⟩ = false := (by rw [hz _ _ (by first | omega | (simp <;> omega)) (by omega)]; go_simp); have a1s4 : w1.cell? ⟨w.heap.size, 4, none⟩ = some (.slice none 0 0) := (by rw [hc _ _ (by first | omega | (simp <;> omega)) (by omega)]; go_simp); have a1z4 : w1.frozen? ⟨w.heap.size, 4, none⟩ = false := (by rw [hz _ _ (by first | omega | (simp <;> omega)) (by omega)]; go_simp); have a1s5 : w1.cell? ⟨w.heap.size, 5, none⟩ = some (.slice none 0 0) := (by rw [hc _ _ (by first | omega | (simp <;> omega)) (by omega)]; go_simp); have a1z5 : w1.frozen? ⟨w.heap.size, 5, none⟩ = false := (by rw [hz _ _ (by first | omega | (simp <;> omega)) (by omega)]; go_simp); clear hc hz; have HS1 : Hid (Rs w1 r v1 (m) (o)) := hS1; have G1 : Hid (Fr r w.heap.size w w1) := (fb (bxn _ _) hF1); clear hS1) | (go_at_call 63; have tku := tok2; clear tku tok2; refine Ans.use (name_ans r (m) v1 (o) _ (HS1.out.bx (T := w1.heap.size + 1) hr (by repeat (first | with_reducible exact Bx.refl _ _ | with_reducible refine Bx.setCell ?_ (bt_of (by omega) (by omega)) _ | with_reducible refine Bx.alloc ?_ _ | with_reducible refine Bx.drew ?_)))) (fun w' hf hn => ⟨rfl, Ans.no (ft (fin_w (T := w1.heap.size + 1) hr G1.out (Nat.le_refl _) (by repeat (first | with_reducible exact Bx.refl _ _ | with_reducible refine Bx.setCell ?_ (bt_of (by omega) (by omega)) _ | with_reducible refine Bx.alloc ?_ _ | with_reducible refine Bx.drew ?_))) hf) (by rw [HM.out] at hn; cases hn)⟩) ?_; rintro c q2 val2 v2 w2 hF2 hx2 hl2 rfl hS2; obtain ⟨hc, hq⟩ := Prod.mk.inj (Option.some.inj (HM.out.symm.trans hx2)); have HQ : Hid (qs = q2.map Prod.fst) := hq; subst hc; clear hq hx2; have y2 : w1.heap.size + 1 ≤ w2.heap.size := (by have := hF2.size; first | omega | (simp at this; omega)); obtain ⟨hc, hz⟩ := fr_box hF2; have al2 : w.heap.size < w2.heap.size := (by omega); have bl2 : w1.heap.size < w2.heap.size := (by omega); have a2s0 : w2.cell? ⟨w.heap.size, 0, none⟩ = some (.int .u8 0) := (by rw [hc _ _ (by first | omega | (simp <;> omega)) (by omega)]; go_simp); have a2z0 : w2.frozen? ⟨w.heap.size, 0, none⟩ = false := (by rw [hz _ _ (by first | omega | (simp <;> omega)) (by omega)]; go_simp); have a2s1 : w2.cell? ⟨w.heap.size, 1, none⟩ = some (.string ⟨#[]⟩) := (by rw [hc _ _ (by first | omega | (simp <;> omega)) (by omega)]; go_simp); have a2z1 : w2.frozen? ⟨w.heap.size, 1, none⟩ = false := (by rw [hz _ _ (by first | omega | (simp <;> omega)) (by omega)]; go_simp); have a2s2 : w2.cell? ⟨w.heap.size, 2, none⟩ = some (.int .i64 0) := (by rw [hc _ _ (by first | omega | (simp <;> omega)) (by omega)]; go_simp); have a2z2 : w2.frozen? ⟨w.heap.size, 2, none⟩ = false := (by rw [hz _ _ (by first | omega | (simp <;> omega)) (by omega)]; go_simp); have a2s3 : w2.cell? ⟨w.heap.size, 3, none⟩ = some (.string ⟨#[]⟩) := (by rw [hc _ _ (by first | omega | (simp <;> omega)) (by omega)]; go_simp); have a2z3 : w2.frozen? ⟨w.heap.size, 3, none⟩ = false := (by rw [hz _ _ (by first | omega | (simp <;> omega)) (by omega)]; go_simp); have a2s4 : w2.cell? ⟨w.heap.size, 4, none⟩ = some (.slice none 0 0) := (by rw [hc _ _ (by first | omega | (simp <;> omega)) (by omega)]; go_simp); have a2z4 : w2.frozen? ⟨w.heap.size, 4, none⟩ = false := (by rw [hz _ _ (by first | omega | (simp <;> omega)) (by omega)]; go_simp); have a2s5 : w2.cell? ⟨w.heap.size, 5, none⟩ = some (.slice none 0 0) := (by rw [hc _ _ (by first | omega | (simp <;> omega)) (by omega)]; go_simp); have a2z5 : w2.frozen? ⟨w.heap.size, 5, none⟩ = false := (by rw [hz _ _ (by first | omega | (simp <;> omega)) (by omega)]; go_simp); have b2s0 : w2.cell? ⟨w1.heap.size, 0, none⟩ = some (.int .u8 0) := (by rw [hc _ _ (by first | omega | (simp <;> omega)) (by omega)]; go_simp); have b2z0 : w2.frozen? ⟨w1.heap.size, 0, none⟩ = false := (by rw [hz _ _ (by first | omega | (simp <;> omega)) (by omega)]; go_simp); have b2s1 : w2.cell? ⟨w1.heap.size, 1, none⟩ = some (.string ⟨#[]⟩) := (by rw [hc _ _ (by first | omega | (simp <;> omega)) (by omega)]; go_simp); have b2z1 : w2.frozen? ⟨w1.heap.size, 1, none⟩ = false := (by rw [hz _ _ (by first | omega | (simp <;> omega)) (by omega)]; go_simp); have b2s2 : w2.cell? ⟨w1.heap.size, 2, none⟩ = some (.int .i64 0) := (by rw [hc _ _ (by first | omega | (simp <;> omega)) (by omega)]; go_simp); have b2z2 : w2.frozen? ⟨w1.heap.size, 2, none⟩ = false := (by rw [hz _ _ (by first | omega | (simp <;> omega)) (by omega)]; go_simp); have b2s3 : w2.cell? ⟨w1.heap.size, 3, none⟩ = some (.string ⟨#[]⟩) := (by rw [hc _ _ (by first | omega | (simp <;> omega)) (by omega)]; go_simp); have b2z3 : w2.frozen? ⟨w1.heap.size, 3, none⟩ = false := (by rw [hz _ _ (by first | omega | (simp <;> omega)) (by omega)]; go_simp); have b2s4 : w2.cell? ⟨w1.heap.size, 4, none⟩ = some (.slice none 0 0) := (by rw [hc _ _ (by first | omega | (simp <;> omega)) (by omega)]; go_simp); have b2z4 : w2.frozen? ⟨w1.heap.size, 4, none⟩ = false := (by rw [hz _ _ (by first | omega | (simp <;> omega)) (by omega)]; go_simp); have b2s5 : w2.cell? ⟨w1.heap.size, 5, none⟩ = some (.slice none 0 0) := (by rw [hc _ _ (by first | omega | (simp <;> omega)) (by omega)]; go_simp); have b2z5 : w2.frozen? ⟨w1.heap.size, 5, none⟩ = false := (by rw [hz _ _ (by first | omega | (simp <;> omega)) (by omega)]; go_simp); clear hc hz; have HS2 : Hid (Rs w2 r v2 q2 ((o) || no1 s)) := hS2; have G2 : Hid (Fr r w.heap.size w w2) := (ft (fin_w (T := w1.heap.size + 1) hr G1.out (Nat.le_refl _) (by repeat (first | with_reducible exact Bx.refl _ _ | with_reducible refine Bx.setCell ?_ (bt_of (by omega) (by omega)) _ | with_reducible refine Bx.alloc ?_ _ | with_reducible refine Bx.drew ?_))) hF2); clear hS2) | (go_at_call 125; have tku := tok3; clear tku tok3; refine Ans.use (sevExpr r 1 8 (q2) v2 ((o) || no1 s) _ (HS2.out.bx (T := w1.heap.size + 1) hr (by repeat (first | with_reducible exact Bx.refl _ _ | with_reducible refine Bx.setCell ?_ (bt_of (by omega) (by omega)) _ | with_reducible refine Bx.alloc ?_ _ | with_reducible refine Bx.drew ?_))) (by have := HL.out; first | omega | (simp at this; omega))) (fun w' hf hn => ⟨rfl, Ans.no (ft (fin_w (T := w1.heap.size + 1) hr G2.out (Nat.le_refl _) (by repeat (first | with_reducible exact Bx.refl _ _ | with_reducible refine Bx.setCell ?_ (bt_of (by omega) (by omega)) _ | with_reducible refine Bx.alloc ?_ _ | with_reducible refine Bx.drew ?_))) hf) (by rw [HP.out, HQ.out, body_write, thn_none hn])⟩) ?_; rintro xs q3 val3 v3 w3 hF3 hx3 hl3 hR hS3; obtain ⟨ba3, hbE, hba3⟩ : ∃ ba, ba = _ ∧ RowP 6 1 RExpr w3 ba val3 xs := ⟨_, rfl, hR⟩; have R3_3 : Hid (RowP 6 1 RExpr w3 ba3 val3 xs) := hba3; obtain ⟨a3, n3, c3, rfl⟩ := hR.like; have yb3 : w2.heap.size ≤ ba3 := (by rw [hbE]; first | omega | (simp <;> omega)); clear hR hba3 hbE; have y3 : w2.heap.size ≤ w3.heap.size := (by have := hF3.size; first | omega | (simp at this; omega)); obtain ⟨hc, hz⟩ := fr_box hF3; have al3 : w.heap.size < w3.heap.size := (by omega); have bl3 : w1.heap.size < w3.heap.size := (by omega); have a3s0 : w3.cell? ⟨w.heap.size, 0, none⟩ = some (.int .u8 0) := (by rw [hc _ _ (by first | omega | (simp <;> omega)) (by omega)]; go_simp); have a3z0 : w3.frozen? ⟨w.heap.size, 0, none⟩ = false := (by rw [hz _ _ (by first | omega | (simp <;> omega)) (by omega)]; go_simp); have a3s1 : w3.cell? ⟨w.heap.size, 1, none⟩ = some (.string ⟨#[]⟩) := (by rw [hc _ _ (by first | omega | (simp <;> omega)) (by omega)]; go_simp); have a3z1 : w3.frozen? ⟨w.heap.size, 1, none⟩ = false := (by rw [hz _ _ (by first | omega | (simp <;> omega)) (by omega)]; go_simp); have a3s2 : w3.cell? ⟨w.heap.size, 2, none⟩ = some (.int .i64 0) := (by rw [hc _ _ (by first | omega | (simp <;> omega)) (by omega)]; go_simp); have a3z2 : w3.frozen? ⟨w.heap.size, 2, none⟩ = false := (by rw [hz _ _ (by first | omega | (simp <;> omega)) (by omega)]; go_simp); have a3s3 : w3.cell? ⟨w.heap.size, 3, none⟩ = some (.string ⟨#[]⟩) := (by rw [hc _ _ (by first | omega | (simp <;> omega)) (by omega)]; go_simp); have a3z3 : w3.frozen? ⟨w.heap.size, 3, none⟩ = false := (by rw [hz _ _ (by first | omega | (simp <;> omega)) (by omega)]; go_simp); have a3s4 : w3.cell? ⟨w.heap.size, 4, none⟩ = some (.slice none 0 0) := (by rw [hc _ _ (by first | omega | (simp <;> omega)) (by omega)]; go_simp); have a3z4 : w3.frozen? ⟨w.heap.size, 4, none⟩ = false := (by rw [hz _ _ (by first | omega | (simp <;> omega)) (by omega)]; go_simp); have a3s5 : w3.cell? ⟨w.heap.size, 5, none⟩ = some (.slice none 0 0) := (by rw [hc _ _ (by first | omega | (simp <;> omega)) (by omega)]; go_simp); have a3z5 : w3.frozen? ⟨w.heap.size, 5, none⟩ = false := (by rw [hz _ _ (by first | omega | (simp <;> omega)) (by omega)]; go_simp); have b3s0 : w3.cell? ⟨w1.heap.size, 0, none⟩ = some (.int .u8 4) := (by rw [hc _ _ (by first | omega | (simp <;> omega)) (by omega)]; go_simp); have b3z0 : w3.frozen? ⟨w1.heap.size, 0, none⟩ = false := (by rw [hz _ _ (by first | omega | (simp <;> omega)) (by omega)]; go_simp); have b3s1 : w3.cell? ⟨w1.heap.size, 1, none⟩ = some (.string ⟨#[]⟩) := (by rw [hc _ _ (by first | omega | (simp <;> omega)) (by omega)]; go_simp); have b3z1 : w3.frozen? ⟨w1.heap.size, 1, none⟩ = false := (by rw [hz _ _ (by first | omega | (simp <;> omega)) (by omega)]; go_simp); have b3s2 : w3.cell? ⟨w1.heap.size, 2, none⟩ = some (.int .i64 0) := (by rw [hc _ _ (by first | omega | (simp <;> omega)) (by omega)]; go_simp); have b3z2 : w3.frozen? ⟨w1.heap.size, 2, none⟩ = false := (by rw [hz _ _ (by first | omega | (simp <;> omega)) (by omega)]; go_simp); have b3s3 : w3.cell? ⟨w1.heap.size, 3, none⟩ = some (.string ⟨#[]⟩) := (by rw [hc _ _ (by first | omega | (simp <;> omega)) (by omega)]; go_simp); have b3z3 : w3.frozen? ⟨w1.heap.size, 3, none⟩ = false := (by rw [hz _ _ (by first | omega | (simp <;> omega)) (by omega)]; go_simp); have b3s4 : w3.cell? ⟨w1.heap.size, 4, none⟩ = some (.slice none 0 0) := (by rw [hc _ _ (by first | omega | (simp <;> omega)) (by omega)]; go_simp); have b3z4 : w3.frozen? ⟨w1.heap.size, 4, none⟩ = false := (by rw [hz _ _ (by first | omega | (simp <;> omega)) (by omega)]; go_simp); have b3s5 : w3.cell? ⟨w1.heap.size, 5, none⟩ = some (.slice none 0 0) := (by rw [hc _ _ (by first | omega | (simp <;> omega)) (by omega)]; go_simp); have b3z5 : w3.frozen? ⟨w1.heap.size, 5, none⟩ = false := (by rw [hz _ _ (by first | omega | (simp <;> omega)) (by omega)]; go_simp); clear hc hz; have HS3 : Hid (Rs w3 r v3 q3 (((o) || no1 s) || ovL ovN 8 xs)) := hS3; have G3 : Hid (Fr r w.heap.size w w3) := (ft (fin_w (T := w1.heap.size + 1) hr G2.out (Nat.le_refl _) (by repeat (first | with_reducible exact Bx.refl _ _ | with_reducible refine Bx.setCell ?_ (bt_of (by omega) (by omega)) _ | with_reducible refine Bx.alloc ?_ _ | with_reducible refine Bx.drew ?_))) hF3); clear hS3))
  refine bodyPost_ret (v := .agg #[.int .u8 4, .string ⟨#[]⟩, .int .i64 0, .string ⟨#[]⟩, .slice none 0 0, .slice a3 n3 c3]) (by simp [results, Tryz.results98, go_sem, a3s0, a3s1, a3s2, a3s3, a3s4, a3s5, b3s0, b3s1, b3s2, b3s3, b3s4, b3s5, al3, bl3] <;> rfl) rfl ?_
  refine fin_ans (x := ((⟨4, [], 0, [], [], xs.map Prod.fst⟩ : ActD), deepOf (xs.map Prod.snd))) (T := w1.heap.size + 1) (rest := q3) hr G3.out ?_ (by rw [HP.out, HQ.out, body_write, thn_of hx3]; rfl) (by first | omega | (simp; omega)) (fun HX => ⟨_, rfl, _, _, rfl, row_nil _ _ _ _, row_expr (by decide) (RowP.bx part_expr R3_3.out HX (by omega)) (by omega)⟩) HS3.out (by simp [no1, ovL, ovT, any_ovN] <;> (try (first | rfl | (congr 1; exact Bool.or_comm _ _) | simp [Bool.or_comm, Bool.or_left_comm])) )
  repeat (first | with_reducible exact Bx.refl _ _ | with_reducible refine Bx.setCell ?_ (bt_of (by omega) (by omega)) _ | with_reducible refine Bx.alloc ?_ _ | with_reducible refine Bx.drew ?_)
set_option maxHeartbeats 4000000 in
theorem act_halt (r : Nat) (x : TA) (m : List TA) (s : Str) (qs : List Tk) (v : Value) (o : Bool) (w : World) (h : Rs w r v (x :: m) o) (hl : (x :: m).length ≤ 100000) (hx : x.1.k = 0) (hm : nameR (m.map Prod.fst) = some (s, qs)) (hs : s = sHalt) :
    Calls Tryz.prog 98 #[pR r] w (Ans (RAgg RAct) actR ovT r w (x :: m) o) := by
  have hr := h.lt
  have F43 := field43
  have F43a := field43a
  have F43b := field43b
  have HH : Hid (Rs w r v (x :: m) o) := h
  have HL : Hid ((x :: m).length ≤ 100000) := hl
  have HM : Hid (nameR (m.map Prod.fst) = some (s, qs)) := hm
  have HP : Hid (actR ((x :: m).map Prod.fst) = bodyP sHalt qs) := by show _ = _; rw [actR_is, thn_of (nxt_at hx), thn_of hm, hs]
  have b0 : ((st s).toList == [109, 97, 107, 101]) = false := (strE s _).trans (by rw [hs]; decide)
  have b1 : ((st s).toList == [109, 111, 100, 105, 102, 121]) = false := (strE s _).trans (by rw [hs]; decide)
  have b2 : ((st s).toList == [114, 101, 109, 111, 118, 101]) = false := (strE s _).trans (by rw [hs]; decide)
  have b3 : ((st s).toList == [98, 105, 110, 100]) = false := (strE s _).trans (by rw [hs]; decide)
  have b4 : ((st s).toList == [119, 114, 105, 116, 101]) = false := (strE s _).trans (by rw [hs]; decide)
  have b5 : ((st s).toList == [104, 97, 108, 116]) = true := (strE s _).trans (by rw [hs]; decide)
  have CT1 := fun W vv hh => take_yes r x (m) vv (o) W hh
  rw [hx] at CT1
  unfold tkA at CT1
  have tok2 : Hid True := trivial
  have tok3 : Hid True := trivial
  clear h hl
  clear hx hm hs
  go_enter Tryz.func98, Tryz.ntmps98
  go_wp2_with (first | (go_at_call 62; refine (CT1 _ v (HH.out.below (bxn _ _))).mono ?_; rintro e w1 ⟨rfl, ⟨v1, hS1⟩, hF1⟩; clear CT1; have y1 : w.heap.size + 1 ≤ w1.heap.size := (by have := hF1.size; first | omega | (simp at this; omega)); obtain ⟨hc, hz⟩ := fr_box hF1; have al1 : w.heap.size < w1.heap.size := (by omega); have a1s0 : w1.cell? ⟨w.heap.size, 0, none⟩ = some (.int .u8 0) := (by rw [hc _ _ (by first | omega | (simp <;> omega)) (by omega)]; go_simp); have a1z0 : w1.frozen? ⟨w.heap.size, 0, none⟩ = false := (by rw [hz _ _ (by first | omega | (simp <;> omega)) (by omega)]; go_simp); have a1s1 : w1.cell? ⟨w.heap.size, 1, none⟩ = some (.string ⟨#[]⟩) := (by rw [hc _ _ (by first | omega | (simp <;> omega)) (by omega)]; go_simp); have a1z1 : w1.frozen? ⟨w.heap.size, 1, none⟩ = false := (by rw [hz _ _ (by first | omega | (simp <;> omega)) (by omega)]; go_simp); have a1s2 : w1.cell? ⟨w.heap.size, 2, none⟩ = some (.int .i64 0) := (by rw [hc _ _ (by first | omega | (simp <;> omega)) (by omega)]; go_simp); have a1z2 : w1.frozen? ⟨w.heap.size, 2, none⟩ = false := (by rw [hz _ _ (by first | omega | (simp <;> omega)) (by omega)]; go_simp); have a1s3 : w1.cell? ⟨w.heap.size, 3, none⟩ = some (.string ⟨#[]⟩) := (by rw [hc _ _ (by first | omega | (simp <;> omega)) (by omega)]; go_simp); have a1z3 : w1.frozen? ⟨w.heap.size, 3, none⟩ = false := (by rw [hz _ _ (by first | omega | (simp <;> omega)) (by omega)]; go_simp); have a1s4 : w1.cell? ⟨w.heap.size, 4, none⟩ = some (.slice none 0 0) := (by rw [hc _ _ (by first | omega | (simp <;> omega)) (by omega)]; go_simp); have a1z4 : w1.frozen? ⟨w.heap.size, 4, none⟩ = false := (by rw [hz _ _ (by first | omega | (simp <;> omega)) (by omega)]; go_simp); have a1s5 : w1.cell? ⟨w.heap.size, 5, none⟩ = some (.slice none 0 0) := (by rw [hc _ _ (by first | omega | (simp <;> omega)) (by omega)]; go_simp); have a1z5 : w1.frozen? ⟨w.heap.size, 5, none⟩ = false := (by rw [hz _ _ (by first | omega | (simp <;> omega)) (by omega)]; go_simp); clear hc hz; have HS1 : Hid (Rs w1 r v1 (m) (o)) := hS1; have G1 : Hid (Fr r w.heap.size w w1) := (fb (bxn _ _) hF1); clear hS1) | (go_at_call 63; have tku := tok2; clear tku tok2; refine Ans.use (name_ans r (m) v1 (o) _ (HS1.out.bx (T := w1.heap.size + 1) hr (by repeat (first | with_reducible exact Bx.refl _ _ | with_reducible refine Bx.setCell ?_ (bt_of (by omega) (by omega)) _ | with_reducible refine Bx.alloc ?_ _ | with_reducible refine Bx.drew ?_)))) (fun w' hf hn => ⟨rfl, Ans.no (ft (fin_w (T := w1.heap.size + 1) hr G1.out (Nat.le_refl _) (by repeat (first | with_reducible exact Bx.refl _ _ | with_reducible refine Bx.setCell ?_ (bt_of (by omega) (by omega)) _ | with_reducible refine Bx.alloc ?_ _ | with_reducible refine Bx.drew ?_))) hf) (by rw [HM.out] at hn; cases hn)⟩) ?_; rintro c q2 val2 v2 w2 hF2 hx2 hl2 rfl hS2; obtain ⟨hc, hq⟩ := Prod.mk.inj (Option.some.inj (HM.out.symm.trans hx2)); have HQ : Hid (qs = q2.map Prod.fst) := hq; subst hc; clear hq hx2; have y2 : w1.heap.size + 1 ≤ w2.heap.size := (by have := hF2.size; first | omega | (simp at this; omega)); obtain ⟨hc, hz⟩ := fr_box hF2; have al2 : w.heap.size < w2.heap.size := (by omega); have bl2 : w1.heap.size < w2.heap.size := (by omega); have a2s0 : w2.cell? ⟨w.heap.size, 0, none⟩ = some (.int .u8 0) := (by rw [hc _ _ (by first | omega | (simp <;> omega)) (by omega)]; go_simp); have a2z0 : w2.frozen? ⟨w.heap.size, 0, none⟩ = false := (by rw [hz _ _ (by first | omega | (simp <;> omega)) (by omega)]; go_simp); have a2s1 : w2.cell? ⟨w.heap.size, 1, none⟩ = some (.string ⟨#[]⟩) := (by rw [hc _ _ (by first | omega | (simp <;> omega)) (by omega)]; go_simp); have a2z1 : w2.frozen? ⟨w.heap.size, 1, none⟩ = false := (by rw [hz _ _ (by first | omega | (simp <;> omega)) (by omega)]; go_simp); have a2s2 : w2.cell? ⟨w.heap.size, 2, none⟩ = some (.int .i64 0) := (by rw [hc _ _ (by first | omega | (simp <;> omega)) (by omega)]; go_simp); have a2z2 : w2.frozen? ⟨w.heap.size, 2, none⟩ = false := (by rw [hz _ _ (by first | omega | (simp <;> omega)) (by omega)]; go_simp); have a2s3 : w2.cell? ⟨w.heap.size, 3, none⟩ = some (.string ⟨#[]⟩) := (by rw [hc _ _ (by first | omega | (simp <;> omega)) (by omega)]; go_simp); have a2z3 : w2.frozen? ⟨w.heap.size, 3, none⟩ = false := (by rw [hz _ _ (by first | omega | (simp <;> omega)) (by omega)]; go_simp); have a2s4 : w2.cell? ⟨w.heap.size, 4, none⟩ = some (.slice none 0 0) := (by rw [hc _ _ (by first | omega | (simp <;> omega)) (by omega)]; go_simp); have a2z4 : w2.frozen? ⟨w.heap.size, 4, none⟩ = false := (by rw [hz _ _ (by first | omega | (simp <;> omega)) (by omega)]; go_simp); have a2s5 : w2.cell? ⟨w.heap.size, 5, none⟩ = some (.slice none 0 0) := (by rw [hc _ _ (by first | omega | (simp <;> omega)) (by omega)]; go_simp); have a2z5 : w2.frozen? ⟨w.heap.size, 5, none⟩ = false := (by rw [hz _ _ (by first | omega | (simp <;> omega)) (by omega)]; go_simp); have b2s0 : w2.cell? ⟨w1.heap.size, 0, none⟩ = some (.int .u8 0) := (by rw [hc _ _ (by first | omega | (simp <;> omega)) (by omega)]; go_simp); have b2z0 : w2.frozen? ⟨w1.heap.size, 0, none⟩ = false := (by rw [hz _ _ (by first | omega | (simp <;> omega)) (by omega)]; go_simp); have b2s1 : w2.cell? ⟨w1.heap.size, 1, none⟩ = some (.string ⟨#[]⟩) := (by rw [hc _ _ (by first | omega | (simp <;> omega)) (by omega)]; go_simp); have b2z1 : w2.frozen? ⟨w1.heap.size, 1, none⟩ = false := (by rw [hz _ _ (by first | omega | (simp <;> omega)) (by omega)]; go_simp); have b2s2 : w2.cell? ⟨w1.heap.size, 2, none⟩ = some (.int .i64 0) := (by rw [hc _ _ (by first | omega | (simp <;> omega)) (by omega)]; go_simp); have b2z2 : w2.frozen? ⟨w1.heap.size, 2, none⟩ = false := (by rw [hz _ _ (by first | omega | (simp <;> omega)) (by omega)]; go_simp); have b2s3 : w2.cell? ⟨w1.heap.size, 3, none⟩ = some (.string ⟨#[]⟩) := (by rw [hc _ _ (by first | omega | (simp <;> omega)) (by omega)]; go_simp); have b2z3 : w2.frozen? ⟨w1.heap.size, 3, none⟩ = false := (by rw [hz _ _ (by first | omega | (simp <;> omega)) (by omega)]; go_simp); have b2s4 : w2.cell? ⟨w1.heap.size, 4, none⟩ = some (.slice none 0 0) := (by rw [hc _ _ (by first | omega | (simp <;> omega)) (by omega)]; go_simp); have b2z4 : w2.frozen? ⟨w1.heap.size, 4, none⟩ = false := (by rw [hz _ _ (by first | omega | (simp <;> omega)) (by omega)]; go_simp); have b2s5 : w2.cell? ⟨w1.heap.size, 5, none⟩ = some (.slice none 0 0) := (by rw [hc _ _ (by first | omega | (simp <;> omega)) (by omega)]; go_simp); have b2z5 : w2.frozen? ⟨w1.heap.size, 5, none⟩ = false := (by rw [hz _ _ (by first | omega | (simp <;> omega)) (by omega)]; go_simp); clear hc hz; have HS2 : Hid (Rs w2 r v2 q2 ((o) || no1 s)) := hS2; have G2 : Hid (Fr r w.heap.size w w2) := (ft (fin_w (T := w1.heap.size + 1) hr G1.out (Nat.le_refl _) (by repeat (first | with_reducible exact Bx.refl _ _ | with_reducible refine Bx.setCell ?_ (bt_of (by omega) (by omega)) _ | with_reducible refine Bx.alloc ?_ _ | with_reducible refine Bx.drew ?_))) hF2); clear hS2) | (go_at_call 62; have tku := tok3; clear tku tok3; refine Ans.use (take_ans r 1 (q2) v2 ((o) || no1 s) _ (HS2.out.bx (T := w1.heap.size + 1) hr (by repeat (first | with_reducible exact Bx.refl _ _ | with_reducible refine Bx.setCell ?_ (bt_of (by omega) (by omega)) _ | with_reducible refine Bx.alloc ?_ _ | with_reducible refine Bx.drew ?_)))) (fun w' hf hn => ⟨rfl, Ans.no (ft (fin_w (T := w1.heap.size + 1) hr G2.out (Nat.le_refl _) (by repeat (first | with_reducible exact Bx.refl _ _ | with_reducible refine Bx.setCell ?_ (bt_of (by omega) (by omega)) _ | with_reducible refine Bx.alloc ?_ _ | with_reducible refine Bx.drew ?_))) hf) (by rw [HP.out, HQ.out, body_halt, thn_none hn])⟩) ?_; rintro t q3 val3 v3 w3 hF3 hx3 hl3 ⟨p, rfl⟩ hS3; have y3 : w2.heap.size ≤ w3.heap.size := (by have := hF3.size; first | omega | (simp at this; omega)); obtain ⟨hc, hz⟩ := fr_box hF3; have al3 : w.heap.size < w3.heap.size := (by omega); have bl3 : w1.heap.size < w3.heap.size := (by omega); have a3s0 : w3.cell? ⟨w.heap.size, 0, none⟩ = some (.int .u8 0) := (by rw [hc _ _ (by first | omega | (simp <;> omega)) (by omega)]; go_simp); have a3z0 : w3.frozen? ⟨w.heap.size, 0, none⟩ = false := (by rw [hz _ _ (by first | omega | (simp <;> omega)) (by omega)]; go_simp); have a3s1 : w3.cell? ⟨w.heap.size, 1, none⟩ = some (.string ⟨#[]⟩) := (by rw [hc _ _ (by first | omega | (simp <;> omega)) (by omega)]; go_simp); have a3z1 : w3.frozen? ⟨w.heap.size, 1, none⟩ = false := (by rw [hz _ _ (by first | omega | (simp <;> omega)) (by omega)]; go_simp); have a3s2 : w3.cell? ⟨w.heap.size, 2, none⟩ = some (.int .i64 0) := (by rw [hc _ _ (by first | omega | (simp <;> omega)) (by omega)]; go_simp); have a3z2 : w3.frozen? ⟨w.heap.size, 2, none⟩ = false := (by rw [hz _ _ (by first | omega | (simp <;> omega)) (by omega)]; go_simp); have a3s3 : w3.cell? ⟨w.heap.size, 3, none⟩ = some (.string ⟨#[]⟩) := (by rw [hc _ _ (by first | omega | (simp <;> omega)) (by omega)]; go_simp); have a3z3 : w3.frozen? ⟨w.heap.size, 3, none⟩ = false := (by rw [hz _ _ (by first | omega | (simp <;> omega)) (by omega)]; go_simp); have a3s4 : w3.cell? ⟨w.heap.size, 4, none⟩ = some (.slice none 0 0) := (by rw [hc _ _ (by first | omega | (simp <;> omega)) (by omega)]; go_simp); have a3z4 : w3.frozen? ⟨w.heap.size, 4, none⟩ = false := (by rw [hz _ _ (by first | omega | (simp <;> omega)) (by omega)]; go_simp); have a3s5 : w3.cell? ⟨w.heap.size, 5, none⟩ = some (.slice none 0 0) := (by rw [hc _ _ (by first | omega | (simp <;> omega)) (by omega)]; go_simp); have a3z5 : w3.frozen? ⟨w.heap.size, 5, none⟩ = false := (by rw [hz _ _ (by first | omega | (simp <;> omega)) (by omega)]; go_simp); have b3s0 : w3.cell? ⟨w1.heap.size, 0, none⟩ = some (.int .u8 5) := (by rw [hc _ _ (by first | omega | (simp <;> omega)) (by omega)]; go_simp); have b3z0 : w3.frozen? ⟨w1.heap.size, 0, none⟩ = false := (by rw [hz _ _ (by first | omega | (simp <;> omega)) (by omega)]; go_simp); have b3s1 : w3.cell? ⟨w1.heap.size, 1, none⟩ = some (.string ⟨#[]⟩) := (by rw [hc _ _ (by first | omega | (simp <;> omega)) (by omega)]; go_simp); have b3z1 : w3.frozen? ⟨w1.heap.size, 1, none⟩ = false := (by rw [hz _ _ (by first | omega | (simp <;> omega)) (by omega)]; go_simp); have b3s2 : w3.cell? ⟨w1.heap.size, 2, none⟩ = some (.int .i64 0) := (by rw [hc _ _ (by first | omega | (simp <;> omega)) (by omega)]; go_simp); have b3z2 : w3.frozen? ⟨w1.heap.size, 2, none⟩ = false := (by rw [hz _ _ (by first | omega | (simp <;> omega)) (by omega)]; go_simp); have b3s3 : w3.cell? ⟨w1.heap.size, 3, none⟩ = some (.string ⟨#[]⟩) := (by rw [hc _ _ (by first | omega | (simp <;> omega)) (by omega)]; go_simp); have b3z3 : w3.frozen? ⟨w1.heap.size, 3, none⟩ = false := (by rw [hz _ _ (by first | omega | (simp <;> omega)) (by omega)]; go_simp); have b3s4 : w3.cell? ⟨w1.heap.size, 4, none⟩ = some (.slice none 0 0) := (by rw [hc _ _ (by first | omega | (simp <;> omega)) (by omega)]; go_simp); have b3z4 : w3.frozen? ⟨w1.heap.size, 4, none⟩ = false := (by rw [hz _ _ (by first | omega | (simp <;> omega)) (by omega)]; go_simp); have b3s5 : w3.cell? ⟨w1.heap.size, 5, none⟩ = some (.slice none 0 0) := (by rw [hc _ _ (by first | omega | (simp <;> omega)) (by omega)]; go_simp); have b3z5 : w3.frozen? ⟨w1.heap.size, 5, none⟩ = false := (by rw [hz _ _ (by first | omega | (simp <;> omega)) (by omega)]; go_simp); clear hc hz; have HS3 : Hid (Rs w3 r v3 q3 (((o) || no1 s) || no1 t)) := hS3; have G3 : Hid (Fr r w.heap.size w w3) := (ft (fin_w (T := w1.heap.size + 1) hr G2.out (Nat.le_refl _) (by repeat (first | with_reducible exact Bx.refl _ _ | with_reducible refine Bx.setCell ?_ (bt_of (by omega) (by omega)) _ | with_reducible refine Bx.alloc ?_ _ | with_reducible refine Bx.drew ?_))) hF3); clear hS3))
  refine bodyPost_ret (v := .agg #[.int .u8 5, .string ⟨#[]⟩, .int .i64 0, .string ⟨#[]⟩, .slice none 0 0, .slice none 0 0]) (by simp [results, Tryz.results98, go_sem, a3s0, a3s1, a3s2, a3s3, a3s4, a3s5, b3s0, b3s1, b3s2, b3s3, b3s4, b3s5, al3, bl3] <;> rfl) rfl ?_
  refine fin_ans (x := ((⟨5, [], 0, [], [], []⟩ : ActD), 0)) (T := w1.heap.size + 1) (rest := q3) hr G3.out ?_ (by rw [HP.out, HQ.out, body_halt, thn_of hx3]; rfl) (by first | omega | (simp; omega)) (fun HX => ⟨_, rfl, _, _, rfl, row_nil _ _ _ _, row_nil _ _ _ _⟩) HS3.out (by simp [no1, ovT])
  repeat (first | with_reducible exact Bx.refl _ _ | with_reducible refine Bx.setCell ?_ (bt_of (by omega) (by omega)) _ | with_reducible refine Bx.alloc ?_ _ | with_reducible refine Bx.drew ?_)
theorem act_no (r : Nat) (l : List TA) (v : Value) (o : Bool) (w : World) (h : Rs w r v l o) (hk : isK 0 (l.map Prod.fst) = false) :
    Calls Tryz.prog 98 #[pR r] w (Ans (RAgg RAct) actR ovT r w l o) := by
  have CT := fun W hW => take_ans r 0 l v o W (h.below hW)
  have HN : Hid (actR (l.map Prod.fst) = none) := actR_no _ hk
  have HK : Hid (isK 0 (l.map Prod.fst) = false) := hk
  clear h hk
  go_enter Tryz.func98, Tryz.ntmps98
  go_wp2_with (go_at_call 62; refine Ans.use (CT _ (bxn _ _)) (fun w' hf hn => ⟨rfl, Ans.no (fb (bxn _ _) hf) HN.out⟩) ?_; intro t rest val v' w1 hF hx; exfalso; rw [nxt_isK HK.out] at hx; cases hx)
set_option maxHeartbeats 4000000 in
theorem act_bad (r : Nat) (x : TA) (m : List TA) (v : Value) (o : Bool) (w : World) (h : Rs w r v (x :: m) o) (hl : (x :: m).length ≤ 100000) (hx : x.1.k = 0) (hm : ∀ s qs, nameR (m.map Prod.fst) = some (s, qs) → s ≠ sMake ∧ s ≠ sModify ∧ s ≠ sRemove ∧ s ≠ sBind ∧ s ≠ sWrite ∧ s ≠ sHalt) :
    Calls Tryz.prog 98 #[pR r] w (Ans (RAgg RAct) actR ovT r w (x :: m) o) := by
  have hr := h.lt
  have F43 := field43
  have F43a := field43a
  have F43b := field43b
  have HH : Hid (Rs w r v (x :: m) o) := h
  have HL : Hid ((x :: m).length ≤ 100000) := hl
  have HM : Hid (∀ s qs, nameR (m.map Prod.fst) = some (s, qs) → s ≠ sMake ∧ s ≠ sModify ∧ s ≠ sRemove ∧ s ≠ sBind ∧ s ≠ sWrite ∧ s ≠ sHalt) := hm
  have HP : Hid (actR ((x :: m).map Prod.fst) = thn nameR bodyP (m.map Prod.fst)) := by show _ = _; rw [actR_is, thn_of (nxt_at hx)]
  have CT1 := fun W vv hh => take_yes r x (m) vv (o) W hh
  rw [hx] at CT1
  unfold tkA at CT1
  have tok2 : Hid True := trivial
  clear h hl
  clear hx hm
  go_enter Tryz.func98, Tryz.ntmps98
  go_wp2_with (first | (go_at_call 62; refine (CT1 _ v (HH.out.below (bxn _ _))).mono ?_; rintro e w1 ⟨rfl, ⟨v1, hS1⟩, hF1⟩; clear CT1; have y1 : w.heap.size + 1 ≤ w1.heap.size := (by have := hF1.size; first | omega | (simp at this; omega)); obtain ⟨hc, hz⟩ := fr_box hF1; have al1 : w.heap.size < w1.heap.size := (by omega); have a1s0 : w1.cell? ⟨w.heap.size, 0, none⟩ = some (.int .u8 0) := (by rw [hc _ _ (by first | omega | (simp <;> omega)) (by omega)]; go_simp); have a1z0 : w1.frozen? ⟨w.heap.size, 0, none⟩ = false := (by rw [hz _ _ (by first | omega | (simp <;> omega)) (by omega)]; go_simp); have a1s1 : w1.cell? ⟨w.heap.size, 1, none⟩ = some (.string ⟨#[]⟩) := (by rw [hc _ _ (by first | omega | (simp <;> omega)) (by omega)]; go_simp); have a1z1 : w1.frozen? ⟨w.heap.size, 1, none⟩ = false := (by rw [hz _ _ (by first | omega | (simp <;> omega)) (by omega)]; go_simp); have a1s2 : w1.cell? ⟨w.heap.size, 2, none⟩ = some (.int .i64 0) := (by rw [hc _ _ (by first | omega | (simp <;> omega)) (by omega)]; go_simp); have a1z2 : w1.frozen? ⟨w.heap.size, 2, none⟩ = false := (by rw [hz _ _ (by first | omega | (simp <;> omega)) (by omega)]; go_simp); have a1s3 : w1.cell? ⟨w.heap.size, 3, none⟩ = some (.string ⟨#[]⟩) := (by rw [hc _ _ (by first | omega | (simp <;> omega)) (by omega)]; go_simp); have a1z3 : w1.frozen? ⟨w.heap.size, 3, none⟩ = false := (by rw [hz _ _ (by first | omega | (simp <;> omega)) (by omega)]; go_simp); have a1s4 : w1.cell? ⟨w.heap.size, 4, none⟩ = some (.slice none 0 0) := (by rw [hc _ _ (by first | omega | (simp <;> omega)) (by omega)]; go_simp); have a1z4 : w1.frozen? ⟨w.heap.size, 4, none⟩ = false := (by rw [hz _ _ (by first | omega | (simp <;> omega)) (by omega)]; go_simp); have a1s5 : w1.cell? ⟨w.heap.size, 5, none⟩ = some (.slice none 0 0) := (by rw [hc _ _ (by first | omega | (simp <;> omega)) (by omega)]; go_simp); have a1z5 : w1.frozen? ⟨w.heap.size, 5, none⟩ = false := (by rw [hz _ _ (by first | omega | (simp <;> omega)) (by omega)]; go_simp); clear hc hz; have HS1 : Hid (Rs w1 r v1 (m) (o)) := hS1; have G1 : Hid (Fr r w.heap.size w w1) := (fb (bxn _ _) hF1); clear hS1) | (go_at_call 63; have tku := tok2; clear tku tok2; refine Ans.use (name_ans r (m) v1 (o) _ (HS1.out.bx (T := w1.heap.size + 1) hr (by repeat (first | with_reducible exact Bx.refl _ _ | with_reducible refine Bx.setCell ?_ (bt_of (by omega) (by omega)) _ | with_reducible refine Bx.alloc ?_ _ | with_reducible refine Bx.drew ?_)))) (fun w' hf hn => ⟨rfl, Ans.no (ft (fin_w (T := w1.heap.size + 1) hr G1.out (Nat.le_refl _) (by repeat (first | with_reducible exact Bx.refl _ _ | with_reducible refine Bx.setCell ?_ (bt_of (by omega) (by omega)) _ | with_reducible refine Bx.alloc ?_ _ | with_reducible refine Bx.drew ?_))) hf) (by rw [HP.out, thn_none hn])⟩) ?_; rintro c q2 val2 v2 w2 hF2 hx2 hl2 rfl hS2; have hq := HM.out _ _ hx2; have HQ : Hid (c ≠ sMake ∧ c ≠ sModify ∧ c ≠ sRemove ∧ c ≠ sBind ∧ c ≠ sWrite ∧ c ≠ sHalt) := hq; have b0 : ((st c).toList == [109, 97, 107, 101]) = false := (strE c _).trans (decide_eq_false (hq.1)); have b1 : ((st c).toList == [109, 111, 100, 105, 102, 121]) = false := (strE c _).trans (decide_eq_false (hq.2.1)); have b2 : ((st c).toList == [114, 101, 109, 111, 118, 101]) = false := (strE c _).trans (decide_eq_false (hq.2.2.1)); have b3 : ((st c).toList == [98, 105, 110, 100]) = false := (strE c _).trans (decide_eq_false (hq.2.2.2.1)); have b4 : ((st c).toList == [119, 114, 105, 116, 101]) = false := (strE c _).trans (decide_eq_false (hq.2.2.2.2.1)); have b5 : ((st c).toList == [104, 97, 108, 116]) = false := (strE c _).trans (decide_eq_false (hq.2.2.2.2.2)); clear hq; have y2 : w1.heap.size + 1 ≤ w2.heap.size := (by have := hF2.size; first | omega | (simp at this; omega)); obtain ⟨hc, hz⟩ := fr_box hF2; have al2 : w.heap.size < w2.heap.size := (by omega); have bl2 : w1.heap.size < w2.heap.size := (by omega); have a2s0 : w2.cell? ⟨w.heap.size, 0, none⟩ = some (.int .u8 0) := (by rw [hc _ _ (by first | omega | (simp <;> omega)) (by omega)]; go_simp); have a2z0 : w2.frozen? ⟨w.heap.size, 0, none⟩ = false := (by rw [hz _ _ (by first | omega | (simp <;> omega)) (by omega)]; go_simp); have a2s1 : w2.cell? ⟨w.heap.size, 1, none⟩ = some (.string ⟨#[]⟩) := (by rw [hc _ _ (by first | omega | (simp <;> omega)) (by omega)]; go_simp); have a2z1 : w2.frozen? ⟨w.heap.size, 1, none⟩ = false := (by rw [hz _ _ (by first | omega | (simp <;> omega)) (by omega)]; go_simp); have a2s2 : w2.cell? ⟨w.heap.size, 2, none⟩ = some (.int .i64 0) := (by rw [hc _ _ (by first | omega | (simp <;> omega)) (by omega)]; go_simp); have a2z2 : w2.frozen? ⟨w.heap.size, 2, none⟩ = false := (by rw [hz _ _ (by first | omega | (simp <;> omega)) (by omega)]; go_simp); have a2s3 : w2.cell? ⟨w.heap.size, 3, none⟩ = some (.string ⟨#[]⟩) := (by rw [hc _ _ (by first | omega | (simp <;> omega)) (by omega)]; go_simp); have a2z3 : w2.frozen? ⟨w.heap.size, 3, none⟩ = false := (by rw [hz _ _ (by first | omega | (simp <;> omega)) (by omega)]; go_simp); have a2s4 : w2.cell? ⟨w.heap.size, 4, none⟩ = some (.slice none 0 0) := (by rw [hc _ _ (by first | omega | (simp <;> omega)) (by omega)]; go_simp); have a2z4 : w2.frozen? ⟨w.heap.size, 4, none⟩ = false := (by rw [hz _ _ (by first | omega | (simp <;> omega)) (by omega)]; go_simp); have a2s5 : w2.cell? ⟨w.heap.size, 5, none⟩ = some (.slice none 0 0) := (by rw [hc _ _ (by first | omega | (simp <;> omega)) (by omega)]; go_simp); have a2z5 : w2.frozen? ⟨w.heap.size, 5, none⟩ = false := (by rw [hz _ _ (by first | omega | (simp <;> omega)) (by omega)]; go_simp); have b2s0 : w2.cell? ⟨w1.heap.size, 0, none⟩ = some (.int .u8 0) := (by rw [hc _ _ (by first | omega | (simp <;> omega)) (by omega)]; go_simp); have b2z0 : w2.frozen? ⟨w1.heap.size, 0, none⟩ = false := (by rw [hz _ _ (by first | omega | (simp <;> omega)) (by omega)]; go_simp); have b2s1 : w2.cell? ⟨w1.heap.size, 1, none⟩ = some (.string ⟨#[]⟩) := (by rw [hc _ _ (by first | omega | (simp <;> omega)) (by omega)]; go_simp); have b2z1 : w2.frozen? ⟨w1.heap.size, 1, none⟩ = false := (by rw [hz _ _ (by first | omega | (simp <;> omega)) (by omega)]; go_simp); have b2s2 : w2.cell? ⟨w1.heap.size, 2, none⟩ = some (.int .i64 0) := (by rw [hc _ _ (by first | omega | (simp <;> omega)) (by omega)]; go_simp); have b2z2 : w2.frozen? ⟨w1.heap.size, 2, none⟩ = false := (by rw [hz _ _ (by first | omega | (simp <;> omega)) (by omega)]; go_simp); have b2s3 : w2.cell? ⟨w1.heap.size, 3, none⟩ = some (.string ⟨#[]⟩) := (by rw [hc _ _ (by first | omega | (simp <;> omega)) (by omega)]; go_simp); have b2z3 : w2.frozen? ⟨w1.heap.size, 3, none⟩ = false := (by rw [hz _ _ (by first | omega | (simp <;> omega)) (by omega)]; go_simp); have b2s4 : w2.cell? ⟨w1.heap.size, 4, none⟩ = some (.slice none 0 0) := (by rw [hc _ _ (by first | omega | (simp <;> omega)) (by omega)]; go_simp); have b2z4 : w2.frozen? ⟨w1.heap.size, 4, none⟩ = false := (by rw [hz _ _ (by first | omega | (simp <;> omega)) (by omega)]; go_simp); have b2s5 : w2.cell? ⟨w1.heap.size, 5, none⟩ = some (.slice none 0 0) := (by rw [hc _ _ (by first | omega | (simp <;> omega)) (by omega)]; go_simp); have b2z5 : w2.frozen? ⟨w1.heap.size, 5, none⟩ = false := (by rw [hz _ _ (by first | omega | (simp <;> omega)) (by omega)]; go_simp); clear hc hz; have HS2 : Hid (Rs w2 r v2 q2 ((o) || no1 c)) := hS2; have G2 : Hid (Fr r w.heap.size w w2) := (ft (fin_w (T := w1.heap.size + 1) hr G1.out (Nat.le_refl _) (by repeat (first | with_reducible exact Bx.refl _ _ | with_reducible refine Bx.setCell ?_ (bt_of (by omega) (by omega)) _ | with_reducible refine Bx.alloc ?_ _ | with_reducible refine Bx.drew ?_))) hF2); clear hS2))
  refine ⟨rfl, Ans.no (fin_w (T := w1.heap.size + 1) hr G2.out (Nat.le_refl _) (by repeat (first | with_reducible exact Bx.refl _ _ | with_reducible refine Bx.setCell ?_ (bt_of (by omega) (by omega)) _ | with_reducible refine Bx.alloc ?_ _ | with_reducible refine Bx.drew ?_))) ?_⟩
  obtain ⟨e1, e2, e3, e4, e5, e6⟩ := HQ.out
  rw [HP.out, thn_of hx2]
  unfold bodyP
  rw [if_neg e1, if_neg e2, if_neg e3, if_neg e4, if_neg e5, if_neg e6]; rfl
theorem act_ans (r : Nat) (l : List TA) (v : Value) (o : Bool) (w : World) (h : Rs w r v l o) (hl : l.length ≤ 100000) :
    Calls Tryz.prog 98 #[pR r] w (Ans (RAgg RAct) actR ovT r w l o) := by
  cases hk : isK 0 (l.map Prod.fst) with
  | false => exact act_no r l v o w h hk
  | true =>
    obtain ⟨x, m, rfl, hx⟩ := isK_cons hk
    cases hm : nameR (m.map Prod.fst) with
    | none => exact act_bad r x m v o w h hl hx (fun s qs e => by rw [hm] at e; cases e)
    | some p =>
      obtain ⟨s, qs⟩ := p
      by_cases e1 : s = sMake
      · exact act_make r x m s qs v o w h hl hx hm e1
      by_cases e2 : s = sModify
      · exact act_modify r x m s qs v o w h hl hx hm e2
      by_cases e3 : s = sRemove
      · exact act_remove r x m s qs v o w h hl hx hm e3
      by_cases e4 : s = sBind
      · exact act_bind r x m s qs v o w h hl hx hm e4
      by_cases e5 : s = sWrite
      · exact act_write r x m s qs v o w h hl hx hm e5
      by_cases e6 : s = sHalt
      · exact act_halt r x m s qs v o w h hl hx hm e6
      refine act_bad r x m v o w h hl hx (fun s' qs' e => ?_)
      rw [hm] at e
      obtain ⟨rfl, _⟩ := Prod.mk.inj (Option.some.inj e)
      exact ⟨e1, e2, e3, e4, e5, e6⟩
end Go.Proofs.YtdcpfnffckkfcaaGreatDoor
namespace Go.Proofs.YtdcpfnffckkfcaaGreatDoor
open Go.RowKit
set_option linter.unusedVariables false
set_option linter.unusedSimpArgs false
set_option maxRecDepth 20000
theorem infoAct : (Tryz.prog.info? (tyK 9)).map (fun i => (i.zero, i.size, i.bytes)) = some (some (.agg #[.int .u8 0, .string ByteArray.empty, .int .i64 0, .string ByteArray.empty, .slice none 0 0, .slice none 0 0]), 6, 96) := by kernel_rfl
set_option maxHeartbeats 4000000 in
theorem sevAct (r : Nat) (e : Int) (most : Nat) (l : List TA) (v : Value) (o : Bool) (w : World) (h : Rs w r v l o) (hl : l.length ≤ 100000) :
    Calls Tryz.prog 97 #[pR r, .int .u8 e, .int .i64 most, .func (.func 98) #[pR r] #[]] w (Ans (RowP 9 6 RAct) (sevL e actR) (fun xs => xs.any ovT || decide (most < xs.length)) r w l o) := by
  have hr := h.lt
  have HL : Hid (l.length ≤ 100000) := hl
  have H0 : Hid (Rs w r v l o) := h
  clear h hl
  go_enter Tryz.func97, Tryz.ntmps97
  go_wp2
  go_loopw [9] (fun v9 wr => ∃ (css : List (List Value)) (xs : List (ActD × Nat)) (m : List TA) (v' : Value), OwnG 9 6 wr w.heap.size v9 css ∧ All2 (RAct wr w.heap.size) css xs ∧ Rs wr r v' m (o || xs.any ovT) ∧ Fr r w.heap.size w wr ∧ m.length + xs.length ≤ l.length ∧ sevL e actR (l.map Prod.fst) = (sevL e actR (m.map Prod.fst)).map fun p => (xs ++ p.1, p.2)) (fun _ wr => tokLen wr r)
  case atStart => exact ⟨[], [], l, v, OwnG.nil _ _ _ _, trivial, by rw [List.any_nil, Bool.or_false]; exact H0.out, Fr.refl _ _ _, by simp, sev_start _ _ _⟩
  case round =>
    obtain ⟨css, xs, m, v', hown, hall, hS, hF, hlen, heq⟩ := hrel
    have HC : Hid (css.length = xs.length) := hall.len
    have HO : Hid (OwnG 9 6 wr w.heap.size u9 css) := hown
    have HA : Hid (All2 (RAct wr w.heap.size) css xs) := hall
    have HE : Hid (sevL e actR (l.map Prod.fst) = (sevL e actR (m.map Prod.fst)).map fun p => (xs ++ p.1, p.2)) := heq
    have HS : Hid (Rs wr r v' m (o || xs.any ovT)) := hS
    have HF : Hid (Fr r w.heap.size w wr) := hF
    obtain ⟨a9, c9, rfl⟩ := hown.shape
    have hwz : w.heap.size ≤ wr.heap.size := hF.size
    clear hown hall heq hS hF H0
    cases hk : isK e (m.map Prod.fst) with
    | true =>
      obtain ⟨x, m', rfl, rfl⟩ := isK_cons hk
      have CP := pass_yes r x m' v' _ wr HS.out
      have HQ : Hid (sevL x.1.k actR (l.map Prod.fst) = some (xs, m'.map Prod.fst)) := sev_stop HE.out hk
      have CM := fun W v'' oo hh => atMost_any r most css.length m' v'' oo W hh
      go_wp2_with (first | (go_at_call 119; refine CP.mono ?_; rintro e w1 ⟨rfl, ⟨v1, hS1⟩, hF1⟩; clear CP; have HS1 : Hid (Rs w1 r v1 m' (o || xs.any ovT)) := hS1; clear hS1) | (go_at_call 66; refine (CM _ _ _ HS1.out).mono ?_; rintro e w2 ⟨rfl, hS2, hF2⟩; clear CM; have HS2 : Hid (Rs w2 r v1 m' ((o || xs.any ovT) || decide ((most : Int) < css.length))) := hS2; clear hS2))
      refine bodyPost_ret (v := .slice a9 css.length c9) (by simp [results, Tryz.results97, go_sem] <;> rfl) rfl ?_
      have F2 : Fr r wr.heap.size wr w2 := ft hF1 hF2
      refine Ans.yes (ft HF.out F2) HQ.out ?_ ⟨css, ((HO.out.fr hr F2).sl), part_act.all HA.out F2.size (blk_fr hr F2)⟩ HS2.out ?_
      · simp at hlen; omega
      · rw [Bool.or_assoc]; congr 2; rw [HC.out]; exact decide_eq_decide.2 (by omega)
    | false =>
      have CP := pass_no r e m v' _ wr HS.out hk
      have CQ := act_ans r m v' _ wr HS.out (by have := HL.out; omega)
      have HK : Hid (isK e (m.map Prod.fst) = false) := hk
      clear hk
      have hfn : ∀ w, Sem.run Tryz.prog (callFunc 98 #[pR r]) w = .ok (.enter 98 #[pR r]) w := fun _ => rfl
      go_wp2_with (first | (go_at_call 119; refine CP.mono ?_; rintro e w1 ⟨rfl, hw⟩; obtain rfl := hw.symm; clear CP) | (go_at_call 98; refine Ans.use CQ (fun w' hf hn => ⟨rfl, Ans.no (ft HF.out hf) (sev_fail HE.out HK.out hn)⟩) ?_; rintro x rest val v2 w2 hF2 hx hl2 ⟨cs, rfl, hR⟩ hS2; have hR' := hR; obtain ⟨va, vb, hcs, h1, h2⟩ := hR'; obtain ⟨a1, n1, c1, e1⟩ := h1.like; obtain ⟨a2, n2, c2, e2⟩ := h2.like; subst e1; subst e2; subst hcs; have HR : Hid (RAct w2 wr.heap.size _ x) := hR; clear hR h1 h2; clear CQ) | (at_builtin; refine wp_app_g (K := 9) Tryz.underlying47 infoAct rfl (by decide) (by decide) rfl _ _ rfl w.heap.size (.slice a9 css.length c9) css [.int .u8 x.1.k, .string (st x.1.c), .int .i64 x.1.n, .string (st x.1.v), .slice a1 n1 c1, .slice a2 n2 c2] rfl ((HO.out.fr hr hF2).below (bxn _ _)) ⟨_, 0, none⟩ 1 rfl (part_act.len HR.out) (lit_cells _ _ _) (part_act.one HR.out) (by have := HL.out; have := HC.out; omega) (Nat.le_trans (Nat.le_trans hwz hF2.size) (bxn _ _).size) ?_; rintro v3 w3 ho3 hg3 hb3; have HO3 : Hid (OwnG 9 6 w3 w.heap.size v3 (css ++ [[.int .u8 x.1.k, .string (st x.1.c), .int .i64 x.1.n, .string (st x.1.v), .slice a1 n1 c1, .slice a2 n2 c2]])) := ho3; have HG3 : Hid (∀ k b, Blk _ w.heap.size 9 k b → w3.heap[b]? = _) := blk_grown (by decide) ((HO.out.fr hr hF2).below (bxn _ _)) hg3; have HB3 : Hid (Below w.heap.size _ w3) := hb3; clear ho3 hg3 hb3))
      go_roundw
      case rel =>
        refine ⟨css ++ [[.int .u8 x.1.k, .string (st x.1.c), .int .i64 x.1.n, .string (st x.1.v), .slice a1 n1 c1, .slice a2 n2 c2]], xs ++ [x], rest, v2, HO3.out, ?_, ?_, ?_, ?_, sev_step actR_eats HE.out HK.out hx⟩
        · refine All2.snoc (part_act.keep (part_act.keep (part_act.low HR.out hwz) (bxn _ _).size (blk_below (bxn _ _))) HB3.out.size HG3.out) (part_act.all (part_act.all (part_act.all HA.out hF2.size (blk_fr hr hF2)) (bxn _ _).size (blk_below (bxn _ _))) HB3.out.size HG3.out)
        · rw [List.any_append, ← Bool.or_assoc]
          have := (hS2.below (bxn _ _)).bel hr HB3.out
          simpa using this
        · exact (ft HF.out (fo hF2 (bxn _ _))).trans (Fr.of HB3.out)
        · have := actR_eats.len hx; simp at this ⊢; omega
      case measure =>
        have h1 := HS.out
        have h2 : Rs w3 r v2 rest _ := (hS2.below (bxn _ _)).bel hr HB3.out
        rw [h1.toks, h2.toks]
        have := actR_eats.len hx
        simp at this; omega
theorem infoCond : (Tryz.prog.info? (tyK 8)).map (fun i => (i.zero, i.size, i.bytes)) = some (some (.agg #[.bool false, .string ByteArray.empty, .slice none 0 0]), 3, 48) := by kernel_rfl
set_option maxHeartbeats 4000000 in
theorem sevCond (r : Nat) (e : Int) (most : Nat) (l : List TA) (v : Value) (o : Bool) (w : World) (h : Rs w r v l o) (hl : l.length ≤ 100000) :
    Calls Tryz.prog 118 #[pR r, .int .u8 e, .int .i64 most, .func (.func 96) #[pR r] #[]] w (Ans (RowP 8 3 RCond) (sevL e condR) (fun xs => xs.any ovC || decide (most < xs.length)) r w l o) := by
  have hr := h.lt
  have HL : Hid (l.length ≤ 100000) := hl
  have H0 : Hid (Rs w r v l o) := h
  clear h hl
  go_enter Tryz.func118, Tryz.ntmps118
  go_wp2
  go_loopw [9] (fun v9 wr => ∃ (css : List (List Value)) (xs : List CondD) (m : List TA) (v' : Value), OwnG 8 3 wr w.heap.size v9 css ∧ All2 (RCond wr w.heap.size) css xs ∧ Rs wr r v' m (o || xs.any ovC) ∧ Fr r w.heap.size w wr ∧ m.length + xs.length ≤ l.length ∧ sevL e condR (l.map Prod.fst) = (sevL e condR (m.map Prod.fst)).map fun p => (xs ++ p.1, p.2)) (fun _ wr => tokLen wr r)
  case atStart => exact ⟨[], [], l, v, OwnG.nil _ _ _ _, trivial, by rw [List.any_nil, Bool.or_false]; exact H0.out, Fr.refl _ _ _, by simp, sev_start _ _ _⟩
  case round =>
    obtain ⟨css, xs, m, v', hown, hall, hS, hF, hlen, heq⟩ := hrel
    have HC : Hid (css.length = xs.length) := hall.len
    have HO : Hid (OwnG 8 3 wr w.heap.size u9 css) := hown
    have HA : Hid (All2 (RCond wr w.heap.size) css xs) := hall
    have HE : Hid (sevL e condR (l.map Prod.fst) = (sevL e condR (m.map Prod.fst)).map fun p => (xs ++ p.1, p.2)) := heq
    have HS : Hid (Rs wr r v' m (o || xs.any ovC)) := hS
    have HF : Hid (Fr r w.heap.size w wr) := hF
    obtain ⟨a9, c9, rfl⟩ := hown.shape
    have hwz : w.heap.size ≤ wr.heap.size := hF.size
    clear hown hall heq hS hF H0
    cases hk : isK e (m.map Prod.fst) with
    | true =>
      obtain ⟨x, m', rfl, rfl⟩ := isK_cons hk
      have CP := pass_yes r x m' v' _ wr HS.out
      have HQ : Hid (sevL x.1.k condR (l.map Prod.fst) = some (xs, m'.map Prod.fst)) := sev_stop HE.out hk
      have CM := fun W v'' oo hh => atMost_any r most css.length m' v'' oo W hh
      go_wp2_with (first | (go_at_call 119; refine CP.mono ?_; rintro e w1 ⟨rfl, ⟨v1, hS1⟩, hF1⟩; clear CP; have HS1 : Hid (Rs w1 r v1 m' (o || xs.any ovC)) := hS1; clear hS1) | (go_at_call 66; refine (CM _ _ _ HS1.out).mono ?_; rintro e w2 ⟨rfl, hS2, hF2⟩; clear CM; have HS2 : Hid (Rs w2 r v1 m' ((o || xs.any ovC) || decide ((most : Int) < css.length))) := hS2; clear hS2))
      refine bodyPost_ret (v := .slice a9 css.length c9) (by simp [results, Tryz.results118, go_sem] <;> rfl) rfl ?_
      have F2 : Fr r wr.heap.size wr w2 := ft hF1 hF2
      refine Ans.yes (ft HF.out F2) HQ.out ?_ ⟨css, ((HO.out.fr hr F2).sl), part_cond.all HA.out F2.size (blk_fr hr F2)⟩ HS2.out ?_
      · simp at hlen; omega
      · rw [Bool.or_assoc]; congr 2; rw [HC.out]; exact decide_eq_decide.2 (by omega)
    | false =>
      have CP := pass_no r e m v' _ wr HS.out hk
      have CQ := cond_ans r m v' _ wr HS.out (by have := HL.out; omega)
      have HK : Hid (isK e (m.map Prod.fst) = false) := hk
      clear hk
      have hfn : ∀ w, Sem.run Tryz.prog (callFunc 96 #[pR r]) w = .ok (.enter 96 #[pR r]) w := fun _ => rfl
      go_wp2_with (first | (go_at_call 119; refine CP.mono ?_; rintro e w1 ⟨rfl, hw⟩; obtain rfl := hw.symm; clear CP) | (go_at_call 96; refine Ans.use CQ (fun w' hf hn => ⟨rfl, Ans.no (ft HF.out hf) (sev_fail HE.out HK.out hn)⟩) ?_; rintro x rest val v2 w2 hF2 hx hl2 ⟨cs, rfl, hR⟩ hS2; have hR' := hR; obtain ⟨va, hcs, h1⟩ := hR'; obtain ⟨a1, n1, c1, e1⟩ := h1.like; subst e1; subst hcs; have HR : Hid (RCond w2 wr.heap.size _ x) := hR; clear hR h1; clear CQ) | (at_builtin; refine wp_app_g (K := 8) Tryz.underlying46 infoCond rfl (by decide) (by decide) rfl _ _ rfl w.heap.size (.slice a9 css.length c9) css [.bool x.neg, .string (st x.c), .slice a1 n1 c1] rfl ((HO.out.fr hr hF2).below (bxn _ _)) ⟨_, 0, none⟩ 1 rfl (part_cond.len HR.out) (lit_cells _ _ _) (part_cond.one HR.out) (by have := HL.out; have := HC.out; omega) (Nat.le_trans (Nat.le_trans hwz hF2.size) (bxn _ _).size) ?_; rintro v3 w3 ho3 hg3 hb3; have HO3 : Hid (OwnG 8 3 w3 w.heap.size v3 (css ++ [[.bool x.neg, .string (st x.c), .slice a1 n1 c1]])) := ho3; have HG3 : Hid (∀ k b, Blk _ w.heap.size 8 k b → w3.heap[b]? = _) := blk_grown (by decide) ((HO.out.fr hr hF2).below (bxn _ _)) hg3; have HB3 : Hid (Below w.heap.size _ w3) := hb3; clear ho3 hg3 hb3))
      go_roundw
      case rel =>
        refine ⟨css ++ [[.bool x.neg, .string (st x.c), .slice a1 n1 c1]], xs ++ [x], rest, v2, HO3.out, ?_, ?_, ?_, ?_, sev_step condR_eats HE.out HK.out hx⟩
        · refine All2.snoc (part_cond.keep (part_cond.keep (part_cond.low HR.out hwz) (bxn _ _).size (blk_below (bxn _ _))) HB3.out.size HG3.out) (part_cond.all (part_cond.all (part_cond.all HA.out hF2.size (blk_fr hr hF2)) (bxn _ _).size (blk_below (bxn _ _))) HB3.out.size HG3.out)
        · rw [List.any_append, ← Bool.or_assoc]
          have := (hS2.below (bxn _ _)).bel hr HB3.out
          simpa using this
        · exact (ft HF.out (fo hF2 (bxn _ _))).trans (Fr.of HB3.out)
        · have := condR_eats.len hx; simp at this ⊢; omega
      case measure =>
        have h1 := HS.out
        have h2 : Rs w3 r v2 rest _ := (hS2.below (bxn _ _)).bel hr HB3.out
        rw [h1.toks, h2.toks]
        have := condR_eats.len hx
        simp at this; omega
theorem somCond (r : Nat) (e : Int) (most : Nat) (l : List TA) (v : Value) (o : Bool) (w : World) (h : Rs w r v l o) (hl : l.length ≤ 100000) :
    Calls Tryz.prog 95 #[pR r, .int .u8 e, .int .i64 most, .func (.func 96) #[pR r] #[]] w (Ans (RowP 8 3 RCond) (somL e condR) (fun xs => xs.any ovC || decide (most < xs.length)) r w l o) := by
  have CS := sevCond r e most l v o w h hl
  clear h hl
  go_enter Tryz.func95, Tryz.ntmps95
  go_wp2_with (go_at_call 118; refine Ans.use CS (fun w' hf hn => ⟨rfl, Ans.no hf (som_none hn)⟩) ?_; rintro xs rest val v2 w2 hF2 hx hl2 hR hS2; have HR : Hid (RowP 8 3 RCond w2 w.heap.size val xs) := hR; obtain ⟨a9, c9, rfl⟩ := hR.shape; clear CS hR)
  · have hn : xs = [] := List.eq_nil_of_length_eq_zero (by have := ‹((xs.length : Int) == 0) = true›; simpa using this)
    subst hn
    exact ⟨rfl, Ans.no hF2 (som_nil hx)⟩
  · have hn : xs ≠ [] := by
      intro e
      have := ‹((xs.length : Int) == 0) = false›
      rw [e] at this; simp at this
    refine bodyPost_ret (v := .slice a9 xs.length c9) (by simp [results, Tryz.results95, go_sem] <;> rfl) rfl ?_
    exact Ans.yes hF2 (som_cons hn hx) hl2 HR.out hS2 rfl
end Go.Proofs.YtdcpfnffckkfcaaGreatDoor
namespace Go.Proofs.YtdcpfnffckkfcaaGreatDoor
open Go.RowKit
set_option linter.unusedVariables false
set_option linter.unusedSimpArgs false
set_option maxRecDepth 20000
def RRul (w : World) (b : Nat) (cs : List Value) (x : RuleD × Nat) : Prop := ReR (Blk w b 10) w cs x.1
theorem part_rul : Part 10 3 RRul := ⟨fun h hs hb => (ReR.keep (blk_stays hs hb) h).mono (blk_mono hb), fun h hl => h.mono (blk_low hl), fun h => by obtain ⟨v1, v2, h1, _⟩ := h; rw [h1]; rfl, fun h u hu => by
  obtain ⟨v1, v2, h1, h2, h3⟩ := h
  rw [h1] at hu
  simp at hu
  rcases hu with rfl | rfl | rfl
  · rfl
  · exact row_one h2
  · exact row_one h3⟩
theorem row_rul {W : World} {B b J : Nat} {v : Value} {xs : List (RuleD × Nat)} (hJ : 11 < J) (h : RowP 11 3 RRul W b v xs) (hb : B ≤ b) : Row 3 (ReR (Blk W B J)) W (Blk W B J 11) v (xs.map Prod.fst) := by
  obtain ⟨css, h1, h2⟩ := h
  exact ⟨css, h1.mono (blk_row hJ hb), all2_fst (h2.map fun _ _ => ReR.mono (blk_up (by omega) hb))⟩
set_option maxHeartbeats 4000000 in
theorem class_ans (r : Nat) (m : List TA) (v : Value) (o : Bool) (w : World) (h : Rs w r v (m) o) (hl : (m).length ≤ 100000) :
    Calls Tryz.prog 64 #[pR r] w (Ans (RAgg RClass) classR ovK r w (m) o) := by
  have hr := h.lt
  have F43 := field43
  have F43a := field43a
  have F43b := field43b
  have HH : Hid (Rs w r v (m) o) := h
  have HL : Hid ((m).length ≤ 100000) := hl
  have tok1 : Hid True := trivial
  have tok2 : Hid True := trivial
  clear h hl
  go_enter Tryz.func64, Tryz.ntmps64
  go_wp2_with (first | (go_at_call 63; have tku := tok1; clear tku tok1; refine Ans.use (name_ans r (m) v (o) _ (HH.out.below (bxn _ _))) (fun w' hf hn => ⟨rfl, Ans.no (fb (bxn _ _) hf) (by rw [classR_is, thn_none hn])⟩) ?_; rintro c q1 val1 v1 w1 hF1 hx1 hl1 rfl hS1; have y1 : w.heap.size + 1 ≤ w1.heap.size := (by have := hF1.size; first | omega | (simp at this; omega)); obtain ⟨hc, hz⟩ := fr_box hF1; have al1 : w.heap.size < w1.heap.size := (by omega); have a1s0 : w1.cell? ⟨w.heap.size, 0, none⟩ = some (.string ⟨#[]⟩) := (by rw [hc _ _ (by first | omega | (simp <;> omega)) (by omega)]; go_simp); have a1z0 : w1.frozen? ⟨w.heap.size, 0, none⟩ = false := (by rw [hz _ _ (by first | omega | (simp <;> omega)) (by omega)]; go_simp); have a1s1 : w1.cell? ⟨w.heap.size, 1, none⟩ = some (.slice none 0 0) := (by rw [hc _ _ (by first | omega | (simp <;> omega)) (by omega)]; go_simp); have a1z1 : w1.frozen? ⟨w.heap.size, 1, none⟩ = false := (by rw [hz _ _ (by first | omega | (simp <;> omega)) (by omega)]; go_simp); clear hc hz; have HS1 : Hid (Rs w1 r v1 q1 ((o) || no1 c)) := hS1; have G1 : Hid (Fr r w.heap.size w w1) := (fb (bxn _ _) hF1); clear hS1) | (go_at_call 94; have tku := tok2; clear tku tok2; refine Ans.use (somStr r 1 6 (q1) v1 ((o) || no1 c) _ (HS1.out.bx (T := w1.heap.size + 1) hr (by repeat (first | with_reducible exact Bx.refl _ _ | with_reducible refine Bx.setCell ?_ (bt_of (by omega) (by omega)) _ | with_reducible refine Bx.alloc ?_ _ | with_reducible refine Bx.drew ?_))) (by have := HL.out; first | omega | (simp at this; omega))) (fun w' hf hn => ⟨rfl, Ans.no (ft (fin_w (T := w1.heap.size + 1) hr G1.out (Nat.le_refl _) (by repeat (first | with_reducible exact Bx.refl _ _ | with_reducible refine Bx.setCell ?_ (bt_of (by omega) (by omega)) _ | with_reducible refine Bx.alloc ?_ _ | with_reducible refine Bx.drew ?_))) hf) (by rw [classR_is, thn_of hx1, thn_none hn])⟩) ?_; rintro xs q2 val2 v2 w2 hF2 hx2 hl2 hR hS2; obtain ⟨ba2, hbE, hba2⟩ : ∃ ba, ba = _ ∧ RowP 1 1 RStr w2 ba val2 xs := ⟨_, rfl, hR⟩; have R2_2 : Hid (RowP 1 1 RStr w2 ba2 val2 xs) := hba2; obtain ⟨a2, n2, c2, rfl⟩ := hR.like; have yb2 : w1.heap.size + 1 ≤ ba2 := (by rw [hbE]; first | omega | (simp <;> omega)); clear hR hba2 hbE; have y2 : w1.heap.size + 1 ≤ w2.heap.size := (by have := hF2.size; first | omega | (simp at this; omega)); obtain ⟨hc, hz⟩ := fr_box hF2; have al2 : w.heap.size < w2.heap.size := (by omega); have bl2 : w1.heap.size < w2.heap.size := (by omega); have a2s0 : w2.cell? ⟨w.heap.size, 0, none⟩ = some (.string ⟨#[]⟩) := (by rw [hc _ _ (by first | omega | (simp <;> omega)) (by omega)]; go_simp); have a2z0 : w2.frozen? ⟨w.heap.size, 0, none⟩ = false := (by rw [hz _ _ (by first | omega | (simp <;> omega)) (by omega)]; go_simp); have a2s1 : w2.cell? ⟨w.heap.size, 1, none⟩ = some (.slice none 0 0) := (by rw [hc _ _ (by first | omega | (simp <;> omega)) (by omega)]; go_simp); have a2z1 : w2.frozen? ⟨w.heap.size, 1, none⟩ = false := (by rw [hz _ _ (by first | omega | (simp <;> omega)) (by omega)]; go_simp); have b2s0 : w2.cell? ⟨w1.heap.size, 0, none⟩ = some (.string (st c)) := (by rw [hc _ _ (by first | omega | (simp <;> omega)) (by omega)]; go_simp); have b2z0 : w2.frozen? ⟨w1.heap.size, 0, none⟩ = false := (by rw [hz _ _ (by first | omega | (simp <;> omega)) (by omega)]; go_simp); have b2s1 : w2.cell? ⟨w1.heap.size, 1, none⟩ = some (.slice none 0 0) := (by rw [hc _ _ (by first | omega | (simp <;> omega)) (by omega)]; go_simp); have b2z1 : w2.frozen? ⟨w1.heap.size, 1, none⟩ = false := (by rw [hz _ _ (by first | omega | (simp <;> omega)) (by omega)]; go_simp); clear hc hz; have HS2 : Hid (Rs w2 r v2 q2 (((o) || no1 c) || ovL no1 6 xs)) := hS2; have G2 : Hid (Fr r w.heap.size w w2) := (ft (fin_w (T := w1.heap.size + 1) hr G1.out (Nat.le_refl _) (by repeat (first | with_reducible exact Bx.refl _ _ | with_reducible refine Bx.setCell ?_ (bt_of (by omega) (by omega)) _ | with_reducible refine Bx.alloc ?_ _ | with_reducible refine Bx.drew ?_))) hF2); clear hS2))
  refine bodyPost_ret (v := .agg #[.string (st c), .slice a2 n2 c2]) (by simp [results, Tryz.results64, go_sem, a2s0, a2s1, b2s0, b2s1, al2, bl2] <;> rfl) rfl ?_
  refine fin_ans (x := (⟨c, xs⟩ : ClassD)) (T := w1.heap.size + 1) (rest := q2) hr G2.out ?_ (by rw [classR_is, thn_of hx1, thn_of hx2]; rfl) (by first | omega | (simp; omega)) (fun HX => ⟨_, rfl, _, rfl, row_str (by decide) (RowP.bx part_str R2_2.out HX (by omega)) (by omega)⟩) HS2.out (by simp [no1, ovL, ovK, any_no1])
  repeat (first | with_reducible exact Bx.refl _ _ | with_reducible refine Bx.setCell ?_ (bt_of (by omega) (by omega)) _ | with_reducible refine Bx.alloc ?_ _ | with_reducible refine Bx.drew ?_)
set_option maxHeartbeats 4000000 in
theorem rule_ans (r : Nat) (m : List TA) (v : Value) (o : Bool) (w : World) (h : Rs w r v (m) o) (hl : (m).length ≤ 100000) :
    Calls Tryz.prog 65 #[pR r] w (Ans (RAgg RRul) ruleR ovR r w (m) o) := by
  have hr := h.lt
  have F43 := field43
  have F43a := field43a
  have F43b := field43b
  have HH : Hid (Rs w r v (m) o) := h
  have HL : Hid ((m).length ≤ 100000) := hl
  have tok1 : Hid True := trivial
  have tok2 : Hid True := trivial
  have tok3 : Hid True := trivial
  clear h hl
  go_enter Tryz.func65, Tryz.ntmps65
  go_wp2_with (first | (go_at_call 63; have tku := tok1; clear tku tok1; refine Ans.use (name_ans r (m) v (o) _ (HH.out.below (bxn _ _))) (fun w' hf hn => ⟨rfl, Ans.no (fb (bxn _ _) hf) (by rw [ruleR_is, thn_none hn])⟩) ?_; rintro c q1 val1 v1 w1 hF1 hx1 hl1 rfl hS1; have y1 : w.heap.size + 1 ≤ w1.heap.size := (by have := hF1.size; first | omega | (simp at this; omega)); obtain ⟨hc, hz⟩ := fr_box hF1; have al1 : w.heap.size < w1.heap.size := (by omega); have a1s0 : w1.cell? ⟨w.heap.size, 0, none⟩ = some (.string ⟨#[]⟩) := (by rw [hc _ _ (by first | omega | (simp <;> omega)) (by omega)]; go_simp); have a1z0 : w1.frozen? ⟨w.heap.size, 0, none⟩ = false := (by rw [hz _ _ (by first | omega | (simp <;> omega)) (by omega)]; go_simp); have a1s1 : w1.cell? ⟨w.heap.size, 1, none⟩ = some (.slice none 0 0) := (by rw [hc _ _ (by first | omega | (simp <;> omega)) (by omega)]; go_simp); have a1z1 : w1.frozen? ⟨w.heap.size, 1, none⟩ = false := (by rw [hz _ _ (by first | omega | (simp <;> omega)) (by omega)]; go_simp); have a1s2 : w1.cell? ⟨w.heap.size, 2, none⟩ = some (.slice none 0 0) := (by rw [hc _ _ (by first | omega | (simp <;> omega)) (by omega)]; go_simp); have a1z2 : w1.frozen? ⟨w.heap.size, 2, none⟩ = false := (by rw [hz _ _ (by first | omega | (simp <;> omega)) (by omega)]; go_simp); clear hc hz; have HS1 : Hid (Rs w1 r v1 q1 ((o) || no1 c)) := hS1; have G1 : Hid (Fr r w.heap.size w w1) := (fb (bxn _ _) hF1); clear hS1) | (go_at_call 95; have tku := tok2; clear tku tok2; refine Ans.use (somCond r 6 5 (q1) v1 ((o) || no1 c) _ (HS1.out.bx (T := w1.heap.size + 1) hr (by repeat (first | with_reducible exact Bx.refl _ _ | with_reducible refine Bx.setCell ?_ (bt_of (by omega) (by omega)) _ | with_reducible refine Bx.alloc ?_ _ | with_reducible refine Bx.drew ?_))) (by have := HL.out; first | omega | (simp at this; omega))) (fun w' hf hn => ⟨rfl, Ans.no (ft (fin_w (T := w1.heap.size + 1) hr G1.out (Nat.le_refl _) (by repeat (first | with_reducible exact Bx.refl _ _ | with_reducible refine Bx.setCell ?_ (bt_of (by omega) (by omega)) _ | with_reducible refine Bx.alloc ?_ _ | with_reducible refine Bx.drew ?_))) hf) (by rw [ruleR_is, thn_of hx1, thn_none hn])⟩) ?_; rintro xs q2 val2 v2 w2 hF2 hx2 hl2 hR hS2; obtain ⟨ba2, hbE, hba2⟩ : ∃ ba, ba = _ ∧ RowP 8 3 RCond w2 ba val2 xs := ⟨_, rfl, hR⟩; have R2_2 : Hid (RowP 8 3 RCond w2 ba2 val2 xs) := hba2; obtain ⟨a2, n2, c2, rfl⟩ := hR.like; have yb2 : w1.heap.size + 1 ≤ ba2 := (by rw [hbE]; first | omega | (simp <;> omega)); clear hR hba2 hbE; have y2 : w1.heap.size + 1 ≤ w2.heap.size := (by have := hF2.size; first | omega | (simp at this; omega)); obtain ⟨hc, hz⟩ := fr_box hF2; have al2 : w.heap.size < w2.heap.size := (by omega); have bl2 : w1.heap.size < w2.heap.size := (by omega); have a2s0 : w2.cell? ⟨w.heap.size, 0, none⟩ = some (.string ⟨#[]⟩) := (by rw [hc _ _ (by first | omega | (simp <;> omega)) (by omega)]; go_simp); have a2z0 : w2.frozen? ⟨w.heap.size, 0, none⟩ = false := (by rw [hz _ _ (by first | omega | (simp <;> omega)) (by omega)]; go_simp); have a2s1 : w2.cell? ⟨w.heap.size, 1, none⟩ = some (.slice none 0 0) := (by rw [hc _ _ (by first | omega | (simp <;> omega)) (by omega)]; go_simp); have a2z1 : w2.frozen? ⟨w.heap.size, 1, none⟩ = false := (by rw [hz _ _ (by first | omega | (simp <;> omega)) (by omega)]; go_simp); have a2s2 : w2.cell? ⟨w.heap.size, 2, none⟩ = some (.slice none 0 0) := (by rw [hc _ _ (by first | omega | (simp <;> omega)) (by omega)]; go_simp); have a2z2 : w2.frozen? ⟨w.heap.size, 2, none⟩ = false := (by rw [hz _ _ (by first | omega | (simp <;> omega)) (by omega)]; go_simp); have b2s0 : w2.cell? ⟨w1.heap.size, 0, none⟩ = some (.string (st c)) := (by rw [hc _ _ (by first | omega | (simp <;> omega)) (by omega)]; go_simp); have b2z0 : w2.frozen? ⟨w1.heap.size, 0, none⟩ = false := (by rw [hz _ _ (by first | omega | (simp <;> omega)) (by omega)]; go_simp); have b2s1 : w2.cell? ⟨w1.heap.size, 1, none⟩ = some (.slice none 0 0) := (by rw [hc _ _ (by first | omega | (simp <;> omega)) (by omega)]; go_simp); have b2z1 : w2.frozen? ⟨w1.heap.size, 1, none⟩ = false := (by rw [hz _ _ (by first | omega | (simp <;> omega)) (by omega)]; go_simp); have b2s2 : w2.cell? ⟨w1.heap.size, 2, none⟩ = some (.slice none 0 0) := (by rw [hc _ _ (by first | omega | (simp <;> omega)) (by omega)]; go_simp); have b2z2 : w2.frozen? ⟨w1.heap.size, 2, none⟩ = false := (by rw [hz _ _ (by first | omega | (simp <;> omega)) (by omega)]; go_simp); clear hc hz; have HS2 : Hid (Rs w2 r v2 q2 (((o) || no1 c) || ovL ovC 5 xs)) := hS2; have G2 : Hid (Fr r w.heap.size w w2) := (ft (fin_w (T := w1.heap.size + 1) hr G1.out (Nat.le_refl _) (by repeat (first | with_reducible exact Bx.refl _ _ | with_reducible refine Bx.setCell ?_ (bt_of (by omega) (by omega)) _ | with_reducible refine Bx.alloc ?_ _ | with_reducible refine Bx.drew ?_))) hF2); clear hS2) | (go_at_call 97; have tku := tok3; clear tku tok3; refine Ans.use (sevAct r 1 8 (q2) v2 (((o) || no1 c) || ovL ovC 5 xs) _ (HS2.out.bx (T := w1.heap.size + 1) hr (by repeat (first | with_reducible exact Bx.refl _ _ | with_reducible refine Bx.setCell ?_ (bt_of (by omega) (by omega)) _ | with_reducible refine Bx.alloc ?_ _ | with_reducible refine Bx.drew ?_))) (by have := HL.out; first | omega | (simp at this; omega))) (fun w' hf hn => ⟨rfl, Ans.no (ft (fin_w (T := w1.heap.size + 1) hr G2.out (Nat.le_refl _) (by repeat (first | with_reducible exact Bx.refl _ _ | with_reducible refine Bx.setCell ?_ (bt_of (by omega) (by omega)) _ | with_reducible refine Bx.alloc ?_ _ | with_reducible refine Bx.drew ?_))) hf) (by rw [ruleR_is, thn_of hx1, thn_of hx2, thn_none hn])⟩) ?_; rintro ys q3 val3 v3 w3 hF3 hx3 hl3 hR hS3; obtain ⟨ba3, hbE, hba3⟩ : ∃ ba, ba = _ ∧ RowP 9 6 RAct w3 ba val3 ys := ⟨_, rfl, hR⟩; have R3_3 : Hid (RowP 9 6 RAct w3 ba3 val3 ys) := hba3; obtain ⟨a3, n3, c3, rfl⟩ := hR.like; have yb3 : w2.heap.size ≤ ba3 := (by rw [hbE]; first | omega | (simp <;> omega)); clear hR hba3 hbE; have y3 : w2.heap.size ≤ w3.heap.size := (by have := hF3.size; first | omega | (simp at this; omega)); obtain ⟨hc, hz⟩ := fr_box hF3; have al3 : w.heap.size < w3.heap.size := (by omega); have bl3 : w1.heap.size < w3.heap.size := (by omega); have a3s0 : w3.cell? ⟨w.heap.size, 0, none⟩ = some (.string ⟨#[]⟩) := (by rw [hc _ _ (by first | omega | (simp <;> omega)) (by omega)]; go_simp); have a3z0 : w3.frozen? ⟨w.heap.size, 0, none⟩ = false := (by rw [hz _ _ (by first | omega | (simp <;> omega)) (by omega)]; go_simp); have a3s1 : w3.cell? ⟨w.heap.size, 1, none⟩ = some (.slice none 0 0) := (by rw [hc _ _ (by first | omega | (simp <;> omega)) (by omega)]; go_simp); have a3z1 : w3.frozen? ⟨w.heap.size, 1, none⟩ = false := (by rw [hz _ _ (by first | omega | (simp <;> omega)) (by omega)]; go_simp); have a3s2 : w3.cell? ⟨w.heap.size, 2, none⟩ = some (.slice none 0 0) := (by rw [hc _ _ (by first | omega | (simp <;> omega)) (by omega)]; go_simp); have a3z2 : w3.frozen? ⟨w.heap.size, 2, none⟩ = false := (by rw [hz _ _ (by first | omega | (simp <;> omega)) (by omega)]; go_simp); have b3s0 : w3.cell? ⟨w1.heap.size, 0, none⟩ = some (.string (st c)) := (by rw [hc _ _ (by first | omega | (simp <;> omega)) (by omega)]; go_simp); have b3z0 : w3.frozen? ⟨w1.heap.size, 0, none⟩ = false := (by rw [hz _ _ (by first | omega | (simp <;> omega)) (by omega)]; go_simp); have b3s1 : w3.cell? ⟨w1.heap.size, 1, none⟩ = some (.slice a2 n2 c2) := (by rw [hc _ _ (by first | omega | (simp <;> omega)) (by omega)]; go_simp); have b3z1 : w3.frozen? ⟨w1.heap.size, 1, none⟩ = false := (by rw [hz _ _ (by first | omega | (simp <;> omega)) (by omega)]; go_simp); have b3s2 : w3.cell? ⟨w1.heap.size, 2, none⟩ = some (.slice none 0 0) := (by rw [hc _ _ (by first | omega | (simp <;> omega)) (by omega)]; go_simp); have b3z2 : w3.frozen? ⟨w1.heap.size, 2, none⟩ = false := (by rw [hz _ _ (by first | omega | (simp <;> omega)) (by omega)]; go_simp); clear hc hz; have HS3 : Hid (Rs w3 r v3 q3 ((((o) || no1 c) || ovL ovC 5 xs) || ovL ovT 8 ys)) := hS3; have G3 : Hid (Fr r w.heap.size w w3) := (ft (fin_w (T := w1.heap.size + 1) hr G2.out (Nat.le_refl _) (by repeat (first | with_reducible exact Bx.refl _ _ | with_reducible refine Bx.setCell ?_ (bt_of (by omega) (by omega)) _ | with_reducible refine Bx.alloc ?_ _ | with_reducible refine Bx.drew ?_))) hF3); have R2_3 : Hid (RowP 8 3 RCond w3 ba2 (.slice a2 n2 c2) xs) := RowP.fr part_cond (RowP.bx part_cond R2_2.out (B := w.heap.size) (T := w1.heap.size + 1) (by repeat (first | with_reducible exact Bx.refl _ _ | with_reducible refine Bx.setCell ?_ (bt_of (by omega) (by omega)) _ | with_reducible refine Bx.alloc ?_ _ | with_reducible refine Bx.drew ?_)) (by omega)) (by omega) hF3; clear hS3))
  refine bodyPost_ret (v := .agg #[.string (st c), .slice a2 n2 c2, .slice a3 n3 c3]) (by simp [results, Tryz.results65, go_sem, a3s0, a3s1, a3s2, b3s0, b3s1, b3s2, al3, bl3] <;> rfl) rfl ?_
  refine fin_ans (x := ((⟨c, xs, ys.map Prod.fst⟩ : RuleD), deepOf (ys.map Prod.snd))) (T := w1.heap.size + 1) (rest := q3) hr G3.out ?_ (by rw [ruleR_is, thn_of hx1, thn_of hx2, thn_of hx3]; rfl) (by first | omega | (simp; omega)) (fun HX => ⟨_, rfl, _, _, rfl, row_cond (by decide) (RowP.bx part_cond R2_3.out HX (by omega)) (by omega), row_act (by decide) (RowP.bx part_act R3_3.out HX (by omega)) (by omega)⟩) HS3.out (by rw [ovR_is]; simp [no1, ovL, Bool.or_assoc])
  repeat (first | with_reducible exact Bx.refl _ _ | with_reducible refine Bx.setCell ?_ (bt_of (by omega) (by omega)) _ | with_reducible refine Bx.alloc ?_ _ | with_reducible refine Bx.drew ?_)
end Go.Proofs.YtdcpfnffckkfcaaGreatDoor
namespace Go.Proofs.YtdcpfnffckkfcaaGreatDoor
open Go.RowKit
set_option linter.unusedVariables false
set_option linter.unusedSimpArgs false
set_option maxRecDepth 20000
theorem extSetD {x y : SetD} (h1 : x.a = y.a) (h2 : x.e = y.e) : x = y := by cases x; cases y; simp_all
theorem psameX_any {Q1 Q2 : Nat → Prop} (v1 v2 : Value) (xs ys : List ItemD) (w : World) (h1 : SlW 5 w Q1 v1 (xs.map clI)) (h2 : SlW 5 w Q2 v2 (ys.map clI)) :
    Calls Tryz.prog 84 #[v1, v2] w fun e w' => e = .returned (.bool (decide (xs = ys))) ∧ Below w.heap.size w w' := by
  have C := eqI_any v1 v2 xs ys w h1 h2
  obtain ⟨a1, n1, c1, rfl⟩ := h1.like
  obtain ⟨a2, n2, c2, rfl⟩ := h2.like
  clear h1 h2
  go_enter Tryz.func84, Tryz.ntmps84
  go_wp2_with (go_at_call 108; refine C.mono ?_; rintro e w1 ⟨rfl, hb⟩; clear C)
  go_ret
  exact ⟨rfl, hb⟩
theorem psameE_any {P1 P2 : Nat → Nat → Prop} (cs1 cs2 : List Value) (x y : List ItemD) (w : World) (h1 : ReE P1 w cs1 x) (h2 : ReE P2 w cs2 y) :
    ∀ v1 v2, cs1 = [v1] → cs2 = [v2] → Calls Tryz.prog 84 #[v1, v2] w fun e w' => e = .returned (.bool (decide (x = y))) ∧ Below w.heap.size w w' := by
  rintro v1 v2 rfl rfl
  obtain ⟨u1, e1, k1⟩ := h1
  obtain ⟨u2, e2, k2⟩ := h2
  rw [(List.cons.inj e1).1, (List.cons.inj e2).1]
  exact psameX_any u1 u2 x y w k1 k2
set_option maxHeartbeats 4000000 in
theorem psameK_any {P1 P2 : Nat → Nat → Prop} (cs1 cs2 : List Value) (x y : ClassD) (w : World) (h1 : ReK P1 w cs1 x) (h2 : ReK P2 w cs2 y) :
    Calls Tryz.prog 27 #[.agg cs1.toArray, .agg cs2.toArray] w fun e w' => e = .returned (.bool (decide (x = y))) ∧ Below w.heap.size w w' := by
  obtain ⟨va1, hcs1, r1⟩ := h1; obtain ⟨a1, n1, c1, e1⟩ := r1.like; subst e1
  obtain ⟨va2, hcs2, r2⟩ := h2; obtain ⟨a2, n2, c2, e2⟩ := r2.like; subst e2
  subst hcs1
  subst hcs2
  obtain ⟨A, hA⟩ : ∃ A, A = decide (x = y) := ⟨_, rfl⟩
  rw [← hA]
  have HA : Hid (A = decide (x = y)) := hA
  clear hA
  have C0 : ∀ W, Below w.heap.size w W → Calls Tryz.prog 45 _ W fun e w' => e = .returned (.bool (decide (x.attrs = y.attrs))) ∧ Below W.heap.size W w' := fun W hW => eqS_any _ _ x.attrs y.attrs W (SlW.keep (P := P1) (Stays.below hW) r1) (SlW.keep (P := P2) (Stays.below hW) r2)
  clear r1 r2
  by_cases hnm : ¬ (x.nm = y.nm)
  · have hznm : ((st x.nm).toList == (st y.nm).toList) = false := by rw [beq_eq_false_iff_ne]; exact fun e => hnm (st_eq e)
    have HN : Hid (A = false) := by show _ = _; rw [HA.out]; exact decide_eq_false (fun e => hnm (by rw [e]))
    clear HA hnm
    go_enter Tryz.func27, Tryz.ntmps27
    go_wp2
    go_ret
    exact ⟨ret_bool HN.out.symm, bxn2t _ _ _⟩
  replace hnm := Classical.not_not.1 hnm
  rw [← hnm]
  have Hnm : Hid (x.nm = y.nm) := hnm
  clear hnm
  by_cases hr0 : x.attrs = y.attrs
  case neg =>
    have HN : Hid (A = false) := by show _ = _; rw [HA.out]; exact decide_eq_false (fun e => hr0 (by rw [e]))
    simp only [decide_eq_false hr0] at C0
    clear HA hr0
    go_enter Tryz.func27, Tryz.ntmps27
    go_wp2_with (first | (go_at_call 45; refine (C0 _ (bt (bxn _ _) (bxn _ _))).mono ?_; rintro e w5 ⟨rfl, hb0⟩; clear C0))
    go_ret
    exact ⟨ret_bool HN.out.symm, bt (bxn2t _ _ _) hb0⟩
  have Hr0 : Hid (x.attrs = y.attrs) := hr0
  simp only [decide_eq_true hr0] at C0
  clear hr0
  have HN : Hid (A = true) := by show _ = _; rw [HA.out]; exact decide_eq_true (extClassD Hnm.out Hr0.out)
  clear HA
  go_enter Tryz.func27, Tryz.ntmps27
  go_wp2_with (first | (go_at_call 45; refine (C0 _ (bt (bxn _ _) (bxn _ _))).mono ?_; rintro e w5 ⟨rfl, hb0⟩; clear C0))
  go_ret
  exact ⟨ret_bool HN.out.symm, bt (bxn2t _ _ _) hb0⟩
set_option maxHeartbeats 4000000 in
theorem psameA_any {P1 P2 : Nat → Nat → Prop} (cs1 cs2 : List Value) (x y : AttrD) (w : World) (h1 : ReA P1 w cs1 x) (h2 : ReA P2 w cs2 y) :
    Calls Tryz.prog 80 #[.agg cs1.toArray, .agg cs2.toArray] w fun e w' => e = .returned (.bool (decide (x = y))) ∧ Below w.heap.size w w' := by
  obtain ⟨va1, vb1, hcs1, r1, t1⟩ := h1; obtain ⟨a1, n1, c1, e1⟩ := r1.like; obtain ⟨b1, m1, d1, f1⟩ := t1.like; subst e1; subst f1
  obtain ⟨va2, vb2, hcs2, r2, t2⟩ := h2; obtain ⟨a2, n2, c2, e2⟩ := r2.like; obtain ⟨b2, m2, d2, f2⟩ := t2.like; subst e2; subst f2
  subst hcs1
  subst hcs2
  obtain ⟨A, hA⟩ : ∃ A, A = decide (x = y) := ⟨_, rfl⟩
  rw [← hA]
  have HA : Hid (A = decide (x = y)) := hA
  clear hA
  have C0 : ∀ W, Below w.heap.size w W → Calls Tryz.prog 106 _ W fun e w' => e = .returned (.bool (decide (x.ones = y.ones))) ∧ Below W.heap.size W w' := fun W hW => eqV_any _ _ x.ones y.ones W (SlW.keep (P := P1) (Stays.below hW) r1) (SlW.keep (P := P2) (Stays.below hW) r2)
  have C1 : ∀ W, Below w.heap.size w W → Calls Tryz.prog 107 _ W fun e w' => e = .returned (.bool (decide (x.tests = y.tests))) ∧ Below W.heap.size W w' := fun W hW => eqT_any _ _ x.tests y.tests W (SlW.keep (P := P1) (Stays.below hW) t1) (SlW.keep (P := P2) (Stays.below hW) t2)
  clear r1 r2 t1 t2
  by_cases ha : ¬ (x.a = y.a)
  · have hza : ((st x.a).toList == (st y.a).toList) = false := by rw [beq_eq_false_iff_ne]; exact fun e => ha (st_eq e)
    have HN : Hid (A = false) := by show _ = _; rw [HA.out]; exact decide_eq_false (fun e => ha (by rw [e]))
    clear HA ha
    go_enter Tryz.func80, Tryz.ntmps80
    go_wp2
    go_ret
    exact ⟨ret_bool HN.out.symm, bxn2t _ _ _⟩
  replace ha := Classical.not_not.1 ha
  rw [← ha]
  have Ha : Hid (x.a = y.a) := ha
  clear ha
  by_cases hr0 : x.ones = y.ones
  case neg =>
    have HN : Hid (A = false) := by show _ = _; rw [HA.out]; exact decide_eq_false (fun e => hr0 (by rw [e]))
    simp only [decide_eq_false hr0] at C0
    clear HA hr0
    go_enter Tryz.func80, Tryz.ntmps80
    go_wp2_with (first | (go_at_call 106; refine (C0 _ (bt (bxn _ _) (bxn _ _))).mono ?_; rintro e w5 ⟨rfl, hb0⟩; clear C0; obtain ⟨hc, hz⟩ := bcell hb0; have g10 : w5.cell? ⟨w.heap.size, 0, none⟩ = some (.string (st x.a)) := (by rw [hc _ _ (by simp <;> omega)]; go_simp); have g11 : w5.cell? ⟨w.heap.size, 1, none⟩ = some (.slice a1 n1 c1) := (by rw [hc _ _ (by simp <;> omega)]; go_simp); have g12 : w5.cell? ⟨w.heap.size, 2, none⟩ = some (.slice b1 m1 d1) := (by rw [hc _ _ (by simp <;> omega)]; go_simp); have g20 : w5.cell? ⟨(w.heap.size + 1), 0, none⟩ = some (.string (st x.a)) := (by rw [hc _ _ (by simp <;> omega)]; go_simp); have g21 : w5.cell? ⟨(w.heap.size + 1), 1, none⟩ = some (.slice a2 n2 c2) := (by rw [hc _ _ (by simp <;> omega)]; go_simp); have g22 : w5.cell? ⟨(w.heap.size + 1), 2, none⟩ = some (.slice b2 m2 d2) := (by rw [hc _ _ (by simp <;> omega)]; go_simp); clear hc hz))
    go_ret
    exact ⟨ret_bool HN.out.symm, bt (bxn2t _ _ _) hb0⟩
  have Hr0 : Hid (x.ones = y.ones) := hr0
  simp only [decide_eq_true hr0] at C0
  clear hr0
  by_cases hr1 : x.tests = y.tests
  case neg =>
    have HN : Hid (A = false) := by show _ = _; rw [HA.out]; exact decide_eq_false (fun e => hr1 (by rw [e]))
    simp only [decide_eq_false hr1] at C1
    clear HA hr1
    go_enter Tryz.func80, Tryz.ntmps80
    go_wp2_with (first | (go_at_call 106; refine (C0 _ (bt (bxn _ _) (bxn _ _))).mono ?_; rintro e w5 ⟨rfl, hb0⟩; clear C0; obtain ⟨hc, hz⟩ := bcell hb0; have g10 : w5.cell? ⟨w.heap.size, 0, none⟩ = some (.string (st x.a)) := (by rw [hc _ _ (by simp <;> omega)]; go_simp); have g11 : w5.cell? ⟨w.heap.size, 1, none⟩ = some (.slice a1 n1 c1) := (by rw [hc _ _ (by simp <;> omega)]; go_simp); have g12 : w5.cell? ⟨w.heap.size, 2, none⟩ = some (.slice b1 m1 d1) := (by rw [hc _ _ (by simp <;> omega)]; go_simp); have g20 : w5.cell? ⟨(w.heap.size + 1), 0, none⟩ = some (.string (st x.a)) := (by rw [hc _ _ (by simp <;> omega)]; go_simp); have g21 : w5.cell? ⟨(w.heap.size + 1), 1, none⟩ = some (.slice a2 n2 c2) := (by rw [hc _ _ (by simp <;> omega)]; go_simp); have g22 : w5.cell? ⟨(w.heap.size + 1), 2, none⟩ = some (.slice b2 m2 d2) := (by rw [hc _ _ (by simp <;> omega)]; go_simp); clear hc hz) | (go_at_call 107; refine (C1 _ (bt (bt (bxn _ _) (bxn _ _)) hb0)).mono ?_; rintro e w6 ⟨rfl, hb1⟩; clear C1))
    go_ret
    exact ⟨ret_bool HN.out.symm, bt (bt (bxn2t _ _ _) hb0) hb1⟩
  have Hr1 : Hid (x.tests = y.tests) := hr1
  simp only [decide_eq_true hr1] at C1
  clear hr1
  have HN : Hid (A = true) := by show _ = _; rw [HA.out]; exact decide_eq_true (extAttrD Ha.out Hr0.out Hr1.out)
  clear HA
  go_enter Tryz.func80, Tryz.ntmps80
  go_wp2_with (first | (go_at_call 106; refine (C0 _ (bt (bxn _ _) (bxn _ _))).mono ?_; rintro e w5 ⟨rfl, hb0⟩; clear C0; obtain ⟨hc, hz⟩ := bcell hb0; have g10 : w5.cell? ⟨w.heap.size, 0, none⟩ = some (.string (st x.a)) := (by rw [hc _ _ (by simp <;> omega)]; go_simp); have g11 : w5.cell? ⟨w.heap.size, 1, none⟩ = some (.slice a1 n1 c1) := (by rw [hc _ _ (by simp <;> omega)]; go_simp); have g12 : w5.cell? ⟨w.heap.size, 2, none⟩ = some (.slice b1 m1 d1) := (by rw [hc _ _ (by simp <;> omega)]; go_simp); have g20 : w5.cell? ⟨(w.heap.size + 1), 0, none⟩ = some (.string (st x.a)) := (by rw [hc _ _ (by simp <;> omega)]; go_simp); have g21 : w5.cell? ⟨(w.heap.size + 1), 1, none⟩ = some (.slice a2 n2 c2) := (by rw [hc _ _ (by simp <;> omega)]; go_simp); have g22 : w5.cell? ⟨(w.heap.size + 1), 2, none⟩ = some (.slice b2 m2 d2) := (by rw [hc _ _ (by simp <;> omega)]; go_simp); clear hc hz) | (go_at_call 107; refine (C1 _ (bt (bt (bxn _ _) (bxn _ _)) hb0)).mono ?_; rintro e w6 ⟨rfl, hb1⟩; clear C1))
  go_ret
  exact ⟨ret_bool HN.out.symm, bt (bt (bxn2t _ _ _) hb0) hb1⟩
set_option maxHeartbeats 4000000 in
theorem psameS_any {P1 P2 : Nat → Nat → Prop} (cs1 cs2 : List Value) (x y : SetD) (w : World) (h1 : ReS P1 w cs1 x) (h2 : ReS P2 w cs2 y) :
    Calls Tryz.prog 82 #[.agg cs1.toArray, .agg cs2.toArray] w fun e w' => e = .returned (.bool (decide (x = y))) ∧ Below w.heap.size w w' := by
  obtain ⟨va1, hcs1, r1⟩ := h1; obtain ⟨a1, n1, c1, e1⟩ := r1.like; subst e1
  obtain ⟨va2, hcs2, r2⟩ := h2; obtain ⟨a2, n2, c2, e2⟩ := r2.like; subst e2
  subst hcs1
  subst hcs2
  obtain ⟨A, hA⟩ : ∃ A, A = decide (x = y) := ⟨_, rfl⟩
  rw [← hA]
  have HA : Hid (A = decide (x = y)) := hA
  clear hA
  have C0 : ∀ W, Below w.heap.size w W → Calls Tryz.prog 84 _ W fun e w' => e = .returned (.bool (decide (x.e = y.e))) ∧ Below W.heap.size W w' := fun W hW => psameX_any _ _ x.e y.e W (SlW.keep (P := P1) (Stays.below hW) r1) (SlW.keep (P := P2) (Stays.below hW) r2)
  clear r1 r2
  by_cases ha : ¬ (x.a = y.a)
  · have hza : ((st x.a).toList == (st y.a).toList) = false := by rw [beq_eq_false_iff_ne]; exact fun e => ha (st_eq e)
    have HN : Hid (A = false) := by show _ = _; rw [HA.out]; exact decide_eq_false (fun e => ha (by rw [e]))
    clear HA ha
    go_enter Tryz.func82, Tryz.ntmps82
    go_wp2
    go_ret
    exact ⟨ret_bool HN.out.symm, bxn2t _ _ _⟩
  replace ha := Classical.not_not.1 ha
  rw [← ha]
  have Ha : Hid (x.a = y.a) := ha
  clear ha
  by_cases hr0 : x.e = y.e
  case neg =>
    have HN : Hid (A = false) := by show _ = _; rw [HA.out]; exact decide_eq_false (fun e => hr0 (by rw [e]))
    simp only [decide_eq_false hr0] at C0
    clear HA hr0
    go_enter Tryz.func82, Tryz.ntmps82
    go_wp2_with (first | (go_at_call 84; refine (C0 _ (bt (bxn _ _) (bxn _ _))).mono ?_; rintro e w5 ⟨rfl, hb0⟩; clear C0))
    go_ret
    exact ⟨ret_bool HN.out.symm, bt (bxn2t _ _ _) hb0⟩
  have Hr0 : Hid (x.e = y.e) := hr0
  simp only [decide_eq_true hr0] at C0
  clear hr0
  have HN : Hid (A = true) := by show _ = _; rw [HA.out]; exact decide_eq_true (extSetD Ha.out Hr0.out)
  clear HA
  go_enter Tryz.func82, Tryz.ntmps82
  go_wp2_with (first | (go_at_call 84; refine (C0 _ (bt (bxn _ _) (bxn _ _))).mono ?_; rintro e w5 ⟨rfl, hb0⟩; clear C0))
  go_ret
  exact ⟨ret_bool HN.out.symm, bt (bxn2t _ _ _) hb0⟩
end Go.Proofs.YtdcpfnffckkfcaaGreatDoor
namespace Go.Proofs.YtdcpfnffckkfcaaGreatDoor
open Go.RowKit
set_option linter.unusedVariables false
set_option linter.unusedSimpArgs false
set_option maxRecDepth 20000
set_option maxHeartbeats 4000000 in
theorem efK_any {P1 P2 : Nat → Nat → Prop} (v1 v2 : Value) (xs ys : List (ClassD)) (w : World) (h1 : Row 2 (ReK P1) w (P1 10) v1 xs) (h2 : Row 2 (ReK P2) w (P2 10) v2 ys) :
    Calls Tryz.prog 26 #[v1, v2, .func (.func 27) #[] #[]] w fun e w' => e = .returned (.bool (decide (xs = ys))) ∧ Below w.heap.size w w' := by
  obtain ⟨css1, h1, g1⟩ := h1
  obtain ⟨css2, h2, g2⟩ := h2
  obtain ⟨A1, C1, rfl⟩ := h1.shape
  obtain ⟨A2, C2, rfl⟩ := h2.shape
  obtain ⟨-, l1, m1, r1⟩ := h1.row
  obtain ⟨-, l2, m2, r2⟩ := h2.row
  rw [g1.len] at l1 r1 ⊢
  rw [g2.len] at l2 r2 ⊢
  have R1 : Hid (∀ i, i < xs.length → ∃ b off, A1 = some ⟨b, off, none⟩ ∧ b < w.heap.size ∧ ∀ j, j < 2 → w.cell? ⟨b, off + (i * 2 + j), none⟩ = (css1.getD i [])[j]?) := r1
  have R2 : Hid (∀ i, i < ys.length → ∃ b off, A2 = some ⟨b, off, none⟩ ∧ b < w.heap.size ∧ ∀ j, j < 2 → w.cell? ⟨b, off + (i * 2 + j), none⟩ = (css2.getD i [])[j]?) := r2
  have G1 : Hid (All2 (ReK P1 w) css1 xs) := g1
  have G2 : Hid (All2 (ReK P2 w) css2 ys) := g2
  obtain ⟨A, hA⟩ : ∃ A, A = decide (xs = ys) := ⟨_, rfl⟩
  rw [← hA]
  have HA : Hid (A = decide (xs = ys)) := hA
  clear hA r1 r2 h1 h2 g1 g2
  by_cases hl : xs.length = ys.length
  · rw [← hl] at l2 ⊢
    have HL : Hid (xs.length = ys.length) := hl
    have hnn : (xs.length : Int) ≤ 9223372036854775807 := by omega
    clear hl
    go_enter Tryz.func26, Tryz.ntmps26
    go_wp2
    go_loopw [17] (fun v wr => ∃ i : Nat, v = .int .i64 i ∧ i ≤ xs.length ∧ (∀ j, j < i → xs.getD j k0 = ys.getD j k0) ∧ Below w.heap.size w wr) (fun v _ => (xs.length - intOf v).toNat)
    case atStart => exact ⟨0, rfl, Nat.zero_le _, fun j hj => absurd hj (Nat.not_lt_zero _), Below.refl _ _⟩
    case round =>
      obtain ⟨i, rfl, hi, hall, hbr⟩ := hrel
      by_cases hlt : i < xs.length
      · have hiz : (i : Int) < xs.length := by omega
        obtain ⟨b10, o1, rfl, hb1, q1⟩ := R1.out i hlt
        obtain ⟨b20, o2, rfl, hb2, q2⟩ := R2.out i (by have := HL.out; omega)
        have e1 := G1.out.at i [] k0 hlt
        have e2 := G2.out.at i [] k0 (by have := HL.out; omega)
        have HALL : Hid (xs.getD i k0 = ys.getD i k0 → ∀ j, j < i + 1 → xs.getD j k0 = ys.getD j k0) := fun heq j hj => by
          rcases Nat.lt_or_ge j i with h | h
          · exact hall j h
          · obtain rfl : j = i := by omega
            exact heq
        have HNO : Hid (xs.getD i k0 ≠ ys.getD i k0 → A = false) := fun heq => by rw [HA.out]; exact decide_eq_false (ne_go k0 heq)
        generalize xs.getD i k0 = x at *
        generalize ys.getD i k0 = y at *
        have HE1 : Hid (ReK P1 w (css1.getD i []) x) := e1
        have HE2 : Hid (ReK P2 w (css2.getD i []) y) := e2
        obtain ⟨va1, hcs1, r1⟩ := e1; obtain ⟨a1, n1, c1, e1⟩ := r1.like; subst e1
        obtain ⟨va2, hcs2, r2⟩ := e2; obtain ⟨a2, n2, c2, e2⟩ := r2.like; subst e2
        have z10 : wr.cell? ⟨b10, o1 + i * 2, none⟩ = some (.string (st x.nm)) := (hbr.cell (p := ⟨b10, _, none⟩) hb1).trans (by have := q1 0 (by decide); rw [hcs1] at this; exact this)
        have z11 : wr.cell? ⟨b10, o1 + i * 2 + 1, none⟩ = some (.slice a1 n1 c1) := (hbr.cell (p := ⟨b10, _, none⟩) hb1).trans (by have := q1 1 (by decide); rw [hcs1] at this; exact this)
        have z20 : wr.cell? ⟨b20, o2 + i * 2, none⟩ = some (.string (st y.nm)) := (hbr.cell (p := ⟨b20, _, none⟩) hb2).trans (by have := q2 0 (by decide); rw [hcs2] at this; exact this)
        have z21 : wr.cell? ⟨b20, o2 + i * 2 + 1, none⟩ = some (.slice a2 n2 c2) := (hbr.cell (p := ⟨b20, _, none⟩) hb2).trans (by have := q2 1 (by decide); rw [hcs2] at this; exact this)
        have CE : ∀ W, Below wr.heap.size wr W → Calls Tryz.prog 27 #[.agg #[.string (st x.nm), .slice a1 n1 c1], .agg #[.string (st y.nm), .slice a2 n2 c2]] W fun e w' => e = .returned (.bool (decide (x = y))) ∧ Below W.heap.size W w' := fun W hW => by
          have k1 := HE1.out
          have k2 := HE2.out
          rw [hcs1] at k1
          rw [hcs2] at k2
          exact psameK_any _ _ x y W (ReK.keep (Stays.below (bt hbr hW)) k1) (ReK.keep (Stays.below (bt hbr hW)) k2)
        have yb1 : b10 < wr.heap.size := Nat.lt_of_lt_of_le hb1 hbr.size
        have yb2 : b20 < wr.heap.size := Nat.lt_of_lt_of_le hb2 hbr.size
        have yb3 : b20 < wr.heap.size + 1 := by omega
        clear q1 q2 hall r1 r2 
        by_cases heq : x = y
        · have HH := HALL.out heq
          have HH2 : Hid (∀ j, j < i + 1 → xs.getD j k0 = ys.getD j k0) := HH
          simp only [decide_eq_true heq] at CE
          clear heq HH HALL HNO hcs1 hcs2
          go_wp2_with (go_at_call 27; refine (CE _ (bt (bxn _ _) (bxn _ _))).mono ?_; rintro e w5 ⟨rfl, hb5⟩; clear CE)
          go_roundw
          case rel => exact ⟨i + 1, by simp, by omega, HH2.out, bt hbr (bt (bt (bxn _ _) (bxn _ _)) hb5)⟩
          case measure => simp [intOf]; omega
        · have HN : Hid (A = false) := HNO.out heq
          simp only [decide_eq_false heq] at CE
          clear heq HALL HNO hcs1 hcs2
          go_wp2_with (go_at_call 27; refine (CE _ (bt (bxn _ _) (bxn _ _))).mono ?_; rintro e w5 ⟨rfl, hb5⟩; clear CE)
          go_ret
          exact ⟨ret_bool HN.out.symm, bt hbr (bt (bt (bxn _ _) (bxn _ _)) hb5)⟩
      · have hiz : ¬ (i : Int) < xs.length := by omega
        have HN : Hid (A = true) := by show _ = _; rw [HA.out]; exact decide_eq_true (eq_go k0 HL.out hall (by omega))
        clear hall
        go_wp2
        go_ret
        exact ⟨ret_bool HN.out.symm, hbr⟩
  · have hlz : ((xs.length : Int) == ys.length) = false := by rw [beq_eq_false_iff_ne]; omega
    have HN : Hid (A = false) := by show _ = _; rw [HA.out]; exact decide_eq_false (fun e => hl (by rw [e]))
    clear hl HA
    go_enter Tryz.func26, Tryz.ntmps26
    go_wp2
    go_ret
    exact ⟨ret_bool HN.out.symm, Below.refl _ _⟩
set_option maxHeartbeats 4000000 in
theorem efA_any {P1 P2 : Nat → Nat → Prop} (v1 v2 : Value) (xs ys : List (AttrD)) (w : World) (h1 : Row 3 (ReA P1) w (P1 7) v1 xs) (h2 : Row 3 (ReA P2) w (P2 7) v2 ys) :
    Calls Tryz.prog 79 #[v1, v2, .func (.func 80) #[] #[]] w fun e w' => e = .returned (.bool (decide (xs = ys))) ∧ Below w.heap.size w w' := by
  obtain ⟨css1, h1, g1⟩ := h1
  obtain ⟨css2, h2, g2⟩ := h2
  obtain ⟨A1, C1, rfl⟩ := h1.shape
  obtain ⟨A2, C2, rfl⟩ := h2.shape
  obtain ⟨-, l1, m1, r1⟩ := h1.row
  obtain ⟨-, l2, m2, r2⟩ := h2.row
  rw [g1.len] at l1 r1 ⊢
  rw [g2.len] at l2 r2 ⊢
  have R1 : Hid (∀ i, i < xs.length → ∃ b off, A1 = some ⟨b, off, none⟩ ∧ b < w.heap.size ∧ ∀ j, j < 3 → w.cell? ⟨b, off + (i * 3 + j), none⟩ = (css1.getD i [])[j]?) := r1
  have R2 : Hid (∀ i, i < ys.length → ∃ b off, A2 = some ⟨b, off, none⟩ ∧ b < w.heap.size ∧ ∀ j, j < 3 → w.cell? ⟨b, off + (i * 3 + j), none⟩ = (css2.getD i [])[j]?) := r2
  have G1 : Hid (All2 (ReA P1 w) css1 xs) := g1
  have G2 : Hid (All2 (ReA P2 w) css2 ys) := g2
  obtain ⟨A, hA⟩ : ∃ A, A = decide (xs = ys) := ⟨_, rfl⟩
  rw [← hA]
  have HA : Hid (A = decide (xs = ys)) := hA
  clear hA r1 r2 h1 h2 g1 g2
  by_cases hl : xs.length = ys.length
  · rw [← hl] at l2 ⊢
    have HL : Hid (xs.length = ys.length) := hl
    have hnn : (xs.length : Int) ≤ 9223372036854775807 := by omega
    clear hl
    go_enter Tryz.func79, Tryz.ntmps79
    go_wp2
    go_loopw [17] (fun v wr => ∃ i : Nat, v = .int .i64 i ∧ i ≤ xs.length ∧ (∀ j, j < i → xs.getD j a0 = ys.getD j a0) ∧ Below w.heap.size w wr) (fun v _ => (xs.length - intOf v).toNat)
    case atStart => exact ⟨0, rfl, Nat.zero_le _, fun j hj => absurd hj (Nat.not_lt_zero _), Below.refl _ _⟩
    case round =>
      obtain ⟨i, rfl, hi, hall, hbr⟩ := hrel
      by_cases hlt : i < xs.length
      · have hiz : (i : Int) < xs.length := by omega
        obtain ⟨b10, o1, rfl, hb1, q1⟩ := R1.out i hlt
        obtain ⟨b20, o2, rfl, hb2, q2⟩ := R2.out i (by have := HL.out; omega)
        have e1 := G1.out.at i [] a0 hlt
        have e2 := G2.out.at i [] a0 (by have := HL.out; omega)
        have HALL : Hid (xs.getD i a0 = ys.getD i a0 → ∀ j, j < i + 1 → xs.getD j a0 = ys.getD j a0) := fun heq j hj => by
          rcases Nat.lt_or_ge j i with h | h
          · exact hall j h
          · obtain rfl : j = i := by omega
            exact heq
        have HNO : Hid (xs.getD i a0 ≠ ys.getD i a0 → A = false) := fun heq => by rw [HA.out]; exact decide_eq_false (ne_go a0 heq)
        generalize xs.getD i a0 = x at *
        generalize ys.getD i a0 = y at *
        have HE1 : Hid (ReA P1 w (css1.getD i []) x) := e1
        have HE2 : Hid (ReA P2 w (css2.getD i []) y) := e2
        obtain ⟨va1, vb1, hcs1, r1, t1⟩ := e1; obtain ⟨a1, n1, c1, e1⟩ := r1.like; obtain ⟨b1, m1, d1, f1⟩ := t1.like; subst e1; subst f1
        obtain ⟨va2, vb2, hcs2, r2, t2⟩ := e2; obtain ⟨a2, n2, c2, e2⟩ := r2.like; obtain ⟨b2, m2, d2, f2⟩ := t2.like; subst e2; subst f2
        have z10 : wr.cell? ⟨b10, o1 + i * 3, none⟩ = some (.string (st x.a)) := (hbr.cell (p := ⟨b10, _, none⟩) hb1).trans (by have := q1 0 (by decide); rw [hcs1] at this; exact this)
        have z11 : wr.cell? ⟨b10, o1 + i * 3 + 1, none⟩ = some (.slice a1 n1 c1) := (hbr.cell (p := ⟨b10, _, none⟩) hb1).trans (by have := q1 1 (by decide); rw [hcs1] at this; exact this)
        have z12 : wr.cell? ⟨b10, o1 + i * 3 + 2, none⟩ = some (.slice b1 m1 d1) := (hbr.cell (p := ⟨b10, _, none⟩) hb1).trans (by have := q1 2 (by decide); rw [hcs1] at this; exact this)
        have z20 : wr.cell? ⟨b20, o2 + i * 3, none⟩ = some (.string (st y.a)) := (hbr.cell (p := ⟨b20, _, none⟩) hb2).trans (by have := q2 0 (by decide); rw [hcs2] at this; exact this)
        have z21 : wr.cell? ⟨b20, o2 + i * 3 + 1, none⟩ = some (.slice a2 n2 c2) := (hbr.cell (p := ⟨b20, _, none⟩) hb2).trans (by have := q2 1 (by decide); rw [hcs2] at this; exact this)
        have z22 : wr.cell? ⟨b20, o2 + i * 3 + 2, none⟩ = some (.slice b2 m2 d2) := (hbr.cell (p := ⟨b20, _, none⟩) hb2).trans (by have := q2 2 (by decide); rw [hcs2] at this; exact this)
        have CE : ∀ W, Below wr.heap.size wr W → Calls Tryz.prog 80 #[.agg #[.string (st x.a), .slice a1 n1 c1, .slice b1 m1 d1], .agg #[.string (st y.a), .slice a2 n2 c2, .slice b2 m2 d2]] W fun e w' => e = .returned (.bool (decide (x = y))) ∧ Below W.heap.size W w' := fun W hW => by
          have k1 := HE1.out
          have k2 := HE2.out
          rw [hcs1] at k1
          rw [hcs2] at k2
          exact psameA_any _ _ x y W (ReA.keep (Stays.below (bt hbr hW)) k1) (ReA.keep (Stays.below (bt hbr hW)) k2)
        have yb1 : b10 < wr.heap.size := Nat.lt_of_lt_of_le hb1 hbr.size
        have yb2 : b20 < wr.heap.size := Nat.lt_of_lt_of_le hb2 hbr.size
        have yb3 : b20 < wr.heap.size + 1 := by omega
        clear q1 q2 hall r1 r2 t1 t2
        by_cases heq : x = y
        · have HH := HALL.out heq
          have HH2 : Hid (∀ j, j < i + 1 → xs.getD j a0 = ys.getD j a0) := HH
          simp only [decide_eq_true heq] at CE
          clear heq HH HALL HNO hcs1 hcs2
          go_wp2_with (go_at_call 80; refine (CE _ (bt (bxn _ _) (bxn _ _))).mono ?_; rintro e w5 ⟨rfl, hb5⟩; clear CE)
          go_roundw
          case rel => exact ⟨i + 1, by simp, by omega, HH2.out, bt hbr (bt (bt (bxn _ _) (bxn _ _)) hb5)⟩
          case measure => simp [intOf]; omega
        · have HN : Hid (A = false) := HNO.out heq
          simp only [decide_eq_false heq] at CE
          clear heq HALL HNO hcs1 hcs2
          go_wp2_with (go_at_call 80; refine (CE _ (bt (bxn _ _) (bxn _ _))).mono ?_; rintro e w5 ⟨rfl, hb5⟩; clear CE)
          go_ret
          exact ⟨ret_bool HN.out.symm, bt hbr (bt (bt (bxn _ _) (bxn _ _)) hb5)⟩
      · have hiz : ¬ (i : Int) < xs.length := by omega
        have HN : Hid (A = true) := by show _ = _; rw [HA.out]; exact decide_eq_true (eq_go a0 HL.out hall (by omega))
        clear hall
        go_wp2
        go_ret
        exact ⟨ret_bool HN.out.symm, hbr⟩
  · have hlz : ((xs.length : Int) == ys.length) = false := by rw [beq_eq_false_iff_ne]; omega
    have HN : Hid (A = false) := by show _ = _; rw [HA.out]; exact decide_eq_false (fun e => hl (by rw [e]))
    clear hl HA
    go_enter Tryz.func79, Tryz.ntmps79
    go_wp2
    go_ret
    exact ⟨ret_bool HN.out.symm, Below.refl _ _⟩
set_option maxHeartbeats 4000000 in
theorem efS_any {P1 P2 : Nat → Nat → Prop} (v1 v2 : Value) (xs ys : List (SetD)) (w : World) (h1 : Row 2 (ReS P1) w (P1 5) v1 xs) (h2 : Row 2 (ReS P2) w (P2 5) v2 ys) :
    Calls Tryz.prog 81 #[v1, v2, .func (.func 82) #[] #[]] w fun e w' => e = .returned (.bool (decide (xs = ys))) ∧ Below w.heap.size w w' := by
  obtain ⟨css1, h1, g1⟩ := h1
  obtain ⟨css2, h2, g2⟩ := h2
  obtain ⟨A1, C1, rfl⟩ := h1.shape
  obtain ⟨A2, C2, rfl⟩ := h2.shape
  obtain ⟨-, l1, m1, r1⟩ := h1.row
  obtain ⟨-, l2, m2, r2⟩ := h2.row
  rw [g1.len] at l1 r1 ⊢
  rw [g2.len] at l2 r2 ⊢
  have R1 : Hid (∀ i, i < xs.length → ∃ b off, A1 = some ⟨b, off, none⟩ ∧ b < w.heap.size ∧ ∀ j, j < 2 → w.cell? ⟨b, off + (i * 2 + j), none⟩ = (css1.getD i [])[j]?) := r1
  have R2 : Hid (∀ i, i < ys.length → ∃ b off, A2 = some ⟨b, off, none⟩ ∧ b < w.heap.size ∧ ∀ j, j < 2 → w.cell? ⟨b, off + (i * 2 + j), none⟩ = (css2.getD i [])[j]?) := r2
  have G1 : Hid (All2 (ReS P1 w) css1 xs) := g1
  have G2 : Hid (All2 (ReS P2 w) css2 ys) := g2
  obtain ⟨A, hA⟩ : ∃ A, A = decide (xs = ys) := ⟨_, rfl⟩
  rw [← hA]
  have HA : Hid (A = decide (xs = ys)) := hA
  clear hA r1 r2 h1 h2 g1 g2
  by_cases hl : xs.length = ys.length
  · rw [← hl] at l2 ⊢
    have HL : Hid (xs.length = ys.length) := hl
    have hnn : (xs.length : Int) ≤ 9223372036854775807 := by omega
    clear hl
    go_enter Tryz.func81, Tryz.ntmps81
    go_wp2
    go_loopw [17] (fun v wr => ∃ i : Nat, v = .int .i64 i ∧ i ≤ xs.length ∧ (∀ j, j < i → xs.getD j se0 = ys.getD j se0) ∧ Below w.heap.size w wr) (fun v _ => (xs.length - intOf v).toNat)
    case atStart => exact ⟨0, rfl, Nat.zero_le _, fun j hj => absurd hj (Nat.not_lt_zero _), Below.refl _ _⟩
    case round =>
      obtain ⟨i, rfl, hi, hall, hbr⟩ := hrel
      by_cases hlt : i < xs.length
      · have hiz : (i : Int) < xs.length := by omega
        obtain ⟨b10, o1, rfl, hb1, q1⟩ := R1.out i hlt
        obtain ⟨b20, o2, rfl, hb2, q2⟩ := R2.out i (by have := HL.out; omega)
        have e1 := G1.out.at i [] se0 hlt
        have e2 := G2.out.at i [] se0 (by have := HL.out; omega)
        have HALL : Hid (xs.getD i se0 = ys.getD i se0 → ∀ j, j < i + 1 → xs.getD j se0 = ys.getD j se0) := fun heq j hj => by
          rcases Nat.lt_or_ge j i with h | h
          · exact hall j h
          · obtain rfl : j = i := by omega
            exact heq
        have HNO : Hid (xs.getD i se0 ≠ ys.getD i se0 → A = false) := fun heq => by rw [HA.out]; exact decide_eq_false (ne_go se0 heq)
        generalize xs.getD i se0 = x at *
        generalize ys.getD i se0 = y at *
        have HE1 : Hid (ReS P1 w (css1.getD i []) x) := e1
        have HE2 : Hid (ReS P2 w (css2.getD i []) y) := e2
        obtain ⟨va1, hcs1, r1⟩ := e1; obtain ⟨a1, n1, c1, e1⟩ := r1.like; subst e1
        obtain ⟨va2, hcs2, r2⟩ := e2; obtain ⟨a2, n2, c2, e2⟩ := r2.like; subst e2
        have z10 : wr.cell? ⟨b10, o1 + i * 2, none⟩ = some (.string (st x.a)) := (hbr.cell (p := ⟨b10, _, none⟩) hb1).trans (by have := q1 0 (by decide); rw [hcs1] at this; exact this)
        have z11 : wr.cell? ⟨b10, o1 + i * 2 + 1, none⟩ = some (.slice a1 n1 c1) := (hbr.cell (p := ⟨b10, _, none⟩) hb1).trans (by have := q1 1 (by decide); rw [hcs1] at this; exact this)
        have z20 : wr.cell? ⟨b20, o2 + i * 2, none⟩ = some (.string (st y.a)) := (hbr.cell (p := ⟨b20, _, none⟩) hb2).trans (by have := q2 0 (by decide); rw [hcs2] at this; exact this)
        have z21 : wr.cell? ⟨b20, o2 + i * 2 + 1, none⟩ = some (.slice a2 n2 c2) := (hbr.cell (p := ⟨b20, _, none⟩) hb2).trans (by have := q2 1 (by decide); rw [hcs2] at this; exact this)
        have CE : ∀ W, Below wr.heap.size wr W → Calls Tryz.prog 82 #[.agg #[.string (st x.a), .slice a1 n1 c1], .agg #[.string (st y.a), .slice a2 n2 c2]] W fun e w' => e = .returned (.bool (decide (x = y))) ∧ Below W.heap.size W w' := fun W hW => by
          have k1 := HE1.out
          have k2 := HE2.out
          rw [hcs1] at k1
          rw [hcs2] at k2
          exact psameS_any _ _ x y W (ReS.keep (Stays.below (bt hbr hW)) k1) (ReS.keep (Stays.below (bt hbr hW)) k2)
        have yb1 : b10 < wr.heap.size := Nat.lt_of_lt_of_le hb1 hbr.size
        have yb2 : b20 < wr.heap.size := Nat.lt_of_lt_of_le hb2 hbr.size
        have yb3 : b20 < wr.heap.size + 1 := by omega
        clear q1 q2 hall r1 r2 
        by_cases heq : x = y
        · have HH := HALL.out heq
          have HH2 : Hid (∀ j, j < i + 1 → xs.getD j se0 = ys.getD j se0) := HH
          simp only [decide_eq_true heq] at CE
          clear heq HH HALL HNO hcs1 hcs2
          go_wp2_with (go_at_call 82; refine (CE _ (bt (bxn _ _) (bxn _ _))).mono ?_; rintro e w5 ⟨rfl, hb5⟩; clear CE)
          go_roundw
          case rel => exact ⟨i + 1, by simp, by omega, HH2.out, bt hbr (bt (bt (bxn _ _) (bxn _ _)) hb5)⟩
          case measure => simp [intOf]; omega
        · have HN : Hid (A = false) := HNO.out heq
          simp only [decide_eq_false heq] at CE
          clear heq HALL HNO hcs1 hcs2
          go_wp2_with (go_at_call 82; refine (CE _ (bt (bxn _ _) (bxn _ _))).mono ?_; rintro e w5 ⟨rfl, hb5⟩; clear CE)
          go_ret
          exact ⟨ret_bool HN.out.symm, bt hbr (bt (bt (bxn _ _) (bxn _ _)) hb5)⟩
      · have hiz : ¬ (i : Int) < xs.length := by omega
        have HN : Hid (A = true) := by show _ = _; rw [HA.out]; exact decide_eq_true (eq_go se0 HL.out hall (by omega))
        clear hall
        go_wp2
        go_ret
        exact ⟨ret_bool HN.out.symm, hbr⟩
  · have hlz : ((xs.length : Int) == ys.length) = false := by rw [beq_eq_false_iff_ne]; omega
    have HN : Hid (A = false) := by show _ = _; rw [HA.out]; exact decide_eq_false (fun e => hl (by rw [e]))
    clear hl HA
    go_enter Tryz.func81, Tryz.ntmps81
    go_wp2
    go_ret
    exact ⟨ret_bool HN.out.symm, Below.refl _ _⟩
set_option maxHeartbeats 4000000 in
theorem efE_any {P1 P2 : Nat → Nat → Prop} (v1 v2 : Value) (xs ys : List (List ItemD)) (w : World) (h1 : Row 1 (ReE P1) w (P1 6) v1 xs) (h2 : Row 1 (ReE P2) w (P2 6) v2 ys) :
    Calls Tryz.prog 83 #[v1, v2, .func (.func 84) #[] #[]] w fun e w' => e = .returned (.bool (decide (xs = ys))) ∧ Below w.heap.size w w' := by
  obtain ⟨css1, h1, g1⟩ := h1
  obtain ⟨css2, h2, g2⟩ := h2
  obtain ⟨A1, C1, rfl⟩ := h1.shape
  obtain ⟨A2, C2, rfl⟩ := h2.shape
  obtain ⟨-, l1, m1, r1⟩ := h1.row
  obtain ⟨-, l2, m2, r2⟩ := h2.row
  rw [g1.len] at l1 r1 ⊢
  rw [g2.len] at l2 r2 ⊢
  have R1 : Hid (∀ i, i < xs.length → ∃ b off, A1 = some ⟨b, off, none⟩ ∧ b < w.heap.size ∧ ∀ j, j < 1 → w.cell? ⟨b, off + (i * 1 + j), none⟩ = (css1.getD i [])[j]?) := r1
  have R2 : Hid (∀ i, i < ys.length → ∃ b off, A2 = some ⟨b, off, none⟩ ∧ b < w.heap.size ∧ ∀ j, j < 1 → w.cell? ⟨b, off + (i * 1 + j), none⟩ = (css2.getD i [])[j]?) := r2
  have G1 : Hid (All2 (ReE P1 w) css1 xs) := g1
  have G2 : Hid (All2 (ReE P2 w) css2 ys) := g2
  obtain ⟨A, hA⟩ : ∃ A, A = decide (xs = ys) := ⟨_, rfl⟩
  rw [← hA]
  have HA : Hid (A = decide (xs = ys)) := hA
  clear hA r1 r2 h1 h2 g1 g2
  by_cases hl : xs.length = ys.length
  · rw [← hl] at l2 ⊢
    have HL : Hid (xs.length = ys.length) := hl
    have hnn : (xs.length : Int) ≤ 9223372036854775807 := by omega
    clear hl
    go_enter Tryz.func83, Tryz.ntmps83
    go_wp2
    go_loopw [17] (fun v wr => ∃ i : Nat, v = .int .i64 i ∧ i ≤ xs.length ∧ (∀ j, j < i → xs.getD j ex0 = ys.getD j ex0) ∧ Below w.heap.size w wr) (fun v _ => (xs.length - intOf v).toNat)
    case atStart => exact ⟨0, rfl, Nat.zero_le _, fun j hj => absurd hj (Nat.not_lt_zero _), Below.refl _ _⟩
    case round =>
      obtain ⟨i, rfl, hi, hall, hbr⟩ := hrel
      by_cases hlt : i < xs.length
      · have hiz : (i : Int) < xs.length := by omega
        obtain ⟨b10, o1, rfl, hb1, q1⟩ := R1.out i hlt
        obtain ⟨b20, o2, rfl, hb2, q2⟩ := R2.out i (by have := HL.out; omega)
        have e1 := G1.out.at i [] ex0 hlt
        have e2 := G2.out.at i [] ex0 (by have := HL.out; omega)
        have HALL : Hid (xs.getD i ex0 = ys.getD i ex0 → ∀ j, j < i + 1 → xs.getD j ex0 = ys.getD j ex0) := fun heq j hj => by
          rcases Nat.lt_or_ge j i with h | h
          · exact hall j h
          · obtain rfl : j = i := by omega
            exact heq
        have HNO : Hid (xs.getD i ex0 ≠ ys.getD i ex0 → A = false) := fun heq => by rw [HA.out]; exact decide_eq_false (ne_go ex0 heq)
        generalize xs.getD i ex0 = x at *
        generalize ys.getD i ex0 = y at *
        have HE1 : Hid (ReE P1 w (css1.getD i []) x) := e1
        have HE2 : Hid (ReE P2 w (css2.getD i []) y) := e2
        obtain ⟨va1, hcs1, r1⟩ := e1; obtain ⟨a1, n1, c1, e1⟩ := r1.like; subst e1
        obtain ⟨va2, hcs2, r2⟩ := e2; obtain ⟨a2, n2, c2, e2⟩ := r2.like; subst e2
        have z10 : wr.cell? ⟨b10, o1 + i, none⟩ = some (.slice a1 n1 c1) := (hbr.cell (p := ⟨b10, _, none⟩) hb1).trans (by have := q1 0 (by decide); rw [hcs1] at this; simpa using this)
        have z20 : wr.cell? ⟨b20, o2 + i, none⟩ = some (.slice a2 n2 c2) := (hbr.cell (p := ⟨b20, _, none⟩) hb2).trans (by have := q2 0 (by decide); rw [hcs2] at this; simpa using this)
        have CE : ∀ W, Below wr.heap.size wr W → Calls Tryz.prog 84 #[.slice a1 n1 c1, .slice a2 n2 c2] W fun e w' => e = .returned (.bool (decide (x = y))) ∧ Below W.heap.size W w' := fun W hW => by
          have k1 := HE1.out
          have k2 := HE2.out
          rw [hcs1] at k1
          rw [hcs2] at k2
          exact psameE_any _ _ x y W (ReE.keep (Stays.below (bt hbr hW)) k1) (ReE.keep (Stays.below (bt hbr hW)) k2) _ _ rfl rfl
        have yb1 : b10 < wr.heap.size := Nat.lt_of_lt_of_le hb1 hbr.size
        have yb2 : b20 < wr.heap.size := Nat.lt_of_lt_of_le hb2 hbr.size
        have yb3 : b20 < wr.heap.size + 1 := by omega
        clear q1 q2 hall r1 r2 
        by_cases heq : x = y
        · have HH := HALL.out heq
          have HH2 : Hid (∀ j, j < i + 1 → xs.getD j ex0 = ys.getD j ex0) := HH
          simp only [decide_eq_true heq] at CE
          clear heq HH HALL HNO hcs1 hcs2
          go_wp2_with (go_at_call 84; refine (CE _ (Below.refl _ _)).mono ?_; rintro e w5 ⟨rfl, hb5⟩; clear CE)
          go_roundw
          case rel => exact ⟨i + 1, by simp, by omega, HH2.out, bt hbr (bt (Below.refl _ _) hb5)⟩
          case measure => simp [intOf]; omega
        · have HN : Hid (A = false) := HNO.out heq
          simp only [decide_eq_false heq] at CE
          clear heq HALL HNO hcs1 hcs2
          go_wp2_with (go_at_call 84; refine (CE _ (Below.refl _ _)).mono ?_; rintro e w5 ⟨rfl, hb5⟩; clear CE)
          go_ret
          exact ⟨ret_bool HN.out.symm, bt hbr (bt (Below.refl _ _) hb5)⟩
      · have hiz : ¬ (i : Int) < xs.length := by omega
        have HN : Hid (A = true) := by show _ = _; rw [HA.out]; exact decide_eq_true (eq_go ex0 HL.out hall (by omega))
        clear hall
        go_wp2
        go_ret
        exact ⟨ret_bool HN.out.symm, hbr⟩
  · have hlz : ((xs.length : Int) == ys.length) = false := by rw [beq_eq_false_iff_ne]; omega
    have HN : Hid (A = false) := by show _ = _; rw [HA.out]; exact decide_eq_false (fun e => hl (by rw [e]))
    clear hl HA
    go_enter Tryz.func83, Tryz.ntmps83
    go_wp2
    go_ret
    exact ⟨ret_bool HN.out.symm, Below.refl _ _⟩
end Go.Proofs.YtdcpfnffckkfcaaGreatDoor
namespace Go.Proofs.YtdcpfnffckkfcaaGreatDoor
open Go.RowKit
set_option linter.unusedVariables false
set_option linter.unusedSimpArgs false
set_option maxRecDepth 20000
set_option maxHeartbeats 4000000 in
theorem psameC_any {P1 P2 : Nat → Nat → Prop} (cs1 cs2 : List Value) (x y : CondD) (w : World) (h1 : ReC P1 w cs1 x) (h2 : ReC P2 w cs2 y) :
    Calls Tryz.prog 47 #[.agg cs1.toArray, .agg cs2.toArray] w fun e w' => e = .returned (.bool (decide (x = y))) ∧ Below w.heap.size w w' := by
  obtain ⟨va1, hcs1, r1⟩ := h1; obtain ⟨a1, n1, c1, e1⟩ := r1.like; subst e1
  obtain ⟨va2, hcs2, r2⟩ := h2; obtain ⟨a2, n2, c2, e2⟩ := r2.like; subst e2
  subst hcs1
  subst hcs2
  obtain ⟨A, hA⟩ : ∃ A, A = decide (x = y) := ⟨_, rfl⟩
  rw [← hA]
  have HA : Hid (A = decide (x = y)) := hA
  clear hA
  have C0 : ∀ W, Below w.heap.size w W → Calls Tryz.prog 79 _ W fun e w' => e = .returned (.bool (decide (x.attrs = y.attrs))) ∧ Below W.heap.size W w' := fun W hW => efA_any _ _ x.attrs y.attrs W (Row.keep (Stays.below hW) (fun _ _ => ReA.keep (Stays.below hW)) r1) (Row.keep (Stays.below hW) (fun _ _ => ReA.keep (Stays.below hW)) r2)
  clear r1 r2
  by_cases hneg : ¬ (x.neg = y.neg)
  · have hzneg : (x.neg == y.neg) = false := by rw [beq_eq_false_iff_ne]; exact hneg
    have HN : Hid (A = false) := by show _ = _; rw [HA.out]; exact decide_eq_false (fun e => hneg (by rw [e]))
    clear HA
    go_enter Tryz.func47, Tryz.ntmps47
    go_wp2
    go_ret
    exact ⟨ret_bool HN.out.symm, bxn2t _ _ _⟩
  replace hneg := Classical.not_not.1 hneg
  rw [← hneg]
  have Hneg : Hid (x.neg = y.neg) := hneg
  clear hneg
  by_cases hc : ¬ (x.c = y.c)
  · have hzc : ((st x.c).toList == (st y.c).toList) = false := by rw [beq_eq_false_iff_ne]; exact fun e => hc (st_eq e)
    have HN : Hid (A = false) := by show _ = _; rw [HA.out]; exact decide_eq_false (fun e => hc (by rw [e]))
    clear HA hc
    go_enter Tryz.func47, Tryz.ntmps47
    go_wp2
    go_ret
    exact ⟨ret_bool HN.out.symm, bxn2t _ _ _⟩
  replace hc := Classical.not_not.1 hc
  rw [← hc]
  have Hc : Hid (x.c = y.c) := hc
  clear hc
  by_cases hr0 : x.attrs = y.attrs
  case neg =>
    have HN : Hid (A = false) := by show _ = _; rw [HA.out]; exact decide_eq_false (fun e => hr0 (by rw [e]))
    simp only [decide_eq_false hr0] at C0
    clear HA hr0
    go_enter Tryz.func47, Tryz.ntmps47
    go_wp2_with (first | (go_at_call 79; refine (C0 _ (bt (bxn _ _) (bxn _ _))).mono ?_; rintro e w5 ⟨rfl, hb0⟩; clear C0))
    go_ret
    exact ⟨ret_bool HN.out.symm, bt (bxn2t _ _ _) hb0⟩
  have Hr0 : Hid (x.attrs = y.attrs) := hr0
  simp only [decide_eq_true hr0] at C0
  clear hr0
  have HN : Hid (A = true) := by show _ = _; rw [HA.out]; exact decide_eq_true (extCondD Hneg.out Hc.out Hr0.out)
  clear HA
  go_enter Tryz.func47, Tryz.ntmps47
  go_wp2_with (first | (go_at_call 79; refine (C0 _ (bt (bxn _ _) (bxn _ _))).mono ?_; rintro e w5 ⟨rfl, hb0⟩; clear C0))
  go_ret
  exact ⟨ret_bool HN.out.symm, bt (bxn2t _ _ _) hb0⟩
set_option maxHeartbeats 4000000 in
theorem psameT_any {P1 P2 : Nat → Nat → Prop} (cs1 cs2 : List Value) (x y : ActD) (w : World) (h1 : ReT P1 w cs1 x) (h2 : ReT P2 w cs2 y) :
    Calls Tryz.prog 49 #[.agg cs1.toArray, .agg cs2.toArray] w fun e w' => e = .returned (.bool (decide (x = y))) ∧ Below w.heap.size w w' := by
  obtain ⟨va1, vb1, hcs1, r1, t1⟩ := h1; obtain ⟨a1, n1, c1, e1⟩ := r1.like; obtain ⟨b1, m1, d1, f1⟩ := t1.like; subst e1; subst f1
  obtain ⟨va2, vb2, hcs2, r2, t2⟩ := h2; obtain ⟨a2, n2, c2, e2⟩ := r2.like; obtain ⟨b2, m2, d2, f2⟩ := t2.like; subst e2; subst f2
  subst hcs1
  subst hcs2
  obtain ⟨A, hA⟩ : ∃ A, A = decide (x = y) := ⟨_, rfl⟩
  rw [← hA]
  have HA : Hid (A = decide (x = y)) := hA
  clear hA
  have C0 : ∀ W, Below w.heap.size w W → Calls Tryz.prog 81 _ W fun e w' => e = .returned (.bool (decide (x.sets = y.sets))) ∧ Below W.heap.size W w' := fun W hW => efS_any _ _ x.sets y.sets W (Row.keep (Stays.below hW) (fun _ _ => ReS.keep (Stays.below hW)) r1) (Row.keep (Stays.below hW) (fun _ _ => ReS.keep (Stays.below hW)) r2)
  have C1 : ∀ W, Below w.heap.size w W → Calls Tryz.prog 83 _ W fun e w' => e = .returned (.bool (decide (x.exprs = y.exprs))) ∧ Below W.heap.size W w' := fun W hW => efE_any _ _ x.exprs y.exprs W (Row.keep (Stays.below hW) (fun _ _ => ReE.keep (Stays.below hW)) t1) (Row.keep (Stays.below hW) (fun _ _ => ReE.keep (Stays.below hW)) t2)
  clear r1 r2 t1 t2
  by_cases hk : ¬ (x.k = y.k)
  · have hzk : (x.k == y.k) = false := by rw [beq_eq_false_iff_ne]; exact hk
    have HN : Hid (A = false) := by show _ = _; rw [HA.out]; exact decide_eq_false (fun e => hk (by rw [e]))
    clear HA
    go_enter Tryz.func49, Tryz.ntmps49
    go_wp2
    go_ret
    exact ⟨ret_bool HN.out.symm, bxn2t _ _ _⟩
  replace hk := Classical.not_not.1 hk
  rw [← hk]
  have Hk : Hid (x.k = y.k) := hk
  clear hk
  by_cases hc : ¬ (x.c = y.c)
  · have hzc : ((st x.c).toList == (st y.c).toList) = false := by rw [beq_eq_false_iff_ne]; exact fun e => hc (st_eq e)
    have HN : Hid (A = false) := by show _ = _; rw [HA.out]; exact decide_eq_false (fun e => hc (by rw [e]))
    clear HA hc
    go_enter Tryz.func49, Tryz.ntmps49
    go_wp2
    go_ret
    exact ⟨ret_bool HN.out.symm, bxn2t _ _ _⟩
  replace hc := Classical.not_not.1 hc
  rw [← hc]
  have Hc : Hid (x.c = y.c) := hc
  clear hc
  by_cases hn : ¬ (x.n = y.n)
  · have hzn : (x.n == y.n) = false := by rw [beq_eq_false_iff_ne]; exact hn
    have HN : Hid (A = false) := by show _ = _; rw [HA.out]; exact decide_eq_false (fun e => hn (by rw [e]))
    clear HA
    go_enter Tryz.func49, Tryz.ntmps49
    go_wp2
    go_ret
    exact ⟨ret_bool HN.out.symm, bxn2t _ _ _⟩
  replace hn := Classical.not_not.1 hn
  rw [← hn]
  have Hn : Hid (x.n = y.n) := hn
  clear hn
  by_cases hv : ¬ (x.v = y.v)
  · have hzv : ((st x.v).toList == (st y.v).toList) = false := by rw [beq_eq_false_iff_ne]; exact fun e => hv (st_eq e)
    have HN : Hid (A = false) := by show _ = _; rw [HA.out]; exact decide_eq_false (fun e => hv (by rw [e]))
    clear HA hv
    go_enter Tryz.func49, Tryz.ntmps49
    go_wp2
    go_ret
    exact ⟨ret_bool HN.out.symm, bxn2t _ _ _⟩
  replace hv := Classical.not_not.1 hv
  rw [← hv]
  have Hv : Hid (x.v = y.v) := hv
  clear hv
  by_cases hr0 : x.sets = y.sets
  case neg =>
    have HN : Hid (A = false) := by show _ = _; rw [HA.out]; exact decide_eq_false (fun e => hr0 (by rw [e]))
    simp only [decide_eq_false hr0] at C0
    clear HA hr0
    go_enter Tryz.func49, Tryz.ntmps49
    go_wp2_with (first | (go_at_call 81; refine (C0 _ (bt (bxn _ _) (bxn _ _))).mono ?_; rintro e w5 ⟨rfl, hb0⟩; clear C0; obtain ⟨hc, hz⟩ := bcell hb0; have g10 : w5.cell? ⟨w.heap.size, 0, none⟩ = some (.int .u8 x.k) := (by rw [hc _ _ (by simp <;> omega)]; go_simp); have g11 : w5.cell? ⟨w.heap.size, 1, none⟩ = some (.string (st x.c)) := (by rw [hc _ _ (by simp <;> omega)]; go_simp); have g12 : w5.cell? ⟨w.heap.size, 2, none⟩ = some (.int .i64 x.n) := (by rw [hc _ _ (by simp <;> omega)]; go_simp); have g13 : w5.cell? ⟨w.heap.size, 3, none⟩ = some (.string (st x.v)) := (by rw [hc _ _ (by simp <;> omega)]; go_simp); have g14 : w5.cell? ⟨w.heap.size, 4, none⟩ = some (.slice a1 n1 c1) := (by rw [hc _ _ (by simp <;> omega)]; go_simp); have g15 : w5.cell? ⟨w.heap.size, 5, none⟩ = some (.slice b1 m1 d1) := (by rw [hc _ _ (by simp <;> omega)]; go_simp); have g20 : w5.cell? ⟨(w.heap.size + 1), 0, none⟩ = some (.int .u8 x.k) := (by rw [hc _ _ (by simp <;> omega)]; go_simp); have g21 : w5.cell? ⟨(w.heap.size + 1), 1, none⟩ = some (.string (st x.c)) := (by rw [hc _ _ (by simp <;> omega)]; go_simp); have g22 : w5.cell? ⟨(w.heap.size + 1), 2, none⟩ = some (.int .i64 x.n) := (by rw [hc _ _ (by simp <;> omega)]; go_simp); have g23 : w5.cell? ⟨(w.heap.size + 1), 3, none⟩ = some (.string (st x.v)) := (by rw [hc _ _ (by simp <;> omega)]; go_simp); have g24 : w5.cell? ⟨(w.heap.size + 1), 4, none⟩ = some (.slice a2 n2 c2) := (by rw [hc _ _ (by simp <;> omega)]; go_simp); have g25 : w5.cell? ⟨(w.heap.size + 1), 5, none⟩ = some (.slice b2 m2 d2) := (by rw [hc _ _ (by simp <;> omega)]; go_simp); clear hc hz))
    go_ret
    exact ⟨ret_bool HN.out.symm, bt (bxn2t _ _ _) hb0⟩
  have Hr0 : Hid (x.sets = y.sets) := hr0
  simp only [decide_eq_true hr0] at C0
  clear hr0
  by_cases hr1 : x.exprs = y.exprs
  case neg =>
    have HN : Hid (A = false) := by show _ = _; rw [HA.out]; exact decide_eq_false (fun e => hr1 (by rw [e]))
    simp only [decide_eq_false hr1] at C1
    clear HA hr1
    go_enter Tryz.func49, Tryz.ntmps49
    go_wp2_with (first | (go_at_call 81; refine (C0 _ (bt (bxn _ _) (bxn _ _))).mono ?_; rintro e w5 ⟨rfl, hb0⟩; clear C0; obtain ⟨hc, hz⟩ := bcell hb0; have g10 : w5.cell? ⟨w.heap.size, 0, none⟩ = some (.int .u8 x.k) := (by rw [hc _ _ (by simp <;> omega)]; go_simp); have g11 : w5.cell? ⟨w.heap.size, 1, none⟩ = some (.string (st x.c)) := (by rw [hc _ _ (by simp <;> omega)]; go_simp); have g12 : w5.cell? ⟨w.heap.size, 2, none⟩ = some (.int .i64 x.n) := (by rw [hc _ _ (by simp <;> omega)]; go_simp); have g13 : w5.cell? ⟨w.heap.size, 3, none⟩ = some (.string (st x.v)) := (by rw [hc _ _ (by simp <;> omega)]; go_simp); have g14 : w5.cell? ⟨w.heap.size, 4, none⟩ = some (.slice a1 n1 c1) := (by rw [hc _ _ (by simp <;> omega)]; go_simp); have g15 : w5.cell? ⟨w.heap.size, 5, none⟩ = some (.slice b1 m1 d1) := (by rw [hc _ _ (by simp <;> omega)]; go_simp); have g20 : w5.cell? ⟨(w.heap.size + 1), 0, none⟩ = some (.int .u8 x.k) := (by rw [hc _ _ (by simp <;> omega)]; go_simp); have g21 : w5.cell? ⟨(w.heap.size + 1), 1, none⟩ = some (.string (st x.c)) := (by rw [hc _ _ (by simp <;> omega)]; go_simp); have g22 : w5.cell? ⟨(w.heap.size + 1), 2, none⟩ = some (.int .i64 x.n) := (by rw [hc _ _ (by simp <;> omega)]; go_simp); have g23 : w5.cell? ⟨(w.heap.size + 1), 3, none⟩ = some (.string (st x.v)) := (by rw [hc _ _ (by simp <;> omega)]; go_simp); have g24 : w5.cell? ⟨(w.heap.size + 1), 4, none⟩ = some (.slice a2 n2 c2) := (by rw [hc _ _ (by simp <;> omega)]; go_simp); have g25 : w5.cell? ⟨(w.heap.size + 1), 5, none⟩ = some (.slice b2 m2 d2) := (by rw [hc _ _ (by simp <;> omega)]; go_simp); clear hc hz) | (go_at_call 83; refine (C1 _ (bt (bt (bxn _ _) (bxn _ _)) hb0)).mono ?_; rintro e w6 ⟨rfl, hb1⟩; clear C1))
    go_ret
    exact ⟨ret_bool HN.out.symm, bt (bt (bxn2t _ _ _) hb0) hb1⟩
  have Hr1 : Hid (x.exprs = y.exprs) := hr1
  simp only [decide_eq_true hr1] at C1
  clear hr1
  have HN : Hid (A = true) := by show _ = _; rw [HA.out]; exact decide_eq_true (extActD Hk.out Hc.out Hn.out Hv.out Hr0.out Hr1.out)
  clear HA
  go_enter Tryz.func49, Tryz.ntmps49
  go_wp2_with (first | (go_at_call 81; refine (C0 _ (bt (bxn _ _) (bxn _ _))).mono ?_; rintro e w5 ⟨rfl, hb0⟩; clear C0; obtain ⟨hc, hz⟩ := bcell hb0; have g10 : w5.cell? ⟨w.heap.size, 0, none⟩ = some (.int .u8 x.k) := (by rw [hc _ _ (by simp <;> omega)]; go_simp); have g11 : w5.cell? ⟨w.heap.size, 1, none⟩ = some (.string (st x.c)) := (by rw [hc _ _ (by simp <;> omega)]; go_simp); have g12 : w5.cell? ⟨w.heap.size, 2, none⟩ = some (.int .i64 x.n) := (by rw [hc _ _ (by simp <;> omega)]; go_simp); have g13 : w5.cell? ⟨w.heap.size, 3, none⟩ = some (.string (st x.v)) := (by rw [hc _ _ (by simp <;> omega)]; go_simp); have g14 : w5.cell? ⟨w.heap.size, 4, none⟩ = some (.slice a1 n1 c1) := (by rw [hc _ _ (by simp <;> omega)]; go_simp); have g15 : w5.cell? ⟨w.heap.size, 5, none⟩ = some (.slice b1 m1 d1) := (by rw [hc _ _ (by simp <;> omega)]; go_simp); have g20 : w5.cell? ⟨(w.heap.size + 1), 0, none⟩ = some (.int .u8 x.k) := (by rw [hc _ _ (by simp <;> omega)]; go_simp); have g21 : w5.cell? ⟨(w.heap.size + 1), 1, none⟩ = some (.string (st x.c)) := (by rw [hc _ _ (by simp <;> omega)]; go_simp); have g22 : w5.cell? ⟨(w.heap.size + 1), 2, none⟩ = some (.int .i64 x.n) := (by rw [hc _ _ (by simp <;> omega)]; go_simp); have g23 : w5.cell? ⟨(w.heap.size + 1), 3, none⟩ = some (.string (st x.v)) := (by rw [hc _ _ (by simp <;> omega)]; go_simp); have g24 : w5.cell? ⟨(w.heap.size + 1), 4, none⟩ = some (.slice a2 n2 c2) := (by rw [hc _ _ (by simp <;> omega)]; go_simp); have g25 : w5.cell? ⟨(w.heap.size + 1), 5, none⟩ = some (.slice b2 m2 d2) := (by rw [hc _ _ (by simp <;> omega)]; go_simp); clear hc hz) | (go_at_call 83; refine (C1 _ (bt (bt (bxn _ _) (bxn _ _)) hb0)).mono ?_; rintro e w6 ⟨rfl, hb1⟩; clear C1))
  go_ret
  exact ⟨ret_bool HN.out.symm, bt (bt (bxn2t _ _ _) hb0) hb1⟩
end Go.Proofs.YtdcpfnffckkfcaaGreatDoor
namespace Go.Proofs.YtdcpfnffckkfcaaGreatDoor
open Go.RowKit
set_option linter.unusedVariables false
set_option linter.unusedSimpArgs false
set_option maxRecDepth 20000
set_option maxHeartbeats 4000000 in
theorem efC_any {P1 P2 : Nat → Nat → Prop} (v1 v2 : Value) (xs ys : List (CondD)) (w : World) (h1 : Row 3 (ReC P1) w (P1 8) v1 xs) (h2 : Row 3 (ReC P2) w (P2 8) v2 ys) :
    Calls Tryz.prog 46 #[v1, v2, .func (.func 47) #[] #[]] w fun e w' => e = .returned (.bool (decide (xs = ys))) ∧ Below w.heap.size w w' := by
  obtain ⟨css1, h1, g1⟩ := h1
  obtain ⟨css2, h2, g2⟩ := h2
  obtain ⟨A1, C1, rfl⟩ := h1.shape
  obtain ⟨A2, C2, rfl⟩ := h2.shape
  obtain ⟨-, l1, m1, r1⟩ := h1.row
  obtain ⟨-, l2, m2, r2⟩ := h2.row
  rw [g1.len] at l1 r1 ⊢
  rw [g2.len] at l2 r2 ⊢
  have R1 : Hid (∀ i, i < xs.length → ∃ b off, A1 = some ⟨b, off, none⟩ ∧ b < w.heap.size ∧ ∀ j, j < 3 → w.cell? ⟨b, off + (i * 3 + j), none⟩ = (css1.getD i [])[j]?) := r1
  have R2 : Hid (∀ i, i < ys.length → ∃ b off, A2 = some ⟨b, off, none⟩ ∧ b < w.heap.size ∧ ∀ j, j < 3 → w.cell? ⟨b, off + (i * 3 + j), none⟩ = (css2.getD i [])[j]?) := r2
  have G1 : Hid (All2 (ReC P1 w) css1 xs) := g1
  have G2 : Hid (All2 (ReC P2 w) css2 ys) := g2
  obtain ⟨A, hA⟩ : ∃ A, A = decide (xs = ys) := ⟨_, rfl⟩
  rw [← hA]
  have HA : Hid (A = decide (xs = ys)) := hA
  clear hA r1 r2 h1 h2 g1 g2
  by_cases hl : xs.length = ys.length
  · rw [← hl] at l2 ⊢
    have HL : Hid (xs.length = ys.length) := hl
    have hnn : (xs.length : Int) ≤ 9223372036854775807 := by omega
    clear hl
    go_enter Tryz.func46, Tryz.ntmps46
    go_wp2
    go_loopw [17] (fun v wr => ∃ i : Nat, v = .int .i64 i ∧ i ≤ xs.length ∧ (∀ j, j < i → xs.getD j cd0 = ys.getD j cd0) ∧ Below w.heap.size w wr) (fun v _ => (xs.length - intOf v).toNat)
    case atStart => exact ⟨0, rfl, Nat.zero_le _, fun j hj => absurd hj (Nat.not_lt_zero _), Below.refl _ _⟩
    case round =>
      obtain ⟨i, rfl, hi, hall, hbr⟩ := hrel
      by_cases hlt : i < xs.length
      · have hiz : (i : Int) < xs.length := by omega
        obtain ⟨b10, o1, rfl, hb1, q1⟩ := R1.out i hlt
        obtain ⟨b20, o2, rfl, hb2, q2⟩ := R2.out i (by have := HL.out; omega)
        have e1 := G1.out.at i [] cd0 hlt
        have e2 := G2.out.at i [] cd0 (by have := HL.out; omega)
        have HALL : Hid (xs.getD i cd0 = ys.getD i cd0 → ∀ j, j < i + 1 → xs.getD j cd0 = ys.getD j cd0) := fun heq j hj => by
          rcases Nat.lt_or_ge j i with h | h
          · exact hall j h
          · obtain rfl : j = i := by omega
            exact heq
        have HNO : Hid (xs.getD i cd0 ≠ ys.getD i cd0 → A = false) := fun heq => by rw [HA.out]; exact decide_eq_false (ne_go cd0 heq)
        generalize xs.getD i cd0 = x at *
        generalize ys.getD i cd0 = y at *
        have HE1 : Hid (ReC P1 w (css1.getD i []) x) := e1
        have HE2 : Hid (ReC P2 w (css2.getD i []) y) := e2
        obtain ⟨va1, hcs1, r1⟩ := e1; obtain ⟨a1, n1, c1, e1⟩ := r1.like; subst e1
        obtain ⟨va2, hcs2, r2⟩ := e2; obtain ⟨a2, n2, c2, e2⟩ := r2.like; subst e2
        have z10 : wr.cell? ⟨b10, o1 + i * 3, none⟩ = some (.bool x.neg) := (hbr.cell (p := ⟨b10, _, none⟩) hb1).trans (by have := q1 0 (by decide); rw [hcs1] at this; exact this)
        have z11 : wr.cell? ⟨b10, o1 + i * 3 + 1, none⟩ = some (.string (st x.c)) := (hbr.cell (p := ⟨b10, _, none⟩) hb1).trans (by have := q1 1 (by decide); rw [hcs1] at this; exact this)
        have z12 : wr.cell? ⟨b10, o1 + i * 3 + 2, none⟩ = some (.slice a1 n1 c1) := (hbr.cell (p := ⟨b10, _, none⟩) hb1).trans (by have := q1 2 (by decide); rw [hcs1] at this; exact this)
        have z20 : wr.cell? ⟨b20, o2 + i * 3, none⟩ = some (.bool y.neg) := (hbr.cell (p := ⟨b20, _, none⟩) hb2).trans (by have := q2 0 (by decide); rw [hcs2] at this; exact this)
        have z21 : wr.cell? ⟨b20, o2 + i * 3 + 1, none⟩ = some (.string (st y.c)) := (hbr.cell (p := ⟨b20, _, none⟩) hb2).trans (by have := q2 1 (by decide); rw [hcs2] at this; exact this)
        have z22 : wr.cell? ⟨b20, o2 + i * 3 + 2, none⟩ = some (.slice a2 n2 c2) := (hbr.cell (p := ⟨b20, _, none⟩) hb2).trans (by have := q2 2 (by decide); rw [hcs2] at this; exact this)
        have CE : ∀ W, Below wr.heap.size wr W → Calls Tryz.prog 47 #[.agg #[.bool x.neg, .string (st x.c), .slice a1 n1 c1], .agg #[.bool y.neg, .string (st y.c), .slice a2 n2 c2]] W fun e w' => e = .returned (.bool (decide (x = y))) ∧ Below W.heap.size W w' := fun W hW => by
          have k1 := HE1.out
          have k2 := HE2.out
          rw [hcs1] at k1
          rw [hcs2] at k2
          exact psameC_any _ _ x y W (ReC.keep (Stays.below (bt hbr hW)) k1) (ReC.keep (Stays.below (bt hbr hW)) k2)
        have yb1 : b10 < wr.heap.size := Nat.lt_of_lt_of_le hb1 hbr.size
        have yb2 : b20 < wr.heap.size := Nat.lt_of_lt_of_le hb2 hbr.size
        have yb3 : b20 < wr.heap.size + 1 := by omega
        clear q1 q2 hall r1 r2 
        by_cases heq : x = y
        · have HH := HALL.out heq
          have HH2 : Hid (∀ j, j < i + 1 → xs.getD j cd0 = ys.getD j cd0) := HH
          simp only [decide_eq_true heq] at CE
          clear heq HH HALL HNO hcs1 hcs2
          go_wp2_with (go_at_call 47; refine (CE _ (bt (bxn _ _) (bxn _ _))).mono ?_; rintro e w5 ⟨rfl, hb5⟩; clear CE)
          go_roundw
          case rel => exact ⟨i + 1, by simp, by omega, HH2.out, bt hbr (bt (bt (bxn _ _) (bxn _ _)) hb5)⟩
          case measure => simp [intOf]; omega
        · have HN : Hid (A = false) := HNO.out heq
          simp only [decide_eq_false heq] at CE
          clear heq HALL HNO hcs1 hcs2
          go_wp2_with (go_at_call 47; refine (CE _ (bt (bxn _ _) (bxn _ _))).mono ?_; rintro e w5 ⟨rfl, hb5⟩; clear CE)
          go_ret
          exact ⟨ret_bool HN.out.symm, bt hbr (bt (bt (bxn _ _) (bxn _ _)) hb5)⟩
      · have hiz : ¬ (i : Int) < xs.length := by omega
        have HN : Hid (A = true) := by show _ = _; rw [HA.out]; exact decide_eq_true (eq_go cd0 HL.out hall (by omega))
        clear hall
        go_wp2
        go_ret
        exact ⟨ret_bool HN.out.symm, hbr⟩
  · have hlz : ((xs.length : Int) == ys.length) = false := by rw [beq_eq_false_iff_ne]; omega
    have HN : Hid (A = false) := by show _ = _; rw [HA.out]; exact decide_eq_false (fun e => hl (by rw [e]))
    clear hl HA
    go_enter Tryz.func46, Tryz.ntmps46
    go_wp2
    go_ret
    exact ⟨ret_bool HN.out.symm, Below.refl _ _⟩
set_option maxHeartbeats 4000000 in
theorem efT_any {P1 P2 : Nat → Nat → Prop} (v1 v2 : Value) (xs ys : List (ActD)) (w : World) (h1 : Row 6 (ReT P1) w (P1 9) v1 xs) (h2 : Row 6 (ReT P2) w (P2 9) v2 ys) :
    Calls Tryz.prog 48 #[v1, v2, .func (.func 49) #[] #[]] w fun e w' => e = .returned (.bool (decide (xs = ys))) ∧ Below w.heap.size w w' := by
  obtain ⟨css1, h1, g1⟩ := h1
  obtain ⟨css2, h2, g2⟩ := h2
  obtain ⟨A1, C1, rfl⟩ := h1.shape
  obtain ⟨A2, C2, rfl⟩ := h2.shape
  obtain ⟨-, l1, m1, r1⟩ := h1.row
  obtain ⟨-, l2, m2, r2⟩ := h2.row
  rw [g1.len] at l1 r1 ⊢
  rw [g2.len] at l2 r2 ⊢
  have R1 : Hid (∀ i, i < xs.length → ∃ b off, A1 = some ⟨b, off, none⟩ ∧ b < w.heap.size ∧ ∀ j, j < 6 → w.cell? ⟨b, off + (i * 6 + j), none⟩ = (css1.getD i [])[j]?) := r1
  have R2 : Hid (∀ i, i < ys.length → ∃ b off, A2 = some ⟨b, off, none⟩ ∧ b < w.heap.size ∧ ∀ j, j < 6 → w.cell? ⟨b, off + (i * 6 + j), none⟩ = (css2.getD i [])[j]?) := r2
  have G1 : Hid (All2 (ReT P1 w) css1 xs) := g1
  have G2 : Hid (All2 (ReT P2 w) css2 ys) := g2
  obtain ⟨A, hA⟩ : ∃ A, A = decide (xs = ys) := ⟨_, rfl⟩
  rw [← hA]
  have HA : Hid (A = decide (xs = ys)) := hA
  clear hA r1 r2 h1 h2 g1 g2
  by_cases hl : xs.length = ys.length
  · rw [← hl] at l2 ⊢
    have HL : Hid (xs.length = ys.length) := hl
    have hnn : (xs.length : Int) ≤ 9223372036854775807 := by omega
    clear hl
    go_enter Tryz.func48, Tryz.ntmps48
    go_wp2
    go_loopw [17] (fun v wr => ∃ i : Nat, v = .int .i64 i ∧ i ≤ xs.length ∧ (∀ j, j < i → xs.getD j ac0 = ys.getD j ac0) ∧ Below w.heap.size w wr) (fun v _ => (xs.length - intOf v).toNat)
    case atStart => exact ⟨0, rfl, Nat.zero_le _, fun j hj => absurd hj (Nat.not_lt_zero _), Below.refl _ _⟩
    case round =>
      obtain ⟨i, rfl, hi, hall, hbr⟩ := hrel
      by_cases hlt : i < xs.length
      · have hiz : (i : Int) < xs.length := by omega
        obtain ⟨b10, o1, rfl, hb1, q1⟩ := R1.out i hlt
        obtain ⟨b20, o2, rfl, hb2, q2⟩ := R2.out i (by have := HL.out; omega)
        have e1 := G1.out.at i [] ac0 hlt
        have e2 := G2.out.at i [] ac0 (by have := HL.out; omega)
        have HALL : Hid (xs.getD i ac0 = ys.getD i ac0 → ∀ j, j < i + 1 → xs.getD j ac0 = ys.getD j ac0) := fun heq j hj => by
          rcases Nat.lt_or_ge j i with h | h
          · exact hall j h
          · obtain rfl : j = i := by omega
            exact heq
        have HNO : Hid (xs.getD i ac0 ≠ ys.getD i ac0 → A = false) := fun heq => by rw [HA.out]; exact decide_eq_false (ne_go ac0 heq)
        generalize xs.getD i ac0 = x at *
        generalize ys.getD i ac0 = y at *
        have HE1 : Hid (ReT P1 w (css1.getD i []) x) := e1
        have HE2 : Hid (ReT P2 w (css2.getD i []) y) := e2
        obtain ⟨va1, vb1, hcs1, r1, t1⟩ := e1; obtain ⟨a1, n1, c1, e1⟩ := r1.like; obtain ⟨b1, m1, d1, f1⟩ := t1.like; subst e1; subst f1
        obtain ⟨va2, vb2, hcs2, r2, t2⟩ := e2; obtain ⟨a2, n2, c2, e2⟩ := r2.like; obtain ⟨b2, m2, d2, f2⟩ := t2.like; subst e2; subst f2
        have z10 : wr.cell? ⟨b10, o1 + i * 6, none⟩ = some (.int .u8 x.k) := (hbr.cell (p := ⟨b10, _, none⟩) hb1).trans (by have := q1 0 (by decide); rw [hcs1] at this; exact this)
        have z11 : wr.cell? ⟨b10, o1 + i * 6 + 1, none⟩ = some (.string (st x.c)) := (hbr.cell (p := ⟨b10, _, none⟩) hb1).trans (by have := q1 1 (by decide); rw [hcs1] at this; exact this)
        have z12 : wr.cell? ⟨b10, o1 + i * 6 + 2, none⟩ = some (.int .i64 x.n) := (hbr.cell (p := ⟨b10, _, none⟩) hb1).trans (by have := q1 2 (by decide); rw [hcs1] at this; exact this)
        have z13 : wr.cell? ⟨b10, o1 + i * 6 + 3, none⟩ = some (.string (st x.v)) := (hbr.cell (p := ⟨b10, _, none⟩) hb1).trans (by have := q1 3 (by decide); rw [hcs1] at this; exact this)
        have z14 : wr.cell? ⟨b10, o1 + i * 6 + 4, none⟩ = some (.slice a1 n1 c1) := (hbr.cell (p := ⟨b10, _, none⟩) hb1).trans (by have := q1 4 (by decide); rw [hcs1] at this; exact this)
        have z15 : wr.cell? ⟨b10, o1 + i * 6 + 5, none⟩ = some (.slice b1 m1 d1) := (hbr.cell (p := ⟨b10, _, none⟩) hb1).trans (by have := q1 5 (by decide); rw [hcs1] at this; exact this)
        have z20 : wr.cell? ⟨b20, o2 + i * 6, none⟩ = some (.int .u8 y.k) := (hbr.cell (p := ⟨b20, _, none⟩) hb2).trans (by have := q2 0 (by decide); rw [hcs2] at this; exact this)
        have z21 : wr.cell? ⟨b20, o2 + i * 6 + 1, none⟩ = some (.string (st y.c)) := (hbr.cell (p := ⟨b20, _, none⟩) hb2).trans (by have := q2 1 (by decide); rw [hcs2] at this; exact this)
        have z22 : wr.cell? ⟨b20, o2 + i * 6 + 2, none⟩ = some (.int .i64 y.n) := (hbr.cell (p := ⟨b20, _, none⟩) hb2).trans (by have := q2 2 (by decide); rw [hcs2] at this; exact this)
        have z23 : wr.cell? ⟨b20, o2 + i * 6 + 3, none⟩ = some (.string (st y.v)) := (hbr.cell (p := ⟨b20, _, none⟩) hb2).trans (by have := q2 3 (by decide); rw [hcs2] at this; exact this)
        have z24 : wr.cell? ⟨b20, o2 + i * 6 + 4, none⟩ = some (.slice a2 n2 c2) := (hbr.cell (p := ⟨b20, _, none⟩) hb2).trans (by have := q2 4 (by decide); rw [hcs2] at this; exact this)
        have z25 : wr.cell? ⟨b20, o2 + i * 6 + 5, none⟩ = some (.slice b2 m2 d2) := (hbr.cell (p := ⟨b20, _, none⟩) hb2).trans (by have := q2 5 (by decide); rw [hcs2] at this; exact this)
        have CE : ∀ W, Below wr.heap.size wr W → Calls Tryz.prog 49 #[.agg #[.int .u8 x.k, .string (st x.c), .int .i64 x.n, .string (st x.v), .slice a1 n1 c1, .slice b1 m1 d1], .agg #[.int .u8 y.k, .string (st y.c), .int .i64 y.n, .string (st y.v), .slice a2 n2 c2, .slice b2 m2 d2]] W fun e w' => e = .returned (.bool (decide (x = y))) ∧ Below W.heap.size W w' := fun W hW => by
          have k1 := HE1.out
          have k2 := HE2.out
          rw [hcs1] at k1
          rw [hcs2] at k2
          exact psameT_any _ _ x y W (ReT.keep (Stays.below (bt hbr hW)) k1) (ReT.keep (Stays.below (bt hbr hW)) k2)
        have yb1 : b10 < wr.heap.size := Nat.lt_of_lt_of_le hb1 hbr.size
        have yb2 : b20 < wr.heap.size := Nat.lt_of_lt_of_le hb2 hbr.size
        have yb3 : b20 < wr.heap.size + 1 := by omega
        clear q1 q2 hall r1 r2 t1 t2
        by_cases heq : x = y
        · have HH := HALL.out heq
          have HH2 : Hid (∀ j, j < i + 1 → xs.getD j ac0 = ys.getD j ac0) := HH
          simp only [decide_eq_true heq] at CE
          clear heq HH HALL HNO hcs1 hcs2
          go_wp2_with (go_at_call 49; refine (CE _ (bt (bxn _ _) (bxn _ _))).mono ?_; rintro e w5 ⟨rfl, hb5⟩; clear CE)
          go_roundw
          case rel => exact ⟨i + 1, by simp, by omega, HH2.out, bt hbr (bt (bt (bxn _ _) (bxn _ _)) hb5)⟩
          case measure => simp [intOf]; omega
        · have HN : Hid (A = false) := HNO.out heq
          simp only [decide_eq_false heq] at CE
          clear heq HALL HNO hcs1 hcs2
          go_wp2_with (go_at_call 49; refine (CE _ (bt (bxn _ _) (bxn _ _))).mono ?_; rintro e w5 ⟨rfl, hb5⟩; clear CE)
          go_ret
          exact ⟨ret_bool HN.out.symm, bt hbr (bt (bt (bxn _ _) (bxn _ _)) hb5)⟩
      · have hiz : ¬ (i : Int) < xs.length := by omega
        have HN : Hid (A = true) := by show _ = _; rw [HA.out]; exact decide_eq_true (eq_go ac0 HL.out hall (by omega))
        clear hall
        go_wp2
        go_ret
        exact ⟨ret_bool HN.out.symm, hbr⟩
  · have hlz : ((xs.length : Int) == ys.length) = false := by rw [beq_eq_false_iff_ne]; omega
    have HN : Hid (A = false) := by show _ = _; rw [HA.out]; exact decide_eq_false (fun e => hl (by rw [e]))
    clear hl HA
    go_enter Tryz.func48, Tryz.ntmps48
    go_wp2
    go_ret
    exact ⟨ret_bool HN.out.symm, Below.refl _ _⟩
end Go.Proofs.YtdcpfnffckkfcaaGreatDoor
namespace Go.Proofs.YtdcpfnffckkfcaaGreatDoor
open Go.RowKit
set_option linter.unusedVariables false
set_option linter.unusedSimpArgs false
set_option maxRecDepth 20000
set_option maxHeartbeats 4000000 in
theorem psameR_any {P1 P2 : Nat → Nat → Prop} (cs1 cs2 : List Value) (x y : RuleD) (w : World) (h1 : ReR P1 w cs1 x) (h2 : ReR P2 w cs2 y) :
    Calls Tryz.prog 29 #[.agg cs1.toArray, .agg cs2.toArray] w fun e w' => e = .returned (.bool (decide (x = y))) ∧ Below w.heap.size w w' := by
  obtain ⟨va1, vb1, hcs1, r1, t1⟩ := h1; obtain ⟨a1, n1, c1, e1⟩ := r1.like; obtain ⟨b1, m1, d1, f1⟩ := t1.like; subst e1; subst f1
  obtain ⟨va2, vb2, hcs2, r2, t2⟩ := h2; obtain ⟨a2, n2, c2, e2⟩ := r2.like; obtain ⟨b2, m2, d2, f2⟩ := t2.like; subst e2; subst f2
  subst hcs1
  subst hcs2
  obtain ⟨A, hA⟩ : ∃ A, A = decide (x = y) := ⟨_, rfl⟩
  rw [← hA]
  have HA : Hid (A = decide (x = y)) := hA
  clear hA
  have C0 : ∀ W, Below w.heap.size w W → Calls Tryz.prog 46 _ W fun e w' => e = .returned (.bool (decide (x.conds = y.conds))) ∧ Below W.heap.size W w' := fun W hW => efC_any _ _ x.conds y.conds W (Row.keep (Stays.below hW) (fun _ _ => ReC.keep (Stays.below hW)) r1) (Row.keep (Stays.below hW) (fun _ _ => ReC.keep (Stays.below hW)) r2)
  have C1 : ∀ W, Below w.heap.size w W → Calls Tryz.prog 48 _ W fun e w' => e = .returned (.bool (decide (x.acts = y.acts))) ∧ Below W.heap.size W w' := fun W hW => efT_any _ _ x.acts y.acts W (Row.keep (Stays.below hW) (fun _ _ => ReT.keep (Stays.below hW)) t1) (Row.keep (Stays.below hW) (fun _ _ => ReT.keep (Stays.below hW)) t2)
  clear r1 r2 t1 t2
  by_cases hnm : ¬ (x.nm = y.nm)
  · have hznm : ((st x.nm).toList == (st y.nm).toList) = false := by rw [beq_eq_false_iff_ne]; exact fun e => hnm (st_eq e)
    have HN : Hid (A = false) := by show _ = _; rw [HA.out]; exact decide_eq_false (fun e => hnm (by rw [e]))
    clear HA hnm
    go_enter Tryz.func29, Tryz.ntmps29
    go_wp2
    go_ret
    exact ⟨ret_bool HN.out.symm, bxn2t _ _ _⟩
  replace hnm := Classical.not_not.1 hnm
  rw [← hnm]
  have Hnm : Hid (x.nm = y.nm) := hnm
  clear hnm
  by_cases hr0 : x.conds = y.conds
  case neg =>
    have HN : Hid (A = false) := by show _ = _; rw [HA.out]; exact decide_eq_false (fun e => hr0 (by rw [e]))
    simp only [decide_eq_false hr0] at C0
    clear HA hr0
    go_enter Tryz.func29, Tryz.ntmps29
    go_wp2_with (first | (go_at_call 46; refine (C0 _ (bt (bxn _ _) (bxn _ _))).mono ?_; rintro e w5 ⟨rfl, hb0⟩; clear C0; obtain ⟨hc, hz⟩ := bcell hb0; have g10 : w5.cell? ⟨w.heap.size, 0, none⟩ = some (.string (st x.nm)) := (by rw [hc _ _ (by simp <;> omega)]; go_simp); have g11 : w5.cell? ⟨w.heap.size, 1, none⟩ = some (.slice a1 n1 c1) := (by rw [hc _ _ (by simp <;> omega)]; go_simp); have g12 : w5.cell? ⟨w.heap.size, 2, none⟩ = some (.slice b1 m1 d1) := (by rw [hc _ _ (by simp <;> omega)]; go_simp); have g20 : w5.cell? ⟨(w.heap.size + 1), 0, none⟩ = some (.string (st x.nm)) := (by rw [hc _ _ (by simp <;> omega)]; go_simp); have g21 : w5.cell? ⟨(w.heap.size + 1), 1, none⟩ = some (.slice a2 n2 c2) := (by rw [hc _ _ (by simp <;> omega)]; go_simp); have g22 : w5.cell? ⟨(w.heap.size + 1), 2, none⟩ = some (.slice b2 m2 d2) := (by rw [hc _ _ (by simp <;> omega)]; go_simp); clear hc hz))
    go_ret
    exact ⟨ret_bool HN.out.symm, bt (bxn2t _ _ _) hb0⟩
  have Hr0 : Hid (x.conds = y.conds) := hr0
  simp only [decide_eq_true hr0] at C0
  clear hr0
  by_cases hr1 : x.acts = y.acts
  case neg =>
    have HN : Hid (A = false) := by show _ = _; rw [HA.out]; exact decide_eq_false (fun e => hr1 (by rw [e]))
    simp only [decide_eq_false hr1] at C1
    clear HA hr1
    go_enter Tryz.func29, Tryz.ntmps29
    go_wp2_with (first | (go_at_call 46; refine (C0 _ (bt (bxn _ _) (bxn _ _))).mono ?_; rintro e w5 ⟨rfl, hb0⟩; clear C0; obtain ⟨hc, hz⟩ := bcell hb0; have g10 : w5.cell? ⟨w.heap.size, 0, none⟩ = some (.string (st x.nm)) := (by rw [hc _ _ (by simp <;> omega)]; go_simp); have g11 : w5.cell? ⟨w.heap.size, 1, none⟩ = some (.slice a1 n1 c1) := (by rw [hc _ _ (by simp <;> omega)]; go_simp); have g12 : w5.cell? ⟨w.heap.size, 2, none⟩ = some (.slice b1 m1 d1) := (by rw [hc _ _ (by simp <;> omega)]; go_simp); have g20 : w5.cell? ⟨(w.heap.size + 1), 0, none⟩ = some (.string (st x.nm)) := (by rw [hc _ _ (by simp <;> omega)]; go_simp); have g21 : w5.cell? ⟨(w.heap.size + 1), 1, none⟩ = some (.slice a2 n2 c2) := (by rw [hc _ _ (by simp <;> omega)]; go_simp); have g22 : w5.cell? ⟨(w.heap.size + 1), 2, none⟩ = some (.slice b2 m2 d2) := (by rw [hc _ _ (by simp <;> omega)]; go_simp); clear hc hz) | (go_at_call 48; refine (C1 _ (bt (bt (bxn _ _) (bxn _ _)) hb0)).mono ?_; rintro e w6 ⟨rfl, hb1⟩; clear C1))
    go_ret
    exact ⟨ret_bool HN.out.symm, bt (bt (bxn2t _ _ _) hb0) hb1⟩
  have Hr1 : Hid (x.acts = y.acts) := hr1
  simp only [decide_eq_true hr1] at C1
  clear hr1
  have HN : Hid (A = true) := by show _ = _; rw [HA.out]; exact decide_eq_true (extRuleD Hnm.out Hr0.out Hr1.out)
  clear HA
  go_enter Tryz.func29, Tryz.ntmps29
  go_wp2_with (first | (go_at_call 46; refine (C0 _ (bt (bxn _ _) (bxn _ _))).mono ?_; rintro e w5 ⟨rfl, hb0⟩; clear C0; obtain ⟨hc, hz⟩ := bcell hb0; have g10 : w5.cell? ⟨w.heap.size, 0, none⟩ = some (.string (st x.nm)) := (by rw [hc _ _ (by simp <;> omega)]; go_simp); have g11 : w5.cell? ⟨w.heap.size, 1, none⟩ = some (.slice a1 n1 c1) := (by rw [hc _ _ (by simp <;> omega)]; go_simp); have g12 : w5.cell? ⟨w.heap.size, 2, none⟩ = some (.slice b1 m1 d1) := (by rw [hc _ _ (by simp <;> omega)]; go_simp); have g20 : w5.cell? ⟨(w.heap.size + 1), 0, none⟩ = some (.string (st x.nm)) := (by rw [hc _ _ (by simp <;> omega)]; go_simp); have g21 : w5.cell? ⟨(w.heap.size + 1), 1, none⟩ = some (.slice a2 n2 c2) := (by rw [hc _ _ (by simp <;> omega)]; go_simp); have g22 : w5.cell? ⟨(w.heap.size + 1), 2, none⟩ = some (.slice b2 m2 d2) := (by rw [hc _ _ (by simp <;> omega)]; go_simp); clear hc hz) | (go_at_call 48; refine (C1 _ (bt (bt (bxn _ _) (bxn _ _)) hb0)).mono ?_; rintro e w6 ⟨rfl, hb1⟩; clear C1))
  go_ret
  exact ⟨ret_bool HN.out.symm, bt (bt (bxn2t _ _ _) hb0) hb1⟩
set_option maxHeartbeats 4000000 in
theorem efR_any {P1 P2 : Nat → Nat → Prop} (v1 v2 : Value) (xs ys : List (RuleD)) (w : World) (h1 : Row 3 (ReR P1) w (P1 11) v1 xs) (h2 : Row 3 (ReR P2) w (P2 11) v2 ys) :
    Calls Tryz.prog 28 #[v1, v2, .func (.func 29) #[] #[]] w fun e w' => e = .returned (.bool (decide (xs = ys))) ∧ Below w.heap.size w w' := by
  obtain ⟨css1, h1, g1⟩ := h1
  obtain ⟨css2, h2, g2⟩ := h2
  obtain ⟨A1, C1, rfl⟩ := h1.shape
  obtain ⟨A2, C2, rfl⟩ := h2.shape
  obtain ⟨-, l1, m1, r1⟩ := h1.row
  obtain ⟨-, l2, m2, r2⟩ := h2.row
  rw [g1.len] at l1 r1 ⊢
  rw [g2.len] at l2 r2 ⊢
  have R1 : Hid (∀ i, i < xs.length → ∃ b off, A1 = some ⟨b, off, none⟩ ∧ b < w.heap.size ∧ ∀ j, j < 3 → w.cell? ⟨b, off + (i * 3 + j), none⟩ = (css1.getD i [])[j]?) := r1
  have R2 : Hid (∀ i, i < ys.length → ∃ b off, A2 = some ⟨b, off, none⟩ ∧ b < w.heap.size ∧ ∀ j, j < 3 → w.cell? ⟨b, off + (i * 3 + j), none⟩ = (css2.getD i [])[j]?) := r2
  have G1 : Hid (All2 (ReR P1 w) css1 xs) := g1
  have G2 : Hid (All2 (ReR P2 w) css2 ys) := g2
  obtain ⟨A, hA⟩ : ∃ A, A = decide (xs = ys) := ⟨_, rfl⟩
  rw [← hA]
  have HA : Hid (A = decide (xs = ys)) := hA
  clear hA r1 r2 h1 h2 g1 g2
  by_cases hl : xs.length = ys.length
  · rw [← hl] at l2 ⊢
    have HL : Hid (xs.length = ys.length) := hl
    have hnn : (xs.length : Int) ≤ 9223372036854775807 := by omega
    clear hl
    go_enter Tryz.func28, Tryz.ntmps28
    go_wp2
    go_loopw [17] (fun v wr => ∃ i : Nat, v = .int .i64 i ∧ i ≤ xs.length ∧ (∀ j, j < i → xs.getD j ru0 = ys.getD j ru0) ∧ Below w.heap.size w wr) (fun v _ => (xs.length - intOf v).toNat)
    case atStart => exact ⟨0, rfl, Nat.zero_le _, fun j hj => absurd hj (Nat.not_lt_zero _), Below.refl _ _⟩
    case round =>
      obtain ⟨i, rfl, hi, hall, hbr⟩ := hrel
      by_cases hlt : i < xs.length
      · have hiz : (i : Int) < xs.length := by omega
        obtain ⟨b10, o1, rfl, hb1, q1⟩ := R1.out i hlt
        obtain ⟨b20, o2, rfl, hb2, q2⟩ := R2.out i (by have := HL.out; omega)
        have e1 := G1.out.at i [] ru0 hlt
        have e2 := G2.out.at i [] ru0 (by have := HL.out; omega)
        have HALL : Hid (xs.getD i ru0 = ys.getD i ru0 → ∀ j, j < i + 1 → xs.getD j ru0 = ys.getD j ru0) := fun heq j hj => by
          rcases Nat.lt_or_ge j i with h | h
          · exact hall j h
          · obtain rfl : j = i := by omega
            exact heq
        have HNO : Hid (xs.getD i ru0 ≠ ys.getD i ru0 → A = false) := fun heq => by rw [HA.out]; exact decide_eq_false (ne_go ru0 heq)
        generalize xs.getD i ru0 = x at *
        generalize ys.getD i ru0 = y at *
        have HE1 : Hid (ReR P1 w (css1.getD i []) x) := e1
        have HE2 : Hid (ReR P2 w (css2.getD i []) y) := e2
        obtain ⟨va1, vb1, hcs1, r1, t1⟩ := e1; obtain ⟨a1, n1, c1, e1⟩ := r1.like; obtain ⟨b1, m1, d1, f1⟩ := t1.like; subst e1; subst f1
        obtain ⟨va2, vb2, hcs2, r2, t2⟩ := e2; obtain ⟨a2, n2, c2, e2⟩ := r2.like; obtain ⟨b2, m2, d2, f2⟩ := t2.like; subst e2; subst f2
        have z10 : wr.cell? ⟨b10, o1 + i * 3, none⟩ = some (.string (st x.nm)) := (hbr.cell (p := ⟨b10, _, none⟩) hb1).trans (by have := q1 0 (by decide); rw [hcs1] at this; exact this)
        have z11 : wr.cell? ⟨b10, o1 + i * 3 + 1, none⟩ = some (.slice a1 n1 c1) := (hbr.cell (p := ⟨b10, _, none⟩) hb1).trans (by have := q1 1 (by decide); rw [hcs1] at this; exact this)
        have z12 : wr.cell? ⟨b10, o1 + i * 3 + 2, none⟩ = some (.slice b1 m1 d1) := (hbr.cell (p := ⟨b10, _, none⟩) hb1).trans (by have := q1 2 (by decide); rw [hcs1] at this; exact this)
        have z20 : wr.cell? ⟨b20, o2 + i * 3, none⟩ = some (.string (st y.nm)) := (hbr.cell (p := ⟨b20, _, none⟩) hb2).trans (by have := q2 0 (by decide); rw [hcs2] at this; exact this)
        have z21 : wr.cell? ⟨b20, o2 + i * 3 + 1, none⟩ = some (.slice a2 n2 c2) := (hbr.cell (p := ⟨b20, _, none⟩) hb2).trans (by have := q2 1 (by decide); rw [hcs2] at this; exact this)
        have z22 : wr.cell? ⟨b20, o2 + i * 3 + 2, none⟩ = some (.slice b2 m2 d2) := (hbr.cell (p := ⟨b20, _, none⟩) hb2).trans (by have := q2 2 (by decide); rw [hcs2] at this; exact this)
        have CE : ∀ W, Below wr.heap.size wr W → Calls Tryz.prog 29 #[.agg #[.string (st x.nm), .slice a1 n1 c1, .slice b1 m1 d1], .agg #[.string (st y.nm), .slice a2 n2 c2, .slice b2 m2 d2]] W fun e w' => e = .returned (.bool (decide (x = y))) ∧ Below W.heap.size W w' := fun W hW => by
          have k1 := HE1.out
          have k2 := HE2.out
          rw [hcs1] at k1
          rw [hcs2] at k2
          exact psameR_any _ _ x y W (ReR.keep (Stays.below (bt hbr hW)) k1) (ReR.keep (Stays.below (bt hbr hW)) k2)
        have yb1 : b10 < wr.heap.size := Nat.lt_of_lt_of_le hb1 hbr.size
        have yb2 : b20 < wr.heap.size := Nat.lt_of_lt_of_le hb2 hbr.size
        have yb3 : b20 < wr.heap.size + 1 := by omega
        clear q1 q2 hall r1 r2 t1 t2
        by_cases heq : x = y
        · have HH := HALL.out heq
          have HH2 : Hid (∀ j, j < i + 1 → xs.getD j ru0 = ys.getD j ru0) := HH
          simp only [decide_eq_true heq] at CE
          clear heq HH HALL HNO hcs1 hcs2
          go_wp2_with (go_at_call 29; refine (CE _ (bt (bxn _ _) (bxn _ _))).mono ?_; rintro e w5 ⟨rfl, hb5⟩; clear CE)
          go_roundw
          case rel => exact ⟨i + 1, by simp, by omega, HH2.out, bt hbr (bt (bt (bxn _ _) (bxn _ _)) hb5)⟩
          case measure => simp [intOf]; omega
        · have HN : Hid (A = false) := HNO.out heq
          simp only [decide_eq_false heq] at CE
          clear heq HALL HNO hcs1 hcs2
          go_wp2_with (go_at_call 29; refine (CE _ (bt (bxn _ _) (bxn _ _))).mono ?_; rintro e w5 ⟨rfl, hb5⟩; clear CE)
          go_ret
          exact ⟨ret_bool HN.out.symm, bt hbr (bt (bt (bxn _ _) (bxn _ _)) hb5)⟩
      · have hiz : ¬ (i : Int) < xs.length := by omega
        have HN : Hid (A = true) := by show _ = _; rw [HA.out]; exact decide_eq_true (eq_go ru0 HL.out hall (by omega))
        clear hall
        go_wp2
        go_ret
        exact ⟨ret_bool HN.out.symm, hbr⟩
  · have hlz : ((xs.length : Int) == ys.length) = false := by rw [beq_eq_false_iff_ne]; omega
    have HN : Hid (A = false) := by show _ = _; rw [HA.out]; exact decide_eq_false (fun e => hl (by rw [e]))
    clear hl HA
    go_enter Tryz.func28, Tryz.ntmps28
    go_wp2
    go_ret
    exact ⟨ret_bool HN.out.symm, Below.refl _ _⟩
set_option maxHeartbeats 4000000 in
theorem psameP_any {P1 P2 : Nat → Nat → Prop} (cs1 cs2 : List Value) (x y : ProgD) (w : World) (h1 : ReP P1 w cs1 x) (h2 : ReP P2 w cs2 y) :
    Calls Tryz.prog 13 #[.agg cs1.toArray, .agg cs2.toArray] w fun e w' => e = .returned (.bool (decide (x = y))) ∧ Below w.heap.size w w' := by
  obtain ⟨va1, vb1, hcs1, r1, t1⟩ := h1; obtain ⟨a1, n1, c1, e1⟩ := r1.like; obtain ⟨b1, m1, d1, f1⟩ := t1.like; subst e1; subst f1
  obtain ⟨va2, vb2, hcs2, r2, t2⟩ := h2; obtain ⟨a2, n2, c2, e2⟩ := r2.like; obtain ⟨b2, m2, d2, f2⟩ := t2.like; subst e2; subst f2
  subst hcs1
  subst hcs2
  obtain ⟨A, hA⟩ : ∃ A, A = decide (x = y) := ⟨_, rfl⟩
  rw [← hA]
  have HA : Hid (A = decide (x = y)) := hA
  clear hA
  have C0 : ∀ W, Below w.heap.size w W → Calls Tryz.prog 26 _ W fun e w' => e = .returned (.bool (decide (x.cs = y.cs))) ∧ Below W.heap.size W w' := fun W hW => efK_any _ _ x.cs y.cs W (Row.keep (Stays.below hW) (fun _ _ => ReK.keep (Stays.below hW)) r1) (Row.keep (Stays.below hW) (fun _ _ => ReK.keep (Stays.below hW)) r2)
  have C1 : ∀ W, Below w.heap.size w W → Calls Tryz.prog 28 _ W fun e w' => e = .returned (.bool (decide (x.rs = y.rs))) ∧ Below W.heap.size W w' := fun W hW => efR_any _ _ x.rs y.rs W (Row.keep (Stays.below hW) (fun _ _ => ReR.keep (Stays.below hW)) t1) (Row.keep (Stays.below hW) (fun _ _ => ReR.keep (Stays.below hW)) t2)
  clear r1 r2 t1 t2
  by_cases hr0 : x.cs = y.cs
  case neg =>
    have HN : Hid (A = false) := by show _ = _; rw [HA.out]; exact decide_eq_false (fun e => hr0 (by rw [e]))
    simp only [decide_eq_false hr0] at C0
    clear HA hr0
    go_enter Tryz.func13, Tryz.ntmps13
    go_wp2_with (first | (go_at_call 26; refine (C0 _ (bt (bxn _ _) (bxn _ _))).mono ?_; rintro e w5 ⟨rfl, hb0⟩; clear C0; obtain ⟨hc, hz⟩ := bcell hb0; have g10 : w5.cell? ⟨w.heap.size, 0, none⟩ = some (.slice a1 n1 c1) := (by rw [hc _ _ (by simp <;> omega)]; go_simp); have g11 : w5.cell? ⟨w.heap.size, 1, none⟩ = some (.slice b1 m1 d1) := (by rw [hc _ _ (by simp <;> omega)]; go_simp); have g20 : w5.cell? ⟨(w.heap.size + 1), 0, none⟩ = some (.slice a2 n2 c2) := (by rw [hc _ _ (by simp <;> omega)]; go_simp); have g21 : w5.cell? ⟨(w.heap.size + 1), 1, none⟩ = some (.slice b2 m2 d2) := (by rw [hc _ _ (by simp <;> omega)]; go_simp); clear hc hz))
    go_ret
    exact ⟨ret_bool HN.out.symm, bt (bxn2t _ _ _) hb0⟩
  have Hr0 : Hid (x.cs = y.cs) := hr0
  simp only [decide_eq_true hr0] at C0
  clear hr0
  by_cases hr1 : x.rs = y.rs
  case neg =>
    have HN : Hid (A = false) := by show _ = _; rw [HA.out]; exact decide_eq_false (fun e => hr1 (by rw [e]))
    simp only [decide_eq_false hr1] at C1
    clear HA hr1
    go_enter Tryz.func13, Tryz.ntmps13
    go_wp2_with (first | (go_at_call 26; refine (C0 _ (bt (bxn _ _) (bxn _ _))).mono ?_; rintro e w5 ⟨rfl, hb0⟩; clear C0; obtain ⟨hc, hz⟩ := bcell hb0; have g10 : w5.cell? ⟨w.heap.size, 0, none⟩ = some (.slice a1 n1 c1) := (by rw [hc _ _ (by simp <;> omega)]; go_simp); have g11 : w5.cell? ⟨w.heap.size, 1, none⟩ = some (.slice b1 m1 d1) := (by rw [hc _ _ (by simp <;> omega)]; go_simp); have g20 : w5.cell? ⟨(w.heap.size + 1), 0, none⟩ = some (.slice a2 n2 c2) := (by rw [hc _ _ (by simp <;> omega)]; go_simp); have g21 : w5.cell? ⟨(w.heap.size + 1), 1, none⟩ = some (.slice b2 m2 d2) := (by rw [hc _ _ (by simp <;> omega)]; go_simp); clear hc hz) | (go_at_call 28; refine (C1 _ (bt (bt (bxn _ _) (bxn _ _)) hb0)).mono ?_; rintro e w6 ⟨rfl, hb1⟩; clear C1))
    go_ret
    exact ⟨ret_bool HN.out.symm, bt (bt (bxn2t _ _ _) hb0) hb1⟩
  have Hr1 : Hid (x.rs = y.rs) := hr1
  simp only [decide_eq_true hr1] at C1
  clear hr1
  have HN : Hid (A = true) := by show _ = _; rw [HA.out]; exact decide_eq_true (extProgD  Hr0.out Hr1.out)
  clear HA
  go_enter Tryz.func13, Tryz.ntmps13
  go_wp2_with (first | (go_at_call 26; refine (C0 _ (bt (bxn _ _) (bxn _ _))).mono ?_; rintro e w5 ⟨rfl, hb0⟩; clear C0; obtain ⟨hc, hz⟩ := bcell hb0; have g10 : w5.cell? ⟨w.heap.size, 0, none⟩ = some (.slice a1 n1 c1) := (by rw [hc _ _ (by simp <;> omega)]; go_simp); have g11 : w5.cell? ⟨w.heap.size, 1, none⟩ = some (.slice b1 m1 d1) := (by rw [hc _ _ (by simp <;> omega)]; go_simp); have g20 : w5.cell? ⟨(w.heap.size + 1), 0, none⟩ = some (.slice a2 n2 c2) := (by rw [hc _ _ (by simp <;> omega)]; go_simp); have g21 : w5.cell? ⟨(w.heap.size + 1), 1, none⟩ = some (.slice b2 m2 d2) := (by rw [hc _ _ (by simp <;> omega)]; go_simp); clear hc hz) | (go_at_call 28; refine (C1 _ (bt (bt (bxn _ _) (bxn _ _)) hb0)).mono ?_; rintro e w6 ⟨rfl, hb1⟩; clear C1))
  go_ret
  exact ⟨ret_bool HN.out.symm, bt (bt (bxn2t _ _ _) hb0) hb1⟩
end Go.Proofs.YtdcpfnffckkfcaaGreatDoor
