import Derived.Test.YtemacdimdpnkeaaGreatDoorB18
import Derived.Test.YtemacdimdpnkeaaGreatDoorB22
namespace Go.Proofs.YtemacdimdpnkeaaGreatDoor
set_option maxRecDepth 20000
open Go.RowKit
set_option linter.unusedVariables false
set_option linter.unusedSimpArgs false
theorem tv_lit2 (w1 : World) (o : Obj) (x : TA) (ty : TypeId) : TV ((w1.alloc o).alloc (.cells #[.int .u8 x.1.k, .string (st x.1.nm), .int .u8 x.1.p, .int .u8 x.1.vk, .int .i64 x.1.vn, .string (st x.1.vs), .int .i64 x.2] ty)) (some ⟨w1.heap.size + 1, 0, none⟩) [x] := by
  have h := tv_lit (w1.alloc o) x ty
  rwa [show (w1.alloc o).heap.size = w1.heap.size + 1 by simp] at h
end Go.Proofs.YtemacdimdpnkeaaGreatDoor
namespace Go.Proofs.YtemacdimdpnkeaaGreatDoor
set_option maxRecDepth 20000
open Go.RowKit
set_option linter.unusedVariables false
set_option linter.unusedSimpArgs false
set_option maxHeartbeats 8000000 in
theorem scan_any (s : ByteArray) (w : World) (hs : s.size ≤ 16384) (hV : Vars w) :
    Calls Tryz.prog 11 #[.string s] w fun e w' => ∃ v, e = .returned (.tuple #[v, .int .i64 (scanL s.data.toList).2.1, .int .i64 (scanL s.data.toList).2.2]) ∧ OwnK 71 w' w.heap.size v (scanL s.data.toList).1 ∧ Below w.heap.size w w' := by
  obtain ⟨S, hS⟩ : ∃ S, S = scanL s.data.toList := ⟨_, rfl⟩
  rw [← hS]
  have hwl : whN s.data.toList ≤ s.size := by rw [← lenL]; exact wh_le _ _ (Nat.le_refl _)
  have HA : Hid (S = ([] ++ (scanGo s.data.toList.length (whN s.data.toList) (s.data.toList.drop (whN s.data.toList))).1, (scanGo s.data.toList.length (whN s.data.toList) (s.data.toList.drop (whN s.data.toList))).2)) := hS
  clear hS
  have hsz : ¬ (16384 : Int) < s.size := by omega
  have CW := fun W => white_any s W (by omega)
  generalize hW0 : whN s.data.toList = a0 at *
  clear hW0
  go_enter Tryz.func11, Tryz.ntmps11
  go_wp2_with (go_at_call 23; refine (CW _).mono ?_; rintro e w0 ⟨rfl, hb0⟩; clear CW)
  go_loopw [5, 6] (fun v5 v6 wr => ∃ (a : Nat) (ts : List TA), v6 = .int .i64 a ∧ a ≤ s.size ∧ ts.length ≤ a ∧ OwnK 71 wr w.heap.size v5 ts ∧ Below w.heap.size w wr ∧ S = (ts ++ (scanGo s.data.toList.length a (s.data.toList.drop a)).1, (scanGo s.data.toList.length a (s.data.toList.drop a)).2)) (fun _ v6 _ => (s.size - intOf v6).toNat)
  case atStart => exact ⟨a0, [], rfl, hwl, Nat.zero_le _, OwnK.nil _ _ _, hb0, HA.out⟩
  case round =>
    obtain ⟨a, ts, rfl, ha, htl, hown, hbw, hr⟩ := hrel
    have HR : Hid (S = (ts ++ (scanGo s.data.toList.length a (s.data.toList.drop a)).1, (scanGo s.data.toList.length a (s.data.toList.drop a)).2)) := hr
    have HO : Hid (OwnK 71 wr w.heap.size u5 ts) := hown
    clear hr HA hown hb0 hwl
    have haz : (a : Int) ≤ s.size := by omega
    by_cases hp : a < s.size
    · have hpz : (a : Int) < s.size := by omega
      have hl : a < s.data.toList.length := by rw [lenL]; exact hp
      obtain ⟨x, hx⟩ : ∃ x, s.extract a s.size = x := ⟨_, rfl⟩
      have hxl : x.data.toList = s.data.toList.drop a := by rw [← hx, ext_list]
      have hxs : x.size + a = s.size := by rw [← lenL x, hxl, List.length_drop, lenL]; omega
      have CT := take_any x wr (by omega) (hV.below hbw)
      have h1t := one_take (l := s.data.toList.drop a) (drop_ne hl)
      rw [hxl] at CT
      cases htk : tkL (s.data.toList.drop a) with
      | none =>
        rw [htk] at CT h1t
        have HE : Hid (S = (ts, a, 16)) := by show _ = _; rw [HR.out, scan_bad hl h1t]; simp
        unfold tkV tv tok0 at CT
        clear HR hxl h1t htk
        go_wp2_with (go_at_call 24; refine CT.mono ?_; rintro e w1 ⟨rfl, hb1⟩; clear CT)
        refine bodyPost_ret (v := .tuple #[u5, .int .i64 a, .int .i64 16]) (by simp [results, Tryz.results11, go_sem] <;> rfl) rfl ⟨u5, ?_, ?_, ?_⟩
        · rw [HE.out]; rfl
        · rw [HE.out]; exact (HO.out.below hb1).below (bxn _ _)
        · exact bt (bt hbw hb1) (bxn _ _)
      | some y =>
        obtain ⟨t, n⟩ := y
        rw [htk] at CT h1t
        rw [tkV_some] at CT
        have hn0 : 0 < n := by
          have : ∀ k m, svFrom (s.data.toList.drop a) k m = some (t, n) → 0 < n := by
            intro k
            induction k with
            | zero => intro m h; cases h
            | succ k ih =>
              intro m h
              unfold svFrom at h
              cases h7 : seven (s.data.toList.drop a) m with
              | some z => rw [h7] at h; obtain rfl := Option.some.inj h; exact seven_pos h7
              | none => rw [h7] at h; exact ih _ h
          exact this 7 0 htk
        have hnz : ((n : Int) == 0) = false := by rw [beq_eq_false_iff_ne]; omega
        have hnmz : ((st t.nm).size : Int) = t.nm.length := by rw [st_size]
        by_cases h24 : 24 < t.nm.length
        · have h24z : (24 : Int) < t.nm.length := by omega
          have HE : Hid (S = (ts, a, 16)) := by
            show _ = _
            rw [HR.out, scan_bad hl (h1t.trans (if_pos h24))]; simp
          generalize st t.nm = gn at *
          clear HR hxl h1t htk
          go_wp2_with (go_at_call 24; refine CT.mono ?_; rintro e w1 ⟨rfl, hb1⟩; clear CT)
          refine bodyPost_ret (v := .tuple #[u5, .int .i64 a, .int .i64 16]) (by simp [results, Tryz.results11, go_sem] <;> rfl) rfl ⟨u5, ?_, ?_, ?_⟩
          · rw [HE.out]; rfl
          · rw [HE.out]; exact (HO.out.below hb1).below (bxn _ _)
          · exact bt (bt hbw hb1) (bxn _ _)
        · have h24z : ¬ (24 : Int) < t.nm.length := by omega
          have h1 : oneL (s.data.toList.drop a) = some (t, n) := h1t.trans (if_neg h24)
          have hnl := (one_is (drop_ne hl) h1).2.2.1
          rw [List.length_drop, lenL] at hnl
          obtain ⟨y2, hy2⟩ : ∃ y2, s.extract (a + n) s.size = y2 := ⟨_, rfl⟩
          have hy2l : y2.data.toList = s.data.toList.drop (a + n) := by rw [← hy2, ext_list]
          have hy2s : y2.size ≤ s.size := by rw [← lenL, hy2l, List.length_drop, lenL]; omega
          have CW := fun W => white_any y2 W (by omega)
          rw [hy2l] at CW
          have hwl : whN (s.data.toList.drop (a + n)) + (a + n) ≤ s.size := by
            have := wh_le _ (s.data.toList.drop (a + n)) (Nat.le_refl _)
            rw [List.length_drop, lenL] at this
            omega
          have HX : Hid (S = (ts ++ [(t, a)] ++ (scanGo s.data.toList.length (a + n + whN (s.data.toList.drop (a + n))) (s.data.toList.drop (a + n + whN (s.data.toList.drop (a + n))))).1, (scanGo s.data.toList.length (a + n + whN (s.data.toList.drop (a + n))) (s.data.toList.drop (a + n + whN (s.data.toList.drop (a + n))))).2)) := by
            show _ = _; rw [HR.out, scan_at hl h1]; simp
          generalize whN (s.data.toList.drop (a + n)) = k at *
          have hy2z : (a : Int) + n ≤ s.size := by omega
          have hnlz : (n : Int) ≤ s.size := by omega
          clear HR hxl h1 hy2l h1t htk
          go_wp2_with (first | (go_at_call 24; refine CT.mono ?_; rintro e w1 ⟨rfl, hb1⟩; clear CT) | (at_builtin; refine wp_app_tk Tryz.underlying52 infoT34 rfl _ _ rfl w.heap.size u5 ts [(t, a)] rfl (((HO.out.below hb1).below (bxn _ _)).below (bxn _ _)) ⟨_, 0, none⟩ 1 1 rfl rfl (tv_lit2 w1 _ (t, a) 71) (by simp; omega) (bt (bt (bt hbw hb1) (bxn _ _)) (bxn _ _)).size ?_; rintro v' w2 ho2 hb2; have HO2 : Hid (OwnK 71 w2 w.heap.size v' (ts ++ [(t, a)])) := ho2; clear ho2) | (go_at_call 23; refine (CW _).mono ?_; rintro e w3 ⟨rfl, hb3⟩; clear CW))
          have HB2 : Below w.heap.size w w2 := (bt (bt (bt hbw hb1) (bxn w1 (.cells #[.int .u8 t.k, .string (st t.nm), .int .u8 t.p, .int .u8 t.vk, .int .i64 t.vn, .string (st t.vs), .int .i64 a] 71))) (bxn _ (.cells #[.int .u8 t.k, .string (st t.nm), .int .u8 t.p, .int .u8 t.vk, .int .i64 t.vn, .string (st t.vs), .int .i64 a] 71))).trans hb2
          go_roundw
          case rel => exact ⟨a + n + k, ts ++ [(t, a)], by simp, by omega, by simp; omega, HO2.out.below hb3, bt HB2 hb3, HX.out⟩
          case measure => simp [intOf]; omega
    · have hpz : ¬ (a : Int) < s.size := by omega
      have HE : Hid (S = (ts, 0, 0)) := by show _ = _; rw [HR.out, scan_end (by rw [lenL]; omega)]; simp
      clear HR
      go_wp2
      refine bodyPost_ret (v := .tuple #[u5, .int .i64 0, .int .i64 0]) (by simp [results, Tryz.results11, go_sem] <;> rfl) rfl ⟨u5, ?_, ?_, ?_⟩
      · rw [HE.out]; rfl
      · rw [HE.out]; exact HO.out
      · exact hbw
end Go.Proofs.YtemacdimdpnkeaaGreatDoor
