/- Both Gets of any bytes, both Puts: what a law takes. -/
import Derived.Test.YtpmhilaochfpaaaDoorRg
import Derived.Test.YtpmhilaochfpaaaDoorRn
namespace Go.Proofs.YtpmhilaochfpaaaDoor
set_option maxRecDepth 20000
open Go.RowKit
set_option linter.unusedVariables false
set_option linter.unusedSimpArgs false
set_option maxRecDepth 20000

set_option maxHeartbeats 1000000 in
theorem rget_nil (a : Option Addr) (cap : Nat) (w : World) :
    Calls Tryd.prog 30 #[.slice a 0 cap] w fun e w' => e = .returned (gtA []) ∧ Below w.heap.size w w' := by
  have HA : Hid (gtA [] = .tuple #[vv 0 0 ByteArray.empty, .int .i64 0, .int .i64 3]) := gt3 rfl
  generalize gtA [] = ans at *
  go_enter Tryd.func30, Tryd.ntmps30
  go_wp2
  refine bodyPost_ret (v := .tuple #[vv 0 0 ByteArray.empty, .int .i64 0, .int .i64 3]) (by simp [results, Tryd.results30, go_sem, vv] <;> rfl) rfl ⟨by rw [HA.out], ?_⟩
  exact box1 _ _
theorem rget_all (a : Option Addr) (len cap : Nat) (zs : List Int) (w : World) (hb : BV w a zs) (hl : zs.length = len) (hm : len ≤ 300) (hc : len ≤ cap) (hcm : cap ≤ 9223372036854775807) :
    Calls Tryd.prog 30 #[.slice a len cap] w fun e w' => e = .returned (gtA zs) ∧ Below w.heap.size w w' := by
  by_cases hz : zs = []
  · subst hz; subst hl; exact rget_nil a cap w
  · obtain ⟨_, hz' | ⟨b, off, e, _⟩⟩ := id hb
    · exact absurd hz' hz
    subst e
    by_cases h1 : tkK zs = 1
    · by_cases hcap : cap = 1
      · exact rget_one1 b off len cap zs w hb hl hm hc hcm hz h1 hcap
      · exact rget_one0 b off len cap zs w hb hl hm hc hcm hz h1 hcap
    · by_cases h2 : tkK zs = 2
      · by_cases hcap : cap = 1
        · exact rget_two1 b off len cap zs w hb hl hm hc hcm hz h2 hcap
        · exact rget_two0 b off len cap zs w hb hl hm hc hcm hz h2 hcap
      · by_cases hcap : cap = 1
        · exact rget_oth1 b off len cap zs w hb hl hm hc hcm hz h1 h2 hcap
        · exact rget_oth0 b off len cap zs w hb hl hm hc hcm hz h1 h2 hcap
theorem gt_is (zs : List Int) : ∃ k n s m e, gtA zs = .tuple #[vv k n s, .int .i64 m, .int .i64 e] := by
  unfold gtA
  split
  · exact ⟨_, _, _, _, _, rfl⟩
  · exact ⟨_, _, _, _, _, rfl⟩
theorem put_all13 {k n : Int} {s : ByteArray} (h0 : 0 ≤ k) (h255 : k ≤ 255) : AllB (putL13 k n s) := by
  unfold putL13
  split
  · exact AllB.nil
  · intro z hz
    rcases List.mem_cons.1 hz with e | e
    · omega
    · unfold rstL at e
      split at e
      · exact signL_all n z e
      · split at e
        · exact textL_all s z e
        · cases e
end Go.Proofs.YtpmhilaochfpaaaDoor
