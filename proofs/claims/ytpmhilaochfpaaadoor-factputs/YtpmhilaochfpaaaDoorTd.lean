/- The document's digits: contract of Told. -/
import Derived.Test.YtpmhilaochfpaaaDoorWd
import Derived.Test.YtpmhilaochfpaaaDoorNb
import Derived.Deep.LoopGhost
namespace Go.Proofs.YtpmhilaochfpaaaDoor
set_option maxRecDepth 20000
set_option maxRecDepth 20000
set_option maxRecDepth 20000
set_option maxRecDepth 20000
set_option maxRecDepth 20000
open Go.RowKit
set_option linter.unusedVariables false
set_option linter.unusedSimpArgs false
set_option maxRecDepth 20000

theorem ret_str {a b : ByteArray} (h : a = b) : Ending.returned (.string a) = .returned (.string b) := by rw [h]
def dd (m : Nat) : List UInt8 := if m = 0 then [] else Lib.decDigits m
theorem dd_step (m : Nat) (h : m ≠ 0) : dd m = dd (m / 10) ++ [UInt8.ofNat (48 + m % 10)] := by
  unfold dd
  rw [if_neg h, Lib.decDigits]
  by_cases h9 : m < 10
  · rw [dif_pos h9, if_pos (by omega), Nat.mod_eq_of_lt h9]; rfl
  · rw [dif_neg h9, if_neg (by omega)]
theorem dg_fin : ∀ d : Fin 10, (({ data := #[48, 49, 50, 51, 52, 53, 54, 55, 56, 57] } : ByteArray).extract d.val (d.val + 1)).data.toList = [UInt8.ofNat (48 + d.val)] := by decide +kernel
theorem dg_app (m : Nat) (t : ByteArray) : (({ data := #[48, 49, 50, 51, 52, 53, 54, 55, 56, 57] } : ByteArray).extract (m % 10) (m % 10 + 1) ++ t).data.toList = UInt8.ofNat (48 + m % 10) :: t.data.toList := by
  have := dg_fin ⟨m % 10, by omega⟩
  simp only at this
  rw [ByteArray.data_append, Array.toList_append, this]; rfl
theorem dg_size (m : Nat) (t : ByteArray) : (({ data := #[48, 49, 50, 51, 52, 53, 54, 55, 56, 57] } : ByteArray).extract (m % 10) (m % 10 + 1) ++ t).size = t.size + 1 := by
  rw [← lenL, dg_app, List.length_cons, lenL]
theorem dd_len (n0 m : Nat) (t : List UInt8) (h : n0 ≤ 1099511627776) (e : Lib.decDigits n0 = dd m ++ t) : t.length + (dd m).length ≤ 21 := by
  have h1 := Lib.itoa_length_le (n0 : Int) (by omega) (by omega)
  rw [Lib.itoa, if_neg (by omega)] at h1
  have : ((n0 : Int)).toNat = n0 := by omega
  rw [this, e, List.length_append] at h1; omega
theorem dd_pos (m : Nat) (h : m ≠ 0) : dd m = Lib.decDigits m := if_neg h
theorem str_is {t : ByteArray} {l : List UInt8} (h : t.data.toList = l) : t = ⟨l.toArray⟩ := by cases t; subst h; simp
end Go.Proofs.YtpmhilaochfpaaaDoor
