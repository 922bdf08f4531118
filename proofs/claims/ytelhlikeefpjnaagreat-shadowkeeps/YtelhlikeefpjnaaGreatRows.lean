/-
  No cell of these rows narrows 'for every input' (looked for: loops, veiled, ifaces, maps, wideKeys, modest, calm, conditions, laid).
  DERIVED. THE GIVEN ROWS OF THIS SEAT. 5 by the template 'for every input the law returns true; each argument reads behind the call as it read before'; 0 by the template 'total and deterministic' (their statements: YtelhlikeefpjnaaGreatTotals.lean).
  GIVEN WITH THE SEED: the statements are not yours to turn. If you find one false, say at which input.
  Laid BY PROGRAM, IN A SANDBOX (cutbox-rows.mjs): the forced cells as the released guide's own fill.sh prints them over the translation 9705f70e85a3e1d0… (all of the seat's roots in one cut). By AI agents, Wed Nov 11 2026. No macro, syntax, notation, axiom, sorry.
-/
import Derived.Test.YtelhlikeefpjnaaGreatChecked
import GoSem.Claim
import GoSem.ClaimJoined
import GoSem.ClaimMapViews
import Derived.JoinedTies
import Derived.KernelRfl
namespace Go.Proofs.YtelhlikeefpjnaaGreat
/- THE CELL 'sum', in the pinned program and in every row, IS THE sha256 OF THE DUMP (.gsa) THAT YtelhlikeefpjnaaGreatProg.lean LOADS. Nothing in Lean hashes anything: it is a label: what it is worth is what the hold of that sum in a sandbox is worth. -/
noncomputable def Tryz.pinned : Pinned := { name := "ytelhlikeefpjnaagreat", sum := "9705f70e85a3e1d0ca9c0a38b33527c3d4c09bc925438c97d405c986217cd6f0", checked := Tryz.checked }
namespace Rows
def none {H : Type} : Left H := { results := [], args := [] }

/-- 'intarsialaw07.ShadowPlays': WHATEVER THE INPUT: true; the input reads as it did. -/
def shadowPlaysSpec : ChangeSpec := { name := "shadowPlays", fn := fun _ => fun
  | [d1, d2] => { results := [.lit (.bool true)], args := [d1, d2] }
  | _ => none }
def shadowPlaysRow : OpenClaim := { program := "ytelhlikeefpjnaagreat", sum := "9705f70e85a3e1d0ca9c0a38b33527c3d4c09bc925438c97d405c986217cd6f0", func := "intarsia/intarsialaw07.ShadowPlays", spec := "shadowPlays", unfollowed := true, recurses := true, apart := false }
def ShadowPlaysSaid : Prop := shadowPlaysRow.holds Tryz.pinned (OpenSpec.ofChange shadowPlaysSpec)

/-- ITS FALSE NEIGHBOUR: 'it returns false'. Refute it at one input. -/
def shadowPlaysWrong : ChangeSpec := { name := "shadowPlays", fn := fun _ => fun
  | [d1, d2] => { results := [.lit (.bool false)], args := [d1, d2] }
  | _ => none }
def ShadowPlaysWrongFalsely : Prop := shadowPlaysRow.holds Tryz.pinned (OpenSpec.ofChange shadowPlaysWrong)

/-- 'intarsialaw07.ShadowForks': WHATEVER THE INPUT: true; the input reads as it did. -/
def shadowForksSpec : ChangeSpec := { name := "shadowForks", fn := fun _ => fun
  | [d1, d2] => { results := [.lit (.bool true)], args := [d1, d2] }
  | _ => none }
def shadowForksRow : OpenClaim := { program := "ytelhlikeefpjnaagreat", sum := "9705f70e85a3e1d0ca9c0a38b33527c3d4c09bc925438c97d405c986217cd6f0", func := "intarsia/intarsialaw07.ShadowForks", spec := "shadowForks", inPlace := ["maps.clone"], unfollowed := true, recurses := true, apart := false }
def ShadowForksSaid : Prop := shadowForksRow.holds Tryz.pinned (OpenSpec.ofChange shadowForksSpec)

/-- ITS FALSE NEIGHBOUR: 'it returns false'. Refute it at one input. -/
def shadowForksWrong : ChangeSpec := { name := "shadowForks", fn := fun _ => fun
  | [d1, d2] => { results := [.lit (.bool false)], args := [d1, d2] }
  | _ => none }
def ShadowForksWrongFalsely : Prop := shadowForksRow.holds Tryz.pinned (OpenSpec.ofChange shadowForksWrong)

/-- 'intarsialaw07.ShadowKeeps': WHATEVER THE INPUT: true; the input reads as it did. -/
def shadowKeepsSpec : ChangeSpec := { name := "shadowKeeps", fn := fun _ => fun
  | [d] => { results := [.lit (.bool true)], args := [d] }
  | _ => none }
def shadowKeepsRow : OpenClaim := { program := "ytelhlikeefpjnaagreat", sum := "9705f70e85a3e1d0ca9c0a38b33527c3d4c09bc925438c97d405c986217cd6f0", func := "intarsia/intarsialaw07.ShadowKeeps", spec := "shadowKeeps", unfollowed := true, recurses := true, apart := false }
def ShadowKeepsSaid : Prop := shadowKeepsRow.holds Tryz.pinned (OpenSpec.ofChange shadowKeepsSpec)

/-- ITS FALSE NEIGHBOUR: 'it returns false'. Refute it at one input. -/
def shadowKeepsWrong : ChangeSpec := { name := "shadowKeeps", fn := fun _ => fun
  | [d] => { results := [.lit (.bool false)], args := [d] }
  | _ => none }
def ShadowKeepsWrongFalsely : Prop := shadowKeepsRow.holds Tryz.pinned (OpenSpec.ofChange shadowKeepsWrong)

/-- 'intarsialaw07.ShadowSplits': WHATEVER THE INPUT: true; the input reads as it did. -/
def shadowSplitsSpec : ChangeSpec := { name := "shadowSplits", fn := fun _ => fun
  | [d] => { results := [.lit (.bool true)], args := [d] }
  | _ => none }
def shadowSplitsRow : OpenClaim := { program := "ytelhlikeefpjnaagreat", sum := "9705f70e85a3e1d0ca9c0a38b33527c3d4c09bc925438c97d405c986217cd6f0", func := "intarsia/intarsialaw07.ShadowSplits", spec := "shadowSplits", unfollowed := true, recurses := true, apart := false }
def ShadowSplitsSaid : Prop := shadowSplitsRow.holds Tryz.pinned (OpenSpec.ofChange shadowSplitsSpec)

/-- ITS FALSE NEIGHBOUR: 'it returns false'. Refute it at one input. -/
def shadowSplitsWrong : ChangeSpec := { name := "shadowSplits", fn := fun _ => fun
  | [d] => { results := [.lit (.bool false)], args := [d] }
  | _ => none }
def ShadowSplitsWrongFalsely : Prop := shadowSplitsRow.holds Tryz.pinned (OpenSpec.ofChange shadowSplitsWrong)

/-- 'intarsialaw07.ShadowFills': WHATEVER THE INPUT: true; the input reads as it did. -/
def shadowFillsSpec : ChangeSpec := { name := "shadowFills", fn := fun _ => fun
  | [d1, d2] => { results := [.lit (.bool true)], args := [d1, d2] }
  | _ => none }
def shadowFillsRow : OpenClaim := { program := "ytelhlikeefpjnaagreat", sum := "9705f70e85a3e1d0ca9c0a38b33527c3d4c09bc925438c97d405c986217cd6f0", func := "intarsia/intarsialaw07.ShadowFills", spec := "shadowFills", unfollowed := true, recurses := true, apart := false }
def ShadowFillsSaid : Prop := shadowFillsRow.holds Tryz.pinned (OpenSpec.ofChange shadowFillsSpec)

/-- ITS FALSE NEIGHBOUR: 'it returns false'. Refute it at one input. -/
def shadowFillsWrong : ChangeSpec := { name := "shadowFills", fn := fun _ => fun
  | [d1, d2] => { results := [.lit (.bool false)], args := [d1, d2] }
  | _ => none }
def ShadowFillsWrongFalsely : Prop := shadowFillsRow.holds Tryz.pinned (OpenSpec.ofChange shadowFillsWrong)

/- THE SECOND FORM. 'bulk': how many values and letters a reading holds, each counted each time it is reached (what is shared counts as often as it is met; a slice's spare places count too). A statement '..UptoSaid' is the law's where the arguments, and the package variables that the reading takes, are together of bulk at most 1048576: NARROWER than '..Said'. Prove '..Said' where nothing that the law and all that it calls make is longer than what came in: it says more and counts as full. Else prove '..UptoSaid'. A law counts once. -/
mutual
def uptoBulk {H : Type} : DataW H → Nat
  | .lit (.string bytes) => bytes.length + 1
  | .lit _ => 1
  | .nil => 1
  | .ptr d => uptoBulk d + 1
  | .slice elems spare => uptoBulkAll elems + uptoBulkAll spare + 1
  | .agg parts => uptoBulkAll parts + 1
  | .iface _ d => uptoBulk d + 1
  | .map entries => uptoBulkEntries entries + 1
  | .held _ => 1
def uptoBulkAll {H : Type} : List (DataW H) → Nat
  | [] => 0
  | d :: r => uptoBulk d + uptoBulkAll r
def uptoBulkEntries {H : Type} : List (Lit × DataW H) → Nat
  | [] => 0
  | x :: r => uptoBulkEntry x + uptoBulkEntries r
def uptoBulkEntry {H : Type} : Lit × DataW H → Nat
  | (.string bytes, d) => bytes.length + uptoBulk d + 1
  | (_, d) => uptoBulk d + 1
 end
def uptoSmall : (H : Type) → List (DataW H) → Bool := fun _ ds => decide (uptoBulkAll ds ≤ 1048576)
def OpenSpec.upto (s : _root_.Go.ChangeSpec) : _root_.Go.OpenSpec := { _root_.Go.OpenSpec.ofChange s with cond := some uptoSmall }

/-- 'intarsialaw07.ShadowPlays', WHERE WHAT IT READS IS OF BULK AT MOST 1048576: true; the input reads as it did. -/
def shadowPlaysUptoRow : OpenClaim := { program := "ytelhlikeefpjnaagreat", sum := "9705f70e85a3e1d0ca9c0a38b33527c3d4c09bc925438c97d405c986217cd6f0", func := "intarsia/intarsialaw07.ShadowPlays", spec := "shadowPlays", unfollowed := true, recurses := true, apart := false, narrowed := true }
def ShadowPlaysUptoSaid : Prop := shadowPlaysUptoRow.holds Tryz.pinned (OpenSpec.upto shadowPlaysSpec)

/-- 'intarsialaw07.ShadowForks', WHERE WHAT IT READS IS OF BULK AT MOST 1048576: true; the input reads as it did. -/
def shadowForksUptoRow : OpenClaim := { program := "ytelhlikeefpjnaagreat", sum := "9705f70e85a3e1d0ca9c0a38b33527c3d4c09bc925438c97d405c986217cd6f0", func := "intarsia/intarsialaw07.ShadowForks", spec := "shadowForks", inPlace := ["maps.clone"], unfollowed := true, recurses := true, apart := false, narrowed := true }
def ShadowForksUptoSaid : Prop := shadowForksUptoRow.holds Tryz.pinned (OpenSpec.upto shadowForksSpec)

/-- 'intarsialaw07.ShadowKeeps', WHERE WHAT IT READS IS OF BULK AT MOST 1048576: true; the input reads as it did. -/
def shadowKeepsUptoRow : OpenClaim := { program := "ytelhlikeefpjnaagreat", sum := "9705f70e85a3e1d0ca9c0a38b33527c3d4c09bc925438c97d405c986217cd6f0", func := "intarsia/intarsialaw07.ShadowKeeps", spec := "shadowKeeps", unfollowed := true, recurses := true, apart := false, narrowed := true }
def ShadowKeepsUptoSaid : Prop := shadowKeepsUptoRow.holds Tryz.pinned (OpenSpec.upto shadowKeepsSpec)

/-- 'intarsialaw07.ShadowSplits', WHERE WHAT IT READS IS OF BULK AT MOST 1048576: true; the input reads as it did. -/
def shadowSplitsUptoRow : OpenClaim := { program := "ytelhlikeefpjnaagreat", sum := "9705f70e85a3e1d0ca9c0a38b33527c3d4c09bc925438c97d405c986217cd6f0", func := "intarsia/intarsialaw07.ShadowSplits", spec := "shadowSplits", unfollowed := true, recurses := true, apart := false, narrowed := true }
def ShadowSplitsUptoSaid : Prop := shadowSplitsUptoRow.holds Tryz.pinned (OpenSpec.upto shadowSplitsSpec)

/-- 'intarsialaw07.ShadowFills', WHERE WHAT IT READS IS OF BULK AT MOST 1048576: true; the input reads as it did. -/
def shadowFillsUptoRow : OpenClaim := { program := "ytelhlikeefpjnaagreat", sum := "9705f70e85a3e1d0ca9c0a38b33527c3d4c09bc925438c97d405c986217cd6f0", func := "intarsia/intarsialaw07.ShadowFills", spec := "shadowFills", unfollowed := true, recurses := true, apart := false, narrowed := true }
def ShadowFillsUptoSaid : Prop := shadowFillsUptoRow.holds Tryz.pinned (OpenSpec.upto shadowFillsSpec)

end Rows
end Go.Proofs.YtelhlikeefpjnaaGreat
