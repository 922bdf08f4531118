/- A program's parts as data: plain mathematics, no program. -/
import Derived.Test.YtpmhilaochfpaaaDoorRows
import Derived.WalkSpells
import Derived.WalkLawsBesides
import Derived.Laws.AppendOwnNone
import Derived.Lib.AppendStr
import Derived.Laws.BytesArg
import Derived.WalkKit
namespace Go.Proofs.YtpmhilaochfpaaaDoor
set_option maxRecDepth 20000
set_option maxRecDepth 20000
open Go.Lib
set_option linter.unusedVariables false

abbrev Str := List UInt8
structure VD where
  k : Int
  n : Int
  s : Str
deriving DecidableEq
structure TestD where
  p : Int
  v : Str
  x : VD
deriving DecidableEq
structure AttrD where
  a : Str
  ones : List VD
  tests : List TestD
deriving DecidableEq
structure CondD where
  neg : Bool
  c : Str
  attrs : List AttrD
deriving DecidableEq
structure ItemD where
  k : Int
  x : VD
  v : Str
deriving DecidableEq
structure SetD where
  a : Str
  e : List ItemD
deriving DecidableEq
structure ActD where
  k : Int
  c : Str
  n : Int
  v : Str
  sets : List SetD
  exprs : List (List ItemD)
deriving DecidableEq
structure RuleD where
  nm : Str
  conds : List CondD
  acts : List ActD
deriving DecidableEq
structure ClassD where
  nm : Str
  attrs : List Str
deriving DecidableEq
structure ProgD where
  cs : List ClassD
  rs : List RuleD
deriving DecidableEq
def v0 : VD := ⟨0, 0, []⟩
end Go.Proofs.YtpmhilaochfpaaaDoor
