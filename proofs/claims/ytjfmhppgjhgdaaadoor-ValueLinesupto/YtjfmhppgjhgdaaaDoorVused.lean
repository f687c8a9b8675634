/- A value without what its kind does not use. -/
import Derived.Test.YtjfmhppgjhgdaaaDoorVord
namespace Go.Proofs.YtjfmhppgjhgdaaaDoor
open Go.ChangeShapes Go.WideShapes Go.ChangeAt Go.RowKit
set_option maxRecDepth 100000
set_option linter.unusedSimpArgs false
set_option linter.unusedVariables false

def plainV (x : Vv) : Vv :=
  if x.kind = 1 ∨ x.kind = 7 ∨ x.kind = 8 then ⟨x.kind, x.n, ⟨#[]⟩, []⟩
  else if x.kind = 2 then ⟨2, if x.n = 0 then 0 else 1, ⟨#[]⟩, []⟩
  else if x.kind = 3 ∨ x.kind = 5 then ⟨x.kind, 0, x.s, []⟩
  else if x.kind = 4 then ⟨4, 0, ⟨#[]⟩, []⟩
  else if x.kind = 6 then ⟨6, 0, ⟨#[]⟩, x.l⟩
  else ⟨0, 0, ⟨#[]⟩, []⟩
def plainL (x : Vv) (L : Value) : Value := if x.kind = 6 then L else .slice none 0 0
end Go.Proofs.YtjfmhppgjhgdaaaDoor
