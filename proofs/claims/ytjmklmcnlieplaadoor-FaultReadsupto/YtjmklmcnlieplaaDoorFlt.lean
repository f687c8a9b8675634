/- Run-time errors: the small functions of fault and of the reference. -/
import Derived.Test.YtjmklmcnlieplaaDoorRows
import Derived.WalkKit
import Derived.ProofKit
import Derived.OpenShut
import Derived.Handy
namespace Go.Proofs.YtjmklmcnlieplaaDoor
open Go.ChangeShapes Go.WideShapes Go.ChangeAt Go.RowKit
set_option maxRecDepth 100000
set_option linter.unusedSimpArgs false
set_option linter.unusedVariables false
/-- A run-time error. -/
structure Fl where
  k : Int
  a : Int
  b : Int
  c : Int
def fv (x : Fl) : Value := .agg #[.int .i64 x.k, .int .i64 x.a, .int .i64 x.b, .int .i64 x.c]
def f0 : Fl := ⟨0, 0, 0, 0⟩
def indexF (i n : Int) : Fl := if 0 ≤ i ∧ i < n then f0 else ⟨1, i, n, 0⟩
def boundsF (lo hi n : Int) : Fl := if 0 ≤ lo ∧ lo ≤ hi ∧ hi ≤ n then f0 else ⟨5, lo, hi, n⟩
def longF (n most : Int) : Fl := if n ≤ most then f0 else ⟨7, n, most, 0⟩
def opF (op b : Int) : Fl := if (op = 4 ∨ op = 5) ∧ b = 0 then ⟨2, 0, 0, 0⟩ else if (op = 6 ∨ op = 7) ∧ b < 0 then ⟨3, 0, 0, 0⟩ else f0
theorem field_f (k a b c : Int) (w : World) : (Instr.field 23 (.agg #[.int .i64 k, .int .i64 a, .int .i64 b, .int .i64 c]) 0).run Tryd.prog w = .ok (.int .i64 k) w := by kernel_rfl
set_option maxHeartbeats 1000000
end Go.Proofs.YtjmklmcnlieplaaDoor
