/- What word.Sign and panicroadref.Sign answer, for every number. -/
import Derived.Test.YtopefdcmmmjihacDoorRows
import Derived.WalkKit
import Derived.ProofKit
import Derived.OpenShut
import Derived.Handy
import Derived.Lib.LaidTab
import Derived.Laws.OwnMore
namespace Go.Proofs.YtopefdcmmmjihacDoor
open Go.ChangeShapes Go.WideShapes Go.ChangeAt Go.RowKit

/-- The sixteen signs. -/
def signsL : List ByteArray := [⟨#[43]⟩, ⟨#[45]⟩, ⟨#[42]⟩, ⟨#[47]⟩, ⟨#[37]⟩, ⟨#[60, 60]⟩, ⟨#[62, 62]⟩, ⟨#[38]⟩, ⟨#[124]⟩, ⟨#[94]⟩, ⟨#[61, 61]⟩, ⟨#[33, 61]⟩, ⟨#[60]⟩, ⟨#[60, 61]⟩, ⟨#[62]⟩, ⟨#[62, 61]⟩]
def signAt (k : Nat) : ByteArray := signsL.getD k ByteArray.empty
/-- The package's table, cell by cell. -/
def SignTab (w : World) : Prop := ∀ k, k < 16 → w.cell? ⟨0, k, none⟩ = some (.string (signAt k))

def sgS (op : Int) : ByteArray := if op < 1 ∨ 16 < op then ByteArray.empty else signAt (op.toNat - 1)
def sgE (op : Int) : Int := if op < 1 ∨ 16 < op then 13 else 0

theorem own_sign (op : Int) (w : World) (ht : SignTab w) :
    Calls Tryd.prog 8 #[.int .i64 op] w fun e w' => e = .returned (.tuple #[.string (sgS op), .int .i64 (sgE op)]) ∧ w' = w := by
  by_cases ho : op < 1 ∨ 16 < op
  · have e1 : sgS op = ByteArray.empty := by unfold sgS; rw [if_pos ho]
    have e2 : sgE op = 13 := by unfold sgE; rw [if_pos ho]
    rw [e1, e2]
    clear e1 e2 ht
    rcases ho with ho | ho
    all_goals
      go_enter Tryd.func8, Tryd.ntmps8
      go_wp2
      go_ret2
      exact ⟨rfl, rfl⟩
  · have e1 : sgS op = signAt (op.toNat - 1) := by unfold sgS; rw [if_neg ho]
    have e2 : sgE op = 0 := by unfold sgE; rw [if_neg ho]
    have hc := ht (op.toNat - 1) (by omega)
    rw [e1, e2]
    have l1 : 1 ≤ op := by omega
    have l2 : op ≤ 16 := by omega
    clear e1 e2 ht ho
    go_enter Tryd.func8, Tryd.ntmps8
    go_wp2
    go_ret2
    exact ⟨rfl, rfl⟩

end Go.Proofs.YtopefdcmmmjihacDoor
