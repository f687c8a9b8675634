/- What word.Sign and panicroadref.Sign answer, for every number. -/
import Derived.Test.YtopefdcmmmjihaaDoorCut
import Derived.Lib.LaidTab
import Derived.Laws.OwnMore
namespace Go.Proofs.YtopefdcmmmjihaaDoor
open Go.ChangeShapes Go.WideShapes Go.ChangeAt Go.RowKit

/-- The sixteen signs. -/
def signsL : List ByteArray := [⟨#[43]⟩, ⟨#[45]⟩, ⟨#[42]⟩, ⟨#[47]⟩, ⟨#[37]⟩, ⟨#[60, 60]⟩, ⟨#[62, 62]⟩, ⟨#[38]⟩, ⟨#[124]⟩, ⟨#[94]⟩, ⟨#[61, 61]⟩, ⟨#[33, 61]⟩, ⟨#[60]⟩, ⟨#[60, 61]⟩, ⟨#[62]⟩, ⟨#[62, 61]⟩]
def signAt (k : Nat) : ByteArray := signsL.getD k ByteArray.empty
def allSigns : ByteArray := ⟨#[32, 43, 32, 45, 32, 42, 32, 47, 32, 37, 32, 60, 60, 32, 62, 62, 32, 38, 32, 124, 32, 94, 32, 61, 61, 32, 33, 61, 32, 60, 32, 60, 61, 32, 62, 32, 62, 61]⟩
theorem signs_cut : (cutSt allSigns 32 (allSigns.size + 1)).1 = ByteArray.empty :: signsL := by kernel_rfl
/-- The package's table, cell by cell. -/
def SignTab (w : World) : Prop := ∀ k, k < 16 → w.cell? ⟨0, k, none⟩ = some (.string (signAt k))

def sgS (op : Int) : ByteArray := if op < 1 ∨ 16 < op then ByteArray.empty else signAt (op.toNat - 1)
def sgE (op : Int) : Int := if op < 1 ∨ 16 < op then 13 else 0

theorem own_sign (op : Int) (w : World) (ht : SignTab w) :
    Calls Tryd.prog 10 #[.int .i64 op] w fun e w' => e = .returned (.tuple #[.string (sgS op), .int .i64 (sgE op)]) ∧ w' = w := by
  by_cases ho : op < 1 ∨ 16 < op
  · have e1 : sgS op = ByteArray.empty := by unfold sgS; rw [if_pos ho]
    have e2 : sgE op = 13 := by unfold sgE; rw [if_pos ho]
    rw [e1, e2]
    clear e1 e2 ht
    rcases ho with ho | ho
    all_goals
      go_enter Tryd.func10, Tryd.ntmps10
      go_wp2
      go_ret2
      exact ⟨rfl, rfl⟩
  · have e1 : sgS op = signAt (op.toNat - 1) := by unfold sgS; rw [if_neg ho]
    have e2 : sgE op = 0 := by unfold sgE; rw [if_neg ho]
    have hc := ht (op.toNat - 1) (by omega)
    rw [e1, e2]
    have l1 : 1 ≤ op := by omega
    have l2 : op ≤ 16 := by omega
    clear e1 e2 ht ho
    go_enter Tryd.func10, Tryd.ntmps10
    go_wp2
    go_ret2
    exact ⟨rfl, rfl⟩

theorem ref_sign (op : Int) (w : World) :
    Calls Tryd.prog 11 #[.int .i64 op] w fun e w' => e = .returned (.tuple #[.string (sgS op), .int .i64 (sgE op)]) ∧ Below w.heap.size w w' := by
  by_cases ho : op < 1 ∨ 16 < op
  · have e1 : sgS op = ByteArray.empty := by unfold sgS; rw [if_pos ho]
    have e2 : sgE op = 13 := by unfold sgE; rw [if_pos ho]
    rw [e1, e2]
    clear e1 e2
    rcases ho with ho | ho
    all_goals
      go_enter Tryd.func11, Tryd.ntmps11
      go_wp2
      go_ret2
      exact ⟨rfl, Below.refl _ _⟩
  · have e1 : sgS op = signAt (op.toNat - 1) := by unfold sgS; rw [if_neg ho]
    have e2 : sgE op = 0 := by unfold sgE; rw [if_neg ho]
    rw [e1, e2]
    have l1 : 1 ≤ op := by omega
    have l2 : op ≤ 16 := by omega
    clear e1 e2 ho
    go_enter Tryd.func11, Tryd.ntmps11
    go_wp2_with fail
    refine (cutAt_any allSigns 32 _ (by decide)).mono ?_
    rintro e w1 ⟨v, rfl, hown, hb⟩
    rw [signs_cut] at hown
    obtain ⟨g, cap, hv⟩ : ∃ g cap, v = .slice (some ⟨g, 0, none⟩) 17 cap := by
      rcases hown.2 with ⟨_, h⟩ | ⟨g, cap, _, h, _⟩
      · cases h
      · exact ⟨g, cap, h⟩
    subst hv
    have hc : w1.cell? ⟨g, op.toNat, none⟩ = some (.string (signAt (op.toNat - 1))) := by
      obtain ⟨k, hk⟩ : ∃ k : Nat, op = ((k + 1 : Nat) : Int) := ⟨(op - 1).toNat, by omega⟩
      subst hk
      rw [show (((k + 1 : Nat) : Int)).toNat = k + 1 from rfl, show k + 1 - 1 = k from rfl]
      have hk16 : k < 16 := by omega
      rw [hown.cellAt (k + 1) (by show k + 1 < 17 * 1; omega)]
      show (List.map Value.string signsL)[k]? = _
      rw [List.getElem?_map]
      unfold signAt
      rw [List.getD_eq_getElem?_getD, List.getElem?_eq_getElem (show k < signsL.length from hk16)]
      rfl
    clear hown
    go_wp2
    go_ret2
    exact ⟨rfl, hb⟩
end Go.Proofs.YtopefdcmmmjihaaDoor
