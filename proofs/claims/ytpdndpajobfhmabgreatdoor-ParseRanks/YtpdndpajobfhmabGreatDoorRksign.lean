/- word.Sign over its table, spot, rank. -/
import Derived.Test.YtpdndpajobfhmabGreatDoorRkpDefs
import Derived.Lib.LaidTab
import Derived.Laws.OwnMore
namespace Go.Proofs.YtpdndpajobfhmabGreatDoor
open Go.ChangeShapes Go.WideShapes Go.ChangeAt Go.RowKit
set_option maxRecDepth 100000

def sgB (k : Nat) : ByteArray := ⟨(sgA.getD k []).toArray⟩
def SignTab (w : World) : Prop := ∀ k, k < 16 → w.cell? ⟨0, k, none⟩ = some (.string (sgB k))
theorem own_sign (k : Nat) (hk : k < 16) (w : World) (ht : SignTab w) :
    Calls Tryz.prog 12 #[.int .i64 (1 + (k : Int))] w fun e w' => e = .returned (.tuple #[.string (sgB k), .int .i64 0]) ∧ w' = w := by
  have hc := ht k hk
  generalize hop : (1 + (k : Int)) = op
  have hk2 : k = (op - 1).toNat := by omega
  rw [hk2] at hc ⊢
  have l1 : 1 ≤ op := by omega
  have l2 : op ≤ 16 := by omega
  have hc' : w.cell? ⟨0, op.toNat - 1, none⟩ = some (.string (sgB (op.toNat - 1))) := by
    rw [show op.toNat - 1 = (op - 1).toNat by omega]; exact hc
  rw [show (op - 1).toNat = op.toNat - 1 by omega]
  clear ht hc hk2 hop hk
  go_enter Tryz.func12, Tryz.ntmps12
  go_wp2
  go_ret2
  exact ⟨rfl, rfl⟩
set_option maxHeartbeats 1000000 in
theorem own_spot (v n : Int) (hn : 0 < n ∧ n ≤ 9223372036854775807) (w : World) : Calls Tryz.prog 11 #[.int .i64 v, .int .i64 n] w fun e w' => (∃ k : Nat, e = .returned (.int .i64 k) ∧ (k : Int) < n) ∧ w' = w := by
  have h1 : v.tmod n < n := Int.tmod_lt_of_pos v hn.1
  have h2 : -n < v.tmod n := by have := Int.lt_tmod_of_pos v hn.1; omega
  obtain ⟨n1, n2⟩ := hn
  have hnz : ¬ n = 0 := by omega
  by_cases hneg : v.tmod n < 0
  · go_enter Tryz.func11, Tryz.ntmps11
    go_wp2
    go_ret
    exact ⟨⟨(v.tmod n + n).toNat, by rw [Int.toNat_of_nonneg (by omega)]; rfl, by omega⟩, rfl⟩
  · go_enter Tryz.func11, Tryz.ntmps11
    go_wp2
    go_ret
    exact ⟨⟨(v.tmod n).toNat, by rw [Int.toNat_of_nonneg (by omega)]; rfl, by omega⟩, rfl⟩
theorem own_rank (k : Nat) (hk : k < 16) (w : World) :
    Calls Tryz.prog 13 #[.int .i64 (1 + (k : Int))] w fun e w' => e = .returned (.int .i64 ((rkRank (k + 1) : Nat) : Int)) ∧ w' = w := by
  have h : k = 0 ∨ k = 1 ∨ k = 2 ∨ k = 3 ∨ k = 4 ∨ k = 5 ∨ k = 6 ∨ k = 7 ∨ k = 8 ∨ k = 9 ∨ k = 10 ∨ k = 11 ∨ k = 12 ∨ k = 13 ∨ k = 14 ∨ k = 15 := by omega
  clear hk
  rcases h with rfl | rfl | rfl | rfl | rfl | rfl | rfl | rfl | rfl | rfl | rfl | rfl | rfl | rfl | rfl | rfl
  all_goals
    go_enter Tryz.func13, Tryz.ntmps13
    go_wp2
    go_ret
    exact ⟨rfl, rfl⟩
end Go.Proofs.YtpdndpajobfhmabGreatDoor
