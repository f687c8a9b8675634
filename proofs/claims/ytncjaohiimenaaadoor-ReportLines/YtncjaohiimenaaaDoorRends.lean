/- What report.Ending and report.Status answer, and the reference's. -/
import Derived.Test.YtncjaohiimenaaaDoorCut
import Derived.Lib.LaidTab
import Derived.Laws.OwnMore
import Derived.WalkKit
import Derived.ProofKit
import Derived.OpenShut
import Derived.Handy
namespace Go.Proofs.YtncjaohiimenaaaDoor
open Go.ChangeShapes Go.WideShapes Go.ChangeAt Go.RowKit
set_option maxRecDepth 100000
set_option linter.unusedSimpArgs false
set_option linter.unusedVariables false
/-- The words of the ends. -/
def endsL : List ByteArray := [⟨#[100, 111, 110, 101]⟩, ⟨#[99, 114, 97, 115, 104]⟩, ⟨#[101, 120, 105, 116]⟩, ⟨#[102, 117, 101, 108]⟩, ⟨#[109, 101, 109, 111, 114, 121]⟩, ⟨#[100, 101, 112, 116, 104]⟩, ⟨#[111, 117, 116, 112, 117, 116]⟩, ⟨#[119, 105, 108, 100]⟩]
def endAt (k : Nat) : ByteArray := endsL.getD k ByteArray.empty
def EndTab (w : World) : Prop := ∀ k, k < 8 → w.cell? ⟨0, k, none⟩ = some (.string (endAt k))
theorem EndTab.below {w w' : World} (h : EndTab w) (hb : Below w.heap.size w w') : EndTab w' := fun k hk => by
  have := h k hk
  rw [hb.cell (World.block_lt_of_cell? _ _ this)]
  exact this
def enS (e : Int) : ByteArray := if e < 1 ∨ 8 < e then ByteArray.empty else endAt (e.toNat - 1)
def enE (e : Int) : Int := if e < 1 ∨ 8 < e then 13 else 0
theorem own_ending (e : Int) (w : World) (ht : EndTab w) :
    Calls Tryd.prog 14 #[.int .i64 e] w fun r w' => r = .returned (.tuple #[.string (enS e), .int .i64 (enE e)]) ∧ w' = w := by
  by_cases ho : e < 1 ∨ 8 < e
  · have e1 : enS e = ByteArray.empty := by unfold enS; rw [if_pos ho]
    have e2 : enE e = 13 := by unfold enE; rw [if_pos ho]
    rw [e1, e2]
    clear e1 e2 ht
    rcases ho with ho | ho
    all_goals
      go_enter Tryd.func14, Tryd.ntmps14
      go_wp2
      go_ret2
      exact ⟨rfl, rfl⟩
  · have e1 : enS e = endAt (e.toNat - 1) := by unfold enS; rw [if_neg ho]
    have e2 : enE e = 0 := by unfold enE; rw [if_neg ho]
    have hc := ht (e.toNat - 1) (by omega)
    rw [e1, e2]
    have l1 : 1 ≤ e := by omega
    have l2 : e ≤ 8 := by omega
    clear e1 e2 ht ho
    go_enter Tryd.func14, Tryd.ntmps14
    go_wp2
    go_ret2
    exact ⟨rfl, rfl⟩
def and255 (n : Int) : Int := bits BinOp.and IntKind.i64 n 255
theorem and255_is (n : Int) : and255 n = n % 256 := by
  unfold and255
  have h255 : (BitVec.ofInt 64 255).toNat = 2 ^ 8 - 1 := by decide
  have key : (BitVec.ofInt 64 n &&& BitVec.ofInt 64 255).toNat = (n % ((2 ^ 64 : Nat) : Int)).toNat % 2 ^ 8 := by
    rw [BitVec.toNat_and, BitVec.toNat_ofInt, h255, Nat.and_two_pow_sub_one_eq_mod]
  show IntKind.i64.wrap ((BitVec.ofInt 64 n &&& BitVec.ofInt 64 255).toNat : Nat) = n % 256
  rw [key, IntKind.wrap_i64]
  omega
theorem rem_256 (n : Int) : (n.tmod 256 + 256).tmod 256 = n % 256 := by
  rcases Int.le_total 0 n with h | h
  · rw [Int.tmod_eq_emod_of_nonneg h, Int.tmod_eq_emod_of_nonneg (by omega)]; omega
  · have h1 : n.tmod 256 = -((-n) % 256) := by
      have h2 := Int.neg_tmod (-n) 256
      rw [Int.neg_neg] at h2
      rw [h2, Int.tmod_eq_emod_of_nonneg (by omega)]
    rw [h1, Int.tmod_eq_emod_of_nonneg (by omega)]
    omega
theorem rem_256b (n : Int) : n % 256 = (n.tmod 256 + 256) % 256 := by
  rw [← rem_256, Int.tmod_eq_emod_of_nonneg]
  have := Int.tmod_lt_of_pos (-n) (show (0 : Int) < 256 by decide)
  rw [Int.neg_tmod] at this
  omega
def stS (e n : Int) : Int := if e = 2 then 2 else if e = 3 then n % 256 else if 4 ≤ e ∧ e ≤ 8 then 3 else 0
def stE (e : Int) : Int := if e < 1 ∨ 8 < e then 13 else 0
theorem own_status (e n : Int) (w : World) :
    Calls Tryd.prog 16 #[.int .i64 e, .int .i64 n] w fun r w' => r = .returned (.tuple #[.int .i64 (stS e n), .int .i64 (stE e)]) ∧ w' = w := by
  by_cases h1 : e = 1
  · subst h1
    rw [show stS 1 n = 0 by rfl, show stE 1 = 0 by rfl]
    go_enter Tryd.func16, Tryd.ntmps16
    go_wp2_with fail
    go_ret2
    exact ⟨rfl, rfl⟩
  have k1 : (e == 1) = false := by simpa using h1
  by_cases h2 : e = 2
  · subst h2
    rw [show stS 2 n = 2 by rfl, show stE 2 = 0 by rfl]
    go_enter Tryd.func16, Tryd.ntmps16
    go_wp2_with fail
    go_ret2
    exact ⟨rfl, rfl⟩
  have k2 : (e == 2) = false := by simpa using h2
  by_cases h3 : e = 3
  · subst h3
    rw [show stS 3 n = and255 n by rw [and255_is]; rfl, show stE 3 = 0 by rfl]
    go_enter Tryd.func16, Tryd.ntmps16
    go_wp2_with fail
    go_ret2
    exact ⟨rfl, rfl⟩
  have k3 : (e == 3) = false := by simpa using h3
  by_cases h4 : e = 4
  · subst h4
    rw [show stS 4 n = 3 by rfl, show stE 4 = 0 by rfl]
    go_enter Tryd.func16, Tryd.ntmps16
    go_wp2_with fail
    go_ret2
    exact ⟨rfl, rfl⟩
  have k4 : (e == 4) = false := by simpa using h4
  by_cases h5 : e = 5
  · subst h5
    rw [show stS 5 n = 3 by rfl, show stE 5 = 0 by rfl]
    go_enter Tryd.func16, Tryd.ntmps16
    go_wp2_with fail
    go_ret2
    exact ⟨rfl, rfl⟩
  have k5 : (e == 5) = false := by simpa using h5
  by_cases h6 : e = 6
  · subst h6
    rw [show stS 6 n = 3 by rfl, show stE 6 = 0 by rfl]
    go_enter Tryd.func16, Tryd.ntmps16
    go_wp2_with fail
    go_ret2
    exact ⟨rfl, rfl⟩
  have k6 : (e == 6) = false := by simpa using h6
  by_cases h7 : e = 7
  · subst h7
    rw [show stS 7 n = 3 by rfl, show stE 7 = 0 by rfl]
    go_enter Tryd.func16, Tryd.ntmps16
    go_wp2_with fail
    go_ret2
    exact ⟨rfl, rfl⟩
  have k7 : (e == 7) = false := by simpa using h7
  by_cases h8 : e = 8
  · subst h8
    rw [show stS 8 n = 3 by rfl, show stE 8 = 0 by rfl]
    go_enter Tryd.func16, Tryd.ntmps16
    go_wp2_with fail
    go_ret2
    exact ⟨rfl, rfl⟩
  have k8 : (e == 8) = false := by simpa using h8
  have e1 : stS e n = 0 := by unfold stS; rw [if_neg h2, if_neg h3, if_neg (by omega)]
  have e2 : stE e = 13 := by unfold stE; rw [if_pos (by omega)]
  rw [e1, e2]
  clear e1 e2
  clear h1 h2 h3 h4 h5 h6 h7 h8
  go_enter Tryd.func16, Tryd.ntmps16
  go_wp2_with fail
  go_ret2
  exact ⟨rfl, rfl⟩
def allEnds : ByteArray := ⟨#[100, 111, 110, 101, 32, 99, 114, 97, 115, 104, 32, 101, 120, 105, 116, 32, 102, 117, 101, 108, 32, 109, 101, 109, 111, 114, 121, 32, 100, 101, 112, 116, 104, 32, 111, 117, 116, 112, 117, 116, 32, 119, 105, 108, 100]⟩
theorem ends_cut : (cutSt allEnds 32 (allEnds.size + 1)).1 = endsL := by kernel_rfl
theorem ref_ending (op : Int) (w : World) :
    Calls Tryd.prog 15 #[.int .i64 op] w fun e w' => e = .returned (.tuple #[.string (enS op), .int .i64 (enE op)]) ∧ Below w.heap.size w w' := by
  have HC : Hid (∀ u, Calls Tryd.prog 30 #[.string allEnds, .int .u8 32] u fun e w' => ∃ g cap, e = .returned (.slice (some ⟨g, 0, none⟩) 8 cap) ∧ (∀ k, k < 8 → w'.cell? ⟨g, k, none⟩ = some (.string (endAt k))) ∧ Below u.heap.size u w') := fun u => by
    refine (cutAt_any allEnds 32 u (by decide)).mono ?_
    rintro e w1 ⟨v, rfl, hown, hb⟩
    rw [ends_cut] at hown
    obtain ⟨g, cap, hv⟩ : ∃ g cap, v = .slice (some ⟨g, 0, none⟩) 8 cap := by
      rcases hown.2 with ⟨_, h⟩ | ⟨g, cap, _, h, _⟩
      · cases h
      · exact ⟨g, cap, h⟩
    subst hv
    refine ⟨g, cap, rfl, fun k hk => ?_, hb⟩
    have hl : endsL.length = 8 := rfl
    rw [hown.cellAt k (by have := hl; omega), List.getElem?_map]
    unfold endAt
    rw [List.getD_eq_getElem?_getD, List.getElem?_eq_getElem (show k < endsL.length from hk)]
    rfl
  unfold allEnds at HC
  by_cases ho : op < 1 ∨ 8 < op
  · have e1 : enS op = ByteArray.empty := by unfold enS; rw [if_pos ho]
    have e2 : enE op = 13 := by unfold enE; rw [if_pos ho]
    rw [e1, e2]
    clear e1 e2
    rcases ho with ho | ho
    all_goals
      go_enter Tryd.func15, Tryd.ntmps15
      go_wp2_with fail
      refine (HC.out _).mono ?_
      rintro e w1 ⟨g, cap, rfl, hc, hb⟩
      go_wp2_with fail
      go_ret2
      exact ⟨rfl, hb⟩
  · have e1 : enS op = endAt (op.toNat - 1) := by unfold enS; rw [if_neg ho]
    have e2 : enE op = 0 := by unfold enE; rw [if_neg ho]
    rw [e1, e2]
    have l1 : 1 ≤ op := by omega
    have l2 : op ≤ 8 := by omega
    clear e1 e2 ho
    go_enter Tryd.func15, Tryd.ntmps15
    go_wp2_with fail
    refine (HC.out _).mono ?_
    rintro e w1 ⟨g, cap, rfl, hc, hb⟩
    have hc2 := hc (op.toNat - 1) (by omega)
    go_wp2_with fail
    go_ret2
    exact ⟨rfl, hb⟩
theorem ref_status (e n : Int) (w : World) :
    Calls Tryd.prog 17 #[.int .i64 e, .int .i64 n] w fun r w' => r = .returned (.tuple #[.int .i64 (stS e n), .int .i64 (stE e)]) ∧ Below w.heap.size w w' := by
  by_cases ho : e < 1 ∨ 8 < e
  · have e1 : stS e n = 0 := by unfold stS; rw [if_neg (by omega), if_neg (by omega), if_neg (by omega)]
    have e2 : stE e = 13 := by unfold stE; rw [if_pos ho]
    rw [e1, e2]
    clear e1 e2
    rcases ho with ho | ho
    all_goals
      go_enter Tryd.func17, Tryd.ntmps17
      go_wp2_with fail
      go_ret2
      exact ⟨rfl, Below.refl _ _⟩
  by_cases h1 : e = 1
  · subst h1
    rw [show stS 1 n = 0 by rfl, show stE 1 = 0 by rfl]
    clear ho
    go_enter Tryd.func17, Tryd.ntmps17
    go_wp2_with fail
    go_ret2
    exact ⟨rfl, (Below.refl _ _).alloc (Nat.le_refl _) _⟩
  by_cases h2 : e = 2
  · subst h2
    rw [show stS 2 n = 2 by rfl, show stE 2 = 0 by rfl]
    clear ho
    go_enter Tryd.func17, Tryd.ntmps17
    go_wp2_with fail
    go_ret2
    exact ⟨rfl, (Below.refl _ _).alloc (Nat.le_refl _) _⟩
  by_cases h3 : e = 3
  · subst h3
    rw [show stS 3 n = (n.tmod 256 + 256) % 256 by rw [← rem_256b]; rfl, show stE 3 = 0 by rfl]
    have b1 : -256 < n.tmod 256 := by have := Int.tmod_lt_of_pos (-n) (show (0 : Int) < 256 by decide); rw [Int.neg_tmod] at this; omega
    have b2 : n.tmod 256 < 256 := Int.tmod_lt_of_pos n (by decide)
    go_enter Tryd.func17, Tryd.ntmps17
    go_wp2_with fail
    go_ret2
    exact ⟨rfl, Below.refl _ _⟩
  by_cases h4 : e = 4
  · subst h4
    rw [show stS 4 n = 3 by rfl, show stE 4 = 0 by rfl]
    clear ho
    go_enter Tryd.func17, Tryd.ntmps17
    go_wp2_with fail
    go_ret2
    exact ⟨rfl, (Below.refl _ _).alloc (Nat.le_refl _) _⟩
  by_cases h5 : e = 5
  · subst h5
    rw [show stS 5 n = 3 by rfl, show stE 5 = 0 by rfl]
    clear ho
    go_enter Tryd.func17, Tryd.ntmps17
    go_wp2_with fail
    go_ret2
    exact ⟨rfl, (Below.refl _ _).alloc (Nat.le_refl _) _⟩
  by_cases h6 : e = 6
  · subst h6
    rw [show stS 6 n = 3 by rfl, show stE 6 = 0 by rfl]
    clear ho
    go_enter Tryd.func17, Tryd.ntmps17
    go_wp2_with fail
    go_ret2
    exact ⟨rfl, (Below.refl _ _).alloc (Nat.le_refl _) _⟩
  by_cases h7 : e = 7
  · subst h7
    rw [show stS 7 n = 3 by rfl, show stE 7 = 0 by rfl]
    clear ho
    go_enter Tryd.func17, Tryd.ntmps17
    go_wp2_with fail
    go_ret2
    exact ⟨rfl, (Below.refl _ _).alloc (Nat.le_refl _) _⟩
  by_cases h8 : e = 8
  · subst h8
    rw [show stS 8 n = 3 by rfl, show stE 8 = 0 by rfl]
    clear ho
    go_enter Tryd.func17, Tryd.ntmps17
    go_wp2_with fail
    go_ret2
    exact ⟨rfl, (Below.refl _ _).alloc (Nat.le_refl _) _⟩
  omega
end Go.Proofs.YtncjaohiimenaaaDoor
