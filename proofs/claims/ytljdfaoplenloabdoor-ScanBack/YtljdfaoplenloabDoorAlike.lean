/- The helper alike, where the tokens are the same. -/
import Derived.Test.YtljdfaoplenloabDoorPwalk
import Derived.Test.YtljdfaoplenloabDoorRemarks
namespace Go.Proofs.YtljdfaoplenloabDoor
open Go.ChangeShapes Go.WideShapes Go.ChangeAt Go.RowKit
set_option maxRecDepth 100000
set_option linter.unusedSimpArgs false
set_option linter.unusedVariables false
theorem SameT.len {a b : List Tk} (h : SameT a b) : b.length = a.length := by have := congrArg List.length h; simpa using this.symm
theorem SameT.at {a b : List Tk} (h : SameT a b) {k : Nat} {x y : Tk} (hx : a[k]? = some x) (hy : b[k]? = some y) : y.kind = x.kind ∧ y.text = x.text := by
  have := congrArg (·[k]?) h
  simp only [List.getElem?_map, hx, hy, Option.map_some, Option.some.injEq, Prod.mk.injEq] at this
  exact ⟨this.1.symm, this.2.symm⟩
set_option maxHeartbeats 4000000 in
theorem own_alike (la lb : List Tk) (B : Nat) (w : World) (ao bo : Option Addr) (ca cb : Nat) (hs : SameT la lb) (hA : w.ownsRow B 34 4 (.slice ao la.length ca) la.length (tcells la)) (hB : w.ownsRow B 34 4 (.slice bo lb.length cb) lb.length (tcells lb)) :
    Calls Tryd.prog 10 #[.slice ao la.length ca, .slice bo lb.length cb, .bool false] w fun e w' => e = .returned (.bool true) ∧ ∃ m, w' = w.drewN m := by
  have hn := row_len hA
  unfold maxLen at hn
  have HS : Hid (SameT la lb) := hs
  have hlen := hs.len
  rw [hlen] at hB
  rw [hlen]
  have HA : Hid (w.ownsRow B 34 4 (.slice ao la.length ca) la.length (tcells la)) := hA
  have HB : Hid (w.ownsRow B 34 4 (.slice bo la.length cb) la.length (tcells lb)) := hB
  have HLEN : Hid (lb.length = la.length) := hlen
  clear hA hB hs hlen
  go_enter Tryd.func10, Tryd.ntmps10
  go_wp2
  go_loopw [7] (fun i wr => ∃ (k m : Nat), k ≤ la.length ∧ i = .int .i64 k ∧ wr = w.drewN m) (fun i _ => la.length - (intOf i).toNat)
  case atStart => exact ⟨0, 0, Nat.zero_le _, rfl, rfl⟩
  case round =>
    obtain ⟨k, m, hk, rfl, rfl⟩ := hrel
    by_cases hlt : k < la.length
    · obtain ⟨x, hx⟩ : ∃ x, la[k]? = some x := ⟨la[k], List.getElem?_eq_getElem hlt⟩
      obtain ⟨y, hy⟩ : ∃ y, lb[k]? = some y := ⟨lb[k]'(by rw [HLEN.out]; exact hlt), List.getElem?_eq_getElem _⟩
      obtain ⟨g, rfl, p0, p1, -, -⟩ := row_tok HA.out hx
      obtain ⟨g', rfl, q0, q1, -, -⟩ := row_tok (l := lb) (by rw [HLEN.out]; exact HB.out) hy
      obtain ⟨e1, e2⟩ := HS.out.at hx hy
      rw [e1] at q0
      rw [e2] at q1
      generalize x.kind = kk at *
      generalize x.text = tt at *
      have t1 : (kk != kk) = false := by simp
      clear hx hy e1 e2
      go_wp2
      go_quiet (fail)
      go_wp2
      exact ⟨⟨k + 1, _, by omega, by simp, rfl⟩, by simp [intOf]; omega⟩
    · have hli : decide ((k : Int) < (la.length : Int)) = false := by simp; omega
      go_wp2
      go_ret
      exact ⟨rfl, m, rfl⟩
end Go.Proofs.YtljdfaoplenloabDoor
