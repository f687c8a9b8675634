/- What panicroadref.inside answers: the numbers of a text. -/
import Derived.Test.YtjmklmcnlieplaaDoorFcomp2
import Derived.Test.YtjmklmcnlieplaaDoorReadnum
namespace Go.Proofs.YtjmklmcnlieplaaDoor
open Go.ChangeShapes Go.WideShapes Go.ChangeAt Go.RowKit
set_option maxRecDepth 100000
set_option linter.unusedSimpArgs false
set_option linter.unusedVariables false
theorem Tryd.infoIntF : (Tryd.prog.info? 3).map (fun i => (i.zero, i.size, i.bytes)) = some (some (.int .i64 0), 1, 8) := by kernel_rfl
/-- Runs of digits and minuses, read; what is no number is 0. -/
def insF : Nat → List UInt8 → List Int
  | 0, _ => []
  | _ + 1, [] => []
  | n + 1, c :: r => if isD c = true then rdN (bt ((c :: r).takeWhile isD)) :: insF n ((c :: r).drop (((c :: r).takeWhile isD).length + 1)) else insF n r
def ins (s : ByteArray) : List Int := insF (s.size + 1) s.data.toList
theorem insF_nil (n : Nat) : insF n [] = [] := by cases n <;> rfl
theorem insF_in : ∀ (n : Nat) (l : List UInt8), ∀ x ∈ insF n l, I64 x
  | 0, _ => by simp [insF]
  | _ + 1, [] => by simp [insF]
  | n + 1, c :: r => by
    intro x hx
    rw [insF] at hx
    split at hx
    · rcases List.mem_cons.1 hx with rfl | h
      · exact rd_in _
      · exact insF_in n _ x h
    · exact insF_in n _ x hx
theorem isD_not {c : UInt8} (h : ¬ c = 45) (h2 : ¬ (48 ≤ c.toNat ∧ c.toNat ≤ 57)) : isD c = false := by
  cases hc : isD c with
  | false => rfl
  | true =>
    exfalso
    have hm : c ∈ dgs.data.toList := by simpa [isD] using hc
    simp [dgs] at hm
    rcases hm with rfl | rfl | rfl | rfl | rfl | rfl | rfl | rfl | rfl | rfl | rfl
    · exact h rfl
    all_goals exact h2 (by decide)
def isDig (c : UInt8) : Bool := decide (48 ≤ c.toNat ∧ c.toNat ≤ 57)
theorem ref_digit (c : UInt8) (w : World) : Calls Tryd.prog 26 #[.int .u8 (c.toNat : Int)] w fun e w' => e = .returned (.bool (isDig c)) ∧ w' = w := by
  by_cases h1 : 48 ≤ c.toNat
  · by_cases h2 : c.toNat ≤ 57
    · have e : isDig c = true := by simp [isDig, h1, h2]
      have i1 : (48 : Int) ≤ (c.toNat : Int) := by omega
      have i2 : (c.toNat : Int) ≤ 57 := by omega
      rw [e]
      go_enter Tryd.func26, Tryd.ntmps26
      go_wp2
      go_ret
      exact ⟨rfl, rfl⟩
    · have e : isDig c = false := by simp [isDig, h2]
      have i1 : (48 : Int) ≤ (c.toNat : Int) := by omega
      have i2 : decide ((c.toNat : Int) ≤ 57) = false := decide_eq_false (by omega)
      rw [e]
      go_enter Tryd.func26, Tryd.ntmps26
      go_wp2
      go_ret
      exact ⟨rfl, rfl⟩
  · have e : isDig c = false := by simp [isDig]; omega
    have i1 : decide ((48 : Int) ≤ (c.toNat : Int)) = false := decide_eq_false (by omega)
    rw [e]
    go_enter Tryd.func26, Tryd.ntmps26
    go_wp2
    go_ret
    exact ⟨rfl, rfl⟩
theorem slice_pq (s : ByteArray) (p q : Nat) (h1 : p ≤ q) (h2 : q ≤ s.size) (W : World) : (Instr.slice 9 (.string s) (some (.int .i64 (p : Int))) (some (.int .i64 (q : Int))) none).run Tryd.prog W = .ok (.string (s.extract p q)) W :=
  run_slice_string W 9 s .i64 .i64 p q Tryd.underlying9 (by omega) (by omega) (by omega)
theorem take_run {l : List UInt8} {p q : Nat} (hpq : p ≤ q) (hq : q ≤ l.length) (ha : ∀ j, p ≤ j → j < q → ∀ h : j < l.length, isD l[j] = true) (hz : ∀ h : q < l.length, isD l[q] = false) : (l.drop p).takeWhile isD = (l.drop p).take (q - p) := by
  have e : l.drop p = (l.drop p).take (q - p) ++ l.drop q := by
    have := (List.take_append_drop (q - p) (l.drop p)).symm
    rwa [List.drop_drop, show p + (q - p) = q by omega] at this
  have h1 : ∀ c ∈ (l.drop p).take (q - p), isD c = true := fun c hc => by
    obtain ⟨j, hj, e2⟩ := List.getElem_of_mem hc
    simp at hj
    have := ha (p + j) (by omega) (by omega) (by omega)
    rw [← e2]
    simpa using this
  have h2 : (l.drop q).takeWhile isD = [] := by
    by_cases h : q < l.length
    · rw [List.drop_eq_getElem_cons h, List.takeWhile_cons, if_neg (by simp [hz h])]
    · rw [List.drop_eq_nil_of_le (by omega)]; rfl
  rw [e, List.takeWhile_append_of_pos h1, h2, List.append_nil]
  rw [← e]
end Go.Proofs.YtjmklmcnlieplaaDoor
