/- What types tells of fitting and comparing: laws of the plain functions; a region's listed operations. -/
import Derived.Test.YtmcechcigehjbabFits2
import Derived.Test.YtmcechcigehjbabComps
import Derived.Test.YtmcechcigehjbabZero
namespace Go.Proofs.Ytmcechcigehjbab
open Go.ChangeShapes Go.WideShapes Go.ChangeAt Go.RowKit
set_option maxRecDepth 100000

theorem comp_symm (a b : ByteArray) : compB a b = compB b a := by
  unfold compB
  cases h0 : (a.toList == [110, 105, 108]) with
  | true =>
    rw [if_pos rfl]
    cases h1 : (b.toList == [110, 105, 108]) with
    | true => rw [if_pos rfl, nil_nil h0, nil_nil h1]
    | false => rw [if_neg (by simp), if_pos rfl]
  | false =>
    rw [if_neg (by simp)]
    cases h1 : (b.toList == [110, 105, 108]) with
    | true => rw [if_pos rfl, if_pos rfl]
    | false =>
      rw [if_neg (by simp), if_neg (by simp), if_neg (by simp)]
      cases h2 : (a.toList == b.toList) with
      | true =>
        have e := eq_of_beq h2
        rw [e]
        simp
      | false =>
        have : (b.toList == a.toList) = false := by
          rw [beq_eq_false_iff_ne] at h2 ⊢
          exact fun e => h2 e.symm
        rw [this]
        simp
theorem fits_self (t : ByteArray) : fitsB t t = valid t.data.toList := by
  unfold fitsB
  cases h0 : (t.toList == [110, 105, 108]) with
  | true =>
    rw [if_pos rfl, nil_nil h0, ← ByteArray.toList_eq, eq_of_beq h0]
    decide +kernel
  | false => rw [if_neg (by simp), if_pos (by simp)]
theorem fits_nil (t : ByteArray) : fitsB ⟨#[110, 105, 108]⟩ t = nilB t := by
  unfold fitsB
  rw [if_pos (by decide +kernel)]
theorem kind_nil {t : ByteArray} (hv : valid t.data.toList = true) : (zk t == 4) = nilB t := by
  unfold zk nilB
  rw [hv]
  cases (t.toList == [105, 110, 116]) <;> cases (t.toList == [98, 111, 111, 108]) <;> cases (t.toList == [115, 116, 114, 105, 110, 103]) <;> decide
theorem fits_why {t u : ByteArray} (h : fitsB t u = true) (h0 : (t.toList == [110, 105, 108]) = false) (h1 : (u.toList == [97, 110, 121]) = false) : (t.toList == u.toList) = true := by
  unfold fitsB at h
  rw [if_neg (by simp [h0]), h1] at h
  cases h2 : (t.toList == u.toList) with
  | true => rfl
  | false => rw [h2] at h; simp at h
theorem shutl_of {md : Region.Mode} {ops : Array Oper} {listed : Array Bool} (h : ((List.range ops.size).all fun j => !(listed.getD j false) || match ops[j]? with | none => true | some oj => oj.after.all fun e => !(Region.binds md e) || listed.getD e.on false) = true) : Shutl md ops listed := by
  intro j oj hj hl e he hb
  have hlt : j < ops.size := (Array.getElem?_eq_some_iff.1 hj).1
  have h1 := List.all_eq_true.1 h j (List.mem_range.2 hlt)
  rw [hl, hj] at h1
  simp only [Bool.not_true, Bool.false_or] at h1
  have h2 := Array.all_eq_true'.1 h1 e he
  rw [hb] at h2
  simpa using h2
end Go.Proofs.Ytmcechcigehjbab
