/- The line's text as it grows. -/
import Derived.Test.YtjfmhppgjhgdaaaDoorVbuild
namespace Go.Proofs.YtjfmhppgjhgdaaaDoor
open Go.ChangeShapes Go.WideShapes Go.ChangeAt Go.RowKit
set_option linter.unusedSimpArgs false
set_option linter.unusedVariables false

def accV (es : List Ve) (k : Nat) : ByteArray := joinedV (es.take k)
theorem join_end (sep : List UInt8) (y : List UInt8) : ∀ xs : List (List UInt8), Lib.join (xs ++ [y]) sep = if xs = [] then y else Lib.join xs sep ++ sep ++ y
  | [] => by simp [Lib.join]
  | [a] => by simp [Lib.join, List.intercalate, List.intersperse]
  | a :: b :: r => by
    have := join_end sep y (b :: r)
    simp only [Lib.join, List.cons_append] at this ⊢
    simp [List.intercalate, List.intersperse] at this ⊢
    rw [this]
theorem ba_two (a b : List UInt8) : (⟨(a ++ b).toArray⟩ : ByteArray) = (⟨a.toArray⟩ : ByteArray) ++ ⟨b.toArray⟩ := by
  apply ByteArray.ext
  simp
theorem ba_back (s : ByteArray) : (⟨s.data.toList.toArray⟩ : ByteArray) = s := by
  cases s; simp
theorem accV_zero (es : List Ve) : accV es 0 = ⟨#[]⟩ := by
  unfold accV joinedV shown
  simp [Lib.join]
theorem accV_first (es : List Ve) (h : 0 < es.length) : accV es 1 = accV es 0 ++ showV es[0].x := by
  rw [accV_zero]
  unfold accV joinedV shown
  have e : es.take 1 = [es[0]] := by
    cases es with
    | nil => simp at h
    | cons a r => rfl
  rw [e]
  simp [Lib.join]
  apply ByteArray.ext
  simp
theorem accV_step (es : List Ve) (k : Nat) (h : k < es.length) (h0 : 0 < k) : accV es (k + 1) = accV es k ++ ⟨#[32]⟩ ++ showV es[k].x := by
  unfold accV joinedV shown
  have e : es.take (k + 1) = es.take k ++ [es[k]] := List.take_succ_eq_append_getElem h
  have hne : ¬ ((es.take k).map fun e => showV e.x).map (·.data.toList) = [] := by
    intro hx
    have h1 := congrArg List.length hx
    rw [List.length_map, List.length_map, List.length_take, List.length_nil] at h1
    omega
  rw [e, List.map_append, List.map_append, List.map_singleton, List.map_singleton, join_end, if_neg hne, ba_two, ba_two, ba_back]
theorem accV_all (es : List Ve) : accV es es.length ++ ⟨#[10]⟩ = lineB es := by
  unfold accV lineB
  rw [List.take_length]
theorem accV_size {w : World} {es : List Ve} (h : EsIn w es) (k : Nat) : (accV es k).size ≤ 24117281 * es.length := by
  have h2 : EsIn w (es.take k) := ⟨fun e he => h.each e (List.mem_of_mem_take he), by have := h.size; simp; omega⟩
  have h1 := joinedV_size h2
  have h3 : (es.take k).length ≤ es.length := by simp; omega
  unfold accV
  omega
end Go.Proofs.YtjfmhppgjhgdaaaDoor
