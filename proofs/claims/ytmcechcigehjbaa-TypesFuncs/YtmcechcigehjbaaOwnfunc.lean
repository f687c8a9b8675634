/- What types.Func answers. -/
import Derived.Test.YtmcechcigehjbaaThru
import Derived.Test.YtmcechcigehjbaaOwnparts2
import Derived.Lib.Join
namespace Go.Proofs.Ytmcechcigehjbaa
open Go.ChangeShapes Go.WideShapes Go.ChangeAt Go.RowKit
set_option maxRecDepth 100000
set_option linter.unusedSimpArgs false

/-- A list of texts, as it lies in memory; not nil and empty at once. -/
def Lies (w : World) (v : Value) (xs : List ByteArray) : Prop := ∃ (ao : Option Addr) (cv : Nat), v = .slice ao xs.length cv ∧ (xs ≠ [] → xs.length ≤ cv ∧ ∃ g, ao = some ⟨g, 0, none⟩ ∧ ∀ (k : Nat) x, xs[k]? = some x → w.cell? ⟨g, k, none⟩ = some (.string x))
theorem lies_of {w : World} {B n : Nat} {v : Value} {xs : List ByteArray} (h : w.ownsRow B 9 1 v n (xs.map Value.string)) (hn : n = xs.length) : Lies w v xs := by
  subst hn
  rcases h.2 with ⟨h1, h2⟩ | ⟨g, cap, cur, h1, _, _, h3, _⟩
  · refine ⟨none, 0, ?_, fun hx => absurd (List.length_eq_zero_iff.1 h2) hx⟩
    rw [h1, h2]
  · refine ⟨some ⟨g, 0, none⟩, cap, h1, fun _ => ⟨h3, g, rfl, fun k x hk => ?_⟩⟩
    subst h1
    have hlt : k < xs.length := (List.getElem?_eq_some_iff.1 hk).1
    rw [h.cellAt k (by omega), List.getElem?_map, hk]
    rfl
theorem Lies.below {w w' : World} {v : Value} {xs : List ByteArray} (h : Lies w v xs) (hb : Below w.heap.size w w') : Lies w' v xs := by
  obtain ⟨ao, cv, h1, h2⟩ := h
  refine ⟨ao, cv, h1, fun hx => ?_⟩
  obtain ⟨h3, g, e, hc⟩ := h2 hx
  refine ⟨h3, g, e, fun k x hk => ?_⟩
  have h0 := hc k x hk
  rw [hb.cell (p := ⟨g, k, none⟩) (World.block_lt_of_cell? _ _ h0)]
  exact h0
/-- The function's type of these parts. -/
def funcT (xs : List ByteArray) (r : Tx) : Tx := wFunc ++ (Lib.join (xs.map (·.data.toList)) [44] ++ (41 :: r))
def partsOk (xs : List ByteArray) : Bool := xs.all fun x => valid x.data.toList
/-- Why it can't be made; 0: it can. -/
def funcE (xs : List ByteArray) (r : Tx) : Int :=
  if 4 < xs.length then 15 else if partsOk xs = false then 9 else if r ≠ [] ∧ valid r = false then 9 else if 100 < (funcT xs r).length then 1 else 0
def funcV (xs : List ByteArray) (r : Tx) : Tx := if funcE xs r = 0 then funcT xs r else []
theorem join_le : ∀ (xs : List ByteArray), (∀ x ∈ xs, x.size ≤ 100) → (Lib.join (xs.map (·.data.toList)) [44]).length ≤ xs.length * 101
  | [], _ => by simp [Lib.join]
  | x :: xs, h => by
    rw [List.map_cons, Lib.join_cons]
    have h1 := h x (by simp)
    have key : ∀ ys : List ByteArray, (∀ x ∈ ys, x.size ≤ 100) → (Lib.joinTail [44] (ys.map (·.data.toList))).length ≤ ys.length * 101 := by
      intro ys
      induction ys with
      | nil => intro _; simp [Lib.joinTail]
      | cons y ys ih =>
        intro hy
        have h2 := hy y (by simp)
        have h3 := ih (fun z hz => hy z (by simp [hz]))
        have e : Lib.joinTail [44] ((y :: ys).map (·.data.toList)) = (44 :: y.data.toList) ++ Lib.joinTail [44] (ys.map (·.data.toList)) := by simp [Lib.joinTail]
        rw [e, List.length_append, List.length_cons, bsize_list, List.length_cons]
        omega
    have h4 := key xs (fun z hz => h z (by simp [hz]))
    rw [List.length_append, bsize_list, List.length_cons]
    omega
theorem valid_le {x : ByteArray} (h : valid x.data.toList = true) : x.size ≤ 100 := by
  unfold valid at h
  have := (of_decide_eq_true h).1
  rwa [bsize_list] at this
theorem ok_all {xs : List ByteArray} (h : partsOk xs = true) : ∀ x ∈ xs, valid x.data.toList = true := fun x hx => List.all_eq_true.1 h x hx
/-- What strings.Join gives of such a list. -/
theorem lib_join (v : Value) (xs : List ByteArray) (w : World) (h : Lies w v xs) (hl : xs.length ≤ 4) (hs : ∀ x ∈ xs, x.size ≤ 100) :
    Calls Try.prog 29 #[v, .string ⟨#[44]⟩] w fun e w' => e = .returned (.string ⟨(Lib.join (xs.map (·.data.toList)) [44]).toArray⟩) ∧ Below w.heap.size w w' := by
  obtain ⟨ao, cv, rfl, h1⟩ := h
  cases xs with
  | nil => exact (Try.strings_Join_none ao cv ⟨#[44]⟩ w).mono fun e w' h => ⟨h.1, by rw [h.2]; exact Below.refl _ _⟩
  | cons x xs =>
    obtain ⟨h3, g, rfl, hc⟩ := h1 (by simp)
    have hj := join_le (x :: xs) hs
    exact Try.strings_Join g 0 cv (x :: xs) ⟨#[44]⟩ w (fun j y hy => by rw [Nat.zero_add]; exact hc j y hy) (World.block_lt_of_cell? _ _ (hc 0 x rfl)) (by omega) h3 (by
      show (Lib.join ((x :: xs).map (·.data.toList)) [44]).length ≤ _
      omega)
end Go.Proofs.Ytmcechcigehjbaa
