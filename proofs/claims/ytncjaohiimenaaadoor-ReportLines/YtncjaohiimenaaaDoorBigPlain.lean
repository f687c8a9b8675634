/- Whole numbers as lists of 32-bit words, the least first: plain laws, no program in sight. -/
import Derived.WalkKit
namespace Go.Proofs.YtncjaohiimenaaaDoor

/-- The number that a list of words stands for. -/
def nv : List Int → Int
  | [] => 0
  | x :: r => x + 4294967296 * nv r
/-- Each is a word. -/
def Wds (l : List Int) : Prop := ∀ x ∈ l, 0 ≤ x ∧ x < 4294967296
/-- No nought at the end. -/
def Norm (l : List Int) : Prop := l.getLast? ≠ some 0
/-- 2^(32 n). -/
def top : Nat → Int
  | 0 => 1
  | n + 1 => 4294967296 * top n

theorem Wds.head {x : Int} {r : List Int} (h : Wds (x :: r)) : 0 ≤ x ∧ x < 4294967296 := h x (by simp)
theorem Wds.tail {x : Int} {r : List Int} (h : Wds (x :: r)) : Wds r := fun y hy => h y (by simp [hy])
theorem Wds.take {l : List Int} (h : Wds l) (k : Nat) : Wds (l.take k) := fun y hy => h y (List.mem_of_mem_take hy)
theorem top_pos : ∀ n, 0 < top n
  | 0 => by decide
  | n + 1 => by have := top_pos n; unfold top; omega
theorem top_mono {m n : Nat} (h : m ≤ n) : top m ≤ top n := by
  induction h with
  | refl => exact Int.le_refl _
  | step h ih => rename_i k; have := top_pos k; have e : top (Nat.succ k) = 4294967296 * top k := rfl; omega
theorem nv_range : ∀ {l : List Int}, Wds l → 0 ≤ nv l ∧ nv l < top l.length
  | [], _ => by simp [nv, top]
  | x :: r, h => by
    have h1 := nv_range h.tail
    have h2 := h.head
    simp only [nv, List.length_cons, top]
    omega
theorem nv_append : ∀ (a b : List Int), nv (a ++ b) = nv a + top a.length * nv b
  | [], b => by simp [nv, top]
  | x :: a, b => by
    simp only [List.cons_append, nv, List.length_cons, top, nv_append a b]
    rw [Int.mul_add, Int.mul_assoc]; omega
theorem nv_zeros : ∀ {l : List Int}, (∀ x ∈ l, x = 0) → nv l = 0
  | [], _ => rfl
  | x :: r, h => by
    have h1 := h x (by simp)
    have h2 := nv_zeros (l := r) (fun y hy => h y (by simp [hy]))
    simp only [nv, h1, h2]; rfl
theorem nv_take {l : List Int} {k : Nat} (h : ∀ x ∈ l.drop k, x = 0) : nv (l.take k) = nv l := by
  have := nv_append (l.take k) (l.drop k)
  rw [List.take_append_drop, nv_zeros h] at this
  omega
/-- Normal and not empty: at least 2^(32 (n - 1)). -/
theorem nv_norm {l : List Int} (h : Wds l) (hn : Norm l) (h0 : l ≠ []) : top (l.length - 1) ≤ nv l := by
  obtain ⟨a, x, rfl⟩ : ∃ a x, l = a ++ [x] := ⟨l.dropLast, l.getLast h0, (List.dropLast_concat_getLast h0).symm⟩
  have hx : x ≠ 0 := by intro e; apply hn; simp [e]
  have hw := h x (by simp)
  have ha := nv_range (l := a) (fun y hy => h y (by simp [hy]))
  rw [nv_append]
  simp only [nv, List.length_append, List.length_cons, List.length_nil, Nat.zero_add, Nat.add_sub_cancel]
  have hp := top_pos a.length
  have : top a.length * 1 ≤ top a.length * (x + 4294967296 * 0) := Int.mul_le_mul_of_nonneg_left (by omega) (by omega)
  omega
theorem norm_take {l : List Int} {k : Nat} (hk : k ≤ l.length) (h : k = 0 ∨ l[k - 1]? ≠ some 0) : Norm (l.take k) := by
  unfold Norm
  rcases h with rfl | h
  · simp
  · by_cases h0 : k = 0
    · subst h0; simp
    · rw [List.getLast?_take, if_neg h0]
      have : l[k - 1]? = some l[k - 1] := List.getElem?_eq_getElem (by omega)
      rw [this] at h ⊢
      simpa using h
theorem nv_short {a b : List Int} (ha : Wds a) (hb : Wds b) (hn : Norm b) (h : a.length < b.length) : nv a < nv b := by
  have h1 := nv_range ha
  have h2 := nv_norm hb hn (by intro e; subst e; simp at h)
  have h3 := top_mono (m := a.length) (n := b.length - 1) (by omega)
  omega
theorem nv_lt_at : ∀ (i : Nat) {a b : List Int}, Wds a → Wds b → a.length = b.length → (∀ j, i < j → a[j]? = b[j]?) → (∀ x y, a[i]? = some x → b[i]? = some y → x < y) → i < a.length → nv a < nv b
  | i, [], _, _, _, _, _, _, hi => by simp at hi
  | i, _ :: _, [], _, _, hl, _, _, _ => by simp at hl
  | 0, x :: a, y :: b, ha, hb, hl, he, hlt, _ => by
    have e : a = b := by
      apply List.ext_getElem?
      intro j
      simpa using he (j + 1) (by omega)
    have := hlt x y rfl rfl
    subst e
    simp only [nv]; omega
  | i + 1, x :: a, y :: b, ha, hb, hl, he, hlt, hi => by
    have ih := nv_lt_at i ha.tail hb.tail (by simpa using hl) (fun j hj => by simpa using he (j + 1) (by omega)) (fun u v hu hv => hlt u v (by simpa using hu) (by simpa using hv)) (by simpa using hi)
    have h1 := ha.head
    have h2 := hb.head
    simp only [nv]; omega
theorem Wds.at {l : List Int} (h : Wds l) {i : Nat} (hi : i < l.length) : 0 ≤ l.getD i 0 ∧ l.getD i 0 < 4294967296 := by
  rw [List.getD_eq_getElem?_getD, List.getElem?_eq_getElem hi]; exact h _ (List.getElem_mem hi)
theorem nv_pos {l : List Int} (h : Wds l) (hn : Norm l) (h0 : l ≠ []) : 0 < nv l := by
  have := nv_norm h hn h0
  have := top_pos (l.length - 1)
  omega
end Go.Proofs.YtncjaohiimenaaaDoor
