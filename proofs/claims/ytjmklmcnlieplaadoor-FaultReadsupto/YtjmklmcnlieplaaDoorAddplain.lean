/- Sums, differences and products of words, word by word: plain laws. -/
import Derived.Test.YtjmklmcnlieplaaDoorBigPlain
namespace Go.Proofs.YtjmklmcnlieplaaDoor
set_option maxRecDepth 100000

theorem nv_take_succ (l : List Int) (k : Nat) : nv (l.take (k + 1)) = nv (l.take k) + top k * l.getD k 0 := by
  by_cases h : k < l.length
  · rw [List.take_succ_eq_append_getElem h, nv_append, List.getD_eq_getElem?_getD, List.getElem?_eq_getElem h, List.length_take, Nat.min_eq_left (by omega)]
    simp [nv]
  · rw [List.take_of_length_le (by omega), List.take_of_length_le (by omega), List.getD_eq_getElem?_getD, List.getElem?_eq_none (by omega)]
    simp
theorem take_set_at (l : List Int) (k : Nat) (x : Int) : (l.set k x).take k = l.take k := by
  rw [List.take_set_of_le (by omega)]
theorem nv_set_succ {l : List Int} {k : Nat} (h : k < l.length) (x : Int) : nv ((l.set k x).take (k + 1)) = nv (l.take k) + top k * x := by
  rw [nv_take_succ, take_set_at, List.getD_eq_getElem?_getD, List.getElem?_set_self h]
  rfl
theorem add_step {a b rs : List Int} {k : Nat} {c : Int} (hk : k < rs.length) (h : nv (rs.take k) + top k * c = nv (a.take k) + nv (b.take k)) :
    nv ((rs.set k ((c + a.getD k 0 + b.getD k 0) % 4294967296)).take (k + 1)) + top (k + 1) * ((c + a.getD k 0 + b.getD k 0) / 4294967296) = nv (a.take (k + 1)) + nv (b.take (k + 1)) := by
  rw [nv_set_succ hk, nv_take_succ a, nv_take_succ b]
  have e : top (k + 1) = 4294967296 * top k := rfl
  rw [e]
  generalize a.getD k 0 = x at *
  generalize b.getD k 0 = y at *
  have hs := Int.emod_add_mul_ediv (c + x + y) 4294967296
  generalize (c + x + y) % 4294967296 = p at *
  generalize (c + x + y) / 4294967296 = q at *
  have h1 : top k * p + 4294967296 * top k * q = top k * (c + x + y) := by
    rw [← hs, Int.mul_add]
    congr 1
    rw [Int.mul_comm 4294967296 (top k), Int.mul_assoc]
  rw [Int.mul_add, Int.mul_add] at h1
  omega
theorem nv_set_last {l : List Int} {n : Nat} (h : l.length = n + 1) (x : Int) : nv (l.set n x) = nv (l.take n) + top n * x := by
  have := nv_set_succ (l := l) (k := n) (by omega) x
  rw [List.take_of_length_le (by simp; omega)] at this
  exact this
end Go.Proofs.YtjmklmcnlieplaaDoor
