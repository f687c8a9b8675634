/- Differences of words, word by word: plain laws. -/
import Derived.Test.YtopefdcmmmjihaaAddplain
namespace Go.Proofs.Ytopefdcmmmjihaa

theorem sub_step {a b rs : List Int} {k : Nat} {c c' : Int} (hk : k < rs.length) (h : nv (rs.take k) = nv (a.take k) - nv (b.take k) + top k * c) (p : Int) (hp : p = a.getD k 0 - c - b.getD k 0 + 4294967296 * c') :
    nv ((rs.set k p).take (k + 1)) = nv (a.take (k + 1)) - nv (b.take (k + 1)) + top (k + 1) * c' := by
  rw [nv_set_succ hk, nv_take_succ a, nv_take_succ b]
  have e : top (k + 1) = 4294967296 * top k := rfl
  rw [e, hp, h]
  generalize a.getD k 0 = x at *
  generalize b.getD k 0 = y at *
  rw [Int.mul_add, Int.mul_sub, Int.mul_sub]
  have : top k * (4294967296 * c') = 4294967296 * top k * c' := by rw [← Int.mul_assoc, Int.mul_comm (top k)]
  omega
theorem sub_end {rs : List Int} {n : Nat} {d c : Int} (hw : Wds rs) (hl : rs.length = n) (h : nv (rs.take n) = d + top n * c) (hd : 0 ≤ d) (hc0 : 0 ≤ c) (hc1 : c ≤ 1) : nv rs = d := by
  rw [List.take_of_length_le (by omega)] at h
  have h1 := nv_range hw
  rw [hl] at h1
  have : c = 0 ∨ c = 1 := by omega
  rcases this with rfl | rfl
  · simp at h; exact h
  · simp at h; omega
end Go.Proofs.Ytopefdcmmmjihaa
