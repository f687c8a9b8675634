/- What digits spell: plain laws beside the kit's Lib.atoi. -/
import Derived.Test.YtjmklmcnlieplaaDoorConv
import Derived.Test.YtjmklmcnlieplaaDoorDigplain
import Derived.Lib.Atoi
namespace Go.Proofs.YtjmklmcnlieplaaDoor
set_option maxRecDepth 100000

theorem decFrom_app (l r : List UInt8) : ∀ acc m : Nat, Lib.decFrom acc l = some m → Lib.decFrom acc (l ++ r) = Lib.decFrom m r := by
  induction l with
  | nil => intro acc m h; simp only [Lib.decFrom] at h; cases h; rfl
  | cons c l ih =>
    intro acc m h
    simp only [Lib.decFrom, List.cons_append] at h ⊢
    cases hd : Lib.digitVal c with
    | none => rw [hd] at h; cases h
    | some d => rw [hd] at h; exact ih _ _ h
theorem decFrom_digits (u : Nat) : Lib.decFrom 0 (Lib.decDigits u) = some u := by
  induction u using Nat.strongRecOn with
  | _ u ih =>
    have one : ∀ (m d : Nat), d < 10 → Lib.decFrom m [UInt8.ofNat (48 + d)] = some (m * 10 + d) := by
      intro m d hd
      simp only [Lib.decFrom, Lib.digitVal, digit_byte d hd]
      rw [if_pos (by omega)]
      simp
    rw [Lib.decDigits]
    split
    · rename_i h1
      have := one 0 u h1
      simpa using this
    · rename_i h1
      rw [decFrom_app _ _ 0 (u / 10) (ih (u / 10) (by omega)), one _ _ (by omega)]
      congr 1
      omega
theorem decNat_digits (u : Nat) : Lib.decNat (Lib.decDigits u) = some u := by
  unfold Lib.decNat
  rw [decFrom_digits]
  obtain ⟨c, r, e, _⟩ := dec_head u
  rw [e]
  rfl
/-- What is written of a number spells it. -/
theorem atoi_of_itoa (n : Int) : Lib.atoi (Lib.itoa n) = some n := by
  unfold Lib.itoa
  split
  · rename_i hn
    simp only [Lib.atoi]
    rw [if_pos (by rfl), decNat_digits]
    simp
    omega
  · rename_i hn
    have hm := decNat_digits n.toNat
    obtain ⟨c, r, e, h2, h3⟩ := dec_head n.toNat
    rw [e] at hm ⊢
    simp only [Lib.atoi]
    rw [if_neg (by intro h; have := congrArg UInt8.toNat (eq_of_beq h); simp at this; omega), if_neg (by intro h; have := congrArg UInt8.toNat (eq_of_beq h); simp at this; omega), hm]
    simp
    omega
theorem itoa_len (n : Int) (h0 : -9223372036854775808 ≤ n) (h1 : n ≤ 9223372036854775807) : (Lib.itoa n).length ≤ 20 := by
  have key : ∀ u : Nat, u ≤ 9223372036854775808 → (Lib.decDigits u).length ≤ 19 := by
    intro u hu
    by_cases hz : u = 0
    · subst hz; rw [Lib.decDigits_one (by decide)]; decide
    · rw [dec_rdig u hz, List.length_map, List.length_reverse]
      exact rdig_len 19 u (by omega)
  unfold Lib.itoa
  split
  · have := key n.natAbs (by omega); simp; omega
  · have := key n.toNat (by omega); omega
/-- word.Read's answer, by whether the text is some number's. -/
theorem rd_no {s : ByteArray} (h : ∀ v : Int, -9223372036854775808 ≤ v → v ≤ 9223372036854775807 → Lib.itoa v ≠ s.data.toList) : rdN s = 0 ∧ rdE s = 3 := by
  unfold rdN rdE
  cases ha : Lib.atoiAll s.data.toList with
  | ok v =>
    obtain ⟨b1, b2⟩ := Lib.atoiAll_bounds ha
    simp [h v b1 b2]
  | «syntax» => exact ⟨rfl, rfl⟩
  | range => exact ⟨rfl, rfl⟩
theorem rd_yes {s : ByteArray} {v : Int} (h0 : -9223372036854775808 ≤ v) (h1 : v ≤ 9223372036854775807) (h : Lib.itoa v = s.data.toList) : rdN s = v ∧ rdE s = 0 := by
  have e : s = txt v := by unfold txt; rw [h]
  rw [e]
  exact rd_txt v h0 h1
/-- A step of the digits. -/
theorem decFrom_step {l : List UInt8} {k n : Nat} {c : UInt8} (h : Lib.decFrom 0 (l.take k) = some n) (hc : l[k]? = some c) (h0 : 48 ≤ c.toNat) (h1 : c.toNat ≤ 57) : Lib.decFrom 0 (l.take (k + 1)) = some (n * 10 + (c.toNat - 48)) :=
  Lib.decFrom_take l k 0 n c (c.toNat - 48) h hc (by unfold Lib.digitVal; rw [if_pos ⟨h0, h1⟩])
theorem decFrom_stop {l : List UInt8} {k : Nat} {c : UInt8} (hc : l[k]? = some c) (h : c.toNat < 48 ∨ 57 < c.toNat) : Lib.decFrom 0 l = none := by
  cases hd : Lib.decFrom 0 l with
  | none => rfl
  | some n =>
    obtain ⟨d, hd'⟩ := Lib.digit_of_decFrom l 0 n hd k c hc
    have := Lib.digitVal_eq hd'
    omega
theorem decFrom_small {l : List UInt8} {k n : Nat} (h : Lib.decFrom 0 (l.take k) = some n) (hk : k ≤ 20) : n < 100000000000000000000 := by
  have := Lib.decFrom_lt _ _ _ h
  have hl : (l.take k).length ≤ 20 := by simp; omega
  have : (0 + 1) * 10 ^ (l.take k).length ≤ 10 ^ 20 := by rw [Nat.zero_add, Nat.one_mul]; exact Nat.pow_le_pow_right (by decide) hl
  omega
end Go.Proofs.YtjmklmcnlieplaaDoor
