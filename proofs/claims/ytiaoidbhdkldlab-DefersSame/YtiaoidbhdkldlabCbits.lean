/- Calls whose places rise, and the masks of their places. -/
import Derived.Test.YtiaoidbhdkldlabCorder
import Derived.Test.YtiaoidbhdkldlabDtop
namespace Go.Proofs.Ytiaoidbhdkldlab
open Go.ChangeShapes Go.WideShapes Go.ChangeAt Go.RowKit
set_option maxRecDepth 100000
set_option linter.unusedSimpArgs false
set_option linter.unusedVariables false
/-- The mask of the first k places. -/
def maskAt (cs : List Cc) : Nat → Nat
  | 0 => 0
  | k + 1 => match cs[k]? with
    | some c => setN (maskAt cs k) c.site.toNat
    | none => maskAt cs k
/-- The first k calls stand at bits, each above the one ahead. -/
def Rise (cs : List Cc) (k : Nat) : Prop := ∀ j c, j < k → cs[j]? = some c → 0 ≤ c.site ∧ c.site < 8 ∧ ∀ p, 0 < j → cs[j - 1]? = some p → p.site < c.site
theorem Rise.less {cs : List Cc} {k i : Nat} (h : Rise cs k) (hi : i ≤ k) : Rise cs i := fun j c hj hc => h j c (by omega) hc
theorem Rise.zero (cs : List Cc) : Rise cs 0 := fun j c hj => by omega
theorem Rise.more {cs : List Cc} {k : Nat} {c : Cc} (h : Rise cs k) (hk : cs[k]? = some c) (h0 : 0 ≤ c.site) (h1 : c.site < 8) (hp : ∀ p, 0 < k → cs[k - 1]? = some p → p.site < c.site) : Rise cs (k + 1) := fun j d hj hd => by
  rcases Nat.lt_or_ge j k with h2 | h2
  · exact h j d h2 hd
  · have : j = k := by omega
    subst this
    rw [hk] at hd; cases hd
    exact ⟨h0, h1, hp⟩
theorem Rise.lt {cs : List Cc} {k : Nat} (h : Rise cs k) : ∀ (i j : Nat) (c d : Cc), j < i → i < k → cs[j]? = some c → cs[i]? = some d → c.site < d.site
  | 0, j, c, d, hj, _, _, _ => by omega
  | i + 1, j, c, d, hj, hi, hc, hd => by
    have hil : i < cs.length := by have := (List.getElem?_eq_some_iff.1 hd).1; omega
    obtain ⟨p, hp⟩ : ∃ p, cs[i]? = some p := ⟨_, List.getElem?_eq_getElem hil⟩
    have h1 := (h (i + 1) d hi hd).2.2 p (by omega) (by simpa using hp)
    rcases Nat.lt_or_ge j i with h2 | h2
    · have := h.lt i j c p h2 (by omega) hc hp
      omega
    · have : j = i := by omega
      subst this
      rw [hc] at hp; cases hp
      exact h1
theorem set_top : ∀ m : Nat, m < 256 → ∀ s : Nat, s < 8 → (m = 0 ∨ topN m < s) → setN m s < 256 ∧ setN m s ≠ 0 ∧ topN (setN m s) = s ∧ bitN (setN m s) s = true ∧ dropN (setN m s) s = m := by decide +kernel
theorem mask_facts {cs : List Cc} : ∀ (k : Nat), Rise cs k → k ≤ cs.length → maskAt cs k < 256 ∧ (k = 0 → maskAt cs k = 0) ∧ (∀ c, 0 < k → cs[k - 1]? = some c → maskAt cs k ≠ 0 ∧ topN (maskAt cs k) = c.site.toNat ∧ bitN (maskAt cs k) c.site.toNat = true ∧ dropN (maskAt cs k) c.site.toNat = maskAt cs (k - 1))
  | 0, _, _ => ⟨by simp [maskAt], fun _ => rfl, fun c h => by omega⟩
  | k + 1, h, hk => by
    obtain ⟨m1, m2, m3⟩ := mask_facts k (h.less (by omega)) (by omega)
    obtain ⟨c, hc⟩ : ∃ c, cs[k]? = some c := ⟨_, List.getElem?_eq_getElem (by omega)⟩
    obtain ⟨c1, c2, c3⟩ := h k c (by omega) hc
    have hs : maskAt cs (k + 1) = setN (maskAt cs k) c.site.toNat := by simp only [maskAt, hc]
    have ht : maskAt cs k = 0 ∨ topN (maskAt cs k) < c.site.toNat := by
      rcases Nat.eq_zero_or_pos k with h0 | h0
      · exact .inl (m2 h0)
      · obtain ⟨p, hp⟩ : ∃ p, cs[k - 1]? = some p := ⟨_, List.getElem?_eq_getElem (by omega)⟩
        have h1 := c3 p h0 hp
        have h2 := (m3 p h0 hp).2.1
        have h3 := (h (k - 1) p (by omega) hp).1
        exact .inr (by rw [h2]; omega)
    obtain ⟨s1, s2, s3, s4, s5⟩ := set_top _ m1 c.site.toNat (by omega) ht
    rw [hs]
    refine ⟨s1, fun h => by omega, fun d _ hd => ?_⟩
    simp only [Nat.add_sub_cancel] at hd ⊢
    rw [hc] at hd; cases hd
    exact ⟨s2, s3, s4, s5⟩
theorem maskB_of' {n : Nat} (h : n < 256) : isMaskB (n : Int) = true := by simp [isMaskB]; omega
theorem bitB_of {s : Int} (h0 : 0 ≤ s) (h1 : s < 8) : isBitB s = true := by simp [isBitB]; omega
/-- What Top, Set and Drop answer at these masks. -/
theorem top_at {cs : List Cc} {k : Nat} (h : Rise cs k) (hk : k ≤ cs.length) : topR (maskAt cs k : Int) = (if k = 0 then ((0 : Int), false) else (((cs[k - 1]?.map (·.site)).getD 0), true)) := by
  obtain ⟨m1, m2, m3⟩ := mask_facts k h hk
  by_cases h0 : k = 0
  · rw [if_pos h0, m2 h0]; rfl
  · obtain ⟨p, hp⟩ : ∃ p, cs[k - 1]? = some p := ⟨_, List.getElem?_eq_getElem (by omega)⟩
    obtain ⟨n1, n2, n3, n4⟩ := m3 p (by omega) hp
    have h3 := (h (k - 1) p (by omega) hp).1
    rw [if_neg h0, hp]
    simp [topR, maskB_of' m1, n1, n2]
    omega
theorem set_at {cs : List Cc} {k : Nat} {c : Cc} (h : Rise cs k) (hk : cs[k]? = some c) (h0 : 0 ≤ c.site) (h1 : c.site < 8) : setR (maskAt cs k : Int) c.site = (((maskAt cs (k + 1) : Nat) : Int), (0 : Int)) := by
  obtain ⟨m1, _⟩ := mask_facts k h (by have := (List.getElem?_eq_some_iff.1 hk).1; omega)
  simp [setR, maskB_of' m1, bitB_of h0 h1, maskAt, hk]
theorem set_bad {cs : List Cc} {k : Nat} {s : Int} (h : ¬ (0 ≤ s ∧ s < 8)) : setR (maskAt cs k : Int) s = ((0 : Int), (14 : Int)) := by
  have : isBitB s = false := by simp [isBitB]; omega
  simp [setR, this]
theorem drop_at {cs : List Cc} {k : Nat} {c : Cc} (h : Rise cs (k + 1)) (hk : cs[k]? = some c) : dropR (maskAt cs (k + 1) : Int) c.site = (((maskAt cs k : Nat) : Int), (0 : Int)) := by
  have hkl := (List.getElem?_eq_some_iff.1 hk).1
  obtain ⟨m1, _, m3⟩ := mask_facts (k + 1) h (by omega)
  obtain ⟨n1, n2, n3, n4⟩ := m3 c (by omega) (by simpa using hk)
  obtain ⟨c1, c2, _⟩ := h k c (by omega) hk
  simp only [Nat.add_sub_cancel] at n4
  simp [dropR, maskB_of' m1, bitB_of c1 c2, n3, n4]
end Go.Proofs.Ytiaoidbhdkldlab
