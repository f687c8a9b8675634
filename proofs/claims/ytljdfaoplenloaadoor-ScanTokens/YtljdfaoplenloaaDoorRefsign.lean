/- What panicroadref.isLetter, isDigit and signAt answer. -/
import Derived.Test.YtljdfaoplenloaaDoorOwnfirst
namespace Go.Proofs.YtljdfaoplenloaaDoor
open Go.ChangeShapes Go.WideShapes Go.ChangeAt Go.RowKit
set_option maxRecDepth 100000

/-- Does a text begin with this sign? -/
def Mt (s t : ByteArray) : Prop := t.size ≤ s.size ∧ (s.extract 0 t.size).toList = t.toList
instance (s t : ByteArray) : Decidable (Mt s t) := inferInstanceAs (Decidable (_ ∧ _))
def pick (s b t : ByteArray) : ByteArray := if b.size < t.size ∧ Mt s t then t else b
def bestN (s : ByteArray) (k : Nat) : ByteArray := (sgnL.take k).foldl (pick s) ⟨#[]⟩
theorem best_step {s t : ByteArray} {k : Nat} (h : sgnL[k]? = some t) : bestN s (k + 1) = pick s (bestN s k) t := by
  unfold bestN
  rw [List.take_add_one, h, List.foldl_append]
  rfl
theorem pick_size (s b t : ByteArray) (h : t.size = 1 ∨ t.size = 2) (hb : b.size ≤ 2) :
    (pick s b t).size ≤ 2 ∧ ((pick s b t).size = 2 ↔ (b.size = 2 ∨ (t.size = 2 ∧ Mt s t))) ∧ ((pick s b t).size = 0 ↔ (b.size = 0 ∧ ¬ Mt s t)) := by
  unfold pick
  by_cases hm : Mt s t
  · by_cases hlt : b.size < t.size
    · rw [if_pos ⟨hlt, hm⟩]
      simp only [hm, and_true, not_true_eq_false, and_false, iff_false]
      omega
    · rw [if_neg (fun e => hlt e.1)]
      simp only [hm, and_true, not_true_eq_false, and_false, iff_false]
      omega
  · rw [if_neg (fun e => hm e.2)]
    simp only [hm, and_false, or_false, not_false_eq_true, and_true]
    omega
theorem fold_size (s : ByteArray) : ∀ (L : List ByteArray) (b : ByteArray), (∀ t ∈ L, t.size = 1 ∨ t.size = 2) → b.size ≤ 2 →
    (L.foldl (pick s) b).size ≤ 2 ∧ ((L.foldl (pick s) b).size = 2 ↔ (b.size = 2 ∨ ∃ t ∈ L, t.size = 2 ∧ Mt s t)) ∧ ((L.foldl (pick s) b).size = 0 ↔ (b.size = 0 ∧ ∀ t ∈ L, ¬ Mt s t))
  | [], b, _, hb => by simpa using hb
  | t :: L, b, h, hb => by
    obtain ⟨p1, p2, p3⟩ := pick_size s b t (h t (by simp)) hb
    obtain ⟨q1, q2, q3⟩ := fold_size s L (pick s b t) (fun u hu => h u (by simp [hu])) p1
    refine ⟨q1, ?_, ?_⟩
    · rw [List.foldl_cons, q2, p2]
      simp [or_assoc]
    · rw [List.foldl_cons, q3, p3]
      simp [and_assoc]
theorem sgnL_size : ∀ t ∈ sgnL, t.size = 1 ∨ t.size = 2 := by decide
theorem list_size (t : ByteArray) : t.toList.length = t.size := by rw [ByteArray.toList_eq]; simp
theorem sgn_mt (s : ByteArray) (k : Nat) (hk : k ≤ s.size) : sgnB (s.extract 0 k) = true ↔ ∃ t ∈ sgnL, t.size = k ∧ Mt s t := by
  unfold sgnB
  rw [List.any_eq_true]
  have hz : (s.extract 0 k).size = k := by rw [ByteArray.size_extract]; omega
  constructor
  · rintro ⟨t, ht, e⟩
    have e' : (s.extract 0 k).toList = t.toList := by simpa using e
    have hl : t.size = k := by rw [← list_size t, ← e', list_size, hz]
    exact ⟨t, ht, hl, by omega, by rw [hl]; exact e'⟩
  · rintro ⟨t, ht, hl, hm⟩
    refine ⟨t, ht, ?_⟩
    have := hm.2
    rw [hl] at this
    simp [this]
theorem best_size (s : ByteArray) (h : 0 < s.size) : (bestN s sgnL.length).size = sgnN s := by
  unfold bestN
  rw [List.take_of_length_le (Nat.le_refl _)]
  obtain ⟨q1, q2, q3⟩ := fold_size s sgnL ⟨#[]⟩ sgnL_size (by decide)
  have z : (⟨#[]⟩ : ByteArray).size = 0 := rfl
  rw [z] at q2 q3
  unfold sgnN
  by_cases h2 : 2 ≤ s.size ∧ sgnB (s.extract 0 2) = true
  · rw [if_pos h2]
    exact q2.2 (.inr ((sgn_mt s 2 h2.1).1 h2.2))
  · rw [if_neg h2]
    have n2 : ¬ (∃ t ∈ sgnL, t.size = 2 ∧ Mt s t) := fun ⟨t, ht, hl, hm⟩ => by
      have hk : 2 ≤ s.size := by have := hm.1; omega
      exact h2 ⟨hk, (sgn_mt s 2 hk).2 ⟨t, ht, hl, hm⟩⟩
    have m2 : ¬ (List.foldl (pick s) ⟨#[]⟩ sgnL).size = 2 := fun e => by
      rcases q2.1 e with e | e
      · cases e
      · exact n2 e
    by_cases h1 : sgnB (s.extract 0 1) = true
    · rw [if_pos h1]
      obtain ⟨t, ht, -, hm⟩ := (sgn_mt s 1 h).1 h1
      have m0 : ¬ (List.foldl (pick s) ⟨#[]⟩ sgnL).size = 0 := fun e => (q3.1 e).2 t ht hm
      omega
    · rw [if_neg h1]
      refine q3.2 ⟨rfl, fun t ht hm => ?_⟩
      rcases sgnL_size t ht with e | e
      · exact h1 ((sgn_mt s 1 h).2 ⟨t, ht, e, hm⟩)
      · exact n2 ⟨t, ht, e, hm⟩
theorem sgn_get (k : Nat) (h : k < sgnL.length) : ∃ t, sgnL[k]? = some t := ⟨sgnL[k], List.getElem?_eq_getElem h⟩

theorem u8_all {P : UInt8 → Prop} (h : ∀ n, n < 256 → P (UInt8.ofNat n)) (c : UInt8) : P c := by
  have := h c.toNat (UInt8.toNat_lt c)
  rwa [UInt8.ofNat_toNat] at this
theorem ltr_or (c : UInt8) : ltrI (c.toNat : Int) = ((c.toNat : Int) == 95 || (decide ((97 : Int) ≤ bits BinOp.or IntKind.u8 (c.toNat : Int) 32) && decide (bits BinOp.or IntKind.u8 (c.toNat : Int) 32 ≤ 122))) := by
  revert c
  exact u8_all (by decide +kernel)
theorem ref_digit (c : UInt8) (w : World) : Calls Tryd.prog 34 #[.int .u8 (c.toNat : Int)] w fun e w' => e = .returned (.bool (dgtI (c.toNat : Int))) ∧ w' = w := by
  by_cases h1 : (48 : Int) ≤ (c.toNat : Int)
  · by_cases h2 : (c.toNat : Int) ≤ 57
    · have e : dgtI (c.toNat : Int) = true := by simp [dgtI]; omega
      rw [e]; clear e
      go_enter Tryd.func34, Tryd.ntmps34
      go_wp2
      go_ret
      exact ⟨rfl, rfl⟩
    · have e : dgtI (c.toNat : Int) = false := by simp [dgtI]; omega
      rw [e]; clear e
      go_enter Tryd.func34, Tryd.ntmps34
      go_wp2
      go_ret
      exact ⟨rfl, rfl⟩
  · have e : dgtI (c.toNat : Int) = false := by simp [dgtI]; omega
    rw [e]; clear e
    go_enter Tryd.func34, Tryd.ntmps34
    go_wp2
    go_ret
    exact ⟨rfl, rfl⟩
set_option maxHeartbeats 1600000 in
theorem ref_letter (c : UInt8) (w : World) : Calls Tryd.prog 33 #[.int .u8 (c.toNat : Int)] w fun e w' => e = .returned (.bool (ltrI (c.toNat : Int))) ∧ w' = w := by
  have HL : Hid (ltrI (c.toNat : Int) = ((c.toNat : Int) == 95 || (decide ((97 : Int) ≤ bits BinOp.or IntKind.u8 (c.toNat : Int) 32) && decide (bits BinOp.or IntKind.u8 (c.toNat : Int) 32 ≤ 122)))) := ltr_or c
  generalize hv : ltrI (c.toNat : Int) = v at *
  clear hv
  go_enter Tryd.func33, Tryd.ntmps33
  go_wp2
  · rename_i h1
    go_ret
    exact ⟨by rw [HL.out]; simp [h1], rfl⟩
  · rename_i h1 h2
    go_ret
    exact ⟨by rw [HL.out, decide_eq_true h2, Bool.true_and]; rfl, rfl⟩
  · rename_i h1 h2
    go_ret
    exact ⟨by rw [HL.out, decide_eq_false (show ¬ ((97 : Int) ≤ _) by omega), Bool.false_and, Bool.or_false]; rfl, rfl⟩
set_option maxHeartbeats 1600000 in
theorem ref_sign (s : ByteArray) (w : World) :
    Calls Tryd.prog 38 #[.string s] w fun e w' => e = .returned (.string (bestN s 29)) ∧ Below w.heap.size w w' := by
  go_enter Tryd.func38, Tryd.ntmps38
  go_wp2_with fail
  refine (cutAt_any sgnText 32 _ (by decide)).mono ?_
  rintro e w1 ⟨v, rfl, hown, hb⟩
  rw [sgn_cut] at hown
  obtain ⟨g, cap, hv⟩ : ∃ g cap, v = .slice (some ⟨g, 0, none⟩) 29 cap := by
    rcases hown.2 with ⟨_, h⟩ | ⟨g, cap, _, h, _⟩
    · cases h
    · exact ⟨g, cap, h⟩
  subst hv
  have HC : Hid (∀ (k : Nat) (t : ByteArray), k < 29 → sgnL[k]? = some t → w1.cell? ⟨g, k, none⟩ = some (.string t)) := by
    intro k t hk ht
    rw [hown.cellAt k (by show k < 29 * 1; omega), List.getElem?_map, ht]
    rfl
  clear hown
  go_wp2
  go_loop [3, 8] (fun b i => ∃ k : Nat, k ≤ 29 ∧ i = .int .i64 k ∧ b = .string (bestN s k)) (fun _ i => 29 - (intOf i).toNat)
  case atStart => exact ⟨0, Nat.zero_le _, rfl, rfl⟩
  case round =>
    obtain ⟨k, hk, rfl, rfl⟩ := hrel
    by_cases h29 : k < 29
    · obtain ⟨t, ht⟩ := sgn_get k h29
      have hc := HC.out k t h29 ht
      have HB : Hid (bestN s (k + 1) = pick s (bestN s k) t) := best_step ht
      have htz : t.size ≤ 2 := by rcases sgnL_size t (List.mem_of_getElem? ht) with h | h <;> omega
      clear ht
      generalize bestN s k = b at *
      by_cases h1 : b.size < t.size
      · by_cases h2 : t.size ≤ s.size
        · have hsl := slice_to s t.size h2
          by_cases h3 : (s.extract 0 t.size).toList = t.toList
          · have h3' : ((s.extract 0 t.size).toList == t.toList) = true := by simpa using h3
            have HE : Hid (bestN s (k + 1) = t) := by show _ = _; rw [HB.out]; unfold pick; rw [if_pos ⟨h1, h2, h3⟩]
            clear h3 HB
            go_wp2
            go_round
            case rel => exact ⟨k + 1, by omega, by go_num, by rw [HE.out]⟩
            case measure => simp [intOf]; omega
          · have h3' : ((s.extract 0 t.size).toList == t.toList) = false := by simpa using h3
            have HE : Hid (bestN s (k + 1) = b) := by show _ = _; rw [HB.out]; unfold pick; rw [if_neg (fun e => h3 e.2.2)]
            clear h3 HB
            go_wp2
            go_round
            case rel => exact ⟨k + 1, by omega, by go_num, by rw [HE.out]⟩
            case measure => simp [intOf]; omega
        · have HE : Hid (bestN s (k + 1) = b) := by show _ = _; rw [HB.out]; unfold pick; rw [if_neg (fun e => h2 e.2.1)]
          clear HB
          go_wp2
          go_round
          case rel => exact ⟨k + 1, by omega, by go_num, by rw [HE.out]⟩
          case measure => simp [intOf]; omega
      · have HE : Hid (bestN s (k + 1) = b) := by show _ = _; rw [HB.out]; unfold pick; rw [if_neg (fun e => h1 e.1)]
        clear HB
        go_wp2
        go_round
        case rel => exact ⟨k + 1, by omega, by go_num, by rw [HE.out]⟩
        case measure => simp [intOf]; omega
    · obtain rfl : k = 29 := by omega
      go_wp2
      go_ret
      exact ⟨rfl, hb⟩
end Go.Proofs.YtljdfaoplenloaaDoor
