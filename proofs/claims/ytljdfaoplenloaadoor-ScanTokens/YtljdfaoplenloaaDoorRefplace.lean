/- What panicroadref.placeOf, spotAt and closes answer. -/
import Derived.Test.YtljdfaoplenloaaDoorRefsign
import Derived.Test.YtljdfaoplenloaaDoorPlaces
namespace Go.Proofs.YtljdfaoplenloaaDoor
open Go.ChangeShapes Go.WideShapes Go.ChangeAt Go.RowKit
set_option maxRecDepth 100000
set_option linter.unusedSimpArgs false
set_option linter.unusedVariables false

theorem plc_le (l : List UInt8) : ∀ k, (plc l k).1 ≤ k + 1 ∧ (plc l k).2 ≤ k + 1
  | 0 => ⟨Nat.le_refl _, Nat.le_refl _⟩
  | k + 1 => by
    have := plc_le l k
    by_cases h : l[k]? = some 10
    · rw [plc_nl h]; simp only; omega
    · rw [plc_on h]; simp only; omega
set_option maxHeartbeats 1600000 in
theorem ref_place (s : ByteArray) (p : Nat) (w : World) (hp : p ≤ s.size) (hs : s.size ≤ 8000) :
    Calls Tryd.prog 16 #[.string s, .int .i64 (p : Int)] w fun e w' => e = .returned (.tuple #[.int .i64 (plc s.data.toList p).1, .int .i64 (plc s.data.toList p).2]) ∧ w' = w := by
  have HG : Hid (∀ (k : Nat) (h : k < s.size), s.data.toList[k]? = some s[k]) := fun k h => by rw [get_list s k h, List.getElem?_eq_getElem]
  generalize s.data.toList = l at *
  go_enter Tryd.func16, Tryd.ntmps16
  go_wp2
  go_loop [6, 7, 8] (fun a b i => ∃ k : Nat, k ≤ p ∧ i = .int .i64 k ∧ a = .int .i64 (plc l k).1 ∧ b = .int .i64 (plc l k).2) (fun _ _ i => p - (intOf i).toNat)
  case atStart => exact ⟨0, Nat.zero_le _, rfl, rfl, rfl⟩
  case round =>
    obtain ⟨k, hk, rfl, rfl, rfl⟩ := hrel
    obtain ⟨l1, l2⟩ := plc_le l k
    by_cases hlt : k < p
    · have hks : k < s.size := by omega
      by_cases h10 : s[k] = 10
      · have b1 : ((s[k].toNat : Int) == 10) = true := by rw [h10]; decide
        have HE : Hid (plc l (k + 1) = ((plc l k).1 + 1, 1)) := plc_nl (by rw [HG.out k hks, h10])
        generalize (plc l k).1 = x at *
        generalize (plc l k).2 = y at *
        clear h10
        go_wp2
        go_round
        case rel => exact ⟨k + 1, by omega, by go_num, by rw [HE.out]; go_num, by rw [HE.out]; rfl⟩
        case measure => simp [intOf]; omega
      · have b1 : ((s[k].toNat : Int) == 10) = false := nat_ne (n := 10) (by decide) h10
        have HE : Hid (plc l (k + 1) = ((plc l k).1, (plc l k).2 + 1)) := plc_on (by rw [HG.out k hks]; exact fun e => h10 (Option.some.inj e))
        generalize (plc l k).1 = x at *
        generalize (plc l k).2 = y at *
        clear h10
        go_wp2
        go_round
        case rel => exact ⟨k + 1, by omega, by go_num, by rw [HE.out], by rw [HE.out]; go_num⟩
        case measure => simp [intOf]; omega
    · obtain rfl : k = p := by omega
      go_wp2
      go_ret2
      exact ⟨rfl, rfl⟩
set_option maxHeartbeats 1600000 in
theorem ref_spot (s : ByteArray) (p : Nat) (c : Int) (w : World) (hp : p ≤ s.size) (hs : s.size ≤ 8000) :
    Calls Tryd.prog 18 #[.string s, .int .i64 (p : Int), .int .i64 c] w fun e w' => e = .returned (.agg #[.int .i64 c, .int .i64 (plc s.data.toList p).1, .int .i64 (plc s.data.toList p).2]) ∧ Below w.heap.size w w' := by
  have HP : Hid (∀ W, Calls Tryd.prog 16 #[.string s, .int .i64 (p : Int)] W fun e w' => e = .returned (.tuple #[.int .i64 (plc s.data.toList p).1, .int .i64 (plc s.data.toList p).2]) ∧ w' = W) := fun W => ref_place s p W hp hs
  generalize (plc s.data.toList p).1 = x at *
  generalize (plc s.data.toList p).2 = y at *
  go_enter Tryd.func18, Tryd.ntmps18
  go_wp2_with fail
  refine (HP.out _).mono ?_
  rintro e w1 ⟨rfl, rfl⟩
  go_wp2_with fail
  exact bodyPost_ret (v := .agg #[.int .i64 c, .int .i64 x, .int .i64 y]) (by simp [results, Tryd.results18, go_sem]) rfl ⟨rfl, (Below.refl _ _).alloc (Nat.le_refl _) _⟩

/-- The signs and words behind which a line may end. -/
def clsL : List ByteArray := [⟨#[41]⟩, ⟨#[93]⟩, ⟨#[125]⟩, ⟨#[98, 114, 101, 97, 107]⟩, ⟨#[99, 111, 110, 116, 105, 110, 117, 101]⟩, ⟨#[114, 101, 116, 117, 114, 110]⟩, ⟨#[116, 114, 117, 101]⟩, ⟨#[102, 97, 108, 115, 101]⟩, ⟨#[110, 105, 108]⟩, ⟨#[105, 110, 116]⟩, ⟨#[98, 111, 111, 108]⟩, ⟨#[115, 116, 114, 105, 110, 103]⟩, ⟨#[97, 110, 121]⟩]
def clsText : ByteArray := ⟨#[41, 32, 93, 32, 125, 32, 98, 114, 101, 97, 107, 32, 99, 111, 110, 116, 105, 110, 117, 101, 32, 114, 101, 116, 117, 114, 110, 32, 116, 114, 117, 101, 32, 102, 97, 108, 115, 101, 32, 110, 105, 108, 32, 105, 110, 116, 32, 98, 111, 111, 108, 32, 115, 116, 114, 105, 110, 103, 32, 97, 110, 121]⟩
theorem cls_cut : (cutSt clsText 32 (clsText.size + 1)).1 = clsL := by kernel_rfl
def clsB (s : ByteArray) : Bool := clsL.any fun t => s.toList == t.toList
theorem clsB_none {s : ByteArray} (h : ∀ (k : Nat) (t : ByteArray), clsL[k]? = some t → (t.toList == s.toList) = false) : clsB s = false := by
  unfold clsB
  rw [List.any_eq_false]
  intro t ht
  obtain ⟨k, hk⟩ := List.mem_iff_getElem?.1 ht
  have := h k t hk
  simp at this ⊢
  exact fun e => this e.symm
theorem clsB_some {s t : ByteArray} {k : Nat} (h : clsL[k]? = some t) (e : (t.toList == s.toList) = true) : clsB s = true := by
  unfold clsB
  rw [List.any_eq_true]
  refine ⟨t, List.mem_iff_getElem?.2 ⟨k, h⟩, ?_⟩
  simp at e ⊢
  exact e.symm
def clB (k : Int) (s : ByteArray) : Bool := (k == 1) || (k == 2) || (k == 3) || (((k == 4) || (k == 5)) && clsB s)
/-- A token whose text is of its kind. -/
def OkT (k : Int) (s : ByteArray) : Prop := (k = 4 → sgnB s = true) ∧ (k = 5 → wordB s = true)
theorem cl_may {k : Int} {s : ByteArray} (h : OkT k s) : clB k s = mayT k s := by
  by_cases h4 : k = 4
  · subst h4
    have := h.1 rfl
    unfold sgnB at this
    rw [List.any_eq_true] at this
    obtain ⟨t, ht, e⟩ := this
    have e' : s.toList = t.toList := by simpa using e
    have key : ∀ t ∈ sgnL, clsL.any (fun u => t.toList == u.toList) = (t.toList == [41] || (t.toList == [93] || (t.toList == [125]))) := by decide +kernel
    have := key t ht
    rw [← e'] at this
    simp only [clB, mayT, clsB, this]
    simp
  · by_cases h5 : k = 5
    · subst h5
      have := h.2 rfl
      unfold wordB at this
      rw [List.any_eq_true] at this
      obtain ⟨t, ht, e⟩ := this
      have e' : s.toList = t.toList := by simpa using e
      have key : ∀ t ∈ wordsL, clsL.any (fun u => t.toList == u.toList) = mayT 5 t := by decide +kernel
      have h1 := key t ht
      have h2 : mayT 5 s = mayT 5 t := by unfold mayT; rw [e']
      rw [h2, ← h1, ← e']
      simp [clB, clsB]
    · have b4 : (k == 4) = false := by simpa using h4
      have b5 : (k == 5) = false := by simpa using h5
      unfold clB mayT
      rw [b4, b5]
      simp [Bool.or_assoc]
set_option maxHeartbeats 1600000 in
theorem ref_closes (k : Int) (s : ByteArray) (ln cl : Int) (w : World) :
    Calls Tryd.prog 17 #[.agg #[.int .i64 k, .string s, .int .i64 ln, .int .i64 cl]] w fun e w' => e = .returned (.bool (clB k s)) ∧ Below w.heap.size w w' := by
  by_cases h1 : k = 1
  · subst h1
    rw [show clB 1 s = true from rfl]
    go_enter Tryd.func17, Tryd.ntmps17
    go_wp2
    go_ret
    exact ⟨rfl, (Below.refl _ _).alloc (Nat.le_refl _) _⟩
  by_cases h2 : k = 2
  · subst h2
    rw [show clB 2 s = true from rfl]
    go_enter Tryd.func17, Tryd.ntmps17
    go_wp2
    go_ret
    exact ⟨rfl, (Below.refl _ _).alloc (Nat.le_refl _) _⟩
  by_cases h3 : k = 3
  · subst h3
    rw [show clB 3 s = true from rfl]
    go_enter Tryd.func17, Tryd.ntmps17
    go_wp2
    go_ret
    exact ⟨rfl, (Below.refl _ _).alloc (Nat.le_refl _) _⟩
  have g1 : (k == 1) = false := by simpa using h1
  have g2 : (k == 2) = false := by simpa using h2
  have g3 : (k == 3) = false := by simpa using h3
  by_cases hk : k = 4 ∨ k = 5
  · have HC : Hid (clB k s = clsB s) := by
      show _ = _
      unfold clB
      rcases hk with rfl | rfl <;> simp
    have h45 : (k != 4) = false ∨ ((k != 4) = true ∧ (k != 5) = false) := by
      rcases hk with rfl | rfl
      · exact .inl rfl
      · exact .inr ⟨rfl, rfl⟩
    clear hk h1 h2 h3
    rcases h45 with g4 | ⟨g4, g5⟩
    · go_enter Tryd.func17, Tryd.ntmps17
      go_wp2_with fail
      refine (cutAt_any clsText 32 _ (by decide)).mono ?_
      rintro e w1 ⟨v, rfl, hown, hb⟩
      rw [cls_cut] at hown
      obtain ⟨g, cap, hv⟩ : ∃ g cap, v = .slice (some ⟨g, 0, none⟩) 13 cap := by
        rcases hown.2 with ⟨_, h⟩ | ⟨g, cap, _, h, _⟩
        · cases h
        · exact ⟨g, cap, h⟩
      subst hv
      have HC1 : Hid (∀ (k : Nat) (t : ByteArray), k < 13 → clsL[k]? = some t → w1.cell? ⟨g, k, none⟩ = some (.string t)) := by
        intro k t hk ht
        rw [hown.cellAt k (by show k < 13 * 1; omega), List.getElem?_map, ht]
        rfl
      have c1 : w1.cell? ⟨w.heap.size, 1, none⟩ = some (.string s) := by
        rw [hb.cell (p := ⟨w.heap.size, 1, none⟩) (by simp)]
        exact cells_new w [.int .i64 k, .string s, .int .i64 ln, .int .i64 cl] 33 1 _ rfl
      have HB1 : Hid (Below w.heap.size w w1) := ((Below.refl _ _).alloc (Nat.le_refl _) _).trans (hb.mono (by simp))
      clear hown hb
      go_wp2
      go_loop [28] (fun i => ∃ k : Nat, k ≤ 13 ∧ i = .int .i64 k ∧ Hid (∀ (j : Nat) (t : ByteArray), j < k → clsL[j]? = some t → (t.toList == s.toList) = false)) (fun i => 13 - (intOf i).toNat)
      case atStart => exact ⟨0, Nat.zero_le _, rfl, fun j t h => by omega⟩
      case round =>
        obtain ⟨j, hj, rfl, HN⟩ := hrel
        by_cases h13 : j < 13
        · obtain ⟨t, ht⟩ : ∃ t, clsL[j]? = some t := ⟨clsL[j]'h13, List.getElem?_eq_getElem h13⟩
          have hc := HC1.out j t h13 ht
          by_cases hm : (t.toList == s.toList) = true
          · have HE : Hid (clsB s = true) := clsB_some ht hm
            clear ht
            go_wp2
            go_ret
            exact ⟨by rw [HC.out, HE.out]; rfl, HB1.out⟩
          · have hm' : (t.toList == s.toList) = false := by simpa using hm
            have HT : Hid (clsL[j]? = some t) := ht
            clear hm ht
            go_wp2
            go_round
            case rel => exact ⟨j + 1, by omega, by go_num, fun i u hi hu => by
              by_cases e : i = j
              · subst e
                rw [HT.out] at hu
                cases hu
                exact hm'
              · exact HN.out i u (by omega) hu⟩
            case measure => simp [intOf]; omega
        · obtain rfl : j = 13 := by omega
          have HE : Hid (clsB s = false) := clsB_none fun i t ht => HN.out i t (by have := (List.getElem?_eq_some_iff.1 ht).1; exact this) ht
          go_wp2
          go_ret
          exact ⟨by rw [HC.out, HE.out]; rfl, HB1.out⟩
    · go_enter Tryd.func17, Tryd.ntmps17
      go_wp2_with fail
      refine (cutAt_any clsText 32 _ (by decide)).mono ?_
      rintro e w1 ⟨v, rfl, hown, hb⟩
      rw [cls_cut] at hown
      obtain ⟨g, cap, hv⟩ : ∃ g cap, v = .slice (some ⟨g, 0, none⟩) 13 cap := by
        rcases hown.2 with ⟨_, h⟩ | ⟨g, cap, _, h, _⟩
        · cases h
        · exact ⟨g, cap, h⟩
      subst hv
      have HC1 : Hid (∀ (k : Nat) (t : ByteArray), k < 13 → clsL[k]? = some t → w1.cell? ⟨g, k, none⟩ = some (.string t)) := by
        intro k t hk ht
        rw [hown.cellAt k (by show k < 13 * 1; omega), List.getElem?_map, ht]
        rfl
      have c1 : w1.cell? ⟨w.heap.size, 1, none⟩ = some (.string s) := by
        rw [hb.cell (p := ⟨w.heap.size, 1, none⟩) (by simp)]
        exact cells_new w [.int .i64 k, .string s, .int .i64 ln, .int .i64 cl] 33 1 _ rfl
      have HB1 : Hid (Below w.heap.size w w1) := ((Below.refl _ _).alloc (Nat.le_refl _) _).trans (hb.mono (by simp))
      clear hown hb
      go_wp2
      go_loop [28] (fun i => ∃ k : Nat, k ≤ 13 ∧ i = .int .i64 k ∧ Hid (∀ (j : Nat) (t : ByteArray), j < k → clsL[j]? = some t → (t.toList == s.toList) = false)) (fun i => 13 - (intOf i).toNat)
      case atStart => exact ⟨0, Nat.zero_le _, rfl, fun j t h => by omega⟩
      case round =>
        obtain ⟨j, hj, rfl, HN⟩ := hrel
        by_cases h13 : j < 13
        · obtain ⟨t, ht⟩ : ∃ t, clsL[j]? = some t := ⟨clsL[j]'h13, List.getElem?_eq_getElem h13⟩
          have hc := HC1.out j t h13 ht
          by_cases hm : (t.toList == s.toList) = true
          · have HE : Hid (clsB s = true) := clsB_some ht hm
            clear ht
            go_wp2
            go_ret
            exact ⟨by rw [HC.out, HE.out]; rfl, HB1.out⟩
          · have hm' : (t.toList == s.toList) = false := by simpa using hm
            have HT : Hid (clsL[j]? = some t) := ht
            clear hm ht
            go_wp2
            go_round
            case rel => exact ⟨j + 1, by omega, by go_num, fun i u hi hu => by
              by_cases e : i = j
              · subst e
                rw [HT.out] at hu
                cases hu
                exact hm'
              · exact HN.out i u (by omega) hu⟩
            case measure => simp [intOf]; omega
        · obtain rfl : j = 13 := by omega
          have HE : Hid (clsB s = false) := clsB_none fun i t ht => HN.out i t (by have := (List.getElem?_eq_some_iff.1 ht).1; exact this) ht
          go_wp2
          go_ret
          exact ⟨by rw [HC.out, HE.out]; rfl, HB1.out⟩
  · have hc : clB k s = false := by
      unfold clB
      have b4 : (k == 4) = false := by simp; omega
      have b5 : (k == 5) = false := by simp; omega
      rw [g1, g2, g3, b4, b5]; rfl
    have g4 : (k != 4) = true := by simp; omega
    have g5 : (k != 5) = true := by simp; omega
    rw [hc]
    clear hc hk h1 h2 h3
    go_enter Tryd.func17, Tryd.ntmps17
    go_wp2
    go_ret
    exact ⟨rfl, (Below.refl _ _).alloc (Nat.le_refl _) _⟩
end Go.Proofs.YtljdfaoplenloaaDoor
