/- What scan.readQuoted and scan.Unquote answer. -/
import Derived.Test.YtncjaohiimenaabDoorOwnpiece
namespace Go.Proofs.YtncjaohiimenaabDoor
open Go.ChangeShapes Go.WideShapes Go.ChangeAt Go.RowKit
set_option maxRecDepth 100000

theorem drop_list (s : ByteArray) (k : Nat) : (s.extract k s.size).data.toList = s.data.toList.drop k := by
  rw [ByteArray.data_extract]
  simp
  rw [List.take_of_length_le (by simp)]
theorem drop_at (s : ByteArray) (k : Nat) (h : k < s.size) : s.data.toList.drop k = s[k] :: s.data.toList.drop (k + 1) := by
  rw [get_list s k h, ← List.drop_eq_getElem_cons]
theorem slice_from (s : ByteArray) (k : Nat) (h : k ≤ s.size) (W : World) : (Instr.slice 9 (.string s) (some (.int .i64 (k : Int))) none none).run Tryd.prog W = .ok (.string (s.extract k s.size)) W := by
  have := run_slice_string_l W 9 s Tryd.underlying9 .i64 k (by omega) (by omega)
  rw [this]
  rfl
/-- Behind k bytes, of which u was read. -/
def At (l u : List UInt8) (k : Nat) : Prop := rd (l.drop 1) = (rd (l.drop k)).map fun p => (u ++ p.1, p.2 + (k - 1))
theorem at_one (l : List UInt8) : At l [] 1 := by unfold At; cases rd (l.drop 1) <;> simp
theorem at_step {l u : List UInt8} {k : Nat} {c : UInt8} {r : List UInt8} (h : At l u k) (h1 : 1 ≤ k) (hd : l.drop k = c :: r) (hc : c ≠ 34) (h0 : (piece (c :: r)).2 ≠ 0) : At l (u ++ [(piece (c :: r)).1]) (k + (piece (c :: r)).2) := by
  unfold At at *
  rw [h, hd, rd_piece hc, if_neg h0, ← List.drop_drop, hd]
  generalize piece (c :: r) = q
  obtain ⟨x, n⟩ := q
  simp only
  cases rd ((c :: r).drop n) with
  | none => rfl
  | some p => simp; omega
theorem rq_none {l : List UInt8} (h : rd (l.drop 1) = none) : rq l = none := by
  cases l with
  | nil => rfl
  | cons c r => simp at h; simp [rq, h]
theorem at_none {l u : List UInt8} {k : Nat} (h : At l u k) (hr : rd (l.drop k) = none) : rq l = none := rq_none (by unfold At at h; rw [h, hr]; rfl)
theorem at_long {l u : List UInt8} {k : Nat} (h : At l u k) (hu : 200 < u.length) : rq l = none := by
  unfold At at h
  cases hr : rd (l.drop k) with
  | none => exact rq_none (by rw [h, hr]; rfl)
  | some p =>
    rw [hr] at h
    cases l with
    | nil => rfl
    | cons c r =>
      simp at h
      simp [rq, h]
      intro _
      omega
theorem at_close {l u r : List UInt8} {k : Nat} (h : At l u k) (h1 : 1 ≤ k) (hl : ∃ r, l = 34 :: r) (hd : l.drop k = 34 :: r) (hu : u.length ≤ 200) : rq l = some (u, k + 1) := by
  unfold At at h
  rw [hd, rd_close] at h
  obtain ⟨r', rfl⟩ := hl
  simp at h
  simp [rq, h, hu]
  omega
theorem rq_no {l : List UInt8} (h : rq l = none) : rqS l = [] ∧ rqN l = 0 ∧ rqE l = 4 := by simp [rqS, rqN, rqE, h]
theorem rq_yes {l u : List UInt8} {n : Nat} (h : rq l = some (u, n)) : rqS l = u ∧ rqN l = n ∧ rqE l = 0 := by simp [rqS, rqN, rqE, h]

theorem pre_yes {s : ByteArray} (h : 0 < s.size) (e : s[0] = 34) : Lib.hasPrefix s.data.toList (⟨#[34]⟩ : ByteArray).data.toList = true ∧ ∃ r, s.data.toList = 34 :: r := by
  obtain ⟨r, hr⟩ := list_one s h
  rw [hr, e]
  exact ⟨by simp [Lib.hasPrefix], r, rfl⟩
theorem pre_no {s : ByteArray} (hno : ∀ h : 0 < s.size, (s[0]'h : UInt8) ≠ 34) : Lib.hasPrefix s.data.toList (⟨#[34]⟩ : ByteArray).data.toList = false ∧ rq s.data.toList = none := by
  by_cases h : 0 < s.size
  · obtain ⟨r, hr⟩ := list_one s h
    have := hno h
    rw [hr]
    refine ⟨by simp only [Lib.hasPrefix, List.isPrefixOf, Bool.and_true]; rw [beq_eq_false_iff_ne]; exact Ne.symm this, ?_⟩
    simp [rq, this]
  · have : s.data.toList = [] := List.length_eq_zero_iff.1 (by rw [bsize_list]; omega)
    rw [this]
    exact ⟨rfl, rfl⟩

set_option maxHeartbeats 2000000 in
theorem rdq_any (s : ByteArray) (w : World) (hs : s.size ≤ maxLen) :
    Calls Tryd.prog 47 #[.string s] w fun e w' => e = .returned (.tuple #[.string ⟨(rqS s.data.toList).toArray⟩, .int .i64 (rqN s.data.toList), .int .i64 (rqE s.data.toList)]) ∧ Below w.heap.size w w' := by
  unfold maxLen at hs
  by_cases hpre : ∃ h : 0 < s.size, s[0] = 34
  · obtain ⟨hz, h34⟩ := hpre
    obtain ⟨hp, hl⟩ := pre_yes hz h34
    have HP : Hid (∀ W, Calls Tryd.prog 36 #[.string s, .string ⟨#[34]⟩] W fun e w' => e = .returned (.bool true) ∧ w' = W) := fun W => by have := Tryd.strings_HasPrefix s ⟨#[34]⟩ W; rw [hp] at this; exact this
    have HL : Hid (∃ r, s.data.toList = 34 :: r) := hl
    have HD : Hid (∀ (k : Nat) (h : k < s.size), s.data.toList.drop k = s[k] :: s.data.toList.drop (k + 1)) := fun k h => drop_at s k h
    have HZ : Hid (s.data.toList.length = s.size) := bsize_list s
    have HC : Hid (∀ (k : Nat), k < s.size → ∀ W, Calls Tryd.prog 56 #[.string (s.extract k s.size)] W fun e w' => e = .returned (.tuple #[.int .u8 (piece (s.data.toList.drop k)).1.toNat, .int .i64 (piece (s.data.toList.drop k)).2]) ∧ w' = W) := fun k h W => by
      have e1 : (s.extract k s.size).size = s.size - k := by rw [ByteArray.size_extract]; omega
      have := piece_any (s.extract k s.size) W (by omega) (by unfold maxLen; omega)
      rw [drop_list] at this
      exact this
    clear hp hl h34
    generalize hll : s.data.toList = l at *
    clear hll
    go_enter Tryd.func47, Tryd.ntmps47
    go_wp2_with fail
    refine (HP.out _).mono ?_
    rintro e w1 ⟨rfl, rfl⟩
    go_wp2
    go_loopw [6] (fun i wr => ∃ (k : Nat) (u : List UInt8), 1 ≤ k ∧ k ≤ s.size ∧ i = .int .i64 k ∧ u.length ≤ 201 ∧ Hid (Bld w1.heap.size w1.heap.size u wr ∧ At l u k ∧ Below w1.heap.size w1 wr)) (fun i _ => s.size - (intOf i).toNat)
    case atStart => exact ⟨1, [], Nat.le_refl _, hz, rfl, by simp, bld_new w1, at_one l, (Below.refl _ w1).alloc (Nat.le_refl _) _⟩
    case round =>
      obtain ⟨k, u, hk1, hk, rfl, hu, HU⟩ := hrel
      have hsz : w1.heap.size ≤ wr.heap.size := HU.out.2.2.size
      by_cases hlt : k < s.size
      · have hli : decide ((k : Int) < (s.size : Int)) = true := by simp; omega
        by_cases hu2 : u.length ≤ 200
        · have hui : decide ((u.length : Int) ≤ 200) = true := by simp; omega
          by_cases hq : s[k] = 34
          · have b1 : ((s[k].toNat : Int) == 34) = true := by rw [hq]; decide
            obtain ⟨g1, g2, g3⟩ := rq_yes (at_close HU.out.2.1 hk1 HL.out (by rw [HD.out k hlt, hq]) hu2)
            have HF : Hid (rqS l = u ∧ (rqN l : Int) = (k : Int) + 1 ∧ rqE l = 0) := ⟨g1, by rw [g2]; omega, g3⟩
            clear hq g1 g2 g3
            go_wp2_with fail
            refine (len_any _ _ u _ HU.out.1).mono ?_
            rintro e w2 ⟨rfl, rfl⟩
            go_wp2_with fail
            refine (bstr_any _ _ u _ HU.out.1 hsz).mono ?_
            rintro e w3 ⟨rfl, f3⟩
            go_wp2
            go_ret3
            exact ⟨by rw [HF.out.1, HF.out.2.1, HF.out.2.2]; rfl, HU.out.2.2.trans f3⟩
          · have b1 : ((s[k].toNat : Int) == 34) = false := nat_ne (n := 34) (by decide) hq
            have hsl := slice_from s k hk
            have hpl := piece_le (l.drop k)
            rw [List.length_drop, HZ.out] at hpl
            have HK : Hid (∀ W, Calls Tryd.prog 56 #[.string (s.extract k s.size)] W fun e w' => e = .returned (.tuple #[.int .u8 (piece (l.drop k)).1.toNat, .int .i64 (piece (l.drop k)).2]) ∧ w' = W) := HC.out k hlt
            have HS : Hid ((piece (l.drop k)).2 ≠ 0 → At l (u ++ [(piece (l.drop k)).1]) (k + (piece (l.drop k)).2)) := by
              intro h0
              rw [HD.out k hlt] at h0 ⊢
              exact at_step HU.out.2.1 hk1 (HD.out k hlt) hq h0
            have HN : Hid ((piece (l.drop k)).2 = 0 → rqS l = [] ∧ (rqN l : Int) = 0 ∧ rqE l = 4) := by
              intro h0
              obtain ⟨g1, g2, g3⟩ := rq_no (at_none HU.out.2.1 (by rw [HD.out k hlt] at h0 ⊢; rw [rd_piece hq, if_pos h0]))
              exact ⟨g1, by rw [g2]; rfl, g3⟩
            generalize (piece (l.drop k)).1 = x at *
            generalize (piece (l.drop k)).2 = n at *
            clear hq
            go_wp2_with fail
            refine (len_any _ _ u _ HU.out.1).mono ?_
            rintro e w2 ⟨rfl, rfl⟩
            go_wp2_with fail
            refine (HK.out _).mono ?_
            rintro e w3 ⟨rfl, rfl⟩
            by_cases hn : n = 0
            · subst hn
              have HF := HN.out rfl
              have HF' : Hid (rqS l = [] ∧ (rqN l : Int) = 0 ∧ rqE l = 4) := HF
              clear HF
              go_wp2
              go_ret3
              exact ⟨by rw [HF'.out.1, HF'.out.2.1, HF'.out.2.2]; rfl, HU.out.2.2⟩
            · have hnb : ((n : Int) == 0) = false := by simp; omega
              go_wp2_with fail
              refine (writeByte_any _ _ u x _ HU.out.1 (by omega) hsz).mono ?_
              rintro e w4 ⟨rfl, b4, f4⟩
              go_wp2
              exact ⟨⟨k + n, u ++ [x], by omega, by omega, by go_num, by simp; omega, b4, HS.out hn, HU.out.2.2.trans f4⟩, by simp [intOf]; omega⟩
        · have hui : decide ((u.length : Int) ≤ 200) = false := by simp; omega
          obtain ⟨g1, g2, g3⟩ := rq_no (at_long HU.out.2.1 (by omega))
          have HF : Hid (rqS l = [] ∧ (rqN l : Int) = 0 ∧ rqE l = 4) := ⟨g1, by rw [g2]; rfl, g3⟩
          clear g1 g2 g3
          go_wp2_with fail
          refine (len_any _ _ u _ HU.out.1).mono ?_
          rintro e w2 ⟨rfl, rfl⟩
          go_wp2
          go_ret3
          exact ⟨by rw [HF.out.1, HF.out.2.1, HF.out.2.2]; rfl, HU.out.2.2⟩
      · have hli : decide ((k : Int) < (s.size : Int)) = false := by simp; omega
        have hd : l.drop k = [] := List.drop_eq_nil_of_le (by rw [HZ.out]; omega)
        obtain ⟨g1, g2, g3⟩ := rq_no (at_none HU.out.2.1 (by rw [hd]; rfl))
        have HF : Hid (rqS l = [] ∧ (rqN l : Int) = 0 ∧ rqE l = 4) := ⟨g1, by rw [g2]; rfl, g3⟩
        clear g1 g2 g3 hd
        go_wp2
        go_ret3
        exact ⟨by rw [HF.out.1, HF.out.2.1, HF.out.2.2]; rfl, HU.out.2.2⟩
  · obtain ⟨hp, hq⟩ := pre_no (s := s) (fun h e => hpre ⟨h, e⟩)
    obtain ⟨g1, g2, g3⟩ := rq_no hq
    have HF : Hid (rqS s.data.toList = [] ∧ (rqN s.data.toList : Int) = 0 ∧ rqE s.data.toList = 4) := ⟨g1, by rw [g2]; rfl, g3⟩
    have HP : Hid (Lib.hasPrefix s.data.toList (⟨#[34]⟩ : ByteArray).data.toList = false) := hp
    clear hp hq g1 g2 g3 hpre
    go_enter Tryd.func47, Tryd.ntmps47
    go_wp2_with fail
    refine (Tryd.strings_HasPrefix s ⟨#[34]⟩ _).mono ?_
    rintro e w1 ⟨rfl, rfl⟩
    rw [HP.out]
    go_wp2
    go_ret3
    exact ⟨by rw [HF.out.1, HF.out.2.1, HF.out.2.2]; rfl, Below.refl _ _⟩

theorem uq_of {l s : List UInt8} {n : Nat} (h : rq l = some (s, n)) : uq l = if n = l.length then some s else none := by simp [uq, h]
theorem uqS_of (l : List UInt8) : (rqE l = 0 ∧ rqN l = l.length ∧ uqS l = rqS l ∧ uqE l = 0) ∨ ((rqE l = 4 ∨ (rqE l = 0 ∧ rqN l ≠ l.length)) ∧ uqS l = [] ∧ uqE l = 4) := by
  cases h : rq l with
  | none => right; simp [rqE, uqS, uqE, uq, h]
  | some p =>
    obtain ⟨s, n⟩ := p
    by_cases hn : n = l.length
    · left; simp [rqE, rqN, rqS, uqS, uqE, uq_of h, h, hn]
    · right; simp [rqE, rqN, uqS, uqE, uq_of h, h, hn]
end Go.Proofs.YtncjaohiimenaabDoor
