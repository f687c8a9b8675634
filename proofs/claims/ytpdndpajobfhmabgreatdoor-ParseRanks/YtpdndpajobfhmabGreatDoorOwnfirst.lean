/- What scan.first answers, and what it calls. -/
import Derived.Test.YtpdndpajobfhmabGreatDoorSgn
import Derived.Test.YtpdndpajobfhmabGreatDoorOwnread
import Derived.Test.YtpdndpajobfhmabGreatDoorConv
namespace Go.Proofs.YtpdndpajobfhmabGreatDoor
open Go.ChangeShapes Go.WideShapes Go.ChangeAt Go.RowKit
set_option maxRecDepth 100000

def ltrI (c : Int) : Bool := (decide (97 ≤ c) && decide (c ≤ 122)) || (decide (65 ≤ c) && decide (c ≤ 90)) || (c == 95)
def dgtI (c : Int) : Bool := decide (48 ≤ c) && decide (c ≤ 57)
set_option maxHeartbeats 1000000 in
theorem own_letter (c : Int) (w : World) : Calls Tryz.prog 80 #[.int .u8 c] w fun e w' => e = .returned (.bool (ltrI c)) ∧ w' = w := by
  unfold ltrI
  cases h1 : decide (97 ≤ c) <;> cases h2 : decide (c ≤ 122) <;> cases h3 : decide (65 ≤ c) <;> cases h4 : decide (c ≤ 90) <;> cases h5 : (c == 95)
  all_goals
    go_enter Tryz.func80, Tryz.ntmps80
    go_wp2
    go_ret
    exact ⟨rfl, rfl⟩
theorem own_digit (c : Int) (w : World) : Calls Tryz.prog 83 #[.int .u8 c] w fun e w' => e = .returned (.bool (dgtI c)) ∧ w' = w := by
  unfold dgtI
  cases h1 : decide (48 ≤ c) <;> cases h2 : decide (c ≤ 57)
  all_goals
    go_enter Tryz.func83, Tryz.ntmps83
    go_wp2
    go_ret
    exact ⟨rfl, rfl⟩
/-- A letter or a digit. -/
def lod (c : UInt8) : Bool := ltrI c.toNat || dgtI c.toNat
def runN (l : List UInt8) : Nat := (l.takeWhile lod).length
theorem runN_le (l : List UInt8) : runN l ≤ l.length := by
  unfold runN
  have := (List.takeWhile_prefix (l := l) lod).length_le
  exact this
theorem runN_eq : ∀ (l : List UInt8) (k : Nat), (∀ j, j < k → ∃ c, l[j]? = some c ∧ lod c = true) → (l.length ≤ k ∨ ∃ c, l[k]? = some c ∧ lod c = false) → runN l = k
  | [], k, h1, _ => by
    rcases Nat.eq_zero_or_pos k with rfl | hk
    · rfl
    · obtain ⟨c, hc, _⟩ := h1 0 hk; simp at hc
  | c :: l, 0, _, h2 => by
    rcases h2 with h | ⟨d, hd, hf⟩
    · simp at h
    · simp at hd; subst hd; simp [runN, List.takeWhile, hf]
  | c :: l, k + 1, h1, h2 => by
    obtain ⟨d, hd, ht⟩ := h1 0 (by omega)
    simp at hd; subst hd
    have ih := runN_eq l k (fun j hj => by have := h1 (j + 1) (by omega); simpa using this) (by
      rcases h2 with h | h
      · left; simp at h; exact h
      · right; simpa using h)
    unfold runN at ih ⊢
    simp [List.takeWhile, ht, ih]
set_option maxHeartbeats 1000000 in
theorem own_run (s : ByteArray) (w : World) (hs : s.size ≤ maxLen) : Calls Tryz.prog 82 #[.string s] w fun e w' => e = .returned (.int .i64 (runN s.data.toList)) ∧ w' = w := by
  unfold maxLen at hs
  have HG : Hid (∀ (k : Nat) (h : k < s.size), s.data.toList[k]? = some s[k]) := fun k h => by rw [get_list s k h, List.getElem?_eq_getElem]
  have HZ : Hid (s.data.toList.length = s.size) := bsize_list s
  generalize s.data.toList = l at *
  go_enter Tryz.func82, Tryz.ntmps82
  go_wp2
  go_loopw [3] (fun i wr => ∃ k : Nat, k ≤ s.size ∧ i = .int .i64 k ∧ wr = w ∧ Hid (∀ j, j < k → ∃ c, l[j]? = some c ∧ lod c = true)) (fun i _ => s.size - (intOf i).toNat)
  case atStart => exact ⟨0, Nat.zero_le _, rfl, rfl, fun j hj => by omega⟩
  case round =>
    obtain ⟨k, hk, rfl, rfl, HK⟩ := hrel
    by_cases hlt : k < s.size
    · have hli : decide ((k : Int) < (s.size : Int)) = true := by simp; omega
      cases hL : ltrI (s[k].toNat : Int)
      · cases hD : dgtI (s[k].toNat : Int)
        · have HF : Hid ((runN l : Int) = (k : Int)) := by
            show _ = _
            rw [runN_eq l k HK.out (.inr ⟨s[k], HG.out k hlt, by unfold lod; rw [hL, hD]; rfl⟩)]
          have HL : Hid (ltrI (s[k].toNat : Int) = false) := hL
          have HD : Hid (dgtI (s[k].toNat : Int) = false) := hD
          clear hL hD
          go_wp2_with fail
          refine (own_letter _ _).mono ?_
          rintro e w1 ⟨rfl, rfl⟩
          rw [HL.out]
          go_wp2_with fail
          refine (own_digit _ _).mono ?_
          rintro e w1 ⟨rfl, rfl⟩
          rw [HD.out]
          go_wp2
          go_ret
          exact ⟨by rw [HF.out]; rfl, rfl⟩
        · have HN : Hid (∀ j, j < k + 1 → ∃ c, l[j]? = some c ∧ lod c = true) := fun j hj => by
            by_cases e : j = k
            · subst e; exact ⟨s[j], HG.out j hlt, by unfold lod; rw [hL, hD]; rfl⟩
            · exact HK.out j (by omega)
          have HL : Hid (ltrI (s[k].toNat : Int) = false) := hL
          have HD : Hid (dgtI (s[k].toNat : Int) = true) := hD
          clear hL hD
          go_wp2_with fail
          refine (own_letter _ _).mono ?_
          rintro e w1 ⟨rfl, rfl⟩
          rw [HL.out]
          go_wp2_with fail
          refine (own_digit _ _).mono ?_
          rintro e w1 ⟨rfl, rfl⟩
          rw [HD.out]
          go_wp2
          exact ⟨⟨k + 1, by omega, by go_num, trivial, HN.out⟩, by simp [intOf]; omega⟩
      · have HN : Hid (∀ j, j < k + 1 → ∃ c, l[j]? = some c ∧ lod c = true) := fun j hj => by
          by_cases e : j = k
          · subst e; exact ⟨s[j], HG.out j hlt, by unfold lod; rw [hL]; rfl⟩
          · exact HK.out j (by omega)
        have HL : Hid (ltrI (s[k].toNat : Int) = true) := hL
        clear hL
        go_wp2_with fail
        refine (own_letter _ _).mono ?_
        rintro e w1 ⟨rfl, rfl⟩
        rw [HL.out]
        go_wp2
        exact ⟨⟨k + 1, by omega, by go_num, trivial, HN.out⟩, by simp [intOf]; omega⟩
    · have hli : decide ((k : Int) < (s.size : Int)) = false := by simp; omega
      have HF : Hid ((runN l : Int) = (k : Int)) := by
        show _ = _
        rw [runN_eq l k HK.out (.inl (by rw [HZ.out]; omega))]
      go_wp2
      go_ret
      exact ⟨by rw [HF.out]; rfl, rfl⟩

/-- The longest sign at the beginning of a text that is not empty. -/
def sgnN (s : ByteArray) : Nat := if 2 ≤ s.size ∧ sgnB (s.extract 0 2) = true then 2 else if sgnB (s.extract 0 1) = true then 1 else 0
theorem rdE_ways (s : ByteArray) : rdE s = 0 ∨ rdE s = 3 := by
  unfold rdE
  split
  · split; exact .inl rfl; exact .inr rfl
  · exact .inr rfl
theorem rqE_ways (l : List UInt8) : rqE l = 0 ∨ rqE l = 4 := by unfold rqE; split; exact .inr rfl; exact .inl rfl
theorem slice_to (s : ByteArray) (k : Nat) (h : k ≤ s.size) (W : World) : (Instr.slice 9 (.string s) none (some (.int .i64 (k : Int))) none).run Tryz.prog W = .ok (.string (s.extract 0 k)) W := by
  have := run_slice_string_h W 9 s Tryz.underlying9 .i64 k (by omega) (by omega)
  rw [this]
  rfl
theorem ext_size (s : ByteArray) (k : Nat) (h : k ≤ s.size) : (s.extract 0 k).size = k := by rw [ByteArray.size_extract]; omega

/-- What firstName answers of a run. -/
def nmT (s : ByteArray) : Int × Int × Int := if 16 < s.size then (0, 0, 7) else if wordB s then (5, (s.size : Int), 0) else (1, (s.size : Int), 0)
set_option maxHeartbeats 1000000 in
theorem own_name (s : ByteArray) (w : World) (hs : s.size ≤ maxLen) :
    Calls Tryz.prog 81 #[.string s] w fun e w' => e = .returned (.tuple #[.int .i64 (nmT s).1, .int .i64 (nmT s).2.1, .int .i64 (nmT s).2.2]) ∧ w' = w := by
  unfold maxLen at hs
  by_cases h : 16 < s.size
  · rw [show nmT s = (0, 0, 7) by unfold nmT; rw [if_pos h]]
    go_enter Tryz.func81, Tryz.ntmps81
    go_wp2
    go_ret3
    exact ⟨rfl, rfl⟩
  · cases hw : wordB s
    · rw [show nmT s = (1, (s.size : Int), 0) by unfold nmT; rw [if_neg h, hw]; rfl]
      have HW : Hid (wordB s = false) := hw
      clear hw
      go_enter Tryz.func81, Tryz.ntmps81
      go_wp2_with fail
      refine (own_word s _).mono ?_
      rintro e w1 ⟨rfl, rfl⟩
      rw [HW.out]
      go_wp2
      go_ret3
      exact ⟨rfl, rfl⟩
    · rw [show nmT s = (5, (s.size : Int), 0) by unfold nmT; rw [if_neg h, if_pos hw]]
      have HW : Hid (wordB s = true) := hw
      clear hw
      go_enter Tryz.func81, Tryz.ntmps81
      go_wp2_with fail
      refine (own_word s _).mono ?_
      rintro e w1 ⟨rfl, rfl⟩
      rw [HW.out]
      go_wp2
      go_ret3
      exact ⟨rfl, rfl⟩
/-- What firstInt answers of a run. -/
def inT (s : ByteArray) : Int × Int × Int := if rdE s = 0 then (2, (s.size : Int), 0) else (0, 0, 3)
set_option maxHeartbeats 1000000 in
theorem own_int (s : ByteArray) (w : World) (hs : s.size ≤ 281474976710656) (hl : Lib3 w) :
    Calls Tryz.prog 84 #[.string s] w fun e w' => e = .returned (.tuple #[.int .i64 (inT s).1, .int .i64 (inT s).2.1, .int .i64 (inT s).2.2]) ∧ Below w.heap.size w w' := by
  have HR : Hid (Calls Tryz.prog 101 #[.string s] w fun e w' => e = .returned (.tuple #[.int .i64 (rdN s), .int .i64 (rdE s)]) ∧ Below w.heap.size w w') := read_any s hs w hl
  clear hl
  rcases rdE_ways s with h | h
  · rw [show inT s = (2, (s.size : Int), 0) by unfold inT; rw [if_pos h]]
    rw [h] at HR
    clear h
    generalize rdN s = n at *
    go_enter Tryz.func84, Tryz.ntmps84
    go_wp2_with fail
    refine HR.out.mono ?_
    rintro e w1 ⟨rfl, hb⟩
    go_wp2
    go_ret3
    exact ⟨rfl, hb⟩
  · rw [show inT s = (0, 0, 3) by unfold inT; rw [if_neg (by rw [h]; decide)]]
    rw [h] at HR
    clear h
    generalize rdN s = n at *
    go_enter Tryz.func84, Tryz.ntmps84
    go_wp2_with fail
    refine HR.out.mono ?_
    rintro e w1 ⟨rfl, hb⟩
    go_wp2
    go_ret3
    exact ⟨rfl, hb⟩
/-- What firstText answers. -/
def txT (l : List UInt8) : Int × Int × Int := if rqE l = 0 then (3, (rqN l : Int), 0) else (0, 0, 4)
set_option maxHeartbeats 1000000 in
theorem own_text (s : ByteArray) (w : World) (hs : s.size ≤ maxLen) :
    Calls Tryz.prog 85 #[.string s] w fun e w' => e = .returned (.tuple #[.int .i64 (txT s.data.toList).1, .int .i64 (txT s.data.toList).2.1, .int .i64 (txT s.data.toList).2.2]) ∧ Below w.heap.size w w' := by
  have HR : Hid (Calls Tryz.prog 102 #[.string s] w fun e w' => e = .returned (.tuple #[.string ⟨(rqS s.data.toList).toArray⟩, .int .i64 (rqN s.data.toList), .int .i64 (rqE s.data.toList)]) ∧ Below w.heap.size w w') := rdq_any s w hs
  clear hs
  rcases rqE_ways s.data.toList with h | h
  · rw [show txT s.data.toList = (3, (rqN s.data.toList : Int), 0) by unfold txT; rw [if_pos h]]
    rw [h] at HR
    clear h
    generalize (⟨(rqS s.data.toList).toArray⟩ : ByteArray) = q at *
    generalize rqN s.data.toList = n at *
    go_enter Tryz.func85, Tryz.ntmps85
    go_wp2_with fail
    refine HR.out.mono ?_
    rintro e w1 ⟨rfl, hb⟩
    go_wp2
    go_ret3
    exact ⟨rfl, hb⟩
  · rw [show txT s.data.toList = (0, 0, 4) by unfold txT; rw [if_neg (by rw [h]; decide)]]
    rw [h] at HR
    clear h
    generalize (⟨(rqS s.data.toList).toArray⟩ : ByteArray) = q at *
    generalize rqN s.data.toList = n at *
    go_enter Tryz.func85, Tryz.ntmps85
    go_wp2_with fail
    refine HR.out.mono ?_
    rintro e w1 ⟨rfl, hb⟩
    go_wp2
    go_ret3
    exact ⟨rfl, hb⟩
/-- What firstSign answers. -/
def sgT (s : ByteArray) : Int × Int × Int := if sgnN s = 0 then (0, 0, 2) else (4, (sgnN s : Int), 0)
set_option maxHeartbeats 2000000 in
theorem own_sign1 (s : ByteArray) (w : World) (h0 : 0 < s.size) (hs : s.size ≤ maxLen) :
    Calls Tryz.prog 86 #[.string s] w fun e w' => e = .returned (.tuple #[.int .i64 (sgT s).1, .int .i64 (sgT s).2.1, .int .i64 (sgT s).2.2]) ∧ w' = w := by
  unfold maxLen at hs
  have s1 := slice_to s 1 h0
  by_cases h2 : 2 ≤ s.size
  · have s2 := slice_to s 2 h2
    have m2 : (2 : Int) ≤ (s.size : Int) := by omega
    have hmin : min (2 : Int) (s.size : Int) = 2 := by omega
    cases b2 : sgnB (s.extract 0 2)
    · cases b1 : sgnB (s.extract 0 1)
      · rw [show sgT s = (0, 0, 2) by simp [sgT, sgnN, b1, b2]]
        have B1 : Hid (sgnB (s.extract 0 1) = false) := b1
        have B2 : Hid (sgnB (s.extract 0 2) = false) := b2
        clear b1 b2
        go_enter Tryz.func86, Tryz.ntmps86
        go_wp2
        refine wp_loop_rounds 3 ?_
        rw [rounds_succ]
        go_wp2_with fail
        refine (own_sgn _ _).mono ?_
        rintro e w1 ⟨rfl, rfl⟩
        rw [B2.out]
        go_wp2
        rw [rounds_succ]
        go_wp2_with fail
        refine (own_sgn _ _).mono ?_
        rintro e w1 ⟨rfl, rfl⟩
        rw [B1.out]
        go_wp2
        rw [rounds_succ]
        go_wp2
        go_ret3
        exact ⟨rfl, rfl⟩
      · rw [show sgT s = (4, 1, 0) by simp [sgT, sgnN, b1, b2]]
        have B1 : Hid (sgnB (s.extract 0 1) = true) := b1
        have B2 : Hid (sgnB (s.extract 0 2) = false) := b2
        clear b1 b2
        go_enter Tryz.func86, Tryz.ntmps86
        go_wp2
        refine wp_loop_rounds 3 ?_
        rw [rounds_succ]
        go_wp2_with fail
        refine (own_sgn _ _).mono ?_
        rintro e w1 ⟨rfl, rfl⟩
        rw [B2.out]
        go_wp2
        rw [rounds_succ]
        go_wp2_with fail
        refine (own_sgn _ _).mono ?_
        rintro e w1 ⟨rfl, rfl⟩
        rw [B1.out]
        go_wp2
        go_ret3
        exact ⟨rfl, rfl⟩
    · rw [show sgT s = (4, 2, 0) by simp [sgT, sgnN, b2, h2]]
      have B2 : Hid (sgnB (s.extract 0 2) = true) := b2
      clear b2
      go_enter Tryz.func86, Tryz.ntmps86
      go_wp2
      refine wp_loop_rounds 3 ?_
      rw [rounds_succ]
      go_wp2_with fail
      refine (own_sgn _ _).mono ?_
      rintro e w1 ⟨rfl, rfl⟩
      rw [B2.out]
      go_wp2
      go_ret3
      exact ⟨rfl, rfl⟩
  · have hmin : min (2 : Int) (s.size : Int) = 1 := by omega
    cases b1 : sgnB (s.extract 0 1)
    · rw [show sgT s = (0, 0, 2) by simp [sgT, sgnN, b1, h2]]
      have B1 : Hid (sgnB (s.extract 0 1) = false) := b1
      clear b1
      go_enter Tryz.func86, Tryz.ntmps86
      go_wp2
      refine wp_loop_rounds 3 ?_
      rw [rounds_succ]
      go_wp2_with fail
      refine (own_sgn _ _).mono ?_
      rintro e w1 ⟨rfl, rfl⟩
      rw [B1.out]
      go_wp2
      rw [rounds_succ]
      go_wp2
      go_ret3
      exact ⟨rfl, rfl⟩
    · rw [show sgT s = (4, 1, 0) by simp [sgT, sgnN, b1, h2]]
      have B1 : Hid (sgnB (s.extract 0 1) = true) := b1
      clear b1
      go_enter Tryz.func86, Tryz.ntmps86
      go_wp2
      refine wp_loop_rounds 3 ?_
      rw [rounds_succ]
      go_wp2_with fail
      refine (own_sgn _ _).mono ?_
      rintro e w1 ⟨rfl, rfl⟩
      rw [B1.out]
      go_wp2
      go_ret3
      exact ⟨rfl, rfl⟩

/-- What 'first' answers. -/
def fsT (s : ByteArray) (h : 0 < s.size) : Int × Int × Int :=
  if ltrI s[0].toNat then nmT (s.extract 0 (runN s.data.toList)) else if dgtI s[0].toNat then inT (s.extract 0 (runN s.data.toList)) else if s[0] = 34 then txT s.data.toList else if s[0] = 59 then (6, 1, 0) else sgT s
set_option maxHeartbeats 2000000 in
theorem own_first (s : ByteArray) (w : World) (h0 : 0 < s.size) (hs : s.size ≤ 281474976710656) (hl : Lib3 w) :
    Calls Tryz.prog 54 #[.string s] w fun e w' => e = .returned (.tuple #[.int .i64 (fsT s h0).1, .int .i64 (fsT s h0).2.1, .int .i64 (fsT s h0).2.2]) ∧ Below w.heap.size w w' := by
  have hm : s.size ≤ maxLen := by unfold maxLen; omega
  have hr := runN_le s.data.toList
  rw [bsize_list] at hr
  have hsl := slice_to s (runN s.data.toList) hr
  have hez := ext_size s (runN s.data.toList) hr
  have HRUN : Hid (∀ W, Calls Tryz.prog 82 #[.string s] W fun e w' => e = .returned (.int .i64 (runN s.data.toList)) ∧ w' = W) := fun W => own_run s W hm
  have HSG : Hid (∀ W, Calls Tryz.prog 86 #[.string s] W fun e w' => e = .returned (.tuple #[.int .i64 (sgT s).1, .int .i64 (sgT s).2.1, .int .i64 (sgT s).2.2]) ∧ w' = W) := fun W => own_sign1 s W h0 hm
  have HNM : Hid (∀ W, Calls Tryz.prog 81 #[.string (s.extract 0 (runN s.data.toList))] W fun e w' => e = .returned (.tuple #[.int .i64 (nmT (s.extract 0 (runN s.data.toList))).1, .int .i64 (nmT (s.extract 0 (runN s.data.toList))).2.1, .int .i64 (nmT (s.extract 0 (runN s.data.toList))).2.2]) ∧ w' = W) := fun W => own_name _ W (by unfold maxLen; omega)
  have HIN : Hid (Calls Tryz.prog 84 #[.string (s.extract 0 (runN s.data.toList))] w fun e w' => e = .returned (.tuple #[.int .i64 (inT (s.extract 0 (runN s.data.toList))).1, .int .i64 (inT (s.extract 0 (runN s.data.toList))).2.1, .int .i64 (inT (s.extract 0 (runN s.data.toList))).2.2]) ∧ Below w.heap.size w w') := own_int _ w (by omega) hl
  have HTX : Hid (Calls Tryz.prog 85 #[.string s] w fun e w' => e = .returned (.tuple #[.int .i64 (txT s.data.toList).1, .int .i64 (txT s.data.toList).2.1, .int .i64 (txT s.data.toList).2.2]) ∧ Below w.heap.size w w') := own_text s w hm
  clear hl hm
  cases hL : ltrI (s[0].toNat : Int)
  · cases hD : dgtI (s[0].toNat : Int)
    · by_cases hq : s[0] = 34
      · rw [show fsT s h0 = txT s.data.toList by unfold fsT; rw [hL, hD, if_neg (by decide), if_neg (by decide), if_pos hq]]
        have b1 : ((s[0].toNat : Int) == 34) = true := by rw [hq]; decide
        have HL : Hid (ltrI (s[0].toNat : Int) = false) := hL
        have HD : Hid (dgtI (s[0].toNat : Int) = false) := hD
        generalize txT s.data.toList = T at *
        obtain ⟨t1, t2, t3⟩ := T
        simp only at HTX ⊢
        clear hL hD hq hsl hez HRUN HSG HNM HIN hr
        go_enter Tryz.func54, Tryz.ntmps54
        go_wp2_with fail
        refine (own_letter _ _).mono ?_
        rintro e w1 ⟨rfl, rfl⟩
        rw [HL.out]
        go_wp2_with fail
        refine (own_digit _ _).mono ?_
        rintro e w1 ⟨rfl, rfl⟩
        rw [HD.out]
        go_wp2_with fail
        refine HTX.out.mono ?_
        rintro e w2 ⟨rfl, hb⟩
        go_wp2
        go_ret3
        exact ⟨rfl, hb⟩
      have b1 : ((s[0].toNat : Int) == 34) = false := nat_ne (n := 34) (by decide) hq
      by_cases h59 : s[0] = 59
      · rw [show fsT s h0 = (6, 1, 0) by unfold fsT; rw [hL, hD, if_neg (by decide), if_neg (by decide), if_neg hq, if_pos h59]]
        have b2 : ((s[0].toNat : Int) == 59) = true := by rw [h59]; decide
        have HL : Hid (ltrI (s[0].toNat : Int) = false) := hL
        have HD : Hid (dgtI (s[0].toNat : Int) = false) := hD
        clear hL hD hq h59 hsl hez HRUN HSG HNM HIN HTX hr
        go_enter Tryz.func54, Tryz.ntmps54
        go_wp2_with fail
        refine (own_letter _ _).mono ?_
        rintro e w1 ⟨rfl, rfl⟩
        rw [HL.out]
        go_wp2_with fail
        refine (own_digit _ _).mono ?_
        rintro e w1 ⟨rfl, rfl⟩
        rw [HD.out]
        go_wp2
        go_ret3
        exact ⟨rfl, Below.refl _ _⟩
      · rw [show fsT s h0 = sgT s by unfold fsT; rw [hL, hD, if_neg (by decide), if_neg (by decide), if_neg hq, if_neg h59]]
        have b2 : ((s[0].toNat : Int) == 59) = false := nat_ne (n := 59) (by decide) h59
        have HL : Hid (ltrI (s[0].toNat : Int) = false) := hL
        have HD : Hid (dgtI (s[0].toNat : Int) = false) := hD
        generalize sgT s = T at *
        obtain ⟨t1, t2, t3⟩ := T
        simp only at HSG ⊢
        clear hL hD hq h59 hsl hez HRUN HNM HIN HTX hr
        go_enter Tryz.func54, Tryz.ntmps54
        go_wp2_with fail
        refine (own_letter _ _).mono ?_
        rintro e w1 ⟨rfl, rfl⟩
        rw [HL.out]
        go_wp2_with fail
        refine (own_digit _ _).mono ?_
        rintro e w1 ⟨rfl, rfl⟩
        rw [HD.out]
        go_wp2_with fail
        refine (HSG.out _).mono ?_
        rintro e w2 ⟨rfl, rfl⟩
        go_wp2
        go_ret3
        exact ⟨rfl, Below.refl _ _⟩
    · rw [show fsT s h0 = inT (s.extract 0 (runN s.data.toList)) by unfold fsT; rw [hL, hD, if_neg (by decide), if_pos rfl]]
      have HL : Hid (ltrI (s[0].toNat : Int) = false) := hL
      have HD : Hid (dgtI (s[0].toNat : Int) = true) := hD
      generalize inT (s.extract 0 (runN s.data.toList)) = T at *
      obtain ⟨t1, t2, t3⟩ := T
      simp only at HIN ⊢
      clear hL hD hez HNM HSG HTX
      generalize runN s.data.toList = n at *
      go_enter Tryz.func54, Tryz.ntmps54
      go_wp2_with fail
      refine (own_letter _ _).mono ?_
      rintro e w1 ⟨rfl, rfl⟩
      rw [HL.out]
      go_wp2_with fail
      refine (own_digit _ _).mono ?_
      rintro e w1 ⟨rfl, rfl⟩
      rw [HD.out]
      go_wp2_with fail
      refine (HRUN.out _).mono ?_
      rintro e w2 ⟨rfl, rfl⟩
      go_wp2_with fail
      refine HIN.out.mono ?_
      rintro e w2 ⟨rfl, hb⟩
      go_wp2
      go_ret3
      exact ⟨rfl, hb⟩
  · rw [show fsT s h0 = nmT (s.extract 0 (runN s.data.toList)) by unfold fsT; rw [hL, if_pos rfl]]
    have HL : Hid (ltrI (s[0].toNat : Int) = true) := hL
    generalize nmT (s.extract 0 (runN s.data.toList)) = T at *
    obtain ⟨t1, t2, t3⟩ := T
    simp only at HNM ⊢
    clear hL hez HIN HSG HTX
    generalize runN s.data.toList = n at *
    go_enter Tryz.func54, Tryz.ntmps54
    go_wp2_with fail
    refine (own_letter _ _).mono ?_
    rintro e w1 ⟨rfl, rfl⟩
    rw [HL.out]
    go_wp2_with fail
    refine (HRUN.out _).mono ?_
    rintro e w2 ⟨rfl, rfl⟩
    go_wp2_with fail
    refine (HNM.out _).mono ?_
    rintro e w2 ⟨rfl, rfl⟩
    go_wp2
    go_ret3
    exact ⟨rfl, Below.refl _ _⟩
end Go.Proofs.YtpdndpajobfhmabGreatDoor
