/- What scan.mayEnd and scan.lineSize answer. -/
import Derived.Test.YtpdndpajobfhmabGreatDoorOwnfirst
namespace Go.Proofs.YtpdndpajobfhmabGreatDoor
open Go.ChangeShapes Go.WideShapes Go.ChangeAt Go.RowKit
set_option linter.unusedSimpArgs false
set_option maxRecDepth 100000

/-- May a line end behind a token of this kind and text? -/
def mayT (k : Int) (s : ByteArray) : Bool := (k == 1) || ((k == 2) || ((k == 3) || (((k == 4) && (s.toList == [41] || (s.toList == [93] || (s.toList == [125])))) || ((k == 5) && (s.toList == [98, 114, 101, 97, 107] || (s.toList == [99, 111, 110, 116, 105, 110, 117, 101] || (s.toList == [114, 101, 116, 117, 114, 110] || (s.toList == [116, 114, 117, 101] || (s.toList == [102, 97, 108, 115, 101] || (s.toList == [110, 105, 108] || (s.toList == [105, 110, 116] || (s.toList == [98, 111, 111, 108] || (s.toList == [115, 116, 114, 105, 110, 103] || (s.toList == [97, 110, 121]))))))))))))))
set_option maxHeartbeats 4000000 in
theorem own_may (k : Int) (s : ByteArray) (ln cl : Int) (w : World) :
    Calls Tryz.prog 57 #[.agg #[.int .i64 k, .string s, .int .i64 ln, .int .i64 cl]] w fun e w' => e = .returned (.bool (mayT k s)) ∧ Below w.heap.size w w' := by
  by_cases h1 : k = 1
  · subst h1
    rw [show mayT 1 s = true from rfl]
    go_enter Tryz.func57, Tryz.ntmps57
    go_wp2
    go_ret
    exact ⟨rfl, (Below.refl _ _).alloc (Nat.le_refl _) _⟩
  by_cases h2 : k = 2
  · subst h2
    rw [show mayT 2 s = true from rfl]
    go_enter Tryz.func57, Tryz.ntmps57
    go_wp2
    go_ret
    exact ⟨rfl, (Below.refl _ _).alloc (Nat.le_refl _) _⟩
  by_cases h3 : k = 3
  · subst h3
    rw [show mayT 3 s = true from rfl]
    go_enter Tryz.func57, Tryz.ntmps57
    go_wp2
    go_ret
    exact ⟨rfl, (Below.refl _ _).alloc (Nat.le_refl _) _⟩
  by_cases hk : k = 4
  · subst hk
    have hk : True := trivial
    by_cases h0 : (s.toList == [41]) = true
    · rw [show mayT 4 s = true by simp [mayT, h0]]
      go_enter Tryz.func57, Tryz.ntmps57
      go_wp2
      go_ret
      exact ⟨rfl, (Below.refl _ _).alloc (Nat.le_refl _) _⟩
    have g0 : (s.toList == [41]) = false := by simpa using h0
    clear h0
    by_cases h1 : (s.toList == [93]) = true
    · rw [show mayT 4 s = true by simp [mayT, g0, h1]]
      go_enter Tryz.func57, Tryz.ntmps57
      go_wp2
      go_ret
      exact ⟨rfl, (Below.refl _ _).alloc (Nat.le_refl _) _⟩
    have g1 : (s.toList == [93]) = false := by simpa using h1
    clear h1
    by_cases h2 : (s.toList == [125]) = true
    · rw [show mayT 4 s = true by simp [mayT, g0, g1, h2]]
      go_enter Tryz.func57, Tryz.ntmps57
      go_wp2
      go_ret
      exact ⟨rfl, (Below.refl _ _).alloc (Nat.le_refl _) _⟩
    have g2 : (s.toList == [125]) = false := by simpa using h2
    clear h2
    rw [show mayT 4 s = false by simp [mayT, g0, g1, g2]]
    go_enter Tryz.func57, Tryz.ntmps57
    go_wp2
    go_ret
    exact ⟨rfl, (Below.refl _ _).alloc (Nat.le_refl _) _⟩
  by_cases h5 : k = 5
  · subst h5
    have hk : True := trivial
    by_cases h0 : (s.toList == [98, 114, 101, 97, 107]) = true
    · rw [show mayT 5 s = true by simp [mayT, h0]]
      go_enter Tryz.func57, Tryz.ntmps57
      go_wp2
      go_ret
      exact ⟨rfl, (Below.refl _ _).alloc (Nat.le_refl _) _⟩
    have g0 : (s.toList == [98, 114, 101, 97, 107]) = false := by simpa using h0
    clear h0
    by_cases h1 : (s.toList == [99, 111, 110, 116, 105, 110, 117, 101]) = true
    · rw [show mayT 5 s = true by simp [mayT, g0, h1]]
      go_enter Tryz.func57, Tryz.ntmps57
      go_wp2
      go_ret
      exact ⟨rfl, (Below.refl _ _).alloc (Nat.le_refl _) _⟩
    have g1 : (s.toList == [99, 111, 110, 116, 105, 110, 117, 101]) = false := by simpa using h1
    clear h1
    by_cases h2 : (s.toList == [114, 101, 116, 117, 114, 110]) = true
    · rw [show mayT 5 s = true by simp [mayT, g0, g1, h2]]
      go_enter Tryz.func57, Tryz.ntmps57
      go_wp2
      go_ret
      exact ⟨rfl, (Below.refl _ _).alloc (Nat.le_refl _) _⟩
    have g2 : (s.toList == [114, 101, 116, 117, 114, 110]) = false := by simpa using h2
    clear h2
    by_cases h3 : (s.toList == [116, 114, 117, 101]) = true
    · rw [show mayT 5 s = true by simp [mayT, g0, g1, g2, h3]]
      go_enter Tryz.func57, Tryz.ntmps57
      go_wp2
      go_ret
      exact ⟨rfl, (Below.refl _ _).alloc (Nat.le_refl _) _⟩
    have g3 : (s.toList == [116, 114, 117, 101]) = false := by simpa using h3
    clear h3
    by_cases h4 : (s.toList == [102, 97, 108, 115, 101]) = true
    · rw [show mayT 5 s = true by simp [mayT, g0, g1, g2, g3, h4]]
      go_enter Tryz.func57, Tryz.ntmps57
      go_wp2
      go_ret
      exact ⟨rfl, (Below.refl _ _).alloc (Nat.le_refl _) _⟩
    have g4 : (s.toList == [102, 97, 108, 115, 101]) = false := by simpa using h4
    clear h4
    by_cases h5 : (s.toList == [110, 105, 108]) = true
    · rw [show mayT 5 s = true by simp [mayT, g0, g1, g2, g3, g4, h5]]
      go_enter Tryz.func57, Tryz.ntmps57
      go_wp2
      go_ret
      exact ⟨rfl, (Below.refl _ _).alloc (Nat.le_refl _) _⟩
    have g5 : (s.toList == [110, 105, 108]) = false := by simpa using h5
    clear h5
    by_cases h6 : (s.toList == [105, 110, 116]) = true
    · rw [show mayT 5 s = true by simp [mayT, g0, g1, g2, g3, g4, g5, h6]]
      go_enter Tryz.func57, Tryz.ntmps57
      go_wp2
      go_ret
      exact ⟨rfl, (Below.refl _ _).alloc (Nat.le_refl _) _⟩
    have g6 : (s.toList == [105, 110, 116]) = false := by simpa using h6
    clear h6
    by_cases h7 : (s.toList == [98, 111, 111, 108]) = true
    · rw [show mayT 5 s = true by simp [mayT, g0, g1, g2, g3, g4, g5, g6, h7]]
      go_enter Tryz.func57, Tryz.ntmps57
      go_wp2
      go_ret
      exact ⟨rfl, (Below.refl _ _).alloc (Nat.le_refl _) _⟩
    have g7 : (s.toList == [98, 111, 111, 108]) = false := by simpa using h7
    clear h7
    by_cases h8 : (s.toList == [115, 116, 114, 105, 110, 103]) = true
    · rw [show mayT 5 s = true by simp [mayT, g0, g1, g2, g3, g4, g5, g6, g7, h8]]
      go_enter Tryz.func57, Tryz.ntmps57
      go_wp2
      go_ret
      exact ⟨rfl, (Below.refl _ _).alloc (Nat.le_refl _) _⟩
    have g8 : (s.toList == [115, 116, 114, 105, 110, 103]) = false := by simpa using h8
    clear h8
    by_cases h9 : (s.toList == [97, 110, 121]) = true
    · rw [show mayT 5 s = true by simp [mayT, g0, g1, g2, g3, g4, g5, g6, g7, g8, h9]]
      go_enter Tryz.func57, Tryz.ntmps57
      go_wp2
      go_ret
      exact ⟨rfl, (Below.refl _ _).alloc (Nat.le_refl _) _⟩
    have g9 : (s.toList == [97, 110, 121]) = false := by simpa using h9
    clear h9
    rw [show mayT 5 s = false by simp [mayT, g0, g1, g2, g3, g4, g5, g6, g7, g8, g9]]
    go_enter Tryz.func57, Tryz.ntmps57
    go_wp2
    go_ret
    exact ⟨rfl, (Below.refl _ _).alloc (Nat.le_refl _) _⟩
  have b1 : (k == 1) = false := by simpa using h1
  have b2 : (k == 2) = false := by simpa using h2
  have b3 : (k == 3) = false := by simpa using h3
  have b4 : (k == 4) = false := by simpa using hk
  have b5 : (k == 5) = false := by simpa using h5
  rw [show mayT k s = false by simp only [mayT, b1, b2, b3, b4, b5, Bool.false_and, Bool.or_false]]
  clear h1 h2 h3 hk h5
  go_enter Tryz.func57, Tryz.ntmps57
  go_wp2
  go_ret
  exact ⟨rfl, (Below.refl _ _).alloc (Nat.le_refl _) _⟩

/-- The bytes ahead of a line's end. -/
def lnN (l : List UInt8) : Nat := (l.takeWhile (fun c => c != 10)).length
theorem lnN_le (l : List UInt8) : lnN l ≤ l.length := (List.takeWhile_prefix (l := l) (fun c => c != 10)).length_le
theorem idx_ways : ∀ l : List UInt8, (Lib.indexByte l 10 = -1 ∧ lnN l = l.length) ∨ (Lib.indexByte l 10 = (lnN l : Int) ∧ lnN l < l.length)
  | [] => .inl ⟨rfl, rfl⟩
  | b :: l => by
    by_cases h : b = 10
    · subst h; right; simp [Lib.indexByte, lnN]
    · have hb : (b == 10) = false := by simpa using h
      have e : lnN (b :: l) = lnN l + 1 := by simp [lnN, h]
      rw [e]
      rcases idx_ways l with ⟨h1, h2⟩ | ⟨h1, h2⟩
      · left; simp [Lib.indexByte, hb, h1, h2]
      · right
        have hn : (Lib.indexByte l 10 == -1) = false := by rw [h1]; rw [beq_eq_false_iff_ne]; omega
        simp only [Lib.indexByte, hb, hn, if_false, Bool.false_eq_true]
        rw [h1]
        simp; omega
set_option maxHeartbeats 1000000 in
theorem own_line (s : ByteArray) (w : World) : Calls Tryz.prog 53 #[.string s] w fun e w' => e = .returned (.int .i64 (lnN s.data.toList)) ∧ w' = w := by
  have HI : Hid (∀ W, Calls Tryz.prog 79 #[.string s, .int .u8 10] W fun e w' => e = .returned (.int .i64 (Lib.indexByte s.data.toList 10)) ∧ w' = W) := fun W => Tryz.strings_IndexByte s 10 W
  have hz := bsize_list s
  rcases idx_ways s.data.toList with ⟨h1, h2⟩ | ⟨h1, h2⟩
  · rw [h1] at HI
    rw [h2, hz]
    clear h1 h2 hz
    go_enter Tryz.func53, Tryz.ntmps53
    go_wp2_with fail
    refine (HI.out _).mono ?_
    rintro e w1 ⟨rfl, rfl⟩
    go_wp2
    go_ret
    exact ⟨rfl, rfl⟩
  · rw [h1] at HI
    clear h1 hz
    generalize lnN s.data.toList = n at *
    go_enter Tryz.func53, Tryz.ntmps53
    go_wp2_with fail
    refine (HI.out _).mono ?_
    rintro e w1 ⟨rfl, rfl⟩
    go_wp2
    go_ret
    exact ⟨rfl, rfl⟩
end Go.Proofs.YtpdndpajobfhmabGreatDoor
