/- What scan.readPiece answers. -/
import Derived.Test.YtncjaohiimenaabDoorBuilder
import Derived.Test.YtncjaohiimenaabDoorStrs
import Derived.Test.YtncjaohiimenaabDoorIsplain
import Derived.Test.YtncjaohiimenaabDoorUnqplain
namespace Go.Proofs.YtncjaohiimenaabDoor
open Go.ChangeShapes Go.WideShapes Go.ChangeAt Go.RowKit
set_option maxRecDepth 100000

theorem list_one (t : ByteArray) (h : 0 < t.size) : ∃ r, t.data.toList = t[0] :: r := by
  have hl : 0 < t.data.toList.length := by rw [bsize_list]; exact h
  have e := get_list t 0 h
  cases hd : t.data.toList with
  | nil => rw [hd] at hl; simp at hl
  | cons a r => simp only [hd] at e; exact ⟨r, by rw [e]; rfl⟩
theorem list_two (t : ByteArray) (h : 1 < t.size) : ∃ r, t.data.toList = t[0]'(by omega) :: t[1] :: r := by
  have hl : 1 < t.data.toList.length := by rw [bsize_list]; exact h
  have e0 := get_list t 0 (by omega)
  have e := get_list t 1 h
  cases hd : t.data.toList with
  | nil => rw [hd] at hl; simp at hl
  | cons a r =>
    cases r with
    | nil => rw [hd] at hl; simp at hl
    | cons b r =>
      simp only [hd] at e e0
      exact ⟨r, by rw [e, e0]; rfl⟩
theorem list_alone (t : ByteArray) (h : 0 < t.size) (h1 : ¬ 1 < t.size) : t.data.toList = [t[0]] := by
  obtain ⟨r, e⟩ := list_one t h
  have hl := bsize_list t
  rw [e] at hl
  simp at hl
  rw [e]
  have : r = [] := List.length_eq_zero_iff.1 (by omega)
  rw [this]

set_option maxHeartbeats 1000000 in
theorem piece_any (t : ByteArray) (w : World) (h0 : 0 < t.size) (hs : t.size ≤ maxLen) :
    Calls Tryd.prog 56 #[.string t] w fun e w' => e = .returned (.tuple #[.int .u8 (piece t.data.toList).1.toNat, .int .i64 (piece t.data.toList).2]) ∧ w' = w := by
  unfold maxLen at hs
  by_cases hp : 32 ≤ t[0].toNat ∧ t[0].toNat ≤ 126
  · have HP : Hid (plainI (t[0].toNat : Int) = true) := plainI_yes (by omega)
    by_cases h92 : t[0] = 92
    · have b1 : ((t[0].toNat : Int) == 92) = true := by rw [h92]; decide
      by_cases h1 : 1 < t.size
      · obtain ⟨r, e⟩ := list_two t h1
        have hpc : ∀ y, esc t[1] = y → piece t.data.toList = match y with | none => (0, 0) | some x => (x, 2) := by
          intro y hy
          rw [e, piece_cons, if_neg (by simp [hp.1, hp.2]), if_neg (by simp [h92])]
          simp only [hy]
          cases y <;> rfl
        by_cases d1 : t[1] = 34
        · have c1 : ((t[1].toNat : Int) == 34) = true := by rw [d1]; decide
          rw [hpc (some t[1]) (by rw [d1]; decide)]
          clear e hpc hp h92 d1
          go_enter Tryd.func56, Tryd.ntmps56
          go_wp2_with fail
          refine (plain_any _ _).mono ?_
          rintro e w2 ⟨rfl, rfl⟩
          rw [HP.out]
          go_wp2
          go_ret2
          exact ⟨rfl, rfl⟩
        have c1 : ((t[1].toNat : Int) == 34) = false := nat_ne (n := 34) (by decide) d1
        by_cases d2 : t[1] = 92
        · have c2 : ((t[1].toNat : Int) == 92) = true := by rw [d2]; decide
          rw [hpc (some t[1]) (by rw [d2]; decide)]
          clear e hpc hp h92 d1 d2
          go_enter Tryd.func56, Tryd.ntmps56
          go_wp2_with fail
          refine (plain_any _ _).mono ?_
          rintro e w2 ⟨rfl, rfl⟩
          rw [HP.out]
          go_wp2
          go_ret2
          exact ⟨rfl, rfl⟩
        have c2 : ((t[1].toNat : Int) == 92) = false := nat_ne (n := 92) (by decide) d2
        by_cases d3 : t[1] = 110
        · have c3 : ((t[1].toNat : Int) == 110) = true := by rw [d3]; decide
          rw [hpc (some 10) (by rw [d3]; decide)]
          clear e hpc hp h92 d1 d2 d3
          go_enter Tryd.func56, Tryd.ntmps56
          go_wp2_with fail
          refine (plain_any _ _).mono ?_
          rintro e w2 ⟨rfl, rfl⟩
          rw [HP.out]
          go_wp2
          go_ret2
          exact ⟨rfl, rfl⟩
        have c3 : ((t[1].toNat : Int) == 110) = false := nat_ne (n := 110) (by decide) d3
        by_cases d4 : t[1] = 116
        · have c4 : ((t[1].toNat : Int) == 116) = true := by rw [d4]; decide
          rw [hpc (some 9) (by rw [d4]; decide)]
          clear e hpc hp h92 d1 d2 d3 d4
          go_enter Tryd.func56, Tryd.ntmps56
          go_wp2_with fail
          refine (plain_any _ _).mono ?_
          rintro e w2 ⟨rfl, rfl⟩
          rw [HP.out]
          go_wp2
          go_ret2
          exact ⟨rfl, rfl⟩
        have c4 : ((t[1].toNat : Int) == 116) = false := nat_ne (n := 116) (by decide) d4
        rw [hpc none (by unfold esc; simp [d1, d2, d3, d4])]
        clear e hpc hp h92 d1 d2 d3 d4
        go_enter Tryd.func56, Tryd.ntmps56
        go_wp2_with fail
        refine (plain_any _ _).mono ?_
        rintro e w2 ⟨rfl, rfl⟩
        rw [HP.out]
        go_wp2
        go_ret2
        exact ⟨rfl, rfl⟩
      · have e := list_alone t h0 h1
        have hpc : piece t.data.toList = (0, 0) := by
          rw [e, piece_cons, if_neg (by simp [hp.1, hp.2]), if_neg (by simp [h92])]
        rw [hpc]
        have hz : (t.size : Int) < 2 := by omega
        clear e hpc hp h92
        go_enter Tryd.func56, Tryd.ntmps56
        go_wp2_with fail
        refine (plain_any _ _).mono ?_
        rintro e w2 ⟨rfl, rfl⟩
        rw [HP.out]
        go_wp2
        go_ret2
        exact ⟨rfl, rfl⟩
    · have b1 : ((t[0].toNat : Int) == 92) = false := nat_ne (n := 92) (by decide) h92
      obtain ⟨r, e⟩ := list_one t h0
      have hpc : piece t.data.toList = (t[0], 1) := by
        rw [e, piece_cons, if_neg (by simp [hp.1, hp.2]), if_pos h92]
      rw [hpc]
      clear e hpc hp h92
      go_enter Tryd.func56, Tryd.ntmps56
      go_wp2_with fail
      refine (plain_any _ _).mono ?_
      rintro e w2 ⟨rfl, rfl⟩
      rw [HP.out]
      go_wp2
      go_ret2
      exact ⟨rfl, rfl⟩
  · have HP : Hid (plainI (t[0].toNat : Int) = false) := plainI_no (by omega)
    obtain ⟨r, e⟩ := list_one t h0
    have hpc : piece t.data.toList = (0, 0) := by rw [e, piece_cons, if_pos hp]
    rw [hpc]
    clear e hpc hp
    go_enter Tryd.func56, Tryd.ntmps56
    go_wp2_with fail
    refine (plain_any _ _).mono ?_
    rintro e w2 ⟨rfl, rfl⟩
    rw [HP.out]
    go_wp2
    go_ret2
    exact ⟨rfl, rfl⟩
end Go.Proofs.YtncjaohiimenaabDoor
