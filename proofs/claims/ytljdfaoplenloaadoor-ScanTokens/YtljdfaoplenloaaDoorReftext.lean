/- What panicroadref.textAt and Unquote answer. -/
import Derived.Test.YtljdfaoplenloaaDoorOwnread
namespace Go.Proofs.YtljdfaoplenloaaDoor
open Go.ChangeShapes Go.WideShapes Go.ChangeAt Go.RowKit
set_option maxRecDepth 100000

/-- What textAt answers: the bytes of a quoted text, its first byte not asked. -/
def txN (l : List UInt8) : Nat := match rd (l.drop 1) with | none => 0 | some p => if p.1.length ≤ 200 then p.2 + 1 else 0
theorem txN_none {l : List UInt8} (h : rd (l.drop 1) = none) : txN l = 0 := by unfold txN; rw [h]
theorem tx_at_none {l u : List UInt8} {k : Nat} (h : At l u k) (hr : rd (l.drop k) = none) : txN l = 0 := txN_none (by unfold At at h; rw [h, hr]; rfl)
theorem tx_at_close {l u r : List UInt8} {k : Nat} (h : At l u k) (h1 : 1 ≤ k) (hd : l.drop k = 34 :: r) : txN l = if u.length ≤ 200 then k + 1 else 0 := by
  unfold At at h
  rw [hd, rd_close] at h
  simp at h
  simp [txN, h]
  split <;> omega
theorem rd_bad {c : UInt8} (r : List UInt8) (h : ¬ (32 ≤ c.toNat ∧ c.toNat ≤ 126)) : rd (c :: r) = none := by
  have h1 : c ≠ 34 := by rintro rfl; exact h (by decide)
  have h2 : c ≠ 92 := by rintro rfl; exact h (by decide)
  rw [rd_cons, if_neg h1, if_neg h2, if_neg h]
theorem rd_esc_bad {d : UInt8} (r : List UInt8) (h : esc d = none) : rd (92 :: d :: r) = none := by
  rw [rd_cons, if_neg (by decide), if_pos rfl]; simp [h]
theorem at_pl {l u r : List UInt8} {k : Nat} {c : UInt8} (h : At l u k) (h1 : 1 ≤ k) (hd : l.drop k = c :: r) (hp : 32 ≤ c.toNat ∧ c.toNat ≤ 126) (h34 : c ≠ 34) (h92 : c ≠ 92) : At l (u ++ [c]) (k + 1) := by
  have e : piece (c :: r) = (c, 1) := by rw [piece_cons, if_neg (by simp [hp.1, hp.2]), if_pos h92]
  have := at_step h h1 hd h34 (by rw [e]; simp)
  rw [e] at this
  exact this
theorem at_esc {l u r : List UInt8} {k : Nat} {d x : UInt8} (h : At l u k) (h1 : 1 ≤ k) (hd : l.drop k = 92 :: d :: r) (he : esc d = some x) : At l (u ++ [x]) (k + 2) := by
  have e : piece (92 :: d :: r) = (x, 2) := by simp [piece, he]
  have := at_step h h1 hd (by decide) (by rw [e]; simp)
  rw [e] at this
  exact this
theorem nat_bne {c : UInt8} {n : Nat} (hn : n < 256) (h : c ≠ UInt8.ofNat n) : ((c.toNat : Int) != (n : Int)) = true := by rw [bne, nat_ne hn h]; rfl
theorem esc_ways (d : UInt8) : (d = 34 ∧ esc d = some 34) ∨ (d = 92 ∧ esc d = some 92) ∨ (d = 110 ∧ esc d = some 10) ∨ (d = 116 ∧ esc d = some 9) ∨ (d ≠ 34 ∧ d ≠ 92 ∧ d ≠ 110 ∧ d ≠ 116 ∧ esc d = none) := by
  by_cases h1 : d = 34; · exact .inl ⟨h1, by rw [h1]; decide⟩
  by_cases h2 : d = 92; · exact .inr (.inl ⟨h2, by rw [h2]; decide⟩)
  by_cases h3 : d = 110; · exact .inr (.inr (.inl ⟨h3, by rw [h3]; decide⟩))
  by_cases h4 : d = 116; · exact .inr (.inr (.inr (.inl ⟨h4, by rw [h4]; decide⟩)))
  exact .inr (.inr (.inr (.inr ⟨h1, h2, h3, h4, by unfold esc; simp [h1, h2, h3, h4]⟩)))

set_option maxHeartbeats 4000000 in
theorem qtx_any (s : ByteArray) (w : World) (hs : s.size ≤ maxLen) :
    Calls Tryd.prog 37 #[.string s] w fun e w' => e = .returned (.int .i64 (txN s.data.toList)) ∧ w' = w := by
  unfold maxLen at hs
  have HD : Hid (∀ (k : Nat) (h : k < s.size), s.data.toList.drop k = s[k] :: s.data.toList.drop (k + 1)) := fun k h => drop_at s k h
  have HZ : Hid (s.data.toList.length = s.size) := bsize_list s
  generalize hll : s.data.toList = l at *
  clear hll
  go_enter Tryd.func37, Tryd.ntmps37
  go_wp2
  go_loop [3, 4] (fun m i => ∃ (k : Nat) (u : List UInt8), 1 ≤ k ∧ (k ≤ s.size ∨ k = 1) ∧ i = .int .i64 k ∧ m = .int .i64 u.length ∧ u.length ≤ k ∧ Hid (At l u k)) (fun _ i => s.size - (intOf i).toNat)
  case atStart => exact ⟨1, [], Nat.le_refl _, .inr rfl, rfl, rfl, by simp, at_one l⟩
  case round =>
    obtain ⟨k, u, hk1, hk, rfl, rfl, hu, HU⟩ := hrel
    by_cases hlt : k < s.size
    · rcases byte_ways s[k] with h | h | h | h | h | h
      · have b1 : ((s[k].toNat : Int) == 34) = true := by rw [h]; decide
        have hc := tx_at_close HU.out hk1 (by rw [HD.out k hlt, h])
        by_cases hm : 200 < u.length
        · rw [if_neg (by omega)] at hc
          have HF : Hid ((txN l : Int) = 0) := by show _ = _; rw [hc]; rfl
          clear h hc
          go_wp2
          go_ret
          exact ⟨by rw [HF.out]; rfl, rfl⟩
        · rw [if_pos (by omega)] at hc
          have HF : Hid ((txN l : Int) = (k : Int) + 1) := by show _ = _; rw [hc]; omega
          clear h hc
          go_wp2
          go_ret
          exact ⟨by rw [HF.out]; rfl, rfl⟩
      · have b1 : ((s[k].toNat : Int) == 34) = false := by rw [h]; decide
        have b2 : ((s[k].toNat : Int) == 92) = true := by rw [h]; decide
        by_cases hlt2 : k + 1 < s.size
        · have g1 : decide ((s.size : Int) ≤ (k : Int) + 1) = false := by simp; omega
          have hij : ((k : Int) + 1).toNat = k + 1 := by omega
          have HDD : Hid (l.drop k = 92 :: s[k + 1] :: l.drop (k + 2)) := by show _ = _; rw [HD.out k hlt, HD.out (k + 1) hlt2, h]
          rcases esc_ways s[k + 1] with ⟨d, he⟩ | ⟨d, he⟩ | ⟨d, he⟩ | ⟨d, he⟩ | ⟨d1, d2, d3, d4, he⟩
          · have c1 : ((s[k + 1].toNat : Int) != 110) = true := by rw [d]; decide
            have c2 : ((s[k + 1].toNat : Int) != 116) = true := by rw [d]; decide
            have c3 : ((s[k + 1].toNat : Int) != 34) = false := by rw [d]; decide
            have HS : Hid (At l (u ++ [34]) (k + 2)) := at_esc HU.out hk1 HDD.out he
            clear d he h
            go_wp2
            exact ⟨⟨k + 2, u ++ [34], by omega, .inl (by omega), by go_num, by simp, by simp; omega, HS.out⟩, by simp [intOf]; omega⟩
          · have c1 : ((s[k + 1].toNat : Int) != 110) = true := by rw [d]; decide
            have c2 : ((s[k + 1].toNat : Int) != 116) = true := by rw [d]; decide
            have c3 : ((s[k + 1].toNat : Int) != 34) = true := by rw [d]; decide
            have c4 : ((s[k + 1].toNat : Int) != 92) = false := by rw [d]; decide
            have HS : Hid (At l (u ++ [92]) (k + 2)) := at_esc HU.out hk1 HDD.out he
            clear d he h
            go_wp2
            exact ⟨⟨k + 2, u ++ [92], by omega, .inl (by omega), by go_num, by simp, by simp; omega, HS.out⟩, by simp [intOf]; omega⟩
          · have c1 : ((s[k + 1].toNat : Int) != 110) = false := by rw [d]; decide
            have HS : Hid (At l (u ++ [10]) (k + 2)) := at_esc HU.out hk1 HDD.out he
            clear d he h
            go_wp2
            exact ⟨⟨k + 2, u ++ [10], by omega, .inl (by omega), by go_num, by simp, by simp; omega, HS.out⟩, by simp [intOf]; omega⟩
          · have c1 : ((s[k + 1].toNat : Int) != 110) = true := by rw [d]; decide
            have c2 : ((s[k + 1].toNat : Int) != 116) = false := by rw [d]; decide
            have HS : Hid (At l (u ++ [9]) (k + 2)) := at_esc HU.out hk1 HDD.out he
            clear d he h
            go_wp2
            exact ⟨⟨k + 2, u ++ [9], by omega, .inl (by omega), by go_num, by simp, by simp; omega, HS.out⟩, by simp [intOf]; omega⟩
          · have c1 : ((s[k + 1].toNat : Int) != 110) = true := nat_bne (n := 110) (by decide) d3
            have c2 : ((s[k + 1].toNat : Int) != 116) = true := nat_bne (n := 116) (by decide) d4
            have c3 : ((s[k + 1].toNat : Int) != 34) = true := nat_bne (n := 34) (by decide) d1
            have c4 : ((s[k + 1].toNat : Int) != 92) = true := nat_bne (n := 92) (by decide) d2
            have HF : Hid ((txN l : Int) = 0) := by show _ = _; rw [tx_at_none HU.out (by rw [HDD.out]; exact rd_esc_bad _ he)]; rfl
            clear d1 d2 d3 d4 he h
            go_wp2
            go_ret
            exact ⟨by rw [HF.out]; rfl, rfl⟩
        · have g1 : decide ((s.size : Int) ≤ (k : Int) + 1) = true := by simp; omega
          have hd : l.drop (k + 1) = [] := List.drop_eq_nil_of_le (by rw [HZ.out]; omega)
          have HF : Hid ((txN l : Int) = 0) := by
            show _ = _
            rw [tx_at_none HU.out (by rw [HD.out k hlt, hd, h]; decide)]; rfl
          clear h hd
          go_wp2
          go_ret
          exact ⟨by rw [HF.out]; rfl, rfl⟩
      · have b1 : ((s[k].toNat : Int) == 34) = false := by rw [h]; decide
        have b2 : ((s[k].toNat : Int) == 92) = false := by rw [h]; decide
        have b3 : (s[k].toNat : Int) < 32 := by rw [h]; decide
        have HF : Hid ((txN l : Int) = 0) := by show _ = _; rw [tx_at_none HU.out (by rw [HD.out k hlt]; exact rd_bad _ (by rw [h]; decide))]; rfl
        clear h
        go_wp2
        go_ret
        exact ⟨by rw [HF.out]; rfl, rfl⟩
      · have b1 : ((s[k].toNat : Int) == 34) = false := by rw [h]; decide
        have b2 : ((s[k].toNat : Int) == 92) = false := by rw [h]; decide
        have b3 : (s[k].toNat : Int) < 32 := by rw [h]; decide
        have HF : Hid ((txN l : Int) = 0) := by show _ = _; rw [tx_at_none HU.out (by rw [HD.out k hlt]; exact rd_bad _ (by rw [h]; decide))]; rfl
        clear h
        go_wp2
        go_ret
        exact ⟨by rw [HF.out]; rfl, rfl⟩
      · obtain ⟨hr, h1, h2, h3, h4⟩ := h
        have b1 : ((s[k].toNat : Int) == 34) = false := nat_ne (n := 34) (by decide) h1
        have b2 : ((s[k].toNat : Int) == 92) = false := nat_ne (n := 92) (by decide) h2
        have b3 : (32 : Int) ≤ (s[k].toNat : Int) := by omega
        have b4 : (s[k].toNat : Int) ≤ 126 := by omega
        have HS : Hid (At l (u ++ [s[k]]) (k + 1)) := at_pl HU.out hk1 (HD.out k hlt) hr h1 h2
        clear hr h1 h2 h3 h4
        go_wp2
        exact ⟨⟨k + 1, u ++ [s[k]], by omega, .inl (by omega), by go_num, by simp, by simp; omega, HS.out⟩, by simp [intOf]; omega⟩
      · obtain ⟨hr, h1, h2, h3, h4⟩ := h
        have b1 : ((s[k].toNat : Int) == 34) = false := nat_ne (n := 34) (by decide) h1
        have b2 : ((s[k].toNat : Int) == 92) = false := nat_ne (n := 92) (by decide) h2
        have HF : Hid ((txN l : Int) = 0) := by show _ = _; rw [tx_at_none HU.out (by rw [HD.out k hlt]; exact rd_bad _ (by omega))]; rfl
        rcases hr with hr | hr
        · have b3 : (s[k].toNat : Int) < 32 := by omega
          clear hr h1 h2 h3 h4
          go_wp2
          go_ret
          exact ⟨by rw [HF.out]; rfl, rfl⟩
        · have b3 : (32 : Int) ≤ (s[k].toNat : Int) := by omega
          have b4 : 126 < (s[k].toNat : Int) := by omega
          clear hr h1 h2 h3 h4
          go_wp2
          go_ret
          exact ⟨by rw [HF.out]; rfl, rfl⟩
    · have g1 : decide ((k : Int) < (s.size : Int)) = false := by simp; omega
      have hd : l.drop k = [] := List.drop_eq_nil_of_le (by rw [HZ.out]; omega)
      have HF : Hid ((txN l : Int) = 0) := by show _ = _; rw [tx_at_none HU.out (by rw [hd]; rfl)]; rfl
      clear hd
      go_wp2
      go_ret
      exact ⟨by rw [HF.out]; rfl, rfl⟩

/-- What is left to be said, in a text that is quoted wholly: from place k on. -/
def Left (l v : List UInt8) (k : Nat) : Prop := k ≤ l.length ∧ rd (l.drop k) = some (v, l.length - k)
theorem left_end {l v : List UInt8} {k : Nat} (h : Left l v k) (hk : k + 1 = l.length) : v = [] := by
  have := rd_len _ _ _ h.2
  exact List.length_eq_zero_iff.1 (by omega)
theorem left_pl {l v r : List UInt8} {k : Nat} {c : UInt8} (h : Left l v k) (hk : k + 1 < l.length) (hd : l.drop k = c :: r) (h92 : c ≠ 92) : ∃ v', v = c :: v' ∧ Left l v' (k + 1) := by
  obtain ⟨h0, h1⟩ := h
  rw [hd] at h1
  have h34 : c ≠ 34 := by rintro rfl; rw [rd_close] at h1; simp at h1; omega
  obtain ⟨g0, v', g1, g2, g3⟩ := rd_on h34 h1
  have e : piece (c :: r) = (c, 1) := by
    rw [piece_cons] at g0 ⊢
    split at g0
    · simp at g0
    · rename_i hp; rw [if_neg hp, if_pos h92]
  rw [e] at g1 g2
  refine ⟨v', g1, by omega, ?_⟩
  rw [← List.drop_drop, hd, g2]; simp; omega
theorem left_esc {l v r : List UInt8} {k : Nat} (h : Left l v k) (hk : k + 1 < l.length) (hd : l.drop k = 92 :: r) : ∃ d r' x v', r = d :: r' ∧ esc d = some x ∧ v = x :: v' ∧ Left l v' (k + 2) ∧ k + 2 < l.length := by
  obtain ⟨h0, h1⟩ := h
  rw [hd] at h1
  obtain ⟨g0, v', g1, g2, g3⟩ := rd_on (by decide) h1
  cases r with
  | nil => exact absurd rfl g0
  | cons d r' =>
    cases he : esc d with
    | none => simp [piece, he] at g0
    | some x =>
      have e : piece (92 :: d :: r') = (x, 2) := by simp [piece, he]
      rw [e] at g1 g2
      have g4 : rd (l.drop (k + 2)) = some (v', l.length - k - 2) := by rw [← List.drop_drop, hd]; exact g2
      have g5 := rd_len _ _ _ g4
      refine ⟨d, r', x, v', rfl, he, g1, ⟨by omega, by rw [g4]; simp; omega⟩, by omega⟩
theorem slice_two (s : ByteArray) (k : Nat) (h : k + 1 < s.size) (W : World) : (Instr.slice 9 (.string s) (some (.int .i64 ((k : Int) + 1))) (some (.int .i64 ((k : Int) + 1 + 1))) none).run Tryd.prog W = .ok (.string (s.extract (k + 1) (k + 1 + 1))) W := by
  have := slice_one s (k + 1) h W
  rw [← this]
  congr 3
end Go.Proofs.YtljdfaoplenloaaDoor
