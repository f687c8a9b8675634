/- What types.Zero and panicroadref.Zero answer. -/
import Derived.Test.YtmcechcigehjbabFits
namespace Go.Proofs.Ytmcechcigehjbab
open Go.ChangeShapes Go.WideShapes Go.ChangeAt Go.RowKit
set_option maxRecDepth 100000
set_option linter.unusedSimpArgs false

theorem bcell {W w1 : World} (hb : Below W.heap.size W w1) : (∀ b o, b < W.heap.size → w1.cell? ⟨b, o, none⟩ = W.cell? ⟨b, o, none⟩) ∧ (∀ b o, b < W.heap.size → w1.frozen? ⟨b, o, none⟩ = W.frozen? ⟨b, o, none⟩) :=
  ⟨fun b o h => hb.cell (p := ⟨b, o, none⟩) h, fun b o h => hb.frozen (p := ⟨b, o, none⟩) h⟩
/-- The kind of the value that a variable of the type holds at first. -/
def zk (t : ByteArray) : Int := if (t.toList == [105, 110, 116]) = true then 1 else if (t.toList == [98, 111, 111, 108]) = true then 2 else if (t.toList == [115, 116, 114, 105, 110, 103]) = true then 3 else if nilB t = true then 4 else 0
def ze (t : ByteArray) : Int := if valid t.data.toList = true then 0 else 9
def zval (k : Int) : Value := .agg #[.int .i64 k, .int .i64 0, .string ⟨#[]⟩, .slice none 0 0]
theorem z_int {t : ByteArray} (h : (t.toList == [105, 110, 116]) = true) : zk t = 1 ∧ ze t = 0 := by
  unfold zk ze; rw [if_pos h, ← ByteArray.toList_eq, eq_of_beq h]; exact ⟨rfl, by decide +kernel⟩
theorem z_bool {t : ByteArray} (h0 : (t.toList == [105, 110, 116]) = false) (h : (t.toList == [98, 111, 111, 108]) = true) : zk t = 2 ∧ ze t = 0 := by
  unfold zk ze; rw [if_neg (by simp [h0]), if_pos h, ← ByteArray.toList_eq, eq_of_beq h]; exact ⟨rfl, by decide +kernel⟩
theorem z_str {t : ByteArray} (h0 : (t.toList == [105, 110, 116]) = false) (h1 : (t.toList == [98, 111, 111, 108]) = false) (h : (t.toList == [115, 116, 114, 105, 110, 103]) = true) : zk t = 3 ∧ ze t = 0 := by
  unfold zk ze; rw [if_neg (by simp [h0]), if_neg (by simp [h1]), if_pos h, ← ByteArray.toList_eq, eq_of_beq h]; exact ⟨rfl, by decide +kernel⟩
theorem z_nil {t : ByteArray} (h0 : (t.toList == [105, 110, 116]) = false) (h1 : (t.toList == [98, 111, 111, 108]) = false) (h2 : (t.toList == [115, 116, 114, 105, 110, 103]) = false) : nilB t = valid t.data.toList ∧ zk t = (if valid t.data.toList = true then 4 else 0) := by
  have e : nilB t = valid t.data.toList := by unfold nilB; rw [h0, h1, h2]; simp
  refine ⟨e, ?_⟩
  unfold zk
  rw [if_neg (by simp [h0]), if_neg (by simp [h1]), if_neg (by simp [h2]), e]
set_option maxHeartbeats 1000000 in
theorem own_zero (t : ByteArray) (w : World) (ht : t.size ≤ maxLen) :
    Calls Try.prog 8 #[.string t] w fun e w' => e = .returned (.tuple #[zval (zk t), .int .i64 (ze t)]) ∧ Below w.heap.size w w' := by
  have HN : Hid (∀ w, Calls Try.prog 17 #[.string t] w fun e w' => e = .returned (.bool (nilB t)) ∧ Below w.heap.size w w') := fun w => own_nil t w ht
  cases h0 : (t.toList == [105, 110, 116]) with
  | true =>
    rw [(z_int h0).1, (z_int h0).2]
    go_enter Try.func8, Try.ntmps8
    go_wp2_with fail
    exact bodyPost_ret (v := .tuple #[zval 1, .int .i64 0]) (by simp [zval, results, Try.results8, go_sem]) rfl ⟨rfl, (Below.refl _ _).alloc (Nat.le_refl _) _⟩
  | false =>
    cases h1 : (t.toList == [98, 111, 111, 108]) with
    | true =>
      rw [(z_bool h0 h1).1, (z_bool h0 h1).2]
      go_enter Try.func8, Try.ntmps8
      go_wp2_with fail
      exact bodyPost_ret (v := .tuple #[zval 2, .int .i64 0]) (by simp [zval, results, Try.results8, go_sem]) rfl ⟨rfl, (Below.refl _ _).alloc (Nat.le_refl _) _⟩
    | false =>
      cases h2 : (t.toList == [115, 116, 114, 105, 110, 103]) with
      | true =>
        rw [(z_str h0 h1 h2).1, (z_str h0 h1 h2).2]
        go_enter Try.func8, Try.ntmps8
        go_wp2_with fail
        exact bodyPost_ret (v := .tuple #[zval 3, .int .i64 0]) (by simp [zval, results, Try.results8, go_sem]) rfl ⟨rfl, (Below.refl _ _).alloc (Nat.le_refl _) _⟩
      | false =>
        obtain ⟨e1, e2⟩ := z_nil h0 h1 h2
        rw [e2]
        unfold ze
        rw [e1] at HN
        clear e1 e2
        cases hv : valid t.data.toList with
        | true =>
          rw [if_pos rfl, if_pos rfl]
          rw [hv] at HN
          clear hv
          go_enter Try.func8, Try.ntmps8
          go_wp2_with fail
          refine (HN.out _).mono ?_
          rintro e w1 ⟨rfl, b1⟩
          obtain ⟨hc, hf⟩ := bcell b1
          have hz : w.heap.size < w1.heap.size := by have := b1.size; simp at this; omega
          go_wp2_with fail
          exact bodyPost_ret (v := .tuple #[zval 4, .int .i64 0]) (by simp [zval, results, Try.results8, go_sem, hc, hz]) rfl ⟨rfl, ((((((Below.refl _ _).alloc (Nat.le_refl _) _).trans (b1.mono (by simp))).setCell (Nat.le_refl _) _).setCell (Nat.le_refl _) _).setCell (Nat.le_refl _) _).setCell (Nat.le_refl _) _⟩
        | false =>
          rw [if_neg (by simp), if_neg (by simp)]
          rw [hv] at HN
          clear hv
          go_enter Try.func8, Try.ntmps8
          go_wp2_with fail
          refine (HN.out _).mono ?_
          rintro e w1 ⟨rfl, b1⟩
          obtain ⟨hc, hf⟩ := bcell b1
          have hz : w.heap.size < w1.heap.size := by have := b1.size; simp at this; omega
          go_wp2_with fail
          exact bodyPost_ret (v := .tuple #[zval 0, .int .i64 9]) (by simp [zval, results, Try.results8, go_sem, hc, hz]) rfl ⟨rfl, ((((((Below.refl _ _).alloc (Nat.le_refl _) _).trans (b1.mono (by simp))).setCell (Nat.le_refl _) _).setCell (Nat.le_refl _) _).setCell (Nat.le_refl _) _).setCell (Nat.le_refl _) _⟩
set_option maxHeartbeats 2000000 in
theorem ref_zero (t : ByteArray) (w : World) (ht : t.size ≤ maxLen) :
    Calls Try.prog 9 #[.string t] w fun e w' => e = .returned (.tuple #[zval (zk t), .int .i64 (ze t)]) ∧ Below w.heap.size w w' := by
  have HV : Hid (∀ w, Calls Try.prog 18 #[.string t] w fun e w' => e = .returned (.bool (valid t.data.toList)) ∧ Below w.heap.size w w') := fun w => ref_valid t w ht
  cases hv : valid t.data.toList with
  | false =>
    have e1 : zk t = 0 := by
      cases h0 : (t.toList == [105, 110, 116]) with
      | true => have := (z_int h0).2; unfold ze at this; rw [hv] at this; simp at this
      | false =>
        cases h1 : (t.toList == [98, 111, 111, 108]) with
        | true => have := (z_bool h0 h1).2; unfold ze at this; rw [hv] at this; simp at this
        | false =>
          cases h2 : (t.toList == [115, 116, 114, 105, 110, 103]) with
          | true => have := (z_str h0 h1 h2).2; unfold ze at this; rw [hv] at this; simp at this
          | false => rw [(z_nil h0 h1 h2).2, hv]; rfl
    have e2 : ze t = 9 := by unfold ze; rw [hv]; rfl
    rw [e1, e2]
    rw [hv] at HV
    clear e1 e2 hv
    go_enter Try.func9, Try.ntmps9
    go_wp2_with fail
    refine (HV.out _).mono ?_
    rintro e w1 ⟨rfl, b1⟩
    obtain ⟨hc, hf⟩ := bcell b1
    have hz : w.heap.size < w1.heap.size := by have := b1.size; simp at this; omega
    go_wp2_with fail
    exact bodyPost_ret (v := .tuple #[zval 0, .int .i64 9]) (by simp [zval, results, Try.results9, go_sem, hc, hz]) rfl ⟨rfl, ((((((Below.refl _ _).alloc (Nat.le_refl _) _).trans (b1.mono (by simp))).setCell (Nat.le_refl _) _).setCell (Nat.le_refl _) _).setCell (Nat.le_refl _) _).setCell (Nat.le_refl _) _⟩
  | true =>
    have e2 : ze t = 0 := by unfold ze; rw [hv]; rfl
    rw [e2]
    rw [hv] at HV
    cases h0 : (t.toList == [105, 110, 116]) with
    | true =>
      rw [(z_int h0).1]
      clear e2 hv
      go_enter Try.func9, Try.ntmps9
      go_wp2_with fail
      refine (HV.out _).mono ?_
      rintro e w1 ⟨rfl, b1⟩
      obtain ⟨hc, hf⟩ := bcell b1
      have hz : w.heap.size < w1.heap.size := by have := b1.size; simp at this; omega
      go_wp2_with fail
      exact bodyPost_ret (v := .tuple #[zval 1, .int .i64 0]) (by simp [zval, results, Try.results9, go_sem, hc, hz]) rfl ⟨rfl, (((((((Below.refl _ _).alloc (Nat.le_refl _) _).trans (b1.mono (by simp))).setCell (Nat.le_refl _) _).setCell (Nat.le_refl _) _).setCell (Nat.le_refl _) _).setCell (Nat.le_refl _) _).alloc (by simp [World.setCell]; omega) _⟩
    | false =>
      cases h1 : (t.toList == [98, 111, 111, 108]) with
      | true =>
        rw [(z_bool h0 h1).1]
        clear e2 hv
        go_enter Try.func9, Try.ntmps9
        go_wp2_with fail
        refine (HV.out _).mono ?_
        rintro e w1 ⟨rfl, b1⟩
        obtain ⟨hc, hf⟩ := bcell b1
        have hz : w.heap.size < w1.heap.size := by have := b1.size; simp at this; omega
        go_wp2_with fail
        exact bodyPost_ret (v := .tuple #[zval 2, .int .i64 0]) (by simp [zval, results, Try.results9, go_sem, hc, hz]) rfl ⟨rfl, (((((((Below.refl _ _).alloc (Nat.le_refl _) _).trans (b1.mono (by simp))).setCell (Nat.le_refl _) _).setCell (Nat.le_refl _) _).setCell (Nat.le_refl _) _).setCell (Nat.le_refl _) _).alloc (by simp [World.setCell]; omega) _⟩
      | false =>
        cases h2 : (t.toList == [115, 116, 114, 105, 110, 103]) with
        | true =>
          rw [(z_str h0 h1 h2).1]
          clear e2 hv
          go_enter Try.func9, Try.ntmps9
          go_wp2_with fail
          refine (HV.out _).mono ?_
          rintro e w1 ⟨rfl, b1⟩
          obtain ⟨hc, hf⟩ := bcell b1
          have hz : w.heap.size < w1.heap.size := by have := b1.size; simp at this; omega
          go_wp2_with fail
          exact bodyPost_ret (v := .tuple #[zval 3, .int .i64 0]) (by simp [zval, results, Try.results9, go_sem, hc, hz]) rfl ⟨rfl, (((((((Below.refl _ _).alloc (Nat.le_refl _) _).trans (b1.mono (by simp))).setCell (Nat.le_refl _) _).setCell (Nat.le_refl _) _).setCell (Nat.le_refl _) _).setCell (Nat.le_refl _) _).alloc (by simp [World.setCell]; omega) _⟩
        | false =>
          rw [(z_nil h0 h1 h2).2, hv, if_pos rfl]
          clear e2 hv
          go_enter Try.func9, Try.ntmps9
          go_wp2_with fail
          refine (HV.out _).mono ?_
          rintro e w1 ⟨rfl, b1⟩
          obtain ⟨hc, hf⟩ := bcell b1
          have hz : w.heap.size < w1.heap.size := by have := b1.size; simp at this; omega
          go_wp2_with fail
          exact bodyPost_ret (v := .tuple #[zval 4, .int .i64 0]) (by simp [zval, results, Try.results9, go_sem, hc, hz]) rfl ⟨rfl, (((((((Below.refl _ _).alloc (Nat.le_refl _) _).trans (b1.mono (by simp))).setCell (Nat.le_refl _) _).setCell (Nat.le_refl _) _).setCell (Nat.le_refl _) _).setCell (Nat.le_refl _) _).alloc (by simp [World.setCell]; omega) _⟩
theorem ref_sameNil (w : World) :
    Calls Try.prog 19 #[.slice none 0 0, .slice none 0 0] w fun e w' => e = .returned (.bool true) ∧ w' = w := by
  go_enter Try.func19, Try.ntmps19
  go_wp2
  go_loop [13] (fun i => i = .int .i64 0) (fun _ => 0)
  case atStart => rfl
  case round =>
    subst hrel
    go_wp2
    go_ret
    exact ⟨rfl, rfl⟩
/-- Two values of the same kind and nothing else are equal. -/
theorem ref_equal (k : Int) (w : World) :
    Calls Try.prog 10 #[zval k, zval k] w fun e w' => e = .returned (.bool true) ∧ Below w.heap.size w w' := by
  unfold zval
  go_enter Try.func10, Try.ntmps10
  go_wp2_with fail
  refine (ref_sameNil _).mono ?_
  rintro e w1 ⟨rfl, rfl⟩
  go_wp2_with fail
  go_ret
  exact ⟨rfl, ((Below.refl _ _).alloc (Nat.le_refl _) _).alloc (by simp) _⟩
end Go.Proofs.Ytmcechcigehjbab
