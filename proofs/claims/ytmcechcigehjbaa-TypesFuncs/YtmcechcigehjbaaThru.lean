/- What types.goThrough, goThroughFunc and Valid answer. -/
import Derived.Test.YtmcechcigehjbaaOnetype
namespace Go.Proofs.Ytmcechcigehjbaa
open Go.ChangeShapes Go.WideShapes Go.ChangeAt Go.RowKit
set_option maxRecDepth 100000
set_option linter.unusedSimpArgs false

/-- Is a text a type? -/
def valid (l : Tx) : Bool := decide (l.length ≤ 100 ∧ tl 101 l ≠ 0 ∧ tl 101 l = l.length)
theorem rdr_new (w : World) (t : ByteArray) : Rdr w.heap.size t 0 (w.alloc (.cells #[.string t, .int .i64 0] 41)) := heap_alloc_new w _
theorem grown_below {w w' : World} (h : w.grownBy w' (some w.heap.size)) : Below w.heap.size w w' := ⟨h.os, h.tape, h.output, h.size, fun k hk => h.block k hk (fun e => by simp at e; omega)⟩
def ThruPost (I : List (Nat × ByteArray) → World → Prop) (l : Tx) (e : Ending) (w' : World) : Prop := e = .returned (.bool (valid l)) ∧ (valid l = true → I (tlP 100 l) w') ∧ ∃ ps, I ps w'
set_option maxHeartbeats 1000000 in
theorem own_thru {f : FuncId} {c : Array Value} {I : List (Nat × ByteArray) → World → Prop} (t : ByteArray) (w : World) (F : Fnd w.heap.size f c I) (hI : I [] w) (ht : t.size ≤ maxLen) :
    Calls Try.prog 22 #[.string t, .func (.func f) #[] c] w (ThruPost I t.data.toList) := by
  unfold maxLen at ht
  have HI : Hid (I [] w) := hI
  have hlen := bsize_list t
  clear hI
  by_cases h1 : t.size ≤ 100
  · have HO : Hid (∀ W, Rdr w.heap.size t 0 W → I [] W → Calls Try.prog 32 #[.pointer (some ⟨w.heap.size, 0, none⟩), .func (.func f) #[] c] W (OnePost I w.heap.size 0 (tl 101 t.data.toList) t (tlP 100 t.data.toList))) := fun W hR hP => own_one F 0 t W 100 (one_at 100) hR (by omega) h1 (by omega) hP
    have HI1 : Hid (I [] (w.alloc (.cells #[.string t, .int .i64 0] 41))) := F.keep HI.out (World.grownBy_alloc _ _ _)
    by_cases hm : tl 101 t.data.toList = 0
    · have HV : Hid (valid t.data.toList = false) := show valid t.data.toList = false by unfold valid; simp [hm]
      rw [hm] at HO
      clear hm hlen
      go_enter Try.func22, Try.ntmps22
      go_wp2_with fail
      refine (HO.out _ (rdr_new w t) HI1.out).mono ?_
      rintro e w1 ⟨rfl, -, ps, i1⟩
      have HI2 : Hid (I ps w1) := i1
      clear i1
      go_wp2_with fail
      go_ret
      exact ⟨by rw [HV.out]; rfl, fun h => (by rw [HV.out] at h; cases h), ps, HI2.out⟩
    · have hd : decide (tl 101 t.data.toList ≠ 0) = true := by simpa using hm
      unfold OnePost at HO
      rw [hd] at HO
      have HM : Hid (tl 101 t.data.toList ≠ 0) := hm
      by_cases hq : tl 101 t.data.toList = t.size
      · have HV : Hid (valid t.data.toList = true) := show valid t.data.toList = true by unfold valid; exact decide_eq_true ⟨by omega, hm, by omega⟩
        rw [hq] at HO HM
        clear hm hd hlen hq
        have eq1 : (((t.size : Nat) : Int) == ((t.size : Nat) : Int)) = true := by simp
        go_enter Try.func22, Try.ntmps22
        go_wp2_with fail
        refine (HO.out _ (rdr_new w t) HI1.out).mono ?_
        rintro e w1 ⟨rfl, i1, -⟩
        obtain ⟨r1, i2⟩ := i1 HM.out
        rw [Nat.zero_add] at r1
        obtain ⟨d0, d1, g0⟩ := r1.cells
        have HI2 : Hid (I (tlP 100 t.data.toList) w1) := i2
        clear i1 i2 r1
        go_wp2_with fail
        go_ret
        exact ⟨by rw [HV.out]; simp, fun _ => HI2.out, _, HI2.out⟩
      · have HV : Hid (valid t.data.toList = false) := show valid t.data.toList = false by unfold valid; simp [hq, hlen]
        have eq1 : (((tl 101 t.data.toList : Nat) : Int) == ((t.size : Nat) : Int)) = false := by rw [beq_eq_false_iff_ne]; omega
        generalize tl 101 t.data.toList = m at *
        clear hm hd hlen hq
        go_enter Try.func22, Try.ntmps22
        go_wp2_with fail
        refine (HO.out _ (rdr_new w t) HI1.out).mono ?_
        rintro e w1 ⟨rfl, i1, -⟩
        obtain ⟨r1, i2⟩ := i1 HM.out
        rw [Nat.zero_add] at r1
        obtain ⟨d0, d1, g0⟩ := r1.cells
        have HI2 : Hid (I (tlP 100 t.data.toList) w1) := i2
        clear i1 i2 r1
        go_wp2_with fail
        go_ret
        exact ⟨by rw [HV.out]; simp [eq1], fun h => (by rw [HV.out] at h; cases h), _, HI2.out⟩
  · have HV : Hid (valid t.data.toList = false) := show valid t.data.toList = false by unfold valid; simp [hlen, h1]
    have h2 : 100 < t.size := by omega
    clear hlen h1
    go_enter Try.func22, Try.ntmps22
    go_wp2_with fail
    go_ret
    exact ⟨by rw [HV.out]; rfl, fun h => (by rw [HV.out] at h; cases h), _, HI.out⟩
/-- Is it a function's? -/
def validF (l : Tx) : Bool := wFunc.isPrefixOf l && valid l
def ThruFPost (I : List (Nat × ByteArray) → World → Prop) (l : Tx) (e : Ending) (w' : World) : Prop := e = .returned (.bool (validF l)) ∧ (validF l = true → I (tailP (tl 100) (l.drop 5)) w') ∧ ∃ ps, I ps w'
theorem func_noword {l : Tx} (h : wFunc.isPrefixOf l = true) : wordLen l = 0 := by
  cases l with
  | nil => cases h
  | cons c r =>
    simp only [wFunc, List.isPrefixOf, Bool.and_eq_true, beq_iff_eq] at h
    rw [← h.1]
    rfl
set_option maxHeartbeats 1000000 in
theorem own_thruF {f : FuncId} {c : Array Value} {I : List (Nat × ByteArray) → World → Prop} (t : ByteArray) (w : World) (F : Fnd w.heap.size f c I) (hI : I [] w) (ht : t.size ≤ maxLen) :
    Calls Try.prog 25 #[.string t, .func (.func f) #[] c] w (ThruFPost I t.data.toList) := by
  have HI : Hid (I [] w) := hI
  have HT : Hid (Calls Try.prog 22 #[.string t, .func (.func f) #[] c] w (ThruPost I t.data.toList)) := own_thru t w F hI ht
  have HP : Hid (∀ W, Calls Try.prog 34 #[.string t, .string ⟨#[102, 117, 110, 99, 40]⟩] W fun e w' => e = .returned (.bool (wFunc.isPrefixOf t.data.toList)) ∧ w' = W) := fun W => Try.strings_HasPrefix t ⟨#[102, 117, 110, 99, 40]⟩ W
  clear hI
  cases hf : wFunc.isPrefixOf t.data.toList with
  | true =>
    rw [hf] at HP
    have HV : Hid (validF t.data.toList = valid t.data.toList ∧ tlP 100 t.data.toList = tailP (tl 100) (t.data.toList.drop 5)) := by
      unfold validF tlP
      rw [hf, func_noword hf]
      exact ⟨rfl, rfl⟩
    clear hf
    go_enter Try.func25, Try.ntmps25
    go_wp2_with fail
    refine (HP.out _).mono ?_
    rintro e w1 ⟨rfl, rfl⟩
    go_wp2_with fail
    refine HT.out.mono ?_
    rintro e w2 ⟨rfl, i2, i3⟩
    have HX : Hid ((valid t.data.toList = true → I (tlP 100 t.data.toList) w2) ∧ ∃ ps, I ps w2) := ⟨i2, i3⟩
    clear i2 i3
    go_wp2_with fail
    go_ret
    exact ⟨by rw [HV.out.1]; rfl, fun h => (by rw [HV.out.1] at h; rw [← HV.out.2]; exact HX.out.1 h), HX.out.2⟩
  | false =>
    rw [hf] at HP
    have HV : Hid (validF t.data.toList = false) := by unfold validF; rw [hf]; rfl
    clear hf
    go_enter Try.func25, Try.ntmps25
    go_wp2_with fail
    refine (HP.out _).mono ?_
    rintro e w1 ⟨rfl, rfl⟩
    go_wp2_with fail
    go_ret
    exact ⟨by rw [HV.out]; rfl, fun h => (by rw [HV.out] at h; cases h), _, HI.out⟩
theorem own_thruPass (t : ByteArray) (w : World) (ht : t.size ≤ maxLen) :
    Calls Try.prog 22 #[.string t, .func (.func 23) #[] #[]] w fun e w' => e = .returned (.bool (valid t.data.toList)) ∧ Below w.heap.size w w' :=
  (own_thru t w (pass_fnd w.heap.size w) (World.grownBy.refl _ _) ht).mono fun _ _ h => ⟨h.1, h.2.2.elim fun _ k => grown_below k⟩
theorem own_thruFPass (t : ByteArray) (w : World) (ht : t.size ≤ maxLen) :
    Calls Try.prog 25 #[.string t, .func (.func 23) #[] #[]] w fun e w' => e = .returned (.bool (validF t.data.toList)) ∧ Below w.heap.size w w' :=
  (own_thruF t w (pass_fnd w.heap.size w) (World.grownBy.refl _ _) ht).mono fun _ _ h => ⟨h.1, h.2.2.elim fun _ k => grown_below k⟩
theorem own_valid (t : ByteArray) (w : World) (ht : t.size ≤ maxLen) :
    Calls Try.prog 9 #[.string t] w fun e w' => e = .returned (.bool (valid t.data.toList)) ∧ Below w.heap.size w w' := by
  have HT : Hid (Calls Try.prog 22 #[.string t, .func (.func 23) #[] #[]] w fun e w' => e = .returned (.bool (valid t.data.toList)) ∧ Below w.heap.size w w') := own_thruPass t w ht
  go_enter Try.func9, Try.ntmps9
  go_wp2_with fail
  refine HT.out.mono ?_
  rintro e w1 ⟨rfl, b1⟩
  go_wp2_with fail
  go_ret
  exact ⟨rfl, b1⟩
end Go.Proofs.Ytmcechcigehjbaa
