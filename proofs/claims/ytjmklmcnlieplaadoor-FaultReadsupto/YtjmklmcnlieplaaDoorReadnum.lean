/- What panicroadref.ReadNumber answers. -/
import Derived.Test.YtjmklmcnlieplaaDoorBig6
import Derived.Test.YtjmklmcnlieplaaDoorBigss
import Derived.Test.YtjmklmcnlieplaaDoorBigbits
namespace Go.Proofs.YtjmklmcnlieplaaDoor
open Go.ChangeShapes Go.WideShapes Go.ChangeAt Go.RowKit
set_option maxRecDepth 100000

theorem below_of_grown {w w1 w2 : World} (h1 : Below w.heap.size w w1) (h2 : w1.grownBy w2 (some w.heap.size)) : Below w.heap.size w w2 := below_grown h1 h2 (Nat.le_refl _)
set_option maxHeartbeats 800000 in
theorem ref_read (s : ByteArray) (hs : s.size ≤ 140737488355328) (w : World) :
    Calls Tryd.prog 27 #[.string s] w fun e w' => e = .returned (.tuple #[.int .i64 (rdN s), .int .i64 (rdE s)]) ∧ Below w.heap.size w w' := by
  by_cases h20 : 20 < s.size
  · obtain ⟨e1, e2⟩ := rd_no (s := s) (fun v b1 b2 e => by
      have h1 := itoa_len v b1 b2
      rw [e, size_list] at h1
      omega)
    rw [e1, e2]
    have hlt : (20 : Int) < (s.size : Int) := by omega
    clear e1 e2
    go_enter Tryd.func27, Tryd.ntmps27
    go_wp2
    go_ret2
    exact ⟨rfl, Below.refl _ _⟩
  have h20' : s.size ≤ 20 := by omega
  have hle : (s.size : Int) ≤ 20 := by omega
  have HSS : Hid (∀ W, Calls Tryd.prog 39 #[.pointer (some ⟨w.heap.size, 0, none⟩), .string s, .int .i64 10] (w.alloc (.cells #[.bool false, .slice none 0 0] 75)) fun e w' => SsPost (w.alloc (.cells #[.bool false, .slice none 0 0] 75)) w.heap.size (Lib.atoi s.data.toList) e w') := fun _ : Unit => setString_any s h20' w.heap.size false _ _ (int_new w)
  have b0 : Below w.heap.size w (w.alloc (.cells #[.bool false, .slice none 0 0] 75)) := (Below.refl _ _).alloc (Nat.le_refl _) _
  cases ha : Lib.atoi s.data.toList with
  | none =>
    obtain ⟨e1, e2⟩ := rd_no (s := s) (fun v b1 b2 e => by
      have h1 := atoi_of_itoa v
      rw [e, ha] at h1
      cases h1)
    rw [e1, e2]
    rw [ha] at HSS
    clear e1 e2 ha
    go_enter Tryd.func27, Tryd.ntmps27
    go_wp2_with fail
    refine (HSS.out ()).mono ?_
    rintro e w1 ⟨-, p2, p3⟩
    obtain rfl := p2 rfl
    go_wp2
    go_ret2
    exact ⟨rfl, below_of_grown b0 p3⟩
  | some z =>
    have hsmall : -(10 ^ 40 : Int) < z ∧ z < 10 ^ 40 := by
      obtain ⟨c, r, hl, hcase⟩ := Lib.atoi_cases ha
      have hlen := congrArg List.length hl
      rw [size_list] at hlen
      simp at hlen
      have key : ∀ (l : List UInt8) (m : Nat), Lib.decFrom 0 l = some m → l.length ≤ 20 → m < 100000000000000000000 := fun l m h1 h2 =>
        decFrom_small (l := l) (k := l.length) (by rw [List.take_of_length_le (Nat.le_refl _)]; exact h1) h2
      rcases hcase with ⟨_, m, _, h1, h2⟩ | ⟨_, m, _, h1, h2⟩ | ⟨_, _, m, h1, h2⟩
      · have := key _ _ h1 (by omega); omega
      · have := key _ _ h1 (by omega); omega
      · have := key _ _ h1 (by simp; omega); omega
    have HSM : Hid (-(10 ^ 40 : Int) < z ∧ z < 10 ^ 40) := hsmall
    rw [ha] at HSS
    by_cases heq : Lib.itoa z = s.data.toList
    · have hq : (Lib.itoa z == s.toList) = true := by
        rw [heq, ByteArray.toList_eq]; simp
      by_cases hfit : -9223372036854775808 ≤ z ∧ z ≤ 9223372036854775807
      · obtain ⟨e1, e2⟩ := rd_yes hfit.1 hfit.2 heq
        rw [e1, e2]
        have hf : fitB z = true := by unfold fitB; exact decide_eq_true hfit
        have HFIT : Hid (-9223372036854775808 ≤ z ∧ z ≤ 9223372036854775807) := hfit
        clear e1 e2 ha hsmall heq hfit
        go_enter Tryd.func27, Tryd.ntmps27
        go_wp2_with fail
        refine (HSS.out ()).mono ?_
        rintro e w1 ⟨p1, -, p3⟩
        obtain ⟨rfl, hbig⟩ := p1 z rfl
        have HB1 : Hid (Big w1 w.heap.size z) := hbig
        have b1 := below_of_grown b0 p3
        clear hbig p1 p3
        go_wp2_with fail
        refine (string_any _ z w1 HB1.out HSM.out.1 HSM.out.2).mono ?_
        rintro e w2 ⟨rfl, b2⟩
        have HB2 : Hid (Big w2 w.heap.size z) := HB1.out.below b2
        go_wp2_with fail
        refine (isInt64_any _ z w2 HB2.out HSM.out.1 HSM.out.2).mono ?_
        rintro e w3 ⟨rfl, rfl⟩
        go_wp2_with fail
        refine (int64_any _ z _ HB2.out HFIT.out.1 HFIT.out.2).mono ?_
        rintro e w4 ⟨rfl, rfl⟩
        go_wp2
        go_ret2
        exact ⟨rfl, below_trans b1 b2⟩
      · obtain ⟨e1, e2⟩ := rd_no (s := s) (fun v b1 b2 e => by
          have h1 := atoi_of_itoa v
          rw [e, ha] at h1
          cases h1
          exact hfit ⟨b1, b2⟩)
        rw [e1, e2]
        have hf : fitB z = false := by unfold fitB; exact decide_eq_false hfit
        clear e1 e2 ha hsmall heq hfit
        go_enter Tryd.func27, Tryd.ntmps27
        go_wp2_with fail
        refine (HSS.out ()).mono ?_
        rintro e w1 ⟨p1, -, p3⟩
        obtain ⟨rfl, hbig⟩ := p1 z rfl
        have HB1 : Hid (Big w1 w.heap.size z) := hbig
        have b1 := below_of_grown b0 p3
        clear hbig p1 p3
        go_wp2_with fail
        refine (string_any _ z w1 HB1.out HSM.out.1 HSM.out.2).mono ?_
        rintro e w2 ⟨rfl, b2⟩
        have HB2 : Hid (Big w2 w.heap.size z) := HB1.out.below b2
        go_wp2_with fail
        refine (isInt64_any _ z w2 HB2.out HSM.out.1 HSM.out.2).mono ?_
        rintro e w3 ⟨rfl, rfl⟩
        go_wp2
        go_ret2
        exact ⟨rfl, below_trans b1 b2⟩
    · have hq : (Lib.itoa z == s.toList) = false := by
        rw [ByteArray.toList_eq, beq_eq_false_iff_ne]; exact heq
      obtain ⟨e1, e2⟩ := rd_no (s := s) (fun v b1 b2 e => by
        have h1 := atoi_of_itoa v
        rw [e, ha] at h1
        cases h1
        exact heq e)
      rw [e1, e2]
      clear e1 e2 ha hsmall heq
      go_enter Tryd.func27, Tryd.ntmps27
      go_wp2_with fail
      refine (HSS.out ()).mono ?_
      rintro e w1 ⟨p1, -, p3⟩
      obtain ⟨rfl, hbig⟩ := p1 z rfl
      have HB1 : Hid (Big w1 w.heap.size z) := hbig
      have b1 := below_of_grown b0 p3
      clear hbig p1 p3
      go_wp2_with fail
      refine (string_any _ z w1 HB1.out HSM.out.1 HSM.out.2).mono ?_
      rintro e w2 ⟨rfl, b2⟩
      go_wp2
      go_ret2
      exact ⟨rfl, below_trans b1 b2⟩
end Go.Proofs.YtjmklmcnlieplaaDoor
