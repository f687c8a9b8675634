/- What types.reader's params, result and oneType do. -/
import Derived.Test.YtmcechcigehjbaaPart
import Derived.Test.YtmcechcigehjbaaTyplain2
namespace Go.Proofs.Ytmcechcigehjbaa
open Go.ChangeShapes Go.WideShapes Go.ChangeAt Go.RowKit
set_option maxRecDepth 100000
set_option linter.unusedSimpArgs false

theorem ext_take (t : ByteArray) (p m : Nat) : t.extract p (p + m) = ⟨((t.data.toList.drop p).take m).toArray⟩ := by
  have : (t.extract p (p + m)).data.toList = (t.data.toList.drop p).take m := by
    rw [ByteArray.data_extract, Array.toList_extract]
    simp [List.extract]
  rw [← this]
theorem past_one {t : ByteArray} {p : Nat} (c : UInt8) : (past t p ⟨#[c]⟩ = true ∧ ∃ r, t.data.toList.drop p = c :: r) ∨ (past t p ⟨#[c]⟩ = false ∧ ∀ r, t.data.toList.drop p ≠ c :: r) := head_of c _

set_option maxHeartbeats 2000000 in
theorem own_params (n : Nat) (ih : OneAt n) {b : Nat} {f : FuncId} {c : Array Value} {I : List (Nat × ByteArray) → World → Prop} (F : Fnd b f c I) (p : Nat) (t : ByteArray) (w : World) (h : Rdr b t p w) (hp : p ≤ t.size) (ht : t.size ≤ 100) (hn : t.size - p ≤ n) (hI : I [] w) :
    Calls Try.prog 40 #[.pointer (some ⟨b, 0, none⟩), .func (.func f) #[] c] w fun e w' => e = .returned (.bool (decide (params (tl n) (t.data.toList.drop p) ≠ 0))) ∧
      (params (tl n) (t.data.toList.drop p) ≠ 0 → Rdr b t (p + params (tl n) (t.data.toList.drop p)) w' ∧ I (paramsP (tl n) (t.data.toList.drop p)) w') ∧ ∃ ps, I ps w' := by
  have HR : Hid (Rdr b t p w) := h
  have HI : Hid (I [] w) := hI
  clear h hI
  rcases past_one (t := t) (p := p) 41 with ⟨hc, r, e⟩ | ⟨hc, e⟩
  · obtain ⟨e1, e2⟩ := params_close (f := tl n) e
    rw [e1, e2]
    have HC : Hid (past t p ⟨#[41]⟩ = true) := hc
    clear e e1 e2 hc
    go_enter Try.func40, Try.ntmps40
    go_wp2_with fail
    refine (take_yes HC.out hp ht _ HR.out).mono ?_
    rintro e w1 ⟨rfl, r1, q1⟩
    have HF : Hid (Rdr b t (p + 1) w1 ∧ I [] w1) := ⟨r1, F.keep HI.out q1⟩
    clear r1 q1
    go_wp2_with fail
    go_ret
    exact ⟨rfl, fun _ => HF.out, [], HF.out.2⟩
  · obtain ⟨e1, e2⟩ := params_else (tl_le n) e
    rw [e1, e2]
    have HC : Hid (past t p ⟨#[41]⟩ = false) := hc
    clear e e1 e2 hc
    have HG : Hid (Going (tl n) t.data.toList p 0 4 p []) := going_start _ _ _
    generalize hA : pars (tl n) 4 (t.data.toList.drop p) = A at *
    generalize hB : parsP (tl n) 0 4 (t.data.toList.drop p) = B at *
    have HA : Hid (pars (tl n) 4 (t.data.toList.drop p) = A) := hA
    have HB : Hid (parsP (tl n) 0 4 (t.data.toList.drop p) = B) := hB
    clear hA hB
    go_enter Try.func40, Try.ntmps40
    go_wp2_with fail
    refine (take_no HC.out hp ht _ HR.out).mono ?_
    rintro e w1 ⟨rfl, r1, q1⟩
    have HF : Hid (Rdr b t p w1 ∧ I [] w1) := ⟨r1, F.keep HI.out q1⟩
    clear r1 q1
    go_wp2_with fail
    go_loopw [8] (fun i wr => ∃ (j k q : Nat) (ps : List (Nat × ByteArray)), i = .int .i64 j ∧ j + k = 4 ∧ p ≤ q ∧ q ≤ t.size ∧ Hid (Going (tl n) t.data.toList p j k q ps ∧ Rdr b t q wr ∧ I ps wr)) (fun i _ => 4 - (intOf i).toNat)
    case atStart => exact ⟨0, 4, p, [], rfl, rfl, Nat.le_refl _, hp, HG.out, HF.out.1, HF.out.2⟩
    case round =>
      obtain ⟨j, k, q, ps, rfl, hjk, hpq, hqt, HX⟩ := hrel
      cases k with
      | zero =>
        obtain rfl : j = 4 := by omega
        have hz : A = 0 := by rw [← HA.out]; exact going_end HX.out.1
        subst hz
        go_wp2_with fail
        go_ret
        first | exact ⟨rfl, ps, HX.out.2.2⟩ | exact ⟨rfl, fun h => absurd rfl h, ps, HX.out.2.2⟩
      | succ k =>
        have hj4 : j < 4 := by omega
        have HPT : Hid (∀ W, Rdr b t q W → I ps W → Calls Try.prog 45 #[.pointer (some ⟨b, 0, none⟩), .int .i64 j, .func (.func f) #[] c] W fun e w' => e = .returned (.bool (decide (tl n (t.data.toList.drop q) ≠ 0))) ∧
            (tl n (t.data.toList.drop q) ≠ 0 → Rdr b t (q + tl n (t.data.toList.drop q)) w' ∧ I (ps ++ [(j, t.extract q (q + tl n (t.data.toList.drop q)))]) w') ∧ (tl n (t.data.toList.drop q) = 0 → I ps w')) :=
          fun W hW hP => own_part n ih F q j (by omega) t W hW hqt ht (by omega) ps (by rw [HX.out.1.here]; omega) hP
        have hle := tl_le n (t.data.toList.drop q)
        rw [List.length_drop, bsize_list] at hle
        by_cases hm : tl n (t.data.toList.drop q) = 0
        · have hz : A = 0 := by rw [← HA.out]; exact going_none HX.out.1 hm
          subst hz
          have hd : decide (tl n (t.data.toList.drop q) ≠ 0) = false := by simpa using hm
          rw [hd] at HPT
          have HM : Hid (tl n (t.data.toList.drop q) = 0) := hm
          clear hm hd
          go_wp2_with fail
          refine (HPT.out _ HX.out.2.1 HX.out.2.2).mono ?_
          rintro e w2 ⟨rfl, -, i2⟩
          have HI2 : Hid (I ps w2) := i2 HM.out
          clear i2
          go_wp2_with fail
          go_ret
          exact ⟨rfl, fun h => absurd rfl h, ps, HI2.out⟩
        · have hd : decide (tl n (t.data.toList.drop q) ≠ 0) = true := by simpa using hm
          rw [hd] at HPT
          have HM : Hid (tl n (t.data.toList.drop q) ≠ 0) := hm
          have hx := ext_take t q (tl n (t.data.toList.drop q))
          rcases past_one (t := t) (p := q + tl n (t.data.toList.drop q)) 41 with ⟨hc, r, e⟩ | ⟨hc, e⟩
          · obtain ⟨z1, z2⟩ := going_close HX.out.1 hm e
            rw [HA.out] at z1
            rw [HB.out, ← hx] at z2
            generalize tl n (t.data.toList.drop q) = m at *
            have HC2 : Hid (past t (q + m) ⟨#[41]⟩ = true) := hc
            have HZ : Hid (p + A = q + m + 1 ∧ B = ps ++ [(j, t.extract q (q + m))] ∧ A ≠ 0) := ⟨by omega, z2, by omega⟩
            clear hm hd hx hc e z1 z2
            go_wp2_with fail
            refine (HPT.out _ HX.out.2.1 HX.out.2.2).mono ?_
            rintro e w2 ⟨rfl, i2, -⟩
            have HI2 : Hid (Rdr b t (q + m) w2 ∧ I (ps ++ [(j, t.extract q (q + m))]) w2) := i2 HM.out
            clear i2
            go_wp2_with fail
            refine (take_yes HC2.out (by omega) ht _ HI2.out.1).mono ?_
            rintro e w3 ⟨rfl, r3, q3⟩
            have HF3 : Hid (Rdr b t (q + m + 1) w3 ∧ I (ps ++ [(j, t.extract q (q + m))]) w3) := ⟨r3, F.keep HI2.out.2 q3⟩
            clear r3 q3
            go_wp2_with fail
            go_ret
            refine ⟨?_, fun _ => ⟨by rw [HZ.out.1]; exact HF3.out.1, by rw [HZ.out.2.1]; exact HF3.out.2⟩, _, HF3.out.2⟩
            have : decide (A ≠ 0) = true := by simpa using HZ.out.2.2
            rw [this]; rfl
          · have HC2 : Hid (past t (q + tl n (t.data.toList.drop q)) ⟨#[41]⟩ = false) := hc
            rcases past_one (t := t) (p := q + tl n (t.data.toList.drop q)) 44 with ⟨hc', r, e'⟩ | ⟨hc', e'⟩
            · have HG2 : Hid (Going (tl n) t.data.toList p (j + 1) k (q + tl n (t.data.toList.drop q) + 1) (ps ++ [(j, t.extract q (q + tl n (t.data.toList.drop q)))])) := by rw [hx]; exact going_comma HX.out.1 hm e'
              have hlen : q + tl n (t.data.toList.drop q) < t.size := by
                have : (t.data.toList.drop (q + tl n (t.data.toList.drop q))).length = r.length + 1 := by rw [e']; rfl
                rw [List.length_drop, bsize_list] at this
                omega
              have HC3 : Hid (past t (q + tl n (t.data.toList.drop q)) ⟨#[44]⟩ = true) := hc'
              generalize hmm : tl n (t.data.toList.drop q) = m at *
              clear hm hd hx hc e hc' e' hmm
              go_wp2_with fail
              refine (HPT.out _ HX.out.2.1 HX.out.2.2).mono ?_
              rintro e w2 ⟨rfl, i2, -⟩
              have HI2 : Hid (Rdr b t (q + m) w2 ∧ I (ps ++ [(j, t.extract q (q + m))]) w2) := i2 HM.out
              clear i2
              go_wp2_with fail
              refine (take_no HC2.out (by omega) ht _ HI2.out.1).mono ?_
              rintro e w3 ⟨rfl, r3, q3⟩
              have HF3 : Hid (Rdr b t (q + m) w3 ∧ I (ps ++ [(j, t.extract q (q + m))]) w3) := ⟨r3, F.keep HI2.out.2 q3⟩
              clear r3 q3
              go_wp2_with fail
              refine (take_yes HC3.out (by omega) ht _ HF3.out.1).mono ?_
              rintro e w4 ⟨rfl, r4, q4⟩
              have HF4 : Hid (Rdr b t (q + m + 1) w4 ∧ I (ps ++ [(j, t.extract q (q + m))]) w4) := ⟨r4, F.keep HF3.out.2 q4⟩
              clear r4 q4
              go_wp2_with fail
              go_roundw
              case rel => exact ⟨j + 1, k, q + m + 1, _, by go_num, by omega, by omega, by omega, HG2.out, HF4.out.1, HF4.out.2⟩
              case measure => simp [intOf]; omega
            · have hz : A = 0 := by rw [← HA.out]; exact going_else HX.out.1 e e'
              subst hz
              have HC3 : Hid (past t (q + tl n (t.data.toList.drop q)) ⟨#[44]⟩ = false) := hc'
              generalize tl n (t.data.toList.drop q) = m at *
              clear hm hd hx hc e hc' e'
              go_wp2_with fail
              refine (HPT.out _ HX.out.2.1 HX.out.2.2).mono ?_
              rintro e w2 ⟨rfl, i2, -⟩
              have HI2 : Hid (Rdr b t (q + m) w2 ∧ I (ps ++ [(j, t.extract q (q + m))]) w2) := i2 HM.out
              clear i2
              go_wp2_with fail
              refine (take_no HC2.out (by omega) ht _ HI2.out.1).mono ?_
              rintro e w3 ⟨rfl, r3, q3⟩
              have HF3 : Hid (Rdr b t (q + m) w3 ∧ I (ps ++ [(j, t.extract q (q + m))]) w3) := ⟨r3, F.keep HI2.out.2 q3⟩
              clear r3 q3
              go_wp2_with fail
              refine (take_no HC3.out (by omega) ht _ HF3.out.1).mono ?_
              rintro e w4 ⟨rfl, r4, q4⟩
              have HF4 : Hid (I (ps ++ [(j, t.extract q (q + m))]) w4) := F.keep HF3.out.2 q4
              clear r4 q4
              go_wp2_with fail
              go_ret
              exact ⟨rfl, fun h => absurd rfl h, _, HF4.out⟩
end Go.Proofs.Ytmcechcigehjbaa
