/- Blanks put in ahead of a token change no token: the walk of the law. -/
import Derived.Test.YtljdfaoplenloabDoorRwalk
import Derived.Test.YtljdfaoplenloabDoorSpaces3
namespace Go.Proofs.YtljdfaoplenloabDoor
open Go.ChangeShapes Go.WideShapes Go.ChangeAt Go.RowKit
set_option maxRecDepth 100000
set_option linter.unusedSimpArgs false
set_option linter.unusedVariables false
theorem slice_upto (s : ByteArray) (k : Nat) (h : k ≤ s.size) (W : World) : (Instr.slice 9 (.string s) none (some (.int .i64 (k : Int))) none).run Tryd.prog W = .ok (.string (s.extract 0 k)) W := by
  have := run_slice_string_h W 9 s Tryd.underlying9 .i64 k (by omega) (by omega)
  rw [this]
  rfl
theorem blanks_list : ∀ m : Nat, m < 8 → ((⟨#[32, 32, 32, 32, 32, 32, 32, 32]⟩ : ByteArray).extract 0 m).data.toList = List.replicate m 32
  | 0, _ | 1, _ | 2, _ | 3, _ | 4, _ | 5, _ | 6, _ | 7, _ => by decide +kernel
  | _ + 8, h => by omega
theorem spot_far {w : World} {B b n : Nat} {v : Value} {xs : List Value} {cs : Array Value} {fr : Nat × Nat} (hown : w.ownsRow B 34 4 v n xs) (hb : w.heap[b]? = some (.cells cs 28 fr)) : v.ownBlock ≠ some b := by
  rcases hown.2 with ⟨rfl, _⟩ | ⟨g, cap, cur, rfl, _, hg, _⟩
  · simp [Value.ownBlock]
  · intro h
    simp only [Value.ownBlock, Option.some.injEq] at h
    subst h
    rw [hg] at hb
    simp at hb
theorem spot_set {w : World} {b : Nat} {x y z : Value} (h : w.heap[b]? = some (.cells #[x, y, z] 28 (0, 0))) (a c d : Value) : (((w.setCell ⟨b, 0, none⟩ a).setCell ⟨b, 1, none⟩ c).setCell ⟨b, 2, none⟩ d).heap[b]? = some (.cells #[a, c, d] 28 (0, 0)) ∧ b < (((w.setCell ⟨b, 0, none⟩ a).setCell ⟨b, 1, none⟩ c).setCell ⟨b, 2, none⟩ d).heap.size := by
  have h0 : b < w.heap.size := (Array.getElem?_eq_some_iff.1 h).1
  refine ⟨?_, by simp [World.setCell]; exact h0⟩
  simp [World.setCell, Array.getElem?_modify, h]
theorem spot_row {w : World} {B b n : Nat} {v x y z : Value} {xs : List Value} (hown : w.ownsRow B 34 4 v n xs) (h : w.heap[b]? = some (.cells #[x, y, z] 28 (0, 0))) (a c d : Value) : (((w.setCell ⟨b, 0, none⟩ a).setCell ⟨b, 1, none⟩ c).setCell ⟨b, 2, none⟩ d).ownsRow B 34 4 v n xs :=
  have hf := spot_far hown h
  own_kept (own_kept (own_kept hown hf) hf) hf
theorem put_ins (a : ByteArray) (q m : Nat) (hq : q ≤ a.size) (hm : m < 8) : Ins a (a.extract 0 q ++ (⟨#[32, 32, 32, 32, 32, 32, 32, 32]⟩ : ByteArray).extract 0 m ++ a.extract q a.size) q m := by
  refine ⟨hq, ?_⟩
  rw [ByteArray.data_append, ByteArray.data_append, Array.toList_append, Array.toList_append, blanks_list m hm, drop_list, ext_list]
  simp
set_option maxHeartbeats 1000000 in
theorem own_spot (v n : Int) (hv : -9223372036854775808 ≤ v ∧ v ≤ 9223372036854775807) (hn : 0 < n ∧ n ≤ 9223372036854775807) (w : World) : Calls Tryd.prog 11 #[.int .i64 v, .int .i64 n] w fun e w' => (∃ k : Nat, e = .returned (.int .i64 k) ∧ (k : Int) < n) ∧ w' = w := by
  have h1 : v.tmod n < n := Int.tmod_lt_of_pos v hn.1
  have h2 : -n < v.tmod n := by have := Int.lt_tmod_of_pos v hn.1; omega
  obtain ⟨n1, n2⟩ := hn
  have hnz : ¬ n = 0 := by omega
  by_cases hneg : v.tmod n < 0
  · go_enter Tryd.func11, Tryd.ntmps11
    go_wp2
    go_ret
    exact ⟨⟨(v.tmod n + n).toNat, by rw [Int.toNat_of_nonneg (by omega)]; rfl, by omega⟩, rfl⟩
  · go_enter Tryd.func11, Tryd.ntmps11
    go_wp2
    go_ret
    exact ⟨⟨(v.tmod n).toNat, by rw [Int.toNat_of_nonneg (by omega)]; rfl, by omega⟩, rfl⟩
set_option maxHeartbeats 4000000 in
theorem own_spaces (a0 : ByteArray) (a1 a2 : Int) (h0 : a0.size ≤ maxLen) (h1 : -9223372036854775808 ≤ a1 ∧ a1 ≤ 9223372036854775807) (h2 : -9223372036854775808 ≤ a2 ∧ a2 ≤ 9223372036854775807) (w : World) (hlib : Lib3 w) : Calls Tryd.prog 5 #[.string a0, .int .i64 a1, .int .i64 a2] w fun e w' => e = .returned (.bool true) ∧ Below w.heap.size w w' := by
  have HT : Hid (∀ s W, s.size ≤ maxLen → Below w.heap.size w W → Calls Tryd.prog 9 #[.string s] W (Told W (tokR s))) := fun s W hs hW => own_tokens _ W hs (hlib.below hW)
  have H3 : Hid (∀ W, Below w.heap.size w W → Calls Tryd.prog 8 #[] W fun e w' => e = .returned (.bool true) ∧ Below W.heap.size W w') := fun W hW => own_three W (hlib.below hW)
  have HG : Hid (∀ (k : Nat) (h : k < a0.size), a0.data.toList[k]? = some a0[k]) := fun k h => by rw [get_list a0 k h, List.getElem?_eq_getElem]
  have HM0 : Hid (a0.size ≤ maxLen) := h0
  clear hlib h0
  go_enter Tryd.func5, Tryd.ntmps5
  go_wp2_with fail
  refine (HT.out a0 _ HM0.out (Below.refl _ _)).mono ?_
  intro e w1 ht
  cases hR : tokR a0 with
  | bad c ln cl =>
    have hc := tokR_bad hR
    rw [hR] at ht
    obtain ⟨hb1, rfl⟩ := ht
    have t1 : (c != 0) = true := by simpa using hc
    have HB1 : Hid (Below w.heap.size w (w1.alloc (.cells #[.int .i64 c, .int .i64 ln, .int .i64 cl] 28))) := hb1.alloc hb1.size _
    go_wp2_with fail
    refine (H3.out _ HB1.out).mono ?_
    rintro e w2 ⟨rfl, hb2⟩
    go_wp2
    go_ret
    exact ⟨rfl, HB1.out.trans (hb2.mono HB1.out.size)⟩
  | ok s =>
    obtain ⟨hb1, ao, ca, rfl, hown⟩ := told_ok hR ht
    clear ht
    have HB1 : Hid (Below w.heap.size w (w1.alloc (.cells #[.int .i64 0, .int .i64 0, .int .i64 0] 28))) := hb1.alloc hb1.size _
    have HO1 : Hid ((w1.alloc (.cells #[.int .i64 0, .int .i64 0, .int .i64 0] 28)).ownsRow w.heap.size 34 4 (.slice ao s.ts.length ca) s.ts.length (tcells s.ts)) := row_on hown (Nat.le_refl _) ((Below.refl _ _).alloc (Nat.le_refl _) _)
    have hN := row_len hown
    unfold maxLen at hN
    have HR : Hid (tokR a0 = .ok s) := hR
    have HSP : Hid (∀ (n : Int) W, 0 < n ∧ n ≤ 9223372036854775807 → Calls Tryd.prog 11 #[.int .i64 a1, .int .i64 n] W fun e w' => (∃ k : Nat, e = .returned (.int .i64 k) ∧ (k : Int) < n) ∧ w' = W) := fun n W hn => own_spot a1 n h1 hn W
    have HSQ : Hid (∀ W, Calls Tryd.prog 11 #[.int .i64 a2, .int .i64 8] W fun e w' => (∃ k : Nat, e = .returned (.int .i64 k) ∧ (k : Int) < 8) ∧ w' = W) := fun W => own_spot a2 8 h2 (by decide) W
    generalize hts : s.ts = ts at *
    have HTS : Hid (s.ts = ts) := hts
    clear hb1 hown hR hts h1 h2
    by_cases hem : ts.length = 0
    · have t1 : ((ts.length : Int) == 0) = true := by rw [hem]; rfl
      have hnil : ts = [] := List.length_eq_zero_iff.1 hem
      go_wp2_with fail
      refine (H3.out _ HB1.out).mono ?_
      rintro e w2 ⟨rfl, hb2⟩
      go_wp2
      go_ret
      exact ⟨rfl, HB1.out.trans (hb2.mono HB1.out.size)⟩
    have hem' : 0 < ts.length := by omega
    have t1 : ((ts.length : Int) == 0) = false := by simp; intro e; rw [e] at hem'; simp at hem'
    have hnil : ¬ ts = [] := by rintro rfl; simp at hem'
    by_cases hbig : 7992 < a0.size
    · have t2 : decide (7992 < (a0.size : Int)) = true := by simp; omega
      go_wp2_with fail
      refine (H3.out _ HB1.out).mono ?_
      rintro e w2 ⟨rfl, hb2⟩
      go_wp2
      go_ret
      exact ⟨rfl, HB1.out.trans (hb2.mono HB1.out.size)⟩
    have t2 : decide (7992 < (a0.size : Int)) = false := by simp; omega
    have hsm : a0.size ≤ 7992 := by omega
    clear hbig
    go_wp2_with fail
    generalize (w1.alloc (.cells #[.int .i64 0, .int .i64 0, .int .i64 0] 28)) = W1 at *
    refine (HSP.out _ W1 (by omega)).mono ?_
    rintro e w2 ⟨⟨k, rfl, hk⟩, rfl⟩
    have hk' : k < ts.length := by omega
    obtain ⟨t, htk⟩ : ∃ t, ts[k]? = some t := ⟨ts[k], List.getElem?_eq_getElem hk'⟩
    obtain ⟨g, rfl, q0, q1, q2, q3⟩ := row_tok HO1.out htk
    have HTK : Hid (ts[k]? = some t) := htk
    have HB2 : Hid (Below w.heap.size w (w2.alloc (.cells #[.int .i64 t.kind, .string t.text, .int .i64 t.line, .int .i64 t.col] 34))) := HB1.out.alloc HB1.out.size _
    have HO2 : Hid ((w2.alloc (.cells #[.int .i64 t.kind, .string t.text, .int .i64 t.line, .int .i64 t.col] 34)).ownsRow w.heap.size 34 4 (.slice (some ⟨g, 0, none⟩) ts.length ca) ts.length (tcells ts)) := row_on HO1.out (Nat.le_refl _) ((Below.refl _ _).alloc (Nat.le_refl _) _)
    have HV : Hid ((w2.alloc (.cells #[.int .i64 t.kind, .string t.text, .int .i64 t.line, .int .i64 t.col] 34)).heap[w2.heap.size]? = some (.cells #[.int .i64 t.kind, .string t.text, .int .i64 t.line, .int .i64 t.col] 34 (0, 0))) := heap_alloc_new w2 _
    obtain ⟨p, hp, hpl, hins⟩ := tok_spaces HR.out (j := k) (t := t) (by rw [HTS.out]; exact htk)
    rw [HTS.out] at hins
    have HINS : Hid (∀ src' n, Ins a0 src' p n → src'.size ≤ 8000 → ∃ e', tokR src' = .ok e' ∧ SameT ts e'.ts) := hins
    have HP : Hid (plc a0.data.toList p = (t.line, t.col)) := hpl
    have HLE : Hid (∀ k, (plc a0.data.toList k).1 ≤ k + 1 ∧ (plc a0.data.toList k).2 ≤ k + 1) := plc_le _
    have HLT : Hid (∀ q p, q < p → (plc a0.data.toList q).1 < (plc a0.data.toList p).1 ∨ ((plc a0.data.toList q).1 = (plc a0.data.toList p).1 ∧ (plc a0.data.toList q).2 < (plc a0.data.toList p).2)) := plc_lt _
    obtain ⟨tl1, tl2⟩ : t.line ≤ 8001 ∧ t.col ≤ 8001 := by
      have := HLE.out p
      rw [HP.out] at this
      simp at this; omega
    clear htk hk hins hpl
    go_wp2
    clear q0 q1 q2 q3
    generalize (w2.alloc (.cells #[.int .i64 t.kind, .string t.text, .int .i64 t.line, .int .i64 t.col] 34)) = W2 at *
    have c2 : W2.cell? ⟨w2.heap.size, 2, none⟩ = some (.int .i64 t.line) := by simp [World.cell?, HV.out]
    have c3 : W2.cell? ⟨w2.heap.size, 3, none⟩ = some (.int .i64 t.col) := by simp [World.cell?, HV.out]
    go_loopw [10, 11, 12] (fun vl vc va wr => ∃ (q A B : Nat), q ≤ p ∧ vl = .int .i64 A ∧ vc = .int .i64 B ∧ va = .int .i64 q ∧ Hid (wr = W2 ∧ plc a0.data.toList q = (A, B))) (fun _ _ a _ => p - (intOf a).toNat)
    case atStart => exact ⟨0, 1, 1, Nat.zero_le _, rfl, rfl, rfl, rfl, rfl⟩
    case round =>
      obtain ⟨q, A, B, hq, rfl, rfl, rfl, HQ⟩ := hrel
      obtain rfl := HQ.out.1
      obtain ⟨ha, hb⟩ : A ≤ q + 1 ∧ B ≤ q + 1 := by
        have := HLE.out q
        rw [HQ.out.2] at this
        exact this
      by_cases hqp : q < p
      · have hqs : q < a0.size := by omega
        have hord := HLT.out q p hqp
        rw [HQ.out.2, HP.out] at hord
        simp only at hord
        have hlc : A < t.line ∨ (t.line ≤ A ∧ B < t.col) := by omega
        clear hord
        by_cases h10 : (a0[q].toNat : Int) = 10
        · have HN : Hid (plc a0.data.toList (q + 1) = (A + 1, 1)) := by
            show _ = _
            rw [plc_nl (by rw [HG.out q (by omega)]; congr 1; apply UInt8.toNat_inj.1; simp; omega), HQ.out.2]
          rcases hlc with h1 | ⟨h1, h2⟩
          · go_wp2
            exact ⟨⟨q + 1, A + 1, 1, by omega, by simp, rfl, by simp, trivial, HN.out⟩, by simp [intOf]; omega⟩
          · go_wp2
            exact ⟨⟨q + 1, A + 1, 1, by omega, by simp, rfl, by simp, trivial, HN.out⟩, by simp [intOf]; omega⟩
        · have HN : Hid (plc a0.data.toList (q + 1) = (A, B + 1)) := by
            show _ = _
            rw [plc_on (by rw [HG.out q (by omega)]; intro e; simp only [Option.some.injEq] at e; rw [e] at h10; exact h10 rfl), HQ.out.2]
          rcases hlc with h1 | ⟨h1, h2⟩
          · go_wp2
            exact ⟨⟨q + 1, A, B + 1, by omega, rfl, by simp, by simp, trivial, HN.out⟩, by simp [intOf]; omega⟩
          · go_wp2
            exact ⟨⟨q + 1, A, B + 1, by omega, rfl, by simp, by simp, trivial, HN.out⟩, by simp [intOf]; omega⟩
      · obtain rfl : q = p := by omega
        obtain ⟨rfl, rfl⟩ : A = t.line ∧ B = t.col := by
          have := HQ.out.2.symm.trans HP.out
          simpa using this
        by_cases hqs : q < a0.size
        · have hlt0 : (q : Int) < (a0.size : Int) := by omega
          go_wp2_with fail
          refine (HSQ.out _).mono ?_
          rintro e w3 ⟨⟨m, rfl, hm⟩, rfl⟩
          have hm' : m < 8 := by omega
          have hi := put_ins a0 q m hp hm'
          obtain ⟨s', hR', hsame⟩ := HINS.out _ m hi (by rw [hi.size]; omega)
          have HXS : Hid ((a0.extract 0 q ++ (⟨#[32, 32, 32, 32, 32, 32, 32, 32]⟩ : ByteArray).extract 0 m ++ a0.extract q a0.size).size ≤ maxLen) := by show _ ≤ _; rw [hi.size]; unfold maxLen; omega
          have HRX : Hid (tokR (a0.extract 0 q ++ (⟨#[32, 32, 32, 32, 32, 32, 32, 32]⟩ : ByteArray).extract 0 m ++ a0.extract q a0.size) = .ok s') := hR'
          have HSM : Hid (SameT ts s'.ts) := hsame
          have hsl1 := slice_upto (⟨#[32, 32, 32, 32, 32, 32, 32, 32]⟩ : ByteArray) m (by show m ≤ 8; omega)
          have hsl2 := slice_upto a0 q hp
          have hsl3 := slice_from a0 q hp
          have hz1 : (a0.extract 0 q).size ≤ 7992 := by rw [ByteArray.size_extract]; omega
          have hz2 : ((⟨#[32, 32, 32, 32, 32, 32, 32, 32]⟩ : ByteArray).extract 0 m).size ≤ 8 := by rw [ByteArray.size_extract]; omega
          have hz3 : (a0.extract q a0.size).size ≤ 7992 := by rw [ByteArray.size_extract]; omega
          clear hi hR' hsame
          go_wp2_with fail
          generalize hE1 : a0.extract 0 q = X1 at *
          generalize hE2 : (⟨#[32, 32, 32, 32, 32, 32, 32, 32]⟩ : ByteArray).extract 0 m = X2 at *
          generalize hE3 : a0.extract q a0.size = X3 at *
          clear hE1 hE2 hE3
          have hn1 : ¬ 9223372036854775807 < X1.size + X2.size := by omega
          have hn2 : ¬ 9223372036854775807 < X1.size + X2.size + X3.size := by omega
          refine wp_region_any (by kernel_rfl) ?_
          refine wpAny_take (i := 0) rfl (by kernel_rfl) (by kernel_rfl) (by kernel_rfl) (fun _ _ _ h => h) (Or.inl ⟨by rfl, fun w => (by go_simp; try with_reducible rfl)⟩) ?_
          simp only [Act.put, List.setIfInBounds_toArray, List.set_cons_zero, List.set_cons_succ]
          refine wpAny_take (i := 1) rfl (by kernel_rfl) (by kernel_rfl) (by kernel_rfl) (fun _ _ _ h => h) (Or.inl ⟨by rfl, fun w => (by go_simp; try with_reducible rfl)⟩) ?_
          simp only [Act.put, List.setIfInBounds_toArray, List.set_cons_zero, List.set_cons_succ]
          refine wpAny_take (i := 2) rfl (by kernel_rfl) (by kernel_rfl) (by kernel_rfl) (fun _ _ _ h => h) (Or.inl ⟨by rfl, fun w => (by go_simp; try with_reducible rfl)⟩) ?_
          simp only [Act.put, List.setIfInBounds_toArray, List.set_cons_zero, List.set_cons_succ]
          refine wpAny_take (i := 3) rfl (by kernel_rfl) (by kernel_rfl) (by kernel_rfl) (fun _ _ _ h => h) (Or.inl ⟨by rfl, fun w => (by go_simp; try with_reducible rfl)⟩) ?_
          simp only [Act.put, List.setIfInBounds_toArray, List.set_cons_zero, List.set_cons_succ]
          refine wpAny_take (i := 4) rfl (by kernel_rfl) (by kernel_rfl) (by kernel_rfl) (fun _ _ _ h => h) (Or.inl ⟨by rfl, fun w => (by go_simp; try with_reducible rfl)⟩) ?_
          simp only [Act.put, List.setIfInBounds_toArray, List.set_cons_zero, List.set_cons_succ]
          refine wpAny_take (i := 5) rfl (by kernel_rfl) (by kernel_rfl) (by kernel_rfl) (fun _ _ _ h => h) (Or.inl ⟨by rfl, fun w => (by go_simp; try with_reducible rfl)⟩) ?_
          simp only [Act.put, List.setIfInBounds_toArray, List.set_cons_zero, List.set_cons_succ]
          refine wpAny_take (i := 6) rfl (by kernel_rfl) (by kernel_rfl) (by kernel_rfl) (fun _ _ _ h => h) (Or.inl ⟨by rfl, fun w => (by go_simp; try with_reducible rfl)⟩) ?_
          simp only [Act.put, List.setIfInBounds_toArray, List.set_cons_zero, List.set_cons_succ]
          refine wpAny_take (i := 7) rfl (by kernel_rfl) (by kernel_rfl) (by kernel_rfl) (fun _ _ _ h => h) (Or.inl ⟨by rfl, fun w => (by go_simp; try with_reducible rfl)⟩) ?_
          simp only [Act.put, List.setIfInBounds_toArray, List.set_cons_zero, List.set_cons_succ]
          refine wpAny_take (i := 8) rfl (by kernel_rfl) (by kernel_rfl) (by kernel_rfl) (fun _ _ _ h => h) (Or.inl ⟨by rfl, fun w => (by go_simp; try with_reducible rfl)⟩) ?_
          simp only [Act.put, List.setIfInBounds_toArray, List.set_cons_zero, List.set_cons_succ]
          refine wpAny_ready (rs := [9, 13]) (by kernel_rfl) (by simp) ?_
          refine AllReady.cons rfl (fun K hK => ?_) (AllReady.cons rfl (fun K hK => ?_) AllReady.nil)
          · go_simp
            refine (HT.out _ _ HXS.out (below_dn HB2.out 1)).mono ?_
            intro e w4 ht4
            obtain ⟨hb4, bo, cb, rfl, hown4⟩ := told_ok HRX.out ht4
            have HB4 : Hid (Below w.heap.size w w4) := (below_dn HB2.out 1).trans (hb4.mono HB2.out.size)
            have HO4 : Hid (w4.ownsRow w.heap.size 34 4 (.slice (some ⟨g, 0, none⟩) ts.length ca) ts.length (tcells ts)) := row_on (w := w3.drewN 1) HO2.out (Nat.le_refl _) hb4
            have HO4b : Hid (w4.ownsRow w.heap.size 34 4 (.slice bo s'.ts.length cb) s'.ts.length (tcells s'.ts)) := row_on hown4 HB2.out.size (Below.refl _ _)
            clear ht4 hb4 hown4
            refine hK _ _ ?_
            clear hK K
            try simp only [Act.put, List.setIfInBounds_toArray, List.set_cons_zero, List.set_cons_succ]
            refine wpAny_take (i := 10) rfl (by kernel_rfl) (by kernel_rfl) (by kernel_rfl) (fun _ _ _ h => h) (Or.inl ⟨by rfl, fun w => (by go_simp; try with_reducible rfl)⟩) ?_
            simp only [Act.put, List.setIfInBounds_toArray, List.set_cons_zero, List.set_cons_succ]
            refine wpAny_take (i := 11) rfl (by kernel_rfl) (by kernel_rfl) (by kernel_rfl) (fun _ _ _ h => h) (Or.inl ⟨by rfl, fun w => (by go_simp; try with_reducible rfl)⟩) ?_
            simp only [Act.put, List.setIfInBounds_toArray, List.set_cons_zero, List.set_cons_succ]
            refine wpAny_take (i := 12) rfl (by kernel_rfl) (by kernel_rfl) (by kernel_rfl) (fun _ _ _ h => h) (Or.inl ⟨by rfl, fun w => (by go_simp; try with_reducible rfl)⟩) ?_
            simp only [Act.put, List.setIfInBounds_toArray, List.set_cons_zero, List.set_cons_succ]
            refine wpAny_ready (rs := [13]) (by kernel_rfl) (by simp) ?_
            refine AllReady.cons rfl (fun K hK => ?_) AllReady.nil
            go_simp
            refine hK _ _ ?_
            clear hK K
            try simp only [Act.put, List.setIfInBounds_toArray, List.set_cons_zero, List.set_cons_succ]
            refine wpAny_take (i := 14) rfl (by kernel_rfl) (by kernel_rfl) (by kernel_rfl) (fun _ _ _ h => h) (Or.inl ⟨by rfl, fun w => (by go_simp; try with_reducible rfl)⟩) ?_
            simp only [Act.put, List.setIfInBounds_toArray, List.set_cons_zero, List.set_cons_succ]
            refine wpAny_ready (rs := [15]) (by kernel_rfl) (by simp) ?_
            refine AllReady.cons rfl (fun K hK => ?_) AllReady.nil
            go_simp
            refine hK _ _ ?_
            clear hK K
            try simp only [Act.put, List.setIfInBounds_toArray, List.set_cons_zero, List.set_cons_succ]
            refine wpAny_done (by kernel_rfl) ?_ _
            have HB5 : Hid (Below w.heap.size w (w4.alloc (.cells #[.int .i64 0, .int .i64 0, .int .i64 0] 28))) := HB4.out.alloc HB4.out.size _
            have HO5 : Hid ((w4.alloc (.cells #[.int .i64 0, .int .i64 0, .int .i64 0] 28)).ownsRow w.heap.size 34 4 (.slice (some ⟨g, 0, none⟩) ts.length ca) ts.length (tcells ts)) := row_on HO4.out (Nat.le_refl _) ((Below.refl _ _).alloc (Nat.le_refl _) _)
            have HO6 : Hid ((w4.alloc (.cells #[.int .i64 0, .int .i64 0, .int .i64 0] 28)).ownsRow w.heap.size 34 4 (.slice bo s'.ts.length cb) s'.ts.length (tcells s'.ts)) := row_on HO4b.out (Nat.le_refl _) ((Below.refl _ _).alloc (Nat.le_refl _) _)
            have HC5 : Hid ((w4.alloc (.cells #[.int .i64 0, .int .i64 0, .int .i64 0] 28)).heap[w4.heap.size]? = some (.cells #[.int .i64 0, .int .i64 0, .int .i64 0] 28 (0, 0)) ∧ w4.heap.size < (w4.alloc (.cells #[.int .i64 0, .int .i64 0, .int .i64 0] 28)).heap.size) := spot_new _ _ _ _
            generalize (w4.alloc (.cells #[.int .i64 0, .int .i64 0, .int .i64 0] 28)) = W5 at *
            go_wp2_with fail
            refine (H3.out _ HB5.out).mono ?_
            rintro e w6 ⟨rfl, hb6⟩
            have HB6 : Hid (Below w.heap.size w w6) := HB5.out.trans (hb6.mono HB5.out.size)
            have x1 := (hb6.block _ HC5.out.2).trans HC5.out.1
            have c1 : w6.cell? ⟨w4.heap.size, 0, none⟩ = some (.int .i64 0) := by simp [World.cell?, x1]
            have HAL : Hid (Calls Tryd.prog 10 #[.slice (some ⟨g, 0, none⟩) ts.length ca, .slice bo s'.ts.length cb, .bool false] w6 fun e w' => e = .returned (.bool true) ∧ ∃ m, w' = w6.drewN m) := own_alike ts s'.ts w.heap.size _ _ bo ca cb HSM.out (row_on HO5.out (Nat.le_refl _) hb6) (row_on HO6.out (Nat.le_refl _) hb6)
            clear x1 hb6
            go_wp2_with fail
            refine HAL.out.mono ?_
            rintro e w7 ⟨rfl, m7, rfl⟩
            go_wp2
            go_ret
            exact ⟨rfl, below_dn HB6.out m7⟩
          · go_simp
            refine hK _ _ ?_
            clear hK K
            try simp only [Act.put, List.setIfInBounds_toArray, List.set_cons_zero, List.set_cons_succ]
            refine wpAny_ready (rs := [9]) (by kernel_rfl) (by simp) ?_
            refine AllReady.cons rfl (fun K hK => ?_) AllReady.nil
            go_simp
            have HBA : Hid (Below w.heap.size w ((w3.drewN 1).alloc (.cells #[.int .i64 0, .int .i64 0, .int .i64 0] 28))) := (below_dn HB2.out 1).alloc HB2.out.size _
            have HCA : Hid (((w3.drewN 1).alloc (.cells #[.int .i64 0, .int .i64 0, .int .i64 0] 28)).heap[w3.heap.size]? = some (.cells #[.int .i64 0, .int .i64 0, .int .i64 0] 28 (0, 0)) ∧ w3.heap.size < ((w3.drewN 1).alloc (.cells #[.int .i64 0, .int .i64 0, .int .i64 0] 28)).heap.size) := spot_new (w3.drewN 1) _ _ _
            have HOA : Hid (((w3.drewN 1).alloc (.cells #[.int .i64 0, .int .i64 0, .int .i64 0] 28)).ownsRow w.heap.size 34 4 (.slice (some ⟨g, 0, none⟩) ts.length ca) ts.length (tcells ts)) := row_on (w := w3.drewN 1) HO2.out (Nat.le_refl _) ((Below.refl _ _).alloc (Nat.le_refl _) _)
            refine (HT.out _ _ HXS.out HBA.out).mono ?_
            intro e w4 ht4
            obtain ⟨hb4, bo, cb, rfl, hown4⟩ := told_ok HRX.out ht4
            have HB4 : Hid (Below w.heap.size w w4) := HBA.out.trans (hb4.mono HBA.out.size)
            have HO4 : Hid (w4.ownsRow w.heap.size 34 4 (.slice (some ⟨g, 0, none⟩) ts.length ca) ts.length (tcells ts)) := row_on HOA.out (Nat.le_refl _) hb4
            have HO4b : Hid (w4.ownsRow w.heap.size 34 4 (.slice bo s'.ts.length cb) s'.ts.length (tcells s'.ts)) := row_on hown4 HBA.out.size (Below.refl _ _)
            have HC4 : Hid (w4.heap[w3.heap.size]? = some (.cells #[.int .i64 0, .int .i64 0, .int .i64 0] 28 (0, 0))) := (hb4.block _ HCA.out.2).trans HCA.out.1
            have d0 : w4.cell? ⟨w3.heap.size, 0, none⟩ = some (.int .i64 0) := by have := HC4.out; simp [World.cell?, this]
            have d1 : w4.cell? ⟨w3.heap.size, 1, none⟩ = some (.int .i64 0) := by have := HC4.out; simp [World.cell?, this]
            have d2 : w4.cell? ⟨w3.heap.size, 2, none⟩ = some (.int .i64 0) := by have := HC4.out; simp [World.cell?, this]
            have df : ∀ j, w4.frozen? ⟨w3.heap.size, j, none⟩ = false := fun j => by have := HC4.out; simp [World.frozen?, this]
            clear ht4 hb4 hown4
            refine hK _ _ ?_
            clear hK K
            try simp only [Act.put, List.setIfInBounds_toArray, List.set_cons_zero, List.set_cons_succ]
            refine wpAny_take (i := 10) rfl (by kernel_rfl) (by kernel_rfl) (by kernel_rfl) (fun _ _ _ h => h) (Or.inl ⟨by rfl, fun w => (by go_simp; try with_reducible rfl)⟩) ?_
            simp only [Act.put, List.setIfInBounds_toArray, List.set_cons_zero, List.set_cons_succ]
            refine wpAny_take (i := 11) rfl (by kernel_rfl) (by kernel_rfl) (by kernel_rfl) (fun _ _ _ h => h) (Or.inl ⟨by rfl, fun w => (by go_simp; try with_reducible rfl)⟩) ?_
            simp only [Act.put, List.setIfInBounds_toArray, List.set_cons_zero, List.set_cons_succ]
            refine wpAny_take (i := 12) rfl (by kernel_rfl) (by kernel_rfl) (by kernel_rfl) (fun _ _ _ h => h) (Or.inl ⟨by rfl, fun w => (by go_simp; try with_reducible rfl)⟩) ?_
            simp only [Act.put, List.setIfInBounds_toArray, List.set_cons_zero, List.set_cons_succ]
            refine wpAny_take (i := 14) rfl (by kernel_rfl) (by kernel_rfl) (by kernel_rfl) (fun _ _ _ h => h) (Or.inl ⟨by rfl, fun w => (by go_simp; try with_reducible rfl)⟩) ?_
            simp only [Act.put, List.setIfInBounds_toArray, List.set_cons_zero, List.set_cons_succ]
            refine wpAny_ready (rs := [15]) (by kernel_rfl) (by simp) ?_
            refine AllReady.cons rfl (fun K hK => ?_) AllReady.nil
            go_simp
            refine hK _ _ ?_
            clear hK K
            try simp only [Act.put, List.setIfInBounds_toArray, List.set_cons_zero, List.set_cons_succ]
            refine wpAny_done (by kernel_rfl) ?_ _
            have HB5 : Hid (Below w.heap.size w (((w4.setCell ⟨w3.heap.size, 0, none⟩ (.int .i64 0)).setCell ⟨w3.heap.size, 1, none⟩ (.int .i64 0)).setCell ⟨w3.heap.size, 2, none⟩ (.int .i64 0))) := ((HB4.out.setCell HB2.out.size _).setCell HB2.out.size _).setCell HB2.out.size _
            have HO5 : Hid ((((w4.setCell ⟨w3.heap.size, 0, none⟩ (.int .i64 0)).setCell ⟨w3.heap.size, 1, none⟩ (.int .i64 0)).setCell ⟨w3.heap.size, 2, none⟩ (.int .i64 0)).ownsRow w.heap.size 34 4 (.slice (some ⟨g, 0, none⟩) ts.length ca) ts.length (tcells ts)) := spot_row HO4.out HC4.out _ _ _
            have HO6 : Hid ((((w4.setCell ⟨w3.heap.size, 0, none⟩ (.int .i64 0)).setCell ⟨w3.heap.size, 1, none⟩ (.int .i64 0)).setCell ⟨w3.heap.size, 2, none⟩ (.int .i64 0)).ownsRow w.heap.size 34 4 (.slice bo s'.ts.length cb) s'.ts.length (tcells s'.ts)) := spot_row HO4b.out HC4.out _ _ _
            have HC5 : Hid ((((w4.setCell ⟨w3.heap.size, 0, none⟩ (.int .i64 0)).setCell ⟨w3.heap.size, 1, none⟩ (.int .i64 0)).setCell ⟨w3.heap.size, 2, none⟩ (.int .i64 0)).heap[w3.heap.size]? = some (.cells #[.int .i64 0, .int .i64 0, .int .i64 0] 28 (0, 0)) ∧ w3.heap.size < (((w4.setCell ⟨w3.heap.size, 0, none⟩ (.int .i64 0)).setCell ⟨w3.heap.size, 1, none⟩ (.int .i64 0)).setCell ⟨w3.heap.size, 2, none⟩ (.int .i64 0)).heap.size) := spot_set HC4.out _ _ _
            clear d0 d1 d2 df
            generalize (((w4.setCell ⟨w3.heap.size, 0, none⟩ (.int .i64 0)).setCell ⟨w3.heap.size, 1, none⟩ (.int .i64 0)).setCell ⟨w3.heap.size, 2, none⟩ (.int .i64 0)) = W5 at *
            go_wp2_with fail
            refine (H3.out _ HB5.out).mono ?_
            rintro e w6 ⟨rfl, hb6⟩
            have HB6 : Hid (Below w.heap.size w w6) := HB5.out.trans (hb6.mono HB5.out.size)
            have x1 := (hb6.block _ HC5.out.2).trans HC5.out.1
            have c1 : w6.cell? ⟨w3.heap.size, 0, none⟩ = some (.int .i64 0) := by simp [World.cell?, x1]
            have HAL : Hid (Calls Tryd.prog 10 #[.slice (some ⟨g, 0, none⟩) ts.length ca, .slice bo s'.ts.length cb, .bool false] w6 fun e w' => e = .returned (.bool true) ∧ ∃ m, w' = w6.drewN m) := own_alike ts s'.ts w.heap.size _ _ bo ca cb HSM.out (row_on HO5.out (Nat.le_refl _) hb6) (row_on HO6.out (Nat.le_refl _) hb6)
            clear x1 hb6
            go_wp2_with fail
            refine HAL.out.mono ?_
            rintro e w7 ⟨rfl, m7, rfl⟩
            go_wp2
            go_ret
            exact ⟨rfl, below_dn HB6.out m7⟩
        · have hlt0 : ¬ (q : Int) < (a0.size : Int) := by omega
          go_wp2_with fail
          refine (HSQ.out _).mono ?_
          rintro e w3 ⟨⟨m, rfl, hm⟩, rfl⟩
          have hm' : m < 8 := by omega
          have hi := put_ins a0 q m hp hm'
          obtain ⟨s', hR', hsame⟩ := HINS.out _ m hi (by rw [hi.size]; omega)
          have HXS : Hid ((a0.extract 0 q ++ (⟨#[32, 32, 32, 32, 32, 32, 32, 32]⟩ : ByteArray).extract 0 m ++ a0.extract q a0.size).size ≤ maxLen) := by show _ ≤ _; rw [hi.size]; unfold maxLen; omega
          have HRX : Hid (tokR (a0.extract 0 q ++ (⟨#[32, 32, 32, 32, 32, 32, 32, 32]⟩ : ByteArray).extract 0 m ++ a0.extract q a0.size) = .ok s') := hR'
          have HSM : Hid (SameT ts s'.ts) := hsame
          have hsl1 := slice_upto (⟨#[32, 32, 32, 32, 32, 32, 32, 32]⟩ : ByteArray) m (by show m ≤ 8; omega)
          have hsl2 := slice_upto a0 q hp
          have hsl3 := slice_from a0 q hp
          have hz1 : (a0.extract 0 q).size ≤ 7992 := by rw [ByteArray.size_extract]; omega
          have hz2 : ((⟨#[32, 32, 32, 32, 32, 32, 32, 32]⟩ : ByteArray).extract 0 m).size ≤ 8 := by rw [ByteArray.size_extract]; omega
          have hz3 : (a0.extract q a0.size).size ≤ 7992 := by rw [ByteArray.size_extract]; omega
          clear hi hR' hsame
          go_wp2_with fail
          generalize hE1 : a0.extract 0 q = X1 at *
          generalize hE2 : (⟨#[32, 32, 32, 32, 32, 32, 32, 32]⟩ : ByteArray).extract 0 m = X2 at *
          generalize hE3 : a0.extract q a0.size = X3 at *
          clear hE1 hE2 hE3
          have hn1 : ¬ 9223372036854775807 < X1.size + X2.size := by omega
          have hn2 : ¬ 9223372036854775807 < X1.size + X2.size + X3.size := by omega
          refine wp_region_any (by kernel_rfl) ?_
          refine wpAny_take (i := 0) rfl (by kernel_rfl) (by kernel_rfl) (by kernel_rfl) (fun _ _ _ h => h) (Or.inl ⟨by rfl, fun w => (by go_simp; try with_reducible rfl)⟩) ?_
          simp only [Act.put, List.setIfInBounds_toArray, List.set_cons_zero, List.set_cons_succ]
          refine wpAny_take (i := 1) rfl (by kernel_rfl) (by kernel_rfl) (by kernel_rfl) (fun _ _ _ h => h) (Or.inl ⟨by rfl, fun w => (by go_simp; try with_reducible rfl)⟩) ?_
          simp only [Act.put, List.setIfInBounds_toArray, List.set_cons_zero, List.set_cons_succ]
          refine wpAny_take (i := 2) rfl (by kernel_rfl) (by kernel_rfl) (by kernel_rfl) (fun _ _ _ h => h) (Or.inl ⟨by rfl, fun w => (by go_simp; try with_reducible rfl)⟩) ?_
          simp only [Act.put, List.setIfInBounds_toArray, List.set_cons_zero, List.set_cons_succ]
          refine wpAny_take (i := 3) rfl (by kernel_rfl) (by kernel_rfl) (by kernel_rfl) (fun _ _ _ h => h) (Or.inl ⟨by rfl, fun w => (by go_simp; try with_reducible rfl)⟩) ?_
          simp only [Act.put, List.setIfInBounds_toArray, List.set_cons_zero, List.set_cons_succ]
          refine wpAny_take (i := 4) rfl (by kernel_rfl) (by kernel_rfl) (by kernel_rfl) (fun _ _ _ h => h) (Or.inl ⟨by rfl, fun w => (by go_simp; try with_reducible rfl)⟩) ?_
          simp only [Act.put, List.setIfInBounds_toArray, List.set_cons_zero, List.set_cons_succ]
          refine wpAny_take (i := 5) rfl (by kernel_rfl) (by kernel_rfl) (by kernel_rfl) (fun _ _ _ h => h) (Or.inl ⟨by rfl, fun w => (by go_simp; try with_reducible rfl)⟩) ?_
          simp only [Act.put, List.setIfInBounds_toArray, List.set_cons_zero, List.set_cons_succ]
          refine wpAny_take (i := 6) rfl (by kernel_rfl) (by kernel_rfl) (by kernel_rfl) (fun _ _ _ h => h) (Or.inl ⟨by rfl, fun w => (by go_simp; try with_reducible rfl)⟩) ?_
          simp only [Act.put, List.setIfInBounds_toArray, List.set_cons_zero, List.set_cons_succ]
          refine wpAny_take (i := 7) rfl (by kernel_rfl) (by kernel_rfl) (by kernel_rfl) (fun _ _ _ h => h) (Or.inl ⟨by rfl, fun w => (by go_simp; try with_reducible rfl)⟩) ?_
          simp only [Act.put, List.setIfInBounds_toArray, List.set_cons_zero, List.set_cons_succ]
          refine wpAny_take (i := 8) rfl (by kernel_rfl) (by kernel_rfl) (by kernel_rfl) (fun _ _ _ h => h) (Or.inl ⟨by rfl, fun w => (by go_simp; try with_reducible rfl)⟩) ?_
          simp only [Act.put, List.setIfInBounds_toArray, List.set_cons_zero, List.set_cons_succ]
          refine wpAny_ready (rs := [9, 13]) (by kernel_rfl) (by simp) ?_
          refine AllReady.cons rfl (fun K hK => ?_) (AllReady.cons rfl (fun K hK => ?_) AllReady.nil)
          · go_simp
            refine (HT.out _ _ HXS.out (below_dn HB2.out 1)).mono ?_
            intro e w4 ht4
            obtain ⟨hb4, bo, cb, rfl, hown4⟩ := told_ok HRX.out ht4
            have HB4 : Hid (Below w.heap.size w w4) := (below_dn HB2.out 1).trans (hb4.mono HB2.out.size)
            have HO4 : Hid (w4.ownsRow w.heap.size 34 4 (.slice (some ⟨g, 0, none⟩) ts.length ca) ts.length (tcells ts)) := row_on (w := w3.drewN 1) HO2.out (Nat.le_refl _) hb4
            have HO4b : Hid (w4.ownsRow w.heap.size 34 4 (.slice bo s'.ts.length cb) s'.ts.length (tcells s'.ts)) := row_on hown4 HB2.out.size (Below.refl _ _)
            clear ht4 hb4 hown4
            refine hK _ _ ?_
            clear hK K
            try simp only [Act.put, List.setIfInBounds_toArray, List.set_cons_zero, List.set_cons_succ]
            refine wpAny_take (i := 10) rfl (by kernel_rfl) (by kernel_rfl) (by kernel_rfl) (fun _ _ _ h => h) (Or.inl ⟨by rfl, fun w => (by go_simp; try with_reducible rfl)⟩) ?_
            simp only [Act.put, List.setIfInBounds_toArray, List.set_cons_zero, List.set_cons_succ]
            refine wpAny_take (i := 11) rfl (by kernel_rfl) (by kernel_rfl) (by kernel_rfl) (fun _ _ _ h => h) (Or.inl ⟨by rfl, fun w => (by go_simp; try with_reducible rfl)⟩) ?_
            simp only [Act.put, List.setIfInBounds_toArray, List.set_cons_zero, List.set_cons_succ]
            refine wpAny_take (i := 12) rfl (by kernel_rfl) (by kernel_rfl) (by kernel_rfl) (fun _ _ _ h => h) (Or.inl ⟨by rfl, fun w => (by go_simp; try with_reducible rfl)⟩) ?_
            simp only [Act.put, List.setIfInBounds_toArray, List.set_cons_zero, List.set_cons_succ]
            refine wpAny_ready (rs := [13]) (by kernel_rfl) (by simp) ?_
            refine AllReady.cons rfl (fun K hK => ?_) AllReady.nil
            go_simp
            refine hK _ _ ?_
            clear hK K
            try simp only [Act.put, List.setIfInBounds_toArray, List.set_cons_zero, List.set_cons_succ]
            refine wpAny_take (i := 14) rfl (by kernel_rfl) (by kernel_rfl) (by kernel_rfl) (fun _ _ _ h => h) (Or.inl ⟨by rfl, fun w => (by go_simp; try with_reducible rfl)⟩) ?_
            simp only [Act.put, List.setIfInBounds_toArray, List.set_cons_zero, List.set_cons_succ]
            refine wpAny_ready (rs := [15]) (by kernel_rfl) (by simp) ?_
            refine AllReady.cons rfl (fun K hK => ?_) AllReady.nil
            go_simp
            refine hK _ _ ?_
            clear hK K
            try simp only [Act.put, List.setIfInBounds_toArray, List.set_cons_zero, List.set_cons_succ]
            refine wpAny_done (by kernel_rfl) ?_ _
            have HB5 : Hid (Below w.heap.size w (w4.alloc (.cells #[.int .i64 0, .int .i64 0, .int .i64 0] 28))) := HB4.out.alloc HB4.out.size _
            have HO5 : Hid ((w4.alloc (.cells #[.int .i64 0, .int .i64 0, .int .i64 0] 28)).ownsRow w.heap.size 34 4 (.slice (some ⟨g, 0, none⟩) ts.length ca) ts.length (tcells ts)) := row_on HO4.out (Nat.le_refl _) ((Below.refl _ _).alloc (Nat.le_refl _) _)
            have HO6 : Hid ((w4.alloc (.cells #[.int .i64 0, .int .i64 0, .int .i64 0] 28)).ownsRow w.heap.size 34 4 (.slice bo s'.ts.length cb) s'.ts.length (tcells s'.ts)) := row_on HO4b.out (Nat.le_refl _) ((Below.refl _ _).alloc (Nat.le_refl _) _)
            have HC5 : Hid ((w4.alloc (.cells #[.int .i64 0, .int .i64 0, .int .i64 0] 28)).heap[w4.heap.size]? = some (.cells #[.int .i64 0, .int .i64 0, .int .i64 0] 28 (0, 0)) ∧ w4.heap.size < (w4.alloc (.cells #[.int .i64 0, .int .i64 0, .int .i64 0] 28)).heap.size) := spot_new _ _ _ _
            generalize (w4.alloc (.cells #[.int .i64 0, .int .i64 0, .int .i64 0] 28)) = W5 at *
            go_wp2_with fail
            refine (H3.out _ HB5.out).mono ?_
            rintro e w6 ⟨rfl, hb6⟩
            have HB6 : Hid (Below w.heap.size w w6) := HB5.out.trans (hb6.mono HB5.out.size)
            have x1 := (hb6.block _ HC5.out.2).trans HC5.out.1
            have c1 : w6.cell? ⟨w4.heap.size, 0, none⟩ = some (.int .i64 0) := by simp [World.cell?, x1]
            have HAL : Hid (Calls Tryd.prog 10 #[.slice (some ⟨g, 0, none⟩) ts.length ca, .slice bo s'.ts.length cb, .bool false] w6 fun e w' => e = .returned (.bool true) ∧ ∃ m, w' = w6.drewN m) := own_alike ts s'.ts w.heap.size _ _ bo ca cb HSM.out (row_on HO5.out (Nat.le_refl _) hb6) (row_on HO6.out (Nat.le_refl _) hb6)
            clear x1 hb6
            go_wp2_with fail
            refine HAL.out.mono ?_
            rintro e w7 ⟨rfl, m7, rfl⟩
            go_wp2
            go_ret
            exact ⟨rfl, below_dn HB6.out m7⟩
          · go_simp
            refine hK _ _ ?_
            clear hK K
            try simp only [Act.put, List.setIfInBounds_toArray, List.set_cons_zero, List.set_cons_succ]
            refine wpAny_ready (rs := [9]) (by kernel_rfl) (by simp) ?_
            refine AllReady.cons rfl (fun K hK => ?_) AllReady.nil
            go_simp
            have HBA : Hid (Below w.heap.size w ((w3.drewN 1).alloc (.cells #[.int .i64 0, .int .i64 0, .int .i64 0] 28))) := (below_dn HB2.out 1).alloc HB2.out.size _
            have HCA : Hid (((w3.drewN 1).alloc (.cells #[.int .i64 0, .int .i64 0, .int .i64 0] 28)).heap[w3.heap.size]? = some (.cells #[.int .i64 0, .int .i64 0, .int .i64 0] 28 (0, 0)) ∧ w3.heap.size < ((w3.drewN 1).alloc (.cells #[.int .i64 0, .int .i64 0, .int .i64 0] 28)).heap.size) := spot_new (w3.drewN 1) _ _ _
            have HOA : Hid (((w3.drewN 1).alloc (.cells #[.int .i64 0, .int .i64 0, .int .i64 0] 28)).ownsRow w.heap.size 34 4 (.slice (some ⟨g, 0, none⟩) ts.length ca) ts.length (tcells ts)) := row_on (w := w3.drewN 1) HO2.out (Nat.le_refl _) ((Below.refl _ _).alloc (Nat.le_refl _) _)
            refine (HT.out _ _ HXS.out HBA.out).mono ?_
            intro e w4 ht4
            obtain ⟨hb4, bo, cb, rfl, hown4⟩ := told_ok HRX.out ht4
            have HB4 : Hid (Below w.heap.size w w4) := HBA.out.trans (hb4.mono HBA.out.size)
            have HO4 : Hid (w4.ownsRow w.heap.size 34 4 (.slice (some ⟨g, 0, none⟩) ts.length ca) ts.length (tcells ts)) := row_on HOA.out (Nat.le_refl _) hb4
            have HO4b : Hid (w4.ownsRow w.heap.size 34 4 (.slice bo s'.ts.length cb) s'.ts.length (tcells s'.ts)) := row_on hown4 HBA.out.size (Below.refl _ _)
            have HC4 : Hid (w4.heap[w3.heap.size]? = some (.cells #[.int .i64 0, .int .i64 0, .int .i64 0] 28 (0, 0))) := (hb4.block _ HCA.out.2).trans HCA.out.1
            have d0 : w4.cell? ⟨w3.heap.size, 0, none⟩ = some (.int .i64 0) := by have := HC4.out; simp [World.cell?, this]
            have d1 : w4.cell? ⟨w3.heap.size, 1, none⟩ = some (.int .i64 0) := by have := HC4.out; simp [World.cell?, this]
            have d2 : w4.cell? ⟨w3.heap.size, 2, none⟩ = some (.int .i64 0) := by have := HC4.out; simp [World.cell?, this]
            have df : ∀ j, w4.frozen? ⟨w3.heap.size, j, none⟩ = false := fun j => by have := HC4.out; simp [World.frozen?, this]
            clear ht4 hb4 hown4
            refine hK _ _ ?_
            clear hK K
            try simp only [Act.put, List.setIfInBounds_toArray, List.set_cons_zero, List.set_cons_succ]
            refine wpAny_take (i := 10) rfl (by kernel_rfl) (by kernel_rfl) (by kernel_rfl) (fun _ _ _ h => h) (Or.inl ⟨by rfl, fun w => (by go_simp; try with_reducible rfl)⟩) ?_
            simp only [Act.put, List.setIfInBounds_toArray, List.set_cons_zero, List.set_cons_succ]
            refine wpAny_take (i := 11) rfl (by kernel_rfl) (by kernel_rfl) (by kernel_rfl) (fun _ _ _ h => h) (Or.inl ⟨by rfl, fun w => (by go_simp; try with_reducible rfl)⟩) ?_
            simp only [Act.put, List.setIfInBounds_toArray, List.set_cons_zero, List.set_cons_succ]
            refine wpAny_take (i := 12) rfl (by kernel_rfl) (by kernel_rfl) (by kernel_rfl) (fun _ _ _ h => h) (Or.inl ⟨by rfl, fun w => (by go_simp; try with_reducible rfl)⟩) ?_
            simp only [Act.put, List.setIfInBounds_toArray, List.set_cons_zero, List.set_cons_succ]
            refine wpAny_take (i := 14) rfl (by kernel_rfl) (by kernel_rfl) (by kernel_rfl) (fun _ _ _ h => h) (Or.inl ⟨by rfl, fun w => (by go_simp; try with_reducible rfl)⟩) ?_
            simp only [Act.put, List.setIfInBounds_toArray, List.set_cons_zero, List.set_cons_succ]
            refine wpAny_ready (rs := [15]) (by kernel_rfl) (by simp) ?_
            refine AllReady.cons rfl (fun K hK => ?_) AllReady.nil
            go_simp
            refine hK _ _ ?_
            clear hK K
            try simp only [Act.put, List.setIfInBounds_toArray, List.set_cons_zero, List.set_cons_succ]
            refine wpAny_done (by kernel_rfl) ?_ _
            have HB5 : Hid (Below w.heap.size w (((w4.setCell ⟨w3.heap.size, 0, none⟩ (.int .i64 0)).setCell ⟨w3.heap.size, 1, none⟩ (.int .i64 0)).setCell ⟨w3.heap.size, 2, none⟩ (.int .i64 0))) := ((HB4.out.setCell HB2.out.size _).setCell HB2.out.size _).setCell HB2.out.size _
            have HO5 : Hid ((((w4.setCell ⟨w3.heap.size, 0, none⟩ (.int .i64 0)).setCell ⟨w3.heap.size, 1, none⟩ (.int .i64 0)).setCell ⟨w3.heap.size, 2, none⟩ (.int .i64 0)).ownsRow w.heap.size 34 4 (.slice (some ⟨g, 0, none⟩) ts.length ca) ts.length (tcells ts)) := spot_row HO4.out HC4.out _ _ _
            have HO6 : Hid ((((w4.setCell ⟨w3.heap.size, 0, none⟩ (.int .i64 0)).setCell ⟨w3.heap.size, 1, none⟩ (.int .i64 0)).setCell ⟨w3.heap.size, 2, none⟩ (.int .i64 0)).ownsRow w.heap.size 34 4 (.slice bo s'.ts.length cb) s'.ts.length (tcells s'.ts)) := spot_row HO4b.out HC4.out _ _ _
            have HC5 : Hid ((((w4.setCell ⟨w3.heap.size, 0, none⟩ (.int .i64 0)).setCell ⟨w3.heap.size, 1, none⟩ (.int .i64 0)).setCell ⟨w3.heap.size, 2, none⟩ (.int .i64 0)).heap[w3.heap.size]? = some (.cells #[.int .i64 0, .int .i64 0, .int .i64 0] 28 (0, 0)) ∧ w3.heap.size < (((w4.setCell ⟨w3.heap.size, 0, none⟩ (.int .i64 0)).setCell ⟨w3.heap.size, 1, none⟩ (.int .i64 0)).setCell ⟨w3.heap.size, 2, none⟩ (.int .i64 0)).heap.size) := spot_set HC4.out _ _ _
            clear d0 d1 d2 df
            generalize (((w4.setCell ⟨w3.heap.size, 0, none⟩ (.int .i64 0)).setCell ⟨w3.heap.size, 1, none⟩ (.int .i64 0)).setCell ⟨w3.heap.size, 2, none⟩ (.int .i64 0)) = W5 at *
            go_wp2_with fail
            refine (H3.out _ HB5.out).mono ?_
            rintro e w6 ⟨rfl, hb6⟩
            have HB6 : Hid (Below w.heap.size w w6) := HB5.out.trans (hb6.mono HB5.out.size)
            have x1 := (hb6.block _ HC5.out.2).trans HC5.out.1
            have c1 : w6.cell? ⟨w3.heap.size, 0, none⟩ = some (.int .i64 0) := by simp [World.cell?, x1]
            have HAL : Hid (Calls Tryd.prog 10 #[.slice (some ⟨g, 0, none⟩) ts.length ca, .slice bo s'.ts.length cb, .bool false] w6 fun e w' => e = .returned (.bool true) ∧ ∃ m, w' = w6.drewN m) := own_alike ts s'.ts w.heap.size _ _ bo ca cb HSM.out (row_on HO5.out (Nat.le_refl _) hb6) (row_on HO6.out (Nat.le_refl _) hb6)
            clear x1 hb6
            go_wp2_with fail
            refine HAL.out.mono ?_
            rintro e w7 ⟨rfl, m7, rfl⟩
            go_wp2
            go_ret
            exact ⟨rfl, below_dn HB6.out m7⟩
end Go.Proofs.YtljdfaoplenloabDoor
