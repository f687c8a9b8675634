/- What the reference tells of a text, and of all values. -/
import Derived.Test.YtncjaohiimenaaaDoorRref
namespace Go.Proofs.YtncjaohiimenaaaDoor
open Go.ChangeShapes Go.WideShapes Go.ChangeAt Go.RowKit
set_option maxRecDepth 100000
set_option linter.unusedSimpArgs false
set_option linter.unusedVariables false
theorem Tryd.infoByteR : (Tryd.prog.info? 5).map (fun i => (i.zero, i.size, i.bytes)) = some (some (.int .u8 0), 1, 1) := by kernel_rfl
theorem tp_of {c : UInt8} {p : List UInt8} (ho : okB c = true) (h : qPiece c = p) : p = tPiece c := by unfold tPiece; rw [if_pos ho, h]
theorem tp_no {c : UInt8} (ho : okB c = false) : [63] = tPiece c := by unfold tPiece; rw [if_neg (by simp [ho])]
set_option maxHeartbeats 16000000 in
theorem ref_text3 (n : Int) (s : ByteArray) (L : Value) (w : World) (hs : s.size ≤ 4398046511104) :
    Calls Tryd.prog 10 #[.agg #[.int .i64 3, .int .i64 n, .string s, L]] w fun e w' => e = .returned (.string ⟨(tQuote s.data.toList).toArray⟩) ∧ Below w.heap.size w w' := by
  obtain ⟨i0, hi, hz0, hz1, hz2⟩ := info_parts Tryd.infoByteR
  have HG : Hid (∀ (k : Nat) (h : k < s.size), s.data.toList[k]? = some s[k]) := fun k h => by rw [get_list s k h, List.getElem?_eq_getElem]
  have HZ : Hid (s.data.toList.length = s.size) := bsize_list s
  generalize s.data.toList = l at *
  go_enter Tryd.func10, Tryd.ntmps10
  have HBX : Hid (∀ u, Below (w.alloc (.cells #[.int .i64 3, .int .i64 n, .string s, L] 24)).heap.size (w.alloc (.cells #[.int .i64 3, .int .i64 n, .string s, L] 24)) u → u.cell? ⟨w.heap.size, 2, none⟩ = some (.string s) ∧ Below w.heap.size w u) := fun u hu => ⟨(box4 (box_stays hu)).1.2.2.1, below_up hu⟩
  go_wp2_with fail
  have HS0 : Hid (BRow ((w.alloc (.cells #[.int .i64 3, .int .i64 n, .string s, L] 24)).alloc (.cells #[.int .u8 34] 5)) (w.alloc (.cells #[.int .i64 3, .int .i64 n, .string s, L] 24)).heap.size (.slice (some ⟨w.heap.size + 1, 0, none⟩) 1 1) (34 :: tBody (l.take 0))) := by
    have h1 := brow_new (w.alloc (.cells #[.int .i64 3, .int .i64 n, .string s, L] 24)) 34
    have h2 : (w.alloc (.cells #[.int .i64 3, .int .i64 n, .string s, L] 24)).heap.size = w.heap.size + 1 := by simp
    rw [h2] at h1 ⊢
    exact h1
  have HB0 : Hid (Below (w.alloc (.cells #[.int .i64 3, .int .i64 n, .string s, L] 24)).heap.size (w.alloc (.cells #[.int .i64 3, .int .i64 n, .string s, L] 24)) ((w.alloc (.cells #[.int .i64 3, .int .i64 n, .string s, L] 24)).alloc (.cells #[.int .u8 34] 5))) := (Below.refl _ _).alloc (Nat.le_refl _) _
  generalize w.alloc (.cells #[.int .i64 3, .int .i64 n, .string s, L] 24) = W0 at *
  generalize hW1 : W0.alloc (.cells #[.int .u8 34] 5) = W1 at *
  clear hW1
  go_loopw [5, 6] (fun o i wr => ∃ (k : Nat) (u : List UInt8), k ≤ s.size ∧ i = .int .i64 k ∧ u.length ≤ 2 * k + 1 ∧ Hid (BRow wr W0.heap.size o u ∧ u = 34 :: tBody (l.take k) ∧ Below W0.heap.size W0 wr)) (fun _ i _ => s.size - (intOf i).toNat)
  case atStart => exact ⟨0, [34], Nat.zero_le _, rfl, by simp, HS0.out, by simp [tBody], HB0.out⟩
  case round =>
    obtain ⟨k, u, hk, rfl, hu, HU0⟩ := hrel
    obtain ⟨wq, hwq⟩ : ∃ x, x = wr := ⟨_, rfl⟩
    subst hwq
    obtain ⟨oo, oc, hoo⟩ := brow_shape HU0.out.1
    subst hoo
    obtain ⟨cb, hup⟩ := HBX.out wq HU0.out.2.2
    have HU : Hid (BRow wq W0.heap.size (.slice oo u.length oc) u ∧ u = 34 :: tBody (l.take k) ∧ Below W0.heap.size W0 wq) := HU0
    have hsz : W0.heap.size ≤ wq.heap.size := HU0.out.2.2.size
    clear hup
    by_cases hlt : k < s.size
    · have hlti : (k : Int) < (s.size : Int) := by omega
      have HT : Hid (l.take (k + 1) = l.take k ++ [s[k]]) := take_at (HG.out k hlt)
      have HI : Hid (∀ p, p = tPiece s[k] → u ++ p = 34 :: tBody (l.take (k + 1))) := fun p hp => by rw [HT.out, tBody_snoc, HU.out.2.1, hp]; rfl
      rcases byte_ways s[k] with h | h | h | h | h | h
      · have HF : Hid (u ++ [92, s[k]] = 34 :: tBody (l.take (k + 1))) := HI.out _ (tp_of (by rw [h]; decide) (by rw [h]; decide))
        have e10 : ((s[k].toNat : Int) == 10) = false := by rw [h]; decide
        have e9 : ((s[k].toNat : Int) == 9) = false := by rw [h]; decide
        have e34 : ((s[k].toNat : Int) == 34) = true := by rw [h]; decide
        clear h
        go_wp2_with (at_builtin; refine wpList_append_own _ rfl _ _ 49 rfl W0.heap.size 5 i0 (.int .u8 0) 1 1 Tryd.underlying49 hi hz0 hz1 hz2 rfl (by decide) _ _ _ rfl ((HU.out.1 : BRow _ _ _ _).alloc _) ⟨wq.heap.size, 0, none⟩ 2 2 [.int .u8 92, .int .u8 s[k].toNat] rfl rfl (cell_two_new _ _ _ _) (by intro y hy; simp at hy; rcases hy with rfl | rfl <;> rfl) (by unfold maxLen; omega) (by omega) (by simp; omega) ?_; intro v2 w2 hown hgrow hnil; have HN2 : Hid (BRow w2 W0.heap.size v2 (u ++ [92, s[k]])) := (by have := hown; unfold BRow; rw [List.length_append, ← bcells_app]; exact this); have HB2 : Hid (Below W0.heap.size W0 w2) := ((HU.out.2.2.alloc hsz _).grown hgrow (by simp; omega) (fun q hq => (HU.out.1.lt q hq).1)); obtain ⟨so, sc, hv2⟩ := brow_shape HN2.out; subst hv2; clear hown hgrow hnil)
        go_roundw
        case rel => exact ⟨k + 1, _, by omega, by go_num, (by rw [List.length_append]; simp; omega), ⟨(by have := HN2.out; simpa using this), HF.out, HB2.out⟩⟩
        case measure => simp [intOf]; omega
      · have HF : Hid (u ++ [92, s[k]] = 34 :: tBody (l.take (k + 1))) := HI.out _ (tp_of (by rw [h]; decide) (by rw [h]; decide))
        have e10 : ((s[k].toNat : Int) == 10) = false := by rw [h]; decide
        have e9 : ((s[k].toNat : Int) == 9) = false := by rw [h]; decide
        have e34 : ((s[k].toNat : Int) == 34) = false := by rw [h]; decide
        have e92 : ((s[k].toNat : Int) == 92) = true := by rw [h]; decide
        clear h
        go_wp2_with (at_builtin; refine wpList_append_own _ rfl _ _ 49 rfl W0.heap.size 5 i0 (.int .u8 0) 1 1 Tryd.underlying49 hi hz0 hz1 hz2 rfl (by decide) _ _ _ rfl ((HU.out.1 : BRow _ _ _ _).alloc _) ⟨wq.heap.size, 0, none⟩ 2 2 [.int .u8 92, .int .u8 s[k].toNat] rfl rfl (cell_two_new _ _ _ _) (by intro y hy; simp at hy; rcases hy with rfl | rfl <;> rfl) (by unfold maxLen; omega) (by omega) (by simp; omega) ?_; intro v2 w2 hown hgrow hnil; have HN2 : Hid (BRow w2 W0.heap.size v2 (u ++ [92, s[k]])) := (by have := hown; unfold BRow; rw [List.length_append, ← bcells_app]; exact this); have HB2 : Hid (Below W0.heap.size W0 w2) := ((HU.out.2.2.alloc hsz _).grown hgrow (by simp; omega) (fun q hq => (HU.out.1.lt q hq).1)); obtain ⟨so, sc, hv2⟩ := brow_shape HN2.out; subst hv2; clear hown hgrow hnil)
        go_roundw
        case rel => exact ⟨k + 1, _, by omega, by go_num, (by rw [List.length_append]; simp; omega), ⟨(by have := HN2.out; simpa using this), HF.out, HB2.out⟩⟩
        case measure => simp [intOf]; omega
      · have HF : Hid (u ++ [92, 110] = 34 :: tBody (l.take (k + 1))) := HI.out _ (tp_of (by rw [h]; decide) (by rw [h]; decide))
        have e10 : ((s[k].toNat : Int) == 10) = true := by rw [h]; decide
        clear h
        go_wp2_with (at_builtin; refine wpList_append_own _ rfl _ _ 49 rfl W0.heap.size 5 i0 (.int .u8 0) 1 1 Tryd.underlying49 hi hz0 hz1 hz2 rfl (by decide) _ _ _ rfl ((HU.out.1 : BRow _ _ _ _).alloc _) ⟨wq.heap.size, 0, none⟩ 2 2 [.int .u8 92, .int .u8 110] rfl rfl (cell_two_new _ _ _ _) (by intro y hy; simp at hy; rcases hy with rfl | rfl <;> rfl) (by unfold maxLen; omega) (by omega) (by simp; omega) ?_; intro v2 w2 hown hgrow hnil; have HN2 : Hid (BRow w2 W0.heap.size v2 (u ++ [92, 110])) := (by have := hown; unfold BRow; rw [List.length_append, ← bcells_app]; exact this); have HB2 : Hid (Below W0.heap.size W0 w2) := ((HU.out.2.2.alloc hsz _).grown hgrow (by simp; omega) (fun q hq => (HU.out.1.lt q hq).1)); obtain ⟨so, sc, hv2⟩ := brow_shape HN2.out; subst hv2; clear hown hgrow hnil)
        go_roundw
        case rel => exact ⟨k + 1, _, by omega, by go_num, (by rw [List.length_append]; simp; omega), ⟨(by have := HN2.out; simpa using this), HF.out, HB2.out⟩⟩
        case measure => simp [intOf]; omega
      · have HF : Hid (u ++ [92, 116] = 34 :: tBody (l.take (k + 1))) := HI.out _ (tp_of (by rw [h]; decide) (by rw [h]; decide))
        have e10 : ((s[k].toNat : Int) == 10) = false := by rw [h]; decide
        have e9 : ((s[k].toNat : Int) == 9) = true := by rw [h]; decide
        clear h
        go_wp2_with (at_builtin; refine wpList_append_own _ rfl _ _ 49 rfl W0.heap.size 5 i0 (.int .u8 0) 1 1 Tryd.underlying49 hi hz0 hz1 hz2 rfl (by decide) _ _ _ rfl ((HU.out.1 : BRow _ _ _ _).alloc _) ⟨wq.heap.size, 0, none⟩ 2 2 [.int .u8 92, .int .u8 116] rfl rfl (cell_two_new _ _ _ _) (by intro y hy; simp at hy; rcases hy with rfl | rfl <;> rfl) (by unfold maxLen; omega) (by omega) (by simp; omega) ?_; intro v2 w2 hown hgrow hnil; have HN2 : Hid (BRow w2 W0.heap.size v2 (u ++ [92, 116])) := (by have := hown; unfold BRow; rw [List.length_append, ← bcells_app]; exact this); have HB2 : Hid (Below W0.heap.size W0 w2) := ((HU.out.2.2.alloc hsz _).grown hgrow (by simp; omega) (fun q hq => (HU.out.1.lt q hq).1)); obtain ⟨so, sc, hv2⟩ := brow_shape HN2.out; subst hv2; clear hown hgrow hnil)
        go_roundw
        case rel => exact ⟨k + 1, _, by omega, by go_num, (by rw [List.length_append]; simp; omega), ⟨(by have := HN2.out; simpa using this), HF.out, HB2.out⟩⟩
        case measure => simp [intOf]; omega
      · have HF : Hid (u ++ [s[k]] = 34 :: tBody (l.take (k + 1))) := HI.out _ (tp_of (okB_plain h.1) (qPiece_plain h.2))
        obtain ⟨hr, q34, q92, q10, q9⟩ := h
        have e10 : ((s[k].toNat : Int) == 10) = false := nat_ne (n := 10) (by decide) q10
        have e9 : ((s[k].toNat : Int) == 9) = false := nat_ne (n := 9) (by decide) q9
        have e34 : ((s[k].toNat : Int) == 34) = false := nat_ne (n := 34) (by decide) q34
        have e92 : ((s[k].toNat : Int) == 92) = false := nat_ne (n := 92) (by decide) q92
        have k32 : decide ((s[k].toNat : Int) < 32) = false := by simp; omega
        have k126 : decide (126 < (s[k].toNat : Int)) = false := by simp; omega
        clear q34 q92 q10 q9 hr
        go_wp2_with (at_builtin; refine wpList_append_own _ rfl _ _ 49 rfl W0.heap.size 5 i0 (.int .u8 0) 1 1 Tryd.underlying49 hi hz0 hz1 hz2 rfl (by decide) _ _ _ rfl ((HU.out.1 : BRow _ _ _ _).alloc _) ⟨wq.heap.size, 0, none⟩ 1 1 [.int .u8 s[k].toNat] rfl rfl (cell_one_new _ _ _) (by intro y hy; simp at hy; subst hy; rfl) (by unfold maxLen; omega) (by omega) (by simp; omega) ?_; intro v2 w2 hown hgrow hnil; have HN2 : Hid (BRow w2 W0.heap.size v2 (u ++ [s[k]])) := (by have := hown; unfold BRow; rw [List.length_append, ← bcells_app]; exact this); have HB2 : Hid (Below W0.heap.size W0 w2) := ((HU.out.2.2.alloc hsz _).grown hgrow (by simp; omega) (fun q hq => (HU.out.1.lt q hq).1)); obtain ⟨so, sc, hv2⟩ := brow_shape HN2.out; subst hv2; clear hown hgrow hnil)
        go_roundw
        case rel => exact ⟨k + 1, _, by omega, by go_num, (by rw [List.length_append]; simp; omega), ⟨(by have := HN2.out; simpa using this), HF.out, HB2.out⟩⟩
        case measure => simp [intOf]; omega
      · have HF : Hid (u ++ [63] = 34 :: tBody (l.take (k + 1))) := HI.out _ (tp_no (okB_not h))
        obtain ⟨hr, q34, q92, q10, q9⟩ := h
        have e10 : ((s[k].toNat : Int) == 10) = false := nat_ne (n := 10) (by decide) q10
        have e9 : ((s[k].toNat : Int) == 9) = false := nat_ne (n := 9) (by decide) q9
        have e34 : ((s[k].toNat : Int) == 34) = false := nat_ne (n := 34) (by decide) q34
        have e92 : ((s[k].toNat : Int) == 92) = false := nat_ne (n := 92) (by decide) q92
        by_cases h32 : (s[k].toNat : Int) < 32
        · clear q34 q92 q10 q9 hr
          go_wp2_with (at_builtin; refine wpList_append_own _ rfl _ _ 49 rfl W0.heap.size 5 i0 (.int .u8 0) 1 1 Tryd.underlying49 hi hz0 hz1 hz2 rfl (by decide) _ _ _ rfl ((HU.out.1 : BRow _ _ _ _).alloc _) ⟨wq.heap.size, 0, none⟩ 1 1 [.int .u8 63] rfl rfl (cell_one_new _ _ _) (by intro y hy; simp at hy; subst hy; rfl) (by unfold maxLen; omega) (by omega) (by simp; omega) ?_; intro v2 w2 hown hgrow hnil; have HN2 : Hid (BRow w2 W0.heap.size v2 (u ++ [63])) := (by have := hown; unfold BRow; rw [List.length_append, ← bcells_app]; exact this); have HB2 : Hid (Below W0.heap.size W0 w2) := ((HU.out.2.2.alloc hsz _).grown hgrow (by simp; omega) (fun q hq => (HU.out.1.lt q hq).1)); obtain ⟨so, sc, hv2⟩ := brow_shape HN2.out; subst hv2; clear hown hgrow hnil)
          go_roundw
          case rel => exact ⟨k + 1, _, by omega, by go_num, (by rw [List.length_append]; simp; omega), ⟨(by have := HN2.out; simpa using this), HF.out, HB2.out⟩⟩
          case measure => simp [intOf]; omega
        · have k32 : decide ((s[k].toNat : Int) < 32) = false := by simpa using h32
          have k126 : 126 < (s[k].toNat : Int) := by omega
          clear q34 q92 q10 q9 hr h32
          go_wp2_with (at_builtin; refine wpList_append_own _ rfl _ _ 49 rfl W0.heap.size 5 i0 (.int .u8 0) 1 1 Tryd.underlying49 hi hz0 hz1 hz2 rfl (by decide) _ _ _ rfl ((HU.out.1 : BRow _ _ _ _).alloc _) ⟨wq.heap.size, 0, none⟩ 1 1 [.int .u8 63] rfl rfl (cell_one_new _ _ _) (by intro y hy; simp at hy; subst hy; rfl) (by unfold maxLen; omega) (by omega) (by simp; omega) ?_; intro v2 w2 hown hgrow hnil; have HN2 : Hid (BRow w2 W0.heap.size v2 (u ++ [63])) := (by have := hown; unfold BRow; rw [List.length_append, ← bcells_app]; exact this); have HB2 : Hid (Below W0.heap.size W0 w2) := ((HU.out.2.2.alloc hsz _).grown hgrow (by simp; omega) (fun q hq => (HU.out.1.lt q hq).1)); obtain ⟨so, sc, hv2⟩ := brow_shape HN2.out; subst hv2; clear hown hgrow hnil)
          go_roundw
          case rel => exact ⟨k + 1, _, by omega, by go_num, (by rw [List.length_append]; simp; omega), ⟨(by have := HN2.out; simpa using this), HF.out, HB2.out⟩⟩
          case measure => simp [intOf]; omega
    · obtain rfl : k = s.size := by omega
      have hlt2 : ¬ (s.size : Int) < (s.size : Int) := by omega
      have HS : Hid (u ++ [34] = tQuote l) := by
        have h1 := HU.out.2.1
        rw [List.take_of_length_le (by have := HZ.out; omega)] at h1
        show _ = _
        rw [h1]; rfl
      go_wp2_with (at_builtin; refine wpList_append_own _ rfl _ _ 49 rfl W0.heap.size 5 i0 (.int .u8 0) 1 1 Tryd.underlying49 hi hz0 hz1 hz2 rfl (by decide) _ _ _ rfl ((HU.out.1 : BRow _ _ _ _).alloc _) ⟨wq.heap.size, 0, none⟩ 1 1 [.int .u8 34] rfl rfl (cell_one_new _ _ _) (by intro y hy; simp at hy; subst hy; rfl) (by unfold maxLen; omega) (by omega) (by simp; omega) ?_; intro v2 w2 hown hgrow hnil; have HN2 : Hid (BRow w2 W0.heap.size v2 (u ++ [34])) := (by have := hown; unfold BRow; rw [List.length_append, ← bcells_app]; exact this); have HB2 : Hid (Below W0.heap.size W0 w2) := ((HU.out.2.2.alloc hsz _).grown hgrow (by simp; omega) (fun q hq => (HU.out.1.lt q hq).1)); obtain ⟨so, sc, hv2⟩ := brow_shape HN2.out; subst hv2; clear hown hgrow hnil; have HN3 : BRow w2 W0.heap.size (.slice so (u.length + 1) sc) (u ++ [34]) := (by have := HN2.out; simpa using this); have hcs := brow_str (by simp) HN3; clear HN3)
      go_ret
      exact ⟨by rw [← HS.out]; rfl, (HBX.out _ HB2.out).2⟩
set_option maxHeartbeats 4000000 in
theorem ref_text (x : Vv) (L : Value) (w : World) (hi : VIn x) (hz : x.s.size ≤ 4398046511104) :
    Calls Tryd.prog 10 #[vval x L] w fun e w' => e = .returned (.string (textV x)) ∧ Below w.heap.size w w' := by
  unfold textV
  unfold vval
  by_cases h1 : x.kind = 1
  · rw [if_pos h1, h1]
    have hb := i64_bounds hi.wn
    have HD : Hid (∀ u, Calls Tryd.prog 25 #[.int .i64 x.n] u fun e w' => e = .returned (.string (txt x.n)) ∧ Below u.heap.size u w') := fun u => decimal_any x.n hb.1 hb.2 u
    clear hb h1 hi hz
    go_enter Tryd.func10, Tryd.ntmps10
    go_wp2_with fail
    refine (HD.out _).mono ?_
    rintro e w1 ⟨rfl, hb⟩
    go_wp2_with fail
    go_ret
    exact ⟨rfl, below_up hb⟩
  rw [if_neg h1]
  by_cases h3 : x.kind = 3
  · rw [if_pos h3, h3]
    exact ref_text3 x.n x.s L w hz
  rw [if_neg h3]
  by_cases h5 : x.kind = 5
  · rw [if_pos h5, h5]
    exact ref_text5 x.n x.s L w (by omega)
  rw [if_neg h5]
  have k1 : (x.kind == 1) = false := by simpa using h1
  have k3 : (x.kind == 3) = false := by simpa using h3
  have k5 : (x.kind == 5) = false := by simpa using h5
  clear h1 h3 h5
  go_enter Tryd.func10, Tryd.ntmps10
  go_wp2_with fail
  go_ret
  exact ⟨rfl, show_below⟩
end Go.Proofs.YtncjaohiimenaaaDoor
