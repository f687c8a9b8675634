/- What the reference tells of panics. -/
import Derived.Test.YtncjaohiimenaaaDoorRcrash
import Derived.Test.YtncjaohiimenaaaDoorRref2
namespace Go.Proofs.YtncjaohiimenaaaDoor
open Go.ChangeShapes Go.WideShapes Go.ChangeAt Go.RowKit
set_option maxRecDepth 100000
set_option linter.unusedSimpArgs false
set_option linter.unusedVariables false
theorem ba_app (a b : List UInt8) : (⟨a.toArray⟩ : ByteArray) ++ ⟨b.toArray⟩ = ⟨(a ++ b).toArray⟩ := by
  apply str_of
  rw [str_append]
theorem ba_self (s : ByteArray) : s = ⟨s.data.toList.toArray⟩ := rfl
set_option maxHeartbeats 8000000 in
theorem ref_crash (v : Value) (es : List Pe) (w : World) (h : PsLies w v es) (hin : PsIn es) :
    Calls Tryd.prog 13 #[v] w fun e w' => e = .returned (.string (crashB es)) ∧ Below w.heap.size w w' := by
  obtain ⟨vo, vc, hv⟩ := h.row.shape
  subst hv
  have HSRC := Hid.mk' h
  have HIN := Hid.mk' hin
  have HCL : Hid (∀ k, (crashL es k).length ≤ 2097175 * k) := crashL_le hin
  unfold crashB
  obtain ⟨n, hn1⟩ : ∃ n, n = es.length := ⟨_, rfl⟩
  have HLEN : Hid (n = es.length) := hn1
  have hnb : n ≤ 1048576 := by have := hin.size; omega
  rw [← hn1] at HSRC ⊢
  clear h hin hn1
  go_enter Tryd.func13, Tryd.ntmps13
  go_wp2_with fail
  go_loopw [3, 8] (fun s3 i wr => ∃ (k : Nat) (S : ByteArray), k ≤ n ∧ i = .int .i64 k ∧ s3 = .string S ∧ Hid (S = ⟨(crashL es k).toArray⟩) ∧ Hid (Below w.heap.size w wr)) (fun _ i _ => n - (intOf i).toNat)
  case atStart => exact ⟨0, ⟨#[]⟩, Nat.zero_le _, rfl, rfl, rfl, Below.refl _ _⟩
  case round =>
    obtain ⟨k, S, hk, rfl, rfl, HU, HB⟩ := hrel
    obtain ⟨wq, hwq⟩ : ∃ x, x = wr := ⟨_, rfl⟩
    subst hwq
    have hsz : w.heap.size ≤ wq.heap.size := HB.out.size
    by_cases hlt : k < n
    · have hlti : (k : Int) < (n : Int) := by omega
      obtain ⟨⟨ser, ⟨kd, nn, ss, ll⟩, L, rc0, ab0⟩, he⟩ : ∃ e, es[k]? = some e := ⟨es[k]'(by rw [← HLEN.out]; exact hlt), List.getElem?_eq_getElem _⟩
      obtain ⟨b, off, rfl, hx⟩ := HSRC.out.at he
      obtain ⟨⟨c0, c1, c2, c3, c4, c5, c6⟩, hll⟩ := hx wq HB.out
      have HE := Hid.mk' he
      obtain ⟨lo, lc, hL⟩ := hll.shape
      simp only at hL c0 c1 c2 c3 c4 c5 c6 hll
      subst hL
      obtain ⟨hvin, hss, hls⟩ := HIN.out.each _ (List.mem_of_getElem? he)
      simp only at hvin hss hls
      have HT : Hid (∀ u, Calls Tryd.prog 10 #[.agg #[.int .i64 kd, .int .i64 nn, .string ss, .slice lo ll.length lc]] u fun e w' => e = .returned (.string (textV ⟨kd, nn, ss, ll⟩)) ∧ Below u.heap.size u w') := fun u =>
        ref_text ⟨kd, nn, ss, ll⟩ _ u hvin (by simp only; omega)
      have HLN : Hid (crashL es (k + 1) = crashL es k ++ (leadL k ++ (textV ⟨kd, nn, ss, ll⟩).data.toList ++ (if rc0 then markB.data.toList else []) ++ [10])) := by
        show _ = _
        rw [crashL_succ he]
        simp only [lineL]
      have hTS : (textV ⟨kd, nn, ss, ll⟩).size ≤ 2097154 := textV_le hvin hss
      have hul : S.size ≤ 2199122968600 := by
        have := HCL.out k
        rw [HU.out]
        show (crashL es k).toArray.size ≤ _
        rw [List.size_toArray]; omega
      generalize textV ⟨kd, nn, ss, ll⟩ = TX at *
      clear hll hx he hvin
      have HN : Hid (∀ (X : ByteArray), X = (if k = 0 then S ++ (leadB ++ TX) else (S ++ ⟨#[9]⟩) ++ (leadB ++ TX)) → (if rc0 then X ++ markB else X) ++ ⟨#[10]⟩ = ⟨(crashL es (k + 1)).toArray⟩) := by
        intro X hX
        rw [hX, HLN.out, HU.out]
        apply str_of
        have ht : ∀ a b : ByteArray, (a ++ b).data.toList = a.data.toList ++ b.data.toList := str_append
        have hlead : ((⟨#[9]⟩ : ByteArray).data.toList ++ leadB.data.toList) = leadT.data.toList := rfl
        unfold leadL
        by_cases hk0 : k = 0
        · rw [if_pos hk0, if_pos hk0]
          cases rc0
          · simp only [Bool.false_eq_true, if_false, ht, ba_of, List.append_assoc, List.nil_append]
          · simp only [if_true, ht, ba_of, List.append_assoc]
        · rw [if_neg hk0, if_neg hk0, ← hlead]
          cases rc0
          · simp only [Bool.false_eq_true, if_false, ht, ba_of, List.append_assoc, List.nil_append]
          · simp only [if_true, ht, ba_of, List.append_assoc]
      by_cases hk0 : k = 0
      · have hk1 : ¬ (k : Int) > 0 := by omega
        have HK0 := Hid.mk' hk0
        clear hk0
        go_wp2_with fail
        have HX0 : Hid ((wq.alloc (.cells #[.int .i64 ser, .int .i64 kd, .int .i64 nn, .string ss, .slice lo ll.length lc, .bool rc0, .bool ab0] 30)).heap[wq.heap.size]? = some (.cells #[.int .i64 ser, .int .i64 kd, .int .i64 nn, .string ss, .slice lo ll.length lc, .bool rc0, .bool ab0] 30 (0, 0))) := box_stays (Below.refl _ _)
        have HW0 : Hid (Below w.heap.size w (wq.alloc (.cells #[.int .i64 ser, .int .i64 kd, .int .i64 nn, .string ss, .slice lo ll.length lc, .bool rc0, .bool ab0] 30))) := HB.out.alloc hsz _
        clear c0 c1 c2 c3 c4 c5 c6
        generalize wq.alloc (.cells #[.int .i64 ser, .int .i64 kd, .int .i64 nn, .string ss, .slice lo ll.length lc, .bool rc0, .bool ab0] 30) = W0 at *
        refine Calls.mono (HT.out _) ?_
        rintro e w3 ⟨rfl, f3⟩
        have HW3 : Hid (Below w.heap.size w w3) := HW0.out.trans (f3.mono HW0.out.size)
        have HX3 : Hid (w3.heap[wq.heap.size]? = some (.cells #[.int .i64 ser, .int .i64 kd, .int .i64 nn, .string ss, .slice lo ll.length lc, .bool rc0, .bool ab0] 30 (0, 0))) := by show _ = _; rw [f3.block _ (Array.getElem?_eq_some_iff.1 HX0.out).1]; exact HX0.out
        clear f3
        obtain ⟨⟨d0, d1, d2, d3, d4, d5, d6⟩, -⟩ := box7 HX3.out
        cases rc0 with
        | true =>
          go_wp2_with fail
          go_roundw
          case rel => exact ⟨k + 1, _, by omega, by go_num, rfl, HN.out _ (by rw [if_pos HK0.out]; rfl), HW3.out⟩
          case measure => simp [intOf]; omega
        | false =>
          go_wp2_with fail
          go_roundw
          case rel => exact ⟨k + 1, _, by omega, by go_num, rfl, HN.out _ (by rw [if_pos HK0.out]; rfl), HW3.out⟩
          case measure => simp [intOf]; omega
      · have hk1 : (k : Int) > 0 := by omega
        have HK0 := Hid.mk' hk0
        clear hk0
        go_wp2_with fail
        have HX0 : Hid ((wq.alloc (.cells #[.int .i64 ser, .int .i64 kd, .int .i64 nn, .string ss, .slice lo ll.length lc, .bool rc0, .bool ab0] 30)).heap[wq.heap.size]? = some (.cells #[.int .i64 ser, .int .i64 kd, .int .i64 nn, .string ss, .slice lo ll.length lc, .bool rc0, .bool ab0] 30 (0, 0))) := box_stays (Below.refl _ _)
        have HW0 : Hid (Below w.heap.size w (wq.alloc (.cells #[.int .i64 ser, .int .i64 kd, .int .i64 nn, .string ss, .slice lo ll.length lc, .bool rc0, .bool ab0] 30))) := HB.out.alloc hsz _
        clear c0 c1 c2 c3 c4 c5 c6
        generalize wq.alloc (.cells #[.int .i64 ser, .int .i64 kd, .int .i64 nn, .string ss, .slice lo ll.length lc, .bool rc0, .bool ab0] 30) = W0 at *
        refine Calls.mono (HT.out _) ?_
        rintro e w3 ⟨rfl, f3⟩
        have HW3 : Hid (Below w.heap.size w w3) := HW0.out.trans (f3.mono HW0.out.size)
        have HX3 : Hid (w3.heap[wq.heap.size]? = some (.cells #[.int .i64 ser, .int .i64 kd, .int .i64 nn, .string ss, .slice lo ll.length lc, .bool rc0, .bool ab0] 30 (0, 0))) := by show _ = _; rw [f3.block _ (Array.getElem?_eq_some_iff.1 HX0.out).1]; exact HX0.out
        clear f3
        obtain ⟨⟨d0, d1, d2, d3, d4, d5, d6⟩, -⟩ := box7 HX3.out
        cases rc0 with
        | true =>
          go_wp2_with fail
          go_roundw
          case rel => exact ⟨k + 1, _, by omega, by go_num, rfl, HN.out _ (by rw [if_neg HK0.out]; rfl), HW3.out⟩
          case measure => simp [intOf]; omega
        | false =>
          go_wp2_with fail
          go_roundw
          case rel => exact ⟨k + 1, _, by omega, by go_num, rfl, HN.out _ (by rw [if_neg HK0.out]; rfl), HW3.out⟩
          case measure => simp [intOf]; omega
    · have hke : n = k := by omega
      subst hke
      have hlti : ¬ (n : Int) < (n : Int) := by omega
      have HUE : Hid (S = ⟨(crashL es n).toArray⟩) := HU
      go_wp2_with fail
      go_ret
      exact ⟨by rw [← HUE.out]; rfl, HB.out⟩
end Go.Proofs.YtncjaohiimenaaaDoor
