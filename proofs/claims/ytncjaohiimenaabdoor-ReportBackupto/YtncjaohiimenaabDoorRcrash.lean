/- What a crash tells of panics. -/
import Derived.Test.YtncjaohiimenaabDoorPflight
import Derived.Test.YtncjaohiimenaabDoorBuilderp
namespace Go.Proofs.YtncjaohiimenaabDoor
open Go.ChangeShapes Go.WideShapes Go.ChangeAt Go.RowKit
set_option maxRecDepth 100000
set_option linter.unusedSimpArgs false
set_option linter.unusedVariables false
def leadB : ByteArray := ⟨#[112, 97, 110, 105, 99, 58, 32]⟩
def leadT : ByteArray := ⟨#[9, 112, 97, 110, 105, 99, 58, 32]⟩
def markB : ByteArray := ⟨#[32, 91, 114, 101, 99, 111, 118, 101, 114, 101, 100, 93]⟩
def leadL (k : Nat) : List UInt8 := if k = 0 then leadB.data.toList else leadT.data.toList
/-- The line of the panic at a place. -/
def lineL (k : Nat) (x : Vv) (rc : Bool) : List UInt8 := leadL k ++ (textV x).data.toList ++ (if rc then markB.data.toList else []) ++ [10]
/-- What is told of the first k panics. -/
def crashL (es : List Pe) : Nat → List UInt8
  | 0 => []
  | k + 1 => crashL es k ++ (match es[k]? with | none => [] | some e => lineL k e.x e.rc)
theorem crashL_succ {es : List Pe} {k : Nat} {e : Pe} (h : es[k]? = some e) : crashL es (k + 1) = crashL es k ++ lineL k e.x e.rc := by rw [crashL, h]
theorem crashL_key {es ms : List Pe} (h : ms.map Pe.key = es.map Pe.key) : ∀ k, crashL ms k = crashL es k
  | 0 => rfl
  | k + 1 => by
    rw [crashL, crashL, crashL_key h k]
    congr 1
    have h1 : (ms.map Pe.key)[k]? = (es.map Pe.key)[k]? := by rw [h]
    rw [List.getElem?_map, List.getElem?_map] at h1
    cases hm : ms[k]? with
    | none =>
      cases he : es[k]? with
      | none => rfl
      | some e => rw [hm, he] at h1; cases h1
    | some m =>
      cases he : es[k]? with
      | none => rw [hm, he] at h1; cases h1
      | some e =>
        rw [hm, he] at h1
        simp only [Option.map_some, Option.some.injEq] at h1
        have hx : m.x = e.x := congrArg (fun p => p.2.1) h1
        have hr : m.rc = e.rc := congrArg (fun p => p.2.2.1) h1
        simp only [hx, hr]
theorem txt_le (n : Int) (h : (Lit.int .i64 n).wf = true) : (txt n).size ≤ 21 := by
  have hb := i64_bounds h
  have := Lib.itoa_length_le n hb.1 hb.2
  show (Lib.itoa n).toArray.size ≤ 21
  rw [List.size_toArray]; exact this
theorem textV_le {x : Vv} (hi : VIn x) (hs : x.s.size ≤ 1048576) : (textV x).size ≤ 2097154 := by
  have hl : x.s.data.toList.length = x.s.size := bsize_list x.s
  unfold textV
  split
  · have := txt_le x.n hi.wn; omega
  · split
    · have := tBody_le x.s.data.toList
      show (tQuote x.s.data.toList).toArray.size ≤ _
      rw [List.size_toArray]
      simp only [tQuote, List.length_cons, List.length_append, List.length_singleton, List.length_nil]
      omega
    · split
      · show (tPlain x.s.data.toList).toArray.size ≤ _
        rw [List.size_toArray]
        simp only [tPlain, List.length_map]
        omega
      · decide
theorem lineL_le {k : Nat} {x : Vv} {b : Bool} (hi : VIn x) (hs : x.s.size ≤ 1048576) : (lineL k x b).length ≤ 2097175 := by
  have h1 := textV_le hi hs
  rw [← bsize_list] at h1
  have h2 : (leadL k).length ≤ 8 := by unfold leadL; split <;> decide
  have h3 : (if b = true then markB.data.toList else []).length ≤ 12 := by split <;> decide
  unfold lineL
  simp only [List.length_append, List.length_singleton, List.length_cons, List.length_nil]
  omega
theorem crashL_le {es : List Pe} (h : PsIn es) : ∀ k, (crashL es k).length ≤ 2097175 * k
  | 0 => by simp [crashL]
  | k + 1 => by
    have ih := crashL_le h k
    rw [crashL, List.length_append]
    cases he : es[k]? with
    | none => simp only [List.length_nil]; omega
    | some e =>
      obtain ⟨h1, h2, h3⟩ := h.each e (List.mem_of_getElem? he)
      have := lineL_le (k := k) (b := e.rc) h1 h2
      simp only
      omega
/-- A crash. -/
def crashB (es : List Pe) : ByteArray := ⟨(crashL es es.length).toArray⟩
theorem crashB_key {es ms : List Pe} (h : ms.map Pe.key = es.map Pe.key) : crashB ms = crashB es := by
  unfold crashB
  have hl := congrArg List.length h
  simp only [List.length_map] at hl
  rw [crashL_key h, hl]
theorem own_lead (k : Nat) (w : World) : Calls Tryd.prog 12 #[.int .i64 k] w fun e w' => e = .returned (.string ⟨(leadL k).toArray⟩) ∧ w' = w := by
  unfold leadL
  by_cases h : k = 0
  · subst h
    rw [if_pos rfl]
    go_enter Tryd.func12, Tryd.ntmps12
    go_wp2_with fail
    go_ret
    exact ⟨rfl, rfl⟩
  · rw [if_neg h]
    have h1 : ((k : Int) == 0) = false := by simpa using h
    clear h
    go_enter Tryd.func12, Tryd.ntmps12
    go_wp2_with fail
    go_ret
    exact ⟨rfl, rfl⟩
theorem bld_lt {B b : Nat} {l : List UInt8} {w : World} (h : Bld B b l w) : b < w.heap.size := by
  rcases h with h | h
  · exact h.lt
  · exact h.lt
theorem ba_of (l : List UInt8) : (⟨l.toArray⟩ : ByteArray).data.toList = l := rfl
set_option maxHeartbeats 8000000 in
theorem own_crash (v : Value) (es : List Pe) (w : World) (h : PsLies w v es) (hin : PsIn es) (hp : Pow w) :
    Calls Tryd.prog 7 #[v] w fun e w' => e = .returned (.string (crashB es)) ∧ Below w.heap.size w w' := by
  obtain ⟨vo, vc, hv⟩ := h.row.shape
  subst hv
  have HSRC := Hid.mk' h
  have HIN := Hid.mk' hin
  have HP : Hid (∀ u, Below w.heap.size w u → Pow u) := fun u hb => hp.below hb
  have HCL : Hid (∀ k, (crashL es k).length ≤ 2097175 * k) := crashL_le hin
  unfold crashB
  obtain ⟨n, hn1⟩ : ∃ n, n = es.length := ⟨_, rfl⟩
  have HLEN : Hid (n = es.length) := hn1
  have hnb : n ≤ 1048576 := by have := hin.size; omega
  rw [← hn1] at HSRC ⊢
  clear h hin hn1 hp
  go_enter Tryd.func7, Tryd.ntmps7
  go_wp2_with fail
  go_loopw [8] (fun i wr => ∃ (k : Nat) (u : List UInt8), k ≤ n ∧ i = .int .i64 k ∧ Hid (u = crashL es k) ∧ Hid (Bld w.heap.size w.heap.size u wr) ∧ Hid (Below w.heap.size w wr)) (fun i _ => n - (intOf i).toNat)
  case atStart => exact ⟨0, [], Nat.zero_le _, rfl, rfl, bld_new w, (Below.refl _ w).alloc (Nat.le_refl _) _⟩
  case round =>
    obtain ⟨k, u, hk, rfl, HU, HBLD, HB⟩ := hrel
    obtain ⟨wq, hwq⟩ : ∃ x, x = wr := ⟨_, rfl⟩
    subst hwq
    have hsz : w.heap.size ≤ wq.heap.size := HB.out.size
    by_cases hlt : k < n
    · have hlti : (k : Int) < (n : Int) := by omega
      obtain ⟨⟨ser, ⟨kd, nn, ss, ll⟩, L, rc0, ab0⟩, he⟩ : ∃ e, es[k]? = some e := ⟨es[k]'(by rw [← HLEN.out]; exact hlt), List.getElem?_eq_getElem _⟩
      obtain ⟨b, off, rfl, hx⟩ := HSRC.out.at he
      obtain ⟨⟨c0, c1, c2, c3, c4, c5, c6⟩, hll⟩ := hx wq HB.out
      have HE := Hid.mk' he
      obtain ⟨lo, lc, hL⟩ := hll.shape
      simp only at hL c0 c1 c2 c3 c4 c5 c6 hll
      subst hL
      obtain ⟨hvin, hss, hls⟩ := HIN.out.each _ (List.mem_of_getElem? he)
      simp only at hvin hss hls
      have HT : Hid (∀ u, Below w.heap.size w u → Calls Tryd.prog 13 #[.agg #[.int .i64 kd, .int .i64 nn, .string ss, .slice lo ll.length lc]] u fun e w' => e = .returned (.string (textV ⟨kd, nn, ss, ll⟩)) ∧ Below u.heap.size u w') := fun u hu =>
        own_text ⟨kd, nn, ss, ll⟩ _ u hvin (hx u hu).2 (by simp only; omega) (HP.out u hu)
      have HLN : Hid (crashL es (k + 1) = u ++ (⟨(leadL k).toArray⟩ : ByteArray).data.toList ++ (textV ⟨kd, nn, ss, ll⟩).data.toList ++ (if rc0 then markB.data.toList else []) ++ [10]) := by
        show _ = _
        rw [crashL_succ he, HU.out]
        simp only [lineL, ba_of, List.append_assoc]
      have hTS : (textV ⟨kd, nn, ss, ll⟩).size ≤ 2097154 := textV_le hvin hss
      have hLS : (⟨(leadL k).toArray⟩ : ByteArray).size ≤ 8 := by show (leadL k).toArray.size ≤ 8; rw [List.size_toArray]; unfold leadL; split <;> decide
      have HLD : Hid (∀ u, Calls Tryd.prog 12 #[.int .i64 k] u fun e w' => e = .returned (.string ⟨(leadL k).toArray⟩) ∧ w' = u) := fun u => own_lead k u
      have hul : u.length ≤ 2199122968600 := by have := HCL.out k; rw [← HU.out] at this; omega
      have hTL : (textV ⟨kd, nn, ss, ll⟩).data.toList.length ≤ 2097154 := by rw [bsize_list]; exact hTS
      have hLL : (⟨(leadL k).toArray⟩ : ByteArray).data.toList.length ≤ 8 := by rw [bsize_list]; exact hLS
      generalize textV ⟨kd, nn, ss, ll⟩ = TX at *
      generalize (⟨(leadL k).toArray⟩ : ByteArray) = LD at *
      clear hll hx he hvin
      go_wp2_with fail
      have HBLT := Hid.mk' (bld_lt HBLD.out)
      have HX0 : Hid ((wq.alloc (.cells #[.int .i64 ser, .int .i64 kd, .int .i64 nn, .string ss, .slice lo ll.length lc, .bool rc0, .bool ab0] 27)).heap[wq.heap.size]? = some (.cells #[.int .i64 ser, .int .i64 kd, .int .i64 nn, .string ss, .slice lo ll.length lc, .bool rc0, .bool ab0] 27 (0, 0))) := box_stays (Below.refl _ _)
      have HB0 : Hid (Bld w.heap.size w.heap.size u (wq.alloc (.cells #[.int .i64 ser, .int .i64 kd, .int .i64 nn, .string ss, .slice lo ll.length lc, .bool rc0, .bool ab0] 27))) := bld_below HBLD.out show_below
      have HW0 : Hid (Below w.heap.size w (wq.alloc (.cells #[.int .i64 ser, .int .i64 kd, .int .i64 nn, .string ss, .slice lo ll.length lc, .bool rc0, .bool ab0] 27))) := HB.out.alloc hsz _
      clear c0 c1 c2 c3 c4 c5 c6
      generalize wq.alloc (.cells #[.int .i64 ser, .int .i64 kd, .int .i64 nn, .string ss, .slice lo ll.length lc, .bool rc0, .bool ab0] 27) = W0 at *
      refine Calls.mono (HLD.out _) ?_
      rintro e w1 ⟨rfl, rfl⟩
      go_wp2_with fail
      refine (writeString_keep w.heap.size w.heap.size u LD _ HB0.out (by omega) (by omega) HW0.out.size).mono ?_
      rintro e w2 ⟨rfl, b2, f2, k2⟩
      have HB2 := Hid.mk' b2
      have HW2 : Hid (Below w.heap.size w w2) := HW0.out.trans f2
      have HX2 : Hid (w2.heap[wq.heap.size]? = some (.cells #[.int .i64 ser, .int .i64 kd, .int .i64 nn, .string ss, .slice lo ll.length lc, .bool rc0, .bool ab0] 27 (0, 0))) := k2 _ _ (by have := HBLT.out; omega) HX0.out
      clear b2 f2 k2
      obtain ⟨⟨d0, d1, d2, d3, d4, d5, d6⟩, -⟩ := box7 HX2.out
      go_wp2_with fail
      refine Calls.mono (HT.out _ HW2.out) ?_
      rintro e w3 ⟨rfl, f3⟩
      have HB3 := Hid.mk' (bld_below HB2.out f3)
      have HW3 : Hid (Below w.heap.size w w3) := HW2.out.trans (f3.mono HW2.out.size)
      have HX3 : Hid (w3.heap[wq.heap.size]? = some (.cells #[.int .i64 ser, .int .i64 kd, .int .i64 nn, .string ss, .slice lo ll.length lc, .bool rc0, .bool ab0] 27 (0, 0))) := by show _ = _; rw [f3.block _ (Array.getElem?_eq_some_iff.1 HX2.out).1]; exact HX2.out
      clear f3 d0 d1 d2 d3 d4 d5 d6
      go_wp2_with fail
      refine (writeString_keep w.heap.size w.heap.size (u ++ LD.data.toList) TX _ HB3.out (by rw [List.length_append]; omega) (by omega) HW3.out.size).mono ?_
      rintro e w4 ⟨rfl, b4, f4, k4⟩
      have HB4 := Hid.mk' b4
      have HW4 : Hid (Below w.heap.size w w4) := HW3.out.trans f4
      have HX4 : Hid (w4.heap[wq.heap.size]? = some (.cells #[.int .i64 ser, .int .i64 kd, .int .i64 nn, .string ss, .slice lo ll.length lc, .bool rc0, .bool ab0] 27 (0, 0))) := k4 _ _ (by have := HBLT.out; omega) HX3.out
      clear b4 f4 k4
      obtain ⟨⟨d0, d1, d2, d3, d4, d5, d6⟩, -⟩ := box7 HX4.out
      cases rc0 with
      | true =>
        have HLN2 : Hid (u ++ LD.data.toList ++ TX.data.toList ++ markB.data.toList ++ [10] = crashL es (k + 1)) := HLN.out.symm
        go_wp2_with fail
        refine (writeString_keep w.heap.size w.heap.size (u ++ LD.data.toList ++ TX.data.toList) markB _ HB4.out (by rw [List.length_append, List.length_append]; omega) (by decide) HW4.out.size).mono ?_
        rintro e w5 ⟨rfl, b5, f5, -⟩
        have HB5 := Hid.mk' b5
        have HW5 : Hid (Below w.heap.size w w5) := HW4.out.trans f5
        clear b5 f5 d0 d1 d2 d3 d4 d5 d6
        go_wp2_with fail
        refine (writeByte_any w.heap.size w.heap.size (u ++ LD.data.toList ++ TX.data.toList ++ markB.data.toList) 10 _ HB5.out (by rw [List.length_append, List.length_append, List.length_append, show markB.data.toList.length = 12 from rfl]; omega) HW5.out.size).mono ?_
        rintro e w6 ⟨rfl, b6, f6⟩
        have HB6 := Hid.mk' b6
        have HW6 : Hid (Below w.heap.size w w6) := HW5.out.trans f6
        clear b6 f6
        go_wp2_with fail
        go_roundw
        case rel => exact ⟨k + 1, _, by omega, by go_num, HLN2.out, HB6.out, HW6.out⟩
        case measure => simp [intOf]; omega
      | false =>
        have HLN2 : Hid (u ++ LD.data.toList ++ TX.data.toList ++ [10] = crashL es (k + 1)) := by show _ = _; rw [HLN.out]; simp
        go_wp2_with fail
        clear d0 d1 d2 d3 d4 d5 d6
        refine (writeByte_any w.heap.size w.heap.size (u ++ LD.data.toList ++ TX.data.toList) 10 _ HB4.out (by rw [List.length_append, List.length_append]; omega) HW4.out.size).mono ?_
        rintro e w6 ⟨rfl, b6, f6⟩
        have HB6 := Hid.mk' b6
        have HW6 : Hid (Below w.heap.size w w6) := HW4.out.trans f6
        clear b6 f6
        go_wp2_with fail
        go_roundw
        case rel => exact ⟨k + 1, _, by omega, by go_num, HLN2.out, HB6.out, HW6.out⟩
        case measure => simp [intOf]; omega
    · have hke : n = k := by omega
      subst hke
      have hlti : ¬ (n : Int) < (n : Int) := by omega
      have HUE : Hid ((⟨u.toArray⟩ : ByteArray) = ⟨(crashL es n).toArray⟩) := by show _ = _; rw [HU.out]
      go_wp2_with fail
      refine (bstr_any w.heap.size w.heap.size u _ HBLD.out hsz).mono ?_
      rintro e w3 ⟨rfl, f3⟩
      rw [HUE.out]
      go_wp2_with fail
      go_ret
      exact ⟨rfl, HB.out.trans f3⟩
end Go.Proofs.YtncjaohiimenaabDoor
