/- What the reference tells of a panic's value. -/
import Derived.Test.YtncjaohiimenaaaDoorRtext
import Derived.Test.YtncjaohiimenaaaDoorBig6
import Derived.Lib.ConvBytes
import Derived.Maps.AppendAt
namespace Go.Proofs.YtncjaohiimenaaaDoor
open Go.ChangeShapes Go.WideShapes Go.ChangeAt Go.RowKit
set_option maxRecDepth 100000
set_option linter.unusedSimpArgs false
set_option linter.unusedVariables false
theorem decimal_any (n : Int) (h0 : -9223372036854775808 ≤ n) (h1 : n ≤ 9223372036854775807) (w : World) :
    Calls Tryd.prog 25 #[.int .i64 n] w fun e w' => e = .returned (.string (txt n)) ∧ Below w.heap.size w w' := by
  go_enter Tryd.func25, Tryd.ntmps25
  go_wp2_with fail
  refine (whole_any n h0 h1 w).mono ?_
  rintro e w1 ⟨b, rfl, -, hb, hbel⟩
  have HB : Hid (Big w1 b n) := hb
  clear hb
  go_wp2_with fail
  refine (string_any b n w1 HB.out (by omega) (by omega)).mono ?_
  rintro e w2 ⟨rfl, hbel2⟩
  go_wp2
  go_ret
  exact ⟨rfl, hbel.trans (hbel2.mono hbel.size)⟩
/-- A row of bytes of the call's own. -/
def BRow (w : World) (B : Nat) (v : Value) (l : List UInt8) : Prop := w.ownsRow B 5 1 v l.length (Lib.byteCells l)
theorem brow_shape {w : World} {B : Nat} {v : Value} {l : List UInt8} (h : BRow w B v l) : ∃ ao cap, v = .slice ao l.length cap := by
  rcases h.2 with ⟨hv, h0⟩ | ⟨g, cap, cur, hv, _⟩
  · exact ⟨none, 0, by rw [hv, h0]⟩
  · exact ⟨_, _, hv⟩
theorem byt_nat (c : UInt8) : byt (c.toNat : Int) = c := by
  unfold byt
  simp
theorem brow_str {w : World} {B n cap : Nat} {ao : Option Addr} {l : List UInt8} (hn : n = l.length) (h : BRow w B (.slice ao n cap) l) :
    (convert 49 9 (.slice ao n cap)).run Tryd.prog w = .ok (.string ⟨l.toArray⟩) w := by
  subst hn
  rcases h.2 with ⟨hv, h0⟩ | ⟨g, cap', cur, hv, _⟩
  · simp only [Value.slice.injEq] at hv
    obtain ⟨rfl, -, rfl⟩ := hv
    have : l = [] := List.eq_nil_of_length_eq_zero h0
    subst this
    rw [run_convert_bytes_string w 49 9 5 _ _ _ Tryd.underlying49 Tryd.underlying5 Tryd.underlying9]
    rfl
  · simp only [Value.slice.injEq] at hv
    obtain ⟨rfl, -, rfl⟩ := hv
    have h2 : w.ownsRow B 5 1 (.slice (some ⟨g, 0, none⟩) l.length cap) l.length ((l.map fun c => (c.toNat : Int)).map (Value.int .u8)) := by
      rw [List.map_map]; exact h
    rw [run_str (by simp) h2, List.map_map]
    have : l.map (byt ∘ fun c => (c.toNat : Int)) = l := by
      conv => rhs; rw [← List.map_id l]
      exact List.map_congr_left fun c _ => byt_nat c
    rw [this]
theorem bcells_app (l m : List UInt8) : Lib.byteCells l ++ Lib.byteCells m = Lib.byteCells (l ++ m) := by simp [Lib.byteCells]
theorem cell_two_new (w : World) (a b : Value) (t : TypeId) : ∀ (j : Nat) u, [a, b][j]? = some u → (w.alloc (.cells #[a, b] t)).cell? ((⟨w.heap.size, 0, none⟩ : Addr).add j) = some u := by
  intro j u hu
  have h : (w.alloc (.cells #[a, b] t)).heap[w.heap.size]? = some (.cells #[a, b] t (0, 0)) := by
    show (w.heap.push _)[w.heap.size]? = some _
    exact Array.getElem?_push_size
  rw [add_plain, Nat.zero_add]
  generalize w.alloc (.cells #[a, b] t) = W at h ⊢
  simp only [World.cell?, h]
  match j with
  | 0 => simpa using hu
  | 1 => simpa using hu
  | j + 2 => simp at hu
/-- A new row of bytes. -/
theorem brow_new (w : World) (c : UInt8) : BRow (w.alloc (.cells #[.int .u8 c.toNat] 5)) w.heap.size (.slice (some ⟨w.heap.size, 0, none⟩) 1 1) [c] := by
  unfold BRow
  have h : (w.alloc (.cells #[.int .u8 c.toNat] 5)).heap[w.heap.size]? = some (.cells #[.int .u8 c.toNat] 5 (0, 0)) := by
    show (w.heap.push _)[w.heap.size]? = some _
    exact Array.getElem?_push_size
  exact ⟨rfl, .inr ⟨w.heap.size, 1, #[.int .u8 c.toNat], rfl, Nat.le_refl _, h, by simp, by decide, by simp [Lib.byteCells]⟩⟩
/-- Bytes that are being turned: the first k are plain. -/
def BF (g k : Nat) (l : List UInt8) (u : World) : Prop := ∃ cs lo hi, u.heap[g]? = some (.cells cs 5 (lo, hi)) ∧ l.length ≤ lo ∧ ∀ (j : Nat) c, (tPlain (l.take k) ++ l.drop k)[j]? = some c → cs[j]? = some (.int .u8 (c.toNat : Int))
theorem BF.cell {g k : Nat} {l : List UInt8} {u : World} (h : BF g k l u) {c : UInt8} (hk : l[k]? = some c) : u.cell? ⟨g, k, none⟩ = some (.int .u8 (c.toNat : Int)) ∧ u.frozen? ⟨g, k, none⟩ = false := by
  obtain ⟨cs, lo, hi, h1, h2, h3⟩ := h
  have hkl := (List.getElem?_eq_some_iff.1 hk).1
  have h4 := h3 k c (by
    rw [List.getElem?_append_right (by simp [tPlain]; omega)]
    simp [tPlain, Nat.min_eq_left (Nat.le_of_lt hkl), hk])
  refine ⟨by simp [World.cell?, h1, h4], ?_⟩
  simp [World.frozen?, h1]
  omega
theorem BF.put {g k : Nat} {l : List UInt8} {u : World} (h : BF g k l u) {c : UInt8} (hk : l[k]? = some c) (ht : tByte c = 63) : BF g (k + 1) l (u.setCell ⟨g, k, none⟩ (.int .u8 63)) := by
  obtain ⟨cs, lo, hi, h1, h2, h3⟩ := h
  have hkl := (List.getElem?_eq_some_iff.1 hk).1
  have hkc := (List.getElem?_eq_some_iff.1 hk).2
  refine ⟨cs.setIfInBounds k (.int .u8 63), lo, hi, by simp [World.setCell, Array.getElem?_modify, h1], h2, fun j y hy => ?_⟩
  have hle : (tPlain (l.take k)).length = k := by simp [tPlain]; omega
  have hsame : (tPlain (l.take (k + 1)) ++ l.drop (k + 1)) = (tPlain (l.take k) ++ l.drop k).set k 63 := by
    rw [take_at hk, List.set_append_right _ _ (by omega), hle, Nat.sub_self, List.drop_eq_getElem_cons hkl, List.set_cons_zero]
    simp [tPlain, ht]
  rw [hsame] at hy
  by_cases hj : k = j
  · subst hj
    have hl : k < (tPlain (l.take k) ++ l.drop k).length := by rw [List.length_append, hle, List.length_drop]; omega
    rw [List.getElem?_set_self hl] at hy
    cases hy
    have h4 := h3 k c (by
      rw [List.getElem?_append_right (by omega), hle]
      simp [hk])
    have hkcs := (Array.getElem?_eq_some_iff.1 h4).1
    rw [Array.getElem?_setIfInBounds_self_of_lt hkcs]
    rfl
  · rw [List.getElem?_set_ne hj] at hy
    rw [Array.getElem?_setIfInBounds_ne hj]
    exact h3 j y hy
theorem BF.pass {g k : Nat} {l : List UInt8} {u : World} (h : BF g k l u) {c : UInt8} (hk : l[k]? = some c) (ht : tByte c = c) : BF g (k + 1) l u := by
  obtain ⟨cs, lo, hi, h1, h2, h3⟩ := h
  have hkl := (List.getElem?_eq_some_iff.1 hk).1
  have hkc := (List.getElem?_eq_some_iff.1 hk).2
  refine ⟨cs, lo, hi, h1, h2, fun j y hy => h3 j y ?_⟩
  have hsame : (tPlain (l.take (k + 1)) ++ l.drop (k + 1)) = tPlain (l.take k) ++ l.drop k := by
    rw [take_at hk, List.drop_eq_getElem_cons hkl, hkc]
    simp [tPlain, ht]
  rwa [hsame] at hy
theorem BF.str {g n cap : Nat} {l : List UInt8} {u : World} (h : BF g l.length l u) (hn : n = l.length) :
    (convert 49 9 (.slice (some ⟨g, 0, none⟩) n cap)).run Tryd.prog u = .ok (.string ⟨(tPlain l).toArray⟩) u := by
  subst hn
  obtain ⟨cs, lo, hi, h1, h2, h3⟩ := h
  rw [List.take_length, List.drop_length, List.append_nil] at h3
  rw [run_convert_bytes_string u 49 9 5 _ _ _ Tryd.underlying49 Tryd.underlying5 Tryd.underlying9]
  have hl := run_loadCells_list (P := Tryd.prog) u ⟨g, 0, none⟩ (((tPlain l).map fun c => (c.toNat : Int)).map (Value.int .u8)) (fun j y hy => by
    rw [List.map_map, List.getElem?_map] at hy
    obtain ⟨c, hc, rfl⟩ := Option.map_eq_some_iff.1 hy
    have := h3 j c hc
    simp [World.cell?, add_plain, h1, this])
  rw [List.length_map, List.length_map] at hl
  have hlen : (tPlain l).length = l.length := by simp [tPlain]
  rw [hlen] at hl
  rw [run_bytesToString u ⟨g, 0, none⟩ l.length cap ((tPlain l).map fun c => (c.toNat : Int)) hl, fold_push, show ByteArray.empty.data = #[] from rfl, Array.empty_append, List.map_map]
  have : (tPlain l).map (byt ∘ fun c => (c.toNat : Int)) = tPlain l := by
    conv => rhs; rw [← List.map_id (tPlain l)]
    exact List.map_congr_left fun c _ => byt_nat c
  rw [this]
theorem BF.start (w : World) (s : ByteArray) : BF w.heap.size 0 s.data.toList (Lib.bytesWorld w 5 s) := by
  refine ⟨_, _, _, Lib.bytesWorld_at_new w 5 s, ?_, fun j c hc => ?_⟩
  · simp [Lib.bytesCells]
  · rw [List.take_zero, List.drop_zero] at hc
    have h0 : tPlain [] = [] := rfl
    rw [h0, List.nil_append] at hc
    have hj := (List.getElem?_eq_some_iff.1 hc).1
    have hj2 : j < s.data.size := by simpa using hj
    have hc2 : s.data[j] = c := by have := (List.getElem?_eq_some_iff.1 hc).2; simpa using this
    have hj3 : j < s.size := hj2
    subst hc2
    simp [Lib.bytesCells, Array.getElem?_append, hj3]
theorem below_bytes (w : World) (e : TypeId) (s : ByteArray) : Below w.heap.size w (Lib.bytesWorld w e s) :=
  ⟨rfl, rfl, rfl, by rw [Lib.bytesWorld_size]; omega, fun k hk => Lib.bytesWorld_at_old w e s k hk⟩
set_option maxHeartbeats 8000000 in
theorem ref_text5 (n : Int) (s : ByteArray) (L : Value) (w : World) (hs : s.size ≤ 140737488355328) :
    Calls Tryd.prog 10 #[.agg #[.int .i64 5, .int .i64 n, .string s, L]] w fun e w' => e = .returned (.string ⟨(tPlain s.data.toList).toArray⟩) ∧ Below w.heap.size w w' := by
  have HG : Hid (∀ (k : Nat) (h : k < s.size), s.data.toList[k]? = some s[k]) := fun k h => by rw [get_list s k h, List.getElem?_eq_getElem]
  have HZ : Hid (s.data.toList.length = s.size) := bsize_list s
  have hcv : ∀ u : World, (convert 9 49 (.string s)).run Tryd.prog u = .ok (.slice (some ⟨u.heap.size, 0, none⟩) s.size (grownCap u s.size 0 5)) (Lib.bytesWorld u 5 s) := fun u => Lib.run_convert_string_bytes u 9 49 5 s (u := .string) Tryd.underlying9 Tryd.underlying49 Tryd.underlying5
  have HST : Hid (∀ u : World, BF u.heap.size 0 s.data.toList (Lib.bytesWorld u 5 s) ∧ Below u.heap.size u (Lib.bytesWorld u 5 s)) := fun u => ⟨BF.start u s, below_bytes u 5 s⟩
  generalize s.data.toList = l at *
  go_enter Tryd.func10, Tryd.ntmps10
  go_wp2_with fail
  generalize hW0 : w.alloc (.cells #[.int .i64 5, .int .i64 n, .string s, L] 24) = W0 at *
  obtain ⟨hb0, hb1⟩ := HST.out W0
  have HW : Hid (Below w.heap.size w W0) := by subst hW0; exact show_below
  have hg : W0.heap.size = w.heap.size + 1 := by subst hW0; simp
  have HB0 : Hid (BF (w.heap.size + 1) 0 l (Lib.bytesWorld W0 5 s) ∧ Below w.heap.size w (Lib.bytesWorld W0 5 s)) := ⟨by rw [← hg]; exact hb0, HW.out.trans (hb1.mono HW.out.size)⟩
  have hge : w.heap.size ≤ w.heap.size + 1 := by omega
  generalize grownCap W0 s.size 0 5 = cap at *
  generalize Lib.bytesWorld W0 5 s = W1 at *
  clear hg
  clear hb0 hb1 hcv HST
  go_loopw [22] (fun i wr => ∃ k : Nat, k ≤ s.size ∧ i = .int .i64 k ∧ Hid (BF (w.heap.size + 1) k l wr ∧ Below w.heap.size w wr)) (fun i _ => s.size - (intOf i).toNat)
  case atStart => exact ⟨0, Nat.zero_le _, rfl, HB0.out⟩
  case round =>
    obtain ⟨k, hk, rfl, HU⟩ := hrel
    obtain ⟨wq, hwq⟩ : ∃ x, x = wr := ⟨_, rfl⟩
    subst hwq
    by_cases hlt : k < s.size
    · have hlti : (k : Int) < (s.size : Int) := by omega
      obtain ⟨c0, f0⟩ := HU.out.1.cell (HG.out k hlt)
      have HX : Hid ((s[k].toNat < 32 ∨ 126 < s[k].toNat) → tByte s[k] = 63) := fun h => by unfold tByte; rw [if_pos h]
      have HY : Hid (¬ (s[k].toNat < 32 ∨ 126 < s[k].toNat) → tByte s[k] = s[k]) := fun h => by unfold tByte; rw [if_neg h]
      have HGK : Hid (l[k]? = some s[k]) := HG.out k hlt
      by_cases h32 : (s[k].toNat : Int) < 32
      · have HN := Hid.mk' (HU.out.1.put HGK.out (HX.out (by omega)))
        go_wp2_with fail
        go_roundw
        case rel => exact ⟨k + 1, by omega, by go_num, HN.out, HU.out.2.setCell hge _⟩
        case measure => simp [intOf]; omega
      · have k32 : decide ((s[k].toNat : Int) < 32) = false := by simpa using h32
        by_cases h126 : 126 < (s[k].toNat : Int)
        · have HN := Hid.mk' (HU.out.1.put HGK.out (HX.out (by omega)))
          clear h32
          go_wp2_with fail
          go_roundw
          case rel => exact ⟨k + 1, by omega, by go_num, HN.out, HU.out.2.setCell hge _⟩
          case measure => simp [intOf]; omega
        · have k126 : decide (126 < (s[k].toNat : Int)) = false := by simpa using h126
          have HN := Hid.mk' (HU.out.1.pass HGK.out (HY.out (by omega)))
          clear h32 h126
          go_wp2_with fail
          go_roundw
          case rel => exact ⟨k + 1, by omega, by go_num, HN.out, HU.out.2⟩
          case measure => simp [intOf]; omega
    · obtain rfl : k = s.size := by omega
      have hlt2 : ¬ (s.size : Int) < (s.size : Int) := by omega
      have hcs := (by have := HU.out.1; rw [← HZ.out] at this; exact this : BF (w.heap.size + 1) l.length l wq).str (cap := cap) HZ.out.symm
      go_wp2_with fail
      go_ret
      exact ⟨rfl, HU.out.2⟩
end Go.Proofs.YtncjaohiimenaaaDoor
