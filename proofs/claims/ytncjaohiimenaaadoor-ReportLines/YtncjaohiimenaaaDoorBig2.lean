/- Contracts of the big numbers' makers: give, words, SetInt64, NewInt, whole. -/
import Derived.Test.YtncjaohiimenaaaDoorBig1
import Derived.Lib.BufferOwn
namespace Go.Proofs.YtncjaohiimenaaaDoor
set_option maxRecDepth 100000
open Go.ChangeShapes Go.WideShapes Go.ChangeAt Go.RowKit

/-- The struct of a number, as a block. -/
def IntBlock (w : World) (b : Nat) (neg : Bool) (v : Value) : Prop := w.heap[b]? = some (.cells #[.bool neg, v] 75 (0, 0))
theorem IntBlock.lt {w : World} {b : Nat} {neg : Bool} {v : Value} (h : IntBlock w b neg v) : b < w.heap.size := (Array.getElem?_eq_some_iff.1 h).1
theorem IntBlock.cells {w : World} {b : Nat} {neg : Bool} {v : Value} (h : IntBlock w b neg v) :
    w.cell? ⟨b, 0, none⟩ = some (.bool neg) ∧ w.cell? ⟨b, 1, none⟩ = some v ∧ w.frozen? ⟨b, 0, none⟩ = false ∧ w.frozen? ⟨b, 1, none⟩ = false := by
  unfold IntBlock at h
  simp [World.cell?, World.frozen?, h]
theorem set_two {w : World} {b : Nat} {neg : Bool} {v : Value} (h : IntBlock w b neg v) (neg' : Bool) (v' : Value) :
    IntBlock ((w.setCell ⟨b, 1, none⟩ v').setCell ⟨b, 0, none⟩ (.bool neg')) b neg' v' := by
  unfold IntBlock at h ⊢
  simp only [World.setCell, Array.getElem?_modify, if_pos, h, Option.map_some]
  rfl
theorem grown_two (w : World) (b : Nat) (x y : Value) : w.grownBy ((w.setCell ⟨b, 1, none⟩ x).setCell ⟨b, 0, none⟩ y) (some b) := by
  refine ⟨rfl, rfl, rfl, by simp [World.setCell], fun k _ hne => ?_⟩
  have : b ≠ k := fun e => hne (by rw [e])
  simp only [World.setCell, Array.getElem?_modify]
  rw [if_neg this, if_neg this]
theorem grown_trans {a b c : World} {r : Option Nat} (h1 : a.grownBy b r) (h2 : b.grownBy c r) : a.grownBy c r :=
  ⟨h2.os.trans h1.os, h2.tape.trans h1.tape, h2.output.trans h1.output, Nat.le_trans h1.size h2.size, fun k hk hne => (h2.block k (Nat.lt_of_lt_of_le hk h1.size) hne).trans (h1.block k hk hne)⟩
theorem grown_of_below {a b : World} {r : Option Nat} (h : Below a.heap.size a b) : a.grownBy b r := ⟨h.os, h.tape, h.output, h.size, fun k hk _ => h.block k hk⟩
theorem below_trans {a b c : World} (h1 : Below a.heap.size a b) (h2 : Below b.heap.size b c) : Below a.heap.size a c := h1.trans (h2.mono h1.size)
/-- What turns a block of its own alone leaves all that was there. -/
theorem below_grown {a b c : World} {r : Nat} (h1 : Below a.heap.size a b) (h2 : b.grownBy c (some r)) (hr : a.heap.size ≤ r) : Below a.heap.size a c :=
  h1.grown h2 h1.size (fun k hk => by cases hk; exact hr)

theorem give_any (b : Nat) (n0 : Bool) (v0 : Value) (neg : Bool) (ao : Option Addr) (n cap : Nat) (w : World) (hn : n ≤ maxLen) (h : IntBlock w b n0 v0) :
    Calls Tryd.prog 52 #[.pointer (some ⟨b, 0, none⟩), .bool neg, .slice ao n cap] w fun e w' => e = .returned (.pointer (some ⟨b, 0, none⟩)) ∧ IntBlock w' b (neg && decide (0 < n)) (.slice ao n cap) ∧ w.grownBy w' (some b) := by
  obtain ⟨c0, c1, f0, f1⟩ := h.cells
  have HB : Hid (IntBlock w b n0 v0) := h
  unfold maxLen at hn
  clear h
  cases neg
  · go_enter Tryd.func52, Tryd.ntmps52
    go_wp2
    go_ret
    exact ⟨rfl, set_two HB.out _ _, grown_two _ _ _ _⟩
  · by_cases h0 : n = 0
    · subst h0
      go_enter Tryd.func52, Tryd.ntmps52
      go_wp2
      go_ret
      exact ⟨rfl, set_two HB.out _ _, grown_two _ _ _ _⟩
    · have hp : (0 : Int) < (n : Int) := by omega
      go_enter Tryd.func52, Tryd.ntmps52
      go_wp2
      go_ret
      exact ⟨rfl, set_two HB.out _ _, grown_two _ _ _ _⟩

/-- A row in a new block. -/
theorem row_new (w : World) (ws : List Int) (hw : Wds ws) (hm : ws.length ≤ maxLen) : Row (w.alloc (.cells (ws.map (Value.int .u32)).toArray 77)) (.slice (some ⟨w.heap.size, 0, none⟩) ws.length ws.length) ws := by
  refine ⟨⟨by simp, .inr ⟨w.heap.size, ws.length, (ws.map (Value.int .u32)).toArray, rfl, Nat.zero_le _, heap_alloc_new w _, Nat.le_refl _, hm, by simp, by simp; exact List.take_of_length_le (by simp)⟩⟩, fun z hz => ?_⟩
  have := hw z hz
  simp [Lit.wf, IntKind.min, IntKind.max, IntKind.bits, IntKind.signed]
  omega
theorem words_plain (x : Int) (h0 : 0 ≤ x) (h1 : x < 18446744073709551616) : Wds [x % 4294967296, x / 4294967296] ∧ nv [x % 4294967296, x / 4294967296] = x := by
  refine ⟨fun y hy => ?_, ?_⟩
  · simp at hy
    rcases hy with rfl | rfl <;> omega
  · simp only [nv]; omega

set_option maxHeartbeats 400000 in
theorem words_any (x : Int) (h0 : 0 ≤ x) (h1 : x < 18446744073709551616) (w : World) :
    Calls Tryd.prog 53 #[.int .u64 x] w fun e w' => ∃ v ws, e = .returned v ∧ Row w' v ws ∧ Norm ws ∧ nv ws = x ∧ Below w.heap.size w w' := by
  obtain ⟨hw, hv⟩ := words_plain x h0 h1
  have hrow := row_new w _ hw (by unfold maxLen; simp)
  have HR : Hid (Row (w.alloc (.cells #[.int .u32 (x % 4294967296), .int .u32 (x / 4294967296)] 77)) (.slice (some ⟨w.heap.size, 0, none⟩) 2 2) [x % 4294967296, x / 4294967296]) := hrow
  have HV : Hid (nv [x % 4294967296, x / 4294967296] = x) := hv
  clear hrow hw hv
  have s1 : 0 ≤ x / 4294967296 := by omega
  have s2 : x / 4294967296 < 4294967296 := by omega
  go_enter Tryd.func53, Tryd.ntmps53
  go_wp2_with fail
  refine (trim_any _ _ _ HR.out).mono ?_
  rintro e w1 ⟨rfl, k, v', rfl, hk, hr, -, hz, hl⟩
  go_wp2
  go_ret
  exact ⟨_, _, rfl, hr, norm_take hk hl, by rw [nv_take hz, HV.out], (Below.refl _ _).alloc (Nat.le_refl _) _⟩
end Go.Proofs.YtncjaohiimenaaaDoor
