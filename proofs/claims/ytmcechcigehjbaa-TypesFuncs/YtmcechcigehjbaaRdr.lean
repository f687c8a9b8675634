/- What types.reader's take and plainType do. -/
import Derived.Test.YtmcechcigehjbaaRows
import Derived.Test.YtmcechcigehjbaaShelf
import Derived.Test.YtmcechcigehjbaaTyplain
import Derived.WalkKit
import Derived.ProofKit
import Derived.OpenShut
import Derived.Handy
import Derived.Laws.Strings2
import Derived.WalkSpells
import Derived.OwnWalk
import Derived.Deep.QuietTactic
import Derived.BigQuiet
namespace Go.Proofs.Ytmcechcigehjbaa
open Go.ChangeShapes Go.WideShapes Go.ChangeAt Go.RowKit
set_option maxRecDepth 100000
set_option linter.unusedSimpArgs false

theorem bsize_list (s : ByteArray) : s.data.toList.length = s.size := by simp
theorem get_list (s : ByteArray) (k : Nat) (h : k < s.size) : s[k] = s.data.toList[k]'(by simpa using h) := by
  rw [Array.getElem_toList]; rfl
theorem drop_list (s : ByteArray) (k : Nat) : (s.extract k s.size).data.toList = s.data.toList.drop k := by
  rw [ByteArray.data_extract]
  simp
  rw [List.take_of_length_le (by simp)]
theorem slice_from (s : ByteArray) (k : Nat) (h : k ≤ s.size) (W : World) : (Instr.slice 9 (.string s) (some (.int .i64 (k : Int))) none none).run Try.prog W = .ok (.string (s.extract k s.size)) W := by
  have := run_slice_string_l W 9 s Try.underlying9 .i64 k (by omega) (by omega)
  rw [this]
  rfl

/-- Block b is a reader of t, p bytes on. -/
def Rdr (b : Nat) (t : ByteArray) (p : Nat) (w : World) : Prop := w.heap[b]? = some (.cells #[.string t, .int .i64 p] 41 (0, 0))
theorem Rdr.cells {b p : Nat} {t : ByteArray} {w : World} (h : Rdr b t p w) : w.cell? ⟨b, 0, none⟩ = some (.string t) ∧ w.cell? ⟨b, 1, none⟩ = some (.int .i64 p) ∧ (∀ j, w.frozen? ⟨b, j, none⟩ = false) := by
  unfold Rdr at h
  simp [World.cell?, World.frozen?, h]
theorem Rdr.lt {b p : Nat} {t : ByteArray} {w : World} (h : Rdr b t p w) : b < w.heap.size := (Array.getElem?_eq_some_iff.1 h).1
theorem Rdr.set {b p : Nat} {t : ByteArray} {w : World} (h : Rdr b t p w) (q : Nat) : Rdr b t q (w.setCell ⟨b, 1, none⟩ (.int .i64 q)) := by
  unfold Rdr at *
  simp [World.setCell, Array.getElem?_modify, h]
theorem Rdr.drewN {b p : Nat} {t : ByteArray} {w : World} (h : Rdr b t p w) (n : Nat) : Rdr b t p (w.drewN n) := h
theorem gb_trans {a b c : World} {r : Option Nat} (h : a.grownBy b r) (k : b.grownBy c r) : a.grownBy c r :=
  ⟨k.os.trans h.os, k.tape.trans h.tape, k.output.trans h.output, Nat.le_trans h.size k.size, fun i hi hr => (k.block i (Nat.lt_of_lt_of_le hi h.size) hr).trans (h.block i hi hr)⟩
theorem gb_set (w : World) (b j : Nat) (v : Value) : w.grownBy (w.setCell ⟨b, j, none⟩ v) (some b) :=
  ⟨rfl, rfl, rfl, by simp [World.setCell], fun k _ hk => Below.heap_setCell _ _ _ _ (fun e => hk (by simp [e]))⟩
theorem gb_drewN {a b : World} {r : Option Nat} (h : a.grownBy b r) (n : Nat) : a.grownBy (b.drewN n) r := ⟨h.os, h.tape, h.output, h.size, h.block⟩

/-- What take does: it goes past the piece, or stays. -/
def past (t : ByteArray) (p : Nat) (x : ByteArray) : Bool := x.data.toList.isPrefixOf (t.data.toList.drop p)
theorem past_le {t x : ByteArray} {p : Nat} (h : past t p x = true) (hp : p ≤ t.size) : p + x.size ≤ t.size := by
  unfold past at h
  have := pre_le h
  rw [List.length_drop, bsize_list, bsize_list] at this
  omega
set_option maxHeartbeats 1000000 in
theorem own_take (b p : Nat) (t x : ByteArray) (w : World) (h : Rdr b t p w) (hp : p ≤ t.size) (ht : t.size ≤ 100) :
    Calls Try.prog 39 #[.pointer (some ⟨b, 0, none⟩), .string x] w fun e w' => e = .returned (.bool (past t p x)) ∧ Rdr b t (if past t p x then p + x.size else p) w' ∧ w.grownBy w' (some b) := by
  obtain ⟨c0, c1, f⟩ := h.cells
  have hsl := slice_from t p hp
  have HP : Hid (∀ W, Calls Try.prog 34 #[.string (t.extract p t.size), .string x] W fun e w' => e = .returned (.bool (past t p x)) ∧ w' = W) := fun W => by
    have := Try.strings_HasPrefix (t.extract p t.size) x W
    rw [drop_list] at this
    exact this
  have HR : Hid (Rdr b t p w) := h
  clear h
  by_cases hx : past t p x = true
  · have hle := past_le hx hp
    rw [hx] at HP ⊢
    have e : ((p + x.size : Nat) : Int) = (p : Int) + (x.size : Int) := by omega
    go_enter Try.func39, Try.ntmps39
    go_wp2
    go_quiet ((go_at_call 34; exact Calls.quiet_of_same (HP.out _)))
    go_wp2
    go_ret
    exact ⟨rfl, by have := (HR.out.drewN nq).set (p + x.size); rw [e] at this; exact this, gb_trans (gb_drewN (World.grownBy.refl _ _) nq) (gb_set _ _ _ _)⟩
  · have hx' : past t p x = false := by simpa using hx
    rw [hx'] at HP ⊢
    clear hx
    go_enter Try.func39, Try.ntmps39
    go_wp2
    go_quiet ((go_at_call 34; exact Calls.quiet_of_same (HP.out _)))
    go_wp2
    go_ret
    exact ⟨rfl, HR.out, gb_drewN (World.grownBy.refl _ _) nq⟩
end Go.Proofs.Ytmcechcigehjbaa
