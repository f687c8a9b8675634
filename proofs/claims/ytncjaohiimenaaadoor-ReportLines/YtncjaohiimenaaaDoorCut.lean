/- What panicroadref.cutAt answers: the pieces of a text between a byte, for every text of at most 2^42 bytes and every byte. -/
import Derived.Test.YtncjaohiimenaaaDoorRows
import Derived.WalkKit
import Derived.ProofKit
import Derived.OpenShut
import Derived.Handy
import Derived.BigCall
import Derived.Maps.AppendAt
import Derived.WalkSpells
namespace Go.Proofs.YtncjaohiimenaaaDoor
open Go.ChangeShapes Go.WideShapes Go.ChangeAt Go.RowKit

theorem Tryd.info9 : (Tryd.prog.info? 9).map (fun i => (i.zero, i.size, i.bytes)) = some (some (.string ByteArray.empty), 1, 16) := by kernel_rfl

/-- Is place k a cut (or the end)? -/
def cutHere (s : ByteArray) (c : Int) (k : Nat) : Bool := if h : k < s.size then ((s[k].toNat : Int) == c) else true
/-- The pieces, and where the open one begins, behind k places. -/
def cutSt (s : ByteArray) (c : Int) : Nat → List ByteArray × Nat
  | 0 => ([], 0)
  | k + 1 => if cutHere s c k then ((cutSt s c k).1 ++ [s.extract (cutSt s c k).2 k], k + 1) else cutSt s c k
theorem cutSt_le (s : ByteArray) (c : Int) : ∀ k, (cutSt s c k).2 ≤ k ∧ (cutSt s c k).1.length ≤ k
  | 0 => ⟨Nat.le_refl _, Nat.le_refl _⟩
  | k + 1 => by
    have h := cutSt_le s c k
    unfold cutSt
    split
    · simp; omega
    · omega
theorem cutSt_yes {s : ByteArray} {c : Int} {k : Nat} (h : cutHere s c k = true) : cutSt s c (k + 1) = ((cutSt s c k).1 ++ [s.extract (cutSt s c k).2 k], k + 1) := by
  show (if cutHere s c k then _ else _) = _
  rw [if_pos h]
theorem cutSt_no {s : ByteArray} {c : Int} {k : Nat} (h : cutHere s c k = false) : cutSt s c (k + 1) = cutSt s c k := by
  show (if cutHere s c k then _ else _) = _
  rw [if_neg (by simp [h])]

theorem cut_step {s : ByteArray} {c : Int} {k f : Nat} {l : List ByteArray} {B : Nat} {w w3 : World} {v' : Value} (hst : cutSt s c (k + 1) = (l ++ [s.extract f k], k + 1))
    (h3 : w3.ownsRow B 9 1 v' (l.length + 1) (l.map Value.string ++ [.string (s.extract f k)])) (hb3 : Below B w w3) :
    ∃ (ao' : Option Addr) (cv' : Nat), v' = .slice ao' (cutSt s c (k + 1)).1.length cv' ∧ w3.ownsRow B 9 1 v' (cutSt s c (k + 1)).1.length ((cutSt s c (k + 1)).1.map Value.string) ∧ Below B w w3 ∧ (cutSt s c (k + 1)).2 = k + 1 := by
  obtain ⟨g3, cap3, hv3⟩ : ∃ g3 cap3, v' = .slice (some ⟨g3, 0, none⟩) (l.length + 1) cap3 := by
    rcases h3.2 with ⟨_, h⟩ | ⟨g3, cap3, _, h, _⟩
    · omega
    · exact ⟨g3, cap3, h⟩
  refine ⟨some ⟨g3, 0, none⟩, cap3, ?_, ?_, hb3, ?_⟩
  · rw [hst, hv3]; simp
  · rw [hst]; simpa using h3
  · rw [hst]

set_option maxRecDepth 100000 in
set_option maxHeartbeats 1600000 in
theorem cutAt_any (s : ByteArray) (c : Int) (w : World) (hs : s.size ≤ 4398046511104) :
    Calls Tryd.prog 30 #[.string s, .int .u8 c] w fun e w' => ∃ v, e = .returned v ∧ w'.ownsRow w.heap.size 9 1 v (cutSt s c (s.size + 1)).1.length ((cutSt s c (s.size + 1)).1.map Value.string) ∧ Below w.heap.size w w' := by
  obtain ⟨i0, hi, hz0, hz1, hz2⟩ := info_parts Tryd.info9
  go_enter Tryd.func30, Tryd.ntmps30
  go_wp2
  go_loopw [5, 6, 7] (fun v f i wr => ∃ (k : Nat) (ao : Option Addr) (cv : Nat), k ≤ s.size + 1 ∧ i = .int .i64 k ∧ f = .int .i64 ((cutSt s c k).2 : Nat) ∧ v = .slice ao (cutSt s c k).1.length cv ∧ wr.ownsRow w.heap.size 9 1 v (cutSt s c k).1.length ((cutSt s c k).1.map Value.string) ∧ Below w.heap.size w wr)
    (fun _ _ i _ => s.size + 1 - (intOf i).toNat)
  case atStart => exact ⟨0, none, 0, Nat.zero_le _, rfl, rfl, rfl, World.ownsRow_nil _ _ _ _, Below.refl _ _⟩
  case round =>
    obtain ⟨k, ao, cv, hk, rfl, rfl, rfl, hown, hnx⟩ := hrel
    have hsize := hnx.size
    obtain ⟨hf, hl⟩ := cutSt_le s c k
    by_cases hend : k = s.size + 1
    · subst hend
      go_wp2
      go_ret
      exact ⟨_, rfl, hown, hnx⟩
    by_cases hcut : cutHere s c k = true
    · have hst := cutSt_yes hcut
      generalize hst0 : cutSt s c k = st at *
      obtain ⟨l, f⟩ := st
      have HST : Hid (cutSt s c (k + 1) = (l ++ [s.extract f k], k + 1)) := hst
      have HC : Hid (cutHere s c k = true) := hcut
      clear hst hst0 hcut
      simp only at hf hl hown
      by_cases hlt : k < s.size
      · have hb : ((s[k].toNat : Int) == c) = true := by have := HC.out; unfold cutHere at this; rw [dif_pos hlt] at this; exact this
        clear HC
        go_wp2_with (at_builtin; refine wpList_append_own _ rfl _ _ 45 rfl w.heap.size 9 i0 (.string ByteArray.empty) 1 16 Tryd.underlying45 hi hz0 hz1 hz2 rfl (by decide) _ _ _ rfl (hown.alloc _) ⟨wr.heap.size, 0, none⟩ 1 1 [.string (s.extract f k)] rfl rfl (cell_one_new _ _ _) (fun x hx => by simp at hx; subst hx; rfl) (by unfold maxLen; omega) (by omega) (by simp; omega) ?_; intro v' w3 hown' hgrow3 hnil3)
        obtain ⟨ao', cv', g1, g2, g3, g4⟩ := cut_step HST.out hown' ((hnx.alloc hsize _).grown hgrow3 (by simp; omega) (fun q hq => (hown.lt q hq).1))
        go_roundw
        case rel => exact ⟨k + 1, ao', cv', by omega, by go_num, by rw [g4]; go_num, g1, g2, g3⟩
        case measure => simp [intOf]; omega
      · have hb : k = s.size := by omega
        subst hb
        clear HC
        go_wp2_with (at_builtin; refine wpList_append_own _ rfl _ _ 45 rfl w.heap.size 9 i0 (.string ByteArray.empty) 1 16 Tryd.underlying45 hi hz0 hz1 hz2 rfl (by decide) _ _ _ rfl (hown.alloc _) ⟨wr.heap.size, 0, none⟩ 1 1 [.string (s.extract f s.size)] rfl rfl (cell_one_new _ _ _) (fun x hx => by simp at hx; subst hx; rfl) (by unfold maxLen; omega) (by omega) (by simp; omega) ?_; intro v' w3 hown' hgrow3 hnil3)
        obtain ⟨ao', cv', g1, g2, g3, g4⟩ := cut_step HST.out hown' ((hnx.alloc hsize _).grown hgrow3 (by simp; omega) (fun q hq => (hown.lt q hq).1))
        go_roundw
        case rel => exact ⟨s.size + 1, ao', cv', by omega, by go_num, by rw [g4]; go_num, g1, g2, g3⟩
        case measure => simp [intOf]
    · have hno : cutHere s c k = false := by simpa using hcut
      have hlt : k < s.size := by
        by_cases h : k < s.size
        · exact h
        · simp [cutHere, h] at hno
      have hb : ((s[k].toNat : Int) == c) = false := by unfold cutHere at hno; rw [dif_pos hlt] at hno; exact hno
      have HST : Hid (cutSt s c (k + 1) = cutSt s c k) := cutSt_no hno
      clear hno hcut
      go_wp2
      go_roundw
      case rel => exact ⟨k + 1, ao, cv, by omega, by go_num, by rw [HST.out], by rw [HST.out], by rw [HST.out]; exact hown, hnx⟩
      case measure => simp [intOf]; omega
end Go.Proofs.YtncjaohiimenaaaDoor
