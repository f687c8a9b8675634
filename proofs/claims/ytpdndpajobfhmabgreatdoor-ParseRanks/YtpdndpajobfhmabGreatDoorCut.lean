/- What panicroadref.cutAt answers: the pieces of a text between a byte, for every text of at most 2^42 bytes and every byte. -/
import Derived.Test.YtpdndpajobfhmabGreatDoorRows
import Derived.WalkKit
import Derived.ProofKit
import Derived.OpenShut
import Derived.Handy
import Derived.BigCall
import Derived.Maps.AppendAt
import Derived.WalkSpells
namespace Go.Proofs.YtpdndpajobfhmabGreatDoor
open Go.ChangeShapes Go.WideShapes Go.ChangeAt Go.RowKit

theorem Tryz.info9 : (Tryz.prog.info? 9).map (fun i => (i.zero, i.size, i.bytes)) = some (some (.string ByteArray.empty), 1, 16) := by kernel_rfl

/-- Is place k a cut (or the end)? -/
def cutHere (s : ByteArray) (c : Int) (k : Nat) : Bool := if h : k < s.size then ((s[k].toNat : Int) == c) else true
/-- The pieces, and where the open one begins, behind k places. -/
def cutSt (s : ByteArray) (c : Int) : Nat → List ByteArray × Nat
  | 0 => ([], 0)
  | k + 1 => if cutHere s c k then ((cutSt s c k).1 ++ [s.extract (cutSt s c k).2 k], k + 1) else cutSt s c k
theorem cutSt_le (s : ByteArray) (c : Int) : ∀ k, (cutSt s c k).2 ≤ k ∧ (cutSt s c k).1.length ≤ k
  | 0 => ⟨Nat.le_refl _, Nat.le_refl _⟩
  | k + 1 => by
    have h := cutSt_le s c k
    unfold cutSt
    split
    · simp; omega
    · omega
theorem cutSt_yes {s : ByteArray} {c : Int} {k : Nat} (h : cutHere s c k = true) : cutSt s c (k + 1) = ((cutSt s c k).1 ++ [s.extract (cutSt s c k).2 k], k + 1) := by
  show (if cutHere s c k then _ else _) = _
  rw [if_pos h]
theorem cutSt_no {s : ByteArray} {c : Int} {k : Nat} (h : cutHere s c k = false) : cutSt s c (k + 1) = cutSt s c k := by
  show (if cutHere s c k then _ else _) = _
  rw [if_neg (by simp [h])]

theorem cut_step {s : ByteArray} {c : Int} {k f : Nat} {l : List ByteArray} {B : Nat} {w w3 : World} {v' : Value} (hst : cutSt s c (k + 1) = (l ++ [s.extract f k], k + 1))
    (h3 : w3.ownsRow B 9 1 v' (l.length + 1) (l.map Value.string ++ [.string (s.extract f k)])) (hb3 : Below B w w3) :
    ∃ (ao' : Option Addr) (cv' : Nat), v' = .slice ao' (cutSt s c (k + 1)).1.length cv' ∧ w3.ownsRow B 9 1 v' (cutSt s c (k + 1)).1.length ((cutSt s c (k + 1)).1.map Value.string) ∧ Below B w w3 ∧ (cutSt s c (k + 1)).2 = k + 1 := by
  obtain ⟨g3, cap3, hv3⟩ : ∃ g3 cap3, v' = .slice (some ⟨g3, 0, none⟩) (l.length + 1) cap3 := by
    rcases h3.2 with ⟨_, h⟩ | ⟨g3, cap3, _, h, _⟩
    · omega
    · exact ⟨g3, cap3, h⟩
  refine ⟨some ⟨g3, 0, none⟩, cap3, ?_, ?_, hb3, ?_⟩
  · rw [hst, hv3]; simp
  · rw [hst]; simpa using h3
  · rw [hst]

end Go.Proofs.YtpdndpajobfhmabGreatDoor
