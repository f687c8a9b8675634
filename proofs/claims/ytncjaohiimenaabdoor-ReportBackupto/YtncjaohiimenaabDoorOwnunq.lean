/- What scan.Unquote answers. -/
import Derived.Test.YtncjaohiimenaabDoorOwnread
namespace Go.Proofs.YtncjaohiimenaabDoor
open Go.ChangeShapes Go.WideShapes Go.ChangeAt Go.RowKit

set_option maxHeartbeats 1000000 in
theorem own_unquote (s : ByteArray) (w : World) (hs : s.size ≤ maxLen) :
    Calls Tryd.prog 35 #[.string s] w fun e w' => e = .returned (.tuple #[.string ⟨(uqS s.data.toList).toArray⟩, .int .i64 (uqE s.data.toList)]) ∧ Below w.heap.size w w' := by
  have HR : Hid (∀ W, Calls Tryd.prog 47 #[.string s] W fun e w' => e = .returned (.tuple #[.string ⟨(rqS s.data.toList).toArray⟩, .int .i64 (rqN s.data.toList), .int .i64 (rqE s.data.toList)]) ∧ Below W.heap.size W w') := fun W => rdq_any s W hs
  unfold maxLen at hs
  have hz := bsize_list s
  rcases uqS_of s.data.toList with ⟨h1, h2, h3, h4⟩ | ⟨h1 | ⟨h1, h2⟩, h3, h4⟩
  · rw [h1, h2, hz] at HR
    rw [h3, h4]
    generalize (⟨(rqS s.data.toList).toArray⟩ : ByteArray) = t at *
    clear h1 h2 h3 h4 hz
    go_enter Tryd.func35, Tryd.ntmps35
    go_wp2_with fail
    refine (HR.out _).mono ?_
    rintro e w1 ⟨rfl, hb⟩
    go_wp2
    go_ret2
    exact ⟨rfl, hb⟩
  · rw [h1] at HR
    rw [h3, h4]
    generalize (⟨(rqS s.data.toList).toArray⟩ : ByteArray) = t at *
    generalize rqN s.data.toList = n at *
    clear h1 h3 h4 hz
    go_enter Tryd.func35, Tryd.ntmps35
    go_wp2_with fail
    refine (HR.out _).mono ?_
    rintro e w1 ⟨rfl, hb⟩
    go_wp2
    go_ret2
    exact ⟨rfl, hb⟩
  · rw [h1] at HR
    rw [h3, h4]
    generalize (⟨(rqS s.data.toList).toArray⟩ : ByteArray) = t at *
    have hnb : ((rqN s.data.toList : Int) == (s.size : Int)) = false := by rw [beq_eq_false_iff_ne]; omega
    generalize rqN s.data.toList = n at *
    clear h1 h2 h3 h4 hz
    go_enter Tryd.func35, Tryd.ntmps35
    go_wp2_with fail
    refine (HR.out _).mono ?_
    rintro e w1 ⟨rfl, hb⟩
    go_wp2
    go_ret2
    exact ⟨rfl, hb⟩
end Go.Proofs.YtncjaohiimenaabDoor
