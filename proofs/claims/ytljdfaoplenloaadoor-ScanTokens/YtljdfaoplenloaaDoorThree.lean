/- The three tokens that every law of scan asks for. -/
import Derived.Test.YtljdfaoplenloaaDoorPlaces
namespace Go.Proofs.YtljdfaoplenloaaDoor
open Go.ChangeShapes Go.WideShapes Go.ChangeAt Go.RowKit
set_option maxRecDepth 100000
set_option linter.unusedSimpArgs false
set_option linter.unusedVariables false
theorem cut_three : tokR ⟨#[97, 43, 49]⟩ = .ok ⟨3, 1, 0, [⟨1, ⟨#[97]⟩, 1, 1⟩, ⟨4, ⟨#[43]⟩, 1, 2⟩, ⟨2, ⟨#[49]⟩, 1, 3⟩, ⟨6, ⟨#[59]⟩, 1, 4⟩]⟩ := by kernel_rfl
set_option maxHeartbeats 4000000 in
theorem own_three (w : World) (hlib : Lib3 w) : Calls Tryd.prog 11 #[] w fun e w' => e = .returned (.bool true) ∧ Below w.heap.size w w' := by
  have HT : Hid (Calls Tryd.prog 6 #[.string ⟨#[97, 43, 49]⟩] w (Told w (tokR ⟨#[97, 43, 49]⟩))) := own_tokens _ w (by decide) hlib
  rw [cut_three] at HT
  go_enter Tryd.func11, Tryd.ntmps11
  go_wp2_with fail
  refine HT.out.mono ?_
  rintro e w' ⟨hb, v, rfl, hown⟩
  obtain ⟨g, cap, rfl, hg⟩ : ∃ g cap, v = .slice (some ⟨g, 0, none⟩) 4 cap ∧ g < w'.heap.size := by
    rcases hown.2 with ⟨hv, h0⟩ | ⟨g, cap, cur, hv, hh⟩
    · simp at h0
    · exact ⟨_, _, by rw [hv]; rfl, (Array.getElem?_eq_some_iff.1 hh.2.1).1⟩
  have q5 : w'.cell? ⟨g, 5, none⟩ = some (.string ⟨#[43]⟩) := by rw [hown.cellAt 5 (by decide)]; rfl
  have q12 : w'.cell? ⟨g, 12, none⟩ = some (.int .i64 6) := by rw [hown.cellAt 12 (by decide)]; rfl
  have HB : Hid (Below w.heap.size w w') := hb
  clear hown hb
  go_wp2
  go_ret
  exact ⟨rfl, HB.out.alloc HB.out.size _⟩
end Go.Proofs.YtljdfaoplenloaaDoor
