/- Both Shows answer alike: the walk of the law. -/
import Derived.Test.YtljdfaoplenloaaDoorRefshow
import Derived.Test.YtljdfaoplenloaaDoorTcopy
namespace Go.Proofs.YtljdfaoplenloaaDoor
open Go.ChangeShapes Go.WideShapes Go.ChangeAt Go.RowKit
set_option maxRecDepth 100000
set_option linter.unusedSimpArgs false
set_option linter.unusedVariables false

def tokA : Tj := ⟨1, ⟨#[97]⟩, 0, 0⟩
theorem show_a : showV [tokA] = [97] ∧ showE [tokA] = 0 := by
  constructor <;> decide +kernel
theorem tlies_a (w : World) (ty : TypeId) : TLies (w.alloc (.cells #[.int .i64 1, .string ⟨#[97]⟩, .int .i64 0, .int .i64 0] ty)) (.slice (some ⟨w.heap.size, 0, none⟩) 1 1) [tokA] := by
  refine ⟨_, 1, rfl, fun _ => ⟨Nat.le_refl _, w.heap.size, rfl, fun k t hk => ?_⟩⟩
  cases k with
  | succ k => simp at hk
  | zero =>
    simp at hk
    subst hk
    exact ⟨cells_new w [.int .i64 1, .string ⟨#[97]⟩, .int .i64 0, .int .i64 0] ty 0 _ rfl, cells_new w [.int .i64 1, .string ⟨#[97]⟩, .int .i64 0, .int .i64 0] ty 1 _ rfl, cells_new w [.int .i64 1, .string ⟨#[97]⟩, .int .i64 0, .int .i64 0] ty 2 _ rfl, cells_new w [.int .i64 1, .string ⟨#[97]⟩, .int .i64 0, .int .i64 0] ty 3 _ rfl⟩
set_option maxHeartbeats 4000000 in
theorem own_shows (v : Value) (l : List Tj) (w : World) (hC : TCame w v l) (hS : ∀ t ∈ l, t.text.size ≤ 140737488355328) (hN : l.length * 40 ≤ 140737488355328) (hlib : Lib3 w) :
    Calls Tryd.prog 4 #[v] w fun e w' => e = .returned (.bool true) ∧ Below w.heap.size w w' := by
  have HSH : Hid (∀ v' W, Below w.heap.size w W → TLies W v' l → Calls Tryd.prog 9 #[v'] W (ShowPost W l)) := fun v' W hW hL => own_show v' l W hL (fun t ht => by have := hS t ht; omega) (hlib.below hW)
  have HS1 : Hid (∀ v' W, Below w.heap.size w W → TLies W v' [tokA] → Calls Tryd.prog 9 #[v'] W fun e w' => e = .returned (.tuple #[.string ⟨#[97]⟩, .int .i64 0]) ∧ Below W.heap.size W w') := fun v' W hW hL => by
    have := own_show v' [tokA] W hL (fun t ht => by simp at ht; subst ht; decide) (hlib.below hW)
    unfold ShowPost at this
    rw [show_a.1, show_a.2] at this
    exact this
  have HR : Hid (∀ W, Below w.heap.size w W → Calls Tryd.prog 10 #[v] W (ShowPost W l)) := fun W hW => ref_show v l W (hC.below hW) hN
  obtain ⟨ao, ca, rfl⟩ := hC.shape
  have HC : Hid (TCame w (.slice ao l.length ca) l) := hC
  have HN : Hid (l.length * 40 ≤ 140737488355328) := hN
  clear hlib hC hN hS
  go_enter Tryd.func4, Tryd.ntmps4
  go_wp2_with (at_builtin; refine tcopy rfl _ _ rfl rfl rfl HC.out HN.out ?_)
  intro v1 w1 hL1 hb1
  have HB1 : Hid (Below w.heap.size w w1) := hb1
  have HSV : Hid (Calls Tryd.prog 9 #[v1] w1 (ShowPost w1 l)) := HSH.out v1 w1 hb1 hL1
  clear hL1 hb1 HSH
  unfold ShowPost at HSV HR
  generalize (⟨(showV l).toArray⟩ : ByteArray) = src at *
  generalize showE l = z at *
  go_wp2_with fail
  refine HSV.out.mono ?_
  rintro e w2 ⟨rfl, hb2⟩
  have HB2 : Hid (Below w.heap.size w w2) := HB1.out.trans (hb2.mono HB1.out.size)
  clear hb2 HSV HB1
  go_wp2_with fail
  refine (HR.out _ HB2.out).mono ?_
  rintro e w3 ⟨rfl, hb3⟩
  have HB3 : Hid (Below w.heap.size w w3) := HB2.out.trans (hb3.mono HB2.out.size)
  clear hb3 HR HB2
  go_wp2_with fail
  refine (HS1.out _ _ (HB3.out.alloc HB3.out.size _) (tlies_a _ _)).mono ?_
  rintro e w4 ⟨rfl, hb4⟩
  have HB4 : Hid (Below w.heap.size w w4) := (HB3.out.alloc HB3.out.size _).trans (hb4.mono (HB3.out.alloc HB3.out.size _).size)
  clear hb4
  go_wp2
  go_ret
  exact ⟨rfl, HB4.out⟩
end Go.Proofs.YtljdfaoplenloaaDoor
