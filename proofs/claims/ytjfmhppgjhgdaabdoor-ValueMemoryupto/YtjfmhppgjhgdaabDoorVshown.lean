/- Values that are the same; what the law's own test of Show says. -/
import Derived.Test.YtjfmhppgjhgdaabDoorVshow
import Derived.Test.YtjfmhppgjhgdaabDoorVsame
namespace Go.Proofs.YtjfmhppgjhgdaabDoor
open Go.ChangeShapes Go.WideShapes Go.ChangeAt Go.RowKit
set_option maxRecDepth 100000
set_option linter.unusedSimpArgs false
set_option linter.unusedVariables false

theorem same_self (x : Vv) : sameV x x = true := by simp [sameV]
theorem same_iff (x y : Vv) : sameV x y = true ↔ x.kind = y.kind ∧ (plainV x).n = (plainV y).n ∧ (plainV x).s.toList = (plainV y).s.toList ∧ (plainV x).l = (plainV y).l := by
  simp [sameV]
theorem same_comm (x y : Vv) : sameV y x = sameV x y := by
  rw [Bool.eq_iff_iff, same_iff, same_iff]
  constructor
  · rintro ⟨a, b, c, d⟩; exact ⟨a.symm, b.symm, c.symm, d.symm⟩
  · rintro ⟨a, b, c, d⟩; exact ⟨a.symm, b.symm, c.symm, d.symm⟩
theorem same_trans {x y z : Vv} (h1 : sameV x y = true) (h2 : sameV y z = true) : sameV x z = true := by
  rw [same_iff] at *
  exact ⟨h1.1.trans h2.1, h1.2.1.trans h2.2.1, h1.2.2.1.trans h2.2.2.1, h1.2.2.2.trans h2.2.2.2⟩
theorem show_one_two : showV ⟨6, 0, ⟨#[]⟩, [1, 2]⟩ = ⟨#[91, 49, 32, 50, 93]⟩ := by
  have h1 : Lib.itoa 1 = [49] := by simp [Lib.itoa, Lib.decDigits]
  have h2 : Lib.itoa 2 = [50] := by simp [Lib.itoa, Lib.decDigits]
  simp only [showV, showL, joined, List.map, h1, h2]
  decide +kernel
theorem pair_lies (w : World) : ILies (w.alloc (.cells #[.int .i64 1, .int .i64 2] 3)) (.slice (some ⟨w.heap.size, 0, none⟩) 2 2) [1, 2] := by
  refine .inr ⟨⟨w.heap.size, 0, none⟩, 2, rfl, by decide, by decide, fun _ => rfl, fun k i hk => ?_⟩
  have h : (w.alloc (.cells #[.int .i64 1, .int .i64 2] 3)).heap[w.heap.size]? = some (.cells #[.int .i64 1, .int .i64 2] 3 (0, 0)) := by
    show (w.heap.push _)[w.heap.size]? = some _
    exact Array.getElem?_push_size
  generalize w.alloc (.cells #[.int .i64 1, .int .i64 2] 3) = W at h ⊢
  match k, hk with
  | 0, hk => simp at hk; subst hk; simp [World.cell?, h, Addr.add]
  | 1, hk => simp at hk; subst hk; simp [World.cell?, h, Addr.add]
set_option maxHeartbeats 2000000 in
theorem own_shown (w : World) (hp : Pow w) : Calls Tryd.prog 15 #[] w fun e w' => e = .returned (.bool true) ∧ Below w.heap.size w w' := by
  have HS : Hid (Calls Tryd.prog 9 #[.agg #[.int .i64 6, .int .i64 0, .string ⟨#[]⟩, .slice (some ⟨w.heap.size, 0, none⟩) 2 2]] (w.alloc (.cells #[.int .i64 1, .int .i64 2] 3)) fun e w' => e = .returned (.string ⟨#[91, 49, 32, 50, 93]⟩) ∧ Below (w.alloc (.cells #[.int .i64 1, .int .i64 2] 3)).heap.size (w.alloc (.cells #[.int .i64 1, .int .i64 2] 3)) w') := by
    have := own_show ⟨6, 0, ⟨#[]⟩, [1, 2]⟩ (.slice (some ⟨w.heap.size, 0, none⟩) 2 2) (w.alloc (.cells #[.int .i64 1, .int .i64 2] 3)) ⟨by decide, by decide, by decide, (fun i h => by simp at h; rcases h with rfl | rfl <;> decide), by decide⟩ (pair_lies w) (fun _ => by decide) (hp.below show_below)
    rwa [show_one_two] at this
  have HM : Hid (∀ u, Calls Tryd.prog 13 #[.agg #[.int .i64 0, .int .i64 0, .string ⟨#[]⟩, .slice none 0 0], .agg #[.int .i64 0, .int .i64 0, .string ⟨#[]⟩, .slice none 0 0]] u fun e w' => e = .returned (.bool true) ∧ Below u.heap.size u w') := fun u => by
    have := own_same ⟨0, 0, ⟨#[]⟩, []⟩ ⟨0, 0, ⟨#[]⟩, []⟩ (.slice none 0 0) (.slice none 0 0) u ⟨by decide, by decide, by decide, (fun i h => by cases h), by decide⟩ ⟨by decide, by decide, by decide, (fun i h => by cases h), by decide⟩ (.inl ⟨rfl, rfl⟩) (.inl ⟨rfl, rfl⟩)
    rwa [same_self] at this
  have HY : Hid (∀ u, Calls Tryd.prog 16 #[.agg #[.int .i64 1, .int .i64 0, .string ⟨#[]⟩, .slice none 0 0]] u fun e w' => e = .returned (.bool true) ∧ Below u.heap.size u w') := fun u => own_may ⟨1, 0, ⟨#[]⟩, []⟩ (.slice none 0 0) u
  clear hp
  go_enter Tryd.func15, Tryd.ntmps15
  go_wp2_with fail
  refine Calls.mono HS.out ?_
  rintro e w1 ⟨rfl, hb1⟩
  have HB1 : Hid _ := below_up hb1
  clear hb1
  have hq : ((⟨#[91, 49, 32, 50, 93]⟩ : ByteArray).toList == (⟨#[91, 49, 32, 50, 93]⟩ : ByteArray).toList) = true := by simp
  go_wp2_with fail
  refine (HM.out _).mono ?_
  rintro e w2 ⟨rfl, hb2⟩
  have HB2 : Hid (Below w.heap.size w w2) := HB1.out.trans (hb2.mono HB1.out.size)
  clear hb2
  go_wp2_with fail
  refine (HY.out _).mono ?_
  rintro e w3 ⟨rfl, hb3⟩
  have HB3 : Hid (Below w.heap.size w w3) := HB2.out.trans (hb3.mono HB2.out.size)
  clear hb3
  go_wp2_with fail
  go_ret
  exact ⟨rfl, HB3.out⟩
end Go.Proofs.YtjfmhppgjhgdaabDoor
