/- What panicroadref.one and Show answer. -/
import Derived.Test.YtljdfaoplenloaaDoorReftok
import Derived.Test.YtljdfaoplenloaaDoorBackp
import Derived.Test.YtljdfaoplenloaaDoorTcame
import Derived.Laws.AppendOwnNone
namespace Go.Proofs.YtljdfaoplenloaaDoor
open Go.ChangeShapes Go.WideShapes Go.ChangeAt Go.RowKit
set_option maxRecDepth 100000
set_option linter.unusedSimpArgs false
set_option linter.unusedVariables false

theorem two_pre {s : ByteArray} (h2 : 2 ≤ s.size) (h : ((s.extract 0 2).toList == [47, 47]) = true) : Lib.hasPrefix s.data.toList [47, 47] = true := by
  have h1 : (s.extract 0 2).data.toList = [47, 47] := by simpa [ByteArray.toList_eq] using h
  rw [take_list] at h1
  unfold Lib.hasPrefix
  rw [List.isPrefixOf_iff_prefix]
  exact ⟨s.data.toList.drop 2, by rw [← h1]; exact List.take_append_drop 2 _⟩
set_option maxHeartbeats 2000000 in
theorem ref_one (t : Tj) (w : World) :
    Calls Tryd.prog 25 #[t.val] w fun e w' => e = .returned (.bool (wholeB t)) ∧ Below w.heap.size w w' := by
  have HB1 : Hid (Below w.heap.size w (w.alloc (.cells #[.int .i64 t.kind, .string t.text, .int .i64 t.line, .int .i64 t.col] 33))) := (Below.refl _ _).alloc (Nat.le_refl _) _
  by_cases h0 : 0 < t.text.size
  · have hq : (t.text.toList == []) = false := by
      rw [ByteArray.toList_eq, beq_eq_false_iff_ne]
      intro e
      have := bsize_list t.text
      rw [e] at this
      simp at this
      omega
    by_cases hbig : 8000 < t.text.size
    · have hw : wholeB t = false := by
        cases h : wholeB t with
        | false => rfl
        | true => have := whole_short h; omega
      rw [hw]
      unfold Tj.val
      clear hw
      go_enter Tryd.func25, Tryd.ntmps25
      go_wp2
      go_ret
      exact ⟨rfl, HB1.out⟩
    · have hsm : t.text.size ≤ 8000 := by omega
      have HT : Hid (∀ W, Calls Tryd.prog 19 #[.string t.text] W (Tok3 t.text h0 W)) := fun W => ref_token t.text W h0 (by omega)
      have HPRE : Hid (Lib.hasPrefix t.text.data.toList [47, 47] = true → wholeB t = false) := fun hp => by
        cases h : wholeB t with
        | false => rfl
        | true => rw [whole_pre h] at hp; cases hp
      have HW : Hid (wholeB t = (((fsT t.text h0).2.2 == 0) && (((fsT t.text h0).1 == t.kind) && ((fsT t.text h0).2.1 == (t.text.size : Int))))) := by show _ = _; unfold wholeB; rw [dif_pos h0]
      have HTW : Hid (2 ≤ t.text.size → ((t.text.extract 0 2).toList == [47, 47]) = true → Lib.hasPrefix t.text.data.toList [47, 47] = true) := two_pre
      have hsl : 2 ≤ t.text.size → ∀ W, (Instr.slice 9 (.string t.text) none (some (.int .i64 ((2 : Nat) : Int))) none).run Tryd.prog W = .ok (.string (t.text.extract 0 2)) W := fun h W => slice_to t.text 2 h W
      unfold Tok3 at HT
      generalize (fsT t.text h0).1 = a at *
      generalize (fsT t.text h0).2.1 = b at *
      generalize (fsT t.text h0).2.2 = c at *
      unfold Tj.val
      generalize wholeB t = res at *
      clear hbig
      by_cases h2 : 2 ≤ t.text.size
      · have hs2 := hsl h2
        clear hsl
        cases hm : ((t.text.extract 0 2).toList == [47, 47]) with
        | true =>
          have hr := HPRE.out (HTW.out h2 hm)
          rw [hr]
          clear hr HPRE HTW HW
          go_enter Tryd.func25, Tryd.ntmps25
          go_wp2_with fail
          refine (HT.out _).mono ?_
          rintro e w1 ⟨rfl, b1⟩
          have HB2 : Hid (Below w.heap.size w w1) := HB1.out.trans (b1.mono (by simp))
          have q0 : w1.cell? ⟨w.heap.size, 0, none⟩ = some (.int .i64 t.kind) := by rw [b1.cell (p := ⟨w.heap.size, 0, none⟩) (by simp)]; simp
          have q1 : w1.cell? ⟨w.heap.size, 1, none⟩ = some (.string t.text) := by rw [b1.cell (p := ⟨w.heap.size, 1, none⟩) (by simp)]; simp
          clear b1
          go_wp2
          go_ret
          exact ⟨rfl, HB2.out⟩
        | false =>
          clear HPRE HTW
          cases hc : (c == 0) with
          | false =>
            have hr : res = false := by rw [HW.out, hc]; rfl
            rw [hr]
            clear hr HW
            go_enter Tryd.func25, Tryd.ntmps25
            go_wp2_with fail
            refine (HT.out _).mono ?_
            rintro e w1 ⟨rfl, b1⟩
            have HB2 : Hid (Below w.heap.size w w1) := HB1.out.trans (b1.mono (by simp))
            have q0 : w1.cell? ⟨w.heap.size, 0, none⟩ = some (.int .i64 t.kind) := by rw [b1.cell (p := ⟨w.heap.size, 0, none⟩) (by simp)]; simp
            have q1 : w1.cell? ⟨w.heap.size, 1, none⟩ = some (.string t.text) := by rw [b1.cell (p := ⟨w.heap.size, 1, none⟩) (by simp)]; simp
            clear b1
            go_wp2
            go_ret
            exact ⟨rfl, HB2.out⟩
          | true =>
            cases ha : (a == t.kind) with
            | false =>
              have hr : res = false := by rw [HW.out, hc, ha]; rfl
              rw [hr]
              clear hr HW
              go_enter Tryd.func25, Tryd.ntmps25
              go_wp2_with fail
              refine (HT.out _).mono ?_
              rintro e w1 ⟨rfl, b1⟩
              have HB2 : Hid (Below w.heap.size w w1) := HB1.out.trans (b1.mono (by simp))
              have q0 : w1.cell? ⟨w.heap.size, 0, none⟩ = some (.int .i64 t.kind) := by rw [b1.cell (p := ⟨w.heap.size, 0, none⟩) (by simp)]; simp
              have q1 : w1.cell? ⟨w.heap.size, 1, none⟩ = some (.string t.text) := by rw [b1.cell (p := ⟨w.heap.size, 1, none⟩) (by simp)]; simp
              clear b1
              go_wp2
              go_ret
              exact ⟨rfl, HB2.out⟩
            | true =>
              have HR : Hid (res = (b == (t.text.size : Int))) := by show _ = _; rw [HW.out, hc, ha]; rfl
              clear HW
              go_enter Tryd.func25, Tryd.ntmps25
              go_wp2_with fail
              refine (HT.out _).mono ?_
              rintro e w1 ⟨rfl, b1⟩
              have HB2 : Hid (Below w.heap.size w w1) := HB1.out.trans (b1.mono (by simp))
              have q0 : w1.cell? ⟨w.heap.size, 0, none⟩ = some (.int .i64 t.kind) := by rw [b1.cell (p := ⟨w.heap.size, 0, none⟩) (by simp)]; simp
              have q1 : w1.cell? ⟨w.heap.size, 1, none⟩ = some (.string t.text) := by rw [b1.cell (p := ⟨w.heap.size, 1, none⟩) (by simp)]; simp
              clear b1
              go_wp2
              go_ret
              exact ⟨by rw [HR.out]; rfl, HB2.out⟩
      · have h2' : t.text.size < 2 := by omega
        clear hsl HPRE HTW
        cases hc : (c == 0) with
        | false =>
          have hr : res = false := by rw [HW.out, hc]; rfl
          rw [hr]
          clear hr HW
          go_enter Tryd.func25, Tryd.ntmps25
          go_wp2_with fail
          refine (HT.out _).mono ?_
          rintro e w1 ⟨rfl, b1⟩
          have HB2 : Hid (Below w.heap.size w w1) := HB1.out.trans (b1.mono (by simp))
          have q0 : w1.cell? ⟨w.heap.size, 0, none⟩ = some (.int .i64 t.kind) := by rw [b1.cell (p := ⟨w.heap.size, 0, none⟩) (by simp)]; simp
          have q1 : w1.cell? ⟨w.heap.size, 1, none⟩ = some (.string t.text) := by rw [b1.cell (p := ⟨w.heap.size, 1, none⟩) (by simp)]; simp
          clear b1
          go_wp2
          go_ret
          exact ⟨rfl, HB2.out⟩
        | true =>
          cases ha : (a == t.kind) with
          | false =>
            have hr : res = false := by rw [HW.out, hc, ha]; rfl
            rw [hr]
            clear hr HW
            go_enter Tryd.func25, Tryd.ntmps25
            go_wp2_with fail
            refine (HT.out _).mono ?_
            rintro e w1 ⟨rfl, b1⟩
            have HB2 : Hid (Below w.heap.size w w1) := HB1.out.trans (b1.mono (by simp))
            have q0 : w1.cell? ⟨w.heap.size, 0, none⟩ = some (.int .i64 t.kind) := by rw [b1.cell (p := ⟨w.heap.size, 0, none⟩) (by simp)]; simp
            have q1 : w1.cell? ⟨w.heap.size, 1, none⟩ = some (.string t.text) := by rw [b1.cell (p := ⟨w.heap.size, 1, none⟩) (by simp)]; simp
            clear b1
            go_wp2
            go_ret
            exact ⟨rfl, HB2.out⟩
          | true =>
            have HR : Hid (res = (b == (t.text.size : Int))) := by show _ = _; rw [HW.out, hc, ha]; rfl
            clear HW
            go_enter Tryd.func25, Tryd.ntmps25
            go_wp2_with fail
            refine (HT.out _).mono ?_
            rintro e w1 ⟨rfl, b1⟩
            have HB2 : Hid (Below w.heap.size w w1) := HB1.out.trans (b1.mono (by simp))
            have q0 : w1.cell? ⟨w.heap.size, 0, none⟩ = some (.int .i64 t.kind) := by rw [b1.cell (p := ⟨w.heap.size, 0, none⟩) (by simp)]; simp
            have q1 : w1.cell? ⟨w.heap.size, 1, none⟩ = some (.string t.text) := by rw [b1.cell (p := ⟨w.heap.size, 1, none⟩) (by simp)]; simp
            clear b1
            go_wp2
            go_ret
            exact ⟨by rw [HR.out]; rfl, HB2.out⟩
  · have hw : wholeB t = false := by unfold wholeB; rw [dif_neg h0]
    have hl0 : t.text.data.toList = [] := List.length_eq_zero_iff.1 (by rw [bsize_list]; omega)
    have hq : (t.text.toList == []) = true := by rw [ByteArray.toList_eq, hl0]; rfl
    rw [hw]
    unfold Tj.val
    clear hl0 hw
    go_enter Tryd.func25, Tryd.ntmps25
    go_wp2
    go_ret
    exact ⟨rfl, HB1.out⟩
end Go.Proofs.YtljdfaoplenloaaDoor
