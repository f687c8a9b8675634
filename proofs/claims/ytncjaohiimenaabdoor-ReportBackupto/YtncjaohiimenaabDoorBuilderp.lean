/- What writing into a builder leaves alone: texts. -/
import Derived.Test.YtncjaohiimenaabDoorBuilder
namespace Go.Proofs.YtncjaohiimenaabDoor
open Go.ChangeShapes Go.WideShapes Go.ChangeAt Go.RowKit
set_option maxRecDepth 100000

theorem check_keep (B b : Nat) (l : List UInt8) (w : World) (h : Bld B b l w) :
    Calls Tryd.prog 18 #[.pointer (some ⟨b, 0, none⟩)] w fun e w' => e = .returned (.tuple #[]) ∧ Lib.BuilderAt 42 5 B b (.pointer (some ⟨b, 0, none⟩)) (Lib.byteCells l) w' ∧ Below B w w' ∧ w.grownBy w' (some b) := by
  rcases h with h | h
  · refine (check_fresh b w h.cell0 h.shape h.frozen0).mono ?_
    rintro e w' ⟨rfl, rfl⟩
    exact ⟨rfl, h.used _, (Below.refl B w).setCell (p := ⟨b, 0, none⟩) h.1 _, ⟨rfl, rfl, rfl, by simp [World.setCell], fun k _ hk => Below.heap_setCell _ _ _ _ (fun e => hk (by simp [e]))⟩⟩
  · refine (check_used b w h.cell0).mono ?_
    rintro e w' ⟨rfl, rfl⟩
    exact ⟨rfl, h, Below.refl B _, ⟨rfl, rfl, rfl, Nat.le_refl _, fun _ _ _ => rfl⟩⟩
/-- A block of texts is no row of bytes. -/
theorem byte_far {w : World} {B k n : Nat} {v : Value} {xs : List Value} {cs : Array Value} {fr : Nat × Nat} (hown : w.ownsRow B 5 1 v n xs) (hb : w.heap[k]? = some (.cells cs 27 fr)) : some k ≠ v.ownBlock := by
  rcases hown.2 with ⟨rfl, _⟩ | ⟨g, cap, cur, rfl, _, hg, _⟩
  · simp [Value.ownBlock]
  · intro h
    simp only [Value.ownBlock, Option.some.injEq] at h
    subst h
    rw [hg] at hb
    simp at hb
/-- Texts that lie elsewhere are left alone. -/
def KeepT (b : Nat) (w w' : World) : Prop := ∀ (k : Nat) (cs : Array Value), k ≠ b → w.heap[k]? = some (.cells cs 27 (0, 0)) → w'.heap[k]? = some (.cells cs 27 (0, 0))
theorem keep_of {b B n : Nat} {w w1 w1' w2 : World} {v v' : Value} {xs : List Value} (h1 : w.grownBy w1 (some b)) (ha : ∀ k, k < w1.heap.size → w1'.heap[k]? = w1.heap[k]?) (hs : w1.heap.size ≤ w1'.heap.size) (hown : w1.ownsRow B 5 1 v n xs) (h2 : w1'.grownBy w2 v.ownBlock) : KeepT b w (w2.setCell ⟨b, 1, none⟩ v') := by
  intro k cs hk hc
  have hlt : k < w.heap.size := (Array.getElem?_eq_some_iff.1 hc).1
  have e1 := (h1.block k hlt (by simpa using hk)).trans hc
  have hlt1 : k < w1.heap.size := (Array.getElem?_eq_some_iff.1 e1).1
  rw [Below.heap_setCell _ _ _ _ hk, h2.block k (by omega) (byte_far hown e1), ha k hlt1]
  exact e1
set_option maxHeartbeats 2000000 in
theorem writeByte_keep (B b : Nat) (l : List UInt8) (x : UInt8) (w : World) (h : Bld B b l w) (hl : l.length ≤ 35184372088832) (hBw : B ≤ w.heap.size) :
    Calls Tryd.prog 14 #[.pointer (some ⟨b, 0, none⟩), .int .u8 x.toNat] w fun e w' => e = .returned .nilIface ∧ Bld B b (l ++ [x]) w' ∧ Below B w w' ∧ KeepT b w w' := by
  obtain ⟨i0, hi, hz0, hz1, hz2⟩ := info_parts Tryd.infoByte
  have HH : Hid (Bld B b l w) := h
  have HL : Hid ((Lib.byteCells l).length = l.length) := cells_len l
  clear h
  go_enter Tryd.func14, Tryd.ntmps14
  go_wp2_with fail
  refine (check_keep B b l _ HH.out).mono ?_
  rintro e w1 ⟨rfl, h1, hb1, hgb⟩
  have HGB : Hid (w.grownBy w1 (some b)) := hgb
  clear hgb
  obtain ⟨hB, v, hbk, hown, hne⟩ := h1
  have hlt : b < w1.heap.size := Lib.BuilderAt.lt ⟨hB, v, hbk, hown, hne⟩
  have c1 : w1.cell? ⟨b, 1, none⟩ = some v := by rw [Lib.cell_of_heap hbk]; rfl
  have hsz := hb1.size
  have HK : Hid (w1.heap[b]? = some (.cells #[.pointer (some ⟨b, 0, none⟩), v] 42 (0, 0)) ∧ w1.ownsRow B 5 1 v (Lib.byteCells l).length (Lib.byteCells l) ∧ v.ownBlock ≠ some b) := ⟨hbk, hown, hne⟩
  have hl2 : (Lib.byteCells l).length ≤ 35184372088832 := by rw [cells_len]; exact hl
  clear hbk hne
  go_wp2_with (at_builtin; refine wpList_append_own _ rfl _ _ 40 rfl B 5 i0 (.int .u8 0) 1 1 Tryd.underlying40 hi hz0 hz1 hz2 rfl (by decide) _ _ _ rfl (hown.alloc _) ⟨w1.heap.size, 0, none⟩ 1 1 [.int .u8 x.toNat] rfl rfl ?c1 ?c2 ?c3 ?c4 ?c5 ?_)
  case c1 => exact cell_one_new _ _ _
  case c2 => intro y hy; simp at hy; subst hy; rfl
  case c3 => unfold maxLen; omega
  case c4 => omega
  case c5 => simp; omega
  intro v' w2 hown' hgrow hnil
  have hb2 : w2.heap[b]? = some (.cells #[.pointer (some ⟨b, 0, none⟩), v] 42 (0, 0)) := by
    rw [hgrow.block b (by simp; omega) (fun e => HK.out.2.2 e.symm), Lib.alloc_old w1 _ b hlt]
    exact HK.out.1
  have d1 : w2.cell? ⟨b, 1, none⟩ = some v := by rw [Lib.cell_of_heap hb2]; rfl
  have f1 : w2.frozen? ⟨b, 1, none⟩ = false := Lib.frozen_of_heap hb2 1
  have HP : Hid (Lib.BuilderAt 42 5 B b (.pointer (some ⟨b, 0, none⟩)) (Lib.byteCells (l ++ [x])) (w2.setCell ⟨b, 1, none⟩ v')) :=
    Lib.BuilderAt.put hB hb2 (by rw [← cells_snoc]; simpa using hown') (by decide)
  have HB : Hid (Below B w (w2.setCell ⟨b, 1, none⟩ v')) := ((hb1.alloc (by omega) _).grown hgrow (by simp; omega) (fun k hk => (HK.out.2.1.lt k hk).1)).setCell (p := ⟨b, 1, none⟩) hB _
  have HKT : Hid (KeepT b w (w2.setCell ⟨b, 1, none⟩ v')) := keep_of HGB.out (fun k hk => Below.heap_alloc _ _ k hk) (by simp) HK.out.2.1 hgrow
  obtain ⟨g, n', cap, rfl⟩ : ∃ g n' cap, v' = .slice g n' cap := by
    rcases hown'.2 with ⟨h0, _⟩ | ⟨g, cap, cur, hv, _⟩
    · exact ⟨_, _, _, h0⟩
    · exact ⟨_, _, cap, hv⟩
  clear hown hown' hgrow hnil hb2 HK hi
  go_wp2
  go_ret
  exact ⟨rfl, .inr HP.out, HB.out, HKT.out⟩

set_option maxHeartbeats 2000000 in
theorem writeString_keep (B b : Nat) (l : List UInt8) (s : ByteArray) (w : World) (h : Bld B b l w) (hl : l.length ≤ 35184372088832) (hs : s.size ≤ 35184372088832) (hBw : B ≤ w.heap.size) :
    Calls Tryd.prog 11 #[.pointer (some ⟨b, 0, none⟩), .string s] w fun e w' => e = .returned (.tuple #[.int .i64 s.size, .nilIface]) ∧ Bld B b (l ++ s.data.toList) w' ∧ Below B w w' ∧ KeepT b w w' := by
  obtain ⟨i0, hi, hz0, hz1, hz2⟩ := info_parts Tryd.infoByte
  have HH : Hid (Bld B b l w) := h
  clear h
  go_enter Tryd.func11, Tryd.ntmps11
  go_wp2_with fail
  refine (check_keep B b l _ HH.out).mono ?_
  rintro e w1 ⟨rfl, h1, hb1, hgb⟩
  have HGB : Hid (w.grownBy w1 (some b)) := hgb
  clear hgb
  obtain ⟨hB, v, hbk, hown, hne⟩ := h1
  have hlt : b < w1.heap.size := Lib.BuilderAt.lt ⟨hB, v, hbk, hown, hne⟩
  have c1 : w1.cell? ⟨b, 1, none⟩ = some v := by rw [Lib.cell_of_heap hbk]; rfl
  have hsz := hb1.size
  have HK : Hid (w1.heap[b]? = some (.cells #[.pointer (some ⟨b, 0, none⟩), v] 42 (0, 0)) ∧ w1.ownsRow B 5 1 v (Lib.byteCells l).length (Lib.byteCells l) ∧ v.ownBlock ≠ some b) := ⟨hbk, hown, hne⟩
  have hl2 : (Lib.byteCells l).length ≤ 35184372088832 := by rw [cells_len]; exact hl
  clear hbk hne
  go_wp2_with (at_builtin; refine Lib.wpList_append_own_string _ rfl _ _ 40 9 rfl B 5 i0 Tryd.underlying40 Tryd.underlying9 hi hz0 hz1 hz2 _ _ _ rfl hown s rfl ?c3 ?c4 ?c5 ?_)
  case c3 => unfold maxLen; omega
  case c4 => omega
  case c5 => omega
  intro v' w2 hown' hgrow hnil
  have hb2 : w2.heap[b]? = some (.cells #[.pointer (some ⟨b, 0, none⟩), v] 42 (0, 0)) := by
    rw [hgrow.block b hlt (fun e => HK.out.2.2 e.symm)]
    exact HK.out.1
  have d1 : w2.cell? ⟨b, 1, none⟩ = some v := by rw [Lib.cell_of_heap hb2]; rfl
  have f1 : w2.frozen? ⟨b, 1, none⟩ = false := Lib.frozen_of_heap hb2 1
  have HP : Hid (Lib.BuilderAt 42 5 B b (.pointer (some ⟨b, 0, none⟩)) (Lib.byteCells (l ++ s.data.toList)) (w2.setCell ⟨b, 1, none⟩ v')) :=
    Lib.BuilderAt.put hB hb2 (by rw [← cells_str]; simpa [Lib.strCells_length] using hown') (by decide)
  have HB : Hid (Below B w (w2.setCell ⟨b, 1, none⟩ v')) := (hb1.grown hgrow (by omega) (fun k hk => (HK.out.2.1.lt k hk).1)).setCell (p := ⟨b, 1, none⟩) hB _
  have HKT : Hid (KeepT b w (w2.setCell ⟨b, 1, none⟩ v')) := keep_of HGB.out (fun _ _ => rfl) (Nat.le_refl _) HK.out.2.1 hgrow
  obtain ⟨g, n', cap, rfl⟩ : ∃ g n' cap, v' = .slice g n' cap := by
    rcases hown'.2 with ⟨h0, _⟩ | ⟨g, cap, cur, hv, _⟩
    · exact ⟨_, _, _, h0⟩
    · exact ⟨_, _, cap, hv⟩
  clear hown hown' hgrow hnil hb2 HK hi
  go_wp2
  go_ret2
  exact ⟨rfl, .inr HP.out, HB.out, HKT.out⟩

end Go.Proofs.YtncjaohiimenaabDoor
