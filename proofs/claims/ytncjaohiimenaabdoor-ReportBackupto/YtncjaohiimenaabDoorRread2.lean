/- What report.Read reads. -/
import Derived.Test.YtncjaohiimenaabDoorRread
namespace Go.Proofs.YtncjaohiimenaabDoor
open Go.ChangeShapes Go.WideShapes Go.ChangeAt Go.RowKit
set_option maxRecDepth 100000
set_option linter.unusedSimpArgs false
set_option linter.unusedVariables false
def Pe.val (e : Pe) : Value := .agg #[.int .i64 e.ser, .int .i64 e.x.kind, .int .i64 e.x.n, .string e.x.s, e.L, .bool e.rc, .bool e.ab]
def zeroPe : Pe := ⟨0, ⟨0, 0, ⟨#[]⟩, []⟩, .slice none 0 0, false, false⟩
/-- A panic that was read. -/
def peOf (k : Nat) (p : Vv × Bool) : Pe := ⟨k, p.1, .slice none 0 0, p.2, false⟩
/-- What stands between a line's lead and its mark, and whether the mark is there. -/
def midL (t : List UInt8) : List UInt8 := Lib.trimSuffix t markB.data.toList
/-- The panic of a line. -/
def readLn (l : List UInt8) (k : Nat) : Option (Vv × Bool) :=
  if Lib.hasPrefix l (leadL k) = true then
    (readV ⟨(midL (Lib.trimPrefix l (leadL k))).toArray⟩).map fun x => (x, Lib.hasSuffix (Lib.trimPrefix l (leadL k)) markB.data.toList)
  else none
def optL (k : Nat) : Option (Vv × Bool) → Value
  | some p => .tuple #[(peOf k p).val, .bool true]
  | none => .tuple #[zeroPe.val, .bool false]
theorem trimP_le (l p : List UInt8) : (Lib.trimPrefix l p).length ≤ l.length := by unfold Lib.trimPrefix; split <;> simp
theorem trimS_le (l p : List UInt8) : (Lib.trimSuffix l p).length ≤ l.length := by unfold Lib.trimSuffix; split <;> simp
theorem set7 {w w0 : World} {g B : Nat} {c0 c1 c2 c3 c4 c5 c6 : Value} {t : TypeId} (h : w.heap[g]? = some (.cells #[c0, c1, c2, c3, c4, c5, c6] t (0, 0))) (v0 v1 v2 v3 v4 v5 v6 : Value) (hb : Below B w0 w) (hB : B ≤ g) :
    Below B w0 (((((((w.setCell ⟨g, 0, none⟩ v0).setCell ⟨g, 1, none⟩ v1).setCell ⟨g, 2, none⟩ v2).setCell ⟨g, 3, none⟩ v3).setCell ⟨g, 4, none⟩ v4).setCell ⟨g, 5, none⟩ v5).setCell ⟨g, 6, none⟩ v6) :=
  (((((((hb.setCell hB _).setCell hB _).setCell hB _).setCell hB _).setCell hB _).setCell hB _).setCell hB _)
set_option maxHeartbeats 8000000 in
theorem own_readLine (l : ByteArray) (k : Nat) (w : World) (hs : l.size ≤ 4398046511104) (hl : Lib3 w) :
    Calls Tryd.prog 17 #[.string l, .int .i64 k] w fun e w' => e = .returned (optL k (readLn l.data.toList k)) ∧ Below w.heap.size w w' := by
  have HLD : Hid (∀ u, Calls Tryd.prog 12 #[.int .i64 k] u fun e w' => e = .returned (.string ⟨(leadL k).toArray⟩) ∧ w' = u) := fun u => own_lead k u
  have HCP : Hid (∀ u, Calls Tryd.prog 23 #[.string l, .string ⟨(leadL k).toArray⟩] u fun e w' => e = .returned (.tuple #[.string ⟨(Lib.trimPrefix l.data.toList (leadL k)).toArray⟩, .bool (Lib.hasPrefix l.data.toList (leadL k))]) ∧ w' = u) := fun u => Tryd.strings_CutPrefix l ⟨(leadL k).toArray⟩ u
  have hlen : l.data.toList.length = l.size := bsize_list l
  have h1 := trimP_le l.data.toList (leadL k)
  have h2 := trimS_le (Lib.trimPrefix l.data.toList (leadL k)) markB.data.toList
  have HCS : Hid (∀ u, Calls Tryd.prog 24 #[.string ⟨(Lib.trimPrefix l.data.toList (leadL k)).toArray⟩, .string ⟨#[32, 91, 114, 101, 99, 111, 118, 101, 114, 101, 100, 93]⟩] u fun e w' => e = .returned (.tuple #[.string ⟨(midL (Lib.trimPrefix l.data.toList (leadL k))).toArray⟩, .bool (Lib.hasSuffix (Lib.trimPrefix l.data.toList (leadL k)) markB.data.toList)]) ∧ w' = u) := fun u => Tryd.strings_CutSuffix ⟨(Lib.trimPrefix l.data.toList (leadL k)).toArray⟩ markB u (by show (Lib.trimPrefix l.data.toList (leadL k)).toArray.size ≤ _; rw [List.size_toArray]; omega)
  have HRV : Hid (∀ u, Below w.heap.size w u → Calls Tryd.prog 25 #[.string ⟨(midL (Lib.trimPrefix l.data.toList (leadL k))).toArray⟩] u fun e w' => e = .returned (optV (readV ⟨(midL (Lib.trimPrefix l.data.toList (leadL k))).toArray⟩)) ∧ Below u.heap.size u w') := fun u hu => own_readValue _ u (by show (midL (Lib.trimPrefix l.data.toList (leadL k))).toArray.size ≤ _; rw [List.size_toArray]; unfold midL; omega) (hl.below hu)
  clear hl hlen h1 h2 hs
  unfold readLn
  generalize readV ⟨(midL (Lib.trimPrefix l.data.toList (leadL k))).toArray⟩ = rv at *
  generalize (⟨(midL (Lib.trimPrefix l.data.toList (leadL k))).toArray⟩ : ByteArray) = md at *
  generalize Lib.hasSuffix (Lib.trimPrefix l.data.toList (leadL k)) markB.data.toList = hsf at *
  generalize (⟨(Lib.trimPrefix l.data.toList (leadL k)).toArray⟩ : ByteArray) = tp at *
  generalize Lib.hasPrefix l.data.toList (leadL k) = hpf at *
  generalize (⟨(leadL k).toArray⟩ : ByteArray) = ld at *
  have HX : Hid (∀ u, Below (w.alloc (.cells #[.int .i64 0, .int .i64 0, .int .i64 0, .string ⟨#[]⟩, .slice none 0 0, .bool false, .bool false] 27)).heap.size (w.alloc (.cells #[.int .i64 0, .int .i64 0, .int .i64 0, .string ⟨#[]⟩, .slice none 0 0, .bool false, .bool false] 27)) u → u.heap[w.heap.size]? = some (.cells #[.int .i64 0, .int .i64 0, .int .i64 0, .string ⟨#[]⟩, .slice none 0 0, .bool false, .bool false] 27 (0, 0)) ∧ Below w.heap.size w u) := fun u hu => ⟨box_stays hu, below_up hu⟩
  cases hpf with
  | false =>
    rw [if_neg (by decide)]
    go_enter Tryd.func17, Tryd.ntmps17
    go_wp2_with fail
    refine Calls.mono (HLD.out _) ?_
    rintro e w1 ⟨rfl, rfl⟩
    go_wp2_with fail
    refine Calls.mono (HCP.out _) ?_
    rintro e w1 ⟨rfl, rfl⟩
    go_wp2_with fail
    refine bodyPost_ret (v := optL k none) (by simp [optL, zeroPe, Pe.val, results, Tryd.results17, go_sem]) rfl ⟨rfl, ?_⟩
    exact show_below
  | true =>
    rw [if_pos rfl]
    cases rv with
    | none =>
      go_enter Tryd.func17, Tryd.ntmps17
      go_wp2_with fail
      refine Calls.mono (HLD.out _) ?_
      rintro e w1 ⟨rfl, rfl⟩
      go_wp2_with fail
      refine Calls.mono (HCP.out _) ?_
      rintro e w1 ⟨rfl, rfl⟩
      go_wp2_with fail
      refine Calls.mono (HCS.out _) ?_
      rintro e w1 ⟨rfl, rfl⟩
      go_wp2_with fail
      refine Calls.mono (HRV.out _ show_below) ?_
      rintro e w2 ⟨rfl, hb2⟩
      have hal : Below w2.heap.size w2 (w2.alloc (.cells #[.int .i64 0, .int .i64 0, .string ⟨#[]⟩, .slice none 0 0] 25)) := (Below.refl _ _).alloc (Nat.le_refl _) _
      obtain ⟨hx, hb⟩ := HX.out _ (hb2.trans (hal.mono hb2.size))
      have HBW := Hid.mk' (set7 hx (.int .i64 0) (.int .i64 0) (.int .i64 0) (.string ⟨#[]⟩) (.slice none 0 0) (.bool false) (.bool false) hb (Nat.le_refl _))
      obtain ⟨⟨c0, c1, c2, c3, c4, c5, c6⟩, ⟨f0, f1, f2, f3, f4, f5, f6⟩⟩ := box7 hx
      clear hx hb hb2 HX hal
      unfold optV vval
      go_wp2_with fail
      refine bodyPost_ret (v := optL k none) (by simp [optL, peOf, zeroPe, Pe.val, results, Tryd.results17, go_sem, c0, c1, c2, c3, c4, c5, c6]) rfl ⟨rfl, ?_⟩
      exact HBW.out
    | some x =>
      go_enter Tryd.func17, Tryd.ntmps17
      go_wp2_with fail
      refine Calls.mono (HLD.out _) ?_
      rintro e w1 ⟨rfl, rfl⟩
      go_wp2_with fail
      refine Calls.mono (HCP.out _) ?_
      rintro e w1 ⟨rfl, rfl⟩
      go_wp2_with fail
      refine Calls.mono (HCS.out _) ?_
      rintro e w1 ⟨rfl, rfl⟩
      go_wp2_with fail
      refine Calls.mono (HRV.out _ show_below) ?_
      rintro e w2 ⟨rfl, hb2⟩
      have hal : Below w2.heap.size w2 (w2.alloc (.cells #[.int .i64 x.kind, .int .i64 x.n, .string x.s, .slice none 0 0] 25)) := (Below.refl _ _).alloc (Nat.le_refl _) _
      obtain ⟨hx, hb⟩ := HX.out _ (hb2.trans (hal.mono hb2.size))
      have HBW := Hid.mk' (set7 hx (.int .i64 k) (.int .i64 x.kind) (.int .i64 x.n) (.string x.s) (.slice none 0 0) (.bool hsf) (.bool false) hb (Nat.le_refl _))
      obtain ⟨⟨c0, c1, c2, c3, c4, c5, c6⟩, ⟨f0, f1, f2, f3, f4, f5, f6⟩⟩ := box7 hx
      clear hx hb hb2 HX hal
      unfold optV vval
      go_wp2_with fail
      refine bodyPost_ret (v := optL k (some (x, hsf))) (by simp [optL, peOf, zeroPe, Pe.val, results, Tryd.results17, go_sem, c0, c1, c2, c3, c4, c5, c6]) rfl ⟨rfl, ?_⟩
      exact HBW.out
end Go.Proofs.YtncjaohiimenaabDoor
