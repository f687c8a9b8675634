/- What the scanner's step does to its state. -/
import Derived.Test.YtpdndpajobfhmabGreatDoorScn2
namespace Go.Proofs.YtpdndpajobfhmabGreatDoor
open Go.ChangeShapes Go.WideShapes Go.ChangeAt Go.RowKit
set_option maxRecDepth 100000
set_option linter.unusedSimpArgs false

/-- A step, at the rest r of the source. -/
def Sc.stepR (s : Sc) (r : ByteArray) (h : 0 < r.size) : Res :=
  if r[0] = 10 then (match s.closeR with
    | .ok s' => .ok ⟨s.pos + 1, s.line + 1, s.pos + 1, s'.ts⟩
    | .bad c ln cl => .bad c ln cl)
  else if r[0] = 32 ∨ r[0] = 9 ∨ r[0] = 13 then .ok { s with pos := s.pos + 1 }
  else if Lib.hasPrefix r.data.toList [47, 47] then .ok { s with pos := s.pos + lnN r.data.toList }
  else if (fsT r h).2.2 = 0 then (match s.addR (fsT r h).1 (r.extract 0 (fsT r h).2.1.toNat) with
    | .ok s' => .ok { s' with pos := s.pos + (fsT r h).2.1.toNat }
    | .bad c ln cl => .bad c ln cl)
  else .bad (fsT r h).2.2 s.line s.col
theorem addR_same {s s' : Sc} {k : Int} {t : ByteArray} (h : s.addR k t = .ok s') : s'.pos = s.pos ∧ s'.line = s.line ∧ s'.bg = s.bg := by
  unfold Sc.addR at h
  split at h
  · cases h
  · cases h; exact ⟨rfl, rfl, rfl⟩
theorem closeR_same {s s' : Sc} (h : s.closeR = .ok s') : s'.pos = s.pos ∧ s'.line = s.line ∧ s'.bg = s.bg := by
  unfold Sc.closeR at h
  split at h
  · cases h; exact ⟨rfl, rfl, rfl⟩
  · split at h
    · exact addR_same h
    · cases h; exact ⟨rfl, rfl, rfl⟩

set_option maxHeartbeats 2000000 in
theorem step_nl (B b : Nat) (src : ByteArray) (s : Sc) (w : World) (h : Scn B b src s w) (ho : s.Ok src) (hBw : B ≤ w.heap.size) (r : ByteArray) (hr : r = src.extract s.pos src.size) (h0 : 0 < r.size) (hn : r[0] = 10) :
    Calls Tryz.prog 26 #[.pointer (some ⟨b, 0, none⟩)] w (Came B b src w (s.stepR r h0)) := by
  have hR : s.stepR r h0 = match s.closeR with | .ok s' => .ok ⟨s.pos + 1, s.line + 1, s.pos + 1, s'.ts⟩ | .bad c ln cl => .bad c ln cl := by unfold Sc.stepR; rw [if_pos hn]
  rw [hR]
  have hsl : ∀ W, (Instr.slice 9 (.string src) (some (.int .i64 (s.pos : Int))) none none).run Tryz.prog W = .ok (.string r) W := fun W => by rw [hr]; exact slice_from src s.pos ho.pos W
  have b10 : ((r[0].toNat : Int) == 10) = true := by rw [hn]; decide
  obtain ⟨c0, c1, c2, c3, f⟩ := h.cells
  have HS : Hid (Scn B b src s w) := h
  have hsame : ∀ s', s.closeR = .ok s' → s'.pos = s.pos ∧ s'.line = s.line ∧ s'.bg = s.bg := fun s' e => closeR_same e
  have HSA : Hid (∀ s', s.closeR = .ok s' → s'.pos = s.pos ∧ s'.line = s.line ∧ s'.bg = s.bg) := hsame
  have HC : Hid (∀ n, Calls Tryz.prog 27 #[.pointer (some ⟨b, 0, none⟩)] (w.drewN n) (Came B b src (w.drewN n) s.closeR)) := fun n => own_close B b src s (w.drewN n) h ho hBw
  have o1 := ho.pos
  have o3 := ho.line
  have o4 := ho.size
  clear h hr hn hR ho hsame
  generalize s.closeR = R at *
  cases R with
  | bad c ln cl =>
    go_enter Tryz.func26, Tryz.ntmps26
    go_wp2
    go_quiet (fail)
    go_wp2_with fail
    refine (HC.out _).mono ?_
    rintro e w1 ⟨hb1, rfl⟩
    exact ⟨rfl, ⟨hb1.os, hb1.tape, hb1.output, hb1.size, hb1.block⟩, rfl⟩
  | ok s' =>
    obtain ⟨e1, e2, e3⟩ := HSA.out s' rfl
    go_enter Tryz.func26, Tryz.ntmps26
    go_wp2
    go_quiet (fail)
    go_wp2_with fail
    refine (HC.out _).mono ?_
    rintro e w1 ⟨hb1, rfl, hs1⟩
    have HS1 : Hid (Scn B b src s' w1 ∧ Below B w w1) := ⟨hs1, ⟨hb1.os, hb1.tape, hb1.output, hb1.size, hb1.block⟩⟩
    obtain ⟨d0, d1, d2, d3, df⟩ := hs1.cells
    rw [e1] at d1
    rw [e2] at d2
    clear hs1 hb1 c0 c1 c2 c3 f e1 e2 e3
    go_wp2
    go_region
    all_goals
      go_wp2
      go_end0
      refine ⟨?_, rfl, ?_⟩
      · exact below_dn (((HS1.out.2.setCell (p := ⟨b, 1, none⟩) HS1.out.1.1 _).setCell (p := ⟨b, 2, none⟩) HS1.out.1.1 _).setCell (p := ⟨b, 3, none⟩) HS1.out.1.1 _) 1
      · exact (((HS1.out.1.setPos (s.pos + 1)).setLine (s.line + 1)).setBg (s.pos + 1)).drewN 1

set_option maxHeartbeats 2000000 in
theorem step_blank (B b : Nat) (src : ByteArray) (s : Sc) (w : World) (h : Scn B b src s w) (ho : s.Ok src) (r : ByteArray) (hr : r = src.extract s.pos src.size) (h0 : 0 < r.size) (hn : r[0] = 32 ∨ r[0] = 9 ∨ r[0] = 13) :
    Calls Tryz.prog 26 #[.pointer (some ⟨b, 0, none⟩)] w (Came B b src w (s.stepR r h0)) := by
  have hR : s.stepR r h0 = .ok { s with pos := s.pos + 1 } := by
    unfold Sc.stepR
    rw [if_neg (by rcases hn with e | e | e <;> rw [e] <;> decide), if_pos hn]
  rw [hR]
  have hsl : ∀ W, (Instr.slice 9 (.string src) (some (.int .i64 (s.pos : Int))) none none).run Tryz.prog W = .ok (.string r) W := fun W => by rw [hr]; exact slice_from src s.pos ho.pos W
  have b10 : ((r[0].toNat : Int) == 10) = false := by rcases hn with e | e | e <;> rw [e] <;> decide
  obtain ⟨c0, c1, c2, c3, f⟩ := h.cells
  have HS : Hid (Scn B b src s w) := h
  have o1 := ho.pos
  have o4 := ho.size
  clear h hr hR ho
  rcases hn with e | e | e
  · have b1 : ((r[0].toNat : Int) == 32) = true := by rw [e]; decide
    clear e
    go_enter Tryz.func26, Tryz.ntmps26
    go_wp2
    go_quiet (fail)
    go_wp2
    go_end0
    exact ⟨(below_dn (Below.refl B w) nq).setCell (p := ⟨b, 1, none⟩) HS.out.1 _, rfl, (HS.out.drewN nq).setPos (s.pos + 1)⟩
  · have b1 : ((r[0].toNat : Int) == 32) = false := by rw [e]; decide
    have b2 : ((r[0].toNat : Int) == 9) = true := by rw [e]; decide
    clear e
    go_enter Tryz.func26, Tryz.ntmps26
    go_wp2
    go_quiet (fail)
    go_wp2
    go_end0
    exact ⟨(below_dn (Below.refl B w) nq).setCell (p := ⟨b, 1, none⟩) HS.out.1 _, rfl, (HS.out.drewN nq).setPos (s.pos + 1)⟩
  · have b1 : ((r[0].toNat : Int) == 32) = false := by rw [e]; decide
    have b2 : ((r[0].toNat : Int) == 9) = false := by rw [e]; decide
    have b3 : ((r[0].toNat : Int) == 13) = true := by rw [e]; decide
    clear e
    go_enter Tryz.func26, Tryz.ntmps26
    go_wp2
    go_quiet (fail)
    go_wp2
    go_end0
    exact ⟨(below_dn (Below.refl B w) nq).setCell (p := ⟨b, 1, none⟩) HS.out.1 _, rfl, (HS.out.drewN nq).setPos (s.pos + 1)⟩

set_option maxHeartbeats 2000000 in
theorem step_rem (B b : Nat) (src : ByteArray) (s : Sc) (w : World) (h : Scn B b src s w) (ho : s.Ok src) (r : ByteArray) (hr : r = src.extract s.pos src.size) (h0 : 0 < r.size) (hn : r[0] ≠ 10 ∧ r[0] ≠ 32 ∧ r[0] ≠ 9 ∧ r[0] ≠ 13) (hp : Lib.hasPrefix r.data.toList [47, 47] = true) :
    Calls Tryz.prog 26 #[.pointer (some ⟨b, 0, none⟩)] w (Came B b src w (s.stepR r h0)) := by
  have hR : s.stepR r h0 = .ok { s with pos := s.pos + lnN r.data.toList } := by
    unfold Sc.stepR
    rw [if_neg hn.1, if_neg (by simp [hn.2.1, hn.2.2.1, hn.2.2.2]), if_pos hp]
  rw [hR]
  have hsl : ∀ W, (Instr.slice 9 (.string src) (some (.int .i64 (s.pos : Int))) none none).run Tryz.prog W = .ok (.string r) W := fun W => by rw [hr]; exact slice_from src s.pos ho.pos W
  have b0 : ((r[0].toNat : Int) == 10) = false := nat_ne (n := 10) (by decide) hn.1
  have b1 : ((r[0].toNat : Int) == 32) = false := nat_ne (n := 32) (by decide) hn.2.1
  have b2 : ((r[0].toNat : Int) == 9) = false := nat_ne (n := 9) (by decide) hn.2.2.1
  have b3 : ((r[0].toNat : Int) == 13) = false := nat_ne (n := 13) (by decide) hn.2.2.2
  have HP : Hid (∀ W, Calls Tryz.prog 52 #[.string r, .string ⟨#[47, 47]⟩] W fun e w' => e = .returned (.bool true) ∧ w' = W) := fun W => by have := Tryz.strings_HasPrefix r ⟨#[47, 47]⟩ W; rw [show Lib.hasPrefix r.data.toList (⟨#[47, 47]⟩ : ByteArray).data.toList = true from hp] at this; exact this
  have HLN : Hid (∀ W, Calls Tryz.prog 53 #[.string r] W fun e w' => e = .returned (.int .i64 (lnN r.data.toList)) ∧ w' = W) := fun W => own_line r W
  have hle := lnN_le r.data.toList
  rw [bsize_list] at hle
  have hrz : r.size ≤ 8000 := by rw [hr, ByteArray.size_extract]; have := ho.size; omega
  generalize lnN r.data.toList = n at *
  obtain ⟨c0, c1, c2, c3, f⟩ := h.cells
  have HS : Hid (Scn B b src s w) := h
  have o1 := ho.pos
  have o4 := ho.size
  have HW : Hid (IntKind.i64.wrap ((s.pos : Int) + (n : Int)) = ((s.pos + n : Nat) : Int)) := by show _ = _; rw [IntKind.wrap_i64]; omega
  clear h hr hR ho hp hn
  go_enter Tryz.func26, Tryz.ntmps26
  go_wp2
  go_quiet (fail)
  go_wp2_with fail
  refine (HP.out _).mono ?_
  rintro e w1 ⟨rfl, rfl⟩
  go_wp2_with fail
  go_region_with (go_at_call 53; refine (HLN.out _).mono ?_; rintro e w1 ⟨rfl, rfl⟩)
  all_goals
    rw [HW.out]
    go_wp2
    go_end0
    exact ⟨(below_dn (Below.refl B w) _).setCell (p := ⟨b, 1, none⟩) HS.out.1 _, rfl, (HS.out.drewN _).setPos (s.pos + n)⟩
end Go.Proofs.YtpdndpajobfhmabGreatDoor
