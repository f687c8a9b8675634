/- What the scanner's step does at a token. -/
import Derived.Test.YtpdndpajobfhmabGreatDoorScn3
namespace Go.Proofs.YtpdndpajobfhmabGreatDoor
open Go.ChangeShapes Go.WideShapes Go.ChangeAt Go.RowKit
set_option maxRecDepth 100000
set_option linter.unusedSimpArgs false

theorem runN_pos {l : List UInt8} {c : UInt8} (h : l[0]? = some c) (hc : lod c = true) : 1 ≤ runN l := by
  cases l with
  | nil => cases h
  | cons a l => simp at h; subst h; simp [runN, List.takeWhile, hc]
theorem rqN_le {l : List UInt8} (h : rqE l = 0) : 1 ≤ rqN l ∧ rqN l ≤ l.length := by
  unfold rqE at h
  cases hq : rq l with
  | none => rw [hq] at h; cases h
  | some p =>
    obtain ⟨u, n⟩ := p
    have e : rqN l = n := by unfold rqN; rw [hq]
    rw [e]
    cases l with
    | nil => cases hq
    | cons c r =>
      simp only [rq] at hq
      split at hq
      · obtain ⟨⟨s', n'⟩, g1, g2⟩ := Option.bind_eq_some_iff.1 hq
        simp only at g2
        split at g2
        · simp only [Option.some.injEq, Prod.mk.injEq] at g2
          obtain ⟨rfl, rfl⟩ := g2
          have := rd_len _ _ _ g1
          simp; omega
        · cases g2
      · cases hq
theorem sgnN_le (s : ByteArray) (h : 0 < s.size) : sgnN s ≤ s.size := by unfold sgnN; split; omega; split <;> omega
/-- A token that is right has at least one byte, and lies within. -/
theorem fsT_ok (r : ByteArray) (h : 0 < r.size) (he : (fsT r h).2.2 = 0) : ∃ n : Nat, (fsT r h).2.1 = (n : Int) ∧ 1 ≤ n ∧ n ≤ r.size := by
  have hr := runN_le r.data.toList
  rw [bsize_list] at hr
  have hg : r.data.toList[0]? = some r[0] := by rw [get_list r 0 h, List.getElem?_eq_getElem]
  have hez := ext_size r (runN r.data.toList) hr
  unfold fsT at he ⊢
  split at he
  · rename_i hL
    rw [if_pos hL]
    have hp := runN_pos hg (show lod r[0] = true by unfold lod; rw [hL]; rfl)
    unfold nmT at he ⊢
    split at he
    · cases he
    · rename_i h16
      rw [if_neg h16]
      split at he
      · rename_i hw; rw [if_pos hw]; exact ⟨runN r.data.toList, by rw [hez], hp, hr⟩
      · rename_i hw; rw [if_neg hw]; exact ⟨runN r.data.toList, by rw [hez], hp, hr⟩
  · rename_i hL
    rw [if_neg hL]
    split at he
    · rename_i hD
      rw [if_pos hD]
      have hp := runN_pos hg (show lod r[0] = true by unfold lod; rw [hD]; simp)
      unfold inT at he ⊢
      split at he
      · rename_i hw; rw [if_pos hw]; exact ⟨runN r.data.toList, by rw [hez], hp, hr⟩
      · cases he
    · rename_i hD
      rw [if_neg hD]
      split at he
      · rename_i hq
        rw [if_pos hq]
        unfold txT at he ⊢
        split at he
        · rename_i hw
          rw [if_pos hw]
          have := rqN_le hw
          rw [bsize_list] at this
          exact ⟨_, rfl, this.1, this.2⟩
        · cases he
      · rename_i hq
        rw [if_neg hq]
        split at he
        · rename_i h59; rw [if_pos h59]; exact ⟨1, rfl, by omega, h⟩
        · rename_i h59
          rw [if_neg h59]
          unfold sgT at he ⊢
          split at he
          · cases he
          · rename_i hs
            rw [if_neg hs]
            exact ⟨sgnN r, rfl, by omega, sgnN_le r h⟩

set_option maxHeartbeats 4000000 in
theorem step_tok (B b : Nat) (src : ByteArray) (s : Sc) (w : World) (h : Scn B b src s w) (ho : s.Ok src) (hBw : B ≤ w.heap.size) (hlib : Lib3 w) (r : ByteArray) (hr : r = src.extract s.pos src.size) (h0 : 0 < r.size) (hn : r[0] ≠ 10 ∧ r[0] ≠ 32 ∧ r[0] ≠ 9 ∧ r[0] ≠ 13) (hp : Lib.hasPrefix r.data.toList [47, 47] = false) :
    Calls Tryz.prog 26 #[.pointer (some ⟨b, 0, none⟩)] w (Came B b src w (s.stepR r h0)) := by
  have hrz : r.size ≤ 8000 := by rw [hr, ByteArray.size_extract]; have := ho.size; omega
  have hrp : s.pos + r.size = src.size := by rw [hr, ByteArray.size_extract]; have := ho.pos; omega
  have hsl : ∀ W, (Instr.slice 9 (.string src) (some (.int .i64 (s.pos : Int))) none none).run Tryz.prog W = .ok (.string r) W := fun W => by rw [hr]; exact slice_from src s.pos ho.pos W
  have b0 : ((r[0].toNat : Int) == 10) = false := nat_ne (n := 10) (by decide) hn.1
  have b1 : ((r[0].toNat : Int) == 32) = false := nat_ne (n := 32) (by decide) hn.2.1
  have b2 : ((r[0].toNat : Int) == 9) = false := nat_ne (n := 9) (by decide) hn.2.2.1
  have b3 : ((r[0].toNat : Int) == 13) = false := nat_ne (n := 13) (by decide) hn.2.2.2
  have HP : Hid (∀ W, Calls Tryz.prog 52 #[.string r, .string ⟨#[47, 47]⟩] W fun e w' => e = .returned (.bool false) ∧ w' = W) := fun W => by have := Tryz.strings_HasPrefix r ⟨#[47, 47]⟩ W; rw [show Lib.hasPrefix r.data.toList (⟨#[47, 47]⟩ : ByteArray).data.toList = false from hp] at this; exact this
  have HF : Hid (∀ n, Calls Tryz.prog 54 #[.string r] (w.drewN n) fun e w' => e = .returned (.tuple #[.int .i64 (fsT r h0).1, .int .i64 (fsT r h0).2.1, .int .i64 (fsT r h0).2.2]) ∧ Below (w.drewN n).heap.size (w.drewN n) w') := fun n => own_first r (w.drewN n) h0 (by omega) hlib
  have HS : Hid (Scn B b src s w) := h
  have HO : Hid (s.Ok src) := ho
  obtain ⟨c0, c1, c2, c3, f⟩ := h.cells
  have o1 := ho.pos
  have o4 := ho.size
  by_cases he : (fsT r h0).2.2 = 0
  · obtain ⟨n, hn1, hn2, hn3⟩ := fsT_ok r h0 he
    have hR : s.stepR r h0 = match s.addR (fsT r h0).1 (r.extract 0 n) with | .ok s' => .ok { s' with pos := s.pos + n } | .bad c ln cl => .bad c ln cl := by
      unfold Sc.stepR
      rw [if_neg hn.1, if_neg (by simp [hn.2.1, hn.2.2.1, hn.2.2.2]), hp, if_neg (by decide), if_pos he, hn1]
      rfl
    rw [hR]
    rw [he, hn1] at HF
    generalize (fsT r h0).1 = k at *
    have hsl2 := slice_to r n hn3
    have HAD : Hid (∀ W, Below w.heap.size w W → Calls Tryz.prog 56 #[.pointer (some ⟨b, 0, none⟩), .int .i64 k, .string (r.extract 0 n)] W (Came B b src W (s.addR k (r.extract 0 n)))) := fun W hW => own_addR B b src s k (r.extract 0 n) W (HS.out.below hW) HO.out (Nat.le_trans hBw hW.size)
    have HSA : Hid (∀ s', s.addR k (r.extract 0 n) = .ok s' → s'.pos = s.pos ∧ s'.line = s.line ∧ s'.bg = s.bg) := fun s' e => addR_same e
    generalize r.extract 0 n = tx at *
    generalize s.addR k tx = R at *
    clear h hr hR ho hp hn he hn1 hlib
    cases R with
    | bad c ln cl =>
      go_enter Tryz.func26, Tryz.ntmps26
      go_wp2
      go_quiet (fail)
      go_wp2_with fail
      refine (HP.out _).mono ?_
      rintro e w1 ⟨rfl, rfl⟩
      go_wp2_with fail
      refine (HF.out _).mono ?_
      rintro e w2 ⟨rfl, hb2⟩
      have hb2' : Below w.heap.size w w2 := ⟨hb2.os, hb2.tape, hb2.output, hb2.size, hb2.block⟩
      go_wp2_with fail
      refine (HAD.out w2 hb2').mono ?_
      rintro e w3 ⟨hb3, rfl⟩
      exact ⟨rfl, (hb2'.mono hBw).trans hb3, rfl⟩
    | ok s' =>
      obtain ⟨e1, e2, e3⟩ := HSA.out s' rfl
      go_enter Tryz.func26, Tryz.ntmps26
      go_wp2
      go_quiet (fail)
      go_wp2_with fail
      refine (HP.out _).mono ?_
      rintro e w1 ⟨rfl, rfl⟩
      go_wp2_with fail
      refine (HF.out _).mono ?_
      rintro e w2 ⟨rfl, hb2⟩
      have hb2' : Below w.heap.size w w2 := ⟨hb2.os, hb2.tape, hb2.output, hb2.size, hb2.block⟩
      go_wp2_with fail
      refine (HAD.out w2 hb2').mono ?_
      rintro e w3 ⟨hb3, rfl, hs3⟩
      have HS3 : Hid (Scn B b src s' w3 ∧ Below B w w3) := ⟨hs3, (hb2'.mono hBw).trans hb3⟩
      obtain ⟨d0, d1, d2, d3, df⟩ := hs3.cells
      rw [e1] at d1
      clear hs3 hb3 hb2 hb2' c0 c1 c2 c3 f e1 e2 e3 d2 d3
      go_wp2
      go_end0
      exact ⟨HS3.out.2.setCell (p := ⟨b, 1, none⟩) HS3.out.1.1 _, rfl, HS3.out.1.setPos (s.pos + n)⟩
  · have hR : s.stepR r h0 = .bad (fsT r h0).2.2 s.line s.col := by
      unfold Sc.stepR
      rw [if_neg hn.1, if_neg (by simp [hn.2.1, hn.2.2.1, hn.2.2.2]), hp, if_neg (by decide), if_neg he]
    rw [hR]
    generalize (fsT r h0).1 = k at *
    generalize (fsT r h0).2.1 = z at *
    have hbn : ((fsT r h0).2.2 != 0) = true := by rw [bne_iff_ne]; exact he
    generalize (fsT r h0).2.2 = x at *
    have HGU : Hid (∀ W, Below w.heap.size w W → Calls Tryz.prog 55 #[.pointer (some ⟨b, 0, none⟩), .int .i64 x] W fun e w' => e = Gave x s.line s.col ∧ ∃ n, w' = W.drewN n) := fun W hW => own_giveUp B b src s x W (HS.out.below hW) HO.out
    clear h hr hR ho hp hn he hlib
    go_enter Tryz.func26, Tryz.ntmps26
    go_wp2
    go_quiet (fail)
    go_wp2_with fail
    refine (HP.out _).mono ?_
    rintro e w1 ⟨rfl, rfl⟩
    go_wp2_with fail
    refine (HF.out _).mono ?_
    rintro e w2 ⟨rfl, hb2⟩
    have hb2' : Below w.heap.size w w2 := ⟨hb2.os, hb2.tape, hb2.output, hb2.size, hb2.block⟩
    go_wp2_with fail
    refine (HGU.out w2 hb2').mono ?_
    rintro e w3 ⟨rfl, m, rfl⟩
    exact ⟨rfl, below_dn (hb2'.mono hBw) m, rfl⟩
/-- A step. -/
theorem own_step (B b : Nat) (src : ByteArray) (s : Sc) (w : World) (h : Scn B b src s w) (ho : s.Ok src) (hBw : B ≤ w.heap.size) (hlib : Lib3 w) (r : ByteArray) (hr : r = src.extract s.pos src.size) (h0 : 0 < r.size) :
    Calls Tryz.prog 26 #[.pointer (some ⟨b, 0, none⟩)] w (Came B b src w (s.stepR r h0)) := by
  by_cases h1 : r[0] = 10
  · exact step_nl B b src s w h ho hBw r hr h0 h1
  by_cases h2 : r[0] = 32 ∨ r[0] = 9 ∨ r[0] = 13
  · exact step_blank B b src s w h ho r hr h0 h2
  have h3 : r[0] ≠ 10 ∧ r[0] ≠ 32 ∧ r[0] ≠ 9 ∧ r[0] ≠ 13 := ⟨h1, fun e => h2 (.inl e), fun e => h2 (.inr (.inl e)), fun e => h2 (.inr (.inr e))⟩
  cases hp : Lib.hasPrefix r.data.toList [47, 47]
  · exact step_tok B b src s w h ho hBw hlib r hr h0 h3 hp
  · exact step_rem B b src s w h ho r hr h0 h3 hp
end Go.Proofs.YtpdndpajobfhmabGreatDoor
