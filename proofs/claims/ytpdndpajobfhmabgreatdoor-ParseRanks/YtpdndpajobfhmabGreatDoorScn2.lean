/- What closeLine does to the scanner's state. -/
import Derived.Test.YtpdndpajobfhmabGreatDoorScn
namespace Go.Proofs.YtpdndpajobfhmabGreatDoor
open Go.ChangeShapes Go.WideShapes Go.ChangeAt Go.RowKit
set_option maxRecDepth 100000
set_option linter.unusedSimpArgs false

/-- How a step comes out: a state, or what is wrong and where. -/
inductive Res where
  | ok (s : Sc)
  | bad (c : Int) (ln cl : Nat)
def Sc.addR (s : Sc) (k : Int) (t : ByteArray) : Res := if s.ts.length = 2000 then .bad 15 s.line s.col else .ok (s.put k t)
def Sc.closeR (s : Sc) : Res := match s.ts.getLast? with
  | none => .ok s
  | some t => if mayT t.kind t.text then s.addR 6 ⟨#[59]⟩ else .ok s
def Came (B b : Nat) (src : ByteArray) (w : World) (r : Res) (e : Ending) (w' : World) : Prop :=
  Below B w w' ∧ match r with
  | .ok s => e = .returned (.tuple #[]) ∧ Scn B b src s w'
  | .bad c ln cl => e = Gave c ln cl
theorem own_addR (B b : Nat) (src : ByteArray) (s : Sc) (k : Int) (t : ByteArray) (w : World) (h : Scn B b src s w) (ho : s.Ok src) (hBw : B ≤ w.heap.size) :
    Calls Tryz.prog 56 #[.pointer (some ⟨b, 0, none⟩), .int .i64 k, .string t] w (Came B b src w (s.addR k t)) := by
  unfold Sc.addR
  split
  · rename_i hl
    refine (own_add_full B b src s k t w h ho hl).mono ?_
    rintro e w' ⟨rfl, hb⟩
    exact ⟨hb.mono hBw, rfl⟩
  · rename_i hl
    refine (own_add B b src s k t w h ho hBw (by have := ho.len; omega)).mono ?_
    rintro e w' ⟨rfl, h1, hb⟩
    exact ⟨hb, rfl, h1⟩
theorem tcells_last {l : List Tk} {t : Tk} (j : Nat) (hj : j < 4) : (tcells (l ++ [t]))[l.length * 4 + j]? = t.cells[j]? := by
  rw [tcells_snoc, List.getElem?_append_right (by rw [tcells_len]; omega), tcells_len]
  congr 1
  omega
set_option maxHeartbeats 1000000 in
theorem own_close (B b : Nat) (src : ByteArray) (s : Sc) (w : World) (h : Scn B b src s w) (ho : s.Ok src) (hBw : B ≤ w.heap.size) :
    Calls Tryz.prog 27 #[.pointer (some ⟨b, 0, none⟩)] w (Came B b src w s.closeR) := by
  have HS : Hid (Scn B b src s w) := h
  have HO : Hid (s.Ok src) := ho
  obtain ⟨hB, v, hb, hown, hne⟩ := h
  have hlen := ho.len
  rcases List.eq_nil_or_concat s.ts with h0 | ⟨l, t, h1⟩
  · have hr : s.closeR = .ok s := by unfold Sc.closeR; rw [h0]; rfl
    rw [hr]
    obtain ⟨ao, cap, rfl⟩ : ∃ ao cap, v = .slice ao 0 cap := by
      rcases hown.2 with ⟨hv, _⟩ | ⟨g, cap, cur, hv, _⟩
      · exact ⟨none, 0, hv⟩
      · exact ⟨_, _, by rw [hv, h0]; rfl⟩
    have c4 : w.cell? ⟨b, 4, none⟩ = some (.slice ao 0 cap) := by simp [World.cell?, hb]
    clear hb hown hne ho hlen h0 hr
    go_enter Tryz.func27, Tryz.ntmps27
    go_wp2
    go_end0
    exact ⟨Below.refl _ _, rfl, HS.out⟩
  · have hn : s.ts.length = l.length + 1 := by rw [h1]; simp
    obtain ⟨g, cap, rfl⟩ : ∃ g cap, v = .slice (some ⟨g, 0, none⟩) (l.length + 1) cap := by
      rcases hown.2 with ⟨hv, h0⟩ | ⟨g, cap, cur, hv, _⟩
      · omega
      · exact ⟨_, _, by rw [hv, hn]⟩
    have c4 : w.cell? ⟨b, 4, none⟩ = some (.slice (some ⟨g, 0, none⟩) (l.length + 1) cap) := by simp [World.cell?, hb]
    have hr : s.closeR = if mayT t.kind t.text then s.addR 6 ⟨#[59]⟩ else .ok s := by unfold Sc.closeR; rw [h1]; simp
    have hown2 : w.ownsRow B 64 4 (.slice (some ⟨g, 0, none⟩) (l.length + 1) cap) (l.length + 1) (tcells (l ++ [t])) := by rw [← List.concat_eq_append, ← h1, ← hn]; rw [hn]; rw [hn] at hown; exact hown
    have q0 : w.cell? ⟨g, l.length * 4, none⟩ = some (.int .i64 t.kind) := by rw [hown2.cellAt (l.length * 4) (by omega)]; exact tcells_last 0 (by decide)
    have q1 : w.cell? ⟨g, l.length * 4 + 1, none⟩ = some (.string t.text) := by rw [hown2.cellAt (l.length * 4 + 1) (by omega)]; exact tcells_last 1 (by decide)
    have q2 : w.cell? ⟨g, l.length * 4 + 2, none⟩ = some (.int .i64 t.line) := by rw [hown2.cellAt (l.length * 4 + 2) (by omega)]; exact tcells_last 2 (by decide)
    have q3 : w.cell? ⟨g, l.length * 4 + 3, none⟩ = some (.int .i64 t.col) := by rw [hown2.cellAt (l.length * 4 + 3) (by omega)]; exact tcells_last 3 (by decide)
    have hl2 : l.length ≤ 2000 := by omega
    rw [hr]
    clear hb hown hown2 hne ho h1 hr hn
    cases hm : mayT t.kind t.text
    · have HM : Hid (mayT t.kind t.text = false) := hm
      rw [if_neg (by decide)]
      clear hm
      go_enter Tryz.func27, Tryz.ntmps27
      go_wp2_with fail
      refine (own_may _ _ _ _ _).mono ?_
      rintro e w1 ⟨rfl, hb1⟩
      rw [HM.out]
      go_wp2
      go_end0
      exact ⟨hb1.mono hBw, rfl, HS.out.below hb1⟩
    · have HM : Hid (mayT t.kind t.text = true) := hm
      rw [if_pos rfl]
      clear hm
      have HAD : Hid (∀ W, Below w.heap.size w W → Calls Tryz.prog 56 #[.pointer (some ⟨b, 0, none⟩), .int .i64 6, .string ⟨#[59]⟩] W (Came B b src W (s.addR 6 ⟨#[59]⟩))) := fun W hW => own_addR B b src s 6 ⟨#[59]⟩ W (HS.out.below hW) HO.out (Nat.le_trans hBw hW.size)
      generalize s.addR 6 ⟨#[59]⟩ = R at *
      cases R with
      | ok s' =>
        go_enter Tryz.func27, Tryz.ntmps27
        go_wp2_with fail
        refine (own_may _ _ _ _ _).mono ?_
        rintro e w1 ⟨rfl, hb1⟩
        rw [HM.out]
        go_wp2_with fail
        refine (HAD.out w1 hb1).mono ?_
        rintro e w2 ⟨hb2, rfl, hs'⟩
        have HF : Hid (Came B b src w (.ok s') (.returned (.tuple #[])) w2) := ⟨(hb1.mono hBw).trans hb2, rfl, hs'⟩
        clear hs' hb2
        go_wp2
        go_end0
        exact HF.out
      | bad c ln cl =>
        go_enter Tryz.func27, Tryz.ntmps27
        go_wp2_with fail
        refine (own_may _ _ _ _ _).mono ?_
        rintro e w1 ⟨rfl, hb1⟩
        rw [HM.out]
        go_wp2_with fail
        refine (HAD.out w1 hb1).mono ?_
        rintro e w2 ⟨hb2, rfl⟩
        exact ⟨rfl, (hb1.mono hBw).trans hb2, rfl⟩
end Go.Proofs.YtpdndpajobfhmabGreatDoor
