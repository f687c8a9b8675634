/- What scan.Tokens answers of a source that is not too long. -/
import Derived.Test.YtpdndpajobfhmabGreatDoorTok2
namespace Go.Proofs.YtpdndpajobfhmabGreatDoor
open Go.ChangeShapes Go.WideShapes Go.ChangeAt Go.RowKit
set_option maxRecDepth 100000
set_option linter.unusedSimpArgs false

/-- The next byte's place, as memory has it. -/
def posOf (b : Nat) (w : World) : Nat := match w.cell? ⟨b, 1, none⟩ with
  | some (.int _ n) => n.toNat
  | _ => 0
theorem posOf_is {B b : Nat} {src : ByteArray} {s : Sc} {w : World} (h : Scn B b src s w) : posOf b w = s.pos := by
  unfold posOf; rw [h.cells.2.1]; simp
theorem runR_step {src : ByteArray} {f : Nat} {s : Sc} (h : s.pos < src.size) (hf : src.size < f + s.pos) : ∃ g, f = g + 1 ∧ runR src f s = match s.stepR (src.extract s.pos src.size) (rest_pos h) with | .ok s' => runR src g s' | .bad c ln cl => .bad c ln cl := by
  obtain ⟨g, rfl⟩ : ∃ g, f = g + 1 := ⟨f - 1, by omega⟩
  exact ⟨g, rfl, by rw [runR, dif_pos h]; rfl⟩
theorem runR_end {src : ByteArray} {f : Nat} {s : Sc} (h : ¬ s.pos < src.size) (hp : s.pos ≤ src.size) (hf : src.size < f + s.pos) : runR src f s = s.closeR := by
  obtain ⟨g, rfl⟩ : ∃ g, f = g + 1 := ⟨f - 1, by omega⟩
  rw [runR, dif_neg h]
/-- The list of a state, as the variable is told. -/
theorem Scn.list {B b : Nat} {src : ByteArray} {s : Sc} {w : World} (h : Scn B b src s w) : ∃ ao cap, w.cell? ⟨b, 4, none⟩ = some (.slice ao s.ts.length cap) ∧ w.ownsRow B 64 4 (.slice ao s.ts.length cap) s.ts.length (tcells s.ts) := by
  obtain ⟨_, v, hb, hown, _⟩ := h
  obtain ⟨ao, cap, rfl⟩ : ∃ ao cap, v = .slice ao s.ts.length cap := by
    rcases hown.2 with ⟨hv, h0⟩ | ⟨g, cap, cur, hv, _⟩
    · exact ⟨none, 0, by rw [hv, h0]⟩
    · exact ⟨_, _, hv⟩
  exact ⟨ao, cap, by simp [World.cell?, hb], hown⟩

theorem row_on {B B' n : Nat} {v : Value} {xs : List Value} {w w' : World} (h : w.ownsRow B 64 4 v n xs) (hB : B' ≤ B) (hb : Below w.heap.size w w') : w'.ownsRow B' 64 4 v n xs := by
  refine ⟨h.1, ?_⟩
  rcases h.2 with h | ⟨g, cap, cur, e, hg, hh, r1, r2, r3, r4⟩
  · exact .inl h
  · exact .inr ⟨g, cap, cur, e, Nat.le_trans hB hg, (hb.block g (Array.getElem?_eq_some_iff.1 hh).1).trans hh, r1, r2, r3, r4⟩
theorem row_far {B b n : Nat} {v : Value} {xs : List Value} {w : World} (h : w.ownsRow B 64 4 v n xs) (hb : b < B) : v.ownBlock ≠ some b := fun e => by
  have := (h.lt b e).1
  omega
/-- The two variables of the answer, and what lay there before. -/
def Vars (L : Nat) (w w' : World) : Prop := w'.heap[L]? = some (.cells #[.slice none 0 0] 42 (0, 0)) ∧ w'.heap[L + 1]? = some (.cells #[.int .i64 0, .int .i64 0, .int .i64 0] 25 (0, 0)) ∧ Below L w w'
theorem Vars.on {L : Nat} {w w1 w2 : World} (h : Vars L w w1) (hb : Below (L + 1 + 1) w1 w2) (_ : L + 1 + 1 ≤ w1.heap.size) : Vars L w w2 :=
  ⟨(hb.block L (by omega)).trans h.1, (hb.block (L + 1) (by omega)).trans h.2.1, h.2.2.trans (hb.mono (by omega))⟩

set_option maxHeartbeats 8000000 in
theorem tokens_main (src : ByteArray) (w : World) (h : src.size ≤ 8000) (hlib : Lib3 w) :
    Calls Tryz.prog 15 #[.string src] w (Told w (tokR src)) := by
  have hR : tokR src = runR src (src.size + 1) sc0 := by unfold tokR; rw [if_neg (by omega)]
  rw [hR]
  have hmf : ∀ (fn : Fn) (first cap : Array Value) (w : World), (Instr.makeFunc fn first cap).run Tryz.prog w = .ok (.func fn first cap) w := fun _ _ _ _ => rfl
  have HLB : Hid (∀ W, Below w.heap.size w W → Lib3 W) := fun W hW => hlib.below hW
  have HV0 : Hid (Vars w.heap.size w ((w.alloc (.cells #[.slice none 0 0] 42)).alloc (.cells #[.int .i64 0, .int .i64 0, .int .i64 0] 25))) := two_vars w
  have HR0 : Hid (∃ f, src.size < f + sc0.pos ∧ runR src f sc0 = runR src (src.size + 1) sc0) := ⟨src.size + 1, by simp [sc0], rfl⟩
  clear hR hlib
  generalize runR src (src.size + 1) sc0 = R at *
  go_enter_defers Tryz.func15, Tryz.ntmps15
  go_wp2
  go_loopw [14] (fun _ wr => ∃ (s : Sc) (f : Nat), src.size < f + s.pos ∧ Hid (Scn (w.heap.size + 1 + 1) (w.heap.size + 1 + 1) src s wr ∧ s.Ok src ∧ runR src f s = R ∧ Vars w.heap.size w wr ∧ w.heap.size + 1 + 1 < wr.heap.size)) (fun _ wr => src.size - posOf (w.heap.size + 1 + 1) wr)
  case atStart =>
    obtain ⟨f, hf1, hf2⟩ := HR0.out
    have hsz : ((w.alloc (.cells #[.slice none 0 0] 42)).alloc (.cells #[.int .i64 0, .int .i64 0, .int .i64 0] 25)).heap.size = w.heap.size + 1 + 1 := by simp
    have hs := scn_new ((w.alloc (.cells #[.slice none 0 0] 42)).alloc (.cells #[.int .i64 0, .int .i64 0, .int .i64 0] 25)) src
    rw [hsz] at hs
    refine ⟨sc0, f, hf1, hs, sc0_ok h, hf2, ?_, by simp⟩
    refine HV0.out.on ((Below.refl _ _).alloc (by rw [hsz]; exact Nat.le_refl _) _) (by rw [hsz]; exact Nat.le_refl _)
  case round =>
    obtain ⟨s, f, hf, HS⟩ := hrel
    obtain ⟨d0, d1, d2, d3, df⟩ := HS.out.1.cells
    have op := HS.out.2.1.pos
    by_cases hp : s.pos < src.size
    · obtain ⟨g, rfl, hrun⟩ := runR_step hp hf
      have hli : decide ((s.pos : Int) < (src.size : Int)) = true := by simp; omega
      have HST : Hid (Calls Tryz.prog 26 #[.pointer (some ⟨w.heap.size + 1 + 1, 0, none⟩)] wr (Came (w.heap.size + 1 + 1) (w.heap.size + 1 + 1) src wr (s.stepR (src.extract s.pos src.size) (rest_pos hp)))) := own_step _ _ src s wr HS.out.1 HS.out.2.1 (by have := HS.out.2.2.2.2; omega) (HLB.out wr HS.out.2.2.2.1.2.2) _ rfl (rest_pos hp)
      have HOK : Hid (∀ s', s.stepR (src.extract s.pos src.size) (rest_pos hp) = .ok s' → s'.Ok src ∧ s.pos < s'.pos) := fun s' e => step_ok HS.out.2.1 hp e
      have HRUN : Hid (runR src (g + 1) s = R) := HS.out.2.2.1
      rw [hrun] at HRUN
      clear hrun
      generalize s.stepR (src.extract s.pos src.size) (rest_pos hp) = r at *
      cases r with
      | ok s' =>
        obtain ⟨ok', lt'⟩ := HOK.out s' rfl
        go_wp2_with fail
        refine HST.out.mono ?_
        rintro e w1 ⟨hb1, rfl, hs1⟩
        have HE : Hid (Scn (w.heap.size + 1 + 1) (w.heap.size + 1 + 1) src s' w1 ∧ s'.Ok src ∧ runR src g s' = R ∧ Vars w.heap.size w w1 ∧ w.heap.size + 1 + 1 < w1.heap.size) := ⟨hs1, ok', HRUN.out, HS.out.2.2.2.1.on hb1 (by have := HS.out.2.2.2.2; omega), Nat.lt_of_lt_of_le HS.out.2.2.2.2 hb1.size⟩
        have q1 : posOf (w.heap.size + 1 + 1) w1 = s'.pos := posOf_is hs1
        have q2 : posOf (w.heap.size + 1 + 1) wr = s.pos := posOf_is HS.out.1
        have HQ : Hid (src.size - posOf (w.heap.size + 1 + 1) w1 < src.size - posOf (w.heap.size + 1 + 1) wr) := by show _ < _; rw [q1, q2]; omega
        clear hs1 hb1 q1 q2 ok'
        go_wp2
        exact ⟨⟨s', g, by omega, HE.out⟩, HQ.out⟩
      | bad c ln cl =>
        obtain rfl : R = .bad c ln cl := HRUN.out.symm
        go_wp2_with fail
        refine HST.out.mono ?_
        rintro e w1 ⟨hb1, rfl⟩
        have HV1 : Hid (Vars w.heap.size w w1) := HS.out.2.2.2.1.on hb1 (by have := HS.out.2.2.2.2; omega)
        have hz1 : w.heap.size ≤ w1.heap.size := HV1.out.2.2.size
        clear hb1
        refine leaves_cons (f := 25) (args := #[.pointer (some ⟨w.heap.size, 0, none⟩), .pointer (some ⟨w.heap.size + 1, 0, none⟩)]) (by simp) (by simp [go_sem]) ?_
        refine (catch_panic w.heap.size w.heap.size (w.heap.size + 1) c ln cl (.slice none 0 0) _ (Nat.le_refl _) (by omega) hz1 HV1.out.1 HV1.out.2.1).mono ?_
        rintro e u' w'' ⟨rfl, rfl, h1, h2, h3⟩
        have c0 : w''.cell? ⟨w.heap.size, 0, none⟩ = some (.slice none 0 0) := by simp [World.cell?, h1]
        have s0 : w''.cell? ⟨w.heap.size + 1, 0, none⟩ = some (.int .i64 c) := by simp [World.cell?, h2]
        have s1 : w''.cell? ⟨w.heap.size + 1, 1, none⟩ = some (.int .i64 ln) := by simp [World.cell?, h2]
        have s2 : w''.cell? ⟨w.heap.size + 1, 2, none⟩ = some (.int .i64 cl) := by simp [World.cell?, h2]
        have HB : Hid (Below w.heap.size w w'') := HV1.out.2.2.trans h3
        clear h1 h2 h3
        simp [Leaves, settle, results, Tryz.results15, go_sem, c0, s0, s1, s2]
        exact ⟨HB.out, rfl⟩
    · have hli : decide ((s.pos : Int) < (src.size : Int)) = false := by simp; omega
      have HCL : Hid (Calls Tryz.prog 27 #[.pointer (some ⟨w.heap.size + 1 + 1, 0, none⟩)] wr (Came (w.heap.size + 1 + 1) (w.heap.size + 1 + 1) src wr s.closeR)) := own_close _ _ src s wr HS.out.1 HS.out.2.1 (by have := HS.out.2.2.2.2; omega)
      have HRUN : Hid (runR src f s = R) := HS.out.2.2.1
      rw [runR_end hp op hf] at HRUN
      generalize s.closeR = r at *
      obtain rfl : r = R := HRUN.out
      cases r with
      | bad c ln cl =>
        go_wp2_with fail
        refine HCL.out.mono ?_
        rintro e w1 ⟨hb1, rfl⟩
        have HV1 : Hid (Vars w.heap.size w w1) := HS.out.2.2.2.1.on hb1 (by have := HS.out.2.2.2.2; omega)
        have hz1 : w.heap.size ≤ w1.heap.size := HV1.out.2.2.size
        clear hb1
        refine leaves_cons (f := 25) (args := #[.pointer (some ⟨w.heap.size, 0, none⟩), .pointer (some ⟨w.heap.size + 1, 0, none⟩)]) (by simp) (by simp [go_sem]) ?_
        refine (catch_panic w.heap.size w.heap.size (w.heap.size + 1) c ln cl (.slice none 0 0) _ (Nat.le_refl _) (by omega) hz1 HV1.out.1 HV1.out.2.1).mono ?_
        rintro e u' w'' ⟨rfl, rfl, h1, h2, h3⟩
        have c0 : w''.cell? ⟨w.heap.size, 0, none⟩ = some (.slice none 0 0) := by simp [World.cell?, h1]
        have s0 : w''.cell? ⟨w.heap.size + 1, 0, none⟩ = some (.int .i64 c) := by simp [World.cell?, h2]
        have s1 : w''.cell? ⟨w.heap.size + 1, 1, none⟩ = some (.int .i64 ln) := by simp [World.cell?, h2]
        have s2 : w''.cell? ⟨w.heap.size + 1, 2, none⟩ = some (.int .i64 cl) := by simp [World.cell?, h2]
        have HB : Hid (Below w.heap.size w w'') := HV1.out.2.2.trans h3
        clear h1 h2 h3
        simp [Leaves, settle, results, Tryz.results15, go_sem, c0, s0, s1, s2]
        exact ⟨HB.out, rfl⟩
      | ok s' =>
        go_wp2_with fail
        refine HCL.out.mono ?_
        rintro e w1 ⟨hb1, rfl, hs1⟩
        have HV1 : Hid (Vars w.heap.size w w1) := HS.out.2.2.2.1.on hb1 (by have := HS.out.2.2.2.2; omega)
        obtain ⟨ao, cap, e4, hown⟩ := hs1.list
        obtain ⟨v1, v2, v3⟩ := HV1.out
        have g0 : w1.cell? ⟨w.heap.size, 0, none⟩ = some (.slice none 0 0) := by simp [World.cell?, v1]
        have g1 : w1.cell? ⟨w.heap.size + 1, 0, none⟩ = some (.int .i64 0) := by simp [World.cell?, v2]
        have g2 : w1.cell? ⟨w.heap.size + 1, 1, none⟩ = some (.int .i64 0) := by simp [World.cell?, v2]
        have g3 : w1.cell? ⟨w.heap.size + 1, 2, none⟩ = some (.int .i64 0) := by simp [World.cell?, v2]
        have z0 : ∀ j, w1.frozen? ⟨w.heap.size, j, none⟩ = false := by intro j; simp [World.frozen?, v1]
        have z1 : ∀ j, w1.frozen? ⟨w.heap.size + 1, j, none⟩ = false := by intro j; simp [World.frozen?, v2]
        have HO : Hid (w1.ownsRow (w.heap.size + 1 + 1) 64 4 (.slice ao s'.ts.length cap) s'.ts.length (tcells s'.ts)) := hown
        clear hs1 hb1 v1 v2 v3 hown d0 d1 d2 d3 df
        have hL : w.heap.size < w.heap.size + 1 + 1 := by omega
        have hL1 : w.heap.size + 1 < w.heap.size + 1 + 1 := by omega
        have HW4 : Hid (((((w1.setCell ⟨w.heap.size, 0, none⟩ (.slice ao s'.ts.length cap)).setCell ⟨w.heap.size + 1, 0, none⟩ (.int .i64 0)).setCell ⟨w.heap.size + 1, 1, none⟩ (.int .i64 0)).setCell ⟨w.heap.size + 1, 2, none⟩ (.int .i64 0)).heap[w.heap.size]? = some (.cells #[.slice ao s'.ts.length cap] 42 (0, 0)) ∧
            ((((w1.setCell ⟨w.heap.size, 0, none⟩ (.slice ao s'.ts.length cap)).setCell ⟨w.heap.size + 1, 0, none⟩ (.int .i64 0)).setCell ⟨w.heap.size + 1, 1, none⟩ (.int .i64 0)).setCell ⟨w.heap.size + 1, 2, none⟩ (.int .i64 0)).heap[w.heap.size + 1]? = some (.cells #[.int .i64 0, .int .i64 0, .int .i64 0] 25 (0, 0)) ∧
            ((((w1.setCell ⟨w.heap.size, 0, none⟩ (.slice ao s'.ts.length cap)).setCell ⟨w.heap.size + 1, 0, none⟩ (.int .i64 0)).setCell ⟨w.heap.size + 1, 1, none⟩ (.int .i64 0)).setCell ⟨w.heap.size + 1, 2, none⟩ (.int .i64 0)).ownsRow (w.heap.size + 1 + 1) 64 4 (.slice ao s'.ts.length cap) s'.ts.length (tcells s'.ts) ∧
            Below w.heap.size w ((((w1.setCell ⟨w.heap.size, 0, none⟩ (.slice ao s'.ts.length cap)).setCell ⟨w.heap.size + 1, 0, none⟩ (.int .i64 0)).setCell ⟨w.heap.size + 1, 1, none⟩ (.int .i64 0)).setCell ⟨w.heap.size + 1, 2, none⟩ (.int .i64 0))) := by
          have x1 := HV1.out.1
          have x2 := HV1.out.2.1
          refine ⟨?_, ?_, own_kept (own_kept (own_kept (own_kept HO.out (row_far HO.out hL)) (row_far HO.out hL1)) (row_far HO.out hL1)) (row_far HO.out hL1), ?_⟩
          · simp [World.setCell, Array.getElem?_modify, x1]
          · simp [World.setCell, Array.getElem?_modify, x2]
          · exact (((HV1.out.2.2.setCell (p := ⟨w.heap.size, 0, none⟩) (Nat.le_refl _) _).setCell (p := ⟨w.heap.size + 1, 0, none⟩) (Nat.le_succ _) _).setCell (p := ⟨w.heap.size + 1, 1, none⟩) (Nat.le_succ _) _).setCell (p := ⟨w.heap.size + 1, 2, none⟩) (Nat.le_succ _) _
        go_wp2
        generalize ((((w1.setCell ⟨w.heap.size, 0, none⟩ (.slice ao s'.ts.length cap)).setCell ⟨w.heap.size + 1, 0, none⟩ (.int .i64 0)).setCell ⟨w.heap.size + 1, 1, none⟩ (.int .i64 0)).setCell ⟨w.heap.size + 1, 2, none⟩ (.int .i64 0)) = W4 at *
        refine leaves_cons (f := 25) (args := #[.pointer (some ⟨w.heap.size, 0, none⟩), .pointer (some ⟨w.heap.size + 1, 0, none⟩)]) (by simp) (by simp [go_sem]) ?_
        refine (catch_idle w.heap.size (w.heap.size + 1) W4).mono ?_
        rintro e u' w'' ⟨rfl, rfl, hb⟩
        obtain ⟨y1, y2, y3, y4⟩ := HW4.out
        have u1 := (hb.block w.heap.size (Array.getElem?_eq_some_iff.1 y1).1).trans y1
        have u2 := (hb.block (w.heap.size + 1) (Array.getElem?_eq_some_iff.1 y2).1).trans y2
        have c0 : w''.cell? ⟨w.heap.size, 0, none⟩ = some (.slice ao s'.ts.length cap) := by simp [World.cell?, u1]
        have s0 : w''.cell? ⟨w.heap.size + 1, 0, none⟩ = some (.int .i64 0) := by simp [World.cell?, u2]
        have s1 : w''.cell? ⟨w.heap.size + 1, 1, none⟩ = some (.int .i64 0) := by simp [World.cell?, u2]
        have s2 : w''.cell? ⟨w.heap.size + 1, 2, none⟩ = some (.int .i64 0) := by simp [World.cell?, u2]
        have HB : Hid (Below w.heap.size w w'' ∧ w''.ownsRow w.heap.size 64 4 (.slice ao s'.ts.length cap) s'.ts.length (tcells s'.ts)) := ⟨y4.trans (hb.mono y4.size), row_on y3 (by omega) hb⟩
        clear u1 u2 y1 y2 y3 y4 hb
        simp [Leaves, settle, results, Tryz.results15, go_sem, c0, s0, s1, s2]
        exact ⟨HB.out.1, _, rfl, HB.out.2⟩
/-- What Tokens answers of every source. -/
theorem own_tokens (src : ByteArray) (w : World) (hs : src.size ≤ maxLen) (hlib : Lib3 w) : Calls Tryz.prog 15 #[.string src] w (Told w (tokR src)) := by
  by_cases h : 8000 < src.size
  · exact tokens_long src w h hs
  · exact tokens_main src w (by omega) hlib
end Go.Proofs.YtpdndpajobfhmabGreatDoor
