/- Values in a row, and the line that is written of them. -/
import Derived.Test.YtjfmhppgjhgdaabDoorVshow
namespace Go.Proofs.YtjfmhppgjhgdaabDoor
open Go.ChangeShapes Go.WideShapes Go.ChangeAt Go.RowKit
set_option maxRecDepth 100000
set_option linter.unusedSimpArgs false
set_option linter.unusedVariables false

/-- A value and where its list lies. -/
structure Ve where
  x : Vv
  L : Value
def Ve.cells (e : Ve) : List Value := [.int .i64 e.x.kind, .int .i64 e.x.n, .string e.x.s, e.L]
/-- What is known of values in a row. -/
structure EsIn (w : World) (es : List Ve) : Prop where
  each : ∀ e ∈ es, VIn e.x ∧ ILies w e.L e.x.l ∧ e.x.s.size ≤ 1048576 ∧ e.x.l.length ≤ 1048576
  size : es.length ≤ 1048576
/-- Values that lie in a row. -/
def VsLies (w : World) (v : Value) (es : List Ve) : Prop :=
  (v = .slice none 0 0 ∧ es = []) ∨ ∃ (a : Addr) (cap : Nat), v = .slice (some a) es.length cap ∧ es.length ≤ cap ∧ (es ≠ [] → a.spot = none) ∧ ∀ (k : Nat) e, es[k]? = some e → ∀ (j : Nat) u, e.cells[j]? = some u → w.cell? (a.add (k * 4 + j)) = some u
theorem VsLies.shape {w : World} {v : Value} {es : List Ve} (h : VsLies w v es) : ∃ ao cap, v = .slice ao es.length cap := by
  rcases h with ⟨h, rfl⟩ | ⟨a, cap, h, _⟩
  · exact ⟨none, 0, h⟩
  · exact ⟨_, _, h⟩
theorem VsLies.below {w w' : World} {v : Value} {es : List Ve} {B : Nat} (h : VsLies w v es) (hb : Below B w w') (hB : w.heap.size ≤ B) : VsLies w' v es := by
  rcases h with h | ⟨a, cap, h1, h2, h3, h4⟩
  · exact .inl h
  · refine .inr ⟨a, cap, h1, h2, h3, fun k e hk j u hu => ?_⟩
    have h0 := h4 k e hk j u hu
    rw [hb.cell (Nat.lt_of_lt_of_le (World.block_lt_of_cell? _ _ h0) hB)]
    exact h0
theorem EsIn.below {w w' : World} {es : List Ve} {B : Nat} (h : EsIn w es) (hb : Below B w w') (hB : w.heap.size ≤ B) : EsIn w' es :=
  ⟨fun e he => let ⟨h1, h2, h3⟩ := h.each e he; ⟨h1, h2.below hb hB, h3⟩, h.size⟩
theorem VsLies.at {w : World} {v : Value} {es : List Ve} (h : VsLies w v es) {k : Nat} (hk : k < es.length) : ∃ b off cap, v = .slice (some ⟨b, off, none⟩) es.length cap ∧
    w.cell? ⟨b, off + k * 4, none⟩ = some (.int .i64 es[k].x.kind) ∧ w.cell? ⟨b, off + k * 4 + 1, none⟩ = some (.int .i64 es[k].x.n) ∧ w.cell? ⟨b, off + k * 4 + 2, none⟩ = some (.string es[k].x.s) ∧ w.cell? ⟨b, off + k * 4 + 3, none⟩ = some es[k].L := by
  rcases h with ⟨_, h⟩ | ⟨⟨b, off, spot⟩, cap, h1, h2, h3, h4⟩
  · subst h; simp at hk
  · have := h3 (by rintro rfl; simp at hk)
    simp only at this
    subst this
    have h5 := h4 k es[k] (List.getElem?_eq_getElem hk)
    refine ⟨b, off, cap, h1, ?_, ?_, ?_, ?_⟩
    · have := h5 0 _ rfl; simpa [add_plain, Nat.add_assoc] using this
    · have := h5 1 _ rfl; simpa [add_plain, Nat.add_assoc] using this
    · have := h5 2 _ rfl; simpa [add_plain, Nat.add_assoc] using this
    · have := h5 3 _ rfl; simpa [add_plain, Nat.add_assoc] using this
def shown (es : List Ve) : List ByteArray := es.map fun e => showV e.x
def joinedV (es : List Ve) : ByteArray := ⟨(Lib.join ((shown es).map (·.data.toList)) [32]).toArray⟩
def lineB (es : List Ve) : ByteArray := joinedV es ++ ⟨#[10]⟩
theorem show_size (x : Vv) (h : VIn x) (hs : x.s.size ≤ 1048576) (hl : x.l.length ≤ 1048576) : (showV x).size ≤ 24117280 := by
  have e1 : ∀ n : Int, (Lit.int .i64 n).wf = true → (txt n).size ≤ 21 := fun n hn => by
    have hb := i64_bounds hn
    have := Lib.itoa_length_le n hb.1 hb.2
    show (Lib.itoa n).toArray.size ≤ 21
    rw [List.size_toArray]; exact this
  unfold showV
  split
  · have := e1 _ h.wn; omega
  · split
    · unfold showB; split <;> decide
    · split
      · omega
      · split
        · decide
        · split
          · unfold showL joined
            rw [ByteArray.size_append, ByteArray.size_append]
            have h1 := joined_len x.l h.wl
            have e2 : (⟨#[91]⟩ : ByteArray).size = 1 := rfl
            have e3 : (⟨#[93]⟩ : ByteArray).size = 1 := rfl
            have e4 : (⟨(Lib.join (x.l.map Lib.itoa) [32]).toArray⟩ : ByteArray).size = (Lib.join (x.l.map Lib.itoa) [32]).length := List.size_toArray ..
            rw [e2, e3, e4]
            omega
          · split
            · decide
            · split <;> decide
theorem joinedV_len {w : World} {es : List Ve} (h : EsIn w es) : (Lib.join ((shown es).map (·.data.toList)) [32]).length ≤ 24117281 * es.length := by
  have := join_len_le [32] 24117280 ((shown es).map (·.data.toList)) (fun x hx => by
    obtain ⟨y, hy, rfl⟩ := List.mem_map.1 hx
    obtain ⟨e, he, rfl⟩ := List.mem_map.1 hy
    obtain ⟨h1, h2, h3, h4⟩ := h.each e he
    have := show_size e.x h1 h3 h4
    have e5 : (showV e.x).data.toList.length = (showV e.x).size := Array.length_toList
    omega)
  simpa [shown] using this
theorem joinedV_size {w : World} {es : List Ve} (h : EsIn w es) : (joinedV es).size ≤ 24117281 * es.length := by
  have h1 := joinedV_len h
  have e4 : (joinedV es).size = (Lib.join ((shown es).map (·.data.toList)) [32]).length := List.size_toArray ..
  omega
set_option maxHeartbeats 4000000 in
theorem own_line (v : Value) (es : List Ve) (w : World) (hv : VsLies w v es) (he : EsIn w es) (hp : Pow w) :
    Calls Tryd.prog 10 #[v] w fun e w' => e = .returned (.string (lineB es)) ∧ Below w.heap.size w w' := by
  obtain ⟨lo, lc, rfl⟩ := hv.shape
  obtain ⟨i0, hi, hz0, hz1, hz2⟩ := info_parts Tryd.infoStrV
  have hsz := he.size
  have HP : Hid (∀ u, Below w.heap.size w u → Pow u) := fun u hb => hp.below hb
  have HX : Hid (∀ k (h1 : k < es.length), ∃ b1 o1, lo = some ⟨b1, o1, none⟩ ∧ ∀ u, Below w.heap.size w u → u.cell? ⟨b1, o1 + k * 4, none⟩ = some (.int .i64 es[k].x.kind) ∧ u.cell? ⟨b1, o1 + k * 4 + 1, none⟩ = some (.int .i64 es[k].x.n) ∧ u.cell? ⟨b1, o1 + k * 4 + 2, none⟩ = some (.string es[k].x.s) ∧ u.cell? ⟨b1, o1 + k * 4 + 3, none⟩ = some es[k].L) := fun k h1 => by
    obtain ⟨b1, o1, c1, e1, x0, x1, x2, x3⟩ := hv.at h1
    cases e1
    exact ⟨b1, o1, rfl, fun u hb => ⟨by rw [hb.cell (World.block_lt_of_cell? _ _ x0)]; exact x0, by rw [hb.cell (World.block_lt_of_cell? _ _ x1)]; exact x1, by rw [hb.cell (World.block_lt_of_cell? _ _ x2)]; exact x2, by rw [hb.cell (World.block_lt_of_cell? _ _ x3)]; exact x3⟩⟩
  have HT : Hid (∀ k (h1 : k < es.length) u, Below w.heap.size w u → Calls Tryd.prog 9 #[.agg #[.int .i64 es[k].x.kind, .int .i64 es[k].x.n, .string es[k].x.s, es[k].L]] u fun e w' => e = .returned (.string (showV es[k].x)) ∧ Below u.heap.size u w') := fun k h1 u hb => by
    obtain ⟨a1, a2, a3, a4⟩ := he.each es[k] (List.getElem_mem h1)
    exact own_show es[k].x es[k].L u a1 (a2.below hb (Nat.le_refl _)) (fun _ => by omega) (HP.out u hb)
  have HSL : Hid (∀ k (h1 : k < es.length), ∃ ao cap, es[k].L = .slice ao es[k].x.l.length cap) := fun k h1 => (he.each es[k] (List.getElem_mem h1)).2.1.shape
  have HJ : Hid (∀ g u, Fill g es.length es.length (shown es) u → Calls Tryd.prog 21 #[.slice (some ⟨g, 0, none⟩) es.length es.length, .string ⟨#[32]⟩] u fun e w' => e = .returned (.string (joinedV es)) ∧ Below u.heap.size u w') := fun g u h => by
    have hjl := joinedV_len he
    exact join_any g es.length (shown es) u (by simp [shown]) h (by omega) (by omega)
  have hjs : (joinedV es).size ≤ 140737488355327 := by
    have hjl := joinedV_size he
    omega
  have HS : Hid _ := hjs
  clear hjs
  have hmk : ∀ u : World, (Instr.makeSlice 39 (.int .i64 (es.length : Int)) (.int .i64 (es.length : Int))).run Tryd.prog u =
      .ok (.slice (some ⟨u.heap.size, 0, none⟩) es.length es.length) (u.alloc (.cells (madeCells #[.string ⟨#[]⟩] es.length) 9)) := fun u => by
    have h := run_make (P := Tryd.prog) u 39 9 i0 (.string ⟨#[]⟩) Tryd.underlying39 hi hz0 .i64 .i64 (es.length : Int) (es.length : Int) (by omega) (Int.le_refl _) (by rw [hz2]; omega) (by omega)
    simpa [hz1, Value.cells] using h
  unfold lineB
  clear hv hp he
  go_enter Tryd.func10, Tryd.ntmps10
  go_wp2_with fail
  go_loopw [11] (fun i wr => ∃ k : Nat, k ≤ es.length ∧ i = .int .i64 k ∧ Hid (Fill w.heap.size es.length k (shown es) wr) ∧ Hid (Below w.heap.size w wr)) (fun i _ => es.length - (intOf i).toNat)
  case atStart => exact ⟨0, Nat.zero_le _, rfl, Fill.new w _ _, (Below.refl _ _).alloc (Nat.le_refl _) _⟩
  case round =>
    obtain ⟨k, hk, rfl, HF, HB⟩ := hrel
    by_cases hlt : k < es.length
    · obtain ⟨b1, o1, rfl, hx⟩ := HX.out k hlt
      obtain ⟨x0, x1, x2, x3⟩ := hx wr HB.out
      have HTK : Hid _ := HT.out k hlt
      have hlk : (shown es)[k]? = some (showV es[k].x) := by simp [shown, hlt]
      have HLK : Hid _ := hlk
      have hlt2 : (k : Int) < (es.length : Int) := by omega
      obtain ⟨eo, ec, hes⟩ := HSL.out k hlt
      rw [hes] at x3 HTK
      clear hx hlk hes
      generalize es[k].x = p at *
      go_wp2_with fail
      refine Calls.mono (HTK.out _ (HB.out.alloc HB.out.size _)) ?_
      rintro e w1 ⟨rfl, hb1⟩
      have HF1 : Hid _ := (HF.out.below show_below).below hb1
      have HB1 : Hid (Below w.heap.size w w1) := (HB.out.alloc HB.out.size _).trans (hb1.mono (HB.out.alloc HB.out.size _).size)
      obtain ⟨s0, c0, f0⟩ := HF1.out.cell k hlt
      clear hb1
      go_wp2_with fail
      go_roundw
      case rel => exact ⟨k + 1, by omega, by go_num, HF1.out.put HLK.out hlt, HB1.out.setCell (Nat.le_refl _) _⟩
      case measure => simp [intOf]; omega
    · have hkn : k = es.length := by omega
      subst hkn
      have hlt2 : ¬ (es.length : Int) < (es.length : Int) := by omega
      go_wp2_with fail
      refine (HJ.out _ _ HF.out).mono ?_
      rintro e w1 ⟨rfl, hb1⟩
      have HB1 : Hid (Below w.heap.size w w1) := HB.out.trans (hb1.mono HB.out.size)
      clear hb1
      have hs1 : ¬ 9223372036854775807 < (joinedV es).size + 1 := by have := HS.out; omega
      go_wp2_with fail
      go_ret
      exact ⟨rfl, HB1.out⟩
end Go.Proofs.YtjfmhppgjhgdaabDoor
