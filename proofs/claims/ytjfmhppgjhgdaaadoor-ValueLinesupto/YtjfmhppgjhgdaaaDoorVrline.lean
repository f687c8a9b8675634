/- The line that the reference writes of values. -/
import Derived.Test.YtjfmhppgjhgdaaaDoorVrshow
import Derived.Test.YtjfmhppgjhgdaaaDoorVacc
import Derived.Test.YtjfmhppgjhgdaaaDoorBig6
namespace Go.Proofs.YtjfmhppgjhgdaaaDoor
open Go.ChangeShapes Go.WideShapes Go.ChangeAt Go.RowKit
set_option maxRecDepth 100000
set_option linter.unusedSimpArgs false
set_option linter.unusedVariables false

theorem Tryd.infoByteV : (Tryd.prog.info? 5).map (fun i => (i.zero, i.size, i.bytes)) = some (some (.int .u8 0), 1, 1) := by kernel_rfl
/-- A row of bytes of the call's own. -/
def BRow (w : World) (B : Nat) (v : Value) (l : List UInt8) : Prop := w.ownsRow B 5 1 v l.length (Lib.byteCells l)
theorem brow_shape {w : World} {B : Nat} {v : Value} {l : List UInt8} (h : BRow w B v l) : ∃ ao cap, v = .slice ao l.length cap := by
  rcases h.2 with ⟨hv, h0⟩ | ⟨g, cap, cur, hv, _⟩
  · exact ⟨none, 0, by rw [hv, h0]⟩
  · exact ⟨_, _, hv⟩
theorem byt_nat (c : UInt8) : byt (c.toNat : Int) = c := by
  unfold byt
  simp
theorem brow_str {w : World} {B n cap : Nat} {ao : Option Addr} {l : List UInt8} (hn : n = l.length) (h : BRow w B (.slice ao n cap) l) :
    (convert 36 9 (.slice ao n cap)).run Tryd.prog w = .ok (.string ⟨l.toArray⟩) w := by
  subst hn
  rcases h.2 with ⟨hv, h0⟩ | ⟨g, cap', cur, hv, _⟩
  · simp only [Value.slice.injEq] at hv
    obtain ⟨rfl, -, rfl⟩ := hv
    have : l = [] := List.eq_nil_of_length_eq_zero h0
    subst this
    rw [run_convert_bytes_string w 36 9 5 _ _ _ Tryd.underlying36 Tryd.underlying5 Tryd.underlying9]
    rfl
  · simp only [Value.slice.injEq] at hv
    obtain ⟨rfl, -, rfl⟩ := hv
    have h2 : w.ownsRow B 5 1 (.slice (some ⟨g, 0, none⟩) l.length cap) l.length ((l.map fun c => (c.toNat : Int)).map (Value.int .u8)) := by
      rw [List.map_map]; exact h
    rw [run_str (by simp) h2, List.map_map]
    have : l.map (byt ∘ fun c => (c.toNat : Int)) = l := by
      conv => rhs; rw [← List.map_id l]
      exact List.map_congr_left fun c _ => byt_nat c
    rw [this]
theorem bcells_snoc (l : List UInt8) (x : UInt8) : Lib.byteCells l ++ [.int .u8 (x.toNat : Int)] = Lib.byteCells (l ++ [x]) := by simp [Lib.byteCells]
theorem bcells_str (l : List UInt8) (s : ByteArray) : Lib.byteCells l ++ Lib.strCells s = Lib.byteCells (l ++ s.data.toList) := by simp [Lib.byteCells, Lib.strCells]
theorem rows_below {w w' : World} {B : Nat} {v : Value} {l : List UInt8} (h : BRow w B v l) (hb : Below w.heap.size w w') : BRow w' B v l := by
  refine ⟨h.1, ?_⟩
  rcases h.2 with h0 | ⟨g, cap, cur, h1, h2, h3, h4⟩
  · exact .inl h0
  · exact .inr ⟨g, cap, cur, h1, h2, by rw [hb.block g (Array.getElem?_eq_some_iff.1 h3).1]; exact h3, h4⟩
def accL (es : List Ve) (k : Nat) : List UInt8 := Lib.join ((shown (es.take k)).map (·.data.toList)) [32]
theorem accL_zero (es : List Ve) : accL es 0 = [] := by simp [accL, shown, Lib.join]
theorem accL_first (es : List Ve) (h : 0 < es.length) : accL es 1 = accL es 0 ++ (showV es[0].x).data.toList := by
  rw [accL_zero]
  unfold accL shown
  have e : es.take 1 = [es[0]] := by
    cases es with
    | nil => simp at h
    | cons a r => rfl
  rw [e]
  simp [Lib.join]
theorem accL_step (es : List Ve) (k : Nat) (h : k < es.length) (h0 : 0 < k) : accL es (k + 1) = accL es k ++ [32] ++ (showV es[k].x).data.toList := by
  unfold accL shown
  have e : es.take (k + 1) = es.take k ++ [es[k]] := List.take_succ_eq_append_getElem h
  have hne : ¬ ((es.take k).map fun e => showV e.x).map (·.data.toList) = [] := by
    intro hx
    have h1 := congrArg List.length hx
    rw [List.length_map, List.length_map, List.length_take, List.length_nil] at h1
    omega
  rw [e, List.map_append, List.map_append, List.map_singleton, List.map_singleton, join_end, if_neg hne]
theorem accL_all (es : List Ve) : (⟨(accL es es.length ++ [10]).toArray⟩ : ByteArray) = lineB es := by
  unfold accL lineB joinedV
  rw [List.take_length, ba_two]
theorem accL_len {w : World} {es : List Ve} (h : EsIn w es) (k : Nat) : (accL es k).length ≤ 24117281 * es.length := by
  have h2 : EsIn w (es.take k) := ⟨fun e he => h.each e (List.mem_of_mem_take he), by have := h.size; simp; omega⟩
  have h1 := joinedV_len h2
  have h3 : (es.take k).length ≤ es.length := by simp; omega
  unfold accL
  omega
set_option maxHeartbeats 4000000 in
theorem ref_line (v : Value) (es : List Ve) (w : World) (hv : VsLies w v es) (he : EsIn w es) :
    Calls Tryd.prog 9 #[v] w fun e w' => e = .returned (.string (lineB es)) ∧ Below w.heap.size w w' := by
  obtain ⟨lo, lc, rfl⟩ := hv.shape
  obtain ⟨i0, hi, hz0, hz1, hz2⟩ := info_parts Tryd.infoByteV
  have hsz := he.size
  have HX : Hid (∀ k (h1 : k < es.length), ∃ b1 o1, lo = some ⟨b1, o1, none⟩ ∧ ∀ u, Below w.heap.size w u → u.cell? ⟨b1, o1 + k * 4, none⟩ = some (.int .i64 es[k].x.kind) ∧ u.cell? ⟨b1, o1 + k * 4 + 1, none⟩ = some (.int .i64 es[k].x.n) ∧ u.cell? ⟨b1, o1 + k * 4 + 2, none⟩ = some (.string es[k].x.s) ∧ u.cell? ⟨b1, o1 + k * 4 + 3, none⟩ = some es[k].L) := fun k h1 => by
    obtain ⟨b1, o1, c1, e1, x0, x1, x2, x3⟩ := hv.at h1
    cases e1
    exact ⟨b1, o1, rfl, fun u hb => ⟨by rw [hb.cell (World.block_lt_of_cell? _ _ x0)]; exact x0, by rw [hb.cell (World.block_lt_of_cell? _ _ x1)]; exact x1, by rw [hb.cell (World.block_lt_of_cell? _ _ x2)]; exact x2, by rw [hb.cell (World.block_lt_of_cell? _ _ x3)]; exact x3⟩⟩
  have HT : Hid (∀ k (h1 : k < es.length) u, Below w.heap.size w u → Calls Tryd.prog 7 #[.agg #[.int .i64 es[k].x.kind, .int .i64 es[k].x.n, .string es[k].x.s, es[k].L]] u fun e w' => e = .returned (.string (showV es[k].x)) ∧ Below u.heap.size u w') := fun k h1 u hb => by
    obtain ⟨a1, a2, a3, a4⟩ := he.each es[k] (List.getElem_mem h1)
    exact ref_show es[k].x es[k].L u a1 (a2.below hb (Nat.le_refl _)) (fun _ => by omega)
  have HSL : Hid (∀ k (h1 : k < es.length), ∃ ao cap, es[k].L = .slice ao es[k].x.l.length cap) := fun k h1 => (he.each es[k] (List.getElem_mem h1)).2.1.shape
  have HAS : Hid (∀ k, (accL es k).length ≤ 24117281 * es.length) := fun k => accL_len he k
  have HSS : Hid (∀ k (h1 : k < es.length), (showV es[k].x).size ≤ 24117280) := fun k h1 => by
    obtain ⟨a1, a2, a3, a4⟩ := he.each es[k] (List.getElem_mem h1)
    exact show_size es[k].x a1 a3 a4
  have HAL : Hid ((⟨(accL es es.length ++ [10]).toArray⟩ : ByteArray) = lineB es) := accL_all es
  generalize lineB es = LB at *
  clear hv he
  go_enter Tryd.func9, Tryd.ntmps9
  go_wp2_with fail
  go_loopw [3, 7] (fun o i wr => ∃ k : Nat, k ≤ es.length ∧ i = .int .i64 k ∧ Hid (BRow wr w.heap.size o (accL es k)) ∧ Hid (Below w.heap.size w wr)) (fun _ i _ => es.length - (intOf i).toNat)
  case atStart => exact ⟨0, Nat.zero_le _, rfl, by rw [accL_zero]; exact World.ownsRow_nil _ _ _ _, Below.refl _ _⟩
  case round =>
    obtain ⟨k, hk, rfl, HO, HB⟩ := hrel
    obtain ⟨oo, oc, rfl⟩ := brow_shape HO.out
    have has := HAS.out k
    have HSZ : Hid (w.heap.size ≤ wr.heap.size) := HB.out.size
    by_cases hlt : k < es.length
    · obtain ⟨b1, o1, rfl, hx⟩ := HX.out k hlt
      have HTK : Hid _ := HT.out k hlt
      have hlt2 : (k : Int) < (es.length : Int) := by omega
      have hss := HSS.out k hlt
      obtain ⟨eo, ec, hes⟩ := HSL.out k hlt
      have HCE : Hid (∀ u, Below w.heap.size w u → u.cell? ⟨b1, o1 + k * 4, none⟩ = some (.int .i64 es[k].x.kind) ∧ u.cell? ⟨b1, o1 + k * 4 + 1, none⟩ = some (.int .i64 es[k].x.n) ∧ u.cell? ⟨b1, o1 + k * 4 + 2, none⟩ = some (.string es[k].x.s) ∧ u.cell? ⟨b1, o1 + k * 4 + 3, none⟩ = some (.slice eo es[k].x.l.length ec)) := by rw [← hes]; exact hx
      rw [hes] at HTK
      clear hx hes
      by_cases hk0 : k = 0
      · subst hk0
        have HE1 : Hid _ := accL_first es hlt
        have hk00 : ¬ ((0 : Nat) : Int) > 0 := by omega
        obtain ⟨x0, x1, x2, x3⟩ := HCE.out wr HB.out
        rw [Nat.zero_mul, Nat.add_zero] at x0
        rw [Nat.zero_mul, Nat.add_zero] at x1
        rw [Nat.zero_mul, Nat.add_zero] at x2
        rw [Nat.zero_mul, Nat.add_zero] at x3
        generalize accL es 0 = a0 at *
        generalize es[0].x = p at *
        go_wp2_with fail
        refine Calls.mono (HTK.out _ HB.out) ?_
        rintro e w1 ⟨rfl, hb1⟩
        have HB1 : Hid (Below w.heap.size w w1) := HB.out.trans (hb1.mono HB.out.size)
        have HO1 : Hid (BRow w1 w.heap.size (.slice oo a0.length oc) a0) := rows_below HO.out hb1
        have hsz1 := HB1.out.size
        clear hb1
        go_wp2_with (at_builtin; refine Lib.wpList_append_own_string _ rfl _ _ 36 9 rfl w.heap.size 5 i0 Tryd.underlying36 Tryd.underlying9 hi hz0 hz1 hz2 _ _ _ rfl HO1.out (showV p) rfl ?c3 ?c4 ?c5 ?_)
        case c3 => unfold maxLen; omega
        case c4 => omega
        case c5 => omega
        intro v2 w2 hown2 hgrow2 _
        have HB2 : Hid (Below w.heap.size w w2) := HB1.out.grown hgrow2 hsz1 (fun q hq => (HO1.out.lt q hq).1)
        have HO2 : Hid (BRow w2 w.heap.size v2 (a0 ++ (showV p).data.toList)) := by
          show World.ownsRow _ _ _ _ _ _ _
          rw [← bcells_str, List.length_append, bsize_list']
          exact hown2
        clear hown2 hgrow2 HO1
        obtain ⟨go2, gc2, rfl⟩ := brow_shape HO2.out
        go_wp2_with fail
        go_roundw
        case rel => exact ⟨1, by omega, by go_num, by rw [HE1.out]; exact HO2.out, HB2.out⟩
        case measure => simp [intOf]; omega
      · have HE1 : Hid _ := accL_step es k hlt (by omega)
        have hk00 : (k : Int) > 0 := by omega
        generalize accL es k = a0 at *
        generalize es[k].x = p at *
        go_wp2_with (at_builtin; refine wpList_append_own _ rfl _ _ 36 rfl w.heap.size 5 i0 (.int .u8 0) 1 1 Tryd.underlying36 hi hz0 hz1 hz2 rfl (by decide) _ _ _ rfl (World.ownsRow.alloc HO.out _) ⟨wr.heap.size, 0, none⟩ 1 1 [.int .u8 32] rfl rfl ?c1 ?c2 ?c3 ?c4 ?c5 ?_)
        case c1 => exact cell_one_new _ _ _
        case c2 => intro y hy; simp at hy; subst hy; rfl
        case c3 => unfold maxLen; omega
        case c4 => omega
        case c5 => have := HSZ.out; simp; omega
        intro v3 w3 hown3 hgrow3 _
        have HB3 : Hid (Below w.heap.size w w3) := (HB.out.alloc HSZ.out _).grown hgrow3 (by have := HSZ.out; simp; omega) (fun q hq => (HO.out.lt q hq).1)
        have HO3 : Hid (BRow w3 w.heap.size v3 (a0 ++ [32])) := by
          show World.ownsRow _ _ _ _ _ _ _
          rw [← bcells_snoc, List.length_append]
          exact hown3
        clear hown3 hgrow3
        obtain ⟨go3, gc3, rfl⟩ := brow_shape HO3.out
        obtain ⟨x0, x1, x2, x3⟩ := HCE.out w3 HB3.out
        have hla : (a0 ++ [32]).length = a0.length + 1 := by simp
        go_wp2_with fail
        refine Calls.mono (HTK.out _ HB3.out) ?_
        rintro e w1 ⟨rfl, hb1⟩
        have HB1 : Hid (Below w.heap.size w w1) := HB3.out.trans (hb1.mono HB3.out.size)
        have HO1 : Hid (BRow w1 w.heap.size (.slice go3 (a0 ++ [32]).length gc3) (a0 ++ [32])) := rows_below HO3.out hb1
        have hsz1 := HB1.out.size
        clear hb1
        have hbd : (a0 ++ [32]).length ≤ 24117281 * es.length + 1 := by rw [hla]; omega
        clear hla
        generalize a0 ++ [32] = a1 at *
        go_wp2_with (at_builtin; refine Lib.wpList_append_own_string _ rfl _ _ 36 9 rfl w.heap.size 5 i0 Tryd.underlying36 Tryd.underlying9 hi hz0 hz1 hz2 _ _ _ rfl HO1.out (showV p) rfl ?c3 ?c4 ?c5 ?_)
        case c3 => unfold maxLen; omega
        case c4 => omega
        case c5 => omega
        intro v2 w2 hown2 hgrow2 _
        have HB2 : Hid (Below w.heap.size w w2) := HB1.out.grown hgrow2 hsz1 (fun q hq => (HO1.out.lt q hq).1)
        have HO2 : Hid (BRow w2 w.heap.size v2 (a1 ++ (showV p).data.toList)) := by
          show World.ownsRow _ _ _ _ _ _ _
          rw [← bcells_str, List.length_append, bsize_list']
          exact hown2
        clear hown2 hgrow2 HO1
        obtain ⟨go2, gc2, rfl⟩ := brow_shape HO2.out
        go_wp2_with fail
        go_roundw
        case rel => exact ⟨k + 1, by omega, by go_num, by rw [HE1.out]; exact HO2.out, HB2.out⟩
        case measure => simp [intOf]; omega
    · have hkn : k = es.length := by omega
      subst hkn
      have hlt2 : ¬ (es.length : Int) < (es.length : Int) := by omega
      generalize accL es es.length = a0 at *
      go_wp2_with (at_builtin; refine wpList_append_own _ rfl _ _ 36 rfl w.heap.size 5 i0 (.int .u8 0) 1 1 Tryd.underlying36 hi hz0 hz1 hz2 rfl (by decide) _ _ _ rfl (World.ownsRow.alloc HO.out _) ⟨wr.heap.size, 0, none⟩ 1 1 [.int .u8 10] rfl rfl (cell_one_new _ _ _) (fun y hy => by simp at hy; subst hy; rfl) (by unfold maxLen; omega) (by omega) (by have := HSZ.out; simp; omega) ?_; intro v3 w3 hown3 hgrow3 hnil3; have HB3 : Hid (Below w.heap.size w w3) := (HB.out.alloc HSZ.out _).grown hgrow3 (by have := HSZ.out; simp; omega) (fun q hq => (HO.out.lt q hq).1); have HO3 : Hid (BRow w3 w.heap.size v3 (a0 ++ [10])) := (by show World.ownsRow _ _ _ _ _ _ _; rw [← bcells_snoc, List.length_append]; exact hown3); clear hown3 hgrow3 hnil3; generalize a0 ++ [10] = a1 at *; obtain ⟨go3, gc3, rfl⟩ := brow_shape HO3.out; have hcv := brow_str rfl HO3.out; rw [HAL.out] at hcv)
      go_ret
      exact ⟨rfl, HB3.out⟩
end Go.Proofs.YtjfmhppgjhgdaaaDoor
