/- What report.Values answers. -/
import Derived.Test.YtncjaohiimenaaaDoorRcrash
namespace Go.Proofs.YtncjaohiimenaaaDoor
open Go.ChangeShapes Go.WideShapes Go.ChangeAt Go.RowKit
set_option maxRecDepth 100000
set_option linter.unusedSimpArgs false
set_option linter.unusedVariables false
theorem Fill.at {g n k : Nat} {l : List ByteArray} {u : World} (h : Fill g n k l u) {j : Nat} {x : ByteArray} (hj : j < k) (hx : l[j]? = some x) : u.cell? ⟨g, j, none⟩ = some (.string x) := by
  obtain ⟨cs, h1, h2, h3, h4⟩ := h.row
  have := h4 j x hj hx
  simp [World.cell?, h1, this]
set_option maxHeartbeats 8000000 in
theorem own_values (v : Value) (es : List Pe) (w : World) (h : PsLies w v es) (hin : PsIn es) (hp : Pow w) :
    Calls Tryd.prog 20 #[v] w fun e w' => ∃ g, e = .returned (.slice (some ⟨g, 0, none⟩) es.length es.length) ∧ Fill g es.length es.length (es.map fun e => showV e.x) w' ∧ Below w.heap.size w w' := by
  obtain ⟨vo, vc, hv⟩ := h.row.shape
  subst hv
  obtain ⟨i0, hi, hz0, hz1, hz2⟩ := info_parts Tryd.infoStrV
  have HSRC := Hid.mk' h
  have HIN := Hid.mk' hin
  have HP : Hid (∀ u, Below w.heap.size w u → Pow u) := fun u hb => hp.below hb
  obtain ⟨n, hn1⟩ : ∃ n, n = es.length := ⟨_, rfl⟩
  have HLEN : Hid (n = es.length) := hn1
  have hnb : n ≤ 1048576 := by have := hin.size; omega
  rw [← hn1] at HSRC ⊢
  have hmk : ∀ u : World, (Instr.makeSlice 45 (.int .i64 (n : Int)) (.int .i64 (n : Int))).run Tryd.prog u =
      .ok (.slice (some ⟨u.heap.size, 0, none⟩) n n) (u.alloc (.cells (madeCells #[.string ⟨#[]⟩] n) 9)) := fun u => by
    have h := run_make (P := Tryd.prog) u 45 9 i0 (.string ⟨#[]⟩) Tryd.underlying45 hi hz0 .i64 .i64 (n : Int) (n : Int) (by omega) (Int.le_refl _) (by rw [hz2]; omega) (by omega)
    simpa [hz1, Value.cells] using h
  clear h hin hn1 hp
  go_enter Tryd.func20, Tryd.ntmps20
  go_wp2_with fail
  go_loopw [11] (fun i wr => ∃ k : Nat, k ≤ n ∧ i = .int .i64 k ∧ Hid (Fill w.heap.size n k (es.map fun e => showV e.x) wr) ∧ Hid (Below w.heap.size w wr)) (fun i _ => n - (intOf i).toNat)
  case atStart => exact ⟨0, Nat.zero_le _, rfl, Fill.new w _ _, (Below.refl _ _).alloc (Nat.le_refl _) _⟩
  case round =>
    obtain ⟨k, hk, rfl, HF, HB⟩ := hrel
    obtain ⟨wq, hwq⟩ : ∃ x, x = wr := ⟨_, rfl⟩
    subst hwq
    have hsz : w.heap.size ≤ wq.heap.size := HB.out.size
    by_cases hlt : k < n
    · have hlti : (k : Int) < (n : Int) := by omega
      obtain ⟨⟨ser, ⟨kd, nn, ss, ll⟩, L, rc0, ab0⟩, he⟩ : ∃ e, es[k]? = some e := ⟨es[k]'(by rw [← HLEN.out]; exact hlt), List.getElem?_eq_getElem _⟩
      obtain ⟨b, off, rfl, hx⟩ := HSRC.out.at he
      obtain ⟨⟨c0, c1, c2, c3, c4, c5, c6⟩, hll⟩ := hx wq HB.out
      have HE := Hid.mk' he
      obtain ⟨lo, lc, hL⟩ := hll.shape
      simp only at hL c0 c1 c2 c3 c4 c5 c6 hll
      subst hL
      obtain ⟨hvin, hss, hls⟩ := HIN.out.each _ (List.mem_of_getElem? he)
      simp only at hvin hss hls
      have HT : Hid (∀ u, Below w.heap.size w u → Calls Tryd.prog 22 #[.agg #[.int .i64 kd, .int .i64 nn, .string ss, .slice lo ll.length lc]] u fun e w' => e = .returned (.string (showV ⟨kd, nn, ss, ll⟩)) ∧ Below u.heap.size u w') := fun u hu =>
        own_show ⟨kd, nn, ss, ll⟩ _ u hvin (hx u hu).2 (fun _ => by simp only; omega) (HP.out u hu)
      have HLK : Hid ((es.map fun e => showV e.x)[k]? = some (showV ⟨kd, nn, ss, ll⟩)) := by show _ = _; rw [List.getElem?_map, he]; rfl
      generalize showV ⟨kd, nn, ss, ll⟩ = TX at *
      clear hll hx he hvin
      go_wp2_with fail
      have HB0 : Hid (Below w.heap.size w (wq.alloc (.cells #[.int .i64 ser, .int .i64 kd, .int .i64 nn, .string ss, .slice lo ll.length lc, .bool rc0, .bool ab0] 30))) := HB.out.alloc hsz _
      have HF0 : Hid (Fill w.heap.size n k (es.map fun e => showV e.x) (wq.alloc (.cells #[.int .i64 ser, .int .i64 kd, .int .i64 nn, .string ss, .slice lo ll.length lc, .bool rc0, .bool ab0] 30))) := HF.out.below show_below
      clear c0 c1 c2 c3 c4 c5 c6
      generalize wq.alloc (.cells #[.int .i64 ser, .int .i64 kd, .int .i64 nn, .string ss, .slice lo ll.length lc, .bool rc0, .bool ab0] 30) = W0 at *
      refine Calls.mono (HT.out _ HB0.out) ?_
      rintro e w3 ⟨rfl, f3⟩
      have HF3 := Hid.mk' (HF0.out.below f3)
      have HB3 : Hid (Below w.heap.size w w3) := HB0.out.trans (f3.mono HB0.out.size)
      obtain ⟨s0, d0, f0⟩ := HF3.out.cell k hlt
      clear f3
      go_wp2_with fail
      go_roundw
      case rel => exact ⟨k + 1, by omega, by go_num, HF3.out.put HLK.out hlt, HB3.out.setCell (Nat.le_refl _) _⟩
      case measure => simp [intOf]; omega
    · have hke : n = k := by omega
      subst hke
      have hlti : ¬ (n : Int) < (n : Int) := by omega
      go_wp2_with fail
      go_ret
      first | exact ⟨_, rfl, HF.out, HB.out⟩ | exact ⟨rfl, HF.out, HB.out⟩
end Go.Proofs.YtncjaohiimenaaaDoor
