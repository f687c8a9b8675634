/-
  For every list of panics that comes in and is of bulk at most 1048576, with each value made a number or a text of at most 100 bytes, what its crash tells is read again: the law's function returns true; the library's tables and errors hold at the start what the program's text lays (the card ties them).
-/
import Derived.Test.YtncjaohiimenaabDoorRback
import Derived.Stop.LaidErr
import Derived.Test.YtncjaohiimenaabDoorRpcame
import Derived.JoinedCond
import Derived.Test.YtncjaohiimenaabDoorCards
import Derived.Test.YtncjaohiimenaabDoorTie
import Derived.Deep.DeepHandedRow
import Derived.Lib.LaidTab
import Derived.SizedLaws
import Derived.Deep.DeepWitnessRowRef
namespace Go.Proofs.YtncjaohiimenaabDoor.reportBack
open Go.ChangeShapes Go.WideShapes Go.ChangeAt Go.RowKit
open Go.WideMaps Go.WideElems
open Go.ChangeMaps (open_string shut_string)
set_option linter.unusedVariables false
set_option maxRecDepth 100000

theorem own : ownKnob Tryd.prog.godebug = none := by kernel_rfl

def onePe : Pe := ⟨0, ⟨1, 3, ⟨#[]⟩, []⟩, .slice none 0 0, true, false⟩
theorem one_is : crashB [onePe] = ⟨#[112, 97, 110, 105, 99, 58, 32, 51, 32, 91, 114, 101, 99, 111, 118, 101, 114, 101, 100, 93, 10]⟩ := by kernel_rfl
theorem one_in : PsIn [onePe] := ⟨fun e he => by simp at he; subst he; exact ⟨⟨(by kernel_rfl : (Lit.int .i64 1).wf = true), (by kernel_rfl : (Lit.int .i64 3).wf = true), by decide, (fun i hi => by cases hi), by decide⟩, by decide, by decide⟩, by decide⟩
theorem one_lies (w u : World) (g : Nat) (hg : g = w.heap.size) (h : Below (w.alloc (.cells #[.int .i64 0, .int .i64 1, .int .i64 3, .string ⟨#[]⟩, .slice none 0 0, .bool true, .bool false] 27)).heap.size (w.alloc (.cells #[.int .i64 0, .int .i64 1, .int .i64 3, .string ⟨#[]⟩, .slice none 0 0, .bool true, .bool false] 27)) u) : PsLies u (.slice (some ⟨g, 0, none⟩) 1 1) [onePe] := by
  subst hg
  have h1 : (w.alloc (.cells #[.int .i64 0, .int .i64 1, .int .i64 3, .string ⟨#[]⟩, .slice none 0 0, .bool true, .bool false] 27)).ownsRow 0 27 7 (.slice (some ⟨w.heap.size, 0, none⟩) 1 1) 1 (Pe.cells onePe) := World.ownsRow_lit w #[.int .i64 0, .int .i64 1, .int .i64 3, .string ⟨#[]⟩, .slice none 0 0, .bool true, .bool false] 1 (Nat.zero_le _) (by decide) rfl
  have h2 : (w.alloc (.cells #[.int .i64 0, .int .i64 1, .int .i64 3, .string ⟨#[]⟩, .slice none 0 0, .bool true, .bool false] 27)).ownsRow 0 27 7 (.slice (some ⟨w.heap.size, 0, none⟩) 1 1) [onePe].length (rc Pe.cells [onePe]) := by rw [rc_one]; exact h1
  exact ⟨lies_own Pe.len (row_below h2 h), fun e he => by simp at he; subst he; exact .inl ⟨rfl, rfl⟩⟩
def keyz (e : Pe) : Int × Vv × Bool × Bool := (e.ser, ⟨if e.x.kind = 3 then 3 else 1, e.x.n, if 100 < e.x.s.size then e.x.s.extract 0 100 else e.x.s, e.x.l⟩, e.rc, e.ab)
theorem made_of {es ms : List Pe} (h : PsIn es) (hk : ms.map Pe.key = es.map keyz) : (∀ e ∈ ms, Made e.x) ∧ PsIn ms ∧ ms.length = es.length := by
  have hlen : ms.length = es.length := by have := congrArg List.length hk; simpa using this
  have each : ∀ e ∈ ms, Made e.x ∧ VIn e.x ∧ e.x.s.size ≤ 1048576 ∧ e.x.l.length ≤ 1048576 := fun e he => by
    have h1 : e.key ∈ es.map keyz := by rw [← hk]; exact List.mem_map.2 ⟨e, he, rfl⟩
    obtain ⟨q, h2, h3⟩ := List.mem_map.1 h1
    have h5 : (keyz q).2.1 = e.x := by have := congrArg (fun p => p.2.1) h3; exact this
    obtain ⟨hv, hs, hl⟩ := h.each q h2
    have hsz : (keyz q).2.1.s.size ≤ 100 := by
      show (if 100 < q.x.s.size then q.x.s.extract 0 100 else q.x.s).size ≤ 100
      split
      · rw [ByteArray.size_extract]; omega
      · omega
    have hkd : (keyz q).2.1.kind = 1 ∨ (keyz q).2.1.kind = 3 := by
      show (if q.x.kind = 3 then (3 : Int) else 1) = 1 ∨ (if q.x.kind = 3 then (3 : Int) else 1) = 3
      split
      · exact .inr rfl
      · exact .inl rfl
    have hv2 : VIn (keyz q).2.1 := ⟨by rcases hkd with h | h <;> rw [h] <;> kernel_rfl, hv.wn, by omega, hv.wl, hv.sz⟩
    have hl2 : (keyz q).2.1.l.length ≤ 1048576 := hl
    rw [← h5]
    exact ⟨⟨hkd, hv2, hsz⟩, hv2, by omega, hl2⟩
  exact ⟨fun e he => (each e he).1, ⟨fun e he => (each e he).2, by rw [hlen]; exact h.size⟩, hlen⟩
set_option linter.unusedSimpArgs false in
theorem textV_small {x : Vv} (h : Made x) : (textV x).size ≤ 202 := by
  have hl : x.s.data.toList.length = x.s.size := bsize_list x.s
  have hs := h.short
  unfold textV
  split
  · have := txt_le x.n h.vin.wn; omega
  · split
    · have := tBody_le x.s.data.toList
      show (tQuote x.s.data.toList).toArray.size ≤ _
      rw [List.size_toArray]
      simp only [tQuote, List.length_cons, List.length_append, List.length_singleton, List.length_nil]
      omega
    · split
      · show (tPlain x.s.data.toList).toArray.size ≤ _
        rw [List.size_toArray]
        simp only [tPlain, List.length_map]
        omega
      · decide
set_option linter.unusedSimpArgs false in
theorem crashL_small {es : List Pe} (h : ∀ e ∈ es, Made e.x) : ∀ k, (crashL es k).length ≤ 223 * k
  | 0 => by simp [crashL]
  | k + 1 => by
    have ih := crashL_small h k
    rw [crashL, List.length_append]
    cases he : es[k]? with
    | none => simp only [List.length_nil]; omega
    | some e =>
      have h1 := textV_small (h e (List.mem_of_getElem? he))
      rw [← bsize_list] at h1
      have h2 : (leadL k).length ≤ 8 := by unfold leadL; split <;> decide
      have h3 : (if e.rc = true then markB.data.toList else []).length ≤ 12 := by split <;> decide
      show _ + (lineL k e.x e.rc).length ≤ _
      unfold lineL
      simp only [List.length_append, List.length_singleton, List.length_cons, List.length_nil]
      omega
theorem setone {w w0 : World} {g B : Nat} {cs : Array Value} {t : TypeId} (h : w.heap[g]? = some (.cells cs t (0, 0))) (i : Nat) (v : Value) (hb : Below B w0 w) (hB : B ≤ g) :
    ∃ u, u = w.setCell ⟨g, i, none⟩ v ∧ u.heap[g]? = some (.cells (cs.setIfInBounds i v) t (0, 0)) ∧ Below B w0 u ∧ u.heap.size = w.heap.size ∧ ∀ b, b ≠ g → u.heap[b]? = w.heap[b]? :=
  ⟨_, rfl, heap_setCell_same w g i _ t v h, hb.setCell hB _, by simp [World.setCell], fun b hbg => heap_setCell_other _ _ _ _ hbg⟩
theorem pow_tab : Lib.pow10Tab = [1, 10, 100, 1000, 10000, 100000, 1000000, 10000000, 100000000, 1000000000, 10000000000, 100000000000, 1000000000000, 10000000000000, 100000000000000, 1000000000000000, 10000000000000000, 100000000000000000, 1000000000000000000, 10000000000000000000] := by decide
theorem pow_of {W : World} (h : laidMetH Tryd.prog Rows.reportBackRow.laid W) : Pow W := by
  have h0 : laidMet Tryd.prog Rows.reportBackRow.laid W := h
  unfold Pow
  rw [pow_tab]
  exact Lib.tabIs_of_head Tryd.gPow (by kernel_rfl) Tryd.underlying105 Tryd.underlying93 (by kernel_rfl) (by kernel_rfl) h0.tail.tail
theorem star : "*" ++ "errors.errorString" = "*errors.errorString" := by decide
theorem row_tp (u : TypeId) (h : Tryd.prog.typeName? 3 u = some "*errors.errorString") : u = 111 :=
  typeName_ptr_named (nm := "errors.errorString") (by rw [star]; kernel_rfl) (by kernel_rfl) (by decide) u (by rw [star]; exact h)
theorem lib_of {W : World} (h : laidMetH Tryd.prog Rows.reportBackRow.laid W) : Lib3 W := by
  have h0 : laidMet Tryd.prog Rows.reportBackRow.laid W := h
  refine ⟨pow_of h, ?_, ?_⟩
  · obtain ⟨a0, s0, hv0, -, -, -⟩ := laid_sentinel h0.tail.tail.tail.tail Tryd.gSyn (by kernel_rfl) Tryd.underlying44 row_tp Tryd.underlying111 Tryd.underlying113 rfl rfl Tryd.underlying9 (by kernel_rfl) (by kernel_rfl)
    exact ⟨_, _, hv0⟩
  · obtain ⟨a0, s0, hv0, -, -, -⟩ := laid_sentinel h0.tail.tail.tail Tryd.gRng (by kernel_rfl) Tryd.underlying44 row_tp Tryd.underlying111 Tryd.underlying113 rfl rfl Tryd.underlying9 (by kernel_rfl) (by kernel_rfl)
    exact ⟨_, _, hv0⟩

set_option maxHeartbeats 8000000 in
theorem walk (v0 : Value) (es : List Pe) (w : World) (hC : PsLies w v0 es) (hE : PsIn es) (hl : Lib3 w) :
    Calls Tryd.prog 3 #[v0] w fun e w' => e = .returned (.bool true) ∧ Below w.heap.size w w' := by
  obtain ⟨vo, vc, hsh⟩ := hC.row.shape
  subst hsh
  have HSRC := Hid.mk' hC
  have HIN := Hid.mk' hE
  obtain ⟨n, hn1⟩ : ∃ n, n = es.length := ⟨_, rfl⟩
  have HLEN : Hid (n = es.length) := hn1
  have hnb : n ≤ 1048576 := by have := hE.size; omega
  have HCR : Hid (∀ v ms u, PsLies u v ms → PsIn ms → Below w.heap.size w u → Calls Tryd.prog 7 #[v] u fun e w' => e = .returned (.string (crashB ms)) ∧ Below u.heap.size u w') := fun v ms u h1 h2 hu => own_crash v ms u h1 h2 (hl.1.below hu)
  have HON : Hid (∀ w0 u, Below w.heap.size w w0 → Below (w0.alloc (.cells #[.int .i64 0, .int .i64 1, .int .i64 3, .string ⟨#[]⟩, .slice none 0 0, .bool true, .bool false] 27)).heap.size (w0.alloc (.cells #[.int .i64 0, .int .i64 1, .int .i64 3, .string ⟨#[]⟩, .slice none 0 0, .bool true, .bool false] 27)) u → Calls Tryd.prog 7 #[.slice (some ⟨w0.heap.size, 0, none⟩) 1 1] u fun e w' => e = .returned (.string ⟨#[112, 97, 110, 105, 99, 58, 32, 51, 32, 91, 114, 101, 99, 111, 118, 101, 114, 101, 100, 93, 10]⟩) ∧ Below u.heap.size u w') := fun w0 u h0 hu => by
    rw [← one_is]
    exact own_crash _ [onePe] u (one_lies w0 u _ rfl hu) one_in (hl.1.below (h0.trans ((((Below.refl _ _).alloc (Nat.le_refl _) _).trans (hu.mono (by simp))).mono h0.size)))
  have HRD : Hid (∀ s u, s.size ≤ 1099511627776 → Below w.heap.size w u → (∀ xs, readAll s.data.toList = some xs → PsIn (pesOf 0 xs)) → Calls Tryd.prog 8 #[.string s] u fun e w' => ∃ v er, e = .returned (.tuple #[v, .int .i64 er]) ∧ ReadPost s.data.toList u.heap.size w' v er ∧ Below u.heap.size u w') := fun s u h1 h2 h3 => own_read s u h1 (hl.below h2) h3
  rw [← hn1] at HSRC ⊢
  clear hC hE hl hn1
  go_enter Tryd.func3, Tryd.ntmps3
  go_wp2_with fail
  go_loopw [3, 4] (fun s3 s4 wr => ∃ (k : Nat) (ms : List Pe), k ≤ n ∧ s4 = .int .i64 k ∧ Hid (ms.length = k) ∧ Hid (ms.map Pe.key = (es.take k).map keyz) ∧ Hid (PRow w.heap.size wr s3 ms) ∧ Hid (Below w.heap.size w wr)) (fun _ i _ => n - (intOf i).toNat)
  case atStart => exact ⟨0, [], Nat.zero_le _, rfl, rfl, by simp [Hid], PRow.nil _ _, Below.refl _ _⟩
  case round =>
    obtain ⟨k, ms, hk, rfl, HEL, HEM, HROW, HB⟩ := hrel
    obtain ⟨wq, hwq⟩ : ∃ x, wr = x := ⟨_, rfl⟩
    subst hwq
    obtain ⟨so, sc, hs3⟩ := row_slice HROW.out.row
    rw [HEL.out] at hs3
    subst hs3
    by_cases hlt : k < n
    · have hlti : (k : Int) < (n : Int) := by omega
      obtain ⟨⟨ser, ⟨kd, nn, ss, ll⟩, L, rc0, ab0⟩, he⟩ : ∃ e, es[k]? = some e := ⟨es[k]'(by rw [← HLEN.out]; exact hlt), List.getElem?_eq_getElem _⟩
      obtain ⟨b, off, rfl, hx⟩ := HSRC.out.at he
      obtain ⟨⟨c0, c1, c2, c3, c4, c5, c6⟩, hll⟩ := hx wr HB.out
      have HE := Hid.mk' he
      obtain ⟨lo, lc, hL⟩ := hll.shape
      simp only at hL c0 c1 c2 c3 c4 c5 c6 hll
      subst hL
      have HOWN : Hid (∀ u, Below wr.heap.size wr u → Calls Tryd.prog 6 #[.agg #[.int .i64 kd, .int .i64 nn, .string ss, .slice lo ll.length lc]] u fun x w' => ∃ L', x = .returned (vval ⟨kd, nn, ss, ll⟩ L') ∧ w'.ownsRow u.heap.size 3 1 L' ll.length (ll.map (Value.int .i64)) ∧ Below u.heap.size u w') := fun u hu =>
        own_own3 ⟨kd, nn, ss, ll⟩ _ u (HIN.out.each _ (List.mem_of_getElem? HE.out)).1 (hll.below hu (Nat.le_refl _))
      clear hll hx he
      go_wp2_with fail
      have HBXW : Hid (∀ u, Below (wr.alloc (.cells #[.int .i64 ser, .int .i64 kd, .int .i64 nn, .string ss, .slice lo ll.length lc, .bool rc0, .bool ab0] 27)).heap.size (wr.alloc (.cells #[.int .i64 ser, .int .i64 kd, .int .i64 nn, .string ss, .slice lo ll.length lc, .bool rc0, .bool ab0] 27)) u → u.heap[wr.heap.size]? = some (.cells #[.int .i64 ser, .int .i64 kd, .int .i64 nn, .string ss, .slice lo ll.length lc, .bool rc0, .bool ab0] 27 (0, 0))) := fun u hu => box_stays hu
      clear c0 c1 c2 c3 c4 c5 c6
      refine Calls.mono (HOWN.out _ show_below) ?_
      rintro x w1 ⟨L1, rfl, ho1, hb1⟩
      obtain ⟨lo1, lc1, hL1⟩ := row_slice ho1
      subst hL1
      unfold vval
      have hbx := HBXW.out w1 hb1
      obtain ⟨⟨d0, d1, d2, d3, d4, d5, d6⟩, ⟨f0, f1, f2, f3, f4, f5, f6⟩⟩ := box7 hbx
      have hup := below_up hb1
      obtain ⟨u1, hu1, hg1, hl1, hsz1, hot1⟩ := set1234 hbx (.int .i64 kd) (.int .i64 nn) (.string ss) (.slice lo1 ll.length lc1) hup (Nat.le_refl _)
      have HO1 : Hid (u1.ownsRow w.heap.size 3 1 (.slice lo1 ll.length lc1) ll.length (ll.map (Value.int .i64))) := by
        refine row_up (row_far ho1 hbx (by decide) (fun b hb _ => hot1 b hb)) ?_
        have := HB.out.size; simp; omega
      have hsz : wr.heap.size < w1.heap.size := by have := hb1.size; simp at this; omega
      have HU1 := Hid.mk' hu1
      clear ho1 hb1 hot1 HBXW hu1 hbx hup
      by_cases hk1 : kd = 1
      · subst hk1
        by_cases hsn : 100 < ss.size
        · have hsi : (100 : Int) < (ss.size : Int) := by omega
          have hsd : decide ((100 : Int) < (ss.size : Int)) = true := by rw [decide_eq_true_eq]; exact hsi
          have hs1 : 100 ≤ ss.size := by omega
          obtain ⟨s2, hs2⟩ : ∃ s2, ss.extract 0 100 = s2 := ⟨_, rfl⟩
          have HKZ : Hid (Pe.key ⟨ser, ⟨1, nn, s2, ll⟩, .slice lo1 ll.length lc1, rc0, ab0⟩ = keyz ⟨ser, ⟨1, nn, ss, ll⟩, .slice lo ll.length lc, rc0, ab0⟩) := by show _ = _; unfold keyz Pe.key; simp only; rw [if_neg (by decide), if_pos hsn, hs2]
          obtain ⟨⟨p0, p1, p2, p3, p4, p5, p6⟩, ⟨q0, q1, q2, q3, q4, q5, q6⟩⟩ := box7 hg1
          obtain ⟨u2, hu2, hg2, hl2, hsz2, hot2⟩ := setone hg1 3 (.string s2) hl1 (Nat.le_refl _)
          have HO2 : Hid (u2.ownsRow w.heap.size 3 1 (.slice lo1 ll.length lc1) ll.length (ll.map (Value.int .i64))) := row_far HO1.out hg1 (by decide) (fun b hb _ => hot2 b hb)
          have HU2 := Hid.mk' hu2
          clear hg1 hl1 hot2 hu2 HO1
          have hal : Below u2.heap.size u2 (u2.alloc (.cells #[.int .i64 ser, .int .i64 1, .int .i64 nn, .string s2, .slice lo1 ll.length lc1, .bool rc0, .bool ab0] 27)) := (Below.refl _ _).alloc (Nat.le_refl _) _
          have HBZ : Hid (Below w.heap.size w u2) := HB.out.trans (hl2.mono HB.out.size)
          have HPZ : Hid (PRow w.heap.size (u2.alloc (.cells #[.int .i64 ser, .int .i64 1, .int .i64 nn, .string s2, .slice lo1 ll.length lc1, .bool rc0, .bool ab0] 27)) (.slice so k sc) ms) := (HROW.out.below hl2).below hal
          have HOZ : Hid ((u2.alloc (.cells #[.int .i64 ser, .int .i64 1, .int .i64 nn, .string s2, .slice lo1 ll.length lc1, .bool rc0, .bool ab0] 27)).ownsRow w.heap.size 3 1 (.slice lo1 ll.length lc1) ll.length (ll.map (Value.int .i64))) := row_below HO2.out hal
          have HLZ : Hid ((u2.alloc (.cells #[.int .i64 ser, .int .i64 1, .int .i64 nn, .string s2, .slice lo1 ll.length lc1, .bool rc0, .bool ab0] 27)).ownsRow w.heap.size 27 7 (.slice (some ⟨u1.heap.size, 0, none⟩) 1 1) 1 (Pe.cells ⟨ser, ⟨1, nn, s2, ll⟩, .slice lo1 ll.length lc1, rc0, ab0⟩)) := by rw [← hsz2]; exact World.ownsRow_lit u2 #[.int .i64 ser, .int .i64 1, .int .i64 nn, .string s2, .slice lo1 ll.length lc1, .bool rc0, .bool ab0] 1 HBZ.out.size (by decide) rfl
          have HBAL : Hid (Below w.heap.size w (u2.alloc (.cells #[.int .i64 ser, .int .i64 1, .int .i64 nn, .string s2, .slice lo1 ll.length lc1, .bool rc0, .bool ab0] 27))) := HBZ.out.trans (hal.mono HBZ.out.size)
          have HTAKE : Hid ((ms ++ [(⟨ser, ⟨1, nn, s2, ll⟩, .slice lo1 ll.length lc1, rc0, ab0⟩ : Pe)]).map Pe.key = (es.take (k + 1)).map keyz) := by show _ = _; rw [List.map_append, HEM.out, List.take_add_one, HE.out]; rw [List.map_append]; exact congrArg (fun z => (es.take k).map keyz ++ [z]) HKZ.out
          clear hg2 hl2 hal hsz1 hsz2
          go_wp2_with (first | (rw [← HU1.out]) | (at_builtin; rw [← HU2.out]; refine gappL rfl _ _ Pe.len Tryd.infoPnR rfl (by decide) Tryd.underlying22 rfl rfl rfl (by have := HPZ.out.row; rw [HEL.out]; rw [HEL.out] at this; exact this) HLZ.out (Pe.one rfl) HBAL.out.size (by rw [HEL.out]; omega) (by decide) ?_; intro v2 u5 hr hg hb5; have HP5 := Hid.mk' (HPZ.out.push hg hr HOZ.out); obtain ⟨ao, cap, hv2⟩ := row_slice hr; subst hv2; have HB5 : Hid (Below w.heap.size w u5) := HBAL.out.trans hb5; clear hr hg hb5))
          go_roundw
          case rel => exact ⟨k + 1, _, by omega, by go_num, (by show _ = _; rw [List.length_append, HEL.out]; rfl), HTAKE.out, (by have := HP5.out; simp only [List.length_append, List.length_singleton] at this; exact this), HB5.out⟩
          case measure => simp [intOf]; omega
        · have hsi : ¬ (100 : Int) < (ss.size : Int) := by omega
          have HKZ : Hid (Pe.key ⟨ser, ⟨1, nn, ss, ll⟩, .slice lo1 ll.length lc1, rc0, ab0⟩ = keyz ⟨ser, ⟨1, nn, ss, ll⟩, .slice lo ll.length lc, rc0, ab0⟩) := by show _ = _; unfold keyz Pe.key; simp only; rw [if_neg (by decide), if_neg hsn]
          obtain ⟨⟨p0, p1, p2, p3, p4, p5, p6⟩, ⟨q0, q1, q2, q3, q4, q5, q6⟩⟩ := box7 hg1
          have hal : Below u1.heap.size u1 (u1.alloc (.cells #[.int .i64 ser, .int .i64 1, .int .i64 nn, .string ss, .slice lo1 ll.length lc1, .bool rc0, .bool ab0] 27)) := (Below.refl _ _).alloc (Nat.le_refl _) _
          have HBZ : Hid (Below w.heap.size w u1) := HB.out.trans (hl1.mono HB.out.size)
          have HPZ : Hid (PRow w.heap.size (u1.alloc (.cells #[.int .i64 ser, .int .i64 1, .int .i64 nn, .string ss, .slice lo1 ll.length lc1, .bool rc0, .bool ab0] 27)) (.slice so k sc) ms) := (HROW.out.below hl1).below hal
          have HOZ : Hid ((u1.alloc (.cells #[.int .i64 ser, .int .i64 1, .int .i64 nn, .string ss, .slice lo1 ll.length lc1, .bool rc0, .bool ab0] 27)).ownsRow w.heap.size 3 1 (.slice lo1 ll.length lc1) ll.length (ll.map (Value.int .i64))) := row_below HO1.out hal
          have HLZ : Hid ((u1.alloc (.cells #[.int .i64 ser, .int .i64 1, .int .i64 nn, .string ss, .slice lo1 ll.length lc1, .bool rc0, .bool ab0] 27)).ownsRow w.heap.size 27 7 (.slice (some ⟨u1.heap.size, 0, none⟩) 1 1) 1 (Pe.cells ⟨ser, ⟨1, nn, ss, ll⟩, .slice lo1 ll.length lc1, rc0, ab0⟩)) := by exact World.ownsRow_lit u1 #[.int .i64 ser, .int .i64 1, .int .i64 nn, .string ss, .slice lo1 ll.length lc1, .bool rc0, .bool ab0] 1 HBZ.out.size (by decide) rfl
          have HBAL : Hid (Below w.heap.size w (u1.alloc (.cells #[.int .i64 ser, .int .i64 1, .int .i64 nn, .string ss, .slice lo1 ll.length lc1, .bool rc0, .bool ab0] 27))) := HBZ.out.trans (hal.mono HBZ.out.size)
          have HTAKE : Hid ((ms ++ [(⟨ser, ⟨1, nn, ss, ll⟩, .slice lo1 ll.length lc1, rc0, ab0⟩ : Pe)]).map Pe.key = (es.take (k + 1)).map keyz) := by show _ = _; rw [List.map_append, HEM.out, List.take_add_one, HE.out]; rw [List.map_append]; exact congrArg (fun z => (es.take k).map keyz ++ [z]) HKZ.out
          clear hg1 hl1 hal hsz1
          go_wp2_with (first | (rw [← HU1.out]) | (at_builtin; refine gappL rfl _ _ Pe.len Tryd.infoPnR rfl (by decide) Tryd.underlying22 rfl rfl rfl (by have := HPZ.out.row; rw [HEL.out]; rw [HEL.out] at this; exact this) HLZ.out (Pe.one rfl) HBAL.out.size (by rw [HEL.out]; omega) (by decide) ?_; intro v2 u5 hr hg hb5; have HP5 := Hid.mk' (HPZ.out.push hg hr HOZ.out); obtain ⟨ao, cap, hv2⟩ := row_slice hr; subst hv2; have HB5 : Hid (Below w.heap.size w u5) := HBAL.out.trans hb5; clear hr hg hb5))
          go_roundw
          case rel => exact ⟨k + 1, _, by omega, by go_num, (by show _ = _; rw [List.length_append, HEL.out]; rfl), HTAKE.out, (by have := HP5.out; simp only [List.length_append, List.length_singleton] at this; exact this), HB5.out⟩
          case measure => simp [intOf]; omega
      · by_cases hk3 : kd = 3
        · subst hk3
          clear hk1
          by_cases hsn : 100 < ss.size
          · have hsi : (100 : Int) < (ss.size : Int) := by omega
            have hsd : decide ((100 : Int) < (ss.size : Int)) = true := by rw [decide_eq_true_eq]; exact hsi
            have hs1 : 100 ≤ ss.size := by omega
            obtain ⟨s2, hs2⟩ : ∃ s2, ss.extract 0 100 = s2 := ⟨_, rfl⟩
            have HKZ : Hid (Pe.key ⟨ser, ⟨3, nn, s2, ll⟩, .slice lo1 ll.length lc1, rc0, ab0⟩ = keyz ⟨ser, ⟨3, nn, ss, ll⟩, .slice lo ll.length lc, rc0, ab0⟩) := by show _ = _; unfold keyz Pe.key; simp only; rw [if_pos trivial, if_pos hsn, hs2]
            obtain ⟨⟨p0, p1, p2, p3, p4, p5, p6⟩, ⟨q0, q1, q2, q3, q4, q5, q6⟩⟩ := box7 hg1
            obtain ⟨u2, hu2, hg2, hl2, hsz2, hot2⟩ := setone hg1 3 (.string s2) hl1 (Nat.le_refl _)
            have HO2 : Hid (u2.ownsRow w.heap.size 3 1 (.slice lo1 ll.length lc1) ll.length (ll.map (Value.int .i64))) := row_far HO1.out hg1 (by decide) (fun b hb _ => hot2 b hb)
            have HU2 := Hid.mk' hu2
            clear hg1 hl1 hot2 hu2 HO1
            have hal : Below u2.heap.size u2 (u2.alloc (.cells #[.int .i64 ser, .int .i64 3, .int .i64 nn, .string s2, .slice lo1 ll.length lc1, .bool rc0, .bool ab0] 27)) := (Below.refl _ _).alloc (Nat.le_refl _) _
            have HBZ : Hid (Below w.heap.size w u2) := HB.out.trans (hl2.mono HB.out.size)
            have HPZ : Hid (PRow w.heap.size (u2.alloc (.cells #[.int .i64 ser, .int .i64 3, .int .i64 nn, .string s2, .slice lo1 ll.length lc1, .bool rc0, .bool ab0] 27)) (.slice so k sc) ms) := (HROW.out.below hl2).below hal
            have HOZ : Hid ((u2.alloc (.cells #[.int .i64 ser, .int .i64 3, .int .i64 nn, .string s2, .slice lo1 ll.length lc1, .bool rc0, .bool ab0] 27)).ownsRow w.heap.size 3 1 (.slice lo1 ll.length lc1) ll.length (ll.map (Value.int .i64))) := row_below HO2.out hal
            have HLZ : Hid ((u2.alloc (.cells #[.int .i64 ser, .int .i64 3, .int .i64 nn, .string s2, .slice lo1 ll.length lc1, .bool rc0, .bool ab0] 27)).ownsRow w.heap.size 27 7 (.slice (some ⟨u1.heap.size, 0, none⟩) 1 1) 1 (Pe.cells ⟨ser, ⟨3, nn, s2, ll⟩, .slice lo1 ll.length lc1, rc0, ab0⟩)) := by rw [← hsz2]; exact World.ownsRow_lit u2 #[.int .i64 ser, .int .i64 3, .int .i64 nn, .string s2, .slice lo1 ll.length lc1, .bool rc0, .bool ab0] 1 HBZ.out.size (by decide) rfl
            have HBAL : Hid (Below w.heap.size w (u2.alloc (.cells #[.int .i64 ser, .int .i64 3, .int .i64 nn, .string s2, .slice lo1 ll.length lc1, .bool rc0, .bool ab0] 27))) := HBZ.out.trans (hal.mono HBZ.out.size)
            have HTAKE : Hid ((ms ++ [(⟨ser, ⟨3, nn, s2, ll⟩, .slice lo1 ll.length lc1, rc0, ab0⟩ : Pe)]).map Pe.key = (es.take (k + 1)).map keyz) := by show _ = _; rw [List.map_append, HEM.out, List.take_add_one, HE.out]; rw [List.map_append]; exact congrArg (fun z => (es.take k).map keyz ++ [z]) HKZ.out
            clear hg2 hl2 hal hsz1 hsz2
            go_wp2_with (first | (rw [← HU1.out]) | (at_builtin; rw [← HU2.out]; refine gappL rfl _ _ Pe.len Tryd.infoPnR rfl (by decide) Tryd.underlying22 rfl rfl rfl (by have := HPZ.out.row; rw [HEL.out]; rw [HEL.out] at this; exact this) HLZ.out (Pe.one rfl) HBAL.out.size (by rw [HEL.out]; omega) (by decide) ?_; intro v2 u5 hr hg hb5; have HP5 := Hid.mk' (HPZ.out.push hg hr HOZ.out); obtain ⟨ao, cap, hv2⟩ := row_slice hr; subst hv2; have HB5 : Hid (Below w.heap.size w u5) := HBAL.out.trans hb5; clear hr hg hb5))
            go_roundw
            case rel => exact ⟨k + 1, _, by omega, by go_num, (by show _ = _; rw [List.length_append, HEL.out]; rfl), HTAKE.out, (by have := HP5.out; simp only [List.length_append, List.length_singleton] at this; exact this), HB5.out⟩
            case measure => simp [intOf]; omega
          · have hsi : ¬ (100 : Int) < (ss.size : Int) := by omega
            have HKZ : Hid (Pe.key ⟨ser, ⟨3, nn, ss, ll⟩, .slice lo1 ll.length lc1, rc0, ab0⟩ = keyz ⟨ser, ⟨3, nn, ss, ll⟩, .slice lo ll.length lc, rc0, ab0⟩) := by show _ = _; unfold keyz Pe.key; simp only; rw [if_pos trivial, if_neg hsn]
            obtain ⟨⟨p0, p1, p2, p3, p4, p5, p6⟩, ⟨q0, q1, q2, q3, q4, q5, q6⟩⟩ := box7 hg1
            have hal : Below u1.heap.size u1 (u1.alloc (.cells #[.int .i64 ser, .int .i64 3, .int .i64 nn, .string ss, .slice lo1 ll.length lc1, .bool rc0, .bool ab0] 27)) := (Below.refl _ _).alloc (Nat.le_refl _) _
            have HBZ : Hid (Below w.heap.size w u1) := HB.out.trans (hl1.mono HB.out.size)
            have HPZ : Hid (PRow w.heap.size (u1.alloc (.cells #[.int .i64 ser, .int .i64 3, .int .i64 nn, .string ss, .slice lo1 ll.length lc1, .bool rc0, .bool ab0] 27)) (.slice so k sc) ms) := (HROW.out.below hl1).below hal
            have HOZ : Hid ((u1.alloc (.cells #[.int .i64 ser, .int .i64 3, .int .i64 nn, .string ss, .slice lo1 ll.length lc1, .bool rc0, .bool ab0] 27)).ownsRow w.heap.size 3 1 (.slice lo1 ll.length lc1) ll.length (ll.map (Value.int .i64))) := row_below HO1.out hal
            have HLZ : Hid ((u1.alloc (.cells #[.int .i64 ser, .int .i64 3, .int .i64 nn, .string ss, .slice lo1 ll.length lc1, .bool rc0, .bool ab0] 27)).ownsRow w.heap.size 27 7 (.slice (some ⟨u1.heap.size, 0, none⟩) 1 1) 1 (Pe.cells ⟨ser, ⟨3, nn, ss, ll⟩, .slice lo1 ll.length lc1, rc0, ab0⟩)) := by exact World.ownsRow_lit u1 #[.int .i64 ser, .int .i64 3, .int .i64 nn, .string ss, .slice lo1 ll.length lc1, .bool rc0, .bool ab0] 1 HBZ.out.size (by decide) rfl
            have HBAL : Hid (Below w.heap.size w (u1.alloc (.cells #[.int .i64 ser, .int .i64 3, .int .i64 nn, .string ss, .slice lo1 ll.length lc1, .bool rc0, .bool ab0] 27))) := HBZ.out.trans (hal.mono HBZ.out.size)
            have HTAKE : Hid ((ms ++ [(⟨ser, ⟨3, nn, ss, ll⟩, .slice lo1 ll.length lc1, rc0, ab0⟩ : Pe)]).map Pe.key = (es.take (k + 1)).map keyz) := by show _ = _; rw [List.map_append, HEM.out, List.take_add_one, HE.out]; rw [List.map_append]; exact congrArg (fun z => (es.take k).map keyz ++ [z]) HKZ.out
            clear hg1 hl1 hal hsz1
            go_wp2_with (first | (rw [← HU1.out]) | (at_builtin; refine gappL rfl _ _ Pe.len Tryd.infoPnR rfl (by decide) Tryd.underlying22 rfl rfl rfl (by have := HPZ.out.row; rw [HEL.out]; rw [HEL.out] at this; exact this) HLZ.out (Pe.one rfl) HBAL.out.size (by rw [HEL.out]; omega) (by decide) ?_; intro v2 u5 hr hg hb5; have HP5 := Hid.mk' (HPZ.out.push hg hr HOZ.out); obtain ⟨ao, cap, hv2⟩ := row_slice hr; subst hv2; have HB5 : Hid (Below w.heap.size w u5) := HBAL.out.trans hb5; clear hr hg hb5))
            go_roundw
            case rel => exact ⟨k + 1, _, by omega, by go_num, (by show _ = _; rw [List.length_append, HEL.out]; rfl), HTAKE.out, (by have := HP5.out; simp only [List.length_append, List.length_singleton] at this; exact this), HB5.out⟩
            case measure => simp [intOf]; omega
        · have hb1 : (kd != 1) = true := by simpa using hk1
          have hb3 : (kd != 3) = true := by simpa using hk3
          by_cases hsn : 100 < ss.size
          · have hsi : (100 : Int) < (ss.size : Int) := by omega
            have hsd : decide ((100 : Int) < (ss.size : Int)) = true := by rw [decide_eq_true_eq]; exact hsi
            have hs1 : 100 ≤ ss.size := by omega
            obtain ⟨s2, hs2⟩ : ∃ s2, ss.extract 0 100 = s2 := ⟨_, rfl⟩
            have HKZ : Hid (Pe.key ⟨ser, ⟨1, nn, s2, ll⟩, .slice lo1 ll.length lc1, rc0, ab0⟩ = keyz ⟨ser, ⟨kd, nn, ss, ll⟩, .slice lo ll.length lc, rc0, ab0⟩) := by show _ = _; unfold keyz Pe.key; simp only; rw [if_neg hk3, if_pos hsn, hs2]
            obtain ⟨⟨p0, p1, p2, p3, p4, p5, p6⟩, ⟨q0, q1, q2, q3, q4, q5, q6⟩⟩ := box7 hg1
            obtain ⟨u2, hu2, hg2, hl2, hsz2, hot2⟩ := setone hg1 1 (.int .i64 1) hl1 (Nat.le_refl _)
            have HO2 : Hid (u2.ownsRow w.heap.size 3 1 (.slice lo1 ll.length lc1) ll.length (ll.map (Value.int .i64))) := row_far HO1.out hg1 (by decide) (fun b hb _ => hot2 b hb)
            have HU2 := Hid.mk' hu2
            clear hg1 hl1 hot2 hu2 HO1
            obtain ⟨u3, hu3, hg3, hl3, hsz3, hot3⟩ := setone hg2 3 (.string s2) hl2 (Nat.le_refl _)
            have HO3 : Hid (u3.ownsRow w.heap.size 3 1 (.slice lo1 ll.length lc1) ll.length (ll.map (Value.int .i64))) := row_far HO2.out hg2 (by decide) (fun b hb _ => hot3 b hb)
            have HU3 := Hid.mk' hu3
            rw [hsz2] at hsz3
            clear hg2 hl2 hot3 hu3 HO2
            have hal : Below u3.heap.size u3 (u3.alloc (.cells #[.int .i64 ser, .int .i64 1, .int .i64 nn, .string s2, .slice lo1 ll.length lc1, .bool rc0, .bool ab0] 27)) := (Below.refl _ _).alloc (Nat.le_refl _) _
            have HBZ : Hid (Below w.heap.size w u3) := HB.out.trans (hl3.mono HB.out.size)
            have HPZ : Hid (PRow w.heap.size (u3.alloc (.cells #[.int .i64 ser, .int .i64 1, .int .i64 nn, .string s2, .slice lo1 ll.length lc1, .bool rc0, .bool ab0] 27)) (.slice so k sc) ms) := (HROW.out.below hl3).below hal
            have HOZ : Hid ((u3.alloc (.cells #[.int .i64 ser, .int .i64 1, .int .i64 nn, .string s2, .slice lo1 ll.length lc1, .bool rc0, .bool ab0] 27)).ownsRow w.heap.size 3 1 (.slice lo1 ll.length lc1) ll.length (ll.map (Value.int .i64))) := row_below HO3.out hal
            have HLZ : Hid ((u3.alloc (.cells #[.int .i64 ser, .int .i64 1, .int .i64 nn, .string s2, .slice lo1 ll.length lc1, .bool rc0, .bool ab0] 27)).ownsRow w.heap.size 27 7 (.slice (some ⟨u1.heap.size, 0, none⟩) 1 1) 1 (Pe.cells ⟨ser, ⟨1, nn, s2, ll⟩, .slice lo1 ll.length lc1, rc0, ab0⟩)) := by rw [← hsz3]; exact World.ownsRow_lit u3 #[.int .i64 ser, .int .i64 1, .int .i64 nn, .string s2, .slice lo1 ll.length lc1, .bool rc0, .bool ab0] 1 HBZ.out.size (by decide) rfl
            have HBAL : Hid (Below w.heap.size w (u3.alloc (.cells #[.int .i64 ser, .int .i64 1, .int .i64 nn, .string s2, .slice lo1 ll.length lc1, .bool rc0, .bool ab0] 27))) := HBZ.out.trans (hal.mono HBZ.out.size)
            have HTAKE : Hid ((ms ++ [(⟨ser, ⟨1, nn, s2, ll⟩, .slice lo1 ll.length lc1, rc0, ab0⟩ : Pe)]).map Pe.key = (es.take (k + 1)).map keyz) := by show _ = _; rw [List.map_append, HEM.out, List.take_add_one, HE.out]; rw [List.map_append]; exact congrArg (fun z => (es.take k).map keyz ++ [z]) HKZ.out
            clear hg3 hl3 hal hsz1 hsz2 hsz3
            go_wp2_with (first | (rw [← HU1.out]) | (at_builtin; rw [← HU2.out]; rw [← HU3.out]; refine gappL rfl _ _ Pe.len Tryd.infoPnR rfl (by decide) Tryd.underlying22 rfl rfl rfl (by have := HPZ.out.row; rw [HEL.out]; rw [HEL.out] at this; exact this) HLZ.out (Pe.one rfl) HBAL.out.size (by rw [HEL.out]; omega) (by decide) ?_; intro v2 u5 hr hg hb5; have HP5 := Hid.mk' (HPZ.out.push hg hr HOZ.out); obtain ⟨ao, cap, hv2⟩ := row_slice hr; subst hv2; have HB5 : Hid (Below w.heap.size w u5) := HBAL.out.trans hb5; clear hr hg hb5))
            go_roundw
            case rel => exact ⟨k + 1, _, by omega, by go_num, (by show _ = _; rw [List.length_append, HEL.out]; rfl), HTAKE.out, (by have := HP5.out; simp only [List.length_append, List.length_singleton] at this; exact this), HB5.out⟩
            case measure => simp [intOf]; omega
          · have hsi : ¬ (100 : Int) < (ss.size : Int) := by omega
            have HKZ : Hid (Pe.key ⟨ser, ⟨1, nn, ss, ll⟩, .slice lo1 ll.length lc1, rc0, ab0⟩ = keyz ⟨ser, ⟨kd, nn, ss, ll⟩, .slice lo ll.length lc, rc0, ab0⟩) := by show _ = _; unfold keyz Pe.key; simp only; rw [if_neg hk3, if_neg hsn]
            obtain ⟨⟨p0, p1, p2, p3, p4, p5, p6⟩, ⟨q0, q1, q2, q3, q4, q5, q6⟩⟩ := box7 hg1
            obtain ⟨u2, hu2, hg2, hl2, hsz2, hot2⟩ := setone hg1 1 (.int .i64 1) hl1 (Nat.le_refl _)
            have HO2 : Hid (u2.ownsRow w.heap.size 3 1 (.slice lo1 ll.length lc1) ll.length (ll.map (Value.int .i64))) := row_far HO1.out hg1 (by decide) (fun b hb _ => hot2 b hb)
            have HU2 := Hid.mk' hu2
            clear hg1 hl1 hot2 hu2 HO1
            have hal : Below u2.heap.size u2 (u2.alloc (.cells #[.int .i64 ser, .int .i64 1, .int .i64 nn, .string ss, .slice lo1 ll.length lc1, .bool rc0, .bool ab0] 27)) := (Below.refl _ _).alloc (Nat.le_refl _) _
            have HBZ : Hid (Below w.heap.size w u2) := HB.out.trans (hl2.mono HB.out.size)
            have HPZ : Hid (PRow w.heap.size (u2.alloc (.cells #[.int .i64 ser, .int .i64 1, .int .i64 nn, .string ss, .slice lo1 ll.length lc1, .bool rc0, .bool ab0] 27)) (.slice so k sc) ms) := (HROW.out.below hl2).below hal
            have HOZ : Hid ((u2.alloc (.cells #[.int .i64 ser, .int .i64 1, .int .i64 nn, .string ss, .slice lo1 ll.length lc1, .bool rc0, .bool ab0] 27)).ownsRow w.heap.size 3 1 (.slice lo1 ll.length lc1) ll.length (ll.map (Value.int .i64))) := row_below HO2.out hal
            have HLZ : Hid ((u2.alloc (.cells #[.int .i64 ser, .int .i64 1, .int .i64 nn, .string ss, .slice lo1 ll.length lc1, .bool rc0, .bool ab0] 27)).ownsRow w.heap.size 27 7 (.slice (some ⟨u1.heap.size, 0, none⟩) 1 1) 1 (Pe.cells ⟨ser, ⟨1, nn, ss, ll⟩, .slice lo1 ll.length lc1, rc0, ab0⟩)) := by rw [← hsz2]; exact World.ownsRow_lit u2 #[.int .i64 ser, .int .i64 1, .int .i64 nn, .string ss, .slice lo1 ll.length lc1, .bool rc0, .bool ab0] 1 HBZ.out.size (by decide) rfl
            have HBAL : Hid (Below w.heap.size w (u2.alloc (.cells #[.int .i64 ser, .int .i64 1, .int .i64 nn, .string ss, .slice lo1 ll.length lc1, .bool rc0, .bool ab0] 27))) := HBZ.out.trans (hal.mono HBZ.out.size)
            have HTAKE : Hid ((ms ++ [(⟨ser, ⟨1, nn, ss, ll⟩, .slice lo1 ll.length lc1, rc0, ab0⟩ : Pe)]).map Pe.key = (es.take (k + 1)).map keyz) := by show _ = _; rw [List.map_append, HEM.out, List.take_add_one, HE.out]; rw [List.map_append]; exact congrArg (fun z => (es.take k).map keyz ++ [z]) HKZ.out
            clear hg2 hl2 hal hsz1 hsz2
            go_wp2_with (first | (rw [← HU1.out]) | (at_builtin; rw [← HU2.out]; refine gappL rfl _ _ Pe.len Tryd.infoPnR rfl (by decide) Tryd.underlying22 rfl rfl rfl (by have := HPZ.out.row; rw [HEL.out]; rw [HEL.out] at this; exact this) HLZ.out (Pe.one rfl) HBAL.out.size (by rw [HEL.out]; omega) (by decide) ?_; intro v2 u5 hr hg hb5; have HP5 := Hid.mk' (HPZ.out.push hg hr HOZ.out); obtain ⟨ao, cap, hv2⟩ := row_slice hr; subst hv2; have HB5 : Hid (Below w.heap.size w u5) := HBAL.out.trans hb5; clear hr hg hb5))
            go_roundw
            case rel => exact ⟨k + 1, _, by omega, by go_num, (by show _ = _; rw [List.length_append, HEL.out]; rfl), HTAKE.out, (by have := HP5.out; simp only [List.length_append, List.length_singleton] at this; exact this), HB5.out⟩
            case measure => simp [intOf]; omega
    · have hke : n = k := by omega
      have hlti : ¬ (k : Int) < (n : Int) := by omega
      have HALL : Hid (ms.map Pe.key = es.map keyz) := by show _ = _; rw [HEM.out, List.take_of_length_le (by have := HLEN.out; omega)]
      subst hke
      clear hk hlt hlti
      have hlti : ¬ (n : Int) < (n : Int) := by omega
      have HMA := Hid.mk' (made_of HIN.out HALL.out).1
      have HMI := Hid.mk' (made_of HIN.out HALL.out).2.1
      have HPM : Hid (PsLies wr (.slice so n sc) ms) := HROW.out.lies
      go_wp2_with fail
      refine Calls.mono (HCR.out _ ms _ HPM.out HMI.out HB.out) ?_
      rintro e w2 ⟨rfl, hb2⟩
      have HB2 : Hid (Below w.heap.size w w2) := HB.out.trans (hb2.mono HB.out.size)
      have HPM2 : Hid (PsLies w2 (.slice so n sc) ms) := HPM.out.below hb2
      have HRB : Hid (readAll (crashB ms).data.toList = some (backs ms)) := read_back HMA.out
      have HCB : Hid ((crashB (pesOf 0 (backs ms))).data.toList = (crashB ms).data.toList) := crash_back HMA.out
      have HSZ : Hid ((crashB ms).size ≤ 1099511627776) := by
        have h1 := crashL_small HMA.out ms.length
        have h2 := HMI.out.size
        show (crashL ms ms.length).toArray.size ≤ _
        rw [List.size_toArray]; omega
      have HBI : Hid (PsIn (pesOf 0 (backs ms))) := back_in HMA.out HMI.out.size
      have HBL : Hid ((pesOf 0 (backs ms)).length = n) := by show _ = _; rw [pesOf_len, backs, List.length_map, HEL.out]
      have HBE : Hid (∀ (i : Nat) e, ms[i]? = some e → ∃ d, (pesOf 0 (backs ms))[i]? = some d ∧ d.rc = e.rc ∧ d.x.kind = e.x.kind) := fun i e h => ⟨_, pes_at ms 0 i e h, rfl, back_kind (HMA.out e (List.mem_of_getElem? h))⟩
      have HRP : Hid (∀ B u v er, ReadPost (crashB ms).data.toList B u v er → PRow B u v (pesOf 0 (backs ms)) ∧ er = 0) := fun B u v er h => by
        unfold ReadPost at h
        rw [HRB.out] at h
        rcases h with ⟨-, h1, h2⟩ | ⟨h1, -, -⟩
        · exact ⟨h1, h2⟩
        · exact absurd HCB.out h1
      generalize hSq : crashB ms = S at *
      have HIR : Hid (∀ xs, readAll S.data.toList = some xs → PsIn (pesOf 0 xs)) := fun xs hx => by
        rw [HRB.out] at hx
        rw [← Option.some.inj hx]
        exact HBI.out
      generalize pesOf 0 (backs ms) = bs at HCB HBI HBL HBE HRP
      clear hb2 hSq HPM
      go_wp2_with fail
      refine Calls.mono (HRD.out _ _ HSZ.out HB2.out HIR.out) ?_
      rintro e w3 ⟨v3, er, rfl, hrp, hb3⟩
      obtain ⟨hp3, rfl⟩ : PRow w2.heap.size w3 v3 bs ∧ er = 0 := by
        have h1 := HRP.out _ _ _ _ hrp
        exact h1
      have HB3 : Hid (Below w.heap.size w w3) := HB2.out.trans (hb3.mono HB2.out.size)
      have HPM3 : Hid (PsLies w3 (.slice so n sc) ms) := HPM2.out.below hb3
      obtain ⟨bo, bc, hv3⟩ := row_slice hp3.row
      rw [HBL.out] at hv3
      subst hv3
      have HPB3 : Hid (PsLies w3 (.slice bo n bc) bs) := hp3.lies
      clear hb3 hrp hp3
      go_wp2_with fail
      refine Calls.mono (HON.out _ _ HB3.out (Below.refl _ _)) ?_
      rintro e w4 ⟨rfl, hb4⟩
      have hb34 : Below w3.heap.size w3 w4 := ((Below.refl _ _).alloc (Nat.le_refl _) _).trans (hb4.mono (by simp))
      have HB4 : Hid (Below w.heap.size w w4) := HB3.out.trans (hb34.mono HB3.out.size)
      have HPM4 : Hid (PsLies w4 (.slice so n sc) ms) := HPM3.out.below hb34
      have HPB4 : Hid (PsLies w4 (.slice bo n bc) bs) := HPB3.out.below hb34
      clear hb4 hb34
      go_wp2_with fail
      refine Calls.mono (HCR.out _ bs _ HPB4.out HBI.out HB4.out) ?_
      rintro e w5 ⟨he5, hb5⟩
      rw [ba_eq HCB.out] at he5
      subst he5
      have HB5 : Hid (Below w.heap.size w w5) := HB4.out.trans (hb5.mono HB4.out.size)
      have HPM5 : Hid (PsLies w5 (.slice so n sc) ms) := HPM4.out.below hb5
      have HPB5 : Hid (PsLies w5 (.slice bo n bc) bs) := HPB4.out.below hb5
      clear hb5
      go_wp2_with fail
      go_loopw [10] (fun s10 wr => ∃ (k : Nat), k ≤ n ∧ s10 = .int .i64 k ∧ Hid (Below w5.heap.size w5 wr)) (fun i _ => n - (intOf i).toNat)
      case atStart => exact ⟨0, Nat.zero_le _, rfl, Below.refl _ _⟩
      case round =>
        obtain ⟨k, hk, rfl, HBk⟩ := hrel
        obtain ⟨wk, hwk⟩ : ∃ x, x = wr := ⟨_, rfl⟩
        subst hwk
        by_cases hlt : k < n
        · have hltk : (k : Int) < (n : Int) := by omega
          obtain ⟨⟨ser, ⟨kd, nn, ss, ll⟩, L, rc0, ab0⟩, he⟩ : ∃ e, ms[k]? = some e := ⟨ms[k]'(by rw [HEL.out]; exact hlt), List.getElem?_eq_getElem _⟩
          obtain ⟨⟨ser2, ⟨kd2, nn2, ss2, ll2⟩, L2, rc2, ab2⟩, hd, hrc, hkd⟩ := HBE.out k _ he
          simp only at hrc hkd
          subst hrc
          subst hkd
          obtain ⟨b1, o1, rfl, hx1⟩ := (HPM5.out.below HBk.out).at he
          obtain ⟨b2, o2, rfl, hx2⟩ := (HPB5.out.below HBk.out).at hd
          obtain ⟨⟨-, c1, -, -, -, c5, -⟩, -⟩ := hx1 wk (Below.refl _ _)
          obtain ⟨⟨-, d1, -, -, -, d5, -⟩, -⟩ := hx2 wk (Below.refl _ _)
          simp only at c1 c5 d1 d5
          clear hx1 hx2 he hd
          go_wp2_with fail
          go_quiet (fail)
          go_wp2_with fail
          go_roundw
          case rel => exact ⟨k + 1, by omega, by go_num, HBk.out.trans ((⟨rfl, rfl, rfl, Nat.le_refl _, fun _ _ => rfl⟩ : Below wk.heap.size wk (wk.drewN _)).mono HBk.out.size)⟩
          case measure => simp [intOf]; omega
        · have hltk : ¬ (k : Int) < (n : Int) := by omega
          have HBF : Hid (Below w.heap.size w wk) := HB5.out.trans (HBk.out.mono HB5.out.size)
          go_wp2_with fail
          go_ret
          exact ⟨rfl, HBF.out⟩

theorem contract (H : Type) (enc : TypeId × Value → H) (W : World) (base : Nat) (args : Array Value) (ds gs : List (DataW H)) (before : List MemPlace)
    (hval : ∀ (j : Nat) t v, Tryd.f3.params[j]? = some t → args[j]? = some v → Value.okWide Tryd.prog W .any base t v)
    (hW : DataW.Whole enc Tryd.prog Tryd.f3.params.toList Rows.reportBackSpec.vars false W args.toList ds gs before)
    (hk : Rows.uptoSmall H (ds ++ gs) = true) (hL : laidMetH Tryd.prog Rows.reportBackRow.laid W) :
    Calls Tryd.prog 3 args W fun e W' => ∃ v, e = .returned v ∧ Rows.reportBackSpec.post enc Tryd.prog Tryd.f3 false true false false W args v W' := by
  have hW' := hW
  obtain ⟨p, q, hA0, hV, rfl, hfz, hnd⟩ := hW
  have hA : DataW.TrodAll enc Tryd.prog W 0 (fun _ => true) true Tryd.f3.params.toList args.toList ds p := hA0
  rw [Tryd.params3] at hA hval
  obtain ⟨v0, vs0, d0, ds0, p0, q0, hargs, rfl, rfl, h0, r0⟩ := trodAll_cons hA
  obtain ⟨rfl, rfl, rfl⟩ := trodAll_nil r0
  obtain rfl : args = #[v0] := by cases args; simp_all
  obtain ⟨rfl, rfl⟩ := trodVars_none hV
  obtain ⟨ao, len, cap, rfl⟩ := okWide_slice Tryd.underlying22 (hval 0 22 v0 rfl rfl)
  have h0k := h0
  obtain ⟨fuel0, hf0⟩ := h0
  obtain ⟨es, hC, hE⟩ := ps_came hf0 (small_part hk (by simp))
  clear hA0
  simp only [List.append_nil] at hW'
  have hlt : ∀ x ∈ p0, x.block < W.heap.size := fun x hx => hW'.lt x (by simpa using hx)
  refine (walk _ es W hC hE (lib_of hL)).mono fun e W' ⟨he, bel⟩ => ?_
  subst he
  exact ⟨_, rfl, _, _, _, [], p0 ++ [], [], hW', trodAll_mk1 (shut_bool Tryd.underlying4 _), trodAll_cons_mk (Below.trod (by kernel_rfl) (by kernel_rfl) (of_decide_eq_true (by kernel_rfl)) h0k bel hlt) trodAll_mk0, rfl, bel.frame _, fun h => by cases h⟩

noncomputable def low : Nat := (World.holding Tryd.prog default ⟨#[], #[], []⟩).heap.size
noncomputable def laidWorld (os : Os) : World :=
  let w0 := World.holding Tryd.prog os ⟨#[.cells #[.string ⟨#[118, 97, 108, 117, 101, 32, 111, 117, 116, 32, 111, 102, 32, 114, 97, 110, 103, 101]⟩] 113, .cells #[.string ⟨#[105, 110, 118, 97, 108, 105, 100, 32, 115, 121, 110, 116, 97, 120]⟩] 113], #[], []⟩
  { w0 with heap := (((((w0.heap.modify 4 fun
      | .cells _ t frozen => .cells #[.int .u64 1, .int .u64 10, .int .u64 100, .int .u64 1000, .int .u64 10000, .int .u64 100000, .int .u64 1000000, .int .u64 10000000, .int .u64 100000000, .int .u64 1000000000, .int .u64 10000000000, .int .u64 100000000000, .int .u64 1000000000000, .int .u64 10000000000000, .int .u64 100000000000000, .int .u64 1000000000000000, .int .u64 10000000000000000, .int .u64 100000000000000000, .int .u64 1000000000000000000, .int .u64 10000000000000000000] t frozen
      | o => o).modify 5 fun
      | .cells _ t frozen => .cells #[.int .u8 0, .int .u8 1, .int .u8 28, .int .u8 2, .int .u8 29, .int .u8 14, .int .u8 24, .int .u8 3, .int .u8 30, .int .u8 22, .int .u8 20, .int .u8 15, .int .u8 25, .int .u8 17, .int .u8 4, .int .u8 8, .int .u8 31, .int .u8 27, .int .u8 13, .int .u8 23, .int .u8 21, .int .u8 19, .int .u8 16, .int .u8 7, .int .u8 26, .int .u8 12, .int .u8 18, .int .u8 6, .int .u8 11, .int .u8 5, .int .u8 10, .int .u8 9] t frozen
      | o => o).modify 6 fun
      | .cells _ t frozen => .cells #[.int .u8 0, .int .u8 1, .int .u8 56, .int .u8 2, .int .u8 57, .int .u8 49, .int .u8 28, .int .u8 3, .int .u8 61, .int .u8 58, .int .u8 42, .int .u8 50, .int .u8 38, .int .u8 29, .int .u8 17, .int .u8 4, .int .u8 62, .int .u8 47, .int .u8 59, .int .u8 36, .int .u8 45, .int .u8 43, .int .u8 51, .int .u8 22, .int .u8 53, .int .u8 39, .int .u8 33, .int .u8 30, .int .u8 24, .int .u8 18, .int .u8 12, .int .u8 5, .int .u8 63, .int .u8 55, .int .u8 48, .int .u8 27, .int .u8 60, .int .u8 41, .int .u8 37, .int .u8 16, .int .u8 46, .int .u8 35, .int .u8 44, .int .u8 21, .int .u8 52, .int .u8 32, .int .u8 23, .int .u8 11, .int .u8 54, .int .u8 26, .int .u8 40, .int .u8 15, .int .u8 34, .int .u8 20, .int .u8 31, .int .u8 10, .int .u8 25, .int .u8 14, .int .u8 19, .int .u8 9, .int .u8 13, .int .u8 8, .int .u8 7, .int .u8 6] t frozen
      | o => o).modify 3 fun
      | .cells _ t frozen => .cells #[.iface 111 (.pointer (some ⟨low, 0, none⟩))] t frozen
      | o => o).modify 2 fun
      | .cells _ t frozen => .cells #[.iface 111 (.pointer (some ⟨low + 1, 0, none⟩))] t frozen
      | o => o) }
theorem laid_met (os : Os) : laidMet Tryd.prog Rows.reportBackUptoRow.laid ((laidWorld os).forCall (fun _ _ => 0) ⟨#[], #[.slice none 0 0], []⟩).memory :=
  laidMet_of_run' 8 (by kernel_rfl) (by kernel_rfl)
theorem reads (os : Os) {H : Type} (enc : TypeId × Value → H) : ∃ places, DataW.whole enc Tryd.prog ((laidWorld os).forCall (fun _ _ => 0) ⟨#[], #[.slice none 0 0], []⟩).memory Tryd.f3.params.toList Rows.reportBackSpec.vars false #[Value.slice none 0 0].toList 8 = some ([.nil], [], places) :=
  ⟨[], by kernel_rfl⟩

set_option maxRecDepth 100000 in
theorem lifted (os : Os) (started : os.Started) (H : Type) (enc : TypeId × Value → H) (F : Stop.Interp) :
    ReturnsInHanded {} Tryd.checked os 3 .any ((Rows.OpenSpec.upto Rows.reportBackSpec).preRow enc Tryd.prog Tryd.f3 Rows.reportBackUptoRow.domain false Rows.reportBackUptoRow.laid) (((Rows.OpenSpec.upto Rows.reportBackSpec).at F).post enc Tryd.prog Tryd.f3 false true false false) := by
  obtain ⟨places, hx⟩ := reads os enc
  refine returnsInHanded_of_row (C := Tryd.checked) (s := Rows.OpenSpec.upto Rows.reportBackSpec) own started (by kernel_rfl) Tryd.func3
    (witness_row_atRef (enc := enc) (C := Tryd.checked) false (laidWorld os) #[.slice none 0 0] rfl (by kernel_rfl) (by kernel_rfl) (by kernel_rfl)
      (OpenSpec.preRow_of_cond 8 hx (by kernel_rfl) (fun k hk => by cases hk; kernel_rfl) (by kernel_rfl) (laid_met os))) ?_
  intro W base args ds gs before hval hW _ hcond hsz hL _ _
  exact contract H enc W base args ds gs before hval hW (hcond _ rfl) hL

theorem said : Rows.ReportBackUptoSaid :=
  OpenClaim.holds_of_cond 3 Tryd.f3 rfl rfl rfl rfl rfl rfl rfl ⟨rfl, rfl, rfl, rfl, rfl⟩ rfl rfl rfl rfl rfl (by kernel_rfl) Tryd.func3 (by kernel_rfl)
    (of_decide_eq_true (by kernel_rfl)) (by unfold Func.isWrapper; first | (rw [if_pos (by decide +kernel)]; kernel_rfl) | (rw [if_neg (by decide +kernel)]; exact ⟨rfl, rfl⟩))
    (fun os started H enc _ F => by rw [OpenClaim.pre_eq_preRow]; exact lifted os started H enc F)

theorem plain (f : FuncId) (fn : Func) (hf : Tryd.pinned.checked.prog.funcNamed "panicroad/panicroadkeep.ReportBack" = some f) (hfn : Tryd.pinned.checked.prog.funcs[f]? = some fn) :
    true = Tryd.pinned.checked.prog.looks [] ∧ ∀ (j : Nat) t, fn.params[j]? = some t → Tryd.pinned.checked.prog.wantsStandIn t = false := by
  obtain rfl : f = 3 := Option.some.inj ((show Tryd.prog.funcNamed "panicroad/panicroadkeep.ReportBack" = some 3 by kernel_rfl).symm.trans hf) |>.symm
  obtain rfl : fn = Tryd.f3 := (Option.some.inj (Tryd.func3.symm.trans hfn)).symm
  refine ⟨by kernel_rfl, fun j t ht => ?_⟩
  rw [Tryd.params3] at ht
  have hm := Array.mem_of_getElem? ht
  simp at hm
  subst hm
  exact (show Tryd.prog.wantsStandIn 22 = false by kernel_rfl)

theorem card : Rows.ReportBackUptoCardSaid :=
  Claim7.holds_tied_plain_at .later [] _ _ _ _ said (fun _ h => by cases h) (by kernel_rfl) (fun _ h => by cases h) reportBackUpto_row_tie rfl ⟨rfl, rfl⟩ (by kernel_rfl) rfl plain (by kernel_rfl)
#print axioms card
end Go.Proofs.YtncjaohiimenaabDoor.reportBack
