/- What fault.match answers: whether a text has a form, and the numbers in its gaps. -/
import Derived.Test.YtjmklmcnlieplaaDoorFtext
import Derived.Shelf.Strings.SlTrimAscii
namespace Go.Proofs.YtjmklmcnlieplaaDoor
open Go.ChangeShapes Go.WideShapes Go.ChangeAt Go.RowKit
set_option maxRecDepth 100000
set_option linter.unusedSimpArgs false
set_option linter.unusedVariables false
/-- Digits and the minus. -/
def dgs : ByteArray := ⟨#[45, 48, 49, 50, 51, 52, 53, 54, 55, 56, 57]⟩
def restB (t : ByteArray) : ByteArray := ⟨(Lib.trimLeftS t.data.toList dgs.data.toList).toArray⟩
def digsB (t : ByteArray) : ByteArray := t.extract 0 (t.size - (restB t).size)
def haspB (t p : ByteArray) : Bool := Lib.hasPrefix t.data.toList p.data.toList
def cutpB (t p : ByteArray) : ByteArray := ⟨(Lib.trimPrefix t.data.toList p.data.toList).toArray⟩
theorem drop_len {α : Type} (q : α → Bool) : ∀ l : List α, (l.dropWhile q).length ≤ l.length
  | [] => by simp
  | a :: l => by
    rw [List.dropWhile_cons]
    split
    · have := drop_len q l; simp; omega
    · simp
theorem rest_le (t : ByteArray) : (restB t).size ≤ t.size := by
  show (Lib.trimLeftS t.data.toList dgs.data.toList).toArray.size ≤ t.size
  rw [List.size_toArray]
  have h := drop_len (dgs.data.toList.contains ·) t.data.toList
  have e : t.data.toList.length = t.size := Array.length_toList
  unfold Lib.trimLeftS
  omega
theorem cut_le (t p : ByteArray) : (cutpB t p).size ≤ t.size := by
  show (Lib.trimPrefix t.data.toList p.data.toList).toArray.size ≤ t.size
  rw [List.size_toArray]
  have e : t.data.toList.length = t.size := Array.length_toList
  unfold Lib.trimPrefix
  split
  · rw [List.length_drop]; omega
  · omega
theorem digs_le (t : ByteArray) : (digsB t).size ≤ t.size := by
  unfold digsB
  rw [ByteArray.size_extract]; omega
/-- One piece more. -/
def M1 (k : Nat) (p : ByteArray) (s : ByteArray × Int × Int) : Option (ByteArray × Int × Int) :=
  if k = 0 then (if haspB s.1 p = true then some (cutpB s.1 p, s.2) else none)
  else if rdE (digsB s.1) = 0 then (if haspB (restB s.1) p = true then some (cutpB (restB s.1) p, if k = 1 then (rdN (digsB s.1), s.2.2) else (s.2.1, rdN (digsB s.1))) else none) else none
/-- The first k pieces. -/
def MM (ps : List ByteArray) (t : ByteArray) : Nat → Option (ByteArray × Int × Int)
  | 0 => some (t, 0, 0)
  | k + 1 => match MM ps t k, ps[k]? with
    | some s, some p => M1 k p s
    | _, _ => none
theorem MM_succ {ps : List ByteArray} {t : ByteArray} {k : Nat} {s : ByteArray × Int × Int} {p : ByteArray} (h : MM ps t k = some s) (hp : ps[k]? = some p) : MM ps t (k + 1) = M1 k p s := by rw [MM, h, hp]
theorem MM_none {ps : List ByteArray} {t : ByteArray} {k : Nat} (h : MM ps t k = none) : ∀ j, MM ps t (k + j) = none
  | 0 => h
  | j + 1 => by rw [show k + (j + 1) = (k + j) + 1 by omega, MM, MM_none h j]
def matchF (ps : List ByteArray) (t : ByteArray) : Option (Int × Int) := match MM ps t ps.length with
  | some (r, n) => if (r.toList == ([] : List UInt8)) = true then some n else none
  | none => none
theorem match_none {ps : List ByteArray} {t : ByteArray} {k : Nat} (h : MM ps t k = none) (hk : k ≤ ps.length) : matchF ps t = none := by
  have := MM_none h (ps.length - k)
  rw [show k + (ps.length - k) = ps.length by omega] at this
  unfold matchF
  rw [this]
theorem rd_in (s : ByteArray) : I64 (rdN s) := by
  by_cases h : rdE s = 0
  · exact (rd_ok h).2
  · have : rdN s = 0 := by
      unfold rdE at h; unfold rdN
      split at h
      · split at h
        · exact absurd rfl h
        · rename_i v hv hne; rw [if_neg hne]
      · rfl
    rw [this]; exact i64_0
theorem rdE_bad {s : ByteArray} (h : ¬ rdE s = 0) : rdE s = 3 := by
  unfold rdE at *
  split at h
  · split at h
    · exact absurd rfl h
    · rename_i v hv hne; simp only [if_neg hne]
  · rfl
def MatchPost (ps : List ByteArray) (t : ByteArray) (w : World) (e : Ending) (w' : World) : Prop :=
  ∃ (n0 n1 : Int) (ok : Bool), e = .returned (.tuple #[.agg #[.int .i64 n0, .int .i64 n1], .bool ok]) ∧ (ok = true → matchF ps t = some (n0, n1) ∧ I64 n0 ∧ I64 n1) ∧ (ok = false → matchF ps t = none) ∧ Below w.heap.size w w'
theorem trimL_any (t : ByteArray) (w : World) : Calls Tryd.prog 24 #[.string t, .string ⟨#[45, 48, 49, 50, 51, 52, 53, 54, 55, 56, 57]⟩] w fun e w' => e = .returned (.string (restB t)) ∧ Below w.heap.size w w' :=
  Any.strings_TrimLeft_laid Tryd.lays161 (by kernel_rfl) t ⟨#[45, 48, 49, 50, 51, 52, 53, 54, 55, 56, 57]⟩ w (by decide) (by
    intro j b h
    have hm := List.mem_of_getElem? h
    simp at hm
    rcases hm with rfl | rfl | rfl | rfl | rfl | rfl | rfl | rfl | rfl | rfl | rfl <;> decide)
theorem cut_any (t p : ByteArray) (w : World) : Calls Tryd.prog 12 #[.string t, .string p] w fun e w' => e = .returned (.tuple #[.string (cutpB t p), .bool (haspB t p)]) ∧ w' = w := Tryd.strings_CutPrefix t p w
theorem slice_to (s : ByteArray) (k : Nat) (h : k ≤ s.size) (W : World) : (Instr.slice 9 (.string s) none (some (.int .i64 (k : Int))) none).run Tryd.prog W = .ok (.string (s.extract 0 k)) W := by
  have := run_slice_string_h W 9 s Tryd.underlying9 .i64 k (by omega) (by omega)
  rw [this]
  rfl
theorem slice_digs (t : ByteArray) (W : World) : (Instr.slice 9 (.string t) none (some (.int .i64 ((t.size : Int) - ((restB t).size : Int)))) none).run Tryd.prog W = .ok (.string (digsB t)) W := by
  have h := rest_le t
  have h2 := slice_to t (t.size - (restB t).size) (by omega) W
  rw [show ((t.size - (restB t).size : Nat) : Int) = (t.size : Int) - ((restB t).size : Int) by omega] at h2
  exact h2
theorem nbox2 {w : World} {b : Nat} {n0 n1 : Int} (h : w.heap[b]? = some (nbox n0 n1)) : (w.cell? ⟨b, 0, none⟩ = some (.int .i64 n0) ∧ w.cell? ⟨b, 1, none⟩ = some (.int .i64 n1)) ∧ w.frozen? ⟨b, 0, none⟩ = false ∧ w.frozen? ⟨b, 1, none⟩ = false := by
  unfold nbox at h
  simp [World.cell?, World.frozen?, h]
theorem nbox_set0 {w : World} {b : Nat} {n0 n1 : Int} (h : w.heap[b]? = some (nbox n0 n1)) (v : Int) : (w.setCell ⟨b, 0, none⟩ (.int .i64 v)).heap[b]? = some (nbox v n1) := by
  unfold nbox at *
  simp [World.setCell, Array.getElem?_modify, h]
theorem nbox_set1 {w : World} {b : Nat} {n0 n1 : Int} (h : w.heap[b]? = some (nbox n0 n1)) (v : Int) : (w.setCell ⟨b, 1, none⟩ (.int .i64 v)).heap[b]? = some (nbox n0 v) := by
  unfold nbox at *
  simp [World.setCell, Array.getElem?_modify, h]
def MRel (ps : List ByteArray) (t : ByteArray) (w : World) (k : Nat) (r : ByteArray) (n0 n1 : Int) (wr : World) : Prop :=
  MM ps t k = some (r, n0, n1) ∧ I64 n0 ∧ I64 n1 ∧ wr.heap[w.heap.size]? = some (nbox n0 n1) ∧ wr.heap[w.heap.size + 1]? = some (.cells (ps.map Value.string).toArray 9 (0, 0)) ∧ Below w.heap.size w wr
set_option maxHeartbeats 8000000 in
theorem own_match (t form : ByteArray) (ps : List ByteArray) (hf : FormIs form ps) (ht : t.size ≤ 140737488355328) (w : World) (hl : Lib3 w) :
    Calls Tryd.prog 13 #[.string t, .string form] w (MatchPost ps t w) := by
  have HSP : Hid (∀ o1, Calls Tryd.prog 17 #[.string form, .string ⟨#[35]⟩] (w.alloc o1) fun e w' => e = .returned (.slice (some ⟨w.heap.size + 1, 0, none⟩) ps.length ps.length) ∧ w' = (w.alloc o1).alloc (.cells (ps.map Value.string).toArray 9)) := fun o1 => by
    have h := split_one form 35 (w.alloc o1) (by have := hf.len; omega)
    rw [hf.cut, hf.num] at h
    have e : (w.alloc o1).heap.size = w.heap.size + 1 := by simp
    rw [e] at h
    exact h
  have h3 : ps.length ≤ 3 := hf.few
  have HR : Hid (∀ W s, Below w.heap.size w W → s.size ≤ t.size → Calls Tryd.prog 25 #[.string s] W fun e w' => e = .returned (.tuple #[.int .i64 (rdN s), .int .i64 (rdE s)]) ∧ Below W.heap.size W w') := fun W s hW hs => read_any s (by omega) W (hl.below hW)
  clear hf hl
  go_enter Tryd.func13, Tryd.ntmps13
  go_wp2_with fail
  refine (HSP.out _).mono ?_
  rintro e u ⟨rfl, rfl⟩
  clear HSP
  go_wp2_with fail
  go_loopw [0, 14] (fun tv iv wr => ∃ (k : Nat) (r : ByteArray) (n0 n1 : Int), k ≤ ps.length ∧ tv = .string r ∧ iv = .int .i64 k ∧ r.size ≤ t.size ∧ Hid (MRel ps t w k r n0 n1 wr)) (fun _ i _ => ps.length - (intOf i).toNat)
  case atStart =>
    refine ⟨0, t, 0, 0, Nat.zero_le _, rfl, rfl, Nat.le_refl _, rfl, i64_0, i64_0, ?_, ?_, ?_⟩
    · have e : (w.alloc (nbox 0 0)).heap.size = w.heap.size + 1 := by simp
      show ((w.alloc (nbox 0 0)).alloc _).heap[w.heap.size]? = _
      rw [Below.heap_alloc _ _ _ (by rw [e]; omega)]; exact Array.getElem?_push_size
    · have e : (w.alloc (nbox 0 0)).heap.size = w.heap.size + 1 := by simp
      show (World.alloc (w.alloc (nbox 0 0)) _).heap[w.heap.size + 1]? = _
      rw [← e]; exact Array.getElem?_push_size
    · exact ((Below.refl _ _).alloc (Nat.le_refl _) _).alloc (by simp) _
  case round =>
    obtain ⟨k, r, n0, n1, hk, rfl, rfl, hrs, HQ⟩ := hrel
    have HBW : Hid (Below w.heap.size w wr) := HQ.out.2.2.2.2.2
    have hsz : w.heap.size + 1 < wr.heap.size := (Array.getElem?_eq_some_iff.1 HQ.out.2.2.2.2.1).1
    have hz0 : w.heap.size < wr.heap.size := by omega
    by_cases hlt : k < ps.length
    · have hx : ps[k]? = some ps[k] := List.getElem?_eq_getElem hlt
      have hc : wr.cell? ⟨w.heap.size + 1, k, none⟩ = some (.string ps[k]) := by
        rw [Lib.cell_of_heap HQ.out.2.2.2.2.1]; simp [hx]
      have HPK : Hid (ps[k]? = some ps[k]) := hx
      have hlt2 : (k : Int) < (ps.length : Int) := by omega
      clear hx
      generalize ps[k] = p at *
      have HM : Hid (MM ps t (k + 1) = M1 k p (r, n0, n1)) := MM_succ HQ.out.1 HPK.out
      have hk3 : k = 0 ∨ k = 1 ∨ k = 2 := by omega
      rcases hk3 with rfl | rfl | rfl
      · have HCU : Hid (∀ W, Calls Tryd.prog 12 #[.string r, .string p] W fun e w' => e = .returned (.tuple #[.string (cutpB r p), .bool (haspB r p)]) ∧ w' = W) := fun W => cut_any r p W
        obtain ⟨⟨c0, c1⟩, f0, f1⟩ := nbox2 HQ.out.2.2.2.1
        cases hh : haspB r p with
        | false =>
          rw [hh] at HCU
          have HN : Hid (matchF ps t = none) := match_none (HM.out.trans (by unfold M1; rw [if_pos rfl, if_neg (by simp [hh])])) (by omega)
          clear hh
          go_wp2_with fail
          refine (HCU.out _).mono ?_
          rintro e u0 ⟨rfl, hu⟩
          rw [hu]; clear hu
          go_wp2_with fail
          exact bodyPost_ret (v := .tuple #[.agg #[.int .i64 0, .int .i64 0], .bool false]) (by simp [results, Tryd.results13, go_sem, c0, c1, hz0]) rfl ⟨0, 0, false, rfl, (fun h => by cases h), (fun _ => HN.out), ((HBW.out.setCell (Nat.le_refl _) _).setCell (Nat.le_refl _) _)⟩
        | true =>
          rw [hh] at HCU
          have HM2 : Hid (MM ps t 1 = some (cutpB r p, n0, n1)) := HM.out.trans (by unfold M1; rw [if_pos rfl, if_pos hh])
          clear hh c0 c1 f0 f1
          go_wp2_with fail
          refine (HCU.out _).mono ?_
          rintro e u0 ⟨rfl, hu⟩
          rw [hu]; clear hu
          go_wp2_with fail
          go_roundw
          case rel => exact ⟨1, cutpB r p, n0, n1, by omega, rfl, by go_num, Nat.le_trans (cut_le r p) hrs, HM2.out, HQ.out.2⟩
          case measure => simp [intOf]; omega
      · have hsl := slice_digs r
        have hrl := rest_le r
        go_wp2_with fail
        refine (trimL_any r _).mono ?_
        rintro e u1 ⟨rfl, b1⟩
        have HB1 : Hid (Below w.heap.size w u1) := HBW.out.trans (b1.mono (by omega))
        have hz1 : wr.heap.size ≤ u1.heap.size := b1.size
        have HQ1 : Hid (u1.heap[w.heap.size]? = some (nbox n0 n1) ∧ u1.heap[w.heap.size + 1]? = some (.cells (ps.map Value.string).toArray 9 (0, 0))) := ⟨(b1.block _ (by omega)).trans HQ.out.2.2.2.1, (b1.block _ (by omega)).trans HQ.out.2.2.2.2.1⟩
        clear b1 hc
        go_wp2_with fail
        refine (HR.out u1 (digsB r) HB1.out (Nat.le_trans (digs_le r) hrs)).mono ?_
        rintro e u2 ⟨rfl, b2⟩
        have HB2 : Hid (Below w.heap.size w u2) := HB1.out.trans (b2.mono (by omega))
        have hz2 : u1.heap.size ≤ u2.heap.size := b2.size
        have HQ2 : Hid (u2.heap[w.heap.size]? = some (nbox n0 n1) ∧ u2.heap[w.heap.size + 1]? = some (.cells (ps.map Value.string).toArray 9 (0, 0))) := ⟨(b2.block _ (by omega)).trans HQ1.out.1, (b2.block _ (by omega)).trans HQ1.out.2⟩
        clear b2 hsl HQ1 HB1 hz0
        have hz0 : w.heap.size < u2.heap.size := by omega
        clear hz1 hz2
        by_cases he : rdE (digsB r) = 0
        · rw [he]
          have HCU : Hid (∀ W, Calls Tryd.prog 12 #[.string (restB r), .string p] W fun e w' => e = .returned (.tuple #[.string (cutpB (restB r) p), .bool (haspB (restB r) p)]) ∧ w' = W) := fun W => cut_any (restB r) p W
          obtain ⟨⟨c0, c1⟩, f0, f1⟩ := nbox2 HQ2.out.1
          have HI : Hid (I64 (rdN (digsB r))) := rd_in _
          cases hh : haspB (restB r) p with
          | false =>
            rw [hh] at HCU
            have HN : Hid (matchF ps t = none) := match_none (HM.out.trans (by unfold M1; rw [if_neg (by decide), if_pos he, if_neg (by simp [hh])])) (by omega)
            clear hh he
            go_wp2_with fail
            refine (HCU.out _).mono ?_
            rintro e u0 ⟨rfl, hu⟩
            rw [hu]; clear hu
            go_wp2_with fail
            exact bodyPost_ret (v := .tuple #[.agg #[.int .i64 0, .int .i64 0], .bool false]) (by simp [results, Tryd.results13, go_sem, c0, c1, hz0]) rfl ⟨0, 0, false, rfl, (fun h => by cases h), (fun _ => HN.out), (((HB2.out.setCell (Nat.le_refl _) _).setCell (Nat.le_refl _) _).setCell (Nat.le_refl _) _)⟩
          | true =>
            rw [hh] at HCU
            have HM2 : Hid (MM ps t 2 = some (cutpB (restB r) p, rdN (digsB r), n1)) := HM.out.trans (by unfold M1; rw [if_neg (by decide), if_pos he, if_pos hh]; rfl)
            clear hh he
            go_wp2_with fail
            refine (HCU.out _).mono ?_
            rintro e u0 ⟨rfl, hu⟩
            rw [hu]; clear hu
            go_wp2_with fail
            go_roundw
            case rel => exact ⟨2, cutpB (restB r) p, rdN (digsB r), n1, by omega, rfl, by go_num, Nat.le_trans (cut_le _ p) (Nat.le_trans hrl hrs), HM2.out, HI.out, HQ.out.2.2.1, nbox_set0 HQ2.out.1 _, (Below.heap_setCell _ _ _ _ (by simp)).trans HQ2.out.2, HB2.out.setCell (Nat.le_refl _) _⟩
            case measure => simp [intOf]; omega
        · have e3 : rdE (digsB r) = 3 := rdE_bad he
          rw [e3]
          have HN : Hid (matchF ps t = none) := match_none (HM.out.trans (by unfold M1; rw [if_neg (by decide), if_neg he])) (by omega)
          obtain ⟨⟨c0, c1⟩, f0, f1⟩ := nbox2 HQ2.out.1
          clear he e3
          go_wp2_with fail
          exact bodyPost_ret (v := .tuple #[.agg #[.int .i64 0, .int .i64 0], .bool false]) (by simp [results, Tryd.results13, go_sem, c0, c1, hz0]) rfl ⟨0, 0, false, rfl, (fun h => by cases h), (fun _ => HN.out), ((HB2.out.setCell (Nat.le_refl _) _).setCell (Nat.le_refl _) _)⟩
      · have hsl := slice_digs r
        have hrl := rest_le r
        go_wp2_with fail
        refine (trimL_any r _).mono ?_
        rintro e u1 ⟨rfl, b1⟩
        have HB1 : Hid (Below w.heap.size w u1) := HBW.out.trans (b1.mono (by omega))
        have hz1 : wr.heap.size ≤ u1.heap.size := b1.size
        have HQ1 : Hid (u1.heap[w.heap.size]? = some (nbox n0 n1) ∧ u1.heap[w.heap.size + 1]? = some (.cells (ps.map Value.string).toArray 9 (0, 0))) := ⟨(b1.block _ (by omega)).trans HQ.out.2.2.2.1, (b1.block _ (by omega)).trans HQ.out.2.2.2.2.1⟩
        clear b1 hc
        go_wp2_with fail
        refine (HR.out u1 (digsB r) HB1.out (Nat.le_trans (digs_le r) hrs)).mono ?_
        rintro e u2 ⟨rfl, b2⟩
        have HB2 : Hid (Below w.heap.size w u2) := HB1.out.trans (b2.mono (by omega))
        have hz2 : u1.heap.size ≤ u2.heap.size := b2.size
        have HQ2 : Hid (u2.heap[w.heap.size]? = some (nbox n0 n1) ∧ u2.heap[w.heap.size + 1]? = some (.cells (ps.map Value.string).toArray 9 (0, 0))) := ⟨(b2.block _ (by omega)).trans HQ1.out.1, (b2.block _ (by omega)).trans HQ1.out.2⟩
        clear b2 hsl HQ1 HB1 hz0
        have hz0 : w.heap.size < u2.heap.size := by omega
        clear hz1 hz2
        by_cases he : rdE (digsB r) = 0
        · rw [he]
          have HCU : Hid (∀ W, Calls Tryd.prog 12 #[.string (restB r), .string p] W fun e w' => e = .returned (.tuple #[.string (cutpB (restB r) p), .bool (haspB (restB r) p)]) ∧ w' = W) := fun W => cut_any (restB r) p W
          obtain ⟨⟨c0, c1⟩, f0, f1⟩ := nbox2 HQ2.out.1
          have HI : Hid (I64 (rdN (digsB r))) := rd_in _
          cases hh : haspB (restB r) p with
          | false =>
            rw [hh] at HCU
            have HN : Hid (matchF ps t = none) := match_none (HM.out.trans (by unfold M1; rw [if_neg (by decide), if_pos he, if_neg (by simp [hh])])) (by omega)
            clear hh he
            go_wp2_with fail
            refine (HCU.out _).mono ?_
            rintro e u0 ⟨rfl, hu⟩
            rw [hu]; clear hu
            go_wp2_with fail
            exact bodyPost_ret (v := .tuple #[.agg #[.int .i64 0, .int .i64 0], .bool false]) (by simp [results, Tryd.results13, go_sem, c0, c1, hz0]) rfl ⟨0, 0, false, rfl, (fun h => by cases h), (fun _ => HN.out), (((HB2.out.setCell (Nat.le_refl _) _).setCell (Nat.le_refl _) _).setCell (Nat.le_refl _) _)⟩
          | true =>
            rw [hh] at HCU
            have HM2 : Hid (MM ps t 3 = some (cutpB (restB r) p, n0, rdN (digsB r))) := HM.out.trans (by unfold M1; rw [if_neg (by decide), if_pos he, if_pos hh]; rfl)
            clear hh he
            go_wp2_with fail
            refine (HCU.out _).mono ?_
            rintro e u0 ⟨rfl, hu⟩
            rw [hu]; clear hu
            go_wp2_with fail
            go_roundw
            case rel => exact ⟨3, cutpB (restB r) p, n0, rdN (digsB r), by omega, rfl, by go_num, Nat.le_trans (cut_le _ p) (Nat.le_trans hrl hrs), HM2.out, HQ.out.2.1, HI.out, nbox_set1 HQ2.out.1 _, (Below.heap_setCell _ _ _ _ (by simp)).trans HQ2.out.2, HB2.out.setCell (Nat.le_refl _) _⟩
            case measure => simp [intOf]; omega
        · have e3 : rdE (digsB r) = 3 := rdE_bad he
          rw [e3]
          have HN : Hid (matchF ps t = none) := match_none (HM.out.trans (by unfold M1; rw [if_neg (by decide), if_neg he])) (by omega)
          obtain ⟨⟨c0, c1⟩, f0, f1⟩ := nbox2 HQ2.out.1
          clear he e3
          go_wp2_with fail
          exact bodyPost_ret (v := .tuple #[.agg #[.int .i64 0, .int .i64 0], .bool false]) (by simp [results, Tryd.results13, go_sem, c0, c1, hz0]) rfl ⟨0, 0, false, rfl, (fun h => by cases h), (fun _ => HN.out), ((HB2.out.setCell (Nat.le_refl _) _).setCell (Nat.le_refl _) _)⟩
    · obtain rfl : k = ps.length := by omega
      have hnl : ¬ ((ps.length : Nat) : Int) < ((ps.length : Nat) : Int) := by omega
      obtain ⟨⟨c0, c1⟩, f0, f1⟩ := nbox2 HQ.out.2.2.2.1
      have HB : Hid (Below w.heap.size w wr ∧ I64 n0 ∧ I64 n1) := ⟨HBW.out, HQ.out.2.1, HQ.out.2.2.1⟩
      cases hh : (r.toList == ([] : List UInt8)) with
      | true =>
        have HN : Hid (matchF ps t = some (n0, n1)) := by
          show matchF ps t = some (n0, n1)
          unfold matchF; rw [HQ.out.1]; dsimp only; rw [if_pos hh]
        clear hlt HQ HBW
        go_wp2_with fail
        exact bodyPost_ret (v := .tuple #[.agg #[.int .i64 n0, .int .i64 n1], .bool true]) (by simp [results, Tryd.results13, go_sem, c0, c1, hz0]) rfl ⟨n0, n1, true, rfl, (fun _ => ⟨HN.out, HB.out.2⟩), (fun h => by cases h), (HB.out.1.setCell (Nat.le_refl _) _).setCell (Nat.le_refl _) _⟩
      | false =>
        have HN : Hid (matchF ps t = none) := by
          show matchF ps t = none
          unfold matchF; rw [HQ.out.1]; dsimp only; rw [if_neg (by simp [hh])]
        clear hlt HQ HBW
        go_wp2_with fail
        exact bodyPost_ret (v := .tuple #[.agg #[.int .i64 n0, .int .i64 n1], .bool false]) (by simp [results, Tryd.results13, go_sem, c0, c1, hz0]) rfl ⟨n0, n1, false, rfl, (fun h => by cases h), (fun _ => HN.out), (HB.out.1.setCell (Nat.le_refl _) _).setCell (Nat.le_refl _) _⟩
end Go.Proofs.YtjmklmcnlieplaaDoor
