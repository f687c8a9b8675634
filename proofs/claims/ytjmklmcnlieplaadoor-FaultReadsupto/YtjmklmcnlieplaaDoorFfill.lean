/- What fault.fill answers: a form, with numbers in its gaps. -/
import Derived.Test.YtjmklmcnlieplaaDoorBuilder3
import Derived.Test.YtjmklmcnlieplaaDoorConv
import Derived.Shelf.Strings.Split
import Derived.Lib.ItoaLen
namespace Go.Proofs.YtjmklmcnlieplaaDoor
open Go.ChangeShapes Go.WideShapes Go.ChangeAt Go.RowKit
set_option maxRecDepth 100000
set_option linter.unusedSimpArgs false

/-- strings.Split at a sign of one byte. -/
theorem split_one (s : ByteArray) (c : UInt8) (w : World) (hs : s.size < 4294967281) :
    Calls Tryd.prog 17 #[.string s, .string ⟨#[c]⟩] w fun e w' =>
      e = .returned (.slice (some ⟨w.heap.size, 0, none⟩) (Lib.countB s ⟨#[c]⟩ + 1) (Lib.countB s ⟨#[c]⟩ + 1)) ∧ w' = w.alloc (.cells ((Lib.splitB ⟨#[c]⟩ 0 (Lib.countB s ⟨#[c]⟩) s).map Value.string).toArray 9) := by
  have h1 : 1 ≤ (⟨#[c]⟩ : ByteArray).size := Nat.le_refl 1
  have hle := Lib.countB_le ⟨#[c]⟩ h1 s.size s (Nat.le_refl _)
  have hlen := Lib.splitB_all ⟨#[c]⟩ h1 0 _ s rfl
  have hI : ∀ (x : ByteArray) (cs : Array Value), x.size ≤ s.size → Calls Tryd.prog 44 #[.string x, .string ⟨#[c]⟩] (w.alloc (.cells cs 9)) fun e w' => e = .returned (.int .i64 (Lib.indexB x ⟨#[c]⟩)) ∧ w' = w.alloc (.cells cs 9) := by
    intro x cs _
    have := Tryd.strings_Index_one x c (w.alloc (.cells cs 9))
    rwa [← Lib.index_one] at this
  have hC : Calls Tryd.prog 43 #[.string s, .string ⟨#[c]⟩] w fun e w' => e = .returned (.int .i64 (Lib.countB s ⟨#[c]⟩)) ∧ w' = w := by
    have := Tryd.strings_Count_one s c w
    unfold Lib.countByte at this
    rwa [← Lib.count_one] at this
  have cc := Any.strings_genSplit_core Tryd.lays221 (by kernel_rfl) s ⟨#[c]⟩ 0 (-1) (Lib.countB s ⟨#[c]⟩ + 1) w hs h1 (Nat.zero_le _) hI hC (by decide) (by decide) (by rw [if_pos (by decide)]; omega)
  rw [Nat.add_sub_cancel, hlen] at cc
  have e2 : Lib.cellsOf (Lib.splitB ⟨#[c]⟩ 0 (Lib.countB s ⟨#[c]⟩) s) (Lib.countB s ⟨#[c]⟩ + 1) = ((Lib.splitB ⟨#[c]⟩ 0 (Lib.countB s ⟨#[c]⟩) s).map Value.string).toArray := by rw [← hlen]; exact Lib.cellsOf_full _
  rw [e2] at cc
  have HC : Hid (Calls Tryd.prog 28 #[.string s, .string ⟨#[c]⟩, .int .i64 0, .int .i64 (-1)] w fun e w' => e = .returned (.slice (some ⟨w.heap.size, 0, none⟩) (Lib.countB s ⟨#[c]⟩ + 1) (Lib.countB s ⟨#[c]⟩ + 1)) ∧ w' = w.alloc (.cells ((Lib.splitB ⟨#[c]⟩ 0 (Lib.countB s ⟨#[c]⟩) s).map Value.string).toArray 9)) := cc
  clear cc hI hC e2 hlen hle
  go_enter Tryd.func17, Tryd.ntmps17
  go_wp2_with fail
  refine HC.out.mono ?_
  rintro e w' ⟨rfl, rfl⟩
  go_wp2
  go_ret
  exact ⟨rfl, rfl⟩
theorem owns_on {w w' : World} {B e s n : Nat} {v : Value} {xs : List Value} (h : w.ownsRow B e s v n xs) (hb : Below w.heap.size w w') : w'.ownsRow B e s v n xs := by
  refine ⟨h.1, ?_⟩
  rcases h.2 with h0 | ⟨g, cap, cur, h1, h2, h3, h4⟩
  · exact .inl h0
  · exact .inr ⟨g, cap, cur, h1, h2, by rw [hb.block g (Array.getElem?_eq_some_iff.1 h3).1]; exact h3, h4⟩
theorem bld_alloc {B b : Nat} {l : List UInt8} {w : World} (h : Bld B b l w) (o : Obj) : Bld B b l (w.alloc o) := by
  have key : ∀ {p : Value} {bs : List Value}, Lib.BuilderAt 47 5 B b p bs w → Lib.BuilderAt 47 5 B b p bs (w.alloc o) := fun {p bs} h => by
    obtain ⟨h1, v, h2, h3, h4⟩ := h
    exact ⟨h1, v, (Below.heap_alloc _ _ _ (Array.getElem?_eq_some_iff.1 h2).1).trans h2, h3.alloc o, h4⟩
  rcases h with h | h
  · exact .inl (key h)
  · exact .inr (key h)
theorem bld_on {B b : Nat} {l : List UInt8} {w w' : World} (h : Bld B b l w) (hb : Below w.heap.size w w') : Bld B b l w' := by
  have key : ∀ {p : Value} {bs : List Value}, Lib.BuilderAt 47 5 B b p bs w → Lib.BuilderAt 47 5 B b p bs w' := fun {p bs} h => by
    obtain ⟨h1, v, h2, h3, h4⟩ := h
    exact ⟨h1, v, (hb.block _ (Array.getElem?_eq_some_iff.1 h2).1).trans h2, owns_on h3 hb, h4⟩
  rcases h with h | h
  · exact .inl (key h)
  · exact .inr (key h)
theorem app_len {a b : List UInt8} {k : Nat} (h : a.length ≤ k * 121) (h2 : b.length ≤ 21) (hk : k ≤ 3 := by decide) : (a ++ b).length ≤ 1000 := by simp only [List.length_append]; omega
def numAt (n0 n1 : Int) (k : Nat) : List UInt8 := if k = 0 then [] else if k = 1 then (txt n0).data.toList else (txt n1).data.toList
/-- The first k pieces of a form, with numbers between them. -/
def fillL (ps : List ByteArray) (n0 n1 : Int) : Nat → List UInt8
  | 0 => []
  | k + 1 => fillL ps n0 n1 k ++ numAt n0 n1 k ++ (match ps[k]? with | none => [] | some p => p.data.toList)
theorem fillL_succ {ps : List ByteArray} {n0 n1 : Int} {k : Nat} {p : ByteArray} (h : ps[k]? = some p) : fillL ps n0 n1 (k + 1) = fillL ps n0 n1 k ++ numAt n0 n1 k ++ p.data.toList := by rw [fillL, h]
theorem txt_short (n : Int) (h0 : -9223372036854775808 ≤ n) (h1 : n ≤ 9223372036854775807) : (txt n).size ≤ 21 := by
  have h := Lib.itoa_length_le n h0 h1
  show (Lib.itoa n).toArray.size ≤ 21
  rw [List.size_toArray]; exact h
def I64 (n : Int) : Prop := -9223372036854775808 ≤ n ∧ n ≤ 9223372036854775807
theorem num_len {n0 n1 : Int} (h0 : I64 n0) (h1 : I64 n1) (k : Nat) : (numAt n0 n1 k).length ≤ 21 := by
  have a := txt_short n0 h0.1 h0.2
  have b := txt_short n1 h1.1 h1.2
  unfold numAt
  split
  · simp
  · split
    · rw [Array.length_toList]; exact a
    · rw [Array.length_toList]; exact b
theorem fill_len {ps : List ByteArray} {n0 n1 : Int} (h0 : I64 n0) (h1 : I64 n1) (hs : ∀ p ∈ ps, p.size ≤ 100) : ∀ k, (fillL ps n0 n1 k).length ≤ k * 121
  | 0 => by simp [fillL]
  | k + 1 => by
    have ih := fill_len h0 h1 hs k
    have hn := num_len h0 h1 k
    rw [fillL]
    cases hk : ps[k]? with
    | none => simp only [List.length_append, List.length_nil]; omega
    | some p =>
      have := hs p (List.mem_of_getElem? hk)
      have e : p.data.toList.length = p.size := Array.length_toList
      simp only [List.length_append]; omega
/-- What of a form is wanted. -/
structure FormIs (form : ByteArray) (ps : List ByteArray) : Prop where
  len : form.size ≤ 1000
  cut : Lib.splitB ⟨#[35]⟩ 0 (Lib.countB form ⟨#[35]⟩) form = ps
  num : Lib.countB form ⟨#[35]⟩ + 1 = ps.length
  few : ps.length ≤ 3
  short : ∀ p ∈ ps, p.size ≤ 100
def nbox (n0 n1 : Int) : Obj := .cells #[.int .i64 n0, .int .i64 n1] 30 (0, 0)
set_option maxHeartbeats 4000000 in
theorem own_fill (form : ByteArray) (ps : List ByteArray) (n0 n1 : Int) (hf : FormIs form ps) (h0 : I64 n0) (h1 : I64 n1) (w : World) (hp : Pow w) :
    Calls Tryd.prog 10 #[.string form, .agg #[.int .i64 n0, .int .i64 n1]] w fun e w' => e = .returned (.string ⟨(fillL ps n0 n1 ps.length).toArray⟩) ∧ Below w.heap.size w w' := by
  have HSP : Hid (∀ o1 o2, Calls Tryd.prog 17 #[.string form, .string ⟨#[35]⟩] ((w.alloc o1).alloc o2) fun e w' => e = .returned (.slice (some ⟨w.heap.size + 2, 0, none⟩) ps.length ps.length) ∧ w' = ((w.alloc o1).alloc o2).alloc (.cells (ps.map Value.string).toArray 9)) := fun o1 o2 => by
    have h := split_one form 35 ((w.alloc o1).alloc o2) (by have := hf.len; omega)
    rw [hf.cut, hf.num] at h
    have e : ((w.alloc o1).alloc o2).heap.size = w.heap.size + 2 := by simp
    rw [e] at h
    exact h
  have h3 : ps.length ≤ 3 := hf.few
  have HSH : Hid (∀ p ∈ ps, p.size ≤ 100) := hf.short
  have HLE : Hid (∀ k, (fillL ps n0 n1 k).length ≤ k * 121) := fill_len h0 h1 hf.short
  have HT : Hid (∀ W, Below w.heap.size w W → (Calls Tryd.prog 19 #[.int .i64 n0] W fun e w' => e = .returned (.string (txt n0)) ∧ Below W.heap.size W w') ∧ (Calls Tryd.prog 19 #[.int .i64 n1] W fun e w' => e = .returned (.string (txt n1)) ∧ Below W.heap.size W w')) := fun W hW => ⟨text_any n0 h0.1 h0.2 W (hp.below hW), text_any n1 h1.1 h1.2 W (hp.below hW)⟩
  have z0 := txt_short n0 h0.1 h0.2
  have z1 := txt_short n1 h1.1 h1.2
  clear hf h0 h1 hp
  go_enter Tryd.func10, Tryd.ntmps10
  go_wp2_with fail
  refine (HSP.out _ _).mono ?_
  rintro e u ⟨rfl, rfl⟩
  clear HSP
  go_wp2_with fail
  go_loopw [11] (fun i wr => ∃ k : Nat, k ≤ ps.length ∧ i = .int .i64 k ∧ Hid (Bld (w.heap.size + 1) (w.heap.size + 1) (fillL ps n0 n1 k) wr ∧ Below (w.heap.size + 1) (w.alloc (nbox n0 n1)) wr ∧ wr.heap[w.heap.size + 2]? = some (.cells (ps.map Value.string).toArray 9 (0, 0)))) (fun i _ => ps.length - (intOf i).toNat)
  case atStart =>
    refine ⟨0, Nat.zero_le _, rfl, ?_, ?_, ?_⟩
    · have h := bld_alloc (bld_new (w.alloc (nbox n0 n1))) (.cells (ps.map Value.string).toArray 9)
      have e : (w.alloc (nbox n0 n1)).heap.size = w.heap.size + 1 := by simp
      rw [e] at h
      exact h
    · have e : (w.alloc (nbox n0 n1)).heap.size = w.heap.size + 1 := by simp
      exact ((Below.refl _ _).alloc (by rw [e]; exact Nat.le_refl _) _).alloc (by simp) _
    · have e : ((w.alloc (nbox n0 n1)).alloc (.cells #[.pointer none, .slice none 0 0] 47)).heap.size = w.heap.size + 2 := by simp
      show (World.alloc ((w.alloc (nbox n0 n1)).alloc (.cells #[.pointer none, .slice none 0 0] 47)) _).heap[w.heap.size + 2]? = _
      rw [← e]; exact Array.getElem?_push_size
  case round =>
    obtain ⟨k, hk, rfl, HQ⟩ := hrel
    have hsq : w.heap.size + 1 ≤ wr.heap.size := by have := HQ.out.2.1.size; simp at this; omega
    have hsl := HLE.out k
    have HBW : Hid (Below w.heap.size w wr) := ((Below.refl _ _).alloc (Nat.le_refl _) (nbox n0 n1)).trans (HQ.out.2.1.mono (by omega))
    by_cases hlt : k < ps.length
    · have hx : ps[k]? = some ps[k] := List.getElem?_eq_getElem hlt
      have hsp := HSH.out _ (List.getElem_mem hlt)
      have hc : wr.cell? ⟨w.heap.size + 2, k, none⟩ = some (.string ps[k]) := by
        rw [Lib.cell_of_heap HQ.out.2.2]; simp [hx]
      have hb : wr.heap[w.heap.size]? = some (nbox n0 n1) := by
        rw [HQ.out.2.1.block _ (by omega)]; exact Array.getElem?_push_size
      have hn0 : wr.cell? ⟨w.heap.size, 0, none⟩ = some (.int .i64 n0) := by rw [Lib.cell_of_heap hb]; rfl
      have hn1 : wr.cell? ⟨w.heap.size, 1, none⟩ = some (.int .i64 n1) := by rw [Lib.cell_of_heap hb]; rfl
      have HPK : Hid (ps[k]? = some ps[k]) := hx
      have hlt2 : (k : Int) < (ps.length : Int) := by omega
      clear hx hb HSH
      generalize ps[k] = p at *
      have hk3 : k = 0 ∨ k = 1 ∨ k = 2 := by omega
      rcases hk3 with rfl | rfl | rfl
      · have HB0 : Hid (Bld (w.heap.size + 1) (w.heap.size + 1) (fillL ps n0 n1 0 ++ numAt n0 n1 0) wr) := HQ.out.1
        have HB1 : Hid (Below (w.heap.size + 1) (w.alloc (nbox n0 n1)) wr) := HQ.out.2.1
        have HB2 : Hid (wr.heap[w.heap.size + 2]? = some (.cells (ps.map Value.string).toArray 9 (0, 0))) := HQ.out.2.2
        have hl9 : (fillL ps n0 n1 0 ++ numAt n0 n1 0).length ≤ 1000 := by simp [fillL, numAt]
        go_wp2_with fail
        refine (writeString_keep (w.heap.size + 1) (w.heap.size + 1) _ p _ HB0.out (by omega) (by omega) (by omega)).mono ?_
        rintro e u1 ⟨rfl, b1, l1, k1⟩
        have HR : Hid (Bld (w.heap.size + 1) (w.heap.size + 1) (fillL ps n0 n1 (1)) u1 ∧ Below (w.heap.size + 1) (w.alloc (nbox n0 n1)) u1 ∧ u1.heap[w.heap.size + 2]? = some (.cells (ps.map Value.string).toArray 9 (0, 0))) := by
          refine ⟨?_, HB1.out.trans l1, k1 _ _ (by omega) HB2.out⟩
          rw [fillL_succ HPK.out]
          exact b1
        clear b1 l1 k1
        go_wp2_with fail
        go_roundw
        case rel => exact ⟨1, by omega, by go_num, HR.out⟩
        case measure => simp [intOf]; omega
      · have hc0 : wr.cell? ⟨w.heap.size, 0, none⟩ = some (.int .i64 n0) := hn0
        go_wp2_with fail
        refine (HT.out wr HBW.out).1.mono ?_
        rintro e u0 ⟨rfl, t1⟩
        have HB0' : Hid (Bld (w.heap.size + 1) (w.heap.size + 1) (fillL ps n0 n1 1) u0) := bld_on HQ.out.1 t1
        have hz0 : wr.heap.size ≤ u0.heap.size := t1.size
        have HB1' : Hid (Below (w.heap.size + 1) (w.alloc (nbox n0 n1)) u0) := HQ.out.2.1.trans (t1.mono (by omega))
        have HB2' : Hid (u0.heap[w.heap.size + 2]? = some (.cells (ps.map Value.string).toArray 9 (0, 0))) := by
          have hlt := (Array.getElem?_eq_some_iff.1 HQ.out.2.2).1
          show u0.heap[w.heap.size + 2]? = _
          rw [t1.block _ hlt]; exact HQ.out.2.2
        clear t1 hc hc0 hn0 hn1
        go_wp2_with fail
        refine (writeString_keep (w.heap.size + 1) (w.heap.size + 1) _ (txt n0) _ HB0'.out (by omega) (by omega) (by omega)).mono ?_
        rintro e u00 ⟨rfl, b1, l1, k1⟩
        have hz1 : u0.heap.size ≤ u00.heap.size := l1.size
        have HB0 : Hid (Bld (w.heap.size + 1) (w.heap.size + 1) (fillL ps n0 n1 1 ++ (txt n0).data.toList) u00) := b1
        have HB1 : Hid (Below (w.heap.size + 1) (w.alloc (nbox n0 n1)) u00) := HB1'.out.trans l1
        have HB2 : Hid (u00.heap[w.heap.size + 2]? = some (.cells (ps.map Value.string).toArray 9 (0, 0))) := k1 _ _ (by omega) HB2'.out
        have hl9 : (fillL ps n0 n1 1 ++ (txt n0).data.toList).length ≤ 1000 := app_len hsl (show (txt n0).data.toList.length ≤ 21 from Array.length_toList ▸ z0)
        clear b1 l1 k1 HB0' HB1' HB2'
        go_wp2_with fail
        refine (writeString_keep (w.heap.size + 1) (w.heap.size + 1) _ p _ HB0.out (by omega) (by omega) (by omega)).mono ?_
        rintro e u1 ⟨rfl, b1, l1, k1⟩
        have HR : Hid (Bld (w.heap.size + 1) (w.heap.size + 1) (fillL ps n0 n1 (2)) u1 ∧ Below (w.heap.size + 1) (w.alloc (nbox n0 n1)) u1 ∧ u1.heap[w.heap.size + 2]? = some (.cells (ps.map Value.string).toArray 9 (0, 0))) := by
          refine ⟨?_, HB1.out.trans l1, k1 _ _ (by omega) HB2.out⟩
          rw [fillL_succ HPK.out]
          exact b1
        clear b1 l1 k1
        go_wp2_with fail
        go_roundw
        case rel => exact ⟨2, by omega, by go_num, HR.out⟩
        case measure => simp [intOf]; omega
      · have hc0 : wr.cell? ⟨w.heap.size, 1, none⟩ = some (.int .i64 n1) := hn1
        go_wp2_with fail
        refine (HT.out wr HBW.out).2.mono ?_
        rintro e u0 ⟨rfl, t1⟩
        have HB0' : Hid (Bld (w.heap.size + 1) (w.heap.size + 1) (fillL ps n0 n1 2) u0) := bld_on HQ.out.1 t1
        have hz0 : wr.heap.size ≤ u0.heap.size := t1.size
        have HB1' : Hid (Below (w.heap.size + 1) (w.alloc (nbox n0 n1)) u0) := HQ.out.2.1.trans (t1.mono (by omega))
        have HB2' : Hid (u0.heap[w.heap.size + 2]? = some (.cells (ps.map Value.string).toArray 9 (0, 0))) := by
          have hlt := (Array.getElem?_eq_some_iff.1 HQ.out.2.2).1
          show u0.heap[w.heap.size + 2]? = _
          rw [t1.block _ hlt]; exact HQ.out.2.2
        clear t1 hc hc0 hn0 hn1
        go_wp2_with fail
        refine (writeString_keep (w.heap.size + 1) (w.heap.size + 1) _ (txt n1) _ HB0'.out (by omega) (by omega) (by omega)).mono ?_
        rintro e u00 ⟨rfl, b1, l1, k1⟩
        have hz1 : u0.heap.size ≤ u00.heap.size := l1.size
        have HB0 : Hid (Bld (w.heap.size + 1) (w.heap.size + 1) (fillL ps n0 n1 2 ++ (txt n1).data.toList) u00) := b1
        have HB1 : Hid (Below (w.heap.size + 1) (w.alloc (nbox n0 n1)) u00) := HB1'.out.trans l1
        have HB2 : Hid (u00.heap[w.heap.size + 2]? = some (.cells (ps.map Value.string).toArray 9 (0, 0))) := k1 _ _ (by omega) HB2'.out
        have hl9 : (fillL ps n0 n1 2 ++ (txt n1).data.toList).length ≤ 1000 := app_len hsl (show (txt n1).data.toList.length ≤ 21 from Array.length_toList ▸ z1)
        clear b1 l1 k1 HB0' HB1' HB2'
        go_wp2_with fail
        refine (writeString_keep (w.heap.size + 1) (w.heap.size + 1) _ p _ HB0.out (by omega) (by omega) (by omega)).mono ?_
        rintro e u1 ⟨rfl, b1, l1, k1⟩
        have HR : Hid (Bld (w.heap.size + 1) (w.heap.size + 1) (fillL ps n0 n1 (3)) u1 ∧ Below (w.heap.size + 1) (w.alloc (nbox n0 n1)) u1 ∧ u1.heap[w.heap.size + 2]? = some (.cells (ps.map Value.string).toArray 9 (0, 0))) := by
          refine ⟨?_, HB1.out.trans l1, k1 _ _ (by omega) HB2.out⟩
          rw [fillL_succ HPK.out]
          exact b1
        clear b1 l1 k1
        go_wp2_with fail
        go_roundw
        case rel => exact ⟨3, by omega, by go_num, HR.out⟩
        case measure => simp [intOf]; omega
    · obtain rfl : k = ps.length := by omega
      have hnl : ¬ ((ps.length : Nat) : Int) < ((ps.length : Nat) : Int) := by omega
      have HE : Hid (Calls Tryd.prog 20 #[.pointer (some ⟨w.heap.size + 1, 0, none⟩)] wr fun e w' => e = .returned (.string ⟨(fillL ps n0 n1 ps.length).toArray⟩) ∧ Below (w.heap.size + 1) wr w') := bstr_any _ _ _ wr HQ.out.1 hsq
      clear hlt HSH
      go_wp2_with fail
      refine HE.out.mono ?_
      rintro e w2 ⟨rfl, hb⟩
      go_wp2
      go_ret
      exact ⟨rfl, HBW.out.trans (hb.mono (by omega))⟩
end Go.Proofs.YtjmklmcnlieplaaDoor
