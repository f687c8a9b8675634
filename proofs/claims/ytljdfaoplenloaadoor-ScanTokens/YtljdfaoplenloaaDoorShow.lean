/- What scan.Show answers. -/
import Derived.Test.YtljdfaoplenloaaDoorWhole
import Derived.Test.YtljdfaoplenloaaDoorBuilder2
namespace Go.Proofs.YtljdfaoplenloaaDoor
open Go.ChangeShapes Go.WideShapes Go.ChangeAt Go.RowKit
set_option maxRecDepth 100000
set_option linter.unusedSimpArgs false

def sepL (t : Tj) (more : Bool) : List UInt8 := if t.kind = 6 then [10] else if more then [32] else []
/-- The text of the first k tokens. -/
def shP (l : List Tj) : Nat → List UInt8
  | 0 => []
  | k + 1 => shP l k ++ match l[k]? with | none => [] | some t => t.text.data.toList ++ sepL t (decide (k + 1 < l.length))
theorem sepL_len (t : Tj) (m : Bool) : (sepL t m).length ≤ 1 := by unfold sepL; (repeat' split) <;> simp
theorem shP_succ {l : List Tj} {k : Nat} {t : Tj} (h : l[k]? = some t) : shP l (k + 1) = shP l k ++ (t.text.data.toList ++ sepL t (decide (k + 1 < l.length))) := by rw [shP, h]
theorem shP_le {l : List Tj} (h : ∀ t ∈ l, wholeB t = true) : ∀ k, (shP l k).length ≤ k * 403
  | 0 => by simp [shP]
  | k + 1 => by
    have ih := shP_le h k
    cases hk : l[k]? with
    | none => rw [shP, hk]; simp; omega
    | some t =>
      rw [shP_succ hk, List.length_append, List.length_append, bsize_list]
      have h1 := whole_short (h t (List.mem_of_getElem? hk))
      have h2 := sepL_len t (decide (k + 1 < l.length))
      omega
def showE (l : List Tj) : Int := if 2000 < l.length then 15 else if (l.all wholeB) = false then 13 else if 8000 < (shP l l.length).length then 1 else 0
def showV (l : List Tj) : List UInt8 := if showE l = 0 then shP l l.length else []
/-- A list of tokens, as it lies in memory. -/
def TLies (w : World) (v : Value) (l : List Tj) : Prop := ∃ (ao : Option Addr) (cv : Nat), v = .slice ao l.length cv ∧ (l ≠ [] → l.length ≤ cv ∧ ∃ g, ao = some ⟨g, 0, none⟩ ∧ ∀ (k : Nat) t, l[k]? = some t →
  w.cell? ⟨g, k * 4, none⟩ = some (.int .i64 t.kind) ∧ w.cell? ⟨g, k * 4 + 1, none⟩ = some (.string t.text) ∧ w.cell? ⟨g, k * 4 + 2, none⟩ = some (.int .i64 t.line) ∧ w.cell? ⟨g, k * 4 + 3, none⟩ = some (.int .i64 t.col))
theorem bld_alloc {B b : Nat} {l : List UInt8} {w : World} (h : Bld B b l w) (o : Obj) : Bld B b l (w.alloc o) := by
  have key : ∀ {p : Value} {bs : List Value}, Lib.BuilderAt 49 5 B b p bs w → Lib.BuilderAt 49 5 B b p bs (w.alloc o) := fun {p bs} h => by
    obtain ⟨h1, v, h2, h3, h4⟩ := h
    exact ⟨h1, v, (Below.heap_alloc _ _ _ (Array.getElem?_eq_some_iff.1 h2).1).trans h2, h3.alloc o, h4⟩
  rcases h with h | h
  · exact .inl (key h)
  · exact .inr (key h)
def ShowPost (w : World) (l : List Tj) (e : Ending) (w' : World) : Prop := e = .returned (.tuple #[.string ⟨(showV l).toArray⟩, .int .i64 (showE l)]) ∧ Below w.heap.size w w'
theorem showPost_no {w w' : World} {l : List Tj} {k : Int} (h : showE l = k) (hk : k ≠ 0) (hb : Below w.heap.size w w') : ShowPost w l (.returned (.tuple #[.string ⟨#[]⟩, .int .i64 k])) w' := by
  refine ⟨?_, hb⟩
  unfold showV
  rw [h, if_neg hk]
set_option maxHeartbeats 4000000 in
theorem own_show (v : Value) (l : List Tj) (w : World) (h : TLies w v l) (hs : ∀ t ∈ l, t.text.size ≤ 281474976710656) (hlib : Lib3 w) :
    Calls Tryd.prog 9 #[v] w (ShowPost w l) := by
  obtain ⟨ao, cv, rfl, hcl⟩ := h
  by_cases hbig : 2000 < l.length
  · have HE : Hid (showE l = 15) := by show showE l = 15; unfold showE; rw [if_pos hbig]
    have hb' : (2000 : Int) < (l.length : Int) := by omega
    clear hcl hs hlib hbig
    go_enter Tryd.func9, Tryd.ntmps9
    go_wp2_with fail
    go_ret2
    exact showPost_no HE.out (by decide) (Below.refl _ _)
  · have hn : l.length ≤ 2000 := by omega
    have HB0 : Hid (¬ 2000 < l.length) := hbig
    have HCL : Hid (l ≠ [] → l.length ≤ cv ∧ ∃ g, ao = some ⟨g, 0, none⟩ ∧ ∀ (k : Nat) t, l[k]? = some t → w.cell? ⟨g, k * 4, none⟩ = some (.int .i64 t.kind) ∧ w.cell? ⟨g, k * 4 + 1, none⟩ = some (.string t.text) ∧ w.cell? ⟨g, k * 4 + 2, none⟩ = some (.int .i64 t.line) ∧ w.cell? ⟨g, k * 4 + 3, none⟩ = some (.int .i64 t.col)) := hcl
    have HWH : Hid (∀ (t : Tj) W, t ∈ l → Below w.heap.size w W → Calls Tryd.prog 20 #[.agg #[.int .i64 t.kind, .string t.text, .int .i64 t.line, .int .i64 t.col]] W fun e w' => e = .returned (.bool (wholeB t)) ∧ Below W.heap.size W w') := fun t W ht hW => own_whole t W (hs t ht) (hlib.below hW)
    clear hcl hs hlib hbig
    go_enter Tryd.func9, Tryd.ntmps9
    go_wp2_with fail
    go_loopw [14] (fun i wr => ∃ k : Nat, k ≤ l.length ∧ i = .int .i64 k ∧ Hid ((∀ (j : Nat) t, j < k → l[j]? = some t → wholeB t = true) ∧ Below w.heap.size w wr)) (fun i _ => l.length - (intOf i).toNat)
    case atStart => exact ⟨0, Nat.zero_le _, rfl, fun j t hj => by omega, Below.refl _ _⟩
    case round =>
      obtain ⟨k, hk, rfl, HX⟩ := hrel
      by_cases hlt : k < l.length
      · obtain ⟨hcv, g, rfl, hc⟩ := HCL.out (fun e => by rw [e] at hlt; simp at hlt)
        have hx : l[k]? = some l[k] := List.getElem?_eq_getElem hlt
        have hmem : l[k] ∈ l := List.getElem_mem hlt
        obtain ⟨r0, r1, r2, r3⟩ := hc k _ hx
        have hgl : g < w.heap.size := World.block_lt_of_cell? _ _ r0
        have q0 := (HX.out.2.cell (p := ⟨g, k * 4, none⟩) hgl).trans r0
        have q1 := (HX.out.2.cell (p := ⟨g, k * 4 + 1, none⟩) hgl).trans r1
        have q2 := (HX.out.2.cell (p := ⟨g, k * 4 + 2, none⟩) hgl).trans r2
        have q3 := (HX.out.2.cell (p := ⟨g, k * 4 + 3, none⟩) hgl).trans r3
        have HXK : Hid (l[k]? = some l[k]) := hx
        have HM : Hid (l[k] ∈ l) := hmem
        have hlt2 : (k : Int) < (l.length : Int) := by omega
        clear hx hmem hc r0 r1 r2 r3
        generalize l[k] = t at *
        have HKV : Hid (∀ W, Below w.heap.size w W → Calls Tryd.prog 20 #[.agg #[.int .i64 t.kind, .string t.text, .int .i64 t.line, .int .i64 t.col]] W fun e w' => e = .returned (.bool (wholeB t)) ∧ Below W.heap.size W w') := fun W hW => HWH.out t W HM.out hW
        have HBA : Hid (Below w.heap.size w (wr.alloc (.cells #[.int .i64 t.kind, .string t.text, .int .i64 t.line, .int .i64 t.col] 33))) := HX.out.2.alloc HX.out.2.size _
        cases hv : wholeB t with
        | false =>
          have HE : Hid (showE l = 13) := by
            show showE l = 13
            unfold showE
            rw [if_neg HB0.out, if_pos (List.all_eq_false.2 ⟨t, HM.out, by simp [hv]⟩)]
          rw [hv] at HKV
          clear hv
          go_wp2_with fail
          refine (HKV.out _ HBA.out).mono ?_
          rintro e w2 ⟨rfl, b2⟩
          have HB2 : Hid (Below w.heap.size w w2) := HBA.out.trans (b2.mono HBA.out.size)
          clear b2
          go_wp2_with fail
          go_ret2
          exact showPost_no HE.out (by decide) HB2.out
        | true =>
          have HN : Hid (∀ (j : Nat) u, j < k + 1 → l[j]? = some u → wholeB u = true) := fun j u hj hu => by
            by_cases e : j = k
            · subst e; rw [HXK.out] at hu; cases hu; exact hv
            · exact HX.out.1 j u (by omega) hu
          rw [hv] at HKV
          clear hv
          go_wp2_with fail
          refine (HKV.out _ HBA.out).mono ?_
          rintro e w2 ⟨rfl, b2⟩
          have HB2 : Hid (Below w.heap.size w w2) := HBA.out.trans (b2.mono HBA.out.size)
          clear b2
          go_wp2_with fail
          go_roundw
          case rel => exact ⟨k + 1, by omega, by go_num, HN.out, HB2.out⟩
          case measure => simp [intOf]; omega
      · obtain rfl : k = l.length := by omega
        obtain ⟨W1, hW1⟩ : ∃ x, x = wr := ⟨wr, rfl⟩
        subst hW1
        have hall : ∀ t ∈ l, wholeB t = true := fun t ht => by
          obtain ⟨j, hj, e⟩ := List.getElem_of_mem ht
          exact HX.out.1 j t hj (by rw [← e]; exact List.getElem?_eq_getElem hj)
        have HALL : Hid (∀ t ∈ l, wholeB t = true) := hall
        have HLE : Hid (∀ k, (shP l k).length ≤ k * 403) := shP_le hall
        have HEE : Hid (showE l = if 8000 < (shP l l.length).length then 1 else 0) := by
          show showE l = _
          unfold showE
          rw [if_neg HB0.out, if_neg (by simp; exact hall)]
        have hnl : ¬ ((l.length : Nat) : Int) < ((l.length : Nat) : Int) := by omega
        have HBW : Hid (Below w.heap.size w W1) := HX.out.2
        have hsw : w.heap.size ≤ W1.heap.size := HBW.out.size
        clear hall hlt
        go_wp2_with fail
        go_loopw [24] (fun i wr => ∃ k : Nat, k ≤ l.length ∧ i = .int .i64 k ∧ Hid (Bld W1.heap.size W1.heap.size (shP l k) wr ∧ Below W1.heap.size W1 wr)) (fun i _ => l.length - (intOf i).toNat)
        case atStart => exact ⟨0, Nat.zero_le _, rfl, bld_new W1, (Below.refl _ W1).alloc (Nat.le_refl _) _⟩
        case round =>
          obtain ⟨k, hk, rfl, HQ⟩ := hrel
          have hsq : W1.heap.size ≤ wr.heap.size := HQ.out.2.size
          have hsl := HLE.out k
          by_cases hlt : k < l.length
          · obtain ⟨hcv, g, rfl, hc⟩ := HCL.out (fun e => by rw [e] at hlt; simp at hlt)
            have hx : l[k]? = some l[k] := List.getElem?_eq_getElem hlt
            have hmem : l[k] ∈ l := List.getElem_mem hlt
            obtain ⟨r0, r1, r2, r3⟩ := hc k _ hx
            have hgl : g < w.heap.size := World.block_lt_of_cell? _ _ r0
            have hgr : g < W1.heap.size := by omega
            have q0 := (HQ.out.2.cell (p := ⟨g, k * 4, none⟩) hgr).trans ((HBW.out.cell (p := ⟨g, k * 4, none⟩) hgl).trans r0)
            have q1 := (HQ.out.2.cell (p := ⟨g, k * 4 + 1, none⟩) hgr).trans ((HBW.out.cell (p := ⟨g, k * 4 + 1, none⟩) hgl).trans r1)
            have q2 := (HQ.out.2.cell (p := ⟨g, k * 4 + 2, none⟩) hgr).trans ((HBW.out.cell (p := ⟨g, k * 4 + 2, none⟩) hgl).trans r2)
            have q3 := (HQ.out.2.cell (p := ⟨g, k * 4 + 3, none⟩) hgr).trans ((HBW.out.cell (p := ⟨g, k * 4 + 3, none⟩) hgl).trans r3)
            have hsc := shP_succ hx
            have hshort := whole_short (HALL.out _ hmem)
            have hlt2 : (k : Int) < (l.length : Int) := by omega
            clear hx hmem hc r0 r1 r2 r3
            generalize l[k] = t at *
            have HSC : Hid (shP l (k + 1) = shP l k ++ (t.text.data.toList ++ sepL t (decide (k + 1 < l.length)))) := hsc
            have HWS : Hid _ := writeString_keep W1.heap.size W1.heap.size (shP l k) t.text (wr.alloc (.cells #[.int .i64 t.kind, .string t.text, .int .i64 t.line, .int .i64 t.col] 33)) (bld_alloc HQ.out.1 _) (by omega) (by omega) (by simp; omega)
            have HBQ : Hid (Below W1.heap.size W1 (wr.alloc (.cells #[.int .i64 t.kind, .string t.text, .int .i64 t.line, .int .i64 t.col] 33))) := HQ.out.2.alloc hsq _
            have HNW : Hid ((wr.alloc (.cells #[.int .i64 t.kind, .string t.text, .int .i64 t.line, .int .i64 t.col] 33)).heap[wr.heap.size]? = some (.cells #[.int .i64 t.kind, .string t.text, .int .i64 t.line, .int .i64 t.col] 33 (0, 0))) := heap_alloc_new wr _
            have hbne : wr.heap.size ≠ W1.heap.size := by
              have := (show W1.heap.size < wr.heap.size from by
                rcases HQ.out.1 with h | h
                · exact h.lt
                · exact h.lt)
              omega
            clear hsc
            go_wp2_with fail
            refine Calls.mono HWS.out ?_
            rintro e w3 ⟨rfl, hb3, bl3, kt3⟩
            have hbox := kt3 wr.heap.size _ hbne HNW.out
            have c0 : w3.cell? ⟨wr.heap.size, 0, none⟩ = some (.int .i64 t.kind) := by simp [World.cell?, hbox]
            have HB3 : Hid (Bld W1.heap.size W1.heap.size (shP l k ++ t.text.data.toList) w3) := hb3
            have HL3 : Hid (Below W1.heap.size W1 w3) := HBQ.out.trans bl3
            have hs3 : W1.heap.size ≤ w3.heap.size := HL3.out.size
            have hlen3 : (shP l k ++ t.text.data.toList).length ≤ 1000000 := by rw [List.length_append, bsize_list]; omega
            have HW10 : Hid (Calls Tryd.prog 22 #[.pointer (some ⟨W1.heap.size, 0, none⟩), .int .u8 10] w3 fun e w' => e = .returned .nilIface ∧ Bld W1.heap.size W1.heap.size (shP l k ++ t.text.data.toList ++ [10]) w' ∧ Below W1.heap.size w3 w') :=
              (writeByte_keep W1.heap.size W1.heap.size (shP l k ++ t.text.data.toList) 10 w3 hb3 hlen3 hs3).mono fun e w' h => ⟨h.1, h.2.1, h.2.2.1⟩
            have HW32 : Hid (Calls Tryd.prog 22 #[.pointer (some ⟨W1.heap.size, 0, none⟩), .int .u8 32] w3 fun e w' => e = .returned .nilIface ∧ Bld W1.heap.size W1.heap.size (shP l k ++ t.text.data.toList ++ [32]) w' ∧ Below W1.heap.size w3 w') :=
              (writeByte_keep W1.heap.size W1.heap.size (shP l k ++ t.text.data.toList) 32 w3 hb3 hlen3 hs3).mono fun e w' h => ⟨h.1, h.2.1, h.2.2.1⟩
            clear hb3 bl3 kt3 hbox HWS
            by_cases h6 : t.kind = 6
            · have b6 : (t.kind == 6) = true := by rw [h6]; rfl
              have HN : Hid (shP l (k + 1) = shP l k ++ t.text.data.toList ++ [10]) := by
                show shP l (k + 1) = _
                rw [HSC.out, sepL, if_pos h6, List.append_assoc]
              clear h6
              go_wp2_with fail
              refine (HW10.out).mono ?_
              rintro e w4 ⟨rfl, hb4, bl4⟩
              have HF4 : Hid (Bld W1.heap.size W1.heap.size (shP l (k + 1)) w4 ∧ Below W1.heap.size W1 w4) := ⟨by rw [HN.out]; exact hb4, HL3.out.trans bl4⟩
              clear hb4 bl4
              go_wp2_with fail
              go_roundw
              case rel => exact ⟨k + 1, by omega, by go_num, HF4.out⟩
              case measure => simp [intOf]; omega
            · have b6 : (t.kind == 6) = false := by rw [beq_eq_false_iff_ne]; exact h6
              by_cases hmore : k + 1 < l.length
              · have HN : Hid (shP l (k + 1) = shP l k ++ t.text.data.toList ++ [32]) := by
                  show shP l (k + 1) = _
                  rw [HSC.out, sepL, if_neg h6, if_pos (by simpa using hmore), List.append_assoc]
                have hmi : (k : Int) + 1 < (l.length : Int) := by omega
                clear h6
                go_wp2_with fail
                refine (HW32.out).mono ?_
                rintro e w4 ⟨rfl, hb4, bl4⟩
                have HF4 : Hid (Bld W1.heap.size W1.heap.size (shP l (k + 1)) w4 ∧ Below W1.heap.size W1 w4) := ⟨by rw [HN.out]; exact hb4, HL3.out.trans bl4⟩
                clear hb4 bl4
                go_wp2_with fail
                go_roundw
                case rel => exact ⟨k + 1, by omega, by go_num, HF4.out⟩
                case measure => simp [intOf]; omega
              · have HN : Hid (shP l (k + 1) = shP l k ++ t.text.data.toList) := by
                  show shP l (k + 1) = _
                  rw [HSC.out, sepL, if_neg h6, if_neg (by simpa using hmore), List.append_nil]
                have hmi : ¬ (k : Int) + 1 < (l.length : Int) := by omega
                have HF4 : Hid (Bld W1.heap.size W1.heap.size (shP l (k + 1)) w3 ∧ Below W1.heap.size W1 w3) := ⟨by rw [HN.out]; exact HB3.out, HL3.out⟩
                clear h6
                go_wp2_with fail
                go_roundw
                case rel => exact ⟨k + 1, by omega, by go_num, HF4.out⟩
                case measure => simp [intOf]; omega
          · obtain rfl : k = l.length := by omega
            have HFW : Hid (Below w.heap.size w wr) := HBW.out.trans (HQ.out.2.mono hsw)
            by_cases hlong : 8000 < (shP l l.length).length
            · have HE : Hid (showE l = 1) := by show showE l = 1; rw [HEE.out, if_pos hlong]
              go_wp2_with fail
              refine (len_any _ _ _ _ HQ.out.1).mono ?_
              rintro e w3 ⟨rfl, rfl⟩
              go_wp2_with fail
              go_ret2
              exact showPost_no HE.out (by decide) HFW.out
            · have HE : Hid (showE l = 0 ∧ showV l = shP l l.length) := by
                have : showE l = 0 := by rw [HEE.out, if_neg hlong]
                exact ⟨this, by unfold showV; rw [if_pos this]⟩
              go_wp2_with fail
              refine (len_any _ _ _ _ HQ.out.1).mono ?_
              rintro e w3 ⟨rfl, rfl⟩
              go_wp2_with fail
              refine (bstr_any _ _ _ _ HQ.out.1 hsq).mono ?_
              rintro e w4 ⟨rfl, bl4⟩
              have HF4 : Hid (Below w.heap.size w w4) := HFW.out.trans (bl4.mono hsw)
              clear bl4
              go_wp2_with fail
              go_ret2
              exact ⟨by rw [HE.out.1, HE.out.2]; rfl, HF4.out⟩
end Go.Proofs.YtljdfaoplenloaaDoor
