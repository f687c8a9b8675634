/- What panicroadref.Show answers. -/
import Derived.Test.YtljdfaoplenloaaDoorRefone
import Derived.Test.YtljdfaoplenloaaDoorBig6
namespace Go.Proofs.YtljdfaoplenloaaDoor
open Go.ChangeShapes Go.WideShapes Go.ChangeAt Go.RowKit
set_option maxRecDepth 100000
set_option linter.unusedSimpArgs false
set_option linter.unusedVariables false

/-- A row of bytes of the call's own. -/
def BRow (w : World) (B : Nat) (v : Value) (l : List UInt8) : Prop := w.ownsRow B 5 1 v l.length (Lib.byteCells l)
theorem brow_shape {w : World} {B : Nat} {v : Value} {l : List UInt8} (h : BRow w B v l) : ∃ ao cap, v = .slice ao l.length cap := by
  rcases h.2 with ⟨hv, h0⟩ | ⟨g, cap, cur, hv, _⟩
  · exact ⟨none, 0, by rw [hv, h0]⟩
  · exact ⟨_, _, hv⟩
theorem byt_nat (c : UInt8) : byt (c.toNat : Int) = c := by
  unfold byt
  simp
theorem brow_str {w : World} {B n cap : Nat} {ao : Option Addr} {l : List UInt8} (hn : n = l.length) (h : BRow w B (.slice ao n cap) l) :
    (convert 47 9 (.slice ao n cap)).run Tryd.prog w = .ok (.string ⟨l.toArray⟩) w := by
  subst hn
  rcases h.2 with ⟨hv, h0⟩ | ⟨g, cap', cur, hv, _⟩
  · simp only [Value.slice.injEq] at hv
    obtain ⟨rfl, -, rfl⟩ := hv
    have : l = [] := List.eq_nil_of_length_eq_zero h0
    subst this
    rw [run_convert_bytes_string w 47 9 5 _ _ _ Tryd.underlying47 Tryd.underlying5 Tryd.underlying9]
    rfl
  · simp only [Value.slice.injEq] at hv
    obtain ⟨rfl, -, rfl⟩ := hv
    have h2 : w.ownsRow B 5 1 (.slice (some ⟨g, 0, none⟩) l.length cap) l.length ((l.map fun c => (c.toNat : Int)).map (Value.int .u8)) := by
      rw [List.map_map]; exact h
    rw [run_str (by simp) h2, List.map_map]
    have : l.map (byt ∘ fun c => (c.toNat : Int)) = l := by
      conv => rhs; rw [← List.map_id l]
      exact List.map_congr_left fun c _ => byt_nat c
    rw [this]
theorem shP_all {l : List Tj} {k : Nat} (h : ∀ j t, j < k → l[j]? = some t → wholeB t = true) (hk : k ≤ l.length) : (shP l k).length ≤ k * 403 := by
  induction k with
  | zero => simp [shP]
  | succ k ih =>
    have ih := ih (fun j t hj ht => h j t (by omega) ht) (by omega)
    have hg : l[k]? = some l[k] := List.getElem?_eq_getElem (by omega)
    rw [shP_succ hg, List.length_append, List.length_append, bsize_list]
    have h1 := whole_short (h k _ (by omega) hg)
    have h2 := sepL_len l[k] (decide (k + 1 < l.length))
    omega
set_option maxHeartbeats 4000000 in
theorem ref_show (v : Value) (l : List Tj) (w : World) (hC : TCame w v l) (hN : l.length * 40 ≤ 140737488355328) :
    Calls Tryd.prog 10 #[v] w (ShowPost w l) := by
  obtain ⟨i0, hi, hz0, hz1, hz2⟩ := info_parts Tryd.infoByte
  obtain ⟨ao, ca, rfl⟩ : ∃ ao cap, v = .slice ao l.length cap := by
    rcases hC with ⟨h, rfl⟩ | ⟨a, cap, h, _⟩
    · exact ⟨none, 0, h⟩
    · exact ⟨_, _, h⟩
  have HC : Hid (TCame w (.slice ao l.length ca) l) := hC
  clear hC
  by_cases hbig : 2000 < l.length
  · have HE : Hid (showE l = 15) := by show _ = _; unfold showE; rw [if_pos hbig]
    have hlt : (2000 : Int) < (l.length : Int) := by omega
    go_enter Tryd.func10, Tryd.ntmps10
    go_wp2
    go_ret2
    exact showPost_no HE.out (by decide) (Below.refl _ _)
  · have hsm : l.length ≤ 2000 := by omega
    clear hbig hN
    go_enter Tryd.func10, Tryd.ntmps10
    go_wp2
    go_loopw [4, 5] (fun o i wr => ∃ k : Nat, k ≤ l.length ∧ i = .int .i64 k ∧ Hid (BRow wr w.heap.size o (shP l k)) ∧ Below w.heap.size w wr ∧ Hid (∀ j t, j < k → l[j]? = some t → wholeB t = true)) (fun _ i _ => l.length - (intOf i).toNat)
    case atStart => exact ⟨0, Nat.zero_le _, rfl, World.ownsRow_nil _ _ _ _, Below.refl _ _, fun j t hj => by omega⟩
    case round =>
      obtain ⟨k, hk, rfl, HO, hb, HA⟩ := hrel
      obtain ⟨oo, oc, rfl⟩ := brow_shape HO.out
      have hz := shP_all HA.out hk
      by_cases hlt : k < l.length
      · obtain ⟨t, ht⟩ : ∃ t, l[k]? = some t := ⟨l[k], List.getElem?_eq_getElem hlt⟩
        have hC2 := HC.out.below hb
        obtain ⟨g, off, ca', hv, hcap, p0, p1, p2, p3⟩ := hC2.cells ht
        simp only [Value.slice.injEq] at hv
        obtain ⟨rfl, -, rfl⟩ := hv
        have HONE : Hid (∀ W, Calls Tryd.prog 25 #[.agg #[.int .i64 t.kind, .string t.text, .int .i64 t.line, .int .i64 t.col]] W fun e w' => e = .returned (.bool (wholeB t)) ∧ Below W.heap.size W w') := fun W => ref_one t W
        have HT : Hid (l[k]? = some t) := ht
        have HP : Hid (Below w.heap.size w wr) := hb
        clear hC2 ht hb
        cases hw : wholeB t with
        | false =>
          rw [hw] at HONE
          have HE : Hid (showE l = 13) := by
            show _ = _
            unfold showE
            rw [if_neg (by omega), if_pos]
            rw [List.all_eq_false]
            exact ⟨t, List.mem_of_getElem? HT.out, by rw [hw]; decide⟩
          clear hw
          go_wp2_with fail
          refine (HONE.out _).mono ?_
          rintro e w1 ⟨rfl, hb1⟩
          have HB1 : Hid (Below w.heap.size w w1) := HP.out.trans (hb1.mono HP.out.size)
          clear hb1
          go_wp2
          go_ret2
          exact showPost_no HE.out (by decide) HB1.out
        | true =>
          have hts := whole_short hw
          rw [hw] at HONE
          have HA1 : Hid (∀ j u, j < k + 1 → l[j]? = some u → wholeB u = true) := fun j u hj hu => by
            by_cases e : j = k
            · subst e; rw [HT.out] at hu; cases hu; exact hw
            · exact HA.out j u (by omega) hu
          have HSP : Hid (shP l (k + 1) = shP l k ++ (t.text.data.toList ++ sepL t (decide (k + 1 < l.length)))) := shP_succ HT.out
          clear hw HA
          go_wp2_with fail
          refine (HONE.out _).mono ?_
          rintro e w1 ⟨rfl, hb1⟩
          have HB1 : Hid (Below w.heap.size w w1) := HP.out.trans (hb1.mono HP.out.size)
          have hsz1 := HB1.out.size
          have HO1 : Hid (BRow w1 w.heap.size (.slice oo (shP l k).length oc) (shP l k)) := owns_below HO.out hb1
          obtain ⟨g', off', ca'', hv, -, r0, r1, -, -⟩ := (HC.out.below HB1.out).cells HT.out
          simp only [Value.slice.injEq, Option.some.injEq, Addr.mk.injEq] at hv
          obtain ⟨⟨rfl, rfl, -⟩, -, -⟩ := hv
          generalize shP l k = L at *
          clear hb1 HO HONE p0 p1 p2 p3
          go_wp2_with (at_builtin; refine Lib.wpList_append_own_string _ rfl _ _ 47 9 rfl w.heap.size 5 i0 Tryd.underlying47 Tryd.underlying9 hi hz0 hz1 hz2 _ _ _ rfl HO1.out t.text rfl ?c3 ?c4 ?c5 ?_)
          case c3 => unfold maxLen; omega
          case c4 => omega
          case c5 => omega
          intro v2 w2 hown2 hgrow2 _
          have HB2 : Hid (Below w.heap.size w w2) := HB1.out.grown hgrow2 hsz1 (fun q hq => (HO1.out.lt q hq).1)
          have HO2 : Hid (BRow w2 w.heap.size v2 (L ++ t.text.data.toList)) := by
            show World.ownsRow _ _ _ _ _ _ _
            rw [← cells_str, List.length_append, bsize_list]
            exact hown2
          clear hown2 hgrow2 HO1
          obtain ⟨go, gc, rfl⟩ := brow_shape HO2.out
          obtain ⟨g', off', ca'', hv, -, r0, -, -, -⟩ := (HC.out.below HB2.out).cells HT.out
          simp only [Value.slice.injEq, Option.some.injEq, Addr.mk.injEq] at hv
          obtain ⟨⟨rfl, rfl, -⟩, -, -⟩ := hv
          have hsz2 := HB2.out.size
          have hlz : (L ++ t.text.data.toList).length ≤ 1000000 := by rw [List.length_append, bsize_list]; omega
          have HLL : Hid ((L ++ t.text.data.toList).length = L.length + t.text.size) := by show _ = _; rw [List.length_append, bsize_list]
          rw [← List.append_assoc] at HSP
          generalize L ++ t.text.data.toList = L2 at *
          by_cases hk6 : t.kind = 6
          · have hsep : sepL t (decide (k + 1 < l.length)) = [10] := by unfold sepL; rw [if_pos hk6]
            rw [hsep] at HSP
            have b6 : (t.kind == 6) = true := by rw [hk6]; rfl
            rw [hk6] at r0
            clear hsep
            go_wp2_with (at_builtin; refine wpList_append_own _ rfl _ _ 47 rfl w.heap.size 5 i0 (.int .u8 0) 1 1 Tryd.underlying47 hi hz0 hz1 hz2 rfl (by decide) _ _ _ rfl (World.ownsRow.alloc HO2.out _) ⟨w2.heap.size, 0, none⟩ 1 1 [.int .u8 10] rfl rfl ?c1 ?c2 ?c3 ?c4 ?c5 ?_)
            case c1 => exact cell_one_new _ _ _
            case c2 => intro y hy; simp at hy; subst hy; rfl
            case c3 => unfold maxLen; omega
            case c4 => omega
            case c5 => simp; omega
            intro v3 w3 hown3 hgrow3 _
            have HB3 : Hid (Below w.heap.size w w3) := (HB2.out.alloc hsz2 _).grown hgrow3 (by simp; omega) (fun q hq => (HO2.out.lt q hq).1)
            have HO3 : Hid (BRow w3 w.heap.size v3 (L2 ++ [10])) := by
              show World.ownsRow _ _ _ _ _ _ _
              rw [← cells_snoc, List.length_append]
              exact hown3
            clear hown3 hgrow3 HO2
            obtain ⟨go3, gc3, rfl⟩ := brow_shape HO3.out
            go_wp2
            exact ⟨⟨k + 1, by omega, by go_num, by rw [HSP.out]; exact HO3.out, HB3.out, HA1.out⟩, by simp [intOf]; omega⟩
          · have b6 : (t.kind == 6) = false := by simpa using hk6
            by_cases hm : k + 1 < l.length
            · have hsep : sepL t (decide (k + 1 < l.length)) = [32] := by unfold sepL; rw [if_neg hk6, if_pos (by simpa using hm)]
              rw [hsep] at HSP
              clear hsep hk6
              go_wp2_with (at_builtin; refine wpList_append_own _ rfl _ _ 47 rfl w.heap.size 5 i0 (.int .u8 0) 1 1 Tryd.underlying47 hi hz0 hz1 hz2 rfl (by decide) _ _ _ rfl (World.ownsRow.alloc HO2.out _) ⟨w2.heap.size, 0, none⟩ 1 1 [.int .u8 32] rfl rfl ?c1 ?c2 ?c3 ?c4 ?c5 ?_)
              case c1 => exact cell_one_new _ _ _
              case c2 => intro y hy; simp at hy; subst hy; rfl
              case c3 => unfold maxLen; omega
              case c4 => omega
              case c5 => simp; omega
              intro v3 w3 hown3 hgrow3 _
              have HB3 : Hid (Below w.heap.size w w3) := (HB2.out.alloc hsz2 _).grown hgrow3 (by simp; omega) (fun q hq => (HO2.out.lt q hq).1)
              have HO3 : Hid (BRow w3 w.heap.size v3 (L2 ++ [32])) := by
                show World.ownsRow _ _ _ _ _ _ _
                rw [← cells_snoc, List.length_append]
                exact hown3
              clear hown3 hgrow3 HO2
              obtain ⟨go3, gc3, rfl⟩ := brow_shape HO3.out
              go_wp2
              exact ⟨⟨k + 1, by omega, by go_num, by rw [HSP.out]; exact HO3.out, HB3.out, HA1.out⟩, by simp [intOf]; omega⟩
            · have hsep : sepL t (decide (k + 1 < l.length)) = [] := by unfold sepL; rw [if_neg hk6, if_neg (by simpa using hm)]
              rw [hsep, List.append_nil] at HSP
              clear hsep hk6
              go_wp2
              exact ⟨⟨k + 1, by omega, by go_num, by rw [HSP.out]; exact HO2.out, HB2.out, HA1.out⟩, by simp [intOf]; omega⟩
      · obtain rfl : k = l.length := by omega
        have hall : l.all wholeB = true := by
          rw [List.all_eq_true]
          intro t ht
          obtain ⟨j, hj⟩ := List.getElem?_of_mem ht
          exact HA.out j t (List.getElem?_eq_some_iff.1 hj).1 hj
        have hcv := brow_str rfl HO.out
        by_cases hlong : 8000 < (shP l l.length).length
        · have HE : Hid (showE l = 1) := by show _ = _; unfold showE; rw [if_neg (by omega), if_neg (by rw [hall]; decide), if_pos hlong]
          clear hcv HO
          generalize shP l l.length = L at *
          go_wp2
          go_ret2
          exact showPost_no HE.out (by decide) hb
        · have hE : showE l = 0 := by unfold showE; rw [if_neg (by omega), if_neg (by rw [hall]; decide), if_neg hlong]
          have HE : Hid (showE l = 0 ∧ showV l = shP l l.length) := ⟨hE, by unfold showV; rw [if_pos hE]⟩
          have hs8 : (shP l l.length).length ≤ 8000 := by omega
          clear hE hlong HO
          generalize shP l l.length = L at *
          go_wp2
          go_ret2
          exact ⟨by rw [HE.out.1, HE.out.2]; rfl, hb⟩
end Go.Proofs.YtljdfaoplenloaaDoor
