/- What panicroadref.Tokens answers. -/
import Derived.Test.YtljdfaoplenloaaDoorRefrun
namespace Go.Proofs.YtljdfaoplenloaaDoor
open Go.ChangeShapes Go.WideShapes Go.ChangeAt Go.RowKit
set_option maxRecDepth 100000
set_option linter.unusedSimpArgs false
set_option linter.unusedVariables false

def rtW (w : World) (src : ByteArray) : World := ((w.alloc (.cells #[.string src] 9)).alloc (.cells #[.int .i64 0, .int .i64 0, .int .i64 0] 25)).alloc (.cells #[.slice none 0 0] 22)
theorem rt_start (w : World) (src : ByteArray) : Below w.heap.size w (rtW w src) ∧ RT w.heap.size src [] (rtW w src) none 0 := by
  have h0 : (w.alloc (.cells #[.string src] 9)).heap.size = w.heap.size + 1 := by simp
  have h1 : ((w.alloc (.cells #[.string src] 9)).alloc (.cells #[.int .i64 0, .int .i64 0, .int .i64 0] 25)).heap.size = w.heap.size + 2 := by simp
  refine ⟨(((Below.refl _ _).alloc (Nat.le_refl _) _).alloc (by simp) _).alloc (by simp; omega) _, ?_, ?_, ?_, World.ownsRow_nil _ _ _ _⟩
  · unfold rtW
    rw [Lib.alloc_old _ _ w.heap.size (by rw [h1]; omega), Lib.alloc_old _ _ w.heap.size (by rw [h0]; omega)]
    exact heap_alloc_new w _
  · unfold rtW
    rw [Lib.alloc_old _ _ (w.heap.size + 1) (by rw [h1]; omega)]
    have := heap_alloc_new (w.alloc (.cells #[.string src] 9)) (.cells #[.int .i64 0, .int .i64 0, .int .i64 0] 25)
    rwa [h0] at this
  · unfold rtW
    have := heap_alloc_new ((w.alloc (.cells #[.string src] 9)).alloc (.cells #[.int .i64 0, .int .i64 0, .int .i64 0] 25)) (.cells #[.slice none 0 0] 22)
    rwa [h1] at this
/-- The cells of a state. -/
theorem RT.spots {B : Nat} {src : ByteArray} {ts : List Tk} {W : World} {ao : Option Addr} {cv : Nat} (h : RT B src ts W ao cv) :
    W.cell? ⟨B + 1, 0, none⟩ = some (.int .i64 0) ∧ W.cell? ⟨B + 1, 1, none⟩ = some (.int .i64 0) ∧ W.cell? ⟨B + 1, 2, none⟩ = some (.int .i64 0) ∧ (∀ o, W.frozen? ⟨B + 1, o, none⟩ = false) :=
  ⟨by simp [World.cell?, h.b1], by simp [World.cell?, h.b1], by simp [World.cell?, h.b1], fun o => by simp [World.frozen?, h.b1]⟩
theorem RT.lastTok {B : Nat} {src : ByteArray} {l : List Tk} {t : Tk} {W : World} {ao : Option Addr} {cv : Nat} (h : RT B src (l ++ [t]) W ao cv) :
    ∃ g, ao = some ⟨g, 0, none⟩ ∧ W.cell? ⟨g, l.length * 4, none⟩ = some (.int .i64 t.kind) ∧ W.cell? ⟨g, l.length * 4 + 1, none⟩ = some (.string t.text) ∧ W.cell? ⟨g, l.length * 4 + 2, none⟩ = some (.int .i64 t.line) ∧ W.cell? ⟨g, l.length * 4 + 3, none⟩ = some (.int .i64 t.col) := by
  have ho := h.own
  have hn : (l ++ [t]).length = l.length + 1 := by simp
  rw [hn] at ho
  obtain ⟨g, cap, hv⟩ : ∃ g cap, Value.slice ao (l.length + 1) cv = .slice (some ⟨g, 0, none⟩) (l.length + 1) cap := by
    rcases ho.2 with ⟨_, h0⟩ | ⟨g, cap, cur, hv, _⟩
    · omega
    · exact ⟨_, _, hv⟩
  simp only [Value.slice.injEq] at hv
  obtain ⟨rfl, -, rfl⟩ := hv
  refine ⟨g, rfl, ?_, ?_, ?_, ?_⟩
  · rw [ho.cellAt (l.length * 4) (by omega)]; exact tcells_last 0 (by decide)
  · rw [ho.cellAt (l.length * 4 + 1) (by omega)]; exact tcells_last 1 (by decide)
  · rw [ho.cellAt (l.length * 4 + 2) (by omega)]; exact tcells_last 2 (by decide)
  · rw [ho.cellAt (l.length * 4 + 3) (by omega)]; exact tcells_last 3 (by decide)
theorem RT.done {B : Nat} {src : ByteArray} {ts : List Tk} {W : World} {ao : Option Addr} {cv : Nat} (h : RT B src ts W ao cv) (a b c : Value) :
    (((W.setCell ⟨B + 1, 0, none⟩ a).setCell ⟨B + 1, 1, none⟩ b).setCell ⟨B + 1, 2, none⟩ c).ownsRow B 33 4 (.slice ao ts.length cv) ts.length (tcells ts) := by
  have key : ∀ (V : World) (o : Nat) (u : Value), V.ownsRow (B + 3) 33 4 (.slice ao ts.length cv) ts.length (tcells ts) → (V.setCell ⟨B + 1, o, none⟩ u).ownsRow (B + 3) 33 4 (.slice ao ts.length cv) ts.length (tcells ts) := fun V o u ho => by
    refine ho.kept (row := some (B + 1)) ⟨rfl, rfl, rfl, by simp [World.setCell], fun i _ hi => Below.heap_setCell _ _ _ _ (fun e => hi (by simp [e]))⟩ ?_
    cases hq : (Value.slice ao ts.length cv).ownBlock with
    | none => exact .inl rfl
    | some q => right; have := (ho.lt q hq).1; simp; omega
  exact row_on (key _ _ _ (key _ _ _ (key _ _ _ h.own))) (by omega) (Below.refl _ _)
theorem lnN_stop : ∀ l : List UInt8, lnN l < l.length → l[lnN l]? = some 10
  | [], h => by simp [lnN] at h
  | c :: l, h => by
    by_cases hc : c = 10
    · subst hc; rfl
    · have e : lnN (c :: l) = lnN l + 1 := by
        have hb : (c != 10) = true := by simpa using hc
        unfold lnN
        rw [List.takeWhile_cons_of_pos (p := fun c => c != 10) hb, List.length_cons]
      rw [e] at h ⊢
      rw [List.getElem?_cons_succ]
      exact lnN_stop l (by simpa using h)
theorem pre_two {src : ByteArray} {p : Nat} (h : Lib.hasPrefix (src.extract p src.size).data.toList [47, 47] = true) : p + 2 ≤ src.size ∧ ((src.extract p (p + 2)).toList == [47, 47]) = true := by
  unfold Lib.hasPrefix at h
  rw [List.isPrefixOf_iff_prefix] at h
  obtain ⟨u, hu⟩ := h
  have hl := congrArg List.length hu
  rw [drop_list, List.length_drop, bsize_list] at hl
  simp at hl
  refine ⟨by omega, ?_⟩
  have : ((src.extract p src.size).extract 0 2).data.toList = [47, 47] := by
    rw [ByteArray.data_extract, Array.toList_extract, ← hu]; rfl
  rw [← ext_ext (by omega), ByteArray.toList_eq, this]
  rfl
theorem pre_not {src : ByteArray} {p : Nat} (h : Lib.hasPrefix (src.extract p src.size).data.toList [47, 47] = false) (h2 : p + 2 ≤ src.size) : ((src.extract p (p + 2)).toList == [47, 47]) = false := by
  cases hc : ((src.extract p (p + 2)).toList == [47, 47]) with
  | false => rfl
  | true =>
    have e : ((src.extract p src.size).extract 0 2).data.toList = [47, 47] := by
      rw [ext_ext (by omega)]; simpa [ByteArray.toList_eq] using hc
    rw [ByteArray.data_extract, Array.toList_extract] at e
    have : Lib.hasPrefix (src.extract p src.size).data.toList [47, 47] = true := by
      unfold Lib.hasPrefix
      rw [List.isPrefixOf_iff_prefix]
      refine ⟨(src.extract p src.size).data.toList.drop 2, ?_⟩
      rw [← e]
      simp
    rw [h] at this
    cases this
set_option maxHeartbeats 16000000 in
theorem ref_tokens (src : ByteArray) (w : World) (hs : src.size ≤ maxLen) :
    Calls Tryd.prog 7 #[.string src] w (Told w (tokR src)) := by
  unfold maxLen at hs
  by_cases hbig : 8000 < src.size
  · have hR : tokR src = .bad 1 0 0 := by unfold tokR; rw [if_pos hbig]
    rw [hR]
    clear hR
    go_enter Tryd.func7, Tryd.ntmps7
    go_wp2
    exact bodyPost_ret (v := .tuple #[.slice none 0 0, .agg #[.int .i64 1, .int .i64 0, .int .i64 0]]) (by simp [results, Tryd.results7, go_sem]) rfl ⟨((Below.refl _ _).alloc (Nat.le_refl _) _).alloc (by simp) _, rfl⟩
  · have h8 : src.size ≤ 8000 := by omega
    have HGET : Hid (∀ (k : Nat) (h : k < src.size), src.data.toList[k]? = some src[k]) := fun k h => by rw [get_list src k h, List.getElem?_eq_getElem]
    have HADD : Hid (∀ (ts : List Tk) (k : Int) (p : Nat) (t : ByteArray) (W : World) (ao : Option Addr) (cv : Nat), RT w.heap.size src ts W ao cv → p ≤ src.size → ts.length ≤ 2000 →
      Calls Tryd.prog 15 #[.int .i64 k, .int .i64 (p : Int), .string t, .pointer (some ⟨w.heap.size, 0, none⟩), .pointer (some ⟨w.heap.size + 2, 0, none⟩)] W fun e w' =>
      e = .returned (.bool (decide (ts.length < 2000))) ∧ Below w.heap.size W w' ∧ ∃ ao' cv', RT w.heap.size src (ts ++ [⟨k, t, (plc src.data.toList p).1, (plc src.data.toList p).2⟩]) w' ao' cv') := fun ts k p t W ao cv h1 h2 h3 => ref_add w.heap.size src ts k p t W ao cv h1 h2 h8 h3
    have HSPOT : Hid (∀ (p : Nat) (c : Int) (W : World), p ≤ src.size → Calls Tryd.prog 18 #[.string src, .int .i64 (p : Int), .int .i64 c] W fun e w' => e = .returned (.agg #[.int .i64 c, .int .i64 (plc src.data.toList p).1, .int .i64 (plc src.data.toList p).2]) ∧ Below W.heap.size W w') := fun p c W hp => ref_spot src p c W hp h8
    have HSTART : Hid (RRel w src 0 (rtW w src)) := by
      obtain ⟨q1, q2⟩ := rt_start w src
      refine ⟨q1, [], none, 0, q2, .inl ⟨sc0, src.size + 1, rfl, rfl, ⟨sc0_ok h8, rfl, Nat.le_refl _⟩, fun t ht => (by cases ht), by simp [sc0], ?_⟩⟩
      unfold tokR; rw [if_neg hbig]
    clear hbig hs
    go_enter Tryd.func7, Tryd.ntmps7
    go_wp2
    go_loopw [6] (fun i wr => ∃ p : Nat, i = .int .i64 p ∧ p ≤ src.size + 1 ∧ Hid (RRel w src p wr)) (fun i _ => src.size + 2 - (intOf i).toNat)
    case atStart => exact ⟨0, rfl, Nat.zero_le _, HSTART.out⟩
    case round =>
      clear HSTART
      obtain ⟨p, rfl, hp, HK⟩ := hrel
      obtain ⟨hb, ts, ao, cv, hrt, hcase⟩ := HK.out
      have HB : Hid (Below w.heap.size w wr) := hb
      have HRT : Hid (RT w.heap.size src ts wr ao cv) := hrt
      obtain ⟨c0, c2, f2, hlt⟩ := hrt.cells
      obtain ⟨d0, d1, d2, fz⟩ := hrt.spots
      have fz0 := fz 0
      have fz1 := fz 1
      have fz2 := fz 2
      clear HK hb hrt fz
      rcases hcase with ⟨s, f, rfl, rfl, hin, hok, hf, hR⟩ | ⟨rfl, s, hR, rfl⟩
      · have hlen := hin.ok.len
        have hpp := hin.ok.pos
        have HIN : Hid (s.In src) := hin
        have HOK : Hid (AllOk s.ts) := hok
        have HPLC : Hid (plc src.data.toList s.pos = (s.line, s.col)) := hin.plc
        have HR : Hid (runR src f s = tokR src) := hR
        have HFU : Hid (src.size < f + s.pos) := hf
        clear hin hok hR hf
        by_cases hend : s.pos = src.size
        · have HRE : Hid (s.closeR = tokR src) := by show _ = _; rw [← HR.out]; exact (runR_end (by omega) (by omega) HFU.out).symm
          have b1 : ((s.pos : Int) == (src.size : Int)) = true := by rw [hend]; simp
          have hple : src.size ≤ src.size := Nat.le_refl _
          rw [hend] at HPLC
          rw [hend]
          clear hend b1 HIN HR HFU
          have b1 : ((src.size : Int) == (src.size : Int)) = true := by simp
          rcases close_ways s hlen with ⟨h0, hcl⟩ | ⟨l, t, h1, hw⟩
          · have HREL : Hid (RRel w src (src.size + 1) wr) := ⟨HB.out, s.ts, ao, cv, HRT.out, .inr ⟨by omega, s, by rw [← HRE.out, hcl], rfl⟩⟩
            rw [h0] at c2
            clear hcl HADD HSPOT
            go_wp2
            exact ⟨⟨src.size + 1, by go_num, by omega, HREL.out⟩, by simp [intOf] <;> omega⟩
          · have hrt2 := HRT.out
            rw [h1] at hrt2
            obtain ⟨gg, rfl, q0, q1, q2, q3⟩ := hrt2.lastTok
            clear hrt2
            have hn : s.ts.length = l.length + 1 := by rw [h1]; simp
            have HCLO : Hid (∀ W, Calls Tryd.prog 17 #[.agg #[.int .i64 t.kind, .string t.text, .int .i64 t.line, .int .i64 t.col]] W fun e w' => e = .returned (.bool (mayT t.kind t.text)) ∧ Below W.heap.size W w') := fun W => by
              have := ref_closes t.kind t.text t.line t.col W
              rwa [cl_may (HOK.out t (by rw [h1]; simp))] at this
            rw [hn] at c2
            have HN : Hid (s.ts.length = l.length + 1) := hn
            have hl2 : l.length ≤ 2000 := by omega
            clear h1 hn
            rcases hw with ⟨hm, hcl⟩ | ⟨hm, hfull, hcl⟩ | ⟨hm, hfull, hcl⟩
            · have HREL : Hid (RRel w src (src.size + 1) wr) := ⟨HB.out, s.ts, _, cv, HRT.out, .inr ⟨by omega, s, by rw [← HRE.out, hcl], rfl⟩⟩
              rw [hm] at HCLO
              have HRELB : Hid (∀ W, Below wr.heap.size wr W → RRel w src (src.size + 1) W) := fun W hW => by
                obtain ⟨r1, ts', ao', cv', r2, r3⟩ := HREL.out
                exact ⟨r1.trans (hW.mono r1.size), ts', ao', cv', r2.below hW, r3⟩
              clear hcl hm HREL HADD HSPOT
              go_wp2_with fail
              refine (HCLO.out _).mono ?_
              rintro e w1 ⟨rfl, hb1⟩
              have HREL : Hid (RRel w src (src.size + 1) w1) := HRELB.out w1 hb1
              clear hb1
              go_wp2
              exact ⟨⟨src.size + 1, by go_num, by omega, HREL.out⟩, by simp [intOf] <;> omega⟩
            · rw [hm] at HCLO
              have HCL : Hid (s.closeR = .ok (s.put 6 ⟨#[59]⟩)) := hcl
              clear hm hcl HSPOT
              go_wp2_with fail
              refine (HCLO.out _).mono ?_
              rintro e w1 ⟨rfl, hb1⟩
              have hB1 : Below w.heap.size w w1 := HB.out.trans (hb1.mono HB.out.size)
              have HAD : Hid (Calls Tryd.prog 15 #[.int .i64 6, .int .i64 (src.size : Int), .string ⟨#[59]⟩, .pointer (some ⟨w.heap.size, 0, none⟩), .pointer (some ⟨w.heap.size + 2, 0, none⟩)] w1 fun e w' =>
                e = .returned (.bool true) ∧ RRel w src (src.size + 1) w') := by
                have := HADD.out s.ts 6 src.size ⟨#[59]⟩ w1 _ cv (HRT.out.below hb1) hple (by omega)
                refine this.mono ?_
                rintro e w3 ⟨rfl, hb3, ao3, cv3, hrt3⟩
                have HBW : Below w.heap.size w w3 := hB1.trans hb3
                exact ⟨by rw [decide_eq_true hfull], ⟨HBW, _, ao3, cv3, hrt3, .inr ⟨by omega, s.put 6 ⟨#[59]⟩, by rw [← HRE.out, HCL.out], by simp [Sc.put, HPLC.out]⟩⟩⟩
              clear hb1 hB1 HADD
              go_wp2_with fail
              refine HAD.out.mono ?_
              rintro e w3 ⟨rfl, hrel3⟩
              have HREL : Hid (RRel w src (src.size + 1) w3) := hrel3
              clear hrel3
              go_wp2
              exact ⟨⟨src.size + 1, by go_num, by omega, HREL.out⟩, by simp [intOf] <;> omega⟩
            · have HBAD : Hid (tokR src = .bad 15 s.line s.col) := by show _ = _; rw [← HRE.out, hcl]
              rw [hm] at HCLO
              clear hm hcl
              go_wp2_with fail
              refine (HCLO.out _).mono ?_
              rintro e w1 ⟨rfl, hb1⟩
              have hB1 : Below w.heap.size w w1 := HB.out.trans (hb1.mono HB.out.size)
              have HAD : Hid (Calls Tryd.prog 15 #[.int .i64 6, .int .i64 (src.size : Int), .string ⟨#[59]⟩, .pointer (some ⟨w.heap.size, 0, none⟩), .pointer (some ⟨w.heap.size + 2, 0, none⟩)] w1 fun e w' =>
                e = .returned (.bool false) ∧ Below w.heap.size w w' ∧ ∃ ts ao cv, RT w.heap.size src ts w' ao cv) := by
                have := HADD.out s.ts 6 src.size ⟨#[59]⟩ w1 _ cv (HRT.out.below hb1) hple (by omega)
                refine this.mono ?_
                rintro e w3 ⟨rfl, hb3, ao3, cv3, hrt3⟩
                exact ⟨by rw [decide_eq_false (by omega)], hB1.trans hb3, _, _, _, hrt3⟩
              clear hb1 hB1 HADD
              go_wp2_with fail
              refine HAD.out.mono ?_
              rintro e w3 ⟨rfl, hB3, ts3, ao3, cv3, hrt3⟩
              obtain ⟨k0, -, -, -⟩ := hrt3.cells
              have HB3 : Hid (Below w.heap.size w w3) := hB3
              have HRT3 : Hid (RT w.heap.size src ts3 w3 ao3 cv3) := hrt3
              clear hB3 hrt3
              go_wp2_with fail
              refine (HSPOT.out src.size 15 _ hple).mono ?_
              rintro e w4 ⟨rfl, hb4⟩
              rw [HPLC.out]
              have HB4 : Hid (Below w.heap.size w w4) := HB3.out.trans (hb4.mono HB3.out.size)
              obtain ⟨z0, z1, z2, zf⟩ := (HRT3.out.below hb4).spots
              have zf0 := zf 0
              have zf1 := zf 1
              have zf2 := zf 2
              clear hb4 zf
              go_wp2_with fail
              exact bodyPost_ret (v := .tuple #[.slice none 0 0, .agg #[.int .i64 15, .int .i64 s.line, .int .i64 s.col]]) (by simp [results, Tryd.results7, go_sem, z0, z1, z2]) rfl (told_spot HBAD.out (((HB4.out.setCell (by simp) _).setCell (by simp) _).setCell (by simp) _))
        · have hpos : s.pos < src.size := by omega
          have b1 : ((s.pos : Int) == (src.size : Int)) = false := by rw [beq_eq_false_iff_ne]; omega
          have hple : s.pos ≤ src.size := by omega
          obtain ⟨g0, rfl, hrun⟩ := runR_step hpos HFU.out
          obtain ⟨hg0, hg1⟩ := get_pos hpos
          have HFU2 : Hid (src.size < g0 + (s.pos + 1)) := by show _ < _; have := HFU.out; omega
          have HRUN : Hid (tokR src = match s.stepR (src.extract s.pos src.size) (rest_pos hpos) with | .ok s' => runR src g0 s' | .bad c ln cl => .bad c ln cl) := by show _ = _; rw [← HR.out]; exact hrun
          have HSI : Hid (∀ s', s.stepR (src.extract s.pos src.size) (rest_pos hpos) = .ok s' → s'.In src ∧ s.pos < s'.pos) := fun s' h => ⟨step_in HIN.out hpos h, (step_ok HIN.out.ok hpos h).2⟩
          clear hrun HR HFU
          by_cases h10 : src[s.pos] = 10
          · have b2 : ((src[s.pos].toNat : Int) == 10) = true := by rw [h10]; decide
            have HST : Hid (s.stepR (src.extract s.pos src.size) (rest_pos hpos) = match s.closeR with | .ok s' => .ok ⟨s.pos + 1, s.line + 1, s.pos + 1, s'.ts⟩ | .bad c ln cl => .bad c ln cl) := by
              show _ = _; unfold Sc.stepR; rw [if_pos (by rw [hg0]; exact h10)]; cases s.closeR <;> rfl
            clear hg0 hg1
            rcases close_ways s hlen with ⟨h0, hcl⟩ | ⟨l, t, h1, hw⟩
            · have hst1 := HST.out
              rw [hcl] at hst1
              have HREL : Hid (RRel w src (s.pos + 1) wr) := ⟨HB.out, s.ts, ao, cv, HRT.out, .inl ⟨⟨s.pos + 1, s.line + 1, s.pos + 1, s.ts⟩, g0, rfl, rfl, (HSI.out _ hst1).1, HOK.out, HFU2.out, by rw [HRUN.out, hst1]⟩⟩
              clear hst1
              rw [h0] at c2
              clear hcl HADD HSPOT
              go_wp2
              exact ⟨⟨s.pos + 1, by go_num, by omega, HREL.out⟩, by simp [intOf] <;> omega⟩
            · have hrt2 := HRT.out
              rw [h1] at hrt2
              obtain ⟨gg, rfl, q0, q1, q2, q3⟩ := hrt2.lastTok
              clear hrt2
              have hn : s.ts.length = l.length + 1 := by rw [h1]; simp
              have HCLO : Hid (∀ W, Calls Tryd.prog 17 #[.agg #[.int .i64 t.kind, .string t.text, .int .i64 t.line, .int .i64 t.col]] W fun e w' => e = .returned (.bool (mayT t.kind t.text)) ∧ Below W.heap.size W w') := fun W => by
                have := ref_closes t.kind t.text t.line t.col W
                rwa [cl_may (HOK.out t (by rw [h1]; simp))] at this
              rw [hn] at c2
              have HN : Hid (s.ts.length = l.length + 1) := hn
              have hl2 : l.length ≤ 2000 := by omega
              clear h1 hn
              rcases hw with ⟨hm, hcl⟩ | ⟨hm, hfull, hcl⟩ | ⟨hm, hfull, hcl⟩
              · have hst1 := HST.out
                rw [hcl] at hst1
                have HREL : Hid (RRel w src (s.pos + 1) wr) := ⟨HB.out, s.ts, _, cv, HRT.out, .inl ⟨⟨s.pos + 1, s.line + 1, s.pos + 1, s.ts⟩, g0, rfl, rfl, (HSI.out _ hst1).1, HOK.out, HFU2.out, by rw [HRUN.out, hst1]⟩⟩
                clear hst1
                rw [hm] at HCLO
                have HRELB : Hid (∀ W, Below wr.heap.size wr W → RRel w src (s.pos + 1) W) := fun W hW => by
                  obtain ⟨r1, ts', ao', cv', r2, r3⟩ := HREL.out
                  exact ⟨r1.trans (hW.mono r1.size), ts', ao', cv', r2.below hW, r3⟩
                clear hcl hm HREL HADD HSPOT
                go_wp2_with fail
                refine (HCLO.out _).mono ?_
                rintro e w1 ⟨rfl, hb1⟩
                have HREL : Hid (RRel w src (s.pos + 1) w1) := HRELB.out w1 hb1
                clear hb1
                go_wp2
                exact ⟨⟨s.pos + 1, by go_num, by omega, HREL.out⟩, by simp [intOf] <;> omega⟩
              · rw [hm] at HCLO
                have HCL : Hid (s.closeR = .ok (s.put 6 ⟨#[59]⟩)) := hcl
                clear hm hcl HSPOT
                go_wp2_with fail
                refine (HCLO.out _).mono ?_
                rintro e w1 ⟨rfl, hb1⟩
                have hB1 : Below w.heap.size w w1 := HB.out.trans (hb1.mono HB.out.size)
                have HAD : Hid (Calls Tryd.prog 15 #[.int .i64 6, .int .i64 (s.pos : Int), .string ⟨#[59]⟩, .pointer (some ⟨w.heap.size, 0, none⟩), .pointer (some ⟨w.heap.size + 2, 0, none⟩)] w1 fun e w' =>
                  e = .returned (.bool true) ∧ RRel w src (s.pos + 1) w') := by
                  have := HADD.out s.ts 6 s.pos ⟨#[59]⟩ w1 _ cv (HRT.out.below hb1) hple (by omega)
                  refine this.mono ?_
                  rintro e w3 ⟨rfl, hb3, ao3, cv3, hrt3⟩
                  have HBW : Below w.heap.size w w3 := hB1.trans hb3
                  exact ⟨by rw [decide_eq_true hfull], ⟨HBW, _, ao3, cv3, hrt3, .inl ⟨⟨s.pos + 1, s.line + 1, s.pos + 1, (s.put 6 ⟨#[59]⟩).ts⟩, g0, rfl, by simp [Sc.put, HPLC.out], (HSI.out _ (by rw [HST.out, HCL.out])).1, HOK.out.snoc (okT_semi _), HFU2.out, by rw [HRUN.out, HST.out, HCL.out]⟩⟩⟩
                clear hb1 hB1 HADD
                go_wp2_with fail
                refine HAD.out.mono ?_
                rintro e w3 ⟨rfl, hrel3⟩
                have HREL : Hid (RRel w src (s.pos + 1) w3) := hrel3
                clear hrel3
                go_wp2
                exact ⟨⟨s.pos + 1, by go_num, by omega, HREL.out⟩, by simp [intOf] <;> omega⟩
              · have HBAD : Hid (tokR src = .bad 15 s.line s.col) := by show _ = _; rw [HRUN.out, HST.out, hcl]
                rw [hm] at HCLO
                clear hm hcl
                go_wp2_with fail
                refine (HCLO.out _).mono ?_
                rintro e w1 ⟨rfl, hb1⟩
                have hB1 : Below w.heap.size w w1 := HB.out.trans (hb1.mono HB.out.size)
                have HAD : Hid (Calls Tryd.prog 15 #[.int .i64 6, .int .i64 (s.pos : Int), .string ⟨#[59]⟩, .pointer (some ⟨w.heap.size, 0, none⟩), .pointer (some ⟨w.heap.size + 2, 0, none⟩)] w1 fun e w' =>
                  e = .returned (.bool false) ∧ Below w.heap.size w w' ∧ ∃ ts ao cv, RT w.heap.size src ts w' ao cv) := by
                  have := HADD.out s.ts 6 s.pos ⟨#[59]⟩ w1 _ cv (HRT.out.below hb1) hple (by omega)
                  refine this.mono ?_
                  rintro e w3 ⟨rfl, hb3, ao3, cv3, hrt3⟩
                  exact ⟨by rw [decide_eq_false (by omega)], hB1.trans hb3, _, _, _, hrt3⟩
                clear hb1 hB1 HADD
                go_wp2_with fail
                refine HAD.out.mono ?_
                rintro e w3 ⟨rfl, hB3, ts3, ao3, cv3, hrt3⟩
                obtain ⟨k0, -, -, -⟩ := hrt3.cells
                have HB3 : Hid (Below w.heap.size w w3) := hB3
                have HRT3 : Hid (RT w.heap.size src ts3 w3 ao3 cv3) := hrt3
                clear hB3 hrt3
                go_wp2_with fail
                refine (HSPOT.out s.pos 15 _ hple).mono ?_
                rintro e w4 ⟨rfl, hb4⟩
                rw [HPLC.out]
                have HB4 : Hid (Below w.heap.size w w4) := HB3.out.trans (hb4.mono HB3.out.size)
                obtain ⟨z0, z1, z2, zf⟩ := (HRT3.out.below hb4).spots
                have zf0 := zf 0
                have zf1 := zf 1
                have zf2 := zf 2
                clear hb4 zf
                go_wp2_with fail
                exact bodyPost_ret (v := .tuple #[.slice none 0 0, .agg #[.int .i64 15, .int .i64 s.line, .int .i64 s.col]]) (by simp [results, Tryd.results7, go_sem, z0, z1, z2]) rfl (told_spot HBAD.out (((HB4.out.setCell (by simp) _).setCell (by simp) _).setCell (by simp) _))
          · have b2 : ((src[s.pos].toNat : Int) == 10) = false := nat_ne (n := 10) (by decide) h10
            clear hg1
            by_cases hbl : src[s.pos] = 32 ∨ src[s.pos] = 9 ∨ src[s.pos] = 13
            · have hST : s.stepR (src.extract s.pos src.size) (rest_pos hpos) = .ok { s with pos := s.pos + 1 } := by
                unfold Sc.stepR; rw [if_neg (by rw [hg0]; exact h10), if_pos (by rw [hg0]; exact hbl)]
              have HREL : Hid (RRel w src (s.pos + 1) wr) := by
                refine ⟨HB.out, s.ts, ao, cv, HRT.out, .inl ⟨{ s with pos := s.pos + 1 }, g0, rfl, rfl, (HSI.out _ hST).1, HOK.out, HFU2.out, ?_⟩⟩
                rw [HRUN.out, hST]
              clear hST HRUN HSI HIN HOK HPLC HRT HB HFU2 hg0 h10
              rcases hbl with hx | hx | hx
              · have b3 : ((src[s.pos].toNat : Int) == 32) = true := by rw [hx]; decide
                clear hx
                go_wp2
                exact ⟨⟨s.pos + 1, by go_num, by omega, HREL.out⟩, by simp [intOf] <;> omega⟩
              · have b3 : ((src[s.pos].toNat : Int) == 32) = false := by rw [hx]; decide
                have b4 : ((src[s.pos].toNat : Int) == 9) = true := by rw [hx]; decide
                clear hx
                go_wp2
                exact ⟨⟨s.pos + 1, by go_num, by omega, HREL.out⟩, by simp [intOf] <;> omega⟩
              · have b3 : ((src[s.pos].toNat : Int) == 32) = false := by rw [hx]; decide
                have b4 : ((src[s.pos].toNat : Int) == 9) = false := by rw [hx]; decide
                have b5 : ((src[s.pos].toNat : Int) == 13) = true := by rw [hx]; decide
                clear hx
                go_wp2
                exact ⟨⟨s.pos + 1, by go_num, by omega, HREL.out⟩, by simp [intOf] <;> omega⟩
            · have b3 : ((src[s.pos].toNat : Int) == 32) = false := nat_ne (n := 32) (by decide) (fun e => hbl (.inl e))
              have b4 : ((src[s.pos].toNat : Int) == 9) = false := nat_ne (n := 9) (by decide) (fun e => hbl (.inr (.inl e)))
              have b5 : ((src[s.pos].toNat : Int) == 13) = false := nat_ne (n := 13) (by decide) (fun e => hbl (.inr (.inr e)))
              cases hpre : Lib.hasPrefix (src.extract s.pos src.size).data.toList [47, 47] with
              | true =>
                obtain ⟨h2, h47⟩ := pre_two hpre
                have hsl := slice_pq src s.pos 2 h2
                have hST : s.stepR (src.extract s.pos src.size) (rest_pos hpos) = .ok { s with pos := s.pos + lnN (src.extract s.pos src.size).data.toList } := by
                  unfold Sc.stepR; rw [if_neg (by rw [hg0]; exact h10), if_neg (by rw [hg0]; exact hbl), if_pos hpre]
                have hgt := (HSI.out _ hST).2
                simp only at hgt
                have hln := lnN_le (src.extract s.pos src.size).data.toList
                rw [drop_list, List.length_drop, bsize_list, ← drop_list] at hln
                have HREL : Hid (RRel w src (s.pos + lnN (src.extract s.pos src.size).data.toList) wr) := by
                  refine ⟨HB.out, s.ts, ao, cv, HRT.out, .inl ⟨{ s with pos := s.pos + lnN (src.extract s.pos src.size).data.toList }, g0, rfl, rfl, (HSI.out _ hST).1, HOK.out, ?_, ?_⟩⟩
                  · have := HFU2.out; show src.size < g0 + (s.pos + lnN _); omega
                  · rw [HRUN.out, hST]
                have HNO : Hid (∀ q (h : q < src.size), s.pos ≤ q → q < s.pos + lnN (src.extract s.pos src.size).data.toList → src[q] ≠ 10) := fun q h h1 h2 e => by
                  have := lnN_no (src.extract s.pos src.size).data.toList (q - s.pos) (by omega)
                  rw [drop_list, List.getElem?_drop, show s.pos + (q - s.pos) = q by omega, HGET.out q h, e] at this
                  exact this rfl
                have HYES : Hid (∀ (h : s.pos + lnN (src.extract s.pos src.size).data.toList < src.size), src[s.pos + lnN (src.extract s.pos src.size).data.toList] = 10) := fun h => by
                  have := lnN_stop (src.extract s.pos src.size).data.toList (by rw [drop_list, List.length_drop, bsize_list, ← drop_list]; omega)
                  rw [drop_list, List.getElem?_drop, ← drop_list, HGET.out _ h] at this
                  exact Option.some.inj this
                clear hST hpre HRUN HSI HIN HOK HPLC HRT HB HFU2 hg0 h10 hbl HADD HSPOT
                generalize lnN (src.extract s.pos src.size).data.toList = m at *
                go_wp2
                go_loopw [6] (fun i wr' => ∃ q : Nat, i = .int .i64 q ∧ s.pos ≤ q ∧ q ≤ s.pos + m ∧ Hid (wr' = wr)) (fun i _ => s.pos + m - (intOf i).toNat)
                case atStart => exact ⟨s.pos, rfl, Nat.le_refl _, by omega, rfl⟩
                case round =>
                  obtain ⟨q, rfl, hq1, hq2, HQ⟩ := hrel
                  obtain rfl := HQ.out
                  by_cases hqm : q < s.pos + m
                  · have hqs : q < src.size := by omega
                    have hli : decide ((q : Int) < (src.size : Int)) = true := by simp; omega
                    have e10 : ((src[q].toNat : Int) != 10) = true := nat_bne (n := 10) (by decide) (HNO.out q hqs hq1 hqm)
                    go_wp2
                    exact ⟨⟨q + 1, by go_num, by omega, by omega, trivial⟩, by simp [intOf] <;> omega⟩
                  · obtain rfl : q = s.pos + m := by omega
                    by_cases hqs : s.pos + m < src.size
                    · have hli : decide (((s.pos + m : Nat) : Int) < (src.size : Int)) = true := by simp; omega
                      have e10 : ((src[s.pos + m].toNat : Int) != 10) = false := by rw [HYES.out hqs]; decide
                      go_wp2
                      exact ⟨⟨s.pos + m, by go_num, by omega, HREL.out⟩, by simp [intOf] <;> omega⟩
                    · have hli : decide (((s.pos + m : Nat) : Int) < (src.size : Int)) = false := by simp; omega
                      go_wp2
                      exact ⟨⟨s.pos + m, by go_num, by omega, HREL.out⟩, by simp [intOf] <;> omega⟩
              | false =>
                have HTOK : Hid (∀ W, Calls Tryd.prog 19 #[.string (src.extract s.pos src.size)] W (Tok3 (src.extract s.pos src.size) (rest_pos hpos) W)) := fun W => ref_token _ W (rest_pos hpos) (by rw [ByteArray.size_extract]; omega)
                have hrest := slice_from src s.pos hple
                have HSTEP : Hid (s.stepR (src.extract s.pos src.size) (rest_pos hpos) = if (fsT (src.extract s.pos src.size) (rest_pos hpos)).2.2 = 0 then (match s.addR (fsT (src.extract s.pos src.size) (rest_pos hpos)).1 ((src.extract s.pos src.size).extract 0 (fsT (src.extract s.pos src.size) (rest_pos hpos)).2.1.toNat) with
                    | .ok s' => .ok { s' with pos := s.pos + (fsT (src.extract s.pos src.size) (rest_pos hpos)).2.1.toNat }
                    | .bad c ln cl => .bad c ln cl)
                  else .bad (fsT (src.extract s.pos src.size) (rest_pos hpos)).2.2 s.line s.col) := by
                  show _ = _
                  unfold Sc.stepR
                  rw [if_neg (by rw [hg0]; exact h10), if_neg (by rw [hg0]; exact hbl), if_neg (by rw [hpre]; decide)]
                  rfl
                have HFT : Hid ((fsT (src.extract s.pos src.size) (rest_pos hpos)).2.2 = 0 → ∃ n : Nat, (fsT (src.extract s.pos src.size) (rest_pos hpos)).2.1 = (n : Int) ∧ 1 ≤ n ∧ n ≤ (src.extract s.pos src.size).size) := fsT_ok _ _
                have HOT : Hid ((fsT (src.extract s.pos src.size) (rest_pos hpos)).2.2 = 0 → OkT (fsT (src.extract s.pos src.size) (rest_pos hpos)).1 ((src.extract s.pos src.size).extract 0 (fsT (src.extract s.pos src.size) (rest_pos hpos)).2.1.toNat)) := okT_first
                have hrz : (src.extract s.pos src.size).size = src.size - s.pos := by rw [ByteArray.size_extract]; omega
                unfold Tok3 at HTOK
                generalize (fsT (src.extract s.pos src.size) (rest_pos hpos)).1 = a at *
                generalize (fsT (src.extract s.pos src.size) (rest_pos hpos)).2.1 = b at *
                generalize (fsT (src.extract s.pos src.size) (rest_pos hpos)).2.2 = c at *
                have HSL : (∃ _ : s.pos + 2 ≤ src.size, ∀ W, (Instr.slice 9 (.string src) (some (.int .i64 (s.pos : Int))) (some (.int .i64 ((s.pos : Int) + ((2 : Nat) : Int)))) none).run Tryd.prog W = .ok (.string (src.extract s.pos (s.pos + 2))) W ∧ ((src.extract s.pos (s.pos + 2)).toList == [47, 47]) = false) ∨ src.size ≤ s.pos + 1 := by
                  by_cases h2 : s.pos + 2 ≤ src.size
                  · left; exact ⟨h2, fun W => ⟨slice_pq src s.pos 2 h2 W, pre_not hpre h2⟩⟩
                  · right; omega
                clear hpre hg0 h10 hbl
                by_cases hc : c = 0
                · subst hc
                  obtain ⟨n, rfl, hn1, hn2⟩ := HFT.out rfl
                  have hot := HOT.out rfl
                  have hstep := HSTEP.out
                  rw [if_pos rfl] at hstep
                  rw [Int.toNat_natCast, ext_ext (by omega)] at hot hstep
                  have hsl2 := slice_pq src s.pos n (by omega)
                  have hsn : s.pos + n ≤ src.size := by omega
                  clear HFT HOT HSTEP hn2 hrz
                  by_cases hfull : s.ts.length < 2000
                  · have hadd : s.addR a (src.extract s.pos (s.pos + n)) = .ok (s.put a (src.extract s.pos (s.pos + n))) := by unfold Sc.addR; rw [if_neg (by omega)]
                    rw [hadd] at hstep
                    simp only at hstep
                    have HAD : Hid (∀ w1, Below wr.heap.size wr w1 → Calls Tryd.prog 15 #[.int .i64 a, .int .i64 (s.pos : Int), .string (src.extract s.pos (s.pos + n)), .pointer (some ⟨w.heap.size, 0, none⟩), .pointer (some ⟨w.heap.size + 2, 0, none⟩)] w1 fun e w' =>
                      e = .returned (.bool true) ∧ RRel w src (s.pos + n) w') := fun w1 hb1 => by
                      have := HADD.out s.ts a s.pos (src.extract s.pos (s.pos + n)) w1 _ cv (HRT.out.below hb1) hple (by omega)
                      refine this.mono ?_
                      rintro e w3 ⟨rfl, hb3, ao3, cv3, hrt3⟩
                      have HBW : Below w.heap.size w w3 := (HB.out.trans (hb1.mono HB.out.size)).trans hb3
                      exact ⟨by rw [decide_eq_true hfull], HBW, _, ao3, cv3, hrt3, .inl ⟨_, g0, rfl, by simp [Sc.put, HPLC.out], (HSI.out _ hstep).1, HOK.out.snoc hot, by have := HFU2.out; show src.size < g0 + (s.pos + n); omega, by rw [HRUN.out, hstep]⟩⟩
                    clear hadd hstep hot HADD HSPOT HRUN HSI HIN HOK HPLC HFU2
                    rcases HSL with ⟨h2, hs2⟩ | h2
                    · have hsa := fun W => (hs2 W).1
                      have hsb := (hs2 wr).2
                      clear hs2
                      have hli2 : (s.pos : Int) + 1 < (src.size : Int) := by omega
                      go_wp2_with fail
                      refine (HTOK.out _).mono ?_
                      rintro e w1 ⟨rfl, hb1⟩
                      have HAD1 : Hid (Calls Tryd.prog 15 #[.int .i64 a, .int .i64 (s.pos : Int), .string (src.extract s.pos (s.pos + n)), .pointer (some ⟨w.heap.size, 0, none⟩), .pointer (some ⟨w.heap.size + 2, 0, none⟩)] w1 fun e w' =>
                        e = .returned (.bool true) ∧ RRel w src (s.pos + n) w') := HAD.out w1 hb1
                      obtain ⟨k0, -, -, -⟩ := (HRT.out.below hb1).cells
                      clear hb1 HAD
                      go_wp2_with fail
                      refine HAD1.out.mono ?_
                      rintro e w3 ⟨rfl, hrel3⟩
                      have HREL : Hid (RRel w src (s.pos + n) w3) := hrel3
                      clear hrel3
                      go_wp2
                      exact ⟨⟨s.pos + n, by go_num, by omega, HREL.out⟩, by simp [intOf] <;> omega⟩
                    · have hli2 : ¬ (s.pos : Int) + 1 < (src.size : Int) := by omega
                      go_wp2_with fail
                      refine (HTOK.out _).mono ?_
                      rintro e w1 ⟨rfl, hb1⟩
                      have HAD1 : Hid (Calls Tryd.prog 15 #[.int .i64 a, .int .i64 (s.pos : Int), .string (src.extract s.pos (s.pos + n)), .pointer (some ⟨w.heap.size, 0, none⟩), .pointer (some ⟨w.heap.size + 2, 0, none⟩)] w1 fun e w' =>
                        e = .returned (.bool true) ∧ RRel w src (s.pos + n) w') := HAD.out w1 hb1
                      obtain ⟨k0, -, -, -⟩ := (HRT.out.below hb1).cells
                      clear hb1 HAD
                      go_wp2_with fail
                      refine HAD1.out.mono ?_
                      rintro e w3 ⟨rfl, hrel3⟩
                      have HREL : Hid (RRel w src (s.pos + n) w3) := hrel3
                      clear hrel3
                      go_wp2
                      exact ⟨⟨s.pos + n, by go_num, by omega, HREL.out⟩, by simp [intOf] <;> omega⟩
                  · have hfull2 : s.ts.length = 2000 := by omega
                    have hadd : s.addR a (src.extract s.pos (s.pos + n)) = .bad 15 s.line s.col := by unfold Sc.addR; rw [if_pos hfull2]
                    rw [hadd] at hstep
                    simp only at hstep
                    have HBAD : Hid (tokR src = .bad 15 s.line s.col) := by show _ = _; rw [HRUN.out, hstep]
                    have HAD : Hid (∀ w1, Below wr.heap.size wr w1 → Calls Tryd.prog 15 #[.int .i64 a, .int .i64 (s.pos : Int), .string (src.extract s.pos (s.pos + n)), .pointer (some ⟨w.heap.size, 0, none⟩), .pointer (some ⟨w.heap.size + 2, 0, none⟩)] w1 fun e w' =>
                      e = .returned (.bool false) ∧ Below w.heap.size w w' ∧ ∃ ts ao cv, RT w.heap.size src ts w' ao cv) := fun w1 hb1 => by
                      have := HADD.out s.ts a s.pos (src.extract s.pos (s.pos + n)) w1 _ cv (HRT.out.below hb1) hple (by omega)
                      refine this.mono ?_
                      rintro e w3 ⟨rfl, hb3, ao3, cv3, hrt3⟩
                      exact ⟨by rw [decide_eq_false hfull], (HB.out.trans (hb1.mono HB.out.size)).trans hb3, _, _, _, hrt3⟩
                    clear hadd hstep hot HADD HRUN HSI HIN HOK HFU2 hfull hfull2
                    rcases HSL with ⟨h2, hs2⟩ | h2
                    · have hsa := fun W => (hs2 W).1
                      have hsb := (hs2 wr).2
                      clear hs2
                      have hli2 : (s.pos : Int) + 1 < (src.size : Int) := by omega
                      go_wp2_with fail
                      refine (HTOK.out _).mono ?_
                      rintro e w1 ⟨rfl, hb1⟩
                      have HAD1 : Hid (Calls Tryd.prog 15 #[.int .i64 a, .int .i64 (s.pos : Int), .string (src.extract s.pos (s.pos + n)), .pointer (some ⟨w.heap.size, 0, none⟩), .pointer (some ⟨w.heap.size + 2, 0, none⟩)] w1 fun e w' =>
                        e = .returned (.bool false) ∧ Below w.heap.size w w' ∧ ∃ ts ao cv, RT w.heap.size src ts w' ao cv) := HAD.out w1 hb1
                      obtain ⟨k0, -, -, -⟩ := (HRT.out.below hb1).cells
                      clear hb1 HAD
                      go_wp2_with fail
                      refine HAD1.out.mono ?_
                      rintro e w3 ⟨rfl, hB3, ts3, ao3, cv3, hrt3⟩
                      clear k0
                      obtain ⟨k0, -, -, -⟩ := hrt3.cells
                      have HB3 : Hid (Below w.heap.size w w3) := hB3
                      have HRT3 : Hid (RT w.heap.size src ts3 w3 ao3 cv3) := hrt3
                      clear hB3 hrt3
                      go_wp2_with fail
                      refine (HSPOT.out s.pos 15 _ hple).mono ?_
                      rintro e w4 ⟨rfl, hb4⟩
                      rw [HPLC.out]
                      have HB4 : Hid (Below w.heap.size w w4) := HB3.out.trans (hb4.mono HB3.out.size)
                      obtain ⟨z0, z1, z2, zf⟩ := (HRT3.out.below hb4).spots
                      have zf0 := zf 0
                      have zf1 := zf 1
                      have zf2 := zf 2
                      clear hb4 zf
                      go_wp2_with fail
                      exact bodyPost_ret (v := .tuple #[.slice none 0 0, .agg #[.int .i64 15, .int .i64 s.line, .int .i64 s.col]]) (by simp [results, Tryd.results7, go_sem, z0, z1, z2]) rfl (told_spot HBAD.out (((HB4.out.setCell (by simp) _).setCell (by simp) _).setCell (by simp) _))
                    · have hli2 : ¬ (s.pos : Int) + 1 < (src.size : Int) := by omega
                      go_wp2_with fail
                      refine (HTOK.out _).mono ?_
                      rintro e w1 ⟨rfl, hb1⟩
                      have HAD1 : Hid (Calls Tryd.prog 15 #[.int .i64 a, .int .i64 (s.pos : Int), .string (src.extract s.pos (s.pos + n)), .pointer (some ⟨w.heap.size, 0, none⟩), .pointer (some ⟨w.heap.size + 2, 0, none⟩)] w1 fun e w' =>
                        e = .returned (.bool false) ∧ Below w.heap.size w w' ∧ ∃ ts ao cv, RT w.heap.size src ts w' ao cv) := HAD.out w1 hb1
                      obtain ⟨k0, -, -, -⟩ := (HRT.out.below hb1).cells
                      clear hb1 HAD
                      go_wp2_with fail
                      refine HAD1.out.mono ?_
                      rintro e w3 ⟨rfl, hB3, ts3, ao3, cv3, hrt3⟩
                      clear k0
                      obtain ⟨k0, -, -, -⟩ := hrt3.cells
                      have HB3 : Hid (Below w.heap.size w w3) := hB3
                      have HRT3 : Hid (RT w.heap.size src ts3 w3 ao3 cv3) := hrt3
                      clear hB3 hrt3
                      go_wp2_with fail
                      refine (HSPOT.out s.pos 15 _ hple).mono ?_
                      rintro e w4 ⟨rfl, hb4⟩
                      rw [HPLC.out]
                      have HB4 : Hid (Below w.heap.size w w4) := HB3.out.trans (hb4.mono HB3.out.size)
                      obtain ⟨z0, z1, z2, zf⟩ := (HRT3.out.below hb4).spots
                      have zf0 := zf 0
                      have zf1 := zf 1
                      have zf2 := zf 2
                      clear hb4 zf
                      go_wp2_with fail
                      exact bodyPost_ret (v := .tuple #[.slice none 0 0, .agg #[.int .i64 15, .int .i64 s.line, .int .i64 s.col]]) (by simp [results, Tryd.results7, go_sem, z0, z1, z2]) rfl (told_spot HBAD.out (((HB4.out.setCell (by simp) _).setCell (by simp) _).setCell (by simp) _))
                · have HBAD : Hid (tokR src = .bad c s.line s.col) := by
                    show _ = _
                    have hstep := HSTEP.out
                    rw [if_neg hc] at hstep
                    rw [HRUN.out, hstep]
                  have hce : (c != 0) = true := by simpa using hc
                  clear HFT HOT HSTEP HRUN HSI HIN HOK HFU2 hc HADD hrz
                  rcases HSL with ⟨h2, hs2⟩ | h2
                  · have hsa := fun W => (hs2 W).1
                    have hsb := (hs2 wr).2
                    clear hs2
                    have hli2 : (s.pos : Int) + 1 < (src.size : Int) := by omega
                    go_wp2_with fail
                    refine (HTOK.out _).mono ?_
                    rintro e w3 ⟨rfl, hb3⟩
                    have hB3 := HB.out.trans (hb3.mono HB.out.size)
                    obtain ⟨ts3, ao3, cv3, hrt3⟩ : ∃ ts3 ao3 cv3, RT w.heap.size src ts3 w3 ao3 cv3 := ⟨_, _, _, HRT.out.below hb3⟩
                    clear hb3
                    obtain ⟨k0, -, -, -⟩ := hrt3.cells
                    have HB3 : Hid (Below w.heap.size w w3) := hB3
                    have HRT3 : Hid (RT w.heap.size src ts3 w3 ao3 cv3) := hrt3
                    clear hB3 hrt3
                    go_wp2_with fail
                    refine (HSPOT.out s.pos c _ hple).mono ?_
                    rintro e w4 ⟨rfl, hb4⟩
                    rw [HPLC.out]
                    have HB4 : Hid (Below w.heap.size w w4) := HB3.out.trans (hb4.mono HB3.out.size)
                    obtain ⟨z0, z1, z2, zf⟩ := (HRT3.out.below hb4).spots
                    have zf0 := zf 0
                    have zf1 := zf 1
                    have zf2 := zf 2
                    clear hb4 zf
                    go_wp2_with fail
                    exact bodyPost_ret (v := .tuple #[.slice none 0 0, .agg #[.int .i64 c, .int .i64 s.line, .int .i64 s.col]]) (by simp [results, Tryd.results7, go_sem, z0, z1, z2]) rfl (told_spot HBAD.out (((HB4.out.setCell (by simp) _).setCell (by simp) _).setCell (by simp) _))
                  · have hli2 : ¬ (s.pos : Int) + 1 < (src.size : Int) := by omega
                    go_wp2_with fail
                    refine (HTOK.out _).mono ?_
                    rintro e w3 ⟨rfl, hb3⟩
                    have hB3 := HB.out.trans (hb3.mono HB.out.size)
                    obtain ⟨ts3, ao3, cv3, hrt3⟩ : ∃ ts3 ao3 cv3, RT w.heap.size src ts3 w3 ao3 cv3 := ⟨_, _, _, HRT.out.below hb3⟩
                    clear hb3
                    obtain ⟨k0, -, -, -⟩ := hrt3.cells
                    have HB3 : Hid (Below w.heap.size w w3) := hB3
                    have HRT3 : Hid (RT w.heap.size src ts3 w3 ao3 cv3) := hrt3
                    clear hB3 hrt3
                    go_wp2_with fail
                    refine (HSPOT.out s.pos c _ hple).mono ?_
                    rintro e w4 ⟨rfl, hb4⟩
                    rw [HPLC.out]
                    have HB4 : Hid (Below w.heap.size w w4) := HB3.out.trans (hb4.mono HB3.out.size)
                    obtain ⟨z0, z1, z2, zf⟩ := (HRT3.out.below hb4).spots
                    have zf0 := zf 0
                    have zf1 := zf 1
                    have zf2 := zf 2
                    clear hb4 zf
                    go_wp2_with fail
                    exact bodyPost_ret (v := .tuple #[.slice none 0 0, .agg #[.int .i64 c, .int .i64 s.line, .int .i64 s.col]]) (by simp [results, Tryd.results7, go_sem, z0, z1, z2]) rfl (told_spot HBAD.out (((HB4.out.setCell (by simp) _).setCell (by simp) _).setCell (by simp) _))
      · have hli : ¬ ((src.size + 1 : Nat) : Int) ≤ (src.size : Int) := by omega
        have HEND : Hid (tokR src = .ok s) := hR
        clear hR
        have HDONE : Hid ((((wr.setCell ⟨w.heap.size + 1, 0, none⟩ (.int .i64 0)).setCell ⟨w.heap.size + 1, 1, none⟩ (.int .i64 0)).setCell ⟨w.heap.size + 1, 2, none⟩ (.int .i64 0)).ownsRow w.heap.size 33 4 (.slice ao s.ts.length cv) s.ts.length (tcells s.ts)) := HRT.out.done _ _ _
        clear HADD HSPOT
        go_wp2
        exact bodyPost_ret (v := .tuple #[.slice ao s.ts.length cv, .agg #[.int .i64 0, .int .i64 0, .int .i64 0]]) (by simp [results, Tryd.results7, go_sem, d0, d1, d2]) rfl (by
          rw [HEND.out]
          exact ⟨((HB.out.setCell (by simp) _).setCell (by simp) _).setCell (by simp) _, _, rfl, HDONE.out⟩)
end Go.Proofs.YtljdfaoplenloaaDoor
