/- Where the tokens stand: the walk of the law. -/
import Derived.Test.YtljdfaoplenloabDoorThree
import Derived.Deep.QuietTactic
import Derived.BigQuiet
namespace Go.Proofs.YtljdfaoplenloabDoor
open Go.ChangeShapes Go.WideShapes Go.ChangeAt Go.RowKit
set_option maxRecDepth 100000
set_option linter.unusedSimpArgs false
set_option linter.unusedVariables false
theorem plc_le (l : List UInt8) : ∀ k, (plc l k).1 ≤ k + 1 ∧ (plc l k).2 ≤ k + 1
  | 0 => by simp [plc]
  | k + 1 => by
    have := plc_le l k
    by_cases h : l[k]? = some 10
    · rw [plc_nl h]; simp; omega
    · rw [plc_on h]; simp; omega
theorem plc_lt (l : List UInt8) (q : Nat) : ∀ p, q < p → (plc l q).1 < (plc l p).1 ∨ ((plc l q).1 = (plc l p).1 ∧ (plc l q).2 < (plc l p).2)
  | 0, h => by omega
  | p + 1, h => by
    by_cases e : q = p
    · subst e
      by_cases h : l[q]? = some 10
      · rw [plc_nl h]; left; simp
      · rw [plc_on h]; right; simp
    · have ih := plc_lt l q p (by omega)
      by_cases h : l[p]? = some 10
      · rw [plc_nl h]; simp; omega
      · rw [plc_on h]; simp; omega
theorem tcells_get : ∀ {l : List Tk} {k : Nat} {t : Tk}, l[k]? = some t → ∀ i, i < 4 → (tcells l)[k * 4 + i]? = t.cells[i]?
  | [], k, t, h, i, hi => by simp at h
  | a :: l, 0, t, h, i, hi => by
    simp at h; subst h
    have e : tcells (a :: l) = a.cells ++ tcells l := by simp [tcells]
    rw [e, List.getElem?_append_left (by simp [Tk.cells]; omega)]; simp
  | a :: l, k + 1, t, h, i, hi => by
    have e : tcells (a :: l) = a.cells ++ tcells l := by simp [tcells]
    have hc : a.cells.length = 4 := by simp [Tk.cells]
    have ih := tcells_get (l := l) (k := k) (t := t) (by simpa using h) i hi
    rw [e, List.getElem?_append_right (by rw [hc]; omega), hc, show (k + 1) * 4 + i - 4 = k * 4 + i by omega]
    exact ih
theorem row_tok {w : World} {B k cap : Nat} {ao : Option Addr} {l : List Tk} {t : Tk} (h : w.ownsRow B 34 4 (.slice ao l.length cap) l.length (tcells l)) (hk : l[k]? = some t) :
    ∃ g, ao = some ⟨g, 0, none⟩ ∧ w.cell? ⟨g, k * 4, none⟩ = some (.int .i64 t.kind) ∧ w.cell? ⟨g, k * 4 + 1, none⟩ = some (.string t.text) ∧ w.cell? ⟨g, k * 4 + 2, none⟩ = some (.int .i64 t.line) ∧ w.cell? ⟨g, k * 4 + 3, none⟩ = some (.int .i64 t.col) := by
  have hlt : k < l.length := (List.getElem?_eq_some_iff.1 hk).1
  rcases h.2 with ⟨hv, h0⟩ | ⟨g, c, cur, hv, _⟩
  · omega
  · simp only [Value.slice.injEq] at hv
    obtain ⟨rfl, -, rfl⟩ := hv
    refine ⟨g, rfl, ?_, ?_, ?_, ?_⟩
    · rw [h.cellAt (k * 4) (by omega)]; exact tcells_get hk 0 (by decide)
    · rw [h.cellAt (k * 4 + 1) (by omega)]; exact tcells_get hk 1 (by decide)
    · rw [h.cellAt (k * 4 + 2) (by omega)]; exact tcells_get hk 2 (by decide)
    · rw [h.cellAt (k * 4 + 3) (by omega)]; exact tcells_get hk 3 (by decide)
theorem row_len {w : World} {B n : Nat} {v : Value} {xs : List Value} (h : w.ownsRow B 34 4 v n xs) : n ≤ maxLen := by
  rcases h.2 with ⟨_, h0⟩ | ⟨g, c, cur, hv, _, _, h1, h2, _⟩
  · omega
  · omega
/-- What Tokens answers, in one. -/
theorem told_all {src : ByteArray} {w w' : World} {e : Ending} (h : Told w (tokR src) e w') : Below w.heap.size w w' ∧ ∃ (c ln cl : Int) (ao : Option Addr) (cap : Nat) (ts : List Tk),
    e = .returned (.tuple #[.slice ao ts.length cap, .agg #[.int .i64 c, .int .i64 ln, .int .i64 cl]]) ∧ w'.ownsRow w.heap.size 34 4 (.slice ao ts.length cap) ts.length (tcells ts) ∧ Chain src src.size 0 ts ∧ (c ≠ 0 → ts = []) ∧ ts.length ≤ maxLen ∧ (ts ≠ [] → src.size ≤ 8000) := by
  obtain ⟨hb, h⟩ := h
  refine ⟨hb, ?_⟩
  cases hR : tokR src with
  | bad c ln cl =>
    rw [hR] at h
    exact ⟨c, ln, cl, none, 0, [], h, ⟨rfl, .inl ⟨rfl, rfl⟩⟩, Nat.zero_le _, fun _ => rfl, Nat.zero_le _, fun h => absurd rfl h⟩
  | ok s =>
    rw [hR] at h
    obtain ⟨v, rfl, hown⟩ := h
    obtain ⟨ao, cap, rfl⟩ : ∃ ao cap, v = .slice ao s.ts.length cap := by
      rcases hown.2 with ⟨hv, h0⟩ | ⟨g, c, cur, hv, _⟩
      · exact ⟨none, 0, by rw [hv, h0]⟩
      · exact ⟨_, _, hv⟩
    exact ⟨0, 0, 0, ao, cap, s.ts, rfl, hown, tok_places hR, fun h => absurd rfl h, row_len hown, fun _ => by
      unfold tokR at hR
      split at hR
      · cases hR
      · omega⟩
set_option maxHeartbeats 4000000 in
theorem own_places (a0 : ByteArray) (hs : a0.size ≤ maxLen) (w : World) (hlib : Lib3 w) : Calls Tryd.prog 4 #[.string a0] w fun e w' => e = .returned (.bool true) ∧ Below w.heap.size w w' := by
  have HT : Hid (Calls Tryd.prog 9 #[.string a0] w (Told w (tokR a0))) := own_tokens _ w hs hlib
  have H3 : Hid (∀ W, Below w.heap.size w W → Calls Tryd.prog 8 #[] W fun e w' => e = .returned (.bool true) ∧ Below W.heap.size W w') := fun W hW => own_three W (hlib.below hW)
  have HG : Hid (∀ (k : Nat) (h : k < a0.size), a0.data.toList[k]? = some a0[k]) := fun k h => by rw [get_list a0 k h, List.getElem?_eq_getElem]
  have HZ : Hid (a0.data.toList.length = a0.size) := bsize_list a0
  unfold maxLen at hs
  clear hlib
  go_enter Tryd.func4, Tryd.ntmps4
  go_wp2_with fail
  refine HT.out.mono ?_
  intro e w1 ht
  obtain ⟨hb, c, ln, cl, ao, cap, ts, rfl, hown, hch, hc0, hn, h8⟩ := told_all ht
  have H8 : Hid (ts ≠ [] → a0.size ≤ 8000) := h8
  have HB : Hid (Below w.heap.size w (w1.alloc (.cells #[.int .i64 c, .int .i64 ln, .int .i64 cl] 28))) := hb.alloc hb.size _
  have HO : Hid ((w1.alloc (.cells #[.int .i64 c, .int .i64 ln, .int .i64 cl] 28)).ownsRow w.heap.size 34 4 (.slice ao ts.length cap) ts.length (tcells ts)) := row_on hown (Nat.le_refl _) ((Below.refl _ _).alloc (Nat.le_refl _) _)
  have HCH : Hid (Chain a0 a0.size 0 ts) := hch
  clear ht hb hown hch HT h8
  unfold maxLen at hn
  by_cases hc : c = 0
  · subst hc
    clear hc0
    go_wp2
    generalize (w1.alloc (.cells #[.int .i64 0, .int .i64 ln, .int .i64 cl] 28)) = W1 at *
    go_loopw [5, 6, 7, 8] (fun vl vc va vi wr => ∃ (k p A B : Nat), k ≤ ts.length ∧ p ≤ a0.size ∧ vl = .int .i64 A ∧ vc = .int .i64 B ∧ va = .int .i64 p ∧ vi = .int .i64 k ∧ Hid ((Below w.heap.size w wr ∧ wr.ownsRow w.heap.size 34 4 (.slice ao ts.length cap) ts.length (tcells ts)) ∧ plc a0.data.toList p = (A, B) ∧ Chain a0 a0.size p (ts.drop k))) (fun _ _ _ i _ => ts.length - (intOf i).toNat)
    case atStart => exact ⟨0, 0, 1, 1, Nat.zero_le _, Nat.zero_le _, rfl, rfl, rfl, rfl, ⟨HB.out, HO.out⟩, rfl, HCH.out⟩
    case round =>
      obtain ⟨k, p, A, B, hk, hp, rfl, rfl, rfl, rfl, HK⟩ := hrel
      clear HB HO
      have HB : Hid (Below w.heap.size w wr) := HK.out.1.1
      have HO : Hid (wr.ownsRow w.heap.size 34 4 (.slice ao ts.length cap) ts.length (tcells ts)) := HK.out.1.2
      by_cases hlt : k < ts.length
      · obtain ⟨t, hts, hdrop⟩ : ∃ t, ts[k]? = some t ∧ ts.drop k = t :: ts.drop (k + 1) := ⟨ts[k], by rw [List.getElem?_eq_getElem hlt], List.drop_eq_getElem_cons hlt⟩
        obtain ⟨p', hpp, hps, ⟨hpl', hst⟩, hch⟩ : Chain a0 a0.size p (t :: ts.drop (k + 1)) := hdrop ▸ HK.out.2.2
        obtain ⟨g, rfl, q0, q1, q2, q3⟩ := row_tok HO.out hts
        have hli : decide ((k : Int) < (ts.length : Int)) = true := by simp; omega
        have HCH' : Hid (Chain a0 a0.size p' (ts.drop (k + 1))) := hch
        have HP' : Hid (plc a0.data.toList p' = (t.line, t.col)) := hpl'
        have HST : Hid ((p' + t.text.size ≤ a0.size ∧ a0.extract p' (p' + t.text.size) = t.text) ∨ (t.kind = 6 ∧ t.text = ⟨#[59]⟩ ∧ (p' = a0.size ∨ a0.data.toList[p']? = some 10))) := hst
        have HPL : Hid (plc a0.data.toList p = (A, B)) := HK.out.2.1
        clear hch hst hdrop hts hpl' HK
        have h8 : a0.size ≤ 8000 := H8.out (by rintro rfl; simp at hlt)
        have HLE : Hid (∀ k, (plc a0.data.toList k).1 ≤ k + 1 ∧ (plc a0.data.toList k).2 ≤ k + 1) := plc_le _
        have HLT : Hid (∀ q p, q < p → (plc a0.data.toList q).1 < (plc a0.data.toList p).1 ∨ ((plc a0.data.toList q).1 = (plc a0.data.toList p).1 ∧ (plc a0.data.toList q).2 < (plc a0.data.toList p).2)) := plc_lt _
        obtain ⟨tl1, tl2⟩ : t.line ≤ 8001 ∧ t.col ≤ 8001 := by
          have := HLE.out p'
          rw [HP'.out] at this
          simp at this; omega
        go_wp2
        go_loopw [5, 6, 7] (fun vl vc va wr' => ∃ (q A B : Nat), q ≤ p' ∧ vl = .int .i64 A ∧ vc = .int .i64 B ∧ va = .int .i64 q ∧ Hid (wr' = wr ∧ plc a0.data.toList q = (A, B))) (fun _ _ a _ => p' - (intOf a).toNat)
        case atStart => exact ⟨p, A, B, hpp, rfl, rfl, rfl, rfl, HPL.out⟩
        case round =>
          obtain ⟨q, A, B, hq, rfl, rfl, rfl, HQ⟩ := hrel
          obtain rfl := HQ.out.1
          obtain ⟨ha, hb⟩ : A ≤ q + 1 ∧ B ≤ q + 1 := by
            have := HLE.out q
            rw [HQ.out.2] at this
            exact this
          by_cases hqp : q < p'
          · have hqs : q < a0.size := by omega
            have hord := HLT.out q p' hqp
            rw [HQ.out.2, HP'.out] at hord
            simp only at hord
            have hlc : A < t.line ∨ (t.line ≤ A ∧ B < t.col) := by omega
            clear hord
            by_cases h10 : (a0[q].toNat : Int) = 10
            · have HN : Hid (plc a0.data.toList (q + 1) = (A + 1, 1)) := by
                show _ = _
                rw [plc_nl (by rw [HG.out q (by omega)]; congr 1; apply UInt8.toNat_inj.1; simp; omega), HQ.out.2]
              rcases hlc with h1 | ⟨h1, h2⟩
              · go_wp2
                exact ⟨⟨q + 1, A + 1, 1, by omega, by simp, rfl, by simp, trivial, HN.out⟩, by simp [intOf]; omega⟩
              · go_wp2
                exact ⟨⟨q + 1, A + 1, 1, by omega, by simp, rfl, by simp, trivial, HN.out⟩, by simp [intOf]; omega⟩
            · have HN : Hid (plc a0.data.toList (q + 1) = (A, B + 1)) := by
                show _ = _
                rw [plc_on (by rw [HG.out q (by omega)]; intro e; simp only [Option.some.injEq] at e; rw [e] at h10; exact h10 rfl), HQ.out.2]
              rcases hlc with h1 | ⟨h1, h2⟩
              · go_wp2
                exact ⟨⟨q + 1, A, B + 1, by omega, rfl, by simp, by simp, trivial, HN.out⟩, by simp [intOf]; omega⟩
              · go_wp2
                exact ⟨⟨q + 1, A, B + 1, by omega, rfl, by simp, by simp, trivial, HN.out⟩, by simp [intOf]; omega⟩
          · obtain rfl : q = p' := by omega
            obtain ⟨rfl, rfl⟩ : A = t.line ∧ B = t.col := by
              have := HQ.out.2.symm.trans HP'.out
              simpa using this
            by_cases hth : q + t.text.size ≤ a0.size ∧ a0.extract q (q + t.text.size) = t.text
            · obtain ⟨hle, hex⟩ := hth
              have hli2 : (q : Int) + (t.text.size : Int) ≤ (a0.size : Int) := by omega
              by_cases hqs : q < a0.size
              · go_wp2
                go_quiet (fail)
                go_wp2
                exact ⟨⟨k + 1, q, t.line, t.col, by omega, hps, rfl, rfl, rfl, by simp, ⟨below_dn HB.out _, HO.out⟩, HQ.out.2, HCH'.out⟩, by simp [intOf]; omega⟩
              · go_wp2
                go_quiet (fail)
                go_wp2
                exact ⟨⟨k + 1, q, t.line, t.col, by omega, hps, rfl, rfl, rfl, by simp, ⟨below_dn HB.out _, HO.out⟩, HQ.out.2, HCH'.out⟩, by simp [intOf]; omega⟩
            · obtain ⟨hk6, htx, hat⟩ := HST.out.resolve_left hth
              have HK6 : Hid (t.kind = 6) := hk6
              have HTX : Hid (t.text = ⟨#[59]⟩) := htx
              have hsz : t.text.size = 1 := by rw [htx]; rfl
              by_cases hqs : q < a0.size
              · have h10 : a0[q].toNat = 10 := by
                  rcases hat with h | h
                  · omega
                  · rw [HG.out q hqs] at h; simp only [Option.some.injEq] at h; rw [h]; rfl
                have H10 : Hid (a0[q].toNat = 10) := h10
                have hli2 : (q : Int) + (t.text.size : Int) ≤ (a0.size : Int) := by omega
                have hne : ¬ a0.extract q (q + t.text.size) = t.text := fun h => hth ⟨by omega, h⟩
                clear hth hat hk6 htx hsz h10
                go_wp2
                go_quiet (fail)
                have htx := HTX.out
                have hk6 := HK6.out
                have h10 := H10.out
                clear hne
                go_wp2
                all_goals exact ⟨⟨k + 1, q, t.line, t.col, by omega, hps, rfl, rfl, rfl, by simp, ⟨below_dn HB.out _, HO.out⟩, HQ.out.2, HCH'.out⟩, by simp [intOf]; omega⟩
              · have hli2 : decide ((q : Int) + (t.text.size : Int) ≤ (a0.size : Int)) = false := by simp; omega
                have hgt : a0.size < q + t.text.size := by omega
                have hbd : t.text.size ≤ 2 := by omega
                clear hth hat hk6 htx hsz
                go_wp2
                go_quiet (fail)
                have htx := HTX.out
                have hk6 := HK6.out
                have hqe : q = a0.size := by omega
                go_wp2
                all_goals exact ⟨⟨k + 1, q, t.line, t.col, by omega, hps, rfl, rfl, rfl, by simp, ⟨below_dn HB.out _, HO.out⟩, HQ.out.2, HCH'.out⟩, by simp [intOf]; omega⟩
      · have hli : decide ((k : Int) < (ts.length : Int)) = false := by simp; omega
        go_wp2_with fail
        refine (H3.out _ HB.out).mono ?_
        rintro e w2 ⟨rfl, hb2⟩
        go_wp2
        go_ret
        exact ⟨rfl, HB.out.trans (hb2.mono HB.out.size)⟩
  · obtain rfl : ts = [] := hc0 hc
    go_wp2_with fail
    refine (H3.out _ HB.out).mono ?_
    rintro e w2 ⟨rfl, hb2⟩
    go_wp2
    go_ret
    exact ⟨rfl, HB.out.trans (hb2.mono HB.out.size)⟩
end Go.Proofs.YtljdfaoplenloabDoor
