/- A step, and the state in which main runs. -/
import Derived.Test.YtcnpoldcebdhjaaQw14
namespace Go.Proofs.Ytcnpoldcebdhjaa
open Go.ChangeShapes Go.WideShapes Go.ChangeAt Go.RowKit
set_option maxRecDepth 100000
set_option linter.unusedSimpArgs false
set_option linter.unusedVariables false
def zeroSt : Value := .agg #[.slice none 0 0, .slice none 0 0, .int .i64 0, .int .i64 0, .int .i64 0, .int .i64 0]
theorem three_boxes {w w1 : World} {o1 o2 o3 : Obj} (hb : Below (((w.alloc o1).alloc o2).alloc o3).heap.size (((w.alloc o1).alloc o2).alloc o3) w1) : w1.heap[w.heap.size]? = some o1 ∧ w1.heap[w.heap.size + 1]? = some o2 ∧ w1.heap[w.heap.size + 1 + 1]? = some o3 ∧ w.heap.size + 1 + 1 < w1.heap.size ∧ Below w.heap.size w w1 := by
  have hs := hb.size
  simp at hs
  have e1 : (w.heap.push o1).size = w.heap.size + 1 := by simp
  have e2 : ((w.heap.push o1).push o2).size = w.heap.size + 1 + 1 := by simp
  refine ⟨?_, ?_, ?_, by omega, ?_⟩
  · rw [hb.block _ (by simp; omega)]; show (((w.heap.push o1).push o2).push o3)[w.heap.size]? = some o1; rw [Array.getElem?_push_lt (by simp; omega), Array.getElem_push_lt (by simp), Array.getElem_push_eq]
  · rw [hb.block _ (by simp)]; show (((w.heap.push o1).push o2).push o3)[w.heap.size + 1]? = some o2
    rw [Array.getElem?_push_lt (by simp)]
    have : ((w.heap.push o1).push o2)[w.heap.size + 1]? = some o2 := by rw [← e1, Array.getElem?_push_size]
    rw [Array.getElem?_eq_getElem (by simp)] at this
    exact this
  · rw [hb.block _ (by simp)]; show (((w.heap.push o1).push o2).push o3)[w.heap.size + 1 + 1]? = some o3
    rw [← e2, Array.getElem?_push_size]
  · exact ((((Below.refl _ _).alloc (Nat.le_refl _) _).alloc (by simp) _).alloc (by simp; omega) _).trans (hb.mono (by simp; omega))
/-- What Step answers. -/
structure Stepped (B : Nat) (w : World) (F P T : Value) (fes : List Fe) (st : St) (td : List Tl) : Prop where
  fr : FRow B w F fes st.fr.reverse
  ps : w.ownsRow B 55 7 P st.ps.reverse.length (rc Pn.cells st.ps.reverse)
  td : w.ownsRow B 58 7 T td.length (rc Tl.cells td)
set_option maxHeartbeats 1600000 in
theorem own_step (F P : Value) (fes : List Fe) (st : St) (e : Ev) (lo : Option Addr) (ln lc : Nat) (w : World) (h : SLies w F P fes st) (hok : TakeOk st []) :
    Calls Try.prog 14 #[st.val F P, e.val lo ln lc] w fun x w' => ((st.code e ≠ 0 ∧ x = .returned (.tuple #[zeroSt, .slice none 0 0, .int .i64 (st.code e)])) ∨ (st.code e = 0 ∧ ∃ F' P' T' es, x = .returned (.tuple #[(st.step [] e).1.val F' P', T', .int .i64 0]) ∧ Stepped w.heap.size w' F' P' T' es (st.step [] e).1 (st.step [] e).2)) ∧ Below w.heap.size w w' := by
  obtain ⟨fo, fc, hF⟩ := h.fr.shape
  obtain ⟨po, pc, hP⟩ := h.ps.shape
  subst hF; subst hP
  generalize fes.length = n at *
  generalize st.ps.reverse.length = m at *
  have HH : Hid (∀ u, Below w.heap.size w u → Calls Try.prog 27 #[.agg #[.slice fo n fc, .slice po m pc, .int .i64 st.next, .int .i64 st.ser, .int .i64 st.fin, .int .i64 st.stat]] u fun x w' => ∃ F' P' es, x = .returned (st.val F' P') ∧ FRow u.heap.size w' F' es st.fr.reverse ∧ w'.ownsRow u.heap.size 55 7 P' st.ps.reverse.length (rc Pn.cells st.ps.reverse) ∧ Below u.heap.size u w') := fun u hu => own_copyState _ _ fes st u (h.below hu) (by have := hok.fr; omega) (fun f hf => by have := hok.df f hf; omega) (by have := hok.ps; omega)
  have HOK : Hid (TakeOk st []) := hok
  clear h hok
  unfold St.val Ev.val
  go_enter Try.func14, Try.ntmps14
  go_wp2_with fail
  refine (HH.out _ ((((Below.refl _ _).alloc (Nat.le_refl _) _).alloc (by simp) _).alloc (by simp; omega) _)).mono ?_
  rintro x w1 ⟨F1, P1, es1, rfl, hfr1, hps1, hb1⟩
  obtain ⟨g0, g1, g2, hz, hb2⟩ := three_boxes hb1
  obtain ⟨fo1, fc1, hF1⟩ := row_slice hfr1.row
  obtain ⟨po1, pc1, hP1⟩ := row_slice hps1
  have hsz3 : (((w.alloc (.cells #[.slice fo n fc, .slice po m pc, .int .i64 st.next, .int .i64 st.ser, .int .i64 st.fin, .int .i64 st.stat] 26)).alloc (.cells #[.int .i64 e.k, .int .i64 e.n, .int .i64 e.vk, .int .i64 e.vn, .string e.vs, .slice lo ln lc] 34)).alloc (.cells #[.slice none 0 0, .slice none 0 0, .int .i64 0, .int .i64 0, .int .i64 0, .int .i64 0] 26)).heap.size = w.heap.size + 3 := by simp
  rw [hsz3] at hfr1 hps1
  have HWK : Hid (WkI (w.heap.size + 3) w1.heap.size (w1.alloc (.cells #[F1, P1, .int .i64 st.next, .int .i64 st.ser, .int .i64 st.fin, .int .i64 st.stat, .slice none 0 0] 62)) st []) := by
    have hal : Below w1.heap.size w1 (w1.alloc (.cells #[F1, P1, .int .i64 st.next, .int .i64 st.ser, .int .i64 st.fin, .int .i64 st.stat, .slice none 0 0] 62)) := (Below.refl _ _).alloc (Nat.le_refl _) _
    refine ⟨F1, P1, .slice none 0 0, es1, box_stays (Below.refl _ _), by omega, hfr1.below hal, row_below hps1 hal, World.ownsRow_nil _ _ _ _⟩
  have HG0 : Hid (w1.heap[w.heap.size + 1]? = some (.cells #[.int .i64 e.k, .int .i64 e.n, .int .i64 e.vk, .int .i64 e.vn, .string e.vs, .slice lo ln lc] 34 (0, 0))) := g1
  have HG2 : Hid (w1.heap[w.heap.size + 1 + 1]? = some (.cells #[.slice none 0 0, .slice none 0 0, .int .i64 0, .int .i64 0, .int .i64 0, .int .i64 0] 26 (0, 0))) := g2
  have HB1 : Hid (Below w.heap.size w w1) := hb2
  subst hF1; subst hP1
  generalize es1.length = n1 at *
  generalize st.ps.reverse.length = m1 at *
  clear g0 g1 g2 hb1 hb2 hfr1 hps1 hsz3 HH
  unfold St.val
  have hE : (w1.alloc (.cells #[.slice fo1 n1 fc1, .slice po1 m1 pc1, .int .i64 st.next, .int .i64 st.ser, .int .i64 st.fin, .int .i64 st.stat, .slice none 0 0] 62)).heap[w.heap.size + 1]? = some (.cells #[.int .i64 e.k, .int .i64 e.n, .int .i64 e.vk, .int .i64 e.vn, .string e.vs, .slice lo ln lc] 34 (0, 0)) := by
    rw [((Below.refl w1.heap.size w1).alloc (Nat.le_refl _) _).block _ (by omega)]; exact HG0.out
  obtain ⟨⟨e0, e1, e2, e3, e4, e5⟩, -⟩ := box6 hE
  clear hE
  obtain ⟨p, hp⟩ : ∃ x, x = w1.heap.size := ⟨_, rfl⟩
  go_wp2_with fail
  refine (own_takeEv (w.heap.size + 3) w1.heap.size st [] e lo ln lc _ HWK.out (by simp; omega) HOK.out).mono ?_
  rintro x w2 ⟨rfl, hw2, hb3⟩
  have hb4 : Below (w.heap.size + 3) w1 w2 := ((Below.refl w1.heap.size w1).alloc (Nat.le_refl _) _ |>.mono (by omega)).trans hb3
  have hz2 : w.heap.size + 1 + 1 < w2.heap.size := Nat.lt_of_lt_of_le hz hb4.size
  have HG4 : Hid (w2.heap[w.heap.size + 1 + 1]? = some (.cells #[.slice none 0 0, .slice none 0 0, .int .i64 0, .int .i64 0, .int .i64 0, .int .i64 0] 26 (0, 0))) := by
    have h1 := HG2.out
    show w2.heap[w.heap.size + 1 + 1]? = _
    rw [hb4.block _ (by omega)]; exact h1
  obtain ⟨⟨d0, d1, d2, d3, d4, d5⟩, ⟨f0, f1, f2, f3, f4, f5⟩⟩ := box6 HG4.out
  have HB4 : Hid (Below w.heap.size w w2) := HB1.out.trans (hb4.mono (by omega))
  rw [← hp] at hw2
  clear hb3 hb4 e0 e1 e2 e3 e4 e5
  by_cases hc : st.code e = 0
  · obtain ⟨F2, P2, T2, es2, hk⟩ := hw2 hc
    have HC : Hid (st.code e = 0) := hc
    rw [hc]
    obtain ⟨fo2, fc2, hF2⟩ := row_slice hk.fr.row
    obtain ⟨po2, pc2, hP2⟩ := row_slice hk.ps
    obtain ⟨to2, tc2, hT2⟩ := row_slice hk.td
    subst hF2; subst hP2; subst hT2
    obtain ⟨st2, hst2⟩ : ∃ x, x = (st.step [] e).1 := ⟨_, rfl⟩
    obtain ⟨td2, htd2⟩ : ∃ x, x = (st.step [] e).2 := ⟨_, rfl⟩
    have HST : Hid (st2 = (st.step [] e).1 ∧ td2 = (st.step [] e).2) := ⟨hst2, htd2⟩
    rw [← hst2, ← htd2] at hk
    obtain ⟨tl, htl⟩ : ∃ x, x = td2.length := ⟨_, rfl⟩
    obtain ⟨fl, hfl⟩ : ∃ x, x = es2.length := ⟨_, rfl⟩
    obtain ⟨pl, hpl⟩ : ∃ x, x = st2.ps.reverse.length := ⟨_, rfl⟩
    rw [← htl, ← hfl, ← hpl] at hk
    have HK : Hid (Wk (w.heap.size + 3) p w2 (.slice fo2 fl fc2) (.slice po2 pl pc2) (.slice to2 tl tc2) es2 st2 td2) := hk
    clear hk hw2 hst2 htd2 htl hfl hpl hc
    go_wp2_with fail
    rw [← hp]
    clear hp
    have hl : AllStab [isV (.pointer (some ⟨p, 0, none⟩)), isV (.agg #[(.slice fo2 fl fc2), (.slice po2 pl pc2), .int .i64 st2.next, .int .i64 st2.ser, .int .i64 st2.fin, .int .i64 st2.stat]), isV (.pointer (some ⟨p, 6, none⟩)), isV (.slice to2 tl tc2), anyV, isV (.slice to2 tl tc2), isV (.int .i64 0)] := ⟨stab_is _, stab_is _, stab_is _, stab_is _, stab_any, stab_is _, stab_is _, trivial⟩
    refine wp_joint (JB [isV (.pointer (some ⟨p, 0, none⟩)), isV (.agg #[(.slice fo2 fl fc2), (.slice po2 pl pc2), .int .i64 st2.next, .int .i64 st2.ser, .int .i64 st2.fin, .int .i64 st2.stat]), isV (.pointer (some ⟨p, 6, none⟩)), isV (.slice to2 tl tc2), anyV, isV (.slice to2 tl tc2), isV (.int .i64 0)] ([99, 99, 99, 99, 99, 99, 99].getD · 99) (fun d f u => Wk (w.heap.size + 3) p u (.slice fo2 fl fc2) (.slice po2 pl pc2) (.slice to2 tl tc2) es2 st2 td2 ∧ (d 4 = false → u.heap[w.heap.size + 1 + 1]? = some (.cells #[.slice none 0 0, .slice none 0 0, .int .i64 0, .int .i64 0, .int .i64 0, .int .i64 0] 26 (0, 0))) ∧ (d 4 = true → u.heap[w.heap.size + 1 + 1]? = some (.cells #[(.slice fo2 fl fc2), (.slice po2 pl pc2), .int .i64 st2.next, .int .i64 st2.ser, .int .i64 st2.fin, .int .i64 st2.stat] 26 (0, 0)))) w.heap.size w2) (by kernel_rfl) (by kernel_rfl) (by kernel_rfl) (fun f => ⟨(Below.refl _ _).drew, (by omega), rfl, (fun i h _ => by cases h), ⟨HK.out.below (Below.refl _ _).drew, (fun _ => HG4.out), fun h => by cases h⟩⟩) ?_ ?_
    · refine stepsOK5_cons (fun f d u hJ hn hd hno K hK => ?_) (stepsOK5_cons (fun f d u hJ hn hd hno K hK => ?_) (stepsOK5_cons (fun f d u hJ hn hd hno K hK => ?_) (stepsOK5_cons (fun f d u hJ hn hd hno K hK => ?_) (stepsOK5_cons (fun f d u hJ hn hd hno K hK => ?_) (stepsOK5_cons (fun f d u hJ hn hd hno K hK => ?_) (stepsOK5_cons (fun f d u hJ hn hd hno K hK => ?_) stepsOK5_nil))))))
      · refine wanted_on rfl ?_
        simp only [putAll, Act.put, List.setIfInBounds_toArray, List.set_cons_zero, List.set_cons_succ] at hK ⊢
        go_simp
        exact hK _ _ _ rfl (hJ.grow hl (by decide) (Below.refl _ _) rfl hJ.more)
      · have e0 : f 0 = (.pointer (some ⟨p, 0, none⟩)) := hJ.at 0 (hd 0 (by kernel_rfl)) hJ.none
        obtain ⟨⟨x0, x1, x2, x3, x4, x5, -⟩, -⟩ := box7 hJ.more.1.box
        refine wanted_on rfl ?_
        simp only [putAll, Act.put, List.setIfInBounds_toArray, List.set_cons_zero, List.set_cons_succ, e0] at hK ⊢
        go_simp
        exact hK _ _ _ rfl (hJ.grow hl (by decide) (Below.refl _ _) rfl hJ.more)
      · refine wanted_on rfl ?_
        simp only [putAll, Act.put, List.setIfInBounds_toArray, List.set_cons_zero, List.set_cons_succ] at hK ⊢
        go_simp
        exact hK _ _ _ rfl (hJ.grow hl (by decide) (Below.refl _ _) rfl hJ.more)
      · have e2 : f 2 = (.pointer (some ⟨p, 6, none⟩)) := hJ.at 2 (hd 2 (by kernel_rfl)) hJ.none
        obtain ⟨⟨-, -, -, -, -, -, x6⟩, -⟩ := box7 hJ.more.1.box
        refine wanted_on rfl ?_
        simp only [putAll, Act.put, List.setIfInBounds_toArray, List.set_cons_zero, List.set_cons_succ, e2] at hK ⊢
        go_simp
        exact hK _ _ _ rfl (hJ.grow hl (by decide) (Below.refl _ _) rfl hJ.more)
      · have e1 : f 1 = (.agg #[(.slice fo2 fl fc2), (.slice po2 pl pc2), .int .i64 st2.next, .int .i64 st2.ser, .int .i64 st2.fin, .int .i64 st2.stat]) := hJ.at 1 (hd 1 (by kernel_rfl)) hJ.none
        obtain ⟨⟨d0, d1, d2, d3, d4, d5⟩, ⟨f0, f1, f2, f3, f4, f5⟩⟩ := box6 (hJ.more.2.1 hn)
        refine wanted_on rfl ?_
        simp only [putAll, Act.put, List.setIfInBounds_toArray, List.set_cons_zero, List.set_cons_succ, e1] at hK ⊢
        go_simp
        obtain ⟨q1, q2, q3⟩ := six_set (hJ.more.2.1 hn) (.slice fo2 fl fc2) (.slice po2 pl pc2) (.int .i64 st2.next) (.int .i64 st2.ser) (.int .i64 st2.fin) (.int .i64 st2.stat)
        have hk := hJ.more.1
        have hbx := hJ.more.2.1 hn
        have hk2 : Wk (w.heap.size + 3) p ((((((u.setCell ⟨w.heap.size + 1 + 1, 0, none⟩ (.slice fo2 fl fc2)).setCell ⟨w.heap.size + 1 + 1, 1, none⟩ (.slice po2 pl pc2)).setCell ⟨w.heap.size + 1 + 1, 2, none⟩ (.int .i64 st2.next)).setCell ⟨w.heap.size + 1 + 1, 3, none⟩ (.int .i64 st2.ser)).setCell ⟨w.heap.size + 1 + 1, 4, none⟩ (.int .i64 st2.fin)).setCell ⟨w.heap.size + 1 + 1, 5, none⟩ (.int .i64 st2.stat)) (.slice fo2 fl fc2) (.slice po2 pl pc2) (.slice to2 tl tc2) es2 st2 td2 := ⟨by rw [q2 p (by have := hk.low; omega)]; exact hk.box, hk.low, ⟨row_far hk.fr.row hbx (by decide) (fun b hb _ => q2 b hb), fun e he => row_far (hk.fr.own e he) hbx (by decide) (fun b hb _ => q2 b hb), hk.fr.apart, hk.fr.xs⟩, row_far hk.ps hbx (by decide) (fun b hb _ => q2 b hb), row_far hk.td hbx (by decide) (fun b hb _ => q2 b hb)⟩
        refine hK _ (f 4) _ rfl (hJ.step (by decide) (q3 _ _ (Below.refl _ _) (by omega)) (fun j h2 h3 h4 h5 h6 => ?_) trivial ⟨hk2, (fun h => by cases h), fun _ => q1⟩)
        match j, h6 with
        | 0, h6 => have h7 : f 0 = .pointer (some ⟨p, 0, none⟩) := h6; exact h7
        | 1, h6 => have h7 : f 1 = .agg #[(.slice fo2 fl fc2), (.slice po2 pl pc2), .int .i64 st2.next, .int .i64 st2.ser, .int .i64 st2.fin, .int .i64 st2.stat] := h6; exact h7
        | 2, h6 => have h7 : f 2 = .pointer (some ⟨p, 6, none⟩) := h6; exact h7
        | 3, h6 => have h7 : f 3 = (.slice to2 tl tc2) := h6; exact h7
        | 4, _ => exact trivial
        | 5, h6 => have h7 : f 5 = (.slice to2 tl tc2) := h6; exact h7
        | 6, h6 => have h7 : f 6 = .int .i64 0 := h6; exact h7
        | j + 7, _ => exact trivial
      · have e3 : f 3 = (.slice to2 tl tc2) := hJ.at 3 (hd 3 (by kernel_rfl)) hJ.none
        refine wanted_on rfl ?_
        simp only [putAll, Act.put, List.setIfInBounds_toArray, List.set_cons_zero, List.set_cons_succ, e3] at hK ⊢
        go_simp
        exact hK _ _ _ rfl (hJ.grow hl (by decide) (Below.refl _ _) rfl hJ.more)
      · refine wanted_on rfl ?_
        simp only [putAll, Act.put, List.setIfInBounds_toArray, List.set_cons_zero, List.set_cons_succ] at hK ⊢
        go_simp
        exact hK _ _ _ rfl (hJ.grow hl (by decide) (Below.refl _ _) rfl hJ.more)
    · intro f d u hJ hall
      obtain ⟨hk, -, hbx⟩ := hJ.more
      have hbx2 := hbx (hall 4 (by decide))
      have e5 : f 5 = (.slice to2 tl tc2) := hJ.at 5 (hall 5 (by decide)) hJ.none
      have e6 : f 6 = (.int .i64 0) := hJ.at 6 (hall 6 (by decide)) hJ.none
      simp only [putAll, Act.put, List.setIfInBounds_toArray, List.set_cons_zero, List.set_cons_succ, e5, e6]
      have HK2 : Hid (Wk (w.heap.size + 3) p u (.slice fo2 fl fc2) (.slice po2 pl pc2) (.slice to2 tl tc2) es2 st2 td2) := hk
      have HBU : Hid (Below w.heap.size w u) := HB4.out.trans hJ.up
      obtain ⟨⟨k0, k1, k2, k3, k4, k5⟩, -⟩ := box6 hbx2
      clear hk hbx hbx2 hJ hall hl e5 e6
      go_wp2_with fail
      refine bodyPost_ret (v := .tuple #[.agg #[(.slice fo2 fl fc2), (.slice po2 pl pc2), .int .i64 st2.next, .int .i64 st2.ser, .int .i64 st2.fin, .int .i64 st2.stat], (.slice to2 tl tc2), .int .i64 0]) (by simp [results, Try.results14, go_sem, k0, k1, k2, k3, k4, k5]) rfl ?_
      refine ⟨.inr ⟨HC.out, (.slice fo2 fl fc2), (.slice po2 pl pc2), (.slice to2 tl tc2), es2, ?_, ?_⟩, HBU.out⟩
      · have h1 := HST.out.1
        rw [← h1]
      · have h1 := HST.out.1
        have h2 := HST.out.2
        rw [← h1, ← h2]
        have hk3 := HK2.out
        exact ⟨⟨row_up hk3.fr.row (by omega), fun e he => row_up (hk3.fr.own e he) (by omega), hk3.fr.apart, hk3.fr.xs⟩, row_up hk3.ps (by omega), row_up hk3.td (by omega)⟩
  · have hcb : (st.code e != 0) = true := by simpa using hc
    have HC : Hid (st.code e ≠ 0) := hc
    obtain ⟨c, hcq⟩ : ∃ c, c = st.code e := ⟨_, rfl⟩
    have HCQ : Hid (c = st.code e) := hcq
    rw [← hcq] at hcb ⊢
    clear hc hw2 hcq
    obtain ⟨-, -, q3⟩ := six_set HG4.out (.slice none 0 0) (.slice none 0 0) (.int .i64 0) (.int .i64 0) (.int .i64 0) (.int .i64 0)
    have HBF := Hid.mk' (q3 _ _ HB4.out (by omega))
    clear q3
    go_wp2_with fail
    exact bodyPost_ret (v := .tuple #[zeroSt, .slice none 0 0, .int .i64 c]) (by simp [zeroSt, results, Try.results14, go_sem, d0, d1, d2, d3, d4, d5]) rfl ⟨.inl ⟨HC.out, by rw [← HCQ.out]⟩, HBF.out⟩
def bFr : Fr := ⟨0, 0, -1, 0, []⟩
def bSt : St := ⟨[bFr], [], 1, 0, 0, 0⟩
theorem own_beginP (w : World) : Calls Try.prog 10 #[] w fun x w' => ∃ F' es, x = .returned (bSt.val F' (.slice none 0 0)) ∧ FRow w.heap.size w' F' es bSt.fr.reverse ∧ Below w.heap.size w w' := by
  go_enter Try.func10, Try.ntmps10
  go_wp2_with fail
  have hb : Below w.heap.size w ((w.alloc (.cells #[.slice (some ⟨w.heap.size + 1, 0, none⟩) 1 1, .slice none 0 0, .int .i64 1, .int .i64 0, .int .i64 0, .int .i64 0] 26)).alloc (.cells #[.int .i64 0, .int .i64 0, .int .i64 (-1), .int .i64 0, .slice none 0 0] 53)) := ((Below.refl _ _).alloc (Nat.le_refl _) _).alloc (by simp) _
  have hr := fr_lit (B := w.heap.size) (u := w.alloc (.cells #[.slice (some ⟨w.heap.size + 1, 0, none⟩) 1 1, .slice none 0 0, .int .i64 1, .int .i64 0, .int .i64 0, .int .i64 0] 26)) (a := 0) (b := 0) (c := -1) (by simp)
  rw [show (w.alloc (.cells #[.slice (some ⟨w.heap.size + 1, 0, none⟩) 1 1, .slice none 0 0, .int .i64 1, .int .i64 0, .int .i64 0, .int .i64 0] 26)).heap.size = w.heap.size + 1 by simp] at hr
  refine bodyPost_ret (v := .agg #[.slice (some ⟨w.heap.size + 1, 0, none⟩) 1 1, .slice none 0 0, .int .i64 1, .int .i64 0, .int .i64 0, .int .i64 0]) (by simp [results, Try.results10, go_sem]) rfl ⟨_, [⟨bFr, .slice none 0 0⟩], rfl, ⟨hr, fun e he => ?_, List.pairwise_singleton _ _, rfl⟩, hb⟩
  simp at he; subst he
  exact IOwn.nil _ _
end Go.Proofs.Ytcnpoldcebdhjaa
