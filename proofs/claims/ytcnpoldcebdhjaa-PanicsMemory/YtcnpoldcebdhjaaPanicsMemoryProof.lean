/-
  For every state that events come to (at most 400) and every event: Step changes nothing of the state that is handed in, spare room too, and two answers share no memory.
-/
import Derived.Test.YtcnpoldcebdhjaaPmem6
import Derived.Test.YtcnpoldcebdhjaaPl3
import Derived.BigQuiet
import Derived.SizedLaws
import Derived.JoinedCond
namespace Go.Proofs.Ytcnpoldcebdhjaa.panicsMemory
open Go.ChangeShapes Go.WideShapes Go.ChangeAt Go.RowKit
open Go.WideMaps Go.WideElems
open Go.ChangeMaps (open_string shut_string)
set_option linter.unusedVariables false
set_option linter.unusedSimpArgs false
set_option maxRecDepth 100000

theorem own : ownKnob Try.prog.godebug = none := by kernel_rfl

set_option maxHeartbeats 2000000 in
theorem walk (v0 : Value) (es0 : List Eo) (x1 : Eo) (w : World) (hv0 : EvSrc w v0 es0) (hz0 : es0.length ≤ 140737488351232) (hx1 : ∃ l, l.length = x1.ln ∧ ILies w x1.L l ∧ l.length * 8 ≤ 140737488351232) :
    Calls Try.prog 6 #[v0, .agg #[.int .i64 x1.x.k, .int .i64 x1.x.n, .int .i64 x1.x.vk, .int .i64 x1.x.vn, .string x1.x.vs, .slice x1.lo x1.ln x1.lc]] w fun e w' => e = .returned (.bool true) ∧ Below w.heap.size w w' := by
  have HEV : Hid (EvSrc w v0 es0 ∧ es0.length ≤ 140737488351232) := ⟨hv0, hz0⟩
  obtain ⟨vo, vc, hsh⟩ := hv0.row.shape
  subst hsh
  clear hv0 hz0
  obtain ⟨⟨ek, en, evk, evn, evs⟩, lo, ln, lc⟩ := x1
  simp only at hx1 ⊢
  have HX1 : Hid (∃ l : List Int, l.length = ln ∧ ILies w (.slice lo ln lc) l ∧ l.length * 8 ≤ 140737488351232) := hx1
  have HB0 : Hid (Below w.heap.size w (w.alloc (.cells #[.int .i64 ek, .int .i64 en, .int .i64 evk, .int .i64 evn, .string evs, .slice lo ln lc] 34))) := (Below.refl _ _).alloc (Nat.le_refl _) _
  have HS0 : Hid (EvSrc (w.alloc (.cells #[.int .i64 ek, .int .i64 en, .int .i64 evk, .int .i64 evn, .string evs, .slice lo ln lc] 34)) (.slice vo es0.length vc) es0) := HEV.out.1.below HB0.out
  have HBX0 : Hid (∀ u, Below (w.alloc (.cells #[.int .i64 ek, .int .i64 en, .int .i64 evk, .int .i64 evn, .string evs, .slice lo ln lc] 34)).heap.size (w.alloc (.cells #[.int .i64 ek, .int .i64 en, .int .i64 evk, .int .i64 evn, .string evs, .slice lo ln lc] 34)) u → u.heap[w.heap.size]? = some (.cells #[.int .i64 ek, .int .i64 en, .int .i64 evk, .int .i64 evn, .string evs, .slice lo ln lc] 34 (0, 0)) ∧ Below w.heap.size w u ∧ w.heap.size < u.heap.size) := fun u hu => ⟨box_stays hu, below_up hu, by have := hu.size; simp at this; omega⟩
  clear hx1
  go_enter Try.func6, Try.ntmps6
  go_wp2_with fail
  generalize w.alloc (.cells #[.int .i64 ek, .int .i64 en, .int .i64 evk, .int .i64 evn, .string evs, .slice lo ln lc] 34) = W0 at *
  refine (own_events _ es0 _ HS0.out HEV.out.2).mono ?_
  rintro e w1 ⟨v1, es1, rfl, hrow, hmap, hb1⟩
  have HROW := Hid.mk' hrow
  have HOK1 := Hid.mk' (evs_ok hmap)
  have HB1 := Hid.mk' hb1
  obtain ⟨vo1, vc1, hsh1⟩ := row_slice hrow
  subst hsh1
  clear hrow hmap hb1
  go_wp2_with fail
  refine (own_playedE _ es1 w1 _ HROW.out HOK1.out.1 HOK1.out.2).mono ?_
  rintro e w2 ⟨so, sc, ao, ac, ss, ts, rfl, hp, hb2⟩
  have HP := Hid.mk' hp
  have HB2 : Hid (Below W0.heap.size W0 w2) := HB1.out.trans (hb2.mono HB1.out.size)
  have htl := hp.short
  obtain ⟨s, hs⟩ : ∃ s, ss[ts.length]? = some s := ⟨ss[ts.length]'(by rw [hp.len]; omega), List.getElem?_eq_getElem _⟩
  have hmem : s ∈ ss := List.mem_of_getElem? hs
  obtain ⟨gs, hso, hgs, hcs⟩ := hp.at hs
  subst hso
  obtain ⟨c0, c1, c2, c3, c4, c5⟩ := hcs w2 (Below.refl _ _)
  have HSO : Hid (SOwn w2 s) := hp.own s hmem
  obtain ⟨j0, hj0, hfit⟩ := hp.fit s hmem
  have HFIT : Hid (Fit j0 s.st ∧ j0 ≤ 400) := ⟨hfit, hj0⟩
  have HRL : Hid (∃ q, RL s.st q) := by
    have h1 : s.st ∈ ss.map (·.st) := List.mem_map.2 ⟨s, hmem, rfl⟩
    rw [hp.st] at h1
    exact rl_states hp.norm s.st h1
  have hel : s.es.length = s.st.fr.length := by have h := HSO.out.fr.len; rw [List.length_reverse] at h; exact h
  have hflb : s.st.fr.length ≤ 30 := hfit.ok.bd.fr
  have hplb : s.st.ps.length ≤ 400 := by have := hfit.ok.bd.ps; omega
  have hdfb : ∀ f ∈ s.st.fr, f.df.length ≤ 1000000 := fun f hf => by have := hfit.ok.bd.df f hf; omega
  have hmi : (ts.length : Int) < (ts.length : Int) + 1 := by omega
  obtain ⟨m, hm⟩ : ∃ m, m = ts.length := ⟨_, rfl⟩
  rw [← hm] at htl c0 c1 c2 c3 c4 c5 hmi ⊢
  rw [hel] at c0
  have HSL3 : Hid (∀ u, Below w2.heap.size w2 u → SLies u (.slice s.fo s.st.fr.length s.fc) (.slice s.po s.st.ps.length s.pc) s.es s.st) := fun u hu => by
    have h := (HSO.out.keeps (Keeps.below (t0 := 26) hu) (by decide) (by decide) (by decide)).lies
    rw [hel] at h
    exact h
  have HRM : Hid (∀ u, Below w2.heap.size w2 u → Calls Try.prog 22 #[.agg #[.slice s.fo s.st.fr.length s.fc, .slice s.po s.st.ps.length s.pc, .int .i64 s.st.next, .int .i64 s.st.ser, .int .i64 s.st.fin, .int .i64 s.st.stat]] u fun x w' => ∃ F' P' es, x = .returned (s.st.val F' P') ∧ RmS u.heap.size w' F' P' es s.st ∧ Below u.heap.size u w') := fun u hu => own_roomyState _ _ s.es s.st u (HSL3.out u hu) (by omega) hdfb (by omega)
  have HWC : Hid (∀ u, Keeps 34 w2 u → ∀ i (f : Fr), s.st.fr.reverse[i]? = some f → ∃ g, s.fo = some ⟨g, 0, none⟩ ∧ ∃ L lw lcw, L = .slice lw f.df.reverse.length lcw ∧ ILies u L f.df.reverse ∧ u.cell? ⟨g, i * 5, none⟩ = some (.int .i64 f.id) ∧ u.cell? ⟨g, i * 5 + 3, none⟩ = some (.int .i64 f.ph) ∧ u.cell? ⟨g, i * 5 + 4, none⟩ = some L) := fun u hu i f hf => by
    have hk := HSO.out.keeps hu (by decide) (by decide) (by decide)
    have hx : (s.es.map (·.x))[i]? = some f := by rw [hk.fr.xs]; exact hf
    simp only [List.getElem?_map, Option.map_eq_some_iff] at hx
    obtain ⟨fe, hfe, rfl⟩ := hx
    obtain ⟨g, cap, hv, -, -, hc, -, -⟩ := own_at Fe.len hk.fr.row hfe
    simp only [Value.slice.injEq] at hv
    have ho := hk.fr.own fe (List.mem_of_getElem? hfe)
    obtain ⟨lw, lcw, hL⟩ := IOwn.shape ho
    exact ⟨g, hv.1, fe.L, lw, lcw, hL, ho.lies, (by have := hc 0 _ rfl; simpa using this), hc 3 _ rfl, hc 4 _ rfl⟩
  have HPC : Hid (∀ u, Keeps 34 w2 u → ∀ i (q : Pn), s.st.ps.reverse[i]? = some q → ∃ g, s.po = some ⟨g, 0, none⟩ ∧ u.cell? ⟨g, i * 7, none⟩ = some (.int .i64 q.ser) ∧ u.cell? ⟨g, i * 7 + 5, none⟩ = some (.bool q.rc) ∧ u.cell? ⟨g, i * 7 + 6, none⟩ = some (.bool q.ab)) := fun u hu i q hq => by
    have hk := HSO.out.keeps hu (by decide) (by decide) (by decide)
    obtain ⟨g, cap, hv, -, -, hc, -, -⟩ := own_at Pn.len hk.ps hq
    simp only [Value.slice.injEq] at hv
    exact ⟨g, hv.1, (by have := hc 0 _ rfl; simpa using this), hc 5 _ rfl, hc 6 _ rfl⟩
  obtain ⟨st, hst⟩ : ∃ x, x = s.st := ⟨_, rfl⟩
  rw [← hst] at HFIT HRL hflb hplb HRM HWC HPC c0 c1 c2 c3 c4 c5
  obtain ⟨fl, hfl⟩ : ∃ x, x = st.fr.length := ⟨_, rfl⟩
  obtain ⟨pl, hpl⟩ : ∃ x, x = st.ps.length := ⟨_, rfl⟩
  have HFL : Hid (fl = st.fr.length ∧ pl = st.ps.length) := ⟨hfl, hpl⟩
  rw [← hfl] at hflb HRM c0
  rw [← hpl] at hplb HRM c1
  have HBW : Hid (∀ u, Below (w2.alloc (.cells #[.slice s.fo fl s.fc, .slice s.po pl s.pc, .int .i64 st.next, .int .i64 st.ser, .int .i64 st.fin, .int .i64 st.stat] 26)).heap.size (w2.alloc (.cells #[.slice s.fo fl s.fc, .slice s.po pl s.pc, .int .i64 st.next, .int .i64 st.ser, .int .i64 st.fin, .int .i64 st.stat] 26)) u → u.heap[w2.heap.size]? = some (.cells #[.slice s.fo fl s.fc, .slice s.po pl s.pc, .int .i64 st.next, .int .i64 st.ser, .int .i64 st.fin, .int .i64 st.stat] 26 (0, 0)) ∧ Below w2.heap.size w2 u ∧ w2.heap.size < u.heap.size) := fun u hu => ⟨box_stays hu, below_up hu, by have := hu.size; simp at this; omega⟩
  clear hp hb2 hs hcs hmem hfit hel hm hst hfl hpl hdfb hgs HSL3
  go_wp2_with fail
  generalize w2.alloc (.cells #[.slice s.fo fl s.fc, .slice s.po pl s.pc, .int .i64 st.next, .int .i64 st.ser, .int .i64 st.fin, .int .i64 st.stat] 26) = W3 at *
  refine (HRM.out W3 (HBW.out W3 (Below.refl _ _)).2.1).mono ?_
  rintro e w4 ⟨F5, P5, es5, rfl, hrm, hb4⟩
  have HRS := Hid.mk' hrm
  have HB4 := Hid.mk' hb4
  obtain ⟨f5o, f5c, hF5⟩ := row_slice hrm.row
  obtain ⟨p5o, p5c, hP5⟩ := row_slice hrm.ps
  have h5l : es5.length = fl := by have h := congrArg List.length hrm.xs; simp at h; rw [HFL.out.1]; exact h
  rw [h5l] at hF5
  rw [List.length_reverse, ← HFL.out.2] at hP5
  subst hF5; subst hP5
  have HBR : Hid (∀ u, Below (w4.alloc (.cells #[.slice f5o fl f5c, .slice p5o pl p5c, .int .i64 st.next, .int .i64 st.ser, .int .i64 st.fin, .int .i64 st.stat] 26)).heap.size (w4.alloc (.cells #[.slice f5o fl f5c, .slice p5o pl p5c, .int .i64 st.next, .int .i64 st.ser, .int .i64 st.fin, .int .i64 st.stat] 26)) u → u.heap[w4.heap.size]? = some (.cells #[.slice f5o fl f5c, .slice p5o pl p5c, .int .i64 st.next, .int .i64 st.ser, .int .i64 st.fin, .int .i64 st.stat] 26 (0, 0)) ∧ Below w4.heap.size w4 u ∧ w4.heap.size < u.heap.size) := fun u hu => ⟨box_stays hu, below_up hu, by have := hu.size; simp at this; omega⟩
  have HB04 : Hid (∀ u, Below w4.heap.size w4 u → Below W0.heap.size W0 u) := fun u hu => (HB2.out.trans ((HBW.out w4 HB4.out).2.1.mono HB2.out.size)).trans (hu.mono (by have h1 := HB2.out.size; have h2 := (HBW.out w4 HB4.out).2.1.size; omega))
  have hbxe := (HBX0.out (w4.alloc (.cells #[.slice f5o fl f5c, .slice p5o pl p5c, .int .i64 st.next, .int .i64 st.ser, .int .i64 st.fin, .int .i64 st.stat] 26)) (HB04.out _ ((Below.refl _ _).alloc (Nat.le_refl _) _))).1
  obtain ⟨⟨e0, e1, e2, e3, e4, e5⟩, -⟩ := box6 hbxe
  unfold St.val
  have HE6 : Hid (EvSrc ((w4.alloc (.cells #[.slice f5o fl f5c, .slice p5o pl p5c, .int .i64 st.next, .int .i64 st.ser, .int .i64 st.fin, .int .i64 st.stat] 26)).alloc (.cells #[.int .i64 ek, .int .i64 en, .int .i64 evk, .int .i64 evn, .string evs, .slice lo ln lc] 34)) (.slice (some ⟨w4.heap.size + 1, 0, none⟩) 1 1) [⟨⟨ek, en, evk, evn, evs⟩, lo, ln, lc⟩]) := by
    have hal : Below (w4.alloc (.cells #[.slice f5o fl f5c, .slice p5o pl p5c, .int .i64 st.next, .int .i64 st.ser, .int .i64 st.fin, .int .i64 st.stat] 26)).heap.size (w4.alloc (.cells #[.slice f5o fl f5c, .slice p5o pl p5c, .int .i64 st.next, .int .i64 st.ser, .int .i64 st.fin, .int .i64 st.stat] 26)) ((w4.alloc (.cells #[.slice f5o fl f5c, .slice p5o pl p5c, .int .i64 st.next, .int .i64 st.ser, .int .i64 st.fin, .int .i64 st.stat] 26)).alloc (.cells #[.int .i64 ek, .int .i64 en, .int .i64 evk, .int .i64 evn, .string evs, .slice lo ln lc] 34)) := (Below.refl _ _).alloc (Nat.le_refl _) _
    have hr := World.ownsRow_lit (base := 0) (e := 34) (size := 6) (w4.alloc (.cells #[.slice f5o fl f5c, .slice p5o pl p5c, .int .i64 st.next, .int .i64 st.ser, .int .i64 st.fin, .int .i64 st.stat] 26)) #[.int .i64 ek, .int .i64 en, .int .i64 evk, .int .i64 evn, .string evs, .slice lo ln lc] 1 (Nat.zero_le _) (by decide) rfl
    rw [show (w4.alloc (.cells #[.slice f5o fl f5c, .slice p5o pl p5c, .int .i64 st.next, .int .i64 st.ser, .int .i64 st.fin, .int .i64 st.stat] 26)).heap.size = w4.heap.size + 1 by simp] at hr
    refine ⟨lies_own (t := 34) (B := 0) Eo.len hr, fun e he => ?_⟩
    simp only [List.mem_singleton] at he
    subst he
    obtain ⟨l, h1, h2, h3⟩ := HX1.out
    exact ⟨l, h1, h2.below (HBX0.out _ (HB04.out _ (((Below.refl _ _).alloc (Nat.le_refl _) _).alloc (by simp) _))).2.1 (Nat.le_refl _), h3⟩
  clear hrm hb4 h5l hbxe c0 c1 c2 c3 c4 c5
  go_wp2_with fail
  refine (own_events _ _ _ HE6.out (by simp)).mono ?_
  rintro e w7 ⟨v7, es7, rfl, hr7, hm7, hb7⟩
  have HB7 : Hid (Below (w4.alloc (.cells #[.slice f5o fl f5c, .slice p5o pl p5c, .int .i64 st.next, .int .i64 st.ser, .int .i64 st.fin, .int .i64 st.stat] 26)).heap.size (w4.alloc (.cells #[.slice f5o fl f5c, .slice p5o pl p5c, .int .i64 st.next, .int .i64 st.ser, .int .i64 st.fin, .int .i64 st.stat] 26)) w7) := below_up hb7
  have hl7 : es7.length = 1 := by have h := congrArg List.length hm7; simpa using h
  obtain ⟨e7, he7⟩ : ∃ e, es7 = [e] := List.length_eq_one_iff.1 hl7
  subst he7
  have HN7 : Hid (Norm e7.x) := by
    have hx7 : e7.x = evOf ⟨ek, en, evk, evn, evs⟩ := by simpa using hm7
    show Norm _
    rw [hx7]; exact norm_evOf _
  obtain ⟨g7, cap7, hv7, -, -, hc7, -, -⟩ := own_at (k := 0) (e := e7) Eo.len hr7 rfl
  subst hv7
  have k0 := hc7 0 _ rfl
  have k1 := hc7 1 _ rfl
  have k2 := hc7 2 _ rfl
  have k3 := hc7 3 _ rfl
  have k4 := hc7 4 _ rfl
  have k5 := hc7 5 _ rfl
  simp only [Nat.zero_mul, Nat.zero_add] at k0 k1 k2 k3 k4 k5
  obtain ⟨hbx7, hbw7, hlt7⟩ := HBX0.out _ (HB04.out _ (below_up HB7.out))
  obtain ⟨⟨z0, z1, z2, z3, z4, z5⟩, ⟨y0, y1, y2, y3, y4, y5⟩⟩ := box6 hbx7
  have HW8 : Hid (∀ u, Below (((((((w7.setCell ⟨w.heap.size, 0, none⟩ (.int .i64 e7.x.k)).setCell ⟨w.heap.size, 1, none⟩ (.int .i64 e7.x.n)).setCell ⟨w.heap.size, 2, none⟩ (.int .i64 e7.x.vk)).setCell ⟨w.heap.size, 3, none⟩ (.int .i64 e7.x.vn)).setCell ⟨w.heap.size, 4, none⟩ (.string e7.x.vs)).setCell ⟨w.heap.size, 5, none⟩ (.slice e7.lo e7.ln e7.lc))).heap.size (((((((w7.setCell ⟨w.heap.size, 0, none⟩ (.int .i64 e7.x.k)).setCell ⟨w.heap.size, 1, none⟩ (.int .i64 e7.x.n)).setCell ⟨w.heap.size, 2, none⟩ (.int .i64 e7.x.vk)).setCell ⟨w.heap.size, 3, none⟩ (.int .i64 e7.x.vn)).setCell ⟨w.heap.size, 4, none⟩ (.string e7.x.vs)).setCell ⟨w.heap.size, 5, none⟩ (.slice e7.lo e7.ln e7.lc))) u → u.heap[w.heap.size]? = some (.cells #[.int .i64 e7.x.k, .int .i64 e7.x.n, .int .i64 e7.x.vk, .int .i64 e7.x.vn, .string e7.x.vs, .slice e7.lo e7.ln e7.lc] 34 (0, 0)) ∧ u.heap[w2.heap.size]? = some (.cells #[.slice s.fo fl s.fc, .slice s.po pl s.pc, .int .i64 st.next, .int .i64 st.ser, .int .i64 st.fin, .int .i64 st.stat] 26 (0, 0)) ∧ u.heap[w4.heap.size]? = some (.cells #[.slice f5o fl f5c, .slice p5o pl p5c, .int .i64 st.next, .int .i64 st.ser, .int .i64 st.fin, .int .i64 st.stat] 26 (0, 0)) ∧ RmS W3.heap.size u (.slice f5o fl f5c) (.slice p5o pl p5c) es5 st ∧ Keeps 34 w2 u ∧ Below w.heap.size w u) := by
    intro u hu
    obtain ⟨s1, s2, s3⟩ := ev_set (.int .i64 e7.x.k) (.int .i64 e7.x.n) (.int .i64 e7.x.vk) (.int .i64 e7.x.vn) (.string e7.x.vs) (.slice e7.lo e7.ln e7.lc) hbx7
    have hb37 : Below W3.heap.size W3 w7 := HB4.out.trans ((below_up HB7.out).mono HB4.out.size)
    have n1 : w.heap.size < W0.heap.size := (HBX0.out W0 (Below.refl _ _)).2.2
    have n2 := HB2.out.size
    have n3 : w2.heap.size < W3.heap.size := (HBW.out W3 (Below.refl _ _)).2.2
    have n4 := HB4.out.size
    have q1 := (HBW.out w7 hb37).1
    have q2 := (HBR.out w7 HB7.out).1
    rw [← s2 _ (show w2.heap.size ≠ w.heap.size by omega)] at q1
    rw [← s2 _ (show w4.heap.size ≠ w.heap.size by omega)] at q2
    refine ⟨?_, ?_, ?_, ((HRS.out.below (below_up HB7.out)).far hbx7 (by decide) (by decide) (by decide) s2).below hu, (Keeps.below (HBW.out w7 hb37).2.1).trans ((Keeps.other hbx7 s2).trans (Keeps.below hu)), hbw7.trans (s3.trans (hu.mono (by have := s3.size; omega)))⟩
    · rw [hu.block _ (Array.getElem?_eq_some_iff.1 s1).1]; exact s1
    · rw [hu.block _ (Array.getElem?_eq_some_iff.1 q1).1]; exact q1
    · rw [hu.block _ (Array.getElem?_eq_some_iff.1 q2).1]; exact q2
  have HST : Hid (∀ u, Below (((((((w7.setCell ⟨w.heap.size, 0, none⟩ (.int .i64 e7.x.k)).setCell ⟨w.heap.size, 1, none⟩ (.int .i64 e7.x.n)).setCell ⟨w.heap.size, 2, none⟩ (.int .i64 e7.x.vk)).setCell ⟨w.heap.size, 3, none⟩ (.int .i64 e7.x.vn)).setCell ⟨w.heap.size, 4, none⟩ (.string e7.x.vs)).setCell ⟨w.heap.size, 5, none⟩ (.slice e7.lo e7.ln e7.lc))).heap.size (((((((w7.setCell ⟨w.heap.size, 0, none⟩ (.int .i64 e7.x.k)).setCell ⟨w.heap.size, 1, none⟩ (.int .i64 e7.x.n)).setCell ⟨w.heap.size, 2, none⟩ (.int .i64 e7.x.vk)).setCell ⟨w.heap.size, 3, none⟩ (.int .i64 e7.x.vn)).setCell ⟨w.heap.size, 4, none⟩ (.string e7.x.vs)).setCell ⟨w.heap.size, 5, none⟩ (.slice e7.lo e7.ln e7.lc))) u → Calls Try.prog 14 #[.agg #[.slice f5o fl f5c, .slice p5o pl p5c, .int .i64 st.next, .int .i64 st.ser, .int .i64 st.fin, .int .i64 st.stat], .agg #[.int .i64 e7.x.k, .int .i64 e7.x.n, .int .i64 e7.x.vk, .int .i64 e7.x.vn, .string e7.x.vs, .slice e7.lo e7.ln e7.lc]] u fun x w' => ∃ F' P' T' es st' td' c, x = .returned (.tuple #[.agg #[F', P', .int .i64 st'.next, .int .i64 st'.ser, .int .i64 st'.fin, .int .i64 st'.stat], T', .int .i64 c]) ∧ Stepped u.heap.size w' F' P' T' es st' td' ∧ (∀ f ∈ st'.fr, 0 ≤ f.id) ∧ st'.fr.length ≤ 30 ∧ st'.ps.length ≤ j0 + 1 ∧ (∀ f ∈ st'.fr, f.df.length ≤ j0 + 1) ∧ Below u.heap.size u w') := fun u hu => own_stepU _ _ es5 st e7.x e7.lo e7.ln e7.lc j0 u (HW8.out u hu).2.2.2.1.lies HFIT.out.1 (by omega) HN7.out HRL.out
  have hbb := HW8.out _ (Below.refl _ _)
  obtain ⟨⟨a0, a1, a2, a3, a4, a5⟩, -⟩ := box6 hbb.1
  obtain ⟨⟨b0, b1, b2, b3, b4, b5⟩, -⟩ := box6 hbb.2.2.1
  have hne1 : ¬ w4.heap.size = w.heap.size := fun e => by
    have h1 := hbb.1
    have h2 := hbb.2.2.1
    rw [e, h1] at h2
    simp at h2
  have hne2 : ¬ w.heap.size = w4.heap.size := fun e => hne1 e.symm
  clear hr7 hm7 hb7 hl7 hc7 hbx7 hbw7 hlt7 hbb
  go_wp2_with fail
  clear z0 z1 z2 z3 z4 z5 y0 y1 y2 y3 y4 y5 a0 a1 a2 a3 a4 a5 b0 b1 b2 b3 b4 b5 hne1 hne2 k0 k1 k2 k3 k4 k5 e0 e1 e2 e3 e4 e5
  generalize ((((((w7.setCell ⟨w.heap.size, 0, none⟩ (.int .i64 e7.x.k)).setCell ⟨w.heap.size, 1, none⟩ (.int .i64 e7.x.n)).setCell ⟨w.heap.size, 2, none⟩ (.int .i64 e7.x.vk)).setCell ⟨w.heap.size, 3, none⟩ (.int .i64 e7.x.vn)).setCell ⟨w.heap.size, 4, none⟩ (.string e7.x.vs)).setCell ⟨w.heap.size, 5, none⟩ (.slice e7.lo e7.ln e7.lc)) = W8 at *
  refine (HST.out W8 (Below.refl _ _)).mono ?_
  rintro e w9 ⟨F9, P9, T9, es9, st9, td9, c9, rfl, hs9, -, hfb9, hpb9, hdb9, hb9⟩
  have HB9 := Hid.mk' hb9
  have HS9 := Hid.mk' hs9
  have HDB9 : Hid (∀ e ∈ es9, e.x.df.reverse.length ≤ 17592186043904) := fun e he => by
    have h1 : e.x ∈ es9.map (·.x) := List.mem_map.2 ⟨e, he, rfl⟩
    rw [hs9.fr.xs] at h1
    have := hdb9 e.x (by simpa using h1)
    simp; omega
  obtain ⟨f9o, f9c, hF9⟩ := row_slice hs9.fr.row
  obtain ⟨p9o, p9c, hP9⟩ := row_slice hs9.ps
  have hl9 := hs9.fr.len
  rw [List.length_reverse] at hl9
  obtain ⟨n9, hn9⟩ : ∃ x, x = es9.length := ⟨_, rfl⟩
  obtain ⟨m9, hm9⟩ : ∃ x, x = st9.ps.reverse.length := ⟨_, rfl⟩
  have HL9 : Hid (n9 = es9.length ∧ m9 = st9.ps.reverse.length) := ⟨hn9, hm9⟩
  have hn9b : n9 ≤ 30 := by omega
  have hm9b : m9 ≤ 401 := by rw [hm9, List.length_reverse]; omega
  rw [← hn9] at hF9
  rw [← hm9] at hP9
  subst hF9; subst hP9
  obtain ⟨nx9, hnx9⟩ : ∃ x, x = st9.next := ⟨_, rfl⟩
  obtain ⟨sr9, hsr9⟩ : ∃ x, x = st9.ser := ⟨_, rfl⟩
  obtain ⟨fi9, hfi9⟩ : ∃ x, x = st9.fin := ⟨_, rfl⟩
  obtain ⟨sx9, hsx9⟩ : ∃ x, x = st9.stat := ⟨_, rfl⟩
  rw [← hnx9, ← hsr9, ← hfi9, ← hsx9]
  have HB10 : Hid (∀ u, Below (w9.alloc (.cells #[.slice f9o n9 f9c, .slice p9o m9 p9c, .int .i64 nx9, .int .i64 sr9, .int .i64 fi9, .int .i64 sx9] 26)).heap.size (w9.alloc (.cells #[.slice f9o n9 f9c, .slice p9o m9 p9c, .int .i64 nx9, .int .i64 sr9, .int .i64 fi9, .int .i64 sx9] 26)) u → u.heap[w9.heap.size]? = some (.cells #[.slice f9o n9 f9c, .slice p9o m9 p9c, .int .i64 nx9, .int .i64 sr9, .int .i64 fi9, .int .i64 sx9] 26 (0, 0)) ∧ Below w9.heap.size w9 u ∧ w9.heap.size < u.heap.size) := fun u hu => ⟨box_stays hu, below_up hu, by have := hu.size; simp at this; omega⟩
  have hbb := HW8.out (w9.alloc (.cells #[.slice f9o n9 f9c, .slice p9o m9 p9c, .int .i64 nx9, .int .i64 sr9, .int .i64 fi9, .int .i64 sx9] 26)) (hb9.trans (((Below.refl _ _).alloc (Nat.le_refl _) _).mono hb9.size))
  obtain ⟨⟨a0, a1, a2, a3, a4, a5⟩, -⟩ := box6 hbb.1
  obtain ⟨⟨b0, b1, b2, b3, b4, b5⟩, -⟩ := box6 hbb.2.2.1
  clear hs9 hb9 hfb9 hpb9 hdb9 hl9 hn9 hm9 hbb hnx9 hsr9 hfi9 hsx9
  go_wp2_with fail
  clear a0 a1 a2 a3 a4 a5 b0 b1 b2 b3 b4 b5
  generalize w9.alloc (.cells #[.slice f9o n9 f9c, .slice p9o m9 p9c, .int .i64 nx9, .int .i64 sr9, .int .i64 fi9, .int .i64 sx9] 26) = W10 at *
  have HB810 : Hid (Below W8.heap.size W8 W10) := HB9.out.trans ((HB10.out W10 (Below.refl _ _)).2.1.mono HB9.out.size)
  refine (HST.out W10 HB810.out).mono ?_
  rintro e w11 ⟨F11, P11, T11, es11, st11, td11, c11, rfl, hs11, hid11, hfb11, hpb11, -, hb11⟩
  have HB11 := Hid.mk' hb11
  have HS11 := Hid.mk' hs11
  obtain ⟨f11o, f11c, hF11⟩ := row_slice hs11.fr.row
  have hl11 := hs11.fr.len
  rw [List.length_reverse] at hl11
  obtain ⟨n11, hn11⟩ : ∃ x, x = es11.length := ⟨_, rfl⟩
  have HL11 : Hid (n11 = es11.length) := hn11
  have hn11b : n11 ≤ 30 := by omega
  have HID : Hid (∀ e ∈ es11, 0 ≤ e.x.id) := fun e he => by
    have h1 : e.x ∈ es11.map (·.x) := List.mem_map.2 ⟨e, he, rfl⟩
    rw [hs11.fr.xs] at h1
    exact hid11 e.x (by simpa using h1)
  obtain ⟨p11o, p11c, hP11⟩ := row_slice hs11.ps
  rw [← hn11] at hF11
  subst hF11
  subst hP11
  generalize hm11 : st11.ps.reverse.length = m11 at *
  generalize st11.next = nx11 at *
  generalize st11.ser = sr11 at *
  generalize st11.fin = fi11 at *
  generalize st11.stat = sx11 at *
  have HB12 : Hid (∀ u, Below (w11.alloc (.cells #[.slice f11o n11 f11c, .slice p11o m11 p11c, .int .i64 nx11, .int .i64 sr11, .int .i64 fi11, .int .i64 sx11] 26)).heap.size (w11.alloc (.cells #[.slice f11o n11 f11c, .slice p11o m11 p11c, .int .i64 nx11, .int .i64 sr11, .int .i64 fi11, .int .i64 sx11] 26)) u → u.heap[w11.heap.size]? = some (.cells #[.slice f11o n11 f11c, .slice p11o m11 p11c, .int .i64 nx11, .int .i64 sr11, .int .i64 fi11, .int .i64 sx11] 26 (0, 0)) ∧ Below w11.heap.size w11 u ∧ w11.heap.size < u.heap.size) := fun u hu => ⟨box_stays hu, below_up hu, by have := hu.size; simp at this; omega⟩
  clear hs11 hid11 hfb11 hpb11 hb11 hl11 hn11 hm11
  go_wp2_with fail
  generalize w11.alloc (.cells #[.slice f11o n11 f11c, .slice p11o m11 p11c, .int .i64 nx11, .int .i64 sr11, .int .i64 fi11, .int .i64 sx11] 26) = W12 at *
  have HBT : Hid (W8.heap.size ≤ w9.heap.size ∧ w9.heap.size < W10.heap.size ∧ W10.heap.size ≤ w11.heap.size ∧ w11.heap.size < W12.heap.size) := ⟨HB9.out.size, (HB10.out W10 (Below.refl _ _)).2.2, HB11.out.size, (HB12.out W12 (Below.refl _ _)).2.2⟩
  have hb1112 : Below w11.heap.size w11 W12 := (HB12.out W12 (Below.refl _ _)).2.1
  have hb1012 : Below W10.heap.size W10 W12 := HB11.out.trans (hb1112.mono HB11.out.size)
  have hb912 : Below w9.heap.size w9 W12 := (HB10.out W12 hb1012).2.1
  have HB812 : Hid (Below W8.heap.size W8 W12) := HB9.out.trans (hb912.mono HB9.out.size)
  have HARR : Hid (∀ e ∈ es9, Arr W8.heap.size w9.heap.size W12 3 1 e.L e.x.df.reverse.length) := fun e he => by
    have h := arr_of (T := w9.heap.size) (HS9.out.fr.own e he) hb912 (Nat.le_refl _)
    exact h
  have HARP : Hid (Arr W8.heap.size w9.heap.size W12 55 7 (.slice p9o m9 p9c) m9) := by
    have h := arr_of (T := w9.heap.size) HS9.out.ps hb912 (Nat.le_refl _)
    rw [← HL9.out.2] at h
    exact h
  have HS1 : Hid (S1 W8.heap.size w9.heap.size (.slice f9o n9 f9c) es9 W12 W12) := ⟨Sc.refl _ _ _, fun g hg => (HS9.out.fr.row.lt g hg).2, es9, row_below HS9.out.fr.row hb912, rfl, rfl⟩
  have HUU : Hid (∀ u, Sc W8.heap.size w9.heap.size W12 u → u.heap[w9.heap.size]? = some (.cells #[.slice f9o n9 f9c, .slice p9o m9 p9c, .int .i64 nx9, .int .i64 sr9, .int .i64 fi9, .int .i64 sx9] 26 (0, 0)) ∧ u.heap[w11.heap.size]? = some (.cells #[.slice f11o n11 f11c, .slice p11o m11 p11c, .int .i64 nx11, .int .i64 sr11, .int .i64 fi11, .int .i64 sx11] 26 (0, 0)) ∧ Below W8.heap.size W8 u ∧ u.ownsRow w9.heap.size 53 5 (.slice f11o n11 f11c) es11.length (rc Fe.cells es11)) := fun u hu => by
    obtain ⟨h1, h2, h3, h4⟩ := HBT.out
    refine ⟨hu.box (Nat.le_refl _) (HB10.out W12 hb1012).1, hu.box (by omega) (HB12.out W12 (Below.refl _ _)).1, HB812.out.trans (hu.bel.mono (by omega)), hu.row (row_up (row_below HS11.out.fr.row hb1112) (by omega))⟩
  clear hb1112 hb1012 hb912
  go_loopw [16] (fun s16 wr => ∃ (k : Nat), k ≤ n9 ∧ s16 = .int .i64 k ∧ Hid (S1 W8.heap.size w9.heap.size (.slice f9o n9 f9c) es9 W12 wr)) (fun k _ => n9 - (intOf k).toNat)
  case atStart => exact ⟨0, Nat.zero_le _, rfl, HS1.out⟩
  case round =>
    obtain ⟨k, hk, rfl, HR⟩ := hrel
    obtain ⟨wq, hwq⟩ : ∃ x, x = wr := ⟨_, rfl⟩
    subst hwq
    obtain ⟨hbx, -, -, -⟩ := HUU.out wq HR.out.sc
    obtain ⟨⟨a0, a1, a2, a3, a4, a5⟩, -⟩ := box6 hbx
    by_cases hlt : k < n9
    · have hlti : (k : Int) < (n9 : Int) := by omega
      obtain ⟨e9, he9⟩ : ∃ e, es9[k]? = some e := ⟨es9[k]'(by rw [← HL9.out.1]; exact hlt), List.getElem?_eq_getElem _⟩
      have hmem := List.mem_of_getElem? he9
      obtain ⟨g, cap, hv, hBg, hgT, cL⟩ := HR.out.at he9
      simp only [Value.slice.injEq] at hv
      obtain ⟨hv, -, -⟩ := hv
      subst hv
      have HA9 : Hid (Arr W8.heap.size w9.heap.size wq 3 1 e9.L e9.x.df.reverse.length) := (HARR.out e9 hmem).sc HR.out.sc
      have hd9 := HDB9.out e9 hmem
      obtain ⟨l9o, l9c, hL9⟩ := arr_slice HA9.out
      have HLL : Hid (e9.L = .slice l9o e9.x.df.reverse.length l9c) := hL9
      rw [hL9] at cL
      have HKL : Hid (k < es9.length) := by show k < es9.length; rw [← HL9.out.1]; exact hlt
      have HSZ : Hid (W8.heap.size ≤ wq.heap.size) := (HUU.out wq HR.out.sc).2.2.1.size
      generalize e9.x.df.reverse.length = len at *
      clear hbx hmem he9 hL9
      go_wp2_with fail
      rw [HLL.out] at HA9
      refine (own_scribble _ len W8.heap.size w9.heap.size wq HA9.out HSZ.out hd9).mono ?_
      rintro e w' ⟨rfl, hsc, hoth⟩
      obtain ⟨h1, ⟨y, cy⟩, fy⟩ := HR.out.step HKL.out HA9.out hsc hoth
      have HN := Hid.mk' h1
      obtain ⟨hbx, -, -, -⟩ := HUU.out w' (HR.out.sc.trans hsc)
      obtain ⟨⟨a0, a1, a2, a3, a4, a5⟩, -⟩ := box6 hbx
      clear hsc hoth h1 hbx
      go_wp2_with fail
      go_roundw
      case rel => exact ⟨k + 1, by omega, by go_num, HN.out⟩
      case measure => simp [intOf]; omega
    · have hke : n9 = k := by omega
      have HSC : Hid (Sc W8.heap.size w9.heap.size W12 wq) := HR.out.sc
      subst hke
      clear hbx
      go_wp2_with fail
      clear a0 a1 a2 a3 a4 a5
      go_loopw [17] (fun s17 wr => ∃ (k : Nat), k ≤ m9 ∧ s17 = .int .i64 k ∧ Hid (Sc W8.heap.size w9.heap.size W12 wr)) (fun k _ => m9 - (intOf k).toNat)
      case atStart => exact ⟨0, Nat.zero_le _, rfl, HSC.out⟩
      case round =>
        obtain ⟨k, hk, rfl, HR⟩ := hrel
        obtain ⟨wb, hwb⟩ : ∃ x, x = wr := ⟨_, rfl⟩
        subst hwb
        obtain ⟨hbx, -, -, -⟩ := HUU.out wb HR.out
        obtain ⟨⟨a0, a1, a2, a3, a4, a5⟩, -⟩ := box6 hbx
        by_cases hlt : k < m9
        · have hlti : (k : Int) < (m9 : Int) := by omega
          obtain ⟨g, cap, cur, hv, hBg, hgT, hg, hsz⟩ := arr_at (HARP.out.sc HR.out) (by omega)
          injection hv with hv1 hv2 hv3
          subst hv1
          obtain ⟨⟨y, cy⟩, fy⟩ := cell_in (j := k * 7) hg (by omega)
          have HN : Hid (Sc W8.heap.size w9.heap.size W12 (wb.setCell ⟨g, k * 7, none⟩ (.int .i64 (-99)))) := HR.out.trans (Sc.set hBg (.inl hgT) hg _)
          clear hbx hg hsz hv2 hv3
          go_wp2_with fail
          go_roundw
          case rel => exact ⟨k + 1, by omega, by go_num, HN.out⟩
          case measure => simp [intOf]; omega
        · have hke : m9 = k := by omega
          have HSC2 : Hid (Sc W8.heap.size w9.heap.size W12 wb) := HR.out
          subst hke
          clear hbx
          go_wp2_with fail
          clear a0 a1 a2 a3 a4 a5
          go_loopw [18] (fun s18 wr => ∃ (i : Nat), i ≤ fl ∧ s18 = .int .i64 i ∧ Hid (Sc W8.heap.size w9.heap.size W12 wr)) (fun k _ => fl - (intOf k).toNat)
          case atStart => exact ⟨0, Nat.zero_le _, rfl, HSC2.out⟩
          case round =>
            obtain ⟨i, hi, rfl, HR⟩ := hrel
            obtain ⟨wc, hwc⟩ : ∃ x, x = wr := ⟨_, rfl⟩
            subst hwc
            obtain ⟨-, hsv, hrv, -, -, -⟩ := HW8.out wc (HUU.out wc HR.out).2.2.1
            obtain ⟨⟨a0, a1, a2, a3, a4, a5⟩, -⟩ := box6 hsv
            obtain ⟨⟨b0, b1, b2, b3, b4, b5⟩, -⟩ := box6 hrv
            by_cases hlt : i < fl
            · have hlti : (i : Int) < (fl : Int) := by omega
              obtain ⟨f, hf⟩ : ∃ f, st.fr.reverse[i]? = some f := ⟨st.fr.reverse[i]'(by rw [List.length_reverse, ← HFL.out.1]; exact hlt), List.getElem?_eq_getElem _⟩
              have hm5 := (HW8.out wc (HUU.out wc HR.out).2.2.1).2.2.2.1
              have hx : (es5.map (·.x))[i]? = some f := by rw [hm5.xs]; exact hf
              simp only [List.getElem?_map, Option.map_eq_some_iff] at hx
              obtain ⟨⟨f', L5⟩, he5, hff⟩ := hx
              simp only at hff
              subst hff
              obtain ⟨g5, cap5, hv5, -, -, hc5, -, -⟩ := own_at Fe.len hm5.row he5
              simp only [Value.slice.injEq] at hv5
              obtain ⟨hv5, -, -⟩ := hv5
              obtain ⟨⟨gr, hL5, hroom⟩, hdz⟩ := hm5.rooms _ (List.mem_of_getElem? he5)
              have HRO : Hid (∀ u, Below wc.heap.size wc u → Room u gr f'.df.reverse) := fun u hu => room_keep hroom (hu.block gr (Array.getElem?_eq_some_iff.1 (show wc.heap[gr]? = _ from hroom)).1)
              have hdz2 : f'.df.reverse.length ≤ 17592186043904 := by simp only at hdz; omega
              simp only at hL5
              subst hL5
              have r0 := hc5 0 _ rfl
              have r1 := hc5 1 _ rfl
              have r2 := hc5 2 _ rfl
              have r3 := hc5 3 _ rfl
              have r4 := hc5 4 _ rfl
              subst hv5
              have HF := Hid.mk' hf
              have HK : Hid (∀ o, Sc W8.heap.size w9.heap.size W12 (wc.alloc o)) := fun o => HR.out.trans (Sc.alloc (HUU.out wc HR.out).2.2.1.size o)
              obtain ⟨id, mk, pn, ph, df⟩ := f'
              simp only [Nat.add_zero] at r0 r1 r2 r3 r4 hdz2 HRO HF
              obtain ⟨dl, hdl⟩ : ∃ x, x = df.reverse := ⟨_, rfl⟩
              have HDL := Hid.mk' hdl
              rw [← hdl] at r4 hdz2 HRO
              have HXA : Hid (∀ u, Below (wc.alloc (.cells #[.int .i64 id, .int .i64 mk, .int .i64 pn, .int .i64 ph, .slice (some ⟨gr, 0, none⟩) dl.length (dl.length + 2)] 53)).heap.size (wc.alloc (.cells #[.int .i64 id, .int .i64 mk, .int .i64 pn, .int .i64 ph, .slice (some ⟨gr, 0, none⟩) dl.length (dl.length + 2)] 53)) u → u.heap[wc.heap.size]? = some (.cells #[.int .i64 id, .int .i64 mk, .int .i64 pn, .int .i64 ph, .slice (some ⟨gr, 0, none⟩) dl.length (dl.length + 2)] 53 (0, 0)) ∧ Below wc.heap.size wc u) := fun u hu => ⟨box_stays hu, below_up hu⟩
              have HKA := HK.out (.cells #[.int .i64 id, .int .i64 mk, .int .i64 pn, .int .i64 ph, .slice (some ⟨gr, 0, none⟩) dl.length (dl.length + 2)] 53)
              have HKB := Hid.mk' HKA
              clear hsv hrv hm5 he5 hc5 hroom hdz hf HKA hdl
              go_wp2_with fail
              generalize wc.alloc (.cells #[.int .i64 id, .int .i64 mk, .int .i64 pn, .int .i64 ph, .slice (some ⟨gr, 0, none⟩) dl.length (dl.length + 2)] 53) = wa at *
              clear a0 a1 a2 a3 a4 a5 b0 b1 b2 b3 b4 b5 r0 r1 r2 r3 r4
              obtain ⟨-, hsv, -, -, hkp, -⟩ := HW8.out wa (HUU.out wa HKB.out).2.2.1
              obtain ⟨⟨a0, a1, a2, a3, a4, a5⟩, -⟩ := box6 hsv
              obtain ⟨hbr, hba⟩ := HXA.out wa (Below.refl _ _)
              obtain ⟨⟨r0, r1, r2, r3, r4⟩, -⟩ := box5 hbr
              obtain ⟨gw, hso, L, lw, lcw, hL, hil, q0, q3, q4⟩ := HWC.out wa hkp i _ HF.out
              simp only at hL hil q0 q3 q4
              rw [← HDL.out] at hL hil
              have HSTA : Hid (∀ q, Calls Try.prog 24 #[.slice (some ⟨gr, 0, none⟩) dl.length (dl.length + 2), L] (wa.drewN q) fun e w' => e = .returned (.bool true) ∧ ∃ m, w' = (wa.drewN q).drewN m) := fun q => stayed_far _ _ _ wa hil (HRO.out wa hba) hdz2 q
              have hn1 : (id != id) = false := by simp
              have hn2 : (ph != ph) = false := by simp
              subst hL
              rw [hso] at a0
              clear hsv hbr hba hil hkp
              go_quiet ((go_at_call 24; exact Calls.quiet_of (HSTA.out _)))
              go_wp2_with fail
              go_roundw
              case rel => exact ⟨i + 1, by omega, by go_num, HKB.out.trans (Sc.below (HUU.out wa HKB.out).2.2.1.size (below_dn _ _))⟩
              case measure => simp [intOf]; omega
            · have hie : fl = i := by omega
              have HSC3 : Hid (Sc W8.heap.size w9.heap.size W12 wc) := HR.out
              clear hsv hrv
              go_wp2_with fail
              clear a0 a1 a2 a3 a4 a5 b0 b1 b2 b3 b4 b5
              go_loopw [20] (fun s20 wr => ∃ (i : Nat), i ≤ pl ∧ s20 = .int .i64 i ∧ Hid (Sc W8.heap.size w9.heap.size W12 wr)) (fun k _ => pl - (intOf k).toNat)
              case atStart => exact ⟨0, Nat.zero_le _, rfl, HSC3.out⟩
              case round =>
                obtain ⟨i, hi, rfl, HR⟩ := hrel
                obtain ⟨wd, hwd⟩ : ∃ x, x = wr := ⟨_, rfl⟩
                subst hwd
                obtain ⟨-, hsv, hrv, hm5, hkp, -⟩ := HW8.out wd (HUU.out wd HR.out).2.2.1
                obtain ⟨⟨a0, a1, a2, a3, a4, a5⟩, -⟩ := box6 hsv
                obtain ⟨⟨b0, b1, b2, b3, b4, b5⟩, -⟩ := box6 hrv
                by_cases hlt : i < pl
                · have hlti : (i : Int) < (pl : Int) := by omega
                  obtain ⟨p, hp⟩ : ∃ p, st.ps.reverse[i]? = some p := ⟨st.ps.reverse[i]'(by rw [List.length_reverse, ← HFL.out.2]; exact hlt), List.getElem?_eq_getElem _⟩
                  obtain ⟨gp, cap5, hv5, -, -, hc5, -, -⟩ := own_at Pn.len hm5.ps hp
                  simp only [Value.slice.injEq] at hv5
                  obtain ⟨hv5, -, -⟩ := hv5
                  obtain ⟨gw, hso, q0, q5, q6⟩ := HPC.out wd hkp i _ hp
                  have r0 := hc5 0 _ rfl
                  have r5 := hc5 5 _ rfl
                  have r6 := hc5 6 _ rfl
                  simp only [Nat.add_zero] at r0 r5 r6
                  rw [hv5] at b1
                  rw [hso] at a1
                  obtain ⟨ser, pv, prc, pab⟩ := p
                  simp only at q0 q5 q6 r0 r5 r6
                  have hn1 : (ser != ser) = false := by simp
                  have hn2 : (prc != prc) = false := by simp
                  have hn3 : (pab != pab) = false := by simp
                  clear hsv hrv hm5 hkp hc5 hp
                  go_wp2_with fail
                  go_quiet (fail)
                  go_wp2_with fail
                  go_roundw
                  case rel => exact ⟨i + 1, by omega, by go_num, HR.out.trans (Sc.below (HUU.out wd HR.out).2.2.1.size (below_dn _ _))⟩
                  case measure => simp [intOf]; omega
                · have hie : pl = i := by omega
                  have HSC4 : Hid (Sc W8.heap.size w9.heap.size W12 wd) := HR.out
                  clear hsv hrv hm5 hkp
                  go_wp2_with fail
                  clear a0 a1 a2 a3 a4 a5 b0 b1 b2 b3 b4 b5
                  go_loopw [21] (fun s21 wr => ∃ (i : Nat), i ≤ n11 ∧ s21 = .int .i64 i ∧ Hid (Sc W8.heap.size w9.heap.size W12 wr)) (fun k _ => n11 - (intOf k).toNat)
                  case atStart => exact ⟨0, Nat.zero_le _, rfl, HSC4.out⟩
                  case round =>
                    obtain ⟨i, hi, rfl, HR⟩ := hrel
                    obtain ⟨we, hwe⟩ : ∃ x, x = wr := ⟨_, rfl⟩
                    subst hwe
                    obtain ⟨-, hbu, h8, hrow⟩ := HUU.out we HR.out
                    obtain ⟨⟨a0, a1, a2, a3, a4, a5⟩, -⟩ := box6 hbu
                    by_cases hlt : i < n11
                    · have hlti : (i : Int) < (n11 : Int) := by omega
                      obtain ⟨e, he⟩ : ∃ e, es11[i]? = some e := ⟨es11[i]'(by rw [← HL11.out]; exact hlt), List.getElem?_eq_getElem _⟩
                      obtain ⟨gu, capu, hvu, -, -, hcu, -, -⟩ := own_at Fe.len hrow he
                      simp only [Value.slice.injEq] at hvu
                      obtain ⟨hvu, -, -⟩ := hvu
                      have r0 := hcu 0 _ rfl
                      simp only [Nat.add_zero] at r0
                      have hid := HID.out e (List.mem_of_getElem? he)
                      rw [hvu] at a0
                      obtain ⟨⟨id, mk, pn, ph, df⟩, L⟩ := e
                      simp only at hid r0
                      have hn1 : (id == -99) = false := by simp; omega
                      have hn2 : decide (id = -99) = false := by simp; omega
                      clear hbu h8 hrow he hcu
                      go_wp2_with fail
                      go_roundw
                      case rel => exact ⟨i + 1, by omega, by go_num, HR.out⟩
                      case measure => simp [intOf]; omega
                    · have hie : n11 = i := by omega
                      have HEND : Hid (Below w.heap.size w we) := (HW8.out we h8).2.2.2.2.2
                      clear hbu h8 hrow
                      go_wp2_with fail
                      go_ret
                      exact ⟨rfl, HEND.out⟩

theorem contract (H : Type) (enc : TypeId × Value → H) (W : World) (base : Nat) (args : Array Value) (ds gs : List (DataW H)) (before : List MemPlace)
    (hval : ∀ (j : Nat) t v, Try.f6.params[j]? = some t → args[j]? = some v → Value.okWide Try.prog W .any base t v)
    (hW : DataW.Whole enc Try.prog Try.f6.params.toList Rows.panicsMemorySpec.vars false W args.toList ds gs before)
    (hsz : (DataW.weightsEach Try.prog (Try.f6.params.toList ++ Rows.panicsMemorySpec.plain.varTypes Try.prog) (ds ++ gs)).all (· ≤ reachBytes) = true) :
    Calls Try.prog 6 args W fun e W' => ∃ v, e = .returned v ∧ Rows.panicsMemorySpec.post enc Try.prog Try.f6 false true false false W args v W' := by
  have hW' := hW
  obtain ⟨p, q, hA0, hV, rfl, hfz, hnd⟩ := hW
  have hA : DataW.TrodAll enc Try.prog W 0 (fun _ => true) true Try.f6.params.toList args.toList ds p := hA0
  rw [Try.params6] at hA hval hsz
  obtain ⟨v0, vs0, d0, ds0, p0, q0, hargs, rfl, rfl, h0, r0⟩ := trodAll_cons hA
  obtain ⟨v1, vs1, d1, ds1, p1, q1, rfl, rfl, rfl, h1, r1⟩ := trodAll_cons r0
  obtain ⟨rfl, rfl, rfl⟩ := trodAll_nil r1
  obtain rfl : args = #[v0, v1] := by cases args; simp_all
  obtain ⟨rfl, rfl⟩ := trodVars_none hV
  obtain ⟨ao0, len0, cap0, rfl⟩ := okWide_slice Try.underlying29 (hval 0 29 v0 rfl rfl)
  obtain ⟨es0, hC0, hN0⟩ := evs_came (j := 0) h0 hsz rfl rfl
  obtain ⟨x1, rfl, hE1⟩ := ev_came (j := 1) (hval 1 34 v1 rfl rfl) h1 hsz rfl rfl
  clear hA0
  simp only [List.append_nil] at hW'
  have hlt0 : ∀ x ∈ p0, x.block < W.heap.size := fun x hx => hW'.lt x (by simp [hx])
  have hlt1 : ∀ x ∈ p1, x.block < W.heap.size := fun x hx => hW'.lt x (by simp [hx])
  refine (walk _ es0 x1 W hC0 hN0 hE1).mono fun e W' ⟨he, bel⟩ => ?_
  subst he
  exact ⟨_, rfl, _, _, _, [], p0 ++ (p1 ++ []), [], hW', trodAll_mk1 (shut_bool Try.underlying4 _), (trodAll_cons_mk (Below.trod (by kernel_rfl) (by kernel_rfl) (of_decide_eq_true (by kernel_rfl)) h0 bel hlt0) (trodAll_cons_mk (Below.trod (by kernel_rfl) (by kernel_rfl) (of_decide_eq_true (by kernel_rfl)) h1 bel hlt1) trodAll_mk0)), rfl, bel.frame _, fun h => by cases h⟩

set_option maxRecDepth 100000 in
theorem lifted (os : Os) (started : os.Started) (H : Type) (enc : TypeId × Value → H) :
    ReturnsInHanded {} Try.checked os 6 .any (Rows.panicsMemorySpec.pre6 enc Try.prog Try.f6 Rows.panicsMemoryRow.domain false) (Rows.panicsMemorySpec.post enc Try.prog Try.f6 false true false false) := by
  refine returnsInHanded_of_change_sized (C := Try.checked) own started (by kernel_rfl) Try.func6
    (ChangeSpec.witness6 (enc := enc) (C := Try.checked) false ⟨#[], #[.slice none 0 0, .agg #[.int .i64 0, .int .i64 0, .int .i64 0, .int .i64 0, .string ByteArray.empty, .slice none 0 0]], []⟩ 8 (by kernel_rfl) (by kernel_rfl) (by kernel_rfl) (by kernel_rfl)) ?_
  intro W base args ds gs before hval0 hW hcnd hsz _
  exact contract H enc W base args ds gs before hval0 hW hsz

theorem proved : Rows.PanicsMemorySaid :=
  OpenClaim.holds_of_wide 6 Try.f6 rfl rfl rfl rfl rfl rfl rfl ⟨rfl, rfl, rfl, rfl, rfl⟩ rfl rfl rfl rfl rfl (by kernel_rfl) Try.func6 (by kernel_rfl)
    (of_decide_eq_true (by kernel_rfl)) (by unfold Func.isWrapper; first | (rw [if_pos (by decide +kernel)]; kernel_rfl) | (rw [if_neg (by decide +kernel)]; exact ⟨rfl, rfl⟩))
    (fun os started H enc _ => lifted os started H enc)
#print axioms proved
end Go.Proofs.Ytcnpoldcebdhjaa.panicsMemory
