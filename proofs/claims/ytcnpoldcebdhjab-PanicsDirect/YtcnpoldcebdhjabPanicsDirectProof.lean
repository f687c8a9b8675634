/-
  For every list of events (made such as may happen): recover gives the value of a panic just in an activation that this panic began as a deferred call, while it is the last one and not recovered.
-/
import Derived.Test.YtcnpoldcebdhjabQs2
import Derived.Test.YtcnpoldcebdhjabEcame
import Derived.BigQuiet
import Derived.SizedLaws
import Derived.JoinedCond
namespace Go.Proofs.Ytcnpoldcebdhjab.panicsDirect
open Go.ChangeShapes Go.WideShapes Go.ChangeAt Go.RowKit
open Go.WideMaps Go.WideElems
open Go.ChangeMaps (open_string shut_string)
set_option linter.unusedVariables false
set_option linter.unusedSimpArgs false
set_option maxRecDepth 100000

theorem own : ownKnob Try.prog.godebug = none := by kernel_rfl

set_option maxHeartbeats 2000000 in
theorem walk (v0 : Value) (es0 : List Eo) (w : World) (hv0 : EvSrc w v0 es0) (hz0 : es0.length ≤ 140737488351232) :
    Calls Try.prog 4 #[v0] w fun e w' => e = .returned (.bool true) ∧ Below w.heap.size w w' := by
  have HEV : Hid (EvSrc w v0 es0 ∧ es0.length ≤ 140737488351232) := ⟨hv0, hz0⟩
  obtain ⟨vo, vc, hsh⟩ := hv0.row.shape
  subst hsh
  clear hv0 hz0
  go_enter Try.func4, Try.ntmps4
  go_wp2_with fail
  refine (own_events _ es0 w HEV.out.1 HEV.out.2).mono ?_
  rintro e w1 ⟨v1, es1, rfl, hrow, hmap, hb1⟩
  have HROW := Hid.mk' hrow
  have HOK1 := Hid.mk' (evs_ok hmap)
  have HB1 := Hid.mk' hb1
  obtain ⟨vo1, vc1, hsh1⟩ := row_slice hrow
  subst hsh1
  clear hrow hmap hb1
  go_wp2_with fail
  refine (own_playedE _ es1 w1 w.heap.size HROW.out HOK1.out.1 HOK1.out.2).mono ?_
  rintro e w2 ⟨so, sc, ao, ac, ss, ts, rfl, hp, hb2⟩
  have HP := Hid.mk' hp
  have HB2 : Hid (Below w.heap.size w w2) := HB1.out.trans (hb2.mono HB1.out.size)
  have HLEN : Hid (ss.length = ts.length + 1) := hp.len
  have HROW2 : Hid (∀ u, Below w2.heap.size w2 u → ∀ (k : Nat) (e : Eo), es1[k]? = some e → ∃ ge, vo1 = some ⟨ge, 0, none⟩ ∧ (k : Int) < (es1.length : Int) ∧ u.cell? ⟨ge, k * 6, none⟩ = some (.int .i64 e.x.k)) := fun u hu k e hk => by
    obtain ⟨ge, cap, hv, -, hgl, hcc, -, -⟩ := own_at Eo.len (row_below (row_below HROW.out hb2) hu) hk
    simp only [Value.slice.injEq] at hv
    exact ⟨ge, hv.1, by have := (List.getElem?_eq_some_iff.1 hk).1; omega, by have := hcc 0 _ rfl; simpa using this⟩
  have HCAME : Hid (∀ (k : Nat) (s : So) (t : To), ss[k]? = some s → ts[k]? = some t → ∃ (e : Eo) (f : Fr) (r : List Fr), es1[k]? = some e ∧ t.td = (s.st.step [] e.x).2 ∧ s.st.fr = f :: r) := fun k s t h1 h2 => by
    obtain ⟨e, f, r, g1, g2, g3, g4⟩ := hp.came h1 h2
    simp only [List.getElem?_map, Option.map_eq_some_iff] at g1
    obtain ⟨eo, g5, rfl⟩ := g1
    exact ⟨eo, f, r, g5, g3, g4⟩
  have HTD : Hid (∀ u, Below w2.heap.size w2 u → ∀ k (t : To), ts[k]? = some t → ∃ ga, ao = some ⟨ga, 0, none⟩ ∧ u.cell? ⟨ga, k, none⟩ = some (.slice t.to t.td.length t.tc) ∧ ∀ i (x : Tl), t.td[i]? = some x → ∃ gt, t.to = some ⟨gt, 0, none⟩ ∧ u.cell? ⟨gt, i * 7, none⟩ = some (.int .i64 x.k) ∧ u.cell? ⟨gt, i * 7 + 1, none⟩ = some (.int .i64 x.n) ∧ u.cell? ⟨gt, i * 7 + 2, none⟩ = some (.int .i64 x.to) ∧ u.cell? ⟨gt, i * 7 + 3, none⟩ = some (.int .i64 x.v.k) ∧ u.cell? ⟨gt, i * 7 + 4, none⟩ = some (.int .i64 x.v.n) ∧ u.cell? ⟨gt, i * 7 + 5, none⟩ = some (.string x.v.s) ∧ u.cell? ⟨gt, i * 7 + 6, none⟩ = some (.slice none 0 0)) := fun u hu k t hk => by
    obtain ⟨ga, cap, hv, -, hga, hcc, -, -⟩ := own_at To.len (HP.out.below hu).trow hk
    simp only [Value.slice.injEq] at hv
    refine ⟨ga, hv.1, by have := hcc 0 _ rfl; simpa using this, fun i x hx => ?_⟩
    obtain ⟨gt, cap2, hv2, -, hgt, hc2, -, -⟩ := own_at Tl.len ((HP.out.below hu).told t (List.mem_of_getElem? hk)) hx
    simp only [Value.slice.injEq] at hv2
    exact ⟨gt, hv2.1, by have := hc2 0 _ rfl; simpa using this, hc2 1 _ rfl, hc2 2 _ rfl, hc2 3 _ rfl, hc2 4 _ rfl, hc2 5 _ rfl, hc2 6 _ rfl⟩
  have htl := hp.short
  have hel : es1.length ≤ 400 := HOK1.out.1
  obtain ⟨m, hm⟩ : ∃ m, m = ts.length := ⟨_, rfl⟩
  have HM : Hid (m = ts.length) := hm
  rw [← hm] at htl ⊢
  clear hp hb2 hm
  go_wp2_with fail
  go_loopw [6] (fun s6 wr => ∃ (k : Nat), k ≤ m ∧ s6 = .int .i64 k ∧ Hid (Below w2.heap.size w2 wr)) (fun i _ => m - (intOf i).toNat)
  case atStart => exact ⟨0, Nat.zero_le _, rfl, Below.refl _ _⟩
  case round =>
    obtain ⟨k, hk, rfl, HB⟩ := hrel
    obtain ⟨wq, hwq⟩ : ∃ x, x = wr := ⟨_, rfl⟩
    subst hwq
    by_cases hlt : k < m
    · have hlti : (k : Int) < (m : Int) := by omega
      obtain ⟨s, hs⟩ : ∃ s, ss[k]? = some s := ⟨ss[k]'(by rw [HLEN.out, ← HM.out]; omega), List.getElem?_eq_getElem _⟩
      obtain ⟨t, ht⟩ : ∃ t, ts[k]? = some t := ⟨ts[k]'(by rw [← HM.out]; exact hlt), List.getElem?_eq_getElem _⟩
      obtain ⟨e, f, r, hes, htd, hfr⟩ := HCAME.out k s t hs ht
      obtain ⟨ge, hge, hel2, e0⟩ := HROW2.out wq HB.out k e hes
      subst hge
      generalize hek : e.x.k = ek at *
      by_cases h5 : ek = 5
      · have h5b : (ek != 5) = false := by simp [h5]
        have HTDR : Hid (t.td = (s.st.recS f).2) := by show _ = _; rw [htd]; exact step_rec hfr (hek.trans h5)
        obtain ⟨g, hso, hg, hc⟩ := HP.out.at hs
        subst hso
        obtain ⟨c0, c1, c2, c3, c4, c5⟩ := hc wq HB.out
        have HSO : Hid (SOwn wq s) := (HP.out.own s (List.mem_of_getElem? hs)).keeps (Keeps.below (t0 := 39) HB.out) (by decide) (by decide) (by decide)
        obtain ⟨L, hft, hesl⟩ := (by have := HSO.out.fr; rw [hfr] at this; exact this.top : ∃ L, s.es[r.length]? = some ⟨f, L⟩ ∧ s.es.length = r.length + 1)
        obtain ⟨gf, capf, hfv, -, hgf, hfc, -, -⟩ := own_at Fe.len HSO.out.fr.row hft
        simp only [Value.slice.injEq] at hfv
        have HLI : Hid (∃ lo ln lc, L = .slice lo ln lc) := by obtain ⟨lo, lc, h⟩ := row_slice (HSO.out.fr.own _ (List.mem_of_getElem? hft)); exact ⟨lo, _, lc, h⟩
        obtain ⟨lo, ln, lc, hL⟩ := HLI.out
        subst hL
        obtain ⟨j0, hj0, hfit⟩ := HP.out.fit s (List.mem_of_getElem? hs)
        have hpl : s.st.ps.length ≤ 1000000 := by have := hfit.ok.bd.ps; omega
        have hrl : r.length ≤ 1000000 := by have := hfit.ok.bd.fr; rw [hfr] at this; simp at this; omega
        have HPC : Hid (∀ u, Below wq.heap.size wq u → ∀ i (q : Pn), s.st.ps.reverse[i]? = some q → ∃ gp, s.po = some ⟨gp, 0, none⟩ ∧ u.cell? ⟨gp, i * 7, none⟩ = some (.int .i64 q.ser) ∧ u.cell? ⟨gp, i * 7 + 1, none⟩ = some (.int .i64 q.v.k) ∧ u.cell? ⟨gp, i * 7 + 2, none⟩ = some (.int .i64 q.v.n) ∧ u.cell? ⟨gp, i * 7 + 3, none⟩ = some (.string q.v.s) ∧ u.cell? ⟨gp, i * 7 + 4, none⟩ = some (.slice none 0 0) ∧ u.cell? ⟨gp, i * 7 + 5, none⟩ = some (.bool q.rc)) := fun u hu i q hq => by
          obtain ⟨gp, cap, hv, -, hgl, hcc, -, -⟩ := own_at Pn.len HSO.out.ps hq
          simp only [Value.slice.injEq] at hv
          refine ⟨gp, hv.1, ?_, ?_, ?_, ?_, ?_, ?_⟩
          · rw [hu.cell hgl]; have := hcc 0 _ rfl; simpa using this
          · rw [hu.cell hgl]; exact hcc 1 _ rfl
          · rw [hu.cell hgl]; exact hcc 2 _ rfl
          · rw [hu.cell hgl]; exact hcc 3 _ rfl
          · rw [hu.cell hgl]; exact hcc 4 _ rfl
          · rw [hu.cell hgl]; exact hcc 5 _ rfl
        have HK : Hid (∀ o, (wq.alloc o).cell? ⟨gf, r.length * 5, none⟩ = some (.int .i64 f.id) ∧ (wq.alloc o).cell? ⟨gf, r.length * 5 + 1, none⟩ = some (.int .i64 f.mark) ∧ (wq.alloc o).cell? ⟨gf, r.length * 5 + 2, none⟩ = some (.int .i64 f.pan) ∧ (wq.alloc o).cell? ⟨gf, r.length * 5 + 3, none⟩ = some (.int .i64 f.ph) ∧ (wq.alloc o).cell? ⟨gf, r.length * 5 + 4, none⟩ = some (.slice lo ln lc)) := fun o => by
          have hbo : Below wq.heap.size wq (wq.alloc o) := (Below.refl _ _).alloc (Nat.le_refl _) o
          refine ⟨?_, ?_, ?_, ?_, ?_⟩
          · rw [hbo.cell hgf]; have := hfc 0 _ rfl; simpa using this
          · rw [hbo.cell hgf]; exact hfc 1 _ rfl
          · rw [hbo.cell hgf]; exact hfc 2 _ rfl
          · rw [hbo.cell hgf]; exact hfc 3 _ rfl
          · rw [hbo.cell hgf]; exact hfc 4 _ rfl
        rw [hfv.1, hesl] at c0
        obtain ⟨pl, hple⟩ : ∃ pl, pl = s.st.ps.length := ⟨_, rfl⟩
        have HPLE : Hid (pl = s.st.ps.length) := hple
        rw [← hple] at c1 hpl
        generalize hrle : r.length = rl at *
        obtain ⟨ga, hao, t0, -⟩ := HTD.out wq HB.out k t ht
        subst hao
        have HT := Hid.mk' ht
        have hri : (rl : Int) < (rl : Int) + 1 := by omega
        have hr0 : (0 : Int) ≤ (rl : Int) := by omega
        clear hc hs hfit hple htd hes hek hfr hft hesl hfv hgf hfc ht h5 hg
        obtain ⟨k0, k1, k2, k3, k4⟩ := HK.out (.cells #[.slice (some ⟨gf, 0, none⟩) (rl + 1) s.fc, .slice s.po pl s.pc, .int .i64 s.st.next, .int .i64 s.st.ser, .int .i64 s.st.fin, .int .i64 s.st.stat] 39)
        go_wp2_with fail
        have HBX : Hid (∀ u, Below ((wq.alloc (.cells #[.slice (some ⟨gf, 0, none⟩) (rl + 1) s.fc, .slice s.po pl s.pc, .int .i64 s.st.next, .int .i64 s.st.ser, .int .i64 s.st.fin, .int .i64 s.st.stat] 39)).alloc (.cells #[.int .i64 f.id, .int .i64 f.mark, .int .i64 f.pan, .int .i64 f.ph, .slice lo ln lc] 42)).heap.size ((wq.alloc (.cells #[.slice (some ⟨gf, 0, none⟩) (rl + 1) s.fc, .slice s.po pl s.pc, .int .i64 s.st.next, .int .i64 s.st.ser, .int .i64 s.st.fin, .int .i64 s.st.stat] 39)).alloc (.cells #[.int .i64 f.id, .int .i64 f.mark, .int .i64 f.pan, .int .i64 f.ph, .slice lo ln lc] 42)) u → u.heap[wq.heap.size]? = some (.cells #[.slice (some ⟨gf, 0, none⟩) (rl + 1) s.fc, .slice s.po pl s.pc, .int .i64 s.st.next, .int .i64 s.st.ser, .int .i64 s.st.fin, .int .i64 s.st.stat] 39 (0, 0)) ∧ u.heap[wq.heap.size + 1]? = some (.cells #[.int .i64 f.id, .int .i64 f.mark, .int .i64 f.pan, .int .i64 f.ph, .slice lo ln lc] 42 (0, 0)) ∧ Below wq.heap.size wq u) := fun u hu => ⟨(two_boxes hu).1, (two_boxes hu).2.1, (two_boxes hu).2.2.2⟩
        clear k0 k1 k2 k3 k4 HK c0 c1 c2 c3 c4 c5
        generalize ((wq.alloc (.cells #[.slice (some ⟨gf, 0, none⟩) (rl + 1) s.fc, .slice s.po pl s.pc, .int .i64 s.st.next, .int .i64 s.st.ser, .int .i64 s.st.fin, .int .i64 s.st.stat] 39)).alloc (.cells #[.int .i64 f.id, .int .i64 f.mark, .int .i64 f.pan, .int .i64 f.ph, .slice lo ln lc] 42)) = W2 at *
        obtain ⟨b1, b2, hup⟩ := HBX.out W2 (Below.refl _ _)
        obtain ⟨⟨c0, c1, c2, c3, c4, c5⟩, -⟩ := box6 b1
        obtain ⟨⟨d0, d1, d2, d3, d4⟩, -⟩ := box5 b2
        have HBN : Hid (Below w2.heap.size w2 W2) := HB.out.trans (hup.mono HB.out.size)
        have HBN2 : Hid (∀ n, Below w2.heap.size w2 (W2.drewN n)) := fun n => HBN.out.trans ((below_dn _ _).mono HBN.out.size)
        have HUP : Hid (∀ n, Below wq.heap.size wq (W2.drewN n)) := fun n => hup.trans ((below_dn _ _).mono hup.size)
        have t0 : W2.cell? ⟨ga, k, none⟩ = some (.slice t.to t.td.length t.tc) := (HTD.out W2 HBN.out k t HT.out).elim fun ga' h => by have h1 := h.1; simp only [Option.some.injEq, Addr.mk.injEq, and_true] at h1; rw [h1]; exact h.2.1
        have HTX : Hid (∀ n (x : Tl), t.td = [x] → ∃ gt, t.to = some ⟨gt, 0, none⟩ ∧ t.td.length = 1 ∧ (W2.drewN n).cell? ⟨gt, 0, none⟩ = some (.int .i64 x.k) ∧ (W2.drewN n).cell? ⟨gt, 3, none⟩ = some (.int .i64 x.v.k) ∧ (W2.drewN n).cell? ⟨gt, 4, none⟩ = some (.int .i64 x.v.n) ∧ (W2.drewN n).cell? ⟨gt, 5, none⟩ = some (.string x.v.s) ∧ (W2.drewN n).cell? ⟨gt, 6, none⟩ = some (.slice none 0 0)) := fun n x hx => by
          obtain ⟨-, -, -, h⟩ := HTD.out _ (HBN2.out n) k t HT.out
          obtain ⟨gt, g0, g1, g2, g3, g4, g5, g6, g7⟩ := h 0 x (by rw [hx]; rfl)
          exact ⟨gt, g0, by rw [hx]; rfl, by simpa using g1, by simpa using g4, by simpa using g5, by simpa using g6, by simpa using g7⟩
        clear b1 b2 hup
        have hrec := HTDR.out
        unfold St.recS at hrec
        by_cases hm : f.mark = 2
        · have hmb : (f.mark == 2) = true := by simpa using hm
          cases hps : s.st.ps with
          | nil =>
            have hpl0 : pl = 0 := by rw [HPLE.out, hps]; rfl
            subst hpl0
            have htd : t.td = [tNo] := by rw [hrec, hps]
            obtain ⟨gt, gto, gl, x0, -⟩ := HTX.out 0 _ htd
            rw [gto, gl] at t0
            rw [World.drewN_zero] at x0
            simp only [tNo] at x0
            have hng : ¬ (0 : Int) ≤ ((0 : Nat) : Int) - 1 := by decide
            have hng2 : decide ((0 : Int) ≤ ((0 : Nat) : Int) - 1) = false := by decide
            clear hm hrec htd gto gl
            go_quiet (fail)
            go_wp2_with fail
            go_quiet (fail)
            go_wp2_with fail
            go_roundw
            case rel => exact ⟨k + 1, by omega, by go_num, by first | exact HBN2.out _ | exact HBN.out⟩
            case measure => simp [intOf]; omega
          | cons q rp =>
            have hplj : pl = rp.length + 1 := by rw [HPLE.out, hps]; rfl
            have hq : s.st.ps.reverse[rp.length]? = some q := by rw [hps, List.reverse_cons, List.getElem?_append_right (by simp)]; simp
            obtain ⟨gp, hpo, -⟩ := HPC.out _ (HUP.out 0) _ _ hq
            have HQ : Hid (∀ n, (W2.drewN n).cell? ⟨gp, rp.length * 7, none⟩ = some (.int .i64 q.ser) ∧ (W2.drewN n).cell? ⟨gp, rp.length * 7 + 1, none⟩ = some (.int .i64 q.v.k) ∧ (W2.drewN n).cell? ⟨gp, rp.length * 7 + 2, none⟩ = some (.int .i64 q.v.n) ∧ (W2.drewN n).cell? ⟨gp, rp.length * 7 + 3, none⟩ = some (.string q.v.s) ∧ (W2.drewN n).cell? ⟨gp, rp.length * 7 + 4, none⟩ = some (.slice none 0 0) ∧ (W2.drewN n).cell? ⟨gp, rp.length * 7 + 5, none⟩ = some (.bool q.rc)) := fun n => by
              obtain ⟨gp', hpo', h⟩ := HPC.out _ (HUP.out n) _ _ hq
              rw [hpo] at hpo'
              cases hpo'
              exact h
            have hrpi : ((pl : Nat) : Int) - 1 = (rp.length : Int) := by omega
            have hrp0 : (0 : Int) ≤ (rp.length : Int) := by omega
            have hrpl : (rp.length : Int) < (rp.length : Int) + 1 := by omega
            rw [hpo, hplj] at c1
            rw [hrpi]
            rw [hps] at hrec
            obtain ⟨q0, -, -, -, -, q5⟩ := HQ.out 0
            rw [World.drewN_zero] at q0 q5
            generalize hrj : rp.length = j at *
            have hjb : j ≤ 1000000 := by omega
            clear hps hq hpo hplj hrpi hpl hrj
            by_cases hsr : q.ser = f.pan
            · have hsb : (q.ser == f.pan) = true := by simpa using hsr
              cases hrc : q.rc with
              | true =>
                have htd : t.td = [tNo] := by rw [hrec]; simp [hrc]
                rw [hrc] at q5
                obtain ⟨gt, gto, gl, x0, -⟩ := HTX.out 0 _ htd
                rw [gto, gl] at t0
                rw [World.drewN_zero] at x0
                simp only [tNo] at x0
                clear hrc hsr
                clear hm hrec htd gto gl
                go_quiet (fail)
                go_wp2_with fail
                go_quiet (fail)
                go_wp2_with fail
                go_roundw
                case rel => exact ⟨k + 1, by omega, by go_num, by first | exact HBN2.out _ | exact HBN.out⟩
                case measure => simp [intOf]; omega
              | false =>
                have htd : t.td = [⟨5, 0, 0, q.v⟩] := by rw [hrec]; simp [hrc, hm, hsr]
                rw [hrc] at q5
                obtain ⟨gt, gto, gl, x0, x3, x4, x5, x6⟩ := HTX.out 0 _ htd
                rw [gto, gl] at t0
                rw [World.drewN_zero] at x0 x3 x4 x5 x6
                have HSAME : Hid (∀ u, Calls Try.prog 10 #[.agg #[.int .i64 q.v.k, .int .i64 q.v.n, .string q.v.s, .slice none 0 0], .agg #[.int .i64 q.v.k, .int .i64 q.v.n, .string q.v.s, .slice none 0 0]] u fun e w' => e = .returned (.bool true) ∧ Below u.heap.size u w') := fun u => own_sameP q.v u
                have HC : Hid (∀ n u, Below (W2.drewN n).heap.size (W2.drewN n) u → u.cell? ⟨ga, k, none⟩ = some (.slice (some ⟨gt, 0, none⟩) 1 t.tc) ∧ u.cell? ⟨gt, 0, none⟩ = some (.int .i64 5) ∧ u.cell? ⟨gt, 3, none⟩ = some (.int .i64 q.v.k) ∧ u.cell? ⟨gt, 4, none⟩ = some (.int .i64 q.v.n) ∧ u.cell? ⟨gt, 5, none⟩ = some (.string q.v.s) ∧ u.cell? ⟨gt, 6, none⟩ = some (.slice none 0 0) ∧ u.cell? ⟨wq.heap.size, 1, none⟩ = some (.slice (some ⟨gp, 0, none⟩) (j + 1) s.pc) ∧ u.cell? ⟨gp, j * 7 + 1, none⟩ = some (.int .i64 q.v.k) ∧ u.cell? ⟨gp, j * 7 + 2, none⟩ = some (.int .i64 q.v.n) ∧ u.cell? ⟨gp, j * 7 + 3, none⟩ = some (.string q.v.s) ∧ u.cell? ⟨gp, j * 7 + 4, none⟩ = some (.slice none 0 0) ∧ Below w2.heap.size w2 u) := fun n u hu => by
                  have hb2u : Below w2.heap.size w2 u := (HBN2.out n).trans (hu.mono (HBN2.out n).size)
                  have hw2 : Below W2.heap.size W2 u := (below_dn W2 n).trans hu
                  have st : ∀ (a : Addr) v, W2.cell? a = some v → u.cell? a = some v := fun a v h => by rw [hw2.cell (by exact World.block_lt_of_cell? _ _ h)]; exact h
                  obtain ⟨-, r1, r2, r3, r4, -⟩ := HQ.out 0
                  exact ⟨st _ _ t0, st _ _ x0, st _ _ x3, st _ _ x4, st _ _ x5, st _ _ x6, st _ _ c1, st _ _ r1, st _ _ r2, st _ _ r3, st _ _ r4, hb2u⟩
                clear hm hrec htd gto gl hrc hsr
                go_quiet (fail)
                go_wp2_with fail
                clear c0 c1 c2 c3 c4 c5 d0 d1 d2 d3 d4 x0 x3 x4 x5 x6 t0 q0 q5 e0 HTX HQ HPC HTDR HUP HBN HBN2 HBX HT HSO HTD HCAME HROW2 HP HLI HPLE hmb hsb
                refine wp_grow [isV (.slice (some ⟨ga, 0, none⟩) m ac), isV (.int .i64 (k : Int)), isV (.pointer (some ⟨ga, k, none⟩)), isV (.slice (some ⟨gt, 0, none⟩) 1 t.tc), isV (.int .i64 1), isV (.bool false), isV (.bool false), isV (.slice (some ⟨ga, 0, none⟩) m ac), isV (.int .i64 (k : Int)), isV (.pointer (some ⟨ga, k, none⟩)), isV (.slice (some ⟨gt, 0, none⟩) 1 t.tc), isV (.pointer (some ⟨gt, 0, none⟩)), isV (.pointer (some ⟨gt, 0, none⟩)), isV (.int .i64 5), isV (.bool true), isV (.bool true), isV (.bool false), isV (.bool false), isV (.bool false), isV (.bool true), isV (.bool true), isV (.slice (some ⟨ga, 0, none⟩) m ac), isV (.int .i64 (k : Int)), isV (.pointer (some ⟨ga, k, none⟩)), isV (.slice (some ⟨gt, 0, none⟩) 1 t.tc), isV (.pointer (some ⟨gt, 0, none⟩)), isV (.pointer (some ⟨gt, 3, none⟩)), isV (.agg #[.int .i64 q.v.k, .int .i64 q.v.n, .string q.v.s, .slice none 0 0]), isV (.pointer (some ⟨wq.heap.size, 1, none⟩)), isV (.slice (some ⟨gp, 0, none⟩) (j + 1) s.pc), isV (.int .i64 (j : Int)), isV (.pointer (some ⟨gp, j * 7, none⟩)), isV (.pointer (some ⟨gp, j * 7 + 1, none⟩)), isV (.agg #[.int .i64 q.v.k, .int .i64 q.v.n, .string q.v.s, .slice none 0 0]), isV (.bool true), isV (.bool false), isV (.bool false), isV (.bool false)]
                  ⟨stab_is _, stab_is _, stab_is _, stab_is _, stab_is _, stab_is _, stab_is _, stab_is _, stab_is _, stab_is _, stab_is _, stab_is _, stab_is _, stab_is _, stab_is _, stab_is _, stab_is _, stab_is _, stab_is _, stab_is _, stab_is _, stab_is _, stab_is _, stab_is _, stab_is _, stab_is _, stab_is _, stab_is _, stab_is _, stab_is _, stab_is _, stab_is _, stab_is _, stab_is _, stab_is _, stab_is _, stab_is _, stab_is _, trivial⟩ (by kernel_rfl) (by kernel_rfl) (by kernel_rfl) ?_ ?_
                · refine stepsOK_cons (fun f u hG hd K hK => ?_) (stepsOK_cons (fun f u hG hd K hK => ?_) (stepsOK_cons (fun f u hG hd K hK => ?_) (stepsOK_cons (fun f u hG hd K hK => ?_) (stepsOK_cons (fun f u hG hd K hK => ?_) (stepsOK_cons (fun f u hG hd K hK => ?_) (stepsOK_cons (fun f u hG hd K hK => ?_) (stepsOK_cons (fun f u hG hd K hK => ?_) (stepsOK_cons (fun f u hG hd K hK => ?_) (stepsOK_cons (fun f u hG hd K hK => ?_) (stepsOK_cons (fun f u hG hd K hK => ?_) (stepsOK_cons (fun f u hG hd K hK => ?_) (stepsOK_cons (fun f u hG hd K hK => ?_) (stepsOK_cons (fun f u hG hd K hK => ?_) (stepsOK_cons (fun f u hG hd K hK => ?_) (stepsOK_cons (fun f u hG hd K hK => ?_) (stepsOK_cons (fun f u hG hd K hK => ?_) (stepsOK_cons (fun f u hG hd K hK => ?_) (stepsOK_cons (fun f u hG hd K hK => ?_) (stepsOK_cons (fun f u hG hd K hK => ?_) (stepsOK_cons (fun f u hG hd K hK => ?_) (stepsOK_cons (fun f u hG hd K hK => ?_) (stepsOK_cons (fun f u hG hd K hK => ?_) (stepsOK_cons (fun f u hG hd K hK => ?_) (stepsOK_cons (fun f u hG hd K hK => ?_) (stepsOK_cons (fun f u hG hd K hK => ?_) (stepsOK_cons (fun f u hG hd K hK => ?_) (stepsOK_cons (fun f u hG hd K hK => ?_) (stepsOK_cons (fun f u hG hd K hK => ?_) (stepsOK_cons (fun f u hG hd K hK => ?_) (stepsOK_cons (fun f u hG hd K hK => ?_) (stepsOK_cons (fun f u hG hd K hK => ?_) (stepsOK_cons (fun f u hG hd K hK => ?_) (stepsOK_cons (fun f u hG hd K hK => ?_) (stepsOK_cons (fun f u hG hd K hK => ?_) (stepsOK_cons (fun f u hG hd K hK => ?_) (stepsOK_cons (fun f u hG hd K hK => ?_) (stepsOK_cons (fun f u hG hd K hK => ?_) stepsOK_nil)))))))))))))))))))))))))))))))))))))
                  · refine wanted_on rfl ?_
                    simp only [putAll, Act.put, List.setIfInBounds_toArray, List.set_cons_zero, List.set_cons_succ] at hK ⊢
                    go_simp
                    exact hK _ _ _ rfl hG (Below.refl _ _) rfl
                  · refine wanted_on rfl ?_
                    simp only [putAll, Act.put, List.setIfInBounds_toArray, List.set_cons_zero, List.set_cons_succ] at hK ⊢
                    go_simp
                    exact hK _ _ _ rfl hG (Below.refl _ _) rfl
                  · have e0 : f 0 = (.slice (some ⟨ga, 0, none⟩) m ac) := hd 0 (by kernel_rfl)
                    have e1 : f 1 = (.int .i64 (k : Int)) := hd 1 (by kernel_rfl)
                    refine wanted_on rfl ?_
                    simp only [putAll, Act.put, List.setIfInBounds_toArray, List.set_cons_zero, List.set_cons_succ, e0, e1] at hK ⊢
                    go_simp
                    exact hK _ _ _ rfl hG (Below.refl _ _) rfl
                  · have e2 : f 2 = (.pointer (some ⟨ga, k, none⟩)) := hd 2 (by kernel_rfl)
                    obtain ⟨m0, m1, m2, m3, m4, m5, m6, m7, m8, m9, m10, -⟩ := HC.out _ u hG
                    refine wanted_on rfl ?_
                    simp only [putAll, Act.put, List.setIfInBounds_toArray, List.set_cons_zero, List.set_cons_succ, e2] at hK ⊢
                    go_simp
                    exact hK _ _ _ rfl hG (Below.refl _ _) rfl
                  · have e3 : f 3 = (.slice (some ⟨gt, 0, none⟩) 1 t.tc) := hd 3 (by kernel_rfl)
                    refine wanted_on rfl ?_
                    simp only [putAll, Act.put, List.setIfInBounds_toArray, List.set_cons_zero, List.set_cons_succ, e3] at hK ⊢
                    go_simp
                    exact hK _ _ _ rfl hG (Below.refl _ _) rfl
                  · have e4 : f 4 = (.int .i64 1) := hd 4 (by kernel_rfl)
                    refine wanted_on rfl ?_
                    simp only [putAll, Act.put, List.setIfInBounds_toArray, List.set_cons_zero, List.set_cons_succ, e4] at hK ⊢
                    go_simp
                    exact hK _ _ _ rfl hG (Below.refl _ _) rfl
                  · have e5 : f 5 = (.bool false) := hd 5 (by kernel_rfl)
                    refine wanted_on rfl ?_
                    simp only [putAll, Act.put, List.setIfInBounds_toArray, List.set_cons_zero, List.set_cons_succ, e5] at hK ⊢
                    go_simp
                    exact hK _ _ _ rfl hG (Below.refl _ _) rfl
                  · have e6 : f 6 = (.bool false) := hd 6 (by kernel_rfl)
                    refine wanted_on (by simp [Region.wanted, yielded, putAll, Act.put, List.setIfInBounds_toArray, List.set_cons_zero, List.set_cons_succ, e6]) ?_
                    simp only [putAll, Act.put, List.setIfInBounds_toArray, List.set_cons_zero, List.set_cons_succ, e6] at hK ⊢
                    go_simp
                    exact hK _ _ _ rfl hG (Below.refl _ _) rfl
                  · have e6 : f 6 = (.bool false) := hd 6 (by kernel_rfl)
                    refine wanted_on (by simp [Region.wanted, yielded, putAll, Act.put, List.setIfInBounds_toArray, List.set_cons_zero, List.set_cons_succ, e6]) ?_
                    simp only [putAll, Act.put, List.setIfInBounds_toArray, List.set_cons_zero, List.set_cons_succ, e6] at hK ⊢
                    go_simp
                    exact hK _ _ _ rfl hG (Below.refl _ _) rfl
                  · have e6 : f 6 = (.bool false) := hd 6 (by kernel_rfl)
                    have e7 : f 7 = (.slice (some ⟨ga, 0, none⟩) m ac) := hd 7 (by kernel_rfl)
                    have e8 : f 8 = (.int .i64 (k : Int)) := hd 8 (by kernel_rfl)
                    refine wanted_on (by simp [Region.wanted, yielded, putAll, Act.put, List.setIfInBounds_toArray, List.set_cons_zero, List.set_cons_succ, e6, e7, e8]) ?_
                    simp only [putAll, Act.put, List.setIfInBounds_toArray, List.set_cons_zero, List.set_cons_succ, e6, e7, e8] at hK ⊢
                    go_simp
                    exact hK _ _ _ rfl hG (Below.refl _ _) rfl
                  · have e6 : f 6 = (.bool false) := hd 6 (by kernel_rfl)
                    have e9 : f 9 = (.pointer (some ⟨ga, k, none⟩)) := hd 9 (by kernel_rfl)
                    obtain ⟨m0, m1, m2, m3, m4, m5, m6, m7, m8, m9, m10, -⟩ := HC.out _ u hG
                    refine wanted_on (by simp [Region.wanted, yielded, putAll, Act.put, List.setIfInBounds_toArray, List.set_cons_zero, List.set_cons_succ, e6, e9]) ?_
                    simp only [putAll, Act.put, List.setIfInBounds_toArray, List.set_cons_zero, List.set_cons_succ, e6, e9] at hK ⊢
                    go_simp
                    exact hK _ _ _ rfl hG (Below.refl _ _) rfl
                  · have e6 : f 6 = (.bool false) := hd 6 (by kernel_rfl)
                    have e10 : f 10 = (.slice (some ⟨gt, 0, none⟩) 1 t.tc) := hd 10 (by kernel_rfl)
                    refine wanted_on (by simp [Region.wanted, yielded, putAll, Act.put, List.setIfInBounds_toArray, List.set_cons_zero, List.set_cons_succ, e6, e10]) ?_
                    simp only [putAll, Act.put, List.setIfInBounds_toArray, List.set_cons_zero, List.set_cons_succ, e6, e10] at hK ⊢
                    go_simp
                    exact hK _ _ _ rfl hG (Below.refl _ _) rfl
                  · have e6 : f 6 = (.bool false) := hd 6 (by kernel_rfl)
                    have e11 : f 11 = (.pointer (some ⟨gt, 0, none⟩)) := hd 11 (by kernel_rfl)
                    refine wanted_on (by simp [Region.wanted, yielded, putAll, Act.put, List.setIfInBounds_toArray, List.set_cons_zero, List.set_cons_succ, e6, e11]) ?_
                    simp only [putAll, Act.put, List.setIfInBounds_toArray, List.set_cons_zero, List.set_cons_succ, e6, e11] at hK ⊢
                    go_simp
                    exact hK _ _ _ rfl hG (Below.refl _ _) rfl
                  · have e6 : f 6 = (.bool false) := hd 6 (by kernel_rfl)
                    have e12 : f 12 = (.pointer (some ⟨gt, 0, none⟩)) := hd 12 (by kernel_rfl)
                    obtain ⟨m0, m1, m2, m3, m4, m5, m6, m7, m8, m9, m10, -⟩ := HC.out _ u hG
                    refine wanted_on (by simp [Region.wanted, yielded, putAll, Act.put, List.setIfInBounds_toArray, List.set_cons_zero, List.set_cons_succ, e6, e12]) ?_
                    simp only [putAll, Act.put, List.setIfInBounds_toArray, List.set_cons_zero, List.set_cons_succ, e6, e12] at hK ⊢
                    go_simp
                    exact hK _ _ _ rfl hG (Below.refl _ _) rfl
                  · have e6 : f 6 = (.bool false) := hd 6 (by kernel_rfl)
                    have e13 : f 13 = (.int .i64 5) := hd 13 (by kernel_rfl)
                    refine wanted_on (by simp [Region.wanted, yielded, putAll, Act.put, List.setIfInBounds_toArray, List.set_cons_zero, List.set_cons_succ, e6, e13]) ?_
                    simp only [putAll, Act.put, List.setIfInBounds_toArray, List.set_cons_zero, List.set_cons_succ, e6, e13] at hK ⊢
                    go_simp
                    exact hK _ _ _ rfl hG (Below.refl _ _) rfl
                  · have e6 : f 6 = (.bool false) := hd 6 (by kernel_rfl)
                    refine wanted_on (by simp [Region.wanted, yielded, putAll, Act.put, List.setIfInBounds_toArray, List.set_cons_zero, List.set_cons_succ, e6]) ?_
                    simp only [putAll, Act.put, List.setIfInBounds_toArray, List.set_cons_zero, List.set_cons_succ, e6] at hK ⊢
                    go_simp
                    exact hK _ _ _ rfl hG (Below.refl _ _) rfl
                  · have e6 : f 6 = (.bool false) := hd 6 (by kernel_rfl)
                    have e14 : f 14 = (.bool true) := hd 14 (by kernel_rfl)
                    have e15 : f 15 = (.bool true) := hd 15 (by kernel_rfl)
                    refine wanted_on (by simp [Region.wanted, yielded, putAll, Act.put, List.setIfInBounds_toArray, List.set_cons_zero, List.set_cons_succ, e6, e14, e15]) ?_
                    simp only [putAll, Act.put, List.setIfInBounds_toArray, List.set_cons_zero, List.set_cons_succ, e6, e14, e15] at hK ⊢
                    go_simp
                    exact hK _ _ _ rfl hG (Below.refl _ _) rfl
                  · have e6 : f 6 = (.bool false) := hd 6 (by kernel_rfl)
                    have e16 : f 16 = (.bool false) := hd 16 (by kernel_rfl)
                    refine wanted_on rfl ?_
                    simp only [putAll, Act.put, List.setIfInBounds_toArray, List.set_cons_zero, List.set_cons_succ, e6, e16] at hK ⊢
                    go_simp
                    exact hK _ _ _ rfl hG (Below.refl _ _) rfl
                  · have e17 : f 17 = (.bool false) := hd 17 (by kernel_rfl)
                    refine wanted_on rfl ?_
                    simp only [putAll, Act.put, List.setIfInBounds_toArray, List.set_cons_zero, List.set_cons_succ, e17] at hK ⊢
                    go_simp
                    exact hK _ _ _ rfl hG (Below.refl _ _) rfl
                  · have e18 : f 18 = (.bool false) := hd 18 (by kernel_rfl)
                    refine wanted_on (by simp [Region.wanted, yielded, putAll, Act.put, List.setIfInBounds_toArray, List.set_cons_zero, List.set_cons_succ, e18]) ?_
                    simp only [putAll, Act.put, List.setIfInBounds_toArray, List.set_cons_zero, List.set_cons_succ, e18] at hK ⊢
                    go_simp
                    exact hK _ _ _ rfl hG (Below.refl _ _) rfl
                  · have e18 : f 18 = (.bool false) := hd 18 (by kernel_rfl)
                    have e19 : f 19 = (.bool true) := hd 19 (by kernel_rfl)
                    refine wanted_on (by simp [Region.wanted, yielded, putAll, Act.put, List.setIfInBounds_toArray, List.set_cons_zero, List.set_cons_succ, e18, e19]) ?_
                    simp only [putAll, Act.put, List.setIfInBounds_toArray, List.set_cons_zero, List.set_cons_succ, e18, e19] at hK ⊢
                    go_simp
                    exact hK _ _ _ rfl hG (Below.refl _ _) rfl
                  · have e20 : f 20 = (.bool true) := hd 20 (by kernel_rfl)
                    refine wanted_on (by simp [Region.wanted, yielded, putAll, Act.put, List.setIfInBounds_toArray, List.set_cons_zero, List.set_cons_succ, e20]) ?_
                    simp only [putAll, Act.put, List.setIfInBounds_toArray, List.set_cons_zero, List.set_cons_succ, e20] at hK ⊢
                    go_simp
                    exact hK _ _ _ rfl hG (Below.refl _ _) rfl
                  · have e20 : f 20 = (.bool true) := hd 20 (by kernel_rfl)
                    refine wanted_on (by simp [Region.wanted, yielded, putAll, Act.put, List.setIfInBounds_toArray, List.set_cons_zero, List.set_cons_succ, e20]) ?_
                    simp only [putAll, Act.put, List.setIfInBounds_toArray, List.set_cons_zero, List.set_cons_succ, e20] at hK ⊢
                    go_simp
                    exact hK _ _ _ rfl hG (Below.refl _ _) rfl
                  · have e20 : f 20 = (.bool true) := hd 20 (by kernel_rfl)
                    have e21 : f 21 = (.slice (some ⟨ga, 0, none⟩) m ac) := hd 21 (by kernel_rfl)
                    have e22 : f 22 = (.int .i64 (k : Int)) := hd 22 (by kernel_rfl)
                    refine wanted_on (by simp [Region.wanted, yielded, putAll, Act.put, List.setIfInBounds_toArray, List.set_cons_zero, List.set_cons_succ, e20, e21, e22]) ?_
                    simp only [putAll, Act.put, List.setIfInBounds_toArray, List.set_cons_zero, List.set_cons_succ, e20, e21, e22] at hK ⊢
                    go_simp
                    exact hK _ _ _ rfl hG (Below.refl _ _) rfl
                  · have e20 : f 20 = (.bool true) := hd 20 (by kernel_rfl)
                    have e23 : f 23 = (.pointer (some ⟨ga, k, none⟩)) := hd 23 (by kernel_rfl)
                    obtain ⟨m0, m1, m2, m3, m4, m5, m6, m7, m8, m9, m10, -⟩ := HC.out _ u hG
                    refine wanted_on (by simp [Region.wanted, yielded, putAll, Act.put, List.setIfInBounds_toArray, List.set_cons_zero, List.set_cons_succ, e20, e23]) ?_
                    simp only [putAll, Act.put, List.setIfInBounds_toArray, List.set_cons_zero, List.set_cons_succ, e20, e23] at hK ⊢
                    go_simp
                    exact hK _ _ _ rfl hG (Below.refl _ _) rfl
                  · have e20 : f 20 = (.bool true) := hd 20 (by kernel_rfl)
                    have e24 : f 24 = (.slice (some ⟨gt, 0, none⟩) 1 t.tc) := hd 24 (by kernel_rfl)
                    refine wanted_on (by simp [Region.wanted, yielded, putAll, Act.put, List.setIfInBounds_toArray, List.set_cons_zero, List.set_cons_succ, e20, e24]) ?_
                    simp only [putAll, Act.put, List.setIfInBounds_toArray, List.set_cons_zero, List.set_cons_succ, e20, e24] at hK ⊢
                    go_simp
                    exact hK _ _ _ rfl hG (Below.refl _ _) rfl
                  · have e20 : f 20 = (.bool true) := hd 20 (by kernel_rfl)
                    have e25 : f 25 = (.pointer (some ⟨gt, 0, none⟩)) := hd 25 (by kernel_rfl)
                    refine wanted_on (by simp [Region.wanted, yielded, putAll, Act.put, List.setIfInBounds_toArray, List.set_cons_zero, List.set_cons_succ, e20, e25]) ?_
                    simp only [putAll, Act.put, List.setIfInBounds_toArray, List.set_cons_zero, List.set_cons_succ, e20, e25] at hK ⊢
                    go_simp
                    exact hK _ _ _ rfl hG (Below.refl _ _) rfl
                  · have e20 : f 20 = (.bool true) := hd 20 (by kernel_rfl)
                    have e26 : f 26 = (.pointer (some ⟨gt, 3, none⟩)) := hd 26 (by kernel_rfl)
                    obtain ⟨m0, m1, m2, m3, m4, m5, m6, m7, m8, m9, m10, -⟩ := HC.out _ u hG
                    refine wanted_on (by simp [Region.wanted, yielded, putAll, Act.put, List.setIfInBounds_toArray, List.set_cons_zero, List.set_cons_succ, e20, e26]) ?_
                    simp only [putAll, Act.put, List.setIfInBounds_toArray, List.set_cons_zero, List.set_cons_succ, e20, e26] at hK ⊢
                    go_simp
                    exact hK _ _ _ rfl hG (Below.refl _ _) rfl
                  · have e20 : f 20 = (.bool true) := hd 20 (by kernel_rfl)
                    refine wanted_on (by simp [Region.wanted, yielded, putAll, Act.put, List.setIfInBounds_toArray, List.set_cons_zero, List.set_cons_succ, e20]) ?_
                    simp only [putAll, Act.put, List.setIfInBounds_toArray, List.set_cons_zero, List.set_cons_succ, e20] at hK ⊢
                    go_simp
                    exact hK _ _ _ rfl hG (Below.refl _ _) rfl
                  · have e20 : f 20 = (.bool true) := hd 20 (by kernel_rfl)
                    have e28 : f 28 = (.pointer (some ⟨wq.heap.size, 1, none⟩)) := hd 28 (by kernel_rfl)
                    obtain ⟨m0, m1, m2, m3, m4, m5, m6, m7, m8, m9, m10, -⟩ := HC.out _ u hG
                    refine wanted_on (by simp [Region.wanted, yielded, putAll, Act.put, List.setIfInBounds_toArray, List.set_cons_zero, List.set_cons_succ, e20, e28]) ?_
                    simp only [putAll, Act.put, List.setIfInBounds_toArray, List.set_cons_zero, List.set_cons_succ, e20, e28] at hK ⊢
                    go_simp
                    exact hK _ _ _ rfl hG (Below.refl _ _) rfl
                  · have e20 : f 20 = (.bool true) := hd 20 (by kernel_rfl)
                    refine wanted_on (by simp [Region.wanted, yielded, putAll, Act.put, List.setIfInBounds_toArray, List.set_cons_zero, List.set_cons_succ, e20]) ?_
                    simp only [putAll, Act.put, List.setIfInBounds_toArray, List.set_cons_zero, List.set_cons_succ, e20] at hK ⊢
                    go_simp
                    exact hK _ _ _ rfl hG (Below.refl _ _) rfl
                  · have e20 : f 20 = (.bool true) := hd 20 (by kernel_rfl)
                    have e29 : f 29 = (.slice (some ⟨gp, 0, none⟩) (j + 1) s.pc) := hd 29 (by kernel_rfl)
                    have e30 : f 30 = (.int .i64 (j : Int)) := hd 30 (by kernel_rfl)
                    refine wanted_on (by simp [Region.wanted, yielded, putAll, Act.put, List.setIfInBounds_toArray, List.set_cons_zero, List.set_cons_succ, e20, e29, e30]) ?_
                    simp only [putAll, Act.put, List.setIfInBounds_toArray, List.set_cons_zero, List.set_cons_succ, e20, e29, e30] at hK ⊢
                    go_simp
                    exact hK _ _ _ rfl hG (Below.refl _ _) rfl
                  · have e20 : f 20 = (.bool true) := hd 20 (by kernel_rfl)
                    have e31 : f 31 = (.pointer (some ⟨gp, j * 7, none⟩)) := hd 31 (by kernel_rfl)
                    refine wanted_on (by simp [Region.wanted, yielded, putAll, Act.put, List.setIfInBounds_toArray, List.set_cons_zero, List.set_cons_succ, e20, e31]) ?_
                    simp only [putAll, Act.put, List.setIfInBounds_toArray, List.set_cons_zero, List.set_cons_succ, e20, e31] at hK ⊢
                    go_simp
                    exact hK _ _ _ rfl hG (Below.refl _ _) rfl
                  · have e20 : f 20 = (.bool true) := hd 20 (by kernel_rfl)
                    have e32 : f 32 = (.pointer (some ⟨gp, j * 7 + 1, none⟩)) := hd 32 (by kernel_rfl)
                    obtain ⟨m0, m1, m2, m3, m4, m5, m6, m7, m8, m9, m10, -⟩ := HC.out _ u hG
                    refine wanted_on (by simp [Region.wanted, yielded, putAll, Act.put, List.setIfInBounds_toArray, List.set_cons_zero, List.set_cons_succ, e20, e32]) ?_
                    simp only [putAll, Act.put, List.setIfInBounds_toArray, List.set_cons_zero, List.set_cons_succ, e20, e32] at hK ⊢
                    go_simp
                    exact hK _ _ _ rfl hG (Below.refl _ _) rfl
                  · have e20 : f 20 = (.bool true) := hd 20 (by kernel_rfl)
                    have e27 : f 27 = (.agg #[.int .i64 q.v.k, .int .i64 q.v.n, .string q.v.s, .slice none 0 0]) := hd 27 (by kernel_rfl)
                    have e33 : f 33 = (.agg #[.int .i64 q.v.k, .int .i64 q.v.n, .string q.v.s, .slice none 0 0]) := hd 33 (by kernel_rfl)
                    refine wanted_on (by simp [Region.wanted, yielded, putAll, Act.put, List.setIfInBounds_toArray, List.set_cons_zero, List.set_cons_succ, e20, e27, e33]) ?_
                    simp only [putAll, Act.put, List.setIfInBounds_toArray, List.set_cons_zero, List.set_cons_succ, e20, e27, e33] at hK ⊢
                    go_simp
                    refine (HSAME.out u).mono ?_
                    rintro e u1 ⟨rfl, hb⟩
                    exact hK _ _ _ rfl (hG.trans (hb.mono hG.size)) hb rfl
                  · have e20 : f 20 = (.bool true) := hd 20 (by kernel_rfl)
                    have e34 : f 34 = (.bool true) := hd 34 (by kernel_rfl)
                    refine wanted_on (by simp [Region.wanted, yielded, putAll, Act.put, List.setIfInBounds_toArray, List.set_cons_zero, List.set_cons_succ, e20, e34]) ?_
                    simp only [putAll, Act.put, List.setIfInBounds_toArray, List.set_cons_zero, List.set_cons_succ, e20, e34] at hK ⊢
                    go_simp
                    exact hK _ _ _ rfl hG (Below.refl _ _) rfl
                  · have e18 : f 18 = (.bool false) := hd 18 (by kernel_rfl)
                    have e20 : f 20 = (.bool true) := hd 20 (by kernel_rfl)
                    have e35 : f 35 = (.bool false) := hd 35 (by kernel_rfl)
                    refine wanted_on (by simp [Region.wanted, yielded, putAll, Act.put, List.setIfInBounds_toArray, List.set_cons_zero, List.set_cons_succ, e18, e20, e35]) ?_
                    simp only [putAll, Act.put, List.setIfInBounds_toArray, List.set_cons_zero, List.set_cons_succ, e18, e20, e35] at hK ⊢
                    go_simp
                    exact hK _ _ _ rfl hG (Below.refl _ _) rfl
                  · have e18 : f 18 = (.bool false) := hd 18 (by kernel_rfl)
                    have e36 : f 36 = (.bool false) := hd 36 (by kernel_rfl)
                    refine wanted_on rfl ?_
                    simp only [putAll, Act.put, List.setIfInBounds_toArray, List.set_cons_zero, List.set_cons_succ, e18, e36] at hK ⊢
                    go_simp
                    exact hK _ _ _ rfl hG (Below.refl _ _) rfl
                · intro f u hG hf
                  have e37 : f 37 = .bool false := hf 37 (by decide)
                  have HBY : Hid (Below w2.heap.size w2 u) := (HC.out _ u hG).2.2.2.2.2.2.2.2.2.2.2
                  simp only [putAll, Act.put, List.setIfInBounds_toArray, List.set_cons_zero, List.set_cons_succ, e37]
                  clear hf hG e37
                  go_wp2_with fail
                  go_roundw
                  case rel => exact ⟨k + 1, by omega, by go_num, HBY.out⟩
                  case measure => simp [intOf]; omega
            · have hsb : (q.ser == f.pan) = false := by simpa using hsr
              have htd : t.td = [tNo] := by rw [hrec]; simp [Ne.symm hsr]
              obtain ⟨gt, gto, gl, x0, -⟩ := HTX.out 0 _ htd
              rw [gto, gl] at t0
              rw [World.drewN_zero] at x0
              simp only [tNo] at x0
              clear hsr
              clear hm hrec htd gto gl
              go_quiet (fail)
              go_wp2_with fail
              go_quiet (fail)
              go_wp2_with fail
              go_roundw
              case rel => exact ⟨k + 1, by omega, by go_num, by first | exact HBN2.out _ | exact HBN.out⟩
              case measure => simp [intOf]; omega
        · have hmb : (f.mark == 2) = false := by simpa using hm
          have htd : t.td = [tNo] := by rw [hrec]; cases s.st.ps with | nil => rfl | cons q rp => simp [hm]
          obtain ⟨gt, gto, gl, x0, -⟩ := HTX.out 0 _ htd
          rw [gto, gl] at t0
          rw [World.drewN_zero] at x0
          simp only [tNo] at x0
          clear hm hrec htd gto gl
          go_quiet (fail)
          go_wp2_with fail
          go_quiet (fail)
          go_wp2_with fail
          go_roundw
          case rel => exact ⟨k + 1, by omega, by go_num, by first | exact HBN2.out _ | exact HBN.out⟩
          case measure => simp [intOf]; omega
      · have h5b : (ek != 5) = true := by simpa using h5
        clear hs ht htd hes hek hfr h5
        go_wp2_with fail
        go_roundw
        case rel => exact ⟨k + 1, by omega, by go_num, HB.out⟩
        case measure => simp [intOf]; omega
    · have HF : Hid (Below w.heap.size w wq) := HB2.out.trans (HB.out.mono HB2.out.size)
      go_wp2_with fail
      go_ret
      exact ⟨rfl, HF.out⟩

theorem contract (H : Type) (enc : TypeId × Value → H) (W : World) (base : Nat) (args : Array Value) (ds gs : List (DataW H)) (before : List MemPlace)
    (hval : ∀ (j : Nat) t v, Try.f4.params[j]? = some t → args[j]? = some v → Value.okWide Try.prog W .any base t v)
    (hW : DataW.Whole enc Try.prog Try.f4.params.toList Rows.panicsDirectSpec.vars false W args.toList ds gs before)
    (hsz : (DataW.weightsEach Try.prog (Try.f4.params.toList ++ Rows.panicsDirectSpec.plain.varTypes Try.prog) (ds ++ gs)).all (· ≤ reachBytes) = true) :
    Calls Try.prog 4 args W fun e W' => ∃ v, e = .returned v ∧ Rows.panicsDirectSpec.post enc Try.prog Try.f4 false true false false W args v W' := by
  have hW' := hW
  obtain ⟨p, q, hA0, hV, rfl, hfz, hnd⟩ := hW
  have hA : DataW.TrodAll enc Try.prog W 0 (fun _ => true) true Try.f4.params.toList args.toList ds p := hA0
  rw [Try.params4] at hA hval hsz
  obtain ⟨v0, vs0, d0, ds0, p0, q0, hargs, rfl, rfl, h0, r0⟩ := trodAll_cons hA
  obtain ⟨rfl, rfl, rfl⟩ := trodAll_nil r0
  obtain rfl : args = #[v0] := by cases args; simp_all
  obtain ⟨rfl, rfl⟩ := trodVars_none hV
  obtain ⟨ao0, len0, cap0, rfl⟩ := okWide_slice Try.underlying22 (hval 0 22 v0 rfl rfl)
  obtain ⟨es0, hC0, hN0⟩ := evs_came (j := 0) h0 hsz rfl rfl
  clear hA0
  simp only [List.append_nil] at hW'
  have hlt0 : ∀ x ∈ p0, x.block < W.heap.size := fun x hx => hW'.lt x (by simp [hx])
  refine (walk _ es0 W hC0 hN0).mono fun e W' ⟨he, bel⟩ => ?_
  subst he
  exact ⟨_, rfl, _, _, _, [], p0 ++ [], [], hW', trodAll_mk1 (shut_bool Try.underlying4 _), (trodAll_cons_mk (Below.trod (by kernel_rfl) (by kernel_rfl) (of_decide_eq_true (by kernel_rfl)) h0 bel hlt0) trodAll_mk0), rfl, bel.frame _, fun h => by cases h⟩

set_option maxRecDepth 100000 in
theorem lifted (os : Os) (started : os.Started) (H : Type) (enc : TypeId × Value → H) :
    ReturnsInHanded {} Try.checked os 4 .any (Rows.panicsDirectSpec.pre6 enc Try.prog Try.f4 Rows.panicsDirectRow.domain false) (Rows.panicsDirectSpec.post enc Try.prog Try.f4 false true false false) := by
  refine returnsInHanded_of_change_sized (C := Try.checked) own started (by kernel_rfl) Try.func4
    (ChangeSpec.witness6 (enc := enc) (C := Try.checked) false ⟨#[], #[.slice none 0 0], []⟩ 8 (by kernel_rfl) (by kernel_rfl) (by kernel_rfl) (by kernel_rfl)) ?_
  intro W base args ds gs before hval0 hW hcnd hsz _
  exact contract H enc W base args ds gs before hval0 hW hsz

theorem proved : Rows.PanicsDirectSaid :=
  OpenClaim.holds_of_wide 4 Try.f4 rfl rfl rfl rfl rfl rfl rfl ⟨rfl, rfl, rfl, rfl, rfl⟩ rfl rfl rfl rfl rfl (by kernel_rfl) Try.func4 (by kernel_rfl)
    (of_decide_eq_true (by kernel_rfl)) (by unfold Func.isWrapper; first | (rw [if_pos (by decide +kernel)]; kernel_rfl) | (rw [if_neg (by decide +kernel)]; exact ⟨rfl, rfl⟩))
    (fun os started H enc _ => lifted os started H enc)
#print axioms proved
end Go.Proofs.Ytcnpoldcebdhjab.panicsDirect
