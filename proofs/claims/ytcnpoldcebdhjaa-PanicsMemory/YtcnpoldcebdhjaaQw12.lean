/- A panic is recovered, or nothing is. -/
import Derived.Test.YtcnpoldcebdhjaaQw11
namespace Go.Proofs.Ytcnpoldcebdhjaa
open Go.ChangeShapes Go.WideShapes Go.ChangeAt Go.RowKit
set_option maxRecDepth 100000
set_option linter.unusedSimpArgs false
set_option linter.unusedVariables false
def tNo : Tl := ⟨6, 0, 0, .nix⟩
def St.recS (st : St) (f : Fr) : St × List Tl :=
  match st.ps with
  | [] => (st, [tNo])
  | q :: rp => if f.mark = 2 ∧ f.pan = q.ser ∧ q.rc = false then ({ st with ps := { q with rc := true } :: rp }, [⟨5, 0, 0, q.v⟩]) else (st, [tNo])
theorem Pv.of_self (v : Pv) : Pv.of v.k v.n v.s = v := by cases v <;> simp [Pv.of, Pv.k, Pv.n, Pv.s]
theorem Pv.k_ok (v : Pv) : v.k = 0 ∨ v.k = 1 ∨ v.k = 3 ∨ v.k = 5 := by cases v <;> simp [Pv.k]
set_option maxHeartbeats 8000000 in
theorem own_recoverLast (B p : Nat) (st : St) (td : List Tl) (f : Fr) (r : List Fr) (w : World) (h : WkI B p w st td) (hf : st.fr = f :: r) (hB0 : B ≤ w.heap.size) (hz : td.length ≤ 900000) (hps : st.ps.length ≤ 1000000) (hr : r.length ≤ 1000000) (hm : f.mark = 2 → st.ps ≠ []) :
    Calls Try.prog 46 #[.pointer (some ⟨p, 0, none⟩)] w fun x w' => x = .returned (.tuple #[]) ∧ WkI B p w' (st.recS f).1 (td ++ (st.recS f).2) ∧ Below B w w' := by
  obtain ⟨F, P, T, fes, h⟩ := h
  have HB0 : Hid (B ≤ w.heap.size) := hB0
  have HH : Hid (Wk B p w F P T fes st td) := h
  obtain ⟨g, cap, xs, L, rfl, -, -, -, -, hg, ⟨-, c1, c2, -, -⟩, -⟩ := h.top hf
  have HRUN : Hid (Calls Try.prog 42 #[.pointer (some ⟨p, 0, none⟩)] w fun e w' => e = .returned (.pointer (some ⟨g, r.length * 5, none⟩)) ∧ Below w.heap.size w w') := own_running p g r.length cap _ _ _ _ _ _ w hr h.box
  have HC : Hid (∀ u, Below w.heap.size w u → u.cell? ⟨g, r.length * 5 + 1, none⟩ = some (.int .i64 f.mark) ∧ u.cell? ⟨g, r.length * 5 + 2, none⟩ = some (.int .i64 f.pan)) := fun u hu => ⟨by rw [hu.cell hg]; exact c1, by rw [hu.cell hg]; exact c2⟩
  have HNO : Hid (st.recS f = (st, [tNo]) → ∀ u, Below w.heap.size w u → Calls Try.prog 51 #[.pointer (some ⟨p, 0, none⟩), .agg #[.int .i64 6, .int .i64 0, .int .i64 0, .int .i64 0, .int .i64 0, .string ⟨#[]⟩, .slice none 0 0]] u fun x w' => x = .returned (.tuple #[]) ∧ Hid (WkI B p w' (st.recS f).1 (td ++ (st.recS f).2) ∧ Below B w w')) := fun he u hu => by
    rw [he]
    refine (own_tell B p st td tNo u ⟨_, _, _, _, h.below hu⟩ (Nat.le_trans hB0 hu.size) (by omega)).mono ?_
    rintro x w' ⟨h1, h2, h3⟩
    exact ⟨h1, h2, (hu.mono hB0).trans h3⟩
  rcases hp : st.ps with _ | ⟨q, rp⟩
  · have hm0 : f.mark ≠ 2 := fun e => hm e hp
    have hmb : (f.mark != 2) = true := by simpa using hm0
    have HE : Hid (st.recS f = (st, [tNo])) := by show st.recS f = _; unfold St.recS; rw [hp]
    obtain ⟨po, pc, hP⟩ := row_slice h.ps
    rw [hp] at hP
    simp only [List.reverse_nil, List.length_nil] at hP
    subst hP
    have HL : Hid (∀ u, Below w.heap.size w u → Calls Try.prog 54 #[.pointer (some ⟨p, 0, none⟩)] u fun e w' => e = .returned (.pointer (some ⟨u.heap.size, 0, none⟩)) ∧ w'.heap[u.heap.size]? = some (.cells #[.int .i64 (-1), .int .i64 0, .int .i64 0, .string ⟨#[]⟩, .slice none 0 0, .bool false, .bool false] 55 (0, 0)) ∧ Below u.heap.size u w') := fun u hu => own_noPanic p pc po _ _ _ _ _ _ u (h.below hu).box
    clear h hm hm0 c1 c2 hp hB0 hf
    go_enter Try.func46, Try.ntmps46
    go_wp2_with fail
    refine HRUN.out.mono ?_
    rintro e w1 ⟨rfl, hb1⟩
    have HB1 : Hid (Below w.heap.size w w1) := hb1
    clear hb1
    go_wp2_with fail
    refine (HL.out w1 HB1.out).mono ?_
    rintro e w2 ⟨rfl, hbx, hb2⟩
    have HB2 : Hid (Below w.heap.size w w2) := HB1.out.trans (hb2.mono HB1.out.size)
    obtain ⟨q1, q2⟩ := HC.out w2 HB2.out
    clear hb2 hbx
    go_wp2_with fail
    go_quiet (fail)
    go_wp2_with fail
    refine (HNO.out HE.out _ (HB2.out.trans ((below_dn _ _).mono HB2.out.size))).mono ?_
    rintro x w3 ⟨rfl, HF⟩
    go_wp2_with fail
    refine bodyPost_ret (results_none Try.results46 _ _ _) rfl ?_
    exact ⟨rfl, HF.out⟩
  · have HPS : Hid (st.ps = q :: rp) := hp
    obtain ⟨g2, cap2, rfl, hgB, hg2, ⟨k0, k1, k2, k3, k4, k5, k6⟩, kz⟩ := h.last hp
    have hrp : rp.length ≤ 1000000 := by rw [hp] at hps; simp at hps; omega
    have HL : Hid (∀ u, Below w.heap.size w u → Calls Try.prog 54 #[.pointer (some ⟨p, 0, none⟩)] u fun e w' => e = .returned (.pointer (some ⟨g2, rp.length * 7, none⟩)) ∧ Below u.heap.size u w') := fun u hu => own_lastPanic p g2 rp.length cap2 _ _ _ _ _ _ u hrp (h.below hu).box
    have HK : Hid (∀ u, Below w.heap.size w u → u.cell? ⟨g2, rp.length * 7, none⟩ = some (.int .i64 q.ser) ∧ u.cell? ⟨g2, rp.length * 7 + 5, none⟩ = some (.bool q.rc) ∧ u.frozen? ⟨g2, rp.length * 7 + 5, none⟩ = false) := fun u hu => by
      obtain ⟨g3, cap3, he, -, -, ⟨k0, -, -, -, -, k5, -⟩, kz⟩ := (h.below hu).last hp
      cases he
      exact ⟨k0, k5, kz _⟩
    have HV : Hid (∀ u, Below w.heap.size w u → u.cell? ⟨g2, rp.length * 7 + 1, none⟩ = some (.int .i64 q.v.k) ∧ u.cell? ⟨g2, rp.length * 7 + 1 + 1, none⟩ = some (.int .i64 q.v.n) ∧ u.cell? ⟨g2, rp.length * 7 + 1 + 2, none⟩ = some (.string q.v.s) ∧ u.cell? ⟨g2, rp.length * 7 + 1 + 3, none⟩ = some (.slice none 0 0)) := fun u hu => by
      obtain ⟨g3, cap3, he, -, -, ⟨-, k1, k2, k3, k4, -, -⟩, -⟩ := (h.below hu).last hp
      cases he
      exact ⟨k1, k2, k3, k4⟩
    have HPL : Hid (∀ u, Calls Try.prog 40 #[.agg #[.int .i64 q.v.k, .int .i64 q.v.n, .string q.v.s, .slice none 0 0]] u fun e w' => e = .returned (.agg #[.int .i64 q.v.k, .int .i64 q.v.n, .string q.v.s, .slice none 0 0]) ∧ Below u.heap.size u w') := fun u => by
      have := own_plainP q.v.k q.v.n q.v.s none 0 0 u q.v.k_ok
      rw [Pv.of_self] at this
      exact this
    have HSET : Hid (∀ u, Below w.heap.size w u → Wk B p (u.setCell ⟨g2, rp.length * 7 + 5, none⟩ (.bool true)) (.slice (some ⟨g, 0, none⟩) (r.length + 1) cap) (.slice (some ⟨g2, 0, none⟩) (rp.length + 1) cap2) T fes { st with ps := { q with rc := true } :: rp } td ∧ Below B u (u.setCell ⟨g2, rp.length * 7 + 5, none⟩ (.bool true))) := fun u hu => by
      refine (h.below hu).pnset (k := rp.length) (q := q) (q' := { q with rc := true }) ?_ (by decide) rfl ?_
      · rw [hp, List.reverse_cons, List.getElem?_append_right (by simp)]; simp
      · rw [hp, List.reverse_cons, List.set_append_right _ _ (by simp)]; simp
    clear h hm c1 c2 hp hB0 hf k0 k1 k2 k3 k4 k5 k6 kz
    by_cases hm2 : f.mark = 2
    · by_cases hpan : f.pan = q.ser
      · cases hrc : q.rc with
        | true =>
          have HE : Hid (st.recS f = (st, [tNo])) := by show st.recS f = _; unfold St.recS; rw [HPS.out]; simp [hrc]
          rw [hm2] at HC
          rw [hpan] at HC
          rw [hrc] at HK
          clear hm2 hpan hrc
          go_enter Try.func46, Try.ntmps46
          go_wp2_with fail
          refine HRUN.out.mono ?_
          rintro e w1 ⟨rfl, hb1⟩
          have HB1 : Hid (Below w.heap.size w w1) := hb1
          clear hb1
          go_wp2_with fail
          refine (HL.out w1 HB1.out).mono ?_
          rintro e w2 ⟨rfl, hb2⟩
          have HB2 : Hid (Below w.heap.size w w2) := HB1.out.trans (hb2.mono HB1.out.size)
          obtain ⟨q1, q2⟩ := HC.out w2 HB2.out
          obtain ⟨q3, q4, q5⟩ := HK.out w2 HB2.out
          clear hb2
          go_wp2_with fail
          go_quiet (fail)
          go_wp2_with fail
          refine (HNO.out HE.out _ (HB2.out.trans ((below_dn _ _).mono HB2.out.size))).mono ?_
          rintro x w3 ⟨rfl, HF⟩
          go_wp2_with fail
          refine bodyPost_ret (results_none Try.results46 _ _ _) rfl ?_
          exact ⟨rfl, HF.out⟩
        | false =>
          have HE : Hid (st.recS f = ({ st with ps := { q with rc := true } :: rp }, [⟨5, 0, 0, q.v⟩])) := by show st.recS f = _; unfold St.recS; rw [HPS.out]; simp [hrc, hm2, hpan]
          rw [hm2] at HC
          rw [hpan] at HC
          rw [hrc] at HK
          clear hm2 hpan hrc HNO
          go_enter Try.func46, Try.ntmps46
          go_wp2_with fail
          refine HRUN.out.mono ?_
          rintro e w1 ⟨rfl, hb1⟩
          have HB1 : Hid (Below w.heap.size w w1) := hb1
          clear hb1
          go_wp2_with fail
          refine (HL.out w1 HB1.out).mono ?_
          rintro e w2 ⟨rfl, hb2⟩
          have HB2 : Hid (Below w.heap.size w w2) := HB1.out.trans (hb2.mono HB1.out.size)
          obtain ⟨q1, q2⟩ := HC.out w2 HB2.out
          obtain ⟨q3, q4, q5⟩ := HK.out w2 HB2.out
          obtain ⟨m1, m2, m3, m4⟩ := HV.out w2 HB2.out
          clear hb2
          go_wp2_with fail
          go_quiet (fail)
          go_wp2_with fail
          refine (HPL.out _).mono ?_
          rintro e w3 ⟨rfl, hb3⟩
          have hbd : Below w.heap.size w (w2.drewN nq) := HB2.out.trans ((below_dn _ _).mono HB2.out.size)
          obtain ⟨hk3, hb4⟩ := HSET.out _ hbd
          have HK3 : Hid (WkI B p w3 { st with ps := { q with rc := true } :: rp } td) := ⟨_, _, _, _, hk3.below hb3⟩
          have HB3 : Hid (Below B w w3) := ((hbd.mono HB0.out).trans hb4).trans (hb3.mono (Nat.le_trans HB0.out ((hbd.mono HB0.out).trans hb4).size))
          clear hk3 hb3 hb4 hbd q1 q2 q3 q4 q5
          go_wp2_with fail
          refine (own_tell B p { st with ps := { q with rc := true } :: rp } td ⟨5, 0, 0, q.v⟩ w3 HK3.out (Nat.le_trans HB0.out HB3.out.size) (by omega)).mono ?_
          rintro x w5 ⟨rfl, h5, hb5⟩
          have HF : Hid (WkI B p w5 (st.recS f).1 (td ++ (st.recS f).2) ∧ Below B w w5) := by rw [HE.out]; exact ⟨h5, HB3.out.trans hb5⟩
          clear h5 hb5
          go_wp2_with fail
          go_end0
          exact ⟨rfl, HF.out⟩
      · have HE : Hid (st.recS f = (st, [tNo])) := by show st.recS f = _; unfold St.recS; rw [HPS.out]; simp [hpan]
        have hpb : (f.pan != q.ser) = true := by simpa using hpan
        rw [hm2] at HC
        clear hm2 hpan
        go_enter Try.func46, Try.ntmps46
        go_wp2_with fail
        refine HRUN.out.mono ?_
        rintro e w1 ⟨rfl, hb1⟩
        have HB1 : Hid (Below w.heap.size w w1) := hb1
        clear hb1
        go_wp2_with fail
        refine (HL.out w1 HB1.out).mono ?_
        rintro e w2 ⟨rfl, hb2⟩
        have HB2 : Hid (Below w.heap.size w w2) := HB1.out.trans (hb2.mono HB1.out.size)
        obtain ⟨q1, q2⟩ := HC.out w2 HB2.out
        obtain ⟨q3, q4, q5⟩ := HK.out w2 HB2.out
        clear hb2
        go_wp2_with fail
        go_quiet (fail)
        go_wp2_with fail
        refine (HNO.out HE.out _ (HB2.out.trans ((below_dn _ _).mono HB2.out.size))).mono ?_
        rintro x w3 ⟨rfl, HF⟩
        go_wp2_with fail
        refine bodyPost_ret (results_none Try.results46 _ _ _) rfl ?_
        exact ⟨rfl, HF.out⟩
    · have HE : Hid (st.recS f = (st, [tNo])) := by show st.recS f = _; unfold St.recS; rw [HPS.out]; simp [hm2]
      have hmb : (f.mark != 2) = true := by simpa using hm2
      clear hm2
      go_enter Try.func46, Try.ntmps46
      go_wp2_with fail
      refine HRUN.out.mono ?_
      rintro e w1 ⟨rfl, hb1⟩
      have HB1 : Hid (Below w.heap.size w w1) := hb1
      clear hb1
      go_wp2_with fail
      refine (HL.out w1 HB1.out).mono ?_
      rintro e w2 ⟨rfl, hb2⟩
      have HB2 : Hid (Below w.heap.size w w2) := HB1.out.trans (hb2.mono HB1.out.size)
      obtain ⟨q1, q2⟩ := HC.out w2 HB2.out
      obtain ⟨q3, q4, q5⟩ := HK.out w2 HB2.out
      clear hb2
      go_wp2_with fail
      go_quiet (fail)
      go_wp2_with fail
      refine (HNO.out HE.out _ (HB2.out.trans ((below_dn _ _).mono HB2.out.size))).mono ?_
      rintro x w3 ⟨rfl, HF⟩
      go_wp2_with fail
      refine bodyPost_ret (results_none Try.results46 _ _ _) rfl ?_
      exact ⟨rfl, HF.out⟩
end Go.Proofs.Ytcnpoldcebdhjaa
