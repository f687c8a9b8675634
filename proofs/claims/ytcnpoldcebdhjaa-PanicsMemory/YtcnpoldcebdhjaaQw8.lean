/- An activation that is gone. -/
import Derived.Test.YtcnpoldcebdhjaaQw7
namespace Go.Proofs.Ytcnpoldcebdhjaa
open Go.ChangeShapes Go.WideShapes Go.ChangeAt Go.RowKit
set_option maxRecDepth 100000
set_option linter.unusedSimpArgs false
set_option linter.unusedVariables false
set_option maxHeartbeats 4000000 in
theorem own_passed (B p : Nat) (st : St) (td : List Tl) (gone : Fr) (lo : Option Addr) (ln lc : Nat) (w : World) (h : WkI B p w st td) (hB0 : B ≤ w.heap.size) (hz : td.length ≤ 900000) (hps : st.ps.length ≤ 1000000) (hr : st.fr.length ≤ 1000000) :
    Calls Try.prog 58 #[.pointer (some ⟨p, 0, none⟩), .agg #[.int .i64 gone.id, .int .i64 gone.mark, .int .i64 gone.pan, .int .i64 gone.ph, .slice lo ln lc]] w fun x w' => x = .returned (.tuple #[]) ∧ WkI B p w' (st.passedS gone).1 (td ++ (st.passedS gone).2) ∧ Below B w w' := by
  obtain ⟨F, P, T, fes, h⟩ := h
  have HB0 : Hid (B ≤ w.heap.size) := hB0
  obtain ⟨g, hg⟩ : ∃ g, g = w.heap.size := ⟨_, rfl⟩
  obtain ⟨w0, hw0⟩ : ∃ x, x = w.alloc (.cells #[.int .i64 gone.id, .int .i64 gone.mark, .int .i64 gone.pan, .int .i64 gone.ph, .slice lo ln lc] 53) := ⟨_, rfl⟩
  have HW0 : Hid (Below w.heap.size w w0) := by rw [hw0]; exact (Below.refl _ _).alloc (Nat.le_refl _) _
  have HG : Hid (w0.heap[g]? = some (.cells #[.int .i64 gone.id, .int .i64 gone.mark, .int .i64 gone.pan, .int .i64 gone.ph, .slice lo ln lc] 53 (0, 0))) := by rw [hw0, hg]; exact box_stays (Below.refl _ _)
  have HH : Hid (Wk B p w0 F P T fes st td) := h.below HW0.out
  have HZ : Hid (td.length ≤ 900000) := hz
  obtain ⟨fo, fc, hF⟩ := row_slice h.fr.row
  have hfl : fes.length = st.fr.length := by rw [h.fr.len, List.length_reverse]
  rw [hfl] at hF
  subst hF
  obtain ⟨⟨g0, g1, g2, g3, g4⟩, -⟩ := box5 HG.out
  clear h hB0 hfl
  go_enter Try.func58, Try.ntmps58
  go_wp2_with fail
  rw [← hw0, ← hg]
  clear hw0 hg
  go_wp2_with fail
  refine (own_tellW B p _ _ _ _ st td ⟨4, gone.id, 0, .nix⟩ w0 HH.out (Nat.le_trans HB0.out HW0.out.size) (by have := HZ.out; omega)).mono ?_
  rintro x w1 ⟨rfl, ⟨T1, h1⟩, hb1, hfar⟩
  have hbox := hfar g _ _ _ HG.out (by decide) (by decide)
  obtain ⟨⟨q0, q1, q2, q3, q4⟩, -⟩ := box5 hbox
  obtain ⟨⟨x0, -⟩, -⟩ := box7 h1.box
  have HW1 : Hid (Wk B p w1 (.slice fo st.fr.length fc) P T1 fes st (td ++ [⟨4, gone.id, 0, .nix⟩])) := h1
  have HB1 : Hid (Below B w w1) := (HW0.out.mono HB0.out).trans hb1
  clear h1 hb1 hfar hbox g0 g1 g2 g3 g4
  rcases hfr : st.fr with _ | ⟨f, r⟩
  · rw [hfr] at x0
    have HFR : Hid (st.fr = []) := hfr
    clear hfr
    go_wp2_with fail
    refine (own_finish B p st (td ++ [⟨4, gone.id, 0, .nix⟩]) 2 2 w1 ⟨_, _, _, _, HW1.out⟩ (Nat.le_trans HB0.out HB1.out.size) (by have := HZ.out; simp; omega)).mono ?_
    rintro x w2 ⟨rfl, h2, hb2⟩
    have HF : Hid (WkI B p w2 (st.passedS gone).1 (td ++ (st.passedS gone).2) ∧ Below B w w2) := by
      unfold St.passedS
      rw [HFR.out]
      refine ⟨?_, HB1.out.trans hb2⟩
      rw [List.append_assoc] at h2
      exact h2
    clear h2 hb2
    go_wp2_with fail
    refine bodyPost_ret (results_none Try.results58 _ _ _) rfl ?_
    exact ⟨rfl, HF.out⟩
  · rw [hfr] at x0
    have HFR : Hid (st.fr = f :: r) := hfr
    have hr2 : r.length ≤ 1000000 := by rw [hfr] at hr; simp at hr; omega
    simp only [List.length_cons] at x0
    clear hfr hr
    have HSETP : Hid (∀ (ps' : List Pn) (w3 : World), (if gone.mark = 2 then abortP gone.pan st.ps else st.ps) = ps' → WkI B p w3 { st with ps := ps' } (td ++ [⟨4, gone.id, 0, .nix⟩]) → Below B w w3 → ∃ g3, (∀ u, Below w3.heap.size w3 u → Calls Try.prog 42 #[.pointer (some ⟨p, 0, none⟩)] u fun e w' => e = .returned (.pointer (some ⟨g3, r.length * 5, none⟩)) ∧ Below u.heap.size u w') ∧
        ∀ u, Below w3.heap.size w3 u → u.cell? ⟨g3, r.length * 5 + 3, none⟩ = some (.int .i64 f.ph) ∧ u.frozen? ⟨g3, r.length * 5 + 3, none⟩ = false ∧ Hid (WkI B p (u.setCell ⟨g3, r.length * 5 + 3, none⟩ (.int .i64 2)) (st.passedS gone).1 (td ++ (st.passedS gone).2) ∧ Below B w (u.setCell ⟨g3, r.length * 5 + 3, none⟩ (.int .i64 2)))) := fun ps' w3 hps' hw3 hb3 => by
      obtain ⟨F3, P3, T3, fes3, h3⟩ := hw3
      have hf3 : ({ st with ps := ps' } : St).fr = f :: r := HFR.out
      obtain ⟨g3, hrun, hset⟩ := h3.setPh hf3 2 hr2
      refine ⟨g3, hrun, fun u hu => ?_⟩
      obtain ⟨y3, yf, HS⟩ := hset u hu
      refine ⟨y3, yf, ?_⟩
      unfold St.passedS
      rw [HFR.out]
      simp only [hps']
      exact ⟨HS.out.1, (hb3.trans (hu.mono (Nat.le_trans HB0.out hb3.size))).trans HS.out.2⟩
    by_cases hmk : gone.mark = 2
    · have HM : Hid ((if gone.mark = 2 then abortP gone.pan st.ps else st.ps) = abortP gone.pan st.ps) := if_pos hmk
      rw [hmk] at q1
      clear hmk
      go_wp2_with fail
      refine (own_abort B p st _ gone.pan w1 ⟨_, _, _, _, HW1.out⟩ (Nat.le_trans HB0.out HB1.out.size) hps).mono ?_
      rintro x w3 ⟨rfl, h3, hb3⟩
      obtain ⟨g3, hrun, hset⟩ := HSETP.out _ w3 HM.out h3 (HB1.out.trans hb3)
      have HRUN : Hid (Calls Try.prog 42 #[.pointer (some ⟨p, 0, none⟩)] w3 fun e w' => e = .returned (.pointer (some ⟨g3, r.length * 5, none⟩)) ∧ Below w3.heap.size w3 w') := hrun w3 (Below.refl _ _)
      have HSET := hset
      clear h3 hb3 hrun hset
      go_wp2_with fail
      refine HRUN.out.mono ?_
      rintro e w4 ⟨rfl, hb4⟩
      obtain ⟨y3, yf, HS⟩ := HSET w4 hb4
      clear hb4
      go_wp2_with fail
      go_end0
      exact ⟨rfl, HS.out⟩
    · have HM : Hid ((if gone.mark = 2 then abortP gone.pan st.ps else st.ps) = st.ps) := if_neg hmk
      have hmb : (gone.mark == 2) = false := by simpa using hmk
      clear hmk
      obtain ⟨g3, hrun, hset⟩ := HSETP.out _ w1 HM.out ⟨_, _, _, _, HW1.out⟩ HB1.out
      have HRUN : Hid (Calls Try.prog 42 #[.pointer (some ⟨p, 0, none⟩)] w1 fun e w' => e = .returned (.pointer (some ⟨g3, r.length * 5, none⟩)) ∧ Below w1.heap.size w1 w') := hrun w1 (Below.refl _ _)
      have HSET := hset
      clear hrun hset
      go_wp2_with fail
      refine HRUN.out.mono ?_
      rintro e w4 ⟨rfl, hb4⟩
      obtain ⟨y3, yf, HS⟩ := HSET w4 hb4
      clear hb4
      go_wp2_with fail
      go_end0
      exact ⟨rfl, HS.out⟩
theorem Wk.popF {B p g n cap : Nat} {w : World} {P T : Value} {xs : List Fe} {e : Fe} {st : St} {td : List Tl} {f : Fr} {r : List Fr} (h : Wk B p w (.slice (some ⟨g, 0, none⟩) n cap) P T (xs ++ [e]) st td) (hl : xs.length = r.length) (hm : xs.map (·.x) = r.reverse) :
    Wk B p (w.setCell ⟨p, 0, none⟩ (.slice (some ⟨g, 0, none⟩) r.length cap)) (.slice (some ⟨g, 0, none⟩) r.length cap) P T xs { st with fr := r } td ∧ Below B w (w.setCell ⟨p, 0, none⟩ (.slice (some ⟨g, 0, none⟩) r.length cap)) := by
  have hrow := h.fr.row
  rw [List.length_append, List.length_singleton] at hrow
  have h2 := own_pop Fe.len hrow
  rw [hl] at h2
  exact h.put0 0 (.slice (some ⟨g, 0, none⟩) r.length cap) (by decide) rfl ⟨by rw [hl]; exact h2, fun a ha => h.fr.own a (List.mem_append_left _ ha), (List.pairwise_append.1 h.fr.apart).1, hm⟩ h.ps h.td
def St.dropS (st : St) (f : Fr) (r : List Fr) : St × List Tl := if f.ph = 1 then ({ st with fr := r } : St).leftS f else ({ st with fr := r } : St).passedS f
set_option maxHeartbeats 8000000 in
theorem own_drop (B p : Nat) (st : St) (td : List Tl) (f : Fr) (r : List Fr) (w : World) (h : WkI B p w st td) (hf : st.fr = f :: r) (hB0 : B ≤ w.heap.size) (hz : td.length ≤ 900000) (hps : st.ps.length ≤ 1000000) (hr : r.length ≤ 1000000) :
    Calls Try.prog 53 #[.pointer (some ⟨p, 0, none⟩)] w fun x w' => x = .returned (.tuple #[]) ∧ WkI B p w' (st.dropS f r).1 (td ++ (st.dropS f r).2) ∧ Below B w w' := by
  obtain ⟨F, P, T, fes, h⟩ := h
  have HB0 : Hid (B ≤ w.heap.size) := hB0
  obtain ⟨g, cap, xs, L, rfl, rfl, hxl, hxm, -, hg, ⟨c0, c1, c2, c3, c4⟩, -, hown⟩ := h.top hf
  obtain ⟨lo, lc, rfl⟩ := IOwn.shape hown
  have HRUN : Hid (Calls Try.prog 42 #[.pointer (some ⟨p, 0, none⟩)] w fun e w' => e = .returned (.pointer (some ⟨g, r.length * 5, none⟩)) ∧ Below w.heap.size w w') := own_running p g r.length cap _ _ _ _ _ _ w hr h.box
  have HC : Hid (∀ u, Below w.heap.size w u → u.cell? ⟨g, r.length * 5, none⟩ = some (.int .i64 f.id) ∧ u.cell? ⟨g, r.length * 5 + 1, none⟩ = some (.int .i64 f.mark) ∧ u.cell? ⟨g, r.length * 5 + 2, none⟩ = some (.int .i64 f.pan) ∧ u.cell? ⟨g, r.length * 5 + 3, none⟩ = some (.int .i64 f.ph) ∧ u.cell? ⟨g, r.length * 5 + 4, none⟩ = some (.slice lo f.df.reverse.length lc)) := fun u hu => by
    refine ⟨?_, ?_, ?_, ?_, ?_⟩ <;> (rw [hu.cell hg]; assumption)
  have HW : Hid (Wk B p w (.slice (some ⟨g, 0, none⟩) (r.length + 1) cap) P T (xs ++ [⟨f, .slice lo f.df.reverse.length lc⟩]) st td) := h
  have HXL : Hid (xs.length = r.length ∧ xs.map (·.x) = r.reverse) := ⟨hxl, hxm⟩
  have hcap : (r.length : Int) ≤ (cap : Int) := by
    rcases h.fr.row.2 with ⟨h0, _⟩ | ⟨g', cap', cur, hv, -, -, hn, -⟩
    · cases h0
    · simp only [Value.slice.injEq, Option.some.injEq, Addr.mk.injEq, and_true, true_and] at hv
      simp at hn; omega
  have hmi : (r.length : Int) < (r.length : Int) + 1 := by omega
  have HWR : Hid (IntKind.i64.wrap (r.length : Int) = (r.length : Int)) := by show IntKind.i64.wrap (r.length : Int) = (r.length : Int); rw [IntKind.wrap_i64]; omega
  generalize f.df.reverse.length = ln at *
  clear h hB0 c0 c1 c2 c3 c4 hown hxl hxm
  go_enter Try.func53, Try.ntmps53
  go_wp2_with fail
  refine HRUN.out.mono ?_
  rintro e w1 ⟨rfl, hb1⟩
  obtain ⟨c0, c1, c2, c3, c4⟩ := HC.out w1 hb1
  have HB1 : Hid (Below w.heap.size w w1) := hb1
  obtain ⟨w2, hw2⟩ : ∃ x, x = w1.alloc (.cells #[.int .i64 f.id, .int .i64 f.mark, .int .i64 f.pan, .int .i64 f.ph, .slice lo ln lc] 53) := ⟨_, rfl⟩
  obtain ⟨gb, hgb⟩ : ∃ x, x = w1.heap.size := ⟨_, rfl⟩
  have HB2 : Hid (Below w.heap.size w w2) := by rw [hw2]; exact hb1.trans (((Below.refl _ _).alloc (Nat.le_refl _) _).mono hb1.size)
  have HBX : Hid (w2.heap[gb]? = some (.cells #[.int .i64 f.id, .int .i64 f.mark, .int .i64 f.pan, .int .i64 f.ph, .slice lo ln lc] 53 (0, 0))) := by rw [hw2, hgb]; exact box_stays (Below.refl _ _)
  clear hb1
  go_wp2_with fail
  rw [← hw2, ← hgb]
  clear hw2 hgb c0 c1 c2 c3 c4
  have hl : AllStab [isV (.pointer (some ⟨p, 0, none⟩)), isV (.pointer (some ⟨p, 0, none⟩)), isV (.pointer (some ⟨p, 0, none⟩)), isV (.pointer (some ⟨p, 0, none⟩)), isV (.pointer (some ⟨p, 0, none⟩)), isV (.slice (some ⟨g, 0, none⟩) (r.length + 1) cap), isV (.pointer (some ⟨p, 0, none⟩)), isV (.pointer (some ⟨p, 0, none⟩)), isV (.pointer (some ⟨p, 0, none⟩)), isV (.pointer (some ⟨p, 0, none⟩)), isV (.slice (some ⟨g, 0, none⟩) (r.length + 1) cap), isV (.int .i64 ((r.length : Int) + 1)), isV (.int .i64 (r.length : Int)), isV (.slice (some ⟨g, 0, none⟩) r.length cap), isV (.pointer (some ⟨p, 0, none⟩)), isV (.pointer (some ⟨p, 0, none⟩)), isV (.pointer (some ⟨p, 0, none⟩)), anyV] := ⟨stab_is _, stab_is _, stab_is _, stab_is _, stab_is _, stab_is _, stab_is _, stab_is _, stab_is _, stab_is _, stab_is _, stab_is _, stab_is _, stab_is _, stab_is _, stab_is _, stab_is _, stab_any, trivial⟩
  refine wp_joint (JB [isV (.pointer (some ⟨p, 0, none⟩)), isV (.pointer (some ⟨p, 0, none⟩)), isV (.pointer (some ⟨p, 0, none⟩)), isV (.pointer (some ⟨p, 0, none⟩)), isV (.pointer (some ⟨p, 0, none⟩)), isV (.slice (some ⟨g, 0, none⟩) (r.length + 1) cap), isV (.pointer (some ⟨p, 0, none⟩)), isV (.pointer (some ⟨p, 0, none⟩)), isV (.pointer (some ⟨p, 0, none⟩)), isV (.pointer (some ⟨p, 0, none⟩)), isV (.slice (some ⟨g, 0, none⟩) (r.length + 1) cap), isV (.int .i64 ((r.length : Int) + 1)), isV (.int .i64 (r.length : Int)), isV (.slice (some ⟨g, 0, none⟩) r.length cap), isV (.pointer (some ⟨p, 0, none⟩)), isV (.pointer (some ⟨p, 0, none⟩)), isV (.pointer (some ⟨p, 0, none⟩)), anyV] ([99, 99, 99, 99, 99, 99, 99, 99, 99, 99, 99, 99, 99, 99, 99, 99, 99, 99].getD · 99) (fun d f2 u => u.heap[gb]? = some (.cells #[.int .i64 f.id, .int .i64 f.mark, .int .i64 f.pan, .int .i64 f.ph, .slice lo ln lc] 53 (0, 0)) ∧ (d 17 = false → Wk B p u (.slice (some ⟨g, 0, none⟩) (r.length + 1) cap) P T (xs ++ [⟨f, .slice lo ln lc⟩]) st td) ∧ (d 17 = true → WkI B p u { st with fr := r } td)) B w2) (by kernel_rfl) (by kernel_rfl) (by kernel_rfl) (fun f => ⟨(Below.refl _ _).drew, (Nat.le_trans HB0.out HB2.out.size), rfl, (fun i h _ => by cases h), ⟨HBX.out, (fun _ => (HW.out.below HB2.out).below (Below.refl _ _).drew), fun h => by cases h⟩⟩) ?_ ?_
  · refine stepsOK5_cons (fun f2 d u hJ hn hd hno K hK => ?_) (stepsOK5_cons (fun f2 d u hJ hn hd hno K hK => ?_) (stepsOK5_cons (fun f2 d u hJ hn hd hno K hK => ?_) (stepsOK5_cons (fun f2 d u hJ hn hd hno K hK => ?_) (stepsOK5_cons (fun f2 d u hJ hn hd hno K hK => ?_) (stepsOK5_cons (fun f2 d u hJ hn hd hno K hK => ?_) (stepsOK5_cons (fun f2 d u hJ hn hd hno K hK => ?_) (stepsOK5_cons (fun f2 d u hJ hn hd hno K hK => ?_) (stepsOK5_cons (fun f2 d u hJ hn hd hno K hK => ?_) (stepsOK5_cons (fun f2 d u hJ hn hd hno K hK => ?_) (stepsOK5_cons (fun f2 d u hJ hn hd hno K hK => ?_) (stepsOK5_cons (fun f2 d u hJ hn hd hno K hK => ?_) (stepsOK5_cons (fun f2 d u hJ hn hd hno K hK => ?_) (stepsOK5_cons (fun f2 d u hJ hn hd hno K hK => ?_) (stepsOK5_cons (fun f2 d u hJ hn hd hno K hK => ?_) (stepsOK5_cons (fun f2 d u hJ hn hd hno K hK => ?_) (stepsOK5_cons (fun f2 d u hJ hn hd hno K hK => ?_) (stepsOK5_cons (fun f2 d u hJ hn hd hno K hK => ?_) stepsOK5_nil)))))))))))))))))
    · refine wanted_on rfl ?_
      simp only [putAll, Act.put, List.setIfInBounds_toArray, List.set_cons_zero, List.set_cons_succ] at hK ⊢
      go_simp
      exact hK _ _ _ rfl (hJ.grow hl (by decide) (Below.refl _ _) rfl hJ.more)
    · refine wanted_on rfl ?_
      simp only [putAll, Act.put, List.setIfInBounds_toArray, List.set_cons_zero, List.set_cons_succ] at hK ⊢
      go_simp
      exact hK _ _ _ rfl (hJ.grow hl (by decide) (Below.refl _ _) rfl hJ.more)
    · have e1 : f2 1 = (.pointer (some ⟨p, 0, none⟩)) := hJ.at 1 (hd 1 (by kernel_rfl)) hJ.none
      refine wanted_on rfl ?_
      simp only [putAll, Act.put, List.setIfInBounds_toArray, List.set_cons_zero, List.set_cons_succ, e1] at hK ⊢
      go_simp
      exact hK _ _ _ rfl (hJ.grow hl (by decide) (Below.refl _ _) rfl hJ.more)
    · have e2 : f2 2 = (.pointer (some ⟨p, 0, none⟩)) := hJ.at 2 (hd 2 (by kernel_rfl)) hJ.none
      refine wanted_on rfl ?_
      simp only [putAll, Act.put, List.setIfInBounds_toArray, List.set_cons_zero, List.set_cons_succ, e2] at hK ⊢
      go_simp
      exact hK _ _ _ rfl (hJ.grow hl (by decide) (Below.refl _ _) rfl hJ.more)
    · have e3 : f2 3 = (.pointer (some ⟨p, 0, none⟩)) := hJ.at 3 (hd 3 (by kernel_rfl)) hJ.none
      refine wanted_on rfl ?_
      simp only [putAll, Act.put, List.setIfInBounds_toArray, List.set_cons_zero, List.set_cons_succ, e3] at hK ⊢
      go_simp
      exact hK _ _ _ rfl (hJ.grow hl (by decide) (Below.refl _ _) rfl hJ.more)
    · have e4 : f2 4 = (.pointer (some ⟨p, 0, none⟩)) := hJ.at 4 (hd 4 (by kernel_rfl)) hJ.none
      obtain ⟨⟨y0, -⟩, -⟩ := box7 (hJ.more.2.1 (hno 17 (by kernel_rfl))).box
      refine wanted_on rfl ?_
      simp only [putAll, Act.put, List.setIfInBounds_toArray, List.set_cons_zero, List.set_cons_succ, e4] at hK ⊢
      go_simp
      exact hK _ _ _ rfl (hJ.grow hl (by decide) (Below.refl _ _) rfl hJ.more)
    · refine wanted_on rfl ?_
      simp only [putAll, Act.put, List.setIfInBounds_toArray, List.set_cons_zero, List.set_cons_succ] at hK ⊢
      go_simp
      exact hK _ _ _ rfl (hJ.grow hl (by decide) (Below.refl _ _) rfl hJ.more)
    · have e6 : f2 6 = (.pointer (some ⟨p, 0, none⟩)) := hJ.at 6 (hd 6 (by kernel_rfl)) hJ.none
      refine wanted_on rfl ?_
      simp only [putAll, Act.put, List.setIfInBounds_toArray, List.set_cons_zero, List.set_cons_succ, e6] at hK ⊢
      go_simp
      exact hK _ _ _ rfl (hJ.grow hl (by decide) (Below.refl _ _) rfl hJ.more)
    · have e7 : f2 7 = (.pointer (some ⟨p, 0, none⟩)) := hJ.at 7 (hd 7 (by kernel_rfl)) hJ.none
      refine wanted_on rfl ?_
      simp only [putAll, Act.put, List.setIfInBounds_toArray, List.set_cons_zero, List.set_cons_succ, e7] at hK ⊢
      go_simp
      exact hK _ _ _ rfl (hJ.grow hl (by decide) (Below.refl _ _) rfl hJ.more)
    · have e8 : f2 8 = (.pointer (some ⟨p, 0, none⟩)) := hJ.at 8 (hd 8 (by kernel_rfl)) hJ.none
      refine wanted_on rfl ?_
      simp only [putAll, Act.put, List.setIfInBounds_toArray, List.set_cons_zero, List.set_cons_succ, e8] at hK ⊢
      go_simp
      exact hK _ _ _ rfl (hJ.grow hl (by decide) (Below.refl _ _) rfl hJ.more)
    · have e9 : f2 9 = (.pointer (some ⟨p, 0, none⟩)) := hJ.at 9 (hd 9 (by kernel_rfl)) hJ.none
      obtain ⟨⟨y0, -⟩, -⟩ := box7 (hJ.more.2.1 (hno 17 (by kernel_rfl))).box
      refine wanted_on rfl ?_
      simp only [putAll, Act.put, List.setIfInBounds_toArray, List.set_cons_zero, List.set_cons_succ, e9] at hK ⊢
      go_simp
      exact hK _ _ _ rfl (hJ.grow hl (by decide) (Below.refl _ _) rfl hJ.more)
    · have e10 : f2 10 = (.slice (some ⟨g, 0, none⟩) (r.length + 1) cap) := hJ.at 10 (hd 10 (by kernel_rfl)) hJ.none
      refine wanted_on rfl ?_
      simp only [putAll, Act.put, List.setIfInBounds_toArray, List.set_cons_zero, List.set_cons_succ, e10] at hK ⊢
      go_simp
      exact hK _ _ _ rfl (hJ.grow hl (by decide) (Below.refl _ _) rfl hJ.more)
    · have e11 : f2 11 = (.int .i64 ((r.length : Int) + 1)) := hJ.at 11 (hd 11 (by kernel_rfl)) hJ.none
      have hwr := HWR.out
      refine wanted_on rfl ?_
      simp only [putAll, Act.put, List.setIfInBounds_toArray, List.set_cons_zero, List.set_cons_succ, e11] at hK ⊢
      go_simp
      exact hK _ _ _ rfl (hJ.grow hl (by decide) (Below.refl _ _) rfl hJ.more)
    · have e5 : f2 5 = (.slice (some ⟨g, 0, none⟩) (r.length + 1) cap) := hJ.at 5 (hd 5 (by kernel_rfl)) hJ.none
      have e12 : f2 12 = (.int .i64 (r.length : Int)) := hJ.at 12 (hd 12 (by kernel_rfl)) hJ.none
      refine wanted_on rfl ?_
      simp only [putAll, Act.put, List.setIfInBounds_toArray, List.set_cons_zero, List.set_cons_succ, e5, e12] at hK ⊢
      go_simp
      exact hK _ _ _ rfl (hJ.grow hl (by decide) (Below.refl _ _) rfl hJ.more)
    · have e0 : f2 0 = (.pointer (some ⟨p, 0, none⟩)) := hJ.at 0 (hd 0 (by kernel_rfl)) hJ.none
      refine wanted_on rfl ?_
      simp only [putAll, Act.put, List.setIfInBounds_toArray, List.set_cons_zero, List.set_cons_succ, e0] at hK ⊢
      go_simp
      exact hK _ _ _ rfl (hJ.grow hl (by decide) (Below.refl _ _) rfl hJ.more)
    · have e14 : f2 14 = (.pointer (some ⟨p, 0, none⟩)) := hJ.at 14 (hd 14 (by kernel_rfl)) hJ.none
      refine wanted_on rfl ?_
      simp only [putAll, Act.put, List.setIfInBounds_toArray, List.set_cons_zero, List.set_cons_succ, e14] at hK ⊢
      go_simp
      exact hK _ _ _ rfl (hJ.grow hl (by decide) (Below.refl _ _) rfl hJ.more)
    · have e15 : f2 15 = (.pointer (some ⟨p, 0, none⟩)) := hJ.at 15 (hd 15 (by kernel_rfl)) hJ.none
      refine wanted_on rfl ?_
      simp only [putAll, Act.put, List.setIfInBounds_toArray, List.set_cons_zero, List.set_cons_succ, e15] at hK ⊢
      go_simp
      exact hK _ _ _ rfl (hJ.grow hl (by decide) (Below.refl _ _) rfl hJ.more)
    · have e13 : f2 13 = (.slice (some ⟨g, 0, none⟩) r.length cap) := hJ.at 13 (hd 13 (by kernel_rfl)) hJ.none
      have e16 : f2 16 = (.pointer (some ⟨p, 0, none⟩)) := hJ.at 16 (hd 16 (by kernel_rfl)) hJ.none
      obtain ⟨⟨y0, -⟩, ⟨f0, -⟩⟩ := box7 (hJ.more.2.1 hn).box
      have hk := hJ.more.2.1 hn
      refine wanted_on rfl ?_
      simp only [putAll, Act.put, List.setIfInBounds_toArray, List.set_cons_zero, List.set_cons_succ, e13, e16] at hK ⊢
      go_simp
      obtain ⟨hk2, hb⟩ := hk.popF (f := f) HXL.out.1 HXL.out.2
      have hbx : (u.setCell ⟨p, 0, none⟩ (.slice (some ⟨g, 0, none⟩) r.length cap)).heap[gb]? = some (.cells #[.int .i64 f.id, .int .i64 f.mark, .int .i64 f.pan, .int .i64 f.ph, .slice lo ln lc] 53 (0, 0)) := by rw [heap_setCell_other _ _ _ _ (fun e => by simp at e; have h1 := hk.box; rw [← e, hJ.more.1] at h1; simp at h1)]; exact hJ.more.1
      refine hK _ (f2 17) _ rfl (hJ.step (by decide) hb (fun j h2 h3 h4 h5 h6 => ?_) trivial ⟨hbx, (fun h => by cases h), fun _ => ⟨_, _, _, _, hk2⟩⟩)
      match j, h6 with
      | 0, h6 => exact h6
      | 1, h6 => exact h6
      | 2, h6 => exact h6
      | 3, h6 => exact h6
      | 4, h6 => exact h6
      | 5, h6 => exact h6
      | 6, h6 => exact h6
      | 7, h6 => exact h6
      | 8, h6 => exact h6
      | 9, h6 => exact h6
      | 10, h6 => exact h6
      | 11, h6 => exact h6
      | 12, h6 => exact h6
      | 13, h6 => exact h6
      | 14, h6 => exact h6
      | 15, h6 => exact h6
      | 16, h6 => exact h6
      | 17, _ => exact trivial
      | j + 18, _ => exact trivial
  · intro f2 d u hJ hall
    obtain ⟨hbx, -, hfin⟩ := hJ.more
    have hW := hfin (hall 17 (by decide))
    simp only [putAll, Act.put, List.setIfInBounds_toArray, List.set_cons_zero, List.set_cons_succ]
    have HU : Hid (WkI B p u { st with fr := r } td) := hW
    have HBU : Hid (Below B w u) := (HB2.out.mono HB0.out).trans hJ.up
    obtain ⟨⟨q0, q1, q2, q3, q4⟩, -⟩ := box5 hbx
    clear hfin hW hall hJ hbx hl
    by_cases hph : f.ph = 1
    · have HD : Hid (st.dropS f r = ({ st with fr := r } : St).leftS f) := if_pos hph
      have HC2 : Hid (Calls Try.prog 57 #[.pointer (some ⟨p, 0, none⟩), .agg #[.int .i64 f.id, .int .i64 f.mark, .int .i64 f.pan, .int .i64 f.ph, .slice lo ln lc]] u fun x w' => x = .returned (.tuple #[]) ∧ WkI B p w' (st.dropS f r).1 (td ++ (st.dropS f r).2) ∧ Below B u w') := by
        rw [HD.out]
        exact own_left B p { st with fr := r } td f lo ln lc u HU.out (Nat.le_trans HB0.out HBU.out.size) hz hps hr
      rw [hph] at q3 HC2
      clear hph HD
      go_wp2_with fail
      refine HC2.out.mono ?_
      rintro x w3 ⟨rfl, h3, hb3⟩
      have HF : Hid (WkI B p w3 (st.dropS f r).1 (td ++ (st.dropS f r).2) ∧ Below B w w3) := ⟨h3, HBU.out.trans hb3⟩
      clear h3 hb3
      go_wp2_with fail
      go_end0
      exact ⟨rfl, HF.out⟩
    · have hphb : (f.ph == 1) = false := by simpa using hph
      have HD : Hid (st.dropS f r = ({ st with fr := r } : St).passedS f) := if_neg hph
      clear hph
      go_wp2_with fail
      refine (own_passed B p { st with fr := r } td f lo ln lc u HU.out (Nat.le_trans HB0.out HBU.out.size) hz hps hr).mono ?_
      rintro x w3 ⟨rfl, h3, hb3⟩
      have HF : Hid (WkI B p w3 (st.dropS f r).1 (td ++ (st.dropS f r).2) ∧ Below B w w3) := by rw [HD.out]; exact ⟨h3, HBU.out.trans hb3⟩
      clear h3 hb3
      go_wp2_with fail
      go_end0
      exact ⟨rfl, HF.out⟩
end Go.Proofs.Ytcnpoldcebdhjaa
