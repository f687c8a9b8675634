/- How the activation below goes on. -/
import Derived.Test.YtcnpoldcebdhjaaQw6
namespace Go.Proofs.Ytcnpoldcebdhjaa
open Go.ChangeShapes Go.WideShapes Go.ChangeAt Go.RowKit
set_option maxRecDepth 100000
set_option linter.unusedSimpArgs false
set_option linter.unusedVariables false
/-- The running activation's phase is set. -/
theorem Wk.setPh {B p : Nat} {w : World} {F P T : Value} {fes : List Fe} {st : St} {td : List Tl} {f : Fr} {r : List Fr} (h : Wk B p w F P T fes st td) (hf : st.fr = f :: r) (x : Int) (hr : r.length ≤ 1000000) :
    ∃ g, (∀ u, Below w.heap.size w u → Calls Try.prog 42 #[.pointer (some ⟨p, 0, none⟩)] u fun e w' => e = .returned (.pointer (some ⟨g, r.length * 5, none⟩)) ∧ Below u.heap.size u w') ∧
      ∀ u, Below w.heap.size w u → u.cell? ⟨g, r.length * 5 + 3, none⟩ = some (.int .i64 f.ph) ∧ u.frozen? ⟨g, r.length * 5 + 3, none⟩ = false ∧ Hid (WkI B p (u.setCell ⟨g, r.length * 5 + 3, none⟩ (.int .i64 x)) { st with fr := { f with ph := x } :: r } td ∧ Below B u (u.setCell ⟨g, r.length * 5 + 3, none⟩ (.int .i64 x))) := by
  obtain ⟨g, cap, xs, L, rfl, rfl, hl, hm, -, -, -, -, -⟩ := h.top hf
  refine ⟨g, fun u hu => own_running p g r.length cap _ _ _ _ _ _ u hr (h.below hu).box, fun u hu => ?_⟩
  have hk := h.below hu
  obtain ⟨g', cap', xs', L', hF, hfe, hl', hm', -, hg, ⟨-, -, -, c3, -⟩, hz, hown⟩ := hk.top hf
  cases hF
  refine ⟨c3, hz _, ?_⟩
  obtain ⟨h1, h2⟩ := hk.frset (xs := xs) (ys := []) (f' := { f with ph := x }) (L' := L) (i := 3) (u := .int .i64 x) (st' := { st with fr := { f with ph := x } :: r }) (by decide) rfl (by obtain ⟨rfl, he⟩ := List.append_inj hfe (by omega); simp at he; subst he; exact hown) (.inr rfl) (by simp [hm])
  rw [hl] at h1 h2
  have hI : WkI B p (u.setCell ⟨g, r.length * 5 + 3, none⟩ (.int .i64 x)) { st with fr := { f with ph := x } :: r } td := ⟨_, _, _, _, h1⟩
  exact ⟨hI, h2⟩
def St.leftS (st : St) (gone : Fr) : St × List Tl :=
  match st.fr with
  | [] => (st.done 1 0, [⟨3, gone.id, 0, .nix⟩, tEnd 1])
  | g :: r => if gone.mark = 2 ∧ lastRc st.ps = true then ({ st with ps := endP st.ps, fr := { g with ph := 1 } :: r }, [⟨3, gone.id, 0, .nix⟩]) else (st, [⟨3, gone.id, 0, .nix⟩])
def St.passedS (st : St) (gone : Fr) : St × List Tl :=
  match st.fr with
  | [] => (st.done 2 2, [⟨4, gone.id, 0, .nix⟩, tEnd 2])
  | g :: r => ({ st with ps := if gone.mark = 2 then abortP gone.pan st.ps else st.ps, fr := { g with ph := 2 } :: r }, [⟨4, gone.id, 0, .nix⟩])
theorem box5 {w : World} {b : Nat} {c0 c1 c2 c3 c4 : Value} {t : TypeId} (h : w.heap[b]? = some (.cells #[c0, c1, c2, c3, c4] t (0, 0))) :
    (w.cell? ⟨b, 0, none⟩ = some c0 ∧ w.cell? ⟨b, 1, none⟩ = some c1 ∧ w.cell? ⟨b, 2, none⟩ = some c2 ∧ w.cell? ⟨b, 3, none⟩ = some c3 ∧ w.cell? ⟨b, 4, none⟩ = some c4) ∧
    (w.frozen? ⟨b, 0, none⟩ = false ∧ w.frozen? ⟨b, 1, none⟩ = false ∧ w.frozen? ⟨b, 2, none⟩ = false ∧ w.frozen? ⟨b, 3, none⟩ = false ∧ w.frozen? ⟨b, 4, none⟩ = false) := by
  simp [World.cell?, World.frozen?, h]
set_option maxHeartbeats 4000000 in
theorem own_left (B p : Nat) (st : St) (td : List Tl) (gone : Fr) (lo : Option Addr) (ln lc : Nat) (w : World) (h : WkI B p w st td) (hB0 : B ≤ w.heap.size) (hz : td.length ≤ 900000) (hps : st.ps.length ≤ 1000000) (hr : st.fr.length ≤ 1000000) :
    Calls Try.prog 57 #[.pointer (some ⟨p, 0, none⟩), .agg #[.int .i64 gone.id, .int .i64 gone.mark, .int .i64 gone.pan, .int .i64 gone.ph, .slice lo ln lc]] w fun x w' => x = .returned (.tuple #[]) ∧ WkI B p w' (st.leftS gone).1 (td ++ (st.leftS gone).2) ∧ Below B w w' := by
  obtain ⟨F, P, T, fes, h⟩ := h
  have HB0 : Hid (B ≤ w.heap.size) := hB0
  obtain ⟨g, hg⟩ : ∃ g, g = w.heap.size := ⟨_, rfl⟩
  obtain ⟨w0, hw0⟩ : ∃ x, x = w.alloc (.cells #[.int .i64 gone.id, .int .i64 gone.mark, .int .i64 gone.pan, .int .i64 gone.ph, .slice lo ln lc] 53) := ⟨_, rfl⟩
  have HW0 : Hid (Below w.heap.size w w0) := by rw [hw0]; exact (Below.refl _ _).alloc (Nat.le_refl _) _
  have HG : Hid (w0.heap[g]? = some (.cells #[.int .i64 gone.id, .int .i64 gone.mark, .int .i64 gone.pan, .int .i64 gone.ph, .slice lo ln lc] 53 (0, 0))) := by rw [hw0, hg]; exact box_stays (Below.refl _ _)
  have HH : Hid (Wk B p w0 F P T fes st td) := h.below HW0.out
  have HZ : Hid (td.length ≤ 900000) := hz
  obtain ⟨fo, fc, hF⟩ := row_slice h.fr.row
  have hfl : fes.length = st.fr.length := by rw [h.fr.len, List.length_reverse]
  rw [hfl] at hF
  subst hF
  obtain ⟨⟨g0, g1, g2, g3, g4⟩, -⟩ := box5 HG.out
  clear h hB0 hfl
  go_enter Try.func57, Try.ntmps57
  go_wp2_with fail
  rw [← hw0, ← hg]
  clear hw0 hg
  go_wp2_with fail
  refine (own_tellW B p _ _ _ _ st td ⟨3, gone.id, 0, .nix⟩ w0 HH.out (Nat.le_trans HB0.out HW0.out.size) (by have := HZ.out; omega)).mono ?_
  rintro x w1 ⟨rfl, ⟨T1, h1⟩, hb1, hfar⟩
  have hbox := hfar g _ _ _ HG.out (by decide) (by decide)
  obtain ⟨⟨q0, q1, q2, q3, q4⟩, -⟩ := box5 hbox
  obtain ⟨⟨x0, -⟩, -⟩ := box7 h1.box
  have HW1 : Hid (Wk B p w1 (.slice fo st.fr.length fc) P T1 fes st (td ++ [⟨3, gone.id, 0, .nix⟩])) := h1
  have HB1 : Hid (Below B w w1) := (HW0.out.mono HB0.out).trans hb1
  clear h1 hb1 hfar hbox g0 g1 g2 g3 g4
  rcases hfr : st.fr with _ | ⟨f, r⟩
  · rw [hfr] at x0
    have HFR : Hid (st.fr = []) := hfr
    clear hfr
    go_wp2_with fail
    refine (own_finish B p st (td ++ [⟨3, gone.id, 0, .nix⟩]) 1 0 w1 ⟨_, _, _, _, HW1.out⟩ (Nat.le_trans HB0.out HB1.out.size) (by have := HZ.out; simp; omega)).mono ?_
    rintro x w2 ⟨rfl, h2, hb2⟩
    have HF : Hid (WkI B p w2 (st.leftS gone).1 (td ++ (st.leftS gone).2) ∧ Below B w w2) := by
      unfold St.leftS
      rw [HFR.out]
      refine ⟨?_, HB1.out.trans hb2⟩
      rw [List.append_assoc] at h2
      exact h2
    clear h2 hb2
    go_wp2_with fail
    refine bodyPost_ret (results_none Try.results57 _ _ _) rfl ?_
    exact ⟨rfl, HF.out⟩
  · rw [hfr] at x0
    have HFR : Hid (st.fr = f :: r) := hfr
    have hlen : ((f :: r).length : Int) = (r.length : Int) + 1 := by simp
    have hr2 : r.length ≤ 1000000 := by rw [hfr] at hr; simp at hr; omega
    simp only [List.length_cons] at x0
    clear hfr hr hlen
    by_cases hmk : gone.mark = 2
    · have HM : Hid (gone.mark = 2) := hmk
      rw [hmk] at q1
      clear hmk
      go_wp2_with fail
      refine (own_lastAny B p _ _ _ _ st _ w1 HW1.out hps).mono ?_
      rintro e w2 ⟨b, off, rfl, -, c5, hb⟩
      have HB2 : Hid (Below w1.heap.size w1 w2) := hb
      clear hb
      cases hrc : lastRc st.ps with
      | false =>
        rw [hrc] at c5
        have HF : Hid (WkI B p w2 (st.leftS gone).1 (td ++ (st.leftS gone).2) ∧ Below B w w2) := by
          unfold St.leftS
          rw [HFR.out, hrc]
          simp only [Bool.false_eq_true, and_false, if_false]
          have : WkI B p w2 st (td ++ [⟨3, gone.id, 0, .nix⟩]) := ⟨_, _, _, _, HW1.out.below HB2.out⟩
          exact ⟨this, HB1.out.trans (HB2.out.mono (Nat.le_trans HB0.out HB1.out.size))⟩
        clear hrc
        go_wp2_with fail
        go_end0
        exact ⟨rfl, HF.out⟩
      | true =>
        rw [hrc] at c5
        have HRC : Hid (lastRc st.ps = true) := hrc
        obtain ⟨q, rp, hqp⟩ : ∃ q rp, st.ps = q :: rp := by
          cases hp : st.ps with
          | nil => rw [hp] at hrc; cases hrc
          | cons q rp => exact ⟨q, rp, rfl⟩
        have HQ : Hid (st.ps = q :: rp) := hqp
        have hrp : rp.length ≤ 1000000 := by rw [hqp] at hps; simp at hps; omega
        clear hrc hqp hps
        go_wp2_with fail
        refine (own_endPanic B p st _ q rp w2 ⟨_, _, _, _, HW1.out.below HB2.out⟩ HQ.out (Nat.le_trans (Nat.le_trans HB0.out HB1.out.size) HB2.out.size) hrp).mono ?_
        rintro x w3 ⟨rfl, ⟨F3, P3, T3, fes3, h3⟩, hb3⟩
        have hf3 : ({ st with ps := endP st.ps } : St).fr = f :: r := HFR.out
        obtain ⟨g3, hrun, hset⟩ := h3.setPh hf3 1 hr2
        have HSET : Hid (∀ u, Below w3.heap.size w3 u → u.cell? ⟨g3, r.length * 5 + 3, none⟩ = some (.int .i64 f.ph) ∧ u.frozen? ⟨g3, r.length * 5 + 3, none⟩ = false ∧ Hid (WkI B p (u.setCell ⟨g3, r.length * 5 + 3, none⟩ (.int .i64 1)) { st with ps := endP st.ps, fr := { f with ph := 1 } :: r } (td ++ [⟨3, gone.id, 0, .nix⟩]) ∧ Below B u (u.setCell ⟨g3, r.length * 5 + 3, none⟩ (.int .i64 1)))) := hset
        have HRUN : Hid (Calls Try.prog 42 #[.pointer (some ⟨p, 0, none⟩)] w3 fun e w' => e = .returned (.pointer (some ⟨g3, r.length * 5, none⟩)) ∧ Below w3.heap.size w3 w') := hrun w3 (Below.refl _ _)
        have HB3 : Hid (Below B w w3) := (HB1.out.trans (HB2.out.mono (Nat.le_trans HB0.out HB1.out.size))).trans hb3
        clear h3 hb3 hf3 hrun hset
        go_wp2_with fail
        refine HRUN.out.mono ?_
        rintro e w4 ⟨rfl, hb4⟩
        obtain ⟨y3, yf, HS⟩ := HSET.out w4 hb4
        have HF : Hid (WkI B p (w4.setCell ⟨g3, r.length * 5 + 3, none⟩ (.int .i64 1)) (st.leftS gone).1 (td ++ (st.leftS gone).2) ∧ Below B w (w4.setCell ⟨g3, r.length * 5 + 3, none⟩ (.int .i64 1))) := by
          unfold St.leftS
          rw [HFR.out, HRC.out, HM.out]
          simp only [and_self, if_true]
          exact ⟨HS.out.1, (HB3.out.trans (hb4.mono (Nat.le_trans HB0.out HB3.out.size))).trans HS.out.2⟩
        clear hb4 HS
        go_wp2_with fail
        go_end0
        exact ⟨rfl, HF.out⟩
    · have hmb : (gone.mark == 2) = false := by simpa using hmk
      have HF : Hid (WkI B p w1 (st.leftS gone).1 (td ++ (st.leftS gone).2) ∧ Below B w w1) := by
        unfold St.leftS
        rw [HFR.out]
        simp only [hmk, false_and, if_false]
        have : WkI B p w1 st (td ++ [⟨3, gone.id, 0, .nix⟩]) := ⟨_, _, _, _, HW1.out⟩
        exact ⟨this, HB1.out⟩
      go_wp2_with fail
      go_end0
      exact ⟨rfl, HF.out⟩
end Go.Proofs.Ytcnpoldcebdhjaa
