/- An activation that is called, or started; panics that end or are broken off. -/
import Derived.Test.YtcnpoldcebdhjaaQw3
namespace Go.Proofs.Ytcnpoldcebdhjaa
open Go.ChangeShapes Go.WideShapes Go.ChangeAt Go.RowKit
set_option maxRecDepth 100000
set_option linter.unusedSimpArgs false
set_option linter.unusedVariables false
def St.callS (st : St) : St × List Tl := if 30 ≤ st.fr.length then (st.done 6 0, [tEnd 6]) else (st.push 0 (-1), [⟨1, st.next, 0, .nix⟩])
set_option maxHeartbeats 1000000 in
theorem own_call (B p : Nat) (st : St) (td : List Tl) (w : World) (h : WkI B p w st td) (hB0 : B ≤ w.heap.size) (hz : td.length ≤ 1000000) (hn0 : 0 ≤ st.next) (hn1 : st.next ≤ 1000000) :
    Calls Try.prog 41 #[.pointer (some ⟨p, 0, none⟩)] w fun x w' => x = .returned (.tuple #[]) ∧ WkI B p w' st.callS.1 (td ++ st.callS.2) ∧ Below B w w' := by
  have HH : Hid (WkI B p w st td) := h
  have HB0 : Hid (B ≤ w.heap.size) := hB0
  have HN : Hid (0 ≤ st.next ∧ st.next ≤ 1000000) := ⟨hn0, hn1⟩
  clear h hB0 hn0 hn1
  go_enter Try.func41, Try.ntmps41
  go_wp2_with fail
  refine (own_begin B p st td 0 (-1) w HH.out HB0.out hz HN.out.1 HN.out.2).mono ?_
  rintro x w1 ⟨(⟨hl, rfl, h1⟩ | ⟨hl, rfl, h1⟩), hb⟩
  · have HF : Hid (WkI B p w1 st.callS.1 (td ++ st.callS.2) ∧ Below B w w1) := by unfold St.callS; rw [if_pos hl]; exact ⟨h1, hb⟩
    clear h1 hb hl
    go_wp2_with fail
    go_end0
    exact ⟨rfl, HF.out⟩
  · have HF : Hid (WkI B p w1 (st.push 0 (-1)) td ∧ Below B w w1) := ⟨h1, hb⟩
    have HL : Hid (¬ 30 ≤ st.fr.length) := by show ¬ 30 ≤ st.fr.length; omega
    clear h1 hb hl
    go_wp2_with fail
    refine (own_tell B p (st.push 0 (-1)) td ⟨1, st.next, 0, .nix⟩ w1 HF.out.1 (Nat.le_trans HB0.out HF.out.2.size) hz).mono ?_
    rintro x w2 ⟨rfl, h2, hb2⟩
    have HG : Hid (WkI B p w2 st.callS.1 (td ++ st.callS.2) ∧ Below B w w2) := by unfold St.callS; rw [if_neg HL.out]; exact ⟨h2, HF.out.2.trans hb2⟩
    clear h2 hb2
    go_wp2_with fail
    go_end0
    exact ⟨rfl, HG.out⟩
def isPan (ls : Int) : Value → World → Prop := fun v u => ∃ b off, v = .pointer (some ⟨b, off, none⟩) ∧ u.cell? ⟨b, off, none⟩ = some (.int .i64 ls)
theorem stab_pan (ls : Int) : Stab (isPan ls) := fun v w w' hb ⟨b, off, e, h⟩ => ⟨b, off, e, by rw [hb.cell (World.block_lt_of_cell? _ _ h)]; exact h⟩
def lastSer : List Pn → Int
  | [] => -1
  | q :: _ => q.ser
def lastRc : List Pn → Bool
  | [] => false
  | q :: _ => q.rc
/-- The last panic's cells, or those of one that stands nowhere. -/
theorem own_lastAny (B p : Nat) (F P T : Value) (fes : List Fe) (st : St) (td : List Tl) (w : World) (h : Wk B p w F P T fes st td) (hz : st.ps.length ≤ 1000000) :
    Calls Try.prog 54 #[.pointer (some ⟨p, 0, none⟩)] w fun e w' => ∃ b off, e = .returned (.pointer (some ⟨b, off, none⟩)) ∧ w'.cell? ⟨b, off, none⟩ = some (.int .i64 (lastSer st.ps)) ∧ w'.cell? ⟨b, off + 5, none⟩ = some (.bool (lastRc st.ps)) ∧ Below w.heap.size w w' := by
  rcases hps : st.ps with _ | ⟨q, r⟩
  · obtain ⟨po, pc, hP⟩ := row_slice h.ps
    rw [hps] at hP
    subst hP
    refine (own_noPanic p pc po _ _ _ _ _ _ w h.box).mono ?_
    rintro e w' ⟨rfl, hb, hB⟩
    obtain ⟨⟨c0, -, -, -, -, c5, -⟩, -⟩ := box7 hb
    exact ⟨_, 0, rfl, c0, c5, hB⟩
  · obtain ⟨g, cap, rfl, hB, hg, ⟨c0, -, -, -, -, c5, -⟩, -⟩ := h.last hps
    rw [hps] at hz
    refine (own_lastPanic p g r.length cap _ _ _ _ _ _ w (by simp at hz; omega) h.box).mono ?_
    rintro e w' ⟨rfl, hb⟩
    exact ⟨_, _, rfl, by rw [hb.cell hg]; exact c0, by rw [hb.cell hg]; exact c5, hb⟩
set_option maxHeartbeats 1000000 in
theorem own_startedBy (B p : Nat) (F P T : Value) (fes : List Fe) (st : St) (td : List Tl) (f : Fr) (r : List Fr) (w : World) (h : Wk B p w F P T fes st td) (hf : st.fr = f :: r) (hz : st.ps.length ≤ 1000000) (hr : r.length ≤ 1000000) :
    Calls Try.prog 56 #[.pointer (some ⟨p, 0, none⟩)] w fun e w' => e = .returned (.tuple #[.int .i64 (if f.ph = 1 then 1 else 2), .int .i64 (if f.ph = 1 then -1 else lastSer st.ps)]) ∧ Below w.heap.size w w' := by
  obtain ⟨g, cap, xs, L, hF, -, -, -, -, hg, ⟨-, -, -, c3, -⟩, -⟩ := h.top hf
  subst hF
  have HR : Hid (∀ u, Below w.heap.size w u → Calls Try.prog 42 #[.pointer (some ⟨p, 0, none⟩)] u fun e w' => e = .returned (.pointer (some ⟨g, r.length * 5, none⟩)) ∧ Below u.heap.size u w') := fun u hu => own_running p g r.length cap _ _ _ _ _ _ u hr (h.below hu).box
  have HC : Hid (∀ u, Below w.heap.size w u → u.cell? ⟨g, r.length * 5 + 3, none⟩ = some (.int .i64 f.ph)) := fun u hu => by rw [hu.cell hg]; exact c3
  have HL : Hid (∀ u, Below w.heap.size w u → Calls Try.prog 54 #[.pointer (some ⟨p, 0, none⟩)] u fun e w' => ∃ b off, e = .returned (.pointer (some ⟨b, off, none⟩)) ∧ w'.cell? ⟨b, off, none⟩ = some (.int .i64 (lastSer st.ps)) ∧ w'.cell? ⟨b, off + 5, none⟩ = some (.bool (lastRc st.ps)) ∧ Below u.heap.size u w') := fun u hu => own_lastAny B p _ _ _ _ st td u (h.below hu) hz
  clear h c3
  generalize lastSer st.ps = ls at *
  by_cases hp : f.ph = 1
  · rw [hp] at HC
    rw [if_pos hp, if_pos hp]
    clear hp
    go_enter Try.func56, Try.ntmps56
    go_wp2_with fail
    refine (HR.out w (Below.refl _ _)).mono ?_
    rintro e w1 ⟨rfl, hb⟩
    have c3 := HC.out w1 hb
    have HB1 : Hid (Below w.heap.size w w1) := hb
    clear hb
    go_wp2_with fail
    go_ret2
    exact ⟨rfl, HB1.out⟩
  · rw [if_neg hp, if_neg hp]
    have hpb : (f.ph == 1) = false := by simpa using hp
    go_enter Try.func56, Try.ntmps56
    go_wp2_with fail
    refine (HR.out w (Below.refl _ _)).mono ?_
    rintro e w1 ⟨rfl, hb⟩
    have c3 := HC.out w1 hb
    have HB1 : Hid (Below w.heap.size w w1) := hb
    clear hb
    go_wp2_with fail
    have hl : AllStab [isV (.pointer (some ⟨p, 0, none⟩)), isPan ls, isPan ls, isPan ls, isV (.int .i64 ls), isV (.int .i64 2), isV (.int .i64 ls)] := ⟨stab_is _, stab_pan _, stab_pan _, stab_pan _, stab_is _, stab_is _, stab_is _, trivial⟩
    refine wp_joint (JF [isV (.pointer (some ⟨p, 0, none⟩)), isPan ls, isPan ls, isPan ls, isV (.int .i64 ls), isV (.int .i64 2), isV (.int .i64 ls)] ([99, 99, 99, 99, 99, 99, 99].getD · 99) (fun _ _ _ => True) w1) (by kernel_rfl) (by kernel_rfl) (by kernel_rfl) (fun f => ⟨(Below.refl _ _).drew, rfl, (fun i h _ => by cases h), trivial⟩) ?_ ?_
    · refine stepsOK5_cons (fun f d u hJ hn hd hno K hK => ?_) (stepsOK5_cons (fun f d u hJ hn hd hno K hK => ?_) (stepsOK5_cons (fun f d u hJ hn hd hno K hK => ?_) (stepsOK5_cons (fun f d u hJ hn hd hno K hK => ?_) (stepsOK5_cons (fun f d u hJ hn hd hno K hK => ?_) (stepsOK5_cons (fun f d u hJ hn hd hno K hK => ?_) (stepsOK5_cons (fun f d u hJ hn hd hno K hK => ?_) stepsOK5_nil))))))
      · refine wanted_on rfl ?_
        simp only [putAll, Act.put, List.setIfInBounds_toArray, List.set_cons_zero, List.set_cons_succ] at hK ⊢
        go_simp
        exact hK _ _ _ rfl (hJ.grow hl (by decide) (Below.refl _ _) rfl trivial)
      · have e0 : f 0 = (.pointer (some ⟨p, 0, none⟩)) := hJ.at 0 (hd 0 (by kernel_rfl)) hJ.none
        refine wanted_on rfl ?_
        simp only [putAll, Act.put, List.setIfInBounds_toArray, List.set_cons_zero, List.set_cons_succ, e0] at hK ⊢
        go_simp
        refine (HL.out u (HB1.out.trans (hJ.up.mono HB1.out.size))).mono ?_
        rintro e u1 ⟨b, off, rfl, hc, -, hb⟩
        exact hK _ _ _ rfl (hJ.grow hl (by decide) hb ⟨b, off, rfl, hc⟩ trivial)
      · obtain ⟨b1, o1, e1, k1⟩ := hJ.at 1 (hd 1 (by kernel_rfl)) hJ.none
        refine wanted_on rfl ?_
        simp only [putAll, Act.put, List.setIfInBounds_toArray, List.set_cons_zero, List.set_cons_succ, e1] at hK ⊢
        go_simp
        exact hK _ _ _ rfl (hJ.grow hl (by decide) (Below.refl _ _) ⟨_, _, rfl, k1⟩ trivial)
      · obtain ⟨b2, o2, e2, k2⟩ := hJ.at 2 (hd 2 (by kernel_rfl)) hJ.none
        refine wanted_on rfl ?_
        simp only [putAll, Act.put, List.setIfInBounds_toArray, List.set_cons_zero, List.set_cons_succ, e2] at hK ⊢
        go_simp
        exact hK _ _ _ rfl (hJ.grow hl (by decide) (Below.refl _ _) ⟨_, _, rfl, k2⟩ trivial)
      · obtain ⟨b3, o3, e3, k3⟩ := hJ.at 3 (hd 3 (by kernel_rfl)) hJ.none
        refine wanted_on rfl ?_
        simp only [putAll, Act.put, List.setIfInBounds_toArray, List.set_cons_zero, List.set_cons_succ, e3] at hK ⊢
        go_simp
        exact hK _ _ _ rfl (hJ.grow hl (by decide) (Below.refl _ _) rfl trivial)
      · refine wanted_on rfl ?_
        simp only [putAll, Act.put, List.setIfInBounds_toArray, List.set_cons_zero, List.set_cons_succ] at hK ⊢
        go_simp
        exact hK _ _ _ rfl (hJ.grow hl (by decide) (Below.refl _ _) rfl trivial)
      · have e4 : f 4 = (.int .i64 ls) := hJ.at 4 (hd 4 (by kernel_rfl)) hJ.none
        refine wanted_on rfl ?_
        simp only [putAll, Act.put, List.setIfInBounds_toArray, List.set_cons_zero, List.set_cons_succ, e4] at hK ⊢
        go_simp
        exact hK _ _ _ rfl (hJ.grow hl (by decide) (Below.refl _ _) rfl trivial)
    · intro f2 d u hJ hall
      have e5 : f2 5 = (.int .i64 2) := hJ.at 5 (hall 5 (by decide)) hJ.none
      have e6 : f2 6 = (.int .i64 ls) := hJ.at 6 (hall 6 (by decide)) hJ.none
      simp only [putAll, Act.put, List.setIfInBounds_toArray, List.set_cons_zero, List.set_cons_succ, e5, e6]
      have HF : Hid (Below w.heap.size w u) := HB1.out.trans (hJ.up.mono HB1.out.size)
      go_wp2_with fail
      go_ret2
      exact ⟨rfl, HF.out⟩
end Go.Proofs.Ytcnpoldcebdhjaa
