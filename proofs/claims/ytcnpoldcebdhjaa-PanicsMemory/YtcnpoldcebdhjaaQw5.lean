/- What was kept last is started. -/
import Derived.Test.YtcnpoldcebdhjaaQw4
namespace Go.Proofs.Ytcnpoldcebdhjaa
open Go.ChangeShapes Go.WideShapes Go.ChangeAt Go.RowKit
set_option maxRecDepth 100000
set_option linter.unusedSimpArgs false
set_option linter.unusedVariables false
/-- The activation below the one that runs. -/
theorem Wk.second {B p : Nat} {w : World} {F P T : Value} {fes : List Fe} {st : St} {td : List Tl} {a f : Fr} {r : List Fr} (h : Wk B p w F P T fes st td) (hf : st.fr = a :: f :: r) :
    ∃ g cap xs L e, F = .slice (some ⟨g, 0, none⟩) (r.length + 2) cap ∧ fes = xs ++ ⟨f, L⟩ :: [e] ∧ e.x = a ∧ xs.length = r.length ∧ xs.map (·.x) = r.reverse ∧ B ≤ g ∧ g < w.heap.size ∧
      w.cell? ⟨g, r.length * 5 + 4, none⟩ = some L ∧ (∀ j, w.frozen? ⟨g, j, none⟩ = false) ∧ IOwn B w L f.df.reverse := by
  have hx := h.fr.xs
  rw [hf, List.reverse_cons, List.reverse_cons, List.append_assoc] at hx
  obtain ⟨xs, ys, rfl, h1, h2⟩ := List.map_eq_append_iff.1 hx
  obtain ⟨e, es, rfl, h3, h4⟩ := List.map_eq_cons_iff.1 h2
  obtain ⟨e2, es2, rfl, h5, h6⟩ := List.map_eq_cons_iff.1 h4
  have h6' : es2 = [] := List.map_eq_nil_iff.1 h6
  subst h6'
  obtain ⟨x, L⟩ := e
  simp only at h3
  subst h3
  have hl : xs.length = r.length := by have := congrArg List.length h1; simpa using this
  have hk : (xs ++ ⟨x, L⟩ :: [e2] : List Fe)[r.length]? = some ⟨x, L⟩ := by rw [← hl, List.getElem?_append_right (Nat.le_refl _)]; simp
  obtain ⟨g, cap, hv, hB, hg, hc, hz, -⟩ := own_at Fe.len h.fr.row hk
  refine ⟨g, cap, xs, L, e2, ?_, rfl, h5, hl, h1, hB, hg, ?_, hz, h.fr.own ⟨x, L⟩ (by simp)⟩
  · rw [hv]; simp [hl]
  · exact hc 4 _ rfl
theorem iown_last {B : Nat} {w : World} {L : Value} {ds : List Int} {d : Int} (h : IOwn B w L (d :: ds).reverse) : ∃ q c, L = .slice (some ⟨q, 0, none⟩) (ds.length + 1) c ∧ q < w.heap.size ∧ (ds.length : Int) ≤ (c : Int) ∧ w.cell? ⟨q, ds.length, none⟩ = some (.int .i64 d) ∧ IOwn B w (.slice (some ⟨q, 0, none⟩) ds.length c) ds.reverse := by
  rw [List.reverse_cons] at h
  rcases h.2 with ⟨_, h0⟩ | ⟨q, cap, cur, rfl, hB, hg, hcap, hmax, -⟩
  · simp at h0
  · refine ⟨q, cap, by simp, (Array.getElem?_eq_some_iff.1 hg).1, by simp at hcap; omega, ?_, ?_⟩
    · rw [World.ownsRow.cellAt h ds.length (by simp)]
      rw [List.getElem?_map, List.getElem?_append_right (by simp)]
      simp
    · have := IOwn.pop h
      rwa [List.length_reverse] at this
def St.startS (st : St) (f : Fr) (r : List Fr) (d : Int) (ds : List Int) : St × List Tl :=
  if 30 ≤ st.fr.length then (st.done 6 0, [tEnd 6])
  else ({ st with fr := ⟨st.next, if f.ph = 1 then 1 else 2, if f.ph = 1 then -1 else lastSer st.ps, 0, []⟩ :: { f with df := ds } :: r, next := st.next + 1 }, [⟨2, d, st.next, .nix⟩])
set_option maxHeartbeats 4000000 in
theorem own_startKept (B p : Nat) (st : St) (td : List Tl) (f : Fr) (r : List Fr) (d : Int) (ds : List Int) (w : World) (h : WkI B p w st td) (hf : st.fr = f :: r) (hd : f.df = d :: ds) (hB0 : B ≤ w.heap.size) (hz : td.length ≤ 1000000) (hn0 : 0 ≤ st.next) (hn1 : st.next ≤ 1000000) (hps : st.ps.length ≤ 1000000) (hr : r.length ≤ 1000000) (hds : ds.length ≤ 1000000) :
    Calls Try.prog 52 #[.pointer (some ⟨p, 0, none⟩)] w fun x w' => x = .returned (.tuple #[]) ∧ WkI B p w' (st.startS f r d ds).1 (td ++ (st.startS f r d ds).2) ∧ Below B w w' := by
  obtain ⟨F, P, T, fes, h⟩ := h
  obtain ⟨g, cap, xs, L, hF, -, -, -, -, hg, -, -⟩ := h.top hf
  subst hF
  obtain ⟨⟨x0, -⟩, -⟩ := box7 h.box
  have HS : Hid (Calls Try.prog 56 #[.pointer (some ⟨p, 0, none⟩)] w fun e w' => e = .returned (.tuple #[.int .i64 (if f.ph = 1 then 1 else 2), .int .i64 (if f.ph = 1 then -1 else lastSer st.ps)]) ∧ Below w.heap.size w w') := own_startedBy B p _ _ _ _ st td f r w h hf hps hr
  have HH : Hid (WkI B p w st td) := ⟨_, _, _, _, h⟩
  have HB0 : Hid (B ≤ w.heap.size) := hB0
  have HN : Hid (0 ≤ st.next ∧ st.next ≤ 1000000) := ⟨hn0, hn1⟩
  have HFR : Hid (st.fr = f :: r) := hf
  have HD : Hid (f.df = d :: ds) := hd
  have hmi : (r.length : Int) < (r.length : Int) + 1 := by omega
  have HST : Hid (∀ q, st.startS f r d ds = q → st.startS f r d ds = q) := fun _ h => h
  obtain ⟨mk, hmk⟩ : ∃ x, x = (if f.ph = 1 then (1 : Int) else 2) := ⟨_, rfl⟩
  obtain ⟨pn, hpn⟩ : ∃ x, x = (if f.ph = 1 then (-1 : Int) else lastSer st.ps) := ⟨_, rfl⟩
  rw [← hmk, ← hpn] at HS
  have HM : Hid (mk = (if f.ph = 1 then (1 : Int) else 2) ∧ pn = (if f.ph = 1 then (-1 : Int) else lastSer st.ps)) := ⟨hmk, hpn⟩
  clear h hmk hpn hn0 hn1 hf hd hB0
  go_enter Try.func52, Try.ntmps52
  go_wp2_with fail
  refine HS.out.mono ?_
  rintro e w1 ⟨rfl, hb1⟩
  have HB1 : Hid (Below w.heap.size w w1) := hb1
  clear hb1
  go_wp2_with fail
  refine (own_begin B p st td mk pn w1 (HH.out.below HB1.out) (Nat.le_trans HB0.out HB1.out.size) hz HN.out.1 HN.out.2).mono ?_
  rintro x w2 ⟨(⟨hl, rfl, h1⟩ | ⟨hl, rfl, h1⟩), hb⟩
  · have HF : Hid (WkI B p w2 (st.startS f r d ds).1 (td ++ (st.startS f r d ds).2) ∧ Below B w w2) := by unfold St.startS; rw [if_pos hl]; exact ⟨h1, (HB1.out.mono HB0.out).trans hb⟩
    clear h1 hb hl
    go_wp2_with fail
    refine bodyPost_ret (results_none Try.results52 _ _ _) rfl ?_
    exact ⟨rfl, HF.out⟩
  · have HLT : Hid (¬ 30 ≤ st.fr.length) := by show ¬ 30 ≤ st.fr.length; omega
    obtain ⟨F2, P2, T2, fes2, h1⟩ := h1
    have hfr2 : (st.push mk pn).fr = ⟨st.next, mk, pn, 0, []⟩ :: f :: r := by show _ :: st.fr = _; rw [HFR.out]
    obtain ⟨g2, cap2, xs2, L2, e2, rfl, rfl, he2, hxl, hxm, hgB, hg2, c4, fz, hown⟩ := h1.second hfr2
    rw [HD.out] at hown
    obtain ⟨q, c, rfl, hq, hlc, cq, hpop⟩ := iown_last hown
    obtain ⟨⟨y0, -⟩, -⟩ := box7 h1.box
    have HW2 : Hid (Wk B p w2 (.slice (some ⟨g2, 0, none⟩) (r.length + 2) cap2) P2 T2 (xs2 ++ ⟨f, .slice (some ⟨q, 0, none⟩) (ds.length + 1) c⟩ :: [e2]) (st.push mk pn) td) := h1
    have HB2 : Hid (Below B w w2) := (HB1.out.mono HB0.out).trans hb
    have hmi2 : (r.length : Int) < (r.length : Int) + 2 := by omega
    have hmi3 : (ds.length : Int) < (ds.length : Int) + 1 := by omega
    clear h1 hb hl hpop hown fz
    go_wp2_with fail
    refine (own_tellW B p _ _ _ _ (st.push mk pn) td ⟨2, d, st.next, .nix⟩ w2 HW2.out (Nat.le_trans HB0.out HB2.out.size) hz).mono ?_
    rintro x w3 ⟨rfl, ⟨T3, h3⟩, hb3, -⟩
    obtain ⟨g3, cap3, xs3, L3, e3, hF3, hfe3, -, hxl3, hxm3, -, hg3, c43, fz3, hown3⟩ := h3.second hfr2
    cases hF3
    obtain ⟨rfl, hfe4⟩ := List.append_inj hfe3 (by omega)
    simp only [List.cons.injEq, Fe.mk.injEq, true_and, and_true] at hfe4
    obtain ⟨rfl, rfl⟩ := hfe4
    rw [HD.out] at hown3
    obtain ⟨q', c', hL3, hq', -, cq', hpop3⟩ := iown_last hown3
    cases hL3
    obtain ⟨hfin, hbfin⟩ := h3.frset (i := 4) (f' := { f with df := ds }) (L' := .slice (some ⟨q, 0, none⟩) ds.length c) (u := .slice (some ⟨q, 0, none⟩) ds.length c) (st' := { st with fr := ⟨st.next, mk, pn, 0, []⟩ :: { f with df := ds } :: r, next := st.next + 1 }) (by decide) rfl hpop3 (.inr rfl) (by simp [St.push, he2, hxm3, hxm])
    rw [hxl3] at hfin hbfin
    have HFIN : Hid (WkI B p (w3.setCell ⟨g2, r.length * 5 + 4, none⟩ (.slice (some ⟨q, 0, none⟩) ds.length c)) (st.startS f r d ds).1 (td ++ (st.startS f r d ds).2) ∧ Below B w (w3.setCell ⟨g2, r.length * 5 + 4, none⟩ (.slice (some ⟨q, 0, none⟩) ds.length c))) := by
      refine ⟨?_, (HB2.out.trans hb3).trans hbfin⟩
      unfold St.startS
      rw [if_neg HLT.out, ← HM.out.1, ← HM.out.2]
      exact ⟨_, _, _, _, hfin⟩
    have fzz := fz3 (r.length * 5 + 4)
    clear h3 hb3 hfin hbfin hpop3 hown3 fz3 cq' hfe3
    go_wp2_with fail
    go_end0
    exact ⟨rfl, HFIN.out⟩
end Go.Proofs.Ytcnpoldcebdhjaa
