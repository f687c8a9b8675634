/- Down through all that leave, or that a panic goes through. -/
import Derived.Test.YtcnpoldcebdhjaaQw8
namespace Go.Proofs.Ytcnpoldcebdhjaa
open Go.ChangeShapes Go.WideShapes Go.ChangeAt Go.RowKit
set_option maxRecDepth 100000
set_option linter.unusedSimpArgs false
set_option linter.unusedVariables false
def St.more (st : St) : Bool := st.fin == 0 && (match st.fr with | f :: _ => f.ph != 0 | [] => false)
def St.unw1 (st : St) : St × List Tl :=
  match st.fr with
  | [] => (st, [])
  | f :: r => match f.df with
    | d :: ds => st.startS f r d ds
    | [] => st.dropS f r
def unwind : Nat → St → List Tl → St × List Tl
  | 0, st, td => (st, td)
  | n + 1, st, td => if st.more = true then unwind n st.unw1.1 (td ++ st.unw1.2) else (st, td)
theorem unwind_stop {st : St} (h : st.more = false) (n : Nat) (td : List Tl) : unwind n st td = (st, td) := by
  cases n with
  | zero => rfl
  | succ n => unfold unwind; rw [h]; rfl
theorem startS_stops (st : St) (f : Fr) (r : List Fr) (d : Int) (ds : List Int) : (st.startS f r d ds).1.more = false := by
  unfold St.startS St.more
  split
  · simp [St.done]
  · simp
structure Fine (st : St) (td : List Tl) : Prop where
  fr : st.fr.length ≤ 1000
  df : ∀ f ∈ st.fr, f.df.length ≤ 1000000
  ps : st.ps.length ≤ 1000000
  td : td.length + 2 * st.fr.length ≤ 800000
  n0 : 0 ≤ st.next
  n1 : st.next ≤ 1000000
  go : st.fin = 0 → st.fr ≠ []
theorem endP_len (ps : List Pn) : (endP ps).length ≤ ps.length := by
  unfold endP
  have h1 := (List.dropWhile_sublist (fun q : Pn => q.ab) (l := ps.tail)).length_le
  have h2 : ps.tail.length ≤ ps.length := by simp
  omega
theorem abortP_len (s : Int) (ps : List Pn) : (abortP s ps).length = ps.length := by simp [abortP]
theorem dropS_len (st : St) (f : Fr) (r : List Fr) : (st.dropS f r).1.fr.length = r.length ∧ (st.dropS f r).2.length ≤ 2 ∧ (st.dropS f r).1.next = st.next ∧ (st.dropS f r).1.ps.length ≤ st.ps.length := by
  have he := endP_len st.ps
  have ha := abortP_len f.pan st.ps
  unfold St.dropS
  split
  · unfold St.leftS
    cases r with
    | nil => simp [St.done]
    | cons g r =>
      simp only
      split
      · exact ⟨rfl, by simp, rfl, he⟩
      · exact ⟨rfl, by simp, rfl, Nat.le_refl _⟩
  · unfold St.passedS
    cases r with
    | nil => simp [St.done]
    | cons g r =>
      simp only
      refine ⟨rfl, by simp, trivial, ?_⟩
      split
      · omega
      · exact Nat.le_refl _
theorem dropS_df (st : St) (f : Fr) (r : List Fr) (P : List Int → Prop) (h : ∀ x ∈ r, P x.df) : ∀ x ∈ (st.dropS f r).1.fr, P x.df := by
  unfold St.dropS
  split
  · unfold St.leftS
    cases r with
    | nil => simp [St.done]
    | cons g r =>
      simp only
      split
      · intro x hx
        rcases List.mem_cons.1 hx with rfl | hx
        · exact h g (by simp)
        · exact h x (by simp [hx])
      · exact h
  · unfold St.passedS
    cases r with
    | nil => simp [St.done]
    | cons g r =>
      simp only
      intro x hx
      rcases List.mem_cons.1 hx with rfl | hx
      · exact h g (by simp)
      · exact h x (by simp [hx])
theorem dropS_go (st : St) (f : Fr) (r : List Fr) : (st.dropS f r).1.fin = 0 → (st.dropS f r).1.fr ≠ [] := by
  unfold St.dropS
  split
  · unfold St.leftS
    cases r with
    | nil => simp [St.done]
    | cons g r => simp only; split <;> simp
  · unfold St.passedS
    cases r with
    | nil => simp [St.done]
    | cons g r => simp
theorem Fine.drop {st : St} {td : List Tl} (h : Fine st td) {f : Fr} {r : List Fr} (hf : st.fr = f :: r) : Fine (st.dropS f r).1 (td ++ (st.dropS f r).2) := by
  obtain ⟨h1, h2, h3, h4⟩ := dropS_len st f r
  have a1 := h.fr; have a2 := h.td
  rw [hf] at a1 a2
  simp only [List.length_cons] at a1 a2
  have := h.ps
  refine ⟨by omega, dropS_df st f r (fun l => l.length ≤ 1000000) (fun x hx => h.df x (by rw [hf]; simp [hx])), by omega, by rw [List.length_append]; omega, by rw [h3]; exact h.n0, by rw [h3]; exact h.n1, dropS_go st f r⟩
theorem startS_go (st : St) (f : Fr) (r : List Fr) (d : Int) (ds : List Int) : (st.startS f r d ds).1.fin = 0 → (st.startS f r d ds).1.fr ≠ [] := by
  unfold St.startS
  split
  · simp [St.done]
  · simp
/-- How far down it is at most: read off memory. -/
def ume (p : Nat) (w : World) : Nat :=
  match w.cell? ⟨p, 0, none⟩, w.cell? ⟨p, 4, none⟩ with
  | some (.slice (some a) n _), some (.int _ e) => if e = 0 then (match w.cell? ⟨a.block, (n - 1) * 5 + 3, none⟩ with | some (.int _ ph) => if ph = 0 then 0 else n + 1 | _ => 0) else 0
  | _, _ => 0
theorem ume_is {B p : Nat} {w : World} {st : St} {td : List Tl} (h : WkI B p w st td) (hg : st.fin = 0 → st.fr ≠ []) : ume p w = if st.more = true then st.fr.length + 1 else 0 := by
  obtain ⟨F, P, T, fes, h⟩ := h
  obtain ⟨⟨x0, -, -, -, x4, -⟩, -⟩ := box7 h.box
  by_cases he : st.fin = 0
  · obtain ⟨f, r, hf⟩ : ∃ f r, st.fr = f :: r := by
      cases hc : st.fr with
      | nil => exact absurd hc (hg he)
      | cons f r => exact ⟨f, r, rfl⟩
    obtain ⟨g, cap, xs, L, rfl, -, -, -, -, -, ⟨-, -, -, c3, -⟩, -⟩ := h.top hf
    unfold ume
    rw [x0, x4]
    simp only [he, if_true, Nat.add_sub_cancel, c3]
    unfold St.more
    rw [hf, he]
    by_cases hp : f.ph = 0
    · simp [hp]
    · simp [hp]
  · unfold ume
    rw [x0, x4]
    have hm : st.more = false := by unfold St.more; simp [he]
    rw [hm]
    cases F with
    | slice ao n c => cases ao <;> simp [he]
    | _ => simp
set_option maxHeartbeats 8000000 in
theorem own_unwind (B p : Nat) (st : St) (td : List Tl) (w : World) (h : WkI B p w st td) (hB0 : B ≤ w.heap.size) (hfine : Fine st td) :
    Calls Try.prog 43 #[.pointer (some ⟨p, 0, none⟩)] w fun x w' => x = .returned (.tuple #[]) ∧ WkI B p w' (unwind (st.fr.length + 1) st td).1 (unwind (st.fr.length + 1) st td).2 ∧ Below B w w' := by
  have HB0 : Hid (B ≤ w.heap.size) := hB0
  have HH : Hid (WkI B p w st td) := h
  have HFI : Hid (Fine st td) := hfine
  obtain ⟨tg, htg⟩ : ∃ x, x = unwind (st.fr.length + 1) st td := ⟨_, rfl⟩
  rw [← htg]
  have HT : Hid (unwind (st.fr.length + 1) st td = tg) := htg.symm
  clear h hB0 hfine htg
  go_enter Try.func43, Try.ntmps43
  go_wp2_with fail
  go_loopw [] (fun wr => ∃ st' td', Hid (WkI B p wr st' td') ∧ Hid (st'.more = true → Fine st' td') ∧ Hid (st'.fin = 0 → st'.fr ≠ []) ∧ Hid (st'.fr.length ≤ 1001) ∧ Hid (unwind (st'.fr.length + 1) st' td' = tg) ∧ Hid (Below B w wr)) (fun wr => ume p wr)
  case atStart => exact ⟨st, td, HH.out, fun _ => HFI.out, HFI.out.go, (by have := HFI.out.fr; show _ ≤ 1001; omega), HT.out, Below.refl _ _⟩
  case round =>
    obtain ⟨st', td', HK, HFN, HGO, HLN, HTG, HB⟩ := hrel
    obtain ⟨wq, hwq⟩ : ∃ x, wr = x := ⟨_, rfl⟩
    subst hwq
    obtain ⟨F, P, T, fes, hk⟩ := HK.out
    obtain ⟨⟨x0, -, -, -, x4, -⟩, -⟩ := box7 hk.box
    have HWK : Hid (Wk B p wr F P T fes st' td') := hk
    have HBW : Hid (B ≤ wr.heap.size) := Nat.le_trans HB0.out HB.out.size
    by_cases he : st'.fin = 0
    · obtain ⟨f, r, hf⟩ : ∃ f r, st'.fr = f :: r := by
        cases hc : st'.fr with
        | nil => exact absurd hc (HGO.out he)
        | cons f r => exact ⟨f, r, rfl⟩
      have HF0 : Hid (st'.fr = f :: r) := hf
      have HFIN0 : Hid (st'.fin = 0) := he
      have hr1 : r.length ≤ 1000000 := by have := HLN.out; rw [hf] at this; simp at this; omega
      obtain ⟨g, cap, xs, L, rfl, rfl, -, -, -, hg, ⟨-, -, -, c3, c4⟩, -, hown⟩ := hk.top hf
      obtain ⟨lo, lc, rfl⟩ := IOwn.shape hown
      have HRUN : Hid (∀ u, Below wr.heap.size wr u → Calls Try.prog 42 #[.pointer (some ⟨p, 0, none⟩)] u fun e w' => e = .returned (.pointer (some ⟨g, r.length * 5, none⟩)) ∧ Below u.heap.size u w') := fun u hu => own_running p g r.length cap _ _ _ _ _ _ u hr1 (hk.below hu).box
      have HC : Hid (∀ u, Below wr.heap.size wr u → u.cell? ⟨g, r.length * 5 + 3, none⟩ = some (.int .i64 f.ph) ∧ u.cell? ⟨g, r.length * 5 + 4, none⟩ = some (.slice lo f.df.reverse.length lc)) := fun u hu => ⟨by rw [hu.cell hg]; exact c3, by rw [hu.cell hg]; exact c4⟩
      rw [he] at x4
      clear hk c3 c4 hown hf he
      by_cases hph : f.ph = 0
      · have HSTOP : Hid (st'.more = false) := by show st'.more = false; unfold St.more; rw [HF0.out]; simp [hph]
        have HFIN : Hid (∀ u, Below wr.heap.size wr u → WkI B p u tg.1 tg.2 ∧ Below B w u) := fun u hu => by
          have := HTG.out
          rw [unwind_stop HSTOP.out] at this
          rw [← this]
          exact ⟨HK.out.below hu, HB.out.trans (hu.mono HBW.out)⟩
        rw [hph] at HC
        clear hph
        go_wp2_with fail
        refine (HRUN.out wr (Below.refl _ _)).mono ?_
        rintro e w1 ⟨rfl, hb1⟩
        obtain ⟨q3, q4⟩ := HC.out w1 hb1
        have HF' := HFIN.out w1 hb1
        have HF2 : Hid (WkI B p w1 tg.1 tg.2 ∧ Below B w w1) := HF'
        clear hb1 HF'
        go_wp2_with fail
        go_end0
        exact ⟨rfl, HF2.out⟩
      · have hphb : (f.ph != 0) = true := by simpa using hph
        have hphb2 : (f.ph == 0) = false := by simpa using hph
        have HMORE : Hid (st'.more = true) := by show st'.more = true; unfold St.more; rw [HF0.out, HFIN0.out]; simp [hph]
        have HU : Hid (unwind (st'.fr.length) st'.unw1.1 (td' ++ st'.unw1.2) = tg) := by
          have := HTG.out
          unfold unwind at this
          rw [if_pos HMORE.out] at this
          exact this
        have hfn := HFN.out HMORE.out
        have HFN2 : Hid (Fine st' td') := hfn
        have HUM : Hid (ume p wr = st'.fr.length + 1) := by
          have := ume_is HK.out HGO.out
          rw [HMORE.out] at this
          exact this
        clear hfn
        go_wp2_with fail
        refine (HRUN.out wr (Below.refl _ _)).mono ?_
        rintro e w1 ⟨rfl, hb1⟩
        obtain ⟨q3, q4⟩ := HC.out w1 hb1
        have HB1 : Hid (Below wr.heap.size wr w1) := hb1
        clear hb1
        go_wp2_with fail
        refine (HRUN.out w1 HB1.out).mono ?_
        rintro e w2 ⟨rfl, hb2⟩
        obtain ⟨q5, q6⟩ := HC.out w2 (HB1.out.trans (hb2.mono HB1.out.size))
        have HB2 : Hid (Below wr.heap.size wr w2) := HB1.out.trans (hb2.mono HB1.out.size)
        clear hb2 q3 q4
        rcases hdf : f.df with _ | ⟨d, ds⟩
        · rw [hdf] at q6
          have HD : Hid (st'.unw1 = st'.dropS f r) := by show st'.unw1 = _; unfold St.unw1; rw [HF0.out]; simp only [hdf]
          clear hdf
          go_wp2_with fail
          refine (own_drop B p st' td' f r w2 (HK.out.below HB2.out) HF0.out (Nat.le_trans HBW.out HB2.out.size) (by have := HFN2.out.td; omega) HFN2.out.ps hr1).mono ?_
          rintro x w3 ⟨rfl, h3, hb3⟩
          have HW3 : Hid (WkI B p w3 (st'.dropS f r).1 (td' ++ (st'.dropS f r).2)) := h3
          have HB3 : Hid (Below B w w3) := (HB.out.trans (HB2.out.mono HBW.out)).trans hb3
          have hfine3 : Fine (st'.dropS f r).1 (td' ++ (st'.dropS f r).2) := HFN2.out.drop HF0.out
          have HFN3 : Hid (Fine (st'.dropS f r).1 (td' ++ (st'.dropS f r).2)) := hfine3
          have HL3 : Hid ((st'.dropS f r).1.fr.length = r.length) := (dropS_len st' f r).1
          have HM3 : Hid (ume p w3 < ume p wr) := by
            show ume p w3 < ume p wr
            rw [HUM.out, ume_is h3 hfine3.go, HL3.out, HF0.out]
            split <;> simp
          have HT3 : Hid (unwind ((st'.dropS f r).1.fr.length + 1) (st'.dropS f r).1 (td' ++ (st'.dropS f r).2) = tg) := by
            have := HU.out
            rw [HD.out, HF0.out] at this
            rw [HL3.out]
            exact this
          clear h3 hb3 hfine3
          go_wp2_with fail
          go_roundw
          case rel => exact ⟨_, _, HW3.out, (fun _ => HFN3.out), HFN3.out.go, (by have := HFN3.out.fr; show _ ≤ 1001; omega), HT3.out, HB3.out⟩
          case measure => exact HM3.out
        · rw [hdf] at q6
          have HD : Hid (st'.unw1 = st'.startS f r d ds) := by show st'.unw1 = _; unfold St.unw1; rw [HF0.out]; simp only [hdf]
          have HDF : Hid (f.df = d :: ds) := hdf
          have hln : (0 : Int) < ((d :: ds).reverse.length : Int) := by simp
          have hds : ds.length ≤ 1000000 := by have := HFN2.out.df f (by rw [HF0.out]; simp); rw [hdf] at this; simp at this; omega
          generalize (d :: ds).reverse.length = ln at *
          clear hdf
          go_wp2_with fail
          refine (own_startKept B p st' td' f r d ds w2 (HK.out.below HB2.out) HF0.out HDF.out (Nat.le_trans HBW.out HB2.out.size) (by have := HFN2.out.td; omega) HFN2.out.n0 HFN2.out.n1 HFN2.out.ps hr1 hds).mono ?_
          rintro x w3 ⟨rfl, h3, hb3⟩
          have HW3 : Hid (WkI B p w3 (st'.startS f r d ds).1 (td' ++ (st'.startS f r d ds).2)) := h3
          have HB3 : Hid (Below B w w3) := (HB.out.trans (HB2.out.mono HBW.out)).trans hb3
          have HS3 : Hid ((st'.startS f r d ds).1.more = false) := startS_stops _ _ _ _ _
          have HM3 : Hid (ume p w3 < ume p wr) := by
            show ume p w3 < ume p wr
            rw [HUM.out, ume_is h3 (startS_go _ _ _ _ _), HS3.out]
            simp
          have HL3 : Hid ((st'.startS f r d ds).1.fr.length ≤ 1001) := by
            show (st'.startS f r d ds).1.fr.length ≤ 1001
            have := HFN2.out.fr
            rw [HF0.out] at this
            simp at this
            unfold St.startS
            split
            · simp only [St.done, HF0.out, List.length_cons]; omega
            · simp only [List.length_cons]; omega
          have HT3 : Hid (unwind ((st'.startS f r d ds).1.fr.length + 1) (st'.startS f r d ds).1 (td' ++ (st'.startS f r d ds).2) = tg) := by
            have := HU.out
            rw [HD.out, unwind_stop HS3.out] at this
            rw [unwind_stop HS3.out]
            exact this
          clear h3 hb3
          go_wp2_with fail
          go_roundw
          case rel => exact ⟨_, _, HW3.out, (fun h => by rw [HS3.out] at h; cases h), startS_go _ _ _ _ _, HL3.out, HT3.out, HB3.out⟩
          case measure => exact HM3.out
    · have heb : (st'.fin == 0) = false := by simpa using he
      have HSTOP : Hid (st'.more = false) := by show st'.more = false; unfold St.more; rw [heb]; rfl
      have HF2 : Hid (WkI B p wr tg.1 tg.2 ∧ Below B w wr) := by
        have := HTG.out
        rw [unwind_stop HSTOP.out] at this
        rw [← this]
        exact ⟨HK.out, HB.out⟩
      clear hk he
      go_wp2_with fail
      go_end0
      exact ⟨rfl, HF2.out⟩
end Go.Proofs.Ytcnpoldcebdhjaa
