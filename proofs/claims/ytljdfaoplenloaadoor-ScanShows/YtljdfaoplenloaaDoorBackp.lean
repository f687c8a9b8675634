/- What is shown is cut into the same tokens: plain laws. -/
import Derived.Test.YtljdfaoplenloaaDoorShow
import Derived.Test.YtljdfaoplenloaaDoorRemarks
namespace Go.Proofs.YtljdfaoplenloaaDoor
open Go.RowKit
set_option linter.unusedSimpArgs false
set_option linter.unusedVariables false

/-- The text of tokens, from the front. -/
def sufL : List Tj → List UInt8
  | [] => []
  | t :: r => t.text.data.toList ++ (sepL t (decide (r ≠ [])) ++ sufL r)
theorem shP_suf (l : List Tj) : ∀ k, k ≤ l.length → shP l k ++ sufL (l.drop k) = sufL l
  | 0, _ => by simp [shP]
  | k + 1, hk => by
    have hg : l[k]? = some l[k] := List.getElem?_eq_getElem (by omega)
    have ih := shP_suf l k (by omega)
    rw [List.drop_eq_getElem_cons (by omega)] at ih
    rw [shP_succ hg, ← ih, sufL]
    have e : decide (k + 1 < l.length) = decide (l.drop (k + 1) ≠ []) := by
      rw [decide_eq_decide, ne_eq, List.drop_eq_nil_iff]; omega
    rw [e]
    simp [List.append_assoc]
theorem sh_suf (l : List Tj) : shP l l.length = sufL l := by
  have := shP_suf l l.length (Nat.le_refl _)
  rwa [List.drop_length, show sufL [] = [] from rfl, List.append_nil] at this
theorem whole_parts {t : Tj} (h : wholeB t = true) : ∃ h0 : 0 < t.text.size, (fsT t.text h0).2.2 = 0 ∧ (fsT t.text h0).1 = t.kind ∧ (fsT t.text h0).2.1 = (t.text.size : Int) := by
  unfold wholeB at h
  split at h
  · rename_i h0
    simp at h
    exact ⟨h0, h.1, h.2.1, h.2.2⟩
  · cases h
/-- What begins no token. -/
theorem fs_blank {r : ByteArray} (h : 0 < r.size) (hb : r[0] = 10 ∨ r[0] = 32 ∨ r[0] = 9 ∨ r[0] = 13) : (fsT r h).2.2 ≠ 0 := by
  have key : ∀ c : UInt8, (c = 10 ∨ c = 32 ∨ c = 9 ∨ c = 13) → ltrI c.toNat = false ∧ dgtI c.toNat = false ∧ c ≠ 34 ∧ c ≠ 59 := by
    rintro c (rfl | rfl | rfl | rfl) <;> decide
  obtain ⟨k1, k2, k3, k4⟩ := key _ hb
  unfold fsT
  rw [k1, k2, if_neg (by decide), if_neg (by decide), if_neg k3, if_neg k4]
  have hs : ∀ k, k ≤ r.size → 1 ≤ k → sgnB (r.extract 0 k) = false := fun k hk h1 => by
    have hl : (r.extract 0 k).data.toList[0]? = some r[0] := by
      rw [take_list, List.getElem?_take_of_lt (by omega)]; exact get0 h
    cases hc : sgnB (r.extract 0 k) with
    | false => rfl
    | true =>
      unfold sgnB at hc
      rw [List.any_eq_true] at hc
      obtain ⟨t, ht, e⟩ := hc
      have e' : (r.extract 0 k).data.toList = t.data.toList := by simpa [ByteArray.toList_eq] using e
      rw [e'] at hl
      have all : ∀ t ∈ sgnL, t.data.toList[0]? ≠ some 10 ∧ t.data.toList[0]? ≠ some 32 ∧ t.data.toList[0]? ≠ some 9 ∧ t.data.toList[0]? ≠ some 13 := by decide
      obtain ⟨a1, a2, a3, a4⟩ := all t ht
      rcases hb with hb | hb | hb | hb <;> rw [hb] at hl <;> contradiction
  have hz : sgnN r = 0 := by
    unfold sgnN
    rw [if_neg, if_neg]
    · rw [hs 1 h (Nat.le_refl _)]; decide
    · rintro ⟨h2, h3⟩
      rw [hs 2 h2 (by omega)] at h3
      cases h3
  unfold sgT
  rw [if_pos hz]
  decide
/-- A whole token does not begin a remark. -/
theorem whole_pre {t : Tj} (h : wholeB t = true) : Lib.hasPrefix t.text.data.toList [47, 47] = false := by
  obtain ⟨h0, e1, e2, e3⟩ := whole_parts h
  cases hp : Lib.hasPrefix t.text.data.toList [47, 47] with
  | false => rfl
  | true =>
    exfalso
    obtain ⟨u, hu⟩ : ∃ u, t.text.data.toList = 47 :: 47 :: u := by
      unfold Lib.hasPrefix at hp
      rw [List.isPrefixOf_iff_prefix] at hp
      obtain ⟨u, hu⟩ := hp
      exact ⟨u, hu.symm⟩
    have h47 := get0_of h0 hu
    have hz : 2 ≤ t.text.size := by have := congrArg List.length hu; rw [bsize_list] at this; simp at this; omega
    have hk : ltrI t.text[0].toNat = false ∧ dgtI t.text[0].toNat = false := by rw [h47]; decide
    unfold fsT at e3
    rw [hk.1, hk.2, if_neg (by decide), if_neg (by decide), if_neg (by rw [h47]; decide), if_neg (by rw [h47]; decide)] at e3
    have hs : sgnN t.text ≤ 1 := by
      unfold sgnN
      rw [if_neg]
      · split <;> omega
      · rintro ⟨_, h3⟩
        unfold sgnB at h3
        rw [List.any_eq_true] at h3
        obtain ⟨x, hx, e⟩ := h3
        have e' : (t.text.extract 0 2).data.toList = x.data.toList := by simpa [ByteArray.toList_eq] using e
        rw [take_list, hu] at e'
        have all : ∀ t ∈ sgnL, t.data.toList ≠ [47, 47] := by decide
        exact all x hx (by rw [← e']; rfl)
    unfold sgT at e3
    split at e3
    · simp only at e3; omega
    · simp only at e3; omega
/-- A semicolon by itself. -/
theorem whole_semi {t : Tj} (h : wholeB t = true) (hk : t.kind = 6) : t.text = ⟨#[59]⟩ := by
  obtain ⟨h0, e1, e2, e3⟩ := whole_parts h
  rw [hk] at e2
  unfold fsT at e1 e2 e3
  split at e2
  · unfold nmT at e2; (repeat' split at e2) <;> simp at e2
  · split at e2
    · unfold inT at e2; (repeat' split at e2) <;> simp at e2
    · split at e2
      · unfold txT at e2; (repeat' split at e2) <;> simp at e2
      · split at e2
        · rename_i g1 g2 g3 h59
          rw [if_neg g1, if_neg g2, if_neg g3, if_pos h59] at e3
          simp only at e3
          have hz : t.text.size = 1 := by omega
          apply ba_ext
          have hl : t.text.data.toList.length = 1 := by rw [bsize_list]; exact hz
          have hg := get0 h0
          match hm : t.text.data.toList, hl with
          | [c], _ =>
            rw [hm] at hg
            simp at hg
            rw [hg, h59]
        · unfold sgT at e2; (repeat' split at e2) <;> simp at e2
/-- One token more, at the rest r. -/
theorem stp_tok {s : Sc} {r : ByteArray} {t : Tj} (h : wholeB t = true) (hr : 0 < r.size) (hl : s.ts.length < 2000)
    (hw : r = t.text ∨ (t.kind ≠ 6 ∧ ∃ tl, More t.text r tl) ∨ (t.kind = 6 ∧ ∃ tl, r.data.toList = 59 :: 10 :: tl)) :
    ∃ s1 : Sc, s.stepR r hr = .ok s1 ∧ s1.pos = s.pos + t.text.size ∧ ∃ ln cl, s1.ts = s.ts ++ [⟨t.kind, t.text, ln, cl⟩] := by
  obtain ⟨h0, e1, e2, e3⟩ := whole_parts h
  have hpre := whole_pre h
  have facts : fsT r hr = fsT t.text h0 ∧ r[0] = t.text[0] ∧ Lib.hasPrefix r.data.toList [47, 47] = false ∧ r.extract 0 t.text.size = t.text := by
    have self : t.text.extract 0 t.text.size = t.text := by apply ba_ext; rw [take_list, List.take_of_length_le (by rw [bsize_list]; exact Nat.le_refl _)]
    rcases hw with rfl | ⟨hk, tl, m⟩ | ⟨hk, tl, hd⟩
    · exact ⟨rfl, rfl, hpre, self⟩
    · exact ⟨m.first h0 hr e1, m.get h0 hr, by rw [m.pre h0]; exact hpre, by rw [m.ext (Nat.le_refl _)]; exact self⟩
    · have ht := whole_semi h hk
      have r0 := get0_of hr hd
      have t0 : t.text[0] = 59 := get0_of h0 (t := []) (by rw [ht])
      refine ⟨?_, by rw [r0, t0], by rw [hd]; rfl, ?_⟩
      · unfold fsT
        rw [r0, t0]
        rfl
      · apply ba_ext
        rw [take_list, hd, ht]
        rfl
  obtain ⟨f1, f2, f3, f4⟩ := facts
  have hnb : ∀ c : UInt8, (c = 10 ∨ c = 32 ∨ c = 9 ∨ c = 13) → t.text[0] ≠ c := fun c hc e => fs_blank h0 (by rw [e]; exact hc) e1
  have hn : (fsT t.text h0).2.1.toNat = t.text.size := by rw [e3]; rfl
  refine ⟨{ s.put t.kind t.text with pos := s.pos + t.text.size }, ?_, rfl, s.line, s.col, rfl⟩
  unfold Sc.stepR
  rw [f1, f2, f3, if_neg (hnb 10 (by decide)), if_neg (by rintro (e | e | e) <;> exact hnb _ (by decide) e), if_neg (by decide), if_pos e1, hn, f4, e2]
  unfold Sc.addR
  rw [if_neg (by omega)]
def KT (l : List Tj) : List (Int × ByteArray) := l.map fun t => (t.kind, t.text)
def KK (l : List Tk) : List (Int × ByteArray) := l.map fun t => (t.kind, t.text)
theorem may_semi (t : ByteArray) : mayT 6 t = false := by simp [mayT]
/-- All of them. -/
theorem run_back {src : ByteArray} : ∀ (l : List Tj) (f : Nat) (s : Sc), src.data.toList.drop s.pos = sufL l → s.pos ≤ src.size → src.size < f + s.pos → (∀ t ∈ l, wholeB t = true) → s.ts.length + l.length ≤ 2000 →
    ∃ s' : Sc, runR src f s = s'.closeR ∧ KK s'.ts = KK s.ts ++ KT l
  | [], f, s, hd, hp, hf, _, _ => by
    have hz : s.pos = src.size := by
      have := List.drop_eq_nil_iff.1 hd
      rw [bsize_list] at this
      omega
    exact ⟨s, runR_end (by omega) hp hf, by simp [KT]⟩
  | t :: r, f, s, hd, hp, hf, hw, hl => by
    have ht := hw t (by simp)
    obtain ⟨h0, -, -, -⟩ := whole_parts ht
    rw [sufL] at hd
    simp only [List.length_cons] at hl
    have hlen := congrArg List.length hd
    rw [List.length_drop, bsize_list, List.length_append, bsize_list, List.length_append] at hlen
    have h1 : s.pos < src.size := by omega
    obtain ⟨g, rfl, e1⟩ := runR_step h1 hf
    have hrest : (src.extract s.pos src.size).data.toList = t.text.data.toList ++ (sepL t (decide (r ≠ [])) ++ sufL r) := by rw [drop_list]; exact hd
    by_cases hk : t.kind = 6
    · have hsep : sepL t (decide (r ≠ [])) = [10] := by unfold sepL; rw [if_pos hk]
      rw [hsep] at hrest hd hlen
      have htx := whole_semi ht hk
      obtain ⟨s1, q1, q2, ln, cl, q3⟩ := stp_tok (s := s) ht (rest_pos h1) (by omega) (.inr (.inr ⟨hk, sufL r, by rw [hrest, htx]; rfl⟩))
      rw [q1] at e1
      simp only at e1
      have hsz : t.text.size = 1 := by rw [htx]; rfl
      simp only [List.length_cons, List.length_nil] at hlen
      have h2 : s1.pos < src.size := by rw [q2]; omega
      obtain ⟨g', rfl, e2⟩ := runR_step (f := g) h2 (by rw [q2]; omega)
      have d1 : src.data.toList.drop s1.pos = 10 :: sufL r := by
        rw [q2, ← List.drop_drop, hd, ← bsize_list t.text, List.drop_left]; rfl
      have d1' : (src.extract s1.pos src.size).data.toList = 10 :: sufL r := by rw [drop_list]; exact d1
      have hc : s1.closeR = .ok s1 := by
        unfold Sc.closeR
        rw [q3, List.getLast?_concat]
        simp only
        rw [hk, may_semi, if_neg (by decide)]
      have e3 : s1.stepR (src.extract s1.pos src.size) (rest_pos h2) = .ok ⟨s1.pos + 1, s1.line + 1, s1.pos + 1, s1.ts⟩ := by
        unfold Sc.stepR
        rw [if_pos (get0_of _ d1'), hc]
      rw [e3] at e2
      simp only at e2
      obtain ⟨s', p1, p2⟩ := run_back r g' ⟨s1.pos + 1, s1.line + 1, s1.pos + 1, s1.ts⟩ (by show src.data.toList.drop (s1.pos + 1) = _; rw [← List.drop_drop, d1]; rfl) (by show s1.pos + 1 ≤ _; omega) (by show _ < g' + (s1.pos + 1); rw [q2] at *; omega) (fun u hu => hw u (by simp [hu])) (by show s1.ts.length + _ ≤ _; rw [q3]; simp; omega)
      refine ⟨s', by rw [e1, e2, p1], ?_⟩
      rw [p2]
      show KK s1.ts ++ _ = _
      rw [q3]
      simp [KK, KT]
    · cases hr : r with
      | nil =>
        subst hr
        have hsep : sepL t (decide (([] : List Tj) ≠ [])) = [] := by unfold sepL; rw [if_neg hk]; rfl
        rw [hsep] at hrest hd hlen
        simp [sufL] at hrest hd hlen
        obtain ⟨s1, q1, q2, ln, cl, q3⟩ := stp_tok (s := s) ht (rest_pos h1) (by omega) (.inl (ba_ext (by simpa using hrest)))
        rw [q1] at e1
        simp only at e1
        refine ⟨s1, by rw [e1]; exact runR_end (by rw [q2]; omega) (by rw [q2]; omega) (by rw [q2]; omega), ?_⟩
        rw [q3]
        simp [KK, KT]
      | cons u r' =>
        have hsep : sepL t (decide (r ≠ [])) = [32] := by unfold sepL; rw [if_neg hk, hr]; rfl
        rw [hsep] at hrest hd hlen
        simp only [List.length_cons, List.length_nil] at hlen
        obtain ⟨s1, q1, q2, ln, cl, q3⟩ := stp_tok (s := s) ht (rest_pos h1) (by omega) (.inr (.inl ⟨hk, sufL r, ⟨by simpa using hrest⟩⟩))
        rw [q1] at e1
        simp only at e1
        have h2 : s1.pos < src.size := by rw [q2]; omega
        obtain ⟨g', rfl, e2⟩ := runR_step (f := g) h2 (by rw [q2]; omega)
        have d1 : src.data.toList.drop s1.pos = 32 :: sufL r := by
          rw [q2, ← List.drop_drop, hd, ← bsize_list t.text, List.drop_left]; rfl
        have d1' : (src.extract s1.pos src.size).data.toList = 32 :: sufL r := by rw [drop_list]; exact d1
        rw [stp_blank s1 _ d1'] at e2
        simp only at e2
        obtain ⟨s', p1, p2⟩ := run_back r g' { s1 with pos := s1.pos + 1 } (by show src.data.toList.drop (s1.pos + 1) = _; rw [← List.drop_drop, d1]; rfl) (by show s1.pos + 1 ≤ _; omega) (by show _ < g' + (s1.pos + 1); rw [q2] at *; omega) (fun u hu => hw u (by simp [hu])) (by show s1.ts.length + _ ≤ _; rw [q3]; simp; omega)
        refine ⟨s', by rw [e1, e2, p1], ?_⟩
        rw [p2, ← hr]
        show KK s1.ts ++ _ = _
        rw [q3]
        simp [KK, KT]
/-- What is shown is cut into the same tokens; a semicolon more may stand behind. -/
theorem tok_back {l : List Tj} (h : showE l = 0) :
    (∃ e, tokR ⟨(showV l).toArray⟩ = .ok e ∧ (KK e.ts = KT l ∨ KK e.ts = KT l ++ [(6, ⟨#[59]⟩)])) ∨ (l.length = 2000 ∧ ∃ ln cl, tokR ⟨(showV l).toArray⟩ = .bad 15 ln cl) := by
  have hV : showV l = sufL l := by unfold showV; rw [if_pos h, sh_suf]
  unfold showE at h
  split at h
  · cases h
  · split at h
    · cases h
    · split at h
      · cases h
      · rename_i g1 g2 g3
        rw [sh_suf] at g3
        have hw : ∀ t ∈ l, wholeB t = true := by
          have : l.all wholeB = true := by simpa using g2
          simpa [List.all_eq_true] using this
        rw [hV]
        have hsz : (⟨(sufL l).toArray⟩ : ByteArray).size = (sufL l).length := by rw [← bsize_list]
        unfold tokR
        rw [if_neg (by rw [hsz]; omega)]
        obtain ⟨s', p1, p2⟩ := run_back (src := ⟨(sufL l).toArray⟩) l ((⟨(sufL l).toArray⟩ : ByteArray).size + 1) sc0 (by simp [sc0]) (by simp [sc0]) (by simp [sc0]) hw (by simp [sc0]; omega)
        have p2' : KK s'.ts = KT l := by rw [p2]; simp [sc0, KK]
        have hlen : s'.ts.length = l.length := by have := congrArg List.length p2'; simpa [KK, KT] using this
        rw [p1]
        unfold Sc.closeR
        split
        · exact .inl ⟨_, rfl, .inl p2'⟩
        · split
          · unfold Sc.addR
            split
            · exact .inr ⟨by omega, _, _, rfl⟩
            · refine .inl ⟨_, rfl, .inr ?_⟩
              show KK (s'.ts ++ _) = _
              rw [← p2']
              simp [KK]
          · exact .inl ⟨_, rfl, .inl p2'⟩
end Go.Proofs.YtljdfaoplenloaaDoor
