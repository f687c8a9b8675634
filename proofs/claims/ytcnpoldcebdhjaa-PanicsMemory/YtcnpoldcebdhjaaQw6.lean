/- Panics that end, and panics that are broken off. -/
import Derived.Test.YtcnpoldcebdhjaaQw5
namespace Go.Proofs.Ytcnpoldcebdhjaa
open Go.ChangeShapes Go.WideShapes Go.ChangeAt Go.RowKit
set_option maxRecDepth 100000
set_option linter.unusedSimpArgs false
set_option linter.unusedVariables false
section
variable {α : Type} {s : Nat} {c : α → List Value}
theorem rc_take (hs : ∀ x, (c x).length = s) : ∀ (l : List α) (m : Nat), rc c (l.take m) = (rc c l).take (m * s)
  | [], m => by simp [rc]
  | x :: r, 0 => by simp [rc]
  | x :: r, m + 1 => by
    have := rc_take hs r m
    simp only [rc, List.take_succ_cons, List.flatMap_cons] at this ⊢
    rw [this, List.take_append, List.take_of_length_le (l := c x) (by rw [hs, Nat.succ_mul]; omega), hs, show (m + 1) * s - s = m * s by rw [Nat.succ_mul]; omega]
theorem own_take {B t : Nat} {w : World} {g n cap m : Nat} {l : List α} (hs : ∀ x, (c x).length = s) (h : w.ownsRow B t s (.slice (some ⟨g, 0, none⟩) n cap) l.length (rc c l)) (hm : m ≤ l.length) : w.ownsRow B t s (.slice (some ⟨g, 0, none⟩) m cap) (l.take m).length (rc c (l.take m)) := by
  have hl : (l.take m).length = m := by simp; omega
  rw [hl]
  obtain ⟨_, h2⟩ := h
  rcases h2 with ⟨h0, _⟩ | ⟨g', cap', cur, hv, hg, hh, hn, hcap, hsz, htake⟩
  · cases h0
  · cases hv
    refine ⟨by rw [rc_len hs, hl], .inr ⟨g, cap, cur, rfl, hg, hh, by omega, hcap, hsz, ?_⟩⟩
    rw [rc_take hs, ← htake, List.take_take, Nat.min_eq_left (Nat.mul_le_mul_right _ hm)]
end
def lenV : Value → Nat
  | .slice _ n _ => n
  | _ => 0
/-- The last panic is gone, and those that it broke off right ahead of it. -/
def endP (ps : List Pn) : List Pn := ps.tail.dropWhile (·.ab)
theorem drop_at {l : List Pn} {m : Nat} (hm : m < l.length) : ∃ q, l.reverse[m]? = some q ∧ l.drop (l.length - (m + 1)) = q :: l.drop (l.length - m) := by
  have h1 : l.length - (m + 1) < l.length := by omega
  refine ⟨l[l.length - (m + 1)], ?_, ?_⟩
  · rw [List.getElem?_reverse (by omega), show l.length - 1 - m = l.length - (m + 1) by omega, List.getElem?_eq_getElem h1]
  · rw [List.drop_eq_getElem_cons h1, show l.length - (m + 1) + 1 = l.length - m by omega]
set_option maxHeartbeats 4000000 in
theorem own_endPanic (B p : Nat) (st : St) (td : List Tl) (q0 : Pn) (r : List Pn) (w : World) (h : WkI B p w st td) (hq : st.ps = q0 :: r) (hB0 : B ≤ w.heap.size) (hr : r.length ≤ 1000000) :
    Calls Try.prog 59 #[.pointer (some ⟨p, 0, none⟩)] w fun x w' => x = .returned (.tuple #[]) ∧ WkI B p w' { st with ps := endP st.ps } td ∧ Below B w w' := by
  obtain ⟨F, P, T, fes, h⟩ := h
  have HB0 : Hid (B ≤ w.heap.size) := hB0
  have HPS : Hid (st.ps = q0 :: r) := hq
  obtain ⟨g, cap, rfl, hB, hg, -, hz⟩ := h.last hq
  obtain ⟨⟨-, x1, -⟩, ⟨-, f1, -⟩⟩ := box7 h.box
  have hp := h.lt
  have hcap : r.length < cap := by
    rcases h.ps.2 with ⟨h0, _⟩ | ⟨g', cap', cur, hv, -, -, hn, -⟩
    · cases h0
    · simp only [Value.slice.injEq, Option.some.injEq, Addr.mk.injEq, and_true, true_and] at hv
      rw [List.length_reverse, hq] at hn
      simp at hn; omega
  have HX : Hid (∀ u m, Below w.heap.size w u → m < r.length → ∃ q : Pn, u.cell? ⟨g, m * 7 + 6, none⟩ = some (.bool q.ab) ∧ r.drop (r.length - (m + 1)) = q :: r.drop (r.length - m)) := fun u m hu hm => by
    obtain ⟨q, h1, h2⟩ := drop_at hm
    have hk : st.ps.reverse[m]? = some q := by rw [hq, List.reverse_cons, List.getElem?_append_left (by simpa using hm)]; exact h1
    obtain ⟨g', cap', hv, -, -, hc, -, -⟩ := own_at Pn.len h.ps hk
    simp only [Value.slice.injEq, Option.some.injEq, Addr.mk.injEq, and_true, true_and] at hv
    obtain ⟨rfl, -, -⟩ := hv
    exact ⟨q, by rw [hu.cell hg]; exact hc 6 _ rfl, h2⟩
  have HY : Hid (∀ u, Below w.heap.size w u → Wk B p u F (.slice (some ⟨g, 0, none⟩) (r.length + 1) cap) T fes st td ∧ u.cell? ⟨p, 1, none⟩ = some (.slice (some ⟨g, 0, none⟩) (r.length + 1) cap) ∧ u.frozen? ⟨p, 1, none⟩ = false) := fun u hu => ⟨h.below hu, by rw [hu.cell hp]; exact x1, (box7 (h.below hu).box).2.2.1⟩
  have HFIN : Hid (∀ u m, Below w.heap.size w u → m ≤ r.length → r.drop (r.length - m) = r.dropWhile (·.ab) → WkI B p (u.setCell ⟨p, 1, none⟩ (.slice (some ⟨g, 0, none⟩) m cap)) { st with ps := endP st.ps } td ∧ Below B w (u.setCell ⟨p, 1, none⟩ (.slice (some ⟨g, 0, none⟩) m cap))) := fun u m hu hm he => by
    have hk := h.below hu
    have hrow := own_take Pn.len hk.ps (m := m) (by rw [hq]; simp; omega)
    have e1 : st.ps.reverse.take m = (endP st.ps).reverse := by
      unfold endP
      rw [hq, List.reverse_cons, List.take_append_of_le_length (by simpa using hm), List.take_reverse, he]
      rfl
    rw [e1] at hrow
    obtain ⟨h1, h2⟩ := hk.put0 1 (.slice (some ⟨g, 0, none⟩) m cap) (by decide) (F' := F) (P' := .slice (some ⟨g, 0, none⟩) m cap) (T' := T) (st' := { st with ps := endP st.ps }) rfl hk.fr hrow hk.td
    exact ⟨⟨_, _, _, _, h1⟩, (hu.mono hB0).trans h2⟩
  have hmi : (r.length : Int) < (r.length : Int) + 1 := by omega
  have hci : (r.length : Int) ≤ (cap : Int) := by omega
  clear h hB hz hq
  go_enter Try.func59, Try.ntmps59
  go_wp2_with fail
  go_quiet (fail)
  go_wp2_with fail
  go_loopw [2] (fun s2 wr => ∃ (m : Nat), m ≤ r.length ∧ s2 = .slice (some ⟨g, 0, none⟩) m cap ∧ Hid (Below w.heap.size w wr) ∧ Hid ((r.drop (r.length - m)).dropWhile (·.ab) = r.dropWhile (·.ab))) (fun i _ => lenV i)
  case atStart => exact ⟨r.length, Nat.le_refl _, rfl, below_dn _ _, by simp [Hid]⟩
  case round =>
    obtain ⟨m, hm, rfl, HB, HE⟩ := hrel
    obtain ⟨wq, hwq⟩ : ∃ x, wr = x := ⟨_, rfl⟩
    subst hwq
    rcases m with _ | m
    · have HF := HFIN.out wr 0 HB.out hm (by simpa using HE.out)
      have HF' : Hid (WkI B p (wr.setCell ⟨p, 1, none⟩ (.slice (some ⟨g, 0, none⟩) 0 cap)) { st with ps := endP st.ps } td ∧ Below B w (wr.setCell ⟨p, 1, none⟩ (.slice (some ⟨g, 0, none⟩) 0 cap))) := HF
      clear HF
      obtain ⟨-, y1, yf⟩ := HY.out wr HB.out
      go_wp2_with fail
      go_end0
      exact ⟨rfl, HF'.out⟩
    · obtain ⟨q, hc, hd⟩ := HX.out wr m HB.out hm
      obtain ⟨-, y1, yf⟩ := HY.out wr HB.out
      have hm0 : (0 : Int) < (m : Int) + 1 := by omega
      have hm1 : (m : Int) < (m : Int) + 1 := by omega
      have hm2 : (m : Int) ≤ (cap : Int) := by omega
      have HE2 := HE.out
      rw [hd, List.dropWhile_cons] at HE2
      cases hab : q.ab with
      | false =>
        rw [hab] at HE2
        simp only [Bool.false_eq_true, if_false] at HE2
        have HF := HFIN.out wr (m + 1) HB.out hm (by rw [hd]; exact HE2)
        have HF' : Hid (WkI B p (wr.setCell ⟨p, 1, none⟩ (.slice (some ⟨g, 0, none⟩) (m + 1) cap)) { st with ps := endP st.ps } td ∧ Below B w (wr.setCell ⟨p, 1, none⟩ (.slice (some ⟨g, 0, none⟩) (m + 1) cap))) := HF
        rw [hab] at hc
        clear HF HE2 hd hab
        go_wp2_with fail
        go_end0
        exact ⟨rfl, HF'.out⟩
      | true =>
        rw [hab] at HE2
        simp only [if_true] at HE2
        rw [hab] at hc
        have HE3 : Hid ((r.drop (r.length - m)).dropWhile (·.ab) = r.dropWhile (·.ab)) := HE2
        clear HE2 hd hab
        go_wp2_with fail
        go_roundw
        case rel => exact ⟨m, by omega, rfl, HB, HE3⟩
        case measure => simp [lenV]
def fab (s : Int) (q : Pn) : Pn := if q.ser = s then { q with ab := true } else q
/-- The panic of that number is broken off. -/
def abortP (s : Int) (ps : List Pn) : List Pn := ps.map (fab s)
def midA (s : Int) (l : List Pn) (k : Nat) : List Pn := (l.take k).map (fab s) ++ l.drop k
theorem midA_at {s : Int} {l : List Pn} {k : Nat} (hk : k < l.length) : (midA s l k)[k]? = some l[k] := by
  unfold midA
  rw [List.getElem?_append_right (by simp; omega), List.length_map, List.length_take, Nat.min_eq_left (by omega), Nat.sub_self, List.getElem?_drop, Nat.add_zero, List.getElem?_eq_getElem hk]
theorem midA_set {s : Int} {l : List Pn} {k : Nat} (hk : k < l.length) : (midA s l k).set k (fab s l[k]) = midA s l (k + 1) := by
  unfold midA
  rw [List.set_append_right _ _ (by simp; omega), List.length_map, List.length_take, Nat.min_eq_left (by omega), Nat.sub_self, List.drop_eq_getElem_cons hk, List.set_cons_zero, List.take_add_one, List.getElem?_eq_getElem hk, List.map_append, List.append_assoc]
  rfl
theorem midA_len {s : Int} {l : List Pn} {k : Nat} : (midA s l k).length = l.length := by unfold midA; simp; omega
theorem midA_skip {s : Int} {l : List Pn} {k : Nat} (hk : k < l.length) (hs : l[k].ser ≠ s) : midA s l k = midA s l (k + 1) := by
  rw [← midA_set hk]
  have : fab s l[k] = l[k] := by unfold fab; rw [if_neg hs]
  rw [this]
  apply List.ext_getElem?
  intro j
  by_cases hj : j = k
  · subst hj
    rw [midA_at hk, List.getElem?_set_self (by rw [midA_len]; exact hk)]
  · rw [List.getElem?_set_ne (Ne.symm hj)]
set_option maxHeartbeats 4000000 in
theorem own_abort (B p : Nat) (st : St) (td : List Tl) (s : Int) (w : World) (h : WkI B p w st td) (hB0 : B ≤ w.heap.size) (hr : st.ps.length ≤ 1000000) :
    Calls Try.prog 60 #[.pointer (some ⟨p, 0, none⟩), .int .i64 s] w fun x w' => x = .returned (.tuple #[]) ∧ WkI B p w' { st with ps := abortP s st.ps } td ∧ Below B w w' := by
  obtain ⟨F, P, T, fes, h⟩ := h
  have HB0 : Hid (B ≤ w.heap.size) := hB0
  obtain ⟨po, pc, hP⟩ := row_slice h.ps
  obtain ⟨n, hn⟩ : ∃ n, n = st.ps.reverse.length := ⟨_, rfl⟩
  rw [← hn] at hP
  have hn2 : n = st.ps.length := by rw [hn, List.length_reverse]
  have hnr : n ≤ 1000000 := by omega
  subst hP
  have HN : Hid (n = st.ps.reverse.length) := hn
  obtain ⟨⟨-, x1, -⟩, -⟩ := box7 h.box
  have HW : Hid (Wk B p w F (.slice po n pc) T fes st td) := h
  have HX : Hid (∀ u k, Wk B p u F (.slice po n pc) T fes { st with ps := (midA s st.ps.reverse k).reverse } td → u.cell? ⟨p, 1, none⟩ = some (.slice po n pc) ∧ (k < n → ∃ (g : Nat) (q : Pn), po = some ⟨g, 0, none⟩ ∧ u.cell? ⟨g, k * 7, none⟩ = some (.int .i64 q.ser) ∧ u.cell? ⟨g, k * 7 + 6, none⟩ = some (.bool q.ab) ∧ u.frozen? ⟨g, k * 7 + 6, none⟩ = false ∧
      (q.ser ≠ s → midA s st.ps.reverse k = midA s st.ps.reverse (k + 1)) ∧ (q.ser = s → Hid (Wk B p (u.setCell ⟨g, k * 7 + 6, none⟩ (.bool true)) F (.slice po n pc) T fes { st with ps := (midA s st.ps.reverse (k + 1)).reverse } td ∧ Below B u (u.setCell ⟨g, k * 7 + 6, none⟩ (.bool true)))))) := fun u k hk => by
    refine ⟨(box7 hk.box).1.2.1, fun hlt => ?_⟩
    have hlt2 : k < st.ps.reverse.length := by rw [← hn]; exact hlt
    have hat := midA_at (s := s) hlt2
    have hat2 : ({ st with ps := (midA s st.ps.reverse k).reverse } : St).ps.reverse[k]? = some st.ps.reverse[k] := by rw [List.reverse_reverse]; exact hat
    obtain ⟨g, cap, hv, -, -, hc, hz, -⟩ := own_at Pn.len hk.ps hat2
    have hpo : po = some ⟨g, 0, none⟩ := by simp only [Value.slice.injEq] at hv; exact hv.1
    subst hpo
    refine ⟨g, st.ps.reverse[k], rfl, ?_, hc 6 _ rfl, hz _, fun hs => midA_skip hlt2 hs, fun hs => ?_⟩
    · have := hc 0 _ rfl; simpa using this
    · refine hk.pnset (q' := fab s st.ps.reverse[k]) hat2 (by decide) ?_ ?_
      · unfold fab; rw [if_pos hs]; rfl
      · simp only [List.reverse_reverse]
        rw [midA_set hlt2]
  have HEND : Hid (∀ u, Wk B p u F (.slice po n pc) T fes { st with ps := (midA s st.ps.reverse n).reverse } td → WkI B p u { st with ps := abortP s st.ps } td) := fun u hk => by
    have e : (midA s st.ps.reverse n).reverse = abortP s st.ps := by
      unfold midA abortP
      rw [hn, List.take_length, List.drop_length, List.append_nil, List.map_reverse, List.reverse_reverse]
    rw [e] at hk
    exact ⟨_, _, _, _, hk⟩
  have HST : Hid (Wk B p w F (.slice po n pc) T fes { st with ps := (midA s st.ps.reverse 0).reverse } td) := by
    have e : (midA s st.ps.reverse 0).reverse = st.ps := by unfold midA; simp
    show Wk B p w F (.slice po n pc) T fes { st with ps := (midA s st.ps.reverse 0).reverse } td
    rw [e]; exact h
  clear h hn hn2 hr
  go_enter Try.func60, Try.ntmps60
  go_wp2_with fail
  go_loopw [11] (fun s11 wr => ∃ (k : Nat), k ≤ n ∧ s11 = .int .i64 k ∧ Hid (Below B w wr) ∧ Hid (Wk B p wr F (.slice po n pc) T fes { st with ps := (midA s st.ps.reverse k).reverse } td)) (fun i _ => n - (intOf i).toNat)
  case atStart => exact ⟨0, Nat.zero_le _, rfl, Below.refl _ _, HST.out⟩
  case round =>
    obtain ⟨k, hk, rfl, HB, HK⟩ := hrel
    obtain ⟨wq, hwq⟩ : ∃ x, wr = x := ⟨_, rfl⟩
    subst hwq
    obtain ⟨y1, hx⟩ := HX.out wr k HK.out
    by_cases hlt : k < n
    · obtain ⟨g, q, rfl, c0, c6, fz, hs1, hs2⟩ := hx hlt
      have hlti : (k : Int) < (n : Int) := by omega
      by_cases hs : q.ser = s
      · rw [hs] at c0
        have HS2 := hs2 hs
        clear hs1 hs2 hx hs
        go_wp2_with fail
        go_roundw
        case rel => exact ⟨k + 1, by omega, by go_num, HB.out.trans HS2.out.2, HS2.out.1⟩
        case measure => simp [intOf]; omega
      · have HS1 : Hid (midA s st.ps.reverse k = midA s st.ps.reverse (k + 1)) := hs1 hs
        have hsb : (q.ser == s) = false := by simpa using hs
        clear hs1 hs2 hx
        go_wp2_with fail
        go_roundw
        case rel => exact ⟨k + 1, by omega, by go_num, HB.out, by have := HK.out; rw [HS1.out] at this; exact this⟩
        case measure => simp [intOf]; omega
    · have hke : k = n := by omega
      subst hke
      have HF : Hid (WkI B p wr { st with ps := abortP s st.ps } td ∧ Below B w wr) := ⟨HEND.out wr HK.out, HB.out⟩
      clear hx hlt
      go_wp2_with fail
      go_end0
      exact ⟨rfl, HF.out⟩
end Go.Proofs.Ytcnpoldcebdhjaa
