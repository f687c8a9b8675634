/- A call's place is stored. -/
import Derived.Test.YtiaoidbhdkldlabCorder1
import Derived.Test.YtiaoidbhdkldlabCsame
namespace Go.Proofs.Ytiaoidbhdkldlab
open Go.ChangeShapes Go.WideShapes Go.ChangeAt Go.RowKit
set_option maxRecDepth 100000
set_option linter.unusedSimpArgs false
set_option linter.unusedVariables false
theorem ccells_site : ∀ (ms : List Ce) (k : Nat) (e : Ce) (x : Int), ms[k]? = some e → ccells (ms.set k ⟨⟨x, e.x.fn, e.x.args⟩, e.L⟩) = (ccells ms).set (k * 3) (.int .i64 x)
  | [], k, e, x, h => by simp at h
  | m :: r, 0, e, x, h => by
    simp at h
    subst h
    simp [ccells, Ce.cells]
  | m :: r, k + 1, e, x, h => by
    have ih := ccells_site r k e x (by simpa using h)
    have e1 : ccells (m :: r) = Ce.cells m ++ ccells r := by simp [ccells]
    have e2 : ∀ e', ccells ((m :: r).set (k + 1) e') = Ce.cells m ++ ccells (r.set k e') := fun e' => by simp [ccells]
    rw [e1, e2, ih]
    have h3 : (Ce.cells m).length = 3 := rfl
    rw [List.set_append_right _ _ (by rw [h3]; omega), h3, show (k + 1) * 3 - 3 = k * 3 by omega]
theorem CRow.site {B g n cap k : Nat} {u : World} {ms : List Ce} {cs : List Cc} {e : Ce} (h : CRow B u (.slice (some ⟨g, 0, none⟩) n cap) ms cs) (hn : ms.length = n) (hk : ms[k]? = some e) (x : Int) :
    CRow B (u.setCell ⟨g, k * 3, none⟩ (.int .i64 x)) (.slice (some ⟨g, 0, none⟩) n cap) (ms.set k ⟨⟨x, e.x.fn, e.x.args⟩, e.L⟩) (cs.set k ⟨x, e.x.fn, e.x.args⟩) := by
  subst hn
  obtain ⟨r1, g1⟩ := h.row.stored (k * 3) (.int .i64 x)
  refine ⟨?_, fun d hd => ?_, by rw [List.map_set, h.xs]⟩
  · rw [ccells_site ms k e x hk, List.length_set]
    exact r1
  · have hrow := row_typed h.row
    rcases List.mem_or_eq_of_mem_set hd with h1 | h1
    · exact iown_grown (h.lies d h1) g1 (fun q hq => by cases hq; exact hrow _ rfl)
    · subst h1
      exact iown_grown (h.lies e (List.mem_of_getElem? hk)) g1 (fun q hq => by cases hq; exact hrow _ rfl)
theorem CRow.take {B : Nat} {w : World} {ao : Option Addr} {n cap m : Nat} {ms : List Ce} {cs : List Cc} (h : CRow B w (.slice ao n cap) ms cs) (hn : ms.length = n) (hm : m ≤ n) (h0 : 0 < n) : CRow B w (.slice ao m cap) (ms.take m) (cs.take m) := by
  subst hn
  refine ⟨⟨by rw [ccells_len], ?_⟩, fun e he => h.lies e (List.mem_of_mem_take he), by rw [List.map_take, h.xs]⟩
  have hl : (ms.take m).length = m := by simp; omega
  rcases h.row.2 with ⟨h1, h2⟩ | ⟨g, cap', cur, h1, h2, h3, h4, h5, h6, h7⟩
  · omega
  · injection h1 with i1 i2 i3
    subst i1
    subst i3
    refine .inr ⟨g, cap, cur, by rw [hl], h2, h3, by rw [hl]; omega, h5, h6, ?_⟩
    rw [hl]
    have h8 : ccells (ms.take m) = (ccells ms).take (m * 3) := by
      apply List.ext_getElem?
      intro j
      rw [List.getElem?_take]
      split
      · rename_i hj
        obtain ⟨e, he⟩ : ∃ e, ms[j / 3]? = some e := ⟨_, List.getElem?_eq_getElem (by omega)⟩
        have a1 := ccells_get ms (j / 3) (j % 3) e (by omega) he
        have a2 := ccells_get (ms.take m) (j / 3) (j % 3) e (by omega) (by rw [List.getElem?_take_of_lt (by omega)]; exact he)
        rw [show j / 3 * 3 + j % 3 = j by omega] at a1 a2
        rw [a1, a2]
      · rename_i hj
        rw [List.getElem?_eq_none (by rw [ccells_len, hl]; omega)]
    rw [h8, ← h7, List.take_take, Nat.min_eq_left (by omega)]
theorem wf_low {x : Int} (h0 : 0 ≤ x) (h1 : x ≤ 100) : (Lit.int .i64 x).wf = true := by
  simp [Lit.wf, IntKind.min, IntKind.max, IntKind.bits, IntKind.signed]; omega
theorem in_set {cs : List Cc} (h : ∀ c ∈ cs, CIn c) {k : Nat} {c : Cc} (hk : cs[k]? = some c) {x : Int} (h0 : 0 ≤ x) (h1 : x ≤ 100) : ∀ d ∈ cs.set k ⟨x, c.fn, c.args⟩, CIn d := fun d hd => by
  have hc := h c (List.mem_of_getElem? hk)
  rcases List.mem_or_eq_of_mem_set hd with h2 | h2
  · exact h d h2
  · subst h2; exact ⟨wf_low h0 h1, hc.wf, hc.wl, hc.sz⟩
theorem rise_set {cs : List Cc} {k : Nat} (h : Rise cs k) {c : Cc} (hk : k < cs.length) (h0 : 0 ≤ c.site) (h1 : c.site < 8) (hp : ∀ p, 0 < k → cs[k - 1]? = some p → p.site < c.site) : Rise (cs.set k c) (k + 1) := by
  have h2 : Rise (cs.set k c) k := fun j d hj hd => by
    rw [List.getElem?_set_ne (by omega)] at hd
    obtain ⟨a1, a2, a3⟩ := h j d hj hd
    exact ⟨a1, a2, fun p hp2 hpp => a3 p hp2 (by rwa [List.getElem?_set_ne (by omega)] at hpp)⟩
  exact h2.more (List.getElem?_set_self hk) h0 h1 (fun p hk0 hpp => hp p hk0 (by rwa [List.getElem?_set_ne (by omega)] at hpp))
theorem lit_two1 (u : World) (g : Nat) (hg : g = u.heap.size) : Calls Try.prog 12 #[.bool true, .slice (some ⟨g, 0, none⟩) 2 2] (u.alloc (.cells #[.int .i64 1, .int .i64 0, .slice none 0 0, .int .i64 2, .int .i64 0, .slice none 0 0] 25)) fun e w' => ∃ ao cap, e = .returned (.tuple #[.slice ao 2 cap, .int .i64 0]) ∧ Below u.heap.size u w' := by
  subst hg
  have hr : CRow u.heap.size (u.alloc (.cells #[.int .i64 1, .int .i64 0, .slice none 0 0, .int .i64 2, .int .i64 0, .slice none 0 0] 25)) (.slice (some ⟨u.heap.size, 0, none⟩) 2 2) [⟨⟨1, 0, []⟩, .slice none 0 0⟩, ⟨⟨2, 0, []⟩, .slice none 0 0⟩] [⟨1, 0, []⟩, ⟨2, 0, []⟩] :=
    ⟨World.ownsRow_lit u #[.int .i64 1, .int .i64 0, .slice none 0 0, .int .i64 2, .int .i64 0, .slice none 0 0] 2 (Nat.le_refl _) (by decide) rfl, fun e he => by
      simp at he
      rcases he with rfl | rfl <;> exact IOwn.nil _ _, rfl⟩
  refine (own_order1 _ _ _ _ hr.src ⟨fun c h => by
    simp at h
    rcases h with rfl | rfl <;> exact ⟨by decide, by decide, (fun i h => by cases h), by simp⟩, by simp⟩).mono ?_
  rintro e w1 ⟨h | h, hb⟩
  · obtain ⟨_, V, ms, rfl, q⟩ := h
    have hl : ms.length = 2 := q.len
    obtain ⟨ao, cap, hV⟩ := row_slice q.row
    rw [hl] at hV
    subst hV
    exact ⟨ao, cap, rfl, below_up hb⟩
  · refine absurd (show Rise [⟨1, 0, []⟩, ⟨2, 0, []⟩] 2 from ?_) h.1
    have r1 : Rise [⟨1, 0, []⟩, ⟨2, 0, []⟩] 1 := (Rise.zero _).more (c := ⟨1, 0, []⟩) rfl (by decide) (by decide) (fun p hp => by omega)
    exact r1.more (c := ⟨2, 0, []⟩) rfl (by decide) (by decide) (fun p _ hp => by simp at hp; subst hp; decide)
end Go.Proofs.Ytiaoidbhdkldlab
