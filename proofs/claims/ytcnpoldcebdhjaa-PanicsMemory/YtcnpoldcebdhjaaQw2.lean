/- What is told: one more. -/
import Derived.Test.YtcnpoldcebdhjaaQw1
import Derived.Test.YtcnpoldcebdhjaaSteady6
namespace Go.Proofs.Ytcnpoldcebdhjaa
open Go.ChangeShapes Go.WideShapes Go.ChangeAt Go.RowKit
set_option maxRecDepth 100000
set_option linter.unusedSimpArgs false
set_option linter.unusedVariables false
/-- What is neither the work itself nor what was told stays. -/
def Far (w w' : World) : Prop := ∀ (g : Nat) (cs : Array Value) (t : Nat) (z : Nat × Nat), w.heap[g]? = some (.cells cs t z) → t ≠ 58 → t ≠ 62 → w'.heap[g]? = some (.cells cs t z)
theorem Far.refl (w : World) : Far w w := fun _ _ _ _ h _ _ => h
theorem Far.below {w w' w2 : World} (h : Far w w') (hb : Below w'.heap.size w' w2) : Far w w2 := fun g cs t z hg h1 h2 => by
  have := h g cs t z hg h1 h2
  rw [hb.block g (Array.getElem?_eq_some_iff.1 this).1]
  exact this
theorem Far.grown {w w' w2 : World} {row : Option Nat} (h : Far w w') (hg : w'.grownBy w2 row) (hr : ∀ g, row = some g → ∃ cs z, w'.heap[g]? = some (.cells cs 58 z)) : Far w w2 := fun g cs t z hc h1 h2 => by
  have h3 := h g cs t z hc h1 h2
  rw [hg.block g (Array.getElem?_eq_some_iff.1 h3).1 (fun e => by
    obtain ⟨cs2, z2, h4⟩ := hr g e.symm
    rw [h3] at h4
    simp at h4
    exact h1 h4.2.1)]
  exact h3
theorem Far.set {w w' : World} {p i : Nat} {v : Value} {cs : Array Value} (h : Far w w') (hp : w'.heap[p]? = some (.cells cs 62 (0, 0))) : Far w (w'.setCell ⟨p, i, none⟩ v) := fun g cs2 t z hc h1 h2 => by
  have h3 := h g cs2 t z hc h1 h2
  rw [heap_setCell_other _ _ _ _ (fun e => by
    simp at e
    subst e
    rw [h3] at hp
    simp at hp
    exact h2 hp.2.1)]
  exact h3
/-- The work, but for what was told. -/
structure Wq (B p : Nat) (w : World) (F P T : Value) (fes : List Fe) (st : St) : Prop where
  box : w.heap[p]? = some (.cells #[F, P, .int .i64 st.next, .int .i64 st.ser, .int .i64 st.fin, .int .i64 st.stat, T] 62 (0, 0))
  low : B ≤ p
  fr : FRow B w F fes st.fr.reverse
  ps : w.ownsRow B 55 7 P st.ps.reverse.length (rc Pn.cells st.ps.reverse)
theorem Wk.q {B p : Nat} {w : World} {F P T : Value} {fes : List Fe} {st : St} {td : List Tl} (h : Wk B p w F P T fes st td) : Wq B p w F P T fes st := ⟨h.box, h.low, h.fr, h.ps⟩
theorem Wq.lt {B p : Nat} {w : World} {F P T : Value} {fes : List Fe} {st : St} (h : Wq B p w F P T fes st) : p < w.heap.size := (Array.getElem?_eq_some_iff.1 h.box).1
theorem Wq.below {B p : Nat} {w w' : World} {F P T : Value} {fes : List Fe} {st : St} (h : Wq B p w F P T fes st) (hb : Below w.heap.size w w') : Wq B p w' F P T fes st :=
  ⟨by rw [hb.block p h.lt]; exact h.box, h.low, h.fr.below hb, row_below h.ps hb⟩
/-- What was told has grown, elsewhere or in its place. -/
theorem Wk.grownT {B p : Nat} {w w' : World} {F P T : Value} {fes : List Fe} {st : St} {td : List Tl} (h : Wk B p w F P T fes st td) (hg : w.grownBy w' T.ownBlock) : Wq B p w' F P T fes st := by
  have ht := row_typed h.td
  have ht' : ∀ g, T.ownBlock = some g → ∃ cs z, w.heap[g]? = some (.cells cs 58 z) := fun g hg => by obtain ⟨cs, h2⟩ := ht g hg; exact ⟨_, _, h2⟩
  refine ⟨?_, h.low, ⟨row_grown h.fr.row hg ht' (by decide), fun e he => row_grown (h.fr.own e he) hg ht' (by decide), h.fr.apart, h.fr.xs⟩, row_grown h.ps hg ht' (by decide)⟩
  rw [hg.block p h.lt (fun e => by obtain ⟨cs, z, h2⟩ := ht' p e.symm; rw [h.box] at h2; simp at h2)]
  exact h.box
theorem Wq.putT {B p : Nat} {w : World} {F P T T' : Value} {fes : List Fe} {st : St} {td : List Tl} (h : Wq B p w F P T fes st) (ht : w.ownsRow B 58 7 T' td.length (rc Tl.cells td)) : Wk B p (w.setCell ⟨p, 6, none⟩ T') F P T' fes st td ∧ Below B w (w.setCell ⟨p, 6, none⟩ T') := by
  have hoth : ∀ b, b ≠ p → b < w.heap.size → (w.setCell ⟨p, 6, none⟩ T').heap[b]? = w.heap[b]? := fun b hb _ => heap_setCell_other _ _ _ _ (by simpa using hb)
  refine ⟨⟨?_, h.low, ⟨row_far h.fr.row h.box (by decide) hoth, fun e he => row_far (h.fr.own e he) h.box (by decide) hoth, h.fr.apart, h.fr.xs⟩, row_far h.ps h.box (by decide) hoth, row_far ht h.box (by decide) hoth⟩, (Below.refl _ _).setCell h.low T'⟩
  rw [heap_setCell_same w p 6 _ 62 T' h.box]
  rfl
def isTd (B : Nat) (td : List Tl) : Value → World → Prop := fun v w => w.ownsRow B 58 7 v td.length (rc Tl.cells td)
theorem stab_td (B : Nat) (td : List Tl) : Stab (isTd B td) := fun v w w' hb h => row_below h hb
def isTl1 (B : Nat) (t : Tl) : Value → World → Prop := fun v w => w.ownsRow B 58 7 v 1 t.cells
theorem stab_tl1 (B : Nat) (t : Tl) : Stab (isTl1 B t) := fun v w w' hb h => row_below h hb
theorem tl_lit {B : Nat} {u : World} {t : Tl} (hB : B ≤ u.heap.size) : (u.alloc (.cells #[.int .i64 t.k, .int .i64 t.n, .int .i64 t.to, .int .i64 t.v.k, .int .i64 t.v.n, .string t.v.s, .slice none 0 0] 58)).ownsRow B 58 7 (.slice (some ⟨u.heap.size, 0, none⟩) 1 1) 1 t.cells :=
  World.ownsRow_lit u #[.int .i64 t.k, .int .i64 t.n, .int .i64 t.to, .int .i64 t.v.k, .int .i64 t.v.n, .string t.v.s, .slice none 0 0] 1 hB (by decide) rfl
set_option maxHeartbeats 4000000 in
theorem own_tellW (B p : Nat) (F P T : Value) (fes : List Fe) (st : St) (td : List Tl) (t : Tl) (w : World) (h : Wk B p w F P T fes st td) (hB0 : B ≤ w.heap.size) (hz : td.length ≤ 1000000) :
    Calls Try.prog 51 #[.pointer (some ⟨p, 0, none⟩), t.val] w fun e w' => e = .returned (.tuple #[]) ∧ (∃ T', Wk B p w' F P T' fes st (td ++ [t])) ∧ Below B w w' ∧ Far w w' := by
  obtain ⟨w0, hw0⟩ : ∃ x, x = w.alloc (.cells #[.int .i64 t.k, .int .i64 t.n, .int .i64 t.to, .int .i64 t.v.k, .int .i64 t.v.n, .string t.v.s, .slice none 0 0] 58) := ⟨_, rfl⟩
  obtain ⟨g, hg⟩ : ∃ g, g = w.heap.size := ⟨_, rfl⟩
  obtain ⟨td2, htd2⟩ : ∃ x, x = td ++ [t] := ⟨_, rfl⟩
  rw [← htd2]
  have HT2 : Hid (td2 = td ++ [t]) := htd2
  have HW : Hid (Below w.heap.size w w0) := by subst hw0; exact (Below.refl _ _).alloc (Nat.le_refl _) _
  have HG : Hid (w0.heap[g]? = some (.cells #[.int .i64 t.k, .int .i64 t.n, .int .i64 t.to, .int .i64 t.v.k, .int .i64 t.v.n, .string t.v.s, .slice none 0 0] 58 (0, 0))) := by subst hw0; subst hg; exact box_stays (Below.refl _ _)
  have HH : Hid (Wk B p w0 F P T fes st td) := h.below HW.out
  have hB : B ≤ w0.heap.size := Nat.le_trans hB0 HW.out.size
  have HB0 : Hid (B ≤ w.heap.size) := hB0
  obtain ⟨to, tc, hT⟩ := row_slice h.td
  subst hT
  clear h hB0 htd2
  unfold Tl.val
  go_enter Try.func51, Try.ntmps51
  go_wp2_with fail
  rw [← hw0, ← hg]
  clear hw0 hg
  have hl : AllStab [isV (.pointer (some ⟨p, 0, none⟩)), isV (.pointer (some ⟨p, 0, none⟩)), isV (.pointer (some ⟨p, 0, none⟩)), isV (.pointer (some ⟨p, 6, none⟩)), isV (.slice to td.length tc), isV t.val, isTl1 B t, isTd B td2, isV (.pointer (some ⟨p, 0, none⟩)), isV (.pointer (some ⟨p, 6, none⟩)), anyV] := ⟨stab_is _, stab_is _, stab_is _, stab_is _, stab_is _, stab_is _, stab_tl1 _ _, stab_td _ _, stab_is _, stab_is _, stab_any, trivial⟩
  refine wp_joint (JB [isV (.pointer (some ⟨p, 0, none⟩)), isV (.pointer (some ⟨p, 0, none⟩)), isV (.pointer (some ⟨p, 0, none⟩)), isV (.pointer (some ⟨p, 6, none⟩)), isV (.slice to td.length tc), isV t.val, isTl1 B t, isTd B td2, isV (.pointer (some ⟨p, 0, none⟩)), isV (.pointer (some ⟨p, 6, none⟩)), anyV] ([99, 99, 99, 99, 99, 99, 7, 10, 99, 99, 99].getD · 99) (fun d f u => (d 10 = false → (d 7 = false → u.heap[g]? = some (.cells #[.int .i64 t.k, .int .i64 t.n, .int .i64 t.to, .int .i64 t.v.k, .int .i64 t.v.n, .string t.v.s, .slice none 0 0] 58 (0, 0)) ∧ Wk B p u F P (.slice to td.length tc) fes st td) ∧ (d 7 = true → Wq B p u F P (.slice to td.length tc) fes st)) ∧ (d 10 = true → ∃ T2, Wk B p u F P T2 fes st td2) ∧ Far w0 u) B _) (by kernel_rfl) (by kernel_rfl) (by kernel_rfl) (fun f => ⟨(Below.refl _ _).drew, hB, rfl, (fun i h _ => by cases h), ⟨fun _ => ⟨fun _ => ⟨HG.out, HH.out.below (Below.refl _ _).drew⟩, fun h => by cases h⟩, (fun h => by cases h), (Far.refl _).below (Below.refl _ _).drew⟩⟩) ?_ ?_
  · refine stepsOK5_cons (fun f d u hJ hn hd hno K hK => ?_) (stepsOK5_cons (fun f d u hJ hn hd hno K hK => ?_) (stepsOK5_cons (fun f d u hJ hn hd hno K hK => ?_) (stepsOK5_cons (fun f d u hJ hn hd hno K hK => ?_) (stepsOK5_cons (fun f d u hJ hn hd hno K hK => ?_) (stepsOK5_cons (fun f d u hJ hn hd hno K hK => ?_) (stepsOK5_cons (fun f d u hJ hn hd hno K hK => ?_) (stepsOK5_cons (fun f d u hJ hn hd hno K hK => ?_) (stepsOK5_cons (fun f d u hJ hn hd hno K hK => ?_) (stepsOK5_cons (fun f d u hJ hn hd hno K hK => ?_) (stepsOK5_cons (fun f d u hJ hn hd hno K hK => ?_) stepsOK5_nil))))))))))
    · refine wanted_on rfl ?_
      simp only [putAll, Act.put, List.setIfInBounds_toArray, List.set_cons_zero, List.set_cons_succ] at hK ⊢
      go_simp
      exact hK _ _ _ rfl (hJ.grow hl (by decide) (Below.refl _ _) rfl hJ.more)
    · refine wanted_on rfl ?_
      simp only [putAll, Act.put, List.setIfInBounds_toArray, List.set_cons_zero, List.set_cons_succ] at hK ⊢
      go_simp
      exact hK _ _ _ rfl (hJ.grow hl (by decide) (Below.refl _ _) rfl hJ.more)
    · have e1 : f 1 = (.pointer (some ⟨p, 0, none⟩)) := hJ.at 1 (hd 1 (by kernel_rfl)) hJ.none
      refine wanted_on rfl ?_
      simp only [putAll, Act.put, List.setIfInBounds_toArray, List.set_cons_zero, List.set_cons_succ, e1] at hK ⊢
      go_simp
      exact hK _ _ _ rfl (hJ.grow hl (by decide) (Below.refl _ _) rfl hJ.more)
    · have e2 : f 2 = (.pointer (some ⟨p, 0, none⟩)) := hJ.at 2 (hd 2 (by kernel_rfl)) hJ.none
      refine wanted_on rfl ?_
      simp only [putAll, Act.put, List.setIfInBounds_toArray, List.set_cons_zero, List.set_cons_succ, e2] at hK ⊢
      go_simp
      exact hK _ _ _ rfl (hJ.grow hl (by decide) (Below.refl _ _) rfl hJ.more)
    · have e3 : f 3 = (.pointer (some ⟨p, 6, none⟩)) := hJ.at 3 (hd 3 (by kernel_rfl)) hJ.none
      obtain ⟨⟨-, -, -, -, -, -, x6⟩, -⟩ := box7 ((hJ.more.1 (hno 10 (by kernel_rfl))).1 (hno 7 (by kernel_rfl))).2.box
      refine wanted_on rfl ?_
      simp only [putAll, Act.put, List.setIfInBounds_toArray, List.set_cons_zero, List.set_cons_succ, e3] at hK ⊢
      go_simp
      exact hK _ _ _ rfl (hJ.grow hl (by decide) (Below.refl _ _) rfl hJ.more)
    · obtain ⟨⟨x0, x1, x2, x3, x4, x5, x6⟩, -⟩ := box7 ((hJ.more.1 (hno 10 (by kernel_rfl))).1 (hno 7 (by kernel_rfl))).1
      refine wanted_on rfl ?_
      simp only [putAll, Act.put, List.setIfInBounds_toArray, List.set_cons_zero, List.set_cons_succ] at hK ⊢
      go_simp
      exact hK _ _ _ rfl (hJ.grow hl (by decide) (Below.refl _ _) rfl hJ.more)
    · have e5 : f 5 = t.val := hJ.at 5 (hd 5 (by kernel_rfl)) hJ.none
      unfold Tl.val at e5
      refine wanted_on rfl ?_
      simp only [putAll, Act.put, List.setIfInBounds_toArray, List.set_cons_zero, List.set_cons_succ, e5] at hK ⊢
      go_simp
      obtain ⟨hg1, hg2⟩ := (hJ.more.1 (hno 10 (by kernel_rfl))).1 (hno 7 (by kernel_rfl))
      have hb : Below u.heap.size u (u.alloc (.cells #[.int .i64 t.k, .int .i64 t.n, .int .i64 t.to, .int .i64 t.v.k, .int .i64 t.v.n, .string t.v.s, .slice none 0 0] 58)) := (Below.refl _ _).alloc (Nat.le_refl _) _
      exact hK _ _ _ rfl (hJ.grow hl (by decide) hb (tl_lit hJ.lo) ⟨fun _ => ⟨fun _ => ⟨by rw [hb.block g (Array.getElem?_eq_some_iff.1 hg1).1]; exact hg1, hg2.below hb⟩, fun h7 => by have h9 : d 7 = true := h7; rw [hno 7 (by kernel_rfl)] at h9; cases h9⟩, (fun h10 => by have h9 : d 10 = true := h10; rw [hno 10 (by kernel_rfl)] at h9; cases h9), hJ.more.2.2.below hb⟩)
    · have e4 : f 4 = (.slice to td.length tc) := hJ.at 4 (hd 4 (by kernel_rfl)) hJ.none
      have q6 := hJ.at 6 (hd 6 (by kernel_rfl)) hn
      obtain ⟨V6, e6⟩ : ∃ V, f 6 = V := ⟨_, rfl⟩
      rw [e6] at q6
      refine wanted_on rfl ?_
      simp only [putAll, Act.put, List.setIfInBounds_toArray, List.set_cons_zero, List.set_cons_succ, e4, e6] at hK ⊢
      obtain ⟨-, hk⟩ := (hJ.more.1 (hno 10 (by kernel_rfl))).1 hn
      refine gapp _ _ Tl.len Try.infoTl rfl (by decide) Try.underlying37 rfl rfl rfl hk.td q6 t.one hJ.lo (by omega) (by decide) ?_
      intro v1 u1 h1 hgr hb
      rw [← HT2.out] at h1
      have hq := hk.grownT hgr
      refine hK _ _ _ rfl (hJ.step (by decide) hb (fun j h2 h3 h4 h5 h6 => ?_) h1 ⟨fun _ => ⟨(fun h7 => by cases h7), fun _ => hq⟩, (fun h10 => by have h9 : d 10 = true := h10; rw [hno 10 (by kernel_rfl)] at h9; cases h9), hJ.more.2.2.grown hgr (fun g hg => by obtain ⟨cs, h2⟩ := row_typed hk.td g hg; exact ⟨_, _, h2⟩)⟩)
      match j, h3, h6 with
      | 0, _, h6 => exact h6
      | 1, _, h6 => exact h6
      | 2, _, h6 => exact h6
      | 3, _, h6 => exact h6
      | 4, _, h6 => exact h6
      | 5, _, h6 => exact h6
      | 6, h3, _ => exact absurd rfl h3
      | 7, _, _ => exact absurd rfl h2
      | 8, _, h6 => exact h6
      | 9, _, h6 => exact h6
      | 10, _, _ => exact trivial
      | j + 11, _, _ => exact trivial
    · have e0 : f 0 = (.pointer (some ⟨p, 0, none⟩)) := hJ.at 0 (hd 0 (by kernel_rfl)) hJ.none
      refine wanted_on rfl ?_
      simp only [putAll, Act.put, List.setIfInBounds_toArray, List.set_cons_zero, List.set_cons_succ, e0] at hK ⊢
      go_simp
      exact hK _ _ _ rfl (hJ.grow hl (by decide) (Below.refl _ _) rfl hJ.more)
    · have e8 : f 8 = (.pointer (some ⟨p, 0, none⟩)) := hJ.at 8 (hd 8 (by kernel_rfl)) hJ.none
      refine wanted_on rfl ?_
      simp only [putAll, Act.put, List.setIfInBounds_toArray, List.set_cons_zero, List.set_cons_succ, e8] at hK ⊢
      go_simp
      exact hK _ _ _ rfl (hJ.grow hl (by decide) (Below.refl _ _) rfl hJ.more)
    · have q7 := hJ.at 7 (hd 7 (by kernel_rfl)) hn
      obtain ⟨V7, e7⟩ : ∃ V, f 7 = V := ⟨_, rfl⟩
      rw [e7] at q7
      have e9 : f 9 = (.pointer (some ⟨p, 6, none⟩)) := hJ.at 9 (hd 9 (by kernel_rfl)) hJ.none
      obtain ⟨ao, cap, hv7⟩ := row_slice q7
      subst hv7
      have hq := (hJ.more.1 hn).2 (hd 7 (by kernel_rfl))
      obtain ⟨⟨-, -, -, -, -, -, x6⟩, ⟨-, -, -, -, -, -, y6⟩⟩ := box7 hq.box
      refine wanted_on rfl ?_
      simp only [putAll, Act.put, List.setIfInBounds_toArray, List.set_cons_zero, List.set_cons_succ, e7, e9] at hK ⊢
      go_simp
      obtain ⟨hk, hb⟩ := hq.putT q7
      refine hK _ (f 10) _ rfl (hJ.step (by decide) hb (fun j h2 h3 h4 h5 h6 => ?_) trivial ⟨(fun h10 => by cases h10), (fun _ => ⟨_, hk⟩), hJ.more.2.2.set hq.box⟩)
      match j, h3, h6 with
      | 0, _, h6 => exact h6
      | 1, _, h6 => exact h6
      | 2, _, h6 => exact h6
      | 3, _, h6 => exact h6
      | 4, _, h6 => exact h6
      | 5, _, h6 => exact h6
      | 6, _, h6 => exact row_far h6 hq.box (by decide) (fun b hb _ => heap_setCell_other _ _ _ _ (by simpa using hb))
      | 7, h3, _ => exact absurd rfl h3
      | 8, _, h6 => exact h6
      | 9, _, h6 => exact h6
      | 10, _, _ => exact trivial
      | j + 11, _, _ => exact trivial
  · intro f d u hJ hall
    have hX := hJ.more.2.1 (hall 10 (by decide))
    have hFar : Far w u := fun g cs t z hg h1 h2 => hJ.more.2.2 g cs t z (by rw [HW.out.block g (Array.getElem?_eq_some_iff.1 hg).1]; exact hg) h1 h2
    simp only [putAll, Act.put, List.setIfInBounds_toArray, List.set_cons_zero, List.set_cons_succ]
    go_end0
    exact ⟨rfl, hX, (HW.out.mono HB0.out).trans hJ.up, hFar⟩
theorem own_tell (B p : Nat) (st : St) (td : List Tl) (t : Tl) (w : World) (h : WkI B p w st td) (hB0 : B ≤ w.heap.size) (hz : td.length ≤ 1000000) :
    Calls Try.prog 51 #[.pointer (some ⟨p, 0, none⟩), t.val] w fun e w' => e = .returned (.tuple #[]) ∧ WkI B p w' st (td ++ [t]) ∧ Below B w w' := by
  obtain ⟨F, P, T, fes, h⟩ := h
  exact (own_tellW B p F P T fes st td t w h hB0 hz).mono fun e w' ⟨h1, ⟨T', h2⟩, h3, _⟩ => ⟨h1, ⟨_, _, _, _, h2⟩, h3⟩
end Go.Proofs.Ytcnpoldcebdhjaa
