/- A panic begins. -/
import Derived.Test.YtcnpoldcebdhjaaQw10
namespace Go.Proofs.Ytcnpoldcebdhjaa
open Go.ChangeShapes Go.WideShapes Go.ChangeAt Go.RowKit
set_option maxRecDepth 100000
set_option linter.unusedSimpArgs false
set_option linter.unusedVariables false
/-- The work, but for the panics. -/
structure Wr (B p : Nat) (w : World) (F P T : Value) (fes : List Fe) (st : St) (td : List Tl) : Prop where
  box : w.heap[p]? = some (.cells #[F, P, .int .i64 st.next, .int .i64 st.ser, .int .i64 st.fin, .int .i64 st.stat, T] 62 (0, 0))
  low : B ≤ p
  fr : FRow B w F fes st.fr.reverse
  td : w.ownsRow B 58 7 T td.length (rc Tl.cells td)
theorem Wk.grownP {B p : Nat} {w w' : World} {F P T : Value} {fes : List Fe} {st : St} {td : List Tl} (h : Wk B p w F P T fes st td) (hg : w.grownBy w' P.ownBlock) : Wr B p w' F P T fes st td := by
  have ht := row_typed h.ps
  have ht' : ∀ g, P.ownBlock = some g → ∃ cs z, w.heap[g]? = some (.cells cs 55 z) := fun g hg => by obtain ⟨cs, h2⟩ := ht g hg; exact ⟨_, _, h2⟩
  refine ⟨?_, h.low, ⟨row_grown h.fr.row hg ht' (by decide), fun e he => row_grown (h.fr.own e he) hg ht' (by decide), h.fr.apart, h.fr.xs⟩, row_grown h.td hg ht' (by decide)⟩
  rw [hg.block p h.lt (fun e => by obtain ⟨cs, z, h2⟩ := ht' p e.symm; rw [h.box] at h2; simp at h2)]
  exact h.box
theorem Wr.putP {B p : Nat} {w : World} {F P T P' : Value} {fes : List Fe} {st : St} {td : List Tl} {ps' : List Pn} (h : Wr B p w F P T fes st td) (ht : w.ownsRow B 55 7 P' ps'.reverse.length (rc Pn.cells ps'.reverse)) : Wk B p (w.setCell ⟨p, 1, none⟩ P') F P' T fes { st with ps := ps' } td ∧ Below B w (w.setCell ⟨p, 1, none⟩ P') := by
  have hoth : ∀ b, b ≠ p → b < w.heap.size → (w.setCell ⟨p, 1, none⟩ P').heap[b]? = w.heap[b]? := fun b hb _ => heap_setCell_other _ _ _ _ (by simpa using hb)
  refine ⟨⟨?_, h.low, ⟨row_far h.fr.row h.box (by decide) hoth, fun e he => row_far (h.fr.own e he) h.box (by decide) hoth, h.fr.apart, h.fr.xs⟩, row_far ht h.box (by decide) hoth, row_far h.td h.box (by decide) hoth⟩, (Below.refl _ _).setCell h.low P'⟩
  rw [heap_setCell_same w p 1 _ 62 P' h.box]
  rfl
def isPs (B : Nat) (ps : List Pn) : Value → World → Prop := fun v w => w.ownsRow B 55 7 v ps.length (rc Pn.cells ps)
theorem stab_ps (B : Nat) (ps : List Pn) : Stab (isPs B ps) := fun v w w' hb h => row_below h hb
def isPn1 (B : Nat) (q : Pn) : Value → World → Prop := fun v w => w.ownsRow B 55 7 v 1 q.cells
theorem stab_pn1 (B : Nat) (q : Pn) : Stab (isPn1 B q) := fun v w w' hb h => row_below h hb
theorem pn_lit {B : Nat} {u : World} {st : St} {pv : Pv} (hB : B ≤ u.heap.size) : (u.alloc (.cells #[.int .i64 st.ser, .int .i64 pv.k, .int .i64 pv.n, .string pv.s, .slice none 0 0, .bool false, .bool false] 55)).ownsRow B 55 7 (.slice (some ⟨u.heap.size, 0, none⟩) 1 1) 1 (Pn.cells ⟨st.ser, pv, false, false⟩) :=
  World.ownsRow_lit u #[.int .i64 st.ser, .int .i64 pv.k, .int .i64 pv.n, .string pv.s, .slice none 0 0, .bool false, .bool false] 1 hB (by decide) rfl
def St.panicS (st : St) (pv : Pv) (f : Fr) (r : List Fr) : St := { st with ps := ⟨st.ser, pv, false, false⟩ :: st.ps, ser := st.ser + 1, fr := { f with ph := 2 } :: r }
set_option maxHeartbeats 8000000 in
theorem own_panicWith (B p : Nat) (st : St) (td : List Tl) (f : Fr) (r : List Fr) (k n : Int) (s : ByteArray) (lo : Option Addr) (ln lc : Nat) (w : World) (h : WkI B p w st td) (hf : st.fr = f :: r) (hB0 : B ≤ w.heap.size) (hk : k = 1 ∨ k = 3 ∨ k = 5) (hs0 : 0 ≤ st.ser) (hs1 : st.ser ≤ 1000000) (hps : st.ps.length ≤ 900000) (hfine : Fine (st.panicS (Pv.of k n s) f r) td) :
    Calls Try.prog 45 #[.pointer (some ⟨p, 0, none⟩), evval k n s lo ln lc] w fun x w' => x = .returned (.tuple #[]) ∧ WkI B p w' (unwind (r.length + 2) (st.panicS (Pv.of k n s) f r) td).1 (unwind (r.length + 2) (st.panicS (Pv.of k n s) f r) td).2 ∧ Below B w w' := by
  obtain ⟨F, P, T, fes, h⟩ := h
  have HPL : Hid (∀ u, Calls Try.prog 40 #[.agg #[.int .i64 k, .int .i64 n, .string s, .slice lo ln lc]] u fun e w' => e = .returned (.agg #[.int .i64 (Pv.of k n s).k, .int .i64 (Pv.of k n s).n, .string (Pv.of k n s).s, .slice none 0 0]) ∧ Below u.heap.size u w') := fun u => own_plainP k n s lo ln lc u (.inr hk)
  generalize Pv.of k n s = pv at *
  have HFI : Hid (Fine (st.panicS pv f r) td) := hfine
  have HB0 : Hid (B ≤ w.heap.size) := hB0
  have HFR : Hid (st.fr = f :: r) := hf
  have hr1 : r.length ≤ 1000000 := by have := hfine.fr; simp [St.panicS] at this; omega
  obtain ⟨w0, hw0⟩ : ∃ x, x = w.alloc (.cells #[.int .i64 k, .int .i64 n, .string s, .slice lo ln lc] 32) := ⟨_, rfl⟩
  obtain ⟨g, hg⟩ : ∃ g, g = w.heap.size := ⟨_, rfl⟩
  have HW : Hid (Below w.heap.size w w0) := by subst hw0; exact (Below.refl _ _).alloc (Nat.le_refl _) _
  have HG : Hid (w0.heap[g]? = some (.cells #[.int .i64 k, .int .i64 n, .string s, .slice lo ln lc] 32 (0, 0))) := by subst hw0; subst hg; exact box_stays (Below.refl _ _)
  have HH : Hid (Wk B p w0 F P T fes st td) := h.below HW.out
  obtain ⟨po, pc, hP⟩ := row_slice h.ps
  rw [List.length_reverse] at hP
  subst hP
  have HPS : Hid (st.ps.length ≤ 900000) := hps
  obtain ⟨l2, hl2⟩ : ∃ x, x = st.ps.reverse ++ [Pn.mk st.ser pv false false] := ⟨_, rfl⟩
  have HL2 : Hid (l2 = st.ps.reverse ++ [Pn.mk st.ser pv false false]) := hl2
  have HL3 : Hid (l2 = (Pn.mk st.ser pv false false :: st.ps).reverse) := by rw [hl2, List.reverse_cons]; rfl
  obtain ⟨ps2, hps2⟩ : ∃ x, x = Pn.mk st.ser pv false false :: st.ps := ⟨_, rfl⟩
  rw [← hps2] at HL3
  have HPS2 : Hid (ps2 = Pn.mk st.ser pv false false :: st.ps) := hps2
  clear h hB0 hk hfine hf hl2 hps2
  unfold evval
  go_enter Try.func45, Try.ntmps45
  go_wp2_with fail
  rw [← hw0, ← hg]
  clear hw0 hg
  have hl : AllStab [isV (.pointer (some ⟨p, 0, none⟩)), isV (.pointer (some ⟨p, 0, none⟩)), isV (.pointer (some ⟨p, 0, none⟩)), isV (.pointer (some ⟨p, 0, none⟩)), isV (.pointer (some ⟨p, 1, none⟩)), isV (.slice po st.ps.length pc), isV (.pointer (some ⟨p, 0, none⟩)), isV (.pointer (some ⟨p, 0, none⟩)), isV (.pointer (some ⟨p, 0, none⟩)), isV (.pointer (some ⟨p, 3, none⟩)), isV (.int .i64 st.ser), isV (.agg #[.int .i64 k, .int .i64 n, .string s, .slice lo ln lc]), isV (.agg #[.int .i64 pv.k, .int .i64 pv.n, .string pv.s, .slice none 0 0]), isV (.agg #[.int .i64 st.ser, .int .i64 pv.k, .int .i64 pv.n, .string pv.s, .slice none 0 0, .bool false, .bool false]), isPn1 B ⟨st.ser, pv, false, false⟩, isPs B l2, isV (.pointer (some ⟨p, 0, none⟩)), isV (.pointer (some ⟨p, 0, none⟩)), isV (.pointer (some ⟨p, 1, none⟩)), anyV] := ⟨stab_is _, stab_is _, stab_is _, stab_is _, stab_is _, stab_is _, stab_is _, stab_is _, stab_is _, stab_is _, stab_is _, stab_is _, stab_is _, stab_is _, stab_pn1 _ _, stab_ps _ _, stab_is _, stab_is _, stab_is _, stab_any, trivial⟩
  refine wp_joint (JB [isV (.pointer (some ⟨p, 0, none⟩)), isV (.pointer (some ⟨p, 0, none⟩)), isV (.pointer (some ⟨p, 0, none⟩)), isV (.pointer (some ⟨p, 0, none⟩)), isV (.pointer (some ⟨p, 1, none⟩)), isV (.slice po st.ps.length pc), isV (.pointer (some ⟨p, 0, none⟩)), isV (.pointer (some ⟨p, 0, none⟩)), isV (.pointer (some ⟨p, 0, none⟩)), isV (.pointer (some ⟨p, 3, none⟩)), isV (.int .i64 st.ser), isV (.agg #[.int .i64 k, .int .i64 n, .string s, .slice lo ln lc]), isV (.agg #[.int .i64 pv.k, .int .i64 pv.n, .string pv.s, .slice none 0 0]), isV (.agg #[.int .i64 st.ser, .int .i64 pv.k, .int .i64 pv.n, .string pv.s, .slice none 0 0, .bool false, .bool false]), isPn1 B ⟨st.ser, pv, false, false⟩, isPs B l2, isV (.pointer (some ⟨p, 0, none⟩)), isV (.pointer (some ⟨p, 0, none⟩)), isV (.pointer (some ⟨p, 1, none⟩)), anyV] ([99, 99, 99, 99, 99, 99, 99, 99, 99, 99, 99, 99, 99, 99, 15, 19, 99, 99, 99, 99].getD · 99) (fun d f2 u => (d 19 = false → (d 15 = false → u.heap[g]? = some (.cells #[.int .i64 k, .int .i64 n, .string s, .slice lo ln lc] 32 (0, 0)) ∧ Wk B p u F (.slice po st.ps.length pc) T fes st td) ∧ (d 15 = true → Wr B p u F (.slice po st.ps.length pc) T fes st td)) ∧ (d 19 = true → ∃ P2, Wk B p u F P2 T fes { st with ps := ps2 } td)) B w0) (by kernel_rfl) (by kernel_rfl) (by kernel_rfl) (fun f => ⟨(Below.refl _ _).drew, (Nat.le_trans HB0.out HW.out.size), rfl, (fun i h _ => by cases h), ⟨fun _ => ⟨fun _ => ⟨HG.out, HH.out.below (Below.refl _ _).drew⟩, fun h => by cases h⟩, fun h => by cases h⟩⟩) ?_ ?_
  · refine stepsOK5_cons (fun f2 d u hJ hn hd hno K hK => ?_) (stepsOK5_cons (fun f2 d u hJ hn hd hno K hK => ?_) (stepsOK5_cons (fun f2 d u hJ hn hd hno K hK => ?_) (stepsOK5_cons (fun f2 d u hJ hn hd hno K hK => ?_) (stepsOK5_cons (fun f2 d u hJ hn hd hno K hK => ?_) (stepsOK5_cons (fun f2 d u hJ hn hd hno K hK => ?_) (stepsOK5_cons (fun f2 d u hJ hn hd hno K hK => ?_) (stepsOK5_cons (fun f2 d u hJ hn hd hno K hK => ?_) (stepsOK5_cons (fun f2 d u hJ hn hd hno K hK => ?_) (stepsOK5_cons (fun f2 d u hJ hn hd hno K hK => ?_) (stepsOK5_cons (fun f2 d u hJ hn hd hno K hK => ?_) (stepsOK5_cons (fun f2 d u hJ hn hd hno K hK => ?_) (stepsOK5_cons (fun f2 d u hJ hn hd hno K hK => ?_) (stepsOK5_cons (fun f2 d u hJ hn hd hno K hK => ?_) (stepsOK5_cons (fun f2 d u hJ hn hd hno K hK => ?_) (stepsOK5_cons (fun f2 d u hJ hn hd hno K hK => ?_) (stepsOK5_cons (fun f2 d u hJ hn hd hno K hK => ?_) (stepsOK5_cons (fun f2 d u hJ hn hd hno K hK => ?_) (stepsOK5_cons (fun f2 d u hJ hn hd hno K hK => ?_) (stepsOK5_cons (fun f2 d u hJ hn hd hno K hK => ?_) stepsOK5_nil)))))))))))))))))))
    · refine wanted_on rfl ?_
      simp only [putAll, Act.put, List.setIfInBounds_toArray, List.set_cons_zero, List.set_cons_succ] at hK ⊢
      go_simp
      exact hK _ _ _ rfl (hJ.grow hl (by decide) (Below.refl _ _) rfl hJ.more)
    · refine wanted_on rfl ?_
      simp only [putAll, Act.put, List.setIfInBounds_toArray, List.set_cons_zero, List.set_cons_succ] at hK ⊢
      go_simp
      exact hK _ _ _ rfl (hJ.grow hl (by decide) (Below.refl _ _) rfl hJ.more)
    · have e1 : f2 1 = (.pointer (some ⟨p, 0, none⟩)) := hJ.at 1 (hd 1 (by kernel_rfl)) hJ.none
      refine wanted_on rfl ?_
      simp only [putAll, Act.put, List.setIfInBounds_toArray, List.set_cons_zero, List.set_cons_succ, e1] at hK ⊢
      go_simp
      exact hK _ _ _ rfl (hJ.grow hl (by decide) (Below.refl _ _) rfl hJ.more)
    · have e2 : f2 2 = (.pointer (some ⟨p, 0, none⟩)) := hJ.at 2 (hd 2 (by kernel_rfl)) hJ.none
      refine wanted_on rfl ?_
      simp only [putAll, Act.put, List.setIfInBounds_toArray, List.set_cons_zero, List.set_cons_succ, e2] at hK ⊢
      go_simp
      exact hK _ _ _ rfl (hJ.grow hl (by decide) (Below.refl _ _) rfl hJ.more)
    · have e3 : f2 3 = (.pointer (some ⟨p, 0, none⟩)) := hJ.at 3 (hd 3 (by kernel_rfl)) hJ.none
      refine wanted_on rfl ?_
      simp only [putAll, Act.put, List.setIfInBounds_toArray, List.set_cons_zero, List.set_cons_succ, e3] at hK ⊢
      go_simp
      exact hK _ _ _ rfl (hJ.grow hl (by decide) (Below.refl _ _) rfl hJ.more)
    · have e4 : f2 4 = (.pointer (some ⟨p, 1, none⟩)) := hJ.at 4 (hd 4 (by kernel_rfl)) hJ.none
      obtain ⟨⟨-, x1, -⟩, -⟩ := box7 ((hJ.more.1 (hno 19 (by kernel_rfl))).1 (hno 15 (by kernel_rfl))).2.box
      refine wanted_on rfl ?_
      simp only [putAll, Act.put, List.setIfInBounds_toArray, List.set_cons_zero, List.set_cons_succ, e4] at hK ⊢
      go_simp
      exact hK _ _ _ rfl (hJ.grow hl (by decide) (Below.refl _ _) rfl hJ.more)
    · refine wanted_on rfl ?_
      simp only [putAll, Act.put, List.setIfInBounds_toArray, List.set_cons_zero, List.set_cons_succ] at hK ⊢
      go_simp
      exact hK _ _ _ rfl (hJ.grow hl (by decide) (Below.refl _ _) rfl hJ.more)
    · have e6 : f2 6 = (.pointer (some ⟨p, 0, none⟩)) := hJ.at 6 (hd 6 (by kernel_rfl)) hJ.none
      refine wanted_on rfl ?_
      simp only [putAll, Act.put, List.setIfInBounds_toArray, List.set_cons_zero, List.set_cons_succ, e6] at hK ⊢
      go_simp
      exact hK _ _ _ rfl (hJ.grow hl (by decide) (Below.refl _ _) rfl hJ.more)
    · have e7 : f2 7 = (.pointer (some ⟨p, 0, none⟩)) := hJ.at 7 (hd 7 (by kernel_rfl)) hJ.none
      refine wanted_on rfl ?_
      simp only [putAll, Act.put, List.setIfInBounds_toArray, List.set_cons_zero, List.set_cons_succ, e7] at hK ⊢
      go_simp
      exact hK _ _ _ rfl (hJ.grow hl (by decide) (Below.refl _ _) rfl hJ.more)
    · have e8 : f2 8 = (.pointer (some ⟨p, 0, none⟩)) := hJ.at 8 (hd 8 (by kernel_rfl)) hJ.none
      refine wanted_on rfl ?_
      simp only [putAll, Act.put, List.setIfInBounds_toArray, List.set_cons_zero, List.set_cons_succ, e8] at hK ⊢
      go_simp
      exact hK _ _ _ rfl (hJ.grow hl (by decide) (Below.refl _ _) rfl hJ.more)
    · have e9 : f2 9 = (.pointer (some ⟨p, 3, none⟩)) := hJ.at 9 (hd 9 (by kernel_rfl)) hJ.none
      obtain ⟨⟨-, -, -, x3, -⟩, -⟩ := box7 ((hJ.more.1 (hno 19 (by kernel_rfl))).1 (hno 15 (by kernel_rfl))).2.box
      refine wanted_on rfl ?_
      simp only [putAll, Act.put, List.setIfInBounds_toArray, List.set_cons_zero, List.set_cons_succ, e9] at hK ⊢
      go_simp
      exact hK _ _ _ rfl (hJ.grow hl (by decide) (Below.refl _ _) rfl hJ.more)
    · obtain ⟨⟨x0, x1, x2, x3⟩, -⟩ := box4 ((hJ.more.1 (hno 19 (by kernel_rfl))).1 (hno 15 (by kernel_rfl))).1
      refine wanted_on rfl ?_
      simp only [putAll, Act.put, List.setIfInBounds_toArray, List.set_cons_zero, List.set_cons_succ] at hK ⊢
      go_simp
      exact hK _ _ _ rfl (hJ.grow hl (by decide) (Below.refl _ _) rfl hJ.more)
    · have e11 : f2 11 = (.agg #[.int .i64 k, .int .i64 n, .string s, .slice lo ln lc]) := hJ.at 11 (hd 11 (by kernel_rfl)) hJ.none
      refine wanted_on rfl ?_
      simp only [putAll, Act.put, List.setIfInBounds_toArray, List.set_cons_zero, List.set_cons_succ, e11] at hK ⊢
      go_simp
      refine (HPL.out u).mono ?_
      rintro e u1 ⟨rfl, hb⟩
      exact hK _ _ _ rfl (hJ.grow hl (by decide) hb rfl ⟨fun _ => ⟨fun _ => ⟨by rw [hb.block g (Array.getElem?_eq_some_iff.1 ((hJ.more.1 (hno 19 (by kernel_rfl))).1 (hno 15 (by kernel_rfl))).1).1]; exact ((hJ.more.1 (hno 19 (by kernel_rfl))).1 (hno 15 (by kernel_rfl))).1, ((hJ.more.1 (hno 19 (by kernel_rfl))).1 (hno 15 (by kernel_rfl))).2.below hb⟩, (fun h10 => by have h9 : d 15 = true := h10; rw [hno 15 (by kernel_rfl)] at h9; cases h9)⟩, (fun h10 => by have h9 : d 19 = true := h10; rw [hno 19 (by kernel_rfl)] at h9; cases h9)⟩)
    · have e10 : f2 10 = (.int .i64 st.ser) := hJ.at 10 (hd 10 (by kernel_rfl)) hJ.none
      have e12 : f2 12 = (.agg #[.int .i64 pv.k, .int .i64 pv.n, .string pv.s, .slice none 0 0]) := hJ.at 12 (hd 12 (by kernel_rfl)) hJ.none
      refine wanted_on rfl ?_
      simp only [putAll, Act.put, List.setIfInBounds_toArray, List.set_cons_zero, List.set_cons_succ, e10, e12] at hK ⊢
      go_simp
      exact hK _ _ _ rfl (hJ.grow hl (by decide) (Below.refl _ _) rfl hJ.more)
    · have e13 : f2 13 = (.agg #[.int .i64 st.ser, .int .i64 pv.k, .int .i64 pv.n, .string pv.s, .slice none 0 0, .bool false, .bool false]) := hJ.at 13 (hd 13 (by kernel_rfl)) hJ.none
      refine wanted_on rfl ?_
      simp only [putAll, Act.put, List.setIfInBounds_toArray, List.set_cons_zero, List.set_cons_succ, e13] at hK ⊢
      go_simp
      have hb : Below u.heap.size u (u.alloc (.cells #[.int .i64 st.ser, .int .i64 pv.k, .int .i64 pv.n, .string pv.s, .slice none 0 0, .bool false, .bool false] 55)) := (Below.refl _ _).alloc (Nat.le_refl _) _
      exact hK _ _ _ rfl (hJ.grow hl (by decide) hb (pn_lit hJ.lo) ⟨fun _ => ⟨fun _ => ⟨by rw [hb.block g (Array.getElem?_eq_some_iff.1 ((hJ.more.1 (hno 19 (by kernel_rfl))).1 (hno 15 (by kernel_rfl))).1).1]; exact ((hJ.more.1 (hno 19 (by kernel_rfl))).1 (hno 15 (by kernel_rfl))).1, ((hJ.more.1 (hno 19 (by kernel_rfl))).1 (hno 15 (by kernel_rfl))).2.below hb⟩, (fun h10 => by have h9 : d 15 = true := h10; rw [hno 15 (by kernel_rfl)] at h9; cases h9)⟩, (fun h10 => by have h9 : d 19 = true := h10; rw [hno 19 (by kernel_rfl)] at h9; cases h9)⟩)
    · have e5 : f2 5 = (.slice po st.ps.length pc) := hJ.at 5 (hd 5 (by kernel_rfl)) hJ.none
      have q14 := hJ.at 14 (hd 14 (by kernel_rfl)) hn
      obtain ⟨V14, e14⟩ : ∃ V, f2 14 = V := ⟨_, rfl⟩
      rw [e14] at q14
      refine wanted_on rfl ?_
      simp only [putAll, Act.put, List.setIfInBounds_toArray, List.set_cons_zero, List.set_cons_succ, e5, e14] at hK ⊢
      obtain ⟨-, hk⟩ := (hJ.more.1 (hno 19 (by kernel_rfl))).1 hn
      refine gapp _ _ Pn.len Try.infoPn rfl (by decide) Try.underlying24 rfl rfl rfl hk.ps q14 (Pn.one _) hJ.lo (by have := HPS.out; rw [List.length_reverse]; omega) (by decide) ?_
      intro v1 u1 h1 hgr hb
      rw [← HL2.out] at h1
      have hq := hk.grownP hgr
      refine hK _ _ _ rfl (hJ.step (by decide) hb (fun j h2 h3 h4 h5 h6 => ?_) h1 ⟨fun _ => ⟨(fun h7 => by cases h7), fun _ => hq⟩, (fun h10 => by have h9 : d 19 = true := h10; rw [hno 19 (by kernel_rfl)] at h9; cases h9)⟩)
      match j, h3, h6 with
      | 0, _, h6 => exact h6
      | 1, _, h6 => exact h6
      | 2, _, h6 => exact h6
      | 3, _, h6 => exact h6
      | 4, _, h6 => exact h6
      | 5, _, h6 => exact h6
      | 6, _, h6 => exact h6
      | 7, _, h6 => exact h6
      | 8, _, h6 => exact h6
      | 9, _, h6 => exact h6
      | 10, _, h6 => exact h6
      | 11, _, h6 => exact h6
      | 12, _, h6 => exact h6
      | 13, _, h6 => exact h6
      | 14, h3, _ => exact absurd rfl h3
      | 15, _, _ => exact absurd rfl h2
      | 16, _, h6 => exact h6
      | 17, _, h6 => exact h6
      | 18, _, h6 => exact h6
      | 19, _, _ => exact trivial
      | j + 20, _, _ => exact trivial
    · have e0 : f2 0 = (.pointer (some ⟨p, 0, none⟩)) := hJ.at 0 (hd 0 (by kernel_rfl)) hJ.none
      refine wanted_on rfl ?_
      simp only [putAll, Act.put, List.setIfInBounds_toArray, List.set_cons_zero, List.set_cons_succ, e0] at hK ⊢
      go_simp
      exact hK _ _ _ rfl (hJ.grow hl (by decide) (Below.refl _ _) rfl hJ.more)
    · have e16 : f2 16 = (.pointer (some ⟨p, 0, none⟩)) := hJ.at 16 (hd 16 (by kernel_rfl)) hJ.none
      refine wanted_on rfl ?_
      simp only [putAll, Act.put, List.setIfInBounds_toArray, List.set_cons_zero, List.set_cons_succ, e16] at hK ⊢
      go_simp
      exact hK _ _ _ rfl (hJ.grow hl (by decide) (Below.refl _ _) rfl hJ.more)
    · have e17 : f2 17 = (.pointer (some ⟨p, 0, none⟩)) := hJ.at 17 (hd 17 (by kernel_rfl)) hJ.none
      refine wanted_on rfl ?_
      simp only [putAll, Act.put, List.setIfInBounds_toArray, List.set_cons_zero, List.set_cons_succ, e17] at hK ⊢
      go_simp
      exact hK _ _ _ rfl (hJ.grow hl (by decide) (Below.refl _ _) rfl hJ.more)
    · have q15 := hJ.at 15 (hd 15 (by kernel_rfl)) hn
      obtain ⟨V15, e15⟩ : ∃ V, f2 15 = V := ⟨_, rfl⟩
      rw [e15] at q15
      have e18 : f2 18 = (.pointer (some ⟨p, 1, none⟩)) := hJ.at 18 (hd 18 (by kernel_rfl)) hJ.none
      obtain ⟨ao, cap, hv7⟩ := row_slice q15
      subst hv7
      have hq := (hJ.more.1 hn).2 (hd 15 (by kernel_rfl))
      obtain ⟨⟨-, x1, -⟩, ⟨-, y1, -⟩⟩ := box7 hq.box
      refine wanted_on rfl ?_
      simp only [putAll, Act.put, List.setIfInBounds_toArray, List.set_cons_zero, List.set_cons_succ, e15, e18] at hK ⊢
      go_simp
      have q15b : u.ownsRow B 55 7 (.slice ao l2.length cap) ps2.reverse.length (rc Pn.cells ps2.reverse) := by rw [← HL3.out]; exact q15
      obtain ⟨hk, hb⟩ := hq.putP q15b
      refine hK _ (f2 19) _ rfl (hJ.step (by decide) hb (fun j h2 h3 h4 h5 h6 => ?_) trivial ⟨(fun h10 => by cases h10), fun _ => ⟨_, hk⟩⟩)
      match j, h3, h6 with
      | 0, _, h6 => exact h6
      | 1, _, h6 => exact h6
      | 2, _, h6 => exact h6
      | 3, _, h6 => exact h6
      | 4, _, h6 => exact h6
      | 5, _, h6 => exact h6
      | 6, _, h6 => exact h6
      | 7, _, h6 => exact h6
      | 8, _, h6 => exact h6
      | 9, _, h6 => exact h6
      | 10, _, h6 => exact h6
      | 11, _, h6 => exact h6
      | 12, _, h6 => exact h6
      | 13, _, h6 => exact h6
      | 14, _, h6 => exact row_far h6 hq.box (by decide) (fun b hb _ => heap_setCell_other _ _ _ _ (by simpa using hb))
      | 15, h3, _ => exact absurd rfl h3
      | 16, _, h6 => exact h6
      | 17, _, h6 => exact h6
      | 18, _, h6 => exact h6
      | 19, _, _ => exact trivial
      | j + 20, _, _ => exact trivial
  · intro f2 d u hJ hall
    obtain ⟨P2, hk⟩ := hJ.more.2 (hall 19 (by decide))
    have HBU : Hid (Below B w u) := (HW.out.mono HB0.out).trans hJ.up
    obtain ⟨⟨-, -, -, x3, -⟩, ⟨-, -, -, f3, -⟩⟩ := box7 hk.box
    obtain ⟨hk2, hb2⟩ := hk.put0 3 (.int .i64 (st.ser + 1)) (by decide) (F' := F) (P' := P2) (T' := T) (st' := { st with ps := ps2, ser := st.ser + 1 }) rfl hk.fr hk.ps hk.td
    have hf2 : ({ st with ps := ps2, ser := st.ser + 1 } : St).fr = f :: r := HFR.out
    obtain ⟨u2, hu2⟩ : ∃ x, x = u.setCell ⟨p, 3, none⟩ (.int .i64 (st.ser + 1)) := ⟨_, rfl⟩
    rw [← hu2] at hk2 hb2
    obtain ⟨g3, hrun, hset⟩ := hk2.setPh hf2 2 hr1
    have HRUN : Hid (Calls Try.prog 42 #[.pointer (some ⟨p, 0, none⟩)] u2 fun e w' => e = .returned (.pointer (some ⟨g3, r.length * 5, none⟩)) ∧ Below u2.heap.size u2 w') := hrun u2 (Below.refl _ _)
    have HB2 : Hid (Below B w u2) := HBU.out.trans hb2
    have HSET : Hid (∀ u', Below u2.heap.size u2 u' → u'.cell? ⟨g3, r.length * 5 + 3, none⟩ = some (.int .i64 f.ph) ∧ u'.frozen? ⟨g3, r.length * 5 + 3, none⟩ = false ∧ Hid (WkI B p (u'.setCell ⟨g3, r.length * 5 + 3, none⟩ (.int .i64 2)) (st.panicS pv f r) td ∧ Below B u' (u'.setCell ⟨g3, r.length * 5 + 3, none⟩ (.int .i64 2)))) := fun u' hu' => by
      have := hset u' hu'
      rw [HPS2.out] at this
      exact this
    simp only [putAll, Act.put, List.setIfInBounds_toArray, List.set_cons_zero, List.set_cons_succ]
    clear hJ hall hk hk2 hb2 hf2 hrun hset hl
    go_wp2_with fail
    rw [← hu2]
    clear hu2
    refine HRUN.out.mono ?_
    rintro e w4 ⟨rfl, hb4⟩
    obtain ⟨y3, yf, HS⟩ := HSET.out w4 hb4
    have HB4 : Hid (Below B w (w4.setCell ⟨g3, r.length * 5 + 3, none⟩ (.int .i64 2))) := (HB2.out.trans (hb4.mono (Nat.le_trans HB0.out HB2.out.size))).trans HS.out.2
    have HK4 : Hid (WkI B p (w4.setCell ⟨g3, r.length * 5 + 3, none⟩ (.int .i64 2)) (st.panicS pv f r) td) := HS.out.1
    clear hb4 HS
    go_wp2_with fail
    refine (own_unwind B p (st.panicS pv f r) td _ HK4.out (Nat.le_trans HB0.out HB4.out.size) HFI.out).mono ?_
    rintro x w5 ⟨rfl, h5, hb5⟩
    have HF : Hid (WkI B p w5 (unwind (r.length + 2) (st.panicS pv f r) td).1 (unwind (r.length + 2) (st.panicS pv f r) td).2 ∧ Below B w w5) := ⟨h5, HB4.out.trans hb5⟩
    clear h5 hb5
    go_wp2_with fail
    go_end0
    exact ⟨rfl, HF.out⟩
end Go.Proofs.Ytcnpoldcebdhjaa
