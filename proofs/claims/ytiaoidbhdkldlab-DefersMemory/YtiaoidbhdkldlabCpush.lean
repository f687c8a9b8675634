/- One more call. -/
import Derived.Test.YtiaoidbhdkldlabCall2
import Derived.Test.YtiaoidbhdkldlabSteady5
namespace Go.Proofs.Ytiaoidbhdkldlab
open Go.ChangeShapes Go.WideShapes Go.ChangeAt Go.RowKit
set_option maxRecDepth 100000
set_option linter.unusedSimpArgs false
set_option linter.unusedVariables false
/-- A list of calls of one's own, in a slot. -/
def isRow (B : Nat) (cs : List Cc) : Value → World → Prop := fun v w => ∃ ms, CRow B w v ms cs
/-- A call in a slot, its list of one's own. -/
def isCall (B : Nat) (c : Cc) : Value → World → Prop := fun v w => ∃ L, v = cval c L ∧ IOwn B w L c.args
theorem stab_row (B : Nat) (cs : List Cc) : Stab (isRow B cs) := fun v w w' hb ⟨ms, h⟩ => ⟨ms, h.below hb⟩
theorem stab_call {B : Nat} (c : Cc) : Stab (isCall B c) := fun v w w' hb ⟨L, e, h⟩ => ⟨L, e, h.below hb⟩
theorem CRow.kept {B : Nat} {w w' : World} {v : Value} {ms : List Ce} {cs : List Cc} {row : Option Nat} (h : CRow B w v ms cs) (hg : w.grownBy w' row) (hne : v.ownBlock = none ∨ v.ownBlock ≠ row) (ht : ∀ g, row = some g → ∃ cs z, w.heap[g]? = some (.cells cs 25 z)) : CRow B w' v ms cs :=
  ⟨h.row.kept hg hne, fun e he => iown_grown (h.lies e he) hg ht, h.xs⟩
theorem capp0 {o : Oper} {a : Act} {K : Act → World → Prop} {Q : Exit → Act → World → Prop} {u : World} {B : Nat} {v v2 : Value} {ms : List Ce} {x : Cc} {lo : Option Addr} {lc : Nat} (s y : Operand)
    (ho : o.op = .call { callee := .builtin .append, args := #[s, y], argTypes := #[22, 22] }) (hs : a.eval s = v) (hx : a.eval y = v2) (h : u.ownsRow B 25 3 v ms.length (ccells ms)) (h2 : u.ownsRow B 25 3 v2 1 (Ce.cells ⟨x, .slice lo x.args.length lc⟩)) (hB : B ≤ u.heap.size) (hz : ms.length ≤ 3518437208800)
    (k : ∀ v' u', u'.ownsRow B 25 3 v' (ms.length + 1) (ccells ms ++ Ce.cells ⟨x, .slice lo x.args.length lc⟩) → u.grownBy u' v.ownBlock → Below B u u' → K (a.put o.dst v') u') : o.wp Try.prog a u K Q := by
  obtain ⟨i0, hi, hz0, hz1, hz2⟩ := info_parts Try.infoCallC
  rcases h2.2 with ⟨h0, h1⟩ | ⟨g, cap, cur, rfl, hg1, hg2, hcap, hmax, hcs, htk⟩
  · simp at h1
  · refine wp_append_own u s y 22 ho B 25 i0 _ 3 40 Try.underlying22 hi hz0 hz1 hz2 rfl (by decide) v ms.length (ccells ms) hs h ⟨g, 0, none⟩ 1 cap (Ce.cells ⟨x, .slice lo x.args.length lc⟩) hx rfl (fun j w hj => ?_) ccells_one (by unfold maxLen; omega) (by omega) hB ?_
    · have hj3 := (List.getElem?_eq_some_iff.1 hj).1
      rw [add_plain, Nat.zero_add, h2.cellAt j (by simpa [Ce.cells] using hj3)]
      exact hj
    · intro v' u' hown hgrow hnil
      exact k v' u' hown hgrow ((Below.refl _ _).grown hgrow hB (fun q hq => (h.lt q hq).1))
theorem capp {o : Oper} {a : Act} {K : Act → World → Prop} {Q : Exit → Act → World → Prop} {u : World} {B : Nat} {v v2 : Value} {ms : List Ce} {cs : List Cc} {x : Cc} {L : Value} (s y : Operand)
    (ho : o.op = .call { callee := .builtin .append, args := #[s, y], argTypes := #[22, 22] }) (hs : a.eval s = v) (hx : a.eval y = v2) (h : CRow B u v ms cs) (h2 : CRow B u v2 [⟨x, L⟩] [x]) (hB : B ≤ u.heap.size) (hz : cs.length ≤ 3518437208800)
    (k : ∀ v' u', CRow B u' v' (ms ++ [⟨x, L⟩]) (cs ++ [x]) → u.grownBy u' v.ownBlock → Below B u u' → K (a.put o.dst v') u') : o.wp Try.prog a u K Q := by
  have hL : IOwn B u L x.args := h2.lies _ (List.mem_singleton.2 rfl)
  have hl := h.len
  obtain ⟨lo, lc, hLs⟩ := hL.shape
  subst hLs
  refine capp0 s y ho hs hx h.row ?_ hB (by omega) fun v' u' h3 h4 h5 => k v' u' (h.push h3 h4 hL) h4 h5
  have := h2.row
  simpa [ccells] using this
/-- A call in a literal of one. -/
def isLit (B : Nat) (x : Cc) (L : Value) : Value → World → Prop := fun v w => w.ownsRow B 25 3 v 1 (Ce.cells ⟨x, L⟩)
theorem stab_lit (B : Nat) (x : Cc) (L : Value) : Stab (isLit B x L) := fun v w w' hb h => row_below h hb
theorem lit_is {B : Nat} {u : World} {x : Cc} {L : Value} (hB : B ≤ u.heap.size) : (u.alloc (.cells #[.int .i64 x.site, .int .i64 x.fn, L] 25)).ownsRow B 25 3 (.slice (some ⟨u.heap.size, 0, none⟩) 1 1) 1 (Ce.cells ⟨x, L⟩) :=
  World.ownsRow_lit u #[.int .i64 x.site, .int .i64 x.fn, L] 1 hB (by decide) rfl
/-- Calls of one's own, and one more whose list may be another's. -/
def isMix (B : Nat) (cs : List Cc) (x : Cc) (L : Value) : Value → World → Prop := fun v w => ∃ ms : List Ce, w.ownsRow B 25 3 v (ms.length + 1) (ccells (ms ++ [⟨x, L⟩])) ∧ (∀ e ∈ ms, IOwn B w e.L e.x.args) ∧ ms.map (·.x) = cs
theorem stab_mix (B : Nat) (cs : List Cc) (x : Cc) (L : Value) : Stab (isMix B cs x L) := fun v w w' hb ⟨ms, h1, h2, h3⟩ => ⟨ms, row_below h1 hb, fun e he => (h2 e he).below hb, h3⟩
theorem mix_src {B : Nat} {w : World} {v : Value} {cs : List Cc} {x : Cc} {L : Value} (h : isMix B cs x L v w) (hL : ILies w L x.args) : ∃ es, CSrc w v es (cs ++ [x]) := by
  obtain ⟨ms, h1, h2, h3⟩ := h
  refine ⟨ms ++ [⟨x, L⟩], lies_of_row (by rw [List.length_append]; exact h1), fun e he => ?_, by rw [List.map_append, h3]; rfl⟩
  rcases List.mem_append.1 he with h | h
  · exact (h2 e h).lies
  · simp at h; subst h; exact hL
/-- What a literal of one call is. -/
theorem CRow.lit {B : Nat} {u : World} {x : Cc} {L : Value} (hB : B ≤ u.heap.size) (h : IOwn B u L x.args) : CRow B (u.alloc (.cells #[.int .i64 x.site, .int .i64 x.fn, L] 25)) (.slice (some ⟨u.heap.size, 0, none⟩) 1 1) [⟨x, L⟩] [x] :=
  ⟨World.ownsRow_lit u #[.int .i64 x.site, .int .i64 x.fn, L] 1 hB (by decide) rfl, fun e he => by simp at he; subst he; exact h.below ((Below.refl _ _).alloc (Nat.le_refl _) _), rfl⟩
theorem apart_blocks {v v2 : Value} (h : ∀ g, v.ownBlock = some g → v2.ownBlock ≠ some g) : v.ownBlock = none ∨ v.ownBlock ≠ v2.ownBlock := by
  cases hv : v.ownBlock with
  | none => exact .inl rfl
  | some g => exact .inr fun e => h g hv e.symm
theorem one_of {B : Nat} {u : World} {v : Value} {m : List Ce} {x : Cc} (h : CRow B u v m [x]) : ∃ e, m = [e] ∧ e.x = x := by
  have h1 := h.xs
  match m, h1 with
  | [e], h1 => simp at h1; exact ⟨e, rfl, h1⟩
set_option maxHeartbeats 4000000 in
theorem own_push (v : Value) (es : List Ce) (cs : List Cc) (x : Cc) (L0 : Value) (w : World) (hv : CSrc w v es cs) (hc : COk cs) (hx : CIn x) (hm : ILies w L0 x.args) :
    Calls Try.prog 10 #[v, cval x L0] w fun e w' => ∃ v' ms, e = .returned v' ∧ CRow w.heap.size w' v' ms (cs ++ [x]) ∧ Below w.heap.size w w' := by
  have HV : Hid (∀ u, Below (w.alloc (.cells #[.int .i64 x.site, .int .i64 x.fn, L0] 25)).heap.size (w.alloc (.cells #[.int .i64 x.site, .int .i64 x.fn, L0] 25)) u → CSrc u v es cs) := fun u h => hv.below (below_up h)
  have HM : Hid (∀ u, Below (w.alloc (.cells #[.int .i64 x.site, .int .i64 x.fn, L0] 25)).heap.size (w.alloc (.cells #[.int .i64 x.site, .int .i64 x.fn, L0] 25)) u → ILies u L0 x.args) := fun u h => hm.below (below_up h) (Nat.le_refl _)
  have HS : Hid (x.args.length * 8 ≤ 140737488355328) := by have := hx.sz; show x.args.length * 8 ≤ 140737488355328; omega
  have HZ : Hid (cs.length ≤ 3518437208800) := hc.size
  obtain ⟨lo, lc, rfl⟩ := hm.shape
  obtain ⟨vo, vc, rfl⟩ := hv.row.shape
  clear hv hm
  unfold cval
  go_enter Try.func10, Try.ntmps10
  go_wp2_with fail
  have hl : AllStab [isV (.slice vo es.length vc), isRow (w.heap.size + 1) cs, isV (cval x (.slice lo x.args.length lc)), isCall (w.heap.size + 1) x, isRow (w.heap.size + 1) [x], isRow (w.heap.size + 1) (cs ++ [x]), isRow (w.heap.size + 1) (cs ++ [x])] := ⟨stab_is _, stab_row _ _, stab_is _, stab_call _, stab_row _ _, stab_row _ _, stab_row _ _, trivial⟩
  refine wp_joint (JF [isV (.slice vo es.length vc), isRow (w.heap.size + 1) cs, isV (cval x (.slice lo x.args.length lc)), isCall (w.heap.size + 1) x, isRow (w.heap.size + 1) [x], isRow (w.heap.size + 1) (cs ++ [x]), isRow (w.heap.size + 1) (cs ++ [x])] ([99, 5, 99, 5, 5, 99, 99].getD · 99) (fun _ _ _ => True) _) (by kernel_rfl) (by kernel_rfl) (by kernel_rfl) (fun f => ⟨(Below.refl _ _).drew, rfl, (fun i h _ => by cases h), trivial⟩) ?_ ?_
  · refine stepsOK5_cons (fun f d u hJ hn hd hno K hK => ?_) (stepsOK5_cons (fun f d u hJ hn hd hno K hK => ?_) (stepsOK5_cons (fun f d u hJ hn hd hno K hK => ?_) (stepsOK5_cons (fun f d u hJ hn hd hno K hK => ?_) (stepsOK5_cons (fun f d u hJ hn hd hno K hK => ?_) (stepsOK5_cons (fun f d u hJ hn hd hno K hK => ?_) (stepsOK5_cons (fun f d u hJ hn hd hno K hK => ?_) stepsOK5_nil))))))
    · refine wanted_on rfl ?_
      simp only [putAll, Act.put, List.setIfInBounds_toArray, List.set_cons_zero, List.set_cons_succ] at hK ⊢
      go_simp
      exact hK _ _ _ rfl (hJ.grow hl (by decide) (Below.refl _ _) rfl trivial)
    · have e0 : f 0 = (.slice vo es.length vc) := hJ.at 0 (hd 0 (by kernel_rfl)) hJ.none
      refine wanted_on rfl ?_
      simp only [putAll, Act.put, List.setIfInBounds_toArray, List.set_cons_zero, List.set_cons_succ, e0] at hK ⊢
      go_simp
      refine (own_copyAll _ es cs u (HV.out u hJ.up) hc).mono ?_
      rintro e u1 ⟨V1, M1, rfl, h1, hb⟩
      exact hK _ _ _ rfl (hJ.grow hl (by decide) hb ⟨M1, h1.up (by have := hJ.up.size; simp at this; omega)⟩ trivial)
    · obtain ⟨⟨c0, c1, c2⟩, _⟩ := box3 (box_stays hJ.up)
      refine wanted_on rfl ?_
      simp only [putAll, Act.put, List.setIfInBounds_toArray, List.set_cons_zero, List.set_cons_succ] at hK ⊢
      go_simp
      exact hK _ _ _ rfl (hJ.grow hl (by decide) (Below.refl _ _) rfl trivial)
    · have e2 : f 2 = (cval x (.slice lo x.args.length lc)) := hJ.at 2 (hd 2 (by kernel_rfl)) hJ.none
      refine wanted_on rfl ?_
      simp only [putAll, Act.put, List.setIfInBounds_toArray, List.set_cons_zero, List.set_cons_succ, e2] at hK ⊢
      go_simp
      refine (own_copyCall x _ u HS.out (HM.out u hJ.up)).mono ?_
      rintro e u1 ⟨L1, rfl, h1, hb⟩
      exact hK _ _ _ rfl (hJ.grow hl (by decide) hb ⟨L1, rfl, h1.up (by have := hJ.up.size; simp at this; omega)⟩ trivial)
    · obtain ⟨V3, e3, q3⟩ := hJ.at 3 (hd 3 (by kernel_rfl)) (hno 5 (by kernel_rfl))
      unfold cval at e3
      refine wanted_on rfl ?_
      simp only [putAll, Act.put, List.setIfInBounds_toArray, List.set_cons_zero, List.set_cons_succ, e3] at hK ⊢
      go_simp
      exact hK _ _ _ rfl (hJ.grow hl (by decide) ((Below.refl _ _).alloc (Nat.le_refl _) _) ⟨_, CRow.lit (by have := hJ.up.size; simp at this; omega) q3⟩ trivial)
    · obtain ⟨m1, q1⟩ := hJ.at 1 (hd 1 (by kernel_rfl)) hn
      obtain ⟨V1, e1⟩ : ∃ V, f 1 = V := ⟨_, rfl⟩
      rw [e1] at q1
      obtain ⟨m4, q4⟩ := hJ.at 4 (hd 4 (by kernel_rfl)) hn
      obtain ⟨V4, e4⟩ : ∃ V, f 4 = V := ⟨_, rfl⟩
      rw [e4] at q4
      refine wanted_on rfl ?_
      simp only [putAll, Act.put, List.setIfInBounds_toArray, List.set_cons_zero, List.set_cons_succ, e1, e4] at hK ⊢
      obtain ⟨e5, q5x⟩ : ∃ e, m4 = [e] ∧ e.x = x := one_of q4
      obtain ⟨rfl, rfl⟩ := q5x
      refine capp _ _ rfl rfl rfl q1 q4 (by have := hJ.up.size; simp at this; omega) HZ.out ?_
      intro v1 u1 h1 hg hb
      refine hK _ _ _ rfl (hJ.step (by decide) (hJ.up.trans (hb.mono (by simp))) (fun j h2 h3 h4 h5 h6 => ?_) ⟨_, h1⟩ trivial)
      match j, h3, h6 with
      | 0, _, h6 => exact h6
      | 1, h3, _ => exact absurd rfl h3
      | 2, _, h6 => exact h6
      | 3, h3, _ => exact absurd rfl h3
      | 4, h3, _ => exact absurd rfl h3
      | 5, _, _ => exact absurd rfl h2
      | 6, _, _ => cases (hno 6 (by kernel_rfl)).symm.trans h4
      | j + 7, _, _ => exact trivial
    · obtain ⟨m5, q5⟩ := hJ.at 5 (hd 5 (by kernel_rfl)) hJ.none
      obtain ⟨V5, e5⟩ : ∃ V, f 5 = V := ⟨_, rfl⟩
      rw [e5] at q5
      refine wanted_on rfl ?_
      simp only [putAll, Act.put, List.setIfInBounds_toArray, List.set_cons_zero, List.set_cons_succ, e5] at hK ⊢
      go_simp
      exact hK _ _ _ rfl (hJ.grow hl (by decide) (Below.refl _ _) ⟨m5, q5⟩ trivial)
  · intro f d u hJ hall
    obtain ⟨m6, q6⟩ := hJ.at 6 (hall 6 (by decide)) hJ.none
    obtain ⟨V6, e6⟩ : ∃ V, f 6 = V := ⟨_, rfl⟩
    rw [e6] at q6
    simp only [putAll, Act.put, List.setIfInBounds_toArray, List.set_cons_zero, List.set_cons_succ, e6]
    go_wp2_with fail
    all_goals go_ret
    exact ⟨_, m6, rfl, q6.up (by omega), below_up hJ.up⟩
end Go.Proofs.Ytiaoidbhdkldlab
