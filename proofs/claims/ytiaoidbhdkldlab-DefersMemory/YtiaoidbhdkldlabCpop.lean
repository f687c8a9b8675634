/- The last call, and the others. -/
import Derived.Test.YtiaoidbhdkldlabCpush
namespace Go.Proofs.Ytiaoidbhdkldlab
open Go.ChangeShapes Go.WideShapes Go.ChangeAt Go.RowKit
set_option maxRecDepth 100000
set_option linter.unusedSimpArgs false
set_option linter.unusedVariables false
theorem row_oth {w w' : World} {B e s n : Nat} {v : Value} {xs : List Value} (h : w.ownsRow B e s v n xs) (hk : ∀ g, B ≤ g → w'.heap[g]? = w.heap[g]?) : w'.ownsRow B e s v n xs := row_at h fun g _ _ _ hg => hk g (h.lt g hg).1
theorem CRow.other {B : Nat} {w w' : World} {v : Value} {ms : List Ce} {cs : List Cc} (h : CRow B w v ms cs) (hk : ∀ g, B ≤ g → w'.heap[g]? = w.heap[g]?) : CRow B w' v ms cs := ⟨row_oth h.row hk, fun e he => row_oth (h.lies e he) hk, h.xs⟩
theorem CSrc.take {w : World} {lo : Option Addr} {n lc m : Nat} {es : List Ce} {cs : List Cc} (h : CSrc w (.slice lo n lc) es cs) (hm : m ≤ n) : CSrc w (.slice lo m lc) (es.take m) (cs.take m) := by
  obtain ⟨ao, cap, hs⟩ := h.row.shape
  cases hs
  refine ⟨?_, fun e he => h.lies e (List.mem_of_mem_take he), by rw [List.map_take, h.xs]⟩
  have hl : (es.take m).length = m := by simp; omega
  rcases h.row with ⟨h0, h1⟩ | ⟨a, cap, h1, h2, h2', h3, h4⟩
  · subst h1
    simp at h0
    obtain ⟨rfl, rfl⟩ := h0
    have : m = 0 := by simpa using hm
    subst this
    exact .inl ⟨rfl, rfl⟩
  · cases h1
    refine .inr ⟨a, lc, by rw [hl], by rw [hl]; omega, h2', fun hne => h3 (by rintro rfl; simp at hne), fun k e hk j u hu => ?_⟩
    refine h4 k e ?_ j u hu
    have hk2 : k < m := by have := (List.getElem?_eq_some_iff.1 hk).1; omega
    rwa [List.getElem?_take_of_lt hk2] at hk
theorem COk.take {cs : List Cc} (h : COk cs) (m : Nat) : COk (cs.take m) := ⟨fun c hc => h.each c (List.mem_of_mem_take hc), by have := h.size; simp; omega⟩
theorem own_pop_none (w : World) (v : Value) (h : CSrc w v [] []) : Calls Try.prog 11 #[v] w fun e w' => e = .returned (.tuple #[.slice none 0 0, .agg #[.int .i64 0, .int .i64 0, .slice none 0 0], .bool false]) ∧ Below w.heap.size w w' := by
  obtain ⟨lo, lc, hs⟩ := h.row.shape
  simp only [List.length_nil] at hs
  subst hs
  clear h
  go_enter Try.func11, Try.ntmps11
  go_wp2_with fail
  refine bodyPost_ret (v := .tuple #[.slice none 0 0, .agg #[.int .i64 0, .int .i64 0, .slice none 0 0], .bool false]) (by simp [results, Try.results11, go_sem]) rfl ⟨rfl, ?_⟩
  exact (Below.refl _ _).alloc (Nat.le_refl _) _
set_option maxHeartbeats 4000000 in
theorem own_pop (v : Value) (es : List Ce) (cs : List Cc) (m : Nat) (w : World) (hv : CSrc w v es cs) (hc : COk cs) (hm : es.length = m + 1) (hm2 : m < cs.length) :
    Calls Try.prog 11 #[v] w fun e w' => ∃ v' ms L', e = .returned (.tuple #[v', cval cs[m] L', .bool true]) ∧ CRow w.heap.size w' v' ms (cs.take m) ∧ IOwn w.heap.size w' L' cs[m].args ∧ Below w.heap.size w w' := by
  have hsz : es.length ≤ 3518437208800 := by rw [hv.len]; exact hc.size
  obtain ⟨lo, lc, rfl⟩ := hv.row.shape
  have hk : m < es.length := by omega
  have hx := hv.one hk hm2
  obtain ⟨b1, o1, c1, e1, x0, x1, x2⟩ := hv.row.at hk
  cases e1
  rw [hx] at x0 x1
  have HX : Hid (∀ u, Below w.heap.size w u → u.cell? ⟨b1, o1 + m * 3, none⟩ = some (.int .i64 cs[m].site) ∧ u.cell? ⟨b1, o1 + m * 3 + 1, none⟩ = some (.int .i64 cs[m].fn) ∧ u.cell? ⟨b1, o1 + m * 3 + 2, none⟩ = some es[m].L) := fun u hb => ⟨by rw [hb.cell (World.block_lt_of_cell? _ _ x0)]; exact x0, by rw [hb.cell (World.block_lt_of_cell? _ _ x1)]; exact x1, by rw [hb.cell (World.block_lt_of_cell? _ _ x2)]; exact x2⟩
  have hL0 := hv.lies es[m] (List.getElem_mem hk)
  rw [hx] at hL0
  have HV : Hid (∀ u, Below w.heap.size w u → CSrc u (.slice (some ⟨b1, o1, none⟩) m lc) (es.take m) (cs.take m)) := fun u h => (hv.take (by omega)).below h
  have HM : Hid (∀ u, Below w.heap.size w u → ILies u es[m].L cs[m].args) := fun u h => hL0.below h (Nat.le_refl _)
  have HS : Hid (cs[m].args.length * 8 ≤ 140737488355328) := by have := (hc.each _ (List.getElem_mem hm2)).sz; show _ * 8 ≤ _; omega
  have hct := hc.take m
  have hlc : m ≤ lc := by
    rcases hv.row with ⟨h0, h1⟩ | ⟨a, cap, h1, h2, h2', h3, h4⟩
    · cases h0
    · cases h1; omega
  clear hv hc hL0 x0 x1 x2 hx
  generalize cs[m] = c at *
  generalize es[m].L = L0 at *
  rw [hm] at hsz
  have hmi : (m : Int) < (m : Int) + 1 := by omega
  go_enter Try.func11, Try.ntmps11
  rw [hm]
  go_wp2_with fail
  have hl : AllStab [isV (.slice (some ⟨b1, o1, none⟩) (m + 1) lc), isV (.int .i64 m), isV (.slice (some ⟨b1, o1, none⟩) m lc), isRow (w.heap.size + 1) (cs.take m), isV (.slice (some ⟨b1, o1, none⟩) (m + 1) lc), isV (.int .i64 m), isV (.pointer (some ⟨b1, o1 + m * 3, none⟩)), isV (cval c L0), isCall (w.heap.size + 1) c, isRow (w.heap.size + 1) (cs.take m), anyV, isV (.bool true)] := ⟨stab_is _, stab_is _, stab_is _, stab_row _ _, stab_is _, stab_is _, stab_is _, stab_is _, stab_call _, stab_row _ _, stab_any, stab_is _, trivial⟩
  refine wp_joint (JF [isV (.slice (some ⟨b1, o1, none⟩) (m + 1) lc), isV (.int .i64 m), isV (.slice (some ⟨b1, o1, none⟩) m lc), isRow (w.heap.size + 1) (cs.take m), isV (.slice (some ⟨b1, o1, none⟩) (m + 1) lc), isV (.int .i64 m), isV (.pointer (some ⟨b1, o1 + m * 3, none⟩)), isV (cval c L0), isCall (w.heap.size + 1) c, isRow (w.heap.size + 1) (cs.take m), anyV, isV (.bool true)] ([99, 99, 99, 99, 99, 99, 99, 99, 99, 99, 99, 99].getD · 99) (fun d f u => ∃ p q r, u.heap[w.heap.size]? = some (.cells #[p, q, r] 25 (0, 0)) ∧ (d 10 = true → f 8 = .agg #[p, q, r])) w) (by kernel_rfl) (by kernel_rfl) (by kernel_rfl) (fun f => ⟨((Below.refl _ _).alloc (Nat.le_refl _) _).drew, rfl, (fun i h _ => by cases h), ⟨_, _, _, by show (w.heap.push _)[w.heap.size]? = _; exact Array.getElem?_push_size, fun h => by cases h⟩⟩) ?_ ?_
  · refine stepsOK5_cons (fun f d u hJ hn hd hno K hK => ?_) (stepsOK5_cons (fun f d u hJ hn hd hno K hK => ?_) (stepsOK5_cons (fun f d u hJ hn hd hno K hK => ?_) (stepsOK5_cons (fun f d u hJ hn hd hno K hK => ?_) (stepsOK5_cons (fun f d u hJ hn hd hno K hK => ?_) (stepsOK5_cons (fun f d u hJ hn hd hno K hK => ?_) (stepsOK5_cons (fun f d u hJ hn hd hno K hK => ?_) (stepsOK5_cons (fun f d u hJ hn hd hno K hK => ?_) (stepsOK5_cons (fun f d u hJ hn hd hno K hK => ?_) (stepsOK5_cons (fun f d u hJ hn hd hno K hK => ?_) (stepsOK5_cons (fun f d u hJ hn hd hno K hK => ?_) (stepsOK5_cons (fun f d u hJ hn hd hno K hK => ?_) stepsOK5_nil)))))))))))
    · refine wanted_on rfl ?_
      simp only [putAll, Act.put, List.setIfInBounds_toArray, List.set_cons_zero, List.set_cons_succ] at hK ⊢
      go_simp
      exact hK _ _ _ rfl (hJ.grow hl (by decide) (Below.refl _ _) rfl (by obtain ⟨p, q, r, hp, hq⟩ := hJ.more; exact ⟨p, q, r, hp, hq⟩))
    · refine wanted_on rfl ?_
      simp only [putAll, Act.put, List.setIfInBounds_toArray, List.set_cons_zero, List.set_cons_succ] at hK ⊢
      go_simp
      exact hK _ _ _ rfl (hJ.grow hl (by decide) (Below.refl _ _) rfl (by obtain ⟨p, q, r, hp, hq⟩ := hJ.more; exact ⟨p, q, r, hp, hq⟩))
    · have e0 : f 0 = (.slice (some ⟨b1, o1, none⟩) (m + 1) lc) := hJ.at 0 (hd 0 (by kernel_rfl)) hJ.none
      have e1 : f 1 = (.int .i64 m) := hJ.at 1 (hd 1 (by kernel_rfl)) hJ.none
      refine wanted_on rfl ?_
      simp only [putAll, Act.put, List.setIfInBounds_toArray, List.set_cons_zero, List.set_cons_succ, e0, e1] at hK ⊢
      go_simp
      exact hK _ _ _ rfl (hJ.grow hl (by decide) (Below.refl _ _) rfl (by obtain ⟨p, q, r, hp, hq⟩ := hJ.more; exact ⟨p, q, r, hp, hq⟩))
    · have e2 : f 2 = (.slice (some ⟨b1, o1, none⟩) m lc) := hJ.at 2 (hd 2 (by kernel_rfl)) hJ.none
      refine wanted_on rfl ?_
      simp only [putAll, Act.put, List.setIfInBounds_toArray, List.set_cons_zero, List.set_cons_succ, e2] at hK ⊢
      go_simp
      refine (own_copyAll _ _ _ u (HV.out u hJ.up) hct).mono ?_
      rintro e u1 ⟨W1, M1, rfl, h1, hb⟩
      exact hK _ _ _ rfl (hJ.grow hl (by decide) hb ⟨M1, h1.up (by obtain ⟨p, q, r, hp, _⟩ := hJ.more; have := (Array.getElem?_eq_some_iff.1 hp).1; omega)⟩ (by obtain ⟨p, q, r, hp, hq⟩ := hJ.more; exact ⟨p, q, r, by rw [hb.block _ (Array.getElem?_eq_some_iff.1 hp).1]; exact hp, hq⟩))
    · refine wanted_on rfl ?_
      simp only [putAll, Act.put, List.setIfInBounds_toArray, List.set_cons_zero, List.set_cons_succ] at hK ⊢
      go_simp
      exact hK _ _ _ rfl (hJ.grow hl (by decide) (Below.refl _ _) rfl (by obtain ⟨p, q, r, hp, hq⟩ := hJ.more; exact ⟨p, q, r, hp, hq⟩))
    · refine wanted_on rfl ?_
      simp only [putAll, Act.put, List.setIfInBounds_toArray, List.set_cons_zero, List.set_cons_succ] at hK ⊢
      go_simp
      exact hK _ _ _ rfl (hJ.grow hl (by decide) (Below.refl _ _) rfl (by obtain ⟨p, q, r, hp, hq⟩ := hJ.more; exact ⟨p, q, r, hp, hq⟩))
    · have e4 : f 4 = (.slice (some ⟨b1, o1, none⟩) (m + 1) lc) := hJ.at 4 (hd 4 (by kernel_rfl)) hJ.none
      have e5 : f 5 = (.int .i64 m) := hJ.at 5 (hd 5 (by kernel_rfl)) hJ.none
      refine wanted_on rfl ?_
      simp only [putAll, Act.put, List.setIfInBounds_toArray, List.set_cons_zero, List.set_cons_succ, e4, e5] at hK ⊢
      go_simp
      exact hK _ _ _ rfl (hJ.grow hl (by decide) (Below.refl _ _) rfl (by obtain ⟨p, q, r, hp, hq⟩ := hJ.more; exact ⟨p, q, r, hp, hq⟩))
    · have e6 : f 6 = (.pointer (some ⟨b1, o1 + m * 3, none⟩)) := hJ.at 6 (hd 6 (by kernel_rfl)) hJ.none
      obtain ⟨x0, x1, x2⟩ := HX.out u hJ.up
      refine wanted_on rfl ?_
      simp only [putAll, Act.put, List.setIfInBounds_toArray, List.set_cons_zero, List.set_cons_succ, e6] at hK ⊢
      go_simp
      exact hK _ _ _ rfl (hJ.grow hl (by decide) (Below.refl _ _) rfl (by obtain ⟨p, q, r, hp, hq⟩ := hJ.more; exact ⟨p, q, r, hp, hq⟩))
    · have e7 : f 7 = (cval c L0) := hJ.at 7 (hd 7 (by kernel_rfl)) hJ.none
      unfold cval at e7
      refine wanted_on rfl ?_
      simp only [putAll, Act.put, List.setIfInBounds_toArray, List.set_cons_zero, List.set_cons_succ, e7] at hK ⊢
      go_simp
      refine (own_copyCall c _ u HS.out (HM.out u hJ.up)).mono ?_
      rintro e u1 ⟨L1, rfl, h1, hb⟩
      exact hK _ _ _ rfl (hJ.grow hl (by decide) hb ⟨L1, rfl, h1.up (by obtain ⟨p, q, r, hp, _⟩ := hJ.more; have := (Array.getElem?_eq_some_iff.1 hp).1; omega)⟩ (by obtain ⟨p, q, r, hp, hq⟩ := hJ.more; exact ⟨p, q, r, by rw [hb.block _ (Array.getElem?_eq_some_iff.1 hp).1]; exact hp, fun h => by have h9 : d 10 = true := h; rw [hno 10 (by kernel_rfl)] at h9; cases h9⟩))
    · obtain ⟨m3, q3⟩ := hJ.at 3 (hd 3 (by kernel_rfl)) hJ.none
      obtain ⟨V3, e3⟩ : ∃ V, f 3 = V := ⟨_, rfl⟩
      rw [e3] at q3
      refine wanted_on rfl ?_
      simp only [putAll, Act.put, List.setIfInBounds_toArray, List.set_cons_zero, List.set_cons_succ, e3] at hK ⊢
      go_simp
      exact hK _ _ _ rfl (hJ.grow hl (by decide) (Below.refl _ _) ⟨m3, q3⟩ (by obtain ⟨p, q, r, hp, hq⟩ := hJ.more; exact ⟨p, q, r, hp, hq⟩))
    · obtain ⟨V8, e8, q8⟩ := hJ.at 8 (hd 8 (by kernel_rfl)) hJ.none
      obtain ⟨p, q, r, hp, hq⟩ := hJ.more
      obtain ⟨⟨c0, c1, c2⟩, f0, f1, f2⟩ := box3 hp
      obtain ⟨ao, cap, hsh⟩ := q8.shape
      subst hsh
      unfold cval at e8
      refine wanted_on rfl ?_
      simp only [putAll, Act.put, List.setIfInBounds_toArray, List.set_cons_zero, List.set_cons_succ, e8] at hK ⊢
      go_simp
      have hoth : ∀ b, w.heap.size + 1 ≤ b → (((u.setCell ⟨w.heap.size, 0, none⟩ (.int .i64 c.site)).setCell ⟨w.heap.size, 1, none⟩ (.int .i64 c.fn)).setCell ⟨w.heap.size, 2, none⟩ (.slice ao c.args.length cap)).heap[b]? = u.heap[b]? := fun b hb => by rw [heap_setCell_other _ _ _ _ (by simp; omega), heap_setCell_other _ _ _ _ (by simp; omega), heap_setCell_other _ _ _ _ (by simp; omega)]
      refine hK _ (f 10) _ rfl (hJ.step (by decide) (((hJ.up.setCell (Nat.le_refl _) _).setCell (Nat.le_refl _) _).setCell (Nat.le_refl _) _) (fun j h2 h3 h4 h5 h6 => ?_) trivial ⟨.int .i64 c.site, .int .i64 c.fn, .slice ao c.args.length cap, ?_, fun _ => e8⟩)
      · match j, h6 with
        | 0, h6 => exact h6
        | 1, h6 => exact h6
        | 2, h6 => exact h6
        | 3, h6 => obtain ⟨m, q⟩ := h6; exact ⟨m, q.other hoth⟩
        | 4, h6 => exact h6
        | 5, h6 => exact h6
        | 6, h6 => exact h6
        | 7, h6 => exact h6
        | 8, h6 => obtain ⟨L, e, q⟩ := h6; exact ⟨L, e, row_oth q hoth⟩
        | 9, h6 => obtain ⟨m, q⟩ := h6; exact ⟨m, q.other hoth⟩
        | 10, _ => exact trivial
        | 11, h6 => exact h6
        | j + 12, _ => exact trivial
      · simp [World.setCell, Array.getElem?_modify, hp]
    · refine wanted_on rfl ?_
      simp only [putAll, Act.put, List.setIfInBounds_toArray, List.set_cons_zero, List.set_cons_succ] at hK ⊢
      go_simp
      exact hK _ _ _ rfl (hJ.grow hl (by decide) (Below.refl _ _) rfl (by obtain ⟨p, q, r, hp, hq⟩ := hJ.more; exact ⟨p, q, r, hp, hq⟩))
  · intro f d u hJ hall
    obtain ⟨m9, q9⟩ := hJ.at 9 (hall 9 (by decide)) hJ.none
    obtain ⟨V9, e9⟩ : ∃ V, f 9 = V := ⟨_, rfl⟩
    rw [e9] at q9
    obtain ⟨L8, e8, q8⟩ := hJ.at 8 (hall 8 (by decide)) hJ.none
    have e11 : f 11 = .bool true := hJ.at 11 (hall 11 (by decide)) hJ.none
    obtain ⟨p, q, r, hp, hq⟩ := hJ.more
    have h8 := hq (hall 10 (by decide))
    rw [e8] at h8
    simp only [cval, Value.agg.injEq, Array.mk.injEq, List.cons.injEq, and_true] at h8
    obtain ⟨rfl, rfl, rfl⟩ := h8
    obtain ⟨⟨c0, c1, c2⟩, f0, f1, f2⟩ := box3 hp
    simp only [putAll, Act.put, List.setIfInBounds_toArray, List.set_cons_zero, List.set_cons_succ, Nat.reduceAdd, e9, e11]
    go_wp2_with fail
    refine bodyPost_ret (v := .tuple #[V9, cval c L8, .bool true]) (by simp [cval, results, Try.results11, go_sem, c0, c1, c2]) rfl ⟨_, m9, _, rfl, q9.up (by omega), IOwn.up q8 (by omega), hJ.up⟩
end Go.Proofs.Ytiaoidbhdkldlab
