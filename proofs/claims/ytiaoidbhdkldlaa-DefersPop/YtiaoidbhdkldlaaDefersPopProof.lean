/-
  For every list of calls that comes in, defers.Pop answers the list without its last call, that call, and whether there was one (P8.2): the law's function returns true.
-/
import Derived.Test.YtiaoidbhdkldlaaCpop
import Derived.Test.YtiaoidbhdkldlaaCsame
namespace Go.Proofs.Ytiaoidbhdkldlaa.defersPop
open Go.ChangeShapes Go.WideShapes Go.ChangeAt Go.RowKit
open Go.WideMaps Go.WideElems
open Go.ChangeMaps (open_string shut_string)
set_option linter.unusedVariables false
set_option linter.unusedSimpArgs false
set_option maxRecDepth 100000

theorem own : ownKnob Try.prog.godebug = none := by kernel_rfl

theorem lit_pop (u : World) (g : Nat) (hg : g = u.heap.size) : Calls Try.prog 12 #[.slice (some ⟨g, 0, none⟩) 1 1] (u.alloc (.cells #[.int .i64 1, .int .i64 0, .slice none 0 0] 25)) fun e w' => ∃ v' ao cap, e = .returned (.tuple #[v', .agg #[.int .i64 1, .int .i64 0, .slice ao 0 cap], .bool true]) ∧ Below u.heap.size u w' := by
  subst hg
  have hr := CRow.lit (u := u) (x := ⟨1, 0, []⟩) (L := .slice none 0 0) (B := u.heap.size) (Nat.le_refl _) (IOwn.nil _ _)
  have hc : CIn ⟨1, 0, []⟩ := ⟨by decide, by decide, (fun i h => by cases h), by simp⟩
  refine (own_pop _ _ _ 0 _ hr.src ⟨fun c h => by simp at h; subst h; exact hc, by simp⟩ rfl (by simp)).mono ?_
  rintro e w1 ⟨V, ms, L', rfl, -, hi, hb⟩
  obtain ⟨ao, cap, hs⟩ := hi.shape
  have hs2 : L' = .slice ao 0 cap := hs
  subst hs2
  exact ⟨V, ao, cap, rfl, below_up hb⟩
set_option maxHeartbeats 2000000 in
theorem walk (v0 : Value) (es0 : List Ce) (cs0 : List Cc) (w : World) (hv0 : CSrc w v0 es0 cs0) (hc0 : ∀ c ∈ cs0, CIn c) (hz0 : cs0.length ≤ 3518437208780) :
    Calls Try.prog 4 #[v0] w fun e w' => e = .returned (.bool true) ∧ Below w.heap.size w w' := by
  have hc : COk cs0 := ⟨hc0, by omega⟩
  have hcs : ∀ c ∈ cs0, c.args.length ≤ 140737488351232 := fun c h => by have := (hc0 c h).sz; omega
  have HV : Hid (CSrc w v0 es0 cs0) := hv0
  obtain ⟨vo, vc, rfl⟩ := hv0.row.shape
  have hle := hv0.len
  by_cases h0 : cs0 = []
  · subst h0
    have he : es0 = [] := List.eq_nil_of_length_eq_zero hle
    subst he
    clear hv0
    go_enter Try.func4, Try.ntmps4
    go_wp2_with fail
    refine (own_calls _ _ _ _ HV.out hc).mono ?_
    rintro e u1 ⟨V1, M1, rfl, q1, b1⟩
    have hM1 : M1 = [] := List.eq_nil_of_length_eq_zero q1.len
    subst hM1
    go_wp2_with fail
    refine (own_pop_none _ _ q1.src).mono ?_
    rintro e u2 ⟨rfl, b2⟩
    have B2 : Hid (Below w.heap.size w u2) := b1.trans (b2.mono b1.size)
    clear b1 b2
    go_wp2_with fail
    refine (lit_pop _ _ (by simp)).mono ?_
    rintro e u3 ⟨V3, lo3, lc3, rfl, b3⟩
    have hbx := box_stays b3
    have hz3 : u2.heap.size < u3.heap.size := by have := b3.size; simp at this; omega
    obtain ⟨⟨c0, c1, c2⟩, f0, f1, f2⟩ := box3 hbx
    have B3 : Hid (Below u2.heap.size u2 u3) := below_up b3
    clear b3 hbx
    go_wp2_with fail
    refine (own_same ⟨0, 0, []⟩ (.slice none 0 0) (.slice none 0 0) _ (.inl ⟨rfl, rfl⟩) (.inl ⟨rfl, rfl⟩) (by simp)).mono ?_
    rintro e u4 ⟨rfl, b4⟩
    go_wp2_with fail
    all_goals go_ret
    all_goals exact ⟨rfl, B2.out.trans ((B3.out.trans ((below_up b4).mono B3.out.size)).mono B2.out.size)⟩
  · obtain ⟨m, hm⟩ : ∃ m, cs0.length = m + 1 := ⟨cs0.length - 1, by have : cs0.length ≠ 0 := fun h => h0 (List.eq_nil_of_length_eq_zero h); omega⟩
    have hme : es0.length = m + 1 := by rw [hle, hm]
    have hk : m < es0.length := by omega
    have hk2 : m < cs0.length := by omega
    have hx := hv0.one hk hk2
    obtain ⟨b1, o1, c1, e1, x0, x1, x2⟩ := hv0.row.at hk
    cases e1
    rw [hx] at x0 x1
    have hL0 := hv0.lies es0[m] (List.getElem_mem hk)
    rw [hx] at hL0
    have HX : Hid (∀ u, Below w.heap.size w u → (u.cell? ⟨b1, o1 + m * 3, none⟩ = some (.int .i64 cs0[m].site) ∧ u.cell? ⟨b1, o1 + m * 3 + 1, none⟩ = some (.int .i64 cs0[m].fn) ∧ u.cell? ⟨b1, o1 + m * 3 + 2, none⟩ = some es0[m].L) ∧ ILies u es0[m].L cs0[m].args ∧ CSrc u (.slice (some ⟨b1, o1, none⟩) m vc) (es0.take m) (cs0.take m)) := fun u hb => ⟨⟨by rw [hb.cell (World.block_lt_of_cell? _ _ x0)]; exact x0, by rw [hb.cell (World.block_lt_of_cell? _ _ x1)]; exact x1, by rw [hb.cell (World.block_lt_of_cell? _ _ x2)]; exact x2⟩, hL0.below hb (Nat.le_refl _), (hv0.take (by omega)).below hb⟩
    have hcl := hcs _ (List.getElem_mem hk2)
    have hct : ∀ c ∈ cs0.take m, c.args.length ≤ 140737488351232 := fun c h => hcs c (List.mem_of_mem_take h)
    have hlc : m ≤ vc := by
      rcases hv0.row with ⟨h0, h1⟩ | ⟨a, cap, h1, h2, h2', h3, h4⟩
      · cases h0
      · cases h1; omega
    have HPOP : Hid (∀ V M u, CRow w.heap.size u V M cs0 → Calls Try.prog 12 #[V] u fun e w' => ∃ v' ms L', e = .returned (.tuple #[v', cval cs0[m] L', .bool true]) ∧ CRow u.heap.size w' v' ms (cs0.take m) ∧ IOwn u.heap.size w' L' cs0[m].args ∧ Below u.heap.size u w') := fun V M u q => own_pop V M cs0 m u q.src hc (by rw [q.len, hm]) hk2
    clear hv0 x0 x1 x2 hx hL0 hcs
    generalize cs0[m] = c at *
    generalize es0[m].L = L0 at *
    rw [hme]
    go_enter Try.func4, Try.ntmps4
    go_wp2_with fail
    rw [← hme]
    refine (own_calls _ _ _ _ HV.out hc).mono ?_
    rintro e u1 ⟨V1, M1, rfl, q1, b1⟩
    rw [hme]
    go_wp2_with fail
    refine (HPOP.out _ _ _ q1).mono ?_
    rintro e u2 ⟨V2, M2, L2, rfl, q2, l2, b2⟩
    obtain ⟨lo2, lc2, hs2⟩ := l2.shape
    subst hs2
    unfold cval
    have B2 : Hid (Below w.heap.size w u2) := b1.trans (b2.mono b1.size)
    clear b1 b2
    go_wp2_with fail
    refine (lit_pop _ _ (by simp)).mono ?_
    rintro e u3 ⟨V3, lo3, lc3, rfl, b3⟩
    have hbx := box_stays b3
    have hz3 : u2.heap.size < u3.heap.size := by have := b3.size; simp at this; omega
    obtain ⟨⟨c0, c1, c2⟩, f0, f1, f2⟩ := box3 hbx
    have B3 : Hid (Below u2.heap.size u2 u3) := below_up b3
    have HBX : Hid _ := hbx
    have HF : Hid (∀ o u, Below (u3.alloc o).heap.size (u3.alloc o) u → (u.cell? ⟨b1, o1 + m * 3, none⟩ = some (.int .i64 c.site) ∧ u.cell? ⟨b1, o1 + m * 3 + 1, none⟩ = some (.int .i64 c.fn) ∧ u.cell? ⟨b1, o1 + m * 3 + 2, none⟩ = some L0) ∧ (u.cell? ⟨u2.heap.size, 0, none⟩ = some (.int .i64 c.site) ∧ u.cell? ⟨u2.heap.size, 1, none⟩ = some (.int .i64 c.fn) ∧ u.cell? ⟨u2.heap.size, 2, none⟩ = some (.slice lo2 c.args.length lc2))) := fun o u hG => by
      have hb3 := below_up hG
      refine ⟨(HX.out u (B2.out.trans ((B3.out.trans (hb3.mono B3.out.size)).mono B2.out.size))).1, ?_⟩
      have hh : u.heap[u2.heap.size]? = some (.cells #[.int .i64 c.site, .int .i64 c.fn, .slice lo2 c.args.length lc2] 25 (0, 0)) := by rw [hb3.block _ hz3]; exact HBX.out
      exact (box3 hh).1
    have HS1 : Hid (∀ o u, Below (u3.alloc o).heap.size (u3.alloc o) u → Calls Try.prog 9 #[V2, .slice (some ⟨b1, o1, none⟩) m vc] u fun e w' => e = .returned (.bool true) ∧ Below u.heap.size u w') := fun o u hG => by
      have hb := B3.out.trans ((below_up hG).mono B3.out.size)
      exact own_sames V2 _ M2 _ (cs0.take m) u (q2.below hb).src (HX.out u (B2.out.trans (hb.mono B2.out.size))).2.2 hct (by simp; omega)
    have HS2 : Hid (∀ o u, Below (u3.alloc o).heap.size (u3.alloc o) u → Calls Try.prog 13 #[.agg #[.int .i64 c.site, .int .i64 c.fn, .slice lo2 c.args.length lc2], .agg #[.int .i64 c.site, .int .i64 c.fn, L0]] u fun e w' => e = .returned (.bool true) ∧ Below u.heap.size u w') := fun o u hG => by
      have hb := B3.out.trans ((below_up hG).mono B3.out.size)
      exact own_same c _ _ u (IOwn.below l2 hb).lies (HX.out u (B2.out.trans (hb.mono B2.out.size))).2.1 hcl
    have HE : Hid (∀ o u, Below (u3.alloc o).heap.size (u3.alloc o) u → Below w.heap.size w u) := fun o u hG => B2.out.trans ((B3.out.trans ((below_up hG).mono B3.out.size)).mono B2.out.size)
    have hmi : (m : Int) < (m : Int) + 1 := by omega
    clear b3 hbx q2 l2 HX
    go_wp2_with fail
    refine wp_grow [isV (.bool true), isV (.bool true), isV (.bool true), isV (.bool true), isV (.bool true), isV V2, isV (.slice (some ⟨b1, o1, none⟩) (m + 1) vc), isV (.int .i64 m), isV (.slice (some ⟨b1, o1, none⟩) m vc), isV (.bool true), isV (.bool true), isV (.bool true), isV (.agg #[.int .i64 c.site, .int .i64 c.fn, .slice lo2 c.args.length lc2]), isV (.slice (some ⟨b1, o1, none⟩) (m + 1) vc), isV (.int .i64 m), isV (.pointer (some ⟨b1, o1 + m * 3, none⟩)), isV (.agg #[.int .i64 c.site, .int .i64 c.fn, L0]), isV (.bool true), isV (.bool true), isV (.bool true)]
      ⟨stab_is _, stab_is _, stab_is _, stab_is _, stab_is _, stab_is _, stab_is _, stab_is _, stab_is _, stab_is _, stab_is _, stab_is _, stab_is _, stab_is _, stab_is _, stab_is _, stab_is _, stab_is _, stab_is _, stab_is _, trivial⟩ (by kernel_rfl) (by kernel_rfl) (by kernel_rfl) ?_ ?_
    · refine stepsOK_cons (fun f u hG hd K hK => ?_) (stepsOK_cons (fun f u hG hd K hK => ?_) (stepsOK_cons (fun f u hG hd K hK => ?_) (stepsOK_cons (fun f u hG hd K hK => ?_) (stepsOK_cons (fun f u hG hd K hK => ?_) (stepsOK_cons (fun f u hG hd K hK => ?_) (stepsOK_cons (fun f u hG hd K hK => ?_) (stepsOK_cons (fun f u hG hd K hK => ?_) (stepsOK_cons (fun f u hG hd K hK => ?_) (stepsOK_cons (fun f u hG hd K hK => ?_) (stepsOK_cons (fun f u hG hd K hK => ?_) (stepsOK_cons (fun f u hG hd K hK => ?_) (stepsOK_cons (fun f u hG hd K hK => ?_) (stepsOK_cons (fun f u hG hd K hK => ?_) (stepsOK_cons (fun f u hG hd K hK => ?_) (stepsOK_cons (fun f u hG hd K hK => ?_) (stepsOK_cons (fun f u hG hd K hK => ?_) (stepsOK_cons (fun f u hG hd K hK => ?_) (stepsOK_cons (fun f u hG hd K hK => ?_) (stepsOK_cons (fun f u hG hd K hK => ?_) stepsOK_nil)))))))))))))))))))
      · refine wanted_on rfl ?_
        simp only [putAll, Act.put, List.setIfInBounds_toArray, List.set_cons_zero, List.set_cons_succ] at hK ⊢
        go_simp
        exact hK _ _ _ rfl hG (Below.refl _ _) rfl
      · have e0 : f 0 = (.bool true) := hd 0 (by kernel_rfl)
        refine wanted_on rfl ?_
        simp only [putAll, Act.put, List.setIfInBounds_toArray, List.set_cons_zero, List.set_cons_succ, e0] at hK ⊢
        go_simp
        exact hK _ _ _ rfl hG (Below.refl _ _) rfl
      · have e1 : f 1 = (.bool true) := hd 1 (by kernel_rfl)
        refine wanted_on (by simp [Region.wanted, yielded, putAll, Act.put, List.setIfInBounds_toArray, List.set_cons_zero, List.set_cons_succ, e1]) ?_
        simp only [putAll, Act.put, List.setIfInBounds_toArray, List.set_cons_zero, List.set_cons_succ, e1] at hK ⊢
        go_simp
        exact hK _ _ _ rfl hG (Below.refl _ _) rfl
      · have e1 : f 1 = (.bool true) := hd 1 (by kernel_rfl)
        have e2 : f 2 = (.bool true) := hd 2 (by kernel_rfl)
        refine wanted_on rfl ?_
        simp only [putAll, Act.put, List.setIfInBounds_toArray, List.set_cons_zero, List.set_cons_succ, e1, e2] at hK ⊢
        go_simp
        exact hK _ _ _ rfl hG (Below.refl _ _) rfl
      · have e3 : f 3 = (.bool true) := hd 3 (by kernel_rfl)
        refine wanted_on rfl ?_
        simp only [putAll, Act.put, List.setIfInBounds_toArray, List.set_cons_zero, List.set_cons_succ, e3] at hK ⊢
        go_simp
        exact hK _ _ _ rfl hG (Below.refl _ _) rfl
      · have e4 : f 4 = (.bool true) := hd 4 (by kernel_rfl)
        refine wanted_on (by simp [Region.wanted, yielded, putAll, Act.put, List.setIfInBounds_toArray, List.set_cons_zero, List.set_cons_succ, e4]) ?_
        simp only [putAll, Act.put, List.setIfInBounds_toArray, List.set_cons_zero, List.set_cons_succ, e4] at hK ⊢
        go_simp
        exact hK _ _ _ rfl hG (Below.refl _ _) rfl
      · have e4 : f 4 = (.bool true) := hd 4 (by kernel_rfl)
        refine wanted_on (by simp [Region.wanted, yielded, putAll, Act.put, List.setIfInBounds_toArray, List.set_cons_zero, List.set_cons_succ, e4]) ?_
        simp only [putAll, Act.put, List.setIfInBounds_toArray, List.set_cons_zero, List.set_cons_succ, e4] at hK ⊢
        go_simp
        exact hK _ _ _ rfl hG (Below.refl _ _) rfl
      · have e4 : f 4 = (.bool true) := hd 4 (by kernel_rfl)
        refine wanted_on (by simp [Region.wanted, yielded, putAll, Act.put, List.setIfInBounds_toArray, List.set_cons_zero, List.set_cons_succ, e4]) ?_
        simp only [putAll, Act.put, List.setIfInBounds_toArray, List.set_cons_zero, List.set_cons_succ, e4] at hK ⊢
        go_simp
        exact hK _ _ _ rfl hG (Below.refl _ _) rfl
      · have e4 : f 4 = (.bool true) := hd 4 (by kernel_rfl)
        have e6 : f 6 = (.slice (some ⟨b1, o1, none⟩) (m + 1) vc) := hd 6 (by kernel_rfl)
        have e7 : f 7 = (.int .i64 m) := hd 7 (by kernel_rfl)
        refine wanted_on (by simp [Region.wanted, yielded, putAll, Act.put, List.setIfInBounds_toArray, List.set_cons_zero, List.set_cons_succ, e4, e6, e7]) ?_
        simp only [putAll, Act.put, List.setIfInBounds_toArray, List.set_cons_zero, List.set_cons_succ, e4, e6, e7] at hK ⊢
        go_simp
        exact hK _ _ _ rfl hG (Below.refl _ _) rfl
      · have e4 : f 4 = (.bool true) := hd 4 (by kernel_rfl)
        have e5 : f 5 = V2 := hd 5 (by kernel_rfl)
        have e8 : f 8 = (.slice (some ⟨b1, o1, none⟩) m vc) := hd 8 (by kernel_rfl)
        refine wanted_on (by simp [Region.wanted, yielded, putAll, Act.put, List.setIfInBounds_toArray, List.set_cons_zero, List.set_cons_succ, e4, e5, e8]) ?_
        simp only [putAll, Act.put, List.setIfInBounds_toArray, List.set_cons_zero, List.set_cons_succ, e4, e5, e8] at hK ⊢
        go_simp
        refine (HS1.out _ u hG).mono ?_
        rintro e u1 ⟨rfl, hb⟩
        exact hK _ _ _ rfl (hG.trans (hb.mono hG.size)) hb rfl
      · have e4 : f 4 = (.bool true) := hd 4 (by kernel_rfl)
        have e9 : f 9 = (.bool true) := hd 9 (by kernel_rfl)
        refine wanted_on rfl ?_
        simp only [putAll, Act.put, List.setIfInBounds_toArray, List.set_cons_zero, List.set_cons_succ, e4, e9] at hK ⊢
        go_simp
        exact hK _ _ _ rfl hG (Below.refl _ _) rfl
      · have e10 : f 10 = (.bool true) := hd 10 (by kernel_rfl)
        refine wanted_on rfl ?_
        simp only [putAll, Act.put, List.setIfInBounds_toArray, List.set_cons_zero, List.set_cons_succ, e10] at hK ⊢
        go_simp
        exact hK _ _ _ rfl hG (Below.refl _ _) rfl
      · have e11 : f 11 = (.bool true) := hd 11 (by kernel_rfl)
        obtain ⟨⟨x0, x1, x2⟩, y0, y1, y2⟩ := HF.out _ u hG
        refine wanted_on (by simp [Region.wanted, yielded, putAll, Act.put, List.setIfInBounds_toArray, List.set_cons_zero, List.set_cons_succ, e11]) ?_
        simp only [putAll, Act.put, List.setIfInBounds_toArray, List.set_cons_zero, List.set_cons_succ, e11] at hK ⊢
        go_simp
        exact hK _ _ _ rfl hG (Below.refl _ _) rfl
      · have e11 : f 11 = (.bool true) := hd 11 (by kernel_rfl)
        refine wanted_on (by simp [Region.wanted, yielded, putAll, Act.put, List.setIfInBounds_toArray, List.set_cons_zero, List.set_cons_succ, e11]) ?_
        simp only [putAll, Act.put, List.setIfInBounds_toArray, List.set_cons_zero, List.set_cons_succ, e11] at hK ⊢
        go_simp
        exact hK _ _ _ rfl hG (Below.refl _ _) rfl
      · have e11 : f 11 = (.bool true) := hd 11 (by kernel_rfl)
        refine wanted_on (by simp [Region.wanted, yielded, putAll, Act.put, List.setIfInBounds_toArray, List.set_cons_zero, List.set_cons_succ, e11]) ?_
        simp only [putAll, Act.put, List.setIfInBounds_toArray, List.set_cons_zero, List.set_cons_succ, e11] at hK ⊢
        go_simp
        exact hK _ _ _ rfl hG (Below.refl _ _) rfl
      · have e11 : f 11 = (.bool true) := hd 11 (by kernel_rfl)
        have e13 : f 13 = (.slice (some ⟨b1, o1, none⟩) (m + 1) vc) := hd 13 (by kernel_rfl)
        have e14 : f 14 = (.int .i64 m) := hd 14 (by kernel_rfl)
        refine wanted_on (by simp [Region.wanted, yielded, putAll, Act.put, List.setIfInBounds_toArray, List.set_cons_zero, List.set_cons_succ, e11, e13, e14]) ?_
        simp only [putAll, Act.put, List.setIfInBounds_toArray, List.set_cons_zero, List.set_cons_succ, e11, e13, e14] at hK ⊢
        go_simp
        exact hK _ _ _ rfl hG (Below.refl _ _) rfl
      · have e11 : f 11 = (.bool true) := hd 11 (by kernel_rfl)
        have e15 : f 15 = (.pointer (some ⟨b1, o1 + m * 3, none⟩)) := hd 15 (by kernel_rfl)
        obtain ⟨⟨x0, x1, x2⟩, y0, y1, y2⟩ := HF.out _ u hG
        refine wanted_on (by simp [Region.wanted, yielded, putAll, Act.put, List.setIfInBounds_toArray, List.set_cons_zero, List.set_cons_succ, e11, e15]) ?_
        simp only [putAll, Act.put, List.setIfInBounds_toArray, List.set_cons_zero, List.set_cons_succ, e11, e15] at hK ⊢
        go_simp
        exact hK _ _ _ rfl hG (Below.refl _ _) rfl
      · have e11 : f 11 = (.bool true) := hd 11 (by kernel_rfl)
        have e12 : f 12 = (.agg #[.int .i64 c.site, .int .i64 c.fn, .slice lo2 c.args.length lc2]) := hd 12 (by kernel_rfl)
        have e16 : f 16 = (.agg #[.int .i64 c.site, .int .i64 c.fn, L0]) := hd 16 (by kernel_rfl)
        refine wanted_on (by simp [Region.wanted, yielded, putAll, Act.put, List.setIfInBounds_toArray, List.set_cons_zero, List.set_cons_succ, e11, e12, e16]) ?_
        simp only [putAll, Act.put, List.setIfInBounds_toArray, List.set_cons_zero, List.set_cons_succ, e11, e12, e16] at hK ⊢
        go_simp
        refine (HS2.out _ u hG).mono ?_
        rintro e u1 ⟨rfl, hb⟩
        exact hK _ _ _ rfl (hG.trans (hb.mono hG.size)) hb rfl
      · have e11 : f 11 = (.bool true) := hd 11 (by kernel_rfl)
        have e17 : f 17 = (.bool true) := hd 17 (by kernel_rfl)
        refine wanted_on rfl ?_
        simp only [putAll, Act.put, List.setIfInBounds_toArray, List.set_cons_zero, List.set_cons_succ, e11, e17] at hK ⊢
        go_simp
        exact hK _ _ _ rfl hG (Below.refl _ _) rfl
      · have e18 : f 18 = (.bool true) := hd 18 (by kernel_rfl)
        refine wanted_on rfl ?_
        simp only [putAll, Act.put, List.setIfInBounds_toArray, List.set_cons_zero, List.set_cons_succ, e18] at hK ⊢
        go_simp
        exact hK _ _ _ rfl hG (Below.refl _ _) rfl
    · intro f u hG hf
      have e19 : f 19 = .bool true := hf 19 (by decide)
      simp only [putAll, Act.put, List.setIfInBounds_toArray, List.set_cons_zero, List.set_cons_succ, Nat.reduceAdd, e19]
      go_wp2_with fail
      all_goals go_ret
      exact ⟨rfl, HE.out _ u hG⟩

theorem contract (H : Type) (enc : TypeId × Value → H) (W : World) (base : Nat) (args : Array Value) (ds gs : List (DataW H)) (before : List MemPlace)
    (hval : ∀ (j : Nat) t v, Try.f4.params[j]? = some t → args[j]? = some v → Value.okWide Try.prog W .any base t v)
    (hW : DataW.Whole enc Try.prog Try.f4.params.toList Rows.defersPopSpec.vars false W args.toList ds gs before)
    (hsz : (DataW.weightsEach Try.prog (Try.f4.params.toList ++ Rows.defersPopSpec.plain.varTypes Try.prog) (ds ++ gs)).all (· ≤ reachBytes) = true) :
    Calls Try.prog 4 args W fun e W' => ∃ v, e = .returned v ∧ Rows.defersPopSpec.post enc Try.prog Try.f4 false true false false W args v W' := by
  have hW' := hW
  obtain ⟨p, q, hA0, hV, rfl, hfz, hnd⟩ := hW
  have hA : DataW.TrodAll enc Try.prog W 0 (fun _ => true) true Try.f4.params.toList args.toList ds p := hA0
  rw [Try.params4] at hA hval hsz
  obtain ⟨v0, vs0, d0, ds0, p0, q0, hargs, rfl, rfl, h0, r0⟩ := trodAll_cons hA
  obtain ⟨rfl, rfl, rfl⟩ := trodAll_nil r0
  obtain rfl : args = #[v0] := by cases args; simp_all
  obtain ⟨rfl, rfl⟩ := trodVars_none hV
  obtain ⟨ao0, len0, cap0, rfl⟩ := okWide_slice Try.underlying22 (hval 0 22 v0 rfl rfl)
  obtain ⟨es0, cs0, hC0, hE0, hN0⟩ := cs_came (j := 0) h0 hsz rfl rfl
  clear hA0
  simp only [List.append_nil] at hW'
  have hlt0 : ∀ x ∈ p0, x.block < W.heap.size := fun x hx => hW'.lt x (by simp [hx])
  refine (walk _ es0 cs0 W hC0 hE0 hN0).mono fun e W' ⟨he, bel⟩ => ?_
  subst he
  exact ⟨_, rfl, _, _, _, [], p0 ++ [], [], hW', trodAll_mk1 (shut_bool Try.underlying4 _), (trodAll_cons_mk (Below.trod (by kernel_rfl) (by kernel_rfl) (of_decide_eq_true (by kernel_rfl)) h0 bel hlt0) trodAll_mk0), rfl, bel.frame _, fun h => by cases h⟩

set_option maxRecDepth 100000 in
theorem lifted (os : Os) (started : os.Started) (H : Type) (enc : TypeId × Value → H) :
    ReturnsInHanded {} Try.checked os 4 .any (Rows.defersPopSpec.pre6 enc Try.prog Try.f4 Rows.defersPopRow.domain false) (Rows.defersPopSpec.post enc Try.prog Try.f4 false true false false) := by
  refine returnsInHanded_of_change_sized (C := Try.checked) own started (by kernel_rfl) Try.func4
    (ChangeSpec.witness6 (enc := enc) (C := Try.checked) false ⟨#[], #[.slice none 0 0], []⟩ 8 (by kernel_rfl) (by kernel_rfl) (by kernel_rfl) (by kernel_rfl)) ?_
  intro W base args ds gs before hval0 hW hcnd hsz _
  exact contract H enc W base args ds gs before hval0 hW hsz

theorem proved : Rows.DefersPopSaid :=
  OpenClaim.holds_of_wide 4 Try.f4 rfl rfl rfl rfl rfl rfl rfl ⟨rfl, rfl, rfl, rfl, rfl⟩ rfl rfl rfl rfl rfl (by kernel_rfl) Try.func4 (by kernel_rfl)
    (of_decide_eq_true (by kernel_rfl)) (by unfold Func.isWrapper; first | (rw [if_pos (by decide +kernel)]; kernel_rfl) | (rw [if_neg (by decide +kernel)]; exact ⟨rfl, rfl⟩))
    (fun os started H enc _ => lifted os started H enc)
#print axioms proved
end Go.Proofs.Ytiaoidbhdkldlaa.defersPop
