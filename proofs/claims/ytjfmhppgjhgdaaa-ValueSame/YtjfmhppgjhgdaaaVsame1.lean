/- What the reference says of two values. -/
import Derived.Test.YtjfmhppgjhgdaaaVsame
namespace Go.Proofs.Ytjfmhppgjhgdaaa
open Go.ChangeShapes Go.WideShapes Go.ChangeAt Go.RowKit
set_option maxRecDepth 100000
set_option linter.unusedSimpArgs false
set_option linter.unusedVariables false

def noneB (k : Int) : Bool := decide (k < 1) || decide (k > 8)
theorem ref_none (k : Int) (w : World) : Calls Try.prog 20 #[.int .i64 k] w fun e w' => e = .returned (.bool (noneB k)) ∧ w' = w := by
  unfold noneB
  by_cases h1 : k < 1
  · rw [decide_eq_true h1, Bool.true_or]
    go_enter Try.func20, Try.ntmps20
    go_wp2_with fail
    go_ret
    exact ⟨rfl, rfl⟩
  · rw [decide_eq_false h1, Bool.false_or]
    by_cases h2 : k > 8
    · rw [decide_eq_true h2]
      go_enter Try.func20, Try.ntmps20
      go_wp2_with fail
      go_ret
      exact ⟨rfl, rfl⟩
    · rw [decide_eq_false h2]
      go_enter Try.func20, Try.ntmps20
      go_wp2_with fail
      go_ret
      exact ⟨rfl, rfl⟩
theorem plain_none {x : Vv} (h : noneB x.kind = true) : plainV x = ⟨0, 0, ⟨#[]⟩, []⟩ := by
  unfold noneB at h
  simp only [Bool.or_eq_true, decide_eq_true_eq] at h
  unfold plainV
  rw [if_neg (by omega), if_neg (by omega), if_neg (by omega), if_neg (by omega), if_neg (by omega)]
theorem plain_kind {x : Vv} (h : noneB x.kind = false) : (plainV x).kind = x.kind := by
  unfold noneB at h
  simp only [Bool.or_eq_false_iff, decide_eq_false_iff_not] at h
  unfold plainV
  split
  · rfl
  · split
    · rename_i h2; exact h2.symm
    · split
      · rfl
      · split
        · rename_i h2; exact h2.symm
        · split
          · rename_i h2; exact h2.symm
          · exfalso; omega
theorem same_none {x y : Vv} (hk : x.kind = y.kind) (h : noneB x.kind = true) : sameV x y = true := by
  unfold sameV
  rw [plain_none h, plain_none (hk ▸ h), decide_eq_true hk]
  simp
theorem same_some {x y : Vv} (hk : x.kind = y.kind) (h : noneB x.kind = false) : sameV x y = eqV (plainV x) (plainV y) := by
  unfold sameV eqV
  rw [plain_kind h, plain_kind (hk ▸ h)]
set_option maxHeartbeats 8000000 in
theorem ref_same (x y : Vv) (L M : Value) (w : World) (hx : VIn x) (hy : VIn y) (hl : ILies w L x.l) (hm : ILies w M y.l) :
    Calls Try.prog 12 #[vval x L, vval y M] w fun e w' => e = .returned (.bool (sameV x y)) ∧ Below w.heap.size w w' := by
  by_cases hk : x.kind = y.kind
  · have HB : Hid (∀ u, Below ((w.alloc (.cells #[.int .i64 x.kind, .int .i64 x.n, .string x.s, L] 24)).alloc (.cells #[.int .i64 x.kind, .int .i64 y.n, .string y.s, M] 24)).heap.size ((w.alloc (.cells #[.int .i64 x.kind, .int .i64 x.n, .string x.s, L] 24)).alloc (.cells #[.int .i64 x.kind, .int .i64 y.n, .string y.s, M] 24)) u → u.heap[w.heap.size]? = some (.cells #[.int .i64 x.kind, .int .i64 x.n, .string x.s, L] 24) ∧ u.heap[w.heap.size + 1]? = some (.cells #[.int .i64 x.kind, .int .i64 y.n, .string y.s, M] 24) ∧ Below w.heap.size w u) := fun u h => ⟨(two_boxes h).1, (two_boxes h).2.1, (two_boxes h).2.2.2⟩
    have HN0 : Hid (∀ u, Calls Try.prog 20 #[.int .i64 x.kind] u fun e w' => e = .returned (.bool (noneB x.kind)) ∧ w' = u) := fun u => ref_none x.kind u
    have HVY : Hid (vval y M = .agg #[.int .i64 x.kind, .int .i64 y.n, .string y.s, M]) := by unfold vval; rw [hk]; rfl
    cases hnb : noneB x.kind with
    | true =>
      rw [same_none hk hnb]
      have HN : Hid _ := HN0.out
      rw [hnb] at HN
      rw [HVY.out]
      clear hnb HN0 hk HVY
      unfold vval
      go_enter Try.func12, Try.ntmps12
      go_wp2_with fail
      refine wp_grow [isV (.func (.func 20) #[] #[]), isV (.pointer (some ⟨w.heap.size, 0, none⟩)), isV (.int .i64 x.kind), isV (.bool true), isV (.bool true), anyV, anyV, anyV, anyV, anyV, isV (.bool true), isV (.bool true)]
        ⟨stab_is _, stab_is _, stab_is _, stab_is _, stab_is _, stab_any, stab_any, stab_any, stab_any, stab_any, stab_is _, stab_is _, trivial⟩ (by kernel_rfl) (by kernel_rfl) (by kernel_rfl) ?_ ?_
      · refine stepsOK_cons (fun f u hG hd K hK => ?_) (stepsOK_cons (fun f u hG hd K hK => ?_) (stepsOK_cons (fun f u hG hd K hK => ?_) (stepsOK_cons (fun f u hG hd K hK => ?_) (stepsOK_cons (fun f u hG hd K hK => ?_) (stepsOK_cons (fun f u hG hd K hK => ?_) (stepsOK_cons (fun f u hG hd K hK => ?_) (stepsOK_cons (fun f u hG hd K hK => ?_) (stepsOK_cons (fun f u hG hd K hK => ?_) (stepsOK_cons (fun f u hG hd K hK => ?_) (stepsOK_cons (fun f u hG hd K hK => ?_) (stepsOK_cons (fun f u hG hd K hK => ?_) stepsOK_nil)))))))))))
        · refine wanted_on rfl ?_
          simp only [putAll, Act.put, List.setIfInBounds_toArray, List.set_cons_zero, List.set_cons_succ] at hK ⊢
          go_simp
          exact hK _ _ _ rfl hG (Below.refl _ _) rfl
        · refine wanted_on rfl ?_
          simp only [putAll, Act.put, List.setIfInBounds_toArray, List.set_cons_zero, List.set_cons_succ] at hK ⊢
          go_simp
          exact hK _ _ _ rfl hG (Below.refl _ _) rfl
        · have e1 : f 1 = (.pointer (some ⟨w.heap.size, 0, none⟩)) := hd 1 (by kernel_rfl)
          obtain ⟨⟨c0, c1, c2, c3⟩, _⟩ := box4 ((HB.out _ hG).1)
          refine wanted_on rfl ?_
          simp only [putAll, Act.put, List.setIfInBounds_toArray, List.set_cons_zero, List.set_cons_succ, e1] at hK ⊢
          go_simp
          exact hK _ _ _ rfl hG (Below.refl _ _) rfl
        · have e0 : f 0 = (.func (.func 20) #[] #[]) := hd 0 (by kernel_rfl)
          have e2 : f 2 = (.int .i64 x.kind) := hd 2 (by kernel_rfl)
          refine wanted_on rfl ?_
          simp only [putAll, Act.put, List.setIfInBounds_toArray, List.set_cons_zero, List.set_cons_succ, e0, e2] at hK ⊢
          go_simp
          refine (HN.out u).mono ?_
          rintro e u1 ⟨rfl, rfl⟩
          exact hK _ _ _ rfl hG (Below.refl _ _) rfl
        · have e3 : f 3 = (.bool true) := hd 3 (by kernel_rfl)
          refine wanted_on rfl ?_
          simp only [putAll, Act.put, List.setIfInBounds_toArray, List.set_cons_zero, List.set_cons_succ, e3] at hK ⊢
          go_simp
          exact hK _ _ _ rfl hG (Below.refl _ _) rfl
        · have e4 : f 4 = (.bool true) := hd 4 (by kernel_rfl)
          refine wanted_off (by simp [Region.wanted, yielded, putAll, Act.put, List.setIfInBounds_toArray, List.set_cons_zero, List.set_cons_succ, e4]) ?_
          exact hK _ _ _ rfl hG (Below.refl _ _) trivial
        · have e4 : f 4 = (.bool true) := hd 4 (by kernel_rfl)
          refine wanted_off (by simp [Region.wanted, yielded, putAll, Act.put, List.setIfInBounds_toArray, List.set_cons_zero, List.set_cons_succ, e4]) ?_
          exact hK _ _ _ rfl hG (Below.refl _ _) trivial
        · have e4 : f 4 = (.bool true) := hd 4 (by kernel_rfl)
          refine wanted_off (by simp [Region.wanted, yielded, putAll, Act.put, List.setIfInBounds_toArray, List.set_cons_zero, List.set_cons_succ, e4]) ?_
          exact hK _ _ _ rfl hG (Below.refl _ _) trivial
        · have e4 : f 4 = (.bool true) := hd 4 (by kernel_rfl)
          refine wanted_off (by simp [Region.wanted, yielded, putAll, Act.put, List.setIfInBounds_toArray, List.set_cons_zero, List.set_cons_succ, e4]) ?_
          exact hK _ _ _ rfl hG (Below.refl _ _) trivial
        · have e4 : f 4 = (.bool true) := hd 4 (by kernel_rfl)
          refine wanted_off (by simp [Region.wanted, yielded, putAll, Act.put, List.setIfInBounds_toArray, List.set_cons_zero, List.set_cons_succ, e4]) ?_
          exact hK _ _ _ rfl hG (Below.refl _ _) trivial
        · have e4 : f 4 = (.bool true) := hd 4 (by kernel_rfl)
          refine wanted_on rfl ?_
          simp only [putAll, Act.put, List.setIfInBounds_toArray, List.set_cons_zero, List.set_cons_succ, e4] at hK ⊢
          go_simp
          exact hK _ _ _ rfl hG (Below.refl _ _) rfl
        · have e10 : f 10 = (.bool true) := hd 10 (by kernel_rfl)
          refine wanted_on rfl ?_
          simp only [putAll, Act.put, List.setIfInBounds_toArray, List.set_cons_zero, List.set_cons_succ, e10] at hK ⊢
          go_simp
          exact hK _ _ _ rfl hG (Below.refl _ _) rfl
      · intro f u hG hf
        have e11 : f 11 = .bool true := hf 11 (by decide)
        have HBB : Hid _ := (HB.out _ hG).2.2
        simp only [putAll, Act.put, List.setIfInBounds_toArray, List.set_cons_zero, List.set_cons_succ, e11]
        clear hf e11 hG HB
        go_wp2_with fail
        go_ret
        exact ⟨rfl, HBB.out⟩
    | false =>
      have HE : Hid (∀ V V' u, ILies u V (plainV x).l → ILies u V' (plainV y).l → Calls Try.prog 8 #[vval (plainV x) V, vval (plainV y) V'] u fun e w' => e = .returned (.bool (eqV (plainV x) (plainV y))) ∧ Below u.heap.size u w') := fun V V' u h1 h2 => ref_equal (plainV x) (plainV y) V V' u h1 h2 (by have := plain_sized hx; omega)
      have HPY : Hid (∀ u, ILies u M y.l → Calls Try.prog 10 #[.agg #[.int .i64 x.kind, .int .i64 y.n, .string y.s, M]] u fun e w' => ∃ L', e = .returned (vval (plainV y) L') ∧ ILies w' L' (plainV y).l ∧ Below u.heap.size u w') := fun u h => by rw [← HVY.out]; exact ref_plain y M u hy h
      rw [same_some hk hnb]
      have HN : Hid _ := HN0.out
      rw [hnb] at HN
      generalize eqV (plainV x) (plainV y) = r at *
      clear hnb HN0
      rw [HVY.out]
      unfold vval
      go_enter Try.func12, Try.ntmps12
      clear hk
      go_wp2_with fail
      refine wp_grow [isV (.func (.func 20) #[] #[]), isV (.pointer (some ⟨w.heap.size, 0, none⟩)), isV (.int .i64 x.kind), isV (.bool false), isV (.bool false), isV (vval x L), isVal (plainV x), isV (.agg #[.int .i64 x.kind, .int .i64 y.n, .string y.s, M]), isVal (plainV y), isV (.bool r), isV (.bool r), isV (.bool r)]
        ⟨stab_is _, stab_is _, stab_is _, stab_is _, stab_is _, stab_is _, stab_val _, stab_is _, stab_val _, stab_is _, stab_is _, stab_is _, trivial⟩ (by kernel_rfl) (by kernel_rfl) (by kernel_rfl) ?_ ?_
      · refine stepsOK_cons (fun f u hG hd K hK => ?_) (stepsOK_cons (fun f u hG hd K hK => ?_) (stepsOK_cons (fun f u hG hd K hK => ?_) (stepsOK_cons (fun f u hG hd K hK => ?_) (stepsOK_cons (fun f u hG hd K hK => ?_) (stepsOK_cons (fun f u hG hd K hK => ?_) (stepsOK_cons (fun f u hG hd K hK => ?_) (stepsOK_cons (fun f u hG hd K hK => ?_) (stepsOK_cons (fun f u hG hd K hK => ?_) (stepsOK_cons (fun f u hG hd K hK => ?_) (stepsOK_cons (fun f u hG hd K hK => ?_) (stepsOK_cons (fun f u hG hd K hK => ?_) stepsOK_nil)))))))))))
        · refine wanted_on rfl ?_
          simp only [putAll, Act.put, List.setIfInBounds_toArray, List.set_cons_zero, List.set_cons_succ] at hK ⊢
          go_simp
          exact hK _ _ _ rfl hG (Below.refl _ _) rfl
        · refine wanted_on rfl ?_
          simp only [putAll, Act.put, List.setIfInBounds_toArray, List.set_cons_zero, List.set_cons_succ] at hK ⊢
          go_simp
          exact hK _ _ _ rfl hG (Below.refl _ _) rfl
        · have e1 : f 1 = (.pointer (some ⟨w.heap.size, 0, none⟩)) := hd 1 (by kernel_rfl)
          obtain ⟨⟨c0, c1, c2, c3⟩, _⟩ := box4 ((HB.out _ hG).1)
          refine wanted_on rfl ?_
          simp only [putAll, Act.put, List.setIfInBounds_toArray, List.set_cons_zero, List.set_cons_succ, e1] at hK ⊢
          go_simp
          exact hK _ _ _ rfl hG (Below.refl _ _) rfl
        · have e0 : f 0 = (.func (.func 20) #[] #[]) := hd 0 (by kernel_rfl)
          have e2 : f 2 = (.int .i64 x.kind) := hd 2 (by kernel_rfl)
          refine wanted_on rfl ?_
          simp only [putAll, Act.put, List.setIfInBounds_toArray, List.set_cons_zero, List.set_cons_succ, e0, e2] at hK ⊢
          go_simp
          refine (HN.out u).mono ?_
          rintro e u1 ⟨rfl, rfl⟩
          exact hK _ _ _ rfl hG (Below.refl _ _) rfl
        · have e3 : f 3 = (.bool false) := hd 3 (by kernel_rfl)
          refine wanted_on rfl ?_
          simp only [putAll, Act.put, List.setIfInBounds_toArray, List.set_cons_zero, List.set_cons_succ, e3] at hK ⊢
          go_simp
          exact hK _ _ _ rfl hG (Below.refl _ _) rfl
        · have e4 : f 4 = (.bool false) := hd 4 (by kernel_rfl)
          obtain ⟨⟨c0, c1, c2, c3⟩, _⟩ := box4 ((HB.out _ hG).1)
          refine wanted_on (by simp [Region.wanted, yielded, putAll, Act.put, List.setIfInBounds_toArray, List.set_cons_zero, List.set_cons_succ, e4]) ?_
          simp only [putAll, Act.put, List.setIfInBounds_toArray, List.set_cons_zero, List.set_cons_succ, e4] at hK ⊢
          go_simp
          exact hK _ _ _ rfl hG (Below.refl _ _) rfl
        · have e4 : f 4 = (.bool false) := hd 4 (by kernel_rfl)
          have e5 : f 5 = (vval x L) := hd 5 (by kernel_rfl)
          refine wanted_on (by simp [Region.wanted, yielded, putAll, Act.put, List.setIfInBounds_toArray, List.set_cons_zero, List.set_cons_succ, e4, e5]) ?_
          simp only [putAll, Act.put, List.setIfInBounds_toArray, List.set_cons_zero, List.set_cons_succ, e4, e5] at hK ⊢
          go_simp
          refine (ref_plain x L u hx (hl.below (HB.out _ hG).2.2 (Nat.le_refl _))).mono ?_
          rintro e u1 ⟨V, rfl, h1, hb⟩
          exact hK _ _ _ rfl (hG.trans (hb.mono hG.size)) hb ⟨_, rfl, h1⟩
        · have e4 : f 4 = (.bool false) := hd 4 (by kernel_rfl)
          obtain ⟨⟨c0, c1, c2, c3⟩, _⟩ := box4 ((HB.out _ hG).2.1)
          refine wanted_on (by simp [Region.wanted, yielded, putAll, Act.put, List.setIfInBounds_toArray, List.set_cons_zero, List.set_cons_succ, e4]) ?_
          simp only [putAll, Act.put, List.setIfInBounds_toArray, List.set_cons_zero, List.set_cons_succ, e4] at hK ⊢
          go_simp
          exact hK _ _ _ rfl hG (Below.refl _ _) rfl
        · have e4 : f 4 = (.bool false) := hd 4 (by kernel_rfl)
          have e7 : f 7 = (.agg #[.int .i64 x.kind, .int .i64 y.n, .string y.s, M]) := hd 7 (by kernel_rfl)
          refine wanted_on (by simp [Region.wanted, yielded, putAll, Act.put, List.setIfInBounds_toArray, List.set_cons_zero, List.set_cons_succ, e4, e7]) ?_
          simp only [putAll, Act.put, List.setIfInBounds_toArray, List.set_cons_zero, List.set_cons_succ, e4, e7] at hK ⊢
          go_simp
          refine (HPY.out u (hm.below (HB.out _ hG).2.2 (Nat.le_refl _))).mono ?_
          rintro e u1 ⟨V, rfl, h1, hb⟩
          exact hK _ _ _ rfl (hG.trans (hb.mono hG.size)) hb ⟨_, rfl, h1⟩
        · have e4 : f 4 = (.bool false) := hd 4 (by kernel_rfl)
          obtain ⟨V6, e6, q6⟩ := hd 6 (by kernel_rfl)
          obtain ⟨V8, e8, q8⟩ := hd 8 (by kernel_rfl)
          refine wanted_on (by simp [Region.wanted, yielded, putAll, Act.put, List.setIfInBounds_toArray, List.set_cons_zero, List.set_cons_succ, e4, e6, e8]) ?_
          simp only [putAll, Act.put, List.setIfInBounds_toArray, List.set_cons_zero, List.set_cons_succ, e4, e6, e8] at hK ⊢
          go_simp
          refine (HE.out V6 V8 u q6 q8).mono ?_
          rintro e u1 ⟨rfl, hb⟩
          exact hK _ _ _ rfl (hG.trans (hb.mono hG.size)) hb rfl
        · have e4 : f 4 = (.bool false) := hd 4 (by kernel_rfl)
          have e9 : f 9 = (.bool r) := hd 9 (by kernel_rfl)
          refine wanted_on rfl ?_
          simp only [putAll, Act.put, List.setIfInBounds_toArray, List.set_cons_zero, List.set_cons_succ, e4, e9] at hK ⊢
          go_simp
          exact hK _ _ _ rfl hG (Below.refl _ _) rfl
        · have e10 : f 10 = (.bool r) := hd 10 (by kernel_rfl)
          refine wanted_on rfl ?_
          simp only [putAll, Act.put, List.setIfInBounds_toArray, List.set_cons_zero, List.set_cons_succ, e10] at hK ⊢
          go_simp
          exact hK _ _ _ rfl hG (Below.refl _ _) rfl
      · intro f u hG hf
        have e11 : f 11 = .bool r := hf 11 (by decide)
        have HBB : Hid _ := (HB.out _ hG).2.2
        simp only [putAll, Act.put, List.setIfInBounds_toArray, List.set_cons_zero, List.set_cons_succ, e11]
        clear hf e11 hG HB
        go_wp2_with fail
        go_ret
        exact ⟨rfl, HBB.out⟩
  · unfold sameV vval
    rw [decide_eq_false hk, Bool.false_and]
    go_enter Try.func12, Try.ntmps12
    go_wp2_with fail
    go_ret
    exact ⟨rfl, below2 _ _ _⟩
end Go.Proofs.Ytjfmhppgjhgdaaa
