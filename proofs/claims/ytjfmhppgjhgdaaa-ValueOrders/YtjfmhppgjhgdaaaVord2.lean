/- How the reference orders two values. -/
import Derived.Test.YtjfmhppgjhgdaaaVord
namespace Go.Proofs.Ytjfmhppgjhgdaaa
open Go.ChangeShapes Go.WideShapes Go.ChangeAt Go.RowKit
set_option maxRecDepth 100000
set_option linter.unusedSimpArgs false
set_option linter.unusedVariables false

theorem two_drawn {w u : World} {o1 o2 : Obj} {n : Nat} (hb : Below (((w.alloc o1).alloc o2).drewN n).heap.size (((w.alloc o1).alloc o2).drewN n) u) : u.heap[w.heap.size]? = some o1 ∧ u.heap[w.heap.size + 1]? = some o2 ∧ Below w.heap.size w u := by
  have h := two_boxes (w := w) (o1 := o1) (o2 := o2) (w1 := u) ⟨hb.os, hb.tape, hb.output, hb.size, hb.block⟩
  exact ⟨h.1, h.2.1, h.2.2.2⟩
set_option maxHeartbeats 8000000 in
theorem ref_order_text (x y : Vv) (L M : Value) (w : World) (hx : x.s.size ≤ 140737488351232) (hy : y.s.size ≤ 140737488351232) :
    Calls Try.prog 16 #[.agg #[.int .i64 3, .int .i64 x.n, .string x.s, L], .agg #[.int .i64 3, .int .i64 y.n, .string y.s, M]] w fun e w' => e = .returned (.tuple #[.int .i64 (Lib.compareBytes x.s.data.toList y.s.data.toList), .int .i64 0]) ∧ Below w.heap.size w w' := by
  have HC : Hid (∃ p q, lessL x.s.data.toList y.s.data.toList = p ∧ lessL y.s.data.toList x.s.data.toList = q) := ⟨_, _, rfl, rfl⟩
  obtain ⟨p, q, hp, hq⟩ := HC.out
  clear HC
  have HL1 : Hid (∀ u, Calls Try.prog 23 #[.string x.s, .string y.s] u fun e w' => e = .returned (.bool p) ∧ ∃ m, w' = u.drewN m) := fun u => by rw [← hp]; exact ref_less x.s y.s u hx hy
  have HL2 : Hid (∀ u, Calls Try.prog 23 #[.string y.s, .string x.s] u fun e w' => e = .returned (.bool q) ∧ ∃ m, w' = u.drewN m) := fun u => by rw [← hq]; exact ref_less y.s x.s u hy hx
  have HP : Hid (p = decide (Lib.compareBytes x.s.data.toList y.s.data.toList = -1)) := by rw [← hp]; exact less_iff _ _
  have HQ : Hid (q = decide (Lib.compareBytes y.s.data.toList x.s.data.toList = -1)) := by rw [← hq]; exact less_iff _ _
  clear hp hq
  have HB : Hid (∀ n u, Below (((w.alloc (.cells #[.int .i64 3, .int .i64 x.n, .string x.s, L] 24)).alloc (.cells #[.int .i64 3, .int .i64 y.n, .string y.s, M] 24)).drewN n).heap.size (((w.alloc (.cells #[.int .i64 3, .int .i64 x.n, .string x.s, L] 24)).alloc (.cells #[.int .i64 3, .int .i64 y.n, .string y.s, M] 24)).drewN n) u → u.heap[w.heap.size]? = some (.cells #[.int .i64 3, .int .i64 x.n, .string x.s, L] 24) ∧ u.heap[w.heap.size + 1]? = some (.cells #[.int .i64 3, .int .i64 y.n, .string y.s, M] 24)) := fun n u h => ⟨(two_drawn h).1, (two_drawn h).2.1⟩
  go_enter Try.func16, Try.ntmps16
  go_wp2_with fail
  go_quiet (fail)
  go_wp2_with fail
  refine wp_grow [isV (.pointer (some ⟨w.heap.size, 2, none⟩)), isV (.string x.s), isV (.pointer (some ⟨w.heap.size + 1, 2, none⟩)), isV (.string y.s), isV (.bool p), isV (.pointer (some ⟨w.heap.size + 1, 2, none⟩)), isV (.string y.s), isV (.pointer (some ⟨w.heap.size, 2, none⟩)), isV (.string x.s), isV (.bool q), isV (.bool p), isV (.bool q)]
    ⟨stab_is _, stab_is _, stab_is _, stab_is _, stab_is _, stab_is _, stab_is _, stab_is _, stab_is _, stab_is _, stab_is _, stab_is _, trivial⟩ (by kernel_rfl) (by kernel_rfl) (by kernel_rfl) ?_ ?_
  · refine stepsOK_cons (fun f u hG hd K hK => ?_) (stepsOK_cons (fun f u hG hd K hK => ?_) (stepsOK_cons (fun f u hG hd K hK => ?_) (stepsOK_cons (fun f u hG hd K hK => ?_) (stepsOK_cons (fun f u hG hd K hK => ?_) (stepsOK_cons (fun f u hG hd K hK => ?_) (stepsOK_cons (fun f u hG hd K hK => ?_) (stepsOK_cons (fun f u hG hd K hK => ?_) (stepsOK_cons (fun f u hG hd K hK => ?_) (stepsOK_cons (fun f u hG hd K hK => ?_) (stepsOK_cons (fun f u hG hd K hK => ?_) (stepsOK_cons (fun f u hG hd K hK => ?_) stepsOK_nil)))))))))))
    · refine wanted_on rfl ?_
      simp only [putAll, Act.put, List.setIfInBounds_toArray, List.set_cons_zero, List.set_cons_succ] at hK ⊢
      go_simp
      exact hK _ _ _ rfl hG (Below.refl _ _) rfl
    · have e0 : f 0 = (.pointer (some ⟨w.heap.size, 2, none⟩)) := hd 0 (by kernel_rfl)
      obtain ⟨⟨c0, c1, c2, c3⟩, _⟩ := box4 (HB.out _ _ hG |>.1)
      refine wanted_on rfl ?_
      simp only [putAll, Act.put, List.setIfInBounds_toArray, List.set_cons_zero, List.set_cons_succ, e0] at hK ⊢
      go_simp
      exact hK _ _ _ rfl hG (Below.refl _ _) rfl
    · refine wanted_on rfl ?_
      simp only [putAll, Act.put, List.setIfInBounds_toArray, List.set_cons_zero, List.set_cons_succ] at hK ⊢
      go_simp
      exact hK _ _ _ rfl hG (Below.refl _ _) rfl
    · have e2 : f 2 = (.pointer (some ⟨w.heap.size + 1, 2, none⟩)) := hd 2 (by kernel_rfl)
      obtain ⟨⟨c0, c1, c2, c3⟩, _⟩ := box4 (HB.out _ _ hG |>.2)
      refine wanted_on rfl ?_
      simp only [putAll, Act.put, List.setIfInBounds_toArray, List.set_cons_zero, List.set_cons_succ, e2] at hK ⊢
      go_simp
      exact hK _ _ _ rfl hG (Below.refl _ _) rfl
    · have e1 : f 1 = (.string x.s) := hd 1 (by kernel_rfl)
      have e3 : f 3 = (.string y.s) := hd 3 (by kernel_rfl)
      refine wanted_on rfl ?_
      simp only [putAll, Act.put, List.setIfInBounds_toArray, List.set_cons_zero, List.set_cons_succ, e1, e3] at hK ⊢
      go_simp
      refine (HL1.out u).mono ?_
      rintro e u1 ⟨rfl, m, rfl⟩
      have hb : Below u.heap.size u (u.drewN m) := ⟨rfl, rfl, rfl, Nat.le_refl _, fun _ _ => rfl⟩
      exact hK _ _ _ rfl (hG.trans (hb.mono hG.size)) hb rfl
    · refine wanted_on rfl ?_
      simp only [putAll, Act.put, List.setIfInBounds_toArray, List.set_cons_zero, List.set_cons_succ] at hK ⊢
      go_simp
      exact hK _ _ _ rfl hG (Below.refl _ _) rfl
    · have e5 : f 5 = (.pointer (some ⟨w.heap.size + 1, 2, none⟩)) := hd 5 (by kernel_rfl)
      obtain ⟨⟨c0, c1, c2, c3⟩, _⟩ := box4 (HB.out _ _ hG |>.2)
      refine wanted_on rfl ?_
      simp only [putAll, Act.put, List.setIfInBounds_toArray, List.set_cons_zero, List.set_cons_succ, e5] at hK ⊢
      go_simp
      exact hK _ _ _ rfl hG (Below.refl _ _) rfl
    · refine wanted_on rfl ?_
      simp only [putAll, Act.put, List.setIfInBounds_toArray, List.set_cons_zero, List.set_cons_succ] at hK ⊢
      go_simp
      exact hK _ _ _ rfl hG (Below.refl _ _) rfl
    · have e7 : f 7 = (.pointer (some ⟨w.heap.size, 2, none⟩)) := hd 7 (by kernel_rfl)
      obtain ⟨⟨c0, c1, c2, c3⟩, _⟩ := box4 (HB.out _ _ hG |>.1)
      refine wanted_on rfl ?_
      simp only [putAll, Act.put, List.setIfInBounds_toArray, List.set_cons_zero, List.set_cons_succ, e7] at hK ⊢
      go_simp
      exact hK _ _ _ rfl hG (Below.refl _ _) rfl
    · have e6 : f 6 = (.string y.s) := hd 6 (by kernel_rfl)
      have e8 : f 8 = (.string x.s) := hd 8 (by kernel_rfl)
      refine wanted_on rfl ?_
      simp only [putAll, Act.put, List.setIfInBounds_toArray, List.set_cons_zero, List.set_cons_succ, e6, e8] at hK ⊢
      go_simp
      refine (HL2.out u).mono ?_
      rintro e u1 ⟨rfl, m, rfl⟩
      have hb : Below u.heap.size u (u.drewN m) := ⟨rfl, rfl, rfl, Nat.le_refl _, fun _ _ => rfl⟩
      exact hK _ _ _ rfl (hG.trans (hb.mono hG.size)) hb rfl
    · have e4 : f 4 = (.bool p) := hd 4 (by kernel_rfl)
      refine wanted_on rfl ?_
      simp only [putAll, Act.put, List.setIfInBounds_toArray, List.set_cons_zero, List.set_cons_succ, e4] at hK ⊢
      go_simp
      exact hK _ _ _ rfl hG (Below.refl _ _) rfl
    · have e9 : f 9 = (.bool q) := hd 9 (by kernel_rfl)
      refine wanted_on rfl ?_
      simp only [putAll, Act.put, List.setIfInBounds_toArray, List.set_cons_zero, List.set_cons_succ, e9] at hK ⊢
      go_simp
      exact hK _ _ _ rfl hG (Below.refl _ _) rfl
  · intro f u hG hf
    obtain ⟨h1, h2⟩ := HB.out _ _ hG
    obtain ⟨⟨c0, c1, c2, c3⟩, _⟩ := box4 h1
    obtain ⟨⟨d0, d1, d2, d3⟩, _⟩ := box4 h2
    have hB : Below w.heap.size w u := (two_drawn hG).2.2
    have e10 : f 10 = .bool p := hf 10 (by decide)
    have e11 : f 11 = .bool q := hf 11 (by decide)
    clear h1 h2 HB HL1 HL2
    simp only [putAll, Act.put, List.setIfInBounds_toArray, List.set_cons_zero, List.set_cons_succ, e10, e11]
    clear hf e10 e11
    have HBB : Hid _ := hB
    clear hB hG
    rcases compare_three x.s.data.toList y.s.data.toList with ⟨k1, k2⟩ | ⟨k1, k2, _⟩ | ⟨k1, k2⟩
    · have ep : p = true := by rw [HP.out, k1]; rfl
      have K1 : Hid _ := k1
      clear k1 k2
      subst ep
      go_wp2_with fail
      go_ret2
      exact ⟨by rw [K1.out]; rfl, HBB.out⟩
    · have ep : p = false := by rw [HP.out, k1]; rfl
      have eq : q = false := by rw [HQ.out, k2]; rfl
      have K1 : Hid _ := k1
      clear k1 k2
      subst ep
      subst eq
      go_wp2_with fail
      go_ret2
      exact ⟨by rw [K1.out]; rfl, HBB.out⟩
    · have ep : p = false := by rw [HP.out, k1]; rfl
      have eq : q = true := by rw [HQ.out, k2]; rfl
      have K1 : Hid _ := k1
      clear k1 k2
      subst ep
      subst eq
      go_wp2_with fail
      go_ret2
      exact ⟨by rw [K1.out]; rfl, HBB.out⟩
set_option maxHeartbeats 2000000 in
theorem ref_order (x y : Vv) (L M : Value) (w : World) (hx : x.s.size ≤ 140737488351232) (hy : y.s.size ≤ 140737488351232) :
    Calls Try.prog 16 #[vval x L, vval y M] w fun e w' => e = .returned (.tuple #[.int .i64 (ordN x y), .int .i64 (ordE x y)]) ∧ Below w.heap.size w w' := by
  unfold vval ordN ordE
  by_cases hk : x.kind = y.kind
  · rw [if_pos hk, if_pos hk]
    by_cases h1 : x.kind = 1
    · rw [if_pos h1, if_pos h1]
      rw [h1] at hk ⊢
      rw [← hk]
      clear h1 hk
      rcases Int.lt_trichotomy x.n y.n with h | h | h
      · have h' : decide (y.n < x.n) = false := decide_eq_false (by omega)
        have e : Lib.compareInt x.n y.n = -1 := by unfold Lib.compareInt; rw [if_pos h]
        rw [e]
        clear e
        go_enter Try.func16, Try.ntmps16
        go_wp2_with fail
        go_quiet (fail)
        go_wp2_with fail
        go_ret2
        exact ⟨rfl, below2n _ _ _ _⟩
      · have h' : decide (y.n < x.n) = false := decide_eq_false (by omega)
        have h2 : decide (x.n < y.n) = false := decide_eq_false (by omega)
        have e : Lib.compareInt x.n y.n = 0 := by unfold Lib.compareInt; rw [if_neg (by omega), if_neg (by omega)]
        rw [e]
        clear e h
        go_enter Try.func16, Try.ntmps16
        go_wp2_with fail
        go_quiet (fail)
        go_wp2_with fail
        go_ret2
        exact ⟨rfl, below2n _ _ _ _⟩
      · have h2 : decide (x.n < y.n) = false := decide_eq_false (by omega)
        have e : Lib.compareInt x.n y.n = 1 := by unfold Lib.compareInt; rw [if_neg (by omega), if_pos h]
        rw [e]
        clear e
        go_enter Try.func16, Try.ntmps16
        go_wp2_with fail
        go_quiet (fail)
        go_wp2_with fail
        go_ret2
        exact ⟨rfl, below2n _ _ _ _⟩
    · rw [if_neg h1, if_neg h1]
      by_cases h3 : x.kind = 3
      · rw [if_pos h3, if_pos h3]
        rw [h3] at hk ⊢
        rw [← hk]
        exact ref_order_text x y L M w hx hy
      · rw [if_neg h3, if_neg h3]
        rw [← hk]
        clear hk
        go_enter Try.func16, Try.ntmps16
        go_wp2_with fail
        go_quiet (fail)
        go_wp2_with fail
        go_ret2
        exact ⟨rfl, below2n _ _ _ _⟩
  · rw [if_neg hk, if_neg hk]
    go_enter Try.func16, Try.ntmps16
    go_wp2_with fail
    go_ret2
    exact ⟨rfl, below2 _ _ _⟩
end Go.Proofs.Ytjfmhppgjhgdaaa
