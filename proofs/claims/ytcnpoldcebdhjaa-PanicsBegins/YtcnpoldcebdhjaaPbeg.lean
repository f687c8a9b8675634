/- The state in which main runs, by the document's own answer; and that both are alike. -/
import Derived.Test.YtcnpoldcebdhjaaQw15
import Derived.Test.YtcnpoldcebdhjaaHeadlaw
import Derived.BigQuiet
import Derived.Deep.QuietTactic
namespace Go.Proofs.Ytcnpoldcebdhjaa
open Go.ChangeShapes Go.WideShapes Go.ChangeAt Go.RowKit
set_option maxRecDepth 100000
set_option linter.unusedSimpArgs false
set_option linter.unusedVariables false
theorem ref_beginP (w : World) : Calls Try.prog 11 #[] w fun x w' => ∃ F', x = .returned (bSt.val F' (.slice none 0 0)) ∧ FRow w.heap.size w' F' [⟨bFr, .slice none 0 0⟩] bSt.fr.reverse ∧ Below w.heap.size w w' := by
  go_enter Try.func11, Try.ntmps11
  go_wp2_with fail
  have hb : Below w.heap.size w ((w.alloc (.cells #[.slice (some ⟨w.heap.size + 1, 0, none⟩) 1 1, .slice none 0 0, .int .i64 1, .int .i64 0, .int .i64 0, .int .i64 0] 26)).alloc (.cells #[.int .i64 0, .int .i64 0, .int .i64 (-1), .int .i64 0, .slice none 0 0] 53)) := ((Below.refl _ _).alloc (Nat.le_refl _) _).alloc (by simp) _
  have hr := fr_lit (B := w.heap.size) (u := w.alloc (.cells #[.slice (some ⟨w.heap.size + 1, 0, none⟩) 1 1, .slice none 0 0, .int .i64 1, .int .i64 0, .int .i64 0, .int .i64 0] 26)) (a := 0) (b := 0) (c := -1) (by simp)
  rw [show (w.alloc (.cells #[.slice (some ⟨w.heap.size + 1, 0, none⟩) 1 1, .slice none 0 0, .int .i64 1, .int .i64 0, .int .i64 0, .int .i64 0] 26)).heap.size = w.heap.size + 1 by simp] at hr
  refine bodyPost_ret (v := .agg #[.slice (some ⟨w.heap.size + 1, 0, none⟩) 1 1, .slice none 0 0, .int .i64 1, .int .i64 0, .int .i64 0, .int .i64 0]) (by simp [results, Try.results11, go_sem]) rfl ⟨_, rfl, ⟨hr, fun e he => ?_, List.pairwise_singleton _ _, rfl⟩, hb⟩
  simp at he; subst he
  exact IOwn.nil _ _
theorem own_beginX (w : World) : Calls Try.prog 10 #[] w fun x w' => ∃ F', x = .returned (bSt.val F' (.slice none 0 0)) ∧ FRow w.heap.size w' F' [⟨bFr, .slice none 0 0⟩] bSt.fr.reverse ∧ Below w.heap.size w w' := by
  go_enter Try.func10, Try.ntmps10
  go_wp2_with fail
  have hb : Below w.heap.size w ((w.alloc (.cells #[.slice (some ⟨w.heap.size + 1, 0, none⟩) 1 1, .slice none 0 0, .int .i64 1, .int .i64 0, .int .i64 0, .int .i64 0] 26)).alloc (.cells #[.int .i64 0, .int .i64 0, .int .i64 (-1), .int .i64 0, .slice none 0 0] 53)) := ((Below.refl _ _).alloc (Nat.le_refl _) _).alloc (by simp) _
  have hr := fr_lit (B := w.heap.size) (u := w.alloc (.cells #[.slice (some ⟨w.heap.size + 1, 0, none⟩) 1 1, .slice none 0 0, .int .i64 1, .int .i64 0, .int .i64 0, .int .i64 0] 26)) (a := 0) (b := 0) (c := -1) (by simp)
  rw [show (w.alloc (.cells #[.slice (some ⟨w.heap.size + 1, 0, none⟩) 1 1, .slice none 0 0, .int .i64 1, .int .i64 0, .int .i64 0, .int .i64 0] 26)).heap.size = w.heap.size + 1 by simp] at hr
  refine bodyPost_ret (v := .agg #[.slice (some ⟨w.heap.size + 1, 0, none⟩) 1 1, .slice none 0 0, .int .i64 1, .int .i64 0, .int .i64 0, .int .i64 0]) (by simp [results, Try.results10, go_sem]) rfl ⟨_, rfl, ⟨hr, fun e he => ?_, List.pairwise_singleton _ _, rfl⟩, hb⟩
  simp at he; subst he
  exact IOwn.nil _ _
theorem ref_ints0 (w : World) :
    Calls Try.prog 26 #[.slice none 0 0, .slice none 0 0] w fun e w' => e = .returned (.bool true) ∧ w' = w := by
  go_enter Try.func26, Try.ntmps26
  go_wp2_with fail
  go_loopw [13] (fun i wr => i = .int .i64 0 ∧ wr = w) (fun i _ => 0)
  case atStart => exact ⟨rfl, rfl⟩
  case round =>
    obtain ⟨rfl, rfl⟩ := hrel
    go_wp2_with fail
    go_ret
    exact ⟨rfl, rfl⟩
theorem ref_panics0 (w : World) :
    Calls Try.prog 25 #[.slice none 0 0, .slice none 0 0] w fun e w' => e = .returned (.bool true) ∧ w' = w := by
  go_enter Try.func25, Try.ntmps25
  go_wp2_with fail
  go_loopw [13] (fun i wr => i = .int .i64 0 ∧ wr = w) (fun i _ => 0)
  case atStart => exact ⟨rfl, rfl⟩
  case round =>
    obtain ⟨rfl, rfl⟩ := hrel
    go_wp2_with fail
    go_ret
    exact ⟨rfl, rfl⟩
theorem T_two {P : Program} {ops : Array Oper} {Q : Exit → Act → World → Prop} {md : Region.Mode} {S : World → Prop} {T : Nat → Bool} {i j : Nat} {oi oj : Oper} {f : Nat} {listed : Array Bool} {a : Act} {w : World} (hoi : ops[i]? = some oi) (hoj : ops[j]? = some oj) (hr : Region.ready md ops listed = [i, j])
    (h1 : ∀ K' : Act → World → Prop, (∀ a w, (T i = false → S w) → wpAnyT P md ops Q S T f (listed.setIfInBounds i true) a w → K' a w) → if Region.wanted oi (yielded ops a.tmps) = true then Oper.wp P oi a w K' Q else K' (a.put oi.dst undef) w)
    (h2 : ∀ K' : Act → World → Prop, (∀ a w, (T j = false → S w) → wpAnyT P md ops Q S T f (listed.setIfInBounds j true) a w → K' a w) → if Region.wanted oj (yielded ops a.tmps) = true then Oper.wp P oj a w K' Q else K' (a.put oj.dst undef) w) : wpAnyT P md ops Q S T (f + 1) listed a w := by
  refine ⟨fun h0 => (by rw [hr] at h0; cases h0), fun k hk => ?_⟩
  rw [hr] at hk
  have hk' : k = i ∨ k = j := by simpa using hk
  rcases hk' with rfl | rfl
  · exact wpOp_step hoi (fun K' hK => h1 K' (fun a w h1 h2 => hK a w ⟨h1, h2⟩))
  · exact wpOp_step hoj (fun K' hK => h2 K' (fun a w h1 h2 => hK a w ⟨h1, h2⟩))
theorem two_new (W : World) (c d : Array Value) (t : Nat) : ((W.alloc (.cells c t)).alloc (.cells d t)).heap[W.heap.size]? = some (.cells c t (0, 0)) ∧ ((W.alloc (.cells c t)).alloc (.cells d t)).heap[W.heap.size + 1]? = some (.cells d t (0, 0)) := by
  constructor
  · rw [Lib.alloc_old _ _ W.heap.size (by simp)]; exact heap_alloc_new W _
  · have := heap_alloc_new (W.alloc (.cells c t)) (.cells d t)
    simpa using this
def put5 (W : World) (b : Nat) (v0 v1 v2 v3 v4 : Value) : World := ((((W.setCell ⟨b, 0, none⟩ v0).setCell ⟨b, 1, none⟩ v1).setCell ⟨b, 2, none⟩ v2).setCell ⟨b, 3, none⟩ v3).setCell ⟨b, 4, none⟩ v4
theorem put5_heap {W : World} {b t : Nat} {a0 a1 a2 a3 a4 : Value} (v0 v1 v2 v3 v4 : Value) (h : W.heap[b]? = some (.cells #[a0, a1, a2, a3, a4] t (0, 0))) : (put5 W b v0 v1 v2 v3 v4).heap[b]? = some (.cells #[v0, v1, v2, v3, v4] t (0, 0)) ∧ ∀ k, k ≠ b → (put5 W b v0 v1 v2 v3 v4).heap[k]? = W.heap[k]? := by
  refine ⟨by simp [put5, World.setCell, Array.getElem?_modify, h], fun k hk => ?_⟩
  unfold put5
  rw [Below.heap_setCell _ _ _ _ hk, Below.heap_setCell _ _ _ _ hk, Below.heap_setCell _ _ _ _ hk, Below.heap_setCell _ _ _ _ hk, Below.heap_setCell _ _ _ _ hk]
/-- Five cells of the first activation, and of the boxes that lead to two of them. -/
structure CF (g1 g2 b c1 c2 : Nat) (w : World) : Prop where
  ca : w.cell? ⟨g1, 0, none⟩ = some (.int .i64 0) ∧ w.cell? ⟨g1, 1, none⟩ = some (.int .i64 0) ∧ w.cell? ⟨g1, 2, none⟩ = some (.int .i64 (-1)) ∧ w.cell? ⟨g1, 3, none⟩ = some (.int .i64 0) ∧ w.cell? ⟨g1, 4, none⟩ = some (.slice none 0 0)
  cb : w.cell? ⟨g2, 0, none⟩ = some (.int .i64 0) ∧ w.cell? ⟨g2, 1, none⟩ = some (.int .i64 0) ∧ w.cell? ⟨g2, 2, none⟩ = some (.int .i64 (-1)) ∧ w.cell? ⟨g2, 3, none⟩ = some (.int .i64 0) ∧ w.cell? ⟨g2, 4, none⟩ = some (.slice none 0 0)
  cx : w.cell? ⟨b, 0, none⟩ = some (.slice (some ⟨g1, 0, none⟩) 1 c1)
  cy : w.cell? ⟨b + 1, 0, none⟩ = some (.slice (some ⟨g2, 0, none⟩) 1 c2)
theorem CF.below {g1 g2 b c1 c2 : Nat} {w w' : World} (h : CF g1 g2 b c1 c2 w) (hb : Below w.heap.size w w') : CF g1 g2 b c1 c2 w' := by
  have key : ∀ p v, w.cell? p = some v → w'.cell? p = some v := fun p v hv => by rw [hb.cell (World.block_lt_of_cell? _ _ hv)]; exact hv
  obtain ⟨⟨a0, a1, a2, a3, a4⟩, ⟨b0, b1, b2, b3, b4⟩, x, y⟩ := h
  exact ⟨⟨key _ _ a0, key _ _ a1, key _ _ a2, key _ _ a3, key _ _ a4⟩, ⟨key _ _ b0, key _ _ b1, key _ _ b2, key _ _ b3, key _ _ b4⟩, key _ _ x, key _ _ y⟩
theorem CF.alloc {g1 g2 b c1 c2 : Nat} {w : World} (h : CF g1 g2 b c1 c2 w) (o : Obj) : CF g1 g2 b c1 c2 (w.alloc o) := h.below ((Below.refl _ _).alloc (Nat.le_refl _) _)
set_option maxHeartbeats 4000000 in
theorem ref_sameB (g1 g2 c1 c2 : Nat) (w : World) (h : ∀ u, Below w.heap.size w u → u.cell? ⟨w.heap.size, 0, none⟩ = some (.slice (some ⟨g1, 0, none⟩) 1 c1) → u.cell? ⟨w.heap.size + 1, 0, none⟩ = some (.slice (some ⟨g2, 0, none⟩) 1 c2) → CF g1 g2 w.heap.size c1 c2 u) :
    Calls Try.prog 9 #[.agg #[.slice (some ⟨g1, 0, none⟩) 1 c1, .slice none 0 0, .int .i64 1, .int .i64 0, .int .i64 0, .int .i64 0], .agg #[.slice (some ⟨g2, 0, none⟩) 1 c2, .slice none 0 0, .int .i64 1, .int .i64 0, .int .i64 0, .int .i64 0]] w fun e w' => e = .returned (.bool true) ∧ Below w.heap.size w w' := by
  have HW : Hid (Below w.heap.size w ((w.alloc (.cells #[.slice (some ⟨g1, 0, none⟩) 1 c1, .slice none 0 0, .int .i64 1, .int .i64 0, .int .i64 0, .int .i64 0] 26)).alloc (.cells #[.slice (some ⟨g2, 0, none⟩) 1 c2, .slice none 0 0, .int .i64 1, .int .i64 0, .int .i64 0, .int .i64 0] 26))) := ((Below.refl _ _).alloc (Nat.le_refl _) _).alloc (by simp) _
  have HC : Hid (CF g1 g2 w.heap.size c1 c2 ((w.alloc (.cells #[.slice (some ⟨g1, 0, none⟩) 1 c1, .slice none 0 0, .int .i64 1, .int .i64 0, .int .i64 0, .int .i64 0] 26)).alloc (.cells #[.slice (some ⟨g2, 0, none⟩) 1 c2, .slice none 0 0, .int .i64 1, .int .i64 0, .int .i64 0, .int .i64 0] 26))) := by
    have h2 := two_new w #[.slice (some ⟨g1, 0, none⟩) 1 c1, .slice none 0 0, .int .i64 1, .int .i64 0, .int .i64 0, .int .i64 0] #[.slice (some ⟨g2, 0, none⟩) 1 c2, .slice none 0 0, .int .i64 1, .int .i64 0, .int .i64 0, .int .i64 0] 26
    exact h _ HW.out (box6 h2.1).1.1 (box6 h2.2).1.1
  clear h
  go_enter Try.func9, Try.ntmps9
  go_wp2_with fail
  refine (ref_panics0 _).mono ?_
  rintro e w1 ⟨rfl, rfl⟩
  go_wp2_with fail
  generalize (w.alloc (.cells #[.slice (some ⟨g1, 0, none⟩) 1 c1, .slice none 0 0, .int .i64 1, .int .i64 0, .int .i64 0, .int .i64 0] 26)).alloc (.cells #[.slice (some ⟨g2, 0, none⟩) 1 c2, .slice none 0 0, .int .i64 1, .int .i64 0, .int .i64 0, .int .i64 0] 26) = W1 at *
  generalize hbb : w.heap.size = b at *
  have HBB : Hid (w.heap.size = b) := hbb
  clear hbb
  go_loopw [54] (fun i wr => ∃ k : Nat, k ≤ 1 ∧ i = .int .i64 k ∧ Hid (CF g1 g2 b c1 c2 wr) ∧ Hid (Below b w wr)) (fun i _ => 1 - (intOf i).toNat)
  case atStart => exact ⟨0, by omega, rfl, HC.out, HW.out⟩
  case round =>
    obtain ⟨k, hk, rfl, HR, HB⟩ := hrel
    clear HC HW
    have h01 : k = 0 ∨ k = 1 := by omega
    rcases h01 with rfl | rfl
    · clear hk
      go_wp2_with fail
      have HR3 : Hid (CF g1 g2 b c1 c2 (wr.drewN 1)) := HR.out.below (below_dn _ _)
      have HB3 : Hid (Below b w (wr.drewN 1)) := HB.out.trans ((below_dn _ _).mono (by rw [← HBB.out]; exact HB.out.size))
      clear HR HB
      refine wp_region_any (by kernel_rfl) ?_
      change wpAny _ _ _ _ _ _ _ (wr.drewN 1)
      generalize wr.drewN 1 = W3 at *
      refine wpAny_headS (CF g1 g2 b c1 c2) 0 10 13 4 HR3.out (by kernel_rfl) (shutl_none _) (fun _ _ d _ _ h => by cases d <;> exact h) (by kernel_rfl) (by kernel_rfl) (by kernel_rfl) ?_
      simp only [List.take_succ_cons, List.take_zero, List.drop_zero]
      repeat (refine wpValS_step _ (by rfl) (by rintro W ⟨⟨a0, a1, a2, a3, a4⟩, ⟨b0, b1, b2, b3, b4⟩, cx, cy⟩; go_simp; try with_reducible rfl) ?_; try simp only [Act.put, List.setIfInBounds_toArray, List.set_cons_zero, List.set_cons_succ])
      refine wpValS_nil ?_
      refine T_two (i := 10) (j := 11) rfl rfl (by kernel_rfl) (fun K hK => ?_) (fun K hK => ?_)
      · go_simp
        refine hK _ _ (fun _ => HR3.out.alloc _) ?_
        clear hK K
        try simp only [Act.put, List.setIfInBounds_toArray, List.set_cons_zero, List.set_cons_succ]
        refine T_one (i := 11) rfl (by kernel_rfl) (fun K hK => ?_)
        go_simp
        refine hK _ _ (fun _ => (HR3.out.alloc _).alloc _) ?_
        clear hK K
        try simp only [Act.put, List.setIfInBounds_toArray, List.set_cons_zero, List.set_cons_succ]
        refine T_one (i := 12) rfl (by kernel_rfl) (fun K hK => ?_)
        go_simp
        refine hK _ _ (fun _ => (HR3.out.alloc _).alloc _) ?_
        clear hK K
        try simp only [Act.put, List.setIfInBounds_toArray, List.set_cons_zero, List.set_cons_succ]
        refine tail_of (by kernel_rfl) ?_
        refine wpAny_ready (rs := [13]) (by kernel_rfl) (by simp) ?_
        refine AllReady.cons rfl (fun K hK => ?_) AllReady.nil
        go_simp
        refine hK _ _ ?_
        clear hK K
        try simp only [Act.put, List.setIfInBounds_toArray, List.set_cons_zero, List.set_cons_succ]
        refine wpAny_done (by kernel_rfl) ?_ _
        have HC5 : Hid (CF g1 g2 b c1 c2 ((W3.alloc (.cells #[.int .i64 0, .int .i64 0, .int .i64 (-1), .int .i64 0, .slice none 0 0] 53)).alloc (.cells #[.int .i64 0, .int .i64 0, .int .i64 (-1), .int .i64 0, .slice none 0 0] 53))) := (HR3.out.alloc _).alloc _
        have HB5 : Hid (Below b w ((W3.alloc (.cells #[.int .i64 0, .int .i64 0, .int .i64 (-1), .int .i64 0, .slice none 0 0] 53)).alloc (.cells #[.int .i64 0, .int .i64 0, .int .i64 (-1), .int .i64 0, .slice none 0 0] 53))) := by
          have h0 : b ≤ W3.heap.size := by rw [← HBB.out]; exact HB3.out.size
          exact (HB3.out.alloc h0 _).alloc (by simp; omega) _
        have h2 := two_new W3 #[.int .i64 0, .int .i64 0, .int .i64 (-1), .int .i64 0, .slice none 0 0] #[.int .i64 0, .int .i64 0, .int .i64 (-1), .int .i64 0, .slice none 0 0] 53
        obtain ⟨⟨x0, x1, x2, x3, x4⟩, -⟩ := box5 h2.1
        obtain ⟨⟨y0, y1, y2, y3, y4⟩, -⟩ := box5 h2.2
        clear HR3 HB3 h2
        generalize (W3.alloc (.cells #[.int .i64 0, .int .i64 0, .int .i64 (-1), .int .i64 0, .slice none 0 0] 53)).alloc (.cells #[.int .i64 0, .int .i64 0, .int .i64 (-1), .int .i64 0, .slice none 0 0] 53) = W5 at *
        generalize W3.heap.size + 1 = bi at *
        generalize W3.heap.size = bt at *
        go_wp2_with fail
        refine (ref_ints0 _).mono ?_
        rintro e w6 ⟨rfl, rfl⟩
        go_wp2_with fail
        exact ⟨⟨1, by omega, rfl, HC5.out, HB5.out⟩, by simp [intOf]⟩
      · go_simp
        refine hK _ _ (fun _ => HR3.out.alloc _) ?_
        clear hK K
        try simp only [Act.put, List.setIfInBounds_toArray, List.set_cons_zero, List.set_cons_succ]
        refine T_one (i := 10) rfl (by kernel_rfl) (fun K hK => ?_)
        go_simp
        refine hK _ _ (fun _ => (HR3.out.alloc _).alloc _) ?_
        clear hK K
        try simp only [Act.put, List.setIfInBounds_toArray, List.set_cons_zero, List.set_cons_succ]
        refine T_one (i := 12) rfl (by kernel_rfl) (fun K hK => ?_)
        go_simp
        refine hK _ _ (fun _ => (HR3.out.alloc _).alloc _) ?_
        clear hK K
        try simp only [Act.put, List.setIfInBounds_toArray, List.set_cons_zero, List.set_cons_succ]
        refine tail_of (by kernel_rfl) ?_
        refine wpAny_ready (rs := [13]) (by kernel_rfl) (by simp) ?_
        refine AllReady.cons rfl (fun K hK => ?_) AllReady.nil
        go_simp
        refine hK _ _ ?_
        clear hK K
        try simp only [Act.put, List.setIfInBounds_toArray, List.set_cons_zero, List.set_cons_succ]
        refine wpAny_done (by kernel_rfl) ?_ _
        have HC5 : Hid (CF g1 g2 b c1 c2 ((W3.alloc (.cells #[.int .i64 0, .int .i64 0, .int .i64 (-1), .int .i64 0, .slice none 0 0] 53)).alloc (.cells #[.int .i64 0, .int .i64 0, .int .i64 (-1), .int .i64 0, .slice none 0 0] 53))) := (HR3.out.alloc _).alloc _
        have HB5 : Hid (Below b w ((W3.alloc (.cells #[.int .i64 0, .int .i64 0, .int .i64 (-1), .int .i64 0, .slice none 0 0] 53)).alloc (.cells #[.int .i64 0, .int .i64 0, .int .i64 (-1), .int .i64 0, .slice none 0 0] 53))) := by
          have h0 : b ≤ W3.heap.size := by rw [← HBB.out]; exact HB3.out.size
          exact (HB3.out.alloc h0 _).alloc (by simp; omega) _
        have h2 := two_new W3 #[.int .i64 0, .int .i64 0, .int .i64 (-1), .int .i64 0, .slice none 0 0] #[.int .i64 0, .int .i64 0, .int .i64 (-1), .int .i64 0, .slice none 0 0] 53
        obtain ⟨⟨x0, x1, x2, x3, x4⟩, -⟩ := box5 h2.1
        obtain ⟨⟨y0, y1, y2, y3, y4⟩, -⟩ := box5 h2.2
        clear HR3 HB3 h2
        generalize (W3.alloc (.cells #[.int .i64 0, .int .i64 0, .int .i64 (-1), .int .i64 0, .slice none 0 0] 53)).alloc (.cells #[.int .i64 0, .int .i64 0, .int .i64 (-1), .int .i64 0, .slice none 0 0] 53) = W5 at *
        generalize W3.heap.size + 1 = bi at *
        generalize W3.heap.size = bt at *
        go_wp2_with fail
        refine (ref_ints0 _).mono ?_
        rintro e w6 ⟨rfl, rfl⟩
        go_wp2_with fail
        exact ⟨⟨1, by omega, rfl, HC5.out, HB5.out⟩, by simp [intOf]⟩
    · clear hk
      go_wp2_with fail
      go_ret
      exact ⟨rfl, by rw [HBB.out]; exact HB.out⟩
end Go.Proofs.Ytcnpoldcebdhjaa
