/- The parser's steps over heads and functions. -/
import Derived.Test.YtpdndpajobfhmabGreatDoorPw6
namespace Go.Proofs.YtpdndpajobfhmabGreatDoor
open Go.ChangeShapes Go.WideShapes Go.ChangeAt Go.RowKit
set_option maxRecDepth 100000
set_option linter.unusedSimpArgs false
set_option linter.unusedVariables false

def CHead (toks : List Tk) (n : Nat) : Prop := ∀ B pb st w tv (kind : Nat) (text : ByteArray), Sit B pb toks st w tv → run toks n (.head kind text) st ≠ .na → Calls Tryz.prog 59 #[.pointer (some ⟨pb, 0, none⟩), .agg #[.int .i64 (kind : Int), .string text, .string ⟨#[]⟩, .int .i64 0, .slice none 0 0]] w (PO B pb toks w tv ret1 (run toks n (.head kind text) st))
set_option maxHeartbeats 4000000 in
theorem c_head (toks : List Tk) (n : Nat) : CHead toks n := by
  intro B pb st w tv kind text hs hna
  obtain ⟨i0, hi, hz0, hz1, hz2⟩ := info_parts Tryz.infoInt
  cases n with
  | zero => exact absurd rfl hna
  | succ n =>
    simp only [run] at hna ⊢
    have hp := hs.pos
    have hn := hs.n
    have htr := hs.tree
    have HST : Hid (HR B pb toks w tv st (w.alloc (.cells #[.int .i64 (kind : Int), .string text, .string ⟨#[]⟩, .int .i64 0, .slice none 0 0] 35)) tv [] (.slice none 0 0) #[.int .i64 (kind : Int), .string text, .string ⟨#[]⟩, .int .i64 0, .slice none 0 0]) := hr_start hs _
    have HMU := fun W (h : Prs B pb toks st W tv) => own_must B pb toks st W tv ⟨#[40]⟩ h hn (by omega)
    unfold mustP at HMU
    cases h40 : isP toks st ⟨#[40]⟩ with
    | false =>
      rw [h40] at HMU
      rw [if_pos rfl]
      have HM' : Hid (∀ W, Prs B pb toks st W tv → Calls Tryz.prog 30 #[.pointer (some ⟨pb, 0, none⟩), .string ⟨#[40]⟩] W (PP B pb toks W tv unitV none)) := HMU
      clear hna HMU hs h40
      go_enter Tryz.func59, Tryz.ntmps59
      go_wp2_with fail
      refine (HM'.out _ HST.out.kr.sit.prs).mono ?_
      rintro e w1 ⟨rfl, tv1, m⟩
      exact ⟨rfl, rfl, _, HST.out.kr.mv.trans m⟩
    | true =>
      rw [h40] at HMU
      rw [h40, if_neg (by decide)] at hna
      rw [if_neg (by decide)]
      have hl0 := isP_lt h40 (by decide)
      have HM' : Hid (∀ W, Prs B pb toks st W tv → Calls Tryz.prog 30 #[.pointer (some ⟨pb, 0, none⟩), .string ⟨#[40]⟩] W (PP B pb toks W tv unitV (some ((), st.next)))) := HMU
      clear HMU
      cases n with
      | zero => exact absurd rfl hna
      | succ n =>
        by_cases h41 : isP toks st.next ⟨#[41]⟩ = true
        · have hl1 := isP_lt h41 (by decide)
          simp only [next_pos] at hl1
          have hlist : run toks (n + 1) (.list ⟨#[41]⟩) st.next = .ok [] st.next.next := by simp only [run]; rw [if_neg (by decide), if_pos h41]
          rw [hlist] at hna ⊢
          simp only [Out.bind, List.length_nil] at hna ⊢
          rw [if_neg (by decide)] at hna ⊢
          have HSN : Hid (∀ W tvx, Prs B pb toks st.next W tvx → Sit B pb toks st.next W tvx) := fun W tvx h => ⟨h, hn, by simp only [next_pos]; omega, by simp only [next_pos, next_tree]; omega⟩
          have HS2 : Hid (∀ W tvx, Prs B pb toks st.next.next W tvx → Sit B pb toks st.next.next W tvx) := fun W tvx h => ⟨h, hn, by simp only [next_pos]; omega, by simp only [next_pos, next_tree]; omega⟩
          have HLI : Hid (∀ W tvx fv, Sit B pb toks st.next W tvx → Calls Tryz.prog 88 #[.pointer (some ⟨pb, 0, none⟩), .string ⟨#[41]⟩, fv] W fun e w' => e = .returned (.slice none 0 0) ∧ Prs B pb toks st.next.next w' tvx ∧ Mv pb W tvx w' tvx) := fun W tvx fv h => own_list0 B pb toks st.next W tvx ⟨#[41]⟩ fv h41 h
          have HRE : Hid (∀ W tvx, Prs B pb toks st.next.next W tvx → run toks (n + 1) .result st.next.next ≠ .na → Calls Tryz.prog 90 #[.pointer (some ⟨pb, 0, none⟩)] W (PO B pb toks W tvx ret1 (run toks (n + 1) .result st.next.next))) := fun W tvx h hx => c_result toks (n + 1) B pb _ W tvx (HS2.out _ _ h) hx
          have htr2 : st.next.next.tree.length + 8 ≤ 4 * st.next.next.pos := by simp only [next_pos, next_tree]; omega
          have hpp2 : st.next.next.pos ≤ toks.length := by simp only [next_pos]; omega
          generalize st.next.next = st2 at *
          generalize hsn : st.next = st1 at *
          clear h41 h40 hlist hl1 hl0 hs hsn
          cases hr : run toks (n + 1) .result st2 with
          | na => rw [hr] at hna; exact absurd rfl hna
          | bad =>
            rw [hr] at HRE
            show Calls _ _ _ _ (PO B pb toks w tv ret1 .bad)
            clear hna hr
            go_enter Tryz.func59, Tryz.ntmps59
            go_wp2_with fail
            refine (HM'.out _ HST.out.kr.sit.prs).mono ?_
            rintro e w1 ⟨rfl, tv1, q1, m1⟩
            have HQ1 : Hid (HR B pb toks w tv st1 w1 tv1 [] (.slice none 0 0) #[.int .i64 (kind : Int), .string text, .string ⟨#[]⟩, .int .i64 0, .slice none 0 0]) := HST.out.step m1 (HSN.out _ _ q1)
            clear q1 m1
            go_wp2_with fail
            refine (HLI.out _ _ _ HQ1.out.kr.sit).mono ?_
            rintro e w2 ⟨rfl, q2, m2⟩
            have HQ2 : Hid (HR B pb toks w tv st2 w2 tv1 [] (.slice none 0 0) #[.int .i64 (kind : Int), .string text, .string ⟨#[]⟩, .int .i64 0, .slice none 0 0]) := HQ1.out.step m2 (HS2.out _ _ q2)
            have HQ3 : Hid (HR B pb toks w tv st2 (w2.setCell ⟨w.heap.size, 4, none⟩ (.slice none 0 0)) tv1 [] (.slice none 0 0) #[.int .i64 (kind : Int), .string text, .string ⟨#[]⟩, .int .i64 0, .slice none 0 0]) := HQ2.out.set 4 (.slice none 0 0)
            have HQ5 : Hid (HR B pb toks w tv st2 ((w2.setCell ⟨w.heap.size, 4, none⟩ (.slice none 0 0)).setCell ⟨w.heap.size, 3, none⟩ (.int .i64 0)) tv1 [] (.slice none 0 0) #[.int .i64 (kind : Int), .string text, .string ⟨#[]⟩, .int .i64 0, .slice none 0 0]) := HQ3.out.set 3 (.int .i64 0)
            have y4 := HQ2.out.cell (j := 4) rfl
            have y3 := HQ3.out.cell (j := 3) rfl
            have y4b := HQ3.out.cell (j := 4) rfl
            have x3 := HQ5.out.cell (j := 3) rfl
            have x4 := HQ5.out.cell (j := 4) rfl
            have y4' := y4.1
            have y4f := y4.2
            have y3' := y3.1
            have y3f := y3.2
            have y4b' := y4b.1
            have x3' := x3.1
            have x4' := x4.1
            clear q2 m2 y4 y3 y4b x3 x4
            go_wp2
            generalize ((w2.setCell ⟨w.heap.size, 4, none⟩ (.slice none 0 0)).setCell ⟨w.heap.size, 3, none⟩ (.int .i64 0)) = W5 at *
            have HQ5d : Hid (HR B pb toks w tv st2 (W5.drewN 1) tv1 [] (.slice none 0 0) #[.int .i64 (kind : Int), .string text, .string ⟨#[]⟩, .int .i64 0, .slice none 0 0]) := HQ5.out.step (HQ5.out.kr.sit.prs.mvb (below_drewN1 W5 1)) (HS2.out _ _ (HQ5.out.kr.sit.prs.drewN 1))
            have HS0 : Hid ((W5.drewN 1).cell? ⟨w.heap.size, 4, none⟩ = some (.slice none 0 0)) := x4'
            refine wp_region_any (by kernel_rfl) ?_
            refine wpAny_headS (fun W => W.cell? ⟨w.heap.size, 4, none⟩ = some (.slice none 0 0)) 0 3 5 5 HS0.out (by kernel_rfl) (shutl_none _) (fun _ _ d _ _ h => by cases d <;> exact h) (by kernel_rfl) (by kernel_rfl) (by kernel_rfl) ?_
            simp only [List.take_succ_cons, List.take_zero, List.drop_zero]
            repeat (refine wpValS_step _ (by rfl) (by intro W hW; go_simp; try with_reducible rfl) ?_; try simp only [Act.put, List.setIfInBounds_toArray, List.set_cons_zero, List.set_cons_succ])
            refine wpValS_nil ?_
            refine T_one (i := 3) rfl (by kernel_rfl) (fun K hK => ?_)
            go_simp
            refine (HRE.out _ _ HQ5d.out.kr.sit.prs (by intro e; cases e)).mono ?_
            rintro e w6 ⟨rfl, tv6, m6⟩
            exact ⟨rfl, rfl, _, HQ5d.out.kr.mv.trans m6⟩
          | ok r1 st3 =>
            obtain ⟨j1, j2, j3⟩ := run_inv toks _ _ _ _ _ hr hpp2
            simp only [cst] at j3
            rw [hr] at HRE hna
            simp only at hna ⊢
            have HS3 : Hid (∀ W tvx, Prs B pb toks st3 W tvx → Sit B pb toks st3 W tvx) := fun W tvx h => ⟨h, hn, j2, by omega⟩
            have HBL : Hid (∀ W tvx, Prs B pb toks st3 W tvx → run toks (n + 1) .block st3 ≠ .na → Calls Tryz.prog 91 #[.pointer (some ⟨pb, 0, none⟩)] W (PO B pb toks W tvx ret1 (run toks (n + 1) .block st3))) := fun W tvx h hx => c_block toks (n + 1) B pb _ W tvx (HS3.out _ _ h) hx
            cases hr2 : run toks (n + 1) .block st3 with
            | na => rw [hr2] at hna; exact absurd rfl hna
            | bad =>
              rw [hr2] at HBL
              have hr1 : ∃ a, r1 = [a] := by
                simp only [run] at hr
                split at hr
                · cases hr
                · split at hr
                  · cases hr; exact ⟨_, rfl⟩
                  · cases hr
              obtain ⟨a, rfl⟩ := hr1
              show Calls _ _ _ _ (PO B pb toks w tv ret1 .bad)
              clear hna hr hr2
              go_enter Tryz.func59, Tryz.ntmps59
              go_wp2_with fail
              refine (HM'.out _ HST.out.kr.sit.prs).mono ?_
              rintro e w1 ⟨rfl, tv1, q1, m1⟩
              have HQ1 : Hid (HR B pb toks w tv st1 w1 tv1 [] (.slice none 0 0) #[.int .i64 (kind : Int), .string text, .string ⟨#[]⟩, .int .i64 0, .slice none 0 0]) := HST.out.step m1 (HSN.out _ _ q1)
              clear q1 m1
              go_wp2_with fail
              refine (HLI.out _ _ _ HQ1.out.kr.sit).mono ?_
              rintro e w2 ⟨rfl, q2, m2⟩
              have HQ2 : Hid (HR B pb toks w tv st2 w2 tv1 [] (.slice none 0 0) #[.int .i64 (kind : Int), .string text, .string ⟨#[]⟩, .int .i64 0, .slice none 0 0]) := HQ1.out.step m2 (HS2.out _ _ q2)
              have HQ3 : Hid (HR B pb toks w tv st2 (w2.setCell ⟨w.heap.size, 4, none⟩ (.slice none 0 0)) tv1 [] (.slice none 0 0) #[.int .i64 (kind : Int), .string text, .string ⟨#[]⟩, .int .i64 0, .slice none 0 0]) := HQ2.out.set 4 (.slice none 0 0)
              have HQ5 : Hid (HR B pb toks w tv st2 ((w2.setCell ⟨w.heap.size, 4, none⟩ (.slice none 0 0)).setCell ⟨w.heap.size, 3, none⟩ (.int .i64 0)) tv1 [] (.slice none 0 0) #[.int .i64 (kind : Int), .string text, .string ⟨#[]⟩, .int .i64 0, .slice none 0 0]) := HQ3.out.set 3 (.int .i64 0)
              have y4 := HQ2.out.cell (j := 4) rfl
              have y3 := HQ3.out.cell (j := 3) rfl
              have y4b := HQ3.out.cell (j := 4) rfl
              have x3 := HQ5.out.cell (j := 3) rfl
              have x4 := HQ5.out.cell (j := 4) rfl
              have y4' := y4.1
              have y4f := y4.2
              have y3' := y3.1
              have y3f := y3.2
              have y4b' := y4b.1
              have x3' := x3.1
              have x4' := x4.1
              clear q2 m2 y4 y3 y4b x3 x4
              go_wp2
              generalize ((w2.setCell ⟨w.heap.size, 4, none⟩ (.slice none 0 0)).setCell ⟨w.heap.size, 3, none⟩ (.int .i64 0)) = W5 at *
              have HQ5d : Hid (HR B pb toks w tv st2 (W5.drewN 1) tv1 [] (.slice none 0 0) #[.int .i64 (kind : Int), .string text, .string ⟨#[]⟩, .int .i64 0, .slice none 0 0]) := HQ5.out.step (HQ5.out.kr.sit.prs.mvb (below_drewN1 W5 1)) (HS2.out _ _ (HQ5.out.kr.sit.prs.drewN 1))
              have HS0 : Hid ((W5.drewN 1).cell? ⟨w.heap.size, 4, none⟩ = some (.slice none 0 0)) := x4'
              refine wp_region_any (by kernel_rfl) ?_
              refine wpAny_headS (fun W => W.cell? ⟨w.heap.size, 4, none⟩ = some (.slice none 0 0)) 0 3 5 5 HS0.out (by kernel_rfl) (shutl_none _) (fun _ _ d _ _ h => by cases d <;> exact h) (by kernel_rfl) (by kernel_rfl) (by kernel_rfl) ?_
              simp only [List.take_succ_cons, List.take_zero, List.drop_zero]
              repeat (refine wpValS_step _ (by rfl) (by intro W hW; go_simp; try with_reducible rfl) ?_; try simp only [Act.put, List.setIfInBounds_toArray, List.set_cons_zero, List.set_cons_succ])
              refine wpValS_nil ?_
              refine T_one (i := 3) rfl (by kernel_rfl) (fun K hK => ?_)
              go_simp
              refine (HRE.out _ _ HQ5d.out.kr.sit.prs (by intro e; cases e)).mono ?_
              rintro e w6 ⟨rfl, tv6, q6, m6⟩
              have HQ6 : Hid (HR B pb toks w tv st3 w6 tv6 [] (.slice none 0 0) #[.int .i64 (kind : Int), .string text, .string ⟨#[]⟩, .int .i64 0, .slice none 0 0]) := HQ5d.out.step m6 (HS3.out _ _ q6)
              have hB6 : B ≤ w6.heap.size := Nat.le_trans q6.low (Nat.le_of_lt q6.lt)
              have HC6 : Hid (w6.cell? ⟨w.heap.size, 4, none⟩ = some (.slice none 0 0) ∧ (w6.alloc (.cells #[.int .i64 (a : Int)] 3)).cell? ⟨w.heap.size, 4, none⟩ = some (.slice none 0 0)) := by
                have h1 := (HQ6.out.cell (j := 4) rfl).1
                have hlt := World.block_lt_of_cell? _ _ h1
                exact ⟨h1, by rw [((Below.refl w6.heap.size w6).alloc (Nat.le_refl _) _).cell (p := ⟨w.heap.size, 4, none⟩) hlt]; exact h1⟩
              clear q6 m6
              simp only [ret1]
              refine hK _ _ (fun _ => HC6.out.1) ?_
              clear hK K
              try simp only [Act.put, List.setIfInBounds_toArray, List.set_cons_zero, List.set_cons_succ]
              refine T_one (i := 4) rfl (by kernel_rfl) (fun K hK => ?_)
              go_simp
              refine hK _ _ (fun _ => HC6.out.2) ?_
              clear hK K
              refine tail_of (by kernel_rfl) ?_
              try simp only [Act.put, List.setIfInBounds_toArray, List.set_cons_zero, List.set_cons_succ]
              refine wpAny_ready (rs := [5]) (by kernel_rfl) (by simp) ?_
              refine AllReady.cons rfl (fun K hK => ?_) AllReady.nil
              rw [if_pos (by rfl)]
              refine at_append _ (.tmp 22) (.tmp 25) 33 rfl B 3 i0 (.int .i64 0) 1 8 Tryz.underlying33 hi hz0 hz1 hz2 rfl (by decide) _ _ _ rfl (World.ownsRow.alloc HQ6.out.kr.row _) ⟨w6.heap.size, 0, none⟩ 1 1 [.int .i64 (a : Int)] rfl rfl ?c1 ?c2 ?c3 ?c4 ?c5 ?_
              case c1 => exact cell_one_new _ _ _
              case c2 => intro y hy; simp at hy; subst hy; rfl
              case c3 => unfold maxLen; simp
              case c4 => simp
              case c5 => simp; omega
              intro v7 w7 hown7 hgrow7 hat7
              have hk7 := HQ6.out.put hgrow7 hown7 (hat7.imp id (fun e => by rw [e]; simp))
              obtain ⟨ko7, kc7, rfl⟩ : ∃ x c, v7 = .slice x 1 c := by
                rcases hown7.2 with ⟨_, h0⟩ | ⟨g, cap, cur, hv, _⟩
                · simp at h0
                · exact ⟨some ⟨g, 0, none⟩, cap, by rw [hv]; simp⟩
              have u4 := (hk7.cell (j := 4) rfl).1
              have u4f := (hk7.cell (j := 4) rfl).2
              have HQ7 : Hid (HR B pb toks w tv st3 (w7.setCell ⟨w.heap.size, 4, none⟩ (.slice ko7 1 kc7)) tv6 [a] (.slice ko7 1 kc7) #[.int .i64 (kind : Int), .string text, .string ⟨#[]⟩, .int .i64 0, .slice ko7 1 kc7]) := hk7.set 4 (.slice ko7 1 kc7)
              have t4 := (HQ7.out.cell (j := 4) rfl).1
              clear hk7 hown7 hgrow7 hat7
              refine hK _ _ ?_
              clear hK K
              try simp only [Act.put, List.setIfInBounds_toArray, List.set_cons_zero, List.set_cons_succ]
              refine wpAny_ready (rs := [6]) (by kernel_rfl) (by simp) ?_
              refine AllReady.cons rfl (fun K hK => ?_) AllReady.nil
              go_simp
              refine hK _ _ ?_
              clear hK K
              try simp only [Act.put, List.setIfInBounds_toArray, List.set_cons_zero, List.set_cons_succ]
              refine wpAny_ready (rs := [7]) (by kernel_rfl) (by simp) ?_
              refine AllReady.cons rfl (fun K hK => ?_) AllReady.nil
              go_simp
              refine hK _ _ ?_
              clear hK K
              try simp only [Act.put, List.setIfInBounds_toArray, List.set_cons_zero, List.set_cons_succ]
              refine wpAny_done (by kernel_rfl) ?_ _
              go_wp2
              generalize (w7.setCell ⟨w.heap.size, 4, none⟩ (.slice ko7 1 kc7)) = W7 at *
              have HQ7d : Hid (HR B pb toks w tv st3 (W7.drewN 1) tv6 [a] (.slice ko7 1 kc7) #[.int .i64 (kind : Int), .string text, .string ⟨#[]⟩, .int .i64 0, .slice ko7 1 kc7]) := HQ7.out.step (HQ7.out.kr.sit.prs.mvb (below_drewN1 W7 1)) (HS3.out _ _ (HQ7.out.kr.sit.prs.drewN 1))
              have HS7 : Hid ((W7.drewN 1).cell? ⟨w.heap.size, 4, none⟩ = some (.slice ko7 1 kc7)) := t4
              refine wp_region_any (by kernel_rfl) ?_
              refine wpAny_headS (fun W => W.cell? ⟨w.heap.size, 4, none⟩ = some (.slice ko7 1 kc7)) 0 3 5 5 HS7.out (by kernel_rfl) (shutl_none _) (fun _ _ d _ _ h => by cases d <;> exact h) (by kernel_rfl) (by kernel_rfl) (by kernel_rfl) ?_
              simp only [List.take_succ_cons, List.take_zero, List.drop_zero]
              repeat (refine wpValS_step _ (by rfl) (by intro W hW; go_simp; try with_reducible rfl) ?_; try simp only [Act.put, List.setIfInBounds_toArray, List.set_cons_zero, List.set_cons_succ])
              refine wpValS_nil ?_
              refine T_one (i := 3) rfl (by kernel_rfl) (fun K hK => ?_)
              go_simp
              refine (HBL.out _ _ HQ7d.out.kr.sit.prs (by intro e; cases e)).mono ?_
              rintro e w8 ⟨rfl, tv8, m8⟩
              exact ⟨rfl, rfl, _, HQ7d.out.kr.mv.trans m8⟩
            | ok r2 st4 =>
              have hs4 := HS3.out
              obtain ⟨k1, k2, k3⟩ := run_inv toks _ _ _ _ _ hr2 j2
              simp only [cst] at k3
              rw [hr2] at HBL hna
              simp only at hna ⊢
              split at hna
              · rename_i a b
                have HS4 : Hid (∀ W tvx, Prs B pb toks st4 W tvx → Sit B pb toks st4 W tvx) := fun W tvx h => ⟨h, hn, k2, by omega⟩
                have HLA : Hid (∀ W tvx ko kl kc, Prs B pb toks st4 W tvx → W.ownsRow B 3 1 (.slice ko kl kc) 2 (kcells [a, b]) → Calls Tryz.prog 31 #[.pointer (some ⟨pb, 0, none⟩), Nd.val ⟨kind, text, ⟨#[]⟩, 0, [a, b]⟩ (.slice ko kl kc)] W fun e w' => e = .returned (.int .i64 st4.tree.length) ∧ ∃ tv', Prs B pb toks (st4.lay ⟨kind, text, ⟨#[]⟩, 0, [a, b]⟩) w' tv' ∧ MvX pb (Value.slice ko kl kc).ownBlock W tvx w' tv') := fun W tvx ko kl kc h hrow => own_lay B pb toks st4 W tvx ⟨kind, text, ⟨#[]⟩, 0, [a, b]⟩ ko kl kc h hrow (by omega)
                unfold Nd.val at HLA
                have hfin : st4.lay ⟨(kind : Int), text, ⟨#[]⟩, ((List.length ([] : List Nat) : Nat) : Int), [] ++ [a] ++ [b]⟩ = st4.lay ⟨kind, text, ⟨#[]⟩, 0, [a, b]⟩ := rfl
                show Calls _ _ _ _ (PO B pb toks w tv ret1 (.ok [st4.tree.length] (st4.lay ⟨kind, text, ⟨#[]⟩, 0, [a, b]⟩)))
                generalize st4.lay ⟨kind, text, ⟨#[]⟩, 0, [a, b]⟩ = st5 at *
                clear hna hr hr2 hfin hs4
                go_enter Tryz.func59, Tryz.ntmps59
                go_wp2_with fail
                refine (HM'.out _ HST.out.kr.sit.prs).mono ?_
                rintro e w1 ⟨rfl, tv1, q1, m1⟩
                have HQ1 : Hid (HR B pb toks w tv st1 w1 tv1 [] (.slice none 0 0) #[.int .i64 (kind : Int), .string text, .string ⟨#[]⟩, .int .i64 0, .slice none 0 0]) := HST.out.step m1 (HSN.out _ _ q1)
                clear q1 m1
                go_wp2_with fail
                refine (HLI.out _ _ _ HQ1.out.kr.sit).mono ?_
                rintro e w2 ⟨rfl, q2, m2⟩
                have HQ2 : Hid (HR B pb toks w tv st2 w2 tv1 [] (.slice none 0 0) #[.int .i64 (kind : Int), .string text, .string ⟨#[]⟩, .int .i64 0, .slice none 0 0]) := HQ1.out.step m2 (HS2.out _ _ q2)
                have HQ3 : Hid (HR B pb toks w tv st2 (w2.setCell ⟨w.heap.size, 4, none⟩ (.slice none 0 0)) tv1 [] (.slice none 0 0) #[.int .i64 (kind : Int), .string text, .string ⟨#[]⟩, .int .i64 0, .slice none 0 0]) := HQ2.out.set 4 (.slice none 0 0)
                have HQ5 : Hid (HR B pb toks w tv st2 ((w2.setCell ⟨w.heap.size, 4, none⟩ (.slice none 0 0)).setCell ⟨w.heap.size, 3, none⟩ (.int .i64 0)) tv1 [] (.slice none 0 0) #[.int .i64 (kind : Int), .string text, .string ⟨#[]⟩, .int .i64 0, .slice none 0 0]) := HQ3.out.set 3 (.int .i64 0)
                have y4 := HQ2.out.cell (j := 4) rfl
                have y3 := HQ3.out.cell (j := 3) rfl
                have y4b := HQ3.out.cell (j := 4) rfl
                have x3 := HQ5.out.cell (j := 3) rfl
                have x4 := HQ5.out.cell (j := 4) rfl
                have y4' := y4.1
                have y4f := y4.2
                have y3' := y3.1
                have y3f := y3.2
                have y4b' := y4b.1
                have x3' := x3.1
                have x4' := x4.1
                clear q2 m2 y4 y3 y4b x3 x4
                go_wp2
                generalize ((w2.setCell ⟨w.heap.size, 4, none⟩ (.slice none 0 0)).setCell ⟨w.heap.size, 3, none⟩ (.int .i64 0)) = W5 at *
                have HQ5d : Hid (HR B pb toks w tv st2 (W5.drewN 1) tv1 [] (.slice none 0 0) #[.int .i64 (kind : Int), .string text, .string ⟨#[]⟩, .int .i64 0, .slice none 0 0]) := HQ5.out.step (HQ5.out.kr.sit.prs.mvb (below_drewN1 W5 1)) (HS2.out _ _ (HQ5.out.kr.sit.prs.drewN 1))
                have HS0 : Hid ((W5.drewN 1).cell? ⟨w.heap.size, 4, none⟩ = some (.slice none 0 0)) := x4'
                refine wp_region_any (by kernel_rfl) ?_
                refine wpAny_headS (fun W => W.cell? ⟨w.heap.size, 4, none⟩ = some (.slice none 0 0)) 0 3 5 5 HS0.out (by kernel_rfl) (shutl_none _) (fun _ _ d _ _ h => by cases d <;> exact h) (by kernel_rfl) (by kernel_rfl) (by kernel_rfl) ?_
                simp only [List.take_succ_cons, List.take_zero, List.drop_zero]
                repeat (refine wpValS_step _ (by rfl) (by intro W hW; go_simp; try with_reducible rfl) ?_; try simp only [Act.put, List.setIfInBounds_toArray, List.set_cons_zero, List.set_cons_succ])
                refine wpValS_nil ?_
                refine T_one (i := 3) rfl (by kernel_rfl) (fun K hK => ?_)
                go_simp
                refine (HRE.out _ _ HQ5d.out.kr.sit.prs (by intro e; cases e)).mono ?_
                rintro e w6 ⟨rfl, tv6, q6, m6⟩
                have HQ6 : Hid (HR B pb toks w tv st3 w6 tv6 [] (.slice none 0 0) #[.int .i64 (kind : Int), .string text, .string ⟨#[]⟩, .int .i64 0, .slice none 0 0]) := HQ5d.out.step m6 (HS3.out _ _ q6)
                have hB6 : B ≤ w6.heap.size := Nat.le_trans q6.low (Nat.le_of_lt q6.lt)
                have HC6 : Hid (w6.cell? ⟨w.heap.size, 4, none⟩ = some (.slice none 0 0) ∧ (w6.alloc (.cells #[.int .i64 (a : Int)] 3)).cell? ⟨w.heap.size, 4, none⟩ = some (.slice none 0 0)) := by
                  have h1 := (HQ6.out.cell (j := 4) rfl).1
                  have hlt := World.block_lt_of_cell? _ _ h1
                  exact ⟨h1, by rw [((Below.refl w6.heap.size w6).alloc (Nat.le_refl _) _).cell (p := ⟨w.heap.size, 4, none⟩) hlt]; exact h1⟩
                clear q6 m6
                simp only [ret1]
                refine hK _ _ (fun _ => HC6.out.1) ?_
                clear hK K
                try simp only [Act.put, List.setIfInBounds_toArray, List.set_cons_zero, List.set_cons_succ]
                refine T_one (i := 4) rfl (by kernel_rfl) (fun K hK => ?_)
                go_simp
                refine hK _ _ (fun _ => HC6.out.2) ?_
                clear hK K
                refine tail_of (by kernel_rfl) ?_
                try simp only [Act.put, List.setIfInBounds_toArray, List.set_cons_zero, List.set_cons_succ]
                refine wpAny_ready (rs := [5]) (by kernel_rfl) (by simp) ?_
                refine AllReady.cons rfl (fun K hK => ?_) AllReady.nil
                rw [if_pos (by rfl)]
                refine at_append _ (.tmp 22) (.tmp 25) 33 rfl B 3 i0 (.int .i64 0) 1 8 Tryz.underlying33 hi hz0 hz1 hz2 rfl (by decide) _ _ _ rfl (World.ownsRow.alloc HQ6.out.kr.row _) ⟨w6.heap.size, 0, none⟩ 1 1 [.int .i64 (a : Int)] rfl rfl ?c1 ?c2 ?c3 ?c4 ?c5 ?_
                case c1 => exact cell_one_new _ _ _
                case c2 => intro y hy; simp at hy; subst hy; rfl
                case c3 => unfold maxLen; simp
                case c4 => simp
                case c5 => simp; omega
                intro v7 w7 hown7 hgrow7 hat7
                have hk7 := HQ6.out.put hgrow7 hown7 (hat7.imp id (fun e => by rw [e]; simp))
                obtain ⟨ko7, kc7, rfl⟩ : ∃ x c, v7 = .slice x 1 c := by
                  rcases hown7.2 with ⟨_, h0⟩ | ⟨g, cap, cur, hv, _⟩
                  · simp at h0
                  · exact ⟨some ⟨g, 0, none⟩, cap, by rw [hv]; simp⟩
                have u4 := (hk7.cell (j := 4) rfl).1
                have u4f := (hk7.cell (j := 4) rfl).2
                have HQ7 : Hid (HR B pb toks w tv st3 (w7.setCell ⟨w.heap.size, 4, none⟩ (.slice ko7 1 kc7)) tv6 [a] (.slice ko7 1 kc7) #[.int .i64 (kind : Int), .string text, .string ⟨#[]⟩, .int .i64 0, .slice ko7 1 kc7]) := hk7.set 4 (.slice ko7 1 kc7)
                have t4 := (HQ7.out.cell (j := 4) rfl).1
                clear hk7 hown7 hgrow7 hat7
                refine hK _ _ ?_
                clear hK K
                try simp only [Act.put, List.setIfInBounds_toArray, List.set_cons_zero, List.set_cons_succ]
                refine wpAny_ready (rs := [6]) (by kernel_rfl) (by simp) ?_
                refine AllReady.cons rfl (fun K hK => ?_) AllReady.nil
                go_simp
                refine hK _ _ ?_
                clear hK K
                try simp only [Act.put, List.setIfInBounds_toArray, List.set_cons_zero, List.set_cons_succ]
                refine wpAny_ready (rs := [7]) (by kernel_rfl) (by simp) ?_
                refine AllReady.cons rfl (fun K hK => ?_) AllReady.nil
                go_simp
                refine hK _ _ ?_
                clear hK K
                try simp only [Act.put, List.setIfInBounds_toArray, List.set_cons_zero, List.set_cons_succ]
                refine wpAny_done (by kernel_rfl) ?_ _
                go_wp2
                generalize (w7.setCell ⟨w.heap.size, 4, none⟩ (.slice ko7 1 kc7)) = W7 at *
                have HQ7d : Hid (HR B pb toks w tv st3 (W7.drewN 1) tv6 [a] (.slice ko7 1 kc7) #[.int .i64 (kind : Int), .string text, .string ⟨#[]⟩, .int .i64 0, .slice ko7 1 kc7]) := HQ7.out.step (HQ7.out.kr.sit.prs.mvb (below_drewN1 W7 1)) (HS3.out _ _ (HQ7.out.kr.sit.prs.drewN 1))
                have HS7 : Hid ((W7.drewN 1).cell? ⟨w.heap.size, 4, none⟩ = some (.slice ko7 1 kc7)) := t4
                refine wp_region_any (by kernel_rfl) ?_
                refine wpAny_headS (fun W => W.cell? ⟨w.heap.size, 4, none⟩ = some (.slice ko7 1 kc7)) 0 3 5 5 HS7.out (by kernel_rfl) (shutl_none _) (fun _ _ d _ _ h => by cases d <;> exact h) (by kernel_rfl) (by kernel_rfl) (by kernel_rfl) ?_
                simp only [List.take_succ_cons, List.take_zero, List.drop_zero]
                repeat (refine wpValS_step _ (by rfl) (by intro W hW; go_simp; try with_reducible rfl) ?_; try simp only [Act.put, List.setIfInBounds_toArray, List.set_cons_zero, List.set_cons_succ])
                refine wpValS_nil ?_
                refine T_one (i := 3) rfl (by kernel_rfl) (fun K hK => ?_)
                go_simp
                refine (HBL.out _ _ HQ7d.out.kr.sit.prs (by intro e; cases e)).mono ?_
                rintro e w8 ⟨rfl, tv8, q8, m8⟩
                have HQ8 : Hid (HR B pb toks w tv st4 w8 tv8 [a] (.slice ko7 1 kc7) #[.int .i64 (kind : Int), .string text, .string ⟨#[]⟩, .int .i64 0, .slice ko7 1 kc7]) := HQ7d.out.step m8 (HS4.out _ _ q8)
                have hB8 : B ≤ w8.heap.size := Nat.le_trans q8.low (Nat.le_of_lt q8.lt)
                have HC8 : Hid (w8.cell? ⟨w.heap.size, 4, none⟩ = some (.slice ko7 1 kc7) ∧ (w8.alloc (.cells #[.int .i64 (b : Int)] 3)).cell? ⟨w.heap.size, 4, none⟩ = some (.slice ko7 1 kc7)) := by
                  have h1 := (HQ8.out.cell (j := 4) rfl).1
                  have hlt := World.block_lt_of_cell? _ _ h1
                  exact ⟨h1, by rw [((Below.refl w8.heap.size w8).alloc (Nat.le_refl _) _).cell (p := ⟨w.heap.size, 4, none⟩) hlt]; exact h1⟩
                clear q8 m8
                simp only [ret1]
                refine hK _ _ (fun _ => HC8.out.1) ?_
                clear hK K
                try simp only [Act.put, List.setIfInBounds_toArray, List.set_cons_zero, List.set_cons_succ]
                refine T_one (i := 4) rfl (by kernel_rfl) (fun K hK => ?_)
                go_simp
                refine hK _ _ (fun _ => HC8.out.2) ?_
                clear hK K
                refine tail_of (by kernel_rfl) ?_
                try simp only [Act.put, List.setIfInBounds_toArray, List.set_cons_zero, List.set_cons_succ]
                refine wpAny_ready (rs := [5]) (by kernel_rfl) (by simp) ?_
                refine AllReady.cons rfl (fun K hK => ?_) AllReady.nil
                rw [if_pos (by rfl)]
                refine at_append _ (.tmp 29) (.tmp 32) 33 rfl B 3 i0 (.int .i64 0) 1 8 Tryz.underlying33 hi hz0 hz1 hz2 rfl (by decide) _ _ _ rfl (World.ownsRow.alloc HQ8.out.kr.row _) ⟨w8.heap.size, 0, none⟩ 1 1 [.int .i64 (b : Int)] rfl rfl ?c1 ?c2 ?c3 ?c4 ?c5 ?_
                case c1 => exact cell_one_new _ _ _
                case c2 => intro y hy; simp at hy; subst hy; rfl
                case c3 => unfold maxLen; simp
                case c4 => simp
                case c5 => simp; omega
                intro v9 w9 hown9 hgrow9 hat9
                have hk9 := HQ8.out.put hgrow9 hown9 (hat9.imp id (fun e => by rw [e]; simp))
                obtain ⟨ko9, kc9, rfl⟩ : ∃ x c, v9 = .slice x 2 c := by
                  rcases hown9.2 with ⟨_, h0⟩ | ⟨g, cap, cur, hv, _⟩
                  · simp at h0
                  · exact ⟨some ⟨g, 0, none⟩, cap, by rw [hv]; simp⟩
                have v4 := (hk9.cell (j := 4) rfl).1
                have v4f := (hk9.cell (j := 4) rfl).2
                have HQ9 : Hid (HR B pb toks w tv st4 (w9.setCell ⟨w.heap.size, 4, none⟩ (.slice ko9 2 kc9)) tv8 [a, b] (.slice ko9 2 kc9) #[.int .i64 (kind : Int), .string text, .string ⟨#[]⟩, .int .i64 0, .slice ko9 2 kc9]) := hk9.set 4 (.slice ko9 2 kc9)
                have s0 := (HQ9.out.cell (j := 0) rfl).1
                have s1 := (HQ9.out.cell (j := 1) rfl).1
                have s2 := (HQ9.out.cell (j := 2) rfl).1
                have s3 := (HQ9.out.cell (j := 3) rfl).1
                have s4 := (HQ9.out.cell (j := 4) rfl).1
                clear hk9 hown9 hgrow9 hat9
                refine hK _ _ ?_
                clear hK K
                try simp only [Act.put, List.setIfInBounds_toArray, List.set_cons_zero, List.set_cons_succ]
                refine wpAny_ready (rs := [6]) (by kernel_rfl) (by simp) ?_
                refine AllReady.cons rfl (fun K hK => ?_) AllReady.nil
                go_simp
                refine hK _ _ ?_
                clear hK K
                try simp only [Act.put, List.setIfInBounds_toArray, List.set_cons_zero, List.set_cons_succ]
                refine wpAny_ready (rs := [7]) (by kernel_rfl) (by simp) ?_
                refine AllReady.cons rfl (fun K hK => ?_) AllReady.nil
                go_simp
                refine hK _ _ ?_
                clear hK K
                try simp only [Act.put, List.setIfInBounds_toArray, List.set_cons_zero, List.set_cons_succ]
                refine wpAny_done (by kernel_rfl) ?_ _
                generalize (w9.setCell ⟨w.heap.size, 4, none⟩ (.slice ko9 2 kc9)) = W9 at *
                go_wp2_with fail
                refine (HLA.out _ _ _ _ _ HQ9.out.kr.sit.prs HQ9.out.kr.row).mono ?_
                rintro e w10 ⟨rfl, tv10, q10, m10⟩
                have HQ10 : Hid (Prs B pb toks st5 w10 tv10 ∧ Mv pb w tv w10 tv10) := ⟨q10, HQ9.out.kr.mv.then m10 (fun q hq => (HQ9.out.kr.far q hq).1)⟩
                clear q10 m10
                go_wp2
                go_ret
                exact ⟨rfl, _, HQ10.out⟩
              · exact absurd rfl hna
        · have hlist : run toks (n + 1) (.list ⟨#[41]⟩) st.next = .na := by simp only [run]; rw [if_neg (by decide), if_neg h41]
          rw [hlist] at hna
          exact absurd rfl hna
end Go.Proofs.YtpdndpajobfhmabGreatDoor
