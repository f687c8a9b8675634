/- Events played whole. -/
import Derived.Test.YtcnpoldcebdhjaaPcut1
namespace Go.Proofs.Ytcnpoldcebdhjaa
open Go.ChangeShapes Go.WideShapes Go.ChangeAt Go.RowKit
set_option maxRecDepth 100000
set_option linter.unusedSimpArgs false
set_option linter.unusedVariables false
set_option maxHeartbeats 8000000 in
theorem own_play (v : Value) (evs : List Eo) (w : World) (h : w.ownsRow 0 34 6 v evs.length (rc Eo.cells evs)) (hn : evs.length ≤ 400) (hnorm : ∀ e ∈ evs, Norm e.x) :
    Calls Try.prog 18 #[v] w fun x w' => ∃ F P T es, x = .returned (.tuple #[(runE bSt [] (evs.map (·.x))).1.val F P, T, .int .i64 0]) ∧ Stepped w.heap.size w' F P T es (runE bSt [] (evs.map (·.x))).1 (runE bSt [] (evs.map (·.x))).2 ∧ Below w.heap.size w w' := by
  obtain ⟨vo, vc, hv⟩ := row_slice h
  have HEV := Hid.mk' h
  obtain ⟨n, hn1⟩ : ∃ n, n = evs.length := ⟨_, rfl⟩
  have HEN : Hid (n = evs.length) := hn1
  have hn4 : n ≤ 400 := by omega
  rw [← hn1] at hv
  subst hv
  have HNORM : Hid (∀ e ∈ evs, Norm e.x) := hnorm
  obtain ⟨rb, hrb⟩ : ∃ b, b = w.heap.size := ⟨_, rfl⟩
  have HRB : Hid (w.heap.size = rb) := hrb.symm
  clear h hn hn1 hnorm
  go_enter Try.func18, Try.ntmps18
  go_wp2_with fail
  refine (own_beginP _).mono ?_
  rintro x w1 ⟨F0, es0, rfl, hfr0, hb0⟩
  have hsz : (w.alloc (.cells #[.slice none 0 0, .slice none 0 0, .int .i64 0, .int .i64 0, .int .i64 0, .int .i64 0] 26)).heap.size = rb + 1 := by rw [hrb]; simp
  have HR1 : Hid (w1.heap[rb]? = some (.cells #[.slice none 0 0, .slice none 0 0, .int .i64 0, .int .i64 0, .int .i64 0, .int .i64 0] 26 (0, 0))) := by rw [hrb]; exact box_stays hb0
  have HB1 : Hid (Below rb w w1) := by have h := below_up hb0; rw [← hrb] at h; exact h
  have hlo1 : rb + 1 ≤ w1.heap.size := by have := hb0.size; rw [hsz] at this; exact this
  have HLO1 : Hid (rb + 1 ≤ w1.heap.size) := hlo1
  rw [hsz] at hfr0
  have HWK0 : Hid (WkI (rb + 1) w1.heap.size (w1.alloc (.cells #[F0, .slice none 0 0, .int .i64 1, .int .i64 0, .int .i64 0, .int .i64 0, .slice none 0 0] 62)) bSt []) := by
    have hal : Below w1.heap.size w1 (w1.alloc (.cells #[F0, .slice none 0 0, .int .i64 1, .int .i64 0, .int .i64 0, .int .i64 0, .slice none 0 0] 62)) := (Below.refl _ _).alloc (Nat.le_refl _) _
    exact ⟨F0, .slice none 0 0, .slice none 0 0, es0, box_stays (Below.refl _ _), hlo1, hfr0.below hal, World.ownsRow_nil _ _ _ _, World.ownsRow_nil _ _ _ _⟩
  have HR2 : Hid ((w1.alloc (.cells #[F0, .slice none 0 0, .int .i64 1, .int .i64 0, .int .i64 0, .int .i64 0, .slice none 0 0] 62)).heap[rb]? = some (.cells #[.slice none 0 0, .slice none 0 0, .int .i64 0, .int .i64 0, .int .i64 0, .int .i64 0] 26 (0, 0))) := by
    show _ = _
    rw [((Below.refl w1.heap.size w1).alloc (Nat.le_refl _) _).block _ (by omega)]; exact HR1.out
  have HB2 : Hid (Below rb w (w1.alloc (.cells #[F0, .slice none 0 0, .int .i64 1, .int .i64 0, .int .i64 0, .int .i64 0, .slice none 0 0] 62))) := HB1.out.alloc (by omega) _
  obtain ⟨fo0, fc0, hF0⟩ := row_slice hfr0.row
  subst hF0
  generalize es0.length = n0 at *
  clear hfr0 hb0 hsz hlo1
  obtain ⟨p, hp⟩ : ∃ x, x = w1.heap.size := ⟨_, rfl⟩
  unfold St.val bSt
  go_wp2_with fail
  rw [← hrb, ← hp]
  rw [← hp] at HWK0
  clear hrb hp
  generalize w1.alloc (.cells #[.slice fo0 n0 fc0, .slice none 0 0, .int .i64 1, .int .i64 0, .int .i64 0, .int .i64 0, .slice none 0 0] 62) = W1 at *
  have HBS : Hid (Below (rb + 1) W1 W1 ∧ rb + 1 ≤ W1.heap.size) := by
    obtain ⟨F, P, T, fes, hk⟩ := HWK0.out
    exact ⟨Below.refl _ _, by have := hk.lt; have := hk.low; omega⟩
  go_loopw [17] (fun s17 wr => ∃ (k : Nat) (st : St) (td : List Tl), k ≤ n ∧ s17 = .int .i64 k ∧ Hid (WkI (rb + 1) p wr st td) ∧ Hid (runE bSt [] (evs.map (·.x)) = runE st td ((evs.map (·.x)).drop k)) ∧ Hid (Fit k st ∧ td.length + 2 * st.fr.length ≤ 2 + 3 * k) ∧ Hid (Below (rb + 1) W1 wr)) (fun i _ => n - (intOf i).toNat)
  case atStart => exact ⟨0, bSt, [], Nat.zero_le _, rfl, HWK0.out, rfl, ⟨⟨Ok.start, fun f r hf hm => by simp only [bSt, List.cons.injEq] at hf; rw [← hf.1] at hm; cases hm⟩, by simp [bSt]⟩, HBS.out.1⟩
  case round =>
    obtain ⟨k, st, td, hk, rfl, HK, HRE0, HFT, HB⟩ := hrel
    obtain ⟨wq, hwq⟩ : ∃ x, x = wr := ⟨_, rfl⟩
    subst hwq
    have HRQ : Hid (wq.heap[rb]? = some (.cells #[.slice none 0 0, .slice none 0 0, .int .i64 0, .int .i64 0, .int .i64 0, .int .i64 0] 26 (0, 0))) := by show _ = _; rw [HB.out.block rb (by omega)]; exact HR2.out
    have HBQ : Hid (Below rb w wq) := HB2.out.trans (HB.out.mono (by omega))
    have HLQ : Hid (rb + 1 ≤ wq.heap.size) := Nat.le_trans HBS.out.2 HB.out.size
    by_cases hlt : k < n
    · have hlti : (k : Int) < (n : Int) := by omega
      obtain ⟨eo, he⟩ : ∃ e, evs[k]? = some e := ⟨evs[k]'(by rw [← HEN.out]; exact hlt), List.getElem?_eq_getElem _⟩
      obtain ⟨ge, cap, hve, -, -, hce, -, -⟩ := own_at Eo.len (row_below HEV.out (by rw [HRB.out]; exact HBQ.out)) he
      simp only [Value.slice.injEq] at hve
      obtain ⟨hvo, -, -⟩ := hve
      subst hvo
      have e0 := hce 0 _ rfl
      rw [Nat.add_zero] at e0
      have e1 := hce 1 _ rfl
      have e2 := hce 2 _ rfl
      have e3 := hce 3 _ rfl
      have e4 := hce 4 _ rfl
      have e5 := hce 5 _ rfl
      have HNE : Hid (Norm eo.x) := HNORM.out eo (List.mem_of_getElem? he)
      have HGE : Hid ((evs.map (·.x))[k]? = some eo.x) := by show _ = _; simp [he]
      clear hce he
      obtain ⟨x, lo, ln, lc⟩ := eo
      simp only at e0 e1 e2 e3 e4 e5 HNE HGE
      have HKA : Hid (WkI (rb + 1) p (wq.alloc (.cells #[.int .i64 x.k, .int .i64 x.n, .int .i64 x.vk, .int .i64 x.vn, .string x.vs, .slice lo ln lc] 34)) st td) := HK.out.below ((Below.refl _ _).alloc (Nat.le_refl _) _)
      have hfe : (wq.alloc (.cells #[.int .i64 x.k, .int .i64 x.n, .int .i64 x.vk, .int .i64 x.vn, .string x.vs, .slice lo ln lc] 34)).cell? ⟨p, 4, none⟩ = some (.int .i64 st.fin) := by
        obtain ⟨F, P, T, fes, hk⟩ := HKA.out
        exact (box7 hk.box).1.2.2.2.2.1
      have hbe := box_stays (w := wq) (o := .cells #[.int .i64 x.k, .int .i64 x.n, .int .i64 x.vk, .int .i64 x.vn, .string x.vs, .slice lo ln lc] 34) (Below.refl _ _)
      obtain ⟨⟨g0, g1, g2, g3, g4, g5⟩, -⟩ := box6 hbe
      clear hbe
      have HBA : Hid (Below (rb + 1) W1 (wq.alloc (.cells #[.int .i64 x.k, .int .i64 x.n, .int .i64 x.vk, .int .i64 x.vn, .string x.vs, .slice lo ln lc] 34))) := HB.out.alloc HLQ.out _
      by_cases hf : st.fin = 0
      · rw [hf] at hfe
        have HTK : Hid (TakeOk st td) := by
          have ht := HFT.out.1.take (by omega)
          exact ⟨ht.fr, ht.df, ht.ps, by have := HFT.out.2; omega, ht.n0, ht.n1, ht.s0, ht.s1, ht.rm⟩
        have HCD : Hid (st.code x = 0) := code_norm hf (HFT.out.1.ok.u.ne hf) HNE.out
        have HNX : Hid (runE bSt [] (evs.map (·.x)) = runE (st.step td x).1 (st.step td x).2 ((evs.map (·.x)).drop (k + 1))) := by show _ = _; rw [HRE0.out, runE_step hf HGE.out]
        have HFN : Hid (Fit (k + 1) (st.step td x).1 ∧ (st.step td x).2.length + 2 * (st.step td x).1.fr.length ≤ 2 + 3 * (k + 1)) := by
          refine ⟨?_, by have := step_phi st td x; have := HFT.out.2; omega⟩
          rw [step_td]
          exact ⟨HFT.out.1.ok.step hf HNE.out, HFT.out.1.ok.rm hf HNE.out⟩
        clear hf
        go_wp2_with fail
        refine (own_takeEv (rb + 1) p st td x lo ln lc _ HKA.out (by have := HLQ.out; simp; omega) HTK.out).mono ?_
        rintro y w3 ⟨rfl, hw3, hb3⟩
        have HK3 : Hid (WkI (rb + 1) p w3 (st.step td x).1 (st.step td x).2) := hw3 HCD.out
        have HB3 : Hid (Below (rb + 1) W1 w3) := HBA.out.trans hb3
        rw [HCD.out]
        clear hw3 hb3
        go_wp2_with fail
        go_roundw
        case rel => exact ⟨k + 1, _, _, by omega, by go_num, HK3.out, HNX.out, HFN.out, HB3.out⟩
        case measure => simp [intOf]; omega
      · have hfb : (st.fin != 0) = true := by simpa using hf
        have HRE : Hid (runE bSt [] (evs.map (·.x)) = (st, td)) := by show _ = _; rw [HRE0.out]; exact runE_end hf
        have HRUA : Hid ((wq.alloc (.cells #[.int .i64 x.k, .int .i64 x.n, .int .i64 x.vk, .int .i64 x.vn, .string x.vs, .slice lo ln lc] 34)).heap[rb]? = some (.cells #[.slice none 0 0, .slice none 0 0, .int .i64 0, .int .i64 0, .int .i64 0, .int .i64 0] 26 (0, 0))) := by show _ = _; rw [((Below.refl wq.heap.size wq).alloc (Nat.le_refl _) _).block rb (by have := HLQ.out; omega)]; exact HRQ.out
        have HBUA : Hid (Below rb w (wq.alloc (.cells #[.int .i64 x.k, .int .i64 x.n, .int .i64 x.vk, .int .i64 x.vn, .string x.vs, .slice lo ln lc] 34))) := HBQ.out.alloc (by have := HLQ.out; omega) _
        clear hf g0 g1 g2 g3 g4 g5
        go_wp2_with fail
        obtain ⟨U, hU⟩ : ∃ uu, uu = wq.alloc (.cells #[.int .i64 x.k, .int .i64 x.n, .int .i64 x.vk, .int .i64 x.vn, .string x.vs, .slice lo ln lc] 34) := ⟨_, rfl⟩
        rw [← hU] at HKA HRUA HBUA ⊢
        have HKU := HKA
        have HRU := HRUA
        have HBU := HBUA
        clear hU HKA HRUA HBUA hfe HK HRQ HBQ e0 e1 e2 e3 e4 e5
        obtain ⟨F2, P2, T2, es2, hk⟩ := HKU.out
        obtain ⟨fo2, fc2, hF2⟩ := row_slice hk.fr.row
        obtain ⟨po2, pc2, hP2⟩ := row_slice hk.ps
        obtain ⟨to2, tc2, hT2⟩ := row_slice hk.td
        subst hF2; subst hP2; subst hT2
        obtain ⟨st2, hst2⟩ : ∃ x, x = st := ⟨_, rfl⟩
        obtain ⟨td2, htd2⟩ : ∃ x, x = td := ⟨_, rfl⟩
        have HST : Hid (st2 = (runE bSt [] (evs.map (·.x))).1 ∧ td2 = (runE bSt [] (evs.map (·.x))).2) := by rw [HRE.out]; exact ⟨hst2, htd2⟩
        rw [← hst2, ← htd2] at hk
        obtain ⟨tl, htl⟩ : ∃ x, x = td2.length := ⟨_, rfl⟩
        obtain ⟨fl, hfl⟩ : ∃ x, x = es2.length := ⟨_, rfl⟩
        obtain ⟨pl, hpl⟩ : ∃ x, x = st2.ps.reverse.length := ⟨_, rfl⟩
        rw [← htl, ← hfl, ← hpl] at hk
        have HK : Hid (Wk (rb + 1) p U (.slice fo2 fl fc2) (.slice po2 pl pc2) (.slice to2 tl tc2) es2 st2 td2) := hk
        have HLO : Hid (rb ≤ U.heap.size) := by have := HBU.out.size; show rb ≤ _; rw [HRB.out] at this; exact this
        clear hk hst2 htd2 htl hfl hpl
        have hl : AllStab [isV (.pointer (some ⟨p, 0, none⟩)), isV (.agg #[(.slice fo2 fl fc2), (.slice po2 pl pc2), .int .i64 st2.next, .int .i64 st2.ser, .int .i64 st2.fin, .int .i64 st2.stat]), isV (.pointer (some ⟨p, 6, none⟩)), isV (.slice to2 tl tc2), anyV, isV (.slice to2 tl tc2), isV (.int .i64 0)] := ⟨stab_is _, stab_is _, stab_is _, stab_is _, stab_any, stab_is _, stab_is _, trivial⟩
        refine wp_joint (JB [isV (.pointer (some ⟨p, 0, none⟩)), isV (.agg #[(.slice fo2 fl fc2), (.slice po2 pl pc2), .int .i64 st2.next, .int .i64 st2.ser, .int .i64 st2.fin, .int .i64 st2.stat]), isV (.pointer (some ⟨p, 6, none⟩)), isV (.slice to2 tl tc2), anyV, isV (.slice to2 tl tc2), isV (.int .i64 0)] ([99, 99, 99, 99, 99, 99, 99].getD · 99) (fun d f u => Wk (rb + 1) p u (.slice fo2 fl fc2) (.slice po2 pl pc2) (.slice to2 tl tc2) es2 st2 td2 ∧ (d 4 = false → u.heap[rb]? = some (.cells #[.slice none 0 0, .slice none 0 0, .int .i64 0, .int .i64 0, .int .i64 0, .int .i64 0] 26 (0, 0))) ∧ (d 4 = true → u.heap[rb]? = some (.cells #[(.slice fo2 fl fc2), (.slice po2 pl pc2), .int .i64 st2.next, .int .i64 st2.ser, .int .i64 st2.fin, .int .i64 st2.stat] 26 (0, 0)))) rb U) (by kernel_rfl) (by kernel_rfl) (by kernel_rfl) (fun f => ⟨(Below.refl _ _).drew, HLO.out, rfl, (fun i h _ => by cases h), ⟨HK.out.below (Below.refl _ _).drew, (fun _ => HRU.out), fun h => by cases h⟩⟩) ?_ ?_
        · refine stepsOK5_cons (fun f d u hJ hn hd hno K hK => ?_) (stepsOK5_cons (fun f d u hJ hn hd hno K hK => ?_) (stepsOK5_cons (fun f d u hJ hn hd hno K hK => ?_) (stepsOK5_cons (fun f d u hJ hn hd hno K hK => ?_) (stepsOK5_cons (fun f d u hJ hn hd hno K hK => ?_) (stepsOK5_cons (fun f d u hJ hn hd hno K hK => ?_) (stepsOK5_cons (fun f d u hJ hn hd hno K hK => ?_) stepsOK5_nil))))))
          · refine wanted_on rfl ?_
            simp only [putAll, Act.put, List.setIfInBounds_toArray, List.set_cons_zero, List.set_cons_succ] at hK ⊢
            go_simp
            exact hK _ _ _ rfl (hJ.grow hl (by decide) (Below.refl _ _) rfl hJ.more)
          · have e0 : f 0 = (.pointer (some ⟨p, 0, none⟩)) := hJ.at 0 (hd 0 (by kernel_rfl)) hJ.none
            obtain ⟨⟨x0, x1, x2, x3, x4, x5, -⟩, -⟩ := box7 hJ.more.1.box
            refine wanted_on rfl ?_
            simp only [putAll, Act.put, List.setIfInBounds_toArray, List.set_cons_zero, List.set_cons_succ, e0] at hK ⊢
            go_simp
            exact hK _ _ _ rfl (hJ.grow hl (by decide) (Below.refl _ _) rfl hJ.more)
          · refine wanted_on rfl ?_
            simp only [putAll, Act.put, List.setIfInBounds_toArray, List.set_cons_zero, List.set_cons_succ] at hK ⊢
            go_simp
            exact hK _ _ _ rfl (hJ.grow hl (by decide) (Below.refl _ _) rfl hJ.more)
          · have e2 : f 2 = (.pointer (some ⟨p, 6, none⟩)) := hJ.at 2 (hd 2 (by kernel_rfl)) hJ.none
            obtain ⟨⟨-, -, -, -, -, -, x6⟩, -⟩ := box7 hJ.more.1.box
            refine wanted_on rfl ?_
            simp only [putAll, Act.put, List.setIfInBounds_toArray, List.set_cons_zero, List.set_cons_succ, e2] at hK ⊢
            go_simp
            exact hK _ _ _ rfl (hJ.grow hl (by decide) (Below.refl _ _) rfl hJ.more)
          · have e1 : f 1 = (.agg #[(.slice fo2 fl fc2), (.slice po2 pl pc2), .int .i64 st2.next, .int .i64 st2.ser, .int .i64 st2.fin, .int .i64 st2.stat]) := hJ.at 1 (hd 1 (by kernel_rfl)) hJ.none
            obtain ⟨⟨d0, d1, d2, d3, d4, d5⟩, ⟨f0, f1, f2, f3, f4, f5⟩⟩ := box6 (hJ.more.2.1 hn)
            refine wanted_on rfl ?_
            simp only [putAll, Act.put, List.setIfInBounds_toArray, List.set_cons_zero, List.set_cons_succ, e1] at hK ⊢
            go_simp
            obtain ⟨q1, q2, q3⟩ := six_set (hJ.more.2.1 hn) (.slice fo2 fl fc2) (.slice po2 pl pc2) (.int .i64 st2.next) (.int .i64 st2.ser) (.int .i64 st2.fin) (.int .i64 st2.stat)
            have hk := hJ.more.1
            have hbx := hJ.more.2.1 hn
            have hk2 : Wk (rb + 1) p ((((((u.setCell ⟨rb, 0, none⟩ (.slice fo2 fl fc2)).setCell ⟨rb, 1, none⟩ (.slice po2 pl pc2)).setCell ⟨rb, 2, none⟩ (.int .i64 st2.next)).setCell ⟨rb, 3, none⟩ (.int .i64 st2.ser)).setCell ⟨rb, 4, none⟩ (.int .i64 st2.fin)).setCell ⟨rb, 5, none⟩ (.int .i64 st2.stat)) (.slice fo2 fl fc2) (.slice po2 pl pc2) (.slice to2 tl tc2) es2 st2 td2 := ⟨by rw [q2 p (by have := hk.low; omega)]; exact hk.box, hk.low, ⟨row_far hk.fr.row hbx (by decide) (fun b hb _ => q2 b hb), fun e he => row_far (hk.fr.own e he) hbx (by decide) (fun b hb _ => q2 b hb), hk.fr.apart, hk.fr.xs⟩, row_far hk.ps hbx (by decide) (fun b hb _ => q2 b hb), row_far hk.td hbx (by decide) (fun b hb _ => q2 b hb)⟩
            refine hK _ (f 4) _ rfl (hJ.step (by decide) (q3 _ _ (Below.refl _ _) (Nat.le_refl _)) (fun j h2 h3 h4 h5 h6 => ?_) trivial ⟨hk2, (fun h => by cases h), fun _ => q1⟩)
            match j, h6 with
            | 0, h6 => have h7 : f 0 = .pointer (some ⟨p, 0, none⟩) := h6; exact h7
            | 1, h6 => have h7 : f 1 = .agg #[(.slice fo2 fl fc2), (.slice po2 pl pc2), .int .i64 st2.next, .int .i64 st2.ser, .int .i64 st2.fin, .int .i64 st2.stat] := h6; exact h7
            | 2, h6 => have h7 : f 2 = .pointer (some ⟨p, 6, none⟩) := h6; exact h7
            | 3, h6 => have h7 : f 3 = (.slice to2 tl tc2) := h6; exact h7
            | 4, _ => exact trivial
            | 5, h6 => have h7 : f 5 = (.slice to2 tl tc2) := h6; exact h7
            | 6, h6 => have h7 : f 6 = .int .i64 0 := h6; exact h7
            | j + 7, _ => exact trivial
          · have e3 : f 3 = (.slice to2 tl tc2) := hJ.at 3 (hd 3 (by kernel_rfl)) hJ.none
            refine wanted_on rfl ?_
            simp only [putAll, Act.put, List.setIfInBounds_toArray, List.set_cons_zero, List.set_cons_succ, e3] at hK ⊢
            go_simp
            exact hK _ _ _ rfl (hJ.grow hl (by decide) (Below.refl _ _) rfl hJ.more)
          · refine wanted_on rfl ?_
            simp only [putAll, Act.put, List.setIfInBounds_toArray, List.set_cons_zero, List.set_cons_succ] at hK ⊢
            go_simp
            exact hK _ _ _ rfl (hJ.grow hl (by decide) (Below.refl _ _) rfl hJ.more)
        · intro f d u hJ hall
          obtain ⟨hk, -, hbx⟩ := hJ.more
          have hbx2 := hbx (hall 4 (by decide))
          have e5 : f 5 = (.slice to2 tl tc2) := hJ.at 5 (hall 5 (by decide)) hJ.none
          have e6 : f 6 = (.int .i64 0) := hJ.at 6 (hall 6 (by decide)) hJ.none
          simp only [putAll, Act.put, List.setIfInBounds_toArray, List.set_cons_zero, List.set_cons_succ, e5, e6]
          have HK2 : Hid (Wk (rb + 1) p u (.slice fo2 fl fc2) (.slice po2 pl pc2) (.slice to2 tl tc2) es2 st2 td2) := hk
          have HBF : Hid (Below rb w u) := HBU.out.trans hJ.up
          obtain ⟨⟨k0, k1, k2, k3, k4, k5⟩, -⟩ := box6 hbx2
          clear hk hbx hbx2 hJ hall hl e5 e6
          go_wp2_with fail
          refine bodyPost_ret (v := .tuple #[.agg #[(.slice fo2 fl fc2), (.slice po2 pl pc2), .int .i64 st2.next, .int .i64 st2.ser, .int .i64 st2.fin, .int .i64 st2.stat], (.slice to2 tl tc2), .int .i64 0]) (by simp [results, Try.results18, go_sem, k0, k1, k2, k3, k4, k5]) rfl ?_
          have h1 := HST.out.1
          have h2 := HST.out.2
          have hk3 := HK2.out
          refine ⟨(.slice fo2 fl fc2), (.slice po2 pl pc2), (.slice to2 tl tc2), ?_, ⟨es2, ?_⟩, by rw [HRB.out]; exact HBF.out⟩
          · rw [← h1]; rfl
          · rw [← h1, ← h2, HRB.out]
            exact ⟨⟨row_up hk3.fr.row (by omega), fun e he => row_up (hk3.fr.own e he) (by omega), hk3.fr.apart, hk3.fr.xs⟩, row_up hk3.ps (by omega), row_up hk3.td (by omega)⟩
    · have hke : k = n := by omega
      have HRE : Hid (runE bSt [] (evs.map (·.x)) = (st, td)) := by
        show _ = _
        rw [HRE0.out, List.drop_of_length_le (by rw [List.length_map, ← HEN.out]; omega)]
        rfl
      subst hke
      obtain ⟨U, hU⟩ : ∃ x, x = wq := ⟨_, rfl⟩
      subst hU
      have HKU := HK
      have HRU := HRQ
      have HBU := HBQ
      clear HK HRQ HBQ
      go_wp2_with fail
      obtain ⟨F2, P2, T2, es2, hk⟩ := HKU.out
      obtain ⟨fo2, fc2, hF2⟩ := row_slice hk.fr.row
      obtain ⟨po2, pc2, hP2⟩ := row_slice hk.ps
      obtain ⟨to2, tc2, hT2⟩ := row_slice hk.td
      subst hF2; subst hP2; subst hT2
      obtain ⟨st2, hst2⟩ : ∃ x, x = st := ⟨_, rfl⟩
      obtain ⟨td2, htd2⟩ : ∃ x, x = td := ⟨_, rfl⟩
      have HST : Hid (st2 = (runE bSt [] (evs.map (·.x))).1 ∧ td2 = (runE bSt [] (evs.map (·.x))).2) := by rw [HRE.out]; exact ⟨hst2, htd2⟩
      rw [← hst2, ← htd2] at hk
      obtain ⟨tl, htl⟩ : ∃ x, x = td2.length := ⟨_, rfl⟩
      obtain ⟨fl, hfl⟩ : ∃ x, x = es2.length := ⟨_, rfl⟩
      obtain ⟨pl, hpl⟩ : ∃ x, x = st2.ps.reverse.length := ⟨_, rfl⟩
      rw [← htl, ← hfl, ← hpl] at hk
      have HK : Hid (Wk (rb + 1) p U (.slice fo2 fl fc2) (.slice po2 pl pc2) (.slice to2 tl tc2) es2 st2 td2) := hk
      have HLO : Hid (rb ≤ U.heap.size) := by have := HBU.out.size; show rb ≤ _; rw [HRB.out] at this; exact this
      clear hk hst2 htd2 htl hfl hpl
      have hl : AllStab [isV (.pointer (some ⟨p, 0, none⟩)), isV (.agg #[(.slice fo2 fl fc2), (.slice po2 pl pc2), .int .i64 st2.next, .int .i64 st2.ser, .int .i64 st2.fin, .int .i64 st2.stat]), isV (.pointer (some ⟨p, 6, none⟩)), isV (.slice to2 tl tc2), anyV, isV (.slice to2 tl tc2), isV (.int .i64 0)] := ⟨stab_is _, stab_is _, stab_is _, stab_is _, stab_any, stab_is _, stab_is _, trivial⟩
      refine wp_joint (JB [isV (.pointer (some ⟨p, 0, none⟩)), isV (.agg #[(.slice fo2 fl fc2), (.slice po2 pl pc2), .int .i64 st2.next, .int .i64 st2.ser, .int .i64 st2.fin, .int .i64 st2.stat]), isV (.pointer (some ⟨p, 6, none⟩)), isV (.slice to2 tl tc2), anyV, isV (.slice to2 tl tc2), isV (.int .i64 0)] ([99, 99, 99, 99, 99, 99, 99].getD · 99) (fun d f u => Wk (rb + 1) p u (.slice fo2 fl fc2) (.slice po2 pl pc2) (.slice to2 tl tc2) es2 st2 td2 ∧ (d 4 = false → u.heap[rb]? = some (.cells #[.slice none 0 0, .slice none 0 0, .int .i64 0, .int .i64 0, .int .i64 0, .int .i64 0] 26 (0, 0))) ∧ (d 4 = true → u.heap[rb]? = some (.cells #[(.slice fo2 fl fc2), (.slice po2 pl pc2), .int .i64 st2.next, .int .i64 st2.ser, .int .i64 st2.fin, .int .i64 st2.stat] 26 (0, 0)))) rb U) (by kernel_rfl) (by kernel_rfl) (by kernel_rfl) (fun f => ⟨(Below.refl _ _).drew, HLO.out, rfl, (fun i h _ => by cases h), ⟨HK.out.below (Below.refl _ _).drew, (fun _ => HRU.out), fun h => by cases h⟩⟩) ?_ ?_
      · refine stepsOK5_cons (fun f d u hJ hn hd hno K hK => ?_) (stepsOK5_cons (fun f d u hJ hn hd hno K hK => ?_) (stepsOK5_cons (fun f d u hJ hn hd hno K hK => ?_) (stepsOK5_cons (fun f d u hJ hn hd hno K hK => ?_) (stepsOK5_cons (fun f d u hJ hn hd hno K hK => ?_) (stepsOK5_cons (fun f d u hJ hn hd hno K hK => ?_) (stepsOK5_cons (fun f d u hJ hn hd hno K hK => ?_) stepsOK5_nil))))))
        · refine wanted_on rfl ?_
          simp only [putAll, Act.put, List.setIfInBounds_toArray, List.set_cons_zero, List.set_cons_succ] at hK ⊢
          go_simp
          exact hK _ _ _ rfl (hJ.grow hl (by decide) (Below.refl _ _) rfl hJ.more)
        · have e0 : f 0 = (.pointer (some ⟨p, 0, none⟩)) := hJ.at 0 (hd 0 (by kernel_rfl)) hJ.none
          obtain ⟨⟨x0, x1, x2, x3, x4, x5, -⟩, -⟩ := box7 hJ.more.1.box
          refine wanted_on rfl ?_
          simp only [putAll, Act.put, List.setIfInBounds_toArray, List.set_cons_zero, List.set_cons_succ, e0] at hK ⊢
          go_simp
          exact hK _ _ _ rfl (hJ.grow hl (by decide) (Below.refl _ _) rfl hJ.more)
        · refine wanted_on rfl ?_
          simp only [putAll, Act.put, List.setIfInBounds_toArray, List.set_cons_zero, List.set_cons_succ] at hK ⊢
          go_simp
          exact hK _ _ _ rfl (hJ.grow hl (by decide) (Below.refl _ _) rfl hJ.more)
        · have e2 : f 2 = (.pointer (some ⟨p, 6, none⟩)) := hJ.at 2 (hd 2 (by kernel_rfl)) hJ.none
          obtain ⟨⟨-, -, -, -, -, -, x6⟩, -⟩ := box7 hJ.more.1.box
          refine wanted_on rfl ?_
          simp only [putAll, Act.put, List.setIfInBounds_toArray, List.set_cons_zero, List.set_cons_succ, e2] at hK ⊢
          go_simp
          exact hK _ _ _ rfl (hJ.grow hl (by decide) (Below.refl _ _) rfl hJ.more)
        · have e1 : f 1 = (.agg #[(.slice fo2 fl fc2), (.slice po2 pl pc2), .int .i64 st2.next, .int .i64 st2.ser, .int .i64 st2.fin, .int .i64 st2.stat]) := hJ.at 1 (hd 1 (by kernel_rfl)) hJ.none
          obtain ⟨⟨d0, d1, d2, d3, d4, d5⟩, ⟨f0, f1, f2, f3, f4, f5⟩⟩ := box6 (hJ.more.2.1 hn)
          refine wanted_on rfl ?_
          simp only [putAll, Act.put, List.setIfInBounds_toArray, List.set_cons_zero, List.set_cons_succ, e1] at hK ⊢
          go_simp
          obtain ⟨q1, q2, q3⟩ := six_set (hJ.more.2.1 hn) (.slice fo2 fl fc2) (.slice po2 pl pc2) (.int .i64 st2.next) (.int .i64 st2.ser) (.int .i64 st2.fin) (.int .i64 st2.stat)
          have hk := hJ.more.1
          have hbx := hJ.more.2.1 hn
          have hk2 : Wk (rb + 1) p ((((((u.setCell ⟨rb, 0, none⟩ (.slice fo2 fl fc2)).setCell ⟨rb, 1, none⟩ (.slice po2 pl pc2)).setCell ⟨rb, 2, none⟩ (.int .i64 st2.next)).setCell ⟨rb, 3, none⟩ (.int .i64 st2.ser)).setCell ⟨rb, 4, none⟩ (.int .i64 st2.fin)).setCell ⟨rb, 5, none⟩ (.int .i64 st2.stat)) (.slice fo2 fl fc2) (.slice po2 pl pc2) (.slice to2 tl tc2) es2 st2 td2 := ⟨by rw [q2 p (by have := hk.low; omega)]; exact hk.box, hk.low, ⟨row_far hk.fr.row hbx (by decide) (fun b hb _ => q2 b hb), fun e he => row_far (hk.fr.own e he) hbx (by decide) (fun b hb _ => q2 b hb), hk.fr.apart, hk.fr.xs⟩, row_far hk.ps hbx (by decide) (fun b hb _ => q2 b hb), row_far hk.td hbx (by decide) (fun b hb _ => q2 b hb)⟩
          refine hK _ (f 4) _ rfl (hJ.step (by decide) (q3 _ _ (Below.refl _ _) (Nat.le_refl _)) (fun j h2 h3 h4 h5 h6 => ?_) trivial ⟨hk2, (fun h => by cases h), fun _ => q1⟩)
          match j, h6 with
          | 0, h6 => have h7 : f 0 = .pointer (some ⟨p, 0, none⟩) := h6; exact h7
          | 1, h6 => have h7 : f 1 = .agg #[(.slice fo2 fl fc2), (.slice po2 pl pc2), .int .i64 st2.next, .int .i64 st2.ser, .int .i64 st2.fin, .int .i64 st2.stat] := h6; exact h7
          | 2, h6 => have h7 : f 2 = .pointer (some ⟨p, 6, none⟩) := h6; exact h7
          | 3, h6 => have h7 : f 3 = (.slice to2 tl tc2) := h6; exact h7
          | 4, _ => exact trivial
          | 5, h6 => have h7 : f 5 = (.slice to2 tl tc2) := h6; exact h7
          | 6, h6 => have h7 : f 6 = .int .i64 0 := h6; exact h7
          | j + 7, _ => exact trivial
        · have e3 : f 3 = (.slice to2 tl tc2) := hJ.at 3 (hd 3 (by kernel_rfl)) hJ.none
          refine wanted_on rfl ?_
          simp only [putAll, Act.put, List.setIfInBounds_toArray, List.set_cons_zero, List.set_cons_succ, e3] at hK ⊢
          go_simp
          exact hK _ _ _ rfl (hJ.grow hl (by decide) (Below.refl _ _) rfl hJ.more)
        · refine wanted_on rfl ?_
          simp only [putAll, Act.put, List.setIfInBounds_toArray, List.set_cons_zero, List.set_cons_succ] at hK ⊢
          go_simp
          exact hK _ _ _ rfl (hJ.grow hl (by decide) (Below.refl _ _) rfl hJ.more)
      · intro f d u hJ hall
        obtain ⟨hk, -, hbx⟩ := hJ.more
        have hbx2 := hbx (hall 4 (by decide))
        have e5 : f 5 = (.slice to2 tl tc2) := hJ.at 5 (hall 5 (by decide)) hJ.none
        have e6 : f 6 = (.int .i64 0) := hJ.at 6 (hall 6 (by decide)) hJ.none
        simp only [putAll, Act.put, List.setIfInBounds_toArray, List.set_cons_zero, List.set_cons_succ, e5, e6]
        have HK2 : Hid (Wk (rb + 1) p u (.slice fo2 fl fc2) (.slice po2 pl pc2) (.slice to2 tl tc2) es2 st2 td2) := hk
        have HBF : Hid (Below rb w u) := HBU.out.trans hJ.up
        obtain ⟨⟨k0, k1, k2, k3, k4, k5⟩, -⟩ := box6 hbx2
        clear hk hbx hbx2 hJ hall hl e5 e6
        go_wp2_with fail
        refine bodyPost_ret (v := .tuple #[.agg #[(.slice fo2 fl fc2), (.slice po2 pl pc2), .int .i64 st2.next, .int .i64 st2.ser, .int .i64 st2.fin, .int .i64 st2.stat], (.slice to2 tl tc2), .int .i64 0]) (by simp [results, Try.results18, go_sem, k0, k1, k2, k3, k4, k5]) rfl ?_
        have h1 := HST.out.1
        have h2 := HST.out.2
        have hk3 := HK2.out
        refine ⟨(.slice fo2 fl fc2), (.slice po2 pl pc2), (.slice to2 tl tc2), ?_, ⟨es2, ?_⟩, by rw [HRB.out]; exact HBF.out⟩
        · rw [← h1]; rfl
        · rw [← h1, ← h2, HRB.out]
          exact ⟨⟨row_up hk3.fr.row (by omega), fun e he => row_up (hk3.fr.own e he) (by omega), hk3.fr.apart, hk3.fr.xs⟩, row_up hk3.ps (by omega), row_up hk3.td (by omega)⟩
end Go.Proofs.Ytcnpoldcebdhjaa
