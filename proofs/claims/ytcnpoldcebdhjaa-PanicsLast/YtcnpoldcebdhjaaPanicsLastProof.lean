/-
  For every list of events (made such as may happen): each deferred call that starts is the one that its activation kept last of those not started, each starts at most once, and an activation ends only when all that it kept were started.
-/
import Derived.Test.YtcnpoldcebdhjaaPlast2
import Derived.Test.YtcnpoldcebdhjaaEcame
import Derived.BigQuiet
import Derived.SizedLaws
import Derived.JoinedCond
namespace Go.Proofs.Ytcnpoldcebdhjaa.panicsLast
open Go.ChangeShapes Go.WideShapes Go.ChangeAt Go.RowKit
open Go.WideMaps Go.WideElems
open Go.ChangeMaps (open_string shut_string)
set_option linter.unusedVariables false
set_option linter.unusedSimpArgs false
set_option maxRecDepth 100000

theorem own : ownKnob Try.prog.godebug = none := by kernel_rfl

set_option maxHeartbeats 2000000 in
theorem walk (v0 : Value) (es0 : List Eo) (w : World) (hv0 : EvSrc w v0 es0) (hz0 : es0.length ≤ 140737488351232) :
    Calls Try.prog 8 #[v0] w fun e w' => e = .returned (.bool true) ∧ Below w.heap.size w w' := by
  have HEV : Hid (EvSrc w v0 es0 ∧ es0.length ≤ 140737488351232) := ⟨hv0, hz0⟩
  obtain ⟨vo, vc, hsh⟩ := hv0.row.shape
  subst hsh
  clear hv0 hz0
  go_enter Try.func8, Try.ntmps8
  go_wp2_with fail
  refine (own_events _ es0 w HEV.out.1 HEV.out.2).mono ?_
  rintro e w1 ⟨v1, es1, rfl, hrow, hmap, hb1⟩
  have HROW := Hid.mk' hrow
  have HOK1 := Hid.mk' (evs_ok hmap)
  have HB1 := Hid.mk' hb1
  obtain ⟨vo1, vc1, hsh1⟩ := row_slice hrow
  subst hsh1
  clear hrow hmap hb1
  go_wp2_with fail
  refine (own_playedE _ es1 w1 w.heap.size HROW.out HOK1.out.1 HOK1.out.2).mono ?_
  rintro e w2 ⟨so, sc, ao, ac, ss, ts, rfl, hp, hb2⟩
  have HP := Hid.mk' hp
  have HROW2 := Hid.mk' (row_below HROW.out hb2)
  have HB2 : Hid (Below w.heap.size w w2) := HB1.out.trans (hb2.mono HB1.out.size)
  have HLEN : Hid (ss.length = ts.length + 1) := hp.len
  have htl := hp.short
  have hn4 : es1.length ≤ 400 := HOK1.out.1
  have HTD : Hid (∀ u, Below w2.heap.size w2 u → ∀ k (t : To), ts[k]? = some t → ∃ ga, ao = some ⟨ga, 0, none⟩ ∧ u.cell? ⟨ga, k, none⟩ = some (.slice t.to t.td.length t.tc) ∧ ∀ i (x : Tl), t.td[i]? = some x → ∃ gt, t.to = some ⟨gt, 0, none⟩ ∧ u.cell? ⟨gt, i * 7, none⟩ = some (.int .i64 x.k) ∧ u.cell? ⟨gt, i * 7 + 1, none⟩ = some (.int .i64 x.n) ∧ u.cell? ⟨gt, i * 7 + 2, none⟩ = some (.int .i64 x.to) ∧ u.cell? ⟨gt, i * 7 + 3, none⟩ = some (.int .i64 x.v.k) ∧ u.cell? ⟨gt, i * 7 + 4, none⟩ = some (.int .i64 x.v.n) ∧ u.cell? ⟨gt, i * 7 + 5, none⟩ = some (.string x.v.s) ∧ u.cell? ⟨gt, i * 7 + 6, none⟩ = some (.slice none 0 0)) := fun u hu k t hk => by
    obtain ⟨ga, cap, hv, -, hga, hcc, -, -⟩ := own_at To.len (HP.out.below hu).trow hk
    simp only [Value.slice.injEq] at hv
    refine ⟨ga, hv.1, by have := hcc 0 _ rfl; simpa using this, fun i x hx => ?_⟩
    obtain ⟨gt, cap2, hv2, -, hgt, hc2, -, -⟩ := own_at Tl.len ((HP.out.below hu).told t (List.mem_of_getElem? hk)) hx
    simp only [Value.slice.injEq] at hv2
    exact ⟨gt, hv2.1, by have := hc2 0 _ rfl; simpa using this, hc2 1 _ rfl, hc2 2 _ rfl, hc2 3 _ rfl, hc2 4 _ rfl, hc2 5 _ rfl, hc2 6 _ rfl⟩
  have HEVC : Hid (∀ u, Below w2.heap.size w2 u → ∀ k (e : Ev), (es1.map (·.x))[k]? = some e → k < es1.length ∧ ∃ ge, vo1 = some ⟨ge, 0, none⟩ ∧ u.cell? ⟨ge, k * 6, none⟩ = some (.int .i64 e.k) ∧ u.cell? ⟨ge, k * 6 + 1, none⟩ = some (.int .i64 e.n)) := fun u hu k e hk => by
    simp only [List.getElem?_map, Option.map_eq_some_iff] at hk
    obtain ⟨eo, hk, rfl⟩ := hk
    obtain ⟨ge, cap, hv, -, hge, hcc, -, -⟩ := own_at Eo.len (row_below HROW2.out hu) hk
    simp only [Value.slice.injEq] at hv
    exact ⟨(List.getElem?_eq_some_iff.1 hk).1, ge, hv.1, by have := hcc 0 _ rfl; simpa using this, hcc 1 _ rfl⟩
  have HTL : Hid (∀ t ∈ ts, t.td.length ≤ 9223372036854775807) := fun t ht => row_max (hp.told t ht)
  obtain ⟨m, hm⟩ : ∃ m, m = ts.length := ⟨_, rfl⟩
  have HM : Hid (m = ts.length) := hm
  rw [← hm] at htl ⊢
  obtain ⟨en, hen⟩ : ∃ n, n = es1.length := ⟨_, rfl⟩
  have HEN : Hid (en = es1.length) := hen
  rw [← hen] at hn4
  rw [← hen]
  have HKM0 := Hid.mk' (km_start w2)
  clear hp hb2 hm hen
  go_wp2_with fail
  generalize (w2.alloc (.cells #[.slice none 0 0] 30)).alloc (.cells #[.int .i64 0] 3) = W1 at *
  generalize hB : w2.heap.size = B at *
  have HBB : Hid (w2.heap.size = B) := hB
  clear hB
  go_loopw [6, 7, 8] (fun s6 s7 s8 wr => ∃ (k : Nat) (kes : List Ke) (S : List Int), k ≤ m ∧ s8 = .int .i64 k ∧ Hid (KM B wr s6 s7 kes S) ∧ Hid (∀ s, ss[k]? = some s → RL s.st (kes.map (·.l), S)) ∧ Hid (S.length ≤ kes.length ∧ kes.length ≤ 402) ∧ Hid (Below B w2 wr)) (fun _ _ i _ => m - (intOf i).toNat)
  case atStart =>
    refine ⟨0, [⟨[], .slice none 0 0⟩], [0], Nat.zero_le _, rfl, HKM0.out.1, fun s hs => ?_, ⟨by simp, by simp⟩, HKM0.out.2⟩
    have h1 : (ss.map (·.st))[0]? = some s.st := by simp [hs]
    rw [HP.out.st] at h1
    simp only [List.getElem?_cons_zero, Option.some.injEq] at h1
    rw [← h1]; exact rl_start
  case round =>
    obtain ⟨k, kes, S, hk, rfl, HKM, HRL, HSZ, HB⟩ := hrel
    obtain ⟨wq, hwq⟩ : ∃ x, x = wr := ⟨_, rfl⟩
    subst hwq
    obtain ⟨ko, kn0, kc, so7, sn0, sc7, rfl, rfl, hkn0, hsn0⟩ := HKM.out.len2
    have HKN0 : Hid (kn0 = kes.length ∧ sn0 = S.length) := ⟨hkn0, hsn0⟩
    clear hkn0 hsn0
    by_cases hlt : k < m
    · have hlti : (k : Int) < (m : Int) := by omega
      obtain ⟨⟨td, to, tc⟩, ht⟩ : ∃ t, ts[k]? = some t := ⟨ts[k]'(by rw [← HM.out]; exact hlt), List.getElem?_eq_getElem _⟩
      obtain ⟨s, hs⟩ : ∃ s, ss[k]? = some s := ⟨ss[k]'(by rw [HLEN.out, ← HM.out]; omega), List.getElem?_eq_getElem _⟩
      obtain ⟨s', hs'⟩ : ∃ s, ss[k + 1]? = some s := ⟨ss[k + 1]'(by rw [HLEN.out, ← HM.out]; omega), List.getElem?_eq_getElem _⟩
      obtain ⟨e, f, r, he, hfin, htd, hst', hfr, hdf, hnx⟩ := HP.out.goes hs ht hs'
      have HGO : Hid (td = (s.st.step [] e).2 ∧ s'.st = (s.st.step [] e).1 ∧ s.st.fr = f :: r ∧ f.df.length ≤ 400 ∧ s'.st.next ≤ 402) := ⟨htd, hst', hfr, hdf, hnx⟩
      have HRL1 := Hid.mk' (HRL.out s hs)
      have HT := Hid.mk' ht
      have HS' := Hid.mk' hs'
      have HE := Hid.mk' he
      obtain ⟨hken, ge, hvo, e0, e1⟩ := HEVC.out wq HB.out k e he
      have hkei : (k : Int) < (en : Int) := by rw [HEN.out]; omega
      subst hvo
      obtain ⟨gs', hso', hgs', hcs'⟩ := HP.out.at hs'
      subst hso'
      have HSC : Hid (∀ u, Below B w2 u → u.cell? ⟨gs', (k + 1) * 6, none⟩ = some (.slice s'.fo s'.es.length s'.fc)) := fun u hu => by rw [← HBB.out] at hu; exact (hcs' u hu).1
      have HEX : Hid (∀ (K : List (List Int)) (S : List Int), RL s'.st (K, S) → s'.es.length = S.length) := fun K S h => by
        have h1 := (HP.out.own s' (List.mem_of_getElem? hs')).fr.len
        have h2 : S = _ := h.s
        rw [h1, h2]; simp [prs]
      obtain ⟨ga, hao, k0, -⟩ := HTD.out wq HB.out k _ ht
      subst hao
      have htb : td.length ≤ 9223372036854775807 := HTL.out _ (List.mem_of_getElem? ht)
      simp only at k0
      clear he hfin htd hst' hfr hdf hnx ht hs hs' hken hgs' hcs'
      by_cases hk3 : e.k = 3
      · have hk3b : (e.k == 3) = true := by simpa using hk3
        have HK3 := Hid.mk' hk3
        clear hk3
        obtain ⟨htd0, S1, top, hS, hl, hrl⟩ := step_keep (e := e) HRL1.out HGO.out.2.2.1 HK3.out
        have htd1 : td = [] := HGO.out.1.trans htd0
        subst htd1
        simp only at hS hl
        subst hS
        rw [List.getElem?_map, Option.map_eq_some_iff] at hl
        obtain ⟨⟨l0, L⟩, hke, hkl⟩ := hl
        simp only at hkl
        have HL0 : Hid (l0 = f.df.reverse) := hkl
        obtain ⟨xs, ys, hxy, hxl⟩ := split_at hke
        subst hxy
        subst hxl
        obtain ⟨l2, hl2⟩ : ∃ x, x = l0 ++ [e.n] := ⟨_, rfl⟩
        have HL2 : Hid (l2 = l0 ++ [e.n]) := hl2
        have HRL2 : Hid (∀ L2, RL s'.st ((xs ++ Ke.mk l2 L2 :: ys).map (·.l), S1 ++ [(xs.length : Int)])) := fun L2 => by
          rw [HGO.out.2.1]
          have h := hrl
          rw [← hkl, ← hl2, set_at rfl] at h
          simpa using h
        obtain ⟨gk, ck, hKv, -, -, -, -⟩ := HKM.out.at
        simp only [Value.slice.injEq] at hKv
        obtain ⟨hko, hkn', -⟩ := hKv
        subst hko
        obtain ⟨gs, cs, hSv, hsc⟩ := HKM.out.last
        simp only [Value.slice.injEq] at hSv
        obtain ⟨hso7, hsn', -⟩ := hSv
        subst hso7
        obtain ⟨Lo, Lc, hLs⟩ := IOwn.shape (HKM.out.own (Ke.mk l0 L) (by simp))
        simp only at hLs
        subst hLs
        have HDL : Hid (l0.length ≤ 1000000) := by show _ ≤ _; rw [hkl]; have := HGO.out.2.2.2.1; simp; omega
        obtain ⟨LL, hLL⟩ : ∃ x, x = l0.length := ⟨_, rfl⟩
        rw [← hLL] at HKM
        obtain ⟨a, ha⟩ : ∃ a, a = S1.length := ⟨_, rfl⟩
        rw [← ha] at hsc hsn'
        subst hsn'
        obtain ⟨q, hq⟩ : ∃ q, q = xs.length := ⟨_, rfl⟩
        have HQ : Hid (q = xs.length) := hq
        rw [← hq] at hsc
        have HSL : Hid (S1.length + 1 ≤ (xs ++ Ke.mk l2 (.slice none 0 0) :: ys).length ∧ (xs ++ Ke.mk l2 (.slice none 0 0) :: ys).length ≤ 402) := by have h := HSZ.out; simp at h ⊢; exact h
        have HEXI : Hid (s'.es.length = a + 1) := by show _ = _; have h := HEX.out _ _ (HRL2.out (.slice none 0 0)); rw [h, ha]; simp
        obtain ⟨S0, hS0⟩ : ∃ x, x = S1 ++ [(xs.length : Int)] := ⟨_, rfl⟩
        rw [← hS0] at HKM HRL2
        have HS0 : Hid (S0.length = S1.length + 1) := by show _ = _; rw [hS0]; simp
        have hqk : (q : Int) < (kn0 : Int) := by rw [hq, hkn']; simp; omega
        have ha1 : (a : Int) < (a : Int) + 1 := by omega
        have ha0 : (0 : Int) ≤ (a : Int) := by omega
        have hal : a ≤ 402 := by have h := HSZ.out; simp at h; omega
        have hknb : kn0 ≤ 402 := by have h := HSZ.out; have := HKN0.out; omega
        have HBQ : Hid (B ≤ wq.heap.size) := by have := HB.out.size; show B ≤ _; rw [← HBB.out]; omega
        clear htd0 hke hkl hl2 hrl hkn' hLL ha hq hS0 HSZ HKN0 HRL HRL1
        go_wp2_with fail
        have hl : AllStab [isV (.slice (some ⟨gk, 0, none⟩) kn0 kc), isV (.int .i64 q), isV (.slice (some ⟨gk, 0, none⟩) kn0 kc), isV (.int .i64 q), isV (.pointer (some ⟨gk, q, none⟩)), isV (.slice Lo LL Lc), isV (.slice (some ⟨ge, 0, none⟩) en vc1), isV (.int .i64 k), isV (.pointer (some ⟨ge, k * 6, none⟩)), isV (.pointer (some ⟨ge, k * 6 + 1, none⟩)), isV (.int .i64 e.n), isI1 B e.n, isI4 B l2 (xs ++ ys) (.slice (some ⟨gs, 0, none⟩) (a + 1) sc7), isV (.pointer (some ⟨gk, q, none⟩)), anyV] := ⟨stab_is _, stab_is _, stab_is _, stab_is _, stab_is _, stab_is _, stab_is _, stab_is _, stab_is _, stab_is _, stab_is _, stab_i1 _ _, stab_i4 _ _ _ _, stab_is _, stab_any, trivial⟩
        refine wp_joint (JB [isV (.slice (some ⟨gk, 0, none⟩) kn0 kc), isV (.int .i64 q), isV (.slice (some ⟨gk, 0, none⟩) kn0 kc), isV (.int .i64 q), isV (.pointer (some ⟨gk, q, none⟩)), isV (.slice Lo LL Lc), isV (.slice (some ⟨ge, 0, none⟩) en vc1), isV (.int .i64 k), isV (.pointer (some ⟨ge, k * 6, none⟩)), isV (.pointer (some ⟨ge, k * 6 + 1, none⟩)), isV (.int .i64 e.n), isI1 B e.n, isI4 B l2 (xs ++ ys) (.slice (some ⟨gs, 0, none⟩) (a + 1) sc7), isV (.pointer (some ⟨gk, q, none⟩)), anyV] ([99, 99, 99, 99, 99, 99, 99, 99, 99, 99, 99, 12, 14, 99, 99].getD · 99) (fun d f2 u => (d 14 = false → (d 12 = false → KM B u (.slice (some ⟨gk, 0, none⟩) kn0 kc) (.slice (some ⟨gs, 0, none⟩) (a + 1) sc7) (xs ++ (Ke.mk l0 (.slice Lo LL Lc)) :: ys) S0) ∧ (d 12 = true → KD B u (.slice (some ⟨gk, 0, none⟩) kn0 kc) (.slice (some ⟨gs, 0, none⟩) (a + 1) sc7) xs (Ke.mk l0 (.slice Lo LL Lc)) ys S0)) ∧ (d 14 = true → ∃ L2, KM B u (.slice (some ⟨gk, 0, none⟩) kn0 kc) (.slice (some ⟨gs, 0, none⟩) (a + 1) sc7) (xs ++ Ke.mk l2 L2 :: ys) S0)) B wq) (by kernel_rfl) (by kernel_rfl) (by kernel_rfl) (fun f => ⟨(Below.refl _ _).drew, HBQ.out, rfl, (fun i h _ => by cases h), ⟨fun _ => ⟨fun _ => HKM.out.below (Below.refl _ _).drew, fun h => by cases h⟩, fun h => by cases h⟩⟩) ?_ ?_
        · refine stepsOK5_cons (fun f2 d u hJ hn hd hno K hK => ?_) (stepsOK5_cons (fun f2 d u hJ hn hd hno K hK => ?_) (stepsOK5_cons (fun f2 d u hJ hn hd hno K hK => ?_) (stepsOK5_cons (fun f2 d u hJ hn hd hno K hK => ?_) (stepsOK5_cons (fun f2 d u hJ hn hd hno K hK => ?_) (stepsOK5_cons (fun f2 d u hJ hn hd hno K hK => ?_) (stepsOK5_cons (fun f2 d u hJ hn hd hno K hK => ?_) (stepsOK5_cons (fun f2 d u hJ hn hd hno K hK => ?_) (stepsOK5_cons (fun f2 d u hJ hn hd hno K hK => ?_) (stepsOK5_cons (fun f2 d u hJ hn hd hno K hK => ?_) (stepsOK5_cons (fun f2 d u hJ hn hd hno K hK => ?_) (stepsOK5_cons (fun f2 d u hJ hn hd hno K hK => ?_) (stepsOK5_cons (fun f2 d u hJ hn hd hno K hK => ?_) (stepsOK5_cons (fun f2 d u hJ hn hd hno K hK => ?_) (stepsOK5_cons (fun f2 d u hJ hn hd hno K hK => ?_) stepsOK5_nil))))))))))))))
          · refine wanted_on rfl ?_
            simp only [putAll, Act.put, List.setIfInBounds_toArray, List.set_cons_zero, List.set_cons_succ] at hK ⊢
            go_simp
            exact hK _ _ _ rfl (hJ.grow hl (by decide) (Below.refl _ _) rfl hJ.more)
          · refine wanted_on rfl ?_
            simp only [putAll, Act.put, List.setIfInBounds_toArray, List.set_cons_zero, List.set_cons_succ] at hK ⊢
            go_simp
            exact hK _ _ _ rfl (hJ.grow hl (by decide) (Below.refl _ _) rfl hJ.more)
          · refine wanted_on rfl ?_
            simp only [putAll, Act.put, List.setIfInBounds_toArray, List.set_cons_zero, List.set_cons_succ] at hK ⊢
            go_simp
            exact hK _ _ _ rfl (hJ.grow hl (by decide) (Below.refl _ _) rfl hJ.more)
          · refine wanted_on rfl ?_
            simp only [putAll, Act.put, List.setIfInBounds_toArray, List.set_cons_zero, List.set_cons_succ] at hK ⊢
            go_simp
            exact hK _ _ _ rfl (hJ.grow hl (by decide) (Below.refl _ _) rfl hJ.more)
          · have e2 : f2 2 = (.slice (some ⟨gk, 0, none⟩) kn0 kc) := hJ.at 2 (hd 2 (by kernel_rfl)) hJ.none
            have e3 : f2 3 = (.int .i64 q) := hJ.at 3 (hd 3 (by kernel_rfl)) hJ.none
            refine wanted_on rfl ?_
            simp only [putAll, Act.put, List.setIfInBounds_toArray, List.set_cons_zero, List.set_cons_succ, e2, e3] at hK ⊢
            go_simp
            exact hK _ _ _ rfl (hJ.grow hl (by decide) (Below.refl _ _) rfl hJ.more)
          · have e4 : f2 4 = (.pointer (some ⟨gk, q, none⟩)) := hJ.at 4 (hd 4 (by kernel_rfl)) hJ.none
            obtain ⟨g9, c9, hF9, -, -, hc9, -⟩ := ((hJ.more.1 (hno 14 (by kernel_rfl))).1 (hno 12 (by kernel_rfl))).at
            simp only [Value.slice.injEq, Option.some.injEq, Addr.mk.injEq] at hF9
            obtain ⟨⟨hg9, -⟩, -⟩ := hF9
            subst hg9
            rw [← HQ.out] at hc9
            simp only at hc9
            refine wanted_on rfl ?_
            simp only [putAll, Act.put, List.setIfInBounds_toArray, List.set_cons_zero, List.set_cons_succ, e4] at hK ⊢
            go_simp
            exact hK _ _ _ rfl (hJ.grow hl (by decide) (Below.refl _ _) rfl hJ.more)
          · refine wanted_on rfl ?_
            simp only [putAll, Act.put, List.setIfInBounds_toArray, List.set_cons_zero, List.set_cons_succ] at hK ⊢
            go_simp
            exact hK _ _ _ rfl (hJ.grow hl (by decide) (Below.refl _ _) rfl hJ.more)
          · refine wanted_on rfl ?_
            simp only [putAll, Act.put, List.setIfInBounds_toArray, List.set_cons_zero, List.set_cons_succ] at hK ⊢
            go_simp
            exact hK _ _ _ rfl (hJ.grow hl (by decide) (Below.refl _ _) rfl hJ.more)
          · have e6 : f2 6 = (.slice (some ⟨ge, 0, none⟩) en vc1) := hJ.at 6 (hd 6 (by kernel_rfl)) hJ.none
            have e7 : f2 7 = (.int .i64 k) := hJ.at 7 (hd 7 (by kernel_rfl)) hJ.none
            refine wanted_on rfl ?_
            simp only [putAll, Act.put, List.setIfInBounds_toArray, List.set_cons_zero, List.set_cons_succ, e6, e7] at hK ⊢
            go_simp
            exact hK _ _ _ rfl (hJ.grow hl (by decide) (Below.refl _ _) rfl hJ.more)
          · have e8 : f2 8 = (.pointer (some ⟨ge, k * 6, none⟩)) := hJ.at 8 (hd 8 (by kernel_rfl)) hJ.none
            refine wanted_on rfl ?_
            simp only [putAll, Act.put, List.setIfInBounds_toArray, List.set_cons_zero, List.set_cons_succ, e8] at hK ⊢
            go_simp
            exact hK _ _ _ rfl (hJ.grow hl (by decide) (Below.refl _ _) rfl hJ.more)
          · have e9 : f2 9 = (.pointer (some ⟨ge, k * 6 + 1, none⟩)) := hJ.at 9 (hd 9 (by kernel_rfl)) hJ.none
            obtain ⟨-, ge9, hge9, -, e19⟩ := HEVC.out u (HB.out.trans hJ.up) k e HE.out
            simp only [Option.some.injEq, Addr.mk.injEq] at hge9
            obtain ⟨hge9, -⟩ := hge9
            subst hge9
            refine wanted_on rfl ?_
            simp only [putAll, Act.put, List.setIfInBounds_toArray, List.set_cons_zero, List.set_cons_succ, e9] at hK ⊢
            go_simp
            exact hK _ _ _ rfl (hJ.grow hl (by decide) (Below.refl _ _) rfl hJ.more)
          · have e10 : f2 10 = (.int .i64 e.n) := hJ.at 10 (hd 10 (by kernel_rfl)) hJ.none
            refine wanted_on rfl ?_
            simp only [putAll, Act.put, List.setIfInBounds_toArray, List.set_cons_zero, List.set_cons_succ, e10] at hK ⊢
            go_simp
            have hb : Below u.heap.size u (u.alloc (.cells #[.int .i64 e.n] 3)) := (Below.refl _ _).alloc (Nat.le_refl _) _
            exact hK _ _ _ rfl (hJ.grow hl (by decide) hb (World.ownsRow_lit u #[.int .i64 e.n] 1 hJ.lo (by decide) rfl) ⟨fun _ => ⟨fun _ => ((hJ.more.1 (hno 14 (by kernel_rfl))).1 (hno 12 (by kernel_rfl))).below hb, (fun h10 => by have h9 : d 12 = true := h10; rw [hno 12 (by kernel_rfl)] at h9; cases h9)⟩, (fun h10 => by have h9 : d 14 = true := h10; rw [hno 14 (by kernel_rfl)] at h9; cases h9)⟩)
          · have e5 : f2 5 = (.slice Lo LL Lc) := hJ.at 5 (hd 5 (by kernel_rfl)) hJ.none
            have q11 := hJ.at 11 (hd 11 (by kernel_rfl)) hn
            obtain ⟨V11, e11⟩ : ∃ V, f2 11 = V := ⟨_, rfl⟩
            rw [e11] at q11
            refine wanted_on rfl ?_
            simp only [putAll, Act.put, List.setIfInBounds_toArray, List.set_cons_zero, List.set_cons_succ, e5, e11] at hK ⊢
            have hkm := (hJ.more.1 (hno 14 (by kernel_rfl))).1 hn
            have hown8 : IOwn B u (.slice Lo LL Lc) l0 := hkm.own (Ke.mk l0 (.slice Lo LL Lc)) (by simp)
            refine iapp _ _ rfl rfl rfl hown8 q11 hJ.lo HDL.out ?_
            intro v1 u1 h1 hgr hat hb
            rw [← HL2.out] at h1
            have hkd := hkm.grownD hgr
            have hno1 : ∀ a ∈ xs ++ ys, kTwo a.L v1 := fun a ha => fresh (l := a.l) (hkm.own a (by rcases List.mem_append.1 ha with h1 | h1 <;> simp [h1])) hat (hkm.others a ha)
            have hno2 : kTwo v1 (.slice (some ⟨gs, 0, none⟩) (a + 1) sc7) := by
              have h3 := hkm.apS (Ke.mk l0 (.slice Lo LL Lc)) (by simp)
              rcases hat with e1 | e1
              · unfold kTwo at h3 ⊢; rw [e1]; exact h3
              · refine kTwo.symm ?_
                unfold kTwo
                exact .inr (fun e2 => by rw [e1] at e2; have := (World.ownsRow.lt hkm.st gs rfl).2; simp only [Value.ownBlock, Option.some.injEq] at e2; omega)
            refine hK _ _ _ rfl (hJ.step (by decide) hb (fun j h2 h3 h4 h5 h6 => ?_) ⟨h1, hno1, hno2⟩ ⟨fun _ => ⟨(fun h7 => by cases h7), fun _ => hkd⟩, (fun h10 => by have h9 : d 14 = true := h10; rw [hno 14 (by kernel_rfl)] at h9; cases h9)⟩)
            match j, h3, h6 with
            | 0, _, h6 => exact h6
            | 1, _, h6 => exact h6
            | 2, _, h6 => exact h6
            | 3, _, h6 => exact h6
            | 4, _, h6 => exact h6
            | 5, _, h6 => exact h6
            | 6, _, h6 => exact h6
            | 7, _, h6 => exact h6
            | 8, _, h6 => exact h6
            | 9, _, h6 => exact h6
            | 10, _, h6 => exact h6
            | 11, h3, _ => exact absurd rfl h3
            | 12, _, _ => exact absurd rfl h2
            | 13, _, h6 => exact h6
            | 14, _, _ => exact trivial
            | j + 15, _, _ => exact trivial
          · have e0 : f2 0 = (.slice (some ⟨gk, 0, none⟩) kn0 kc) := hJ.at 0 (hd 0 (by kernel_rfl)) hJ.none
            have e1 : f2 1 = (.int .i64 q) := hJ.at 1 (hd 1 (by kernel_rfl)) hJ.none
            refine wanted_on rfl ?_
            simp only [putAll, Act.put, List.setIfInBounds_toArray, List.set_cons_zero, List.set_cons_succ, e0, e1] at hK ⊢
            go_simp
            exact hK _ _ _ rfl (hJ.grow hl (by decide) (Below.refl _ _) rfl hJ.more)
          · obtain ⟨q12, n12, m12⟩ := hJ.at 12 (hd 12 (by kernel_rfl)) hn
            obtain ⟨V12, e12⟩ : ∃ V, f2 12 = V := ⟨_, rfl⟩
            rw [e12] at q12 n12 m12
            have e13 : f2 13 = (.pointer (some ⟨gk, q, none⟩)) := hJ.at 13 (hd 13 (by kernel_rfl)) hJ.none
            obtain ⟨ao9, cap2, hv7⟩ := IOwn.shape q12
            subst hv7
            have hq9 := (hJ.more.1 hn).2 (hd 12 (by kernel_rfl))
            obtain ⟨g9, c9, hF9, -, -, hc9, hz9, cur9, hcur9⟩ := hq9.at
            simp only [Value.slice.injEq, Option.some.injEq, Addr.mk.injEq] at hF9
            obtain ⟨⟨hg9, -⟩, -⟩ := hF9
            subst hg9
            obtain ⟨hk9, hb9⟩ := hq9.put q12 n12 m12
            rw [← HQ.out] at hc9 hz9 hk9 hb9
            refine wanted_on rfl ?_
            simp only [putAll, Act.put, List.setIfInBounds_toArray, List.set_cons_zero, List.set_cons_succ, e12, e13] at hK ⊢
            go_simp
            refine hK _ (f2 14) _ rfl (hJ.step (by decide) hb9 (fun j h2 h3 h4 h5 h6 => ?_) trivial ⟨(fun h10 => by cases h10), fun _ => ⟨_, hk9⟩⟩)
            match j, h3, h6 with
            | 0, _, h6 => exact h6
            | 1, _, h6 => exact h6
            | 2, _, h6 => exact h6
            | 3, _, h6 => exact h6
            | 4, _, h6 => exact h6
            | 5, _, h6 => exact h6
            | 6, _, h6 => exact h6
            | 7, _, h6 => exact h6
            | 8, _, h6 => exact h6
            | 9, _, h6 => exact h6
            | 10, _, h6 => exact h6
            | 11, _, h6 => exact row_far h6 hcur9 (by decide) (fun b hb _ => heap_setCell_other _ _ _ _ (by simpa using hb))
            | 12, h3, _ => exact absurd rfl h3
            | 13, _, h6 => exact h6
            | 14, _, _ => exact trivial
            | j + 15, _, _ => exact trivial
        · intro f2 d u hJ hall
          obtain ⟨L2, hkm⟩ := hJ.more.2 (hall 14 (by decide))
          have HK2 := Hid.mk' hkm
          have HBU : Hid (Below B w2 u) := HB.out.trans hJ.up
          obtain ⟨ga9, hga9, ku0, -⟩ := HTD.out u HBU.out k _ HT.out
          simp only [Option.some.injEq, Addr.mk.injEq] at hga9
          obtain ⟨hga9, -⟩ := hga9
          subst hga9
          simp only [List.length_nil] at ku0
          simp only [putAll, Act.put, List.setIfInBounds_toArray, List.set_cons_zero, List.set_cons_succ]
          clear hkm hJ hall hl k0 e0 e1 hsc
          go_wp2_with fail
          go_loopw [6, 7, 64] (fun s6 s7 s64 wr => s6 = (.slice (some ⟨gk, 0, none⟩) kn0 kc) ∧ s7 = (.slice (some ⟨gs, 0, none⟩) (a + 1) sc7) ∧ s64 = .int .i64 0 ∧ Hid (KM B wr (.slice (some ⟨gk, 0, none⟩) kn0 kc) (.slice (some ⟨gs, 0, none⟩) (a + 1) sc7) (xs ++ Ke.mk l2 L2 :: ys) S0) ∧ Hid (Below B w2 wr)) (fun _ _ _ _ => 0)
          case atStart => exact ⟨rfl, rfl, rfl, HK2.out, HBU.out⟩
          case round =>
            obtain ⟨rfl, rfl, rfl, HK5, HB5⟩ := hrel
            obtain ⟨uq, huq⟩ : ∃ x, x = wr := ⟨_, rfl⟩
            subst huq
            have c0 := HSC.out uq HB5.out
            rw [HEXI.out] at c0
            have hk2 : (k : Int) + 1 < (m : Int) + 1 := by omega
            clear HK2 HBU ku0
            go_wp2_with fail
            go_roundw
            case rel => exact ⟨k + 1, xs ++ Ke.mk l2 L2 :: ys, S0, by omega, by go_num, HK5.out, (fun s2 hs2 => by have h := HS'.out; rw [hs2] at h; cases h; exact HRL2.out L2), (by have h := HSL.out; have h0 := HS0.out; simp only [List.length_append, List.length_cons] at h; exact ⟨by simp only [List.length_append, List.length_cons]; omega, by simp only [List.length_append, List.length_cons]; omega⟩), HB5.out⟩
            case measure => simp [intOf]; omega
      · have hk3b : (e.k == 3) = false := by simpa using hk3
        have HK3 := Hid.mk' hk3
        clear hk3
        have HALL : Hid (lkAll (kes.map (·.l), S) td ∧ RL s'.st (lkR (kes.map (·.l), S) td)) := by
          have h := step_rl (e := e) HRL1.out HGO.out.2.2.1 HK3.out
          rw [← HGO.out.1, ← HGO.out.2.1] at h
          exact h
        have HSB : Hid (∀ i (kj : List Ke) (Sj : List Int), (kj.map (·.l), Sj) = lkR (kes.map (·.l), S) (td.take i) → Sj.length ≤ kj.length ∧ kj.length ≤ 402) := fun i kj Sj h => by
          have h1 := (lkR_grow (td.take i) (kes.map (·.l), S)).2
          have h2 := lkR_part (td := td) (q := (kes.map (·.l), S)) i
          have h3 := HALL.out.2.n
          have h4 := HGO.out.2.2.2.2
          have h5 := HSZ.out.1
          rw [← h] at h1 h2
          simp only [List.length_map] at h1 h2
          omega
        go_wp2_with fail
        go_loopw [6, 7, 64] (fun s6 s7 s64 wr => ∃ (i : Nat) (kj : List Ke) (Sj : List Int), i ≤ td.length ∧ s64 = .int .i64 i ∧ Hid (KM B wr s6 s7 kj Sj) ∧ Hid ((kj.map (·.l), Sj) = lkR (kes.map (·.l), S) (td.take i)) ∧ Hid (Below B w2 wr)) (fun _ _ j _ => td.length - (intOf j).toNat)
        case atStart => exact ⟨0, kes, S, Nat.zero_le _, rfl, HKM.out, rfl, HB.out⟩
        case round =>
          obtain ⟨i, kj, Sj, hi, rfl, HKj, HLK, HBj⟩ := hrel
          obtain ⟨uq, huq⟩ : ∃ x, x = wr := ⟨_, rfl⟩
          subst huq
          obtain ⟨jo, kn, jc, jso, sn, jsc, rfl, rfl, hkn, hsn⟩ := HKj.out.len2
          have HKN : Hid (kn = kj.length ∧ sn = Sj.length) := ⟨hkn, hsn⟩
          clear hkn hsn
          have HJ := Hid.mk' (HSB.out i kj Sj HLK.out)
          by_cases hil : i < td.length
          · have hili : (i : Int) < (td.length : Int) := by omega
            obtain ⟨x, hx⟩ : ∃ x, td[i]? = some x := ⟨_, List.getElem?_eq_getElem hil⟩
            obtain ⟨-, -, -, hcell⟩ := HTD.out uq HBj.out k _ HT.out
            obtain ⟨gt, hto, x0, x1, x2, x3, x4, x5, x6⟩ := hcell i x hx
            have HOKX : Hid (lkOk (kj.map (·.l), Sj) x) := by have h := lkAll_at HALL.out.1 hx; rw [← HLK.out] at h; exact h
            have HNX : Hid (lkR (kes.map (·.l), S) (td.take (i + 1)) = lkN (kj.map (·.l), Sj) x) := by show _ = _; rw [lkR_take hx, ← HLK.out]
            have HJ1 : Hid (∀ (k2 : List Ke) (S2 : List Int), (k2.map (·.l), S2) = lkN (kj.map (·.l), Sj) x → k2.length ≤ 402) := fun k2 S2 h => (HSB.out (i + 1) k2 S2 (by rw [h, HNX.out])).2
            simp only at hto
            subst hto
            clear hx hcell
            obtain ⟨xk, xn, xto, xv⟩ := x
            simp only at x0 x1 x2 x3 x4 x5 x6
            have HU : Hid (∀ u, Below uq.heap.size uq u → Below B w2 u) := fun u hu => HBj.out.trans (hu.mono (by have := HBj.out.size; have := HKj.out; rw [← HBB.out]; omega))
            have HBU : Hid (B ≤ uq.heap.size) := by have := HBj.out.size; show B ≤ uq.heap.size; rw [← HBB.out]; omega
            by_cases hx1 : xk = 1
            · subst hx1
              have hn : xn = (kn : Int) := by have h := HOKX.out.1 rfl; simp only [List.length_map] at h; rw [HKN.out.1]; exact h
              subst hn
              skip
              have HKB := Hid.mk' (KB.start HKj.out HBU.out #[.int .i64 1, .int .i64 kn, .int .i64 xto, .int .i64 xv.k, .int .i64 xv.n, .string xv.s, .slice none 0 0])
              have HUB : Hid (Below uq.heap.size uq (uq.alloc (.cells #[.int .i64 1, .int .i64 kn, .int .i64 xto, .int .i64 xv.k, .int .i64 xv.n, .string xv.s, .slice none 0 0] 58))) := (Below.refl _ _).alloc (Nat.le_refl _) _
              have HL1 := Hid.mk' HKB.out.litK
              rw [show (uq.alloc (.cells #[.int .i64 1, .int .i64 kn, .int .i64 xto, .int .i64 xv.k, .int .i64 xv.n, .string xv.s, .slice none 0 0] 58)).heap.size = uq.heap.size + 1 by simp] at HL1
              have HMK : Hid (Below B w2 ((uq.alloc (.cells #[.int .i64 1, .int .i64 kn, .int .i64 xto, .int .i64 xv.k, .int .i64 xv.n, .string xv.s, .slice none 0 0] 58)).alloc (.cells #[.slice none 0 0] 30))) := (HBj.out.alloc HBU.out _).alloc (by have := HBU.out; simp; omega) _
              go_wp2_with (at_builtin; first | (have h3x := HMK; clear h3x; refine gappL rfl _ _ Ke.len Try.infoIs rfl (by decide) Try.underlying59 rfl rfl rfl HL1.out.1.km.row HL1.out.2.1 (Ke.one rfl) HL1.out.1.lo (by have := HJ.out.2; omega) (by decide) ?_; intro v3 u3 hr hg hb3; have HK3 := Hid.mk' (HL1.out.1.addK hg hr hb3); have HB3 : Hid (Below B w2 u3) := (HMK.out).trans hb3; obtain ⟨k3o, k3c, hk3⟩ := row_slice hr; subst hk3; obtain ⟨⟨b0, b1, b2, -, -, -, -⟩, -⟩ := box7 HK3.out.box; have HL3 := Hid.mk' (HK3.out.litS (kn : Int)); clear hr hg hb3 HMK) | (refine iappL rfl _ _ rfl rfl rfl HL3.out.1.km.st HL3.out.2.1 HL3.out.1.lo (by have := HJ.out; have := HKN.out; omega) ?_; intro v5 u5 hr hg hat hb5; have HK5 := Hid.mk' (HL3.out.1.addS hg hr hat hb5); have HB5 : Hid (Below B w2 u5) := (HB3.out.trans (HL3.out.2.2.mono HK3.out.lo)).trans hb5; clear hr hg hat hb5))

              go_roundw
              case rel => exact ⟨i + 1, kj ++ [Ke.mk [] (.slice none 0 0)], Sj ++ [(kn : Int)], by omega, by go_num, (by have h := HK5.out.km; rw [show (kj ++ [Ke.mk [] (.slice none 0 0)]).length = kj.length + 1 by simp] at h; exact h), (by show _ = _; rw [HNX.out, lkN_one rfl]; simp), HB5.out⟩
              case measure => simp [intOf]; omega
            by_cases hx2 : xk = 2
            · subst hx2
              obtain ⟨S1, top, l, hS, hl, hto2⟩ := HOKX.out.2.1 rfl
              simp only [List.length_map] at hto2
              have hto3 : xto = (kn : Int) := by rw [HKN.out.1]; exact hto2
              subst hto3
              simp only at hS hl
              subst hS
              have hl0 := hl
              rw [List.getElem?_map, Option.map_eq_some_iff] at hl
              obtain ⟨⟨kl, L⟩, hke, hkl⟩ := hl
              simp only at hkl
              subst hkl
              obtain ⟨xs, ys, hxy, hxl⟩ := split_at hke
              subst hxy
              subst hxl
              have HLN : Hid (lkN ((xs ++ Ke.mk (l ++ [xn]) L :: ys).map (·.l), S1 ++ [(xs.length : Int)]) ⟨2, xn, kn, xv⟩ = ((xs ++ Ke.mk l L :: ys).map (·.l) ++ [[]], S1 ++ [(xs.length : Int)] ++ [(kn : Int)])) := by
                show _ = _
                rw [lkN_two (top := xs.length) rfl rfl hl0, set_at rfl]
              clear hl0 hke hto2
              have HKB := Hid.mk' (KB.start HKj.out HBU.out #[.int .i64 2, .int .i64 xn, .int .i64 kn, .int .i64 xv.k, .int .i64 xv.n, .string xv.s, .slice none 0 0])
              have HUB : Hid (Below uq.heap.size uq (uq.alloc (.cells #[.int .i64 2, .int .i64 xn, .int .i64 kn, .int .i64 xv.k, .int .i64 xv.n, .string xv.s, .slice none 0 0] 58))) := (Below.refl _ _).alloc (Nat.le_refl _) _
              obtain ⟨gk, ck, hKv, hgB, hgl, hgc, hgf⟩ := HKB.out.km.at
              simp only [Value.slice.injEq] at hKv
              obtain ⟨hjo, hkn', hjc⟩ := hKv
              subst hjo
              obtain ⟨gs, cs, hSv, hsc⟩ := HKB.out.km.last
              simp only [Value.slice.injEq] at hSv
              obtain ⟨hjso, hsn', hjsc⟩ := hSv
              subst hjso
              have hL := HKB.out.km.own (Ke.mk (l ++ [xn]) L) (by simp)
              obtain ⟨Lo, Lc, hLs⟩ := IOwn.shape hL
              simp only at hLs
              subst hLs
              obtain ⟨a, ha⟩ : ∃ a, a = S1.length := ⟨_, rfl⟩
              have HA : Hid (a = S1.length) := ha
              rw [← ha] at hsc hsn'
              subst hsn'
              obtain ⟨q, hq⟩ : ∃ q, q = xs.length := ⟨_, rfl⟩
              have HQ : Hid (q = xs.length) := hq
              obtain ⟨p, hp⟩ : ∃ p, p = l.length := ⟨_, rfl⟩
              have HPL : Hid (p = l.length) := hp
              have hgl' : ∃ gl, Lo = some ⟨gl, 0, none⟩ ∧ p ≤ Lc ∧ (uq.alloc (.cells #[.int .i64 2, .int .i64 xn, .int .i64 kn, .int .i64 xv.k, .int .i64 xv.n, .string xv.s, .slice none 0 0] 58)).cell? ⟨gl, p, none⟩ = some (.int .i64 xn) := by
                rcases hL.2 with ⟨_, h0⟩ | ⟨gl, cap, cur, hv, _, _, hcap, _⟩
                · simp at h0
                · simp only [Value.slice.injEq] at hv
                  obtain ⟨hv1, -, hv3⟩ := hv
                  subst hv1
                  refine ⟨gl, rfl, by rw [hv3, hp]; simp at hcap; omega, ?_⟩
                  have h1 := World.ownsRow.cellAt hL p (by rw [hp]; simp)
                  rw [h1, hp]; simp
              obtain ⟨gl, hLo, hLc, hlc⟩ := hgl'
              subst hLo
              have hgc' : (uq.alloc (.cells #[.int .i64 2, .int .i64 xn, .int .i64 kn, .int .i64 xv.k, .int .i64 xv.n, .string xv.s, .slice none 0 0] 58)).cell? ⟨gk, q, none⟩ = some (.slice (some ⟨gl, 0, none⟩) (p + 1) Lc) := by rw [hq, hgc, hp]; simp
              have hqk : (q : Int) < (kn : Int) := by rw [hq, hkn']; simp; omega
              rw [← hq] at hsc hgf
              have ha1 : (a : Int) < (a : Int) + 1 := by omega
              have ha0 : (0 : Int) ≤ (a : Int) := by omega
              have hp1 : (p : Int) < (p : Int) + 1 := by omega
              have hp0 : decide ((p : Int) < 0) = false := by simp
              have hal : a ≤ 402 := by have h := HJ.out; have := HKN.out; simp at h this; omega
              have hpb : p + 1 ≤ 9223372036854775807 := by have := row_max hL; rw [hp]; simpa using this
              have hknb : kn ≤ 402 := by have h := HJ.out; have := HKN.out; omega
              clear hgc hL hkn' hjc hjsc ha hq hp hgB hgl hx1
              go_wp2_with fail
              go_quiet (fail)
              have HKQ := Hid.mk' (HKB.out.below (below_dn _ nq))
              have HKP := Hid.mk' HKQ.out.popK
              rw [← HQ.out, ← HPL.out] at HKP
              have hcq : ((uq.alloc (.cells #[.int .i64 2, .int .i64 xn, .int .i64 kn, .int .i64 xv.k, .int .i64 xv.n, .string xv.s, .slice none 0 0] 58)).drewN nq).cell? ⟨gk, q, none⟩ = some (.slice (some ⟨gl, 0, none⟩) (p + 1) Lc) := hgc'
              have hfq : ((uq.alloc (.cells #[.int .i64 2, .int .i64 xn, .int .i64 kn, .int .i64 xv.k, .int .i64 xv.n, .string xv.s, .slice none 0 0] 58)).drewN nq).frozen? ⟨gk, q, none⟩ = false := hgf
              have HL1 := Hid.mk' HKP.out.1.litK
              have HZ : Hid ((((uq.alloc (.cells #[.int .i64 2, .int .i64 xn, .int .i64 kn, .int .i64 xv.k, .int .i64 xv.n, .string xv.s, .slice none 0 0] 58)).drewN nq).setCell ⟨gk, q, none⟩ (.slice (some ⟨gl, 0, none⟩) p Lc)).heap.size = uq.heap.size + 1) := by show _ = _; simp [World.setCell]
              have HMK : Hid (Below B w2 ((((uq.alloc (.cells #[.int .i64 2, .int .i64 xn, .int .i64 kn, .int .i64 xv.k, .int .i64 xv.n, .string xv.s, .slice none 0 0] 58)).drewN nq).setCell ⟨gk, q, none⟩ (.slice (some ⟨gl, 0, none⟩) p Lc)).alloc (.cells #[.slice none 0 0] 30))) := ((((HBj.out.alloc HBU.out (.cells #[.int .i64 2, .int .i64 xn, .int .i64 kn, .int .i64 xv.k, .int .i64 xv.n, .string xv.s, .slice none 0 0] 58)).trans ((below_dn _ nq).mono HKB.out.lo)).trans HKP.out.2).alloc (by rw [HZ.out]; have := HBU.out; omega) _)
              rw [HZ.out] at HL1
              have hp0' : (0 : Int) ≤ (p : Int) := by omega
              have hpp : (p : Int) ≤ (p : Int) + 1 := by omega
              clear HKQ HKP HZ
              go_wp2_with (at_builtin; first | (have h3x := HMK; clear h3x; refine gappL rfl _ _ Ke.len Try.infoIs rfl (by decide) Try.underlying59 rfl rfl rfl HL1.out.1.km.row HL1.out.2.1 (Ke.one rfl) HL1.out.1.lo (by have := HJ.out.2; simp at *; omega) (by decide) ?_; intro v3 u3 hr hg hb3; have HK3 := Hid.mk' (HL1.out.1.addK hg hr hb3); have HB3 : Hid (Below B w2 u3) := (HMK.out).trans hb3; obtain ⟨k3o, k3c, hk3⟩ := row_slice hr; subst hk3; obtain ⟨⟨b0, b1, b2, -, -, -, -⟩, -⟩ := box7 HK3.out.box; have HL3 := Hid.mk' (HK3.out.litS (kn : Int)); clear hr hg hb3 HMK) | (refine iappL rfl _ _ rfl rfl rfl HL3.out.1.km.st HL3.out.2.1 HL3.out.1.lo (by have := HJ.out; have := HKN.out; simp at *; omega) ?_; intro v5 u5 hr hg hat hb5; have HK5 := Hid.mk' (HL3.out.1.addS hg hr hat hb5); have HB5 : Hid (Below B w2 u5) := (HB3.out.trans (HL3.out.2.2.mono HK3.out.lo)).trans hb5; clear hr hg hat hb5))
              go_roundw
              case rel => exact ⟨i + 1, xs ++ Ke.mk l (.slice (some ⟨gl, 0, none⟩) p Lc) :: ys ++ [Ke.mk [] (.slice none 0 0)], S1 ++ [(q : Int)] ++ [(kn : Int)], by omega, by go_num, (by have h := HK5.out.km; rw [show (xs ++ Ke.mk l (.slice (some ⟨gl, 0, none⟩) p Lc) :: ys ++ [Ke.mk [] (.slice none 0 0)]).length = xs.length + (ys.length + 1 + 1) by simp only [List.length_append, List.length_cons, List.length_nil]; omega] at h; exact h), (by show _ = _; rw [HNX.out, HLN.out, HQ.out]; simp), HB5.out⟩
              case measure => simp [intOf]; omega
            by_cases hx3 : xk = 3
            · subst hx3
              obtain ⟨S1, mm, hS, hn, hl⟩ := HOKX.out.2.2 (.inl rfl)
              simp only at hS hn hl
              subst hS
              subst hn
              rw [List.getElem?_map, Option.map_eq_some_iff] at hl
              obtain ⟨⟨kl, L⟩, hke, hkl⟩ := hl
              simp only at hkl
              subst hkl
              have HLN : Hid (lkN (kj.map (·.l), S1 ++ [(mm : Int)]) ⟨3, mm, xto, xv⟩ = (kj.map (·.l), S1)) := lkN_gone (.inl rfl) rfl
              obtain ⟨xs, ys, hxy, hxl⟩ := split_at hke
              have hmk : mm < kj.length := (List.getElem?_eq_some_iff.1 hke).1
              have HKB := Hid.mk' (KB.start HKj.out HBU.out #[.int .i64 3, .int .i64 mm, .int .i64 xto, .int .i64 xv.k, .int .i64 xv.n, .string xv.s, .slice none 0 0])
              have HUB : Hid (Below uq.heap.size uq (uq.alloc (.cells #[.int .i64 3, .int .i64 mm, .int .i64 xto, .int .i64 xv.k, .int .i64 xv.n, .string xv.s, .slice none 0 0] 58))) := (Below.refl _ _).alloc (Nat.le_refl _) _
              have hat := HKB.out.km
              rw [hxy] at hat
              obtain ⟨gk, ck, hKv, -, -, hgc, -⟩ := hat.at
              simp only [Value.slice.injEq] at hKv
              obtain ⟨hjo, -, -⟩ := hKv
              subst hjo
              have hL := hat.own (Ke.mk [] L) (by simp)
              obtain ⟨Lo, Lc, hLs⟩ := IOwn.shape hL
              simp only [List.length_nil] at hLs
              simp only [hLs, hxl] at hgc
              obtain ⟨gs, cs, hSv, hsc⟩ := HKB.out.km.last
              simp only [Value.slice.injEq] at hSv
              obtain ⟨hjso, hsn', hjsc⟩ := hSv
              subst hjso
              have HST := HKB.out.km.popS
              have hcap : S1.length ≤ jsc := by
                rcases HKB.out.km.st.2 with ⟨_, h0⟩ | ⟨gl, cap, cur, hv, _, _, hcap, _⟩
                · simp at h0
                · simp only [Value.slice.injEq] at hv
                  rw [hv.2.2]; simp at hcap; omega
              obtain ⟨a, ha⟩ : ∃ a, a = S1.length := ⟨_, rfl⟩
              have HA : Hid (a = S1.length) := ha
              rw [← ha] at hsc hsn' HST hcap
              have HSP := Hid.mk' HST
              subst hsn'
              have hmi : (mm : Int) < (kn : Int) := by rw [HKN.out.1]; omega
              have ha1 : (a : Int) < (a : Int) + 1 := by omega
              have ha0 : decide ((a : Int) < 0) = false := by simp
              have ha2 : (0 : Int) ≤ (a : Int) := by omega
              have hal : a ≤ 402 := by have h := HJ.out; have := HKN.out; simp at h this; omega
              have hknb : kn ≤ 402 := by have h := HJ.out; have := HKN.out; omega
              clear hat hL hLs hxy hxl hke hjsc ha HST hmk hx1 hx2
              go_wp2_with fail
              go_quiet (fail)
              have HKQ := Hid.mk' (HSP.out.below (below_dn _ nq))
              have HBQ : Hid (Below B w2 ((uq.alloc (.cells #[.int .i64 3, .int .i64 mm, .int .i64 xto, .int .i64 xv.k, .int .i64 xv.n, .string xv.s, .slice none 0 0] 58)).drewN nq)) := (HBj.out.alloc HBU.out _).trans ((below_dn _ nq).mono HKB.out.lo)
              go_wp2_with fail
              go_roundw
              case rel => exact ⟨i + 1, kj, S1, by omega, by go_num, HKQ.out, (by show _ = _; rw [HNX.out, HLN.out]), HBQ.out⟩
              case measure => simp [intOf]; omega
            by_cases hx4 : xk = 4
            · subst hx4
              obtain ⟨S1, mm, hS, hn, hl⟩ := HOKX.out.2.2 (.inr rfl)
              simp only at hS hn hl
              subst hS
              subst hn
              rw [List.getElem?_map, Option.map_eq_some_iff] at hl
              obtain ⟨⟨kl, L⟩, hke, hkl⟩ := hl
              simp only at hkl
              subst hkl
              have HLN : Hid (lkN (kj.map (·.l), S1 ++ [(mm : Int)]) ⟨4, mm, xto, xv⟩ = (kj.map (·.l), S1)) := lkN_gone (.inr rfl) rfl
              obtain ⟨xs, ys, hxy, hxl⟩ := split_at hke
              have hmk : mm < kj.length := (List.getElem?_eq_some_iff.1 hke).1
              have HKB := Hid.mk' (KB.start HKj.out HBU.out #[.int .i64 4, .int .i64 mm, .int .i64 xto, .int .i64 xv.k, .int .i64 xv.n, .string xv.s, .slice none 0 0])
              have HUB : Hid (Below uq.heap.size uq (uq.alloc (.cells #[.int .i64 4, .int .i64 mm, .int .i64 xto, .int .i64 xv.k, .int .i64 xv.n, .string xv.s, .slice none 0 0] 58))) := (Below.refl _ _).alloc (Nat.le_refl _) _
              have hat := HKB.out.km
              rw [hxy] at hat
              obtain ⟨gk, ck, hKv, -, -, hgc, -⟩ := hat.at
              simp only [Value.slice.injEq] at hKv
              obtain ⟨hjo, -, -⟩ := hKv
              subst hjo
              have hL := hat.own (Ke.mk [] L) (by simp)
              obtain ⟨Lo, Lc, hLs⟩ := IOwn.shape hL
              simp only [List.length_nil] at hLs
              simp only [hLs, hxl] at hgc
              obtain ⟨gs, cs, hSv, hsc⟩ := HKB.out.km.last
              simp only [Value.slice.injEq] at hSv
              obtain ⟨hjso, hsn', hjsc⟩ := hSv
              subst hjso
              have HST := HKB.out.km.popS
              have hcap : S1.length ≤ jsc := by
                rcases HKB.out.km.st.2 with ⟨_, h0⟩ | ⟨gl, cap, cur, hv, _, _, hcap, _⟩
                · simp at h0
                · simp only [Value.slice.injEq] at hv
                  rw [hv.2.2]; simp at hcap; omega
              obtain ⟨a, ha⟩ : ∃ a, a = S1.length := ⟨_, rfl⟩
              have HA : Hid (a = S1.length) := ha
              rw [← ha] at hsc hsn' HST hcap
              have HSP := Hid.mk' HST
              subst hsn'
              have hmi : (mm : Int) < (kn : Int) := by rw [HKN.out.1]; omega
              have ha1 : (a : Int) < (a : Int) + 1 := by omega
              have ha0 : decide ((a : Int) < 0) = false := by simp
              have ha2 : (0 : Int) ≤ (a : Int) := by omega
              have hal : a ≤ 402 := by have h := HJ.out; have := HKN.out; simp at h this; omega
              have hknb : kn ≤ 402 := by have h := HJ.out; have := HKN.out; omega
              clear hat hL hLs hxy hxl hke hjsc ha HST hmk hx1 hx2 hx3
              go_wp2_with fail
              go_quiet (fail)
              have HKQ := Hid.mk' (HSP.out.below (below_dn _ nq))
              have HBQ : Hid (Below B w2 ((uq.alloc (.cells #[.int .i64 4, .int .i64 mm, .int .i64 xto, .int .i64 xv.k, .int .i64 xv.n, .string xv.s, .slice none 0 0] 58)).drewN nq)) := (HBj.out.alloc HBU.out _).trans ((below_dn _ nq).mono HKB.out.lo)
              go_wp2_with fail
              go_roundw
              case rel => exact ⟨i + 1, kj, S1, by omega, by go_num, HKQ.out, (by show _ = _; rw [HNX.out, HLN.out]), HBQ.out⟩
              case measure => simp [intOf]; omega
            have b1 : (xk == 1) = false := by simpa using hx1
            have b2 : (xk == 2) = false := by simpa using hx2
            have b3 : (xk == 3) = false := by simpa using hx3
            have b4 : (xk == 4) = false := by simpa using hx4
            have HNE : Hid (lkN (kj.map (·.l), Sj) ⟨xk, xn, xto, xv⟩ = (kj.map (·.l), Sj)) := lkN_else hx1 hx2 hx3 hx4
            clear hx1 hx2 hx3 hx4
            have HKB := Hid.mk' (KB.start HKj.out HBU.out #[.int .i64 xk, .int .i64 xn, .int .i64 xto, .int .i64 xv.k, .int .i64 xv.n, .string xv.s, .slice none 0 0])
            have HUB : Hid (Below uq.heap.size uq (uq.alloc (.cells #[.int .i64 xk, .int .i64 xn, .int .i64 xto, .int .i64 xv.k, .int .i64 xv.n, .string xv.s, .slice none 0 0] 58))) := (Below.refl _ _).alloc (Nat.le_refl _) _
            have HKJ2 : Hid (KM B (uq.alloc (.cells #[.int .i64 xk, .int .i64 xn, .int .i64 xto, .int .i64 xv.k, .int .i64 xv.n, .string xv.s, .slice none 0 0] 58)) (.slice jo kn jc) (.slice jso sn jsc) kj Sj) := HKB.out.km
            have HBJ2 : Hid (Below B w2 (uq.alloc (.cells #[.int .i64 xk, .int .i64 xn, .int .i64 xto, .int .i64 xv.k, .int .i64 xv.n, .string xv.s, .slice none 0 0] 58))) := HBj.out.alloc HBU.out _
            go_wp2_with fail
            go_roundw
            case rel => exact ⟨i + 1, kj, Sj, by omega, by go_num, HKJ2.out, (HNX.out.trans HNE.out).symm, HBJ2.out⟩
            case measure => simp [intOf]; omega
          · have hie : td.length = i := by omega
            have HEXI : Hid (s'.es.length = Sj.length ∧ RL s'.st (kj.map (·.l), Sj)) := by
              have h := HALL.out.2
              have h2 := HLK.out
              rw [← hie, List.take_length] at h2
              rw [← h2] at h
              exact ⟨HEX.out _ _ h, h⟩
            have c0 := HSC.out uq HBj.out
            rw [HEXI.out.1, ← HKN.out.2] at c0
            have hk2 : (k : Int) + 1 < (m : Int) + 1 := by omega
            have hSl : sn ≤ 402 := by have := HJ.out; have := HKN.out; omega
            go_wp2_with fail
            go_roundw
            case rel => exact ⟨k + 1, kj, Sj, by omega, by go_num, HKj.out, (fun s2 hs2 => by have h := HS'.out; rw [hs2] at h; cases h; exact HEXI.out.2), HJ.out, HBj.out⟩
            case measure => simp [intOf]; omega
    · have HF : Hid (Below w.heap.size w wq) := HB2.out.trans (HB.out.mono (by rw [← HBB.out]; exact HB2.out.size))
      go_wp2_with fail
      go_ret
      exact ⟨rfl, HF.out⟩

theorem contract (H : Type) (enc : TypeId × Value → H) (W : World) (base : Nat) (args : Array Value) (ds gs : List (DataW H)) (before : List MemPlace)
    (hval : ∀ (j : Nat) t v, Try.f8.params[j]? = some t → args[j]? = some v → Value.okWide Try.prog W .any base t v)
    (hW : DataW.Whole enc Try.prog Try.f8.params.toList Rows.panicsLastSpec.vars false W args.toList ds gs before)
    (hsz : (DataW.weightsEach Try.prog (Try.f8.params.toList ++ Rows.panicsLastSpec.plain.varTypes Try.prog) (ds ++ gs)).all (· ≤ reachBytes) = true) :
    Calls Try.prog 8 args W fun e W' => ∃ v, e = .returned v ∧ Rows.panicsLastSpec.post enc Try.prog Try.f8 false true false false W args v W' := by
  have hW' := hW
  obtain ⟨p, q, hA0, hV, rfl, hfz, hnd⟩ := hW
  have hA : DataW.TrodAll enc Try.prog W 0 (fun _ => true) true Try.f8.params.toList args.toList ds p := hA0
  rw [Try.params8] at hA hval hsz
  obtain ⟨v0, vs0, d0, ds0, p0, q0, hargs, rfl, rfl, h0, r0⟩ := trodAll_cons hA
  obtain ⟨rfl, rfl, rfl⟩ := trodAll_nil r0
  obtain rfl : args = #[v0] := by cases args; simp_all
  obtain ⟨rfl, rfl⟩ := trodVars_none hV
  obtain ⟨ao0, len0, cap0, rfl⟩ := okWide_slice Try.underlying29 (hval 0 29 v0 rfl rfl)
  obtain ⟨es0, hC0, hN0⟩ := evs_came (j := 0) h0 hsz rfl rfl
  clear hA0
  simp only [List.append_nil] at hW'
  have hlt0 : ∀ x ∈ p0, x.block < W.heap.size := fun x hx => hW'.lt x (by simp [hx])
  refine (walk _ es0 W hC0 hN0).mono fun e W' ⟨he, bel⟩ => ?_
  subst he
  exact ⟨_, rfl, _, _, _, [], p0 ++ [], [], hW', trodAll_mk1 (shut_bool Try.underlying4 _), (trodAll_cons_mk (Below.trod (by kernel_rfl) (by kernel_rfl) (of_decide_eq_true (by kernel_rfl)) h0 bel hlt0) trodAll_mk0), rfl, bel.frame _, fun h => by cases h⟩

set_option maxRecDepth 100000 in
theorem lifted (os : Os) (started : os.Started) (H : Type) (enc : TypeId × Value → H) :
    ReturnsInHanded {} Try.checked os 8 .any (Rows.panicsLastSpec.pre6 enc Try.prog Try.f8 Rows.panicsLastRow.domain false) (Rows.panicsLastSpec.post enc Try.prog Try.f8 false true false false) := by
  refine returnsInHanded_of_change_sized (C := Try.checked) own started (by kernel_rfl) Try.func8
    (ChangeSpec.witness6 (enc := enc) (C := Try.checked) false ⟨#[], #[.slice none 0 0], []⟩ 8 (by kernel_rfl) (by kernel_rfl) (by kernel_rfl) (by kernel_rfl)) ?_
  intro W base args ds gs before hval0 hW hcnd hsz _
  exact contract H enc W base args ds gs before hval0 hW hsz

theorem proved : Rows.PanicsLastSaid :=
  OpenClaim.holds_of_wide 8 Try.f8 rfl rfl rfl rfl rfl rfl rfl ⟨rfl, rfl, rfl, rfl, rfl⟩ rfl rfl rfl rfl rfl (by kernel_rfl) Try.func8 (by kernel_rfl)
    (of_decide_eq_true (by kernel_rfl)) (by unfold Func.isWrapper; first | (rw [if_pos (by decide +kernel)]; kernel_rfl) | (rw [if_neg (by decide +kernel)]; exact ⟨rfl, rfl⟩))
    (fun os started H enc _ => lifted os started H enc)
#print axioms proved
end Go.Proofs.Ytcnpoldcebdhjaa.panicsLast
