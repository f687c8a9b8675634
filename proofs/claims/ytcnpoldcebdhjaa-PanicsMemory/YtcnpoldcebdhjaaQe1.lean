/- Events such as may happen. -/
import Derived.Test.YtcnpoldcebdhjaaQw15
namespace Go.Proofs.Ytcnpoldcebdhjaa
open Go.ChangeShapes Go.WideShapes Go.ChangeAt Go.RowKit
set_option maxRecDepth 100000
set_option linter.unusedSimpArgs false
set_option linter.unusedVariables false
theorem Try.infoEv : (Try.prog.info? 34).map (fun i => (i.zero, i.size, i.bytes)) = some (some (.agg #[.int .i64 0, .int .i64 0, .int .i64 0, .int .i64 0, .string ⟨#[]⟩, .slice none 0 0]), 6, 72) := by kernel_rfl
/-- An event, and where its value's list lies. -/
structure Eo where
  x : Ev
  lo : Option Addr
  ln : Nat
  lc : Nat
def Eo.L (e : Eo) : Value := .slice e.lo e.ln e.lc
def Eo.cells (e : Eo) : List Value := [.int .i64 e.x.k, .int .i64 e.x.n, .int .i64 e.x.vk, .int .i64 e.x.vn, .string e.x.vs, .slice e.lo e.ln e.lc]
theorem Eo.len (e : Eo) : e.cells.length = 6 := rfl
theorem Eo.one (e : Eo) : ∀ u ∈ e.cells, u.oneCell' = true := by
  intro u hu
  simp [Eo.cells] at hu
  rcases hu with rfl | rfl | rfl | rfl | rfl | rfl <;> rfl
/-- Events that came in. -/
structure EvSrc (w : World) (v : Value) (es : List Eo) : Prop where
  row : RLies 6 Eo.cells w v es
  own : ∀ e ∈ es, ∃ l, l.length = e.ln ∧ ILies w e.L l ∧ l.length * 8 ≤ 140737488351232
theorem EvSrc.below {w w' : World} {v : Value} {es : List Eo} (h : EvSrc w v es) (hb : Below w.heap.size w w') : EvSrc w' v es :=
  ⟨h.row.below hb (Nat.le_refl _), fun e he => by obtain ⟨l, h0, h1, h2⟩ := h.own e he; exact ⟨l, h0, h1.below hb (Nat.le_refl _), h2⟩⟩
set_option maxHeartbeats 4000000 in
theorem own_own (k n : Int) (s : ByteArray) (lo : Option Addr) (ln lc : Nat) (l : List Int) (w : World) (hl : l.length = ln) (hi : ILies w (.slice lo ln lc) l) (hz : l.length * 8 ≤ 140737488351232) :
    Calls Try.prog 37 #[.agg #[.int .i64 k, .int .i64 n, .string s, .slice lo ln lc]] w fun e w' => ∃ lo' lc', e = .returned (.agg #[.int .i64 k, .int .i64 n, .string s, .slice lo' ln lc']) ∧ Below w.heap.size w w' := by
  have HIL : Hid (∀ u, Below w.heap.size w u → ILies u (.slice lo ln lc) l) := fun u hu => hi.below hu (Nat.le_refl _)
  have HZ : Hid (l.length * 8 ≤ 140737488355328) := by show _ ≤ _; omega
  have HL : Hid (l.length = ln) := hl
  clear hi hz hl
  go_enter Try.func37, Try.ntmps37
  go_wp2_with (at_builtin; refine icopy rfl _ _ rfl rfl rfl (HIL.out _ (((Below.refl _ _).alloc (Nat.le_refl _) _).alloc (by simp) _)) HZ.out 0 (Nat.zero_le _) ?_; intro v' w1 hown hat hb; obtain ⟨lo', lc', hv⟩ := IOwn.shape hown; rw [HL.out] at hv; subst hv; obtain ⟨g1, g2, hz, hb2⟩ := two_boxes hb; obtain ⟨⟨c0, c1, c2, c3⟩, ⟨f0, f1, f2, f3⟩⟩ := box4 g1; obtain ⟨⟨d0, d1, d2, d3⟩, ⟨e0, e1, e2, e3⟩⟩ := box4 g2; have HB := Hid.mk' hb2; clear hb hb2 g1 g2 hown hat)
  exact bodyPost_ret (v := .agg #[.int .i64 k, .int .i64 n, .string s, .slice lo' ln lc']) (by simp [results, Try.results37, go_sem, c0, c1, c2, c3, d0, d1, d2, d3]) rfl ⟨lo', lc', rfl, ((((HB.out.setCell (Nat.le_refl _) _).setCell (by simp) _).setCell (by simp) _).setCell (by simp) _).setCell (by simp) _⟩
theorem tmod_gt (v n : Int) (hn : 0 < n) : -n < v.tmod n := by
  have := Int.tmod_lt_of_pos (-v) hn
  rw [Int.neg_tmod] at this
  omega
/-- A number between 0 and n. -/
def spotI (v n : Int) : Int := if v.tmod n < 0 then v.tmod n + n else v.tmod n
theorem own_spot6 (v : Int) (w : World) : Calls Try.prog 38 #[.int .i64 v, .int .i64 6] w fun e w' => e = .returned (.int .i64 (spotI v 6)) ∧ w' = w := by
  unfold spotI
  by_cases h : v.tmod 6 < 0
  · rw [if_pos h]
    have h1 : -6 < v.tmod 6 := tmod_gt v _ (by decide)
    go_enter Try.func38, Try.ntmps38
    go_wp2_with fail
    go_ret
    exact ⟨rfl, rfl⟩
  · rw [if_neg h]
    have h2 : 0 ≤ v.tmod 6 := by omega
    have h3 : v.tmod 6 < 6 := Int.tmod_lt_of_pos v (by decide)
    go_enter Try.func38, Try.ntmps38
    go_wp2_with fail
    go_ret
    exact ⟨rfl, rfl⟩
theorem own_spot256 (v : Int) (w : World) : Calls Try.prog 38 #[.int .i64 v, .int .i64 256] w fun e w' => e = .returned (.int .i64 (spotI v 256)) ∧ w' = w := by
  unfold spotI
  by_cases h : v.tmod 256 < 0
  · rw [if_pos h]
    have h1 : -256 < v.tmod 256 := tmod_gt v _ (by decide)
    go_enter Try.func38, Try.ntmps38
    go_wp2_with fail
    go_ret
    exact ⟨rfl, rfl⟩
  · rw [if_neg h]
    have h2 : 0 ≤ v.tmod 256 := by omega
    have h3 : v.tmod 256 < 256 := Int.tmod_lt_of_pos v (by decide)
    go_enter Try.func38, Try.ntmps38
    go_wp2_with fail
    go_ret
    exact ⟨rfl, rfl⟩
theorem spotI_range (v n : Int) (hn : 0 < n) : 0 ≤ spotI v n ∧ spotI v n < n := by
  unfold spotI
  have h1 : -n < v.tmod n := tmod_gt v n hn
  have h3 : v.tmod n < n := Int.tmod_lt_of_pos v hn
  split <;> omega
def vk1 (e : Ev) : Int := if e.k = 4 ∧ e.vk ≠ 1 ∧ e.vk ≠ 3 ∧ e.vk ≠ 5 then 1 else e.vk
def kOf (e : Ev) : Int := 1 + spotI (wrap64 (e.k - 1)) 6
def vk2 (e : Ev) : Int := if kOf e = 4 ∧ vk1 e ≠ 3 ∧ vk1 e ≠ 5 then 1 else vk1 e
/-- An event such as may happen. -/
def evOf (e : Ev) : Ev := ⟨kOf e, e.n, vk2 e, e.vn, e.vs⟩
theorem set2345 {w w0 : World} {g B : Nat} {c0 c1 c2 c3 c4 c5 : Value} {t : TypeId} (h : w.heap[g]? = some (.cells #[c0, c1, c2, c3, c4, c5] t (0, 0))) (v2 v3 v4 v5 : Value) (hb : Below B w0 w) (hB : B ≤ g) :
    ∃ u, u = ((((w.setCell ⟨g, 2, none⟩ v2).setCell ⟨g, 3, none⟩ v3).setCell ⟨g, 4, none⟩ v4).setCell ⟨g, 5, none⟩ v5) ∧ u.heap[g]? = some (.cells #[c0, c1, v2, v3, v4, v5] t (0, 0)) ∧ Below B w0 u := by
  refine ⟨_, rfl, ?_, (((hb.setCell hB _).setCell hB _).setCell hB _).setCell hB _⟩
  rw [heap_setCell_same _ g 5 _ t v5 (heap_setCell_same _ g 4 _ t v4 (heap_setCell_same _ g 3 _ t v3 (heap_setCell_same w g 2 _ t v2 h)))]
  rfl
theorem set1 {w w0 : World} {g B i : Nat} {cs : Array Value} {t : TypeId} (h : w.heap[g]? = some (.cells cs t (0, 0))) (v : Value) (hb : Below B w0 w) (hB : B ≤ g) :
    ∃ u, u = w.setCell ⟨g, i, none⟩ v ∧ u.heap[g]? = some (.cells (cs.setIfInBounds i v) t (0, 0)) ∧ Below B w0 u :=
  ⟨_, rfl, heap_setCell_same w g i cs t v h, hb.setCell hB v⟩
set_option maxHeartbeats 30000000 in
theorem own_events (v : Value) (es : List Eo) (w : World) (h : EvSrc w v es) (hn : es.length ≤ 140737488351232) :
    Calls Try.prog 21 #[v] w fun e w' => ∃ v' es', e = .returned v' ∧ w'.ownsRow w.heap.size 34 6 v' es'.length (rc Eo.cells es') ∧ es'.map (·.x) = (es.take 400).map (fun e => evOf e.x) ∧ Below w.heap.size w w' := by
  obtain ⟨vo, vc, hv⟩ := h.row.shape
  subst hv
  have HN : Hid (es.length ≤ 140737488351232) := hn
  obtain ⟨n, hn1⟩ : ∃ n, n = es.length := ⟨_, rfl⟩
  have HLEN : Hid (n = es.length) := hn1
  have hnb : n ≤ 140737488351232 := by omega
  rw [← hn1] at h ⊢
  have HX : Hid (∀ k (e : Eo), es[k]? = some e → ∃ b off, vo = some ⟨b, off, none⟩ ∧ ∀ u, Below w.heap.size w u → (u.cell? ⟨b, off + k * 6, none⟩ = some (.int .i64 e.x.k) ∧ u.cell? ⟨b, off + k * 6 + 1, none⟩ = some (.int .i64 e.x.n) ∧ u.cell? ⟨b, off + k * 6 + 2, none⟩ = some (.int .i64 e.x.vk) ∧ u.cell? ⟨b, off + k * 6 + 3, none⟩ = some (.int .i64 e.x.vn) ∧ u.cell? ⟨b, off + k * 6 + 4, none⟩ = some (.string e.x.vs) ∧ u.cell? ⟨b, off + k * 6 + 5, none⟩ = some (.slice e.lo e.ln e.lc)) ∧ ∀ vk nn s, Calls Try.prog 37 #[.agg #[.int .i64 vk, .int .i64 nn, .string s, .slice e.lo e.ln e.lc]] u fun x w' => ∃ lo' lc', x = .returned (.agg #[.int .i64 vk, .int .i64 nn, .string s, .slice lo' e.ln lc']) ∧ Below u.heap.size u w') := fun k e hk => by
    obtain ⟨b, off, cap, h1, h2⟩ := h.row.at hk
    cases h1
    obtain ⟨l, l1, l2, l3⟩ := h.own e (List.mem_of_getElem? hk)
    refine ⟨b, off, rfl, fun u hu => ⟨?_, fun vk nn s => own_own vk nn s e.lo e.ln e.lc l u l1 (l2.below hu (Nat.le_refl _)) l3⟩⟩
    have get : ∀ (j : Nat) x, e.cells[j]? = some x → u.cell? ⟨b, off + (k * 6 + j), none⟩ = some x := fun j x hj => by
      have := h2 j x hj
      rw [hu.cell (World.block_lt_of_cell? _ _ this)]
      exact this
    refine ⟨?_, ?_, ?_, ?_, ?_, ?_⟩
    · have := get 0 _ rfl; simpa using this
    · have := get 1 _ rfl; simpa [Nat.add_assoc] using this
    · have := get 2 _ rfl; simpa [Nat.add_assoc] using this
    · have := get 3 _ rfl; simpa [Nat.add_assoc] using this
    · have := get 4 _ rfl; simpa [Nat.add_assoc] using this
    · have := get 5 _ rfl; simpa [Nat.add_assoc] using this
  clear h hn hn1
  go_enter Try.func21, Try.ntmps21
  go_wp2_with fail
  go_loopw [3, 4] (fun s3 s4 wr => ∃ (k : Nat) (es' : List Eo), k ≤ n ∧ k < 400 ∧ s4 = .int .i64 k ∧ Hid (es'.length = k) ∧ Hid (es'.map (·.x) = (es.take k).map (fun e => evOf e.x)) ∧ Hid (wr.ownsRow w.heap.size 34 6 s3 es'.length (rc Eo.cells es')) ∧ Hid (Below w.heap.size w wr)) (fun _ i _ => n - (intOf i).toNat)
  case atStart => exact ⟨0, [], Nat.zero_le _, by decide, rfl, rfl, by simp [Hid], World.ownsRow_nil _ _ _ _, Below.refl _ _⟩
  case round =>
    obtain ⟨k, es', hk, hk4, rfl, HEL, HEM, HROW, HB⟩ := hrel
    obtain ⟨wq, hwq⟩ : ∃ x, wr = x := ⟨_, rfl⟩
    subst hwq
    obtain ⟨so, sc, hs3⟩ := row_slice HROW.out
    rw [HEL.out] at hs3
    subst hs3
    by_cases hlt : k < n
    · have hlti : (k : Int) < (n : Int) := by omega
      obtain ⟨⟨⟨ek, en, evk, evn, evs⟩, lo, ln, lc⟩, he⟩ : ∃ e, es[k]? = some e := ⟨es[k]'(by rw [← HLEN.out]; exact hlt), List.getElem?_eq_getElem _⟩
      obtain ⟨b, off, rfl, hx⟩ := HX.out k _ he
      simp only at hx
      obtain ⟨⟨c0, c1, c2, c3, c4, c5⟩, -⟩ := hx wr HB.out
      have HOWN : Hid (∀ u, Below w.heap.size w u → ∀ vk nn s, Calls Try.prog 37 #[.agg #[.int .i64 vk, .int .i64 nn, .string s, .slice lo ln lc]] u fun x w' => ∃ lo' lc', x = .returned (.agg #[.int .i64 vk, .int .i64 nn, .string s, .slice lo' ln lc']) ∧ Below u.heap.size u w') := fun u hu => (hx u hu).2
      have HTAKE : Hid (∀ e2 : Ev, e2 = evOf ⟨ek, en, evk, evn, evs⟩ → (es'.map (·.x) ++ [e2]) = (es.take (k + 1)).map (fun e => evOf e.x)) := fun e2 h2 => by
        rw [HEM.out, List.take_add_one, he, h2]; simp
      have HOUT : Hid (∀ (e2 : Eo) (v' : Value) (u' : World), u'.ownsRow w.heap.size 34 6 v' (es' ++ [e2]).length (rc Eo.cells (es' ++ [e2])) → ∃ ao cap, v' = .slice ao (k + 1) cap) := fun e2 v' u' hr => by
        obtain ⟨ao, cap, hh⟩ := row_slice hr
        exact ⟨ao, cap, by rw [hh, List.length_append, HEL.out]; rfl⟩
      clear hx he
      obtain ⟨sp, hsp⟩ : ∃ sp, sp = spotI (wrap64 (ek - 1)) 6 := ⟨_, rfl⟩
      have hspr := spotI_range (wrap64 (ek - 1)) 6 (by decide)
      rw [← hsp] at hspr
      obtain ⟨hsp0, hsp6⟩ := hspr
      have HSP : Hid (∀ u, Calls Try.prog 38 #[.int .i64 (wrap64 (ek - 1)), .int .i64 6] u fun e w' => e = .returned (.int .i64 sp) ∧ w' = u) := fun u => by rw [hsp]; exact own_spot6 _ _
      have HKO : Hid (1 + sp = kOf ⟨ek, en, evk, evn, evs⟩) := by show 1 + sp = _; rw [hsp]; rfl
      clear hsp
      by_cases h4 : ek = 4
      · have h4b : (ek == 4) = true := by simpa using h4
        have H4 := Hid.mk' h4
        clear h4
        by_cases hv1 : evk = 1
        · have bv1 : (evk != 1) = false := by simp [hv1]
          have bv3 : (evk != 3) = true := by simp [hv1]
          have bv5 : (evk != 5) = true := by simp [hv1]
          have HV10 := Hid.mk' hv1
          clear hv1
          by_cases hs4 : 1 + sp = 4
          · have hs4b : (1 + sp == 4) = true := by simpa using hs4
            have HS4 := Hid.mk' hs4
            clear hs4
            have HV1 : Hid (vk1 ⟨ek, en, evk, evn, evs⟩ = evk) := by show vk1 ⟨ek, en, evk, evn, evs⟩ = _; unfold vk1; first | (simp [*]; done) | (simp_all [Hid]; done)
            go_wp2_with fail
            refine (HOWN.out _ (HB.out.trans (((Below.refl _ _).alloc (Nat.le_refl _) _).mono HB.out.size)) _ _ _).mono ?_
            rintro x w1 ⟨lo1, lc1, rfl, hb1⟩
            have hbx := box_stays hb1
            obtain ⟨⟨d0, d1, d2, d3, d4, d5⟩, ⟨f0, f1, f2, f3, f4, f5⟩⟩ := box6 hbx
            have hup := below_up hb1
            have hsz : wr.heap.size < w1.heap.size := by have := hb1.size; simp at this; omega
            clear hb1 c0 c1 c2 c3 c4 c5
            go_wp2_with fail
            refine (HSP.out _).mono ?_
            rintro x u1 ⟨rfl, rfl⟩
            obtain ⟨u1, hu1, hg1, hl1⟩ := set2345 hbx (.int .i64 evk) (.int .i64 evn) (.string evs) (.slice lo1 ln lc1) hup (Nat.le_refl _)
            rw [← hu1]
            have hgA := hg1
            have hlA := hl1
            clear hg1 hl1 hu1
            clear hbx hup hsz d0 d1 d2 d3 d4 d5 f0 f1 f2 f3 f4 f5
            obtain ⟨⟨d0, d1, d2, d3, d4, d5⟩, ⟨f0, f1, f2, f3, f4, f5⟩⟩ := box6 hgA
            have HV2 : Hid (evOf ⟨ek, en, evk, evn, evs⟩ = ⟨1 + sp, en, 1, evn, evs⟩) := by
              show evOf ⟨ek, en, evk, evn, evs⟩ = _
              unfold evOf vk2
              rw [HV1.out, ← HKO.out]
              first | (simp [*]; done) | (simp_all [Hid]; done)
            obtain ⟨u3, hu3, hg3, hl3⟩ := set1 (i := 0) hgA (.int .i64 (1 + sp)) hlA (Nat.le_refl _)
            obtain ⟨u4, hu4, hg4, hl4⟩ := set1 (i := 2) hg3 (.int .i64 1) hl3 (Nat.le_refl _)
            have hgZ : u4.heap[wr.heap.size]? = some (.cells #[.int .i64 (1 + sp), .int .i64 en, .int .i64 1, .int .i64 evn, .string evs, .slice lo1 ln lc1] 34 (0, 0)) := hg4
            have hlZ := hl4
            have hal : Below u4.heap.size u4 (u4.alloc (.cells #[.int .i64 (1 + sp), .int .i64 en, .int .i64 1, .int .i64 evn, .string evs, .slice lo1 ln lc1] 34)) := (Below.refl _ _).alloc (Nat.le_refl _) _
            have HBZ : Hid (Below w.heap.size w u4) := HB.out.trans (hlZ.mono HB.out.size)
            have HROWZ : Hid ((u4.alloc (.cells #[.int .i64 (1 + sp), .int .i64 en, .int .i64 1, .int .i64 evn, .string evs, .slice lo1 ln lc1] 34)).ownsRow w.heap.size 34 6 (.slice so k sc) es'.length (rc Eo.cells es')) := row_below (row_below HROW.out hlZ) hal
            have HLIT : Hid ((u4.alloc (.cells #[.int .i64 (1 + sp), .int .i64 en, .int .i64 1, .int .i64 evn, .string evs, .slice lo1 ln lc1] 34)).ownsRow w.heap.size 34 6 (.slice (some ⟨wr.heap.size, 0, none⟩) 1 1) 1 (Eo.cells ⟨⟨1 + sp, en, 1, evn, evs⟩, lo1, ln, lc1⟩) ∨ True) := .inr trivial
            have hszz : u4.heap.size = u1.heap.size := by rw [hu4, hu3]; simp [World.setCell]
            have HLZ : Hid ((u4.alloc (.cells #[.int .i64 (1 + sp), .int .i64 en, .int .i64 1, .int .i64 evn, .string evs, .slice lo1 ln lc1] 34)).ownsRow w.heap.size 34 6 (.slice (some ⟨u1.heap.size, 0, none⟩) 1 1) 1 (Eo.cells ⟨⟨1 + sp, en, 1, evn, evs⟩, lo1, ln, lc1⟩)) := by rw [← hszz]; exact World.ownsRow_lit u4 #[.int .i64 (1 + sp), .int .i64 en, .int .i64 1, .int .i64 evn, .string evs, .slice lo1 ln lc1] 1 HBZ.out.size (by decide) rfl
            clear hszz
            have HBAL : Hid (Below w.heap.size w (u4.alloc (.cells #[.int .i64 (1 + sp), .int .i64 en, .int .i64 1, .int .i64 evn, .string evs, .slice lo1 ln lc1] 34))) := HBZ.out.trans (hal.mono HBZ.out.size)
            subst hu4
            subst hu3
            clear hgA hlA hgZ hlZ hg3 hl3 hg4 hl4 hal HLIT
            by_cases h399 : k + 1 = 400
            · have hki : (k : Int) + 1 = 400 := by omega
              have HK399 : Hid (k + 1 = 400) := h399
              go_wp2_with (at_builtin; refine gappL rfl _ _ Eo.len Try.infoEv rfl (by decide) Try.underlying29 rfl rfl rfl HROWZ.out HLZ.out (Eo.one _) HBAL.out.size (by rw [HEL.out]; omega) (by decide) ?_; intro v2 u5 hr hg hb5; obtain ⟨ao, cap, hv2⟩ := HOUT.out _ _ _ hr; subst hv2; have HR5 := Hid.mk' hr; have HB5 : Hid (Below w.heap.size w u5) := HBAL.out.trans hb5; clear hr hg hb5)
              go_ret
              refine ⟨_, es' ++ [⟨⟨1 + sp, en, 1, evn, evs⟩, lo1, ln, lc1⟩], rfl, (by have h5 := HR5.out; rw [HK399.out] at h5; exact h5), ?_, HB5.out⟩
              rw [List.map_append, show es.take 400 = es.take (k + 1) by rw [HK399.out]]
              exact HTAKE.out _ HV2.out.symm
            · have hkb : ((k : Int) + 1 == 400) = false := by simp; omega
              go_wp2_with (at_builtin; refine gappL rfl _ _ Eo.len Try.infoEv rfl (by decide) Try.underlying29 rfl rfl rfl HROWZ.out HLZ.out (Eo.one _) HBAL.out.size (by rw [HEL.out]; omega) (by decide) ?_; intro v2 u5 hr hg hb5; obtain ⟨ao, cap, hv2⟩ := HOUT.out _ _ _ hr; subst hv2; have HR5 := Hid.mk' hr; have HB5 : Hid (Below w.heap.size w u5) := HBAL.out.trans hb5; clear hr hg hb5)
              go_roundw
              case rel => exact ⟨k + 1, _, by omega, by omega, by go_num, (by show _ = _; rw [List.length_append, HEL.out]; rfl), (by show _ = _; rw [List.map_append]; exact HTAKE.out _ HV2.out.symm), HR5.out, HB5.out⟩
              case measure => simp [intOf]; omega
          · have hs4b : (1 + sp == 4) = false := by simpa using hs4
            have HV1 : Hid (vk1 ⟨ek, en, evk, evn, evs⟩ = evk) := by show vk1 ⟨ek, en, evk, evn, evs⟩ = _; unfold vk1; first | (simp [*]; done) | (simp_all [Hid]; done)
            go_wp2_with fail
            refine (HOWN.out _ (HB.out.trans (((Below.refl _ _).alloc (Nat.le_refl _) _).mono HB.out.size)) _ _ _).mono ?_
            rintro x w1 ⟨lo1, lc1, rfl, hb1⟩
            have hbx := box_stays hb1
            obtain ⟨⟨d0, d1, d2, d3, d4, d5⟩, ⟨f0, f1, f2, f3, f4, f5⟩⟩ := box6 hbx
            have hup := below_up hb1
            have hsz : wr.heap.size < w1.heap.size := by have := hb1.size; simp at this; omega
            clear hb1 c0 c1 c2 c3 c4 c5
            go_wp2_with fail
            refine (HSP.out _).mono ?_
            rintro x u1 ⟨rfl, rfl⟩
            obtain ⟨u1, hu1, hg1, hl1⟩ := set2345 hbx (.int .i64 evk) (.int .i64 evn) (.string evs) (.slice lo1 ln lc1) hup (Nat.le_refl _)
            rw [← hu1]
            have hgA := hg1
            have hlA := hl1
            clear hg1 hl1 hu1
            clear hbx hup hsz d0 d1 d2 d3 d4 d5 f0 f1 f2 f3 f4 f5
            obtain ⟨⟨d0, d1, d2, d3, d4, d5⟩, ⟨f0, f1, f2, f3, f4, f5⟩⟩ := box6 hgA
            have HV2 : Hid (evOf ⟨ek, en, evk, evn, evs⟩ = ⟨1 + sp, en, evk, evn, evs⟩) := by
              show evOf ⟨ek, en, evk, evn, evs⟩ = _
              unfold evOf vk2
              rw [HV1.out, ← HKO.out]
              first | (simp [*]; done) | (simp_all [Hid]; done)
            obtain ⟨u3, hu3, hg3, hl3⟩ := set1 (i := 0) hgA (.int .i64 (1 + sp)) hlA (Nat.le_refl _)
            have hgZ : u3.heap[wr.heap.size]? = some (.cells #[.int .i64 (1 + sp), .int .i64 en, .int .i64 evk, .int .i64 evn, .string evs, .slice lo1 ln lc1] 34 (0, 0)) := hg3
            have hlZ := hl3
            have hal : Below u3.heap.size u3 (u3.alloc (.cells #[.int .i64 (1 + sp), .int .i64 en, .int .i64 evk, .int .i64 evn, .string evs, .slice lo1 ln lc1] 34)) := (Below.refl _ _).alloc (Nat.le_refl _) _
            have HBZ : Hid (Below w.heap.size w u3) := HB.out.trans (hlZ.mono HB.out.size)
            have HROWZ : Hid ((u3.alloc (.cells #[.int .i64 (1 + sp), .int .i64 en, .int .i64 evk, .int .i64 evn, .string evs, .slice lo1 ln lc1] 34)).ownsRow w.heap.size 34 6 (.slice so k sc) es'.length (rc Eo.cells es')) := row_below (row_below HROW.out hlZ) hal
            have HLIT : Hid ((u3.alloc (.cells #[.int .i64 (1 + sp), .int .i64 en, .int .i64 evk, .int .i64 evn, .string evs, .slice lo1 ln lc1] 34)).ownsRow w.heap.size 34 6 (.slice (some ⟨wr.heap.size, 0, none⟩) 1 1) 1 (Eo.cells ⟨⟨1 + sp, en, evk, evn, evs⟩, lo1, ln, lc1⟩) ∨ True) := .inr trivial
            have hszz : u3.heap.size = u1.heap.size := by rw [hu3]; simp [World.setCell]
            have HLZ : Hid ((u3.alloc (.cells #[.int .i64 (1 + sp), .int .i64 en, .int .i64 evk, .int .i64 evn, .string evs, .slice lo1 ln lc1] 34)).ownsRow w.heap.size 34 6 (.slice (some ⟨u1.heap.size, 0, none⟩) 1 1) 1 (Eo.cells ⟨⟨1 + sp, en, evk, evn, evs⟩, lo1, ln, lc1⟩)) := by rw [← hszz]; exact World.ownsRow_lit u3 #[.int .i64 (1 + sp), .int .i64 en, .int .i64 evk, .int .i64 evn, .string evs, .slice lo1 ln lc1] 1 HBZ.out.size (by decide) rfl
            clear hszz
            have HBAL : Hid (Below w.heap.size w (u3.alloc (.cells #[.int .i64 (1 + sp), .int .i64 en, .int .i64 evk, .int .i64 evn, .string evs, .slice lo1 ln lc1] 34))) := HBZ.out.trans (hal.mono HBZ.out.size)
            subst hu3
            clear hgA hlA hgZ hlZ hg3 hl3 hal HLIT
            by_cases h399 : k + 1 = 400
            · have hki : (k : Int) + 1 = 400 := by omega
              have HK399 : Hid (k + 1 = 400) := h399
              go_wp2_with (at_builtin; refine gappL rfl _ _ Eo.len Try.infoEv rfl (by decide) Try.underlying29 rfl rfl rfl HROWZ.out HLZ.out (Eo.one _) HBAL.out.size (by rw [HEL.out]; omega) (by decide) ?_; intro v2 u5 hr hg hb5; obtain ⟨ao, cap, hv2⟩ := HOUT.out _ _ _ hr; subst hv2; have HR5 := Hid.mk' hr; have HB5 : Hid (Below w.heap.size w u5) := HBAL.out.trans hb5; clear hr hg hb5)
              go_ret
              refine ⟨_, es' ++ [⟨⟨1 + sp, en, evk, evn, evs⟩, lo1, ln, lc1⟩], rfl, (by have h5 := HR5.out; rw [HK399.out] at h5; exact h5), ?_, HB5.out⟩
              rw [List.map_append, show es.take 400 = es.take (k + 1) by rw [HK399.out]]
              exact HTAKE.out _ HV2.out.symm
            · have hkb : ((k : Int) + 1 == 400) = false := by simp; omega
              go_wp2_with (at_builtin; refine gappL rfl _ _ Eo.len Try.infoEv rfl (by decide) Try.underlying29 rfl rfl rfl HROWZ.out HLZ.out (Eo.one _) HBAL.out.size (by rw [HEL.out]; omega) (by decide) ?_; intro v2 u5 hr hg hb5; obtain ⟨ao, cap, hv2⟩ := HOUT.out _ _ _ hr; subst hv2; have HR5 := Hid.mk' hr; have HB5 : Hid (Below w.heap.size w u5) := HBAL.out.trans hb5; clear hr hg hb5)
              go_roundw
              case rel => exact ⟨k + 1, _, by omega, by omega, by go_num, (by show _ = _; rw [List.length_append, HEL.out]; rfl), (by show _ = _; rw [List.map_append]; exact HTAKE.out _ HV2.out.symm), HR5.out, HB5.out⟩
              case measure => simp [intOf]; omega
        · have bv1 : (evk != 1) = true := by simp [hv1]
          by_cases hv3 : evk = 3
          · have bv3 : (evk != 3) = false := by simp [hv3]
            have bv5 : (evk != 5) = true := by simp [hv3]
            have HV30 := Hid.mk' hv3
            clear hv3
            by_cases hs4 : 1 + sp = 4
            · have hs4b : (1 + sp == 4) = true := by simpa using hs4
              have HS4 := Hid.mk' hs4
              clear hs4
              have HV1 : Hid (vk1 ⟨ek, en, evk, evn, evs⟩ = evk) := by show vk1 ⟨ek, en, evk, evn, evs⟩ = _; unfold vk1; first | (simp [*]; done) | (simp_all [Hid]; done)
              go_wp2_with fail
              refine (HOWN.out _ (HB.out.trans (((Below.refl _ _).alloc (Nat.le_refl _) _).mono HB.out.size)) _ _ _).mono ?_
              rintro x w1 ⟨lo1, lc1, rfl, hb1⟩
              have hbx := box_stays hb1
              obtain ⟨⟨d0, d1, d2, d3, d4, d5⟩, ⟨f0, f1, f2, f3, f4, f5⟩⟩ := box6 hbx
              have hup := below_up hb1
              have hsz : wr.heap.size < w1.heap.size := by have := hb1.size; simp at this; omega
              clear hb1 c0 c1 c2 c3 c4 c5
              go_wp2_with fail
              refine (HSP.out _).mono ?_
              rintro x u1 ⟨rfl, rfl⟩
              obtain ⟨u1, hu1, hg1, hl1⟩ := set2345 hbx (.int .i64 evk) (.int .i64 evn) (.string evs) (.slice lo1 ln lc1) hup (Nat.le_refl _)
              rw [← hu1]
              have hgA := hg1
              have hlA := hl1
              clear hg1 hl1 hu1
              clear hbx hup hsz d0 d1 d2 d3 d4 d5 f0 f1 f2 f3 f4 f5
              obtain ⟨⟨d0, d1, d2, d3, d4, d5⟩, ⟨f0, f1, f2, f3, f4, f5⟩⟩ := box6 hgA
              have HV2 : Hid (evOf ⟨ek, en, evk, evn, evs⟩ = ⟨1 + sp, en, evk, evn, evs⟩) := by
                show evOf ⟨ek, en, evk, evn, evs⟩ = _
                unfold evOf vk2
                rw [HV1.out, ← HKO.out]
                first | (simp [*]; done) | (simp_all [Hid]; done)
              obtain ⟨u3, hu3, hg3, hl3⟩ := set1 (i := 0) hgA (.int .i64 (1 + sp)) hlA (Nat.le_refl _)
              have hgZ : u3.heap[wr.heap.size]? = some (.cells #[.int .i64 (1 + sp), .int .i64 en, .int .i64 evk, .int .i64 evn, .string evs, .slice lo1 ln lc1] 34 (0, 0)) := hg3
              have hlZ := hl3
              have hal : Below u3.heap.size u3 (u3.alloc (.cells #[.int .i64 (1 + sp), .int .i64 en, .int .i64 evk, .int .i64 evn, .string evs, .slice lo1 ln lc1] 34)) := (Below.refl _ _).alloc (Nat.le_refl _) _
              have HBZ : Hid (Below w.heap.size w u3) := HB.out.trans (hlZ.mono HB.out.size)
              have HROWZ : Hid ((u3.alloc (.cells #[.int .i64 (1 + sp), .int .i64 en, .int .i64 evk, .int .i64 evn, .string evs, .slice lo1 ln lc1] 34)).ownsRow w.heap.size 34 6 (.slice so k sc) es'.length (rc Eo.cells es')) := row_below (row_below HROW.out hlZ) hal
              have HLIT : Hid ((u3.alloc (.cells #[.int .i64 (1 + sp), .int .i64 en, .int .i64 evk, .int .i64 evn, .string evs, .slice lo1 ln lc1] 34)).ownsRow w.heap.size 34 6 (.slice (some ⟨wr.heap.size, 0, none⟩) 1 1) 1 (Eo.cells ⟨⟨1 + sp, en, evk, evn, evs⟩, lo1, ln, lc1⟩) ∨ True) := .inr trivial
              have hszz : u3.heap.size = u1.heap.size := by rw [hu3]; simp [World.setCell]
              have HLZ : Hid ((u3.alloc (.cells #[.int .i64 (1 + sp), .int .i64 en, .int .i64 evk, .int .i64 evn, .string evs, .slice lo1 ln lc1] 34)).ownsRow w.heap.size 34 6 (.slice (some ⟨u1.heap.size, 0, none⟩) 1 1) 1 (Eo.cells ⟨⟨1 + sp, en, evk, evn, evs⟩, lo1, ln, lc1⟩)) := by rw [← hszz]; exact World.ownsRow_lit u3 #[.int .i64 (1 + sp), .int .i64 en, .int .i64 evk, .int .i64 evn, .string evs, .slice lo1 ln lc1] 1 HBZ.out.size (by decide) rfl
              clear hszz
              have HBAL : Hid (Below w.heap.size w (u3.alloc (.cells #[.int .i64 (1 + sp), .int .i64 en, .int .i64 evk, .int .i64 evn, .string evs, .slice lo1 ln lc1] 34))) := HBZ.out.trans (hal.mono HBZ.out.size)
              subst hu3
              clear hgA hlA hgZ hlZ hg3 hl3 hal HLIT
              by_cases h399 : k + 1 = 400
              · have hki : (k : Int) + 1 = 400 := by omega
                have HK399 : Hid (k + 1 = 400) := h399
                go_wp2_with (at_builtin; refine gappL rfl _ _ Eo.len Try.infoEv rfl (by decide) Try.underlying29 rfl rfl rfl HROWZ.out HLZ.out (Eo.one _) HBAL.out.size (by rw [HEL.out]; omega) (by decide) ?_; intro v2 u5 hr hg hb5; obtain ⟨ao, cap, hv2⟩ := HOUT.out _ _ _ hr; subst hv2; have HR5 := Hid.mk' hr; have HB5 : Hid (Below w.heap.size w u5) := HBAL.out.trans hb5; clear hr hg hb5)
                go_ret
                refine ⟨_, es' ++ [⟨⟨1 + sp, en, evk, evn, evs⟩, lo1, ln, lc1⟩], rfl, (by have h5 := HR5.out; rw [HK399.out] at h5; exact h5), ?_, HB5.out⟩
                rw [List.map_append, show es.take 400 = es.take (k + 1) by rw [HK399.out]]
                exact HTAKE.out _ HV2.out.symm
              · have hkb : ((k : Int) + 1 == 400) = false := by simp; omega
                go_wp2_with (at_builtin; refine gappL rfl _ _ Eo.len Try.infoEv rfl (by decide) Try.underlying29 rfl rfl rfl HROWZ.out HLZ.out (Eo.one _) HBAL.out.size (by rw [HEL.out]; omega) (by decide) ?_; intro v2 u5 hr hg hb5; obtain ⟨ao, cap, hv2⟩ := HOUT.out _ _ _ hr; subst hv2; have HR5 := Hid.mk' hr; have HB5 : Hid (Below w.heap.size w u5) := HBAL.out.trans hb5; clear hr hg hb5)
                go_roundw
                case rel => exact ⟨k + 1, _, by omega, by omega, by go_num, (by show _ = _; rw [List.length_append, HEL.out]; rfl), (by show _ = _; rw [List.map_append]; exact HTAKE.out _ HV2.out.symm), HR5.out, HB5.out⟩
                case measure => simp [intOf]; omega
            · have hs4b : (1 + sp == 4) = false := by simpa using hs4
              have HV1 : Hid (vk1 ⟨ek, en, evk, evn, evs⟩ = evk) := by show vk1 ⟨ek, en, evk, evn, evs⟩ = _; unfold vk1; first | (simp [*]; done) | (simp_all [Hid]; done)
              go_wp2_with fail
              refine (HOWN.out _ (HB.out.trans (((Below.refl _ _).alloc (Nat.le_refl _) _).mono HB.out.size)) _ _ _).mono ?_
              rintro x w1 ⟨lo1, lc1, rfl, hb1⟩
              have hbx := box_stays hb1
              obtain ⟨⟨d0, d1, d2, d3, d4, d5⟩, ⟨f0, f1, f2, f3, f4, f5⟩⟩ := box6 hbx
              have hup := below_up hb1
              have hsz : wr.heap.size < w1.heap.size := by have := hb1.size; simp at this; omega
              clear hb1 c0 c1 c2 c3 c4 c5
              go_wp2_with fail
              refine (HSP.out _).mono ?_
              rintro x u1 ⟨rfl, rfl⟩
              obtain ⟨u1, hu1, hg1, hl1⟩ := set2345 hbx (.int .i64 evk) (.int .i64 evn) (.string evs) (.slice lo1 ln lc1) hup (Nat.le_refl _)
              rw [← hu1]
              have hgA := hg1
              have hlA := hl1
              clear hg1 hl1 hu1
              clear hbx hup hsz d0 d1 d2 d3 d4 d5 f0 f1 f2 f3 f4 f5
              obtain ⟨⟨d0, d1, d2, d3, d4, d5⟩, ⟨f0, f1, f2, f3, f4, f5⟩⟩ := box6 hgA
              have HV2 : Hid (evOf ⟨ek, en, evk, evn, evs⟩ = ⟨1 + sp, en, evk, evn, evs⟩) := by
                show evOf ⟨ek, en, evk, evn, evs⟩ = _
                unfold evOf vk2
                rw [HV1.out, ← HKO.out]
                first | (simp [*]; done) | (simp_all [Hid]; done)
              obtain ⟨u3, hu3, hg3, hl3⟩ := set1 (i := 0) hgA (.int .i64 (1 + sp)) hlA (Nat.le_refl _)
              have hgZ : u3.heap[wr.heap.size]? = some (.cells #[.int .i64 (1 + sp), .int .i64 en, .int .i64 evk, .int .i64 evn, .string evs, .slice lo1 ln lc1] 34 (0, 0)) := hg3
              have hlZ := hl3
              have hal : Below u3.heap.size u3 (u3.alloc (.cells #[.int .i64 (1 + sp), .int .i64 en, .int .i64 evk, .int .i64 evn, .string evs, .slice lo1 ln lc1] 34)) := (Below.refl _ _).alloc (Nat.le_refl _) _
              have HBZ : Hid (Below w.heap.size w u3) := HB.out.trans (hlZ.mono HB.out.size)
              have HROWZ : Hid ((u3.alloc (.cells #[.int .i64 (1 + sp), .int .i64 en, .int .i64 evk, .int .i64 evn, .string evs, .slice lo1 ln lc1] 34)).ownsRow w.heap.size 34 6 (.slice so k sc) es'.length (rc Eo.cells es')) := row_below (row_below HROW.out hlZ) hal
              have HLIT : Hid ((u3.alloc (.cells #[.int .i64 (1 + sp), .int .i64 en, .int .i64 evk, .int .i64 evn, .string evs, .slice lo1 ln lc1] 34)).ownsRow w.heap.size 34 6 (.slice (some ⟨wr.heap.size, 0, none⟩) 1 1) 1 (Eo.cells ⟨⟨1 + sp, en, evk, evn, evs⟩, lo1, ln, lc1⟩) ∨ True) := .inr trivial
              have hszz : u3.heap.size = u1.heap.size := by rw [hu3]; simp [World.setCell]
              have HLZ : Hid ((u3.alloc (.cells #[.int .i64 (1 + sp), .int .i64 en, .int .i64 evk, .int .i64 evn, .string evs, .slice lo1 ln lc1] 34)).ownsRow w.heap.size 34 6 (.slice (some ⟨u1.heap.size, 0, none⟩) 1 1) 1 (Eo.cells ⟨⟨1 + sp, en, evk, evn, evs⟩, lo1, ln, lc1⟩)) := by rw [← hszz]; exact World.ownsRow_lit u3 #[.int .i64 (1 + sp), .int .i64 en, .int .i64 evk, .int .i64 evn, .string evs, .slice lo1 ln lc1] 1 HBZ.out.size (by decide) rfl
              clear hszz
              have HBAL : Hid (Below w.heap.size w (u3.alloc (.cells #[.int .i64 (1 + sp), .int .i64 en, .int .i64 evk, .int .i64 evn, .string evs, .slice lo1 ln lc1] 34))) := HBZ.out.trans (hal.mono HBZ.out.size)
              subst hu3
              clear hgA hlA hgZ hlZ hg3 hl3 hal HLIT
              by_cases h399 : k + 1 = 400
              · have hki : (k : Int) + 1 = 400 := by omega
                have HK399 : Hid (k + 1 = 400) := h399
                go_wp2_with (at_builtin; refine gappL rfl _ _ Eo.len Try.infoEv rfl (by decide) Try.underlying29 rfl rfl rfl HROWZ.out HLZ.out (Eo.one _) HBAL.out.size (by rw [HEL.out]; omega) (by decide) ?_; intro v2 u5 hr hg hb5; obtain ⟨ao, cap, hv2⟩ := HOUT.out _ _ _ hr; subst hv2; have HR5 := Hid.mk' hr; have HB5 : Hid (Below w.heap.size w u5) := HBAL.out.trans hb5; clear hr hg hb5)
                go_ret
                refine ⟨_, es' ++ [⟨⟨1 + sp, en, evk, evn, evs⟩, lo1, ln, lc1⟩], rfl, (by have h5 := HR5.out; rw [HK399.out] at h5; exact h5), ?_, HB5.out⟩
                rw [List.map_append, show es.take 400 = es.take (k + 1) by rw [HK399.out]]
                exact HTAKE.out _ HV2.out.symm
              · have hkb : ((k : Int) + 1 == 400) = false := by simp; omega
                go_wp2_with (at_builtin; refine gappL rfl _ _ Eo.len Try.infoEv rfl (by decide) Try.underlying29 rfl rfl rfl HROWZ.out HLZ.out (Eo.one _) HBAL.out.size (by rw [HEL.out]; omega) (by decide) ?_; intro v2 u5 hr hg hb5; obtain ⟨ao, cap, hv2⟩ := HOUT.out _ _ _ hr; subst hv2; have HR5 := Hid.mk' hr; have HB5 : Hid (Below w.heap.size w u5) := HBAL.out.trans hb5; clear hr hg hb5)
                go_roundw
                case rel => exact ⟨k + 1, _, by omega, by omega, by go_num, (by show _ = _; rw [List.length_append, HEL.out]; rfl), (by show _ = _; rw [List.map_append]; exact HTAKE.out _ HV2.out.symm), HR5.out, HB5.out⟩
                case measure => simp [intOf]; omega
          · have bv3 : (evk != 3) = true := by simp [hv3]
            by_cases hv5 : evk = 5
            · have bv5 : (evk != 5) = false := by simp [hv5]
              have HV50 := Hid.mk' hv5
              clear hv5
              by_cases hs4 : 1 + sp = 4
              · have hs4b : (1 + sp == 4) = true := by simpa using hs4
                have HS4 := Hid.mk' hs4
                clear hs4
                have HV1 : Hid (vk1 ⟨ek, en, evk, evn, evs⟩ = evk) := by show vk1 ⟨ek, en, evk, evn, evs⟩ = _; unfold vk1; first | (simp [*]; done) | (simp_all [Hid]; done)
                go_wp2_with fail
                refine (HOWN.out _ (HB.out.trans (((Below.refl _ _).alloc (Nat.le_refl _) _).mono HB.out.size)) _ _ _).mono ?_
                rintro x w1 ⟨lo1, lc1, rfl, hb1⟩
                have hbx := box_stays hb1
                obtain ⟨⟨d0, d1, d2, d3, d4, d5⟩, ⟨f0, f1, f2, f3, f4, f5⟩⟩ := box6 hbx
                have hup := below_up hb1
                have hsz : wr.heap.size < w1.heap.size := by have := hb1.size; simp at this; omega
                clear hb1 c0 c1 c2 c3 c4 c5
                go_wp2_with fail
                refine (HSP.out _).mono ?_
                rintro x u1 ⟨rfl, rfl⟩
                obtain ⟨u1, hu1, hg1, hl1⟩ := set2345 hbx (.int .i64 evk) (.int .i64 evn) (.string evs) (.slice lo1 ln lc1) hup (Nat.le_refl _)
                rw [← hu1]
                have hgA := hg1
                have hlA := hl1
                clear hg1 hl1 hu1
                clear hbx hup hsz d0 d1 d2 d3 d4 d5 f0 f1 f2 f3 f4 f5
                obtain ⟨⟨d0, d1, d2, d3, d4, d5⟩, ⟨f0, f1, f2, f3, f4, f5⟩⟩ := box6 hgA
                have HV2 : Hid (evOf ⟨ek, en, evk, evn, evs⟩ = ⟨1 + sp, en, evk, evn, evs⟩) := by
                  show evOf ⟨ek, en, evk, evn, evs⟩ = _
                  unfold evOf vk2
                  rw [HV1.out, ← HKO.out]
                  first | (simp [*]; done) | (simp_all [Hid]; done)
                obtain ⟨u3, hu3, hg3, hl3⟩ := set1 (i := 0) hgA (.int .i64 (1 + sp)) hlA (Nat.le_refl _)
                have hgZ : u3.heap[wr.heap.size]? = some (.cells #[.int .i64 (1 + sp), .int .i64 en, .int .i64 evk, .int .i64 evn, .string evs, .slice lo1 ln lc1] 34 (0, 0)) := hg3
                have hlZ := hl3
                have hal : Below u3.heap.size u3 (u3.alloc (.cells #[.int .i64 (1 + sp), .int .i64 en, .int .i64 evk, .int .i64 evn, .string evs, .slice lo1 ln lc1] 34)) := (Below.refl _ _).alloc (Nat.le_refl _) _
                have HBZ : Hid (Below w.heap.size w u3) := HB.out.trans (hlZ.mono HB.out.size)
                have HROWZ : Hid ((u3.alloc (.cells #[.int .i64 (1 + sp), .int .i64 en, .int .i64 evk, .int .i64 evn, .string evs, .slice lo1 ln lc1] 34)).ownsRow w.heap.size 34 6 (.slice so k sc) es'.length (rc Eo.cells es')) := row_below (row_below HROW.out hlZ) hal
                have HLIT : Hid ((u3.alloc (.cells #[.int .i64 (1 + sp), .int .i64 en, .int .i64 evk, .int .i64 evn, .string evs, .slice lo1 ln lc1] 34)).ownsRow w.heap.size 34 6 (.slice (some ⟨wr.heap.size, 0, none⟩) 1 1) 1 (Eo.cells ⟨⟨1 + sp, en, evk, evn, evs⟩, lo1, ln, lc1⟩) ∨ True) := .inr trivial
                have hszz : u3.heap.size = u1.heap.size := by rw [hu3]; simp [World.setCell]
                have HLZ : Hid ((u3.alloc (.cells #[.int .i64 (1 + sp), .int .i64 en, .int .i64 evk, .int .i64 evn, .string evs, .slice lo1 ln lc1] 34)).ownsRow w.heap.size 34 6 (.slice (some ⟨u1.heap.size, 0, none⟩) 1 1) 1 (Eo.cells ⟨⟨1 + sp, en, evk, evn, evs⟩, lo1, ln, lc1⟩)) := by rw [← hszz]; exact World.ownsRow_lit u3 #[.int .i64 (1 + sp), .int .i64 en, .int .i64 evk, .int .i64 evn, .string evs, .slice lo1 ln lc1] 1 HBZ.out.size (by decide) rfl
                clear hszz
                have HBAL : Hid (Below w.heap.size w (u3.alloc (.cells #[.int .i64 (1 + sp), .int .i64 en, .int .i64 evk, .int .i64 evn, .string evs, .slice lo1 ln lc1] 34))) := HBZ.out.trans (hal.mono HBZ.out.size)
                subst hu3
                clear hgA hlA hgZ hlZ hg3 hl3 hal HLIT
                by_cases h399 : k + 1 = 400
                · have hki : (k : Int) + 1 = 400 := by omega
                  have HK399 : Hid (k + 1 = 400) := h399
                  go_wp2_with (at_builtin; refine gappL rfl _ _ Eo.len Try.infoEv rfl (by decide) Try.underlying29 rfl rfl rfl HROWZ.out HLZ.out (Eo.one _) HBAL.out.size (by rw [HEL.out]; omega) (by decide) ?_; intro v2 u5 hr hg hb5; obtain ⟨ao, cap, hv2⟩ := HOUT.out _ _ _ hr; subst hv2; have HR5 := Hid.mk' hr; have HB5 : Hid (Below w.heap.size w u5) := HBAL.out.trans hb5; clear hr hg hb5)
                  go_ret
                  refine ⟨_, es' ++ [⟨⟨1 + sp, en, evk, evn, evs⟩, lo1, ln, lc1⟩], rfl, (by have h5 := HR5.out; rw [HK399.out] at h5; exact h5), ?_, HB5.out⟩
                  rw [List.map_append, show es.take 400 = es.take (k + 1) by rw [HK399.out]]
                  exact HTAKE.out _ HV2.out.symm
                · have hkb : ((k : Int) + 1 == 400) = false := by simp; omega
                  go_wp2_with (at_builtin; refine gappL rfl _ _ Eo.len Try.infoEv rfl (by decide) Try.underlying29 rfl rfl rfl HROWZ.out HLZ.out (Eo.one _) HBAL.out.size (by rw [HEL.out]; omega) (by decide) ?_; intro v2 u5 hr hg hb5; obtain ⟨ao, cap, hv2⟩ := HOUT.out _ _ _ hr; subst hv2; have HR5 := Hid.mk' hr; have HB5 : Hid (Below w.heap.size w u5) := HBAL.out.trans hb5; clear hr hg hb5)
                  go_roundw
                  case rel => exact ⟨k + 1, _, by omega, by omega, by go_num, (by show _ = _; rw [List.length_append, HEL.out]; rfl), (by show _ = _; rw [List.map_append]; exact HTAKE.out _ HV2.out.symm), HR5.out, HB5.out⟩
                  case measure => simp [intOf]; omega
              · have hs4b : (1 + sp == 4) = false := by simpa using hs4
                have HV1 : Hid (vk1 ⟨ek, en, evk, evn, evs⟩ = evk) := by show vk1 ⟨ek, en, evk, evn, evs⟩ = _; unfold vk1; first | (simp [*]; done) | (simp_all [Hid]; done)
                go_wp2_with fail
                refine (HOWN.out _ (HB.out.trans (((Below.refl _ _).alloc (Nat.le_refl _) _).mono HB.out.size)) _ _ _).mono ?_
                rintro x w1 ⟨lo1, lc1, rfl, hb1⟩
                have hbx := box_stays hb1
                obtain ⟨⟨d0, d1, d2, d3, d4, d5⟩, ⟨f0, f1, f2, f3, f4, f5⟩⟩ := box6 hbx
                have hup := below_up hb1
                have hsz : wr.heap.size < w1.heap.size := by have := hb1.size; simp at this; omega
                clear hb1 c0 c1 c2 c3 c4 c5
                go_wp2_with fail
                refine (HSP.out _).mono ?_
                rintro x u1 ⟨rfl, rfl⟩
                obtain ⟨u1, hu1, hg1, hl1⟩ := set2345 hbx (.int .i64 evk) (.int .i64 evn) (.string evs) (.slice lo1 ln lc1) hup (Nat.le_refl _)
                rw [← hu1]
                have hgA := hg1
                have hlA := hl1
                clear hg1 hl1 hu1
                clear hbx hup hsz d0 d1 d2 d3 d4 d5 f0 f1 f2 f3 f4 f5
                obtain ⟨⟨d0, d1, d2, d3, d4, d5⟩, ⟨f0, f1, f2, f3, f4, f5⟩⟩ := box6 hgA
                have HV2 : Hid (evOf ⟨ek, en, evk, evn, evs⟩ = ⟨1 + sp, en, evk, evn, evs⟩) := by
                  show evOf ⟨ek, en, evk, evn, evs⟩ = _
                  unfold evOf vk2
                  rw [HV1.out, ← HKO.out]
                  first | (simp [*]; done) | (simp_all [Hid]; done)
                obtain ⟨u3, hu3, hg3, hl3⟩ := set1 (i := 0) hgA (.int .i64 (1 + sp)) hlA (Nat.le_refl _)
                have hgZ : u3.heap[wr.heap.size]? = some (.cells #[.int .i64 (1 + sp), .int .i64 en, .int .i64 evk, .int .i64 evn, .string evs, .slice lo1 ln lc1] 34 (0, 0)) := hg3
                have hlZ := hl3
                have hal : Below u3.heap.size u3 (u3.alloc (.cells #[.int .i64 (1 + sp), .int .i64 en, .int .i64 evk, .int .i64 evn, .string evs, .slice lo1 ln lc1] 34)) := (Below.refl _ _).alloc (Nat.le_refl _) _
                have HBZ : Hid (Below w.heap.size w u3) := HB.out.trans (hlZ.mono HB.out.size)
                have HROWZ : Hid ((u3.alloc (.cells #[.int .i64 (1 + sp), .int .i64 en, .int .i64 evk, .int .i64 evn, .string evs, .slice lo1 ln lc1] 34)).ownsRow w.heap.size 34 6 (.slice so k sc) es'.length (rc Eo.cells es')) := row_below (row_below HROW.out hlZ) hal
                have HLIT : Hid ((u3.alloc (.cells #[.int .i64 (1 + sp), .int .i64 en, .int .i64 evk, .int .i64 evn, .string evs, .slice lo1 ln lc1] 34)).ownsRow w.heap.size 34 6 (.slice (some ⟨wr.heap.size, 0, none⟩) 1 1) 1 (Eo.cells ⟨⟨1 + sp, en, evk, evn, evs⟩, lo1, ln, lc1⟩) ∨ True) := .inr trivial
                have hszz : u3.heap.size = u1.heap.size := by rw [hu3]; simp [World.setCell]
                have HLZ : Hid ((u3.alloc (.cells #[.int .i64 (1 + sp), .int .i64 en, .int .i64 evk, .int .i64 evn, .string evs, .slice lo1 ln lc1] 34)).ownsRow w.heap.size 34 6 (.slice (some ⟨u1.heap.size, 0, none⟩) 1 1) 1 (Eo.cells ⟨⟨1 + sp, en, evk, evn, evs⟩, lo1, ln, lc1⟩)) := by rw [← hszz]; exact World.ownsRow_lit u3 #[.int .i64 (1 + sp), .int .i64 en, .int .i64 evk, .int .i64 evn, .string evs, .slice lo1 ln lc1] 1 HBZ.out.size (by decide) rfl
                clear hszz
                have HBAL : Hid (Below w.heap.size w (u3.alloc (.cells #[.int .i64 (1 + sp), .int .i64 en, .int .i64 evk, .int .i64 evn, .string evs, .slice lo1 ln lc1] 34))) := HBZ.out.trans (hal.mono HBZ.out.size)
                subst hu3
                clear hgA hlA hgZ hlZ hg3 hl3 hal HLIT
                by_cases h399 : k + 1 = 400
                · have hki : (k : Int) + 1 = 400 := by omega
                  have HK399 : Hid (k + 1 = 400) := h399
                  go_wp2_with (at_builtin; refine gappL rfl _ _ Eo.len Try.infoEv rfl (by decide) Try.underlying29 rfl rfl rfl HROWZ.out HLZ.out (Eo.one _) HBAL.out.size (by rw [HEL.out]; omega) (by decide) ?_; intro v2 u5 hr hg hb5; obtain ⟨ao, cap, hv2⟩ := HOUT.out _ _ _ hr; subst hv2; have HR5 := Hid.mk' hr; have HB5 : Hid (Below w.heap.size w u5) := HBAL.out.trans hb5; clear hr hg hb5)
                  go_ret
                  refine ⟨_, es' ++ [⟨⟨1 + sp, en, evk, evn, evs⟩, lo1, ln, lc1⟩], rfl, (by have h5 := HR5.out; rw [HK399.out] at h5; exact h5), ?_, HB5.out⟩
                  rw [List.map_append, show es.take 400 = es.take (k + 1) by rw [HK399.out]]
                  exact HTAKE.out _ HV2.out.symm
                · have hkb : ((k : Int) + 1 == 400) = false := by simp; omega
                  go_wp2_with (at_builtin; refine gappL rfl _ _ Eo.len Try.infoEv rfl (by decide) Try.underlying29 rfl rfl rfl HROWZ.out HLZ.out (Eo.one _) HBAL.out.size (by rw [HEL.out]; omega) (by decide) ?_; intro v2 u5 hr hg hb5; obtain ⟨ao, cap, hv2⟩ := HOUT.out _ _ _ hr; subst hv2; have HR5 := Hid.mk' hr; have HB5 : Hid (Below w.heap.size w u5) := HBAL.out.trans hb5; clear hr hg hb5)
                  go_roundw
                  case rel => exact ⟨k + 1, _, by omega, by omega, by go_num, (by show _ = _; rw [List.length_append, HEL.out]; rfl), (by show _ = _; rw [List.map_append]; exact HTAKE.out _ HV2.out.symm), HR5.out, HB5.out⟩
                  case measure => simp [intOf]; omega
            · have bv5 : (evk != 5) = true := by simp [hv5]
              by_cases hs4 : 1 + sp = 4
              · have hs4b : (1 + sp == 4) = true := by simpa using hs4
                have HS4 := Hid.mk' hs4
                clear hs4
                have HV1 : Hid (vk1 ⟨ek, en, evk, evn, evs⟩ = 1) := by show vk1 ⟨ek, en, evk, evn, evs⟩ = _; unfold vk1; first | (simp [*]; done) | (simp_all [Hid]; done)
                go_wp2_with fail
                refine (HOWN.out _ (HB.out.trans (((Below.refl _ _).alloc (Nat.le_refl _) _).mono HB.out.size)) _ _ _).mono ?_
                rintro x w1 ⟨lo1, lc1, rfl, hb1⟩
                have hbx := box_stays hb1
                obtain ⟨⟨d0, d1, d2, d3, d4, d5⟩, ⟨f0, f1, f2, f3, f4, f5⟩⟩ := box6 hbx
                have hup := below_up hb1
                have hsz : wr.heap.size < w1.heap.size := by have := hb1.size; simp at this; omega
                clear hb1 c0 c1 c2 c3 c4 c5
                go_wp2_with fail
                refine (HSP.out _).mono ?_
                rintro x u1 ⟨rfl, rfl⟩
                obtain ⟨u1, hu1, hg1, hl1⟩ := set2345 hbx (.int .i64 evk) (.int .i64 evn) (.string evs) (.slice lo1 ln lc1) hup (Nat.le_refl _)
                obtain ⟨u2, hu2, hg2, hl2⟩ := set1 (i := 2) hg1 (.int .i64 1) hl1 (Nat.le_refl _)
                rw [← hu1, ← hu2]
                have hgA : u2.heap[wr.heap.size]? = some (.cells #[.int .i64 ek, .int .i64 en, .int .i64 1, .int .i64 evn, .string evs, .slice lo1 ln lc1] 34 (0, 0)) := hg2
                have hlA := hl2
                clear hg2 hl2 hu1 hu2 hg1 hl1
                clear hbx hup hsz d0 d1 d2 d3 d4 d5 f0 f1 f2 f3 f4 f5
                obtain ⟨⟨d0, d1, d2, d3, d4, d5⟩, ⟨f0, f1, f2, f3, f4, f5⟩⟩ := box6 hgA
                have HV2 : Hid (evOf ⟨ek, en, evk, evn, evs⟩ = ⟨1 + sp, en, 1, evn, evs⟩) := by
                  show evOf ⟨ek, en, evk, evn, evs⟩ = _
                  unfold evOf vk2
                  rw [HV1.out, ← HKO.out]
                  first | (simp [*]; done) | (simp_all [Hid]; done)
                obtain ⟨u3, hu3, hg3, hl3⟩ := set1 (i := 0) hgA (.int .i64 (1 + sp)) hlA (Nat.le_refl _)
                obtain ⟨u4, hu4, hg4, hl4⟩ := set1 (i := 2) hg3 (.int .i64 1) hl3 (Nat.le_refl _)
                have hgZ : u4.heap[wr.heap.size]? = some (.cells #[.int .i64 (1 + sp), .int .i64 en, .int .i64 1, .int .i64 evn, .string evs, .slice lo1 ln lc1] 34 (0, 0)) := hg4
                have hlZ := hl4
                have hal : Below u4.heap.size u4 (u4.alloc (.cells #[.int .i64 (1 + sp), .int .i64 en, .int .i64 1, .int .i64 evn, .string evs, .slice lo1 ln lc1] 34)) := (Below.refl _ _).alloc (Nat.le_refl _) _
                have HBZ : Hid (Below w.heap.size w u4) := HB.out.trans (hlZ.mono HB.out.size)
                have HROWZ : Hid ((u4.alloc (.cells #[.int .i64 (1 + sp), .int .i64 en, .int .i64 1, .int .i64 evn, .string evs, .slice lo1 ln lc1] 34)).ownsRow w.heap.size 34 6 (.slice so k sc) es'.length (rc Eo.cells es')) := row_below (row_below HROW.out hlZ) hal
                have HLIT : Hid ((u4.alloc (.cells #[.int .i64 (1 + sp), .int .i64 en, .int .i64 1, .int .i64 evn, .string evs, .slice lo1 ln lc1] 34)).ownsRow w.heap.size 34 6 (.slice (some ⟨wr.heap.size, 0, none⟩) 1 1) 1 (Eo.cells ⟨⟨1 + sp, en, 1, evn, evs⟩, lo1, ln, lc1⟩) ∨ True) := .inr trivial
                have hszz : u4.heap.size = u2.heap.size := by rw [hu4, hu3]; simp [World.setCell]
                have HLZ : Hid ((u4.alloc (.cells #[.int .i64 (1 + sp), .int .i64 en, .int .i64 1, .int .i64 evn, .string evs, .slice lo1 ln lc1] 34)).ownsRow w.heap.size 34 6 (.slice (some ⟨u2.heap.size, 0, none⟩) 1 1) 1 (Eo.cells ⟨⟨1 + sp, en, 1, evn, evs⟩, lo1, ln, lc1⟩)) := by rw [← hszz]; exact World.ownsRow_lit u4 #[.int .i64 (1 + sp), .int .i64 en, .int .i64 1, .int .i64 evn, .string evs, .slice lo1 ln lc1] 1 HBZ.out.size (by decide) rfl
                clear hszz
                have HBAL : Hid (Below w.heap.size w (u4.alloc (.cells #[.int .i64 (1 + sp), .int .i64 en, .int .i64 1, .int .i64 evn, .string evs, .slice lo1 ln lc1] 34))) := HBZ.out.trans (hal.mono HBZ.out.size)
                subst hu4
                subst hu3
                clear hgA hlA hgZ hlZ hg3 hl3 hg4 hl4 hal HLIT
                by_cases h399 : k + 1 = 400
                · have hki : (k : Int) + 1 = 400 := by omega
                  have HK399 : Hid (k + 1 = 400) := h399
                  go_wp2_with (at_builtin; refine gappL rfl _ _ Eo.len Try.infoEv rfl (by decide) Try.underlying29 rfl rfl rfl HROWZ.out HLZ.out (Eo.one _) HBAL.out.size (by rw [HEL.out]; omega) (by decide) ?_; intro v2 u5 hr hg hb5; obtain ⟨ao, cap, hv2⟩ := HOUT.out _ _ _ hr; subst hv2; have HR5 := Hid.mk' hr; have HB5 : Hid (Below w.heap.size w u5) := HBAL.out.trans hb5; clear hr hg hb5)
                  go_ret
                  refine ⟨_, es' ++ [⟨⟨1 + sp, en, 1, evn, evs⟩, lo1, ln, lc1⟩], rfl, (by have h5 := HR5.out; rw [HK399.out] at h5; exact h5), ?_, HB5.out⟩
                  rw [List.map_append, show es.take 400 = es.take (k + 1) by rw [HK399.out]]
                  exact HTAKE.out _ HV2.out.symm
                · have hkb : ((k : Int) + 1 == 400) = false := by simp; omega
                  go_wp2_with (at_builtin; refine gappL rfl _ _ Eo.len Try.infoEv rfl (by decide) Try.underlying29 rfl rfl rfl HROWZ.out HLZ.out (Eo.one _) HBAL.out.size (by rw [HEL.out]; omega) (by decide) ?_; intro v2 u5 hr hg hb5; obtain ⟨ao, cap, hv2⟩ := HOUT.out _ _ _ hr; subst hv2; have HR5 := Hid.mk' hr; have HB5 : Hid (Below w.heap.size w u5) := HBAL.out.trans hb5; clear hr hg hb5)
                  go_roundw
                  case rel => exact ⟨k + 1, _, by omega, by omega, by go_num, (by show _ = _; rw [List.length_append, HEL.out]; rfl), (by show _ = _; rw [List.map_append]; exact HTAKE.out _ HV2.out.symm), HR5.out, HB5.out⟩
                  case measure => simp [intOf]; omega
              · have hs4b : (1 + sp == 4) = false := by simpa using hs4
                have HV1 : Hid (vk1 ⟨ek, en, evk, evn, evs⟩ = 1) := by show vk1 ⟨ek, en, evk, evn, evs⟩ = _; unfold vk1; first | (simp [*]; done) | (simp_all [Hid]; done)
                go_wp2_with fail
                refine (HOWN.out _ (HB.out.trans (((Below.refl _ _).alloc (Nat.le_refl _) _).mono HB.out.size)) _ _ _).mono ?_
                rintro x w1 ⟨lo1, lc1, rfl, hb1⟩
                have hbx := box_stays hb1
                obtain ⟨⟨d0, d1, d2, d3, d4, d5⟩, ⟨f0, f1, f2, f3, f4, f5⟩⟩ := box6 hbx
                have hup := below_up hb1
                have hsz : wr.heap.size < w1.heap.size := by have := hb1.size; simp at this; omega
                clear hb1 c0 c1 c2 c3 c4 c5
                go_wp2_with fail
                refine (HSP.out _).mono ?_
                rintro x u1 ⟨rfl, rfl⟩
                obtain ⟨u1, hu1, hg1, hl1⟩ := set2345 hbx (.int .i64 evk) (.int .i64 evn) (.string evs) (.slice lo1 ln lc1) hup (Nat.le_refl _)
                obtain ⟨u2, hu2, hg2, hl2⟩ := set1 (i := 2) hg1 (.int .i64 1) hl1 (Nat.le_refl _)
                rw [← hu1, ← hu2]
                have hgA : u2.heap[wr.heap.size]? = some (.cells #[.int .i64 ek, .int .i64 en, .int .i64 1, .int .i64 evn, .string evs, .slice lo1 ln lc1] 34 (0, 0)) := hg2
                have hlA := hl2
                clear hg2 hl2 hu1 hu2 hg1 hl1
                clear hbx hup hsz d0 d1 d2 d3 d4 d5 f0 f1 f2 f3 f4 f5
                obtain ⟨⟨d0, d1, d2, d3, d4, d5⟩, ⟨f0, f1, f2, f3, f4, f5⟩⟩ := box6 hgA
                have HV2 : Hid (evOf ⟨ek, en, evk, evn, evs⟩ = ⟨1 + sp, en, 1, evn, evs⟩) := by
                  show evOf ⟨ek, en, evk, evn, evs⟩ = _
                  unfold evOf vk2
                  rw [HV1.out, ← HKO.out]
                  first | (simp [*]; done) | (simp_all [Hid]; done)
                obtain ⟨u3, hu3, hg3, hl3⟩ := set1 (i := 0) hgA (.int .i64 (1 + sp)) hlA (Nat.le_refl _)
                have hgZ : u3.heap[wr.heap.size]? = some (.cells #[.int .i64 (1 + sp), .int .i64 en, .int .i64 1, .int .i64 evn, .string evs, .slice lo1 ln lc1] 34 (0, 0)) := hg3
                have hlZ := hl3
                have hal : Below u3.heap.size u3 (u3.alloc (.cells #[.int .i64 (1 + sp), .int .i64 en, .int .i64 1, .int .i64 evn, .string evs, .slice lo1 ln lc1] 34)) := (Below.refl _ _).alloc (Nat.le_refl _) _
                have HBZ : Hid (Below w.heap.size w u3) := HB.out.trans (hlZ.mono HB.out.size)
                have HROWZ : Hid ((u3.alloc (.cells #[.int .i64 (1 + sp), .int .i64 en, .int .i64 1, .int .i64 evn, .string evs, .slice lo1 ln lc1] 34)).ownsRow w.heap.size 34 6 (.slice so k sc) es'.length (rc Eo.cells es')) := row_below (row_below HROW.out hlZ) hal
                have HLIT : Hid ((u3.alloc (.cells #[.int .i64 (1 + sp), .int .i64 en, .int .i64 1, .int .i64 evn, .string evs, .slice lo1 ln lc1] 34)).ownsRow w.heap.size 34 6 (.slice (some ⟨wr.heap.size, 0, none⟩) 1 1) 1 (Eo.cells ⟨⟨1 + sp, en, 1, evn, evs⟩, lo1, ln, lc1⟩) ∨ True) := .inr trivial
                have hszz : u3.heap.size = u2.heap.size := by rw [hu3]; simp [World.setCell]
                have HLZ : Hid ((u3.alloc (.cells #[.int .i64 (1 + sp), .int .i64 en, .int .i64 1, .int .i64 evn, .string evs, .slice lo1 ln lc1] 34)).ownsRow w.heap.size 34 6 (.slice (some ⟨u2.heap.size, 0, none⟩) 1 1) 1 (Eo.cells ⟨⟨1 + sp, en, 1, evn, evs⟩, lo1, ln, lc1⟩)) := by rw [← hszz]; exact World.ownsRow_lit u3 #[.int .i64 (1 + sp), .int .i64 en, .int .i64 1, .int .i64 evn, .string evs, .slice lo1 ln lc1] 1 HBZ.out.size (by decide) rfl
                clear hszz
                have HBAL : Hid (Below w.heap.size w (u3.alloc (.cells #[.int .i64 (1 + sp), .int .i64 en, .int .i64 1, .int .i64 evn, .string evs, .slice lo1 ln lc1] 34))) := HBZ.out.trans (hal.mono HBZ.out.size)
                subst hu3
                clear hgA hlA hgZ hlZ hg3 hl3 hal HLIT
                by_cases h399 : k + 1 = 400
                · have hki : (k : Int) + 1 = 400 := by omega
                  have HK399 : Hid (k + 1 = 400) := h399
                  go_wp2_with (at_builtin; refine gappL rfl _ _ Eo.len Try.infoEv rfl (by decide) Try.underlying29 rfl rfl rfl HROWZ.out HLZ.out (Eo.one _) HBAL.out.size (by rw [HEL.out]; omega) (by decide) ?_; intro v2 u5 hr hg hb5; obtain ⟨ao, cap, hv2⟩ := HOUT.out _ _ _ hr; subst hv2; have HR5 := Hid.mk' hr; have HB5 : Hid (Below w.heap.size w u5) := HBAL.out.trans hb5; clear hr hg hb5)
                  go_ret
                  refine ⟨_, es' ++ [⟨⟨1 + sp, en, 1, evn, evs⟩, lo1, ln, lc1⟩], rfl, (by have h5 := HR5.out; rw [HK399.out] at h5; exact h5), ?_, HB5.out⟩
                  rw [List.map_append, show es.take 400 = es.take (k + 1) by rw [HK399.out]]
                  exact HTAKE.out _ HV2.out.symm
                · have hkb : ((k : Int) + 1 == 400) = false := by simp; omega
                  go_wp2_with (at_builtin; refine gappL rfl _ _ Eo.len Try.infoEv rfl (by decide) Try.underlying29 rfl rfl rfl HROWZ.out HLZ.out (Eo.one _) HBAL.out.size (by rw [HEL.out]; omega) (by decide) ?_; intro v2 u5 hr hg hb5; obtain ⟨ao, cap, hv2⟩ := HOUT.out _ _ _ hr; subst hv2; have HR5 := Hid.mk' hr; have HB5 : Hid (Below w.heap.size w u5) := HBAL.out.trans hb5; clear hr hg hb5)
                  go_roundw
                  case rel => exact ⟨k + 1, _, by omega, by omega, by go_num, (by show _ = _; rw [List.length_append, HEL.out]; rfl), (by show _ = _; rw [List.map_append]; exact HTAKE.out _ HV2.out.symm), HR5.out, HB5.out⟩
                  case measure => simp [intOf]; omega
      · have h4b : (ek == 4) = false := by simpa using h4
        by_cases hs4 : 1 + sp = 4
        · have hs4b : (1 + sp == 4) = true := by simpa using hs4
          have HS4 := Hid.mk' hs4
          clear hs4
          by_cases hv3 : evk = 3
          · have bv3 : (evk != 3) = false := by simp [hv3]
            have bv1 : (evk != 1) = true := by simp [hv3]
            have bv5 : (evk != 5) = true := by simp [hv3]
            have HV30 := Hid.mk' hv3
            clear hv3
            have HV1 : Hid (vk1 ⟨ek, en, evk, evn, evs⟩ = evk) := by show vk1 ⟨ek, en, evk, evn, evs⟩ = _; unfold vk1; first | (simp [*]; done) | (simp_all [Hid]; done)
            go_wp2_with fail
            refine (HOWN.out _ (HB.out.trans (((Below.refl _ _).alloc (Nat.le_refl _) _).mono HB.out.size)) _ _ _).mono ?_
            rintro x w1 ⟨lo1, lc1, rfl, hb1⟩
            have hbx := box_stays hb1
            obtain ⟨⟨d0, d1, d2, d3, d4, d5⟩, ⟨f0, f1, f2, f3, f4, f5⟩⟩ := box6 hbx
            have hup := below_up hb1
            have hsz : wr.heap.size < w1.heap.size := by have := hb1.size; simp at this; omega
            clear hb1 c0 c1 c2 c3 c4 c5
            go_wp2_with fail
            refine (HSP.out _).mono ?_
            rintro x u1 ⟨rfl, rfl⟩
            obtain ⟨u1, hu1, hg1, hl1⟩ := set2345 hbx (.int .i64 evk) (.int .i64 evn) (.string evs) (.slice lo1 ln lc1) hup (Nat.le_refl _)
            rw [← hu1]
            have hgA := hg1
            have hlA := hl1
            clear hg1 hl1 hu1
            clear hbx hup hsz d0 d1 d2 d3 d4 d5 f0 f1 f2 f3 f4 f5
            obtain ⟨⟨d0, d1, d2, d3, d4, d5⟩, ⟨f0, f1, f2, f3, f4, f5⟩⟩ := box6 hgA
            have HV2 : Hid (evOf ⟨ek, en, evk, evn, evs⟩ = ⟨1 + sp, en, evk, evn, evs⟩) := by
              show evOf ⟨ek, en, evk, evn, evs⟩ = _
              unfold evOf vk2
              rw [HV1.out, ← HKO.out]
              first | (simp [*]; done) | (simp_all [Hid]; done)
            obtain ⟨u3, hu3, hg3, hl3⟩ := set1 (i := 0) hgA (.int .i64 (1 + sp)) hlA (Nat.le_refl _)
            have hgZ : u3.heap[wr.heap.size]? = some (.cells #[.int .i64 (1 + sp), .int .i64 en, .int .i64 evk, .int .i64 evn, .string evs, .slice lo1 ln lc1] 34 (0, 0)) := hg3
            have hlZ := hl3
            have hal : Below u3.heap.size u3 (u3.alloc (.cells #[.int .i64 (1 + sp), .int .i64 en, .int .i64 evk, .int .i64 evn, .string evs, .slice lo1 ln lc1] 34)) := (Below.refl _ _).alloc (Nat.le_refl _) _
            have HBZ : Hid (Below w.heap.size w u3) := HB.out.trans (hlZ.mono HB.out.size)
            have HROWZ : Hid ((u3.alloc (.cells #[.int .i64 (1 + sp), .int .i64 en, .int .i64 evk, .int .i64 evn, .string evs, .slice lo1 ln lc1] 34)).ownsRow w.heap.size 34 6 (.slice so k sc) es'.length (rc Eo.cells es')) := row_below (row_below HROW.out hlZ) hal
            have HLIT : Hid ((u3.alloc (.cells #[.int .i64 (1 + sp), .int .i64 en, .int .i64 evk, .int .i64 evn, .string evs, .slice lo1 ln lc1] 34)).ownsRow w.heap.size 34 6 (.slice (some ⟨wr.heap.size, 0, none⟩) 1 1) 1 (Eo.cells ⟨⟨1 + sp, en, evk, evn, evs⟩, lo1, ln, lc1⟩) ∨ True) := .inr trivial
            have hszz : u3.heap.size = u1.heap.size := by rw [hu3]; simp [World.setCell]
            have HLZ : Hid ((u3.alloc (.cells #[.int .i64 (1 + sp), .int .i64 en, .int .i64 evk, .int .i64 evn, .string evs, .slice lo1 ln lc1] 34)).ownsRow w.heap.size 34 6 (.slice (some ⟨u1.heap.size, 0, none⟩) 1 1) 1 (Eo.cells ⟨⟨1 + sp, en, evk, evn, evs⟩, lo1, ln, lc1⟩)) := by rw [← hszz]; exact World.ownsRow_lit u3 #[.int .i64 (1 + sp), .int .i64 en, .int .i64 evk, .int .i64 evn, .string evs, .slice lo1 ln lc1] 1 HBZ.out.size (by decide) rfl
            clear hszz
            have HBAL : Hid (Below w.heap.size w (u3.alloc (.cells #[.int .i64 (1 + sp), .int .i64 en, .int .i64 evk, .int .i64 evn, .string evs, .slice lo1 ln lc1] 34))) := HBZ.out.trans (hal.mono HBZ.out.size)
            subst hu3
            clear hgA hlA hgZ hlZ hg3 hl3 hal HLIT
            by_cases h399 : k + 1 = 400
            · have hki : (k : Int) + 1 = 400 := by omega
              have HK399 : Hid (k + 1 = 400) := h399
              go_wp2_with (at_builtin; refine gappL rfl _ _ Eo.len Try.infoEv rfl (by decide) Try.underlying29 rfl rfl rfl HROWZ.out HLZ.out (Eo.one _) HBAL.out.size (by rw [HEL.out]; omega) (by decide) ?_; intro v2 u5 hr hg hb5; obtain ⟨ao, cap, hv2⟩ := HOUT.out _ _ _ hr; subst hv2; have HR5 := Hid.mk' hr; have HB5 : Hid (Below w.heap.size w u5) := HBAL.out.trans hb5; clear hr hg hb5)
              go_ret
              refine ⟨_, es' ++ [⟨⟨1 + sp, en, evk, evn, evs⟩, lo1, ln, lc1⟩], rfl, (by have h5 := HR5.out; rw [HK399.out] at h5; exact h5), ?_, HB5.out⟩
              rw [List.map_append, show es.take 400 = es.take (k + 1) by rw [HK399.out]]
              exact HTAKE.out _ HV2.out.symm
            · have hkb : ((k : Int) + 1 == 400) = false := by simp; omega
              go_wp2_with (at_builtin; refine gappL rfl _ _ Eo.len Try.infoEv rfl (by decide) Try.underlying29 rfl rfl rfl HROWZ.out HLZ.out (Eo.one _) HBAL.out.size (by rw [HEL.out]; omega) (by decide) ?_; intro v2 u5 hr hg hb5; obtain ⟨ao, cap, hv2⟩ := HOUT.out _ _ _ hr; subst hv2; have HR5 := Hid.mk' hr; have HB5 : Hid (Below w.heap.size w u5) := HBAL.out.trans hb5; clear hr hg hb5)
              go_roundw
              case rel => exact ⟨k + 1, _, by omega, by omega, by go_num, (by show _ = _; rw [List.length_append, HEL.out]; rfl), (by show _ = _; rw [List.map_append]; exact HTAKE.out _ HV2.out.symm), HR5.out, HB5.out⟩
              case measure => simp [intOf]; omega
          · have bv3 : (evk != 3) = true := by simp [hv3]
            by_cases hv5 : evk = 5
            · have bv5 : (evk != 5) = false := by simp [hv5]
              have HV50 := Hid.mk' hv5
              clear hv5
              have HV1 : Hid (vk1 ⟨ek, en, evk, evn, evs⟩ = evk) := by show vk1 ⟨ek, en, evk, evn, evs⟩ = _; unfold vk1; first | (simp [*]; done) | (simp_all [Hid]; done)
              go_wp2_with fail
              refine (HOWN.out _ (HB.out.trans (((Below.refl _ _).alloc (Nat.le_refl _) _).mono HB.out.size)) _ _ _).mono ?_
              rintro x w1 ⟨lo1, lc1, rfl, hb1⟩
              have hbx := box_stays hb1
              obtain ⟨⟨d0, d1, d2, d3, d4, d5⟩, ⟨f0, f1, f2, f3, f4, f5⟩⟩ := box6 hbx
              have hup := below_up hb1
              have hsz : wr.heap.size < w1.heap.size := by have := hb1.size; simp at this; omega
              clear hb1 c0 c1 c2 c3 c4 c5
              go_wp2_with fail
              refine (HSP.out _).mono ?_
              rintro x u1 ⟨rfl, rfl⟩
              obtain ⟨u1, hu1, hg1, hl1⟩ := set2345 hbx (.int .i64 evk) (.int .i64 evn) (.string evs) (.slice lo1 ln lc1) hup (Nat.le_refl _)
              rw [← hu1]
              have hgA := hg1
              have hlA := hl1
              clear hg1 hl1 hu1
              clear hbx hup hsz d0 d1 d2 d3 d4 d5 f0 f1 f2 f3 f4 f5
              obtain ⟨⟨d0, d1, d2, d3, d4, d5⟩, ⟨f0, f1, f2, f3, f4, f5⟩⟩ := box6 hgA
              have HV2 : Hid (evOf ⟨ek, en, evk, evn, evs⟩ = ⟨1 + sp, en, evk, evn, evs⟩) := by
                show evOf ⟨ek, en, evk, evn, evs⟩ = _
                unfold evOf vk2
                rw [HV1.out, ← HKO.out]
                first | (simp [*]; done) | (simp_all [Hid]; done)
              obtain ⟨u3, hu3, hg3, hl3⟩ := set1 (i := 0) hgA (.int .i64 (1 + sp)) hlA (Nat.le_refl _)
              have hgZ : u3.heap[wr.heap.size]? = some (.cells #[.int .i64 (1 + sp), .int .i64 en, .int .i64 evk, .int .i64 evn, .string evs, .slice lo1 ln lc1] 34 (0, 0)) := hg3
              have hlZ := hl3
              have hal : Below u3.heap.size u3 (u3.alloc (.cells #[.int .i64 (1 + sp), .int .i64 en, .int .i64 evk, .int .i64 evn, .string evs, .slice lo1 ln lc1] 34)) := (Below.refl _ _).alloc (Nat.le_refl _) _
              have HBZ : Hid (Below w.heap.size w u3) := HB.out.trans (hlZ.mono HB.out.size)
              have HROWZ : Hid ((u3.alloc (.cells #[.int .i64 (1 + sp), .int .i64 en, .int .i64 evk, .int .i64 evn, .string evs, .slice lo1 ln lc1] 34)).ownsRow w.heap.size 34 6 (.slice so k sc) es'.length (rc Eo.cells es')) := row_below (row_below HROW.out hlZ) hal
              have HLIT : Hid ((u3.alloc (.cells #[.int .i64 (1 + sp), .int .i64 en, .int .i64 evk, .int .i64 evn, .string evs, .slice lo1 ln lc1] 34)).ownsRow w.heap.size 34 6 (.slice (some ⟨wr.heap.size, 0, none⟩) 1 1) 1 (Eo.cells ⟨⟨1 + sp, en, evk, evn, evs⟩, lo1, ln, lc1⟩) ∨ True) := .inr trivial
              have hszz : u3.heap.size = u1.heap.size := by rw [hu3]; simp [World.setCell]
              have HLZ : Hid ((u3.alloc (.cells #[.int .i64 (1 + sp), .int .i64 en, .int .i64 evk, .int .i64 evn, .string evs, .slice lo1 ln lc1] 34)).ownsRow w.heap.size 34 6 (.slice (some ⟨u1.heap.size, 0, none⟩) 1 1) 1 (Eo.cells ⟨⟨1 + sp, en, evk, evn, evs⟩, lo1, ln, lc1⟩)) := by rw [← hszz]; exact World.ownsRow_lit u3 #[.int .i64 (1 + sp), .int .i64 en, .int .i64 evk, .int .i64 evn, .string evs, .slice lo1 ln lc1] 1 HBZ.out.size (by decide) rfl
              clear hszz
              have HBAL : Hid (Below w.heap.size w (u3.alloc (.cells #[.int .i64 (1 + sp), .int .i64 en, .int .i64 evk, .int .i64 evn, .string evs, .slice lo1 ln lc1] 34))) := HBZ.out.trans (hal.mono HBZ.out.size)
              subst hu3
              clear hgA hlA hgZ hlZ hg3 hl3 hal HLIT
              by_cases h399 : k + 1 = 400
              · have hki : (k : Int) + 1 = 400 := by omega
                have HK399 : Hid (k + 1 = 400) := h399
                go_wp2_with (at_builtin; refine gappL rfl _ _ Eo.len Try.infoEv rfl (by decide) Try.underlying29 rfl rfl rfl HROWZ.out HLZ.out (Eo.one _) HBAL.out.size (by rw [HEL.out]; omega) (by decide) ?_; intro v2 u5 hr hg hb5; obtain ⟨ao, cap, hv2⟩ := HOUT.out _ _ _ hr; subst hv2; have HR5 := Hid.mk' hr; have HB5 : Hid (Below w.heap.size w u5) := HBAL.out.trans hb5; clear hr hg hb5)
                go_ret
                refine ⟨_, es' ++ [⟨⟨1 + sp, en, evk, evn, evs⟩, lo1, ln, lc1⟩], rfl, (by have h5 := HR5.out; rw [HK399.out] at h5; exact h5), ?_, HB5.out⟩
                rw [List.map_append, show es.take 400 = es.take (k + 1) by rw [HK399.out]]
                exact HTAKE.out _ HV2.out.symm
              · have hkb : ((k : Int) + 1 == 400) = false := by simp; omega
                go_wp2_with (at_builtin; refine gappL rfl _ _ Eo.len Try.infoEv rfl (by decide) Try.underlying29 rfl rfl rfl HROWZ.out HLZ.out (Eo.one _) HBAL.out.size (by rw [HEL.out]; omega) (by decide) ?_; intro v2 u5 hr hg hb5; obtain ⟨ao, cap, hv2⟩ := HOUT.out _ _ _ hr; subst hv2; have HR5 := Hid.mk' hr; have HB5 : Hid (Below w.heap.size w u5) := HBAL.out.trans hb5; clear hr hg hb5)
                go_roundw
                case rel => exact ⟨k + 1, _, by omega, by omega, by go_num, (by show _ = _; rw [List.length_append, HEL.out]; rfl), (by show _ = _; rw [List.map_append]; exact HTAKE.out _ HV2.out.symm), HR5.out, HB5.out⟩
                case measure => simp [intOf]; omega
            · have bv5 : (evk != 5) = true := by simp [hv5]
              have HV1 : Hid (vk1 ⟨ek, en, evk, evn, evs⟩ = evk) := by show vk1 ⟨ek, en, evk, evn, evs⟩ = _; unfold vk1; first | (simp [*]; done) | (simp_all [Hid]; done)
              go_wp2_with fail
              refine (HOWN.out _ (HB.out.trans (((Below.refl _ _).alloc (Nat.le_refl _) _).mono HB.out.size)) _ _ _).mono ?_
              rintro x w1 ⟨lo1, lc1, rfl, hb1⟩
              have hbx := box_stays hb1
              obtain ⟨⟨d0, d1, d2, d3, d4, d5⟩, ⟨f0, f1, f2, f3, f4, f5⟩⟩ := box6 hbx
              have hup := below_up hb1
              have hsz : wr.heap.size < w1.heap.size := by have := hb1.size; simp at this; omega
              clear hb1 c0 c1 c2 c3 c4 c5
              go_wp2_with fail
              refine (HSP.out _).mono ?_
              rintro x u1 ⟨rfl, rfl⟩
              obtain ⟨u1, hu1, hg1, hl1⟩ := set2345 hbx (.int .i64 evk) (.int .i64 evn) (.string evs) (.slice lo1 ln lc1) hup (Nat.le_refl _)
              rw [← hu1]
              have hgA := hg1
              have hlA := hl1
              clear hg1 hl1 hu1
              clear hbx hup hsz d0 d1 d2 d3 d4 d5 f0 f1 f2 f3 f4 f5
              obtain ⟨⟨d0, d1, d2, d3, d4, d5⟩, ⟨f0, f1, f2, f3, f4, f5⟩⟩ := box6 hgA
              have HV2 : Hid (evOf ⟨ek, en, evk, evn, evs⟩ = ⟨1 + sp, en, 1, evn, evs⟩) := by
                show evOf ⟨ek, en, evk, evn, evs⟩ = _
                unfold evOf vk2
                rw [HV1.out, ← HKO.out]
                first | (simp [*]; done) | (simp_all [Hid]; done)
              obtain ⟨u3, hu3, hg3, hl3⟩ := set1 (i := 0) hgA (.int .i64 (1 + sp)) hlA (Nat.le_refl _)
              obtain ⟨u4, hu4, hg4, hl4⟩ := set1 (i := 2) hg3 (.int .i64 1) hl3 (Nat.le_refl _)
              have hgZ : u4.heap[wr.heap.size]? = some (.cells #[.int .i64 (1 + sp), .int .i64 en, .int .i64 1, .int .i64 evn, .string evs, .slice lo1 ln lc1] 34 (0, 0)) := hg4
              have hlZ := hl4
              have hal : Below u4.heap.size u4 (u4.alloc (.cells #[.int .i64 (1 + sp), .int .i64 en, .int .i64 1, .int .i64 evn, .string evs, .slice lo1 ln lc1] 34)) := (Below.refl _ _).alloc (Nat.le_refl _) _
              have HBZ : Hid (Below w.heap.size w u4) := HB.out.trans (hlZ.mono HB.out.size)
              have HROWZ : Hid ((u4.alloc (.cells #[.int .i64 (1 + sp), .int .i64 en, .int .i64 1, .int .i64 evn, .string evs, .slice lo1 ln lc1] 34)).ownsRow w.heap.size 34 6 (.slice so k sc) es'.length (rc Eo.cells es')) := row_below (row_below HROW.out hlZ) hal
              have HLIT : Hid ((u4.alloc (.cells #[.int .i64 (1 + sp), .int .i64 en, .int .i64 1, .int .i64 evn, .string evs, .slice lo1 ln lc1] 34)).ownsRow w.heap.size 34 6 (.slice (some ⟨wr.heap.size, 0, none⟩) 1 1) 1 (Eo.cells ⟨⟨1 + sp, en, 1, evn, evs⟩, lo1, ln, lc1⟩) ∨ True) := .inr trivial
              have hszz : u4.heap.size = u1.heap.size := by rw [hu4, hu3]; simp [World.setCell]
              have HLZ : Hid ((u4.alloc (.cells #[.int .i64 (1 + sp), .int .i64 en, .int .i64 1, .int .i64 evn, .string evs, .slice lo1 ln lc1] 34)).ownsRow w.heap.size 34 6 (.slice (some ⟨u1.heap.size, 0, none⟩) 1 1) 1 (Eo.cells ⟨⟨1 + sp, en, 1, evn, evs⟩, lo1, ln, lc1⟩)) := by rw [← hszz]; exact World.ownsRow_lit u4 #[.int .i64 (1 + sp), .int .i64 en, .int .i64 1, .int .i64 evn, .string evs, .slice lo1 ln lc1] 1 HBZ.out.size (by decide) rfl
              clear hszz
              have HBAL : Hid (Below w.heap.size w (u4.alloc (.cells #[.int .i64 (1 + sp), .int .i64 en, .int .i64 1, .int .i64 evn, .string evs, .slice lo1 ln lc1] 34))) := HBZ.out.trans (hal.mono HBZ.out.size)
              subst hu4
              subst hu3
              clear hgA hlA hgZ hlZ hg3 hl3 hg4 hl4 hal HLIT
              by_cases h399 : k + 1 = 400
              · have hki : (k : Int) + 1 = 400 := by omega
                have HK399 : Hid (k + 1 = 400) := h399
                go_wp2_with (at_builtin; refine gappL rfl _ _ Eo.len Try.infoEv rfl (by decide) Try.underlying29 rfl rfl rfl HROWZ.out HLZ.out (Eo.one _) HBAL.out.size (by rw [HEL.out]; omega) (by decide) ?_; intro v2 u5 hr hg hb5; obtain ⟨ao, cap, hv2⟩ := HOUT.out _ _ _ hr; subst hv2; have HR5 := Hid.mk' hr; have HB5 : Hid (Below w.heap.size w u5) := HBAL.out.trans hb5; clear hr hg hb5)
                go_ret
                refine ⟨_, es' ++ [⟨⟨1 + sp, en, 1, evn, evs⟩, lo1, ln, lc1⟩], rfl, (by have h5 := HR5.out; rw [HK399.out] at h5; exact h5), ?_, HB5.out⟩
                rw [List.map_append, show es.take 400 = es.take (k + 1) by rw [HK399.out]]
                exact HTAKE.out _ HV2.out.symm
              · have hkb : ((k : Int) + 1 == 400) = false := by simp; omega
                go_wp2_with (at_builtin; refine gappL rfl _ _ Eo.len Try.infoEv rfl (by decide) Try.underlying29 rfl rfl rfl HROWZ.out HLZ.out (Eo.one _) HBAL.out.size (by rw [HEL.out]; omega) (by decide) ?_; intro v2 u5 hr hg hb5; obtain ⟨ao, cap, hv2⟩ := HOUT.out _ _ _ hr; subst hv2; have HR5 := Hid.mk' hr; have HB5 : Hid (Below w.heap.size w u5) := HBAL.out.trans hb5; clear hr hg hb5)
                go_roundw
                case rel => exact ⟨k + 1, _, by omega, by omega, by go_num, (by show _ = _; rw [List.length_append, HEL.out]; rfl), (by show _ = _; rw [List.map_append]; exact HTAKE.out _ HV2.out.symm), HR5.out, HB5.out⟩
                case measure => simp [intOf]; omega
        · have hs4b : (1 + sp == 4) = false := by simpa using hs4
          have HV1 : Hid (vk1 ⟨ek, en, evk, evn, evs⟩ = evk) := by show vk1 ⟨ek, en, evk, evn, evs⟩ = _; unfold vk1; first | (simp [*]; done) | (simp_all [Hid]; done)
          go_wp2_with fail
          refine (HOWN.out _ (HB.out.trans (((Below.refl _ _).alloc (Nat.le_refl _) _).mono HB.out.size)) _ _ _).mono ?_
          rintro x w1 ⟨lo1, lc1, rfl, hb1⟩
          have hbx := box_stays hb1
          obtain ⟨⟨d0, d1, d2, d3, d4, d5⟩, ⟨f0, f1, f2, f3, f4, f5⟩⟩ := box6 hbx
          have hup := below_up hb1
          have hsz : wr.heap.size < w1.heap.size := by have := hb1.size; simp at this; omega
          clear hb1 c0 c1 c2 c3 c4 c5
          go_wp2_with fail
          refine (HSP.out _).mono ?_
          rintro x u1 ⟨rfl, rfl⟩
          obtain ⟨u1, hu1, hg1, hl1⟩ := set2345 hbx (.int .i64 evk) (.int .i64 evn) (.string evs) (.slice lo1 ln lc1) hup (Nat.le_refl _)
          rw [← hu1]
          have hgA := hg1
          have hlA := hl1
          clear hg1 hl1 hu1
          clear hbx hup hsz d0 d1 d2 d3 d4 d5 f0 f1 f2 f3 f4 f5
          obtain ⟨⟨d0, d1, d2, d3, d4, d5⟩, ⟨f0, f1, f2, f3, f4, f5⟩⟩ := box6 hgA
          have HV2 : Hid (evOf ⟨ek, en, evk, evn, evs⟩ = ⟨1 + sp, en, evk, evn, evs⟩) := by
            show evOf ⟨ek, en, evk, evn, evs⟩ = _
            unfold evOf vk2
            rw [HV1.out, ← HKO.out]
            first | (simp [*]; done) | (simp_all [Hid]; done)
          obtain ⟨u3, hu3, hg3, hl3⟩ := set1 (i := 0) hgA (.int .i64 (1 + sp)) hlA (Nat.le_refl _)
          have hgZ : u3.heap[wr.heap.size]? = some (.cells #[.int .i64 (1 + sp), .int .i64 en, .int .i64 evk, .int .i64 evn, .string evs, .slice lo1 ln lc1] 34 (0, 0)) := hg3
          have hlZ := hl3
          have hal : Below u3.heap.size u3 (u3.alloc (.cells #[.int .i64 (1 + sp), .int .i64 en, .int .i64 evk, .int .i64 evn, .string evs, .slice lo1 ln lc1] 34)) := (Below.refl _ _).alloc (Nat.le_refl _) _
          have HBZ : Hid (Below w.heap.size w u3) := HB.out.trans (hlZ.mono HB.out.size)
          have HROWZ : Hid ((u3.alloc (.cells #[.int .i64 (1 + sp), .int .i64 en, .int .i64 evk, .int .i64 evn, .string evs, .slice lo1 ln lc1] 34)).ownsRow w.heap.size 34 6 (.slice so k sc) es'.length (rc Eo.cells es')) := row_below (row_below HROW.out hlZ) hal
          have HLIT : Hid ((u3.alloc (.cells #[.int .i64 (1 + sp), .int .i64 en, .int .i64 evk, .int .i64 evn, .string evs, .slice lo1 ln lc1] 34)).ownsRow w.heap.size 34 6 (.slice (some ⟨wr.heap.size, 0, none⟩) 1 1) 1 (Eo.cells ⟨⟨1 + sp, en, evk, evn, evs⟩, lo1, ln, lc1⟩) ∨ True) := .inr trivial
          have hszz : u3.heap.size = u1.heap.size := by rw [hu3]; simp [World.setCell]
          have HLZ : Hid ((u3.alloc (.cells #[.int .i64 (1 + sp), .int .i64 en, .int .i64 evk, .int .i64 evn, .string evs, .slice lo1 ln lc1] 34)).ownsRow w.heap.size 34 6 (.slice (some ⟨u1.heap.size, 0, none⟩) 1 1) 1 (Eo.cells ⟨⟨1 + sp, en, evk, evn, evs⟩, lo1, ln, lc1⟩)) := by rw [← hszz]; exact World.ownsRow_lit u3 #[.int .i64 (1 + sp), .int .i64 en, .int .i64 evk, .int .i64 evn, .string evs, .slice lo1 ln lc1] 1 HBZ.out.size (by decide) rfl
          clear hszz
          have HBAL : Hid (Below w.heap.size w (u3.alloc (.cells #[.int .i64 (1 + sp), .int .i64 en, .int .i64 evk, .int .i64 evn, .string evs, .slice lo1 ln lc1] 34))) := HBZ.out.trans (hal.mono HBZ.out.size)
          subst hu3
          clear hgA hlA hgZ hlZ hg3 hl3 hal HLIT
          by_cases h399 : k + 1 = 400
          · have hki : (k : Int) + 1 = 400 := by omega
            have HK399 : Hid (k + 1 = 400) := h399
            go_wp2_with (at_builtin; refine gappL rfl _ _ Eo.len Try.infoEv rfl (by decide) Try.underlying29 rfl rfl rfl HROWZ.out HLZ.out (Eo.one _) HBAL.out.size (by rw [HEL.out]; omega) (by decide) ?_; intro v2 u5 hr hg hb5; obtain ⟨ao, cap, hv2⟩ := HOUT.out _ _ _ hr; subst hv2; have HR5 := Hid.mk' hr; have HB5 : Hid (Below w.heap.size w u5) := HBAL.out.trans hb5; clear hr hg hb5)
            go_ret
            refine ⟨_, es' ++ [⟨⟨1 + sp, en, evk, evn, evs⟩, lo1, ln, lc1⟩], rfl, (by have h5 := HR5.out; rw [HK399.out] at h5; exact h5), ?_, HB5.out⟩
            rw [List.map_append, show es.take 400 = es.take (k + 1) by rw [HK399.out]]
            exact HTAKE.out _ HV2.out.symm
          · have hkb : ((k : Int) + 1 == 400) = false := by simp; omega
            go_wp2_with (at_builtin; refine gappL rfl _ _ Eo.len Try.infoEv rfl (by decide) Try.underlying29 rfl rfl rfl HROWZ.out HLZ.out (Eo.one _) HBAL.out.size (by rw [HEL.out]; omega) (by decide) ?_; intro v2 u5 hr hg hb5; obtain ⟨ao, cap, hv2⟩ := HOUT.out _ _ _ hr; subst hv2; have HR5 := Hid.mk' hr; have HB5 : Hid (Below w.heap.size w u5) := HBAL.out.trans hb5; clear hr hg hb5)
            go_roundw
            case rel => exact ⟨k + 1, _, by omega, by omega, by go_num, (by show _ = _; rw [List.length_append, HEL.out]; rfl), (by show _ = _; rw [List.map_append]; exact HTAKE.out _ HV2.out.symm), HR5.out, HB5.out⟩
            case measure => simp [intOf]; omega
    · have hke : n = k := by omega
      subst hke
      go_wp2_with fail
      go_ret
      refine ⟨_, es', rfl, HROW.out, ?_, HB.out⟩
      rw [HEM.out, List.take_of_length_le (by rw [← HLEN.out]; omega), List.take_of_length_le (by rw [← HLEN.out]; omega)]
end Go.Proofs.Ytcnpoldcebdhjaa
