/- What events come to, one by one. -/
import Derived.Test.YtcnpoldcebdhjaaQe2
namespace Go.Proofs.Ytcnpoldcebdhjaa
open Go.ChangeShapes Go.WideShapes Go.ChangeAt Go.RowKit
set_option maxRecDepth 100000
set_option linter.unusedSimpArgs false
set_option linter.unusedVariables false
def So.val (s : So) : Value := .agg #[.slice s.fo s.es.length s.fc, .slice s.po s.st.ps.length s.pc, .int .i64 s.st.next, .int .i64 s.st.ser, .int .i64 s.st.fin, .int .i64 s.st.stat]
def To.val (t : To) : Value := .slice t.to t.td.length t.tc
def Eo.val (e : Eo) : Value := .agg #[.int .i64 e.x.k, .int .i64 e.x.n, .int .i64 e.x.vk, .int .i64 e.x.vn, .string e.x.vs, .slice e.lo e.ln e.lc]
theorem box_grown {u u4 : World} {row : Option Nat} {b : Nat} {o : Obj} (hg : u.grownBy u4 row) (h : u.heap[b]? = some o) (hlo : ∀ q, row = some q → b + 1 ≤ q) : u4.heap[b]? = some o := by
  rw [hg.block b (Array.getElem?_eq_some_iff.1 h).1 (fun e => by have := hlo b e.symm; omega)]
  exact h
theorem row_base {w : World} {B e s n : Nat} {v : Value} {xs : List Value} (h : w.ownsRow 0 e s v n xs) (hb : ∀ q, v.ownBlock = some q → B ≤ q) : w.ownsRow B e s v n xs := by
  refine ⟨h.1, ?_⟩
  rcases h.2 with h0 | ⟨g, cap, cur, h1, h2, h3⟩
  · exact .inl h0
  · exact .inr ⟨g, cap, cur, h1, hb g (by rw [h1]; rfl), h3⟩
def anyW : Value → World → Prop := fun _ _ => True
theorem stab_anyW : Stab anyW := fun _ _ _ _ _ => trivial
theorem own_stepS (s : So) (e : Ev) (lo : Option Addr) (ln lc : Nat) (i : Nat) (w : World) (h : SOwn w s) (hok : Ok i s.st) (hi : i ≤ 500000) (h0 : s.st.fin = 0) (hn : Norm e) :
    Calls Try.prog 14 #[s.val, e.val lo ln lc] w fun x w' => (∃ s' t', s'.st = (s.st.step [] e).1 ∧ t'.td = (s.st.step [] e).2 ∧ x = .returned (.tuple #[So.val s', To.val t', .int .i64 0]) ∧ SOwn w' s' ∧ TOwn w' t') ∧ Below w.heap.size w w' := by
  refine (own_step _ _ s.es s.st e lo ln lc w h.lies (hok.take h0 hi)).mono ?_
  rintro x w' ⟨(⟨hc, -⟩ | ⟨-, F, P, T, es, rfl, hs⟩), hb⟩
  · exact absurd (code_norm h0 (hok.u.ne h0) hn) hc
  · refine ⟨?_, hb⟩
    obtain ⟨fo, fc, hF⟩ := row_slice hs.fr.row
    obtain ⟨po, pc, hP⟩ := row_slice hs.ps
    obtain ⟨to, tc, hT⟩ := row_slice hs.td
    rw [List.length_reverse] at hP
    subst hF; subst hP; subst hT
    refine ⟨⟨(s.st.step [] e).1, fo, fc, po, pc, es⟩, ⟨(s.st.step [] e).2, to, tc⟩, rfl, rfl, rfl, ⟨⟨row_up hs.fr.row (Nat.zero_le _), fun e he => row_up (hs.fr.own e he) (Nat.zero_le _), hs.fr.apart, hs.fr.xs⟩, row_up hs.ps (Nat.zero_le _)⟩, row_up hs.td (Nat.zero_le _)⟩
def tupAt (v : Value) (k : Nat) : Value := match v with | .tuple xs => xs.getD k undef | _ => undef
def aggOf (v : Value) : Array Value := match v with | .agg cs => cs | _ => #[]
/-- What a step's answer is. -/
def isStepd (st' : St) (td' : List Tl) : Value → World → Prop := fun v u => ∃ s' t', s'.st = st' ∧ t'.td = td' ∧ v = .tuple #[So.val s', To.val t', .int .i64 0] ∧ SOwn u s' ∧ TOwn u t'
theorem stab_stepd (st' : St) (td' : List Tl) : Stab (isStepd st' td') := fun v w w' hb ⟨s', t', h1, h2, h3, h4, h5⟩ => ⟨s', t', h1, h2, h3, h4.keeps (Keeps.below (t0 := 26) hb) (by decide) (by decide) (by decide), row_below h5 hb⟩
structure XR (lo : Nat) (d : Nat → Bool) (f : Nat → Value) (u : World) : Prop where
  a : d 6 = true → f 6 = f 5
  b : d 7 = true → f 7 = tupAt (f 5) 0
  c : d 8 = true → f 8 = tupAt (f 5) 1
  e : d 9 = true → f 9 = tupAt (f 5) 2
  g : d 12 = true → f 12 = f 8
  h : d 13 = true → f 13 = f 9
  k : d 10 = true → ∃ g, f 10 = .pointer (some ⟨g, 0, none⟩) ∧ lo ≤ g ∧ (d 11 = false → u.heap[g]? = some (.cells #[.slice none 0 0, .slice none 0 0, .int .i64 0, .int .i64 0, .int .i64 0, .int .i64 0] 26 (0, 0))) ∧ (d 11 = true → u.heap[g]? = some (.cells (aggOf (f 7)) 26 (0, 0)))
  l : d 11 = true → d 10 = true
/-- How far it is. -/
structure Pr (evs : List Eo) (k : Nat) (c : So) (ss : List So) (ts : List To) : Prop where
  ok : Ok k c.st
  st : bSt :: (trace bSt (evs.map (·.x))).map (·.1) = ss.map (·.st) ++ (trace c.st ((evs.map (·.x)).drop k)).map (·.1)
  td : (trace bSt (evs.map (·.x))).map (·.2) = ts.map (·.td) ++ (trace c.st ((evs.map (·.x)).drop k)).map (·.2)
set_option maxHeartbeats 10000000 in
theorem own_played (v : Value) (evs : List Eo) (w : World) (h : w.ownsRow 0 34 6 v evs.length (rc Eo.cells evs)) (hn : evs.length ≤ 400) (hnorm : ∀ e ∈ evs, Norm e.x) :
    Calls Try.prog 20 #[v] w fun x w' => ∃ S Al ss ts, x = .returned (.tuple #[S, Al, .bool true]) ∧ w'.ownsRow 0 26 6 S ss.length (rc So.cells ss) ∧ (∀ s ∈ ss, SOwn w' s) ∧ w'.ownsRow 0 37 1 Al ts.length (rc To.cells ts) ∧ (∀ t ∈ ts, TOwn w' t) ∧ w'.ownsRow 0 34 6 v evs.length (rc Eo.cells evs) ∧
      ss.map (·.st) = bSt :: (trace bSt (evs.map (·.x))).map (·.1) ∧ ts.map (·.td) = (trace bSt (evs.map (·.x))).map (·.2) ∧ Below w.heap.size w w' := by
  have HEV : Hid (w.ownsRow 0 34 6 v evs.length (rc Eo.cells evs)) := h
  obtain ⟨vo, vc, hv⟩ := row_slice h
  obtain ⟨n, hn1⟩ : ∃ n, n = evs.length := ⟨_, rfl⟩
  have HLEN : Hid (n = evs.length) := hn1
  have hn4 : n ≤ 400 := by omega
  rw [← hn1] at hv
  subst hv
  have HNORM : Hid (∀ e ∈ evs, Norm e.x) := hnorm
  clear h hn hn1 hnorm
  go_enter Try.func20, Try.ntmps20
  go_wp2_with fail
  refine (own_beginP w).mono ?_
  rintro x w1 ⟨F0, es0, rfl, hfr0, hb0⟩
  obtain ⟨fo0, fc0, hF0⟩ := row_slice hfr0.row
  have hel : es0.length = 1 := by rw [hfr0.len]; rfl
  rw [hel] at hF0
  subst hF0
  unfold St.val bSt
  obtain ⟨c0, hc0⟩ : ∃ c : So, c = ⟨bSt, fo0, fc0, none, 0, es0⟩ := ⟨_, rfl⟩
  have HSO : Hid (SOwn w1 c0) := by rw [hc0]; have hr := hfr0.row; exact ⟨⟨row_up (by simp only [hel] at hr ⊢; exact hr) (Nat.zero_le _), fun e he => row_up (hfr0.own e he) (Nat.zero_le _), hfr0.apart, hfr0.xs⟩, World.ownsRow_nil _ _ _ _⟩
  have HB0 : Hid (Below w.heap.size w w1) := hb0
  have HES : Hid (es0.length = 1) := hel
  have hc1 : w1.heap.size + 1 = (w1.alloc (.cells #[.slice fo0 1 fc0, .slice none 0 0, .int .i64 1, .int .i64 0, .int .i64 0, .int .i64 0] 26)).heap.size := by simp
  have hal : Below w1.heap.size w1 ((w1.alloc (.cells #[.slice fo0 1 fc0, .slice none 0 0, .int .i64 1, .int .i64 0, .int .i64 0, .int .i64 0] 26)).alloc (.cells #[.slice fo0 1 fc0, .slice none 0 0, .int .i64 1, .int .i64 0, .int .i64 0, .int .i64 0] 26)) := ((Below.refl _ _).alloc (Nat.le_refl _) _).alloc (by simp) _
  have HBX0 : Hid (((w1.alloc (.cells #[.slice fo0 1 fc0, .slice none 0 0, .int .i64 1, .int .i64 0, .int .i64 0, .int .i64 0] 26)).alloc (.cells #[.slice fo0 1 fc0, .slice none 0 0, .int .i64 1, .int .i64 0, .int .i64 0, .int .i64 0] 26)).heap[w1.heap.size]? = some (.cells #[.slice c0.fo c0.es.length c0.fc, .slice c0.po c0.st.ps.length c0.pc, .int .i64 c0.st.next, .int .i64 c0.st.ser, .int .i64 c0.st.fin, .int .i64 c0.st.stat] 26 (0, 0))) := by
    have h1 : ((w1.alloc (.cells #[.slice fo0 1 fc0, .slice none 0 0, .int .i64 1, .int .i64 0, .int .i64 0, .int .i64 0] 26)).alloc (.cells #[.slice fo0 1 fc0, .slice none 0 0, .int .i64 1, .int .i64 0, .int .i64 0, .int .i64 0] 26)).heap[w1.heap.size]? = some (.cells #[.slice fo0 1 fc0, .slice none 0 0, .int .i64 1, .int .i64 0, .int .i64 0, .int .i64 0] 26 (0, 0)) := box_stays ((Below.refl _ _).alloc (Nat.le_refl _) _)
    show _ = _
    rw [h1, hc0]
    simp only [HES.out]
    rfl
  have HPL0 : Hid (Pl w1.heap.size w (.slice vo n vc) (.slice (some ⟨w1.heap.size + 1, 0, none⟩) 1 1) (.slice none 0 0) evs [c0] [] ((w1.alloc (.cells #[.slice fo0 1 fc0, .slice none 0 0, .int .i64 1, .int .i64 0, .int .i64 0, .int .i64 0] 26)).alloc (.cells #[.slice fo0 1 fc0, .slice none 0 0, .int .i64 1, .int .i64 0, .int .i64 0, .int .i64 0] 26))) := by
    have hr := World.ownsRow_lit (base := w1.heap.size + 1) (e := 26) (size := 6) (w1.alloc (.cells #[.slice fo0 1 fc0, .slice none 0 0, .int .i64 1, .int .i64 0, .int .i64 0, .int .i64 0] 26)) #[.slice fo0 1 fc0, .slice none 0 0, .int .i64 1, .int .i64 0, .int .i64 0, .int .i64 0] 1 (by simp) (by decide) rfl
    rw [← hc1] at hr
    refine ⟨row_below HEV.out ((HB0.out.trans (hal.mono HB0.out.size))), ?_, fun s hs => ?_, World.ownsRow_nil _ _ _ _, (fun t ht => by cases ht), HB0.out.trans (hal.mono HB0.out.size)⟩
    · rw [hc0]
      simp only [rc, List.flatMap_cons, List.flatMap_nil, List.append_nil, So.cells, HES.out, List.length_singleton]
      exact hr
    · simp only [List.mem_singleton] at hs; subst hs
      exact HSO.out.keeps (Keeps.below (t0 := 26) hal) (by decide) (by decide) (by decide)
  have HSO0 : Hid (SOwn ((w1.alloc (.cells #[.slice fo0 1 fc0, .slice none 0 0, .int .i64 1, .int .i64 0, .int .i64 0, .int .i64 0] 26)).alloc (.cells #[.slice fo0 1 fc0, .slice none 0 0, .int .i64 1, .int .i64 0, .int .i64 0, .int .i64 0] 26)) c0) := HSO.out.keeps (Keeps.below (t0 := 26) hal) (by decide) (by decide) (by decide)
  have HPR0 : Hid (Pr evs 0 c0 [c0] []) := by rw [hc0]; exact ⟨Ok.start, rfl, rfl⟩
  obtain ⟨sb, hsb⟩ : ∃ x, x = w1.heap.size := ⟨_, rfl⟩
  have HSB : Hid (w.heap.size ≤ sb) := by rw [hsb]; exact HB0.out.size
  have hsb1 : sb + 1 = w1.heap.size + 1 := by rw [hsb]
  clear hfr0 hb0 hel hc0 hc1 hal
  go_wp2_with fail
  rw [← hsb] at HBX0 HPL0 ⊢
  clear hsb hsb1
  generalize (w1.alloc (.cells #[.slice fo0 1 fc0, .slice none 0 0, .int .i64 1, .int .i64 0, .int .i64 0, .int .i64 0] 26)).alloc (.cells #[.slice fo0 1 fc0, .slice none 0 0, .int .i64 1, .int .i64 0, .int .i64 0, .int .i64 0] 26) = W0 at *
  go_loopw [6, 7, 8] (fun s6 s7 s8 wr => ∃ (k : Nat) (c : So) (ss : List So) (ts : List To), k ≤ n ∧ s8 = .int .i64 k ∧ Hid (Pr evs k c ss ts) ∧ Hid (SOwn wr c) ∧ Hid (wr.heap[sb]? = some (.cells #[.slice c.fo c.es.length c.fc, .slice c.po c.st.ps.length c.pc, .int .i64 c.st.next, .int .i64 c.st.ser, .int .i64 c.st.fin, .int .i64 c.st.stat] 26 (0, 0))) ∧ Hid (Pl sb w (.slice vo n vc) s6 s7 evs ss ts wr) ∧ Hid (∀ q, s7.ownBlock = some q → w.heap.size ≤ q) ∧ Hid (ss.length = k + 1 ∧ ts.length = k)) (fun _ _ i _ => n - (intOf i).toNat)
  case atStart => exact ⟨0, c0, [c0], [], Nat.zero_le _, rfl, HPR0.out, HSO0.out, HBX0.out, HPL0.out, (fun q hq => by cases hq), ⟨rfl, rfl⟩⟩
  case round =>
    obtain ⟨k, c, ss, ts, hk, rfl, HPR, HSC, HBX, HPL, HLO, HLN⟩ := hrel
    obtain ⟨wq, hwq⟩ : ∃ x, wr = x := ⟨_, rfl⟩
    subst hwq
    obtain ⟨⟨c0x, c1x, c2x, c3x, c4x, c5x⟩, -⟩ := box6 HBX.out
    obtain ⟨so6, sc6, hs6⟩ := row_slice HPL.out.srow
    obtain ⟨so7, sc7, hs7⟩ := row_slice HPL.out.trow
    rw [HLN.out.1] at hs6
    rw [HLN.out.2] at hs7
    subst hs6; subst hs7
    have HEND : Hid (trace c.st ((evs.map (·.x)).drop k) = [] → ∃ S Al ss ts, (Value.tuple #[.slice so6 (k + 1) sc6, .slice so7 k sc7, .bool true]) = (.tuple #[S, Al, .bool true]) ∧ wr.ownsRow 0 26 6 S ss.length (rc So.cells ss) ∧ (∀ s ∈ ss, SOwn wr s) ∧ wr.ownsRow 0 37 1 Al ts.length (rc To.cells ts) ∧ (∀ t ∈ ts, TOwn wr t) ∧ wr.ownsRow 0 34 6 (.slice vo n vc) evs.length (rc Eo.cells evs) ∧
      ss.map (·.st) = bSt :: (trace bSt (evs.map (·.x))).map (·.1) ∧ ts.map (·.td) = (trace bSt (evs.map (·.x))).map (·.2) ∧ Below w.heap.size w wr) := fun ht => by
      have hst := HPR.out.st
      have htd := HPR.out.td
      rw [ht] at hst htd
      simp only [List.map_nil, List.append_nil] at hst htd
      exact ⟨_, _, ss, ts, rfl, row_up HPL.out.srow (Nat.zero_le _), HPL.out.ss, HPL.out.trow, HPL.out.ts, HPL.out.ev, hst.symm, htd.symm, HPL.out.up⟩
    by_cases hlt : k < n
    · have hlti : (k : Int) < (n : Int) := by omega
      by_cases hfin : c.st.fin = 0
      · have HFIN : Hid (c.st.fin = 0) := hfin
        have hfb : (c.st.fin == 0) = true := by simpa using hfin
        clear hfin
        have hk2 : k < evs.length := by rw [← HLEN.out]; exact hlt
        obtain ⟨⟨⟨ek, en, evk, evn, evs1⟩, lo, ln, lc⟩, he⟩ : ∃ e, evs[k]? = some e := ⟨evs[k], List.getElem?_eq_getElem hk2⟩
        obtain ⟨gv, capv, hvv, -, -, -, -, -⟩ := own_at Eo.len HPL.out.ev he
        have hvo : vo = some ⟨gv, 0, none⟩ := by simp only [Value.slice.injEq] at hvv; exact hvv.1
        subst hvo
        have HEVC : Hid (∀ u, Below wr.heap.size wr u → u.cell? ⟨gv, k * 6, none⟩ = some (.int .i64 ek) ∧ u.cell? ⟨gv, k * 6 + 1, none⟩ = some (.int .i64 en) ∧ u.cell? ⟨gv, k * 6 + 2, none⟩ = some (.int .i64 evk) ∧ u.cell? ⟨gv, k * 6 + 3, none⟩ = some (.int .i64 evn) ∧ u.cell? ⟨gv, k * 6 + 4, none⟩ = some (.string evs1) ∧ u.cell? ⟨gv, k * 6 + 5, none⟩ = some (.slice lo ln lc)) := fun u hu => by
          obtain ⟨g', cap', hv', -, -, hc', -, -⟩ := own_at Eo.len (HPL.out.below hu).ev he
          simp only [Value.slice.injEq, Option.some.injEq, Addr.mk.injEq] at hv'
          obtain ⟨⟨hgg, -⟩, -⟩ := hv'
          subst hgg
          refine ⟨?_, hc' 1 _ rfl, hc' 2 _ rfl, hc' 3 _ rfl, hc' 4 _ rfl, hc' 5 _ rfl⟩
          have := hc' 0 _ rfl; simpa using this
        have HNE : Hid (Norm ⟨ek, en, evk, evn, evs1⟩) := HNORM.out _ (List.mem_of_getElem? he)
        have HEK : Hid ((evs.map (·.x))[k]? = some ⟨ek, en, evk, evn, evs1⟩) := by show _ = _; rw [List.getElem?_map, he]; rfl
        obtain ⟨st2, hst2⟩ : ∃ x, x = (c.st.step [] ⟨ek, en, evk, evn, evs1⟩).1 := ⟨_, rfl⟩
        obtain ⟨td2, htd2⟩ : ∃ x, x = (c.st.step [] ⟨ek, en, evk, evn, evs1⟩).2 := ⟨_, rfl⟩
        have HST2 : Hid (st2 = (c.st.step [] ⟨ek, en, evk, evn, evs1⟩).1 ∧ td2 = (c.st.step [] ⟨ek, en, evk, evn, evs1⟩).2) := ⟨hst2, htd2⟩
        have HSTEP : Hid (∀ u, Below wr.heap.size wr u → Calls Try.prog 14 #[.agg #[.slice c.fo c.es.length c.fc, .slice c.po c.st.ps.length c.pc, .int .i64 c.st.next, .int .i64 c.st.ser, .int .i64 c.st.fin, .int .i64 c.st.stat], .agg #[.int .i64 ek, .int .i64 en, .int .i64 evk, .int .i64 evn, .string evs1, .slice lo ln lc]] u fun x w' => (∃ s' t', s'.st = st2 ∧ t'.td = td2 ∧ x = .returned (.tuple #[So.val s', To.val t', .int .i64 0]) ∧ SOwn w' s' ∧ TOwn w' t') ∧ Below u.heap.size u w') := fun u hu => by
          rw [hst2, htd2]
          exact own_stepS c ⟨ek, en, evk, evn, evs1⟩ lo ln lc k u (HSC.out.keeps (Keeps.below (t0 := 26) hu) (by decide) (by decide) (by decide)) HPR.out.ok (by omega) HFIN.out HNE.out
        have HOK2 : Hid (Ok (k + 1) st2) := by show Ok (k + 1) st2; rw [hst2]; exact HPR.out.ok.step HFIN.out HNE.out
        have HPR2 : Hid (∀ s5 : So, ∀ t5 : To, s5.st = st2 → t5.td = td2 → Pr evs (k + 1) s5 (ss ++ [s5]) (ts ++ [t5])) := fun s5 t5 h1 h2 => by
          have hst := HPR.out.st
          have htd := HPR.out.td
          rw [trace_step HFIN.out HEK.out] at hst htd
          refine ⟨by rw [h1]; exact HOK2.out, ?_, ?_⟩
          · rw [hst, List.map_append, List.map_cons, List.append_assoc, ← hst2, h1, hst2]; simp [h1, hst2]
          · rw [htd, List.map_append, List.map_cons, List.append_assoc, ← htd2, h1, hst2]; simp [h2]
        have hsbw : sb < wr.heap.size := (Array.getElem?_eq_some_iff.1 HBX.out).1
        clear hst2 htd2 he hvv hk2 c0x c1x c2x c3x c5x
        go_wp2_with fail
        have hl : AllStab [isV (.agg #[.slice c.fo c.es.length c.fc, .slice c.po c.st.ps.length c.pc, .int .i64 c.st.next, .int .i64 c.st.ser, .int .i64 c.st.fin, .int .i64 c.st.stat]), isV (.slice (some ⟨gv, 0, none⟩) n vc), isV (.int .i64 (k : Int)), isV (.pointer (some ⟨gv, k * 6, none⟩)), isV (.agg #[.int .i64 ek, .int .i64 en, .int .i64 evk, .int .i64 evn, .string evs1, .slice lo ln lc]), isStepd st2 td2, anyW, anyW, anyW, anyW, anyW, anyW, anyW, anyW] := ⟨stab_is _, stab_is _, stab_is _, stab_is _, stab_is _, stab_stepd _ _, stab_anyW, stab_anyW, stab_anyW, stab_anyW, stab_anyW, stab_anyW, stab_anyW, stab_anyW, trivial⟩
        refine wp_joint (JF [isV (.agg #[.slice c.fo c.es.length c.fc, .slice c.po c.st.ps.length c.pc, .int .i64 c.st.next, .int .i64 c.st.ser, .int .i64 c.st.fin, .int .i64 c.st.stat]), isV (.slice (some ⟨gv, 0, none⟩) n vc), isV (.int .i64 (k : Int)), isV (.pointer (some ⟨gv, k * 6, none⟩)), isV (.agg #[.int .i64 ek, .int .i64 en, .int .i64 evk, .int .i64 evn, .string evs1, .slice lo ln lc]), isStepd st2 td2, anyW, anyW, anyW, anyW, anyW, anyW, anyW, anyW] ([99, 99, 99, 99, 99, 99, 99, 99, 99, 99, 99, 99, 99, 99].getD · 99) (XR wr.heap.size) wr) (by kernel_rfl) (by kernel_rfl) (by kernel_rfl) (fun f => ⟨(Below.refl _ _).drew, rfl, (fun i h _ => by cases h), ⟨(fun h => by cases h), (fun h => by cases h), (fun h => by cases h), (fun h => by cases h), (fun h => by cases h), (fun h => by cases h), (fun h => by cases h), (fun h => by cases h)⟩⟩) ?_ ?_
        · refine stepsOK5_cons (fun f d u hJ hn hd hno K hK => ?_) (stepsOK5_cons (fun f d u hJ hn hd hno K hK => ?_) (stepsOK5_cons (fun f d u hJ hn hd hno K hK => ?_) (stepsOK5_cons (fun f d u hJ hn hd hno K hK => ?_) (stepsOK5_cons (fun f d u hJ hn hd hno K hK => ?_) (stepsOK5_cons (fun f d u hJ hn hd hno K hK => ?_) (stepsOK5_cons (fun f d u hJ hn hd hno K hK => ?_) (stepsOK5_cons (fun f d u hJ hn hd hno K hK => ?_) (stepsOK5_cons (fun f d u hJ hn hd hno K hK => ?_) (stepsOK5_cons (fun f d u hJ hn hd hno K hK => ?_) (stepsOK5_cons (fun f d u hJ hn hd hno K hK => ?_) (stepsOK5_cons (fun f d u hJ hn hd hno K hK => ?_) (stepsOK5_cons (fun f d u hJ hn hd hno K hK => ?_) (stepsOK5_cons (fun f d u hJ hn hd hno K hK => ?_) stepsOK5_nil)))))))))))))
          · obtain ⟨⟨a0, a1, a2, a3, a4, a5⟩, -⟩ := box6 (show u.heap[sb]? = _ by rw [hJ.up.block sb hsbw]; exact HBX.out)
            refine wanted_on rfl ?_
            simp only [putAll, Act.put, List.setIfInBounds_toArray, List.set_cons_zero, List.set_cons_succ] at hK ⊢
            go_simp
            exact hK _ _ _ rfl (hJ.grow hl (by decide) (Below.refl _ _) rfl ⟨hJ.more.a, hJ.more.b, hJ.more.c, hJ.more.e, hJ.more.g, hJ.more.h, hJ.more.k, hJ.more.l⟩)
          · refine wanted_on rfl ?_
            simp only [putAll, Act.put, List.setIfInBounds_toArray, List.set_cons_zero, List.set_cons_succ] at hK ⊢
            go_simp
            exact hK _ _ _ rfl (hJ.grow hl (by decide) (Below.refl _ _) rfl ⟨hJ.more.a, hJ.more.b, hJ.more.c, hJ.more.e, hJ.more.g, hJ.more.h, hJ.more.k, hJ.more.l⟩)
          · refine wanted_on rfl ?_
            simp only [putAll, Act.put, List.setIfInBounds_toArray, List.set_cons_zero, List.set_cons_succ] at hK ⊢
            go_simp
            exact hK _ _ _ rfl (hJ.grow hl (by decide) (Below.refl _ _) rfl ⟨hJ.more.a, hJ.more.b, hJ.more.c, hJ.more.e, hJ.more.g, hJ.more.h, hJ.more.k, hJ.more.l⟩)
          · have e1 : f 1 = (.slice (some ⟨gv, 0, none⟩) n vc) := hJ.at 1 (hd 1 (by kernel_rfl)) hJ.none
            have e2 : f 2 = (.int .i64 (k : Int)) := hJ.at 2 (hd 2 (by kernel_rfl)) hJ.none
            refine wanted_on rfl ?_
            simp only [putAll, Act.put, List.setIfInBounds_toArray, List.set_cons_zero, List.set_cons_succ, e1, e2] at hK ⊢
            go_simp
            exact hK _ _ _ rfl (hJ.grow hl (by decide) (Below.refl _ _) rfl ⟨hJ.more.a, hJ.more.b, hJ.more.c, hJ.more.e, hJ.more.g, hJ.more.h, hJ.more.k, hJ.more.l⟩)
          · have e3 : f 3 = (.pointer (some ⟨gv, k * 6, none⟩)) := hJ.at 3 (hd 3 (by kernel_rfl)) hJ.none
            obtain ⟨a0, a1, a2, a3, a4, a5⟩ := HEVC.out u hJ.up
            refine wanted_on rfl ?_
            simp only [putAll, Act.put, List.setIfInBounds_toArray, List.set_cons_zero, List.set_cons_succ, e3] at hK ⊢
            go_simp
            exact hK _ _ _ rfl (hJ.grow hl (by decide) (Below.refl _ _) rfl ⟨hJ.more.a, hJ.more.b, hJ.more.c, hJ.more.e, hJ.more.g, hJ.more.h, hJ.more.k, hJ.more.l⟩)
          · have e0 : f 0 = (.agg #[.slice c.fo c.es.length c.fc, .slice c.po c.st.ps.length c.pc, .int .i64 c.st.next, .int .i64 c.st.ser, .int .i64 c.st.fin, .int .i64 c.st.stat]) := hJ.at 0 (hd 0 (by kernel_rfl)) hJ.none
            have e4 : f 4 = (.agg #[.int .i64 ek, .int .i64 en, .int .i64 evk, .int .i64 evn, .string evs1, .slice lo ln lc]) := hJ.at 4 (hd 4 (by kernel_rfl)) hJ.none
            refine wanted_on rfl ?_
            simp only [putAll, Act.put, List.setIfInBounds_toArray, List.set_cons_zero, List.set_cons_succ, e0, e4] at hK ⊢
            go_simp
            refine (HSTEP.out u hJ.up).mono ?_
            rintro x u1 ⟨⟨s5, t5, p5, q5, rfl, o5, w5⟩, hb⟩
            exact hK _ _ _ rfl (hJ.grow hl (by decide) hb ⟨s5, t5, p5, q5, rfl, o5, w5⟩ ⟨(fun h9 => by have h8 : d 6 = true := h9; rw [hno 6 (by kernel_rfl)] at h8; cases h8), (fun h9 => by have h8 : d 7 = true := h9; rw [hno 7 (by kernel_rfl)] at h8; cases h8), (fun h9 => by have h8 : d 8 = true := h9; rw [hno 8 (by kernel_rfl)] at h8; cases h8), (fun h9 => by have h8 : d 9 = true := h9; rw [hno 9 (by kernel_rfl)] at h8; cases h8), (fun h9 => by have h8 : d 12 = true := h9; rw [hno 12 (by kernel_rfl)] at h8; cases h8), (fun h9 => by have h8 : d 13 = true := h9; rw [hno 13 (by kernel_rfl)] at h8; cases h8), (fun h9 => by obtain ⟨g, h1, h2, h3, h4⟩ := hJ.more.k h9; exact ⟨g, h1, h2, (fun h11 => by rw [hb.block g (Array.getElem?_eq_some_iff.1 (h3 h11)).1]; exact h3 h11), (fun h11 => by have h8 : d 11 = true := h11; rw [hno 11 (by kernel_rfl)] at h8; cases h8)⟩), hJ.more.l⟩)
          · obtain ⟨s5, t5, p5, q5, e5, o5, w5⟩ := hJ.at 5 (hd 5 (by kernel_rfl)) hJ.none
            have P5 := Hid.mk' (And.intro p5 q5)
            clear p5 q5
            refine wanted_on rfl ?_
            simp only [putAll, Act.put, List.setIfInBounds_toArray, List.set_cons_zero, List.set_cons_succ, e5] at hK ⊢
            go_simp
            exact hK _ _ _ rfl (hJ.grow hl (by decide) (Below.refl _ _) trivial ⟨(fun _ => e5.symm), hJ.more.b, hJ.more.c, hJ.more.e, hJ.more.g, hJ.more.h, hJ.more.k, hJ.more.l⟩)
          · obtain ⟨s5, t5, p5, q5, e5, o5, w5⟩ := hJ.at 5 (hd 5 (by kernel_rfl)) hJ.none
            have P5 := Hid.mk' (And.intro p5 q5)
            clear p5 q5
            have e6 : f 6 = .tuple #[So.val s5, To.val t5, .int .i64 0] := (hJ.more.a (hd 6 (by kernel_rfl))).trans e5
            refine wanted_on rfl ?_
            simp only [putAll, Act.put, List.setIfInBounds_toArray, List.set_cons_zero, List.set_cons_succ, e6, e5] at hK ⊢
            go_simp
            exact hK _ (So.val s5) _ rfl (hJ.grow hl (by decide) (Below.refl _ _) trivial ⟨hJ.more.a, (fun _ => by show So.val s5 = tupAt (f 5) 0; rw [e5]; rfl), hJ.more.c, hJ.more.e, hJ.more.g, hJ.more.h, (fun h9 => by obtain ⟨g, h1, h2, h3, h4⟩ := hJ.more.k h9; exact ⟨g, h1, h2, h3, (fun h11 => by have h8 : d 11 = true := h11; rw [hno 11 (by kernel_rfl)] at h8; cases h8)⟩), hJ.more.l⟩)
          · obtain ⟨s5, t5, p5, q5, e5, o5, w5⟩ := hJ.at 5 (hd 5 (by kernel_rfl)) hJ.none
            have P5 := Hid.mk' (And.intro p5 q5)
            clear p5 q5
            have e6 : f 6 = .tuple #[So.val s5, To.val t5, .int .i64 0] := (hJ.more.a (hd 6 (by kernel_rfl))).trans e5
            refine wanted_on rfl ?_
            simp only [putAll, Act.put, List.setIfInBounds_toArray, List.set_cons_zero, List.set_cons_succ, e6, e5] at hK ⊢
            go_simp
            exact hK _ (To.val t5) _ rfl (hJ.grow hl (by decide) (Below.refl _ _) trivial ⟨hJ.more.a, hJ.more.b, (fun _ => by show To.val t5 = tupAt (f 5) 1; rw [e5]; rfl), hJ.more.e, (fun h9 => by have h8 : d 12 = true := h9; rw [hno 12 (by kernel_rfl)] at h8; cases h8), hJ.more.h, hJ.more.k, hJ.more.l⟩)
          · obtain ⟨s5, t5, p5, q5, e5, o5, w5⟩ := hJ.at 5 (hd 5 (by kernel_rfl)) hJ.none
            have P5 := Hid.mk' (And.intro p5 q5)
            clear p5 q5
            have e6 : f 6 = .tuple #[So.val s5, To.val t5, .int .i64 0] := (hJ.more.a (hd 6 (by kernel_rfl))).trans e5
            refine wanted_on rfl ?_
            simp only [putAll, Act.put, List.setIfInBounds_toArray, List.set_cons_zero, List.set_cons_succ, e6, e5] at hK ⊢
            go_simp
            exact hK _ (.int .i64 0) _ rfl (hJ.grow hl (by decide) (Below.refl _ _) trivial ⟨hJ.more.a, hJ.more.b, hJ.more.c, (fun _ => by show Value.int .i64 0 = tupAt (f 5) 2; rw [e5]; rfl), hJ.more.g, (fun h9 => by have h8 : d 13 = true := h9; rw [hno 13 (by kernel_rfl)] at h8; cases h8), hJ.more.k, hJ.more.l⟩)
          · refine wanted_on rfl ?_
            simp only [putAll, Act.put, List.setIfInBounds_toArray, List.set_cons_zero, List.set_cons_succ] at hK ⊢
            go_simp
            have hb : Below u.heap.size u (u.alloc (.cells #[.slice none 0 0, .slice none 0 0, .int .i64 0, .int .i64 0, .int .i64 0, .int .i64 0] 26)) := (Below.refl _ _).alloc (Nat.le_refl _) _
            exact hK _ _ _ rfl (hJ.grow hl (by decide) hb trivial ⟨hJ.more.a, hJ.more.b, hJ.more.c, hJ.more.e, hJ.more.g, hJ.more.h, (fun _ => ⟨u.heap.size, rfl, hJ.up.size, (fun _ => box_stays (Below.refl _ _)), (fun h9 => by have h8 : d 11 = true := h9; rw [hno 11 (by kernel_rfl)] at h8; cases h8)⟩), (fun _ => rfl)⟩)
          · obtain ⟨s5, t5, p5, q5, e5, o5, w5⟩ := hJ.at 5 (hd 5 (by kernel_rfl)) hJ.none
            have P5 := Hid.mk' (And.intro p5 q5)
            clear p5 q5
            have e7 : f 7 = So.val s5 := by rw [hJ.more.b (hd 7 (by kernel_rfl)), e5]; rfl
            unfold So.val at e7
            obtain ⟨g10, e10, l10, z10, -⟩ := hJ.more.k (hd 10 (by kernel_rfl))
            have hbx := z10 hn
            obtain ⟨⟨a0, a1, a2, a3, a4, a5⟩, ⟨b0, b1, b2, b3, b4, b5⟩⟩ := box6 hbx
            refine wanted_on rfl ?_
            simp only [putAll, Act.put, List.setIfInBounds_toArray, List.set_cons_zero, List.set_cons_succ, e7, e5, e10] at hK ⊢
            go_simp
            obtain ⟨q1, q2, q3⟩ := six_set hbx (.slice s5.fo s5.es.length s5.fc) (.slice s5.po s5.st.ps.length s5.pc) (.int .i64 s5.st.next) (.int .i64 s5.st.ser) (.int .i64 s5.st.fin) (.int .i64 s5.st.stat)
            have e5c := e5
            have e7c : aggOf (f 7) = #[.slice s5.fo s5.es.length s5.fc, .slice s5.po s5.st.ps.length s5.pc, .int .i64 s5.st.next, .int .i64 s5.st.ser, .int .i64 s5.st.fin, .int .i64 s5.st.stat] := by rw [e7]; rfl
            have q1d := q1
            rw [← e7c] at q1d
            refine hK _ (f 11) _ rfl (hJ.step (by decide) (q3 wr.heap.size wr hJ.up l10) (fun j h2 h3 h4 h5 h6 => ?_) trivial ⟨hJ.more.a, hJ.more.b, hJ.more.c, hJ.more.e, hJ.more.g, hJ.more.h, (fun _ => ⟨g10, e10, l10, (fun h => by cases h), (fun _ => q1d)⟩), (fun _ => hd 10 (by kernel_rfl))⟩)
            match j, h6 with
            | 0, h6 => have h7 : f 0 = .agg #[.slice c.fo c.es.length c.fc, .slice c.po c.st.ps.length c.pc, .int .i64 c.st.next, .int .i64 c.st.ser, .int .i64 c.st.fin, .int .i64 c.st.stat] := h6; exact h7
            | 1, h6 => have h7 : f 1 = .slice (some ⟨gv, 0, none⟩) n vc := h6; exact h7
            | 2, h6 => have h7 : f 2 = .int .i64 (k : Int) := h6; exact h7
            | 3, h6 => have h7 : f 3 = .pointer (some ⟨gv, k * 6, none⟩) := h6; exact h7
            | 4, h6 => have h7 : f 4 = (.agg #[.int .i64 ek, .int .i64 en, .int .i64 evk, .int .i64 evn, .string evs1, .slice lo ln lc]) := h6; exact h7
            | 5, _ => exact ⟨s5, t5, P5.out.1, P5.out.2, e5c, o5.keeps (Keeps.other hbx q2) (by decide) (by decide) (by decide), Keeps.row w5 (Keeps.other hbx q2) (by decide)⟩
            | 6, _ => exact trivial
            | 7, _ => exact trivial
            | 8, _ => exact trivial
            | 9, _ => exact trivial
            | 10, _ => exact trivial
            | 11, _ => exact trivial
            | 12, _ => exact trivial
            | 13, _ => exact trivial
            | j + 14, _ => exact trivial
          · obtain ⟨s5, t5, p5, q5, e5, o5, w5⟩ := hJ.at 5 (hd 5 (by kernel_rfl)) hJ.none
            have P5 := Hid.mk' (And.intro p5 q5)
            clear p5 q5
            have e8 : f 8 = To.val t5 := by rw [hJ.more.c (hd 8 (by kernel_rfl)), e5]; rfl
            refine wanted_on rfl ?_
            simp only [putAll, Act.put, List.setIfInBounds_toArray, List.set_cons_zero, List.set_cons_succ, e8, e5] at hK ⊢
            go_simp
            exact hK _ _ _ rfl (hJ.grow hl (by decide) (Below.refl _ _) trivial ⟨hJ.more.a, hJ.more.b, hJ.more.c, hJ.more.e, (fun _ => e8.symm), hJ.more.h, hJ.more.k, hJ.more.l⟩)
          · obtain ⟨s5, t5, p5, q5, e5, o5, w5⟩ := hJ.at 5 (hd 5 (by kernel_rfl)) hJ.none
            have P5 := Hid.mk' (And.intro p5 q5)
            clear p5 q5
            have e9 : f 9 = .int .i64 0 := by rw [hJ.more.e (hd 9 (by kernel_rfl)), e5]; rfl
            refine wanted_on rfl ?_
            simp only [putAll, Act.put, List.setIfInBounds_toArray, List.set_cons_zero, List.set_cons_succ, e9, e5] at hK ⊢
            go_simp
            exact hK _ _ _ rfl (hJ.grow hl (by decide) (Below.refl _ _) trivial ⟨hJ.more.a, hJ.more.b, hJ.more.c, hJ.more.e, hJ.more.g, (fun _ => e9.symm), hJ.more.k, hJ.more.l⟩)
        · intro f d u hJ hall
          obtain ⟨s5, t5, p5, q5, e5, o5, w5⟩ := hJ.at 5 (hall 5 (by decide)) hJ.none
          obtain ⟨g10, e10, l10, -, z10⟩ := hJ.more.k (hall 10 (by decide))
          have hbg := z10 (hall 11 (by decide))
          have e12 : f 12 = To.val t5 := by rw [hJ.more.g (hall 12 (by decide)), hJ.more.c (hall 8 (by decide)), e5]; rfl
          have e13 : f 13 = .int .i64 0 := by rw [hJ.more.h (hall 13 (by decide)), hJ.more.e (hall 9 (by decide)), e5]; rfl
          rw [hJ.more.b (hall 7 (by decide)), e5] at hbg
          simp only [putAll, Act.put, List.setIfInBounds_toArray, List.set_cons_zero, List.set_cons_succ, e10, e12, e13]
          have HUP := Hid.mk' hJ.up
          have hbg2 : u.heap[g10]? = some (.cells #[.slice s5.fo s5.es.length s5.fc, .slice s5.po s5.st.ps.length s5.pc, .int .i64 s5.st.next, .int .i64 s5.st.ser, .int .i64 s5.st.fin, .int .i64 s5.st.stat] 26 (0, 0)) := hbg
          have HP5 : Hid (s5.st = st2 ∧ t5.td = td2) := ⟨p5, q5⟩
          have hbxu : u.heap[sb]? = some (.cells #[.slice c.fo c.es.length c.fc, .slice c.po c.st.ps.length c.pc, .int .i64 c.st.next, .int .i64 c.st.ser, .int .i64 c.st.fin, .int .i64 c.st.stat] 26 (0, 0)) := by rw [hJ.up.block sb hsbw]; exact HBX.out
          obtain ⟨⟨a0, a1, a2, a3, a4, a5⟩, -⟩ := box6 hbg2
          obtain ⟨⟨b0, b1, b2, b3, b4, b5⟩, ⟨z0, z1, z2, z3, z4, z5⟩⟩ := box6 hbxu
          obtain ⟨q1, q2, q3⟩ := six_set hbxu (.slice s5.fo s5.es.length s5.fc) (.slice s5.po s5.st.ps.length s5.pc) (.int .i64 s5.st.next) (.int .i64 s5.st.ser) (.int .i64 s5.st.fin) (.int .i64 s5.st.stat)
          have hsz6 : ((((((u.setCell ⟨sb, 0, none⟩ (.slice s5.fo s5.es.length s5.fc)).setCell ⟨sb, 1, none⟩ (.slice s5.po s5.st.ps.length s5.pc)).setCell ⟨sb, 2, none⟩ (.int .i64 s5.st.next)).setCell ⟨sb, 3, none⟩ (.int .i64 s5.st.ser)).setCell ⟨sb, 4, none⟩ (.int .i64 s5.st.fin)).setCell ⟨sb, 5, none⟩ (.int .i64 s5.st.stat)).heap.size = u.heap.size := by simp [World.setCell]
          have hplu := HPL.out.below hJ.up
          have hpl2 := hplu.box hbxu q2 (.inl (Nat.le_refl _)) (q3 _ _ hplu.up HSB.out)
          have hso2 := o5.keeps (Keeps.other hbxu q2) (by decide) (by decide) (by decide)
          have hto2 : TOwn _ t5 := Keeps.row w5 (Keeps.other hbxu q2) (by decide)
          have hal : Below ((((((u.setCell ⟨sb, 0, none⟩ (.slice s5.fo s5.es.length s5.fc)).setCell ⟨sb, 1, none⟩ (.slice s5.po s5.st.ps.length s5.pc)).setCell ⟨sb, 2, none⟩ (.int .i64 s5.st.next)).setCell ⟨sb, 3, none⟩ (.int .i64 s5.st.ser)).setCell ⟨sb, 4, none⟩ (.int .i64 s5.st.fin)).setCell ⟨sb, 5, none⟩ (.int .i64 s5.st.stat)).heap.size ((((((u.setCell ⟨sb, 0, none⟩ (.slice s5.fo s5.es.length s5.fc)).setCell ⟨sb, 1, none⟩ (.slice s5.po s5.st.ps.length s5.pc)).setCell ⟨sb, 2, none⟩ (.int .i64 s5.st.next)).setCell ⟨sb, 3, none⟩ (.int .i64 s5.st.ser)).setCell ⟨sb, 4, none⟩ (.int .i64 s5.st.fin)).setCell ⟨sb, 5, none⟩ (.int .i64 s5.st.stat)) (((((((u.setCell ⟨sb, 0, none⟩ (.slice s5.fo s5.es.length s5.fc)).setCell ⟨sb, 1, none⟩ (.slice s5.po s5.st.ps.length s5.pc)).setCell ⟨sb, 2, none⟩ (.int .i64 s5.st.next)).setCell ⟨sb, 3, none⟩ (.int .i64 s5.st.ser)).setCell ⟨sb, 4, none⟩ (.int .i64 s5.st.fin)).setCell ⟨sb, 5, none⟩ (.int .i64 s5.st.stat)).alloc (.cells #[.slice s5.fo s5.es.length s5.fc, .slice s5.po s5.st.ps.length s5.pc, .int .i64 s5.st.next, .int .i64 s5.st.ser, .int .i64 s5.st.fin, .int .i64 s5.st.stat] 26)) := (Below.refl _ _).alloc (Nat.le_refl _) _
          have HPL3 := Hid.mk' (hpl2.below hal)
          have HSO3 : Hid (SOwn (((((((u.setCell ⟨sb, 0, none⟩ (.slice s5.fo s5.es.length s5.fc)).setCell ⟨sb, 1, none⟩ (.slice s5.po s5.st.ps.length s5.pc)).setCell ⟨sb, 2, none⟩ (.int .i64 s5.st.next)).setCell ⟨sb, 3, none⟩ (.int .i64 s5.st.ser)).setCell ⟨sb, 4, none⟩ (.int .i64 s5.st.fin)).setCell ⟨sb, 5, none⟩ (.int .i64 s5.st.stat)).alloc (.cells #[.slice s5.fo s5.es.length s5.fc, .slice s5.po s5.st.ps.length s5.pc, .int .i64 s5.st.next, .int .i64 s5.st.ser, .int .i64 s5.st.fin, .int .i64 s5.st.stat] 26)) s5) := hso2.keeps (Keeps.below (t0 := 26) hal) (by decide) (by decide) (by decide)
          have HTO3 : Hid (TOwn (((((((u.setCell ⟨sb, 0, none⟩ (.slice s5.fo s5.es.length s5.fc)).setCell ⟨sb, 1, none⟩ (.slice s5.po s5.st.ps.length s5.pc)).setCell ⟨sb, 2, none⟩ (.int .i64 s5.st.next)).setCell ⟨sb, 3, none⟩ (.int .i64 s5.st.ser)).setCell ⟨sb, 4, none⟩ (.int .i64 s5.st.fin)).setCell ⟨sb, 5, none⟩ (.int .i64 s5.st.stat)).alloc (.cells #[.slice s5.fo s5.es.length s5.fc, .slice s5.po s5.st.ps.length s5.pc, .int .i64 s5.st.next, .int .i64 s5.st.ser, .int .i64 s5.st.fin, .int .i64 s5.st.stat] 26)) t5) := row_below hto2 hal
          have HBX3 : Hid ((((((((u.setCell ⟨sb, 0, none⟩ (.slice s5.fo s5.es.length s5.fc)).setCell ⟨sb, 1, none⟩ (.slice s5.po s5.st.ps.length s5.pc)).setCell ⟨sb, 2, none⟩ (.int .i64 s5.st.next)).setCell ⟨sb, 3, none⟩ (.int .i64 s5.st.ser)).setCell ⟨sb, 4, none⟩ (.int .i64 s5.st.fin)).setCell ⟨sb, 5, none⟩ (.int .i64 s5.st.stat)).alloc (.cells #[.slice s5.fo s5.es.length s5.fc, .slice s5.po s5.st.ps.length s5.pc, .int .i64 s5.st.next, .int .i64 s5.st.ser, .int .i64 s5.st.fin, .int .i64 s5.st.stat] 26)).heap[sb]? = some (.cells #[.slice s5.fo s5.es.length s5.fc, .slice s5.po s5.st.ps.length s5.pc, .int .i64 s5.st.next, .int .i64 s5.st.ser, .int .i64 s5.st.fin, .int .i64 s5.st.stat] 26 (0, 0))) := by
            show _ = _
            rw [hal.block sb (Array.getElem?_eq_some_iff.1 q1).1]; exact q1
          have HLIT3 : Hid ((((((((u.setCell ⟨sb, 0, none⟩ (.slice s5.fo s5.es.length s5.fc)).setCell ⟨sb, 1, none⟩ (.slice s5.po s5.st.ps.length s5.pc)).setCell ⟨sb, 2, none⟩ (.int .i64 s5.st.next)).setCell ⟨sb, 3, none⟩ (.int .i64 s5.st.ser)).setCell ⟨sb, 4, none⟩ (.int .i64 s5.st.fin)).setCell ⟨sb, 5, none⟩ (.int .i64 s5.st.stat)).alloc (.cells #[.slice s5.fo s5.es.length s5.fc, .slice s5.po s5.st.ps.length s5.pc, .int .i64 s5.st.next, .int .i64 s5.st.ser, .int .i64 s5.st.fin, .int .i64 s5.st.stat] 26)).ownsRow (sb + 1) 26 6 (.slice (some ⟨u.heap.size, 0, none⟩) 1 1) 1 (So.cells s5)) := by
            rw [← hsz6]
            exact World.ownsRow_lit (base := sb + 1) ((((((u.setCell ⟨sb, 0, none⟩ (.slice s5.fo s5.es.length s5.fc)).setCell ⟨sb, 1, none⟩ (.slice s5.po s5.st.ps.length s5.pc)).setCell ⟨sb, 2, none⟩ (.int .i64 s5.st.next)).setCell ⟨sb, 3, none⟩ (.int .i64 s5.st.ser)).setCell ⟨sb, 4, none⟩ (.int .i64 s5.st.fin)).setCell ⟨sb, 5, none⟩ (.int .i64 s5.st.stat)) #[.slice s5.fo s5.es.length s5.fc, .slice s5.po s5.st.ps.length s5.pc, .int .i64 s5.st.next, .int .i64 s5.st.ser, .int .i64 s5.st.fin, .int .i64 s5.st.stat] 1 (by rw [hsz6]; have := hJ.up.size; omega) (by decide) rfl
          have HSZ3 : Hid (sb + 1 ≤ (((((((u.setCell ⟨sb, 0, none⟩ (.slice s5.fo s5.es.length s5.fc)).setCell ⟨sb, 1, none⟩ (.slice s5.po s5.st.ps.length s5.pc)).setCell ⟨sb, 2, none⟩ (.int .i64 s5.st.next)).setCell ⟨sb, 3, none⟩ (.int .i64 s5.st.ser)).setCell ⟨sb, 4, none⟩ (.int .i64 s5.st.fin)).setCell ⟨sb, 5, none⟩ (.int .i64 s5.st.stat)).alloc (.cells #[.slice s5.fo s5.es.length s5.fc, .slice s5.po s5.st.ps.length s5.pc, .int .i64 s5.st.next, .int .i64 s5.st.ser, .int .i64 s5.st.fin, .int .i64 s5.st.stat] 26)).heap.size) := by
            show sb + 1 ≤ _
            have h1 := hal.size; rw [hsz6] at h1; have h2 := hJ.up.size; omega
          have HFZ : Hid (s5.es.length = 0 → s5.st.fin ≠ 0) := fun hz h0 => by
            have h1 := HOK2.out.u.ne (by rw [← p5]; exact h0)
            have h2 := o5.fr.len
            rw [hz, List.length_reverse, p5] at h2
            exact h1 (List.eq_nil_of_length_eq_zero h2.symm)
          clear hJ hall hl e5 e10 e12 e13 o5 w5 z10 hbg hbg2 p5 q5 hbxu q1 q2 q3 hsz6 hplu hpl2 hso2 hto2 hal
          by_cases hz : s5.es.length = 0
          · have hzb : ((s5.es.length : Int) == 0) = true := by simp [hz]
            have hff := HFZ.out hz
            have hfb2 : (s5.st.fin == 0) = false := by simpa using hff
            clear hz hff
            simp only [To.val]
            go_wp2_with (at_builtin; first
              | (have h3x := HPL3; clear h3x; refine gappL rfl _ _ So.len Try.infoSt rfl (by decide) Try.underlying46 rfl rfl rfl HPL3.out.srow HLIT3.out s5.one HSZ3.out (by have := HLN.out.1; omega) (by decide) ?_; intro v2 u4 hr hg hb; have HPL4 := Hid.mk' (HPL3.out.appS hg hr HSO3.out HSB.out); have HK4 : Hid (Keeps 26 _ u4) := Keeps.grown hg (row_typed HPL3.out.srow); have HBX4 : Hid (u4.heap[sb]? = some (.cells #[.slice s5.fo s5.es.length s5.fc, .slice s5.po s5.st.ps.length s5.pc, .int .i64 s5.st.next, .int .i64 s5.st.ser, .int .i64 s5.st.fin, .int .i64 s5.st.stat] 26 (0, 0))) := box_grown hg HBX3.out (fun q hq => (HPL3.out.srow.lt q hq).1); have HSO4 := Hid.mk' (HSO3.out.keeps HK4.out (by decide) (by decide) (by decide)); have HTO4 : Hid (TOwn u4 t5) := Keeps.row HTO3.out HK4.out (by decide); obtain ⟨ao, cap, hv2⟩ := row_slice hr; rw [List.length_append, HLN.out.1] at hv2; subst hv2; have hal4 : Below u4.heap.size u4 (u4.alloc (.cells #[.slice t5.to t5.td.length t5.tc] 37)) := (Below.refl _ _).alloc (Nat.le_refl _) _; have HPL5 := Hid.mk' (HPL4.out.below hal4); have HTR5 := Hid.mk' (row_base HPL5.out.trow HLO.out); have HLIT5 : Hid ((u4.alloc (.cells #[.slice t5.to t5.td.length t5.tc] 37)).ownsRow w.heap.size 37 1 (.slice (some ⟨u4.heap.size, 0, none⟩) 1 1) 1 (To.cells t5)) := World.ownsRow_lit u4 #[.slice t5.to t5.td.length t5.tc] 1 HPL4.out.up.size (by decide) rfl; have HTO5 : Hid (TOwn (u4.alloc (.cells #[.slice t5.to t5.td.length t5.tc] 37)) t5) := row_below HTO4.out hal4; have HSO5 := Hid.mk' (HSO4.out.keeps (Keeps.below (t0 := 26) hal4) (by decide) (by decide) (by decide)); clear HPL3; have HBX5 : Hid ((u4.alloc (.cells #[.slice t5.to t5.td.length t5.tc] 37)).heap[sb]? = some (.cells #[.slice s5.fo s5.es.length s5.fc, .slice s5.po s5.st.ps.length s5.pc, .int .i64 s5.st.next, .int .i64 s5.st.ser, .int .i64 s5.st.fin, .int .i64 s5.st.stat] 26 (0, 0))) := (hal4.block sb (Array.getElem?_eq_some_iff.1 HBX4.out).1).trans HBX4.out; clear hr hg hb hal4)
              | (refine gappL rfl _ _ To.len Try.infoTls rfl (by decide) Try.underlying47 rfl rfl rfl HTR5.out HLIT5.out t5.one HPL5.out.up.size (by have := HLN.out.2; omega) (by decide) ?_; intro v3 u6 hr hg hb; have HPL6 := Hid.mk' (HPL5.out.appT hg hr HTO5.out HLO.out); have HK6 : Hid (Keeps 37 _ u6) := Keeps.grown hg (row_typed HTR5.out); have HBX6 : Hid (u6.heap[sb]? = some (.cells #[.slice s5.fo s5.es.length s5.fc, .slice s5.po s5.st.ps.length s5.pc, .int .i64 s5.st.next, .int .i64 s5.st.ser, .int .i64 s5.st.fin, .int .i64 s5.st.stat] 26 (0, 0))) := HK6.out sb _ _ HBX5.out (by decide); have HSO6 := Hid.mk' (HSO5.out.keeps HK6.out (by decide) (by decide) (by decide)); have HLO6 : Hid (∀ q, v3.ownBlock = some q → w.heap.size ≤ q) := fun q hq => (hr.lt q hq).1; obtain ⟨ao3, cap3, hv3⟩ := row_slice hr; rw [List.length_append, HLN.out.2] at hv3; subst hv3; clear hr hg hb))
            go_roundw
            case rel => exact ⟨k + 1, s5, ss ++ [s5], ts ++ [t5], by omega, by go_num, HPR2.out s5 t5 HP5.out.1 HP5.out.2, HSO6.out, HBX6.out, HPL6.out, HLO6.out, ⟨by rw [List.length_append, HLN.out.1]; rfl, by rw [List.length_append, HLN.out.2]; rfl⟩⟩
            case measure => simp [intOf]; omega
          · have hzb : ((s5.es.length : Int) == 0) = false := beq_eq_false_iff_ne.2 (by omega)
            clear hz
            simp only [To.val]
            go_wp2_with (at_builtin; first
              | (have h3x := HPL3; clear h3x; refine gappL rfl _ _ So.len Try.infoSt rfl (by decide) Try.underlying46 rfl rfl rfl HPL3.out.srow HLIT3.out s5.one HSZ3.out (by have := HLN.out.1; omega) (by decide) ?_; intro v2 u4 hr hg hb; have HPL4 := Hid.mk' (HPL3.out.appS hg hr HSO3.out HSB.out); have HK4 : Hid (Keeps 26 _ u4) := Keeps.grown hg (row_typed HPL3.out.srow); have HBX4 : Hid (u4.heap[sb]? = some (.cells #[.slice s5.fo s5.es.length s5.fc, .slice s5.po s5.st.ps.length s5.pc, .int .i64 s5.st.next, .int .i64 s5.st.ser, .int .i64 s5.st.fin, .int .i64 s5.st.stat] 26 (0, 0))) := box_grown hg HBX3.out (fun q hq => (HPL3.out.srow.lt q hq).1); have HSO4 := Hid.mk' (HSO3.out.keeps HK4.out (by decide) (by decide) (by decide)); have HTO4 : Hid (TOwn u4 t5) := Keeps.row HTO3.out HK4.out (by decide); obtain ⟨ao, cap, hv2⟩ := row_slice hr; rw [List.length_append, HLN.out.1] at hv2; subst hv2; have hal4 : Below u4.heap.size u4 (u4.alloc (.cells #[.slice t5.to t5.td.length t5.tc] 37)) := (Below.refl _ _).alloc (Nat.le_refl _) _; have HPL5 := Hid.mk' (HPL4.out.below hal4); have HTR5 := Hid.mk' (row_base HPL5.out.trow HLO.out); have HLIT5 : Hid ((u4.alloc (.cells #[.slice t5.to t5.td.length t5.tc] 37)).ownsRow w.heap.size 37 1 (.slice (some ⟨u4.heap.size, 0, none⟩) 1 1) 1 (To.cells t5)) := World.ownsRow_lit u4 #[.slice t5.to t5.td.length t5.tc] 1 HPL4.out.up.size (by decide) rfl; have HTO5 : Hid (TOwn (u4.alloc (.cells #[.slice t5.to t5.td.length t5.tc] 37)) t5) := row_below HTO4.out hal4; have HSO5 := Hid.mk' (HSO4.out.keeps (Keeps.below (t0 := 26) hal4) (by decide) (by decide) (by decide)); clear HPL3; have HBX5 : Hid ((u4.alloc (.cells #[.slice t5.to t5.td.length t5.tc] 37)).heap[sb]? = some (.cells #[.slice s5.fo s5.es.length s5.fc, .slice s5.po s5.st.ps.length s5.pc, .int .i64 s5.st.next, .int .i64 s5.st.ser, .int .i64 s5.st.fin, .int .i64 s5.st.stat] 26 (0, 0))) := (hal4.block sb (Array.getElem?_eq_some_iff.1 HBX4.out).1).trans HBX4.out; clear hr hg hb hal4)
              | (refine gappL rfl _ _ To.len Try.infoTls rfl (by decide) Try.underlying47 rfl rfl rfl HTR5.out HLIT5.out t5.one HPL5.out.up.size (by have := HLN.out.2; omega) (by decide) ?_; intro v3 u6 hr hg hb; have HPL6 := Hid.mk' (HPL5.out.appT hg hr HTO5.out HLO.out); have HK6 : Hid (Keeps 37 _ u6) := Keeps.grown hg (row_typed HTR5.out); have HBX6 : Hid (u6.heap[sb]? = some (.cells #[.slice s5.fo s5.es.length s5.fc, .slice s5.po s5.st.ps.length s5.pc, .int .i64 s5.st.next, .int .i64 s5.st.ser, .int .i64 s5.st.fin, .int .i64 s5.st.stat] 26 (0, 0))) := HK6.out sb _ _ HBX5.out (by decide); have HSO6 := Hid.mk' (HSO5.out.keeps HK6.out (by decide) (by decide) (by decide)); have HLO6 : Hid (∀ q, v3.ownBlock = some q → w.heap.size ≤ q) := fun q hq => (hr.lt q hq).1; obtain ⟨ao3, cap3, hv3⟩ := row_slice hr; rw [List.length_append, HLN.out.2] at hv3; subst hv3; clear hr hg hb))
            go_roundw
            case rel => exact ⟨k + 1, s5, ss ++ [s5], ts ++ [t5], by omega, by go_num, HPR2.out s5 t5 HP5.out.1 HP5.out.2, HSO6.out, HBX6.out, HPL6.out, HLO6.out, ⟨by rw [List.length_append, HLN.out.1]; rfl, by rw [List.length_append, HLN.out.2]; rfl⟩⟩
            case measure => simp [intOf]; omega
      · have hfb : (c.st.fin == 0) = false := by simpa using hfin
        have HR := Hid.mk' (HEND.out (trace_end hfin))
        clear hfin
        go_wp2_with fail
        exact bodyPost_ret (v := .tuple #[.slice so6 (k + 1) sc6, .slice so7 k sc7, .bool true]) (by simp [results, Try.results20, go_sem]) rfl (by obtain ⟨S, Al, ss', ts', h1, r1, r2, r3⟩ := HR.out; first | exact ⟨S, Al, ss', ts', by rw [h1], r1, r2, r3⟩ | exact ⟨S, Al, by rw [h1], ss', r1, r2, ts', r3⟩)
    · have hke : n = k := by omega
      subst hke
      have HR := Hid.mk' (HEND.out (by rw [List.drop_of_length_le (by rw [List.length_map, ← HLEN.out]; exact Nat.le_refl _)]; rfl))
      go_wp2_with fail
      exact bodyPost_ret (v := .tuple #[.slice so6 (n + 1) sc6, .slice so7 n sc7, .bool true]) (by simp [results, Try.results20, go_sem]) rfl (by obtain ⟨S, Al, ss', ts', h1, r1, r2, r3⟩ := HR.out; first | exact ⟨S, Al, ss', ts', by rw [h1], r1, r2, r3⟩ | exact ⟨S, Al, by rw [h1], ss', r1, r2, ts', r3⟩)
end Go.Proofs.Ytcnpoldcebdhjaa
